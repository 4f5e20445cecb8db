/- The laws' limits and what counts as the same. The law on what is put in and taken out again. Entries, attributes and modifications that came in as arguments. -/
import Derived.Test.YtpkbgkoocijegaaGreatDoorMo4
import Derived.Test.YtpkbgkoocijegaaGreatDoorEnHO
import Derived.Test.YtpkbgkoocijegaaGreatDoorRuAD
import Derived.Test.YtpkbgkoocijegaaGreatDoorFoldAE
import Derived.Test.YtpkbgkoocijegaaGreatDoorDqE
import Derived.BigQuiet
import Derived.Test.YtpkbgkoocijegaaGreatDoorDqI
import Derived.Sort.LotA
import Derived.Test.YtpkbgkoocijegaaGreatDoorDqG
import Derived.StillTailTactics
import Derived.Test.YtpkbgkoocijegaaGreatDoorDqC
import Derived.Test.YtpkbgkoocijegaaGreatDoorGenB
import Derived.Test.YtpkbgkoocijegaaGreatDoorEnCE
import Derived.Test.YtpkbgkoocijegaaGreatDoorScAD
import Derived.Test.YtpkbgkoocijegaaGreatDoorSnAL
import Derived.Test.YtpkbgkoocijegaaGreatDoorScL
import Derived.Test.YtpkbgkoocijegaaGreatDoorMo1
import Derived.Test.YtpkbgkoocijegaaGreatDoorEnUW
import Derived.Test.YtpkbgkoocijegaaGreatDoorEnQT
import Derived.Test.YtpkbgkoocijegaaGreatDoorDnLd
import Derived.Deep.SlicePairs
import Derived.Lib.SmallJoins
import Derived.OpenShut
namespace Go.Proofs.YtpkbgkoocijegaaGreatDoor
set_option linter.unusedSimpArgs false
set_option linter.unusedVariables false
open Go Go.RowKit Go.Proofs.BerK Go.Proofs.MemK Go.Proofs.UtfK Go.Proofs.RegK

theorem mdEa_one {w : World} {n : List UInt8} {vs : List (List UInt8)} {vv : Value} (ht : TxR w vv vs) (hk : SlOk vv) {t : TypeId} :
    EaAt (w.alloc (.cells #[.string ⟨n.toArray⟩, vv] t)) (.slice (some ⟨w.heap.size, 0, none⟩) 1 1) [(n, vs)] := by
  have hb : Below w.heap.size w (w.alloc (.cells #[.string ⟨n.toArray⟩, vv] t)) := (Below.refl _ w).alloc (Nat.le_refl _) _
  have hx := heap_alloc_new w (.cells #[.string ⟨n.toArray⟩, vv] t)
  obtain ⟨c0, c1⟩ := obj2s hx
  refine ⟨.inr ⟨_, _, _, rfl⟩, some ⟨w.heap.size, 0, none⟩, 1, rfl, fun i hi => ?_⟩
  have : i = 0 := by simp at hi; exact hi
  subst this
  exact ⟨w.heap.size, 0, _, rfl, obj_lt hx, c0, c1, txR_below ht hb, hk⟩
def gEc (dn : List UInt8) (L : List Atr) (v : Value) (w : World) : Prop := ∃ u, v = .agg #[.string ⟨dn.toArray⟩, u] ∧ PaAt w u L
def smG (dx dy : List UInt8) (va vb : Value) (X Y : List Atr) (R : Bool) : Nat → Value → World → Prop
  | 0 => fun v _ => v = .agg #[.string ⟨dx.toArray⟩, va]
  | 1 => gEc dx X
  | 2 => fun v _ => v = .agg #[.string ⟨dy.toArray⟩, vb]
  | 3 => gEc dy Y
  | 4 => fun v _ => v = .bool R
  | _ => fun _ _ => True
theorem smG_mono (dx dy : List UInt8) (va vb : Value) (X Y : List Atr) (R : Bool) : ∀ (j : Nat) (v : Value) (w w' : World), smG dx dy va vb X Y R j v w → Below w.heap.size w w' → smG dx dy va vb X Y R j v w'
  | 0, v, w, w', h, hb => h
  | 1, v, w, w', h, hb => by obtain ⟨u, e, h⟩ := h; exact ⟨u, e, paAt_below h hb⟩
  | 2, v, w, w', h, hb => h
  | 3, v, w, w', h, hb => by obtain ⟨u, e, h⟩ := h; exact ⟨u, e, paAt_below h hb⟩
  | 4, v, w, w', h, hb => h
  | _ + 5, _, _, _, _, _ => trivial
set_option maxHeartbeats 6400000 in
set_option maxRecDepth 100000 in
theorem rsame10_any (A C : List Atr) (dx dy : List UInt8) (va vb : Value) (w : World) (h1 : AtAt w va A) (h2 : AtAt w vb C) (hf : FewG 300 300 A) (hf2 : FewG 300 300 C) :
    Calls Tryz.prog 17 #[.agg #[.string ⟨dx.toArray⟩, va], .agg #[.string ⟨dy.toArray⟩, vb]] w (BB (decide (dx = dy ∧ clA A = clA C)) w) := by
  obtain ⟨W1, hW1⟩ : ∃ W1, (w.alloc (.cells #[.string ⟨dx.toArray⟩, va] 24)).alloc (.cells #[.string ⟨dy.toArray⟩, vb] 24) = W1 := ⟨_, rfl⟩
  obtain ⟨x0, x1, hb1, hz1⟩ := boxes10 hW1
  have HX := Lib.hid (And.intro x0 (And.intro x1 hb1))
  have z0 := obj_lt x0
  have z1 := obj_lt x1
  have HCl := Lib.hid (fun w' (hb : Below w.heap.size w w') => rclean10_any dx A va w' (atAt_below h1 hb) hf)
  have HCl2 := Lib.hid (fun w' (hb : Below w.heap.size w w') => rclean10_any dy C vb w' (atAt_below h2 hb) hf2)
  have g1 := fewG_cl hf
  have g2 := fewG_cl hf2
  have HEq := Lib.hid (fun w' u v (k1 : PaAt w' u (clA A)) (k2 : PaAt w' v (clA C)) => req10_any (clA A) (clA C) dx dy u v w' (eaAt_at (paAt_ea k1)) (eaAt_at (paAt_ea k2)) (by have := g1.1; omega) (by have := g2.1; omega) (fun a ha => by have := (g1.2 a ha).2.1; omega) (fun a ha => by have := (g2.2 a ha).2.1; omega))
  obtain ⟨R, hR⟩ : ∃ R, decide (dx = dy ∧ clA A = clA C) = R := ⟨_, rfl⟩
  rw [hR] at HEq ⊢
  obtain ⟨X, hX⟩ : ∃ X, clA A = X := ⟨_, rfl⟩
  obtain ⟨Y, hY⟩ : ∃ Y, clA C = Y := ⟨_, rfl⟩
  rw [hX] at HCl
  rw [hY] at HCl2
  rw [hX, hY] at HEq
  have HW1 := Lib.hid hW1
  clear x0 x1 hb1 hz1 h1 h2 hf hf2 g1 g2 hR hX hY hW1
  go_enter Tryz.func17, Tryz.ntmps17
  go_wp2_with fail
  try rw [HW1.out]
  have HB := Lib.hid (fun wa (hbw : Below W1.drew.heap.size W1.drew wa) => show (wa.cell? ⟨w.heap.size, 0, none⟩ = some (.string ⟨dx.toArray⟩) ∧ wa.cell? ⟨w.heap.size, 1, none⟩ = some va) ∧ (wa.cell? ⟨w.heap.size + 1, 0, none⟩ = some (.string ⟨dy.toArray⟩) ∧ wa.cell? ⟨w.heap.size + 1, 1, none⟩ = some vb) ∧ Below w.heap.size w wa from by
    have hw := (Below.refl _ W1).drew.trans hbw
    exact ⟨obj2s (obj_below HX.out.1 hw z0), obj2s (obj_below HX.out.2.1 hw z1), HX.out.2.2.trans (hw.mono HX.out.2.2.size)⟩)
  refine wp_region_noPanic ?_
  refine wp_region_held_drew (S := fun _ => True) (by kernel_rfl) trivial (fun _ => ?_)
  refine reg_go (f := 6) (A := fun j => decide (j < 5)) (D := [5, 6, 7, 8, 9]) (G := smG dx dy va vb X Y R) (LIT := #[true, true, true, true, true, false]) (r := 1) (by kernel_rfl) (by kernel_rfl) (fun h => absurd h (by decide +kernel)) (fun h => absurd h (by decide +kernel)) (by kernel_rfl) (fun h => absurd h (by decide +kernel)) (fun h => absurd h (by decide +kernel)) (by kernel_rfl) (fun j v w w' h _ hb => smG_mono _ _ _ _ _ _ _ j v w w' h hb) (fun _ _ _ _ _ h => h) ?op (fun h => absurd h (by decide +kernel)) ?rest
  case op =>
    intro i' hi' hA a wa hbw hsame hdep
    have hlt' : i' < 5 := by simpa using hA
    have hbx := HB.out _ hbw
    rcases (show i' = 0 ∨ i' = 1 ∨ i' = 2 ∨ i' = 3 ∨ i' = 4 by omega) with rfl | rfl | rfl | rfl | rfl
    · have hs : a.eval (.tmp 2) = .pointer (some ⟨w.heap.size, 0, none⟩) := hsame 2 rfl
      have hs' : a.tmps[2]?.getD undef = .pointer (some ⟨w.heap.size, 0, none⟩) := (Array.getD_eq_getD_getElem? ..).symm.trans hs
      obtain ⟨c0, c1⟩ := hbx.1
      refine ⟨rfl, fun K hK => ?_⟩
      simp only [List.getElem_toArray, List.getElem_cons_zero, List.getElem_cons_succ] at hK ⊢
      go_simp
      exact hK _ _ rfl (Below.refl _ _)
    · have hs : a.eval (.tmp 5) = .agg #[.string ⟨dx.toArray⟩, va] := hdep 0 5 (by decide) (by kernel_rfl) rfl
      have hs' : a.tmps[5]?.getD undef = .agg #[.string ⟨dx.toArray⟩, va] := (Array.getD_eq_getD_getElem? ..).symm.trans hs
      refine ⟨rfl, fun K hK => ?_⟩
      simp only [List.getElem_toArray, List.getElem_cons_zero, List.getElem_cons_succ] at hK ⊢
      go_simp
      with_reducible refine (HCl.out _ hbx.2.2).mono ?_
      rintro en w6 ⟨u, rfl, hp, hb6⟩
      go_simp
      exact hK _ _ ⟨_, rfl, hp⟩ hb6
    · have hs : a.eval (.tmp 3) = .pointer (some ⟨w.heap.size + 1, 0, none⟩) := hsame 3 rfl
      have hs' : a.tmps[3]?.getD undef = .pointer (some ⟨w.heap.size + 1, 0, none⟩) := (Array.getD_eq_getD_getElem? ..).symm.trans hs
      obtain ⟨c0, c1⟩ := hbx.2.1
      refine ⟨rfl, fun K hK => ?_⟩
      simp only [List.getElem_toArray, List.getElem_cons_zero, List.getElem_cons_succ] at hK ⊢
      go_simp
      exact hK _ _ rfl (Below.refl _ _)
    · have hs : a.eval (.tmp 7) = .agg #[.string ⟨dy.toArray⟩, vb] := hdep 2 7 (by decide) (by kernel_rfl) rfl
      have hs' : a.tmps[7]?.getD undef = .agg #[.string ⟨dy.toArray⟩, vb] := (Array.getD_eq_getD_getElem? ..).symm.trans hs
      refine ⟨rfl, fun K hK => ?_⟩
      simp only [List.getElem_toArray, List.getElem_cons_zero, List.getElem_cons_succ] at hK ⊢
      go_simp
      with_reducible refine (HCl2.out _ hbx.2.2).mono ?_
      rintro en w6 ⟨u, rfl, hp, hb6⟩
      go_simp
      exact hK _ _ ⟨_, rfl, hp⟩ hb6
    · obtain ⟨u, e1, p1⟩ := hdep 1 6 (by decide) (by kernel_rfl) rfl
      obtain ⟨v, e2, p2⟩ := hdep 3 8 (by decide) (by kernel_rfl) rfl
      have hs : a.eval (.tmp 6) = .agg #[.string ⟨dx.toArray⟩, u] := e1
      have hs' : a.tmps[6]?.getD undef = .agg #[.string ⟨dx.toArray⟩, u] := (Array.getD_eq_getD_getElem? ..).symm.trans hs
      have ht : a.eval (.tmp 8) = .agg #[.string ⟨dy.toArray⟩, v] := e2
      have ht' : a.tmps[8]?.getD undef = .agg #[.string ⟨dy.toArray⟩, v] := (Array.getD_eq_getD_getElem? ..).symm.trans ht
      have HE := Lib.hid (HEq.out wa u v p1 p2)
      clear p1 p2 e1 e2
      refine ⟨rfl, fun K hK => ?_⟩
      simp only [List.getElem_toArray, List.getElem_cons_zero, List.getElem_cons_succ] at hK ⊢
      go_simp
      with_reducible refine HE.out.mono ?_
      rintro en w6 ⟨rfl, hb6⟩
      go_simp
      exact hK _ _ rfl hb6
  case rest =>
    intro fuel a wa hbw ha hG
    have ge : a.tmps.getD 9 undef = .bool R := hG 4 9 (by decide) rfl rfl
    obtain ⟨x5, hx5⟩ : ∃ x, a.tmps.getD 5 undef = x := ⟨_, rfl⟩
    obtain ⟨x6, hx6⟩ : ∃ x, a.tmps.getD 6 undef = x := ⟨_, rfl⟩
    obtain ⟨x7, hx7⟩ : ∃ x, a.tmps.getD 7 undef = x := ⟨_, rfl⟩
    obtain ⟨x8, hx8⟩ : ∃ x, a.tmps.getD 8 undef = x := ⟨_, rfl⟩
    simp only [List.foldl_cons, List.foldl_nil, ge, hx5, hx6, hx7, hx8, Act.put, List.setIfInBounds_toArray, List.set_cons_zero, List.set_cons_succ] at ha
    clear ge hx5 hx6 hx7 hx8 hG
    subst ha
    refine wpAnyH_ready (rs := [5]) (by kernel_rfl) (by simp) ?_
    refine AllReadyH.cons (o := _) rfl (fun KR hKR => ?c5) AllReadyH.nil
    go_simp
    refine hKR.out _ _ trivial (fun _ => ?_)
    clear hKR KR
    try simp only [List.getElem_toArray, List.getElem_cons_zero, List.getElem_cons_succ, Act.put, List.setIfInBounds_toArray, List.set_cons_zero, List.set_cons_succ]
    refine wpAnyH_done (by kernel_rfl) ?_ _
    refine NoPanic.normal ?_
    have HQ := Lib.hid (HB.out _ hbw).2.2
    go_wp2
    go_ret
    exact bB_mk rfl HQ.out
end Go.Proofs.YtpkbgkoocijegaaGreatDoor
namespace Go.Proofs.YtpkbgkoocijegaaGreatDoor
set_option linter.unusedSimpArgs false
set_option linter.unusedVariables false
open Go Go.RowKit Go.Proofs.BerK Go.Proofs.MemK Go.Proofs.UtfK

theorem mdApp_one {A : List Atr} {m : Md} : mdApp A [m] = if (mdOne (clA A) m).2 = 0 then ((mdOne (clA A) m).1, 0) else ([], (mdOne (clA A) m).2) := by
  unfold mdApp; rw [if_neg (by simp)]; rfl
theorem fewA_g {dn : List UInt8} {A : List Atr} (h : FewA dn A) : FewG 12 8 A := by
  refine ⟨h.2.1, fun a ha => ?_⟩
  obtain ⟨i, hi, rfl⟩ := List.mem_iff_getElem.1 ha
  obtain ⟨h1, h2, h3⟩ := h.2.2 i hi
  refine ⟨by omega, h2, fun s hs => ?_⟩
  obtain ⟨j, hj, rfl⟩ := List.mem_iff_getElem.1 hs
  have := h3 j hj
  omega
theorem mdApp_back {A : List Atr} {a : Atr} (hf : FewG 12 8 A) (hn : a.1.length ≤ 80) (hV : a.2.length ≤ 8) (hs : ∀ s ∈ a.2, s.length ≤ 300) (h : (mdApp A [(0, a)]).2 = 0) : ∃ X, mdApp A [(0, a)] = (X, 0) ∧ Cln 84 104 X ∧ mdApp X [(1, a)] = (clA A, 0) := by
  rw [mdApp_one] at h ⊢
  by_cases h0 : (mdOne (clA A) (0, a)).2 = 0
  · have hc := cln_one (m := 12) (k := 96) (md := (0, a)) (cln_mono (cln_cl hf) (by omega) (by omega)) (by show a.1.length ≤ 100000; omega) hV (fun s hs2 => by have := hs s hs2; omega) h0
    have e : mdOne (clA A) (0, a) = ((mdOne (clA A) (0, a)).1, 0) := Prod.ext rfl h0
    have hb := md_back (cl_clM A) e
    refine ⟨(mdOne (clA A) (0, a)).1, by rw [if_pos h0], cln_mono hc (by omega) (by omega), ?_⟩
    rw [mdApp_one, hc.cl, hb]
    rfl
  · rw [if_neg h0] at h
    exact absurd h h0
theorem mdsFew_one {m : Md} (h1 : m.2.1.length ≤ 80) (h2 : m.2.2.length ≤ 8) (h3 : ∀ s ∈ m.2.2, s.length ≤ 300) : MdsFew [m] := fun x hx => by
  obtain rfl : x = m := by simpa using hx
  exact ⟨h1, h2, h3⟩
theorem boxesV {w W1 : World} {d e i j : Value} (h : (w.alloc (.cells #[d, e] 24)).alloc (.cells #[i, j] 45) = W1) :
    W1.heap[w.heap.size]? = some (.cells #[d, e] 24 (0, 0)) ∧ W1.heap[w.heap.size + 1]? = some (.cells #[i, j] 45 (0, 0)) ∧ Below w.heap.size w W1 ∧ W1.heap.size = w.heap.size + 2 := by
  obtain ⟨W0, hW0⟩ : ∃ W, w.alloc (.cells #[d, e] 24) = W := ⟨_, rfl⟩
  rw [hW0] at h
  have s0 : W0.heap.size = w.heap.size + 1 := by rw [← hW0]; simp
  have y0 : W0.heap[w.heap.size]? = some (.cells #[d, e] 24 (0, 0)) := by rw [← hW0]; exact heap_alloc_new w _
  have b0 : Below w.heap.size w W0 := by rw [← hW0]; exact (Below.refl _ w).alloc (Nat.le_refl _) _
  exact ⟨by rw [← h]; exact obj_alloc y0 _, by rw [← h, ← s0]; exact heap_alloc_new W0 _, by rw [← h]; exact b0.alloc b0.size _, by rw [← h]; simp [s0]⟩
set_option maxHeartbeats 25600000 in
set_option maxRecDepth 100000 in
theorem moback_any (dn : List UInt8) (A : List Atr) (n : List UInt8) (vs : List (List UInt8)) (av vv : Value) (w : World) (hA : EaAt w av A) (hV : TxR w vv vs) (hk : SlOk vv) (he : ErrOk w) :
    Calls Tryz.prog 4 #[.agg #[.string ⟨dn.toArray⟩, av], .agg #[.string ⟨n.toArray⟩, vv]] w (BB true w) := by
  have HAw := Lib.hid (fun w' (hb : Below w.heap.size w w') => moawake_any w' (errOk_below he hb))
  have HPl := Lib.hid (fun w' => plain_any w')
  have HFe := Lib.hid (fun w' (hb : Below w.heap.size w w') => few9_any dn A av w' (eaAt_at (eaAt_below hA hb)))
  have HFa := Lib.hid (fun w' t (hb : Below w.heap.size w w') => few9_any [] [(n, vs)] _ _ (eaAt_at (mdEa_one (n := n) (t := t) (txR_below hV hb) hk)))
  obtain ⟨a, c, rfl⟩ := eaAt_slice hA
  obtain ⟨va, vc, rfl, hVc⟩ := hV
  have hV : TxR w (.slice va vs.length vc) vs := ⟨va, vc, rfl, hVc⟩
  have HAp := Lib.hid (fun (o : Int) (X : List Atr) sb xv w' t (hb : Below w.heap.size w w') (hX : EaAt w' xv X) (hf : FewE X) (hc : Cln 84 104 (clA X)) (hsc : ScAt w' sb plT plC) (h1 : n.length ≤ 80) (h2 : vs.length ≤ 8) (h3 : ∀ s ∈ vs, s.length ≤ 300) =>
    have hal := (Below.refl _ w').alloc (Nat.le_refl _) (.cells #[.int .i64 o, .string ⟨n.toArray⟩, .slice va vs.length vc] t)
    moapplyG_any sb X dn [(o, (n, vs))] xv (.slice (some ⟨w'.heap.size, 0, none⟩) 1 1) (w'.alloc (.cells #[.int .i64 o, .string ⟨n.toArray⟩, .slice va vs.length vc] t)) (scAt_below hsc hal) (eaAt_below hX hal) hf hc (mdsAt_one (m := (o, (n, vs))) (txR_below hV hb) hk) (mdsFew_one h1 h2 h3) (.inl (by simp)) (errOk_below he (hb.trans (hal.mono hb.size))))
  have HSm := Lib.hid (fun w' yv (hb : Below w.heap.size w w') (hY : PaAt w' yv (clA A)) (hf : FewG 12 8 A) => rsame10_any (clA A) A dn dn yv (.slice a A.length c) w' (eaAt_at (paAt_ea hY)) (eaAt_at (eaAt_below hA hb)) (fewG_mono (fewG_cl hf) (by omega) (by omega)) (fewG_mono hf (by omega) (by omega)))
  have HS : decide (dn = dn ∧ clA (clA A) = clA A) = true := by rw [cl_clM]; simp
  rw [HS] at HSm
  have HBk := Lib.hid (fun (hf : FewG 12 8 A) (hn : n.length ≤ 80) (hV : vs.length ≤ 8) (hs : ∀ s ∈ vs, s.length ≤ 300) => mdApp_back (A := A) (a := (n, vs)) hf hn hV hs)
  have HEa := Lib.hid (fun w' (hb : Below w.heap.size w w') => eaAt_below hA hb)
  obtain ⟨R, hR⟩ : ∃ R, clA A = R := ⟨_, rfl⟩
  have HR := Lib.hid hR
  obtain ⟨ln, hln⟩ : ∃ k, A.length = k := ⟨_, rfl⟩
  rw [hln] at HFe HSm HEa ⊢
  obtain ⟨vn, hvn⟩ : ∃ k, vs.length = k := ⟨_, rfl⟩
  have HVn := Lib.hid hvn
  rw [hvn] at HFa HAp ⊢
  obtain ⟨W1, hW1⟩ : ∃ W1, (w.alloc (.cells #[.string ⟨dn.toArray⟩, .slice a ln c] 24)).alloc (.cells #[.string ⟨n.toArray⟩, .slice va vn vc] 45) = W1 := ⟨_, rfl⟩
  obtain ⟨x0, x1, hb1, hz1⟩ := boxesV hW1
  have H1 := Lib.hid (And.intro x0 (And.intro x1 hb1))
  have HW1 := Lib.hid hW1
  obtain ⟨k0, k1⟩ := obj2s x0
  clear hA hVc hV hk he HS hR hln hvn hW1 x0 x1 hb1 hz1
  go_enter Tryz.func4, Tryz.ntmps4
  go_wp2_with fail
  rw [HW1.out]
  clear k0 k1
  with_reducible refine (HFe.out _ H1.out.2.2).mono ?_
  rintro en w3 ⟨hfew, hb3⟩
  have H3 := Lib.hid (And.intro (obj_below H1.out.1 hb3 (obj_lt H1.out.1)) (And.intro (obj_below H1.out.2.1 hb3 (obj_lt H1.out.2.1)) (H1.out.2.2.trans (hb3.mono H1.out.2.2.size))))
  clear hb3
  rcases hfew with rfl | ⟨rfl, hfew⟩
  · go_wp2_with fail
    with_reducible refine (HAw.out _ H3.out.2.2).mono ?_
    rintro en w9 ⟨rfl, hb⟩
    have HB9 := Lib.hid (H3.out.2.2.trans (hb.mono H3.out.2.2.size))
    clear hb
    go_wp2
    go_ret
    exact bB_mk rfl HB9.out
  have HFw := Lib.hid (fewA_g hfew)
  clear hfew
  obtain ⟨k0, k1⟩ := obj2s H3.out.2.1
  go_wp2_with fail
  clear k0 k1
  with_reducible refine (HFa.out w3 _ H3.out.2.2).mono ?_
  rintro en w4 ⟨hfew, hb4⟩
  have hb34 : Below w3.heap.size w3 w4 := ((Below.refl _ w3).alloc (Nat.le_refl _) _).trans (hb4.mono (by simp))
  have H4 := Lib.hid (And.intro (obj_below H3.out.1 hb34 (obj_lt H3.out.1)) (And.intro (obj_below H3.out.2.1 hb34 (obj_lt H3.out.2.1)) (H3.out.2.2.trans (hb34.mono H3.out.2.2.size))))
  clear hb4 hb34
  rcases hfew with rfl | ⟨rfl, hfew⟩
  · go_wp2_with fail
    with_reducible refine (HAw.out _ H4.out.2.2).mono ?_
    rintro en w9 ⟨rfl, hb⟩
    have HB9 := Lib.hid (H4.out.2.2.trans (hb.mono H4.out.2.2.size))
    clear hb
    go_wp2
    go_ret
    exact bB_mk rfl HB9.out
  have h3 := hfew.2.2 0 (by simp)
  have h31 : n.length ≤ 80 := h3.1
  have h32 : vs.length ≤ 8 := h3.2.1
  have h33 : ∀ s ∈ vs, s.length ≤ 300 := fun s hs => by obtain ⟨j, hj, rfl⟩ := List.getElem_of_mem hs; exact h3.2.2 j hj
  have HA1 := Lib.hid (fun (o : Int) X sb xv w' t hb hX hf hc hsc => HAp.out o X sb xv w' t hb hX hf hc hsc h31 (by rw [← HVn.out]; exact h32) h33)
  have HBk := Lib.hid (HBk.out HFw.out h31 h32 h33)
  clear hfew h3 h31 h32 h33
  go_wp2_with fail
  with_reducible refine (HPl.out _).mono ?_
  rintro en w5 ⟨sb, rfl, hsc, hb5⟩
  have hb15 := H4.out.2.2.trans (hb5.mono H4.out.2.2.size)
  have y0 := obj_below H4.out.1 hb5 (obj_lt H4.out.1)
  have y1 := obj_below H4.out.2.1 hb5 (obj_lt H4.out.2.1)
  have H5 := Lib.hid (And.intro y0 (And.intro y1 (And.intro hb15 hsc)))
  obtain ⟨k0, k1⟩ := obj2s y0
  obtain ⟨j0, j1⟩ := obj2s y1
  clear hsc hb5 hb15 y0 y1
  go_wp2_with fail
  clear k0 k1 j0 j1
  have HA2 := Lib.hid (fun t => HA1.out 0 A sb (.slice a ln c) w5 t H5.out.2.2.1 (HEa.out _ H5.out.2.2.1) (fewG_e HFw.out (by omega) (by omega)) (cln_mono (cln_cl HFw.out) (by omega) (by omega)) H5.out.2.2.2)
  with_reducible refine (HA2.out _).mono ?_
  rintro en w6 ⟨hp1, hp2, hb6⟩
  have hb56 : Below w5.heap.size w5 w6 := ((Below.refl _ w5).alloc (Nat.le_refl _) _).trans (hb6.mono (by simp))
  have H6 := Lib.hid (And.intro (obj_below H5.out.1 hb56 (obj_lt H5.out.1)) (And.intro (obj_below H5.out.2.1 hb56 (obj_lt H5.out.2.1)) (And.intro (H5.out.2.2.1.trans (hb56.mono H5.out.2.2.1.size)) (scAt_below H5.out.2.2.2 hb56))))
  clear hb6 hb56
  by_cases hz : (mdApp A [(0, (n, vs))]).2 = 0
  · obtain ⟨xv, rfl, hx⟩ := hp2 hz
    obtain ⟨X, hX1, hX2, hX3⟩ := HBk.out hz
    rw [hX1] at hx
    have hx : PaAt w6 xv X := hx
    have HX := Lib.hid (And.intro hx (And.intro hX2 hX3))
    clear hp1 hp2 hz hX1 hX2 hX3
    obtain ⟨xa, xc, rfl⟩ := paAt_slice hx
    obtain ⟨xn, hxn⟩ : ∃ k, X.length = k := ⟨_, rfl⟩
    rw [hxn] at HX
    rw [hxn]
    obtain ⟨W7, hW7⟩ : ∃ W, w6.alloc (.cells #[.string ⟨dn.toArray⟩, .slice xa xn xc] 24) = W := ⟨_, rfl⟩
    have hb7 : Below w6.heap.size w6 W7 := by rw [← hW7]; exact (Below.refl _ w6).alloc (Nat.le_refl _) _
    have x7 : W7.heap[w6.heap.size]? = some (.cells #[.string ⟨dn.toArray⟩, .slice xa xn xc] 24 (0, 0)) := by rw [← hW7]; exact heap_alloc_new w6 _
    have y0 := obj_below H6.out.1 hb7 (obj_lt H6.out.1)
    have y1 := obj_below H6.out.2.1 hb7 (obj_lt H6.out.2.1)
    have hbw := H6.out.2.2.1.trans (hb7.mono H6.out.2.2.1.size)
    have H7 := Lib.hid (And.intro y0 (And.intro y1 (And.intro hbw (And.intro (scAt_below H6.out.2.2.2 hb7) (paAt_below HX.out.1 hb7)))))
    obtain ⟨k0, k1⟩ := obj2s x7
    obtain ⟨j0, j1⟩ := obj2s y1
    rw [← hW7] at k0 k1 j0 j1
    have s7 : W7.heap.size = w6.heap.size + 1 := by rw [← hW7]; simp
    have HW7 := Lib.hid hW7
    clear hx hxn hb7 x7 y0 y1 hbw hW7
    go_wp2_with fail
    rw [HW7.out]
    clear k0 k1 j0 j1
    have HA3 := Lib.hid (fun t => HA1.out 1 X sb (.slice xa xn xc) W7 t H7.out.2.2.1 (paAt_ea H7.out.2.2.2.2) (fewG_e HX.out.2.1.few (by omega) (by omega)) (by rw [HX.out.2.1.cl]; exact HX.out.2.1) H7.out.2.2.2.1)
    rw [HX.out.2.2, s7] at HA3
    with_reducible refine (HA3.out _).mono ?_
    rintro en w8 ⟨_, hp2, hb8⟩
    obtain ⟨yv, rfl, hy⟩ := hp2 rfl
    have hy : PaAt w8 yv (clA A) := hy
    have hb78 : Below W7.heap.size W7 w8 := ((Below.refl _ W7).alloc (Nat.le_refl _) _).trans (hb8.mono (by simp))
    obtain ⟨ya, yc, rfl⟩ := paAt_slice hy
    obtain ⟨yn, hyn⟩ : ∃ k, (clA A).length = k := ⟨_, rfl⟩
    rw [hyn] at hy
    rw [hyn]
    have y0 := obj_below H7.out.1 hb78 (obj_lt H7.out.1)
    have hbw := H7.out.2.2.1.trans (hb78.mono H7.out.2.2.1.size)
    obtain ⟨W9, hW9⟩ : ∃ W, w8.alloc (.cells #[.string ⟨dn.toArray⟩, .slice ya yn yc] 24) = W := ⟨_, rfl⟩
    have hb9 : Below w8.heap.size w8 W9 := by rw [← hW9]; exact (Below.refl _ w8).alloc (Nat.le_refl _) _
    have x9 : W9.heap[w8.heap.size]? = some (.cells #[.string ⟨dn.toArray⟩, .slice ya yn yc] 24 (0, 0)) := by rw [← hW9]; exact heap_alloc_new w8 _
    have z0 := obj_below y0 hb9 (obj_lt y0)
    have hbw9 := hbw.trans (hb9.mono hbw.size)
    have H9 := Lib.hid (And.intro hbw9 (paAt_below hy hb9))
    obtain ⟨k0, k1⟩ := obj2s x9
    obtain ⟨j0, j1⟩ := obj2s z0
    rw [← hW9] at k0 k1 j0 j1
    have HW9 := Lib.hid hW9
    clear hp2 hb8 hy hb78 hyn y0 hbw hb9 x9 z0 hbw9 hW9
    go_wp2_with fail
    rw [HW9.out]
    clear k0 k1 j0 j1
    with_reducible refine (HSm.out _ _ H9.out.1 H9.out.2 HFw.out).mono ?_
    rintro en w10 ⟨rfl, hb⟩
    have H10 := Lib.hid (H9.out.1.trans (hb.mono H9.out.1.size))
    clear hb
    go_wp2_with fail
    with_reducible refine (HAw.out _ H10.out).mono ?_
    rintro en w11 ⟨rfl, hb⟩
    have HB9 := Lib.hid (H10.out.trans (hb.mono H10.out.size))
    clear hb
    go_wp2
    go_ret
    exact bB_mk rfl HB9.out
  · obtain rfl := hp1 hz
    obtain ⟨pc, hpc⟩ : ∃ x, (mdApp A [(0, (n, vs))]).2 = x := ⟨_, rfl⟩
    rw [hpc] at hz ⊢
    have hq : (pc != 0) = true := by simp [hz]
    clear hp1 hp2 hpc
    have HBn := Lib.hid (fun ob => H6.out.2.2.1.alloc H6.out.2.2.1.size ob)
    go_wp2_with fail
    with_reducible refine (HAw.out _ (by first | exact HBn.out _ | exact H6.out.2.2.1)).mono ?_
    rintro en w9 ⟨rfl, hb⟩
    have HB9 := Lib.hid ((HBn.out _).trans (hb.mono (HBn.out _).size))
    clear hb
    go_wp2
    go_ret
    exact bB_mk rfl HB9.out
end Go.Proofs.YtpkbgkoocijegaaGreatDoor
namespace Go.Proofs.YtpkbgkoocijegaaGreatDoor
set_option linter.unusedSimpArgs false
set_option linter.unusedVariables false
open Go Go.ChangeShapes Go.WideShapes Go.RowKit Go.Proofs.MemK Go.Deep
def StrAt (w : World) (v : Value) (l : List (List UInt8)) : Prop :=
  (l = [] ∧ ∃ a c, v = .slice a 0 c) ∨ (0 < l.length ∧ ∃ g o c, v = .slice (some ⟨g, o, none⟩) l.length c ∧ g < w.heap.size ∧ ∀ i (hi : i < l.length), w.cell? ⟨g, o + i, none⟩ = some (.string ⟨l[i].toArray⟩))
theorem txR_str {w : World} {v : Value} {l : List (List UInt8)} (h : StrAt w v l) : TxR w v l := by
  rcases h with ⟨rfl, a, c, rfl⟩ | ⟨h0, g, o, c, rfl, hg, hq⟩
  · exact ⟨a, c, rfl, fun i hi => by simp at hi⟩
  · exact ⟨some ⟨g, o, none⟩, c, rfl, fun i hi => ⟨g, o, rfl, hg, hq i hi⟩⟩
theorem strAt_arg {H : Type} {enc : TypeId × Value → H} {P : Program} {w : World} {t e : TypeId} {a0 : Option Addr} {len cap : Nat} {d : DataW H} {ps : List MemPlace} (ht : P.underlying t = some (.slice e)) (he : P.underlying e = some .string) (hc : P.cellsOf e = 1)
    (h : DataW.Trod enc P w 0 (fun _ => true) true t (.slice a0 len cap) d ps) : ∃ l : List (List UInt8), l.length = len ∧ StrAt w (.slice a0 len cap) l ∧ (∀ x ∈ l, x.length ≤ maxLen) ∧ len ≤ maxLen := by
  obtain ⟨fuel, hf⟩ := h
  rcases open_strings ht he hc hf with ⟨hcs, _⟩ | ⟨a, len', cap', ss, hcs, _, hl, hm, hz, _, hcell, hws⟩
  · simp [Value.cells] at hcs
    obtain ⟨rfl, rfl, rfl⟩ := hcs
    exact ⟨[], rfl, .inl ⟨rfl, none, 0, rfl⟩, by simp, by decide⟩
  · simp [Value.cells] at hcs
    obtain ⟨rfl, rfl, rfl⟩ := hcs
    simp only [if_true] at hz
    have hlen : ((ss.take len).map fun s => s.data.toList).length = len := by simp; omega
    refine ⟨(ss.take len).map fun s => s.data.toList, hlen, ?_, ?_, by omega⟩
    · by_cases h0 : len = 0
      · subst h0
        exact .inl ⟨by simp, _, _, rfl⟩
      · obtain ⟨b, off, spot⟩ := a
        have hspot : spot = none := by simpa [Addr.add] using World.cell?_spot (hcell 0 (by omega))
        subst hspot
        refine .inr ⟨by omega, b, off, cap, by rw [hlen], World.block_lt_of_cell? w _ (hcell 0 (by omega)), fun i hi => ?_⟩
        rw [hlen] at hi
        rw [← add_plain, hcell i (by omega)]
        have hi2 : i < ss.length := by omega
        simp [List.getD, hi2]
    · intro x hx
      obtain ⟨s, hs, rfl⟩ := List.mem_map.1 hx
      exact hws s (List.mem_of_mem_take hs)

theorem strs_cell9 {H : Type} {enc : TypeId × Value → H} {P : Program} {w : World} {t e : TypeId} {n : Nat} {v : Value} {x : DataW H × List MemPlace} (ht : P.underlying t = some (.slice e)) (he : P.underlying e = some .string) (hc : P.cellsOf e = 1)
    (h : DataW.trod enc P w 0 (fun _ => true) true n t [v] = some x) : ∃ (a : Option Addr) (c : Nat) (l : List (List UInt8)), v = .slice a l.length c ∧ StrAt w (.slice a l.length c) l ∧ l.length ≤ maxLen := by
  have hv : ∃ a len c, v = .slice a len c := by
    rcases open_strings ht he hc h with ⟨hcs, _⟩ | ⟨a, len', cap', ss, hcs, _⟩
    · injection hcs with hv _; exact ⟨_, _, _, hv⟩
    · injection hcs with hv _; exact ⟨_, _, _, hv⟩
  obtain ⟨a, len, c, rfl⟩ := hv
  obtain ⟨l, e1, h1, _, h3⟩ := strAt_arg (a0 := a) (len := len) (cap := c) (d := x.1) (ps := x.2) ht he hc ⟨n, h⟩
  subst e1
  exact ⟨a, c, l, rfl, h1, h3⟩
theorem en_c1 : Tryz.prog.cellsOf 9 = 1 := by kernel_rfl
theorem en_c1s : Tryz.prog.cellsOf 43 = 1 := by kernel_rfl
theorem en_c2 : Tryz.prog.cellsOf 45 = 2 := by kernel_rfl
theorem en_c2e : Tryz.prog.cellsOf 24 = 2 := by kernel_rfl
theorem slOk_cell10 {H : Type} {enc : TypeId × Value → H} {w : World} {n : Nat} {v : Value} {x : DataW H × List MemPlace} (h : DataW.trod enc Tryz.prog w 0 (fun _ => true) true n 43 [v] = some x) : SlOk v := by
  rcases open_strings Tryz.underlying43 Tryz.underlying9 en_c1 h with ⟨hcs, _⟩ | ⟨a, len', cap', ss, hcs, _⟩
  · injection hcs with hv _; exact .inl hv
  · injection hcs with hv _; exact .inr ⟨_, _, _, hv⟩
theorem attrs_argE {H : Type} {enc : TypeId × Value → H} {w : World} {n : Nat} {v : Value} {x : DataW H × List MemPlace} (h : DataW.trod enc Tryz.prog w 0 (fun _ => true) true n 22 [v] = some x) :
    ∃ (a : Option Addr) (c : Nat) (A : List Atr), v = .slice a A.length c ∧ EaAt w (.slice a A.length c) A ∧ A.length ≤ maxLen := by
  rcases open_slice_pairs Tryz.underlying22 Tryz.underlying45 en_c2 rfl rfl en_c1 en_c1s h with ⟨hcs, _⟩ | ⟨a, len, cap, m, k, V0, V1, D0, D1, P0, P1, hcs, _, hl, hm, hmm, _, hx⟩
  · injection hcs with hv _
    subst hv
    exact ⟨none, 0, [], rfl, ⟨.inl rfl, none, 0, rfl, fun i hi => by simp at hi⟩, by decide⟩
  · injection hcs with hv _
    subst hv
    simp only [if_true] at hmm
    subst hmm
    obtain ⟨q, hq⟩ := choose_lt (α := Atr) (n := m) (p := fun i q => V0 i = .string ⟨q.1.toArray⟩ ∧ TxR w (V1 i) q.2 ∧ SlOk (V1 i)) (fun i hi => by
      obtain ⟨s0, e0, _⟩ := DataW.trod_string Tryz.underlying9 (hx i hi).2.2.1
      have hk := slOk_cell10 (hx i hi).2.2.2
      obtain ⟨a1, c1, l1, e1, h1, _⟩ := strs_cell9 Tryz.underlying43 Tryz.underlying9 en_c1 (hx i hi).2.2.2
      exact ⟨(s0.data.toList, l1), by simpa using e0, by rw [e1]; exact txR_str h1, hk⟩)
    have hlen : ((List.range len).map q).length = len := by simp
    refine ⟨some a, m, (List.range len).map q, by rw [hlen], ⟨.inr ⟨_, _, _, rfl⟩, some a, m, rfl, fun i hi => ?_⟩, by rw [hlen]; omega⟩
    rw [hlen] at hi
    obtain ⟨b, off, spot⟩ := a
    have hspot : spot = none := by simpa [Addr.add] using World.cell?_spot (hx 0 (by omega)).1
    subst hspot
    obtain ⟨x0, x1, _, _⟩ := hx i (by omega)
    obtain ⟨y0, y1, y2⟩ := hq i (by omega)
    rw [y0] at x0
    have z0 : w.cell? ⟨b, off + i * 2, none⟩ = some (.string ⟨(q i).1.toArray⟩) := by rw [← add_plain]; exact x0
    have z1 : w.cell? ⟨b, off + i * 2 + 1, none⟩ = some (V1 i) := by rw [Nat.add_assoc, ← add_plain]; exact x1
    refine ⟨b, off, V1 i, rfl, World.block_lt_of_cell? w _ z0, ?_, z1, ?_, y2⟩
    · rw [z0]; simp
    · simpa using y1
set_option maxRecDepth 100000 in
theorem entry_argE {H : Type} {enc : TypeId × Value → H} {w : World} {r : Reach} {b0 : Nat} {v : Value} {d : DataW H} {ps : List MemPlace} (hval : Value.okWide Tryz.prog w r b0 24 v)
    (h : DataW.Trod enc Tryz.prog w 0 (fun _ => true) true 24 v d ps) : ∃ (dn : List UInt8) (A : List Atr) (a : Option Addr) (c : Nat), v = .agg #[.string ⟨dn.toArray⟩, .slice a A.length c] ∧ EaAt w (.slice a A.length c) A ∧ A.length ≤ maxLen := by
  obtain ⟨v0, v1, y0, y1, n, rfl, _, _, g0, g1⟩ := Joins.open_agg2 Tryz.underlying24 (by kernel_rfl) en_c2e hval h
  obtain ⟨s0, e0, _⟩ := DataW.trod_string Tryz.underlying9 g0
  obtain ⟨a, c, A, rfl, hA, hl⟩ := attrs_argE g1
  injection e0 with e0
  subst e0
  exact ⟨s0.data.toList, A, a, c, by simp, hA, hl⟩
set_option maxRecDepth 100000 in
theorem attr_arg {H : Type} {enc : TypeId × Value → H} {w : World} {r : Reach} {b0 : Nat} {v : Value} {d : DataW H} {ps : List MemPlace} (hval : Value.okWide Tryz.prog w r b0 45 v)
    (h : DataW.Trod enc Tryz.prog w 0 (fun _ => true) true 45 v d ps) : ∃ (t : List UInt8) (V : List (List UInt8)) (a : Option Addr) (c : Nat), v = .agg #[.string ⟨t.toArray⟩, .slice a V.length c] ∧ TxR w (.slice a V.length c) V ∧ SlOk (.slice a V.length c) := by
  obtain ⟨v0, v1, y0, y1, n, rfl, _, _, g0, g1⟩ := Joins.open_agg2 Tryz.underlying45 (by kernel_rfl) en_c2 hval h
  obtain ⟨s0, e0, _⟩ := DataW.trod_string Tryz.underlying9 g0
  have hk := slOk_cell10 g1
  obtain ⟨a, c, V, rfl, hV, _⟩ := strs_cell9 Tryz.underlying43 Tryz.underlying9 en_c1 g1
  injection e0 with e0
  subst e0
  exact ⟨s0.data.toList, V, a, c, by simp, txR_str hV, hk⟩
theorem errOk_mb {W : World} (h : laidMetH Tryz.prog Rows.modsBackRow.laid W) : ErrOk W := by
  rw [MakeChecks.laidMetH_plain _ _ _ (by kernel_rfl)] at h
  first
    | exact errOk_laid h
    | exact errOk_laid h.tail
    | exact errOk_laid h.tail.tail
    | exact errOk_laid h.tail.tail.tail
    | exact errOk_laid h.tail.tail.tail.tail
    | exact errOk_laid h.tail.tail.tail.tail.tail
    | exact errOk_laid h.tail.tail.tail.tail.tail.tail
    | exact errOk_laid h.tail.tail.tail.tail.tail.tail.tail
end Go.Proofs.YtpkbgkoocijegaaGreatDoor
