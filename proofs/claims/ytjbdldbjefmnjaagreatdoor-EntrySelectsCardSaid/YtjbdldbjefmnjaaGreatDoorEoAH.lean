/- The code's Select: what is kept of it, step by step. The code's Select, one way. The code's Select, one way. The code's Select, one way. The code's Select, one way. The code's Select, one way. The code's Select, one way. The document's Select: plain. -/
import Derived.Test.YtjbdldbjefmnjaaGreatDoorEnXZ
import Derived.Test.YtjbdldbjefmnjaaGreatDoorEnJN
import Derived.Test.YtjbdldbjefmnjaaGreatDoorEnCE
import Derived.Test.YtjbdldbjefmnjaaGreatDoorEnHO
namespace Go.Proofs.YtjbdldbjefmnjaaGreatDoor
set_option linter.unusedSimpArgs false
set_option linter.unusedVariables false
open Go Go.RowKit Go.Proofs.BerK Go.Proofs.MemK Go.Proofs.UtfK

def starL : List UInt8 := [42]
/-- Attributes that are asked for. -/
def selF (A : List Atr) (T : List (List UInt8)) : List Atr := if T = [] ∨ inL T starL = true then clA A else (clA A).filter fun a => !(!inL (T.map lowL) a.1)
def nilA (a : Atr) : Atr := (a.1, [])
def seL (A : List Atr) (T : List (List UInt8)) (ty : Bool) : List Atr := if ty = true then (selF A T).map nilA else selF A T
def niL (L : List Atr) (i : Nat) : List Atr := (L.take i).map nilA ++ L.drop i
theorem ni_0 (L : List Atr) : niL L 0 = L := by simp [niL]
theorem ni_len (L : List Atr) (i : Nat) (hi : i ≤ L.length) : (niL L i).length = L.length := by unfold niL; simp; omega
theorem ni_all (L : List Atr) : niL L L.length = L.map nilA := by unfold niL; simp
theorem ni_at (L : List Atr) (i : Nat) (hi : i < L.length) (h : i < (niL L i).length) : (niL L i)[i].1 = L[i].1 := by
  have e : (niL L i)[i]? = some L[i] := by
    have h1 : ((L.take i).map nilA).length = i := by rw [List.length_map, List.length_take]; omega
    unfold niL
    rw [List.getElem?_append_right (by omega), h1, Nat.sub_self, List.getElem?_drop, Nat.add_zero, List.getElem?_eq_getElem hi]
  rw [List.getElem?_eq_getElem h] at e
  injection e with e
  rw [e]
theorem ni_step (L : List Atr) (i : Nat) (hi : i < L.length) : niL L (i + 1) = (niL L i).set i (L[i].1, []) := by
  have h1 : ((L.take i).map nilA).length = i := by rw [List.length_map, List.length_take]; omega
  unfold niL
  rw [List.take_succ_eq_append_getElem hi, List.map_append, List.set_append, h1, if_neg (by omega), Nat.sub_self, List.drop_eq_getElem_cons hi, List.set_cons_zero, List.append_assoc]
  rfl
/-- An entry made clean, in the call's own box, and the box of the result. -/
def SelSt (w0 : World) (dn : List UInt8) (L : List Atr) (v : Value) (Lq : List (List UInt8 × Value)) (W : World) : Prop :=
  W.heap[w0.heap.size]? = some (.cells #[.string ⟨dn.toArray⟩, v] 24 (0, 0)) ∧ W.heap[w0.heap.size + 1]? = some (.cells #[.string ⟨#[]⟩, .slice none 0 0] 24 (0, 0)) ∧ AtOk W Lq L ∧ W.ownsRow (w0.heap.size + 2) 37 2 v L.length (atcs Lq) ∧ Below w0.heap.size w0 W
theorem selSt_below {w0 W W' : World} {dn : List UInt8} {L : List Atr} {v : Value} {Lq : List (List UInt8 × Value)} (h : SelSt w0 dn L v Lq W) (hb : Below W.heap.size W W') : SelSt w0 dn L v Lq W' :=
  ⟨obj_below h.1 hb (obj_lt h.1), obj_below h.2.1 hb (obj_lt h.2.1), atOk_below h.2.2.1 hb, ownsRow_below h.2.2.2.1 hb, h.2.2.2.2.trans (hb.mono h.2.2.2.2.size)⟩
theorem selSt_end {w0 W : World} {dn : List UInt8} {L : List Atr} {v : Value} {Lq : List (List UInt8 × Value)} (h : SelSt w0 dn L v Lq W) : EnPostC dn L w0 (.returned (.agg #[.string ⟨dn.toArray⟩, v])) ((W.setCell ⟨w0.heap.size + 1, 0, none⟩ (.string ⟨dn.toArray⟩)).setCell ⟨w0.heap.size + 1, 1, none⟩ v) :=
  ⟨v, Lq, rfl, atOk_set2 h.2.2.1 h.2.1 (by decide) _ _, own_set2 (ownsRow_base h.2.2.2.1 (by omega)) h.2.1 (by decide) _ _, below_e2 h.2.2.2.2 (by omega) _ _⟩
theorem selSt_nil {w0 W : World} {dn : List UInt8} {L : List Atr} {g n c : Nat} {Lq : List (List UInt8 × Value)} (h : SelSt w0 dn L (.slice (some ⟨g, 0, none⟩) n c) Lq W) (i : Nat) (hi : i < L.length) (t : List UInt8) (ht : L[i].1 = t) :
    SelSt w0 dn (L.set i (t, [])) (.slice (some ⟨g, 0, none⟩) n c) (Lq.set i (t, .slice none 0 0)) (W.setCell ⟨g, i * 2 + 1, none⟩ (.slice none 0 0)) := by
  obtain ⟨h1, h2, h3, h4, h5⟩ := h
  have hl := h3.1
  have hgB := (h4.lt g rfl).1
  have hiq : i < Lq.length := by omega
  have ht2 : Lq[i].1 = t := by rw [(h3.2 i hiq hi).1, ht]
  have hst := own_stored h4 (i * 2 + 1) (.slice none 0 0)
  rw [atcs_set1 Lq i hiq, ht2] at hst
  refine ⟨obj_set_other h1 (by show _ ≠ g; omega) _, obj_set_other h2 (by show _ ≠ g; omega) _, ⟨by simp [hl], fun j j1 j2 => ?_⟩, by rw [List.length_set]; exact hst, h5.setCell (p := ⟨g, i * 2 + 1, none⟩) (by show _ ≤ g; omega) _⟩
  rw [List.length_set] at j1 j2
  rw [List.getElem_set, List.getElem_set]
  by_cases q : i = j
  · rw [if_pos q, if_pos q]
    exact ⟨rfl, 0, World.ownsRow_nil _ _ _ _⟩
  · rw [if_neg q, if_neg q]
    obtain ⟨e1, B, hB⟩ := h3.2 j j1 j2
    exact ⟨e1, B, ownsRow_chg (S := fun k => k = g) hB ((Chg.refl (fun k => k = g) W).setCell (p := ⟨g, i * 2 + 1, none⟩) (fun _ => rfl) _) (fun k hk e => by
      have e : k = g := e
      subst e
      exact row_apart h4 hB (by decide) k rfl hk)⟩
/-- The row is a shorter one. -/
theorem selSt_del {w0 W W' : World} {dn : List UInt8} {L : List Atr} {v v' : Value} {Lq : List (List UInt8 × Value)} (h : SelSt w0 dn L v Lq W) (p : List UInt8 → Bool) (hr : W'.ownsRow (w0.heap.size + 2) 37 2 v' (Lq.filter fun q => !p q.1).length (atcs (Lq.filter fun q => !p q.1))) (hc : Chg (fun k => some k = v.ownBlock) W W') :
    SelSt w0 dn (L.filter fun q => !p q.1) v' (Lq.filter fun q => !p q.1) (W'.setCell ⟨w0.heap.size, 1, none⟩ v') := by
  obtain ⟨h1, h2, h3, h4, h5⟩ := h
  have hB : ∀ k, some k = v.ownBlock → w0.heap.size + 2 ≤ k := fun k hk => (h4.lt k hk.symm).1
  have y1 := obj_chg h1 hc (fun e => by have := hB _ e; omega)
  have y2 := obj_chg h2 hc (fun e => by have := hB _ e; omega)
  have ok := atOk_filter (atOk_chg h3 h4 hc) p
  have hl := ok.1
  rw [hl] at hr
  exact ⟨set1_e y1 _, obj_set_other y2 (by show _ ≠ w0.heap.size; omega) _, atOk_set1 ok y1 (by decide) _, own_set1 hr y1 (by decide) _, (h5.trans (hc.toBelow h5.size (fun k _ hk => by have := hB k hk; omega))).setCell (p := ⟨w0.heap.size, 1, none⟩) (Nat.le_refl _) _⟩
set_option maxHeartbeats 800000 in
set_option maxRecDepth 100000 in
theorem select1_any (N : List (List UInt8)) (t : List UInt8) (nb mb m : Nat) (a : Option Addr) (n c : Nat) (W : World) (hc : W.cell? ⟨nb, 0, none⟩ = some (.map (some mb))) (hnb : nb < W.heap.size) (hst : StAt W mb m N) (ht : t.length ≤ 140737488355328) :
    Calls Tryz.prog 21 #[.agg #[.string ⟨t.toArray⟩, .slice a n c], .pointer (some ⟨nb, 0, none⟩)] W (BB (!inL N t) W) := by
  have hc2 : ∀ ob, (W.alloc ob).cell? ⟨nb, 0, none⟩ = some (.map (some mb)) := fun ob => (((Below.refl W.heap.size W).alloc (Nat.le_refl _) ob).cell (p := ⟨nb, _, none⟩) hnb).trans hc
  have hrun : ∀ ob, (Instr.lookup 42 (.map (some mb)) (.string ⟨t.toArray⟩) true).run Tryz.prog (W.alloc ob) = .ok (.tuple #[.agg #[], .bool (inL N t)]) (W.alloc ob) := fun ob => stAt_look (stAt_below hst ((Below.refl W.heap.size W).alloc (Nat.le_refl _) ob) (stAt_lt hst)) t ht
  obtain ⟨R, hR⟩ : ∃ R, inL N t = R := ⟨_, rfl⟩
  rw [hR] at hrun ⊢
  clear hc hst
  go_enter Tryz.func21, Tryz.ntmps21
  go_wp2
  go_ret
  exact bB_mk (by first | rfl | simp) (((Below.refl _ W).alloc (Nat.le_refl _) _).alloc (by simp) _)
end Go.Proofs.YtjbdldbjefmnjaaGreatDoor
namespace Go.Proofs.YtjbdldbjefmnjaaGreatDoor
set_option linter.unusedSimpArgs false
set_option linter.unusedVariables false
open Go Go.RowKit Go.Proofs.BerK Go.Proofs.MemK Go.Proofs.UtfK
set_option maxHeartbeats 3200000 in
set_option maxRecDepth 100000 in
theorem sel_ef (A : List Atr) (T : List (List UInt8)) (dn : List UInt8) (av tv : Value) (w : World) (h : EaAt w av A) (ht : TxR w tv T) (hf : FewE A) (hl : T.length ≤ 1000000) (hb : ∀ s ∈ T, s.length ≤ 100000) (hT : T = []) :
    Calls Tryz.prog 7 #[.agg #[.string ⟨dn.toArray⟩, av], tv, .bool false] w (EnPostC dn (clA A) w) := by
  obtain ⟨a, c, rfl⟩ := eaAt_slice h
  obtain ⟨W1, hW1⟩ : ∃ W1, (w.alloc (.cells #[.string ⟨dn.toArray⟩, .slice a A.length c] 24)).alloc (.cells #[.string ⟨#[]⟩, .slice none 0 0] 24) = W1 := ⟨_, rfl⟩
  obtain ⟨x0, x1, hb1, hz1⟩ := boxes10 hW1
  have HCl := Lib.hid (fun w' (hb : Below W1.heap.size W1 w') => eclean_any A dn _ w' (eaAt_below (eaAt_below h hb1) hb) hf)
  have HCf := Lib.hid (fewG_cl (m := 1000) (k := 1000) hf)
  have HTx := Lib.hid ht
  obtain ⟨ta, tc, rfl, _⟩ := ht
  obtain ⟨tl, htl⟩ : ∃ x, T.length = x := ⟨_, rfl⟩
  have htl0 : tl = 0 := by rw [← htl, hT]; rfl
  subst htl0
  rw [htl]
  have HW1 := Lib.hid hW1
  obtain ⟨n, hn⟩ : ∃ n, A.length = n := ⟨_, rfl⟩
  rw [hn] at HCl HW1 x0 ⊢
  have HX := Lib.hid (And.intro x0 (And.intro x1 (And.intro hb1 hz1)))
  obtain ⟨R, hR⟩ : ∃ R, clA A = R := ⟨_, rfl⟩
  rw [hR] at HCl HCf ⊢
  obtain ⟨e0, e1⟩ := obj2s x0
  rw [← hW1] at e0 e1
  have hW1s : w.heap.size + 2 ≤ W1.heap.size := by omega
  clear h hf x0 x1 hb1 hW1 hn hR hT hl hb htl
  go_enter Tryz.func7, Tryz.ntmps7
  go_wp2_with fail
  rw [HW1.out]
  refine (HCl.out _ (Below.refl _ W1)).mono ?_
  rintro e w4 ⟨v, Lq, rfl, hok, hr, hb4⟩
  clear e0 e1
  have hRl := HCf.out.1
  have y4 := obj_below HX.out.1 hb4 (by omega)
  have q4 := obj_below HX.out.2.1 hb4 (by omega)
  obtain ⟨va, vc, rfl⟩ := ownsRow_slice hr
  obtain ⟨W5, hW5⟩ : ∃ W5, (w4.setCell ⟨w.heap.size, 0, none⟩ (.string ⟨dn.toArray⟩)).setCell ⟨w.heap.size, 1, none⟩ (.slice va R.length vc) = W5 := ⟨_, rfl⟩
  have hst5 : SelSt w dn R (.slice va R.length vc) Lq W5 := by
    rw [← hW5]
    exact ⟨set2_e y4 _ _, obj_set_other (obj_set_other q4 (by show _ ≠ w.heap.size; omega) _) (by show _ ≠ w.heap.size; omega) _, atOk_set2 hok y4 (by decide) _ _, own_set2 (ownsRow_base hr hW1s) y4 (by decide) _ _, below_e2 (HX.out.2.2.1.trans (hb4.mono HX.out.2.2.1.size)) (Nat.le_refl _) _ _⟩
  obtain ⟨rl, hrl⟩ : ∃ x, R.length = x := ⟨_, rfl⟩
  rw [hrl] at hst5 hW5 hRl ⊢
  have HRl := Lib.hid hrl
  have HW5 := Lib.hid hW5
  have HS5 := Lib.hid hst5
  obtain ⟨c0, c1⟩ := obj2s y4
  have f0 := obj_free y4 0
  have f1 := obj_free y4 1
  obtain ⟨k0, k1⟩ := obj2s hst5.1
  obtain ⟨l0, l1⟩ := obj2s hst5.2.1
  have m0 := obj_free hst5.2.1 0
  have m1 := obj_free hst5.2.1 1
  have hne : w.heap.size + 1 ≠ w.heap.size := by omega
  rw [← hW5] at k0 k1 l0 l1 m0 m1
  clear hok hr y4 q4 hb4 hst5 hW5 hrl
  go_wp2
  rw [HW5.out]
  obtain ⟨j0, j1⟩ := obj2s (set2_e HS5.out.2.1 (.string ⟨dn.toArray⟩) (.slice va rl vc))
  refine bodyPost_ret (v := .agg #[.string ⟨dn.toArray⟩, .slice va rl vc]) (by simp [results, Tryz.results7, go_sem, *]) rfl ?_
  exact selSt_end HS5.out
end Go.Proofs.YtjbdldbjefmnjaaGreatDoor
namespace Go.Proofs.YtjbdldbjefmnjaaGreatDoor
set_option linter.unusedSimpArgs false
set_option linter.unusedVariables false
open Go Go.RowKit Go.Proofs.BerK Go.Proofs.MemK Go.Proofs.UtfK
set_option maxHeartbeats 3200000 in
set_option maxRecDepth 100000 in
theorem sel_et (A : List Atr) (T : List (List UInt8)) (dn : List UInt8) (av tv : Value) (w : World) (h : EaAt w av A) (ht : TxR w tv T) (hf : FewE A) (hl : T.length ≤ 1000000) (hb : ∀ s ∈ T, s.length ≤ 100000) (hT : T = []) :
    Calls Tryz.prog 7 #[.agg #[.string ⟨dn.toArray⟩, av], tv, .bool true] w (EnPostC dn ((clA A).map nilA) w) := by
  obtain ⟨a, c, rfl⟩ := eaAt_slice h
  obtain ⟨W1, hW1⟩ : ∃ W1, (w.alloc (.cells #[.string ⟨dn.toArray⟩, .slice a A.length c] 24)).alloc (.cells #[.string ⟨#[]⟩, .slice none 0 0] 24) = W1 := ⟨_, rfl⟩
  obtain ⟨x0, x1, hb1, hz1⟩ := boxes10 hW1
  have HCl := Lib.hid (fun w' (hb : Below W1.heap.size W1 w') => eclean_any A dn _ w' (eaAt_below (eaAt_below h hb1) hb) hf)
  have HCf := Lib.hid (fewG_cl (m := 1000) (k := 1000) hf)
  have HTx := Lib.hid ht
  obtain ⟨ta, tc, rfl, _⟩ := ht
  obtain ⟨tl, htl⟩ : ∃ x, T.length = x := ⟨_, rfl⟩
  have htl0 : tl = 0 := by rw [← htl, hT]; rfl
  subst htl0
  rw [htl]
  have HW1 := Lib.hid hW1
  obtain ⟨n, hn⟩ : ∃ n, A.length = n := ⟨_, rfl⟩
  rw [hn] at HCl HW1 x0 ⊢
  have HX := Lib.hid (And.intro x0 (And.intro x1 (And.intro hb1 hz1)))
  obtain ⟨R, hR⟩ : ∃ R, clA A = R := ⟨_, rfl⟩
  rw [hR] at HCl HCf ⊢
  obtain ⟨e0, e1⟩ := obj2s x0
  rw [← hW1] at e0 e1
  have hW1s : w.heap.size + 2 ≤ W1.heap.size := by omega
  clear h hf x0 x1 hb1 hW1 hn hR hT hl hb htl
  go_enter Tryz.func7, Tryz.ntmps7
  go_wp2_with fail
  rw [HW1.out]
  refine (HCl.out _ (Below.refl _ W1)).mono ?_
  rintro e w4 ⟨v, Lq, rfl, hok, hr, hb4⟩
  clear e0 e1
  have hRl := HCf.out.1
  have y4 := obj_below HX.out.1 hb4 (by omega)
  have q4 := obj_below HX.out.2.1 hb4 (by omega)
  obtain ⟨va, vc, rfl⟩ := ownsRow_slice hr
  obtain ⟨W5, hW5⟩ : ∃ W5, (w4.setCell ⟨w.heap.size, 0, none⟩ (.string ⟨dn.toArray⟩)).setCell ⟨w.heap.size, 1, none⟩ (.slice va R.length vc) = W5 := ⟨_, rfl⟩
  have hst5 : SelSt w dn R (.slice va R.length vc) Lq W5 := by
    rw [← hW5]
    exact ⟨set2_e y4 _ _, obj_set_other (obj_set_other q4 (by show _ ≠ w.heap.size; omega) _) (by show _ ≠ w.heap.size; omega) _, atOk_set2 hok y4 (by decide) _ _, own_set2 (ownsRow_base hr hW1s) y4 (by decide) _ _, below_e2 (HX.out.2.2.1.trans (hb4.mono HX.out.2.2.1.size)) (Nat.le_refl _) _ _⟩
  obtain ⟨rl, hrl⟩ : ∃ x, R.length = x := ⟨_, rfl⟩
  rw [hrl] at hst5 hW5 hRl ⊢
  have HRl := Lib.hid hrl
  have HW5 := Lib.hid hW5
  have HS5 := Lib.hid hst5
  obtain ⟨c0, c1⟩ := obj2s y4
  have f0 := obj_free y4 0
  have f1 := obj_free y4 1
  obtain ⟨k0, k1⟩ := obj2s hst5.1
  obtain ⟨l0, l1⟩ := obj2s hst5.2.1
  have m0 := obj_free hst5.2.1 0
  have m1 := obj_free hst5.2.1 1
  have hne : w.heap.size + 1 ≠ w.heap.size := by omega
  rw [← hW5] at k0 k1 l0 l1 m0 m1
  clear hok hr y4 q4 hb4 hst5 hW5 hrl
  go_wp2
  try rw [HW5.out]
  go_loopw [30] (fun v wr => ∃ (i : Nat) (Lz : List (List UInt8 × Value)), i ≤ rl ∧ v = .int .i64 (i : Nat) ∧ SelSt w dn (niL R i) (.slice va rl vc) Lz wr) (fun v _ => rl - (intOf v).toNat)
  case atStart => exact ⟨0, _, by omega, rfl, by rw [ni_0]; exact HS5.out⟩
  case round =>
    clear k0 k1 l0 l1 m0 m1
    obtain ⟨i, Lz, hi, rfl, hS⟩ := hrel
    obtain ⟨k0, k1⟩ := obj2s hS.1
    have hml : (niL R i).length = rl := by rw [← HRl.out]; exact ni_len _ i (by rw [HRl.out]; exact hi)
    by_cases hlt : i < rl
    · have hil : (i : Int) < (rl : Int) := by omega
      have hiR : i < (R).length := by rw [HRl.out]; exact hlt
      have him : i < (niL R i).length := by omega
      obtain ⟨og, oc, eo, hogB, hogl⟩ := own_block hS.2.2.2.1 (by omega)
      injection eo with eo1 eo2 eo3
      subst eo1 eo3
      clear eo2
      have hqz := hS.2.2.1.1
      obtain ⟨r1, r2⟩ := atcs_at Lz i (by omega)
      have hrw := hS.2.2.2.1
      rw [hml] at hrw
      have p1 := (hrw.cellAt (i * 2 + 1) (by omega)).trans r2
      have f1 := hrw.frozenAt (i * 2 + 1)
      obtain ⟨pv, hpv⟩ : ∃ x, (Lz[i]'(by omega)).2 = x := ⟨_, rfl⟩
      rw [hpv] at p1
      have hst := ni_step R i hiR
      have HN := Lib.hid (And.intro (selSt_nil hS i him ((R)[i].1) (ni_at _ i hiR him)) hst)
      clear hS hst r1 r2 hml hogB hogl hpv hqz hrw
      go_wp2
      exact ⟨⟨i + 1, Lz.set i ((R)[i].1, Value.slice none 0 0), by omega, by go_num, by rw [HN.out.2]; exact HN.out.1⟩, by simp [intOf]; omega⟩
    · obtain rfl : i = rl := by omega
      have hma : niL R i = (R).map nilA := by rw [← HRl.out]; exact ni_all _
      rw [hma] at hS
      obtain ⟨l0, l1⟩ := obj2s hS.2.1
      have m0 := obj_free hS.2.1 0
      have m1 := obj_free hS.2.1 1
      have HZ := Lib.hid hS
      clear hS hma hml
      go_wp2
      obtain ⟨j0, j1⟩ := obj2s (set2_e HZ.out.2.1 (.string ⟨dn.toArray⟩) (.slice va i vc))
      refine bodyPost_ret (v := .agg #[.string ⟨dn.toArray⟩, .slice va i vc]) (by simp [results, Tryz.results7, go_sem, *]) rfl ?_
      exact selSt_end HZ.out
end Go.Proofs.YtjbdldbjefmnjaaGreatDoor
namespace Go.Proofs.YtjbdldbjefmnjaaGreatDoor
set_option linter.unusedSimpArgs false
set_option linter.unusedVariables false
open Go Go.RowKit Go.Proofs.BerK Go.Proofs.MemK Go.Proofs.UtfK
set_option maxHeartbeats 3200000 in
set_option maxRecDepth 100000 in
theorem sel_sf (A : List Atr) (T : List (List UInt8)) (dn : List UInt8) (av tv : Value) (w : World) (h : EaAt w av A) (ht : TxR w tv T) (hf : FewE A) (hl : T.length ≤ 1000000) (hb : ∀ s ∈ T, s.length ≤ 100000) (hT : T ≠ []) (hS : inL T starL = true) :
    Calls Tryz.prog 7 #[.agg #[.string ⟨dn.toArray⟩, av], tv, .bool false] w (EnPostC dn (clA A) w) := by
  obtain ⟨a, c, rfl⟩ := eaAt_slice h
  obtain ⟨W1, hW1⟩ : ∃ W1, (w.alloc (.cells #[.string ⟨dn.toArray⟩, .slice a A.length c] 24)).alloc (.cells #[.string ⟨#[]⟩, .slice none 0 0] 24) = W1 := ⟨_, rfl⟩
  obtain ⟨x0, x1, hb1, hz1⟩ := boxes10 hW1
  have HCl := Lib.hid (fun w' (hb : Below W1.heap.size W1 w') => eclean_any A dn _ w' (eaAt_below (eaAt_below h hb1) hb) hf)
  have HCf := Lib.hid (fewG_cl (m := 1000) (k := 1000) hf)
  have HTx := Lib.hid ht
  have HCo := Lib.hid (fun w' (hb : Below w.heap.size w w') => contains_any T starL tv w' (txR_below ht hb) hl)
  rw [hS] at HCo
  obtain ⟨ta, tc, rfl, _⟩ := ht
  obtain ⟨tl, htl⟩ : ∃ x, T.length = x := ⟨_, rfl⟩
  have htl0 : 0 < tl := by
    rcases Nat.eq_zero_or_pos tl with h0 | h0
    · exact absurd (List.eq_nil_of_length_eq_zero (htl.trans h0)) hT
    · exact h0
  have htli : (0 : Int) < (tl : Int) := by omega
  rw [htl] at HCo ⊢
  have HW1 := Lib.hid hW1
  obtain ⟨n, hn⟩ : ∃ n, A.length = n := ⟨_, rfl⟩
  rw [hn] at HCl HW1 x0 ⊢
  have HX := Lib.hid (And.intro x0 (And.intro x1 (And.intro hb1 hz1)))
  obtain ⟨R, hR⟩ : ∃ R, clA A = R := ⟨_, rfl⟩
  rw [hR] at HCl HCf ⊢
  obtain ⟨e0, e1⟩ := obj2s x0
  rw [← hW1] at e0 e1
  have hW1s : w.heap.size + 2 ≤ W1.heap.size := by omega
  clear h hf x0 x1 hb1 hW1 hn hR hT hl hb htl hS
  go_enter Tryz.func7, Tryz.ntmps7
  go_wp2_with fail
  rw [HW1.out]
  refine (HCl.out _ (Below.refl _ W1)).mono ?_
  rintro e w4 ⟨v, Lq, rfl, hok, hr, hb4⟩
  clear e0 e1
  have hRl := HCf.out.1
  have y4 := obj_below HX.out.1 hb4 (by omega)
  have q4 := obj_below HX.out.2.1 hb4 (by omega)
  obtain ⟨va, vc, rfl⟩ := ownsRow_slice hr
  obtain ⟨W5, hW5⟩ : ∃ W5, (w4.setCell ⟨w.heap.size, 0, none⟩ (.string ⟨dn.toArray⟩)).setCell ⟨w.heap.size, 1, none⟩ (.slice va R.length vc) = W5 := ⟨_, rfl⟩
  have hst5 : SelSt w dn R (.slice va R.length vc) Lq W5 := by
    rw [← hW5]
    exact ⟨set2_e y4 _ _, obj_set_other (obj_set_other q4 (by show _ ≠ w.heap.size; omega) _) (by show _ ≠ w.heap.size; omega) _, atOk_set2 hok y4 (by decide) _ _, own_set2 (ownsRow_base hr hW1s) y4 (by decide) _ _, below_e2 (HX.out.2.2.1.trans (hb4.mono HX.out.2.2.1.size)) (Nat.le_refl _) _ _⟩
  obtain ⟨rl, hrl⟩ : ∃ x, R.length = x := ⟨_, rfl⟩
  rw [hrl] at hst5 hW5 hRl ⊢
  have HRl := Lib.hid hrl
  have HW5 := Lib.hid hW5
  have HS5 := Lib.hid hst5
  obtain ⟨c0, c1⟩ := obj2s y4
  have f0 := obj_free y4 0
  have f1 := obj_free y4 1
  obtain ⟨k0, k1⟩ := obj2s hst5.1
  obtain ⟨l0, l1⟩ := obj2s hst5.2.1
  have m0 := obj_free hst5.2.1 0
  have m1 := obj_free hst5.2.1 1
  have hne : w.heap.size + 1 ≠ w.heap.size := by omega
  clear hok hr y4 q4 hb4 hst5 hW5 hrl
  go_wp2_with fail
  rw [HW5.out]
  clear c0 c1 f0 f1
  refine (HCo.out _ HS5.out.2.2.2.2).mono ?_
  rintro e w6 ⟨rfl, hw⟩
  obtain rfl := hw.symm
  have HWr := Lib.hid (rfl : W5 = W5)
  go_wp2
  obtain ⟨j0, j1⟩ := obj2s (set2_e HS5.out.2.1 (.string ⟨dn.toArray⟩) (.slice va rl vc))
  refine bodyPost_ret (v := .agg #[.string ⟨dn.toArray⟩, .slice va rl vc]) (by simp [results, Tryz.results7, go_sem, *]) rfl ?_
  exact selSt_end HS5.out
end Go.Proofs.YtjbdldbjefmnjaaGreatDoor
namespace Go.Proofs.YtjbdldbjefmnjaaGreatDoor
set_option linter.unusedSimpArgs false
set_option linter.unusedVariables false
open Go Go.RowKit Go.Proofs.BerK Go.Proofs.MemK Go.Proofs.UtfK
set_option maxHeartbeats 3200000 in
set_option maxRecDepth 100000 in
theorem sel_st (A : List Atr) (T : List (List UInt8)) (dn : List UInt8) (av tv : Value) (w : World) (h : EaAt w av A) (ht : TxR w tv T) (hf : FewE A) (hl : T.length ≤ 1000000) (hb : ∀ s ∈ T, s.length ≤ 100000) (hT : T ≠ []) (hS : inL T starL = true) :
    Calls Tryz.prog 7 #[.agg #[.string ⟨dn.toArray⟩, av], tv, .bool true] w (EnPostC dn ((clA A).map nilA) w) := by
  obtain ⟨a, c, rfl⟩ := eaAt_slice h
  obtain ⟨W1, hW1⟩ : ∃ W1, (w.alloc (.cells #[.string ⟨dn.toArray⟩, .slice a A.length c] 24)).alloc (.cells #[.string ⟨#[]⟩, .slice none 0 0] 24) = W1 := ⟨_, rfl⟩
  obtain ⟨x0, x1, hb1, hz1⟩ := boxes10 hW1
  have HCl := Lib.hid (fun w' (hb : Below W1.heap.size W1 w') => eclean_any A dn _ w' (eaAt_below (eaAt_below h hb1) hb) hf)
  have HCf := Lib.hid (fewG_cl (m := 1000) (k := 1000) hf)
  have HTx := Lib.hid ht
  have HCo := Lib.hid (fun w' (hb : Below w.heap.size w w') => contains_any T starL tv w' (txR_below ht hb) hl)
  rw [hS] at HCo
  obtain ⟨ta, tc, rfl, _⟩ := ht
  obtain ⟨tl, htl⟩ : ∃ x, T.length = x := ⟨_, rfl⟩
  have htl0 : 0 < tl := by
    rcases Nat.eq_zero_or_pos tl with h0 | h0
    · exact absurd (List.eq_nil_of_length_eq_zero (htl.trans h0)) hT
    · exact h0
  have htli : (0 : Int) < (tl : Int) := by omega
  rw [htl] at HCo ⊢
  have HW1 := Lib.hid hW1
  obtain ⟨n, hn⟩ : ∃ n, A.length = n := ⟨_, rfl⟩
  rw [hn] at HCl HW1 x0 ⊢
  have HX := Lib.hid (And.intro x0 (And.intro x1 (And.intro hb1 hz1)))
  obtain ⟨R, hR⟩ : ∃ R, clA A = R := ⟨_, rfl⟩
  rw [hR] at HCl HCf ⊢
  obtain ⟨e0, e1⟩ := obj2s x0
  rw [← hW1] at e0 e1
  have hW1s : w.heap.size + 2 ≤ W1.heap.size := by omega
  clear h hf x0 x1 hb1 hW1 hn hR hT hl hb htl hS
  go_enter Tryz.func7, Tryz.ntmps7
  go_wp2_with fail
  rw [HW1.out]
  refine (HCl.out _ (Below.refl _ W1)).mono ?_
  rintro e w4 ⟨v, Lq, rfl, hok, hr, hb4⟩
  clear e0 e1
  have hRl := HCf.out.1
  have y4 := obj_below HX.out.1 hb4 (by omega)
  have q4 := obj_below HX.out.2.1 hb4 (by omega)
  obtain ⟨va, vc, rfl⟩ := ownsRow_slice hr
  obtain ⟨W5, hW5⟩ : ∃ W5, (w4.setCell ⟨w.heap.size, 0, none⟩ (.string ⟨dn.toArray⟩)).setCell ⟨w.heap.size, 1, none⟩ (.slice va R.length vc) = W5 := ⟨_, rfl⟩
  have hst5 : SelSt w dn R (.slice va R.length vc) Lq W5 := by
    rw [← hW5]
    exact ⟨set2_e y4 _ _, obj_set_other (obj_set_other q4 (by show _ ≠ w.heap.size; omega) _) (by show _ ≠ w.heap.size; omega) _, atOk_set2 hok y4 (by decide) _ _, own_set2 (ownsRow_base hr hW1s) y4 (by decide) _ _, below_e2 (HX.out.2.2.1.trans (hb4.mono HX.out.2.2.1.size)) (Nat.le_refl _) _ _⟩
  obtain ⟨rl, hrl⟩ : ∃ x, R.length = x := ⟨_, rfl⟩
  rw [hrl] at hst5 hW5 hRl ⊢
  have HRl := Lib.hid hrl
  have HW5 := Lib.hid hW5
  have HS5 := Lib.hid hst5
  obtain ⟨c0, c1⟩ := obj2s y4
  have f0 := obj_free y4 0
  have f1 := obj_free y4 1
  obtain ⟨k0, k1⟩ := obj2s hst5.1
  obtain ⟨l0, l1⟩ := obj2s hst5.2.1
  have m0 := obj_free hst5.2.1 0
  have m1 := obj_free hst5.2.1 1
  have hne : w.heap.size + 1 ≠ w.heap.size := by omega
  clear hok hr y4 q4 hb4 hst5 hW5 hrl
  go_wp2_with fail
  rw [HW5.out]
  clear c0 c1 f0 f1
  refine (HCo.out _ HS5.out.2.2.2.2).mono ?_
  rintro e w6 ⟨rfl, hw⟩
  obtain rfl := hw.symm
  have HWr := Lib.hid (rfl : W5 = W5)
  go_wp2
  try go_loopw [30] (fun v wr => ∃ (i : Nat) (Lz : List (List UInt8 × Value)), i ≤ rl ∧ v = .int .i64 (i : Nat) ∧ SelSt w dn (niL R i) (.slice va rl vc) Lz wr) (fun v _ => rl - (intOf v).toNat)
  case atStart => exact ⟨0, _, by omega, rfl, by rw [ni_0]; exact HS5.out⟩
  case round =>
    clear k0 k1 l0 l1 m0 m1
    obtain ⟨i, Lz, hi, rfl, hS⟩ := hrel
    obtain ⟨k0, k1⟩ := obj2s hS.1
    have hml : (niL R i).length = rl := by rw [← HRl.out]; exact ni_len _ i (by rw [HRl.out]; exact hi)
    by_cases hlt : i < rl
    · have hil : (i : Int) < (rl : Int) := by omega
      have hiR : i < (R).length := by rw [HRl.out]; exact hlt
      have him : i < (niL R i).length := by omega
      obtain ⟨og, oc, eo, hogB, hogl⟩ := own_block hS.2.2.2.1 (by omega)
      injection eo with eo1 eo2 eo3
      subst eo1 eo3
      clear eo2
      have hqz := hS.2.2.1.1
      obtain ⟨r1, r2⟩ := atcs_at Lz i (by omega)
      have hrw := hS.2.2.2.1
      rw [hml] at hrw
      have p1 := (hrw.cellAt (i * 2 + 1) (by omega)).trans r2
      have f1 := hrw.frozenAt (i * 2 + 1)
      obtain ⟨pv, hpv⟩ : ∃ x, (Lz[i]'(by omega)).2 = x := ⟨_, rfl⟩
      rw [hpv] at p1
      have hst := ni_step R i hiR
      have HN := Lib.hid (And.intro (selSt_nil hS i him ((R)[i].1) (ni_at _ i hiR him)) hst)
      clear hS hst r1 r2 hml hogB hogl hpv hqz hrw
      go_wp2
      exact ⟨⟨i + 1, Lz.set i ((R)[i].1, Value.slice none 0 0), by omega, by go_num, by rw [HN.out.2]; exact HN.out.1⟩, by simp [intOf]; omega⟩
    · obtain rfl : i = rl := by omega
      have hma : niL R i = (R).map nilA := by rw [← HRl.out]; exact ni_all _
      rw [hma] at hS
      obtain ⟨l0, l1⟩ := obj2s hS.2.1
      have m0 := obj_free hS.2.1 0
      have m1 := obj_free hS.2.1 1
      have HZ := Lib.hid hS
      clear hS hma hml
      go_wp2
      obtain ⟨j0, j1⟩ := obj2s (set2_e HZ.out.2.1 (.string ⟨dn.toArray⟩) (.slice va i vc))
      refine bodyPost_ret (v := .agg #[.string ⟨dn.toArray⟩, .slice va i vc]) (by simp [results, Tryz.results7, go_sem, *]) rfl ?_
      exact selSt_end HZ.out
end Go.Proofs.YtjbdldbjefmnjaaGreatDoor
namespace Go.Proofs.YtjbdldbjefmnjaaGreatDoor
set_option linter.unusedSimpArgs false
set_option linter.unusedVariables false
open Go Go.RowKit Go.Proofs.BerK Go.Proofs.MemK Go.Proofs.UtfK
set_option maxHeartbeats 3200000 in
set_option maxRecDepth 100000 in
theorem sel_af (A : List Atr) (T : List (List UInt8)) (dn : List UInt8) (av tv : Value) (w : World) (h : EaAt w av A) (ht : TxR w tv T) (hf : FewE A) (hl : T.length ≤ 1000000) (hb : ∀ s ∈ T, s.length ≤ 100000) (hT : T ≠ []) (hS : inL T starL = false) :
    Calls Tryz.prog 7 #[.agg #[.string ⟨dn.toArray⟩, av], tv, .bool false] w (EnPostC dn ((clA A).filter fun a => !(!inL (T.map lowL) a.1)) w) := by
  obtain ⟨a, c, rfl⟩ := eaAt_slice h
  obtain ⟨W1, hW1⟩ : ∃ W1, (w.alloc (.cells #[.string ⟨dn.toArray⟩, .slice a A.length c] 24)).alloc (.cells #[.string ⟨#[]⟩, .slice none 0 0] 24) = W1 := ⟨_, rfl⟩
  obtain ⟨x0, x1, hb1, hz1⟩ := boxes10 hW1
  have HCl := Lib.hid (fun w' (hb : Below W1.heap.size W1 w') => eclean_any A dn _ w' (eaAt_below (eaAt_below h hb1) hb) hf)
  have HCf := Lib.hid (fewG_cl (m := 1000) (k := 1000) hf)
  have HTx := Lib.hid ht
  have HCo := Lib.hid (fun w' (hb : Below w.heap.size w w') => contains_any T starL tv w' (txR_below ht hb) hl)
  rw [hS] at HCo
  have HEl := Lib.hid (fun w' (hb' : Below w.heap.size w w') => enlower_any T tv w' (txR_below ht hb') hl (fun s hs => by have := hb s hs; omega))
  obtain ⟨N, hN⟩ : ∃ N, T.map lowL = N := ⟨_, rfl⟩
  rw [hN] at HEl ⊢
  obtain ⟨ta, tc, rfl, _⟩ := ht
  obtain ⟨tl, htl⟩ : ∃ x, T.length = x := ⟨_, rfl⟩
  have htl0 : 0 < tl := by
    rcases Nat.eq_zero_or_pos tl with h0 | h0
    · exact absurd (List.eq_nil_of_length_eq_zero (htl.trans h0)) hT
    · exact h0
  have htli : (0 : Int) < (tl : Int) := by omega
  rw [htl] at HCo HEl ⊢
  have HW1 := Lib.hid hW1
  obtain ⟨n, hn⟩ : ∃ n, A.length = n := ⟨_, rfl⟩
  rw [hn] at HCl HW1 x0 ⊢
  have HX := Lib.hid (And.intro x0 (And.intro x1 (And.intro hb1 hz1)))
  obtain ⟨R, hR⟩ : ∃ R, clA A = R := ⟨_, rfl⟩
  rw [hR] at HCl HCf ⊢
  obtain ⟨F, hF⟩ : ∃ F, (R.filter fun q => !(!inL N q.1)) = F := ⟨_, rfl⟩
  rw [hF]
  have HF := Lib.hid hF
  clear hF hN
  obtain ⟨e0, e1⟩ := obj2s x0
  rw [← hW1] at e0 e1
  have hW1s : w.heap.size + 2 ≤ W1.heap.size := by omega
  clear h hf x0 x1 hb1 hW1 hn hR hT hl hb htl hS
  go_enter Tryz.func7, Tryz.ntmps7
  go_wp2_with fail
  rw [HW1.out]
  refine (HCl.out _ (Below.refl _ W1)).mono ?_
  rintro e w4 ⟨v, Lq, rfl, hok, hr, hb4⟩
  clear e0 e1
  have hRl := HCf.out.1
  have y4 := obj_below HX.out.1 hb4 (by omega)
  have q4 := obj_below HX.out.2.1 hb4 (by omega)
  obtain ⟨va, vc, rfl⟩ := ownsRow_slice hr
  obtain ⟨W5, hW5⟩ : ∃ W5, (w4.setCell ⟨w.heap.size, 0, none⟩ (.string ⟨dn.toArray⟩)).setCell ⟨w.heap.size, 1, none⟩ (.slice va R.length vc) = W5 := ⟨_, rfl⟩
  have hst5 : SelSt w dn R (.slice va R.length vc) Lq W5 := by
    rw [← hW5]
    exact ⟨set2_e y4 _ _, obj_set_other (obj_set_other q4 (by show _ ≠ w.heap.size; omega) _) (by show _ ≠ w.heap.size; omega) _, atOk_set2 hok y4 (by decide) _ _, own_set2 (ownsRow_base hr hW1s) y4 (by decide) _ _, below_e2 (HX.out.2.2.1.trans (hb4.mono HX.out.2.2.1.size)) (Nat.le_refl _) _ _⟩
  obtain ⟨rl, hrl⟩ : ∃ x, R.length = x := ⟨_, rfl⟩
  rw [hrl] at hst5 hW5 hRl ⊢
  have HRl := Lib.hid hrl
  have HW5 := Lib.hid hW5
  have HS5 := Lib.hid hst5
  obtain ⟨c0, c1⟩ := obj2s y4
  have f0 := obj_free y4 0
  have f1 := obj_free y4 1
  obtain ⟨k0, k1⟩ := obj2s hst5.1
  obtain ⟨l0, l1⟩ := obj2s hst5.2.1
  have m0 := obj_free hst5.2.1 0
  have m1 := obj_free hst5.2.1 1
  have hne : w.heap.size + 1 ≠ w.heap.size := by omega
  clear hok hr y4 q4 hb4 hst5 hW5 hrl
  go_wp2_with fail
  rw [HW5.out]
  clear c0 c1 f0 f1
  refine (HCo.out _ HS5.out.2.2.2.2).mono ?_
  rintro e w6 ⟨rfl, hw⟩
  obtain rfl := hw.symm
  go_wp2_with fail
  refine (HEl.out _ HS5.out.2.2.2.2).mono ?_
  rintro e w7 ⟨mb, mc, rfl, hst, hmb, hb7⟩
  obtain ⟨W8, hW8⟩ : ∃ W8, w7.alloc (.cells #[.map (some mb)] 42) = W8 := ⟨_, rfl⟩
  have hb78 : Below w7.heap.size w7 W8 := by rw [← hW8]; exact (Below.refl _ w7).alloc (Nat.le_refl _) _
  have n8 : W8.heap[w7.heap.size]? = some (.cells #[.map (some mb)] 42 (0, 0)) := by rw [← hW8]; exact heap_alloc_new w7 _
  have hs7 := hb7.size
  have hb58 : Below W5.heap.size W5 W8 := hb7.trans (hb78.mono hs7)
  have hst8 := stAt_below hst hb78 (stAt_lt hst)
  have hS8 := selSt_below HS5.out hb58
  have hkB : ∀ k, some k = (Value.slice va rl vc).ownBlock → k < W5.heap.size := fun k hk => (HS5.out.2.2.2.1.lt k hk.symm).2
  have hcl : ClS (fun t => !inL N t) (.slice va rl vc) (.pointer (some ⟨w7.heap.size, 0, none⟩)) W8 := fun W t a n c htl hch => by
    have hnW : w7.heap.size < W8.heap.size := obj_lt n8
    refine select1_any N t w7.heap.size mb mc a n c W ?_ (Nat.lt_of_lt_of_le hnW hch.size) (stAt_block hst8 ?_) htl
    · exact (chg_cell hch hnW (fun e => by have := hkB _ e; omega) 0).trans (obj1s n8)
    · exact hch.block mb (stAt_lt hst8) (fun e => by have := hkB _ e; omega)
  have hr8 := hS8.2.2.2.1
  rw [HRl.out] at hr8
  have HDel := Lib.hid (delS_any (fun t => !inL N t) Lq rl (w.heap.size + 2) _ W8 _ hr8 (atOk_slice hS8.2.2.1 (fun q hq => by have := (HCf.out.2 q hq).1; omega)) hcl (by omega))
  have HW8 := Lib.hid hW8
  have HS8 := Lib.hid hS8
  clear k0 k1 l0 l1 m0 m1
  obtain ⟨k0, k1⟩ := obj2s hS8.1
  rw [← hW8] at k0 k1
  clear hst hmb hb7 hW8 hb78 n8 hs7 hb58 hst8 hS8 hkB hcl hr8
  go_wp2_with fail
  rw [HW8.out]
  refine HDel.out.mono ?_
  rintro e w9 ⟨v', rfl, hr9, hc9⟩
  clear k0 k1
  have hB9 : ∀ k, some k = (Value.slice va rl vc).ownBlock → w.heap.size + 2 ≤ k := fun k hk => (HS8.out.2.2.2.1.lt k hk.symm).1
  have y9 := obj_chg HS8.out.1 hc9 (fun e => by have := hB9 _ e; omega)
  have hS10 := selSt_del HS8.out (fun t => !inL N t) hr9 hc9
  rw [HF.out] at hS10
  obtain ⟨za, zc, rfl⟩ := ownsRow_slice hr9
  have hfl := hS10.2.2.1.1
  obtain ⟨fl, hflx⟩ : ∃ x, F.length = x := ⟨_, rfl⟩
  rw [hflx] at hfl
  rw [hfl] at hS10 ⊢
  obtain ⟨W10, hW10⟩ : ∃ W10, w9.setCell ⟨w.heap.size, 1, none⟩ (.slice za fl zc) = W10 := ⟨_, rfl⟩
  obtain ⟨c0, c1⟩ := obj2s y9
  have f1 := obj_free y9 1
  rw [hW10] at hS10
  obtain ⟨k0, k1⟩ := obj2s hS10.1
  obtain ⟨l0, l1⟩ := obj2s hS10.2.1
  have m0 := obj_free hS10.2.1 0
  have m1 := obj_free hS10.2.1 1
  rw [← hW10] at k0 k1 l0 l1 m0 m1
  have HW10 := Lib.hid hW10
  have HS10 := Lib.hid hS10
  have HFl := Lib.hid hflx
  have hfb : fl ≤ rl := by
    rw [← hflx, ← HF.out, ← HRl.out]
    exact List.length_filter_le _ _
  clear hr9 hc9 hB9 y9 hS10 hfl hflx hW10 HRl
  go_wp2
  rw [HW10.out]
  obtain ⟨j0, j1⟩ := obj2s (set2_e HS10.out.2.1 (.string ⟨dn.toArray⟩) (.slice za fl zc))
  refine bodyPost_ret (v := .agg #[.string ⟨dn.toArray⟩, .slice za fl zc]) (by simp [results, Tryz.results7, go_sem, *]) rfl ?_
  exact selSt_end HS10.out
end Go.Proofs.YtjbdldbjefmnjaaGreatDoor
namespace Go.Proofs.YtjbdldbjefmnjaaGreatDoor
set_option linter.unusedSimpArgs false
set_option linter.unusedVariables false
open Go Go.RowKit Go.Proofs.BerK Go.Proofs.MemK Go.Proofs.UtfK
set_option maxHeartbeats 3200000 in
set_option maxRecDepth 100000 in
theorem sel_at (A : List Atr) (T : List (List UInt8)) (dn : List UInt8) (av tv : Value) (w : World) (h : EaAt w av A) (ht : TxR w tv T) (hf : FewE A) (hl : T.length ≤ 1000000) (hb : ∀ s ∈ T, s.length ≤ 100000) (hT : T ≠ []) (hS : inL T starL = false) :
    Calls Tryz.prog 7 #[.agg #[.string ⟨dn.toArray⟩, av], tv, .bool true] w (EnPostC dn (((clA A).filter fun a => !(!inL (T.map lowL) a.1)).map nilA) w) := by
  obtain ⟨a, c, rfl⟩ := eaAt_slice h
  obtain ⟨W1, hW1⟩ : ∃ W1, (w.alloc (.cells #[.string ⟨dn.toArray⟩, .slice a A.length c] 24)).alloc (.cells #[.string ⟨#[]⟩, .slice none 0 0] 24) = W1 := ⟨_, rfl⟩
  obtain ⟨x0, x1, hb1, hz1⟩ := boxes10 hW1
  have HCl := Lib.hid (fun w' (hb : Below W1.heap.size W1 w') => eclean_any A dn _ w' (eaAt_below (eaAt_below h hb1) hb) hf)
  have HCf := Lib.hid (fewG_cl (m := 1000) (k := 1000) hf)
  have HTx := Lib.hid ht
  have HCo := Lib.hid (fun w' (hb : Below w.heap.size w w') => contains_any T starL tv w' (txR_below ht hb) hl)
  rw [hS] at HCo
  have HEl := Lib.hid (fun w' (hb' : Below w.heap.size w w') => enlower_any T tv w' (txR_below ht hb') hl (fun s hs => by have := hb s hs; omega))
  obtain ⟨N, hN⟩ : ∃ N, T.map lowL = N := ⟨_, rfl⟩
  rw [hN] at HEl ⊢
  obtain ⟨ta, tc, rfl, _⟩ := ht
  obtain ⟨tl, htl⟩ : ∃ x, T.length = x := ⟨_, rfl⟩
  have htl0 : 0 < tl := by
    rcases Nat.eq_zero_or_pos tl with h0 | h0
    · exact absurd (List.eq_nil_of_length_eq_zero (htl.trans h0)) hT
    · exact h0
  have htli : (0 : Int) < (tl : Int) := by omega
  rw [htl] at HCo HEl ⊢
  have HW1 := Lib.hid hW1
  obtain ⟨n, hn⟩ : ∃ n, A.length = n := ⟨_, rfl⟩
  rw [hn] at HCl HW1 x0 ⊢
  have HX := Lib.hid (And.intro x0 (And.intro x1 (And.intro hb1 hz1)))
  obtain ⟨R, hR⟩ : ∃ R, clA A = R := ⟨_, rfl⟩
  rw [hR] at HCl HCf ⊢
  obtain ⟨F, hF⟩ : ∃ F, (R.filter fun q => !(!inL N q.1)) = F := ⟨_, rfl⟩
  rw [hF]
  have HF := Lib.hid hF
  clear hF hN
  obtain ⟨e0, e1⟩ := obj2s x0
  rw [← hW1] at e0 e1
  have hW1s : w.heap.size + 2 ≤ W1.heap.size := by omega
  clear h hf x0 x1 hb1 hW1 hn hR hT hl hb htl hS
  go_enter Tryz.func7, Tryz.ntmps7
  go_wp2_with fail
  rw [HW1.out]
  refine (HCl.out _ (Below.refl _ W1)).mono ?_
  rintro e w4 ⟨v, Lq, rfl, hok, hr, hb4⟩
  clear e0 e1
  have hRl := HCf.out.1
  have y4 := obj_below HX.out.1 hb4 (by omega)
  have q4 := obj_below HX.out.2.1 hb4 (by omega)
  obtain ⟨va, vc, rfl⟩ := ownsRow_slice hr
  obtain ⟨W5, hW5⟩ : ∃ W5, (w4.setCell ⟨w.heap.size, 0, none⟩ (.string ⟨dn.toArray⟩)).setCell ⟨w.heap.size, 1, none⟩ (.slice va R.length vc) = W5 := ⟨_, rfl⟩
  have hst5 : SelSt w dn R (.slice va R.length vc) Lq W5 := by
    rw [← hW5]
    exact ⟨set2_e y4 _ _, obj_set_other (obj_set_other q4 (by show _ ≠ w.heap.size; omega) _) (by show _ ≠ w.heap.size; omega) _, atOk_set2 hok y4 (by decide) _ _, own_set2 (ownsRow_base hr hW1s) y4 (by decide) _ _, below_e2 (HX.out.2.2.1.trans (hb4.mono HX.out.2.2.1.size)) (Nat.le_refl _) _ _⟩
  obtain ⟨rl, hrl⟩ : ∃ x, R.length = x := ⟨_, rfl⟩
  rw [hrl] at hst5 hW5 hRl ⊢
  have HRl := Lib.hid hrl
  have HW5 := Lib.hid hW5
  have HS5 := Lib.hid hst5
  obtain ⟨c0, c1⟩ := obj2s y4
  have f0 := obj_free y4 0
  have f1 := obj_free y4 1
  obtain ⟨k0, k1⟩ := obj2s hst5.1
  obtain ⟨l0, l1⟩ := obj2s hst5.2.1
  have m0 := obj_free hst5.2.1 0
  have m1 := obj_free hst5.2.1 1
  have hne : w.heap.size + 1 ≠ w.heap.size := by omega
  clear hok hr y4 q4 hb4 hst5 hW5 hrl
  go_wp2_with fail
  rw [HW5.out]
  clear c0 c1 f0 f1
  refine (HCo.out _ HS5.out.2.2.2.2).mono ?_
  rintro e w6 ⟨rfl, hw⟩
  obtain rfl := hw.symm
  go_wp2_with fail
  refine (HEl.out _ HS5.out.2.2.2.2).mono ?_
  rintro e w7 ⟨mb, mc, rfl, hst, hmb, hb7⟩
  obtain ⟨W8, hW8⟩ : ∃ W8, w7.alloc (.cells #[.map (some mb)] 42) = W8 := ⟨_, rfl⟩
  have hb78 : Below w7.heap.size w7 W8 := by rw [← hW8]; exact (Below.refl _ w7).alloc (Nat.le_refl _) _
  have n8 : W8.heap[w7.heap.size]? = some (.cells #[.map (some mb)] 42 (0, 0)) := by rw [← hW8]; exact heap_alloc_new w7 _
  have hs7 := hb7.size
  have hb58 : Below W5.heap.size W5 W8 := hb7.trans (hb78.mono hs7)
  have hst8 := stAt_below hst hb78 (stAt_lt hst)
  have hS8 := selSt_below HS5.out hb58
  have hkB : ∀ k, some k = (Value.slice va rl vc).ownBlock → k < W5.heap.size := fun k hk => (HS5.out.2.2.2.1.lt k hk.symm).2
  have hcl : ClS (fun t => !inL N t) (.slice va rl vc) (.pointer (some ⟨w7.heap.size, 0, none⟩)) W8 := fun W t a n c htl hch => by
    have hnW : w7.heap.size < W8.heap.size := obj_lt n8
    refine select1_any N t w7.heap.size mb mc a n c W ?_ (Nat.lt_of_lt_of_le hnW hch.size) (stAt_block hst8 ?_) htl
    · exact (chg_cell hch hnW (fun e => by have := hkB _ e; omega) 0).trans (obj1s n8)
    · exact hch.block mb (stAt_lt hst8) (fun e => by have := hkB _ e; omega)
  have hr8 := hS8.2.2.2.1
  rw [HRl.out] at hr8
  have HDel := Lib.hid (delS_any (fun t => !inL N t) Lq rl (w.heap.size + 2) _ W8 _ hr8 (atOk_slice hS8.2.2.1 (fun q hq => by have := (HCf.out.2 q hq).1; omega)) hcl (by omega))
  have HW8 := Lib.hid hW8
  have HS8 := Lib.hid hS8
  clear k0 k1 l0 l1 m0 m1
  obtain ⟨k0, k1⟩ := obj2s hS8.1
  rw [← hW8] at k0 k1
  clear hst hmb hb7 hW8 hb78 n8 hs7 hb58 hst8 hS8 hkB hcl hr8
  go_wp2_with fail
  rw [HW8.out]
  refine HDel.out.mono ?_
  rintro e w9 ⟨v', rfl, hr9, hc9⟩
  clear k0 k1
  have hB9 : ∀ k, some k = (Value.slice va rl vc).ownBlock → w.heap.size + 2 ≤ k := fun k hk => (HS8.out.2.2.2.1.lt k hk.symm).1
  have y9 := obj_chg HS8.out.1 hc9 (fun e => by have := hB9 _ e; omega)
  have hS10 := selSt_del HS8.out (fun t => !inL N t) hr9 hc9
  rw [HF.out] at hS10
  obtain ⟨za, zc, rfl⟩ := ownsRow_slice hr9
  have hfl := hS10.2.2.1.1
  obtain ⟨fl, hflx⟩ : ∃ x, F.length = x := ⟨_, rfl⟩
  rw [hflx] at hfl
  rw [hfl] at hS10 ⊢
  obtain ⟨W10, hW10⟩ : ∃ W10, w9.setCell ⟨w.heap.size, 1, none⟩ (.slice za fl zc) = W10 := ⟨_, rfl⟩
  obtain ⟨c0, c1⟩ := obj2s y9
  have f1 := obj_free y9 1
  rw [hW10] at hS10
  obtain ⟨k0, k1⟩ := obj2s hS10.1
  obtain ⟨l0, l1⟩ := obj2s hS10.2.1
  have m0 := obj_free hS10.2.1 0
  have m1 := obj_free hS10.2.1 1
  rw [← hW10] at k0 k1 l0 l1 m0 m1
  have HW10 := Lib.hid hW10
  have HS10 := Lib.hid hS10
  have HFl := Lib.hid hflx
  have hfb : fl ≤ rl := by
    rw [← hflx, ← HF.out, ← HRl.out]
    exact List.length_filter_le _ _
  clear hr9 hc9 hB9 y9 hS10 hfl hflx hW10 HRl
  go_wp2
  try rw [HW10.out]
  go_loopw [30] (fun v wr => ∃ (i : Nat) (Lz : List (List UInt8 × Value)), i ≤ fl ∧ v = .int .i64 (i : Nat) ∧ SelSt w dn (niL F i) (.slice za fl zc) Lz wr) (fun v _ => fl - (intOf v).toNat)
  case atStart => exact ⟨0, _, by omega, rfl, by rw [ni_0]; exact HS10.out⟩
  case round =>
    clear k0 k1 l0 l1 m0 m1
    obtain ⟨i, Lz, hi, rfl, hS⟩ := hrel
    obtain ⟨k0, k1⟩ := obj2s hS.1
    have hml : (niL F i).length = fl := by rw [← HFl.out]; exact ni_len _ i (by rw [HFl.out]; exact hi)
    by_cases hlt : i < fl
    · have hil : (i : Int) < (fl : Int) := by omega
      have hiR : i < (F).length := by rw [HFl.out]; exact hlt
      have him : i < (niL F i).length := by omega
      obtain ⟨og, oc, eo, hogB, hogl⟩ := own_block hS.2.2.2.1 (by omega)
      injection eo with eo1 eo2 eo3
      subst eo1 eo3
      clear eo2
      have hqz := hS.2.2.1.1
      obtain ⟨r1, r2⟩ := atcs_at Lz i (by omega)
      have hrw := hS.2.2.2.1
      rw [hml] at hrw
      have p1 := (hrw.cellAt (i * 2 + 1) (by omega)).trans r2
      have f1 := hrw.frozenAt (i * 2 + 1)
      obtain ⟨pv, hpv⟩ : ∃ x, (Lz[i]'(by omega)).2 = x := ⟨_, rfl⟩
      rw [hpv] at p1
      have hst := ni_step F i hiR
      have HN := Lib.hid (And.intro (selSt_nil hS i him ((F)[i].1) (ni_at _ i hiR him)) hst)
      clear hS hst r1 r2 hml hogB hogl hpv hqz hrw
      go_wp2
      exact ⟨⟨i + 1, Lz.set i ((F)[i].1, Value.slice none 0 0), by omega, by go_num, by rw [HN.out.2]; exact HN.out.1⟩, by simp [intOf]; omega⟩
    · obtain rfl : i = fl := by omega
      have hma : niL F i = (F).map nilA := by rw [← HFl.out]; exact ni_all _
      rw [hma] at hS
      obtain ⟨l0, l1⟩ := obj2s hS.2.1
      have m0 := obj_free hS.2.1 0
      have m1 := obj_free hS.2.1 1
      have HZ := Lib.hid hS
      clear hS hma hml
      go_wp2
      obtain ⟨j0, j1⟩ := obj2s (set2_e HZ.out.2.1 (.string ⟨dn.toArray⟩) (.slice za i zc))
      refine bodyPost_ret (v := .agg #[.string ⟨dn.toArray⟩, .slice za i zc]) (by simp [results, Tryz.results7, go_sem, *]) rfl ?_
      exact selSt_end HZ.out
end Go.Proofs.YtjbdldbjefmnjaaGreatDoor
namespace Go.Proofs.YtjbdldbjefmnjaaGreatDoor
set_option linter.unusedSimpArgs false
set_option linter.unusedVariables false
open Go Go.RowKit Go.Proofs.BerK Go.Proofs.MemK Go.Proofs.UtfK

theorem select_any (A : List Atr) (T : List (List UInt8)) (dn : List UInt8) (av tv : Value) (ty : Bool) (w : World) (h : EaAt w av A) (ht : TxR w tv T) (hf : FewE A) (hl : T.length ≤ 1000000) (hb : ∀ s ∈ T, s.length ≤ 100000) :
    Calls Tryz.prog 7 #[.agg #[.string ⟨dn.toArray⟩, av], tv, .bool ty] w (EnPostC dn (seL A T ty) w) := by
  by_cases hT : T = []
  · have e : selF A T = clA A := by unfold selF; rw [if_pos (Or.inl hT)]
    cases ty
    · rw [show seL A T false = clA A by simp [seL, e]]
      exact sel_ef A T dn av tv w h ht hf hl hb hT
    · rw [show seL A T true = (clA A).map nilA by simp [seL, e]]
      exact sel_et A T dn av tv w h ht hf hl hb hT
  · cases hS : inL T starL with
    | true =>
      have e : selF A T = clA A := by unfold selF; rw [if_pos (Or.inr hS)]
      cases ty
      · rw [show seL A T false = clA A by simp [seL, e]]
        exact sel_sf A T dn av tv w h ht hf hl hb hT hS
      · rw [show seL A T true = (clA A).map nilA by simp [seL, e]]
        exact sel_st A T dn av tv w h ht hf hl hb hT hS
    | false =>
      have e : selF A T = (clA A).filter fun a => !(!inL (T.map lowL) a.1) := by
        unfold selF
        rw [if_neg (by rintro (h | h); exact hT h; rw [hS] at h; cases h)]
      cases ty
      · rw [show seL A T false = (clA A).filter fun a => !(!inL (T.map lowL) a.1) by rw [← e]; rfl]
        exact sel_af A T dn av tv w h ht hf hl hb hT hS
      · rw [show seL A T true = ((clA A).filter fun a => !(!inL (T.map lowL) a.1)).map nilA by rw [← e]; rfl]
        exact sel_at A T dn av tv w h ht hf hl hb hT hS
/-! ### the document's -/
def allB (T : List (List UInt8)) : Bool := T.isEmpty || inL T starL
def rsP (T : List (List UInt8)) (a : Atr) : Bool := allB T || inL (T.map lowL) a.1
def rsM (ty : Bool) (a : Atr) : Atr := if ty = true then nilA a else a
def rsL (C : List Atr) (T : List (List UInt8)) (ty : Bool) : List Atr := (C.filter (rsP T)).map (rsM ty)
theorem rs_eq (A : List Atr) (T : List (List UInt8)) (ty : Bool) : rsL (clA A) T ty = seL A T ty := by
  have h1 : (clA A).filter (rsP T) = selF A T := by
    unfold selF
    by_cases h : T = [] ∨ inL T starL = true
    · rw [if_pos h]
      have : allB T = true := by
        unfold allB
        rcases h with h | h
        · simp [h]
        · simp [h]
      exact List.filter_eq_self.2 fun a _ => by simp [rsP, this]
    · rw [if_neg h]
      have : allB T = false := by
        unfold allB
        rw [Bool.or_eq_false_iff]
        refine ⟨?_, ?_⟩
        · cases T with
          | nil => exact absurd (.inl rfl) h
          | cons x T => rfl
        · cases hq : inL T starL
          · rfl
          · exact absurd (.inr hq) h
      refine List.filter_congr fun a _ => ?_
      simp [rsP, this]
  unfold rsL seL
  rw [h1]
  cases ty
  · rw [show rsM false = id by funext a; simp [rsM]]; simp
  · rw [show rsM true = nilA by funext a; simp [rsM]]; simp
theorem rs_step (C : List Atr) (T : List (List UInt8)) (ty : Bool) (i : Nat) (hi : i < C.length) : rsL (C.take (i + 1)) T ty = if rsP T C[i] = true then rsL (C.take i) T ty ++ [rsM ty C[i]] else rsL (C.take i) T ty := by
  unfold rsL
  rw [List.take_succ_eq_append_getElem hi, List.filter_append, List.map_append]
  by_cases h : rsP T C[i] = true
  · rw [if_pos h]; simp [List.filter, h]
  · rw [if_neg h]; simp [List.filter, h]
theorem rs_len (C : List Atr) (T : List (List UInt8)) (ty : Bool) (i : Nat) : (rsL (C.take i) T ty).length ≤ C.length := by
  unfold rsL
  rw [List.length_map]
  have h1 := List.length_filter_le (rsP T) (C.take i)
  rw [List.length_take] at h1
  omega
end Go.Proofs.YtjbdldbjefmnjaaGreatDoor
