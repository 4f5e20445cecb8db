/- The code's Apply: modifications, one behind the other. The code's Naming. The code's Naming: all pairs of the own part. Modifications reckoned without sorting; the example's answers. -/
import Derived.Test.YtpkbgkoocijegaaGreatDoorMo2
import Derived.Test.YtpkbgkoocijegaaGreatDoorEnHO
import Derived.Test.YtpkbgkoocijegaaGreatDoorSnUW
import Derived.Test.YtpkbgkoocijegaaGreatDoorMo1
import Derived.Test.YtpkbgkoocijegaaGreatDoorDtK
import Derived.Test.YtpkbgkoocijegaaGreatDoorDtPN
import Derived.Test.YtpkbgkoocijegaaGreatDoorDrCE
import Derived.Test.YtpkbgkoocijegaaGreatDoorEnXZ
import Derived.Test.YtpkbgkoocijegaaGreatDoorEnCE
set_option linter.unusedVariables false
set_option linter.unusedSimpArgs false
set_option maxHeartbeats 25600000
set_option maxRecDepth 100000
namespace Go.Proofs.YtpkbgkoocijegaaGreatDoor
open Go Go.RowKit Go.Proofs.BerK Go.Proofs.MemK Go.Proofs.UtfK Go.Maps Go.WideMaps
def MdsAt (w : World) (v : Value) (l : List Md) : Prop :=
 ∃ a c, v = .slice a l.length c /\ ∀ i (hi : i < l.length), ∃ g o vl, a = some ⟨g, o, none⟩ /\ g < w.heap.size /\ w.cell? ⟨g, o + i * 3, none⟩ = some (.int .i64 l[i].1) /\ w.cell? ⟨g, o + i * 3 + 1, none⟩ = some (.string ⟨l[i].2.1.toArray⟩) /\ w.cell? ⟨g, o + i * 3 + 2, none⟩ = some vl /\ TxR w vl l[i].2.2 /\ SlOk vl
theorem mdsAt_below {w w' : World} {v : Value} {l : List Md} (h : MdsAt w v l) (hb : Below w.heap.size w w') : MdsAt w' v l := by
 obtain ⟨a, c, rfl, h⟩ := h
 refine ⟨a, c, rfl, fun i hi => ?_⟩
 obtain ⟨g, o, vl, h1, h2, h3, h4, h5, h6, h7⟩ := h i hi
 exact ⟨g, o, vl, h1, Nat.lt_of_lt_of_le h2 hb.size, (hb.cell (p := ⟨g, _, none⟩) h2).trans h3, (hb.cell (p := ⟨g, _, none⟩) h2).trans h4, (hb.cell (p := ⟨g, _, none⟩) h2).trans h5, txR_below h6 hb, h7⟩
def MdsFew (l : List Md) : Prop := ∀ m ∈ l, m.2.1.length <= 80 /\ m.2.2.length <= 8 /\ ∀ s ∈ m.2.2, s.length <= 300
def mdApp (A : List Atr) (l : List Md) : List Atr × Int := if 64 < l.length then ([], 53) else mdAll (clA A) l
def MtPost (dn : List UInt8) (p : List Atr × Int) (w : World) (en : Ending) (w' : World) : Prop :=
 (p.2 ≠ 0 -> en = .returned (.tuple #[.agg #[.string ⟨#[]⟩, .slice none 0 0], .int .i64 p.2])) /\ (p.2 = 0 -> ∃ v, en = .returned (.tuple #[.agg #[.string ⟨dn.toArray⟩, v], .int .i64 0]) /\ PaAt w' v p.1) /\ Below w.heap.size w w'
theorem mtPost_bad {dn : List UInt8} {p : List Atr × Int} {c : Int} {w w' : World} (h : p.2 = c) (hc : c ≠ 0) (hb : Below w.heap.size w w') : MtPost dn p w (.returned (.tuple #[.agg #[.string ⟨#[]⟩, .slice none 0 0], .int .i64 c])) w' :=
 ⟨fun _ => by rw [h], fun h2 => absurd (h.symm.trans h2) hc, hb⟩
theorem mtPost_ok {dn : List UInt8} {p : List Atr × Int} {L : List Atr} {v : Value} {w w' : World} (h : p = (L, 0)) (hv : PaAt w' v L) (hb : Below w.heap.size w w') : MtPost dn p w (.returned (.tuple #[.agg #[.string ⟨dn.toArray⟩, v], .int .i64 0])) w' := by
 subst h
 exact ⟨fun h2 => absurd rfl h2, fun _ => ⟨v, rfl, hv⟩, hb⟩
theorem mdOne_at {L : List Atr} {m : Md} {t : Ty} (h : scT plT m.2.1 = some t) : mdOne L m = mdAt m.1 t.2.1 L t.1 m.2.2 := by
 unfold mdOne mdAt
 rw [h, scT_name h]
 dsimp only
 rw [mdOp_low]
theorem mdOne_none {L : List Atr} {m : Md} (h : scT plT m.2.1 = none) : mdOne L m = ([], 17) := by unfold mdOne; rw [h]
theorem mdAll_step {L : List Atr} {l : List Md} (i : Nat) (hi : i < l.length) : mdAll L (l.drop i) = if (mdOne L l[i]).2 = 0 then mdAll (mdOne L l[i]).1 (l.drop (i + 1)) else ([], (mdOne L l[i]).2) := by
 rw [List.drop_eq_getElem_cons hi]; rfl
theorem mdApp_run {A : List Atr} {l : List Md} (h : l.length <= 8) : mdApp A l = mdAll (clA A) (l.drop 0) := by unfold mdApp; rw [if_neg (by omega), List.drop_zero]
theorem moapplyG_any (sb : Nat) (A : List Atr) (dn : List UInt8) (l : List Md) (av lv : Value) (w : World) (hsc : ScAt w sb plT plC) (hA : EaAt w av A) (hf : FewE A) (hc0 : Cln 84 104 (clA A)) (hL : MdsAt w lv l) (hfm : MdsFew l) (hll : l.length <= 8 \/ 64 < l.length) (he : ErrOk w) :
  Calls Tryz.prog 12 #[.pointer (some ⟨sb, 0, none⟩), .agg #[.string ⟨dn.toArray⟩, av], lv] w (MtPost dn (mdApp A l) w) := by
 obtain ⟨a, c, rfl⟩ := eaAt_slice hA
 obtain ⟨la, lc, rfl, hLc⟩ := hL
 obtain ⟨W1, hW1⟩ : ∃ W1, (w.alloc (.cells #[.string ⟨dn.toArray⟩, .slice a A.length c] 24)).alloc (.cells #[.string ⟨#[]⟩, .slice none 0 0] 24) = W1 := ⟨_, rfl⟩
 obtain ⟨x0, x1, hb1, hz1⟩ := boxes10 hW1
 have HCl := Lib.hid (eclean_any A dn (.slice a A.length c) W1 (eaAt_below hA hb1) hf)
 have HTy := Lib.hid (fun w' (hb : Below w.heap.size w w') s (hs : s.length <= 140737488355328) => stype_any sb plT plC s w' (scAt_below hsc hb) plT_lowT hs (by decide +kernel))
 have HAp := Lib.hid (fun (i : Nat) (hi : i < l.length) (h8 : l.length <= 8) (L : List Atr) (hC : Cln (84 + i) (104 + 8 * i) L) (t : Ty) (ht : scT plT l[i].2.1 = some t) w' (hb : Below w.heap.size w w') ea vv (hE : EaAt w' ea L) (hV : TxR w' vv l[i].2.2) (hk : SlOk vv) =>
  show Calls Tryz.prog 38 #[.agg #[.string ⟨t.1.toArray⟩, .int .i64 t.2.1, .bool t.2.2], .agg #[.string ⟨dn.toArray⟩, ea], .agg #[.int .i64 l[i].1, .string ⟨l[i].2.1.toArray⟩, vv]] w' (MdPost dn (mdOne L l[i]) w') from mdOne_at ht ▸ moap_any l[i].1 t.2.1 t.2.2 L dn t.1 l[i].2.1 l[i].2.2 ea vv w' hE (cln_mono hC (by omega) (by omega)) hV hk ((hfm _ (List.getElem_mem hi)).2.1) (fun s hs => by have := (hfm _ (List.getElem_mem hi)).2.2 s hs; omega) (by rw [scT_name ht, lowL_length]; have := (hfm _ (List.getElem_mem hi)).1; omega) (errOk_below he hb))
 have HCn := Lib.hid (fun (i : Nat) (hi : i < l.length) (L : List Atr) (hC : Cln (84 + i) (104 + 8 * i) L) (h0 : (mdOne L l[i]).2 = 0) => show Cln (84 + (i + 1)) (104 + 8 * (i + 1)) (mdOne L l[i]).1 from cln_mono (cln_one hC (by have := (hfm _ (List.getElem_mem hi)).1; omega) ((hfm _ (List.getElem_mem hi)).2.1) (fun s hs => by have := (hfm _ (List.getElem_mem hi)).2.2 s hs; omega) h0) (by omega) (by omega))
 have HC0 := Lib.hid (show Cln (84 + 0) (104 + 8 * 0) (clA A) from hc0)
 have HNb := Lib.hid (fun (i : Nat) (hi : i < l.length) => show l[i].2.1.length <= 140737488355328 by have := (hfm _ (List.getElem_mem hi)).1; omega)
 have HM := Lib.hid hLc
 have HX := Lib.hid (And.intro x0 (And.intro x1 (And.intro hb1 hz1)))
 have HW1 := Lib.hid hW1
 have hlong : 64 < l.length -> (mdApp A l).2 = 53 := fun h => by unfold mdApp; rw [if_pos h]
 have hrun : l.length <= 8 -> mdApp A l = mdAll (clA A) (l.drop 0) := mdApp_run
 obtain ⟨P, hP⟩ : ∃ P, mdApp A l = P := ⟨_, rfl⟩
 rw [hP] at hlong hrun ⊢
 have HSt := Lib.hid (fun L i hi => mdAll_step (L := L) (l := l) i hi)
 have HEnd := Lib.hid (fun L => show mdAll L (l.drop l.length) = (L, 0) by rw [List.drop_length]; rfl)
 obtain ⟨ln, hln⟩ : ∃ k, A.length = k := ⟨_, rfl⟩
 rw [hln] at HW1 HX HCl ⊢
 obtain ⟨R, hR⟩ : ∃ R, clA A = R := ⟨_, rfl⟩
 rw [hR] at HCl HC0 hrun
 obtain ⟨m, hm⟩ : ∃ k, l.length = k := ⟨_, rfl⟩
 have HMl := Lib.hid hm
 rw [hm] at hll hlong hrun HEnd ⊢
 obtain ⟨p0, p1⟩ := obj2s HX.out.1
 obtain ⟨q0, q1⟩ := obj2s HX.out.2.1
 have u0 := obj_free HX.out.2.1 0
 have u1 := obj_free HX.out.2.1 1
 have z0 : w.heap.size < W1.heap.size := by omega
 have z1 : w.heap.size + 1 < W1.heap.size := by omega
 have hne : w.heap.size ≠ w.heap.size + 1 := by omega
 have HRun := Lib.hid hrun
 have HLong := Lib.hid hlong
 clear hsc hA hf hc0 hLc hfm he x0 x1 hb1 hz1 hW1 hP hln hm hlong hrun hR
 rcases hll with h8 | h64
 ·have hq : ¬ (64 : Int) < (m : Int) := by omega
  go_enter Tryz.func12, Tryz.ntmps12
  go_wp2_with fail
  try rw [HW1.out]
  refine HCl.out.mono ?_
  rintro en w5 ⟨ev, Lq, rfl, hok, hr, hb5⟩
  have hpa : PaAt w5 ev R := ⟨Lq, _, hok, hr⟩
  obtain ⟨ea, ec, rfl⟩ := ownsRow_slice hr
  obtain ⟨rn, hrn⟩ : ∃ k, R.length = k := ⟨_, rfl⟩
  rw [hrn] at hpa ⊢
  have y0 := obj_below HX.out.1 hb5 z0
  have y1 := obj_below HX.out.2.1 hb5 z1
  obtain ⟨W6, hW6⟩ : ∃ W, (w5.setCell ⟨w.heap.size, 0, none⟩ (.string ⟨dn.toArray⟩)).setCell ⟨w.heap.size, 1, none⟩ (.slice ea rn ec) = W := ⟨_, rfl⟩
  have y0' := set2_e y0 (.string ⟨dn.toArray⟩) (.slice ea rn ec)
  have y1' := obj_set2o y1 (show w.heap.size + 1 ≠ w.heap.size by omega) (.string ⟨dn.toArray⟩) (.slice ea rn ec)
  have hpa6 := paAt_set2 hpa y0 (by decide) (by decide) (.string ⟨dn.toArray⟩) (.slice ea rn ec)
  have hbw6 := below_e2 (HX.out.2.2.1.trans (hb5.mono HX.out.2.2.1.size)) (Nat.le_refl w.heap.size) (.string ⟨dn.toArray⟩) (.slice ea rn ec)
  obtain ⟨e0, e1⟩ := obj2s y0
  have v0 := obj_free y0 0
  have v1 := obj_free y0 1
  rw [hW6] at y0' y1' hpa6 hbw6
  have HW6 := Lib.hid hW6
  have H6 := Lib.hid (And.intro y0' (And.intro y1' (And.intro hpa6 hbw6)))
  have HR0 := Lib.hid (HRun.out h8)
  clear hpa hok hr hb5 y0 y1 y0' y1' hpa6 hbw6 hW6 p0 p1 q0 q1 u0 u1 hrn
  go_wp2
  rw [HW6.out]
  clear e0 e1 v0 v1
  go_loopw [25] (fun x wr => ∃ (i : Nat) (L : List Atr) (v : Value), i <= m /\ x = .int .i64 (i : Nat) /\ wr.heap[w.heap.size]? = some (.cells #[.string ⟨dn.toArray⟩, v] 24 (0, 0)) /\ PaAt wr v L /\ Cln (84 + i) (104 + 8 * i) L /\ P = mdAll L (l.drop i) /\ wr.heap[w.heap.size + 1]? = some (.cells #[.string ⟨#[]⟩, .slice none 0 0] 24 (0, 0)) /\ Below w.heap.size w wr) (fun x _ => m - (intOf x).toNat)
  case atStart => exact ⟨0, R, .slice ea rn ec, by omega, rfl, H6.out.1, H6.out.2.2.1, HC0.out, HR0.out, H6.out.2.1, H6.out.2.2.2⟩
  case round =>
   obtain ⟨i, L, v, hi, rfl, y0, hpa, hcl, hp, y1, hb⟩ := hrel
   obtain ⟨xa, xc, rfl⟩ := paAt_slice hpa
   obtain ⟨xn, hxn⟩ : ∃ k, L.length = k := ⟨_, rfl⟩
   rw [hxn] at hpa y0
   have hsr := hb.size
   by_cases hlt : i < m
   ·have hil : (i : Int) < (m : Int) := by omega
    have him : i < l.length := by rw [HMl.out]; exact hlt
    obtain ⟨g, o, vl, rfl, hg, a0w, a1w, a2w, hV, hk⟩ := HM.out i him
    have a0 := (hb.cell (p := ⟨g, _, none⟩) hg).trans a0w
    have a1 := (hb.cell (p := ⟨g, _, none⟩) hg).trans a1w
    have a2 := (hb.cell (p := ⟨g, _, none⟩) hg).trans a2w
    have hTy := fun w' (hb' : Below wr.heap.size wr w') => HTy.out w' (hb.trans (hb'.mono hsr)) l[i].2.1 (HNb.out i him)
    have hAp := fun t (ht : scT plT l[i].2.1 = some t) w' (hb' : Below wr.heap.size wr w') => HAp.out i him (by rw [HMl.out]; exact h8) L hcl t ht w' (hb.trans (hb'.mono hsr)) (.slice xa xn xc) vl (paAt_ea (paAt_below hpa hb')) (txR_below hV (hb.trans (hb'.mono hsr))) hk
    have hCn := HCn.out i him L hcl
    have hSt := HSt.out L i him
    have hN1 := fun (h : scT plT l[i].2.1 = none) => (mdOne_none (L := L) (m := l[i]) h)
    obtain ⟨va, vc, rfl, _⟩ := hV
    obtain ⟨vn, hvn⟩ : ∃ k, l[i].2.2.length = k := ⟨_, rfl⟩
    rw [hvn] at a2 hAp
    obtain ⟨⟨op, ty, vals⟩, hmi⟩ : ∃ x, l[i] = x := ⟨_, rfl⟩
    rw [hmi] at a0 a1 hTy hAp hCn hSt hN1
    dsimp only at a0 a1 hTy hAp hN1
    obtain ⟨O, hO⟩ : ∃ x, mdOne L (op, ty, vals) = x := ⟨_, rfl⟩
    rw [hO] at hAp hCn hSt hN1
    rw [hSt] at hp
    obtain ⟨W7, hW7⟩ : ∃ W, wr.alloc (.cells #[.int .i64 op, .string ⟨ty.toArray⟩, .slice va vn vc] 47) = W := ⟨_, rfl⟩
    have hb7 : Below wr.heap.size wr W7 := by rw [<- hW7]; exact (Below.refl _ wr).alloc (Nat.le_refl _) _
    have x7 : W7.heap[wr.heap.size]? = some (.cells #[.int .i64 op, .string ⟨ty.toArray⟩, .slice va vn vc] 47 (0, 0)) := by rw [<- hW7]; exact heap_alloc_new wr _
    have HTy7 := Lib.hid (hTy W7 hb7)
    have HAp7 := Lib.hid hAp
    have HCn7 := Lib.hid hCn
    have HN7 := Lib.hid hN1
    have HP7 := Lib.hid hp
    have HB := Lib.hid (And.intro y0 (And.intro y1 (And.intro hpa hb)))
    have H7 := Lib.hid (And.intro hb7 x7)
    have HW7 := Lib.hid hW7
    obtain ⟨k0, k1, k2⟩ := obj3 x7
    clear y0 y1 hpa hcl hp hb a0w a1w a2w hTy hAp hCn hSt hN1 hvn hmi hO hxn hb7 x7 hk hW7
    go_wp2_with fail
    rw [HW7.out]
    go_wp2_with fail
    obtain ⟨T, hT⟩ : ∃ x, scT plT ty = x := ⟨_, rfl⟩
    rw [hT] at HTy7
    have HT := Lib.hid hT
    clear hT
    cases T with
    | none =>
     have HTz := Lib.hid (show Calls Tryz.prog 37 #[.pointer (some ⟨sb, 0, none⟩), .string ⟨ty.toArray⟩] W7 (fun en w'' => en = .returned (.tuple #[.agg #[.string ⟨#[]⟩, .int .i64 0, .bool false], .bool false]) /\ Below W7.heap.size W7 w'') from HTy7.out)
     with_reducible refine HTz.out.mono ?_
     rintro en w8 ⟨rfl, hb8⟩
     have hb78 := H7.out.1.trans (hb8.mono H7.out.1.size)
     have y1 := obj_below HB.out.2.1 hb78 (obj_lt HB.out.2.1)
     have kq0 : ∀ ob, (w8.alloc ob).cell? ⟨w.heap.size + 1, 0, none⟩ = some (.string ⟨#[]⟩) := fun ob => obj_cell (obj_alloc y1 ob) 0 _ rfl
     have kq1 : ∀ ob, (w8.alloc ob).cell? ⟨w.heap.size + 1, 1, none⟩ = some (.slice none 0 0) := fun ob => obj_cell (obj_alloc y1 ob) 1 _ rfl
     have ku0 : ∀ ob, (w8.alloc ob).frozen? ⟨w.heap.size + 1, 0, none⟩ = false := fun ob => obj_free (obj_alloc y1 ob) 0
     have ku1 : ∀ ob, (w8.alloc ob).frozen? ⟨w.heap.size + 1, 1, none⟩ = false := fun ob => obj_free (obj_alloc y1 ob) 1
     have HE := Lib.hid (show P.2 = 17 by have h := HP7.out; rw [HN7.out HT.out] at h; rw [h]; rfl)
     have H8 := Lib.hid (And.intro (HB.out.2.2.2.trans (hb78.mono HB.out.2.2.2.size)) y1)
     clear hb8 hb78 y1 a0 a1 a2 k0 k1 k2
     go_wp2
     obtain ⟨j0, j1⟩ := obj2s (set2_e (obj_alloc H8.out.2 (.cells #[.string ⟨#[]⟩, .int .i64 0, .bool false] 79)) (.string ⟨#[]⟩) (.slice none 0 0))
     refine bodyPost_ret (v := .tuple #[.agg #[.string ⟨#[]⟩, .slice none 0 0], .int .i64 17]) (by simp [results, Tryz.results12, go_sem, *]) rfl ?_
     first | exact mtPost_bad HE.out (by decide) (H8.out.1.alloc H8.out.1.size _) | exact mtPost_bad HE.out (by decide) (below_e2 (H8.out.1.alloc H8.out.1.size _) (by omega) _ _)
    | some t =>
     have hAp8 := fun w' hb' => HAp7.out t HT.out w' hb'
     obtain ⟨tn, tr, ts⟩ := t
     have HTz := Lib.hid (show Calls Tryz.prog 37 #[.pointer (some ⟨sb, 0, none⟩), .string ⟨ty.toArray⟩] W7 (fun en w'' => en = .returned (.tuple #[.agg #[.string ⟨tn.toArray⟩, .int .i64 tr, .bool ts], .bool true]) /\ Below W7.heap.size W7 w'') from HTy7.out)
     have HAp8 := Lib.hid hAp8
     clear hAp8
     with_reducible refine HTz.out.mono ?_
     rintro en w8 ⟨rfl, hb8⟩
     obtain ⟨W9, hW9⟩ : ∃ W, w8.alloc (.cells #[.string ⟨tn.toArray⟩, .int .i64 tr, .bool ts] 79) = W := ⟨_, rfl⟩
     have hb9 : Below w8.heap.size w8 W9 := by rw [<- hW9]; exact (Below.refl _ w8).alloc (Nat.le_refl _) _
     have hb79 : Below wr.heap.size wr W9 := (H7.out.1.trans (hb8.mono H7.out.1.size)).trans (hb9.mono (by have := H7.out.1.size; have := hb8.size; omega))
     have y0 := obj_below HB.out.1 hb79 (obj_lt HB.out.1)
     have y1 := obj_below HB.out.2.1 hb79 (obj_lt HB.out.2.1)
     have x9 := obj_below (obj_below H7.out.2 hb8 (obj_lt H7.out.2)) hb9 (by have := obj_lt H7.out.2; have := hb8.size; omega)
     have HAp9 := Lib.hid (HAp8.out W9 hb79)
     obtain ⟨k0, k1, k2⟩ := obj3 x9
     obtain ⟨c0, c1⟩ := obj2s y0
     rw [<- hW9] at k0 k1 k2 c0 c1
     have H9 := Lib.hid (And.intro y0 (And.intro y1 hb79))
     have HW9 := Lib.hid hW9
     clear hb8 hb9 hb79 y0 y1 x9 hW9 a0 a1 a2
     go_wp2_with fail
     rw [HW9.out]
     with_reducible refine HAp9.out.mono ?_
     rintro en w10 ⟨d, ra, rn', rc, rfl, hpa, hb10⟩
     have y0 := obj_below H9.out.1 hb10 (obj_lt H9.out.1)
     have y1 := obj_below H9.out.2.1 hb10 (obj_lt H9.out.2.1)
     have hbw := HB.out.2.2.2.trans ((H9.out.2.2.trans (hb10.mono H9.out.2.2.size)).mono HB.out.2.2.2.size)
     obtain ⟨pc, hpc⟩ : ∃ x, O.2 = x := ⟨_, rfl⟩
     rw [hpc] at hpa
     rw [hpc]
     clear k0 k1 k2 c0 c1
     by_cases hpz : pc = 0
     ·have hp2 : (pc != 0) = false := by simp [hpz]
      obtain ⟨rfl, hpa'⟩ := hpa hpz
      have HCn2 := Lib.hid (HCn7.out (hpc.trans hpz))
      have HP2 := Lib.hid (show P = mdAll O.1 (l.drop (i + 1)) by have h := HP7.out; rw [if_pos (hpc.trans hpz)] at h; exact h)
      obtain ⟨W11, hW11⟩ : ∃ W, w10.alloc (.cells #[.string ⟨dn.toArray⟩, .slice ra rn' rc] 24) = W := ⟨_, rfl⟩
      have hb11 : Below w10.heap.size w10 W11 := by rw [<- hW11]; exact (Below.refl _ w10).alloc (Nat.le_refl _) _
      have z0' := obj_below y0 hb11 (obj_lt y0)
      have z1' := obj_below y1 hb11 (obj_lt y1)
      have hpa11 := paAt_below hpa' hb11
      have hbw11 := hbw.trans (hb11.mono hbw.size)
      have f0 := set2_e z0' (.string ⟨dn.toArray⟩) (.slice ra rn' rc)
      have f1 := obj_set2o z1' (show w.heap.size + 1 ≠ w.heap.size by omega) (.string ⟨dn.toArray⟩) (.slice ra rn' rc)
      have hpa12 := paAt_set2 hpa11 z0' (by decide) (by decide) (.string ⟨dn.toArray⟩) (.slice ra rn' rc)
      have hbw12 := below_e2 hbw11 (Nat.le_refl w.heap.size) (.string ⟨dn.toArray⟩) (.slice ra rn' rc)
      obtain ⟨c0, c1⟩ := obj2s z0'
      have v0 := obj_free z0' 0
      have v1 := obj_free z0' 1
      rw [<- hW11] at c0 c1 v0 v1 f0 f1 hpa12 hbw12
      have HF := Lib.hid (And.intro f0 (And.intro f1 (And.intro hpa12 hbw12)))
      clear y0 y1 hbw hpa hpa' hb10 hW11 hb11 z0' z1' hpa11 hbw11 f0 f1 hpa12 hbw12 hpc hpz
      go_wp2
      exact ⟨⟨i + 1, O.1, .slice ra rn' rc, by omega, by go_num, HF.out.1, HF.out.2.2.1, HCn2.out, HP2.out, HF.out.2.1, HF.out.2.2.2⟩, by simp [intOf]; omega⟩
     ·have hp2 : (pc != 0) = true := by simp [hpz]
      have HE := Lib.hid (show P.2 = pc /\ pc ≠ 0 by have h := HP7.out; rw [if_neg (by rw [hpc]; exact hpz)] at h; rw [h]; exact ⟨hpc, hpz⟩)
      have kq0 : ∀ ob, (w10.alloc ob).cell? ⟨w.heap.size + 1, 0, none⟩ = some (.string ⟨#[]⟩) := fun ob => obj_cell (obj_alloc y1 ob) 0 _ rfl
      have kq1 : ∀ ob, (w10.alloc ob).cell? ⟨w.heap.size + 1, 1, none⟩ = some (.slice none 0 0) := fun ob => obj_cell (obj_alloc y1 ob) 1 _ rfl
      have ku0 : ∀ ob, (w10.alloc ob).frozen? ⟨w.heap.size + 1, 0, none⟩ = false := fun ob => obj_free (obj_alloc y1 ob) 0
      have ku1 : ∀ ob, (w10.alloc ob).frozen? ⟨w.heap.size + 1, 1, none⟩ = false := fun ob => obj_free (obj_alloc y1 ob) 1
      have H8 := Lib.hid (And.intro hbw y1)
      clear y0 y1 hbw hpa hb10 hpc hpz
      go_wp2
      obtain ⟨j0, j1⟩ := obj2s (set2_e (obj_alloc H8.out.2 (.cells #[.string ⟨d⟩, .slice ra rn' rc] 24)) (.string ⟨#[]⟩) (.slice none 0 0))
      refine bodyPost_ret (v := .tuple #[.agg #[.string ⟨#[]⟩, .slice none 0 0], .int .i64 pc]) (by simp [results, Tryz.results12, go_sem, *]) rfl ?_
      first | exact mtPost_bad HE.out.1 HE.out.2 (H8.out.1.alloc H8.out.1.size _) | exact mtPost_bad HE.out.1 HE.out.2 (below_e2 (H8.out.1.alloc H8.out.1.size _) (by omega) _ _)
   ·obtain rfl : i = m := by omega
    have HE := Lib.hid (show P = (L, 0) by rw [hp, HEnd.out])
    obtain ⟨c0, c1⟩ := obj2s y0
    obtain ⟨q0, q1⟩ := obj2s y1
    have u0 := obj_free y1 0
    have u1 := obj_free y1 1
    have H8 := Lib.hid (And.intro hpa (And.intro hb y1))
    clear y0 y1 hpa hb hp hcl hxn
    go_wp2
    obtain ⟨j0, j1⟩ := obj2s (set2_e H8.out.2.2 (.string ⟨dn.toArray⟩) (.slice xa xn xc))
    refine bodyPost_ret (v := .tuple #[.agg #[.string ⟨dn.toArray⟩, .slice xa xn xc], .int .i64 0]) (by simp [results, Tryz.results12, go_sem, *]) rfl ?_
    exact mtPost_ok HE.out (paAt_set2 H8.out.1 H8.out.2.2 (by decide) (by decide) _ _) (below_e2 H8.out.2.1 (by omega) _ _)
 ·have HP := Lib.hid (HLong.out h64)
  have hq : (64 : Int) < (m : Int) := by omega
  go_enter Tryz.func12, Tryz.ntmps12
  go_wp2
  try rw [HW1.out]
  obtain ⟨j0, j1⟩ := obj2s (set2_e HX.out.2.1 (.string ⟨#[]⟩) (.slice none 0 0))
  refine bodyPost_ret (v := .tuple #[.agg #[.string ⟨#[]⟩, .slice none 0 0], .int .i64 53]) (by simp [results, Tryz.results12, go_sem, *]) rfl ?_
  first | exact mtPost_bad HP.out (by decide) HX.out.2.2.1 | exact mtPost_bad HP.out (by decide) (below_e2 HX.out.2.2.1 (by omega) _ _)
theorem moapply_any (sb : Nat) (A : List Atr) (dn : List UInt8) (l : List Md) (av lv : Value) (w : World) (hsc : ScAt w sb plT plC) (hA : EaAt w av A) (hf : FewG 12 8 A) (hL : MdsAt w lv l) (hfm : MdsFew l) (hll : l.length <= 8 \/ 64 < l.length) (he : ErrOk w) :
  Calls Tryz.prog 12 #[.pointer (some ⟨sb, 0, none⟩), .agg #[.string ⟨dn.toArray⟩, av], lv] w (MtPost dn (mdApp A l) w) :=
 moapplyG_any sb A dn l av lv w hsc hA (fewG_e hf (by omega) (by omega)) (cln_mono (cln_cl hf) (by omega) (by omega)) hL hfm hll he
def GvaPost (w : World) (en : Ending) (w' : World) : Prop := ∃ a c, en = .returned (.slice a 0 c) /\ w'.ownsRow w.heap.size 97 2 (.slice a 0 c) 0 [] /\ Below w.heap.size w w'
theorem growAva_any (n : Nat) (w : World) (h0 : 0 < n) (hn : n <= 1000000) : Calls Tryz.prog 102 #[.slice none 0 0, .int .i64 (n : Nat)] w (GvaPost w) := by
 obtain ⟨i, hi, hz0, hz1, hz2⟩ := info_parts Tryz.dninfo97
 have hcon := Any8.slices_Grow_grow Tryz.growAva i _ hi hz0 (by omega) none 0 0 n [] w (Nat.le_refl _) (by omega) (by rw [hz2]; omega) (by omega) (by simp) (fun _ => rfl) (fun a h => by cases h)
 change Calls Tryz.prog 102 _ _ _ at hcon
 refine hcon.mono ?_
 rintro en w' ⟨rfl, rfl⟩
 have hG1 := grownCap_ge w (0 + n) 0 (Tryz.growAva_ren.t 25)
 have hG2 := grownCap_le_maxLen w (0 + n) 0 (Tryz.growAva_ren.t 25) (by unfold maxLen; omega)
 have key : ∀ (z : Array Value) (G : Nat), z.size = 2 -> 0 + n <= G -> (([] : List Value).toArray ++ Builtin.zeroCells z (0 + n - 0) ++ Builtin.zeroCells z (G - (0 + n))).size = G * 2 := by
  intro z G hz hG
  rw [Array.size_append, Array.size_append, zeroC_size, zeroC_size, hz]
  simp only [List.size_toArray, List.length_nil]
  omega
 exact ⟨_, _, rfl, ⟨rfl, .inr ⟨w.heap.size, _, _, rfl, Nat.le_refl _, heap_alloc_new w.drew _, Nat.zero_le _, hG2, key _ _ rfl hG1, rfl⟩⟩, (Below.refl _ w).drew.alloc (Nat.le_refl _) _⟩
theorem avcM_len (r : List Av) : (avc r).length = r.length * 2 := by rw [avc_len]; omega
theorem avcM_one (r : List Av) : ∀ v ∈ avc r, v.oneCell' = true := by
 intro v hv
 unfold avc at hv
 obtain ⟨p, _, hp⟩ := List.mem_flatMap.1 hv
 simp only [List.mem_cons, List.not_mem_nil, or_false] at hp
 rcases hp with rfl | rfl <;> rfl
def AvoPost (r : List Av) (w : World) (en : Ending) (w' : World) : Prop := ∃ v, en = .returned v /\ w'.ownsRow w.heap.size 97 2 v r.length (avc r) /\ Below w.heap.size w w'
theorem rd_avM {w : World} {v : Value} {r : List Av} (h : AvAt w v r) (h0 : 0 < r.length) : RdRow w 2 v r.length (avc r) := by
 obtain ⟨a, c, rfl, _, hc⟩ := h
 obtain ⟨g, o, rfl, _⟩ := hc 0 h0
 refine ⟨avcM_len r, .inr ⟨_, _, rfl, fun j u hj => ?_⟩⟩
 have hj2 : j < r.length * 2 := by
  have := (List.getElem?_eq_some_iff.1 hj).1
  rw [avcM_len] at this
  exact this
 have hi : j / 2 < r.length := by omega
 obtain ⟨g', o', e4, _, c1, c2⟩ := hc (j / 2) hi
 injection e4 with e4
 injection e4 with e5 e6 _
 subst e5 e6
 rw [Addr.add_lit]
 obtain ⟨a1, a2⟩ := avc_at r (j / 2) hi
 rcases (show j % 2 = 0 \/ j % 2 = 1 by omega) with q | q
 ·rw [show j / 2 * 2 = j by omega] at a1 c1
  rw [a1] at hj
  injection hj with hj
  subst hj
  exact c1
 ·rw [show j / 2 * 2 + 1 = j by omega] at a2
  rw [a2] at hj
  injection hj with hj
  subst hj
  rw [show o + j / 2 * 2 + 1 = o + j by omega] at c2
  exact c2
theorem concatAv_any (r : List Av) (v : Value) (g o c : Nat) (w : World) (hx : w.cell? ⟨g, o, none⟩ = some v) (hg : g < w.heap.size) (h : AvAt w v r) (hl : r.length <= 4096) (h0 : 0 < r.length) :
  Calls Tryz.prog 50 #[.slice (some ⟨g, o, none⟩) 1 c] w (AvoPost r w) := by
 have hrd := rd_avM h h0
 obtain ⟨a, ac, rfl, _⟩ := h
 have HG := Lib.hid (fun w => growAva_any r.length w h0 (by omega))
 have HR := Lib.hid hrd
 have HO := Lib.hid (avcM_one r)
 obtain ⟨n, hn⟩ : ∃ n, r.length = n := ⟨_, rfl⟩
 have HN := Lib.hid hn
 obtain ⟨C, hC⟩ : ∃ C, avc r = C := ⟨_, rfl⟩
 have HC := Lib.hid hC
 rw [hn, hC] at HR
 rw [hC] at HO
 rw [hn] at hx HG hl h0
 clear hrd hn hC
 go_enter Tryz.func50, Tryz.ntmps50
 go_wp2
 go_loop [3, 11] (fun s x => ∃ k : Nat, k <= 1 /\ x = .int .i64 (k : Nat) /\ s = .int .i64 ((if k = 0 then 0 else n : Nat) : Nat)) (fun _ x => 1 - (intOf x).toNat)
 case atStart => exact ⟨0, by omega, rfl, rfl⟩
 case round =>
  obtain ⟨k, hk, rfl, rfl⟩ := hrel
  rcases (show k = 0 \/ k = 1 by omega) with rfl | rfl
  ·have hq2 : ¬ ((n : Int) < 0) := by omega
   have hb1 : (n : Int) <= 9223372036854775807 := by omega
   have hx0 : w.cell? ⟨g, o + 0, none⟩ = some (.slice a n ac) := hx
   rw [if_pos rfl]
   go_wp2
   exact ⟨⟨1, by omega, rfl, by simp⟩, by simp [intOf]⟩
  ·rw [if_neg (by decide)]
   go_wp2_with fail
   refine (HG.out _).mono ?_
   rintro e w1 ⟨ga, gc, rfl, hr, hb⟩
   have H1 := Lib.hid (And.intro hr hb)
   clear hr hb
   go_wp2
   go_loopw [6, 27] (fun ov x wr => ∃ k : Nat, k <= 1 /\ x = .int .i64 (k : Nat) /\ (k = 0 -> wr.ownsRow w.heap.size 97 2 ov 0 []) /\ (k = 1 -> wr.ownsRow w.heap.size 97 2 ov n C) /\ Below w.heap.size w wr) (fun _ x _ => 1 - (intOf x).toNat)
   case atStart => exact ⟨0, by omega, rfl, fun _ => H1.out.1, fun h => by omega, H1.out.2⟩
   case round =>
    clear hk
    obtain ⟨k, hk, rfl, hr0, hr1, hb⟩ := hrel
    rcases (show k = 0 \/ k = 1 by omega) with rfl | rfl
    ·have hrow := hr0 rfl
     obtain ⟨oa, oc, rfl⟩ := ownsRow_slice hrow
     have c0 : wr.cell? ⟨g, o, none⟩ = some (.slice a n ac) := (hb.cell (p := ⟨g, o, none⟩) hg).trans hx
     have H := Lib.hid (And.intro hrow (And.intro hb (rdRow_below HR.out hb)))
     clear hrow hb hr0 hr1 hx
     go_wp2_with (first
      | (at_builtin; refine wpList_appendr rfl (.tmp 31) (.tmp 32) 95 97 rfl w.heap.size 2 32 (.agg #[.string ByteArray.empty, .string ByteArray.empty]) Tryz.dninfo97 Tryz.underlying95 rfl (by decide) _ 0 _ rfl H.out.1 _ n C rfl H.out.2.2 HO.out ?c1 ?c2 H.out.2.1.size ?_)
      | go_in)
     case c1 => unfold maxLen; omega
     case c2 => omega
     intro v' w' g1 g2 g3
     have H6 := Lib.hid (And.intro g1 (below_chg H.out.2.1 H.out.2.1.size H.out.1 g2))
     clear g1 g2 g3
     go_wp2
     exact ⟨⟨1, by omega, rfl, (fun h => by omega), (fun _ => by simpa using H6.out.1), H6.out.2⟩, by simp [intOf]⟩
    ·have hrow := hr1 rfl
     obtain ⟨oa, oc, rfl⟩ := ownsRow_slice hrow
     have H := Lib.hid (And.intro hrow hb)
     clear hrow hb hr0 hr1 hx
     go_wp2
     go_ret
     exact ⟨_, rfl, by rw [HN.out, HC.out]; exact H.out.1, H.out.2⟩
theorem monp_any (sb b2 b3 : Nat) (A : List Atr) (dn pt pv : List UInt8) (a : Option Addr) (n c : Nat) (w : World) (h2 : w.cell? ⟨b2, 0, none⟩ = some (.pointer (some ⟨sb, 0, none⟩))) (hb2 : b2 < w.heap.size) (h30 : w.cell? ⟨b3, 0, none⟩ = some (.string ⟨dn.toArray⟩)) (h31 : w.cell? ⟨b3, 1, none⟩ = some (.slice a n c)) (hb3 : b3 < w.heap.size) (hsc : ScAt w sb plT plC) (hA : EaAt w (.slice a n c) A) (hf : FewE A) (hl : pt.length <= 100000) (he : ErrOk w) :
  Calls Tryz.prog 47 #[.agg #[.string ⟨pt.toArray⟩, .string ⟨pv.toArray⟩], .pointer (some ⟨b2, 0, none⟩), .pointer (some ⟨b3, 0, none⟩)] w (BB (!(nmP A (pt, pv))) w) := by
 obtain ⟨W1, hW1⟩ : ∃ W, w.alloc (.cells #[.string ⟨pt.toArray⟩, .string ⟨pv.toArray⟩] 97) = W := ⟨_, rfl⟩
 have hb1 : Below w.heap.size w W1 := by rw [<- hW1]; exact (Below.refl _ w).alloc (Nat.le_refl _) _
 have x1 : W1.heap[w.heap.size]? = some (.cells #[.string ⟨pt.toArray⟩, .string ⟨pv.toArray⟩] 97 (0, 0)) := by rw [<- hW1]; exact heap_alloc_new w _
 have HTy := Lib.hid (stype_any sb plT plC pt W1 (scAt_below hsc hb1) plT_lowT (by omega) (by decide +kernel))
 have HHas := Lib.hid (fun w' (hb : Below w.heap.size w w') t x q (ht : t.length <= 140737488355328) => has_any A dn t x q (.slice a n c) w' (eaAt_below hA hb) hf ht (errOk_below he hb))
 obtain ⟨f0, f1⟩ := obj2s x1
 have k2 := (hb1.cell (p := ⟨b2, 0, none⟩) hb2).trans h2
 rw [<- hW1] at k2
 have HX := Lib.hid (And.intro hb1 (And.intro x1 (And.intro h30 (And.intro h31 h2))))
 have HW1 := Lib.hid hW1
 have hnp : nmP A (pt, pv) = match scT plT pt with | none => false | some t => (geL A pt).any (sameQ t.2.1 pv) := rfl
 obtain ⟨NP, hNP⟩ : ∃ b, nmP A (pt, pv) = b := ⟨_, rfl⟩
 rw [hNP] at hnp ⊢
 cases hq : scT plT pt with
 | none =>
  rw [hq] at HTy hnp
  have HTy := Lib.hid (show Calls Tryz.prog 37 #[.pointer (some ⟨sb, 0, none⟩), .string ⟨pt.toArray⟩] W1 (fun en w'' => en = .returned (.tuple #[.agg #[.string ⟨#[]⟩, .int .i64 0, .bool false], .bool false]) /\ Below W1.heap.size W1 w'') from HTy.out)
  have HP := Lib.hid hnp
  clear hsc hA hf he hb1 x1 h30 h31 h2 hW1 hq hnp hNP hl
  go_enter Tryz.func47, Tryz.ntmps47
  go_wp2_with fail
  try rw [HW1.out]
  refine HTy.out.mono ?_
  rintro en w2 ⟨rfl, hb5⟩
  have H5 := Lib.hid (HX.out.1.trans (hb5.mono HX.out.1.size))
  clear hb5 f0 f1 k2
  go_wp2
  go_ret
  exact bB_mk (by rw [HP.out]; rfl) (H5.out.alloc H5.out.size _)
 | some t =>
  obtain ⟨tn, tr, ts⟩ := t
  have htn : tn = lowL pt := scT_name hq
  rw [hq] at HTy hnp
  have HTy := Lib.hid (show Calls Tryz.prog 37 #[.pointer (some ⟨sb, 0, none⟩), .string ⟨pt.toArray⟩] W1 (fun en w'' => en = .returned (.tuple #[.agg #[.string ⟨tn.toArray⟩, .int .i64 tr, .bool ts], .bool true]) /\ Below W1.heap.size W1 w'') from HTy.out)
  have hnp : NP = (geL A tn).any (sameQ tr pv) := by rw [hnp, htn, ge_lowN]
  have HHas := Lib.hid (fun w' (hb : Below w.heap.size w w') => HHas.out w' hb tn pv tr (by rw [htn, lowL_length]; omega))
  have HP := Lib.hid hnp
  obtain ⟨V, hV⟩ : ∃ b, (geL A tn).any (sameQ tr pv) = b := ⟨_, rfl⟩
  rw [hV] at HHas HP
  clear hsc hA hf he hb1 x1 h30 h31 h2 hW1 hq hnp hNP hl htn hV
  go_enter Tryz.func47, Tryz.ntmps47
  go_wp2_with fail
  try rw [HW1.out]
  refine HTy.out.mono ?_
  rintro en w2 ⟨rfl, hb5⟩
  obtain ⟨W3, hW3⟩ : ∃ W, w2.alloc (.cells #[.string ⟨tn.toArray⟩, .int .i64 tr, .bool ts] 79) = W := ⟨_, rfl⟩
  have hb3' : Below w2.heap.size w2 W3 := by rw [<- hW3]; exact (Below.refl _ w2).alloc (Nat.le_refl _) _
  have x3 : W3.heap[w2.heap.size]? = some (.cells #[.string ⟨tn.toArray⟩, .int .i64 tr, .bool ts] 79 (0, 0)) := by rw [<- hW3]; exact heap_alloc_new w2 _
  have hbw : Below w.heap.size w W3 := (HX.out.1.trans (hb5.mono HX.out.1.size)).trans (hb3'.mono (by have := (HX.out.1.trans (hb5.mono HX.out.1.size)).size; omega))
  have hx1 := obj_below (obj_below HX.out.2.1 hb5 (obj_lt HX.out.2.1)) hb3' (by have := obj_lt HX.out.2.1; have := hb5.size; omega)
  obtain ⟨g0, g1, g2⟩ := obj3 x3
  obtain ⟨f0, f1⟩ := obj2s hx1
  have e0 := (hbw.cell (p := ⟨b3, 0, none⟩) hb3).trans HX.out.2.2.1
  have e1 := (hbw.cell (p := ⟨b3, 1, none⟩) hb3).trans HX.out.2.2.2.1
  rw [<- hW3] at e0 e1 f0 f1
  have H5 := Lib.hid hbw
  have HW3 := Lib.hid hW3
  clear hb5 hb3' x3 hbw hx1 hW3 k2
  go_wp2_with fail
  try rw [HW3.out]
  refine (HHas.out _ H5.out).mono ?_
  rintro en w6 ⟨rfl, hb6⟩
  have H6 := Lib.hid (H5.out.trans (hb6.mono H5.out.size))
  clear hb6 e0 e1 f0 f1 g0 g1 g2
  go_wp2
  go_ret
  exact bB_mk (by rw [HP.out]) H6.out
def IxaPost (b : Bool) (w : World) (en : Ending) (w' : World) : Prop := ∃ n : Int, en = .returned (.int .i64 n) /\ decide (n ≥ 0) = b /\ Below w.heap.size w w'
theorem moix_any (sb b2 b3 B : Nat) (A : List Atr) (dn : List UInt8) (r : List Av) (v : Value) (a : Option Addr) (n c : Nat) (w : World) (hrow : w.ownsRow B 97 2 v r.length (avc r)) (hrl : r.length <= 4096) (hrb : ∀ p ∈ r, p.1.length <= 100000) (h2 : w.cell? ⟨b2, 0, none⟩ = some (.pointer (some ⟨sb, 0, none⟩))) (hb2 : b2 < w.heap.size) (h30 : w.cell? ⟨b3, 0, none⟩ = some (.string ⟨dn.toArray⟩)) (h31 : w.cell? ⟨b3, 1, none⟩ = some (.slice a n c)) (hb3 : b3 < w.heap.size) (hsc : ScAt w sb plT plC) (hA : EaAt w (.slice a n c) A) (hf : FewE A) (he : ErrOk w) :
  Calls Tryz.prog 101 #[v, .func (.func 47) #[] #[.pointer (some ⟨b2, 0, none⟩), .pointer (some ⟨b3, 0, none⟩)]] w (IxaPost (!(nmgL A r)) w) := by
 have HF := Lib.hid (fun (i : Nat) (hi : i < r.length) W (hW : Below w.heap.size w W) => show Calls Tryz.prog 47 #[.agg #[.string ⟨r[i].1.toArray⟩, .string ⟨r[i].2.toArray⟩], .pointer (some ⟨b2, 0, none⟩), .pointer (some ⟨b3, 0, none⟩)] W (BB (!(nmP A r[i])) W) from monp_any sb b2 b3 A dn r[i].1 r[i].2 a n c W ((hW.cell (p := ⟨b2, 0, none⟩) hb2).trans h2) (Nat.lt_of_lt_of_le hb2 hW.size) ((hW.cell (p := ⟨b3, 0, none⟩) hb3).trans h30) ((hW.cell (p := ⟨b3, 1, none⟩) hb3).trans h31) (Nat.lt_of_lt_of_le hb3 hW.size) (scAt_below hsc hW) (eaAt_below hA hW) hf (hrb _ (List.getElem_mem hi)) (errOk_below he hW))
 have HY := Lib.hid (fun (i : Nat) (hi : i < r.length) (h : (!(nmP A r[i])) = true) => show (!(nmgL A r)) = true by rw [nmgL_all, all_bad (nmP A) r i hi (by simpa using h)]; rfl)
 have HN := Lib.hid (fun (h : ∀ i (hi : i < r.length), (!(nmP A r[i])) = false) => show (!(nmgL A r)) = false by
  have : nmgL A r = true := by
   rw [nmgL_all, List.all_eq_true]
   intro x hx
   obtain ⟨i, hi, rfl⟩ := List.getElem_of_mem hx
   simpa using h i hi
  rw [this]; rfl)
 obtain ⟨R, hR⟩ : ∃ R, (!(nmgL A r)) = R := ⟨_, rfl⟩
 rw [hR] at HY HN ⊢
 obtain ⟨va, vc, rfl⟩ := ownsRow_slice hrow
 have HC := Lib.hid (fun (i : Nat) (hi : i < r.length) => show ∃ g, va = some ⟨g, 0, none⟩ /\ g < w.heap.size /\ w.cell? ⟨g, i * 2, none⟩ = some (.string ⟨r[i].1.toArray⟩) /\ w.cell? ⟨g, i * 2 + 1, none⟩ = some (.string ⟨r[i].2.toArray⟩) by
  obtain ⟨rg, rc', eo, hrB, hrg⟩ := own_block hrow (by omega)
  injection eo with eo1 eo2 eo3
  subst eo1 eo3
  obtain ⟨a1, a2⟩ := avc_at r i hi
  exact ⟨rg, rfl, hrg, (hrow.cellAt (i * 2) (by omega)).trans a1, (hrow.cellAt (i * 2 + 1) (by omega)).trans a2⟩)
 obtain ⟨m, hm⟩ : ∃ k, r.length = k := ⟨_, rfl⟩
 have HM := Lib.hid hm
 rw [hm] at hrl ⊢
 clear hrow hrb h2 hb2 h30 h31 hb3 hsc hA hf he hR hm
 go_enter Tryz.func101, Tryz.ntmps101
 go_wp2
 go_loopw [8] (fun x wr => ∃ k : Nat, k <= m /\ x = .int .i64 (k : Nat) /\ Below w.heap.size w wr /\ ∀ j (hj : j < r.length), j < k -> (!(nmP A r[j])) = false) (fun x _ => m - (intOf x).toNat)
 case atStart => exact ⟨0, by omega, rfl, Below.refl _ _, fun j _ h => by omega⟩
 case round =>
  obtain ⟨k, hk, rfl, hb, hall⟩ := hrel
  have hsr := hb.size
  by_cases hlt : k < m
  ·have hkl : (k : Int) < (m : Int) := by omega
   have hkm : k < r.length := by rw [HM.out]; exact hlt
   obtain ⟨g, rfl, hg, e0w, e1w⟩ := HC.out k hkm
   have e0 := (hb.cell (p := ⟨g, _, none⟩) hg).trans e0w
   have e1 := (hb.cell (p := ⟨g, _, none⟩) hg).trans e1w
   have hF := HF.out k hkm wr hb
   have hY := HY.out k hkm
   have hA := fun (hx : (!(nmP A r[k])) = false) j (hj : j < r.length) (hjk : j < k + 1) => (show (!(nmP A r[j])) = false by
    by_cases hjj : j = k
    ·subst hjj; exact hx
    ·exact hall j hj (by omega))
   obtain ⟨bq, hbq⟩ : ∃ b, (!(nmP A r[k])) = b := ⟨_, rfl⟩
   rw [hbq] at hF hY hA
   obtain ⟨⟨pt, pv⟩, hnm⟩ : ∃ x, r[k] = x := ⟨_, rfl⟩
   rw [hnm] at e0 e1 hF
   dsimp only at e0 e1 hF
   have HFk := Lib.hid hF
   have HYk := Lib.hid hY
   have HAk := Lib.hid hA
   have HB := Lib.hid hb
   clear hb hall e0w e1w hbq hF hnm hY hA
   go_wp2_with fail
   with_reducible refine HFk.out.mono ?_
   rintro en w5 ⟨rfl, hb5⟩
   have HB5 := Lib.hid (HB.out.trans (hb5.mono hsr))
   clear hb5 e0 e1
   cases bq
   ·have H := Lib.hid (HAk.out rfl)
    go_wp2
    exact ⟨⟨k + 1, by omega, by go_num, HB5.out, H.out⟩, by simp [intOf]; omega⟩
   ·have H := Lib.hid (HYk.out rfl)
    go_wp2
    go_ret
    exact ⟨_, rfl, by rw [H.out]; simp, HB5.out⟩
  ·obtain rfl : k = m := by omega
   have H := Lib.hid (HN.out (fun j hj => hall j hj (by rw [<- HM.out]; exact hj)))
   have HB := Lib.hid hb
   clear hb hall
   go_wp2
   go_ret
   exact ⟨_, rfl, by rw [H.out]; rfl, HB.out⟩
theorem moct_any (sb b2 b3 B : Nat) (A : List Atr) (dn : List UInt8) (r : List Av) (v : Value) (a : Option Addr) (n c : Nat) (w : World) (hrow : w.ownsRow B 97 2 v r.length (avc r)) (hrl : r.length <= 4096) (hrb : ∀ p ∈ r, p.1.length <= 100000) (h2 : w.cell? ⟨b2, 0, none⟩ = some (.pointer (some ⟨sb, 0, none⟩))) (hb2 : b2 < w.heap.size) (h30 : w.cell? ⟨b3, 0, none⟩ = some (.string ⟨dn.toArray⟩)) (h31 : w.cell? ⟨b3, 1, none⟩ = some (.slice a n c)) (hb3 : b3 < w.heap.size) (hsc : ScAt w sb plT plC) (hA : EaAt w (.slice a n c) A) (hf : FewE A) (he : ErrOk w) :
  Calls Tryz.prog 49 #[v, .func (.func 47) #[] #[.pointer (some ⟨b2, 0, none⟩), .pointer (some ⟨b3, 0, none⟩)]] w (BB (!(nmgL A r)) w) := by
 have HC := Lib.hid (moix_any sb b2 b3 B A dn r v a n c w hrow hrl hrb h2 hb2 h30 h31 hb3 hsc hA hf he)
 obtain ⟨va, vc, rfl⟩ := ownsRow_slice hrow
 obtain ⟨R, hR⟩ : ∃ R, (!(nmgL A r)) = R := ⟨_, rfl⟩
 rw [hR] at HC ⊢
 clear hrow hrb hrl h2 hb2 h30 h31 hb3 hsc hA hf he hR
 go_enter Tryz.func49, Tryz.ntmps49
 go_wp2_with fail
 with_reducible refine HC.out.mono ?_
 rintro en w1 ⟨n, rfl, hn, hb⟩
 have H := Lib.hid hn
 clear hn
 go_wp2
 go_ret
 exact bB_mk H.out.symm hb
theorem monm_any (sb : Nat) (A : List Atr) (dn : List UInt8) (av : Value) (w : World) (hsc : ScAt w sb plT plC) (hA : EaAt w av A) (hf : FewE A) (he : ErrOk w) :
  Calls Tryz.prog 16 #[.pointer (some ⟨sb, 0, none⟩), .agg #[.string ⟨dn.toArray⟩, av]] w (IPost (if nmgS A dn = true then 0 else 64) w) := by
 obtain ⟨a, c, rfl⟩ := eaAt_slice hA
 obtain ⟨W1, hW1⟩ : ∃ W, (w.alloc (.cells #[.pointer (some ⟨sb, 0, none⟩)] 29)).alloc (.cells #[.string ⟨dn.toArray⟩, .slice a A.length c] 24) = W := ⟨_, rfl⟩
 obtain ⟨W0, hW0⟩ : ∃ W, w.alloc (.cells #[.pointer (some ⟨sb, 0, none⟩)] 29) = W := ⟨_, rfl⟩
 have s0 : W0.heap.size = w.heap.size + 1 := by rw [<- hW0]; simp
 have b0 : Below w.heap.size w W0 := by rw [<- hW0]; exact (Below.refl _ w).alloc (Nat.le_refl _) _
 have hW01 : W0.alloc (.cells #[.string ⟨dn.toArray⟩, .slice a A.length c] 24) = W1 := by rw [<- hW0]; exact hW1
 have b1 : Below w.heap.size w W1 := by rw [<- hW01]; exact b0.alloc b0.size _
 have x0 : W1.heap[w.heap.size]? = some (.cells #[.pointer (some ⟨sb, 0, none⟩)] 29 (0, 0)) := by rw [<- hW01, <- hW0]; exact obj_alloc (heap_alloc_new w _) _
 have x1 : W1.heap[w.heap.size + 1]? = some (.cells #[.string ⟨dn.toArray⟩, .slice a A.length c] 24 (0, 0)) := by rw [<- hW01, <- s0]; exact heap_alloc_new W0 _
 have HLf := Lib.hid (leaf_any dn W1 (errOk_below he b1))
 have HCt := Lib.hid (fun (r : List Av) (B : Nat) v w' (hb : Below W1.heap.size W1 w') (hrow : w'.ownsRow B 97 2 v r.length (avc r)) (hrl : r.length <= 4096) (hrb : ∀ p ∈ r, p.1.length <= 100000) => moct_any sb w.heap.size (w.heap.size + 1) B A dn r v a A.length c w' hrow hrl hrb (obj_cell (obj_below x0 hb (obj_lt x0)) 0 _ rfl) (Nat.lt_of_lt_of_le (obj_lt x0) hb.size) (obj_cell (obj_below x1 hb (obj_lt x1)) 0 _ rfl) (obj_cell (obj_below x1 hb (obj_lt x1)) 1 _ rfl) (Nat.lt_of_lt_of_le (obj_lt x1) hb.size) (scAt_below hsc (b1.trans (hb.mono b1.size))) (eaAt_below hA (b1.trans (hb.mono b1.size))) hf (errOk_below he (b1.trans (hb.mono b1.size))))
 obtain ⟨ln, hln⟩ : ∃ k, A.length = k := ⟨_, rfl⟩
 rw [hln] at hW1 x1 ⊢
 have HW1 := Lib.hid hW1
 have HB := Lib.hid b1
 obtain ⟨Z, hZ⟩ : ∃ z : Int, (if nmgS A dn = true then (0 : Int) else 64) = z := ⟨_, rfl⟩
 rw [hZ]
 rcases nr_ways dn with h | ⟨r, D, h⟩
 ·have hL := leaf_none h
  rw [hL] at HLf
  have HS := Lib.hid (show Z = 64 by
   rw [<- hZ, if_neg]
   unfold nmgS
   rcases h with h | h <;> rw [h] <;> simp)
  clear hsc hA hf he x0 x1 hW1 hW0 hW01 b0 b1 hln h hL s0 hZ
  go_enter Tryz.func16, Tryz.ntmps16
  go_wp2_with fail
  try rw [HW1.out]
  with_reducible refine HLf.out.mono ?_
  rintro en w2 ⟨rfl, hb2⟩
  have H2 := Lib.hid (HB.out.trans (hb2.mono HB.out.size))
  clear hb2
  go_wp2
  go_ret
  exact iPost_mk HS.out H2.out
 ·obtain ⟨hrd, hrl, hrp⟩ := rd_leaf h
  have hr0 : 0 < r.length := by
   obtain ⟨g1, _⟩ := gd_cons (nr_some h).2
   have := (prL_facts (g1.2.1 r (by simp)).1).1
   omega
  rw [leaf_cons h] at HLf
  have HRd := Lib.hid (fun w' (hb : Below W1.heap.size W1 w') => show Calls Tryz.prog 46 #[.string ⟨(ptL r).toArray⟩] w' (RdPost ([r], 0) 97 95 w') from hrd ▸ dread_any ⟨(ptL r).toArray⟩ w' (errOk_below he (b1.trans (hb.mono b1.size))))
  have hs1 : nmgL A r = true -> Z = 0 := fun h2 => by rw [<- hZ]; unfold nmgS; rw [h]; simp [h2]
  have hs2 : nmgL A r = false -> Z = 64 := fun h2 => by rw [<- hZ]; unfold nmgS; rw [h]; simp [h2]
  have HCr := Lib.hid (fun B v w' hb hrow => HCt.out r B v w' hb hrow hrl (fun p hp => by have := (hrp p hp).1; omega))
  have HR := Lib.hid (And.intro hrl hr0)
  obtain ⟨NG, hNG⟩ : ∃ b, nmgL A r = b := ⟨_, rfl⟩
  rw [hNG] at hs1 hs2 HCr
  have HS1 := Lib.hid hs1
  have HS2 := Lib.hid hs2
  clear hsc hA hf he x0 x1 hW1 hW0 hW01 b0 b1 hln h s0 hrd hrl hrp hr0 HCt hNG hs1 hs2 hZ
  go_enter Tryz.func16, Tryz.ntmps16
  go_wp2_with fail
  try rw [HW1.out]
  with_reducible refine HLf.out.mono ?_
  rintro en w2 ⟨rfl, hb2⟩
  have H2 := Lib.hid hb2
  clear hb2
  go_wp2_with fail
  with_reducible refine (HRd.out w2 H2.out).mono ?_
  rintro e w4 (⟨h0, _, _⟩ | ⟨_, pg, gs, rfl, hblk, hb4⟩)
  ·cases h0
  have hdn := dnAt_blk hblk
  have hb4w : Below W1.heap.size W1 w4 := H2.out.trans (hb4.mono H2.out.size)
  obtain ⟨pa, pc, hpe, _, hpp⟩ := hdn
  obtain ⟨pg', po, rv, hpa, hpl, hrv, hav⟩ := hpp 0 (by simp)
  simp only [rowV, List.length_cons, List.length_nil] at hpe
  injection hpe with hpe1 _ hpe3
  subst hpa
  injection hpe1 with hpe1
  injection hpe1 with hpe1 hpe2 _
  subst hpe1 hpe2
  have hrv : w4.cell? ⟨pg, 0, none⟩ = some rv := hrv
  have HCc := Lib.hid (concatAv_any r rv pg 0 1 w4 hrv hpl hav HR.out.1 HR.out.2)
  have H4 := Lib.hid hb4w
  simp only [rowV, List.length_cons, List.length_nil]
  clear hblk hb4 hb4w hrv hpp hpl hpe3 hav
  go_wp2_with fail
  with_reducible refine HCc.out.mono ?_
  rintro en w5 ⟨v, rfl, hrow, hb5⟩
  have hb5w := H4.out.trans (hb5.mono H4.out.size)
  have HCq := Lib.hid (HCr.out _ v w5 hb5w hrow)
  obtain ⟨va, vc, rfl⟩ := ownsRow_slice hrow
  have H5 := Lib.hid hb5w
  clear hrow hb5 hb5w
  go_wp2_with fail
  with_reducible refine HCq.out.mono ?_
  rintro en w6 ⟨rfl, hb6⟩
  have H6 := Lib.hid (HB.out.trans ((H5.out.trans (hb6.mono H5.out.size)).mono HB.out.size))
  clear hb6
  cases NG with
  | true =>
   go_wp2
   go_ret
   exact iPost_mk (HS1.out (by first | rfl | trivial)) H6.out
  | false =>
   go_wp2
   go_ret
   exact iPost_mk (HS2.out (by first | rfl | trivial)) H6.out
end Go.Proofs.YtpkbgkoocijegaaGreatDoor
namespace Go.Proofs.YtpkbgkoocijegaaGreatDoor
open Go Go.Sort
def clP (A : List Atr) : List Atr := A.foldl (fun L a => putL L (lowL a.1) a.2) []
theorem clP_cl (A : List Atr) : clP A = clA A := by
 have key : ∀ (B C : List Atr), B.foldl (fun L a => putL L (lowL a.1) a.2) (clA C) = clA (C ++ B) := by
  intro B
  induction B with
  | nil => intro C; simp
  | cons b B ih =>
   intro C
   rw [List.foldl_cons, put_cl, ih]
   simp
 have := key A []
 rw [cl_nil] at this
 exact this
def mdAddP (r : Int) (L : List Atr) (n : List UInt8) (vs : List (List UInt8)) : List Atr × Int :=
 if vs = [] then ([], 19) else if mdTw r vs = true then ([], 20) else if (vs.any fun v => (geL L n).any (sameQ r v)) = true then ([], 20) else (putL L (lowL n) vs, 0)
def woP (L : List Atr) (s : List UInt8) : List Atr := L.filter fun a => !(a.1 == lowL s)
def mdDelP (r : Int) (L : List Atr) (n : List UInt8) (vs : List (List UInt8)) : List Atr × Int :=
 if vs = [] then (if geL L n = [] then ([], 16) else (woP L n, 0)) else match dropQ r (geL L n) vs with
  | none => ([], 16)
  | some l => (putL (woP L n) (lowL n) l, 0)
def mdRepP (r : Int) (L : List Atr) (n : List UInt8) (vs : List (List UInt8)) : List Atr × Int := if mdTw r vs = true then ([], 20) else (putL (woP L n) (lowL n) vs, 0)
def mdOneP (L : List Atr) (m : Md) : List Atr × Int := match scT plT m.2.1 with
 | none => ([], 17)
 | some t => if mdOk t.2.1 m.2.2 = true then (if m.1 = 0 then mdAddP t.2.1 L m.2.1 m.2.2 else if m.1 = 1 then mdDelP t.2.1 L m.2.1 m.2.2 else if m.1 = 2 then mdRepP t.2.1 L m.2.1 m.2.2 else ([], 2)) else ([], 21)
def mdAllP (L : List Atr) : List Md -> List Atr × Int
 | [] => (L, 0)
 | m :: l => if (mdOneP L m).2 = 0 then mdAllP (mdOneP L m).1 l else ([], (mdOneP L m).2)
theorem putP {L : List Atr} (h : clA L = L) (n : List UInt8) (vs : List (List UInt8)) : putL L (lowL n) vs = clA (L ++ [(n, vs)]) := by
 have := put_cl L n vs
 rwa [h] at this
theorem woP_is {L : List Atr} (h : clA L = L) (n : List UInt8) : woP L n = woL L n := by unfold woP woL; rw [h]
theorem wo_cl (L : List Atr) (n : List UInt8) : clA (woL L n) = woL L n := cl_filterM L _
theorem mdOneP_is {L : List Atr} (h : clA L = L) (m : Md) : mdOneP L m = mdOne L m := by
 unfold mdOneP mdOne mdOp mdAddP mdAdd mdDelP mdDel mdRepP mdRep
 simp only [putP h, woP_is h, putP (wo_cl L m.2.1)]
 rfl
theorem mdOne_cl {L : List Atr} (h : clA L = L) (md : Md) (h0 : (mdOne L md).2 = 0) : clA (mdOne L md).1 = (mdOne L md).1 := by
 unfold mdOne at h0 ⊢
 cases hq : scT plT md.2.1 with
 | none => rw [hq] at h0; cases h0
 | some t =>
  rw [hq] at h0
  dsimp only at h0 ⊢
  split at h0
  ·rename_i hok
   rw [if_pos hok]
   unfold mdOp mdAdd mdDel mdRep at h0 ⊢
   by_cases o0 : md.1 = 0
   ·rw [if_pos o0] at h0 ⊢
    split at h0
    ·cases h0
    ·rename_i q1
     rw [if_neg q1]
     split at h0
     ·cases h0
     ·rename_i q2
      rw [if_neg q2]
      split at h0
      ·cases h0
      ·rename_i q3
       rw [if_neg q3]
       exact cl_clM _
   ·rw [if_neg o0] at h0 ⊢
    by_cases o1 : md.1 = 1
    ·rw [if_pos o1] at h0 ⊢
     split at h0
     ·rename_i q1
      rw [if_pos q1]
      split at h0
      ·cases h0
      ·rename_i q2
       rw [if_neg q2]
       exact wo_cl _ _
     ·rename_i q1
      rw [if_neg q1]
      cases hd : dropQ t.2.1 (geL L md.2.1) md.2.2 with
      | none => rw [hd] at h0; cases h0
      | some l => exact cl_clM _
    ·rw [if_neg o1] at h0 ⊢
     by_cases o2 : md.1 = 2
     ·rw [if_pos o2] at h0 ⊢
      split at h0
      ·cases h0
      ·rename_i q1
       rw [if_neg q1]
       exact cl_clM _
     ·rw [if_neg o2] at h0; cases h0
  ·cases h0
theorem mdAllP_is : ∀ (l : List Md) {L : List Atr}, clA L = L -> mdAllP L l = mdAll L l
 | [], _, _ => rfl
 | m :: l, L, h => by
  unfold mdAllP mdAll
  rw [mdOneP_is h]
  by_cases h0 : (mdOne L m).2 = 0
  ·rw [if_pos h0, if_pos h0, mdAllP_is l (mdOne_cl h m h0)]
  ·rw [if_neg h0, if_neg h0]
theorem mdAppP {A : List Atr} {l : List Md} (hl : l.length <= 64) : mdApp A l = mdAllP (clP A) l := by
 unfold mdApp
 rw [if_neg (by omega), clP_cl, mdAllP_is l (cl_clM A)]
def awL : List Atr := [([99, 110], [[122]]), ([109, 97, 105, 108], [[120]]), ([111, 98, 106, 101, 99, 116, 99, 108, 97, 115, 115], [[116, 111, 112], [80, 101, 114, 115, 111, 110]])]
def awM : List Md := [(0, ([109, 97, 105, 108], [[120]])), (1, ([83, 78], [[66]])), (2, ([99, 110], [[122]]))]
theorem aw21_1 : mdApp perA awM = (awL, 0) := by rw [mdAppP (by decide)]; decide +kernel
theorem aw21_2 : (mdApp perA [(1, ([109, 97, 105, 108], []))]).2 = 16 := by rw [mdAppP (by decide)]; decide +kernel
theorem aw21_3 : (mdApp perA [(0, ([99, 110], [[65]]))]).2 = 20 := by rw [mdAppP (by decide)]; decide +kernel
theorem aw21_4 : (mdApp perA [(0, ([122, 122], [[65]]))]).2 = 17 := by rw [mdAppP (by decide)]; decide +kernel
theorem aw21_5 : nmgS perA [99, 110, 61, 97] = true := by decide +kernel
theorem aw21_6 : nmgS awL [99, 110, 61, 97] = false := by decide +kernel
end Go.Proofs.YtpkbgkoocijegaaGreatDoor
