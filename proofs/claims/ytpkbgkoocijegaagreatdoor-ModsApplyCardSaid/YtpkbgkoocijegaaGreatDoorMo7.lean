/- The document's Apply: modifications, one behind the other. The document's Naming: all pairs of the own part. The laws' limits and what counts as the same. The law on what is put in and taken out again. The law on what any modifications make of any entry. Entries, attributes and modifications that came in as arguments. -/
import Derived.Test.YtpkbgkoocijegaaGreatDoorMo5
import Derived.Test.YtpkbgkoocijegaaGreatDoorMo4
import Derived.Test.YtpkbgkoocijegaaGreatDoorMo3
import Derived.Test.YtpkbgkoocijegaaGreatDoorDtG
import Derived.Test.YtpkbgkoocijegaaGreatDoorScF
import Derived.Test.YtpkbgkoocijegaaGreatDoorScL
import Derived.Test.YtpkbgkoocijegaaGreatDoorEnCE
import Derived.Test.YtpkbgkoocijegaaGreatDoorMo1
import Derived.Test.YtpkbgkoocijegaaGreatDoorEnUW
import Derived.Test.YtpkbgkoocijegaaGreatDoorEnQT
import Derived.Test.YtpkbgkoocijegaaGreatDoorDnLd
import Derived.Deep.SlicePairs
import Derived.Lib.SmallJoins
import Derived.OpenShut
set_option linter.unusedVariables false
set_option linter.unusedSimpArgs false
set_option maxHeartbeats 25600000
set_option maxRecDepth 100000
namespace Go.Proofs.YtpkbgkoocijegaaGreatDoor
open Go Go.RowKit Go.Proofs.BerK Go.Proofs.MemK Go.Proofs.UtfK Go.Proofs.RegK
theorem boxesP {w W1 : World} {a b d e f g : Value} (h : ((w.alloc (.cells #[a, b] 34)).alloc (.cells #[d, e] 24)).alloc (.cells #[f, g] 24) = W1) :
  W1.heap[w.heap.size]? = some (.cells #[a, b] 34 (0, 0)) /\ W1.heap[w.heap.size + 1]? = some (.cells #[d, e] 24 (0, 0)) /\ W1.heap[w.heap.size + 1 + 1]? = some (.cells #[f, g] 24 (0, 0)) /\ Below w.heap.size w W1 /\ W1.heap.size = w.heap.size + 3 := by
 obtain ⟨W0, hW0⟩ : ∃ W, w.alloc (.cells #[a, b] 34) = W := ⟨_, rfl⟩
 rw [hW0] at h
 obtain ⟨y1, y2, hb, hz⟩ := boxes10 h
 have s0 : W0.heap.size = w.heap.size + 1 := by rw [<- hW0]; simp
 rw [s0] at y1 y2 hb hz
 have y0 : W0.heap[w.heap.size]? = some (.cells #[a, b] 34 (0, 0)) := by rw [<- hW0]; exact heap_alloc_new w _
 have b0 : Below w.heap.size w W0 := by rw [<- hW0]; exact (Below.refl _ w).alloc (Nat.le_refl _) _
 exact ⟨obj_below y0 hb (by omega), y1, y2, b0.trans (hb.mono (by omega)), by omega⟩
def apG (sv ev lv : Value) (i : Int) (pa : Value) (mv : Value) (dn : List UInt8) (O : List Atr × Int) (B : Nat) : Nat -> Value -> World -> Prop
 | 0 => fun v _ => v = sv
 | 1 => fun v _ => v = ev
 | 2 => fun v _ => v = lv
 | 3 => fun v _ => v = .int .i64 i
 | 4 => fun v _ => v = pa
 | 5 => fun v _ => v = mv
 | 6 => gRs dn O
 | 7 => gRs dn O
 | 8 => gEn dn O
 | 9 => fun v _ => v = .int .i64 O.2
 | 10 => gBx B
 | _ => fun _ _ => True
theorem apG_mono (sv ev lv : Value) (i : Int) (pa : Value) (mv : Value) (dn : List UInt8) (O : List Atr × Int) (B : Nat) : ∀ (j : Nat) (v : Value) (w w' : World), apG sv ev lv i pa mv dn O B j v w -> Below w.heap.size w w' -> apG sv ev lv i pa mv dn O B j v w'
 | 0, v, w, w', h, hb => h
 | 1, v, w, w', h, hb => h
 | 2, v, w, w', h, hb => h
 | 3, v, w, w', h, hb => h
 | 4, v, w, w', h, hb => h
 | 5, v, w, w', h, hb => h
 | 6, v, w, w', h, hb => gRs_mono h hb
 | 7, v, w, w', h, hb => gRs_mono h hb
 | 8, v, w, w', h, hb => gEn_mono h hb
 | 9, v, w, w', h, hb => h
 | 10, v, w, w', h, hb => gBx_mono h hb
 | _ + 11, _, _, _, _, _ => trivial
theorem rap21_any (A : List Atr) (dn : List UInt8) (l : List Md) (tv cv av lv : Value) (w : World) (hT : TyAt w tv plT) (hA : EaAt w av A) (hf : FewG 12 8 A) (hL : MdsAt w lv l) (hfm : MdsFew l) (hll : l.length <= 8 \/ 64 < l.length) :
  Calls Tryz.prog 13 #[.agg #[tv, cv], .agg #[.string ⟨dn.toArray⟩, av], lv] w (MtPost dn (mdApp A l) w) := by
 obtain ⟨a, c, rfl⟩ := eaAt_slice hA
 obtain ⟨la, lc, rfl, hLc⟩ := hL
 obtain ⟨W1, hW1⟩ : ∃ W1, ((w.alloc (.cells #[tv, cv] 34)).alloc (.cells #[.string ⟨dn.toArray⟩, .slice a A.length c] 24)).alloc (.cells #[.string ⟨#[]⟩, .slice none 0 0] 24) = W1 := ⟨_, rfl⟩
 obtain ⟨x0, x1, x2, hb1, hz1⟩ := boxesP hW1
 have HCl := Lib.hid (rclean10_any dn A (.slice a A.length c) W1 (eaAt_at (eaAt_below hA hb1)) (fewG_mono hf (by omega) (by omega)))
 have HOn := Lib.hid (fun (i : Nat) (hi : i < l.length) (h8 : l.length <= 8) (L : List Atr) (hC : Cln (12 + i) (96 + 8 * i) L) w' (hb : Below w.heap.size w w') ea vv (hE : EaAt w' ea L) (hV : TxR w' vv l[i].2.2) =>
  show Calls Tryz.prog 40 #[.agg #[tv, cv], .agg #[.string ⟨dn.toArray⟩, ea], .agg #[.int .i64 l[i].1, .string ⟨l[i].2.1.toArray⟩, vv]] w' (MdPost dn (mdOne L l[i]) w') from ron21_any l[i].1 L dn l[i].2.1 l[i].2.2 tv cv ea vv w' (tyAt_below hT hb) hE (cln_mono hC (by omega) (by omega)) hV ((hfm _ (List.getElem_mem hi)).2.1) (by have := (hfm _ (List.getElem_mem hi)).1; omega))
 have HCn := Lib.hid (fun (i : Nat) (hi : i < l.length) (L : List Atr) (hC : Cln (12 + i) (96 + 8 * i) L) (h0 : (mdOne L l[i]).2 = 0) => show Cln (12 + (i + 1)) (96 + 8 * (i + 1)) (mdOne L l[i]).1 from cln_mono (cln_one hC (by have := (hfm _ (List.getElem_mem hi)).1; omega) ((hfm _ (List.getElem_mem hi)).2.1) (fun s hs => by have := (hfm _ (List.getElem_mem hi)).2.2 s hs; omega) h0) (by omega) (by omega))
 have HC0 := Lib.hid (show Cln (12 + 0) (96 + 8 * 0) (clA A) from cln_cl hf)
 have HM := Lib.hid hLc
 have HX := Lib.hid (And.intro x0 (And.intro x1 (And.intro x2 (And.intro hb1 hz1))))
 have HW1 := Lib.hid hW1
 have hlong : 64 < l.length -> (mdApp A l).2 = 53 := fun h => by unfold mdApp; rw [if_pos h]
 have hrun : l.length <= 8 -> mdApp A l = mdAll (clA A) (l.drop 0) := mdApp_run
 obtain ⟨P, hP⟩ : ∃ P, mdApp A l = P := ⟨_, rfl⟩
 rw [hP] at hlong hrun ⊢
 have HSt := Lib.hid (fun L i hi => mdAll_step (L := L) (l := l) i hi)
 have HEnd := Lib.hid (fun L => show mdAll L (l.drop l.length) = (L, 0) by rw [List.drop_length]; rfl)
 obtain ⟨ln, hln⟩ : ∃ k, A.length = k := ⟨_, rfl⟩
 rw [hln] at HW1 HX HCl ⊢
 obtain ⟨R, hR⟩ : ∃ R, clA A = R := ⟨_, rfl⟩
 rw [hR] at HCl HC0 hrun
 obtain ⟨m, hm⟩ : ∃ k, l.length = k := ⟨_, rfl⟩
 have HMl := Lib.hid hm
 rw [hm] at hll hlong hrun HEnd ⊢
 obtain ⟨p0, p1⟩ := obj2s HX.out.2.1
 obtain ⟨q0, q1⟩ := obj2s HX.out.2.2.1
 have u0 := obj_free HX.out.2.2.1 0
 have u1 := obj_free HX.out.2.2.1 1
 have z0 : w.heap.size < W1.heap.size := by omega
 have z1 : w.heap.size + 1 < W1.heap.size := by omega
 have z2 : w.heap.size + 1 + 1 < W1.heap.size := by omega
 have HRun := Lib.hid hrun
 have HLong := Lib.hid hlong
 clear hT hA hf hLc hfm x0 x1 x2 hb1 hz1 hW1 hP hln hm hlong hrun hR
 rcases hll with h8 | h64
 ·have hq : ¬ (64 : Int) < (m : Int) := by omega
  go_enter Tryz.func13, Tryz.ntmps13
  go_wp2_with fail
  try rw [HW1.out]
  with_reducible refine HCl.out.mono ?_
  rintro en w5 ⟨v5, rfl, hpa, hb5⟩
  obtain ⟨ea, ec, rfl⟩ := paAt_slice hpa
  obtain ⟨rn, hrn⟩ : ∃ k, R.length = k := ⟨_, rfl⟩
  rw [hrn] at hpa ⊢
  obtain ⟨W6, hW6⟩ : ∃ W, w5.alloc (.cells #[.string ⟨dn.toArray⟩, .slice ea rn ec] 24) = W := ⟨_, rfl⟩
  have hb6 : Below w5.heap.size w5 W6 := by rw [<- hW6]; exact (Below.refl _ w5).alloc (Nat.le_refl _) _
  have hb16 := hb5.trans (hb6.mono hb5.size)
  have x6 : W6.heap[w5.heap.size]? = some (.cells #[.string ⟨dn.toArray⟩, .slice ea rn ec] 24 (0, 0)) := by rw [<- hW6]; exact heap_alloc_new w5 _
  have y0 := obj_below HX.out.1 hb16 z0
  have y2 := obj_below HX.out.2.2.1 hb16 z2
  have hpa6 := paAt_below hpa hb6
  have hbw6 := HX.out.2.2.2.1.trans (hb16.mono HX.out.2.2.2.1.size)
  have hge : w.heap.size + 3 <= w5.heap.size := by have := HX.out.2.2.2.2; have := hb5.size; omega
  obtain ⟨bx, hbx⟩ : ∃ b, w5.heap.size = b := ⟨_, rfl⟩
  rw [hbx] at x6 hge
  have HW6 := Lib.hid (And.intro hW6 hbx)
  have H6 := Lib.hid (And.intro x6 (And.intro y0 (And.intro y2 (And.intro hpa6 hbw6))))
  have HR0 := Lib.hid (HRun.out h8)
  clear hpa hb5 hb6 hb16 x6 y0 y2 hpa6 hbw6 hW6 hbx hrn p0 p1 q0 q1 u0 u1
  go_wp2
  try rw [HW6.out.1]
  try rw [HW6.out.2]
  go_loopw [9] (fun x wr => ∃ (i : Nat) (L : List Atr) (v : Value), i <= m /\ x = .int .i64 (i : Nat) /\ wr.heap[bx]? = some (.cells #[.string ⟨dn.toArray⟩, v] 24 (0, 0)) /\ PaAt wr v L /\ Cln (12 + i) (96 + 8 * i) L /\ P = mdAll L (l.drop i) /\ wr.heap[w.heap.size]? = some (.cells #[tv, cv] 34 (0, 0)) /\ wr.heap[w.heap.size + 1 + 1]? = some (.cells #[.string ⟨#[]⟩, .slice none 0 0] 24 (0, 0)) /\ Below w.heap.size w wr) (fun x _ => m - (intOf x).toNat)
  case atStart => exact ⟨0, R, .slice ea rn ec, by omega, rfl, H6.out.1, H6.out.2.2.2.1, HC0.out, HR0.out, H6.out.2.1, H6.out.2.2.1, H6.out.2.2.2.2⟩
  case round =>
   obtain ⟨i, L, v, hi, rfl, yx, hpa, hcl, hp, ys, yr, hb⟩ := hrel
   obtain ⟨xa, xc, rfl⟩ := paAt_slice hpa
   obtain ⟨xn, hxn⟩ : ∃ k, L.length = k := ⟨_, rfl⟩
   rw [hxn] at hpa yx
   have hsr := hb.size
   by_cases hlt : i < m
   ·have hil : (i : Int) < (m : Int) := by omega
    have him : i < l.length := by rw [HMl.out]; exact hlt
    obtain ⟨g, o, vl, rfl, hg, a0w, a1w, a2w, hV, hk⟩ := HM.out i him
    have a0 := (hb.cell (p := ⟨g, _, none⟩) hg).trans a0w
    have a1 := (hb.cell (p := ⟨g, _, none⟩) hg).trans a1w
    have a2 := (hb.cell (p := ⟨g, _, none⟩) hg).trans a2w
    have hOn := fun w' (hb' : Below wr.heap.size wr w') => HOn.out i him (by rw [HMl.out]; exact h8) L hcl w' (hb.trans (hb'.mono hsr)) (.slice xa xn xc) vl (paAt_ea (paAt_below hpa hb')) (txR_below hV (hb.trans (hb'.mono hsr)))
    have hCn := HCn.out i him L hcl
    have hSt := HSt.out L i him
    obtain ⟨va, vc, rfl, _⟩ := hV
    obtain ⟨vn, hvn⟩ : ∃ k, l[i].2.2.length = k := ⟨_, rfl⟩
    rw [hvn] at a2 hOn
    obtain ⟨⟨op, ty, vals⟩, hmi⟩ : ∃ x, l[i] = x := ⟨_, rfl⟩
    rw [hmi] at a0 a1 hOn hCn hSt
    dsimp only at a0 a1 hOn
    obtain ⟨O, hO⟩ : ∃ x, mdOne L (op, ty, vals) = x := ⟨_, rfl⟩
    rw [hO] at hOn hCn hSt
    rw [hSt] at hp
    have hgr := Nat.lt_of_lt_of_le hg hsr
    have HB := Lib.hid (fun wa (hbw : Below wr.drew.heap.size wr.drew wa) => show (wa.cell? ⟨w.heap.size, 0, none⟩ = some tv /\ wa.cell? ⟨w.heap.size, 1, none⟩ = some cv) /\ (wa.cell? ⟨bx, 0, none⟩ = some (.string ⟨dn.toArray⟩) /\ wa.cell? ⟨bx, 1, none⟩ = some (.slice xa xn xc)) /\ (wa.cell? ⟨g, o + i * 3, none⟩ = some (.int .i64 op) /\ wa.cell? ⟨g, o + i * 3 + 1, none⟩ = some (.string ⟨ty.toArray⟩) /\ wa.cell? ⟨g, o + i * 3 + 2, none⟩ = some (.slice va vn vc)) /\ Calls Tryz.prog 40 #[.agg #[tv, cv], .agg #[.string ⟨dn.toArray⟩, .slice xa xn xc], .agg #[.int .i64 op, .string ⟨ty.toArray⟩, .slice va vn vc]] wa (MdPost dn O wa) /\ wr.heap.size <= wa.heap.size from by
     have hw := (Below.refl _ wr).drew.trans hbw
     exact ⟨obj2s (obj_below ys hw (obj_lt ys)), obj2s (obj_below yx hw (obj_lt yx)), ⟨(hw.cell (p := ⟨g, _, none⟩) hgr).trans a0, (hw.cell (p := ⟨g, _, none⟩) hgr).trans a1, (hw.cell (p := ⟨g, _, none⟩) hgr).trans a2⟩, hOn wa hw, hw.size⟩)
    have HCn7 := Lib.hid hCn
    have HP7 := Lib.hid hp
    have H := Lib.hid (And.intro yx (And.intro ys (And.intro yr (And.intro hpa hb))))
    clear yx ys yr hpa hcl hp hb a0w a1w a2w a0 a1 a2 hOn hCn hSt hvn hmi hO hxn hk hsr
    go_wp2_with fail
    refine wp_region_noPanic ?_
    refine wp_region_held_drew (S := fun _ => True) (by kernel_rfl) trivial (fun _ => ?_)
    refine reg_go (f := 9) (A := fun j => decide (j < 11)) (D := [25, 26, 27, 28, 29, 30, 31, 24, 32, 33, 10]) (G := apG (.agg #[tv, cv]) (.agg #[.string ⟨dn.toArray⟩, .slice xa xn xc]) (.slice (some ⟨g, o, none⟩) m lc) i (.pointer (some ⟨g, o + i * 3, none⟩)) (.agg #[.int .i64 op, .string ⟨ty.toArray⟩, .slice va vn vc]) dn O wr.heap.size) (LIT := #[true, true, true, true, true, true, true, true, true, true, true, false, false]) (r := 2) (by kernel_rfl) (by kernel_rfl) (fun _ => by kernel_rfl) (fun _ => rfl) (by kernel_rfl) (fun _ => by kernel_rfl) (fun _ => by kernel_rfl) (by kernel_rfl) (fun j v w w' h _ hb => apG_mono _ _ _ _ _ _ _ _ _ j v w w' h hb) (fun _ _ _ _ _ h => h) ?op ?yf ?rest
    case op =>
     intro i' hi' hA a wa hbw hsame hdep
     have hlt' : i' < 11 := by simpa using hA
     have hbx := HB.out _ hbw
     rcases (show i' = 0 \/ i' = 1 \/ i' = 2 \/ i' = 3 \/ i' = 4 \/ i' = 5 \/ i' = 6 \/ i' = 7 \/ i' = 8 \/ i' = 9 \/ i' = 10 by omega) with rfl | rfl | rfl | rfl | rfl | rfl | rfl | rfl | rfl | rfl | rfl
     ·have hs3 : a.eval (.tmp 3) = .pointer (some ⟨w.heap.size, 0, none⟩) := hsame 3 rfl
      have hs3' : a.tmps[3]?.getD undef = .pointer (some ⟨w.heap.size, 0, none⟩) := (Array.getD_eq_getD_getElem? ..).symm.trans hs3
      obtain ⟨c0, c1⟩ := hbx.1
      refine ⟨rfl, fun K hK => ?_⟩
      simp only [List.getElem_toArray, List.getElem_cons_zero, List.getElem_cons_succ] at hK ⊢
      go_simp
      exact hK _ _ rfl (Below.refl _ _)
     ·have hs8 : a.eval (.tmp 8) = .pointer (some ⟨bx, 0, none⟩) := hsame 8 rfl
      have hs8' : a.tmps[8]?.getD undef = .pointer (some ⟨bx, 0, none⟩) := (Array.getD_eq_getD_getElem? ..).symm.trans hs8
      obtain ⟨c0, c1⟩ := hbx.2.1
      refine ⟨rfl, fun K hK => ?_⟩
      simp only [List.getElem_toArray, List.getElem_cons_zero, List.getElem_cons_succ] at hK ⊢
      go_simp
      exact hK _ _ rfl (Below.refl _ _)
     ·have hs2 : a.eval (.tmp 2) = .slice (some ⟨g, o, none⟩) m lc := hsame 2 rfl
      have hs2' : a.tmps[2]?.getD undef = .slice (some ⟨g, o, none⟩) m lc := (Array.getD_eq_getD_getElem? ..).symm.trans hs2
      refine ⟨rfl, fun K hK => ?_⟩
      simp only [List.getElem_toArray, List.getElem_cons_zero, List.getElem_cons_succ] at hK ⊢
      go_simp
      exact hK _ _ rfl (Below.refl _ _)
     ·have hs9 : a.eval (.tmp 9) = .int .i64 i := hsame 9 rfl
      have hs9' : a.tmps[9]?.getD undef = .int .i64 i := (Array.getD_eq_getD_getElem? ..).symm.trans hs9
      refine ⟨rfl, fun K hK => ?_⟩
      simp only [List.getElem_toArray, List.getElem_cons_zero, List.getElem_cons_succ] at hK ⊢
      go_simp
      exact hK _ _ rfl (Below.refl _ _)
     ·have hs27 : a.eval (.tmp 27) = .slice (some ⟨g, o, none⟩) m lc := hdep 2 27 (by decide) (by kernel_rfl) rfl
      have hs27' : a.tmps[27]?.getD undef = .slice (some ⟨g, o, none⟩) m lc := (Array.getD_eq_getD_getElem? ..).symm.trans hs27
      have hs28 : a.eval (.tmp 28) = .int .i64 i := hdep 3 28 (by decide) (by kernel_rfl) rfl
      have hs28' : a.tmps[28]?.getD undef = .int .i64 i := (Array.getD_eq_getD_getElem? ..).symm.trans hs28
      refine ⟨rfl, fun K hK => ?_⟩
      simp only [List.getElem_toArray, List.getElem_cons_zero, List.getElem_cons_succ] at hK ⊢
      go_simp
      exact hK _ _ rfl (Below.refl _ _)
     ·have hs29 : a.eval (.tmp 29) = .pointer (some ⟨g, o + i * 3, none⟩) := hdep 4 29 (by decide) (by kernel_rfl) rfl
      have hs29' : a.tmps[29]?.getD undef = .pointer (some ⟨g, o + i * 3, none⟩) := (Array.getD_eq_getD_getElem? ..).symm.trans hs29
      obtain ⟨c0, c1, c2⟩ := hbx.2.2.1
      refine ⟨rfl, fun K hK => ?_⟩
      simp only [List.getElem_toArray, List.getElem_cons_zero, List.getElem_cons_succ] at hK ⊢
      go_simp
      exact hK _ _ rfl (Below.refl _ _)
     ·have hs25 : a.eval (.tmp 25) = .agg #[tv, cv] := hdep 0 25 (by decide) (by kernel_rfl) rfl
      have hs25' : a.tmps[25]?.getD undef = .agg #[tv, cv] := (Array.getD_eq_getD_getElem? ..).symm.trans hs25
      have hs26 : a.eval (.tmp 26) = .agg #[.string ⟨dn.toArray⟩, .slice xa xn xc] := hdep 1 26 (by decide) (by kernel_rfl) rfl
      have hs26' : a.tmps[26]?.getD undef = .agg #[.string ⟨dn.toArray⟩, .slice xa xn xc] := (Array.getD_eq_getD_getElem? ..).symm.trans hs26
      have hs30 : a.eval (.tmp 30) = .agg #[.int .i64 op, .string ⟨ty.toArray⟩, .slice va vn vc] := hdep 5 30 (by decide) (by kernel_rfl) rfl
      have hs30' : a.tmps[30]?.getD undef = .agg #[.int .i64 op, .string ⟨ty.toArray⟩, .slice va vn vc] := (Array.getD_eq_getD_getElem? ..).symm.trans hs30
      have hC := hbx.2.2.2.1
      refine ⟨rfl, fun K hK => ?_⟩
      simp only [List.getElem_toArray, List.getElem_cons_zero, List.getElem_cons_succ] at hK ⊢
      go_simp
      with_reducible refine hC.mono ?_
      rintro en w6 ⟨d, ra, rn', rc, rfl, hpz, hb6⟩
      have HZ := Lib.hid hpz
      clear hpz
      go_simp
      exact hK _ _ ⟨d, ra, rn', rc, rfl, HZ.out⟩ hb6
     ·obtain ⟨d, ra, rn', rc, e, hpz⟩ := hdep 6 31 (by decide) (by kernel_rfl) rfl
      have hs : a.eval (.tmp 31) = _ := e
      have hs' := (Array.getD_eq_getD_getElem? (xs := a.tmps) (i := 31) (d := undef)).symm.trans hs
      have HZ := Lib.hid hpz
      clear hpz
      refine ⟨rfl, fun K hK => ?_⟩
      simp only [List.getElem_toArray, List.getElem_cons_zero, List.getElem_cons_succ] at hK ⊢
      go_simp
      exact hK _ _ ⟨d, ra, rn', rc, rfl, HZ.out⟩ (Below.refl _ _)
     ·obtain ⟨d, ra, rn', rc, e, hpz⟩ := hdep 7 24 (by decide) (by kernel_rfl) rfl
      have hs : a.eval (.tmp 24) = _ := e
      have hs' := (Array.getD_eq_getD_getElem? (xs := a.tmps) (i := 24) (d := undef)).symm.trans hs
      have HZ := Lib.hid hpz
      clear hpz
      refine ⟨rfl, fun K hK => ?_⟩
      simp only [List.getElem_toArray, List.getElem_cons_zero, List.getElem_cons_succ] at hK ⊢
      go_simp
      exact hK _ _ ⟨d, ra, rn', rc, rfl, HZ.out⟩ (Below.refl _ _)
     ·obtain ⟨d, ra, rn', rc, e, hpz⟩ := hdep 7 24 (by decide) (by kernel_rfl) rfl
      have hs : a.eval (.tmp 24) = _ := e
      have hs' := (Array.getD_eq_getD_getElem? (xs := a.tmps) (i := 24) (d := undef)).symm.trans hs
      have HZ := Lib.hid hpz
      clear hpz
      refine ⟨rfl, fun K hK => ?_⟩
      simp only [List.getElem_toArray, List.getElem_cons_zero, List.getElem_cons_succ] at hK ⊢
      go_simp
      exact hK _ _ rfl (Below.refl _ _)
     ·refine ⟨rfl, fun K hK => ?_⟩
      simp only [List.getElem_toArray, List.getElem_cons_zero, List.getElem_cons_succ] at hK ⊢
      go_simp
      exact hK _ _ ⟨_, rfl, heap_alloc_new wa _, hbx.2.2.2.2⟩ ((Below.refl _ wa).alloc (Nat.le_refl _) _)
    case yf =>
     intro hf a wa hdep
     obtain ⟨d, ra, rn', rc, e, hpz⟩ := hdep 7 24 (by decide) (by kernel_rfl) rfl
     have hs : a.eval (.tmp 24) = _ := e
     have hs' := (Array.getD_eq_getD_getElem? (xs := a.tmps) (i := 24) (d := undef)).symm.trans hs
     have HZ := Lib.hid hpz
     clear hpz
     refine ⟨.int .i64 O.2, .inl ⟨rfl, fun w' _ => ?_⟩, rfl⟩
     simp only [List.getElem_toArray, List.getElem_cons_zero, List.getElem_cons_succ]
     go_simp
    case rest =>
     intro fuel a wa hbw ha hG
     have ge0 := hG 8 32 (by decide) rfl rfl
     have ge1 : a.tmps.getD 33 undef = .int .i64 O.2 := hG 9 33 (by decide) rfl rfl
     have gbx := hG 10 10 (by decide) rfl rfl
     obtain ⟨ed, ra, rn', rc, hx0, hpz⟩ := ge0
     obtain ⟨bb, hxb, hbk, hbB⟩ := gbx
     obtain ⟨x25, hx25⟩ : ∃ x, a.tmps.getD 25 undef = x := ⟨_, rfl⟩
     obtain ⟨x26, hx26⟩ : ∃ x, a.tmps.getD 26 undef = x := ⟨_, rfl⟩
     obtain ⟨x27, hx27⟩ : ∃ x, a.tmps.getD 27 undef = x := ⟨_, rfl⟩
     obtain ⟨x28, hx28⟩ : ∃ x, a.tmps.getD 28 undef = x := ⟨_, rfl⟩
     obtain ⟨x29, hx29⟩ : ∃ x, a.tmps.getD 29 undef = x := ⟨_, rfl⟩
     obtain ⟨x30, hx30⟩ : ∃ x, a.tmps.getD 30 undef = x := ⟨_, rfl⟩
     obtain ⟨x31, hx31⟩ : ∃ x, a.tmps.getD 31 undef = x := ⟨_, rfl⟩
     obtain ⟨x24, hx24⟩ : ∃ x, a.tmps.getD 24 undef = x := ⟨_, rfl⟩
     simp only [List.foldl_cons, List.foldl_nil, hx0, ge1, hxb, hx25, hx26, hx27, hx28, hx29, hx30, hx31, hx24, Act.put, List.setIfInBounds_toArray, List.set_cons_zero, List.set_cons_succ] at ha
     clear hx0 ge1 hxb hx25 hx26 hx27 hx28 hx29 hx30 hx31 hx24 hG
     subst ha
     have HZ := Lib.hid hpz
     clear hpz
     obtain ⟨q0, q1⟩ := obj2s hbk
     have u0 := obj_free hbk 0
     have u1 := obj_free hbk 1
     obtain ⟨pc, hpc⟩ : ∃ x, O.2 = x := ⟨_, rfl⟩
     rw [hpc]
     refine wpAnyH_ready (rs := [11]) (by kernel_rfl) (by simp) ?_
     refine AllReadyH.cons (o := _) rfl (fun KR hKR => ?c11) AllReadyH.nil
     go_simp
     refine hKR.out _ _ trivial (fun _ => ?_)
     clear hKR KR
     try simp only [List.getElem_toArray, List.getElem_cons_zero, List.getElem_cons_succ, Act.put, List.setIfInBounds_toArray, List.set_cons_zero, List.set_cons_succ]
     refine wpAnyH_ready (rs := [12]) (by kernel_rfl) (by simp) ?_
     refine AllReadyH.cons (o := _) rfl (fun KR hKR => ?c12) AllReadyH.nil
     go_simp
     refine hKR.out _ _ trivial (fun _ => ?_)
     clear hKR KR
     try simp only [List.getElem_toArray, List.getElem_cons_zero, List.getElem_cons_succ, Act.put, List.setIfInBounds_toArray, List.set_cons_zero, List.set_cons_succ]
     refine wpAnyH_done (by kernel_rfl) ?_ _
     refine NoPanic.normal ?_
     have hw := (Below.refl _ wr).drew.trans hbw
     obtain ⟨W8, hWn⟩ : ∃ W, (wa.setCell ⟨bb, 0, none⟩ (.string ⟨ed⟩)).setCell ⟨bb, 1, none⟩ (.slice ra rn' rc) = W := ⟨_, rfl⟩
     have hbn : Below wr.heap.size wr W8 := by rw [<- hWn]; exact below_e2 hw hbB _ _
     have x8 := set2_e hbk (.string ⟨ed⟩) (.slice ra rn' rc)
     rw [hWn] at x8 ⊢
     have yx := obj_below H.out.1 hbn (obj_lt H.out.1)
     have ys := obj_below H.out.2.1 hbn (obj_lt H.out.2.1)
     have yr := obj_below H.out.2.2.1 hbn (obj_lt H.out.2.2.1)
     have hbw8 := H.out.2.2.2.2.trans (hbn.mono H.out.2.2.2.2.size)
     by_cases hpz : pc = 0
     ·have hp2 : (pc != 0) = false := by simp [hpz]
      obtain ⟨rfl, hpa'⟩ := HZ.out (hpc.trans hpz)
      have hpa8 : PaAt W8 (.slice ra rn' rc) O.1 := by rw [<- hWn]; exact paAt_set2 hpa' hbk (by decide) (by decide) _ _
      have HCn2 := Lib.hid (HCn7.out (hpc.trans hpz))
      have HP2 := Lib.hid (show P = mdAll O.1 (l.drop (i + 1)) by have h := HP7.out; rw [if_pos (hpc.trans hpz)] at h; exact h)
      have hnx : bx ≠ w.heap.size := by omega
      have hnr : bx ≠ w.heap.size + 1 + 1 := by omega
      have f0 := set2_e yx (.string ⟨dn.toArray⟩) (.slice ra rn' rc)
      have f1 := obj_set2o ys (show w.heap.size ≠ bx by omega) (.string ⟨dn.toArray⟩) (.slice ra rn' rc)
      have f2 := obj_set2o yr (show w.heap.size + 1 + 1 ≠ bx by omega) (.string ⟨dn.toArray⟩) (.slice ra rn' rc)
      have hpa9 := paAt_set2 hpa8 yx (by decide) (by decide) (.string ⟨dn.toArray⟩) (.slice ra rn' rc)
      have hbw9 := below_e2 hbw8 (show w.heap.size <= bx by omega) (.string ⟨dn.toArray⟩) (.slice ra rn' rc)
      have HF := Lib.hid (And.intro f0 (And.intro f1 (And.intro f2 (And.intro hpa9 hbw9))))
      obtain ⟨c0, c1⟩ := obj2s x8
      obtain ⟨k0, k1⟩ := obj2s yx
      have v0 := obj_free yx 0
      have v1 := obj_free yx 1
      clear q0 q1 u0 u1 hw hWn hbn x8 yx ys yr hbw8 hpa' hpa8 f0 f1 f2 hpa9 hbw9 hpc hpz hbk hbB hbw hnx hnr
      go_wp2
      exact ⟨⟨i + 1, O.1, .slice ra rn' rc, by omega, by go_num, HF.out.1, HF.out.2.2.2.1, HCn2.out, HP2.out, HF.out.2.1, HF.out.2.2.1, HF.out.2.2.2.2⟩, by simp [intOf]; omega⟩
     ·have hp2 : (pc != 0) = true := by simp [hpz]
      have HE := Lib.hid (show P.2 = pc /\ pc ≠ 0 by have h := HP7.out; rw [if_neg (by rw [hpc]; exact hpz)] at h; rw [h]; exact ⟨hpc, hpz⟩)
      have H8 := Lib.hid (And.intro hbw8 yr)
      obtain ⟨k0, k1⟩ := obj2s yr
      have v0 := obj_free yr 0
      have v1 := obj_free yr 1
      clear q0 q1 u0 u1 hw hWn hbn x8 yx ys yr hbw8 hpc hpz hbk hbB hbw
      go_wp2
      obtain ⟨j0, j1⟩ := obj2s (set2_e H8.out.2 (.string ⟨#[]⟩) (.slice none 0 0))
      refine bodyPost_ret (v := .tuple #[.agg #[.string ⟨#[]⟩, .slice none 0 0], .int .i64 pc]) (by simp [results, Tryz.results13, go_sem, *]) rfl ?_
      first | exact mtPost_bad HE.out.1 HE.out.2 H8.out.1 | exact mtPost_bad HE.out.1 HE.out.2 (below_e2 H8.out.1 (by omega) _ _)
   ·obtain rfl : i = m := by omega
    have HE := Lib.hid (show P = (L, 0) by rw [hp, HEnd.out])
    obtain ⟨c0, c1⟩ := obj2s yx
    obtain ⟨q0, q1⟩ := obj2s yr
    have u0 := obj_free yr 0
    have u1 := obj_free yr 1
    have H8 := Lib.hid (And.intro hpa (And.intro hb yr))
    clear yx yr ys hpa hb hp hcl hxn
    go_wp2
    obtain ⟨j0, j1⟩ := obj2s (set2_e H8.out.2.2 (.string ⟨dn.toArray⟩) (.slice xa xn xc))
    refine bodyPost_ret (v := .tuple #[.agg #[.string ⟨dn.toArray⟩, .slice xa xn xc], .int .i64 0]) (by simp [results, Tryz.results13, go_sem, *]) rfl ?_
    exact mtPost_ok HE.out (paAt_set2 H8.out.1 H8.out.2.2 (by decide) (by decide) _ _) (below_e2 H8.out.2.1 (by omega) _ _)
 ·have HP := Lib.hid (HLong.out h64)
  have hq : (64 : Int) < (m : Int) := by omega
  go_enter Tryz.func13, Tryz.ntmps13
  go_wp2
  try rw [HW1.out]
  obtain ⟨j0, j1⟩ := obj2s (set2_e HX.out.2.2.1 (.string ⟨#[]⟩) (.slice none 0 0))
  refine bodyPost_ret (v := .tuple #[.agg #[.string ⟨#[]⟩, .slice none 0 0], .int .i64 53]) (by simp [results, Tryz.results13, go_sem, *]) rfl ?_
  first | exact mtPost_bad HP.out (by decide) HX.out.2.2.2.1 | exact mtPost_bad HP.out (by decide) (below_e2 HX.out.2.2.2.1 (by omega) _ _)
def gBt (B : Nat) (v : Value) (w : World) : Prop := ∃ b, v = .pointer (some ⟨b, 0, none⟩) /\ w.heap[b]? = some (.cells #[.string ⟨#[]⟩, .int .i64 0, .bool false] 79 (0, 0)) /\ B <= b
theorem gBt_mono {B : Nat} {v : Value} {w w' : World} (h : gBt B v w) (hb : Below w.heap.size w w') : gBt B v w' := by
 obtain ⟨b, h1, h2, h3⟩ := h; exact ⟨b, h1, obj_below h2 hb (obj_lt h2), h3⟩
theorem set3_e {w : World} {g : Nat} {a b c : Value} {t : TypeId} (h : w.heap[g]? = some (.cells #[a, b, c] t (0, 0))) (x y z : Value) : (((w.setCell ⟨g, 0, none⟩ x).setCell ⟨g, 1, none⟩ y).setCell ⟨g, 2, none⟩ z).heap[g]? = some (.cells #[x, y, z] t (0, 0)) := by simpa using obj_set (obj_set (obj_set h 0 x) 1 y) 2 z
theorem below_e3 {B : Nat} {a w : World} (h : Below B a w) {g : Nat} (hg : B <= g) (x y z : Value) : Below B a (((w.setCell ⟨g, 0, none⟩ x).setCell ⟨g, 1, none⟩ y).setCell ⟨g, 2, none⟩ z) := ((h.setCell (p := ⟨g, 0, none⟩) hg x).setCell (p := ⟨g, 1, none⟩) hg y).setCell (p := ⟨g, 2, none⟩) hg z
def nmG (sv lv pv uv : Value) (i : Int) (pa : Value) (pt : List UInt8) (ty : Value) (ok : Bool) (B : Nat) : Nat -> Value -> World -> Prop
 | 0 => fun v _ => v = sv
 | 1 => fun v _ => v = lv
 | 2 => fun v _ => v = pv
 | 3 => fun v _ => v = uv
 | 4 => fun v _ => v = .int .i64 i
 | 5 => fun v _ => v = pa
 | 6 => fun v _ => v = pa
 | 7 => fun v _ => v = .string ⟨pt.toArray⟩
 | 8 => fun v _ => v = .tuple #[ty, .bool ok]
 | 9 => fun v _ => v = .tuple #[ty, .bool ok]
 | 10 => fun v _ => v = ty
 | 11 => fun v _ => v = .bool ok
 | 12 => gBt B
 | _ => fun _ _ => True
theorem nmG_mono (sv lv pv uv : Value) (i : Int) (pa : Value) (pt : List UInt8) (ty : Value) (ok : Bool) (B : Nat) : ∀ (j : Nat) (v : Value) (w w' : World), nmG sv lv pv uv i pa pt ty ok B j v w -> Below w.heap.size w w' -> nmG sv lv pv uv i pa pt ty ok B j v w'
 | 0, v, w, w', h, hb => h
 | 1, v, w, w', h, hb => h
 | 2, v, w, w', h, hb => h
 | 3, v, w, w', h, hb => h
 | 4, v, w, w', h, hb => h
 | 5, v, w, w', h, hb => h
 | 6, v, w, w', h, hb => h
 | 7, v, w, w', h, hb => h
 | 8, v, w, w', h, hb => h
 | 9, v, w, w', h, hb => h
 | 10, v, w, w', h, hb => h
 | 11, v, w, w', h, hb => h
 | 12, v, w, w', h, hb => gBt_mono h hb
 | _ + 13, _, _, _, _, _ => trivial
theorem all_snocM (f : Av -> Bool) (r : List Av) (i : Nat) (hi : i < r.length) : (r.take (i + 1)).all f = ((r.take i).all f && f r[i]) := by
 rw [List.take_add_one, List.getElem?_eq_getElem hi, List.all_append]; simp
theorem rty_ways (A : List Atr) (pt pv : List UInt8) : ∃ (tn : List UInt8) (tr : Int) (ts ok : Bool), TyV (scT plT pt) = .tuple #[.agg #[.string ⟨tn.toArray⟩, .int .i64 tr, .bool ts], .bool ok] /\ (ok = false -> nmP A (pt, pv) = false) /\ (ok = true -> (geL A pt).any (sameQ tr pv) = nmP A (pt, pv)) := by
 cases h : scT plT pt with
 | none => exact ⟨[], 0, false, false, rfl, fun _ => by unfold nmP; rw [h], fun h => by cases h⟩
 | some t => exact ⟨t.1, t.2.1, t.2.2, true, rfl, fun h => (by cases h), fun _ => by unfold nmP; rw [h]⟩
theorem rnm20_any (A : List Atr) (dn : List UInt8) (tv cv av : Value) (w : World) (hT : TyAt w tv plT) (hA : AtAt w av A) (hf : FewG 300 300 A) :
  Calls Tryz.prog 14 #[.agg #[tv, cv], .agg #[.string ⟨dn.toArray⟩, av]] w (BB (nmgS A dn) w) := by
 obtain ⟨W1, hW1⟩ : ∃ W, (w.alloc (.cells #[tv, cv] 34)).alloc (.cells #[.string ⟨dn.toArray⟩, av] 24) = W := ⟨_, rfl⟩
 obtain ⟨W0, hW0⟩ : ∃ W, w.alloc (.cells #[tv, cv] 34) = W := ⟨_, rfl⟩
 have s0 : W0.heap.size = w.heap.size + 1 := by rw [<- hW0]; simp
 have b0 : Below w.heap.size w W0 := by rw [<- hW0]; exact (Below.refl _ w).alloc (Nat.le_refl _) _
 have hW01 : W0.alloc (.cells #[.string ⟨dn.toArray⟩, av] 24) = W1 := by rw [<- hW0]; exact hW1
 have b1 : Below w.heap.size w W1 := by rw [<- hW01]; exact b0.alloc b0.size _
 have x0 : W1.heap[w.heap.size]? = some (.cells #[tv, cv] 34 (0, 0)) := by rw [<- hW01, <- hW0]; exact obj_alloc (heap_alloc_new w _) _
 have x1 : W1.heap[w.heap.size + 1]? = some (.cells #[.string ⟨dn.toArray⟩, av] 24 (0, 0)) := by rw [<- hW01, <- s0]; exact heap_alloc_new W0 _
 have HLf := Lib.hid (rleaf_any dn W1)
 have HTy := Lib.hid (fun s w' (hb : Below w.heap.size w w') (hs : s.length <= 4096) => rtype9_any plT tv cv s w' (tyAt_below hT hb) (by decide +kernel) (by decide +kernel) (by omega))
 have HHs := Lib.hid (fun pt pv r w' (hb : Below w.heap.size w w') (hs : pt.length <= 4096) => rhas10_any A dn pt pv r av w' (atAt_below hA hb) hf (by omega))
 have HX := Lib.hid (And.intro x0 (And.intro x1 b1))
 have HW1 := Lib.hid hW1
 obtain ⟨d0, d1⟩ := obj2s x1
 have z0 := obj_lt x0
 have z1 := obj_lt x1
 obtain ⟨Z, hZ⟩ : ∃ z, nmgS A dn = z := ⟨_, rfl⟩
 rw [hZ]
 rcases nr_ways dn with h | ⟨r, D, h⟩
 ·have hL := leaf_none h
  rw [hL] at HLf
  have HS := Lib.hid (show Z = false by
   rw [<- hZ]
   unfold nmgS
   rcases h with h | h <;> rw [h])
  have HRd := Lib.hid (fun w' => show Calls Tryz.prog 42 #[.string ⟨#[]⟩] w' (RnPost ([], 0) w') from rread_any ⟨#[]⟩ w')
  clear hT hA hf x0 x1 hW1 hW0 hW01 b0 b1 h hL s0 hZ
  go_enter Tryz.func14, Tryz.ntmps14
  go_wp2_with fail
  try rw [HW1.out]
  with_reducible refine HLf.out.mono ?_
  rintro en w2 ⟨rfl, hb2⟩
  have H2 := Lib.hid (HX.out.2.2.trans (hb2.mono HX.out.2.2.size))
  clear hb2 d0 d1
  go_wp2_with fail
  with_reducible refine (HRd.out _).mono ?_
  rintro en w3 ⟨v3, rfl, hdn, hb3⟩
  obtain ⟨pa, pc, rfl, _⟩ := hdn
  have H3 := Lib.hid (H2.out.trans (hb3.mono H2.out.size))
  clear hb3
  go_wp2
  go_ret
  exact bB_mk HS.out H3.out
 ·obtain ⟨hrd, hrl, hrp⟩ := rd_leaf h
  rw [leaf_cons h] at HLf
  have HRd := Lib.hid (fun w' => show Calls Tryz.prog 42 #[.string ⟨(ptL r).toArray⟩] w' (RnPost ([r], 0) w') from hrd ▸ rread_any ⟨(ptL r).toArray⟩ w')
  have hs : Z = r.all (nmP A) := by rw [<- hZ]; unfold nmgS; rw [h]; rfl
  have HS := Lib.hid hs
  have HP := Lib.hid hrp
  have HSn := Lib.hid (fun i hi => all_snocM (nmP A) r i hi)
  have HBad := Lib.hid (fun i hi => all_bad (nmP A) r i hi)
  have HWy := Lib.hid (rty_ways A)
  have HRl := Lib.hid hrl
  clear hT hA hf x0 x1 hW1 hW0 hW01 b0 b1 h s0 hrd hrl hrp hs hZ
  go_enter Tryz.func14, Tryz.ntmps14
  go_wp2_with fail
  try rw [HW1.out]
  with_reducible refine HLf.out.mono ?_
  rintro en w2 ⟨rfl, hb2⟩
  have H2 := Lib.hid hb2
  clear hb2 d0 d1
  go_wp2_with fail
  with_reducible refine (HRd.out _).mono ?_
  rintro en w3 ⟨v3, rfl, hdn, hb3⟩
  obtain ⟨pa, pc, rfl, _, hpp⟩ := hdn
  obtain ⟨pg, po, rv, rfl, hpl, hrv, hav⟩ := hpp 0 (by simp)
  have hav : AvAt w3 rv r := hav
  obtain ⟨ra, rc, rfl, _, hcells⟩ := hav
  have hb13 := H2.out.trans (hb3.mono H2.out.size)
  have hrv : w3.cell? ⟨pg, po, none⟩ = some (.slice ra r.length rc) := by simpa using hrv
  have HM := Lib.hid hcells
  obtain ⟨m, hm⟩ : ∃ m, r.length = m := ⟨_, rfl⟩
  have HMl := Lib.hid hm
  have hm2 : m <= 4096 := by rw [<- hm]; exact HRl.out
  rw [hm] at hrv
  have H3 := Lib.hid (And.intro (obj_below HX.out.1 hb13 z0) (And.intro (obj_below HX.out.2.1 hb13 z1) (And.intro (HX.out.2.2.trans (hb13.mono HX.out.2.2.size)) (And.intro hrv hpl))))
  simp only [List.length_cons, List.length_nil]
  clear hb3 hpp hcells hb13 hrv hpl hm
  go_wp2
  go_loopw [9] (fun x wr => ∃ i : Nat, i <= m /\ x = .int .i64 (i : Nat) /\ Below w3.heap.size w3 wr /\ (r.take i).all (nmP A) = true) (fun x _ => m - (intOf x).toNat)
  case atStart => exact ⟨0, by omega, rfl, Below.refl _ _, rfl⟩
  case round =>
   obtain ⟨i, hi, rfl, hb, hall⟩ := hrel
   have hsr := hb.size
   have hbw := H3.out.2.2.1.trans (hb.mono H3.out.2.2.1.size)
   have hzp := Nat.lt_of_lt_of_le H3.out.2.2.2.2 hsr
   have cp := (hb.cell (p := ⟨pg, _, none⟩) H3.out.2.2.2.2).trans H3.out.2.2.2.1
   by_cases hlt : i < m
   ·have hil : (i : Int) < (m : Int) := by omega
    have him : i < r.length := by rw [HMl.out]; exact hlt
    obtain ⟨ag, ao, rfl, hag, a0w, a1w⟩ := HM.out i him
    have a0 := (hb.cell (p := ⟨ag, _, none⟩) hag).trans a0w
    have a1 := (hb.cell (p := ⟨ag, _, none⟩) hag).trans a1w
    have hagr := Nat.lt_of_lt_of_le hag hsr
    have hst := HSn.out i him
    have hbad := HBad.out i him
    have hpl := HP.out _ (List.getElem_mem him)
    obtain ⟨⟨pt, pv⟩, hrj⟩ : ∃ x, r[i] = x := ⟨_, rfl⟩
    rw [hrj] at a0 a1 hst hbad hpl
    dsimp only at a0 a1 hpl
    obtain ⟨tn, tr, ts, ok, hty, hok0, hok1⟩ := HWy.out pt pv
    have ys := obj_below H3.out.1 hb (obj_lt H3.out.1)
    have ye := obj_below H3.out.2.1 hb (obj_lt H3.out.2.1)
    have hTy := fun w' (hb' : Below wr.heap.size wr w') => show Calls Tryz.prog 43 #[.agg #[tv, cv], .string ⟨pt.toArray⟩] w' (fun en w'' => en = .returned (.tuple #[.agg #[.string ⟨tn.toArray⟩, .int .i64 tr, .bool ts], .bool ok]) /\ Below w'.heap.size w' w'') from by have q := HTy.out pt w' (hbw.trans (hb'.mono hbw.size)) hpl.1; unfold TyPost at q; rw [hty] at q; exact q
    have HHk := Lib.hid (fun w' (hb' : Below wr.heap.size wr w') => HHs.out pt pv tr w' (hbw.trans (hb'.mono hbw.size)) hpl.1)
    have HB := Lib.hid (fun wa (hbw' : Below wr.drew.heap.size wr.drew wa) => show (wa.cell? ⟨w.heap.size, 0, none⟩ = some tv /\ wa.cell? ⟨w.heap.size, 1, none⟩ = some cv) /\ wa.cell? ⟨pg, po, none⟩ = some (.slice (some ⟨ag, ao, none⟩) m rc) /\ wa.cell? ⟨ag, ao + i * 2, none⟩ = some (.string ⟨pt.toArray⟩) /\ Calls Tryz.prog 43 #[.agg #[tv, cv], .string ⟨pt.toArray⟩] wa (fun en w'' => en = .returned (.tuple #[.agg #[.string ⟨tn.toArray⟩, .int .i64 tr, .bool ts], .bool ok]) /\ Below wa.heap.size wa w'') /\ wr.heap.size <= wa.heap.size from by
     have hw := (Below.refl _ wr).drew.trans hbw'
     exact ⟨obj2s (obj_below ys hw (obj_lt ys)), (hw.cell (p := ⟨pg, _, none⟩) hzp).trans cp, (hw.cell (p := ⟨ag, _, none⟩) hagr).trans a0, hTy wa hw, hw.size⟩)
    have H := Lib.hid (And.intro hb (And.intro hbw (And.intro hst (And.intro hbad (And.intro hall (And.intro hok0 (And.intro hok1 ye)))))))
    have HC := Lib.hid (And.intro a0 (And.intro a1 (And.intro cp (And.intro hagr hzp))))
    clear hb hbw a0w a1w a0 hst hbad hall hok0 hok1 ys ye hTy hty hrj hsr hpl a1
    go_wp2_with fail
    refine wp_region_noPanic ?_
    refine wp_region_held_drew (S := fun _ => True) (by kernel_rfl) trivial (fun _ => ?_)
    refine reg_go (f := 11) (A := fun j => decide (j < 13)) (D := [39, 40, 41, 42, 43, 44, 45, 46, 47, 38, 48, 49, 10]) (G := nmG (.agg #[tv, cv]) (.slice (some ⟨pg, po, none⟩) 1 pc) (.pointer (some ⟨pg, po, none⟩)) (.slice (some ⟨ag, ao, none⟩) m rc) i (.pointer (some ⟨ag, ao + i * 2, none⟩)) pt (.agg #[.string ⟨tn.toArray⟩, .int .i64 tr, .bool ts]) ok wr.heap.size) (LIT := #[true, true, true, true, true, true, true, true, true, true, true, true, true, false, false]) (r := 2) (by kernel_rfl) (by kernel_rfl) (fun _ => by kernel_rfl) (fun _ => rfl) (by kernel_rfl) (fun _ => by kernel_rfl) (fun _ => by kernel_rfl) (by kernel_rfl) (fun j v w w' h _ hb => nmG_mono _ _ _ _ _ _ _ _ _ _ j v w w' h hb) (fun _ _ _ _ _ h => h) ?op ?yf ?rest
    case op =>
     intro i' hi' hA a wa hbw hsame hdep
     have hlt' : i' < 13 := by simpa using hA
     have hbx := HB.out _ hbw
     rcases (show i' = 0 \/ i' = 1 \/ i' = 2 \/ i' = 3 \/ i' = 4 \/ i' = 5 \/ i' = 6 \/ i' = 7 \/ i' = 8 \/ i' = 9 \/ i' = 10 \/ i' = 11 \/ i' = 12 by omega) with rfl | rfl | rfl | rfl | rfl | rfl | rfl | rfl | rfl | rfl | rfl | rfl | rfl
     ·have hs2 : a.eval (.tmp 2) = .pointer (some ⟨w.heap.size, 0, none⟩) := hsame 2 rfl
      have hs2' : a.tmps[2]?.getD undef = .pointer (some ⟨w.heap.size, 0, none⟩) := (Array.getD_eq_getD_getElem? ..).symm.trans hs2
      obtain ⟨c0, c1⟩ := hbx.1
      refine ⟨rfl, fun K hK => ?_⟩
      simp only [List.getElem_toArray, List.getElem_cons_zero, List.getElem_cons_succ] at hK ⊢
      go_simp
      exact hK _ _ rfl (Below.refl _ _)
     ·have hs7 : a.eval (.tmp 7) = .slice (some ⟨pg, po, none⟩) 1 pc := hsame 7 rfl
      have hs7' : a.tmps[7]?.getD undef = .slice (some ⟨pg, po, none⟩) 1 pc := (Array.getD_eq_getD_getElem? ..).symm.trans hs7
      refine ⟨rfl, fun K hK => ?_⟩
      simp only [List.getElem_toArray, List.getElem_cons_zero, List.getElem_cons_succ] at hK ⊢
      go_simp
      exact hK _ _ rfl (Below.refl _ _)
     ·have hs40 : a.eval (.tmp 40) = .slice (some ⟨pg, po, none⟩) 1 pc := hdep 1 40 (by decide) (by kernel_rfl) rfl
      have hs40' : a.tmps[40]?.getD undef = .slice (some ⟨pg, po, none⟩) 1 pc := (Array.getD_eq_getD_getElem? ..).symm.trans hs40
      refine ⟨rfl, fun K hK => ?_⟩
      simp only [List.getElem_toArray, List.getElem_cons_zero, List.getElem_cons_succ] at hK ⊢
      go_simp
      exact hK _ _ rfl (Below.refl _ _)
     ·have hs41 : a.eval (.tmp 41) = .pointer (some ⟨pg, po, none⟩) := hdep 2 41 (by decide) (by kernel_rfl) rfl
      have hs41' : a.tmps[41]?.getD undef = .pointer (some ⟨pg, po, none⟩) := (Array.getD_eq_getD_getElem? ..).symm.trans hs41
      have c0 := hbx.2.1
      refine ⟨rfl, fun K hK => ?_⟩
      simp only [List.getElem_toArray, List.getElem_cons_zero, List.getElem_cons_succ] at hK ⊢
      go_simp
      exact hK _ _ rfl (Below.refl _ _)
     ·have hs9 : a.eval (.tmp 9) = .int .i64 i := hsame 9 rfl
      have hs9' : a.tmps[9]?.getD undef = .int .i64 i := (Array.getD_eq_getD_getElem? ..).symm.trans hs9
      refine ⟨rfl, fun K hK => ?_⟩
      simp only [List.getElem_toArray, List.getElem_cons_zero, List.getElem_cons_succ] at hK ⊢
      go_simp
      exact hK _ _ rfl (Below.refl _ _)
     ·have hs42 : a.eval (.tmp 42) = .slice (some ⟨ag, ao, none⟩) m rc := hdep 3 42 (by decide) (by kernel_rfl) rfl
      have hs42' : a.tmps[42]?.getD undef = .slice (some ⟨ag, ao, none⟩) m rc := (Array.getD_eq_getD_getElem? ..).symm.trans hs42
      have hs43 : a.eval (.tmp 43) = .int .i64 i := hdep 4 43 (by decide) (by kernel_rfl) rfl
      have hs43' : a.tmps[43]?.getD undef = .int .i64 i := (Array.getD_eq_getD_getElem? ..).symm.trans hs43
      refine ⟨rfl, fun K hK => ?_⟩
      simp only [List.getElem_toArray, List.getElem_cons_zero, List.getElem_cons_succ] at hK ⊢
      go_simp
      exact hK _ _ rfl (Below.refl _ _)
     ·have hs44 : a.eval (.tmp 44) = .pointer (some ⟨ag, ao + i * 2, none⟩) := hdep 5 44 (by decide) (by kernel_rfl) rfl
      have hs44' : a.tmps[44]?.getD undef = .pointer (some ⟨ag, ao + i * 2, none⟩) := (Array.getD_eq_getD_getElem? ..).symm.trans hs44
      refine ⟨rfl, fun K hK => ?_⟩
      simp only [List.getElem_toArray, List.getElem_cons_zero, List.getElem_cons_succ] at hK ⊢
      go_simp
      exact hK _ _ rfl (Below.refl _ _)
     ·have hs45 : a.eval (.tmp 45) = .pointer (some ⟨ag, ao + i * 2, none⟩) := hdep 6 45 (by decide) (by kernel_rfl) rfl
      have hs45' : a.tmps[45]?.getD undef = .pointer (some ⟨ag, ao + i * 2, none⟩) := (Array.getD_eq_getD_getElem? ..).symm.trans hs45
      have c0 := hbx.2.2.1
      refine ⟨rfl, fun K hK => ?_⟩
      simp only [List.getElem_toArray, List.getElem_cons_zero, List.getElem_cons_succ] at hK ⊢
      go_simp
      exact hK _ _ rfl (Below.refl _ _)
     ·have hs39 : a.eval (.tmp 39) = .agg #[tv, cv] := hdep 0 39 (by decide) (by kernel_rfl) rfl
      have hs39' : a.tmps[39]?.getD undef = .agg #[tv, cv] := (Array.getD_eq_getD_getElem? ..).symm.trans hs39
      have hs46 : a.eval (.tmp 46) = .string ⟨pt.toArray⟩ := hdep 7 46 (by decide) (by kernel_rfl) rfl
      have hs46' : a.tmps[46]?.getD undef = .string ⟨pt.toArray⟩ := (Array.getD_eq_getD_getElem? ..).symm.trans hs46
      have hC := hbx.2.2.2.1
      refine ⟨rfl, fun K hK => ?_⟩
      simp only [List.getElem_toArray, List.getElem_cons_zero, List.getElem_cons_succ] at hK ⊢
      go_simp
      with_reducible refine hC.mono ?_
      rintro en w6 ⟨rfl, hb6⟩
      go_simp
      exact hK _ _ rfl hb6
     ·have hs47 : a.eval (.tmp 47) = .tuple #[.agg #[.string ⟨tn.toArray⟩, .int .i64 tr, .bool ts], .bool ok] := hdep 8 47 (by decide) (by kernel_rfl) rfl
      have hs47' : a.tmps[47]?.getD undef = .tuple #[.agg #[.string ⟨tn.toArray⟩, .int .i64 tr, .bool ts], .bool ok] := (Array.getD_eq_getD_getElem? ..).symm.trans hs47
      refine ⟨rfl, fun K hK => ?_⟩
      simp only [List.getElem_toArray, List.getElem_cons_zero, List.getElem_cons_succ] at hK ⊢
      go_simp
      exact hK _ _ rfl (Below.refl _ _)
     ·have hs38 : a.eval (.tmp 38) = .tuple #[.agg #[.string ⟨tn.toArray⟩, .int .i64 tr, .bool ts], .bool ok] := hdep 9 38 (by decide) (by kernel_rfl) rfl
      have hs38' : a.tmps[38]?.getD undef = .tuple #[.agg #[.string ⟨tn.toArray⟩, .int .i64 tr, .bool ts], .bool ok] := (Array.getD_eq_getD_getElem? ..).symm.trans hs38
      refine ⟨rfl, fun K hK => ?_⟩
      simp only [List.getElem_toArray, List.getElem_cons_zero, List.getElem_cons_succ] at hK ⊢
      go_simp
      exact hK _ _ rfl (Below.refl _ _)
     ·have hs38 : a.eval (.tmp 38) = .tuple #[.agg #[.string ⟨tn.toArray⟩, .int .i64 tr, .bool ts], .bool ok] := hdep 9 38 (by decide) (by kernel_rfl) rfl
      have hs38' : a.tmps[38]?.getD undef = .tuple #[.agg #[.string ⟨tn.toArray⟩, .int .i64 tr, .bool ts], .bool ok] := (Array.getD_eq_getD_getElem? ..).symm.trans hs38
      refine ⟨rfl, fun K hK => ?_⟩
      simp only [List.getElem_toArray, List.getElem_cons_zero, List.getElem_cons_succ] at hK ⊢
      go_simp
      exact hK _ _ rfl (Below.refl _ _)
     ·refine ⟨rfl, fun K hK => ?_⟩
      simp only [List.getElem_toArray, List.getElem_cons_zero, List.getElem_cons_succ] at hK ⊢
      go_simp
      exact hK _ _ ⟨_, rfl, heap_alloc_new wa _, hbx.2.2.2.2⟩ ((Below.refl _ wa).alloc (Nat.le_refl _) _)
    case yf =>
     intro hf a wa hdep
     have hs38 : a.eval (.tmp 38) = .tuple #[.agg #[.string ⟨tn.toArray⟩, .int .i64 tr, .bool ts], .bool ok] := hdep 9 38 (by decide) (by kernel_rfl) rfl
     have hs38' : a.tmps[38]?.getD undef = .tuple #[.agg #[.string ⟨tn.toArray⟩, .int .i64 tr, .bool ts], .bool ok] := (Array.getD_eq_getD_getElem? ..).symm.trans hs38
     refine ⟨.bool ok, .inl ⟨rfl, fun w' _ => ?_⟩, rfl⟩
     simp only [List.getElem_toArray, List.getElem_cons_zero, List.getElem_cons_succ]
     go_simp
    case rest =>
     intro fuel a wa hbw ha hG
     have ge0 : a.tmps.getD 48 undef = .agg #[.string ⟨tn.toArray⟩, .int .i64 tr, .bool ts] := hG 10 48 (by decide) rfl rfl
     have ge1 : a.tmps.getD 49 undef = .bool ok := hG 11 49 (by decide) rfl rfl
     have gbx := hG 12 10 (by decide) rfl rfl
     obtain ⟨bb, hxb, hbk, hbB⟩ := gbx
     obtain ⟨x39, hx39⟩ : ∃ x, a.tmps.getD 39 undef = x := ⟨_, rfl⟩
     obtain ⟨x40, hx40⟩ : ∃ x, a.tmps.getD 40 undef = x := ⟨_, rfl⟩
     obtain ⟨x41, hx41⟩ : ∃ x, a.tmps.getD 41 undef = x := ⟨_, rfl⟩
     obtain ⟨x42, hx42⟩ : ∃ x, a.tmps.getD 42 undef = x := ⟨_, rfl⟩
     obtain ⟨x43, hx43⟩ : ∃ x, a.tmps.getD 43 undef = x := ⟨_, rfl⟩
     obtain ⟨x44, hx44⟩ : ∃ x, a.tmps.getD 44 undef = x := ⟨_, rfl⟩
     obtain ⟨x45, hx45⟩ : ∃ x, a.tmps.getD 45 undef = x := ⟨_, rfl⟩
     obtain ⟨x46, hx46⟩ : ∃ x, a.tmps.getD 46 undef = x := ⟨_, rfl⟩
     obtain ⟨x47, hx47⟩ : ∃ x, a.tmps.getD 47 undef = x := ⟨_, rfl⟩
     obtain ⟨x38, hx38⟩ : ∃ x, a.tmps.getD 38 undef = x := ⟨_, rfl⟩
     simp only [List.foldl_cons, List.foldl_nil, ge0, ge1, hxb, hx39, hx40, hx41, hx42, hx43, hx44, hx45, hx46, hx47, hx38, Act.put, List.setIfInBounds_toArray, List.set_cons_zero, List.set_cons_succ] at ha
     clear ge0 ge1 hxb hx39 hx40 hx41 hx42 hx43 hx44 hx45 hx46 hx47 hx38 hG
     subst ha
     obtain ⟨q0, q1, q2⟩ := obj3 hbk
     have u0 := obj_free hbk 0
     have u1 := obj_free hbk 1
     have u2 := obj_free hbk 2
     refine wpAnyH_ready (rs := [13]) (by kernel_rfl) (by simp) ?_
     refine AllReadyH.cons (o := _) rfl (fun KR hKR => ?c13) AllReadyH.nil
     go_simp
     refine hKR.out _ _ trivial (fun _ => ?_)
     clear hKR KR
     try simp only [List.getElem_toArray, List.getElem_cons_zero, List.getElem_cons_succ, Act.put, List.setIfInBounds_toArray, List.set_cons_zero, List.set_cons_succ]
     refine wpAnyH_ready (rs := [14]) (by kernel_rfl) (by simp) ?_
     refine AllReadyH.cons (o := _) rfl (fun KR hKR => ?c14) AllReadyH.nil
     go_simp
     refine hKR.out _ _ trivial (fun _ => ?_)
     clear hKR KR
     try simp only [List.getElem_toArray, List.getElem_cons_zero, List.getElem_cons_succ, Act.put, List.setIfInBounds_toArray, List.set_cons_zero, List.set_cons_succ]
     refine wpAnyH_done (by kernel_rfl) ?_ _
     refine NoPanic.normal ?_
     have hw := (Below.refl _ wr).drew.trans hbw
     obtain ⟨W8, hWn⟩ : ∃ W, ((wa.setCell ⟨bb, 0, none⟩ (.string ⟨tn.toArray⟩)).setCell ⟨bb, 1, none⟩ (.int .i64 tr)).setCell ⟨bb, 2, none⟩ (.bool ts) = W := ⟨_, rfl⟩
     have hbn : Below wr.heap.size wr W8 := by rw [<- hWn]; exact below_e3 hw hbB _ _ _
     have x8 := set3_e hbk (.string ⟨tn.toArray⟩) (.int .i64 tr) (.bool ts)
     rw [hWn] at x8 ⊢
     have ye := obj_below H.out.2.2.2.2.2.2.2 hbn (obj_lt H.out.2.2.2.2.2.2.2)
     have hbw8 := H.out.2.1.trans (hbn.mono H.out.2.1.size)
     have hbr8 := H.out.1.trans (hbn.mono H.out.1.size)
     obtain ⟨k0, k1⟩ := obj2s ye
     obtain ⟨_, t1, _⟩ := obj3 x8
     have p0 := (hbn.cell (p := ⟨ag, _, none⟩) HC.out.2.2.2.1).trans HC.out.1
     have p1 := (hbn.cell (p := ⟨ag, _, none⟩) HC.out.2.2.2.1).trans HC.out.2.1
     have pp := (hbn.cell (p := ⟨pg, _, none⟩) HC.out.2.2.2.2).trans HC.out.2.2.1
     have HHw := Lib.hid (fun w' (hb' : Below W8.heap.size W8 w') => HHk.out w' (hbn.trans (hb'.mono hbn.size)))
     have H8 := Lib.hid (And.intro hbr8 (And.intro hbw8 ye))
     have zg := Nat.lt_of_lt_of_le HC.out.2.2.2.1 hbn.size
     have zp := Nat.lt_of_lt_of_le HC.out.2.2.2.2 hbn.size
     have zx := obj_lt x8
     have zy := obj_lt ye
     obtain ⟨bt, hbt⟩ : ∃ b, bb = b := ⟨_, rfl⟩
     rw [hbt] at t1 zx ⊢
     clear q0 q1 q2 u0 u1 u2 hw hWn hbn x8 ye hbw8 hbr8 hbk hbB hbw hbt cp
     cases ok with
     | false =>
      have HE := Lib.hid (show Z = false by rw [HS.out]; exact H.out.2.2.2.1 (H.out.2.2.2.2.2.1 rfl))
      go_wp2_with fail
      go_quiet (fail)
      have HD := Lib.hid (below_dn H8.out.2.1 nq)
      go_wp2
      go_ret
      exact bB_mk HE.out HD.out
     | true =>
      have hok := H.out.2.2.2.2.2.2.1 rfl
      obtain ⟨q, hq⟩ : ∃ q, nmP A (pt, pv) = q := ⟨_, rfl⟩
      have hHw := HHw.out
      rw [hok, hq] at hHw
      have HHr := Lib.hid hHw
      have hst := H.out.2.2.1
      have hbad := H.out.2.2.2.1
      rw [hq] at hst hbad
      have HQ := Lib.hid (And.intro hst hbad)
      clear hok hq hHw hst hbad
      go_wp2_with fail
      go_region_held3 (fun w' => w'.cell? ⟨w.heap.size + 1, 0, none⟩ = some (.string ⟨dn.toArray⟩) /\ w'.cell? ⟨w.heap.size + 1, 1, none⟩ = some av /\ w'.cell? ⟨bt, 1, none⟩ = some (.int .i64 tr) /\ w'.cell? ⟨pg, po, none⟩ = some (.slice (some ⟨ag, ao, none⟩) m rc) /\ w'.cell? ⟨ag, ao + i * 2, none⟩ = some (.string ⟨pt.toArray⟩) /\ w'.cell? ⟨ag, ao + i * 2 + 1, none⟩ = some (.string ⟨pv.toArray⟩)) (first | exact ⟨e0, e1, e2, e3, e4, e5⟩ | exact ⟨k0, k1, t1, pp, p0, p1⟩ | go_keep)
       (first | (go_at_call 44; (with_reducible refine (HHr.out _ (by first | exact (Below.refl _ _).drew | exact Below.refl _ _)).mono ?_); rintro en wz ⟨rfl, hb5⟩; have hbW : Below W8.heap.size W8 wz := (by first | exact (Below.refl _ W8).drew.trans hb5 | exact hb5); have e0 := (hbW.cell (p := ⟨w.heap.size + 1, 0, none⟩) zy).trans k0; have e1 := (hbW.cell (p := ⟨w.heap.size + 1, 1, none⟩) zy).trans k1; have e2 := (hbW.cell (p := ⟨bt, 1, none⟩) zx).trans t1; have e3 := (hbW.cell (p := ⟨pg, _, none⟩) zp).trans pp; have e4 := (hbW.cell (p := ⟨ag, _, none⟩) zg).trans p0; have e5 := (hbW.cell (p := ⟨ag, _, none⟩) zg).trans p1; dsimp only; clear hb5))
      all_goals
       have H9 := Lib.hid (And.intro (H8.out.1.trans (hbW.mono H8.out.1.size)) (H8.out.2.1.trans (hbW.mono H8.out.2.1.size)))
       clear hbW e0 e1 e2 e3 e4 e5 k0 k1 t1 pp p0 p1
       cases q with
       | true =>
        have HT2 := Lib.hid (show (r.take (i + 1)).all (nmP A) = true by rw [HQ.out.1, H.out.2.2.2.2.1]; rfl)
        go_wp2
        exact ⟨⟨i + 1, by omega, by go_num, H9.out.1, HT2.out⟩, by simp [intOf]; omega⟩
       | false =>
        have HE := Lib.hid (show Z = false by rw [HS.out]; exact HQ.out.2 rfl)
        go_wp2
        go_ret
        exact bB_mk HE.out H9.out.2
   ·obtain rfl : i = m := by omega
    have HE := Lib.hid (show Z = true by rw [HS.out, <- hall, <- HMl.out, List.take_length])
    have HB := Lib.hid hbw
    clear hb hall hbw
    go_wp2
    go_ret
    exact bB_mk HE.out HB.out
theorem mdEa_one {w : World} {n : List UInt8} {vs : List (List UInt8)} {vv : Value} (ht : TxR w vv vs) (hk : SlOk vv) {t : TypeId} :
  EaAt (w.alloc (.cells #[.string ⟨n.toArray⟩, vv] t)) (.slice (some ⟨w.heap.size, 0, none⟩) 1 1) [(n, vs)] := by
 have hb : Below w.heap.size w (w.alloc (.cells #[.string ⟨n.toArray⟩, vv] t)) := (Below.refl _ w).alloc (Nat.le_refl _) _
 have hx := heap_alloc_new w (.cells #[.string ⟨n.toArray⟩, vv] t)
 obtain ⟨c0, c1⟩ := obj2s hx
 refine ⟨.inr ⟨_, _, _, rfl⟩, some ⟨w.heap.size, 0, none⟩, 1, rfl, fun i hi => ?_⟩
 have : i = 0 := by simp at hi; exact hi
 subst this
 exact ⟨w.heap.size, 0, _, rfl, obj_lt hx, c0, c1, txR_below ht hb, hk⟩
def MfPost (l : List Md) (w : World) (en : Ending) (w' : World) : Prop := (en = .returned (.bool false) \/ (en = .returned (.bool true) /\ MdsFew l /\ (l.length <= 8 \/ 64 < l.length))) /\ Below w.heap.size w w'
theorem mofew_any (l : List Md) (lv : Value) (w : World) (h : MdsAt w lv l) : Calls Tryz.prog 8 #[lv] w (MfPost l w) := by
 obtain ⟨la, lc, rfl, hLc⟩ := h
 have HM := Lib.hid hLc
 obtain ⟨m, hm⟩ : ∃ k, l.length = k := ⟨_, rfl⟩
 have HMl := Lib.hid hm
 rw [hm]
 have HPost := Lib.hid (show ∀ b w', (b = false \/ (b = true /\ (m <= 8 \/ 64 < m) /\ ∀ j (hj : j < l.length), l[j].2.1.length <= 80 /\ l[j].2.2.length <= 8 /\ ∀ s ∈ l[j].2.2, s.length <= 300)) -> Below w.heap.size w w' -> MfPost l w (.returned (.bool b)) w' from fun b w' hb hw => by
  rcases hb with rfl | ⟨rfl, h8, hj⟩
  ·exact ⟨.inl rfl, hw⟩
  ·refine ⟨.inr ⟨rfl, fun x hx => ?_, by rw [hm]; exact h8⟩, hw⟩
   obtain ⟨j, hjl, rfl⟩ := List.getElem_of_mem hx
   exact hj j hjl)
 clear hLc hm
 by_cases h1 : (m <= 8 \/ 64 < m) /\ m <= 70
 ·have hall : (m <= 8 \/ 64 < m) := h1.1
  have h70 : ¬ (70 : Int) < (m : Int) := by omega
  go_enter Tryz.func8, Tryz.ntmps8
  rcases hall with h8 | h8
  ·have q8 : ¬ (8 : Int) < (m : Int) := by omega
   have q8d : decide ((8 : Int) < (m : Int)) = false := by simpa using q8
   have q70d : decide ((70 : Int) < (m : Int)) = false := by simpa using h70
   go_wp2
   go_loopw [3] (fun x wr => ∃ i : Nat, i <= m /\ x = .int .i64 (i : Nat) /\ Below w.heap.size w wr /\ ∀ j (hj : j < l.length), j < i -> l[j].2.1.length <= 80 /\ l[j].2.2.length <= 8 /\ ∀ s ∈ l[j].2.2, s.length <= 300) (fun x _ => m - (intOf x).toNat)
   case atStart => exact ⟨0, by omega, rfl, Below.refl _ _, fun j _ h => by omega⟩
   case round =>
    obtain ⟨i, hi, rfl, hb, hall⟩ := hrel
    by_cases hlt : i < m
    ·have hil : (i : Int) < (m : Int) := by omega
     have him : i < l.length := by rw [HMl.out]; exact hlt
     obtain ⟨g, o, vl, rfl, hg, a0w, a1w, a2w, hV, hk⟩ := HM.out i him
     have a1 := (hb.cell (p := ⟨g, _, none⟩) hg).trans a1w
     have a2 := (hb.cell (p := ⟨g, _, none⟩) hg).trans a2w
     have hnx := fun (hx : l[i].2.1.length <= 80 /\ l[i].2.2.length <= 8 /\ ∀ s ∈ l[i].2.2, s.length <= 300) j (hj : j < l.length) (hjk : j < i + 1) => (show l[j].2.1.length <= 80 /\ l[j].2.2.length <= 8 /\ ∀ s ∈ l[j].2.2, s.length <= 300 by
      by_cases hjj : j = i
      ·subst hjj; exact hx
      ·exact hall j hj (by omega))
     have HF := Lib.hid (fun t => few9_any [] [(l[i].2.1, l[i].2.2)] _ _ (eaAt_at (mdEa_one (t := t) (txR_below hV hb) hk)))
     have H := Lib.hid (And.intro hb hnx)
     clear hb hnx hall a0w a1w a2w hV hk
     go_wp2_with fail
     refine (HF.out _).mono ?_
     rintro en w5 ⟨hfew, hb5⟩
     have hb0 : Below w.heap.size w w5 := H.out.1.trans (((Below.refl _ wr).alloc (Nat.le_refl _) _).trans (hb5.mono (by simp)) |>.mono H.out.1.size)
     have H5 := Lib.hid hb0
     clear hb5 hb0 a1 a2
     rcases hfew with rfl | ⟨rfl, hfew⟩
     ·go_wp2
      go_ret
      exact HPost.out _ _ (.inl rfl) H5.out
     ·have h3 := hfew.2.2 0 (by simp)
      have HN := Lib.hid (H.out.2 ⟨h3.1, h3.2.1, fun s hs => by obtain ⟨j, hj, rfl⟩ := List.getElem_of_mem hs; exact h3.2.2 j hj⟩)
      clear hfew h3
      go_wp2
      exact ⟨⟨i + 1, by omega, by go_num, H5.out, HN.out⟩, by simp [intOf]; omega⟩
    ·obtain rfl : i = m := by omega
     have H := Lib.hid (HPost.out true _ (.inr ⟨rfl, h1.1, fun j hj => hall j hj (by rw [<- HMl.out]; exact hj)⟩) hb)
     clear hb hall
     go_wp2
     go_ret
     exact H.out
  ·have q8 : (8 : Int) < (m : Int) := by omega
   have q64 : ¬ (m : Int) <= 64 := by omega
   have q8d : decide ((8 : Int) < (m : Int)) = true := by simpa using q8
   have q64d : decide ((m : Int) <= 64) = false := by simpa using q64
   have q70d : decide ((70 : Int) < (m : Int)) = false := by simpa using h70
   go_wp2
   go_loopw [3] (fun x wr => ∃ i : Nat, i <= m /\ x = .int .i64 (i : Nat) /\ Below w.heap.size w wr /\ ∀ j (hj : j < l.length), j < i -> l[j].2.1.length <= 80 /\ l[j].2.2.length <= 8 /\ ∀ s ∈ l[j].2.2, s.length <= 300) (fun x _ => m - (intOf x).toNat)
   case atStart => exact ⟨0, by omega, rfl, Below.refl _ _, fun j _ h => by omega⟩
   case round =>
    obtain ⟨i, hi, rfl, hb, hall⟩ := hrel
    by_cases hlt : i < m
    ·have hil : (i : Int) < (m : Int) := by omega
     have him : i < l.length := by rw [HMl.out]; exact hlt
     obtain ⟨g, o, vl, rfl, hg, a0w, a1w, a2w, hV, hk⟩ := HM.out i him
     have a1 := (hb.cell (p := ⟨g, _, none⟩) hg).trans a1w
     have a2 := (hb.cell (p := ⟨g, _, none⟩) hg).trans a2w
     have hnx := fun (hx : l[i].2.1.length <= 80 /\ l[i].2.2.length <= 8 /\ ∀ s ∈ l[i].2.2, s.length <= 300) j (hj : j < l.length) (hjk : j < i + 1) => (show l[j].2.1.length <= 80 /\ l[j].2.2.length <= 8 /\ ∀ s ∈ l[j].2.2, s.length <= 300 by
      by_cases hjj : j = i
      ·subst hjj; exact hx
      ·exact hall j hj (by omega))
     have HF := Lib.hid (fun t => few9_any [] [(l[i].2.1, l[i].2.2)] _ _ (eaAt_at (mdEa_one (t := t) (txR_below hV hb) hk)))
     have H := Lib.hid (And.intro hb hnx)
     clear hb hnx hall a0w a1w a2w hV hk
     go_wp2_with fail
     refine (HF.out _).mono ?_
     rintro en w5 ⟨hfew, hb5⟩
     have hb0 : Below w.heap.size w w5 := H.out.1.trans (((Below.refl _ wr).alloc (Nat.le_refl _) _).trans (hb5.mono (by simp)) |>.mono H.out.1.size)
     have H5 := Lib.hid hb0
     clear hb5 hb0 a1 a2
     rcases hfew with rfl | ⟨rfl, hfew⟩
     ·go_wp2
      go_ret
      exact HPost.out _ _ (.inl rfl) H5.out
     ·have h3 := hfew.2.2 0 (by simp)
      have HN := Lib.hid (H.out.2 ⟨h3.1, h3.2.1, fun s hs => by obtain ⟨j, hj, rfl⟩ := List.getElem_of_mem hs; exact h3.2.2 j hj⟩)
      clear hfew h3
      go_wp2
      exact ⟨⟨i + 1, by omega, by go_num, H5.out, HN.out⟩, by simp [intOf]; omega⟩
    ·obtain rfl : i = m := by omega
     have H := Lib.hid (HPost.out true _ (.inr ⟨rfl, h1.1, fun j hj => hall j hj (by rw [<- HMl.out]; exact hj)⟩) hb)
     clear hb hall
     go_wp2
     go_ret
     exact H.out
 ·have hq : ((8 : Int) < (m : Int) /\ (m : Int) <= 64) \/ (70 : Int) < (m : Int) := by omega
  have H := Lib.hid (HPost.out false _ (.inl rfl) (Below.refl _ w))
  clear h1
  go_enter Tryz.func8, Tryz.ntmps8
  by_cases hm64 : (m : Int) <= 64
  ·have q8 : (8 : Int) < (m : Int) := by omega
   have q8d : decide ((8 : Int) < (m : Int)) = true := by simpa using q8
   have q64d : decide ((m : Int) <= 64) = true := by simpa using hm64
   go_wp2
   go_ret
   exact H.out
  ·have q8 : (8 : Int) < (m : Int) := by omega
   have q70 : (70 : Int) < (m : Int) := by omega
   have q8d : decide ((8 : Int) < (m : Int)) = true := by simpa using q8
   have q64d : decide ((m : Int) <= 64) = false := by simpa using hm64
   have q70d : decide ((70 : Int) < (m : Int)) = true := by simpa using q70
   go_wp2
   go_ret
   exact H.out
end Go.Proofs.YtpkbgkoocijegaaGreatDoor
namespace Go.Proofs.YtpkbgkoocijegaaGreatDoor
open Go Go.RowKit Go.Proofs.BerK Go.Proofs.MemK Go.Proofs.UtfK
theorem fewA_g {dn : List UInt8} {A : List Atr} (h : FewA dn A) : FewG 12 8 A := by
 refine ⟨h.2.1, fun a ha => ?_⟩
 obtain ⟨i, hi, rfl⟩ := List.mem_iff_getElem.1 ha
 obtain ⟨h1, h2, h3⟩ := h.2.2 i hi
 refine ⟨by omega, h2, fun s hs => ?_⟩
 obtain ⟨j, hj, rfl⟩ := List.mem_iff_getElem.1 hs
 have := h3 j hj
 omega
theorem mdAll_cln : ∀ (l : List Md) {m k : Nat} {L : List Atr}, Cln m k L -> MdsFew l -> (mdAll L l).2 = 0 -> Cln (m + l.length) (k + 8 * l.length) (mdAll L l).1
 | [], m, k, L, h, _, _ => cln_mono h (by simp) (by simp)
 | x :: l, m, k, L, h, hf, h0 => by
  unfold mdAll at h0 ⊢
  have hx := hf x (by simp)
  by_cases e : (mdOne L x).2 = 0
  ·rw [if_pos e] at h0 ⊢
   have hc := cln_one h (by have := hx.1; omega) hx.2.1 (fun s hs => by have := hx.2.2 s hs; omega) e
   exact cln_mono (mdAll_cln l hc (fun y hy => hf y (by simp [hy])) h0) (by simp; omega) (by simp; omega)
  ·rw [if_neg e] at h0
   exact absurd h0 e
theorem mdApp_few {A : List Atr} {l : List Md} (hf : FewG 12 8 A) (hm : MdsFew l) (h : (mdApp A l).2 = 0) (hl : l.length <= 8 \/ 64 < l.length) : FewG 300 300 (mdApp A l).1 := by
 rcases hl with h8 | h64
 ·rw [mdApp_run h8] at h ⊢
  exact fewG_mono (mdAll_cln _ (cln_cl hf) (by simpa using hm) h).few (by simp; omega) (by simp; omega)
 ·unfold mdApp at h
  rw [if_pos h64] at h
  cases h
theorem atNil {w : World} : AtAt w (.slice none 0 0) [] := ⟨none, 0, rfl, fun i hi => by cases hi⟩
theorem moapplies_any (dn : List UInt8) (A : List Atr) (l : List Md) (av lv : Value) (w : World) (hA : EaAt w av A) (hL : MdsAt w lv l) (he : ErrOk w) :
  Calls Tryz.prog 3 #[.agg #[.string ⟨dn.toArray⟩, av], lv] w (BB true w) := by
 have HAw := Lib.hid (fun w' (hb : Below w.heap.size w w') => moawake_any w' (errOk_below he hb))
 have HPl := Lib.hid (fun w' => plain_any w')
 have HRp := Lib.hid (fun w' => rplain9_any w')
 have HFe := Lib.hid (fun w' (hb : Below w.heap.size w w') => few9_any dn A av w' (eaAt_at (eaAt_below hA hb)))
 have HFl := Lib.hid (fun w' (hb : Below w.heap.size w w') => mofew_any l lv w' (mdsAt_below hL hb))
 have HAp := Lib.hid (fun sb w' (hb : Below w.heap.size w w') (hsc : ScAt w' sb plT plC) (hf : FewG 12 8 A) (hm : MdsFew l) (hl : l.length <= 8 \/ 64 < l.length) => moapply_any sb A dn l av lv w' hsc (eaAt_below hA hb) hf (mdsAt_below hL hb) hm hl (errOk_below he hb))
 have HRa := Lib.hid (fun tv cv w' (hb : Below w.heap.size w w') (hT : TyAt w' tv plT) (hf : FewG 12 8 A) (hm : MdsFew l) (hl : l.length <= 8 \/ 64 < l.length) => rap21_any A dn l tv cv av lv w' hT (eaAt_below hA hb) hf (mdsAt_below hL hb) hm hl)
 have HNm := Lib.hid (fun sb w' (hb : Below w.heap.size w w') (hsc : ScAt w' sb plT plC) (hf : FewG 12 8 A) => monm_any sb A dn av w' hsc (eaAt_below hA hb) (fewG_e hf (by omega) (by omega)) (errOk_below he hb))
 have HRn := Lib.hid (fun tv cv w' (hb : Below w.heap.size w w') (hT : TyAt w' tv plT) (hf : FewG 12 8 A) => rnm20_any A dn tv cv av w' hT (eaAt_at (eaAt_below hA hb)) (fewG_mono hf (by omega) (by omega)))
 have HFw := Lib.hid (fun (hf : FewG 12 8 A) (hm : MdsFew l) (h : (mdApp A l).2 = 0) (hl : l.length <= 8 \/ 64 < l.length) => mdApp_few hf hm h hl)
 obtain ⟨P, hP⟩ : ∃ P, mdApp A l = P := ⟨_, rfl⟩
 rw [hP] at HAp HRa HFw
 obtain ⟨N, hN⟩ : ∃ N, nmgS A dn = N := ⟨_, rfl⟩
 rw [hN] at HNm HRn
 obtain ⟨a, c, rfl⟩ := eaAt_slice hA
 obtain ⟨la, lc, rfl, hLc⟩ := hL
 obtain ⟨ln, hln⟩ : ∃ k, A.length = k := ⟨_, rfl⟩
 rw [hln] at HFe HAp HRa HNm HRn ⊢
 obtain ⟨m, hm⟩ : ∃ k, l.length = k := ⟨_, rfl⟩
 rw [hm] at HFl HAp HRa HFw ⊢
 have HMm := Lib.hid hm
 obtain ⟨W1, hW1⟩ : ∃ W1, w.alloc (.cells #[.string ⟨dn.toArray⟩, .slice a ln c] 24) = W1 := ⟨_, rfl⟩
 have hb1 : Below w.heap.size w W1 := by rw [<- hW1]; exact (Below.refl _ w).alloc (Nat.le_refl _) _
 have x0 : W1.heap[w.heap.size]? = some (.cells #[.string ⟨dn.toArray⟩, .slice a ln c] 24 (0, 0)) := by rw [<- hW1]; exact heap_alloc_new w _
 have H1 := Lib.hid (And.intro x0 hb1)
 have HW1 := Lib.hid hW1
 obtain ⟨k0, k1⟩ := obj2s x0
 rw [<- hW1] at k0 k1
 clear hA hLc he hP hN hln hm hW1 x0 hb1
 go_enter Tryz.func3, Tryz.ntmps3
 go_wp2_with fail
 rw [HW1.out]
 clear k0 k1
 with_reducible refine (HFe.out _ H1.out.2).mono ?_
 rintro en w3 ⟨hfew, hb3⟩
 have H3 := Lib.hid (And.intro (obj_below H1.out.1 hb3 (obj_lt H1.out.1)) (H1.out.2.trans (hb3.mono H1.out.2.size)))
 clear hb3
 rcases hfew with rfl | ⟨rfl, hfew⟩
 ·go_wp2_with fail
  with_reducible refine (HAw.out _ H3.out.2).mono ?_
  rintro en w9 ⟨rfl, hb⟩
  have HB9 := Lib.hid (H3.out.2.trans (hb.mono H3.out.2.size))
  clear hb
  go_wp2
  go_ret
  exact bB_mk rfl HB9.out
 have HFg := Lib.hid (fewA_g hfew)
 clear hfew
 go_wp2_with fail
 with_reducible refine (HFl.out w3 H3.out.2).mono ?_
 rintro en w4 ⟨hfew, hb4⟩
 have H4 := Lib.hid (And.intro (obj_below H3.out.1 hb4 (obj_lt H3.out.1)) (H3.out.2.trans (hb4.mono H3.out.2.size)))
 clear hb4
 rcases hfew with rfl | ⟨rfl, hfm, hll⟩
 ·go_wp2_with fail
  with_reducible refine (HAw.out _ H4.out.2).mono ?_
  rintro en w9 ⟨rfl, hb⟩
  have HB9 := Lib.hid (H4.out.2.trans (hb.mono H4.out.2.size))
  clear hb
  go_wp2
  go_ret
  exact bB_mk rfl HB9.out
 rw [HMm.out] at hll
 have HFm := Lib.hid (And.intro hfm hll)
 clear hfm hll
 go_wp2_with fail
 with_reducible refine (HPl.out _).mono ?_
 rintro en w5 ⟨sb, rfl, hsc, hb5⟩
 have H5 := Lib.hid (And.intro (obj_below H4.out.1 hb5 (obj_lt H4.out.1)) (And.intro (H4.out.2.trans (hb5.mono H4.out.2.size)) hsc))
 clear hsc hb5
 go_wp2_with fail
 with_reducible refine (HRp.out _).mono ?_
 rintro en w6 ⟨tv, cv, rfl, hT, hC, hb6⟩
 obtain ⟨ta, tc, htv, _⟩ := id hT
 obtain ⟨ca, cc, hcv, _⟩ := hC
 obtain ⟨tl, htl⟩ : ∃ k, plT.length = k := ⟨_, rfl⟩
 obtain ⟨cl, hcl⟩ : ∃ k, plC.length = k := ⟨_, rfl⟩
 rw [htl] at htv
 rw [hcl] at hcv
 subst htv hcv
 clear htl hcl
 obtain ⟨W7, hW7⟩ : ∃ W, w6.alloc (.cells #[.slice ta tl tc, .slice ca cl cc] 34) = W := ⟨_, rfl⟩
 have hb7 : Below w6.heap.size w6 W7 := by rw [<- hW7]; exact (Below.refl _ w6).alloc (Nat.le_refl _) _
 have x7 : W7.heap[w6.heap.size]? = some (.cells #[.slice ta tl tc, .slice ca cl cc] 34 (0, 0)) := by rw [<- hW7]; exact heap_alloc_new w6 _
 have hb57 := hb6.trans (hb7.mono hb6.size)
 have y0 := obj_below H5.out.1 hb57 (obj_lt H5.out.1)
 have hbw := H5.out.2.1.trans (hb57.mono H5.out.2.1.size)
 obtain ⟨bs, hbs⟩ : ∃ b, w6.heap.size = b := ⟨_, rfl⟩
 rw [hbs] at x7
 obtain ⟨k0, k1⟩ := obj2s y0
 rw [<- hW7] at k0 k1
 have H7 := Lib.hid (And.intro y0 (And.intro x7 (And.intro hbw (And.intro (scAt_below H5.out.2.2 hb57) (tyAt_below hT hb7)))))
 have HW7 := Lib.hid (And.intro hW7 hbs)
 clear hT hb6 hb7 hb57 x7 y0 hbw hW7 hbs
 go_wp2_with fail
 rw [HW7.out.1]
 try rw [HW7.out.2]
 clear k0 k1
 with_reducible refine (HAp.out sb W7 H7.out.2.2.1 H7.out.2.2.2.1 HFg.out HFm.out.1 HFm.out.2).mono ?_
 rintro en w8 ⟨hp1, hp2, hb8⟩
 have y0 := obj_below H7.out.1 hb8 (obj_lt H7.out.1)
 have y1 := obj_below H7.out.2.1 hb8 (obj_lt H7.out.2.1)
 have hbw := H7.out.2.2.1.trans (hb8.mono H7.out.2.2.1.size)
 have H8 := Lib.hid (And.intro y0 (And.intro y1 (And.intro hbw (And.intro (scAt_below H7.out.2.2.2.1 hb8) (tyAt_below H7.out.2.2.2.2 hb8)))))
 clear hb8 y0 y1 hbw
 obtain ⟨pc, hpc⟩ : ∃ x, P.2 = x := ⟨_, rfl⟩
 have HPc := Lib.hid hpc
 obtain ⟨d8, a8, n8, c8, rfl, hat8⟩ : ∃ d a n c, en = .returned (.tuple #[.agg #[.string ⟨d⟩, .slice a n c], .int .i64 pc]) /\ ((pc ≠ 0 /\ d = #[] /\ a = none /\ n = 0 /\ c = 0) \/ (pc = 0 /\ d = dn.toArray /\ PaAt w8 (.slice a n c) P.1)) := by
  by_cases hz : P.2 = 0
  ·obtain ⟨v, rfl, hv⟩ := hp2 hz
   obtain ⟨xa, xc, rfl⟩ := paAt_slice hv
   exact ⟨_, _, _, _, by rw [<- hpc, hz], .inr ⟨hpc ▸ hz, rfl, hv⟩⟩
  ·exact ⟨_, _, _, _, by rw [hp1 hz, hpc], .inl ⟨hpc ▸ hz, rfl, rfl, rfl, rfl⟩⟩
 clear hp1 hp2 hpc
 obtain ⟨W9, hW9⟩ : ∃ W, w8.alloc (.cells #[.string ⟨d8⟩, .slice a8 n8 c8] 24) = W := ⟨_, rfl⟩
 have hb9 : Below w8.heap.size w8 W9 := by rw [<- hW9]; exact (Below.refl _ w8).alloc (Nat.le_refl _) _
 have x9 : W9.heap[w8.heap.size]? = some (.cells #[.string ⟨d8⟩, .slice a8 n8 c8] 24 (0, 0)) := by rw [<- hW9]; exact heap_alloc_new w8 _
 have y0 := obj_below H8.out.1 hb9 (obj_lt H8.out.1)
 have y1 := obj_below H8.out.2.1 hb9 (obj_lt H8.out.2.1)
 have hbw := H8.out.2.2.1.trans (hb9.mono H8.out.2.2.1.size)
 obtain ⟨b9, hb9e⟩ : ∃ b, w8.heap.size = b := ⟨_, rfl⟩
 rw [hb9e] at x9
 obtain ⟨k0, k1⟩ := obj2s y0
 obtain ⟨j0, j1⟩ := obj2s y1
 rw [<- hW9] at k0 k1 j0 j1
 have H9 := Lib.hid (And.intro y0 (And.intro y1 (And.intro x9 (And.intro hbw (And.intro (scAt_below H8.out.2.2.2.1 hb9) (tyAt_below H8.out.2.2.2.2 hb9))))))
 have HA9 := Lib.hid (show (pc ≠ 0 /\ d8 = #[] /\ a8 = none /\ n8 = 0 /\ c8 = 0) \/ (pc = 0 /\ d8 = dn.toArray /\ PaAt W9 (.slice a8 n8 c8) P.1) from hat8.imp id (fun h => ⟨h.1, h.2.1, paAt_below h.2.2 hb9⟩))
 have HW9 := Lib.hid (And.intro hW9 hb9e)
 clear hb9 x9 y0 y1 hbw hW9 hb9e hat8
 go_wp2_with fail
 rw [HW9.out.1]
 try rw [HW9.out.2]
 clear k0 k1 j0 j1
 with_reducible refine (HRa.out _ _ W9 H9.out.2.2.2.1 H9.out.2.2.2.2.2 HFg.out HFm.out.1 HFm.out.2).mono ?_
 rintro en w10 ⟨hp1, hp2, hb10⟩
 have y0 := obj_below H9.out.1 hb10 (obj_lt H9.out.1)
 have y1 := obj_below H9.out.2.1 hb10 (obj_lt H9.out.2.1)
 have y2 := obj_below H9.out.2.2.1 hb10 (obj_lt H9.out.2.2.1)
 have hbw := H9.out.2.2.2.1.trans (hb10.mono H9.out.2.2.2.1.size)
 have HA10 := Lib.hid (show (pc ≠ 0 /\ d8 = #[] /\ a8 = none /\ n8 = 0 /\ c8 = 0) \/ (pc = 0 /\ d8 = dn.toArray /\ PaAt w10 (.slice a8 n8 c8) P.1) from HA9.out.imp id (fun h => ⟨h.1, h.2.1, paAt_below h.2.2 hb10⟩))
 have H10 := Lib.hid (And.intro y0 (And.intro y1 (And.intro y2 (And.intro hbw (And.intro (scAt_below H9.out.2.2.2.2.1 hb10) (tyAt_below H9.out.2.2.2.2.2 hb10))))))
 clear hb10 y0 y1 y2 hbw
 obtain ⟨d1, a1, n1, c1, rfl, hat1⟩ : ∃ d a n c, en = .returned (.tuple #[.agg #[.string ⟨d⟩, .slice a n c], .int .i64 pc]) /\ ((pc ≠ 0 /\ d = #[] /\ a = none /\ n = 0 /\ c = 0) \/ (pc = 0 /\ d = dn.toArray /\ PaAt w10 (.slice a n c) P.1)) := by
  by_cases hz : P.2 = 0
  ·obtain ⟨v, rfl, hv⟩ := hp2 hz
   obtain ⟨xa, xc, rfl⟩ := paAt_slice hv
   exact ⟨_, _, _, _, by rw [<- HPc.out, hz], .inr ⟨HPc.out ▸ hz, rfl, hv⟩⟩
  ·exact ⟨_, _, _, _, by rw [hp1 hz, HPc.out], .inl ⟨HPc.out ▸ hz, rfl, rfl, rfl, rfl⟩⟩
 clear hp1 hp2
 obtain ⟨W11, hW11⟩ : ∃ W, w10.alloc (.cells #[.string ⟨d1⟩, .slice a1 n1 c1] 24) = W := ⟨_, rfl⟩
 have hb11 : Below w10.heap.size w10 W11 := by rw [<- hW11]; exact (Below.refl _ w10).alloc (Nat.le_refl _) _
 have x11 : W11.heap[w10.heap.size]? = some (.cells #[.string ⟨d1⟩, .slice a1 n1 c1] 24 (0, 0)) := by rw [<- hW11]; exact heap_alloc_new w10 _
 have y0 := obj_below H10.out.1 hb11 (obj_lt H10.out.1)
 have y1 := obj_below H10.out.2.1 hb11 (obj_lt H10.out.2.1)
 have y2 := obj_below H10.out.2.2.1 hb11 (obj_lt H10.out.2.2.1)
 have hbw := H10.out.2.2.2.1.trans (hb11.mono H10.out.2.2.2.1.size)
 obtain ⟨b11, hb11e⟩ : ∃ b, w10.heap.size = b := ⟨_, rfl⟩
 rw [hb11e] at x11
 obtain ⟨k0, k1⟩ := obj2s y0
 obtain ⟨j0, j1⟩ := obj2s y1
 rw [<- hW11] at k0 k1 j0 j1
 have HEq : ∀ w', Below W11.heap.size W11 w' -> Calls Tryz.prog 15 #[.agg #[.string ⟨d8⟩, .slice a8 n8 c8], .agg #[.string ⟨d1⟩, .slice a1 n1 c1]] w' (BB true w') := fun w' hb => by
  have hbb := hb11.trans (hb.mono hb11.size)
  rcases HA10.out with ⟨z, rfl, rfl, rfl, rfl⟩ | ⟨z, rfl, h8⟩
  ·rcases hat1 with ⟨_, rfl, rfl, rfl, rfl⟩ | ⟨z2, _, _⟩
   ·have h := req10_any [] [] [] [] (.slice none 0 0) (.slice none 0 0) w' atNil atNil (by simp) (by simp) (fun _ h => by cases h) (fun _ h => by cases h)
    rw [show decide (([] : List UInt8) = [] /\ ([] : List Atr) = []) = true by simp] at h
    exact h
   ·exact absurd z2 z
  ·rcases hat1 with ⟨z2, _⟩ | ⟨_, rfl, h1⟩
   ·exact absurd z z2
   ·have hfw := HFw.out HFg.out HFm.out.1 (HPc.out.trans z) HFm.out.2
    have h := req10_any P.1 P.1 dn dn (.slice a8 n8 c8) (.slice a1 n1 c1) w' (eaAt_at (paAt_ea (paAt_below h8 hbb))) (eaAt_at (paAt_ea (paAt_below h1 hbb))) (by have := hfw.1; omega) (by have := hfw.1; omega) (fun a ha => by have := (hfw.2 a ha).2.1; omega) (fun a ha => by have := (hfw.2 a ha).2.1; omega)
    rw [show decide (dn = dn /\ P.1 = P.1) = true by simp] at h
    exact h
 have HE := Lib.hid HEq
 have H11 := Lib.hid (And.intro y0 (And.intro x11 (And.intro y2 (And.intro hbw (And.intro (scAt_below H10.out.2.2.2.2.1 hb11) (tyAt_below H10.out.2.2.2.2.2 hb11))))))
 have HW11 := Lib.hid (And.intro hW11 hb11e)
 clear hb11 x11 y0 y1 y2 hbw hW11 hb11e hat1 HEq
 go_wp2_with fail
 rw [HW11.out.1]
 try rw [HW11.out.2]
 clear k0 k1 j0 j1
 with_reducible refine (HRn.out _ _ W11 H11.out.2.2.2.1 H11.out.2.2.2.2.2 HFg.out).mono ?_
 rintro en w12 ⟨rfl, hb12⟩
 have y0 := obj_below H11.out.1 hb12 (obj_lt H11.out.1)
 have y1 := obj_below H11.out.2.1 hb12 (obj_lt H11.out.2.1)
 have y2 := obj_below H11.out.2.2.1 hb12 (obj_lt H11.out.2.2.1)
 have hbw := H11.out.2.2.2.1.trans (hb12.mono H11.out.2.2.2.1.size)
 have HE12 := Lib.hid (HE.out w12 hb12)
 obtain ⟨k0, k1⟩ := obj2s y1
 obtain ⟨j0, j1⟩ := obj2s y2
 have H12 := Lib.hid (And.intro y0 (And.intro hbw (scAt_below H11.out.2.2.2.2.1 hb12)))
 clear hb12 y0 y1 y2 hbw
 cases N
 all_goals
  go_wp2_with fail
  with_reducible refine HE12.out.mono ?_
  rintro en w13 ⟨rfl, hb13⟩
  have y0 := obj_below H12.out.1 hb13 (obj_lt H12.out.1)
  have hbw := H12.out.2.1.trans (hb13.mono H12.out.2.1.size)
  have H13 := Lib.hid (And.intro hbw (scAt_below H12.out.2.2 hb13))
  clear k0 k1 j0 j1
  obtain ⟨k0, k1⟩ := obj2s y0
  clear hb13 y0 hbw
  have HNk := Lib.hid (HNm.out sb w13 H13.out.1 H13.out.2 HFg.out)
  simp only [if_true, Bool.false_eq_true, if_false] at HNk
  go_wp2_with fail
  with_reducible refine HNk.out.mono ?_
  rintro en w14 ⟨rfl, hb14⟩
  have H14 := Lib.hid (H13.out.1.trans (hb14.mono H13.out.1.size))
  clear hb14 k0 k1
  go_wp2_with fail
  with_reducible refine (HAw.out _ H14.out).mono ?_
  rintro en w15 ⟨rfl, hb⟩
  have HB9 := Lib.hid (H14.out.trans (hb.mono H14.out.size))
  clear hb
  go_wp2
  go_ret
  exact bB_mk rfl HB9.out
end Go.Proofs.YtpkbgkoocijegaaGreatDoor
namespace Go.Proofs.YtpkbgkoocijegaaGreatDoor
open Go Go.ChangeShapes Go.WideShapes Go.RowKit Go.Proofs.MemK Go.Deep
def StrAt (w : World) (v : Value) (l : List (List UInt8)) : Prop :=
 (l = [] /\ ∃ a c, v = .slice a 0 c) \/ (0 < l.length /\ ∃ g o c, v = .slice (some ⟨g, o, none⟩) l.length c /\ g < w.heap.size /\ ∀ i (hi : i < l.length), w.cell? ⟨g, o + i, none⟩ = some (.string ⟨l[i].toArray⟩))
theorem txR_str {w : World} {v : Value} {l : List (List UInt8)} (h : StrAt w v l) : TxR w v l := by
 rcases h with ⟨rfl, a, c, rfl⟩ | ⟨h0, g, o, c, rfl, hg, hq⟩
 ·exact ⟨a, c, rfl, fun i hi => by simp at hi⟩
 ·exact ⟨some ⟨g, o, none⟩, c, rfl, fun i hi => ⟨g, o, rfl, hg, hq i hi⟩⟩
theorem strAt_arg {H : Type} {enc : TypeId × Value -> H} {P : Program} {w : World} {t e : TypeId} {a0 : Option Addr} {len cap : Nat} {d : DataW H} {ps : List MemPlace} (ht : P.underlying t = some (.slice e)) (he : P.underlying e = some .string) (hc : P.cellsOf e = 1)
  (h : DataW.Trod enc P w 0 (fun _ => true) true t (.slice a0 len cap) d ps) : ∃ l : List (List UInt8), l.length = len /\ StrAt w (.slice a0 len cap) l /\ (∀ x ∈ l, x.length <= maxLen) /\ len <= maxLen := by
 obtain ⟨fuel, hf⟩ := h
 rcases open_strings ht he hc hf with ⟨hcs, _⟩ | ⟨a, len', cap', ss, hcs, _, hl, hm, hz, _, hcell, hws⟩
 ·simp [Value.cells] at hcs
  obtain ⟨rfl, rfl, rfl⟩ := hcs
  exact ⟨[], rfl, .inl ⟨rfl, none, 0, rfl⟩, by simp, by decide⟩
 ·simp [Value.cells] at hcs
  obtain ⟨rfl, rfl, rfl⟩ := hcs
  simp only [if_true] at hz
  have hlen : ((ss.take len).map fun s => s.data.toList).length = len := by simp; omega
  refine ⟨(ss.take len).map fun s => s.data.toList, hlen, ?_, ?_, by omega⟩
  ·by_cases h0 : len = 0
   ·subst h0
    exact .inl ⟨by simp, _, _, rfl⟩
   ·obtain ⟨b, off, spot⟩ := a
    have hspot : spot = none := by simpa [Addr.add] using World.cell?_spot (hcell 0 (by omega))
    subst hspot
    refine .inr ⟨by omega, b, off, cap, by rw [hlen], World.block_lt_of_cell? w _ (hcell 0 (by omega)), fun i hi => ?_⟩
    rw [hlen] at hi
    rw [<- add_plain, hcell i (by omega)]
    have hi2 : i < ss.length := by omega
    simp [List.getD, hi2]
  ·intro x hx
   obtain ⟨s, hs, rfl⟩ := List.mem_map.1 hx
   exact hws s (List.mem_of_mem_take hs)
theorem strs_cell9 {H : Type} {enc : TypeId × Value -> H} {P : Program} {w : World} {t e : TypeId} {n : Nat} {v : Value} {x : DataW H × List MemPlace} (ht : P.underlying t = some (.slice e)) (he : P.underlying e = some .string) (hc : P.cellsOf e = 1)
  (h : DataW.trod enc P w 0 (fun _ => true) true n t [v] = some x) : ∃ (a : Option Addr) (c : Nat) (l : List (List UInt8)), v = .slice a l.length c /\ StrAt w (.slice a l.length c) l /\ l.length <= maxLen := by
 have hv : ∃ a len c, v = .slice a len c := by
  rcases open_strings ht he hc h with ⟨hcs, _⟩ | ⟨a, len', cap', ss, hcs, _⟩
  ·injection hcs with hv _; exact ⟨_, _, _, hv⟩
  ·injection hcs with hv _; exact ⟨_, _, _, hv⟩
 obtain ⟨a, len, c, rfl⟩ := hv
 obtain ⟨l, e1, h1, _, h3⟩ := strAt_arg (a0 := a) (len := len) (cap := c) (d := x.1) (ps := x.2) ht he hc ⟨n, h⟩
 subst e1
 exact ⟨a, c, l, rfl, h1, h3⟩
theorem en_c1 : Tryz.prog.cellsOf 9 = 1 := by kernel_rfl
theorem en_c1s : Tryz.prog.cellsOf 43 = 1 := by kernel_rfl
theorem en_c2 : Tryz.prog.cellsOf 45 = 2 := by kernel_rfl
theorem en_c2e : Tryz.prog.cellsOf 24 = 2 := by kernel_rfl
theorem slOk_cell10 {H : Type} {enc : TypeId × Value -> H} {w : World} {n : Nat} {v : Value} {x : DataW H × List MemPlace} (h : DataW.trod enc Tryz.prog w 0 (fun _ => true) true n 43 [v] = some x) : SlOk v := by
 rcases open_strings Tryz.underlying43 Tryz.underlying9 en_c1 h with ⟨hcs, _⟩ | ⟨a, len', cap', ss, hcs, _⟩
 ·injection hcs with hv _; exact .inl hv
 ·injection hcs with hv _; exact .inr ⟨_, _, _, hv⟩
theorem attrs_argE {H : Type} {enc : TypeId × Value -> H} {w : World} {n : Nat} {v : Value} {x : DataW H × List MemPlace} (h : DataW.trod enc Tryz.prog w 0 (fun _ => true) true n 22 [v] = some x) :
  ∃ (a : Option Addr) (c : Nat) (A : List Atr), v = .slice a A.length c /\ EaAt w (.slice a A.length c) A /\ A.length <= maxLen := by
 rcases open_slice_pairs Tryz.underlying22 Tryz.underlying45 en_c2 rfl rfl en_c1 en_c1s h with ⟨hcs, _⟩ | ⟨a, len, cap, m, k, V0, V1, D0, D1, P0, P1, hcs, _, hl, hm, hmm, _, hx⟩
 ·injection hcs with hv _
  subst hv
  exact ⟨none, 0, [], rfl, ⟨.inl rfl, none, 0, rfl, fun i hi => by simp at hi⟩, by decide⟩
 ·injection hcs with hv _
  subst hv
  simp only [if_true] at hmm
  subst hmm
  obtain ⟨q, hq⟩ := choose_lt (α := Atr) (n := m) (p := fun i q => V0 i = .string ⟨q.1.toArray⟩ /\ TxR w (V1 i) q.2 /\ SlOk (V1 i)) (fun i hi => by
   obtain ⟨s0, e0, _⟩ := DataW.trod_string Tryz.underlying9 (hx i hi).2.2.1
   have hk := slOk_cell10 (hx i hi).2.2.2
   obtain ⟨a1, c1, l1, e1, h1, _⟩ := strs_cell9 Tryz.underlying43 Tryz.underlying9 en_c1 (hx i hi).2.2.2
   exact ⟨(s0.data.toList, l1), by simpa using e0, by rw [e1]; exact txR_str h1, hk⟩)
  have hlen : ((List.range len).map q).length = len := by simp
  refine ⟨some a, m, (List.range len).map q, by rw [hlen], ⟨.inr ⟨_, _, _, rfl⟩, some a, m, rfl, fun i hi => ?_⟩, by rw [hlen]; omega⟩
  rw [hlen] at hi
  obtain ⟨b, off, spot⟩ := a
  have hspot : spot = none := by simpa [Addr.add] using World.cell?_spot (hx 0 (by omega)).1
  subst hspot
  obtain ⟨x0, x1, _, _⟩ := hx i (by omega)
  obtain ⟨y0, y1, y2⟩ := hq i (by omega)
  rw [y0] at x0
  have z0 : w.cell? ⟨b, off + i * 2, none⟩ = some (.string ⟨(q i).1.toArray⟩) := by rw [<- add_plain]; exact x0
  have z1 : w.cell? ⟨b, off + i * 2 + 1, none⟩ = some (V1 i) := by rw [Nat.add_assoc, <- add_plain]; exact x1
  refine ⟨b, off, V1 i, rfl, World.block_lt_of_cell? w _ z0, ?_, z1, ?_, y2⟩
  ·rw [z0]; simp
  ·simpa using y1
theorem entry_argE {H : Type} {enc : TypeId × Value -> H} {w : World} {r : Reach} {b0 : Nat} {v : Value} {d : DataW H} {ps : List MemPlace} (hval : Value.okWide Tryz.prog w r b0 24 v)
  (h : DataW.Trod enc Tryz.prog w 0 (fun _ => true) true 24 v d ps) : ∃ (dn : List UInt8) (A : List Atr) (a : Option Addr) (c : Nat), v = .agg #[.string ⟨dn.toArray⟩, .slice a A.length c] /\ EaAt w (.slice a A.length c) A /\ A.length <= maxLen := by
 obtain ⟨v0, v1, y0, y1, n, rfl, _, _, g0, g1⟩ := Joins.open_agg2 Tryz.underlying24 (by kernel_rfl) en_c2e hval h
 obtain ⟨s0, e0, _⟩ := DataW.trod_string Tryz.underlying9 g0
 obtain ⟨a, c, A, rfl, hA, hl⟩ := attrs_argE g1
 injection e0 with e0
 subst e0
 exact ⟨s0.data.toList, A, a, c, by simp, hA, hl⟩
theorem mo_c3 : Tryz.prog.cellsOf 47 = 3 := by kernel_rfl
theorem mo_c1 : Tryz.prog.cellsOf 3 = 1 := by kernel_rfl
theorem mod_cells {H : Type} {enc : TypeId × Value -> H} {w : World} {fuel : Nat} {v0 v1 v2 : Value} {x : DataW H × List MemPlace}
  (h : DataW.trod enc Tryz.prog w 0 (fun _ => true) true fuel 47 [v0, v1, v2] = some x) : ∃ (k : Int) (t : List UInt8) (V : List (List UInt8)), v0 = .int .i64 k /\ v1 = .string ⟨t.toArray⟩ /\ TxR w v2 V /\ SlOk v2 := by
 obtain ⟨y0, y1, n, _, _, g0, g1⟩ := trod_struct2 Tryz.underlying47 h
 simp [mo_c1, en_c2] at g0 g1
 obtain ⟨z0, z1, m, _, _, k0, k1⟩ := trod_struct2 Tryz.underlying45 g1
 simp [en_c1, en_c1s] at k0 k1
 obtain ⟨s0, e0, _⟩ := DataW.trod_int Tryz.underlying3 g0
 obtain ⟨s1, e1, _⟩ := DataW.trod_string Tryz.underlying9 k0
 have hk := slOk_cell10 k1
 obtain ⟨a, c, V, rfl, hV, _⟩ := strs_cell9 Tryz.underlying43 Tryz.underlying9 en_c1 k1
 injection e0 with e0
 injection e1 with e1
 subst e0 e1
 exact ⟨s0, s1.data.toList, V, rfl, by simp, txR_str hV, hk⟩
theorem mods_arg {H : Type} {enc : TypeId × Value -> H} {w : World} {a0 : Option Addr} {len cap : Nat} {d : DataW H} {ps : List MemPlace}
  (h : DataW.Trod enc Tryz.prog w 0 (fun _ => true) true 25 (.slice a0 len cap) d ps) : ∃ L : List Md, L.length = len /\ MdsAt w (.slice a0 len cap) L := by
 obtain ⟨fuel, hf⟩ := h
 rcases open_slice Tryz.underlying25 hf with h0 | ⟨a, len', cap', m, n, D, Pl, hcs, hb, hl, hm, hmm, _, hx⟩
 ·have h0 := h0.1
  simp [Value.cells] at h0
  obtain ⟨rfl, rfl, rfl⟩ := h0
  exact ⟨[], rfl, ⟨none, 0, rfl, fun i hi => by simp at hi⟩⟩
 ·simp [Value.cells] at hcs
  obtain ⟨rfl, rfl, rfl⟩ := hcs
  simp only [if_true] at hmm
  subst hmm
  obtain ⟨q, hq⟩ := choose_lt (α := Md × Value) (n := m) (p := fun i q => w.cells? 0 (a.add (i * 3)) 3 = some [.int .i64 q.1.1, .string ⟨q.1.2.1.toArray⟩, q.2] /\ TxR w q.2 q.1.2.2 /\ SlOk q.2) (fun i hi => by
   obtain ⟨cs', h1, h2⟩ := hx i hi
   rw [mo_c3] at h1
   obtain ⟨_, hlen, hcell⟩ := World.cells?_some h1
   match cs', hlen, h1, h2 with
   | [v0, v1, v2], _, h1, h2 =>
    obtain ⟨k, t, V, rfl, rfl, hV, hk⟩ := mod_cells h2
    exact ⟨((k, (t, V)), v2), h1, hV, hk⟩)
  have hlen : ((List.range len).map fun i => (q i).1).length = len := by simp
  refine ⟨(List.range len).map fun i => (q i).1, hlen, ⟨some a, m, by rw [hlen], fun i hi => ?_⟩⟩
  rw [hlen] at hi
  obtain ⟨_, _, hcell⟩ := World.cells?_some (hq i (by omega)).1
  obtain ⟨_, _, hcell0⟩ := World.cells?_some (hq 0 (by omega)).1
  obtain ⟨b, off, spot⟩ := a
  have hspot : spot = none := by
   have := hcell0 0 (by omega)
   simpa [Addr.add] using World.cell?_spot this
  subst hspot
  have z : ∀ j, j < 3 -> w.cell? ⟨b, off + i * 3 + j, none⟩ = ([Value.int .i64 (q i).1.1, .string ⟨(q i).1.2.1.toArray⟩, (q i).2] : List Value)[j]? := by
   intro j hj
   have := hcell j hj
   rw [add_add, add_plain] at this
   rw [Nat.add_assoc, this]
  have z0 := z 0 (by omega)
  refine ⟨b, off, (q i).2, rfl, World.block_lt_of_cell? w _ (show w.cell? ⟨b, off + i * 3, none⟩ = some (.int .i64 (q i).1.1) from z0), ?_, ?_, ?_, ?_, (hq i (by omega)).2.2⟩
  ·rw [show off + i * 3 = off + i * 3 + 0 by omega, z0]; simp
  ·rw [z 1 (by omega)]; simp
  ·rw [z 2 (by omega)]; simp
  ·simpa using (hq i (by omega)).2.1
theorem errOk_ma {W : World} (h : laidMetH Tryz.prog Rows.modsApplyRow.laid W) : ErrOk W := by
 rw [MakeChecks.laidMetH_plain _ _ _ (by kernel_rfl)] at h
 first
  | exact errOk_laid h
  | exact errOk_laid h.tail
  | exact errOk_laid h.tail.tail
  | exact errOk_laid h.tail.tail.tail
  | exact errOk_laid h.tail.tail.tail.tail
  | exact errOk_laid h.tail.tail.tail.tail.tail
  | exact errOk_laid h.tail.tail.tail.tail.tail.tail
  | exact errOk_laid h.tail.tail.tail.tail.tail.tail.tail
end Go.Proofs.YtpkbgkoocijegaaGreatDoor
