/- The law of what rules tell. -/
import Derived.Test.YtbihhdkmmlldnaaGreatDoorAcG
import Derived.Test.YtbihhdkmmlldnaaGreatDoorAcF
namespace Go.Proofs.YtbihhdkmmlldnaaGreatDoor
set_option linter.unusedSimpArgs false
set_option linter.unusedVariables false
open Go Go.RowKit Go.Proofs.BerK Go.Proofs.MemK Go.Proofs.UtfK

set_option maxHeartbeats 25600000 in
set_option maxRecDepth 100000 in
theorem atell_any (L : List Rl) (a : Option Addr) (c : Nat) (x y z : List UInt8) (r : Int) (w : World) (he : ErrOk w) (hL : RlAt w (.slice a L.length c) L) :
    Calls Tryz.prog 3 #[.slice a L.length c, .agg #[.string ⟨x.toArray⟩, .string ⟨y.toArray⟩, .string ⟨z.toArray⟩], .int .i64 r] w (BoolPost true w) := by
  obtain ⟨W, hW⟩ : ∃ W, w.alloc (.cells #[.string ⟨x.toArray⟩, .string ⟨y.toArray⟩, .string ⟨z.toArray⟩] 24) = W := ⟨_, rfl⟩
  have hb0 : Below w.heap.size w W := by rw [← hW]; exact (Below.refl _ w).alloc (Nat.le_refl _) _
  have hg : W.heap[w.heap.size]? = some (.cells #[.string ⟨x.toArray⟩, .string ⟨y.toArray⟩, .string ⟨z.toArray⟩] 24 (0, 0)) := by rw [← hW]; exact heap_alloc_new w _
  have d0 := obj_cell hg 0 _ rfl
  have d1 := obj_cell hg 1 _ rfl
  have d2 := obj_cell hg 2 _ rfl
  have hz : w.heap.size < W.heap.size := obj_lt hg
  have HB0 := Lib.hid hb0
  have HLa := Lib.hid (rlAt_below hL hb0)
  have HE := Lib.hid (fun w' (hb : Below W.heap.size W w') => errOk_below (errOk_below he hb0) hb)
  have HF1 := Lib.hid (fun w' (hb : Below W.heap.size W w') => few16_any _ L w' (rlAt_below HLa.out hb))
  have HAw := Lib.hid (fun w' (hb : Below W.heap.size W w') => awake16_any w' (HE.out w' hb))
  have hfa : fewA L = true → ∀ q ∈ L, q.2.2.1.length ≤ 80 := fun h q hq => by
    obtain ⟨k, hk, rfl⟩ := List.getElem_of_mem hq
    exact ((fewA_facts h).2 k hk).2.2
  obtain ⟨n1, e1⟩ : ∃ q, fewA L = q := ⟨_, rfl⟩
  rw [e1] at HF1 hfa
  obtain ⟨n, hn⟩ : ∃ n, L.length = n := ⟨_, rfl⟩
  have HLn := Lib.hid hn
  have hbW : Below W.heap.size W W := Below.refl _ W
  have hways : ((n1 = false ∧ (n : Int) ≤ 256) ∨ (n1 = false ∧ ¬ (n : Int) ≤ 256 ∧ (300 : Int) < (n : Int)) ∨ (n1 = true ∧ (200 : Int) < (x.length : Int)) ∨ (n1 = true ∧ ¬ (200 : Int) < (x.length : Int) ∧ (200 : Int) < (y.length : Int)) ∨ (n1 = true ∧ ¬ (200 : Int) < (x.length : Int) ∧ ¬ (200 : Int) < (y.length : Int) ∧ (100 : Int) < (z.length : Int)) ∨
      (n1 = false ∧ ¬ (n : Int) ≤ 256 ∧ ¬ (300 : Int) < (n : Int) ∧ (200 : Int) < (x.length : Int)) ∨ (n1 = false ∧ ¬ (n : Int) ≤ 256 ∧ ¬ (300 : Int) < (n : Int) ∧ ¬ (200 : Int) < (x.length : Int) ∧ (200 : Int) < (y.length : Int)) ∨ (n1 = false ∧ ¬ (n : Int) ≤ 256 ∧ ¬ (300 : Int) < (n : Int) ∧ ¬ (200 : Int) < (x.length : Int) ∧ ¬ (200 : Int) < (y.length : Int) ∧ (100 : Int) < (z.length : Int))) ∨
      ((n1 = true ∧ ¬ (200 : Int) < (x.length : Int) ∧ ¬ (200 : Int) < (y.length : Int) ∧ ¬ (100 : Int) < (z.length : Int)) ∨ (n1 = false ∧ ¬ (n : Int) ≤ 256 ∧ ¬ (300 : Int) < (n : Int) ∧ ¬ (200 : Int) < (x.length : Int) ∧ ¬ (200 : Int) < (y.length : Int) ∧ ¬ (100 : Int) < (z.length : Int))) := by
    cases n1 <;> simp <;> omega
  rcases hways with hways | hways
  · rw [hn] at HF1 HLa ⊢
    clear he hL hb0 hg e1 hn hfa
    rcases hways with ⟨rfl, q1⟩ | ⟨rfl, q1, q2⟩ | ⟨rfl, p3⟩ | ⟨rfl, p3, p4⟩ | ⟨rfl, p3, p4, p5⟩ | ⟨rfl, q1, q2, p3⟩ | ⟨rfl, q1, q2, p3, p4⟩ | ⟨rfl, q1, q2, p3, p4, p5⟩
    all_goals
      go_enter Tryz.func3, Tryz.ntmps3
      go_wp2_with ((first | with_reducible refine (HF1.out _ hbW).mono ?_ | with_reducible refine (HAw.out _ hbW).mono ?_); rintro en w5 ⟨rfl, hb5⟩; have hbW := hbW.trans (hb5.mono hbW.size); have h0 := (hbW.cell (p := ⟨w.heap.size, 0, none⟩) hz).trans d0; have h1 := (hbW.cell (p := ⟨w.heap.size, 1, none⟩) hz).trans d1; have h2 := (hbW.cell (p := ⟨w.heap.size, 2, none⟩) hz).trans d2)
      go_ret
      exact boolPost_mk rfl (HB0.out.trans (hbW.mono HB0.out.size))
  have hs : 256 < L.length ∨ ∀ q ∈ L, q.2.2.1.length ≤ 80 := by
    rcases hways with ⟨h1, _⟩ | ⟨_, h1, _⟩
    · exact .inr (hfa h1)
    · left; rw [hn]; omega
  have hz100 : z.length ≤ 1000 := by rcases hways with ⟨_, _, _, h1⟩ | ⟨_, _, _, _, _, h1⟩ <;> omega
  have HLs := Lib.hid (And.intro hs hz100)
  rw [hn] at HF1 HLa ⊢
  clear he hL hb0 hg e1 hn hfa hs hz100
  rcases hways with ⟨rfl, p3, p4, p5⟩ | ⟨rfl, q1, q2, p3, p4, p5⟩
  all_goals
    go_enter Tryz.func3, Tryz.ntmps3
    go_wp2_with fail
    refine (HF1.out _ hbW).mono ?_
    rintro en w5 ⟨rfl, hb5⟩
    have hb5 := hbW.trans (hb5.mono hbW.size)
    have k0 := (hb5.cell (p := ⟨w.heap.size, 0, none⟩) hz).trans d0
    have k1 := (hb5.cell (p := ⟨w.heap.size, 1, none⟩) hz).trans d1
    have k2 := (hb5.cell (p := ⟨w.heap.size, 2, none⟩) hz).trans d2
    have hz5 : w.heap.size < w5.heap.size := Nat.lt_of_lt_of_le hz hb5.size
    have B5 := Lib.hid hb5
    have HE5 := Lib.hid (fun w' (hb : Below w5.heap.size w5 w') => HE.out w' (B5.out.trans (hb.mono B5.out.size)))
    have HL5 := Lib.hid (fun w' (hb : Below w5.heap.size w5 w') => rlAt_below (rlAt_below HLa.out B5.out) hb)
    have HC := Lib.hid (fun w' (hb : Below w5.heap.size w5 w') => acheck_any _ L w' (HE5.out w' hb) (HL5.out w' hb))
    have HRC := Lib.hid (fun w' (hb : Below w5.heap.size w5 w') => rcheck16_any _ L w' HLs.out.1 (HL5.out w' hb))
    have HF := Lib.hid (fun w' (hb : Below w5.heap.size w5 w') => afirst_any _ L x y z r w' (HE5.out w' hb) (HL5.out w' hb))
    have HRF := Lib.hid (fun w' (hb : Below w5.heap.size w5 w') => rfirst_any _ L x y z r w' HLs.out.1 HLs.out.2 (HL5.out w' hb))
    have HA := Lib.hid (fun w' (hb : Below w5.heap.size w5 w') => allowed_any _ L x y z r w' (HE5.out w' hb) (HL5.out w' hb))
    have HRA := Lib.hid (fun w' (hb : Below w5.heap.size w5 w') => rallowed_any _ L x y z r w' HLs.out.1 HLs.out.2 (HL5.out w' hb))
    have HW5 := Lib.hid (fun w' (hb : Below w5.heap.size w5 w') => HAw.out w' (B5.out.trans (hb.mono B5.out.size)))
    obtain ⟨m1, f1⟩ : ∃ q, ckA L = q := ⟨_, rfl⟩
    obtain ⟨m2, f2⟩ : ∃ q, fnI (frA L x y z r) = q := ⟨_, rfl⟩
    obtain ⟨m3, f3⟩ : ∃ q, alA L x y z r = q := ⟨_, rfl⟩
    rw [f1] at HC HRC
    rw [f2] at HF HRF
    rw [f3] at HA HRA
    clear f1 f2 f3 d0 d1 d2 hbW hb5 hW
    go_wp2_with fail
    go_region_held3 (fun w' => w'.cell? ⟨w.heap.size, 0, none⟩ = some (.string ⟨x.toArray⟩) ∧ w'.cell? ⟨w.heap.size, 1, none⟩ = some (.string ⟨y.toArray⟩) ∧ w'.cell? ⟨w.heap.size, 2, none⟩ = some (.string ⟨z.toArray⟩)) (first | exact ⟨hk0, hk1, hk2⟩ | exact ⟨k0, k1, k2⟩ | go_keep)
      (first | (go_at_call 11; (with_reducible refine (HC.out _ (by first | exact hbW | exact (Below.refl _ w5).drew)).mono ?_); rintro en wz ⟨rfl, hb5⟩; have hbW : Below w5.heap.size w5 wz := (by first | exact hbW.trans (hb5.mono hbW.size) | exact (Below.refl _ w5).drew.trans hb5); have hk0 := (hbW.cell (p := ⟨w.heap.size, 0, none⟩) hz5).trans k0; have hk1 := (hbW.cell (p := ⟨w.heap.size, 1, none⟩) hz5).trans k1; have hk2 := (hbW.cell (p := ⟨w.heap.size, 2, none⟩) hz5).trans k2; clear hb5) | (go_at_call 12; (with_reducible refine (HRC.out _ (by first | exact hbW | exact (Below.refl _ w5).drew)).mono ?_); rintro en wz ⟨rfl, hb5⟩; have hbW : Below w5.heap.size w5 wz := (by first | exact hbW.trans (hb5.mono hbW.size) | exact (Below.refl _ w5).drew.trans hb5); have hk0 := (hbW.cell (p := ⟨w.heap.size, 0, none⟩) hz5).trans k0; have hk1 := (hbW.cell (p := ⟨w.heap.size, 1, none⟩) hz5).trans k1; have hk2 := (hbW.cell (p := ⟨w.heap.size, 2, none⟩) hz5).trans k2; clear hb5) | (go_at_call 13; (with_reducible refine (HF.out _ (by first | exact hbW | exact (Below.refl _ w5).drew)).mono ?_); rintro en wz ⟨rfl, hb5⟩; have hbW : Below w5.heap.size w5 wz := (by first | exact hbW.trans (hb5.mono hbW.size) | exact (Below.refl _ w5).drew.trans hb5); have hk0 := (hbW.cell (p := ⟨w.heap.size, 0, none⟩) hz5).trans k0; have hk1 := (hbW.cell (p := ⟨w.heap.size, 1, none⟩) hz5).trans k1; have hk2 := (hbW.cell (p := ⟨w.heap.size, 2, none⟩) hz5).trans k2; clear hb5) | (go_at_call 14; (with_reducible refine (HRF.out _ (by first | exact hbW | exact (Below.refl _ w5).drew)).mono ?_); rintro en wz ⟨rfl, hb5⟩; have hbW : Below w5.heap.size w5 wz := (by first | exact hbW.trans (hb5.mono hbW.size) | exact (Below.refl _ w5).drew.trans hb5); have hk0 := (hbW.cell (p := ⟨w.heap.size, 0, none⟩) hz5).trans k0; have hk1 := (hbW.cell (p := ⟨w.heap.size, 1, none⟩) hz5).trans k1; have hk2 := (hbW.cell (p := ⟨w.heap.size, 2, none⟩) hz5).trans k2; clear hb5) | (go_at_call 15; (with_reducible refine (HA.out _ (by first | exact hbW | exact (Below.refl _ w5).drew)).mono ?_); rintro en wz ⟨rfl, hb5⟩; have hbW : Below w5.heap.size w5 wz := (by first | exact hbW.trans (hb5.mono hbW.size) | exact (Below.refl _ w5).drew.trans hb5); have hk0 := (hbW.cell (p := ⟨w.heap.size, 0, none⟩) hz5).trans k0; have hk1 := (hbW.cell (p := ⟨w.heap.size, 1, none⟩) hz5).trans k1; have hk2 := (hbW.cell (p := ⟨w.heap.size, 2, none⟩) hz5).trans k2; clear hb5) | (go_at_call 16; (with_reducible refine (HRA.out _ (by first | exact hbW | exact (Below.refl _ w5).drew)).mono ?_); rintro en wz ⟨rfl, hb5⟩; have hbW : Below w5.heap.size w5 wz := (by first | exact hbW.trans (hb5.mono hbW.size) | exact (Below.refl _ w5).drew.trans hb5); have hk0 := (hbW.cell (p := ⟨w.heap.size, 0, none⟩) hz5).trans k0; have hk1 := (hbW.cell (p := ⟨w.heap.size, 1, none⟩) hz5).trans k1; have hk2 := (hbW.cell (p := ⟨w.heap.size, 2, none⟩) hz5).trans k2; clear hb5) | (go_at_call 10; (with_reducible refine (HW5.out _ (by first | exact hbW | exact (Below.refl _ w5).drew)).mono ?_); rintro en wz ⟨rfl, hb5⟩; have hbW : Below w5.heap.size w5 wz := (by first | exact hbW.trans (hb5.mono hbW.size) | exact (Below.refl _ w5).drew.trans hb5); have hk0 := (hbW.cell (p := ⟨w.heap.size, 0, none⟩) hz5).trans k0; have hk1 := (hbW.cell (p := ⟨w.heap.size, 1, none⟩) hz5).trans k1; have hk2 := (hbW.cell (p := ⟨w.heap.size, 2, none⟩) hz5).trans k2; clear hb5))
    go_wp2
    go_ret
    exact boolPost_mk (by simp) (HB0.out.trans ((B5.out.trans (hbW.mono B5.out.size)).mono HB0.out.size))
end Go.Proofs.YtbihhdkmmlldnaaGreatDoor
