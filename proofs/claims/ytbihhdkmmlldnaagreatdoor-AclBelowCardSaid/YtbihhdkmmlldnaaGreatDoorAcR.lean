/- The law of rules for all below a name. -/
import Derived.Test.YtbihhdkmmlldnaaGreatDoorAcG
import Derived.Test.YtbihhdkmmlldnaaGreatDoorAcH
namespace Go.Proofs.YtbihhdkmmlldnaaGreatDoor
set_option linter.unusedSimpArgs false
set_option linter.unusedVariables false
open Go Go.RowKit Go.Proofs.BerK Go.Proofs.MemK Go.Proofs.UtfK

set_option maxHeartbeats 12800000 in
set_option maxRecDepth 100000 in
theorem abel_any (a b c : List UInt8) (e : Int) (f : Bool) (x y z u : List UInt8) (w : World) (he : ErrOk w) :
    Calls Tryz.prog 5 #[.agg #[.string ⟨a.toArray⟩, .string ⟨b.toArray⟩, .string ⟨c.toArray⟩, .int .i64 e, .bool f], .agg #[.string ⟨x.toArray⟩, .string ⟨y.toArray⟩, .string ⟨z.toArray⟩], .string ⟨u.toArray⟩] w (BoolPost true w) := by
  obtain ⟨Wa, hWa⟩ : ∃ Wa, w.alloc (.cells #[.string ⟨a.toArray⟩, .string ⟨b.toArray⟩, .string ⟨c.toArray⟩, .int .i64 e, .bool f] 34) = Wa := ⟨_, rfl⟩
  obtain ⟨W, hW⟩ : ∃ W, Wa.alloc (.cells #[.string ⟨x.toArray⟩, .string ⟨y.toArray⟩, .string ⟨z.toArray⟩] 24) = W := ⟨_, rfl⟩
  have hsa : Wa.heap.size = w.heap.size + 1 := by rw [← hWa]; simp
  have hb0 : Below w.heap.size w W := by rw [← hW]; exact ((by rw [← hWa]; exact (Below.refl _ w).alloc (Nat.le_refl _) _ : Below w.heap.size w Wa)).alloc (by omega) _
  have hg : W.heap[Wa.heap.size]? = some (.cells #[.string ⟨x.toArray⟩, .string ⟨y.toArray⟩, .string ⟨z.toArray⟩] 24 (0, 0)) := by rw [← hW]; exact heap_alloc_new Wa _
  have hr : W.heap[w.heap.size]? = some (.cells #[.string ⟨a.toArray⟩, .string ⟨b.toArray⟩, .string ⟨c.toArray⟩, .int .i64 e, .bool f] 34 (0, 0)) := by
    rw [← hW]
    refine obj_alloc ?_ _
    rw [← hWa]; exact heap_alloc_new w _
  have d0 := obj_cell hg 0 _ rfl
  have d1 := obj_cell hg 1 _ rfl
  have d2 := obj_cell hg 2 _ rfl
  have g0 := obj_cell hr 0 _ rfl
  have g1 := obj_cell hr 1 _ rfl
  have g2 := obj_cell hr 2 _ rfl
  have g3 := obj_cell hr 3 _ rfl
  have g4 := obj_cell hr 4 _ rfl
  have hz : Wa.heap.size < W.heap.size := obj_lt hg
  have hy : w.heap.size < W.heap.size := by omega
  obtain ⟨R, hR⟩ : ∃ R : List Rl, R = [(a, b, c, e, f)] := ⟨_, rfl⟩
  have hRc : ∀ w0 : World, RlAt (w0.alloc (.cells #[.string ⟨a.toArray⟩, .string ⟨b.toArray⟩, .string ⟨c.toArray⟩, .int .i64 e, .bool f] 34)) (.slice (some ⟨w0.heap.size, 0, none⟩) 1 1) R := fun w0 => by
    subst hR
    exact rlAt_block (L := [(a, b, c, e, f)]) 1 (heap_alloc_new w0 _)
  have HRc := Lib.hid hRc
  have HB0 := Lib.hid hb0
  have HE := Lib.hid (fun w' (hb : Below W.heap.size W w') => errOk_below (errOk_below he hb0) hb)
  have HAw := Lib.hid (fun w' (hb : Below W.heap.size W w') => awake16_any w' (HE.out w' hb))
  have HU := Lib.hid (fun w' (hb : Below W.heap.size W w') => under_any u y w' (HE.out w' hb))
  have HF := Lib.hid (fun v w' (h : RlAt w' v R) => few16_any v R w' h)
  have HA1 := Lib.hid (fun v w' (hb : Below W.heap.size W w') (h : RlAt w' v R) => allowed_any v R x y z 1 w' (HE.out w' hb) h)
  have HA2 := Lib.hid (fun v w' (hb : Below W.heap.size W w') (h : RlAt w' v R) => allowed_any v R x u z 1 w' (HE.out w' hb) h)
  have hal : alA R x y z 1 = true → undL u y = true → alA R x u z 1 = true := by rw [hR]; exact al_below
  obtain ⟨n1, e1⟩ : ∃ q, fewA R = q := ⟨_, rfl⟩
  obtain ⟨n2, e2⟩ : ∃ q, alA R x y z 1 = q := ⟨_, rfl⟩
  obtain ⟨n3, e3⟩ : ∃ q, undL u y = q := ⟨_, rfl⟩
  obtain ⟨n4, e4⟩ : ∃ q, alA R x u z 1 = q := ⟨_, rfl⟩
  rw [e1] at HF
  rw [e2] at HA1 hal
  rw [e3] at HU hal
  rw [e4] at HA2 hal
  have hways : (n1 = false ∨ (n1 = true ∧ (200 : Int) < (x.length : Int)) ∨ (n1 = true ∧ ¬ (200 : Int) < (x.length : Int) ∧ (200 : Int) < (y.length : Int)) ∨ (n1 = true ∧ ¬ (200 : Int) < (x.length : Int) ∧ ¬ (200 : Int) < (y.length : Int) ∧ (100 : Int) < (z.length : Int)) ∨ (n1 = true ∧ ¬ (200 : Int) < (x.length : Int) ∧ ¬ (200 : Int) < (y.length : Int) ∧ ¬ (100 : Int) < (z.length : Int) ∧ (200 : Int) < (u.length : Int))) ∨ (n1 = true ∧ ¬ (200 : Int) < (x.length : Int) ∧ ¬ (200 : Int) < (y.length : Int) ∧ ¬ (100 : Int) < (z.length : Int) ∧ ¬ (200 : Int) < (u.length : Int)) := by
    cases n1 <;> simp <;> omega
  have hw2 : n2 = false ∨ (n2 = true ∧ n3 = false) ∨ (n2 = true ∧ n3 = true ∧ n4 = true) := by
    revert hal
    cases n2 <;> cases n3 <;> cases n4 <;> simp
  have hbW : Below W.heap.size W W := Below.refl _ W
  clear he hb0 hg hr hR hRc hal e1 e2 e3 e4 hsa
  rcases hways with hways | ⟨rfl, p2, p3, p4, p5⟩
  · clear hw2
    rcases hways with rfl | ⟨rfl, p2⟩ | ⟨rfl, p2, p3⟩ | ⟨rfl, p2, p3, p4⟩ | ⟨rfl, p2, p3, p4, p5⟩
    all_goals
      go_enter Tryz.func5, Tryz.ntmps5
      go_wp2_with fail
      refine (HF.out _ _ (HRc.out W)).mono ?_
      rintro en w5 ⟨rfl, hb5⟩
      have hbW := (hbW.alloc hbW.size _).trans (hb5.mono (by simp))
      have h0 := (hbW.cell (p := ⟨Wa.heap.size, 0, none⟩) hz).trans d0
      have h1 := (hbW.cell (p := ⟨Wa.heap.size, 1, none⟩) hz).trans d1
      have h2 := (hbW.cell (p := ⟨Wa.heap.size, 2, none⟩) hz).trans d2
      clear hb5
      go_wp2_with ((with_reducible refine (HAw.out _ hbW).mono ?_); rintro en w7 ⟨rfl, hb5⟩; have hbW := hbW.trans (hb5.mono hbW.size))
      go_ret
      exact boolPost_mk rfl (HB0.out.trans (hbW.mono HB0.out.size))
  · rcases hw2 with rfl | ⟨rfl, rfl⟩ | ⟨rfl, rfl, rfl⟩
    all_goals
      go_enter Tryz.func5, Tryz.ntmps5
      go_wp2_with fail
      refine (HF.out _ _ (HRc.out W)).mono ?_
      rintro en w5 ⟨rfl, hb5⟩
      have hbW := (hbW.alloc hbW.size _).trans (hb5.mono (by simp))
      have h0 := (hbW.cell (p := ⟨Wa.heap.size, 0, none⟩) hz).trans d0
      have h1 := (hbW.cell (p := ⟨Wa.heap.size, 1, none⟩) hz).trans d1
      have h2 := (hbW.cell (p := ⟨Wa.heap.size, 2, none⟩) hz).trans d2
      have r0 := (hbW.cell (p := ⟨w.heap.size, 0, none⟩) hy).trans g0
      have r1 := (hbW.cell (p := ⟨w.heap.size, 1, none⟩) hy).trans g1
      have r2 := (hbW.cell (p := ⟨w.heap.size, 2, none⟩) hy).trans g2
      have r3 := (hbW.cell (p := ⟨w.heap.size, 3, none⟩) hy).trans g3
      have r4 := (hbW.cell (p := ⟨w.heap.size, 4, none⟩) hy).trans g4
      have hz5 : Wa.heap.size < w5.heap.size := Nat.lt_of_lt_of_le hz hbW.size
      have m0 : ∀ ob, (w5.alloc ob).cell? ⟨Wa.heap.size, 0, none⟩ = some (.string ⟨x.toArray⟩) := fun ob => (((Below.refl w5.heap.size w5).alloc (Nat.le_refl _) ob).cell (p := ⟨Wa.heap.size, 0, none⟩) hz5).trans h0
      have m1 : ∀ ob, (w5.alloc ob).cell? ⟨Wa.heap.size, 1, none⟩ = some (.string ⟨y.toArray⟩) := fun ob => (((Below.refl w5.heap.size w5).alloc (Nat.le_refl _) ob).cell (p := ⟨Wa.heap.size, 1, none⟩) hz5).trans h1
      have m2 : ∀ ob, (w5.alloc ob).cell? ⟨Wa.heap.size, 2, none⟩ = some (.string ⟨z.toArray⟩) := fun ob => (((Below.refl w5.heap.size w5).alloc (Nat.le_refl _) ob).cell (p := ⟨Wa.heap.size, 2, none⟩) hz5).trans h2
      have HBW := Lib.hid hbW
      clear hb5 hbW
      go_wp2_with fail
      refine (HA1.out _ _ (HBW.out.alloc HBW.out.size _) (HRc.out w5)).mono ?_
      rintro en w6 ⟨rfl, hb6⟩
      have hbW : Below W.heap.size W w6 := (HBW.out.alloc HBW.out.size _).trans (hb6.mono (by have := HBW.out.size; simp; omega))
      have HRw := Lib.hid (rlAt_below (HRc.out w5) hb6)
      have i0 := (hbW.cell (p := ⟨Wa.heap.size, 0, none⟩) hz).trans d0
      have i1 := (hbW.cell (p := ⟨Wa.heap.size, 1, none⟩) hz).trans d1
      have i2 := (hbW.cell (p := ⟨Wa.heap.size, 2, none⟩) hz).trans d2
      clear hb6
    · go_wp2_with ((with_reducible refine (HAw.out _ hbW).mono ?_); rintro en w7 ⟨rfl, hb5⟩; have hbW := hbW.trans (hb5.mono hbW.size))
      go_ret
      exact boolPost_mk rfl (HB0.out.trans (hbW.mono HB0.out.size))
    · go_wp2_with ((first | with_reducible refine (HU.out _ hbW).mono ?_ | with_reducible refine (HAw.out _ hbW).mono ?_); rintro en w7 ⟨rfl, hb5⟩; have hbW := hbW.trans (hb5.mono hbW.size))
      go_ret
      exact boolPost_mk rfl (HB0.out.trans (hbW.mono HB0.out.size))
    · go_wp2_with fail
      refine (HU.out _ hbW).mono ?_
      rintro en w7 ⟨rfl, hb7⟩
      have HR7 := Lib.hid (rlAt_below HRw.out hb7)
      have hbW := hbW.trans (hb7.mono hbW.size)
      have j0 := (hbW.cell (p := ⟨Wa.heap.size, 0, none⟩) hz).trans d0
      have j1 := (hbW.cell (p := ⟨Wa.heap.size, 1, none⟩) hz).trans d1
      have j2 := (hbW.cell (p := ⟨Wa.heap.size, 2, none⟩) hz).trans d2
      clear hb7
      go_wp2_with fail
      refine (HA2.out _ _ hbW HR7.out).mono ?_
      rintro en w8 ⟨rfl, hb8⟩
      have hbW := hbW.trans (hb8.mono hbW.size)
      clear hb8
      go_wp2_with fail
      refine (HAw.out _ hbW).mono ?_
      rintro en w9 ⟨rfl, hb9⟩
      have hbW := hbW.trans (hb9.mono hbW.size)
      clear hb9
      go_wp2
      go_ret
      exact boolPost_mk rfl (HB0.out.trans (hbW.mono HB0.out.size))
theorem ac_mk (s : ByteArray) : (⟨s.data.toList.toArray⟩ : ByteArray) = s := by apply ByteArray.ext; simp
theorem abel_s (r : Rl) (x y z : List UInt8) (u : ByteArray) (w : World) (he : ErrOk w) : Calls Tryz.prog 5 #[rlV r, .agg #[.string ⟨x.toArray⟩, .string ⟨y.toArray⟩, .string ⟨z.toArray⟩], .string u] w (BoolPost true w) := by
  have h := abel_any r.1 r.2.1 r.2.2.1 r.2.2.2.1 r.2.2.2.2 x y z u.data.toList w he
  rw [ac_mk] at h
  exact h
end Go.Proofs.YtbihhdkmmlldnaaGreatDoor
