/- Small parts of controls: a number and a truth as a part, the kinds of changes; and the same of the document. -/
import Derived.Test.YtlnfbjgadcifkaaDoorCtM
import Derived.Test.YtlnfbjgadcifkaaDoorNumQ
import Derived.Test.YtlnfbjgadcifkaaDoorBerP
import Derived.Test.YtlnfbjgadcifkaaDoorGrow
namespace Go.Proofs.YtlnfbjgadcifkaaDoor
set_option linter.unusedSimpArgs false
set_option linter.unusedVariables false
open Go Go.RowKit Go.Proofs.BerM Go.Proofs.BerK Go.Proofs.MemK Go.Proofs.NumM

/-- A part is handed back. -/
def TbPost (t : Int) (b : List UInt8) (w : World) (en : Ending) (w' : World) : Prop := en = .returned (.agg #[.int .i64 t, .string ⟨b.toArray⟩]) ∧ Below w.heap.size w w'
/-- A text is handed back. -/
def StPost (b : List UInt8) (w : World) (en : Ending) (w' : World) : Prop := en = .returned (.string ⟨b.toArray⟩) ∧ Below w.heap.size w w'

set_option maxHeartbeats 800000 in
set_option maxRecDepth 100000 in
theorem cnum_any (t n : Int) (w : World) : Calls Tryd.prog 20 #[.int .i64 t, .int .i64 n] w (TbPost t (npL n) w) := by
  obtain ⟨E, hE⟩ : ∃ E, npE n = E := ⟨_, rfl⟩
  obtain ⟨L, hL⟩ : ∃ L, npL n = L := ⟨_, rfl⟩
  have HP := Lib.hid fun w => nput_c n L E hL hE w
  rw [hL]
  clear hE hL
  go_enter Tryd.func20, Tryd.ntmps20
  go_wp2_with fail
  refine (HP.out _).mono ?_
  rintro en w1 ⟨rfl, hb1⟩
  have hbox := obj_below (heap_alloc_new w _) hb1 (by simp)
  have b0 := obj_cell hbox 0 _ rfl
  have b1 := obj_cell hbox 1 _ rfl
  have f0 := obj_free hbox 0
  have f1 := obj_free hbox 1
  have B1 := Lib.hid (((Below.refl _ w).alloc (Nat.le_refl _) _).trans (hb1.mono (by simp)))
  clear hb1 hbox
  go_wp2
  refine bodyPost_ret (v := .agg #[.int .i64 t, .string ⟨L.toArray⟩]) (by simp [results, Tryd.results20, go_sem, *]) rfl ⟨rfl, ?_⟩
  exact (B1.out.setCell (p := ⟨w.heap.size, 0, none⟩) (Nat.le_refl _) _).setCell (p := ⟨w.heap.size, 1, none⟩) (Nat.le_refl _) _

set_option maxHeartbeats 800000 in
set_option maxRecDepth 100000 in
theorem ctru_any (b : Bool) (w : World) : Calls Tryd.prog 21 #[.bool b] w (TbPost 1 (bB b) w) := by
  have HP := Lib.hid fun w => (bool_any b w : Calls Tryd.prog _ _ w _)
  have hB : boolB b = ⟨(bB b).toArray⟩ := boolB_is b
  rw [hB] at HP
  obtain ⟨L, hL⟩ : ∃ L, bB b = L := ⟨_, rfl⟩
  rw [hL] at HP ⊢
  clear hB hL
  go_enter Tryd.func21, Tryd.ntmps21
  go_wp2_with fail
  refine (HP.out _).mono ?_
  rintro en w1 ⟨rfl, hb1⟩
  have hbox := obj_below (heap_alloc_new w _) hb1 (by simp)
  have b0 := obj_cell hbox 0 _ rfl
  have b1 := obj_cell hbox 1 _ rfl
  have f0 := obj_free hbox 0
  have f1 := obj_free hbox 1
  have B1 := Lib.hid (((Below.refl _ w).alloc (Nat.le_refl _) _).trans (hb1.mono (by simp)))
  clear hb1 hbox
  go_wp2
  refine bodyPost_ret (v := .agg #[.int .i64 1, .string ⟨L.toArray⟩]) (by simp [results, Tryd.results21, go_sem, *]) rfl ⟨rfl, ?_⟩
  exact (B1.out.setCell (p := ⟨w.heap.size, 0, none⟩) (Nat.le_refl _) _).setCell (p := ⟨w.heap.size, 1, none⟩) (Nat.le_refl _) _

set_option maxHeartbeats 800000 in
theorem cisk_any (k : Int) (w : World) : Calls Tryd.prog 25 #[.int .i64 k] w fun en w' => en = .returned (.bool (isK k)) ∧ w' = w := by
  by_cases h : k = 1 ∨ k = 2 ∨ k = 4 ∨ k = 8
  · have hk := (isK_iff k).2 h
    rw [hk]
    clear hk
    rcases h with rfl | rfl | rfl | rfl
    all_goals
      go_enter Tryd.func25, Tryd.ntmps25
      go_wp2
      go_ret
      exact ⟨rfl, rfl⟩
  · have hk : isK k = false := by
      rw [← Bool.not_eq_true, isK_iff]; exact h
    rw [hk]
    have h1 : ((k : Int) == 1) = false := beq_eq_false_iff_ne.2 (by omega)
    have h2 : ((k : Int) == 2) = false := beq_eq_false_iff_ne.2 (by omega)
    have h3 : ((k : Int) == 4) = false := beq_eq_false_iff_ne.2 (by omega)
    have h4 : ((k : Int) == 8) = false := beq_eq_false_iff_ne.2 (by omega)
    clear hk h
    go_enter Tryd.func25, Tryd.ntmps25
    go_wp2
    go_ret
    exact ⟨rfl, rfl⟩

set_option maxHeartbeats 800000 in
theorem rcnum_any (t n : Int) (w : World) : Calls Tryd.prog 23 #[.int .i64 t, .int .i64 n] w (StPost (putL t (npL n)) w) := by
  obtain ⟨E, hE⟩ : ∃ E, npE n = E := ⟨_, rfl⟩
  obtain ⟨L, hL⟩ : ∃ L, npL n = L := ⟨_, rfl⟩
  have hl := npL_le n
  rw [hL] at hl ⊢
  obtain ⟨M, hM⟩ : ∃ M, putL t L = M := ⟨_, rfl⟩
  obtain ⟨F, hF⟩ : ∃ F, putE t L = F := ⟨_, rfl⟩
  have HP := Lib.hid fun w => rnput_c n L E hL hE w
  have HQ := Lib.hid fun w => rput_c t ⟨L.toArray⟩ (by unfold maxLen; show L.length ≤ _; omega) M F hM hF w
  rw [hM]
  clear hE hL hM hF hl
  go_enter Tryd.func23, Tryd.ntmps23
  go_wp2_with fail
  refine (HP.out _).mono ?_
  rintro en w1 ⟨rfl, hb1⟩
  go_wp2_with fail
  refine (HQ.out _).mono ?_
  rintro en w2 ⟨rfl, hb2⟩
  go_wp2
  go_ret
  exact ⟨rfl, hb1.trans (hb2.mono hb1.size)⟩

set_option maxHeartbeats 800000 in
theorem rctru_any (b : Bool) (w : World) : Calls Tryd.prog 24 #[.bool b] w (StPost (putL 1 (bB b)) w) := by
  have hl := bB_len b
  have HP := Lib.hid fun w => (rbool_any b w : Calls Tryd.prog _ _ w _)
  have hB : boolB b = ⟨(bB b).toArray⟩ := boolB_is b
  rw [hB] at HP
  obtain ⟨L, hL⟩ : ∃ L, bB b = L := ⟨_, rfl⟩
  rw [hL] at HP hl ⊢
  obtain ⟨M, hM⟩ : ∃ M, putL 1 L = M := ⟨_, rfl⟩
  obtain ⟨F, hF⟩ : ∃ F, putE 1 L = F := ⟨_, rfl⟩
  have HQ := Lib.hid fun w => rput_c 1 ⟨L.toArray⟩ (by unfold maxLen; show L.length ≤ _; omega) M F hM hF w
  rw [hM]
  clear hB hL hM hF hl
  go_enter Tryd.func24, Tryd.ntmps24
  go_wp2_with fail
  refine (HP.out _).mono ?_
  rintro en w1 ⟨rfl, rfl⟩
  go_wp2_with fail
  refine (HQ.out _).mono ?_
  rintro en w2 ⟨rfl, hb2⟩
  go_wp2
  go_ret
  exact ⟨rfl, hb2⟩
end Go.Proofs.YtlnfbjgadcifkaaDoor
