/- The law's own examples hold. -/
import Derived.Test.YtnfkknelpgnmhaaDoorFoldB
import Derived.Test.YtnfkknelpgnmhaaDoorFoldE
namespace Go.Proofs.YtnfkknelpgnmhaaDoor
open Go Go.RowKit Go.Proofs.BerK Go.Proofs.MemK Go.Proofs.UtfK

theorem fold_c (s : ByteArray) (L : List UInt8) (hm : s.size + 1 ≤ 140737488355328) (h : foldL s.data.toList = L) (w : World) : Calls Tryd.prog 6 #[.string s] w fun en w' => en = .returned (.string ⟨L.toArray⟩) ∧ Below w.heap.size w w' :=
  (fold_any s w hm).mono fun _ _ h2 => by unfold StrPost at h2; rw [h] at h2; exact h2
theorem lower_c (s : ByteArray) (L : List UInt8) (h : lowL s.data.toList = L) (w : World) : Calls Tryd.prog 9 #[.string s] w fun en w' => en = .returned (.string ⟨L.toArray⟩) ∧ Below w.heap.size w w' :=
  (lower_any s w).mono fun _ _ h2 => by unfold StrPost at h2; rw [h] at h2; exact h2
theorem blanks_c (s : ByteArray) (L : List UInt8) (hm : s.size + 1 ≤ 140737488355328) (h : blL s.data.toList = L) (w : World) : Calls Tryd.prog 10 #[.string s] w fun en w' => en = .returned (.string ⟨L.toArray⟩) ∧ Below w.heap.size w w' :=
  (blanks_any s w hm).mono fun _ _ h2 => by unfold StrPost at h2; rw [h] at h2; exact h2

set_option maxHeartbeats 1600000 in
set_option maxRecDepth 100000 in
theorem awakeF_any (w : World) :
    Calls Tryd.prog 5 #[] w (BoolPost true w) := by
  go_enter Tryd.func5, Tryd.ntmps5
  go_wp2_with fail
  refine (int_c ⟨#[45, 48, 48, 55]⟩ [45, 55] true (by decide +kernel) _).mono ?_
  rintro e w1 ⟨rfl, hb1⟩
  go_wp2_with fail
  refine (int_c ⟨#[45, 48]⟩ [48] true (by decide +kernel) _).mono ?_
  rintro e w2 ⟨rfl, hb2⟩
  have hb := hb1.trans (hb2.mono hb1.size)
  clear hb1 hb2
  go_wp2_with fail
  refine (int_c ⟨#[49, 120]⟩ [] false (by decide +kernel) _).mono ?_
  rintro e w1 ⟨rfl, hb1⟩
  have hb := hb.trans (hb1.mono hb.size)
  clear hb1
  go_wp2_with fail
  refine (fold_c ⟨#[32, 32, 65, 32, 32, 98]⟩ [97, 32, 98] (by decide) (by decide +kernel) _).mono ?_
  rintro e w1 ⟨rfl, hb1⟩
  have hb := hb.trans (hb1.mono hb.size)
  clear hb1
  go_wp2_with fail
  refine (lower_c ⟨#[97, 90]⟩ [97, 122] (by decide +kernel) _).mono ?_
  rintro e w1 ⟨rfl, hb1⟩
  have hb := hb.trans (hb1.mono hb.size)
  clear hb1
  go_wp2_with fail
  refine (blanks_c ⟨#[32, 97, 32, 32, 98, 32]⟩ [97, 32, 98] (by decide) (by decide +kernel) _).mono ?_
  rintro e w1 ⟨rfl, hb1⟩
  have hb := hb.trans (hb1.mono hb.size)
  clear hb1
  go_wp2_with fail
  refine (less_c ⟨#[57]⟩ ⟨#[49, 48]⟩ true (by decide +kernel) _).mono ?_
  rintro e w1 ⟨rfl, hb1⟩
  have hb := hb.trans (hb1.mono hb.size)
  clear hb1
  go_wp2_with fail
  refine (less_c ⟨#[45, 49, 48]⟩ ⟨#[45, 57]⟩ true (by decide +kernel) _).mono ?_
  rintro e w1 ⟨rfl, hb1⟩
  have hb := hb.trans (hb1.mono hb.size)
  clear hb1
  go_wp2_with fail
  refine (less_c ⟨#[45, 49]⟩ ⟨#[48]⟩ true (by decide +kernel) _).mono ?_
  rintro e w1 ⟨rfl, hb1⟩
  have hb := hb.trans (hb1.mono hb.size)
  clear hb1
  go_wp2_with fail
  refine (less_c ⟨#[97]⟩ ⟨#[98]⟩ true (by decide +kernel) _).mono ?_
  rintro e w1 ⟨rfl, hb1⟩
  have hb := hb.trans (hb1.mono hb.size)
  clear hb1
  go_wp2
  go_ret
  exact ⟨rfl, hb⟩
end Go.Proofs.YtnfkknelpgnmhaaDoor
