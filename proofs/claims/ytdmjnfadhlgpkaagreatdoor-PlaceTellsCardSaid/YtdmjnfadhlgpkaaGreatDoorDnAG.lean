/- The law's own given texts come out as said. -/
import Derived.Test.YtdmjnfadhlgpkaaGreatDoorDnAF
import Derived.Test.YtdmjnfadhlgpkaaGreatDoorDnD
namespace Go.Proofs.YtdmjnfadhlgpkaaGreatDoor
set_option linter.unusedSimpArgs false
set_option linter.unusedVariables false
open Go Go.RowKit Go.Proofs.BerK Go.Proofs.MemK Go.Proofs.UtfK

theorem rd_err {n : Nat} (hn : n ≠ 0) {e1 e2 : TypeId} {w w' : World} {en : Ending} (h : RdPost ([], n) e1 e2 w en w') : en = .returned (.tuple #[.slice none 0 0, .int .i64 (n : Nat)]) ∧ Below w.heap.size w w' := by
  rcases h with ⟨_, h, hb⟩ | ⟨h, _⟩
  · exact ⟨h, hb⟩
  · exact absurd h hn
theorem rd_nil {e1 e2 : TypeId} {w w' : World} {en : Ending} (h : RdPost ([], 0) e1 e2 w en w') : ∃ a, en = .returned (.tuple #[.slice a 0 0, .int .i64 0]) ∧ Below w.heap.size w w' := by
  rcases h with ⟨_, h, hb⟩ | ⟨_, g, gs, h, _, hb⟩
  · exact ⟨_, h, hb⟩
  · exact ⟨_, h, hb⟩
theorem rd_some {D : List (List Av)} (hD : D ≠ []) {n : Nat} {e1 e2 : TypeId} {w w' : World} {en : Ending} (h : RdPost (D, n) e1 e2 w en w') : ∃ g gs, en = .returned (.tuple #[rowV g D.length, .int .i64 0]) ∧ DnBlk w' w.heap.size g gs D 0 e1 e2 ∧ Below w.heap.size w w' := by
  rcases h with ⟨h, _⟩ | ⟨_, g, gs, h, h2⟩
  · exact absurd h hD
  · exact ⟨g, gs, h, h2⟩
/-- The cells of a part's pair. -/
theorem blk_cells {w : World} {B g : Nat} {gs : List Nat} {D : List (List Av)} {e1 e2 : TypeId} (h : DnBlk w B g gs D 0 e1 e2) (i : Nat) (hi : i < D.length) : ∃ gi, gi < w.heap.size ∧ g < w.heap.size ∧ w.cell? ⟨g, i, none⟩ = some (.slice (some ⟨gi, 0, none⟩) D[i].length D[i].length) ∧
    ∀ j (hj : j < D[i].length), w.cell? ⟨gi, j * 2, none⟩ = some (.string ⟨D[i][j].1.toArray⟩) ∧ w.cell? ⟨gi, j * 2 + 1, none⟩ = some (.string ⟨D[i][j].2.toArray⟩) := by
  have hi' : i < gs.length := by rw [h.len]; exact hi
  have hr := (h.rows i hi' hi).2.2
  refine ⟨gs[i], obj_lt hr, obj_lt h.outer, ?_, fun j hj => ⟨obj_cell hr (j * 2) _ (by simpa using (avc_at D[i] j hj).1), obj_cell hr (j * 2 + 1) _ (by simpa using (avc_at D[i] j hj).2)⟩⟩
  exact obj_cell h.outer i _ (by simpa [rowV] using ovc_at gs D i hi' hi)

end Go.Proofs.YtdmjnfadhlgpkaaGreatDoor
