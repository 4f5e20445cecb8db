/- Attributes in a row that is owned; their cells. The document's put: a type that is not there, ahead of others. The document's put: a type that is not there, behind all others. The document's put: into nothing. -/
import Derived.Test.YtbmnpjkcomcboaaGreatDoorEnMP
import Derived.Test.YtbmnpjkcomcboaaGreatDoorEnCE
import Derived.Test.YtbmnpjkcomcboaaGreatDoorSnUW
namespace Go.Proofs.YtbmnpjkcomcboaaGreatDoor
set_option linter.unusedSimpArgs false
set_option linter.unusedVariables false
open Go Go.RowKit Go.Proofs.BerK Go.Proofs.MemK Go.Proofs.UtfK

def AtOk (w : World) (Lq : List (List UInt8 × Value)) (L : List Atr) : Prop := Lq.length = L.length ∧ ∀ i (h1 : i < Lq.length) (h2 : i < L.length), Lq[i].1 = L[i].1 ∧ ∃ B, w.ownsRow B 9 1 Lq[i].2 L[i].2.length (sc L[i].2)
theorem atOk_below {w w' : World} {Lq : List (List UInt8 × Value)} {L : List Atr} (h : AtOk w Lq L) (hb : Below w.heap.size w w') : AtOk w' Lq L :=
  ⟨h.1, fun i h1 h2 => ⟨(h.2 i h1 h2).1, by obtain ⟨_, B, hB⟩ := h.2 i h1 h2; exact ⟨B, ownsRow_below hB hb⟩⟩⟩
theorem atOk_nil (w : World) : AtOk w [] [] := ⟨rfl, fun i h1 => by simp at h1⟩
theorem slOk_owns {w : World} {B : Nat} {e : TypeId} {size : Nat} {v : Value} {n : Nat} {xs : List Value} (h : w.ownsRow B e size v n xs) : SlOk v := by
  rcases h.2 with ⟨rfl, rfl⟩ | ⟨g, cap, cur, rfl, _⟩
  · exact .inl rfl
  · exact .inr ⟨_, _, _, rfl⟩
theorem atcs_len (L : List (List UInt8 × Value)) : (atcs L).length = L.length * 2 := by
  induction L with
  | nil => rfl
  | cons c L ih =>
    have e : atcs (c :: L) = .string ⟨c.1.toArray⟩ :: c.2 :: atcs L := rfl
    rw [e]; simp only [List.length_cons, ih]; omega
theorem atcs_app (L M : List (List UInt8 × Value)) : atcs (L ++ M) = atcs L ++ atcs M := by simp [atcs]
def PaAt (w : World) (v : Value) (L : List Atr) : Prop := ∃ Lq B, AtOk w Lq L ∧ w.ownsRow B 81 2 v L.length (atcs Lq)
theorem paAt_below {w w' : World} {v : Value} {L : List Atr} (h : PaAt w v L) (hb : Below w.heap.size w w') : PaAt w' v L := by
  obtain ⟨Lq, B, h1, h2⟩ := h
  exact ⟨Lq, B, atOk_below h1 hb, ownsRow_below h2 hb⟩
theorem paAt_ea {w : World} {v : Value} {L : List Atr} (h : PaAt w v L) : EaAt w v L := by
  obtain ⟨Lq, B, hq, h⟩ := h
  refine ⟨slOk_owns h, ?_⟩
  have hl := hq.1
  rcases h.2 with ⟨rfl, h0⟩ | ⟨g, cap, cur, rfl, _, hg, _⟩
  · exact ⟨none, 0, by rw [h0], fun i hi => by omega⟩
  · refine ⟨_, cap, rfl, fun i hi => ?_⟩
    obtain ⟨h1, h2⟩ := atcs_at Lq i (by omega)
    obtain ⟨x1, BB, xo⟩ := hq.2 i (by omega) hi
    have x2 := txR_owns xo
    have x3 := slOk_owns xo
    refine ⟨g, 0, Lq[i].2, rfl, (Array.getElem?_eq_some_iff.1 hg).1, ?_, ?_, x2, x3⟩
    · rw [Nat.zero_add, ← x1]; exact (h.cellAt _ (by omega)).trans h1
    · rw [Nat.zero_add]; exact (h.cellAt _ (by omega)).trans h2
end Go.Proofs.YtbmnpjkcomcboaaGreatDoor
namespace Go.Proofs.YtbmnpjkcomcboaaGreatDoor
set_option linter.unusedSimpArgs false
set_option linter.unusedVariables false
open Go Go.RowKit Go.Proofs.BerK Go.Proofs.MemK Go.Proofs.UtfK

end Go.Proofs.YtbmnpjkcomcboaaGreatDoor
namespace Go.Proofs.YtbmnpjkcomcboaaGreatDoor
set_option linter.unusedSimpArgs false
set_option linter.unusedVariables false
open Go Go.RowKit Go.Proofs.BerK Go.Proofs.MemK Go.Proofs.UtfK

end Go.Proofs.YtbmnpjkcomcboaaGreatDoor
namespace Go.Proofs.YtbmnpjkcomcboaaGreatDoor
set_option linter.unusedSimpArgs false
set_option linter.unusedVariables false
open Go Go.RowKit Go.Proofs.BerK Go.Proofs.MemK Go.Proofs.UtfK

end Go.Proofs.YtbmnpjkcomcboaaGreatDoor
