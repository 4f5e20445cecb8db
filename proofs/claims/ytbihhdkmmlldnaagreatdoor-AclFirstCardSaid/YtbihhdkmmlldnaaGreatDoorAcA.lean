/- Rules in memory. -/
import Derived.Test.YtbihhdkmmlldnaaGreatDoorAcMN
import Derived.Test.YtbihhdkmmlldnaaGreatDoorDqC
import Derived.Test.YtbihhdkmmlldnaaGreatDoorGenB
import Derived.Test.YtbihhdkmmlldnaaGreatDoorPlC
namespace Go.Proofs.YtbihhdkmmlldnaaGreatDoor
set_option linter.unusedSimpArgs false
set_option linter.unusedVariables false
open Go Go.RowKit Go.Proofs.BerK Go.Proofs.MemK Go.Proofs.UtfK

/-- A rule's cells, and a rule by itself. -/
def rlC (r : Rl) : List Value := [.string ⟨r.1.toArray⟩, .string ⟨r.2.1.toArray⟩, .string ⟨r.2.2.1.toArray⟩, .int .i64 r.2.2.2.1, .bool r.2.2.2.2]
def rlV (r : Rl) : Value := .agg (rlC r).toArray
/-- Rules lie in memory, to be read. -/
def RlAt (w : World) (v : Value) (L : List Rl) : Prop :=
  ∃ a c, v = .slice a L.length c ∧ ∀ i (hi : i < L.length), ∃ g o, a = some ⟨g, o, none⟩ ∧ g < w.heap.size ∧ ∀ j, j < 5 → w.cell? ⟨g, o + i * 5 + j, none⟩ = (rlC L[i])[j]?
theorem rlAt_below {w w' : World} {v : Value} {L : List Rl} (h : RlAt w v L) (hb : Below w.heap.size w w') : RlAt w' v L := by
  obtain ⟨a, c, rfl, h⟩ := h
  refine ⟨a, c, rfl, fun i hi => ?_⟩
  obtain ⟨g, o, h1, h2, h3⟩ := h i hi
  exact ⟨g, o, h1, Nat.lt_of_lt_of_le h2 hb.size, fun j hj => (hb.cell (p := ⟨g, _, none⟩) h2).trans (h3 j hj)⟩
theorem rlAt_heap {w w' : World} {v : Value} {L : List Rl} (h : RlAt w v L) (hh : w'.heap = w.heap) : RlAt w' v L := by
  obtain ⟨a, c, rfl, h⟩ := h
  refine ⟨a, c, rfl, fun i hi => ?_⟩
  obtain ⟨g, o, h1, h2, h3⟩ := h i hi
  refine ⟨g, o, h1, by rw [hh]; exact h2, fun j hj => ?_⟩
  rw [← h3 j hj]; unfold World.cell?; rw [hh]
/-- The five cells of a rule, one by one. -/
theorem rlAt_five {w : World} {a : Option Addr} {n c : Nat} {L : List Rl} (h : RlAt w (.slice a n c) L) (i : Nat) (hi : i < L.length) : ∃ g o, a = some ⟨g, o, none⟩ ∧ g < w.heap.size ∧ w.cell? ⟨g, o + i * 5, none⟩ = some (.string ⟨L[i].1.toArray⟩) ∧ w.cell? ⟨g, o + i * 5 + 1, none⟩ = some (.string ⟨L[i].2.1.toArray⟩) ∧ w.cell? ⟨g, o + i * 5 + 2, none⟩ = some (.string ⟨L[i].2.2.1.toArray⟩) ∧ w.cell? ⟨g, o + i * 5 + 3, none⟩ = some (.int .i64 L[i].2.2.2.1) ∧ w.cell? ⟨g, o + i * 5 + 4, none⟩ = some (.bool L[i].2.2.2.2) := by
  obtain ⟨a', c', hv, h⟩ := h
  injection hv with h1 h2 h3
  subst h1 h3
  obtain ⟨g, o, h1, h2, h3⟩ := h i hi
  exact ⟨g, o, h1, h2, h3 0 (by omega), h3 1 (by omega), h3 2 (by omega), h3 3 (by omega), h3 4 (by omega)⟩
theorem rlAt_nil (w : World) (a : Option Addr) (c : Nat) : RlAt w (.slice a 0 c) [] := ⟨a, c, rfl, fun i hi => by simp at hi⟩
theorem rlAt_cap {w : World} {a : Option Addr} {n c : Nat} {L : List Rl} (h : RlAt w (.slice a n c) L) (c' : Nat) : RlAt w (.slice a n c') L := by
  obtain ⟨a', c0, hv, h⟩ := h
  injection hv with h1 h2 h3
  subst h1 h2 h3
  exact ⟨a, c', rfl, h⟩
/-- Rules' cells in a row. -/
def rlCs (L : List Rl) : List Value := L.flatMap rlC
theorem rlCs_len (L : List Rl) : (rlCs L).length = L.length * 5 := by
  induction L with
  | nil => rfl
  | cons r L ih => rw [rlCs, List.flatMap_cons, List.length_append]; unfold rlCs at ih; rw [ih, List.length_cons]; simp [rlC]; omega
theorem rlCs_at (L : List Rl) : ∀ (i : Nat) (hi : i < L.length) (j : Nat), j < 5 → (rlCs L)[i * 5 + j]? = (rlC L[i])[j]? := by
  induction L with
  | nil => intro i hi; simp at hi
  | cons r L ih =>
    intro i hi j hj
    rw [rlCs, List.flatMap_cons]
    have hr : (rlC r).length = 5 := rfl
    cases i with
    | zero => rw [List.getElem?_append_left (by rw [hr]; omega), Nat.zero_mul, Nat.zero_add]; rfl
    | succ i =>
      rw [List.getElem?_append_right (by rw [hr]; omega), hr, show (i + 1) * 5 + j - 5 = i * 5 + j by omega]
      exact ih i (by simpa using hi) j hj
theorem rlCs_app (L M : List Rl) : rlCs (L ++ M) = rlCs L ++ rlCs M := by simp [rlCs]
theorem rlCs_one (L : List Rl) : ∀ u ∈ rlCs L, u.oneCell' = true := by
  intro u hu
  obtain ⟨r, _, hr⟩ := List.mem_flatMap.1 hu
  simp only [rlC, List.mem_cons, List.not_mem_nil, or_false] at hr
  rcases hr with rfl | rfl | rfl | rfl | rfl <;> rfl
/-- A row of the call's own is to be read. -/
theorem rlAt_owns {w : World} {B : Nat} {e : TypeId} {v : Value} {L : List Rl} (h : w.ownsRow B e 5 v L.length (rlCs L)) : RlAt w v L := by
  rcases h.2 with ⟨rfl, h0⟩ | ⟨g, cap, cur, rfl, _, hg, _⟩
  · exact ⟨none, 0, by rw [h0], fun i hi => by omega⟩
  · refine ⟨_, cap, rfl, fun i hi => ⟨g, 0, rfl, (Array.getElem?_eq_some_iff.1 hg).1, fun j hj => ?_⟩⟩
    rw [Nat.zero_add, h.cellAt (i * 5 + j) (by omega), rlCs_at L i hi j hj]
/-- A block of rules is to be read. -/
theorem rlAt_block {w : World} {b : Nat} {e : TypeId} {m : Nat × Nat} {L : List Rl} (c : Nat) (h : w.heap[b]? = some (.cells (rlCs L).toArray e m)) : RlAt w (.slice (some ⟨b, 0, none⟩) L.length c) L := by
  refine ⟨_, c, rfl, fun i hi => ⟨b, 0, rfl, (Array.getElem?_eq_some_iff.1 h).1, fun j hj => ?_⟩⟩
  rw [Nat.zero_add, ← rlCs_at L i hi j hj]
  simp [World.cell?, h]
end Go.Proofs.YtbihhdkmmlldnaaGreatDoor
