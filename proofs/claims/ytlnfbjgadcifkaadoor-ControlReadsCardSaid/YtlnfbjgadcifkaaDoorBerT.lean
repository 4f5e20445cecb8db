/- A row of tags with bytes, read cell by cell. -/
import Derived.Test.YtlnfbjgadcifkaaDoorBerL
namespace Go.Proofs.YtlnfbjgadcifkaaDoor
open Go.RowKit Go.Proofs.BerM Go.Proofs.BerK Go.Proofs.MemK

theorem tc_at : ∀ (L : List (Nat × List UInt8)) (i : Nat) (h : i < L.length), (tc L)[2 * i]? = some (.int .i64 (L[i].1 : Int)) ∧ (tc L)[2 * i + 1]? = some (.string ⟨L[i].2.toArray⟩) := by
  intro L
  induction L with
  | nil => intro i h; simp at h
  | cons x L ih =>
    intro i h
    cases i with
    | zero => simp [tc]
    | succ i =>
      have := ih i (by simpa using h)
      have e : tc (x :: L) = .int .i64 (x.1 : Int) :: .string ⟨x.2.toArray⟩ :: tc L := by simp [tc]
      rw [e, show 2 * (i + 1) = 2 * i + 1 + 1 by omega]
      simpa using this
theorem ownsRow_cells {w : World} {B : Nat} {v : Value} {L : List (Nat × List UInt8)} (h : w.ownsRow B 54 2 v L.length (tc L)) (hL : 0 < L.length) :
    ∃ g c, v = .slice (some ⟨g, 0, none⟩) L.length c ∧ L.length ≤ c ∧ ∀ i (hi : i < L.length), w.cell? ⟨g, i * 2, none⟩ = some (.int .i64 (L[i].1 : Int)) ∧ w.cell? ⟨g, i * 2 + 1, none⟩ = some (.string ⟨L[i].2.toArray⟩) := by
  rcases h.2 with ⟨_, h2⟩ | ⟨g, cap, cur, rfl, _, _, hc, _⟩
  · omega
  · refine ⟨g, cap, rfl, hc, fun i hi => ?_⟩
    have hcl := h.cells (g := g) rfl
    have ht := tc_at L i hi
    have a := hcl (2 * i) _ ht.1
    have b := hcl (2 * i + 1) _ ht.2
    rw [Addr.add_lit, Nat.zero_add] at a b
    rw [Nat.mul_comm i 2]
    exact ⟨a, b⟩

end Go.Proofs.YtlnfbjgadcifkaaDoor
