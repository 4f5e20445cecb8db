/- The code's measuring of bytes within bytes tells what the plain functions ms, ck and dpth tell, for every text that is no longer than a text may be and every number of levels. -/
import Derived.Test.YtlnfbjgadcifkaaDoorTreeM
namespace Go.Proofs.YtlnfbjgadcifkaaDoor
open Go.RowKit Go.Proofs.BerM Go.Proofs.BerK Go.Proofs.MemK

theorem and32_0 (t : Nat) (h : t ≤ 254) (h2 : t / 32 % 2 = 0) : bits .and .i64 (t : Int) 32 = 0 := by
  have : ∀ n : Fin 255, n.val / 32 % 2 = 0 → bits .and .i64 ((n.val : Nat) : Int) 32 = 0 := by decide +kernel
  exact this ⟨t, by omega⟩ h2
theorem and32_1 (t : Nat) (h : t ≤ 254) (h2 : ¬ t / 32 % 2 = 0) : bits .and .i64 (t : Int) 32 = 32 := by
  have : ∀ n : Fin 255, ¬ n.val / 32 % 2 = 0 → bits .and .i64 ((n.val : Nat) : Int) 32 = 32 := by decide +kernel
  exact this ⟨t, by omega⟩ h2

/-- Tags with bytes lie in memory, one behind the other. -/
def RowAt (w : World) (v : Value) (L : List TB) : Prop :=
  (L = [] ∧ ∃ a c, v = .slice a 0 c) ∨ (0 < L.length ∧ ∃ g c, v = .slice (some ⟨g, 0, none⟩) L.length c ∧ g < w.heap.size ∧ ∀ i (hi : i < L.length), w.cell? ⟨g, i * 2, none⟩ = some (.int .i64 (L[i].1 : Int)) ∧ w.cell? ⟨g, i * 2 + 1, none⟩ = some (.string ⟨L[i].2.toArray⟩))
theorem rowAt_owns {w : World} {B : Nat} {v : Value} {L : List TB} (h : w.ownsRow B 54 2 v L.length (tc L)) : RowAt w v L := by
  by_cases h0 : L.length = 0
  · obtain ⟨a, c, rfl⟩ := ownsRow_slice h
    exact .inl ⟨List.eq_nil_of_length_eq_zero h0, a, c, by rw [h0]⟩
  · obtain ⟨g, c, hv, hc, hq⟩ := ownsRow_cells h (by omega)
    refine .inr ⟨by omega, g, c, hv, ?_, hq⟩
    rcases h.2 with ⟨hn, _⟩ | ⟨g', cap, cur, hv', hbg, hg, rest⟩
    · rw [hn] at hv; cases hv
    · rw [hv'] at hv; cases hv; exact (Array.getElem?_eq_some_iff.1 hg).1
theorem rowAt_below {w w' : World} {v : Value} {L : List TB} (h : RowAt w v L) (hb : Below w.heap.size w w') : RowAt w' v L := by
  rcases h with h | ⟨h0, g, c, hv, hg, hq⟩
  · exact .inl h
  · refine .inr ⟨h0, g, c, hv, Nat.lt_of_lt_of_le hg hb.size, fun i hi => ?_⟩
    have := hq i hi
    exact ⟨(hb.cell (p := ⟨g, i * 2, none⟩) hg).trans this.1, (hb.cell (p := ⟨g, i * 2 + 1, none⟩) hg).trans this.2⟩

/-- partsOf's answer. -/
def PtPost (P : List TB) (e : Nat) (w : World) (en : Ending) (w' : World) : Prop :=
  ∃ v, en = .returned (.tuple #[v, .int .i64 (e : Nat)]) ∧ w'.ownsRow w.heap.size 54 2 v P.length (tc P) ∧ Below w.heap.size w w'

end Go.Proofs.YtlnfbjgadcifkaaDoor
