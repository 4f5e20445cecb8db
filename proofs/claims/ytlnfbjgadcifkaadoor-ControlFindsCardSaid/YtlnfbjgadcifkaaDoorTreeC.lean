/- The code's Check and Depth tell what the plain functions ck and dpth tell, for every text that is no longer than a text may be and every number of levels. -/
import Derived.Test.YtlnfbjgadcifkaaDoorTreeB
namespace Go.Proofs.YtlnfbjgadcifkaaDoor
open Go.RowKit Go.Proofs.BerM Go.Proofs.BerK Go.Proofs.MemK

/-- How many levels are asked for, 64 at most, none of a number below 1. -/
def lv (q : Int) : Nat := (min q 64).toNat
theorem lv_lt {q : Int} (h : q < 1) : lv q = 0 := by unfold lv; omega
theorem lv_le (q : Int) : lv q ≤ 64 := by unfold lv; omega

theorem dpL_one (m : Nat) (x : TB) : dpL (dp1 m) [x] 0 = dp1 m x := by
  by_cases h : (dp1 m x).2 = 0
  · rw [dpL_go (pair_of rfl h)]
    simp only [dpL]
    rw [pair_of (a := dp1 m x) rfl h]; simp
  · rw [dpL_err (pair_of rfl rfl) h]
    exact (pair_of (dp1_zero_err m x h) rfl).symm

theorem cells_one (w : World) (t : Int) (s : ByteArray) (e : TypeId) : (w.alloc (.cells #[.int .i64 t, .string s] e)).cell? ⟨w.heap.size, 0 * 2, none⟩ = some (.int .i64 t) ∧ (w.alloc (.cells #[.int .i64 t, .string s] e)).cell? ⟨w.heap.size, 0 * 2 + 1, none⟩ = some (.string s) := by
  rw [World.cell?_alloc_mark w _ e (0, 0), World.cell?_alloc_mark w _ e (0, 0)]
  exact ⟨rfl, rfl⟩
theorem rowAt_one (w : World) (t : Nat) (b : List UInt8) (e : TypeId) : RowAt (w.alloc (.cells #[.int .i64 t, .string ⟨b.toArray⟩] e)) (.slice (some ⟨w.heap.size, 0, none⟩) 1 1) [(t, b)] := by
  refine .inr ⟨by simp, w.heap.size, 1, rfl, by simp, fun i hi => ?_⟩
  obtain rfl : i = 0 := by simpa using hi
  exact cells_one w t ⟨b.toArray⟩ e

theorem below_2 {w w1 w2 : World} {o1 o2 : Obj} (h1 : Below w.heap.size w w1) (h2 : Below ((w1.alloc o1).alloc o2).heap.size ((w1.alloc o1).alloc o2) w2) : Below w.heap.size w w2 :=
  ((h1.alloc h1.size o1).alloc (by have := h1.size; simp; omega) o2).trans (h2.mono (by have := h1.size; simp; omega))

end Go.Proofs.YtlnfbjgadcifkaaDoor
