/- The code's deepest tells what the plain function dpL tells of the plain function dp1, for every row of tags with bytes that may be and every number of levels up to 64. -/
import Derived.Test.YtlnfbjgadcifkaaDoorTreeA
namespace Go.Proofs.YtlnfbjgadcifkaaDoor
open Go.RowKit Go.Proofs.BerM Go.Proofs.BerK Go.Proofs.MemK

theorem dpL_err {g : TB → Nat × Nat} {x : TB} {L : List TB} {d a e : Nat} (h : g x = (a, e)) (he : e ≠ 0) : dpL g (x :: L) d = (0, e) := by
  rw [dpL, h, if_pos he]
theorem dpL_go {g : TB → Nat × Nat} {x : TB} {L : List TB} {d a : Nat} (h : g x = (a, 0)) : dpL g (x :: L) d = dpL g L (max d a) := by
  rw [dpL, h, if_neg (by simp)]
theorem dp1_pt_err {m : Nat} {x : TB} {P : List TB} {e : Nat} (hp : pt x = (P, e)) (he : e ≠ 0) : dp1 (m + 1) x = (0, e) := by
  rw [dp1_succ, hp, if_pos he]
theorem dp1_below_err {m : Nat} {x : TB} {P : List TB} {d e : Nat} (hp : pt x = (P, 0)) (h : dpL (dp1 m) P 0 = (d, e)) (he : e ≠ 0) : dp1 (m + 1) x = (0, e) := by
  rw [dp1_succ, hp, if_neg (by simp)]
  simp only [h]
  rw [if_pos he]
theorem dp1_go {m : Nat} {x : TB} {P : List TB} {d : Nat} (hp : pt x = (P, 0)) (h : dpL (dp1 m) P 0 = (d, 0)) : dp1 (m + 1) x = (d + 1, 0) := by
  rw [dp1_succ, hp, if_neg (by simp)]
  simp only [h]
  rw [if_neg (by simp)]
theorem dpL_le {m : Nat} {L : List TB} {a r : Nat} (h : dpL (dp1 m) L a = (r, 0)) : r ≤ max a m := by
  obtain ⟨_, h2, h3⟩ := dpL_ok _ _ _ _ h
  rcases h3 with rfl | ⟨y, hy, hy2⟩
  · omega
  · have := (dp1_mono m y r (pair_of hy2 (h2 y hy).1)).2.1
    omega
/-- deepest's answer. -/
def DeepPost (r : Nat × Nat) (w : World) (en : Ending) (w' : World) : Prop :=
  en = .returned (.tuple #[.int .i64 (r.1 : Nat), .int .i64 (r.2 : Nat)]) ∧ Below w.heap.size w w'
theorem deep_mk {r : Nat × Nat} {d e : Nat} {w w' : World} (h : r = (d, e)) (hb : Below w.heap.size w w') : DeepPost r w (.returned (.tuple #[.int .i64 (d : Nat), .int .i64 (e : Nat)])) w' := by
  subst h; exact ⟨rfl, hb⟩

end Go.Proofs.YtlnfbjgadcifkaaDoor
