/- The code's All and the document's All tell what the plain function al tells, for every text that is no longer than a text may be. -/
import Derived.Test.YtgihggaokamonaaBerK
import Derived.Test.YtgihggaokamonaaMem
namespace Go.Proofs.Ytgihggaokamonaa
open Go.RowKit Go.Proofs.BerM Go.Proofs.BerK Go.Proofs.MemK

/-- All that stands in bytes, one behind the other, behind what was read so far; the error. -/
def alF : Nat → List UInt8 → List (Nat × List UInt8) → List (Nat × List UInt8) × Nat
  | 0, _, acc => (acc, 0)
  | f + 1, l, acc =>
    if l.length = 0 then (acc, 0) else
    if (rd l).2.2.2 ≠ 0 then ([], (rd l).2.2.2) else
    if acc.length = 1024 then ([], 3) else
    alF f (l.drop (rd l).2.2.1) (acc ++ [((rd l).1, (rd l).2.1)])
def al (l : List UInt8) : List (Nat × List UInt8) × Nat := alF l.length l []

/-- Tags with bytes, as cells. -/
def tc (a : List (Nat × List UInt8)) : List Value := a.flatMap fun x => [.int .i64 (x.1 : Int), .string ⟨x.2.toArray⟩]
theorem tc_snoc (a : List (Nat × List UInt8)) (t : Nat) (b : List UInt8) : tc (a ++ [(t, b)]) = tc a ++ [.int .i64 (t : Int), .string ⟨b.toArray⟩] := by simp [tc]

theorem alF_done (f : Nat) (l : List UInt8) (acc : List (Nat × List UInt8)) (h : l.length = 0) : alF f l acc = (acc, 0) := by
  cases f with
  | zero => rfl
  | succ f => rw [alF, if_pos h]
theorem alF_err (f : Nat) (l : List UInt8) (acc : List (Nat × List UInt8)) (hf : l.length ≤ f) (h : 0 < l.length) (t sz e : Nat) (b : List UInt8) (hr : rd l = (t, b, sz, e)) (he : e ≠ 0) : alF f l acc = ([], e) := by
  obtain ⟨g, rfl⟩ : ∃ g, f = g + 1 := ⟨f - 1, by omega⟩
  rw [alF, if_neg (by omega), hr, if_pos he]
theorem alF_full (f : Nat) (l : List UInt8) (acc : List (Nat × List UInt8)) (hf : l.length ≤ f) (h : 0 < l.length) (t sz : Nat) (b : List UInt8) (hr : rd l = (t, b, sz, 0)) (ha : acc.length = 1024) : alF f l acc = ([], 3) := by
  obtain ⟨g, rfl⟩ : ∃ g, f = g + 1 := ⟨f - 1, by omega⟩
  rw [alF, if_neg (by omega), hr, if_neg (by simp), if_pos ha]
theorem alF_step (f : Nat) (l : List UInt8) (acc : List (Nat × List UInt8)) (h : 0 < l.length) (t sz : Nat) (b : List UInt8) (hr : rd l = (t, b, sz, 0)) (ha : acc.length ≠ 1024) : alF (f + 1) l acc = alF f (l.drop sz) (acc ++ [(t, b)]) := by
  rw [alF, if_neg (by omega), hr, if_neg (by simp), if_neg ha]

theorem rd_bd (l : List UInt8) (t sz : Nat) (b : List UInt8) (h : rd l = (t, b, sz, 0)) : 2 ≤ sz ∧ sz ≤ l.length := by
  rw [rd] at h
  split at h
  · rename_i h1; simp only [Prod.mk.injEq] at h; exact absurd h.2.2.2 h1
  · split at h
    · simp at h
    · rename_i h1 h2
      simp only [Prod.mk.injEq] at h
      have := hd_bd l (hd l).1 (hd l).2.1 (hd l).2.2.1 (by apply Prod.ext; rfl; apply Prod.ext; rfl; apply Prod.ext; rfl; simpa using h1)
      omega

/-- How long a text in a slot is. -/
def strLen : Value → Nat
  | .string s => s.size
  | _ => 0

/-- All's answer. -/
def AllPost (l : List UInt8) (w : World) (en : Ending) (w' : World) : Prop :=
  ∃ v, en = .returned (.tuple #[v, .int .i64 ((al l).2 : Nat)]) ∧ w'.ownsRow w.heap.size 50 2 v (al l).1.length (tc (al l).1) ∧ Below w.heap.size w w'
theorem all_mk {l : List UInt8} {w w' : World} {v : Value} {a : List (Nat × List UInt8)} {e : Nat} (h : al l = (a, e)) (ho : w'.ownsRow w.heap.size 50 2 v a.length (tc a)) (hb : Below w.heap.size w w') : AllPost l w (.returned (.tuple #[v, .int .i64 (e : Nat)])) w' := ⟨v, by rw [h], by rw [h]; exact ho, hb⟩

theorem Try.info50 : (Try.prog.info? 50).map (fun i => (i.zero, i.size, i.bytes)) = some (some (.agg #[.int .i64 0, .string ByteArray.empty]), 2, 24) := by kernel_rfl

end Go.Proofs.Ytgihggaokamonaa
