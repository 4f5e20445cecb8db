/- A framer in memory, and the plain facts that its methods stand on. -/
import Derived.Test.YtgihggaokamonaaFrameM
import Derived.Test.YtgihggaokamonaaObj
namespace Go.Proofs.Ytgihggaokamonaa
open Go Go.RowKit Go.Proofs.BerM Go.Proofs.BerK Go.Proofs.MemK

/-! ### Plain facts -/
theorem rl_six (l : List UInt8) (h : 5 ≤ l.length) : (rl l).2.2 ≠ 4 := by
  unfold rl
  split
  · simp
  · split
    · simp
    · rename_i h1 h2
      rw [if_neg (by omega)]
      split
      · simp
      · split <;> simp
theorem hd_six (l : List UInt8) (h : 6 ≤ l.length) : (hd l).2.2.2 ≠ 4 := by
  unfold hd
  rw [if_neg (by omega)]
  split
  · simp
  · rw [if_neg (by omega)]
    have := rl_six (l.drop 1) (by simp; omega)
    split
    · exact this
    · simp
/-- The first six bytes tell a head. -/
theorem hd_take (l : List UInt8) (k : Nat) (hk : k = min l.length 6) : hd (l.take k) = hd l := by
  by_cases h : l.length ≤ 6
  · rw [List.take_of_length_le (by omega)]
  · have h6 : k = 6 := by omega
    have := hd_app (l.take k) (l.drop k) (hd_six _ (by simp; omega))
    rw [List.take_append_drop] at this
    exact this.symm
theorem hd_le6 (l : List UInt8) : (hd l).2.2.2 ≤ 6 := by
  have hrl : ∀ x, (rl x).2.2 ≤ 6 := by
    intro x
    unfold rl
    repeat' split
    all_goals simp
  unfold hd
  repeat' split
  all_goals (first | simp; done | exact hrl _)

/-- How many bytes the message has with which bytes begin, 0 as long as it can't be said. -/
def fz (most : Nat) (l : List UInt8) : Nat :=
  if l.length = 0 then 0 else
  if l.getD 0 0 ≠ 48 then 0 else
  if (hd l).2.2.2 ≠ 0 then 0 else
  if most < (hd l).2.1 then 0 else (hd l).2.2.1 + (hd l).2.1
theorem fz_le (most : Nat) (l : List UInt8) : fz most l ≤ 65542 := by
  unfold fz
  split
  · omega
  · split
    · omega
    · split
      · omega
      · split
        · omega
        · rename_i h1 h2 h3 h4
          have := hd_bd l (hd l).1 (hd l).2.1 (hd l).2.2.1 (by apply Prod.ext; rfl; apply Prod.ext; rfl; apply Prod.ext; rfl; simpa using h3)
          omega
/-- No message: nothing is told. -/
theorem next_fz_no {most : Nat} {x : FS} (he : x.2 = 0) (ht : tf most x.1 = 0) (h : fz most x.1 = 0 ∨ x.1.length < fz most x.1) : fNext most x = (x, [], false) := by
  apply next_no
  right
  obtain ⟨l, e⟩ := x
  simp only at he ht h ⊢
  intro hr
  have hd0 := hd_of_rd l (rd l).1 (rd l).2.2.1 (rd l).2.1 (by apply Prod.ext; rfl; apply Prod.ext; rfl; apply Prod.ext; rfl; exact hr)
  have hbd := hd_bd l (hd l).1 (hd l).2.1 (hd l).2.2.1 (by apply Prod.ext; rfl; apply Prod.ext; rfl; apply Prod.ext; rfl; exact hd0)
  have hl0 : ¬ l.length = 0 := by omega
  unfold tf at ht
  rw [if_neg hl0] at ht
  by_cases h48 : l.getD 0 0 ≠ 48
  · rw [if_pos h48] at ht; cases ht
  · rw [if_neg h48, if_pos hd0] at ht
    have hmost : ¬ most < (hd l).2.1 := by
      intro hm; rw [if_pos hm] at ht; cases ht
    have hz : fz most l = (hd l).2.2.1 + (hd l).2.1 := by
      unfold fz
      rw [if_neg hl0, if_neg h48, if_neg (by simpa using hd0), if_neg hmost]
    unfold rd at hr
    rw [if_neg (by simpa using hd0)] at hr
    split at hr
    · cases hr
    · omega
/-- A message: its bytes are told, and gone. -/
theorem next_fz_yes {most : Nat} {x : FS} (he : x.2 = 0) (h0 : fz most x.1 ≠ 0) (h1 : ¬ x.1.length < fz most x.1) : fNext most x = ((x.1.drop (fz most x.1), tf most (x.1.drop (fz most x.1))), x.1.take (fz most x.1), true) := by
  obtain ⟨l, e⟩ := x
  simp only at he h0 h1 ⊢
  subst he
  have hfz : fz most l = (hd l).2.2.1 + (hd l).2.1 ∧ (hd l).2.2.2 = 0 := by
    unfold fz at h0 ⊢
    split at h0
    · exact absurd rfl h0
    · rename_i a1
      split at h0
      · exact absurd rfl h0
      · rename_i a2
        split at h0
        · exact absurd rfl h0
        · rename_i a3
          split at h0
          · exact absurd rfl h0
          · rename_i a4
            rw [if_neg a1, if_neg a2, if_neg a3, if_neg a4]
            exact ⟨rfl, by simpa using a3⟩
  have hrd : rd l = ((hd l).1, (l.drop (hd l).2.2.1).take (hd l).2.1, fz most l, 0) := by
    unfold rd
    rw [if_neg (by rw [hfz.2]; simp), if_neg (by rw [hfz.1] at h1; omega), hfz.1]
  exact next_yes hrd

/-! ### A framer in memory -/
/-- The framer at block g: the most, what is left with the error, whose bytes lie in block r from B on. -/
def Fr (w : World) (B g most : Nat) (x : FS) (r : Option Nat) : Prop :=
  ∃ (gone : Nat) (v : Value), w.heap[g]? = some (.cells #[.int .i64 most, .int .i64 x.2, v, .int .i64 gone] 44 (0, 0)) ∧ Mid w B 5 v x.1 ∧ v.ownBlock = r ∧ r ≠ some g ∧ gone ≤ x.1.length ∧ x.1.length ≤ 1000000 ∧ most ≤ 65536 ∧ x.2 ≤ 6
theorem fr_chg {S : Nat → Prop} {w w' : World} {B g most : Nat} {x : FS} {r : Option Nat} (h : Fr w B g most x r) (hc : Chg S w w') (hg : ¬ S g) (hr : ∀ k, r = some k → ¬ S k) : Fr w' B g most x r := by
  obtain ⟨gone, v, ho, hm, rfl, rest⟩ := h
  exact ⟨gone, v, obj_chg ho hc hg, mid_chg hm hc hr, rfl, rest⟩
theorem fr_lt {w : World} {B g most : Nat} {x : FS} {r : Option Nat} (h : Fr w B g most x r) : g < w.heap.size := by
  obtain ⟨gone, v, ho, _⟩ := h
  exact obj_lt ho
theorem fr_block {w : World} {B g most : Nat} {x : FS} {r : Option Nat} (h : Fr w B g most x r) : ∀ k, r = some k → B ≤ k ∧ k < w.heap.size := by
  obtain ⟨gone, v, ho, hm, rfl, _⟩ := h
  exact mid_block hm
theorem fr_ne {w : World} {B g most : Nat} {x : FS} {r : Option Nat} (h : Fr w B g most x r) : r ≠ some g := by
  obtain ⟨gone, v, ho, hm, _, h, _⟩ := h
  exact h
theorem fr_len {w : World} {B g most : Nat} {x : FS} {r : Option Nat} (h : Fr w B g most x r) : x.1.length ≤ 1000000 := by
  obtain ⟨gone, v, ho, hm, _, _, _, h, _⟩ := h
  exact h
theorem tf_le (most : Nat) (l : List UInt8) : tf most l ≤ 6 := by
  have := hd_le6 l
  unfold tf
  repeat' split
  all_goals (first | omega | simp)
end Go.Proofs.Ytgihggaokamonaa
