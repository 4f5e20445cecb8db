/- Plain facts on tags and lengths as bytes. -/
import Derived.WalkKit
namespace Go.Proofs.BerM

/-- A number's bytes, the highest first, none of nought. -/
def beF (n : Nat) : List UInt8 := if n = 0 then [] else beF (n / 256) ++ [UInt8.ofNat n]
termination_by n
decreasing_by omega

theorem beF_zero : beF 0 = [] := by rw [beF]; simp
theorem beF_pos (n : Nat) (h : 0 < n) : beF n = beF (n / 256) ++ [UInt8.ofNat n] := by
  rw [beF]; simp [show n ≠ 0 by omega]

theorem beF_len_le (k n : Nat) (h : n < 256 ^ k) : (beF n).length ≤ k := by
  induction k generalizing n with
  | zero => have : n = 0 := by simpa using h
            subst this; simp [beF_zero]
  | succ k ih =>
    by_cases hn : n = 0
    · subst hn; simp [beF_zero]
    · rw [beF_pos n (by omega)]
      have := ih (n / 256) (by rw [Nat.pow_succ] at h; omega)
      simp; omega

theorem beF_len_ge (k n : Nat) (h : 256 ^ k ≤ n) : k + 1 ≤ (beF n).length := by
  induction k generalizing n with
  | zero => rw [beF_pos n (by simp at h; omega)]; simp
  | succ k ih =>
    rw [Nat.pow_succ] at h
    have hp : 0 < 256 ^ k := Nat.pow_pos (by omega)
    rw [beF_pos n (by omega)]
    have := ih (n / 256) (by omega)
    simp; omega

/-- A length's bytes. -/
def lenB (n : Nat) : List UInt8 := if n < 128 then [UInt8.ofNat n] else UInt8.ofNat (128 + (beF n).length) :: beF n

/-- How many bytes stand behind a length's first. -/
def moreN (n : Nat) : Nat := if n < 128 then 0 else (beF n).length

def tagB (t : Int) : Bool := decide (0 ≤ t) && decide (t ≤ 254) && decide (t % 32 ≠ 31)

/-- The number of bytes, the highest first. -/
def natOf (l : List UInt8) : Nat := l.foldl (fun n b => 256 * n + b.toNat) 0

theorem natOf_snoc (l : List UInt8) (b : UInt8) : natOf (l ++ [b]) = 256 * natOf l + b.toNat := by simp [natOf]
theorem natOf_ge (l : List UInt8) : ∀ a : Nat, l.foldl (fun n b => 256 * n + b.toNat) a < 256 ^ l.length * (a + 1) := by
  induction l with
  | nil => intro a; simp
  | cons b l ih =>
    intro a
    have h1 := ih (256 * a + b.toNat)
    have hb := b.toNat_lt
    simp only [List.foldl_cons, List.length_cons]
    refine Nat.lt_of_lt_of_le h1 ?_
    rw [Nat.pow_succ, Nat.mul_assoc]
    exact Nat.mul_le_mul_left _ (by omega)
theorem natOf_lt (l : List UInt8) : natOf l < 256 ^ l.length := by have := natOf_ge l 0; simpa [natOf] using this
theorem natOf_beF (n : Nat) : natOf (beF n) = n := by
  induction n using Nat.strongRecOn with
  | _ n ih =>
    by_cases hn : n = 0
    · subst hn; simp [beF_zero, natOf]
    · rw [beF_pos n (by omega), natOf_snoc, ih (n / 256) (by omega)]
      simp; omega

theorem beF_at (n : Nat) : ∀ i, i < (beF n).length → (beF n)[(beF n).length - 1 - i]? = some (UInt8.ofNat (n / 256 ^ i)) := by
  induction n using Nat.strongRecOn with
  | _ n ih =>
    intro i hi
    by_cases hn : n = 0
    · subst hn; simp [beF_zero] at hi
    · have e := beF_pos n (by omega)
      have el : (beF n).length = (beF (n / 256)).length + 1 := by rw [e]; simp
      cases i with
      | zero => rw [e]; simp
      | succ i =>
        have := ih (n / 256) (by omega) i (by omega)
        rw [el, e, List.getElem?_append_left (by omega), show (beF (n / 256)).length + 1 - 1 - (i + 1) = (beF (n / 256)).length - 1 - i by omega, this, Nat.pow_succ, Nat.mul_comm, Nat.div_div_eq_div_mul]

/-- One byte more of a number, j bytes still to come. -/
theorem beF_step (n j : Nat) (h0 : 0 < j) (h : j ≤ (beF n).length) :
    (beF n).take ((beF n).length - j) ++ [UInt8.ofNat (n / 256 ^ (j - 1))] = (beF n).take ((beF n).length - (j - 1)) := by
  have h1 := beF_at n (j - 1) (by omega)
  rw [show (beF n).length - 1 - (j - 1) = (beF n).length - j by omega] at h1
  rw [show (beF n).length - (j - 1) = ((beF n).length - j) + 1 by omega, List.take_add_one, h1]
  rfl

theorem snoc_of (l : List UInt8) (k : Nat) (h : l.length = k + 1) : ∃ a b, l = a ++ [b] ∧ a.length = k :=
  have hn : l ≠ [] := by intro e; subst e; simp at h
  ⟨l.dropLast, l.getLast hn, (List.dropLast_concat_getLast hn).symm, by simp [h]⟩

theorem natOf_inj : ∀ (a b : List UInt8), a.length = b.length → natOf a = natOf b → a = b := by
  have key : ∀ (k : Nat) (a b : List UInt8), a.length = k → b.length = k → natOf a = natOf b → a = b := by
    intro k
    induction k with
    | zero => intro a b ha hb _; rw [List.eq_nil_of_length_eq_zero ha, List.eq_nil_of_length_eq_zero hb]
    | succ k ih =>
      intro a b ha hb h
      obtain ⟨a, x, rfl, ha1⟩ := snoc_of a k ha
      obtain ⟨b, y, rfl, hb1⟩ := snoc_of b k hb
      rw [natOf_snoc, natOf_snoc] at h
      have hx := x.toNat_lt
      have hy := y.toNat_lt
      rw [ih a b ha1 hb1 (by omega), show x = y from UInt8.toNat_inj.1 (by omega)]
  exact fun a b h => key a.length a b rfl h.symm
end Go.Proofs.BerM
