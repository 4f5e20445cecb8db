/- Plain facts: a number comes back from its bytes, bytes come back from their number, and a number further from nought has no fewer bytes. -/
import Derived.Test.YtlnfbjgadcifkaaDoorNumM
namespace Go.Proofs.NumM
open Go Go.RowKit

theorem nb1 (n : Int) : nbL n 1 = [byteAt n 0] := rfl
theorem nb2 (n : Int) : nbL n 2 = [byteAt n 1, byteAt n 0] := rfl
theorem nb3 (n : Int) : nbL n 3 = [byteAt n 2, byteAt n 1, byteAt n 0] := rfl
theorem nb4 (n : Int) : nbL n 4 = [byteAt n 3, byteAt n 2, byteAt n 1, byteAt n 0] := rfl
theorem b0 (n : Int) : ((byteAt n 0).toNat : Int) = n % 256 := by rw [byte_nat]; simp
theorem b1 (n : Int) : ((byteAt n 1).toNat : Int) = n / 256 % 256 := by rw [byte_nat]; rfl
theorem b2 (n : Int) : ((byteAt n 2).toNat : Int) = n / 65536 % 256 := by rw [byte_nat]; rfl
theorem b3 (n : Int) : ((byteAt n 3).toNat : Int) = n / 16777216 % 256 := by rw [byte_nat]; rfl

/-- A number comes back from its bytes. -/
theorem nr_put (n : Int) (h0 : -2147483648 ≤ n) (h1 : n ≤ 2147483647) : nr (npL n) = (n, 0) := by
  have hk : okN n = true := by simp [okN]; omega
  have e : npL n = nbL n (szN n) := by simp [npL, hk]
  rw [e]
  have e0 := b0 n
  have e1 := b1 n
  have e2 := b2 n
  have e3 := b3 n
  obtain ⟨K, hK⟩ : ∃ K, szN n = K := ⟨_, rfl⟩
  have hb := szN_bd n
  have hc : K = 1 ∨ K = 2 ∨ K = 3 ∨ K = 4 := by omega
  rw [hK]
  unfold szN at hK
  rcases hc with rfl | rfl | rfl | rfl
  · have hn : -128 ≤ n ∧ n < 128 := by
      repeat' split at hK
      all_goals omega
    rw [nb1]
    generalize (byteAt n 0) = x0 at *
    have hs : short [x0] = true := by simp [short]
    simp only [nr, hs, sv, svF, sgn, List.length_cons, List.length_nil, List.foldl_cons, List.foldl_nil, List.getD_cons_zero]
    rw [if_neg (by omega), if_neg (by simp), if_neg (by omega)]
    split
    · congr 1; omega
    · congr 1; omega
  · have hn : -32768 ≤ n ∧ n < 32768 ∧ (n < -128 ∨ 128 ≤ n) := by
      repeat' split at hK
      all_goals omega
    rw [nb2]
    simp only [nr, short, sv, svF, sgn, List.length_cons, List.length_nil, List.foldl_cons, List.foldl_nil, List.getD_cons_zero, List.getD_cons_succ]
    generalize (byteAt n 0) = x0 at *
    generalize (byteAt n 1) = x1 at *
    have hs : (if 0 + 1 + 1 = 1 then true else if 128 ≤ x0.toNat then decide (x1.toNat ≠ 255) else decide (x1.toNat ≠ 0)) = true := by
      rw [if_neg (by omega)]
      split
      · simp; omega
      · simp; omega
    rw [if_neg (by omega), hs, if_neg (by simp), if_neg (by omega)]
    split
    · congr 1; omega
    · congr 1; omega
  · have hn : -8388608 ≤ n ∧ n < 8388608 ∧ (n < -32768 ∨ 32768 ≤ n) := by
      repeat' split at hK
      all_goals omega
    rw [nb3]
    simp only [nr, short, sv, svF, sgn, List.length_cons, List.length_nil, List.foldl_cons, List.foldl_nil, List.getD_cons_zero, List.getD_cons_succ]
    generalize (byteAt n 0) = x0 at *
    generalize (byteAt n 1) = x1 at *
    generalize (byteAt n 2) = x2 at *
    have hs : (if 0 + 1 + 1 + 1 = 1 then true else if 128 ≤ x1.toNat then decide (x2.toNat ≠ 255) else decide (x2.toNat ≠ 0)) = true := by
      rw [if_neg (by omega)]
      split
      · simp; omega
      · simp; omega
    rw [if_neg (by omega), hs, if_neg (by simp), if_neg (by omega)]
    split
    · congr 1; omega
    · congr 1; omega
  · have hn : (n < -8388608 ∨ 8388608 ≤ n) := by
      repeat' split at hK
      all_goals omega
    rw [nb4]
    simp only [nr, short, sv, svF, sgn, List.length_cons, List.length_nil, List.foldl_cons, List.foldl_nil, List.getD_cons_zero, List.getD_cons_succ]
    generalize (byteAt n 0) = x0 at *
    generalize (byteAt n 1) = x1 at *
    generalize (byteAt n 2) = x2 at *
    generalize (byteAt n 3) = x3 at *
    have hs : (if 0 + 1 + 1 + 1 + 1 = 1 then true else if 128 ≤ x2.toNat then decide (x3.toNat ≠ 255) else decide (x3.toNat ≠ 0)) = true := by
      rw [if_neg (by omega)]
      split
      · simp; omega
      · simp; omega
    rw [if_neg (by omega), hs, if_neg (by simp), if_neg (by omega)]
    split
    · congr 1; omega
    · congr 1; omega

theorem byte_is (n : Int) (i : Nat) (x : UInt8) (h : n / 2 ^ (8 * i) % 256 = x.toNat) : byteAt n i = x := by
  apply UInt8.toNat_inj.1
  have := byte_nat n i
  omega

/-- Bytes come back from their number. -/
theorem put_nr (l : List UInt8) (k : Int) (h : nr l = (k, 0)) : npL k = l ∧ npE k = 0 ∧ -2147483648 ≤ k ∧ k ≤ 2147483647 := by
  have key : -2147483648 ≤ k ∧ k ≤ 2147483647 ∧ nbL k (szN k) = l := by
    rw [nr] at h
    split at h
    · simp at h
    · split at h
      · simp at h
      · split at h
        · simp at h
        · rename_i h0 hs h4
          simp only [Prod.mk.injEq, and_true] at h
          have hs : short l = true := by simpa using hs
          match l, h0, hs, h4, h with
          | [a], _, _, _, h =>
            have ha := a.toNat_lt
            simp only [sv, svF, sgn, List.foldl_cons, List.foldl_nil, List.getD_cons_zero] at h
            have hk : k = a.toNat ∧ a.toNat < 128 ∨ k = (a.toNat : Int) - 256 ∧ 128 ≤ a.toNat := by split at h <;> omega
            have hz : szN k = 1 := by unfold szN; rw [if_pos (by omega)]
            refine ⟨by omega, by omega, ?_⟩
            rw [hz, nb1, byte_is k 0 a (by simp; omega)]
          | [a, b], _, hs, _, h =>
            have ha := a.toNat_lt
            have hb := b.toNat_lt
            simp only [sv, svF, sgn, List.foldl_cons, List.foldl_nil, List.getD_cons_zero] at h
            simp only [short, List.length_cons, List.length_nil, List.getD_cons_zero, List.getD_cons_succ] at hs
            rw [if_neg (by omega)] at hs
            have hs' : 128 ≤ b.toNat ∧ a.toNat ≠ 255 ∨ b.toNat < 128 ∧ a.toNat ≠ 0 := by split at hs <;> simp at hs <;> omega
            have hk : k = (a.toNat : Int) * 256 + b.toNat ∧ a.toNat < 128 ∨ k = (a.toNat : Int) * 256 + b.toNat - 65536 ∧ 128 ≤ a.toNat := by split at h <;> omega
            have hz : szN k = 2 := by unfold szN; rw [if_neg (by omega), if_pos (by omega)]
            refine ⟨by omega, by omega, ?_⟩
            rw [hz, nb2, byte_is k 0 b (by simp; omega), byte_is k 1 a (by simp; omega)]
          | [a, b, c], _, hs, _, h =>
            have ha := a.toNat_lt
            have hb := b.toNat_lt
            have hc := c.toNat_lt
            simp only [sv, svF, sgn, List.foldl_cons, List.foldl_nil, List.getD_cons_zero] at h
            simp only [short, List.length_cons, List.length_nil, List.getD_cons_zero, List.getD_cons_succ] at hs
            rw [if_neg (by omega)] at hs
            have hs' : 128 ≤ b.toNat ∧ a.toNat ≠ 255 ∨ b.toNat < 128 ∧ a.toNat ≠ 0 := by split at hs <;> simp at hs <;> omega
            have hk : k = ((a.toNat : Int) * 256 + b.toNat) * 256 + c.toNat ∧ a.toNat < 128 ∨ k = ((a.toNat : Int) * 256 + b.toNat) * 256 + c.toNat - 16777216 ∧ 128 ≤ a.toNat := by split at h <;> omega
            have hz : szN k = 3 := by unfold szN; rw [if_neg (by omega), if_neg (by omega), if_pos (by omega)]
            refine ⟨by omega, by omega, ?_⟩
            rw [hz, nb3, byte_is k 0 c (by simp; omega), byte_is k 1 b (by simp; omega), byte_is k 2 a (by simp; omega)]
          | [a, b, c, d], _, hs, _, h =>
            have ha := a.toNat_lt
            have hb := b.toNat_lt
            have hc := c.toNat_lt
            have hd := d.toNat_lt
            simp only [sv, svF, sgn, List.foldl_cons, List.foldl_nil, List.getD_cons_zero] at h
            simp only [short, List.length_cons, List.length_nil, List.getD_cons_zero, List.getD_cons_succ] at hs
            rw [if_neg (by omega)] at hs
            have hs' : 128 ≤ b.toNat ∧ a.toNat ≠ 255 ∨ b.toNat < 128 ∧ a.toNat ≠ 0 := by split at hs <;> simp at hs <;> omega
            have hk : k = (((a.toNat : Int) * 256 + b.toNat) * 256 + c.toNat) * 256 + d.toNat ∧ a.toNat < 128 ∨ k = (((a.toNat : Int) * 256 + b.toNat) * 256 + c.toNat) * 256 + d.toNat - 4294967296 ∧ 128 ≤ a.toNat := by split at h <;> omega
            have hz : szN k = 4 := by unfold szN; rw [if_neg (by omega), if_neg (by omega), if_neg (by omega)]
            refine ⟨by omega, by omega, ?_⟩
            rw [hz, nb4, byte_is k 0 d (by simp; omega), byte_is k 1 c (by simp; omega), byte_is k 2 b (by simp; omega), byte_is k 3 a (by simp; omega)]
          | [], h0, _, _, _ => simp at h0
          | a :: b :: c :: d :: e :: l, _, _, h4, _ => simp at h4
  obtain ⟨k0, k1, k2⟩ := key
  have hk : okN k = true := by simp [okN]; omega
  exact ⟨by simp [npL, hk, k2], by simp [npE, hk], k0, k1⟩

theorem szN_mono (a b : Int) (h : 0 ≤ a ∧ a ≤ b ∨ a < 0 ∧ b ≤ a) : szN a ≤ szN b := by
  unfold szN
  repeat' split
  all_goals omega
theorem npL_len (n : Int) (h0 : -2147483648 ≤ n) (h1 : n ≤ 2147483647) : (npL n).length = szN n ∧ npE n = 0 := by
  have hk : okN n = true := by simp [okN]; omega
  simp [npL, npE, hk, nbL_len]
theorem npL_inj (a b : Int) (h0 : -2147483648 ≤ a) (h1 : a ≤ 2147483647) (h2 : -2147483648 ≤ b) (h3 : b ≤ 2147483647) (h : npL a = npL b) : a = b := by
  have ha := nr_put a h0 h1
  rw [h, nr_put b h2 h3] at ha
  simpa using ha.symm
theorem npE_bd (n : Int) : 0 ≤ npE n ∧ npE n ≤ 2 := by unfold npE; split <;> omega
theorem nr_bd (l : List UInt8) : (nr l).2 ≤ 5 ∧ -4294967296 ≤ (nr l).1 ∧ (nr l).1 ≤ 4294967296 := by
  have : (nr l).2 = 0 → -4294967296 ≤ (nr l).1 ∧ (nr l).1 ≤ 4294967296 := fun h => by
    have := put_nr l (nr l).1 (by rw [← h])
    omega
  unfold nr at *
  repeat' split
  all_goals simp_all
end Go.Proofs.NumM
