/- Plain facts on numbers as bytes, the highest first, in two's complement. -/
import Derived.WalkKit
namespace Go.Proofs.NumM
open Go Go.RowKit

/-- The byte of a number that stands i bytes above its lowest. -/
def byteAt (n : Int) (i : Nat) : UInt8 := UInt8.ofNat (n / 2 ^ (8 * i) % 256).toNat
/-- How few bytes a number has. -/
def szN (n : Int) : Nat := if -128 ≤ n ∧ n < 128 then 1 else if -32768 ≤ n ∧ n < 32768 then 2 else if -8388608 ≤ n ∧ n < 8388608 then 3 else 4
/-- So many bytes of a number, the highest first. -/
def nbL (n : Int) (K : Nat) : List UInt8 := (List.range K).map fun i => byteAt n (K - 1 - i)
def okN (n : Int) : Bool := decide (-2147483648 ≤ n) && decide (n ≤ 2147483647)
/-- What Put tells: bytes, the error. -/
def npL (n : Int) : List UInt8 := if okN n = true then nbL n (szN n) else []
def npE (n : Int) : Int := if okN n = true then 0 else 2

theorem nbL_len (n : Int) (K : Nat) : (nbL n K).length = K := by simp [nbL]
theorem nbL_at (n : Int) (K i : Nat) (h : i < K) : (nbL n K)[i]? = some (byteAt n (K - 1 - i)) := by
  simp [nbL, h]
theorem byte_nat (n : Int) (i : Nat) : ((byteAt n i).toNat : Int) = n / 2 ^ (8 * i) % 256 := by
  have h1 : 0 ≤ n / 2 ^ (8 * i) % 256 := Int.emod_nonneg _ (by omega)
  have h2 : n / 2 ^ (8 * i) % 256 < 256 := Int.emod_lt_of_pos _ (by omega)
  rw [byteAt, UInt8.toNat_ofNat']
  omega
theorem szN_bd (n : Int) : 1 ≤ szN n ∧ szN n ≤ 4 := by unfold szN; split <;> (try split) <;> (try split) <;> omega

/-- Is the first byte more than the second one's first bit says? -/
def short (l : List UInt8) : Bool := if l.length = 1 then true else if 128 ≤ (l.getD 1 0).toNat then decide ((l.getD 0 0).toNat ≠ 255) else decide ((l.getD 0 0).toNat ≠ 0)
/-- The number that bytes are. -/
def svF (a : Int) (l : List UInt8) : Int := l.foldl (fun n b => n * 256 + b.toNat) a
def sgn (l : List UInt8) : Int := if 128 ≤ (l.getD 0 0).toNat then -1 else 0
def sv (l : List UInt8) : Int := svF (sgn l) l
/-- What Read tells: a number, the error. -/
def nr (l : List UInt8) : Int × Nat := if l.length = 0 then (0, 4) else if short l = false then (0, 5) else if 4 < l.length then (0, 3) else (sv l, 0)

theorem svF_snoc (a : Int) (l : List UInt8) (b : UInt8) : svF a (l ++ [b]) = svF a l * 256 + b.toNat := by simp [svF]
theorem svF_bd (l : List UInt8) : ∀ a : Int, a = -1 ∨ a = 0 → -(256 ^ l.length : Int) ≤ svF a l ∧ svF a l < 256 ^ l.length := by
  have key : ∀ (k : Nat) (l : List UInt8), l.length = k → ∀ a : Int, a = -1 ∨ a = 0 → -(256 ^ k : Int) ≤ svF a l ∧ svF a l < 256 ^ k := by
    intro k
    induction k with
    | zero => intro l h a ha; rw [List.eq_nil_of_length_eq_zero h]; simp [svF]; omega
    | succ k ih =>
      intro l h a ha
      have hn : l ≠ [] := by intro e; subst e; simp at h
      have e := (List.dropLast_concat_getLast hn).symm
      rw [e, svF_snoc]
      have hb := (l.getLast hn).toNat_lt
      have := ih l.dropLast (by simp [h]) a ha
      rw [Int.pow_succ]
      omega
  exact fun a ha => key l.length l rfl a ha
theorem sgn_or (l : List UInt8) : sgn l = -1 ∨ sgn l = 0 := by unfold sgn; split <;> simp

theorem or_byte (n : Int) (b : UInt8) (h0 : -2147483648 ≤ n) (h1 : n ≤ 2147483647) : bits .or .i64 (n * 256) (b.toNat : Int) = n * 256 + b.toNat := by
  have hb := b.toNat_lt
  obtain ⟨m, hm⟩ : ∃ m : Nat, (m : Int) = n % 72057594037927936 := ⟨(n % 72057594037927936).toNat, by omega⟩
  have e1 : (BitVec.ofInt 64 (n * 256)).toNat = 256 * m := by
    rw [BitVec.toNat_ofInt]; omega
  have e2 : (BitVec.ofInt 64 (b.toNat : Int)).toNat = b.toNat := by
    rw [BitVec.toNat_ofInt]; omega
  have e3 : 256 * m ||| b.toNat = 256 * m + b.toNat := by
    have := Nat.shiftLeft_add_eq_or_of_lt (i := 8) (b := b.toNat) (by omega) m
    rw [Nat.shiftLeft_eq] at this
    rw [Nat.mul_comm 256 m]
    exact this.symm
  have e4 : bits .or .i64 (n * 256) (b.toNat : Int) = IntKind.i64.wrap (((256 * m + b.toNat : Nat)) : Int) := by
    show IntKind.i64.wrap (((BitVec.ofInt 64 (n * 256) ||| BitVec.ofInt 64 (b.toNat : Int)).toNat : Nat) : Int) = _
    rw [BitVec.toNat_or, e1, e2, e3]
  rw [e4, IntKind.wrap_i64]
  omega
end Go.Proofs.NumM
