/- The code's Put hands back the fewest bytes of a number, the highest first, or the error, for every number. -/
import Derived.Test.YtlnfbjgadcifkaaDoorProg
import Derived.WalkKit
import Derived.WalkMore
import Derived.ScopeJumps
import Derived.Lib.Hide
import Derived.Test.YtlnfbjgadcifkaaDoorNumM
import Derived.Test.YtlnfbjgadcifkaaDoorKit
namespace Go.Proofs.YtlnfbjgadcifkaaDoor
open Go.RowKit Go.Proofs.NumM Go.Proofs.BerK

/-- How few bytes a number has, as far as k of the three tests tell. -/
def szk (n : Int) : Nat → Nat
  | 0 => 1
  | k + 1 => if n / 2 ^ (8 * k + 7) = 0 ∨ n / 2 ^ (8 * k + 7) = -1 then szk n k else k + 2
theorem szk1 (n : Int) : szk n 1 = if n / 128 = 0 ∨ n / 128 = -1 then 1 else 2 := by simp [szk]
theorem szk2 (n : Int) : szk n 2 = if n / 32768 = 0 ∨ n / 32768 = -1 then szk n 1 else 3 := by rw [szk]; simp
theorem szk3 (n : Int) : szk n 3 = if n / 8388608 = 0 ∨ n / 8388608 = -1 then szk n 2 else 4 := by rw [szk]; simp
theorem szk_3 (n : Int) : szk n 3 = szN n := by
  rw [szk3, szk2, szk1, szN]
  repeat' split
  all_goals omega
theorem ret_nat {a b : Nat} (h : a = b) : Ending.returned (.int .i64 (a : Int)) = .returned (.int .i64 (b : Int)) := by rw [h]
theorem val_nat {a b : Nat} (h : a = b) : Value.int .i64 (a : Int) = .int .i64 (b : Int) := by rw [h]

set_option maxHeartbeats 400000 in
set_option maxRecDepth 100000 in
theorem size_any (n : Int) (w : World) :
    Calls Tryd.prog 55 #[.int .i64 n] w fun e w' => e = .returned (.int .i64 (szN n)) ∧ w = w' := by
  go_enter Tryd.func55, Tryd.ntmps55
  go_wp2
  go_loop [3, 6] (fun t i => ∃ k : Nat, k ≤ 3 ∧ i = .int .i64 k ∧ t = .int .i64 (szk n k)) (fun _ i => 3 - (intOf i).toNat)
  case atStart => exact ⟨0, by omega, rfl, rfl⟩
  case round =>
    obtain ⟨k, hk, rfl, rfl⟩ := hrel
    have hc : k = 3 ∨ k = 2 ∨ k = 1 ∨ k = 0 := by omega
    rcases hc with rfl | rfl | rfl | rfl
    · go_wp2
      go_ret
      exact ⟨ret_nat (szk_3 n), rfl⟩
    · have hs := szk3 n
      by_cases q : n / 8388608 = 0 ∨ n / 8388608 = -1
      · rw [if_pos q] at hs
        have HS := Lib.hid hs
        clear hs
        rcases q with q | q
        all_goals
          go_wp2
          exact ⟨⟨3, by omega, rfl, val_nat HS.out.symm⟩, by simp [intOf]⟩
      · rw [if_neg q] at hs
        have HS := Lib.hid hs
        clear hs
        have q1 : (n / 8388608 != 0) = true := by simp; omega
        have q2 : (n / 8388608 != -1) = true := by simp; omega
        clear q
        go_wp2
        exact ⟨⟨3, by omega, rfl, val_nat HS.out.symm⟩, by simp [intOf]⟩
    · have hs := szk2 n
      by_cases q : n / 32768 = 0 ∨ n / 32768 = -1
      · rw [if_pos q] at hs
        have HS := Lib.hid hs
        clear hs
        rcases q with q | q
        all_goals
          go_wp2
          exact ⟨⟨2, by omega, rfl, val_nat HS.out.symm⟩, by simp [intOf]⟩
      · rw [if_neg q] at hs
        have HS := Lib.hid hs
        clear hs
        have q1 : (n / 32768 != 0) = true := by simp; omega
        have q2 : (n / 32768 != -1) = true := by simp; omega
        clear q
        go_wp2
        exact ⟨⟨2, by omega, rfl, val_nat HS.out.symm⟩, by simp [intOf]⟩
    · have hs := szk1 n
      by_cases q : n / 128 = 0 ∨ n / 128 = -1
      · rw [if_pos q] at hs
        have HS := Lib.hid hs
        clear hs
        rcases q with q | q
        all_goals
          go_wp2
          exact ⟨⟨1, by omega, rfl, val_nat HS.out.symm⟩, by simp [intOf]⟩
      · rw [if_neg q] at hs
        have HS := Lib.hid hs
        clear hs
        have q1 : (n / 128 != 0) = true := by simp; omega
        have q2 : (n / 128 != -1) = true := by simp; omega
        clear q
        go_wp2
        exact ⟨⟨1, by omega, rfl, val_nat HS.out.symm⟩, by simp [intOf]⟩

theorem Tryd.info5 : (Tryd.prog.info? 5).map (fun i => (i.zero, i.size, i.bytes)) = some (some (.int .u8 0), 1, 1) := by kernel_rfl

/-- What stands in the row while K - k bytes are still to come. -/
def preN (n : Int) (K k : Nat) : List UInt8 := (nbL n K).take k ++ List.replicate (K - k) 0
theorem preN_len (n : Int) (K k : Nat) (h : k ≤ K) : (preN n K k).length = K := by simp [preN, nbL_len]; omega
theorem preN_0 (n : Int) (K : Nat) : bc (preN n K 0) = (madeCells #[Value.int .u8 0] K).toList := by
  rw [toList_madeCells_one]
  simp [preN, bc]
theorem preN_K (n : Int) (K : Nat) : preN n K K = nbL n K := by
  simp [preN]
  exact List.take_of_length_le (by rw [nbL_len]; omega)
theorem preN_set (n : Int) (K k : Nat) (h : k < K) : (bc (preN n K k)).set k (.int .u8 (n / 2 ^ (8 * (K - 1 - k)) % 256)) = bc (preN n K (k + 1)) := by
  rw [← byte_nat]
  have e : Value.int .u8 ((byteAt n (K - 1 - k)).toNat : Int) = (fun b : UInt8 => Value.int .u8 b.toNat) (byteAt n (K - 1 - k)) := rfl
  rw [e, bc, bc, ← List.map_set]
  congr 1
  have h1 : ((nbL n K).take k).length = k := by simp [nbL_len]; omega
  rw [preN, preN, List.set_append_right _ _ (by omega), h1, Nat.sub_self, List.take_add_one, nbL_at n K k h, List.append_assoc]
  congr 1
  rw [show K - k = (K - (k + 1)) + 1 by omega, List.replicate_succ]
  rfl
theorem preN_at (n : Int) (K k : Nat) (h : k < K) : (bc (preN n K k))[k]? = some (.int .u8 0) := by
  have h1 : ((nbL n K).take k).length = k := by simp [nbL_len]; omega
  rw [bc, List.getElem?_map, preN, List.getElem?_append_right (by omega), h1, Nat.sub_self, List.getElem?_replicate, if_pos (by omega)]
  rfl
/-- Put's answer. -/
def npV (n : Int) : Value := .tuple #[.string ⟨(npL n).toArray⟩, .int .i64 (npE n)]
theorem ret_np {n : Int} {a : List UInt8} {b : Int} (h1 : npL n = a) (h2 : npE n = b) : Ending.returned (.tuple #[.string ⟨a.toArray⟩, .int .i64 b]) = .returned (npV n) := by rw [npV, h1, h2]

set_option maxHeartbeats 400000 in
set_option maxRecDepth 100000 in
theorem nput_off (n : Int) (w : World) (h : n < -2147483648 ∨ 2147483647 < n) :
    Calls Tryd.prog 39 #[.int .i64 n] w fun e w' => e = .returned (npV n) ∧ Below w.heap.size w w' := by
  have hk : okN n = false := by simp [okN]; omega
  have HE := Lib.hid (And.intro (show npL n = [] by simp [npL, hk]) (show npE n = 2 by simp [npE, hk]))
  clear hk
  rcases h with h | h
  all_goals
    go_enter Tryd.func39, Tryd.ntmps39
    go_wp2
    go_ret2
    exact ⟨ret_np (a := []) HE.out.1 HE.out.2, Below.refl _ _⟩

set_option maxHeartbeats 800000 in
set_option maxRecDepth 100000 in
theorem nput_on (n : Int) (w : World) (h0 : -2147483648 ≤ n) (h1 : n ≤ 2147483647) :
    Calls Tryd.prog 39 #[.int .i64 n] w fun e w' => e = .returned (npV n) ∧ Below w.heap.size w w' := by
  have hk : okN n = true := by simp [okN]; omega
  obtain ⟨K, hK⟩ : ∃ K, szN n = K := ⟨_, rfl⟩
  have HE := Lib.hid (And.intro (show npL n = nbL n K by simp [npL, hk, hK]) (show npE n = 0 by simp [npE, hk]))
  have hb := szN_bd n
  rw [hK] at hb
  obtain ⟨hb1, hb4⟩ := hb
  have HK := Lib.hid hK
  clear hk hK
  obtain ⟨i0, hi, hz0, hz1, hz2⟩ := info_parts Tryd.info5
  have HI := Lib.hid hi
  have HZ0 := Lib.hid hz0
  have HZ1 := Lib.hid hz1
  have HZ2 := Lib.hid hz2
  clear hi hz0 hz1 hz2
  go_enter Tryd.func39, Tryd.ntmps39
  go_wp2_with fail
  refine (size_any n _).mono ?_
  rw [HK.out]
  rintro e w' ⟨rfl, rfl⟩
  go_wp2_with (at_make; refine wpList_make_full _ rfl _ _ 84 rfl w.heap.size 5 i0 (.int .u8 0) 1 Tryd.underlying84 HI.out HZ0.out HZ1.out _ _ _ _ K rfl rfl ?e1 ?e2 ?b0 ?b1 ?b2 ?_)
  case e1 => rfl
  case e2 => rfl
  case b0 => rw [HZ2.out]; omega
  case b1 => unfold maxLen; omega
  case b2 => omega
  intro w1 hown1 hg1
  have hb1' : Below w.heap.size w w1 := (Below.refl _ _).grown hg1 (Nat.le_refl _) (fun k hk => by cases hk)
  rw [← preN_0 n K] at hown1
  clear hg1
  go_wp2
  go_loopw [18] (fun i wr => ∃ k : Nat, k ≤ K ∧ i = .int .i64 k ∧ wr.ownsRow w.heap.size 5 1 (.slice (some ⟨w.heap.size, 0, none⟩) K K) K (bc (preN n K k)) ∧ Below w.heap.size w wr) (fun i _ => K - (intOf i).toNat)
  case atStart => exact ⟨0, by omega, rfl, hown1, hb1'⟩
  case round =>
    obtain ⟨k, hk, rfl, hown, hb⟩ := hrel
    by_cases hlt : k < K
    · have hcell := (hown.cellAt k (by omega)).trans (preN_at n K k hlt)
      have hfz := hown.frozenAt k
      have HO := Lib.hid hown
      clear hown
      go_wp2
      have hst := (HO.out.stored k (.int .u8 (n / 2 ^ (8 * (K - 1 - k)) % 256))).1
      rw [preN_set n K k hlt] at hst
      exact ⟨⟨k + 1, by omega, by go_num, hst, hb.setCell (Nat.le_refl _) _⟩, by simp [intOf]; omega⟩
    · have hkK : k = K := by omega
      subst hkK
      rw [preN_K] at hown
      have hc := conv_own (P := Tryd.prog) (src := 84) (dst := 9) Tryd.underlying84 Tryd.underlying5 Tryd.underlying9 hown (by omega)
      clear hown
      go_wp2
      go_ret2
      exact ⟨ret_np HE.out.1 HE.out.2, hb⟩

theorem nput_any (n : Int) (w : World) :
    Calls Tryd.prog 39 #[.int .i64 n] w fun e w' => e = .returned (npV n) ∧ Below w.heap.size w w' := by
  by_cases h : -2147483648 ≤ n ∧ n ≤ 2147483647
  · exact nput_on n w h.1 h.2
  · exact nput_off n w (by omega)
end Go.Proofs.YtlnfbjgadcifkaaDoor
