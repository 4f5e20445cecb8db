/- The code's Read and the document's Read tell the number of any bytes, or the error, as the plain function nr does. -/
import Derived.Test.YtlnfbjgadcifkaaDoorNumB
namespace Go.Proofs.YtlnfbjgadcifkaaDoor
open Go.RowKit Go.Proofs.NumM Go.Proofs.BerK

theorem at_getN (s : ByteArray) (i : Nat) (h : i < s.size) : s.data.toList.getD i 0 = s[i] := by
  simp [List.getD, h]; rfl
theorem len_listN (s : ByteArray) : s.data.toList.length = s.size := Array.length_toList

set_option maxHeartbeats 400000 in
set_option maxRecDepth 100000 in
theorem shortest_any (s : ByteArray) (w : World) (h0 : 0 < s.size) :
    Calls Tryd.prog 48 #[.string s] w fun e w' => e = .returned (.bool (short s.data.toList)) ∧ w = w' := by
  by_cases h1 : s.size = 1
  · have hv : true = short s.data.toList := by rw [short, len_listN, if_pos h1]
    have HV := Lib.hid hv
    clear hv
    go_enter Tryd.func48, Tryd.ntmps48
    go_wp2
    go_ret
    exact ⟨ret_bool HV.out, rfl⟩
  · have hne : ((s.size : Int) == 1) = false := beq_eq_false_iff_ne.2 (by omega)
    have h2 : 1 < s.size := by omega
    by_cases h3 : 128 ≤ s[1].toNat
    · have hv : ((s[0].toNat : Int) != 255) = short s.data.toList := by
        rw [short, len_listN, if_neg h1, at_getN s 1 h2, at_getN s 0 h0, if_pos h3]
        by_cases q : s[0].toNat = 255
        · simp [q]
        · simp [q]; omega
      have HV := Lib.hid hv
      clear hv h1
      go_enter Tryd.func48, Tryd.ntmps48
      go_wp2
      go_ret
      exact ⟨ret_bool HV.out, rfl⟩
    · have hv : ((s[0].toNat : Int) != 0) = short s.data.toList := by
        rw [short, len_listN, if_neg h1, at_getN s 1 h2, at_getN s 0 h0, if_neg h3]
        by_cases q : s[0].toNat = 0
        · simp [q]
        · simp [q]
      have HV := Lib.hid hv
      clear hv h1
      go_enter Tryd.func48, Tryd.ntmps48
      go_wp2
      go_ret
      exact ⟨ret_bool HV.out, rfl⟩

theorem ret_nr {n : Int} {e : Nat} {l : List UInt8} (h : (n, e) = nr l) : Ending.returned (.tuple #[.int .i64 n, .int .i64 (e : Int)]) = .returned (.tuple #[.int .i64 (nr l).1, .int .i64 ((nr l).2 : Int)]) := by rw [← h]
/-- Read's answer. -/
def nrV (l : List UInt8) : Value := .tuple #[.int .i64 (nr l).1, .int .i64 ((nr l).2 : Int)]

set_option maxHeartbeats 400000 in
set_option maxRecDepth 100000 in
theorem nread_none (s : ByteArray) (w : World) (h0 : s.size = 0) :
    Calls Tryd.prog 29 #[.string s] w fun e w' => e = .returned (nrV s.data.toList) ∧ w = w' := by
  have hv : ((0 : Int), 4) = nr s.data.toList := by rw [nr, len_listN, if_pos h0]
  have HV := Lib.hid hv
  clear hv
  go_enter Tryd.func29, Tryd.ntmps29
  go_wp2
  go_ret2
  exact ⟨ret_nr HV.out, rfl⟩

set_option maxHeartbeats 400000 in
set_option maxRecDepth 100000 in
theorem nread_form (s : ByteArray) (w : World) (h0 : 0 < s.size) (hs : short s.data.toList = false) :
    Calls Tryd.prog 29 #[.string s] w fun e w' => e = .returned (nrV s.data.toList) ∧ w = w' := by
  have hv : ((0 : Int), 5) = nr s.data.toList := by rw [nr, len_listN, if_neg (by omega), if_pos hs]
  have HV := Lib.hid hv
  have HS := Lib.hid hs
  clear hv hs
  have hne : ((s.size : Int) == 0) = false := beq_eq_false_iff_ne.2 (by omega)
  go_enter Tryd.func29, Tryd.ntmps29
  go_wp2_with fail
  refine (shortest_any s _ h0).mono ?_
  rw [HS.out]
  rintro e w' ⟨rfl, rfl⟩
  go_wp2
  go_ret2
  exact ⟨ret_nr HV.out, rfl⟩

set_option maxHeartbeats 400000 in
set_option maxRecDepth 100000 in
theorem nread_long (s : ByteArray) (w : World) (h0 : 4 < s.size) (hs : short s.data.toList = true) :
    Calls Tryd.prog 29 #[.string s] w fun e w' => e = .returned (nrV s.data.toList) ∧ w = w' := by
  have hv : ((0 : Int), 3) = nr s.data.toList := by rw [nr, len_listN, if_neg (by omega), if_neg (by simp [hs]), if_pos h0]
  have HV := Lib.hid hv
  have HS := Lib.hid hs
  clear hv hs
  have hne : ((s.size : Int) == 0) = false := beq_eq_false_iff_ne.2 (by omega)
  go_enter Tryd.func29, Tryd.ntmps29
  go_wp2_with fail
  refine (shortest_any s _ (by omega)).mono ?_
  rw [HS.out]
  rintro e w' ⟨rfl, rfl⟩
  go_wp2
  go_ret2
  exact ⟨ret_nr HV.out, rfl⟩

/-- The number that the first k bytes are. -/
def svK (l : List UInt8) (k : Nat) : Int := svF (sgn l) (l.take k)
theorem svK_0 (l : List UInt8) : svK l 0 = sgn l := rfl
theorem svK_s (s : ByteArray) (k : Nat) (h : k < s.size) : svK s.data.toList (k + 1) = svK s.data.toList k * 256 + s[k].toNat := by
  rw [svK, take_snoc s k h, svF_snoc]; rfl
theorem svK_all (s : ByteArray) : svK s.data.toList s.size = sv s.data.toList := by
  rw [svK, List.take_of_length_le (by rw [len_listN]; omega)]; rfl
theorem svK_bd (l : List UInt8) (k : Nat) (h : k ≤ 3) : -16777216 ≤ svK l k ∧ svK l k < 16777216 := by
  have h1 := svF_bd (l.take k) (sgn l) (sgn_or l)
  have h2 : (l.take k).length ≤ 3 := by have := List.length_take_le k l; omega
  have h3 : (256 : Nat) ^ (l.take k).length ≤ 256 ^ 3 := Nat.pow_le_pow_right (by omega) h2
  have h4 : ((256 ^ (l.take k).length : Nat) : Int) ≤ 16777216 := by omega
  rw [Int.natCast_pow] at h4
  have h5 : ((256 : Nat) : Int) = 256 := rfl
  rw [h5] at h4
  unfold svK
  omega

set_option maxHeartbeats 800000 in
set_option maxRecDepth 100000 in
theorem nread_ok (s : ByteArray) (w : World) (h0 : 0 < s.size) (h4 : s.size ≤ 4) (hs : short s.data.toList = true) :
    Calls Tryd.prog 29 #[.string s] w fun e w' => e = .returned (nrV s.data.toList) ∧ w = w' := by
  have hv : (sv s.data.toList, 0) = nr s.data.toList := by rw [nr, len_listN, if_neg (by omega), if_neg (by simp [hs]), if_neg (by omega)]
  rw [← svK_all] at hv
  have HV := Lib.hid hv
  have HS := Lib.hid hs
  clear hv hs
  have hne : ((s.size : Int) == 0) = false := beq_eq_false_iff_ne.2 (by omega)
  have hsg : svK s.data.toList 0 = if 128 ≤ s[0].toNat then -1 else 0 := by rw [svK_0, sgn, at_getN s 0 h0]
  have HG := Lib.hid hsg
  clear hsg
  go_enter Tryd.func29, Tryd.ntmps29
  go_wp2_with fail
  refine (shortest_any s _ h0).mono ?_
  rw [HS.out]
  rintro e w' ⟨rfl, rfl⟩
  by_cases q : 128 ≤ s[0].toNat
  all_goals
    go_wp2
    go_loop [4, 20] (fun n i => ∃ k : Nat, k ≤ s.size ∧ i = .int .i64 k ∧ n = .int .i64 (svK s.data.toList k)) (fun _ i => s.size - (intOf i).toNat)
    case atStart => exact ⟨0, by omega, rfl, by rw [HG.out]; first | rw [if_pos q] | rw [if_neg q]⟩
    case round =>
      obtain ⟨k, hk, rfl, rfl⟩ := hrel
      by_cases hlt : k < s.size
      · have hb := svK_bd s.data.toList k (by omega)
        have HN := Lib.hid (svK_s s k hlt)
        obtain ⟨m, hm⟩ : ∃ m, svK s.data.toList k = m := ⟨_, rfl⟩
        rw [hm] at hb ⊢
        have HM := Lib.hid hm
        clear hm
        have h8 : s[k].toNat < 256 := s[k].toNat_lt
        have ho := or_byte m s[k] (by omega) (by omega)
        have HO := Lib.hid ho
        clear ho
        go_wp2
        exact ⟨⟨k + 1, by omega, by go_num, by rw [HN.out, HM.out, HO.out]⟩, by simp [intOf]; omega⟩
      · obtain rfl : k = s.size := by omega
        go_wp2
        go_ret2
        exact ⟨ret_nr HV.out, rfl⟩

theorem nread_any (s : ByteArray) (w : World) :
    Calls Tryd.prog 29 #[.string s] w fun e w' => e = .returned (nrV s.data.toList) ∧ w = w' := by
  by_cases h0 : s.size = 0
  · exact nread_none s w h0
  · by_cases hs : short s.data.toList = true
    · by_cases h4 : s.size ≤ 4
      · exact nread_ok s w (by omega) h4 hs
      · exact nread_long s w (by omega) hs
    · exact nread_form s w (by omega) (by simpa using hs)
end Go.Proofs.YtlnfbjgadcifkaaDoor
