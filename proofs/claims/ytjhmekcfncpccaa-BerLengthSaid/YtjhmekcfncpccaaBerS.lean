/- The walk of the law BerLength of layer 1: it returns true and leaves what was in memory as it was. -/
import Derived.Test.YtjhmekcfncpccaaBerR
namespace Go.Proofs.Ytjhmekcfncpccaa
open Go.RowKit Go.Proofs.BerM Go.Proofs.BerK

set_option maxHeartbeats 800000 in
set_option maxRecDepth 100000 in
theorem len_asleep (a : Int) (s r : ByteArray) (w : World) (hm : s.size ≤ maxLen) (hm2 : r.size ≤ maxLen) (h : 3000 < s.size ∨ 3000 < r.size) :
    Calls Try.prog 6 #[.int .u8 a, .string s, .string r] w fun e w' => e = .returned (.bool true) ∧ Below w.heap.size w w' := by
  unfold maxLen at hm hm2
  by_cases h1 : 3000 < s.size
  · go_enter Try.func6, Try.ntmps6
    go_wp2_with fail
    refine (awake_any _).mono ?_
    rintro e w1 ⟨rfl, hb1⟩
    go_wp2
    go_ret
    exact ⟨rfl, hb1⟩
  · have h2 : 3000 < r.size := by omega
    go_enter Try.func6, Try.ntmps6
    go_wp2_with fail
    refine (awake_any _).mono ?_
    rintro e w1 ⟨rfl, hb1⟩
    go_wp2
    go_ret
    exact ⟨rfl, hb1⟩

set_option maxHeartbeats 800000 in
set_option maxRecDepth 100000 in
theorem len_tag (k : Nat) (s r : ByteArray) (w : World) (hk : k ≤ 255) (h1 : s.size ≤ 3000) (h2 : r.size ≤ 3000) (ht : tagB k = false) :
    Calls Try.prog 6 #[.int .u8 k, .string s, .string r] w fun e w' => e = .returned (.bool true) ∧ Below w.heap.size w w' := by
  have HC1 := Lib.hid (put_c k s (by unfold maxLen; omega) [] 6 (by simp [putL, ht]) (by simp [putE, ht]))
  have HC2 := Lib.hid (put_c k r (by unfold maxLen; omega) [] 6 (by simp [putL, ht]) (by simp [putE, ht]))
  clear ht
  go_enter Try.func6, Try.ntmps6
  go_wp2_with fail
  refine (HC1.out _).mono ?_
  rintro _ w1 ⟨rfl, hb1⟩
  go_wp2_with fail
  refine (HC2.out _).mono ?_
  rintro _ w2 ⟨rfl, hb2⟩
  go_wp2_with fail
  refine (awake_any _).mono ?_
  rintro _ w3 ⟨rfl, hb3⟩
  go_wp2
  go_ret
  exact ⟨rfl, (hb1.trans (hb2.mono hb1.size)).trans (hb3.mono (Nat.le_trans hb1.size hb2.size))⟩

set_option maxHeartbeats 1600000 in
set_option maxRecDepth 100000 in
theorem len_ok (k : Nat) (s r : ByteArray) (w : World) (hk : k ≤ 255) (h1 : s.size ≤ 3000) (h2 : r.size ≤ 3000) (ht : tagB k = true) :
    Calls Try.prog 6 #[.int .u8 k, .string s, .string r] w fun e w' => e = .returned (.bool true) ∧ Below w.heap.size w w' := by
  have hp1 := putL_ok (l := s.data.toList) ht (by rw [len_list]; omega)
  have hp2 := putL_ok (l := r.data.toList) ht (by rw [len_list]; omega)
  have he1 := putE_ok (l := s.data.toList) ht (by rw [len_list]; omega)
  have he2 := putE_ok (l := r.data.toList) ht (by rw [len_list]; omega)
  have hl1 := congrArg List.length hp1
  have hl2 := congrArg List.length hp2
  simp only [List.length_cons, List.length_append, len_list] at hl1 hl2
  rw [lenB_len _ h1] at hl1
  rw [lenB_len _ h2] at hl2
  obtain ⟨L1, hL1⟩ : ∃ L, putL k s.data.toList = L := ⟨_, rfl⟩
  obtain ⟨L2, hL2⟩ : ∃ L, putL k r.data.toList = L := ⟨_, rfl⟩
  rw [hL1] at hl1
  rw [hL2] at hl2
  have HC1 := Lib.hid (put_c k s (by unfold maxLen; omega) L1 0 hL1 he1)
  have HC2 := Lib.hid (put_c k r (by unfold maxLen; omega) L2 0 hL2 he2)
  have b1 : s.size + 2 ≤ L1.length := by rw [hl1]; split <;> (try split) <;> omega
  have b2 : L1.length ≤ s.size + 4 := by rw [hl1]; split <;> (try split) <;> omega
  have b3 : s.size ≤ r.size → L1.length ≤ L2.length := by
    intro h
    rw [hl1, hl2]
    repeat' split
    all_goals omega
  have b4 : L2.length ≤ 3010 := by rw [hl2]; split <;> (try split) <;> omega
  clear hp1 hp2 he1 he2 hl1 hl2 hL1 hL2 ht
  by_cases hle : s.size ≤ r.size
  · have b5 := b3 hle
    clear b3
    go_enter Try.func6, Try.ntmps6
    go_wp2_with fail
    refine (HC1.out _).mono ?_
    rintro _ w1 ⟨rfl, hb1⟩
    go_wp2_with fail
    refine (HC2.out _).mono ?_
    rintro _ w2 ⟨rfl, hb2⟩
    go_wp2_with fail
    refine (awake_any _).mono ?_
    rintro _ w3 ⟨rfl, hb3⟩
    go_wp2
    go_ret
    exact ⟨rfl, (hb1.trans (hb2.mono hb1.size)).trans (hb3.mono (Nat.le_trans hb1.size hb2.size))⟩
  · clear b3
    go_enter Try.func6, Try.ntmps6
    go_wp2_with fail
    refine (HC1.out _).mono ?_
    rintro _ w1 ⟨rfl, hb1⟩
    go_wp2_with fail
    refine (HC2.out _).mono ?_
    rintro _ w2 ⟨rfl, hb2⟩
    go_wp2_with fail
    refine (awake_any _).mono ?_
    rintro _ w3 ⟨rfl, hb3⟩
    go_wp2
    go_ret
    exact ⟨rfl, (hb1.trans (hb2.mono hb1.size)).trans (hb3.mono (Nat.le_trans hb1.size hb2.size))⟩

theorem len_walk (a : Int) (s r : ByteArray) (w : World) (ha : (Lit.int .u8 a).wf = true) (hm : s.size ≤ maxLen) (hm2 : r.size ≤ maxLen) :
    Calls Try.prog 6 #[.int .u8 a, .string s, .string r] w fun e w' => e = .returned (.bool true) ∧ Below w.heap.size w w' := by
  by_cases h : 3000 < s.size ∨ 3000 < r.size
  · exact len_asleep a s r w hm hm2 h
  · obtain ⟨h0, h255⟩ : 0 ≤ a ∧ a ≤ 255 := by
      simp only [Lit.wf, Bool.and_eq_true, decide_eq_true_eq] at ha
      exact ha
    obtain ⟨k, rfl⟩ := Int.eq_ofNat_of_zero_le h0
    cases ht : tagB (k : Int) with
    | true => exact len_ok k s r w (by omega) (by omega) (by omega) ht
    | false => exact len_tag k s r w (by omega) (by omega) (by omega) ht
end Go.Proofs.Ytjhmekcfncpccaa
