/- The walks of the laws NumBack and NumOrder: each returns true and leaves what was in memory as it was. -/
import Derived.Test.YtmoangighcnpkaaNumQ
namespace Go.Proofs.Ytmoangighcnpkaa
open Go.RowKit Go.Proofs.NumM Go.Proofs.BerK

/-! ### NumBack -/
set_option maxHeartbeats 800000 in
set_option maxRecDepth 100000 in
theorem nback_asleep (n : Int) (s : ByteArray) (w : World) (hm : s.size ≤ maxLen) (h1 : 100 < s.size) :
    Calls Try.prog 4 #[.int .i32 n, .string s] w fun e w' => e = .returned (.bool true) ∧ Below w.heap.size w w' := by
  unfold maxLen at hm
  go_enter Try.func4, Try.ntmps4
  go_wp2_with fail
  refine (awakeN_any _).mono ?_
  rintro e w1 ⟨rfl, hb1⟩
  go_wp2
  go_ret
  exact ⟨rfl, hb1⟩

set_option maxHeartbeats 1600000 in
set_option maxRecDepth 100000 in
theorem nback_core (n : Int) (s : ByteArray) (w : World) (h0 : -2147483648 ≤ n) (h1 : n ≤ 2147483647) (hs : s.size ≤ 100) :
    Calls Try.prog 4 #[.int .i32 n, .string s] w fun e w' => e = .returned (.bool true) ∧ Below w.heap.size w w' := by
  obtain ⟨L, hL⟩ : ∃ L, npL n = L := ⟨_, rfl⟩
  obtain ⟨k, e2, hr⟩ : ∃ k e, nr s.data.toList = (k, e) := ⟨_, _, rfl⟩
  obtain ⟨L2, hL2⟩ : ∃ L, npL k = L := ⟨_, rfl⟩
  obtain ⟨E2, hE2⟩ : ∃ E, npE k = E := ⟨_, rfl⟩
  have hlen := npL_len n h0 h1
  rw [hL] at hlen
  have hsz : L.length ≤ 4 := by
    have := szN_bd n
    omega
  have HSZ := Lib.hid hsz
  have HC1 := Lib.hid (nput_c n L 0 hL hlen.2)
  have HC2 := Lib.hid (nread_c ⟨L.toArray⟩ n 0 (by rw [← hL]; exact nr_put n h0 h1))
  have HC3 := Lib.hid (nread_c s k e2 hr)
  have HC4 := Lib.hid (nput_c k L2 E2 hL2 hE2)
  have hll := toList_mkN L
  have hll2 := toList_mkN L2
  by_cases q : e2 = 0
  · subst q
    have hp := put_nr _ _ hr
    have e5 : (L2 == s.toList) = true := by rw [← hL2, hp.1, ByteArray.toList_eq]; simp
    obtain rfl : E2 = 0 := by rw [← hE2]; exact hp.2.1
    clear hL hL2 hE2 hr hp hlen hsz
    go_enter Try.func4, Try.ntmps4
    go_wp2_with fail
    refine (HC1.out _).mono ?_
    rintro e w1 ⟨rfl, hb1⟩
    go_wp2_with fail
    refine (HC2.out _).mono ?_
    rintro e w' ⟨rfl, rfl⟩
    go_wp2_with fail
    refine (HC3.out _).mono ?_
    rintro e w' ⟨rfl, rfl⟩
    go_wp2_with fail
    refine (HC4.out _).mono ?_
    rintro e w2 ⟨rfl, hb2⟩
    have hsz := HSZ.out
    go_wp2_with fail
    refine (awakeN_any _).mono ?_
    rintro e w3 ⟨rfl, hb3⟩
    have hend : Below w.heap.size w w3 := (hb1.trans (hb2.mono hb1.size)).trans (hb3.mono (Nat.le_trans hb1.size hb2.size))
    clear hb1 hb2 hb3
    go_wp2
    go_ret
    exact ⟨rfl, hend⟩
  · have e5 : ((e2 : Int) != 0) = true := by rw [bne_iff_ne]; omega
    clear hL hL2 hE2 hr hlen hsz q
    go_enter Try.func4, Try.ntmps4
    go_wp2_with fail
    refine (HC1.out _).mono ?_
    rintro e w1 ⟨rfl, hb1⟩
    go_wp2_with fail
    refine (HC2.out _).mono ?_
    rintro e w' ⟨rfl, rfl⟩
    go_wp2_with fail
    refine (HC3.out _).mono ?_
    rintro e w' ⟨rfl, rfl⟩
    go_wp2_with fail
    refine (HC4.out _).mono ?_
    rintro e w2 ⟨rfl, hb2⟩
    have hsz := HSZ.out
    go_wp2_with fail
    refine (awakeN_any _).mono ?_
    rintro e w3 ⟨rfl, hb3⟩
    have hend : Below w.heap.size w w3 := (hb1.trans (hb2.mono hb1.size)).trans (hb3.mono (Nat.le_trans hb1.size hb2.size))
    clear hb1 hb2 hb3
    go_wp2
    go_ret
    exact ⟨rfl, hend⟩

theorem nback_walk (n : Int) (s : ByteArray) (w : World) (h0 : -2147483648 ≤ n) (h1 : n ≤ 2147483647) (hm : s.size ≤ maxLen) :
    Calls Try.prog 4 #[.int .i32 n, .string s] w fun e w' => e = .returned (.bool true) ∧ Below w.heap.size w w' := by
  by_cases h : 100 < s.size
  · exact nback_asleep n s w hm h
  · exact nback_core n s w h0 h1 (by omega)

/-! ### NumOrder -/
set_option maxHeartbeats 1600000 in
set_option maxRecDepth 100000 in
theorem norder_walk (a b : Int) (w : World) (h0 : -2147483648 ≤ a) (h1 : a ≤ 2147483647) (h2 : -2147483648 ≤ b) (h3 : b ≤ 2147483647) :
    Calls Try.prog 5 #[.int .i32 a, .int .i32 b] w fun e w' => e = .returned (.bool true) ∧ Below w.heap.size w w' := by
  obtain ⟨L, hL⟩ : ∃ L, npL a = L := ⟨_, rfl⟩
  obtain ⟨M, hM⟩ : ∃ L, npL b = L := ⟨_, rfl⟩
  have hl1 := npL_len a h0 h1
  have hl2 := npL_len b h2 h3
  rw [hL] at hl1
  rw [hM] at hl2
  have HC1 := Lib.hid (nput_c a L 0 hL hl1.2)
  have HC2 := Lib.hid (nput_c b M 0 hM hl2.2)
  have hz1 : L.length = szN a := hl1.1
  have hz2 : M.length = szN b := hl2.1
  have hll := toList_mkN L
  have hll2 := toList_mkN M
  have hEQ : (L == M) = (a == b) := by
    by_cases e : a = b
    · subst e; rw [← hL, ← hM]; simp
    · have : L ≠ M := fun h => e (npL_inj a b h0 h1 h2 h3 (by rw [hL, hM, h]))
      rw [beq_eq_false_iff_ne.2 this, beq_eq_false_iff_ne.2 e]
  have hEQ2 : ((L == M) == (a == b)) = true := by rw [hEQ]; simp
  clear hL hM hl1 hl2 hEQ
  by_cases hc : 0 ≤ a ∧ a ≤ b ∨ a < 0 ∧ b ≤ a
  · have hle : L.length ≤ M.length := by rw [hz1, hz2]; exact szN_mono a b hc
    clear hz1 hz2
    rcases hc with ⟨c1, c2⟩ | ⟨c1, c2⟩
    all_goals
      go_enter Try.func5, Try.ntmps5
      go_wp2_with fail
      refine (HC1.out _).mono ?_
      rintro e w1 ⟨rfl, hb1⟩
      go_wp2_with fail
      refine (HC2.out _).mono ?_
      rintro e w2 ⟨rfl, hb2⟩
      go_wp2_with fail
      refine (awakeN_any _).mono ?_
      rintro e w3 ⟨rfl, hb3⟩
      have hend : Below w.heap.size w w3 := (hb1.trans (hb2.mono hb1.size)).trans (hb3.mono (Nat.le_trans hb1.size hb2.size))
      clear hb1 hb2 hb3
      go_wp2
      go_ret
      exact ⟨rfl, hend⟩
  · have hc' : 0 ≤ a ∧ b < a ∨ a < 0 ∧ a < b := by omega
    clear hc hz1 hz2
    rcases hc' with ⟨c1, c2⟩ | ⟨c1, c2⟩
    all_goals
      go_enter Try.func5, Try.ntmps5
      go_wp2_with fail
      refine (HC1.out _).mono ?_
      rintro e w1 ⟨rfl, hb1⟩
      go_wp2_with fail
      refine (HC2.out _).mono ?_
      rintro e w2 ⟨rfl, hb2⟩
      go_wp2_with fail
      refine (awakeN_any _).mono ?_
      rintro e w3 ⟨rfl, hb3⟩
      have hend : Below w.heap.size w w3 := (hb1.trans (hb2.mono hb1.size)).trans (hb3.mono (Nat.le_trans hb1.size hb2.size))
      clear hb1 hb2 hb3
      go_wp2
      go_ret
      exact ⟨rfl, hend⟩
end Go.Proofs.Ytmoangighcnpkaa
