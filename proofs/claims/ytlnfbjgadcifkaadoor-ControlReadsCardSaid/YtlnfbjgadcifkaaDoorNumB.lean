/- The document's Put hands back the same bytes and the same error as the plain function, for every number. -/
import Derived.Test.YtlnfbjgadcifkaaDoorNumA
namespace Go.Proofs.YtlnfbjgadcifkaaDoor
open Go.RowKit Go.Proofs.NumM Go.Proofs.BerK

theorem nbL_pre (n : Int) (K k : Nat) (h : k < K) : (nbL n K).take k ++ [byteAt n (K - 1 - k)] = (nbL n K).take (k + 1) := by
  rw [List.take_add_one, nbL_at n K k h]; rfl
theorem bc_byte (n : Int) (i : Nat) : bc [byteAt n i] = [Value.int .u8 (n / 2 ^ (8 * i) % 256)] := by
  simp [bc, byte_nat]

theorem u64_byte (n : Int) (i : Nat) (h : i ≤ 3) : IntKind.u64.wrap n / 2 ^ (8 * i) % 256 = n / 2 ^ (8 * i) % 256 := by
  have e : IntKind.u64.wrap n = n % 18446744073709551616 := by simp [IntKind.wrap, IntKind.bits, IntKind.signed]
  rw [e]
  have hc : i = 0 ∨ i = 1 ∨ i = 2 ∨ i = 3 := by omega
  rcases hc with rfl | rfl | rfl | rfl
  all_goals
    simp only [Nat.mul_zero, Nat.mul_one, Nat.reduceMul, Int.reducePow, Int.pow_zero]
    omega

set_option maxHeartbeats 800000 in
set_option maxRecDepth 100000 in
theorem bytes_any (n : Int) (K : Nat) (w : World) (hk1 : 1 ≤ K) (hk4 : K ≤ 4) :
    Calls Tryd.prog 56 #[.int .i64 n, .int .i64 K] w fun e w' => e = .returned (.string ⟨(nbL n K).toArray⟩) ∧ Below w.heap.size w w' := by
  go_enter Tryd.func56, Tryd.ntmps56
  go_wp2
  go_loopw [5, 6] (fun v i wr => ∃ k : Nat, k ≤ K ∧ i = .int .i64 ((K : Int) - 1 - k) ∧ wr.ownsRow w.heap.size 5 1 v k (bc ((nbL n K).take k)) ∧ Below w.heap.size w wr) (fun _ i _ => (intOf i + 1).toNat)
  case atStart => exact ⟨0, by omega, by go_num, World.ownsRow_nil _ _ _ _, Below.refl _ _⟩
  case round =>
    obtain ⟨k, hk, rfl, hown, hb⟩ := hrel
    by_cases hlt : k < K
    · obtain ⟨j, hj⟩ : ∃ j : Nat, j = K - 1 - k := ⟨_, rfl⟩
      have ej : ((K : Int) - 1 - k) = (j : Int) := by omega
      rw [ej]
      have hj3 : j ≤ 3 := by omega
      go_wp2_with (at_builtin; refine wpList_push rfl (.tmp 13) (.tmp 21) 84 5 rfl w.heap.size 1 1 (.int .u8 0) Tryd.info5 Tryd.underlying84 rfl (by decide) [_] rfl ?c0 _ k _ rfl rfl hown ?c1 ?c2 hb.size ?_)
      case c0 => simp [Value.oneCell']
      case c1 => unfold maxLen; omega
      case c2 => omega
      intro v' w1 hown' hb2
      go_wp2
      rw [u64_byte n _ (by omega), ← bc_byte, ← bc_append, nbL_pre n K k hlt] at hown'
      exact ⟨⟨k + 1, by omega, by go_num, hown', hb.trans hb2⟩, by simp [intOf]; omega⟩
    · have hkK : k = K := by omega
      subst hkK
      rw [List.take_of_length_le (by rw [nbL_len]; omega)] at hown
      have hc := conv_own (P := Tryd.prog) (src := 84) (dst := 9) Tryd.underlying84 Tryd.underlying5 Tryd.underlying9 hown (by omega)
      clear hown
      go_wp2
      go_ret
      exact ⟨rfl, hb⟩

/-- Two, as often doubled. -/
def pw (i : Nat) : Nat := 2 ^ (i - 1)
theorem pw_1 : pw 1 = 1 := rfl
theorem pw_s (i : Nat) (h : 1 ≤ i) : pw (i + 1) = pw i * 2 := by
  rw [pw, pw, show i + 1 - 1 = (i - 1) + 1 by omega, Nat.pow_succ]
theorem pw_le (i : Nat) (h : i ≤ 24) : pw i ≤ 8388608 := by
  have := Nat.pow_le_pow_right (n := 2) (by omega) (show i - 1 ≤ 23 by omega)
  simpa [pw] using this
theorem fit1 (n : Int) (h : -128 ≤ n ∧ n < 128) : szN n = 1 := by unfold szN; rw [if_pos h]
theorem fit2 (n : Int) (h : -32768 ≤ n ∧ n < 32768) (h2 : 2 ≤ szN n) : szN n = 2 := by
  revert h2; unfold szN; repeat' split
  all_goals omega
theorem fit3 (n : Int) (h : -8388608 ≤ n ∧ n < 8388608) (h2 : 3 ≤ szN n) : szN n = 3 := by
  revert h2; unfold szN; repeat' split
  all_goals omega
theorem off1 (n : Int) (h : n < -128 ∨ 128 ≤ n) : 2 ≤ szN n := by
  unfold szN; repeat' split
  all_goals omega
theorem off2 (n : Int) (h : n < -32768 ∨ 32768 ≤ n) : 3 ≤ szN n := by
  unfold szN; repeat' split
  all_goals omega
theorem off3 (n : Int) (h : n < -8388608 ∨ 8388608 ≤ n) : 4 ≤ szN n := by
  unfold szN; repeat' split
  all_goals omega

set_option maxHeartbeats 400000 in
set_option maxRecDepth 100000 in
theorem rnput_off (n : Int) (w : World) (h : n < -2147483648 ∨ 2147483647 < n) :
    Calls Tryd.prog 43 #[.int .i64 n] w fun e w' => e = .returned (npV n) ∧ Below w.heap.size w w' := by
  have hk : okN n = false := by simp [okN]; omega
  have HE := Lib.hid (And.intro (show npL n = [] by simp [npL, hk]) (show npE n = 2 by simp [npE, hk]))
  clear hk
  rcases h with h | h
  all_goals
    go_enter Tryd.func43, Tryd.ntmps43
    go_wp2
    go_ret2
    exact ⟨ret_np (a := []) HE.out.1 HE.out.2, Below.refl _ _⟩

set_option maxHeartbeats 1600000 in
set_option maxRecDepth 100000 in
theorem rnput_on (n : Int) (w : World) (h0 : -2147483648 ≤ n) (h1 : n ≤ 2147483647) :
    Calls Tryd.prog 43 #[.int .i64 n] w fun e w' => e = .returned (npV n) ∧ Below w.heap.size w w' := by
  have hk : okN n = true := by simp [okN]; omega
  have HE := Lib.hid (And.intro (show npL n = nbL n (szN n) by simp [npL, hk]) (show npE n = 0 by simp [npE, hk]))
  have hb := szN_bd n
  clear hk
  go_enter Tryd.func43, Tryd.ntmps43
  go_wp2
  go_loop [4] (fun t => ∃ m : Nat, 1 ≤ m ∧ m ≤ szN n ∧ t = .int .i64 m) (fun t => 4 - (intOf t).toNat)
  case atStart => exact ⟨1, by omega, by omega, rfl⟩
  case round =>
    obtain ⟨m, hm1, hm2, rfl⟩ := hrel
    by_cases hm : m = 4
    · subst hm
      have hs : szN n = 4 := by omega
      have HS := Lib.hid hs
      clear hs
      go_wp2_with fail
      refine (bytes_any n 4 _ (by omega) (by omega)).mono ?_
      rintro e w1 ⟨rfl, hb1⟩
      go_wp2
      go_ret2
      exact ⟨ret_np (by rw [HE.out.1, HS.out]) HE.out.2, hb1⟩
    · have hm3 : m ≤ 3 := by omega
      go_wp2
      go_loop [5, 6] (fun t i => ∃ k : Nat, 1 ≤ k ∧ k ≤ 8 * m ∧ i = .int .i64 k ∧ t = .int .i64 (pw k)) (fun _ i => 24 - (intOf i).toNat)
      case atStart => exact ⟨1, by omega, by omega, rfl, rfl⟩
      case round =>
        obtain ⟨k, hk1, hk2, rfl, rfl⟩ := hrel
        have hle := pw_le k (by omega)
        by_cases hlt : k < 8 * m
        · have HP := Lib.hid (pw_s k hk1)
          go_wp2
          exact ⟨⟨k + 1, by omega, by omega, by go_num, by rw [HP.out]; rfl⟩, by simp [intOf]; omega⟩
        · obtain rfl : k = 8 * m := by omega
          have hc : m = 1 ∨ m = 2 ∨ m = 3 := by omega
          clear hle hlt hk1 hk2
          rcases hc with rfl | rfl | rfl
          · rw [show pw (8 * 1) = 128 from rfl]
            by_cases f : -128 ≤ n ∧ n < 128
            · obtain ⟨f1, f2⟩ := f
              have HS := Lib.hid (fit1 n ⟨f1, f2⟩)
              go_wp2_with fail
              refine (bytes_any n 1 _ (by omega) (by omega)).mono ?_
              rintro e w1 ⟨rfl, hb1⟩
              go_wp2
              go_ret2
              exact ⟨ret_np (by rw [HE.out.1, HS.out]) HE.out.2, hb1⟩
            · have f' : n < -128 ∨ 128 ≤ n := by omega
              clear f
              have hs := off1 n f'
              rcases f' with f | f
              all_goals
                go_wp2
                exact ⟨⟨2, by omega, hs, rfl⟩, by simp [intOf]⟩
          · rw [show pw (8 * 2) = 32768 from rfl]
            by_cases f : -32768 ≤ n ∧ n < 32768
            · obtain ⟨f1, f2⟩ := f
              have HS := Lib.hid (fit2 n ⟨f1, f2⟩ hm2)
              go_wp2_with fail
              refine (bytes_any n 2 _ (by omega) (by omega)).mono ?_
              rintro e w1 ⟨rfl, hb1⟩
              go_wp2
              go_ret2
              exact ⟨ret_np (by rw [HE.out.1, HS.out]) HE.out.2, hb1⟩
            · have f' : n < -32768 ∨ 32768 ≤ n := by omega
              clear f
              have hs := off2 n f'
              rcases f' with f | f
              all_goals
                go_wp2
                exact ⟨⟨3, by omega, hs, rfl⟩, by simp [intOf]⟩
          · rw [show pw (8 * 3) = 8388608 from rfl]
            by_cases f : -8388608 ≤ n ∧ n < 8388608
            · obtain ⟨f1, f2⟩ := f
              have HS := Lib.hid (fit3 n ⟨f1, f2⟩ hm2)
              go_wp2_with fail
              refine (bytes_any n 3 _ (by omega) (by omega)).mono ?_
              rintro e w1 ⟨rfl, hb1⟩
              go_wp2
              go_ret2
              exact ⟨ret_np (by rw [HE.out.1, HS.out]) HE.out.2, hb1⟩
            · have f' : n < -8388608 ∨ 8388608 ≤ n := by omega
              clear f
              have hs := off3 n f'
              rcases f' with f | f
              all_goals
                go_wp2
                exact ⟨⟨4, by omega, hs, rfl⟩, by simp [intOf]⟩

theorem rnput_any (n : Int) (w : World) :
    Calls Tryd.prog 43 #[.int .i64 n] w fun e w' => e = .returned (npV n) ∧ Below w.heap.size w w' := by
  by_cases h : -2147483648 ≤ n ∧ n ≤ 2147483647
  · exact rnput_on n w h.1 h.2
  · exact rnput_off n w (by omega)
end Go.Proofs.YtlnfbjgadcifkaaDoor
