/- The code's and the document's tests of a tag answer the same truth for every number, and the code counts a length's bytes right, for every number of 32 bits. -/
import Derived.Test.YtlnfbjgadcifkaaDoorProg
import Derived.WalkKit
import Derived.WalkMore
import Derived.ScopeJumps
import Derived.Lib.Hide
import Derived.Test.YtlnfbjgadcifkaaDoorBerM
import Derived.Test.YtlnfbjgadcifkaaDoorKit
namespace Go.Proofs.YtlnfbjgadcifkaaDoor
open Go.RowKit Go.Proofs.BerM Go.Proofs.BerK

theorem and31 (t : Int) (h0 : 0 ≤ t) (h1 : t ≤ 254) : bits .and .i64 t 31 = t % 32 := by
  obtain ⟨n, rfl⟩ := Int.eq_ofNat_of_zero_le h0
  have hn : n ≤ 254 := by omega
  revert n
  intro n _ _ hn
  have : ∀ n : Fin 255, bits .and .i64 ((n.val : Nat) : Int) 31 = ((n.val : Nat) : Int) % 32 := by decide +kernel
  exact this ⟨n, by omega⟩

set_option maxHeartbeats 400000 in
theorem isTag_any (t : Int) (w : World) :
    Calls Tryd.prog 53 #[.int .i64 t] w fun e w' => e = .returned (.bool (tagB t)) ∧ w = w' := by
  by_cases h0 : 0 ≤ t
  · by_cases h1 : t ≤ 254
    · have ha := and31 t h0 h1
      go_enter Tryd.func53, Tryd.ntmps53
      go_wp2
      go_ret
      exact ⟨ret_bool (by simp [tagB, h0, h1]; rfl), rfl⟩
    · go_enter Tryd.func53, Tryd.ntmps53
      go_wp2
      go_ret
      exact ⟨ret_bool (by simp [tagB]; omega), rfl⟩
  · go_enter Tryd.func53, Tryd.ntmps53
    go_wp2
    go_ret
    exact ⟨ret_bool (by simp [tagB]; omega), rfl⟩

set_option maxHeartbeats 400000 in
theorem tagged_any (t : Int) (w : World) :
    Calls Tryd.prog 41 #[.int .i64 t] w fun e w' => e = .returned (.bool (tagB t)) ∧ w = w' := by
  by_cases h0 : 0 ≤ t
  · by_cases h1 : t ≤ 254
    · go_enter Tryd.func41, Tryd.ntmps41
      go_wp2
      go_ret
      exact ⟨ret_bool (by simp [tagB, h0, h1]; rfl), rfl⟩
    · go_enter Tryd.func41, Tryd.ntmps41
      go_wp2
      go_ret
      exact ⟨ret_bool (by simp [tagB]; omega), rfl⟩
  · go_enter Tryd.func41, Tryd.ntmps41
    go_wp2
    go_ret
    exact ⟨ret_bool (by simp [tagB]; omega), rfl⟩

set_option maxHeartbeats 400000 in
set_option maxRecDepth 100000 in
theorem more_any (n : Nat) (w : World) (h1 : n < 4294967296) :
    Calls Tryd.prog 65 #[.int .u32 n] w fun e w' => e = .returned (.int .i64 (moreN n)) ∧ w = w' := by
  have hl4 : (beF n).length ≤ 4 := beF_len_le 4 n (by omega)
  go_enter Tryd.func65, Tryd.ntmps65
  go_wp2
  refine wp_scope_jumps 0 (fun a' w' => w = w' ∧ ∃ (m k : Nat) (u4 u5 u6 u7 u8 u9 u10 u11 u12 u13 : Value), a' = { tmps := #[.int .u32 m, undef, .int .i64 0, .int .i64 k, u4, u5, u6, u7, u8, u9, u10, u11, u12, u13], defers := [] } ∧ k + (beF m).length = (beF n).length ∧ 0 < m ∧ m < 4294967296 ∧ 128 ≤ n) (fun a' _ => (intOf (a'.tmps.getD 0 undef)).toNat) rfl ?_ ?_
  · by_cases h128 : n < 128
    · go_wp2
      simp only [Exit.jump]
      go_ret
      exact ⟨ret_int (by simp [moreN, h128]), rfl⟩
    · have hp := beF_pos n (by omega)
      have HP : Hid ((beF (n / 256)).length + 1 = (beF n).length) := by unfold Hid; rw [hp]; simp
      clear hp
      go_wp2
      go_step3
      go_wp2
      · go_step3
        refine ⟨rfl, rfl, n / 256, 1, _, _, _, _, _, _, _, _, _, _, rfl, ?_, by omega, by omega, by omega⟩
        have := HP.out; omega
      · simp only [Exit.jump]
        go_ret
        have : beF (n / 256) = [] := by rw [show n / 256 = 0 by omega]; exact beF_zero
        have h2 := HP.out
        rw [this] at h2
        exact ⟨ret_int (by simp [moreN, h128, ← h2]), rfl⟩
  · rintro a' w' ⟨rfl, m, k, u4, u5, u6, u7, u8, u9, u10, u11, u12, u13, rfl, hs, hm, hm2, h128⟩
    have hp := beF_pos m hm
    have hk : k ≤ 4 := by omega
    have HP : Hid (k + 1 + (beF (m / 256)).length = (beF n).length) := by rw [hp] at hs; simp at hs; unfold Hid; omega
    clear hs hp
    go_wp2
    · go_step3
      refine ⟨rfl, ⟨rfl, m / 256, k + 1, _, _, _, _, _, _, _, _, _, _, rfl, HP.out, by omega, by omega, h128⟩, ?_⟩
      simp [intOf]; omega
    · simp only [Exit.jump]
      go_ret
      have : beF (m / 256) = [] := by rw [show m / 256 = 0 by omega]; exact beF_zero
      have h2 := HP.out
      rw [this] at h2
      have h3 : moreN n = k + 1 := by simp [moreN, show ¬ n < 128 by omega, ← h2]
      exact ⟨ret_int (by rw [h3]; rfl), rfl⟩
end Go.Proofs.YtlnfbjgadcifkaaDoor
