/- The code makes one to four bytes into the number that they are, the highest first. -/
import Derived.Test.YtlnfbjgadcifkaaDoorBerA
namespace Go.Proofs.YtlnfbjgadcifkaaDoor
open Go.RowKit Go.Proofs.BerM Go.Proofs.BerK

theorem or8 (m : Nat) (b : UInt8) (h0 : m < 16777216) : bits .or .u32 ((m : Int) * 256) ((b.toNat : Int) % 4294967296) = ((256 * m + b.toNat : Nat) : Int) := by
  have hb := b.toNat_lt
  have e1 : ((m : Int) * 256) = ((m * 256 : Nat) : Int) := by omega
  have e2 : ((b.toNat : Int) % 4294967296) = ((b.toNat : Nat) : Int) := by omega
  rw [e1, e2, u32_or_nat _ _ (by omega) (by omega)]
  have := Nat.shiftLeft_add_eq_or_of_lt (i := 8) (b := b.toNat) (by omega) m
  rw [Nat.shiftLeft_eq] at this
  rw [← this]
  omega
theorem or0 (b : UInt8) : bits .or .u32 0 ((b.toNat : Int) % 4294967296) = ((b.toNat : Nat) : Int) := by
  have := or8 0 b (by omega)
  simpa using this
theorem natOf_take (s : ByteArray) (k : Nat) (h : k < s.size) : natOf (s.data.toList.take (k + 1)) = 256 * natOf (s.data.toList.take k) + s[k].toNat := by
  rw [take_snoc s k h, natOf_snoc]
theorem natOf_one (s : ByteArray) (h : 0 < s.size) : natOf (s.data.toList.take 1) = s[0].toNat := by
  have := natOf_take s 0 h
  simpa [natOf] using this
theorem pow_le_256 (k : Nat) (h : k ≤ 3) : 256 ^ k ≤ 16777216 := by
  have : k = 0 ∨ k = 1 ∨ k = 2 ∨ k = 3 := by omega
  rcases this with rfl | rfl | rfl | rfl <;> decide
theorem ret_u32 {s : ByteArray} {n : Nat} (h : n = natOf s.data.toList) : Ending.returned (.int .u32 (n : Int)) = .returned (.int .u32 (natOf s.data.toList)) := by rw [h]

set_option maxHeartbeats 400000 in
set_option maxRecDepth 100000 in
theorem big_any (s : ByteArray) (w : World) (h1 : 0 < s.size) (h2 : s.size ≤ 4) :
    Calls Tryd.prog 74 #[.string s] w fun e w' => e = .returned (.int .u32 (natOf s.data.toList)) ∧ w = w' := by
  have HF : Hid (∀ k, s.size ≤ k → s.data.toList.take k = s.data.toList) := fun k hk => List.take_of_length_le (by simpa using hk)
  go_enter Tryd.func74, Tryd.ntmps74
  go_wp2
  refine wp_scope_jumps 0 (fun a' w' => w = w' ∧ ∃ (m k : Nat) (u5 u6 u7 u8 u9 u10 u11 u12 u13 u14 u15 u16 u17 u18 : Value), a' = { tmps := #[.string s, undef, .int .u32 0, .int .u32 m, .int .i64 k, u5, u6, u7, u8, u9, u10, u11, u12, u13, u14, u15, u16, u17, u18], defers := [] } ∧ k < s.size ∧ 0 < k ∧ m = natOf (s.data.toList.take k)) (fun a' _ => s.size - (intOf (a'.tmps.getD 4 undef)).toNat) rfl ?_ ?_
  · have H1 := Lib.hid (natOf_one s h1)
    go_wp2
    go_step3
    go_wp2
    · go_step3
      rw [or0]
      exact ⟨rfl, rfl, s[0].toNat, 1, _, _, _, _, _, _, _, _, _, _, _, _, _, _, rfl, by omega, by omega, H1.out.symm⟩
    · simp only [Exit.jump]
      go_ret
      rw [or0]
      exact ⟨ret_u32 (by rw [← H1.out, HF.out 1 (by omega)]), rfl⟩
  · rintro a' w' ⟨rfl, m, k, u5, u6, u7, u8, u9, u10, u11, u12, u13, u14, u15, u16, u17, u18, rfl, hk, hk0, hm⟩
    have hb : m < 16777216 := by
      have h3 := natOf_lt (s.data.toList.take k)
      have h4 : (s.data.toList.take k).length = k := by simp; omega
      rw [h4] at h3
      have := pow_le_256 k (by omega)
      omega
    have H1 := Lib.hid (natOf_take s k hk)
    have HM := Lib.hid hm
    clear hm
    go_wp2
    · go_step3
      rw [or8 m _ hb]
      refine ⟨rfl, ⟨rfl, _, k + 1, _, _, _, _, _, _, _, _, _, _, _, _, _, _, rfl, by omega, by omega, ?_⟩, ?_⟩
      · rw [H1.out, HM.out]
      · simp [intOf]; omega
    · simp only [Exit.jump]
      go_ret
      rw [or8 m _ hb]
      exact ⟨ret_u32 (by rw [HM.out, ← H1.out, HF.out (k + 1) (by omega)]), rfl⟩
end Go.Proofs.YtlnfbjgadcifkaaDoor
