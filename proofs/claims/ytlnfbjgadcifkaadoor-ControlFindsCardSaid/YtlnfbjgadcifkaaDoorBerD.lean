/- The code puts a length's bytes behind a row of bytes of its own, for every number of 32 bits. -/
import Derived.Test.YtlnfbjgadcifkaaDoorBerC
namespace Go.Proofs.YtlnfbjgadcifkaaDoor
open Go.RowKit Go.Proofs.BerM Go.Proofs.BerK

theorem Tryd.info5 : (Tryd.prog.info? 5).map (fun i => (i.zero, i.size, i.bytes)) = some (some (.int .u8 0), 1, 1) := by kernel_rfl

set_option maxHeartbeats 400000 in
set_option maxRecDepth 100000 in
theorem appLen_small (B k n : Nat) (v : Value) (l : List UInt8) (w : World) (hn : n < 128) (hk : k ≤ 140737488350000) (hB : B ≤ w.heap.size) (hown : w.ownsRow B 5 1 v k (bc l)) :
    Calls Tryd.prog 54 #[v, .int .u32 n] w (Owned 5 B (k + (lenB n).length) (l ++ lenB n) w) := by
  have e1 : lenB n = [UInt8.ofNat n] := by simp [lenB, hn]
  have e2 : moreN n = 0 := by simp [moreN, hn]
  have e3 : bc (l ++ lenB n) = bc l ++ [Value.int .u8 (n : Int)] := by rw [e1, bc_append, bc_one, show n % 256 = n by omega]
  rw [e1] at e3 ⊢
  have E3 := Lib.hid e3
  clear e3 e1
  go_enter Tryd.func54, Tryd.ntmps54
  go_wp2
  go_step3
  go_wp2_with (first | (go_at_call 65; refine (more_any n _ (by omega)).mono ?_; rintro e w' ⟨rfl, rfl⟩) | (at_builtin; refine wpList_push rfl (.tmp 10) (.tmp 13) 84 5 rfl B 1 1 (.int .u8 0) Tryd.info5 Tryd.underlying84 rfl (by decide) [.int .u8 (n : Int)] rfl (by simp [Value.oneCell']) v k (bc l) rfl rfl hown ?c1 ?c2 hB ?_))
  case c1 => unfold maxLen; omega
  case c2 => omega
  intro v' w1 hown' hb
  go_wp2
  rw [Exit.noGoto_ret]
  go_ret
  exact ⟨v', rfl, by rw [E3.out]; exact hown', hb⟩

/-- What stands in the row while j bytes of a length are still to come. -/
def pre (l : List UInt8) (n K j : Nat) : List UInt8 := l ++ UInt8.ofNat (128 + K) :: (beF n).take (K - j)

set_option maxHeartbeats 400000 in
set_option maxRecDepth 100000 in
theorem appLen_big (B k n : Nat) (v : Value) (l : List UInt8) (w : World) (hn : 128 ≤ n) (hn4 : n < 4294967296) (hk : k ≤ 140737488350000) (hB : B ≤ w.heap.size) (hown : w.ownsRow B 5 1 v k (bc l)) :
    Calls Tryd.prog 54 #[v, .int .u32 n] w (Owned 5 B (k + (lenB n).length) (l ++ lenB n) w) := by
  have hl4 : (beF n).length ≤ 4 := beF_len_le 4 n (by omega)
  have hl1 : 1 ≤ (beF n).length := by rw [beF_pos n (by omega)]; simp
  obtain ⟨K, hK⟩ : ∃ K, (beF n).length = K := ⟨_, rfl⟩
  have e1 : lenB n = UInt8.ofNat (128 + K) :: beF n := by simp [lenB, show ¬ n < 128 by omega, hK]
  have e2 : moreN n = K := by simp [moreN, show ¬ n < 128 by omega, hK]
  have e0 : bc (pre l n K K) = bc l ++ [Value.int .u8 (128 + (K : Int))] := by
    rw [pre, Nat.sub_self, List.take_zero, bc_append, bc_one, show (128 + K) % 256 = 128 + K by omega]; rfl
  have E0 := Lib.hid e0
  have ez : k + (lenB n).length = k + 1 + K ∧ l ++ lenB n = pre l n K 0 := by
    refine ⟨by rw [e1]; simp [hK]; omega, ?_⟩
    rw [e1, pre, Nat.sub_zero, List.take_of_length_le (by omega)]
  rw [ez.1, ez.2]
  rw [hK] at hl4 hl1
  have E2 := Lib.hid e2
  have step : ∀ j, 0 < j → j ≤ K → bc (pre l n K (j - 1)) = bc (pre l n K j) ++ [Value.int .u8 ((n : Int) / 2 ^ (8 * (j - 1)) % 256)] := by
    intro j h0 hj
    have := beF_step n j h0 (by omega)
    rw [hK] at this
    have e : Value.int .u8 ((n : Int) / 2 ^ (8 * (j - 1)) % 256) = Value.int .u8 ((n / 256 ^ (j - 1) % 256 : Nat) : Int) := by
      rw [show (256 : Nat) = 2 ^ 8 from rfl, ← Nat.pow_mul]
      simp
    rw [pre, pre, ← this, e, ← bc_one, ← bc_append]
    simp
  have ST := Lib.hid step
  clear hK e1 e2 e0 step ez
  go_enter Tryd.func54, Tryd.ntmps54
  go_wp2
  refine wp_scope_jumps 0 (fun a' w' => ∃ (j : Nat) (v' u20 u21 u22 u23 u24 u25 u26 u27 u28 u29 u30 u31 u32 : Value), a' = { tmps := #[v', .int .u32 n, undef, undef, .slice none 0 0, .int .i64 j, .int .u32 n, .int .i64 K, .int .i64 K, .bool false, undef, undef, undef, undef, undef, v, .int .i64 K, .int .i64 (128 + K), .int .u8 (128 + K), .slice (some ⟨w.heap.size, 0, none⟩) 1 1, u20, u21, u22, u23, u24, u25, u26, u27, u28, u29, u30, u31, u32, undef], defers := [] } ∧ 0 < j ∧ j < K ∧ w'.ownsRow B 5 1 v' (k + 1 + (K - j)) (bc (pre l n K j)) ∧ Below B w w') (fun a' _ => (intOf (a'.tmps.getD 5 undef)).toNat) rfl ?_ ?_
  · have hne : ((K : Int) == 0) = false := by simp; omega
    go_wp2_with (first | (go_at_call 65; refine (more_any n _ (by omega)).mono ?_; rw [E2.out]; rintro e w' ⟨rfl, rfl⟩) | (at_builtin; refine wpList_push rfl (.tmp 15) (.tmp 19) 84 5 rfl B 1 1 (.int .u8 0) Tryd.info5 Tryd.underlying84 rfl (by decide) [.int .u8 (128 + (K : Int))] rfl (by simp [Value.oneCell']) v k (bc l) rfl rfl hown ?c1 ?c2 hB ?_))
    case c1 => unfold maxLen; omega
    case c2 => omega
    intro v' w1 hown' hb
    go_wp2
    have e4 := E0.out
    rw [← e4] at hown'
    clear hne
    go_step3
    have hj := ST.out K (by omega) (by omega)
    have HJ := Lib.hid hj
    clear hj e4
    go_wp2_with (at_builtin; refine wpList_push rfl (.tmp 23) (.tmp 29) 84 5 rfl B 1 1 (.int .u8 0) Tryd.info5 Tryd.underlying84 rfl (by decide) [.int .u8 ((n : Int) / 2 ^ (8 * (K - 1)) % 256)] rfl (by simp [Value.oneCell']) v' (k + 1) (bc (pre l n K K)) rfl rfl hown' ?d1 ?d2 (Nat.le_trans hB hb.size) ?_)
    case d1 => unfold maxLen; omega
    case d2 => omega
    intro v2 w2 hown2 hb2
    have e4 := HJ.out
    rw [← e4] at hown2
    clear e4
    go_wp2
    · go_step3
      have ek : ((K : Int) - 1) = ((K - 1 : Nat) : Int) := by omega
      exact ⟨rfl, K - 1, v2, _, _, _, _, _, _, _, _, _, _, _, _, _, by rw [ek], by omega, by omega, by rw [show K - (K - 1) = 1 by omega]; exact hown2, hb.trans hb2⟩
    · simp only [Exit.jump]
      go_ret
      have ek : K = 1 := by omega
      subst ek
      exact ⟨v2, rfl, hown2, hb.trans hb2⟩
  · rintro a' w' ⟨j, v', u20, u21, u22, u23, u24, u25, u26, u27, u28, u29, u30, u31, u32, rfl, hj0, hjK, hown', hb⟩
    have hj := ST.out j (by omega) (by omega)
    have HJ := Lib.hid hj
    clear hj
    go_wp2_with (at_builtin; refine wpList_push rfl (.tmp 23) (.tmp 29) 84 5 rfl B 1 1 (.int .u8 0) Tryd.info5 Tryd.underlying84 rfl (by decide) [.int .u8 ((n : Int) / 2 ^ (8 * (j - 1)) % 256)] rfl (by simp [Value.oneCell']) v' (k + 1 + (K - j)) _ rfl rfl hown' ?d3 ?d4 (Nat.le_trans hB hb.size) ?_)
    case d3 => unfold maxLen; omega
    case d4 => omega
    intro v2 w2 hown2 hb2
    have e4 := HJ.out
    rw [← e4] at hown2
    clear e4
    go_wp2
    · go_step3
      have ek : ((j : Int) - 1) = ((j - 1 : Nat) : Int) := by omega
      refine ⟨rfl, ⟨j - 1, v2, _, _, _, _, _, _, _, _, _, _, _, _, _, by rw [ek], by omega, by omega, by rw [show k + 1 + (K - (j - 1)) = k + 1 + (K - j) + 1 by omega]; exact hown2, hb.trans hb2⟩, ?_⟩
      simp [intOf]; omega
    · simp only [Exit.jump]
      go_ret
      have ek : j = 1 := by omega
      subst ek
      exact ⟨v2, rfl, by rw [show k + 1 + K = k + 1 + (K - 1) + 1 by omega]; exact hown2, hb.trans hb2⟩

theorem appLen_any (B k n : Nat) (v : Value) (l : List UInt8) (w : World) (hn4 : n < 4294967296) (hk : k ≤ 140737488350000) (hB : B ≤ w.heap.size) (hown : w.ownsRow B 5 1 v k (bc l)) :
    Calls Tryd.prog 54 #[v, .int .u32 n] w (Owned 5 B (k + (lenB n).length) (l ++ lenB n) w) := by
  by_cases h : n < 128
  · exact appLen_small B k n v l w h hk hB hown
  · exact appLen_big B k n v l w (by omega) hn4 hk hB hown
end Go.Proofs.YtlnfbjgadcifkaaDoor
