/- The law's own examples answer true, in whatever memory. -/
import Derived.Test.YtjhmekcfncpccaaBerL
namespace Go.Proofs.Ytjhmekcfncpccaa
open Go.RowKit Go.Proofs.BerM Go.Proofs.BerK

theorem put_ab (w : World) : Calls Try.prog 8 #[.int .i64 4, .string ⟨#[97, 98]⟩] w fun e w' => e = .returned (.tuple #[.string ⟨#[4, 2, 97, 98]⟩, .int .i64 0]) ∧ Below w.heap.size w w' :=
  (put_any 4 ⟨#[97, 98]⟩ w (by decide)).mono fun e w' ⟨h1, h2⟩ => ⟨by rw [h1]; rfl, h2⟩
theorem cat_x : (ByteArray.mk #[4, 2, 97, 98] ++ ByteArray.mk #[120]) = ⟨#[4, 2, 97, 98, 120]⟩ := ByteArray.mk_append_mk [4, 2, 97, 98] [120]
theorem cat_s : (ByteArray.mk #[4, 2, 97, 98] ++ ByteArray.mk #[4, 2, 97, 98]) = ⟨#[4, 2, 97, 98, 4, 2, 97, 98]⟩ := ByteArray.mk_append_mk [4, 2, 97, 98] [4, 2, 97, 98]
theorem read_1 (w : World) : Calls Try.prog 12 #[.string (ByteArray.mk #[4, 2, 97, 98] ++ ByteArray.mk #[120])] w fun e w' => e = .returned (.tuple #[.agg #[.int .i64 4, .string ⟨#[97, 98]⟩], .int .i64 4, .int .i64 0]) ∧ Below w.heap.size w w' :=
  cat_x ▸ rd_any ⟨#[4, 2, 97, 98, 120]⟩ w (by decide) 4 4 0 [97, 98] (by decide)
theorem read_2 (w : World) : Calls Try.prog 12 #[.string ⟨#[4, 128]⟩] w fun e w' => e = .returned (.tuple #[.agg #[.int .i64 0, .string ⟨#[]⟩], .int .i64 0, .int .i64 5]) ∧ Below w.heap.size w w' :=
  rd_any ⟨#[4, 128]⟩ w (by decide) 0 0 5 [] (by decide)
theorem beF_small (n : Nat) (h0 : 0 < n) (h : n < 256) : beF n = [UInt8.ofNat n] := by
  rw [beF_pos n h0, show n / 256 = 0 by omega, beF_zero]; rfl
theorem rl_short (b : UInt8) (h1 : b.toNat < 128) (l : List UInt8) : rl (129 :: b :: l) = (0, 0, 5) := by
  have hm : moreN b.toNat = 0 := by simp [moreN, h1]
  simp [rl, natOf, hm]
theorem rl_128 (l : List UInt8) : rl (129 :: 128 :: l) = (128, 2, 0) := by
  have hm : moreN 128 = 1 := by simp [moreN, beF_small]
  simp [rl, natOf, hm]
theorem read_3 (w : World) : Calls Try.prog 12 #[.string ⟨#[4, 129, 5]⟩] w fun e w' => e = .returned (.tuple #[.agg #[.int .i64 0, .string ⟨#[]⟩], .int .i64 0, .int .i64 5]) ∧ Below w.heap.size w w' :=
  rd_any ⟨#[4, 129, 5]⟩ w (by decide) 0 0 5 [] (by
    have h := rl_short 5 (by decide) []
    have h2 : hd [4, 129, 5] = (0, 0, 0, 5) := by simp [hd, h, tagB]
    simp [rd, h2])
theorem read_4 (w : World) : Calls Try.prog 12 #[.string ⟨#[31, 0]⟩] w fun e w' => e = .returned (.tuple #[.agg #[.int .i64 0, .string ⟨#[]⟩], .int .i64 0, .int .i64 6]) ∧ Below w.heap.size w w' :=
  rd_any ⟨#[31, 0]⟩ w (by decide) 0 0 6 [] (by decide)
theorem head_1 (w : World) : Calls Try.prog 10 #[.string ⟨#[4, 129, 128]⟩] w fun e w' => e = .returned (.tuple #[.int .i64 4, .int .i64 128, .int .i64 3, .int .i64 0]) ∧ w = w' :=
  hd_any ⟨#[4, 129, 128]⟩ w (by decide) 4 128 3 0 (by
    have h := rl_128 []
    simp [hd, h, tagB])
theorem all_1 (w : World) : Calls Try.prog 14 #[.string (ByteArray.mk #[4, 2, 97, 98] ++ ByteArray.mk #[4, 2, 97, 98])] w fun e w' => (∃ a c, e = .returned (.tuple #[.slice a 2 c, .int .i64 0])) ∧ Below w.heap.size w w' :=
  cat_s ▸ (al_any ⟨#[4, 2, 97, 98, 4, 2, 97, 98]⟩ w (by decide)).mono fun e w' ⟨v, h1, h2, h3⟩ => by
    have ha : al [4, 2, 97, 98, 4, 2, 97, 98] = ([(4, [97, 98]), (4, [97, 98])], 0) := by decide
    have h4 : (ByteArray.mk #[4, 2, 97, 98, 4, 2, 97, 98]).data.toList = [4, 2, 97, 98, 4, 2, 97, 98] := rfl
    rw [h4, ha] at h1 h2
    obtain ⟨a, c, rfl⟩ := ownsRow_slice h2
    exact ⟨⟨a, c, h1⟩, h3⟩

set_option maxHeartbeats 1600000 in
set_option maxRecDepth 100000 in
theorem awake_any (w : World) : Calls Try.prog 7 #[] w fun e w' => e = .returned (.bool true) ∧ Below w.heap.size w w' := by
  go_enter Try.func7, Try.ntmps7
  go_wp2_with fail
  refine (put_ab _).mono ?_
  rintro e w1 ⟨rfl, hb1⟩
  go_wp2_with fail
  refine (read_1 _).mono ?_
  rintro e w2 ⟨rfl, hb2⟩
  go_wp2_with fail
  refine (read_2 _).mono ?_
  rintro e w3 ⟨rfl, hb3⟩
  go_wp2_with fail
  refine (read_3 _).mono ?_
  rintro e w4 ⟨rfl, hb4⟩
  go_wp2_with fail
  refine (read_4 _).mono ?_
  rintro e w5 ⟨rfl, hb5⟩
  go_wp2_with fail
  refine (head_1 _).mono ?_
  rintro e w' ⟨rfl, rfl⟩
  go_wp2_with fail
  refine (all_1 _).mono ?_
  rintro e w6 ⟨⟨a, c, rfl⟩, hb6⟩
  have hz2 : w2.heap.size + 1 ≤ w3.heap.size := by have := hb3.size; simpa using this
  have hz3 : w3.heap.size + 1 ≤ w4.heap.size := by have := hb4.size; simpa using this
  have hz4 : w4.heap.size + 1 ≤ w5.heap.size := by have := hb5.size; simpa using this
  have hz5 : w5.heap.size + 1 ≤ w6.heap.size := by have := hb6.size; simpa using this
  have hz1 : w1.heap.size ≤ w2.heap.size := hb2.size
  have hz0 : w.heap.size ≤ w1.heap.size := hb1.size
  have hall : Below (w2.heap.size + 1) _ w6 := (((((hb3.mono (by simp)).alloc (by omega) _).trans (hb4.mono (by simp; omega))).alloc (by omega) _).trans (hb5.mono (by simp; omega))).alloc (by omega) _ |>.trans (hb6.mono (by simp; omega))
  have h0 := hall.cell (p := ⟨w2.heap.size, 0, none⟩) (by simp)
  have h1 := hall.cell (p := ⟨w2.heap.size, 1, none⟩) (by simp)
  have hend : Below w.heap.size w w6 := (((hb1.trans (hb2.mono hz0)).alloc (by omega) _).trans (hall.mono (by omega)))
  clear hall hb3 hb4 hb5 hb6 hb1 hb2
  rw [World.cell?_alloc_mark] at h0 h1
  simp at h0 h1
  go_wp2
  go_ret
  exact ⟨rfl, hend⟩
end Go.Proofs.Ytjhmekcfncpccaa
