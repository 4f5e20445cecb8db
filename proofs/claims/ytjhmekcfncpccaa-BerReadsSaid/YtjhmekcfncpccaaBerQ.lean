/- The walks of the four laws of layer 1: each returns true and leaves what was in memory as it was. -/
import Derived.Test.YtjhmekcfncpccaaBerP
namespace Go.Proofs.Ytjhmekcfncpccaa
open Go.RowKit Go.Proofs.BerM Go.Proofs.BerK

theorem toList_mk (l : List UInt8) : (ByteArray.mk l.toArray).toList = l := by rw [ByteArray.toList_eq]

/-! ### BerPuts -/
set_option maxHeartbeats 800000 in
set_option maxRecDepth 100000 in
theorem puts_asleep (t : Int) (s : ByteArray) (w : World) (hm : s.size ≤ maxLen) (h : 300 < s.size ∧ s.size ≤ 65533 ∨ 70000 < s.size) :
    Calls Try.prog 3 #[.int .i64 t, .string s] w fun e w' => e = .returned (.bool true) ∧ Below w.heap.size w w' := by
  unfold maxLen at hm
  rcases h with ⟨h1, h2⟩ | h1
  · go_enter Try.func3, Try.ntmps3
    go_wp2_with fail
    refine (awake_any _).mono ?_
    rintro e w1 ⟨rfl, hb1⟩
    go_wp2
    go_ret
    exact ⟨rfl, hb1⟩
  · have h2 : ¬ (s.size : Int) ≤ 65533 := by omega
    go_enter Try.func3, Try.ntmps3
    go_wp2_with fail
    refine (awake_any _).mono ?_
    rintro e w1 ⟨rfl, hb1⟩
    go_wp2
    go_ret
    exact ⟨rfl, hb1⟩

set_option maxHeartbeats 800000 in
set_option maxRecDepth 100000 in
theorem puts_core (t : Int) (s : ByteArray) (w : World) (h : s.size ≤ 300 ∨ 65533 < s.size ∧ s.size ≤ 70000) :
    Calls Try.prog 3 #[.int .i64 t, .string s] w fun e w' => e = .returned (.bool true) ∧ Below w.heap.size w w' := by
  have hm : s.size ≤ maxLen := by unfold maxLen; omega
  obtain ⟨L, hL⟩ : ∃ L, putL t s.data.toList = L := ⟨_, rfl⟩
  obtain ⟨E, hE⟩ : ∃ E, putE t s.data.toList = E := ⟨_, rfl⟩
  have hEb := putE_bd t s.data.toList
  rw [hE] at hEb
  obtain ⟨hE0, hE6⟩ := hEb
  have HC1 := Lib.hid (put_c t s hm L E hL hE)
  have HC2 := Lib.hid (rput_c t s hm L E hL hE)
  clear hL hE
  have hll := toList_mk L
  rcases h with h1 | ⟨h1, h2⟩
  · go_enter Try.func3, Try.ntmps3
    go_wp2_with fail
    refine (HC1.out _).mono ?_
    rintro e w1 ⟨rfl, hb1⟩
    go_wp2_with fail
    refine (HC2.out _).mono ?_
    rintro e w2 ⟨rfl, hb2⟩
    go_wp2_with fail
    refine (awake_any _).mono ?_
    rintro e w3 ⟨rfl, hb3⟩
    go_wp2
    go_ret
    exact ⟨rfl, (hb1.trans (hb2.mono hb1.size)).trans (hb3.mono (Nat.le_trans hb1.size hb2.size))⟩
  · have h3 : ¬ (s.size : Int) ≤ 65533 := by omega
    go_enter Try.func3, Try.ntmps3
    go_wp2_with fail
    refine (HC1.out _).mono ?_
    rintro e w1 ⟨rfl, hb1⟩
    go_wp2_with fail
    refine (HC2.out _).mono ?_
    rintro e w2 ⟨rfl, hb2⟩
    go_wp2_with fail
    refine (awake_any _).mono ?_
    rintro e w3 ⟨rfl, hb3⟩
    go_wp2
    go_ret
    exact ⟨rfl, (hb1.trans (hb2.mono hb1.size)).trans (hb3.mono (Nat.le_trans hb1.size hb2.size))⟩

theorem puts_walk (t : Int) (s : ByteArray) (w : World) (hm : s.size ≤ maxLen) :
    Calls Try.prog 3 #[.int .i64 t, .string s] w fun e w' => e = .returned (.bool true) ∧ Below w.heap.size w w' := by
  by_cases h : 300 < s.size ∧ s.size ≤ 65533 ∨ 70000 < s.size
  · exact puts_asleep t s w hm h
  · exact puts_core t s w (by omega)

/-! ### BerReads -/
theorem hd_le (l : List UInt8) (t n m e : Nat) (h : hd l = (t, n, m, e)) : e ≤ 6 := by
  have hr : ∀ x, (rl x).2.2 ≤ 6 := by
    intro x; unfold rl
    split
    · simp
    · split
      · simp
      · split
        · simp
        · split
          · simp
          · split <;> simp
  rw [hd] at h
  split at h
  · simp only [Prod.mk.injEq] at h; omega
  · split at h
    · simp only [Prod.mk.injEq] at h; omega
    · split at h
      · simp only [Prod.mk.injEq] at h; omega
      · split at h
        · have := hr (l.drop 1); simp only [Prod.mk.injEq] at h; omega
        · simp only [Prod.mk.injEq] at h; omega
theorem rd_le (l : List UInt8) (t n e : Nat) (b : List UInt8) (h : rd l = (t, b, n, e)) : e ≤ 6 := by
  have := hd_le l _ _ _ _ (show hd l = ((hd l).1, (hd l).2.1, (hd l).2.2.1, (hd l).2.2.2) from rfl)
  rw [rd] at h
  split at h
  · simp only [Prod.mk.injEq] at h; omega
  · split at h
    · simp only [Prod.mk.injEq] at h; omega
    · simp only [Prod.mk.injEq] at h; omega
theorem alF_le : ∀ (f : Nat) (l : List UInt8) (acc : List (Nat × List UInt8)), acc.length ≤ 1024 → (alF f l acc).2 ≤ 6 ∧ (alF f l acc).1.length ≤ 1024 := by
  intro f
  induction f with
  | zero => intro l acc h; exact ⟨by simp [alF], h⟩
  | succ f ih =>
    intro l acc h
    have := rd_le l _ _ _ _ (show rd l = ((rd l).1, (rd l).2.1, (rd l).2.2.1, (rd l).2.2.2) from rfl)
    rw [alF]
    split
    · exact ⟨by simp, h⟩
    · split
      · exact ⟨this, by simp⟩
      · split
        · exact ⟨by simp, by simp⟩
        · exact ih _ _ (by simp; omega)

set_option maxHeartbeats 800000 in
set_option maxRecDepth 100000 in
theorem reads_asleep (s : ByteArray) (w : World) (hm : s.size ≤ maxLen) (h1 : 3000 < s.size) :
    Calls Try.prog 4 #[.string s] w fun e w' => e = .returned (.bool true) ∧ Below w.heap.size w w' := by
  unfold maxLen at hm
  go_enter Try.func4, Try.ntmps4
  go_wp2_with fail
  refine (awake_any _).mono ?_
  rintro e w1 ⟨rfl, hb1⟩
  go_wp2
  go_ret
  exact ⟨rfl, hb1⟩

set_option maxHeartbeats 1600000 in
set_option maxRecDepth 100000 in
theorem reads_core (s : ByteArray) (w : World) (h1 : s.size ≤ 3000) :
    Calls Try.prog 4 #[.string s] w fun e w' => e = .returned (.bool true) ∧ Below w.heap.size w w' := by
  have hm : s.size ≤ maxLen := by unfold maxLen; omega
  obtain ⟨t, n, m, e, hh⟩ : ∃ t n m e, hd s.data.toList = (t, n, m, e) := ⟨_, _, _, _, rfl⟩
  obtain ⟨t2, b2, n2, e2, hr⟩ : ∃ t b n e, rd s.data.toList = (t, b, n, e) := ⟨_, _, _, _, rfl⟩
  obtain ⟨L, e3, ha⟩ : ∃ L e, al s.data.toList = (L, e) := ⟨_, _, rfl⟩
  have he := hd_le _ _ _ _ _ hh
  have he2 := rd_le _ _ _ _ _ hr
  have he3 := alF_le s.data.toList.length s.data.toList [] (by simp)
  rw [show alF s.data.toList.length s.data.toList [] = (L, e3) from ha] at he3
  obtain ⟨he3, hLl⟩ := he3
  have HC1 := Lib.hid fun w => hd_any s w hm t n m e hh
  have HC2 := Lib.hid fun w => rhd_any s w hm t n m e hh
  have HC3 := Lib.hid fun w => rd_any s w hm t2 n2 e2 b2 hr
  have HC4 := Lib.hid fun w => rrd_any s w hm t2 n2 e2 b2 hr
  have HA := Lib.hid ha
  have HL := Lib.hid hLl
  have hb := toList_mk b2
  clear hh hr ha hLl
  simp only [] at he3
  go_enter Try.func4, Try.ntmps4
  go_wp2_with fail
  refine (HC1.out _).mono ?_
  rintro _ w' ⟨rfl, rfl⟩
  go_wp2_with fail
  refine (HC2.out _).mono ?_
  rintro _ w1 ⟨rfl, hb1⟩
  go_wp2_with fail
  refine (HC3.out _).mono ?_
  rintro _ w2 ⟨rfl, hb2⟩
  go_wp2_with fail
  refine (HC4.out _).mono ?_
  rintro _ w3 ⟨rfl, hb3⟩
  go_wp2_with fail
  refine (al_any s _ hm).mono ?_
  rintro _ w4 ⟨v1, rfl, hown1, hb4⟩
  rw [HA.out] at hown1 ⊢
  have HO1 := Lib.hid hown1
  clear hown1
  go_wp2_with fail
  refine (ral_any s _ hm).mono ?_
  rintro _ w5 ⟨v2, rfl, hown2, hb5⟩
  rw [HA.out] at hown2 ⊢
  have hown1 := ownsRow_below HO1.out hb5
  have HO2 := Lib.hid (And.intro hown1 hown2)
  clear hown1 hown2 HO1
  have hz1 : w.heap.size ≤ w1.heap.size := hb1.size
  have hz2 : w1.heap.size ≤ w2.heap.size := hb2.size
  have hz3 : w2.heap.size + 1 ≤ w3.heap.size := by have := hb3.size; simpa using this
  have hz4 : w3.heap.size + 1 ≤ w4.heap.size := by have := hb4.size; simpa using this
  have hz5 : w4.heap.size ≤ w5.heap.size := hb5.size
  have hA : Below (w3.heap.size + 1) _ w5 := (hb4.mono (by simp)).trans (hb5.mono hz4)
  have hB : Below (w2.heap.size + 1) _ w5 := ((hb3.mono (by simp)).alloc hz3 _).trans (hA.mono (by omega))
  have q0 := hB.cell (p := ⟨w2.heap.size, 0, none⟩) (by simp)
  have q1 := hB.cell (p := ⟨w2.heap.size, 1, none⟩) (by simp)
  have q2 := hA.cell (p := ⟨w3.heap.size, 0, none⟩) (by simp)
  have q3 := hA.cell (p := ⟨w3.heap.size, 1, none⟩) (by simp)
  rw [World.cell?_alloc_mark] at q0 q1 q2 q3
  simp at q0 q1 q2 q3
  have hend : Below w.heap.size w w5 := ((hb1.trans (hb2.mono hz1)).alloc (by omega) _).trans (hB.mono (by omega))
  clear hA hB hb1 hb2 hb3 hb4 hb5
  go_wp2_with fail
  refine (same_any _ _ v1 v2 L _ HO2.out.1 HO2.out.2 (by have := HL.out; unfold maxLen; omega)).mono ?_
  rintro _ w6 ⟨rfl, q, rfl⟩
  go_wp2_with fail
  refine (awake_any _).mono ?_
  rintro _ w7 ⟨rfl, hb7⟩
  go_wp2
  go_ret
  exact ⟨rfl, (below_drewN hend q).trans (hb7.mono (by simp; omega))⟩

theorem reads_walk (s : ByteArray) (w : World) (hm : s.size ≤ maxLen) :
    Calls Try.prog 4 #[.string s] w fun e w' => e = .returned (.bool true) ∧ Below w.heap.size w w' := by
  by_cases h : 3000 < s.size
  · exact reads_asleep s w hm h
  · exact reads_core s w (by omega)
end Go.Proofs.Ytjhmekcfncpccaa
