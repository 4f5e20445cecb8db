/- The walk of the law BerBack of layer 1: it returns true and leaves what was in memory as it was. -/
import Derived.Test.YtjhmekcfncpccaaBerQ
namespace Go.Proofs.Ytjhmekcfncpccaa
open Go.RowKit Go.Proofs.BerM Go.Proofs.BerK

/-! ### BerBack -/
set_option maxHeartbeats 800000 in
set_option maxRecDepth 100000 in
theorem back_asleep (a : Int) (s r : ByteArray) (w : World) (hm : s.size ≤ maxLen) (hm2 : r.size ≤ maxLen) (h : 600 < s.size ∨ 600 < r.size) :
    Calls Try.prog 5 #[.int .u8 a, .string s, .string r] w fun e w' => e = .returned (.bool true) ∧ Below w.heap.size w w' := by
  unfold maxLen at hm hm2
  by_cases h1 : 600 < s.size
  · go_enter Try.func5, Try.ntmps5
    go_wp2_with fail
    refine (awake_any _).mono ?_
    rintro e w1 ⟨rfl, hb1⟩
    go_wp2
    go_ret
    exact ⟨rfl, hb1⟩
  · have h2 : 600 < r.size := by omega
    go_enter Try.func5, Try.ntmps5
    go_wp2_with fail
    refine (awake_any _).mono ?_
    rintro e w1 ⟨rfl, hb1⟩
    go_wp2
    go_ret
    exact ⟨rfl, hb1⟩

theorem rd_len (l : List UInt8) (t n e : Nat) (b : List UInt8) (h : rd l = (t, b, n, e)) : b.length ≤ l.length := by
  rw [rd] at h
  split at h
  · simp only [Prod.mk.injEq] at h; rw [← h.2.1]; simp
  · split at h
    · simp only [Prod.mk.injEq] at h; rw [← h.2.1]; simp
    · simp only [Prod.mk.injEq] at h; rw [← h.2.1, List.length_take, List.length_drop]; omega
theorem putL_len (t : Int) (l : List UInt8) (h : l.length ≤ 65536) : (putL t l).length ≤ l.length + 6 := by
  unfold putL
  split
  · have := beF_len_le 4 l.length (by omega)
    have h5 : (lenB l.length).length ≤ 5 := by unfold lenB; split <;> simp; omega
    simp; omega
  · simp
theorem putE_nat (t : Int) (l : List UInt8) : ∃ e : Nat, putE t l = e ∧ e ≤ 6 := by
  have := putE_bd t l
  exact ⟨(putE t l).toNat, by omega, by omega⟩
theorem mk_list (s : ByteArray) : (⟨s.data.toList.toArray⟩ : ByteArray) = s := by
  apply ByteArray.ext; simp

set_option maxHeartbeats 1600000 in
set_option maxRecDepth 100000 in
theorem back_11 (k : Nat) (s r : ByteArray) (w : World) (hk : k ≤ 255) (h1 : s.size ≤ 600) (h2 : r.size ≤ 600)
    (L1 : List UInt8) (E1 : Nat) (hL1 : putL k s.data.toList = L1) (hE1 : putE k s.data.toList = E1) (_hE1b : E1 ≤ 6)
    (t1 n1 e1 : Nat) (b1 : List UInt8) (hr1 : rd (L1 ++ r.data.toList) = (t1, b1, n1, e1)) (hq1 : E1 = 0)
    (t2 n2 e2 : Nat) (b2 : List UInt8) (hr2 : rd r.data.toList = (t2, b2, n2, e2)) (hq2 : e2 = 0)
    (L3 : List UInt8) (E3 : Nat) (hL3 : putL t2 b2 = L3) (hE3 : putE t2 b2 = E3) :
    Calls Try.prog 5 #[.int .u8 k, .string s, .string r] w fun e w' => e = .returned (.bool true) ∧ Below w.heap.size w w' := by
  have hms : s.size ≤ maxLen := by unfold maxLen; omega
  have hmr : r.size ≤ maxLen := by unfold maxLen; omega
  have hll1 : L1.length ≤ 606 := by
    have := putL_len k s.data.toList (by rw [len_list]; omega)
    rw [hL1, len_list] at this; omega
  have hcat : (⟨L1.toArray⟩ : ByteArray) ++ r = ⟨(L1 ++ r.data.toList).toArray⟩ := by
    apply ByteArray.ext; simp [ByteArray.data_append]
  have hb2 : b2.length ≤ 600 := by
    have := rd_len _ _ _ _ _ hr2
    rw [len_list] at this; omega
  have HC1 := Lib.hid (put_c k s hms L1 E1 hL1 hE1)
  have HC2 := Lib.hid fun w => rd_any ⟨(L1 ++ r.data.toList).toArray⟩ w (by unfold maxLen; rw [show (ByteArray.mk (L1 ++ r.data.toList).toArray).size = (L1 ++ r.data.toList).length from rfl, List.length_append, len_list]; omega) t1 n1 e1 b1 hr1
  have HC3 := Lib.hid fun w => rd_any r w hmr t2 n2 e2 b2 hr2
  have HC4 := Lib.hid (put_c t2 ⟨b2.toArray⟩ (by unfold maxLen; rw [show (ByteArray.mk b2.toArray).size = b2.length from rfl]; omega) L3 E3 hL3 hE3)
  rw [← hcat] at HC2
  subst hq1
  have htl : tagB k = true ∧ s.data.toList.length ≤ 65536 := by
    unfold putE at hE1
    split at hE1
    · omega
    · split at hE1
      · omega
      · rename_i x y; exact ⟨by simpa using x, by omega⟩
  have hx := rd_put k s.data.toList r.data.toList htl.1 htl.2
  rw [hL1, hr1] at hx
  simp only [Prod.mk.injEq, Int.toNat_natCast] at hx
  obtain ⟨rfl, rfl, rfl, rfl⟩ := hx
  rw [mk_list] at HC2
  clear htl
  subst hq2
  obtain ⟨p1, p2, p3, p4, p5⟩ := put_rd _ _ _ _ hr2
  rw [hL3] at p1
  rw [hE3] at p2
  obtain rfl : E3 = 0 := by omega
  rw [len_list] at p3
  have hex : (r.extract 0 n2).toList = L3 := by rw [ByteArray.toList_eq, ext_data, p1]; simp
  have hl3 := toList_mk L3
  have hsl := fun w : World => run_slice_string_h (P := Try.prog) w 9 r Try.underlying9 .i64 (n2 : Int) (by omega) (by omega)
  clear p1 p2 p4 p5
  clear hL1 hE1 hr1 hr2 hL3 hE3 hms hmr hcat
  go_enter Try.func5, Try.ntmps5
  go_wp2_with fail
  refine (HC1.out _).mono ?_
  rintro _ w1 ⟨rfl, hb1⟩
  go_wp2_with fail
  refine (HC2.out _).mono ?_
  rintro _ w2 ⟨rfl, hb2⟩
  go_wp2_with fail
  refine (HC3.out _).mono ?_
  rintro _ w3 ⟨rfl, hb3⟩
  go_wp2_with fail
  refine (HC4.out _).mono ?_
  rintro _ w4 ⟨rfl, hb4⟩
  have hz1 : w.heap.size ≤ w1.heap.size := hb1.size
  have hz2 : w1.heap.size ≤ w2.heap.size := hb2.size
  have hz3 : w2.heap.size + 1 ≤ w3.heap.size := by have := hb3.size; simpa using this
  have hz4 : w3.heap.size + 1 ≤ w4.heap.size := by have := hb4.size; simpa using this
  have hB : Below (w2.heap.size + 1) _ w4 := ((hb3.mono (by simp)).alloc hz3 _).trans (hb4.mono (by simp; omega))
  have q0 := hB.cell (p := ⟨w2.heap.size, 0, none⟩) (by simp)
  have q1 := hB.cell (p := ⟨w2.heap.size, 1, none⟩) (by simp)
  rw [World.cell?_alloc_mark] at q0 q1
  simp at q0 q1
  have hend : Below w.heap.size w w4 := ((hb1.trans (hb2.mono hz1)).alloc (by omega) _).trans (hB.mono (by omega))
  clear hB hb1 hb2 hb3 hb4
  go_wp2_with fail
  refine (awake_any _).mono ?_
  rintro _ w5 ⟨rfl, hb5⟩
  go_wp2
  go_ret
  exact ⟨rfl, hend.trans (hb5.mono (by omega))⟩

set_option maxHeartbeats 1600000 in
set_option maxRecDepth 100000 in
theorem back_10 (k : Nat) (s r : ByteArray) (w : World) (hk : k ≤ 255) (h1 : s.size ≤ 600) (h2 : r.size ≤ 600)
    (L1 : List UInt8) (E1 : Nat) (hL1 : putL k s.data.toList = L1) (hE1 : putE k s.data.toList = E1) (_hE1b : E1 ≤ 6)
    (t1 n1 e1 : Nat) (b1 : List UInt8) (hr1 : rd (L1 ++ r.data.toList) = (t1, b1, n1, e1)) (hq1 : E1 = 0)
    (t2 n2 e2 : Nat) (b2 : List UInt8) (hr2 : rd r.data.toList = (t2, b2, n2, e2)) (hq2 : e2 ≠ 0)
    (L3 : List UInt8) (E3 : Nat) (hL3 : putL t2 b2 = L3) (hE3 : putE t2 b2 = E3) :
    Calls Try.prog 5 #[.int .u8 k, .string s, .string r] w fun e w' => e = .returned (.bool true) ∧ Below w.heap.size w w' := by
  have hms : s.size ≤ maxLen := by unfold maxLen; omega
  have hmr : r.size ≤ maxLen := by unfold maxLen; omega
  have hll1 : L1.length ≤ 606 := by
    have := putL_len k s.data.toList (by rw [len_list]; omega)
    rw [hL1, len_list] at this; omega
  have hcat : (⟨L1.toArray⟩ : ByteArray) ++ r = ⟨(L1 ++ r.data.toList).toArray⟩ := by
    apply ByteArray.ext; simp [ByteArray.data_append]
  have hb2 : b2.length ≤ 600 := by
    have := rd_len _ _ _ _ _ hr2
    rw [len_list] at this; omega
  have HC1 := Lib.hid (put_c k s hms L1 E1 hL1 hE1)
  have HC2 := Lib.hid fun w => rd_any ⟨(L1 ++ r.data.toList).toArray⟩ w (by unfold maxLen; rw [show (ByteArray.mk (L1 ++ r.data.toList).toArray).size = (L1 ++ r.data.toList).length from rfl, List.length_append, len_list]; omega) t1 n1 e1 b1 hr1
  have HC3 := Lib.hid fun w => rd_any r w hmr t2 n2 e2 b2 hr2
  have HC4 := Lib.hid (put_c t2 ⟨b2.toArray⟩ (by unfold maxLen; rw [show (ByteArray.mk b2.toArray).size = b2.length from rfl]; omega) L3 E3 hL3 hE3)
  rw [← hcat] at HC2
  subst hq1
  have htl : tagB k = true ∧ s.data.toList.length ≤ 65536 := by
    unfold putE at hE1
    split at hE1
    · omega
    · split at hE1
      · omega
      · rename_i x y; exact ⟨by simpa using x, by omega⟩
  have hx := rd_put k s.data.toList r.data.toList htl.1 htl.2
  rw [hL1, hr1] at hx
  simp only [Prod.mk.injEq, Int.toNat_natCast] at hx
  obtain ⟨rfl, rfl, rfl, rfl⟩ := hx
  rw [mk_list] at HC2
  clear htl
  have hne2 : ((e2 : Int) != 0) = true := by rw [bne_iff_ne]; omega
  clear hL1 hE1 hr1 hr2 hL3 hE3 hms hmr hcat
  go_enter Try.func5, Try.ntmps5
  go_wp2_with fail
  refine (HC1.out _).mono ?_
  rintro _ w1 ⟨rfl, hb1⟩
  go_wp2_with fail
  refine (HC2.out _).mono ?_
  rintro _ w2 ⟨rfl, hb2⟩
  go_wp2_with fail
  refine (HC3.out _).mono ?_
  rintro _ w3 ⟨rfl, hb3⟩
  go_wp2_with fail
  refine (HC4.out _).mono ?_
  rintro _ w4 ⟨rfl, hb4⟩
  have hz1 : w.heap.size ≤ w1.heap.size := hb1.size
  have hz2 : w1.heap.size ≤ w2.heap.size := hb2.size
  have hz3 : w2.heap.size + 1 ≤ w3.heap.size := by have := hb3.size; simpa using this
  have hz4 : w3.heap.size + 1 ≤ w4.heap.size := by have := hb4.size; simpa using this
  have hB : Below (w2.heap.size + 1) _ w4 := ((hb3.mono (by simp)).alloc hz3 _).trans (hb4.mono (by simp; omega))
  have q0 := hB.cell (p := ⟨w2.heap.size, 0, none⟩) (by simp)
  have q1 := hB.cell (p := ⟨w2.heap.size, 1, none⟩) (by simp)
  rw [World.cell?_alloc_mark] at q0 q1
  simp at q0 q1
  have hend : Below w.heap.size w w4 := ((hb1.trans (hb2.mono hz1)).alloc (by omega) _).trans (hB.mono (by omega))
  clear hB hb1 hb2 hb3 hb4
  go_wp2_with fail
  refine (awake_any _).mono ?_
  rintro _ w5 ⟨rfl, hb5⟩
  go_wp2
  go_ret
  exact ⟨rfl, hend.trans (hb5.mono (by omega))⟩

set_option maxHeartbeats 1600000 in
set_option maxRecDepth 100000 in
theorem back_01 (k : Nat) (s r : ByteArray) (w : World) (hk : k ≤ 255) (h1 : s.size ≤ 600) (h2 : r.size ≤ 600)
    (L1 : List UInt8) (E1 : Nat) (hL1 : putL k s.data.toList = L1) (hE1 : putE k s.data.toList = E1) (_hE1b : E1 ≤ 6)
    (t1 n1 e1 : Nat) (b1 : List UInt8) (hr1 : rd (L1 ++ r.data.toList) = (t1, b1, n1, e1)) (hq1 : E1 ≠ 0)
    (t2 n2 e2 : Nat) (b2 : List UInt8) (hr2 : rd r.data.toList = (t2, b2, n2, e2)) (hq2 : e2 = 0)
    (L3 : List UInt8) (E3 : Nat) (hL3 : putL t2 b2 = L3) (hE3 : putE t2 b2 = E3) :
    Calls Try.prog 5 #[.int .u8 k, .string s, .string r] w fun e w' => e = .returned (.bool true) ∧ Below w.heap.size w w' := by
  have hms : s.size ≤ maxLen := by unfold maxLen; omega
  have hmr : r.size ≤ maxLen := by unfold maxLen; omega
  have hll1 : L1.length ≤ 606 := by
    have := putL_len k s.data.toList (by rw [len_list]; omega)
    rw [hL1, len_list] at this; omega
  have hcat : (⟨L1.toArray⟩ : ByteArray) ++ r = ⟨(L1 ++ r.data.toList).toArray⟩ := by
    apply ByteArray.ext; simp [ByteArray.data_append]
  have hb2 : b2.length ≤ 600 := by
    have := rd_len _ _ _ _ _ hr2
    rw [len_list] at this; omega
  have HC1 := Lib.hid (put_c k s hms L1 E1 hL1 hE1)
  have HC2 := Lib.hid fun w => rd_any ⟨(L1 ++ r.data.toList).toArray⟩ w (by unfold maxLen; rw [show (ByteArray.mk (L1 ++ r.data.toList).toArray).size = (L1 ++ r.data.toList).length from rfl, List.length_append, len_list]; omega) t1 n1 e1 b1 hr1
  have HC3 := Lib.hid fun w => rd_any r w hmr t2 n2 e2 b2 hr2
  have HC4 := Lib.hid (put_c t2 ⟨b2.toArray⟩ (by unfold maxLen; rw [show (ByteArray.mk b2.toArray).size = b2.length from rfl]; omega) L3 E3 hL3 hE3)
  rw [← hcat] at HC2
  have hne1 : ((E1 : Int) == 0) = false := beq_eq_false_iff_ne.2 (by omega)
  subst hq2
  obtain ⟨p1, p2, p3, p4, p5⟩ := put_rd _ _ _ _ hr2
  rw [hL3] at p1
  rw [hE3] at p2
  obtain rfl : E3 = 0 := by omega
  rw [len_list] at p3
  have hex : (r.extract 0 n2).toList = L3 := by rw [ByteArray.toList_eq, ext_data, p1]; simp
  have hl3 := toList_mk L3
  have hsl := fun w : World => run_slice_string_h (P := Try.prog) w 9 r Try.underlying9 .i64 (n2 : Int) (by omega) (by omega)
  clear p1 p2 p4 p5
  clear hL1 hE1 hr1 hr2 hL3 hE3 hms hmr hcat
  go_enter Try.func5, Try.ntmps5
  go_wp2_with fail
  refine (HC1.out _).mono ?_
  rintro _ w1 ⟨rfl, hb1⟩
  go_wp2_with fail
  refine (HC2.out _).mono ?_
  rintro _ w2 ⟨rfl, hb2⟩
  go_wp2_with fail
  refine (HC3.out _).mono ?_
  rintro _ w3 ⟨rfl, hb3⟩
  go_wp2_with fail
  refine (HC4.out _).mono ?_
  rintro _ w4 ⟨rfl, hb4⟩
  have hz1 : w.heap.size ≤ w1.heap.size := hb1.size
  have hz2 : w1.heap.size ≤ w2.heap.size := hb2.size
  have hz3 : w2.heap.size + 1 ≤ w3.heap.size := by have := hb3.size; simpa using this
  have hz4 : w3.heap.size + 1 ≤ w4.heap.size := by have := hb4.size; simpa using this
  have hB : Below (w2.heap.size + 1) _ w4 := ((hb3.mono (by simp)).alloc hz3 _).trans (hb4.mono (by simp; omega))
  have q0 := hB.cell (p := ⟨w2.heap.size, 0, none⟩) (by simp)
  have q1 := hB.cell (p := ⟨w2.heap.size, 1, none⟩) (by simp)
  rw [World.cell?_alloc_mark] at q0 q1
  simp at q0 q1
  have hend : Below w.heap.size w w4 := ((hb1.trans (hb2.mono hz1)).alloc (by omega) _).trans (hB.mono (by omega))
  clear hB hb1 hb2 hb3 hb4
  go_wp2_with fail
  refine (awake_any _).mono ?_
  rintro _ w5 ⟨rfl, hb5⟩
  go_wp2
  go_ret
  exact ⟨rfl, hend.trans (hb5.mono (by omega))⟩

set_option maxHeartbeats 1600000 in
set_option maxRecDepth 100000 in
theorem back_00 (k : Nat) (s r : ByteArray) (w : World) (hk : k ≤ 255) (h1 : s.size ≤ 600) (h2 : r.size ≤ 600)
    (L1 : List UInt8) (E1 : Nat) (hL1 : putL k s.data.toList = L1) (hE1 : putE k s.data.toList = E1) (_hE1b : E1 ≤ 6)
    (t1 n1 e1 : Nat) (b1 : List UInt8) (hr1 : rd (L1 ++ r.data.toList) = (t1, b1, n1, e1)) (hq1 : E1 ≠ 0)
    (t2 n2 e2 : Nat) (b2 : List UInt8) (hr2 : rd r.data.toList = (t2, b2, n2, e2)) (hq2 : e2 ≠ 0)
    (L3 : List UInt8) (E3 : Nat) (hL3 : putL t2 b2 = L3) (hE3 : putE t2 b2 = E3) :
    Calls Try.prog 5 #[.int .u8 k, .string s, .string r] w fun e w' => e = .returned (.bool true) ∧ Below w.heap.size w w' := by
  have hms : s.size ≤ maxLen := by unfold maxLen; omega
  have hmr : r.size ≤ maxLen := by unfold maxLen; omega
  have hll1 : L1.length ≤ 606 := by
    have := putL_len k s.data.toList (by rw [len_list]; omega)
    rw [hL1, len_list] at this; omega
  have hcat : (⟨L1.toArray⟩ : ByteArray) ++ r = ⟨(L1 ++ r.data.toList).toArray⟩ := by
    apply ByteArray.ext; simp [ByteArray.data_append]
  have hb2 : b2.length ≤ 600 := by
    have := rd_len _ _ _ _ _ hr2
    rw [len_list] at this; omega
  have HC1 := Lib.hid (put_c k s hms L1 E1 hL1 hE1)
  have HC2 := Lib.hid fun w => rd_any ⟨(L1 ++ r.data.toList).toArray⟩ w (by unfold maxLen; rw [show (ByteArray.mk (L1 ++ r.data.toList).toArray).size = (L1 ++ r.data.toList).length from rfl, List.length_append, len_list]; omega) t1 n1 e1 b1 hr1
  have HC3 := Lib.hid fun w => rd_any r w hmr t2 n2 e2 b2 hr2
  have HC4 := Lib.hid (put_c t2 ⟨b2.toArray⟩ (by unfold maxLen; rw [show (ByteArray.mk b2.toArray).size = b2.length from rfl]; omega) L3 E3 hL3 hE3)
  rw [← hcat] at HC2
  have hne1 : ((E1 : Int) == 0) = false := beq_eq_false_iff_ne.2 (by omega)
  have hne2 : ((e2 : Int) != 0) = true := by rw [bne_iff_ne]; omega
  clear hL1 hE1 hr1 hr2 hL3 hE3 hms hmr hcat
  go_enter Try.func5, Try.ntmps5
  go_wp2_with fail
  refine (HC1.out _).mono ?_
  rintro _ w1 ⟨rfl, hb1⟩
  go_wp2_with fail
  refine (HC2.out _).mono ?_
  rintro _ w2 ⟨rfl, hb2⟩
  go_wp2_with fail
  refine (HC3.out _).mono ?_
  rintro _ w3 ⟨rfl, hb3⟩
  go_wp2_with fail
  refine (HC4.out _).mono ?_
  rintro _ w4 ⟨rfl, hb4⟩
  have hz1 : w.heap.size ≤ w1.heap.size := hb1.size
  have hz2 : w1.heap.size ≤ w2.heap.size := hb2.size
  have hz3 : w2.heap.size + 1 ≤ w3.heap.size := by have := hb3.size; simpa using this
  have hz4 : w3.heap.size + 1 ≤ w4.heap.size := by have := hb4.size; simpa using this
  have hB : Below (w2.heap.size + 1) _ w4 := ((hb3.mono (by simp)).alloc hz3 _).trans (hb4.mono (by simp; omega))
  have q0 := hB.cell (p := ⟨w2.heap.size, 0, none⟩) (by simp)
  have q1 := hB.cell (p := ⟨w2.heap.size, 1, none⟩) (by simp)
  rw [World.cell?_alloc_mark] at q0 q1
  simp at q0 q1
  have hend : Below w.heap.size w w4 := ((hb1.trans (hb2.mono hz1)).alloc (by omega) _).trans (hB.mono (by omega))
  clear hB hb1 hb2 hb3 hb4
  go_wp2_with fail
  refine (awake_any _).mono ?_
  rintro _ w5 ⟨rfl, hb5⟩
  go_wp2
  go_ret
  exact ⟨rfl, hend.trans (hb5.mono (by omega))⟩

theorem back_walk (a : Int) (s r : ByteArray) (w : World) (ha : (Lit.int .u8 a).wf = true) (hm : s.size ≤ maxLen) (hm2 : r.size ≤ maxLen) :
    Calls Try.prog 5 #[.int .u8 a, .string s, .string r] w fun e w' => e = .returned (.bool true) ∧ Below w.heap.size w w' := by
  by_cases h : 600 < s.size ∨ 600 < r.size
  · exact back_asleep a s r w hm hm2 h
  · obtain ⟨h0, h255⟩ : 0 ≤ a ∧ a ≤ 255 := by
      simp only [Lit.wf, Bool.and_eq_true, decide_eq_true_eq] at ha
      exact ha
    obtain ⟨k, rfl⟩ := Int.eq_ofNat_of_zero_le h0
    obtain ⟨E1, hE1, hE1b⟩ := putE_nat k s.data.toList
    obtain ⟨t1, b1, n1, e1, hr1⟩ : ∃ t b n e, rd (putL k s.data.toList ++ r.data.toList) = (t, b, n, e) := ⟨_, _, _, _, rfl⟩
    obtain ⟨t2, b2, n2, e2, hr2⟩ : ∃ t b n e, rd r.data.toList = (t, b, n, e) := ⟨_, _, _, _, rfl⟩
    obtain ⟨E3, hE3, _⟩ := putE_nat t2 b2
    by_cases hq1 : E1 = 0
    · by_cases hq2 : e2 = 0
      · exact back_11 k s r w (by omega) (by omega) (by omega) _ E1 rfl hE1 hE1b t1 n1 e1 b1 hr1 hq1 t2 n2 e2 b2 hr2 hq2 _ E3 rfl hE3
      · exact back_10 k s r w (by omega) (by omega) (by omega) _ E1 rfl hE1 hE1b t1 n1 e1 b1 hr1 hq1 t2 n2 e2 b2 hr2 hq2 _ E3 rfl hE3
    · by_cases hq2 : e2 = 0
      · exact back_01 k s r w (by omega) (by omega) (by omega) _ E1 rfl hE1 hE1b t1 n1 e1 b1 hr1 hq1 t2 n2 e2 b2 hr2 hq2 _ E3 rfl hE3
      · exact back_00 k s r w (by omega) (by omega) (by omega) _ E1 rfl hE1 hE1b t1 n1 e1 b1 hr1 hq1 t2 n2 e2 b2 hr2 hq2 _ E3 rfl hE3
end Go.Proofs.Ytjhmekcfncpccaa
