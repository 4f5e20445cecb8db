/- The document's Head tells what the plain function hd tells, for texts whose length fits one byte, or is wrong, or is cut off. -/
import Derived.Test.YtlnfbjgadcifkaaDoorBerG
import Derived.Deep.QuietTactic
import Derived.BigQuiet
import Derived.WalkSmall
namespace Go.Proofs.YtlnfbjgadcifkaaDoor
open Go.RowKit Go.Proofs.BerM Go.Proofs.BerK

theorem lenB_eq_iff (N k : Nat) (bs : List UInt8) (hb : bs.length = k) (hN : natOf bs = N) (h0 : 0 < k) : lenB N = UInt8.ofNat (128 + k) :: bs ↔ moreN N = k := by
  constructor
  · intro h
    have hl := congrArg List.length h
    by_cases hs : N < 128
    · simp [lenB, hs] at hl; rw [← hb, hl] at h0; simp at h0
    · simp [lenB, hs] at hl
      simp [moreN, hs]; omega
  · intro h
    by_cases hs : N < 128
    · simp [moreN, hs] at h; omega
    · simp [moreN, hs] at h
      have : beF N = bs := natOf_inj _ _ (by omega) (by rw [natOf_beF, hN])
      rw [lenB, if_neg hs, h, this]

theorem not_empty (s : ByteArray) (h : 0 < s.size) : s.toList.isEmpty = false := by
  rw [ByteArray.toList_eq]
  have : s.data.toList.length = s.size := Array.length_toList
  cases hl : s.data.toList with
  | nil => rw [hl] at this; simp at this; omega
  | cons a l => rfl

set_option maxHeartbeats 800000 in
set_option maxRecDepth 100000 in
theorem rhd_none (s : ByteArray) (w : World) (h0 : s.size = 0) (t n m e : Nat) (h : hd s.data.toList = (t, n, m, e)) :
    Calls Tryd.prog 51 #[.string s] w fun en w' => en = .returned (.tuple #[.int .i64 t, .int .i64 n, .int .i64 m, .int .i64 e]) ∧ Below w.heap.size w w' := by
  have hv : (0, 0, 0, 4) = (t, n, m, e) := by rw [← h, hd, if_pos (by rw [len_list]; exact h0)]
  have HV := Lib.hid hv
  clear h hv
  obtain rfl : s = ByteArray.empty := by apply ByteArray.ext; exact Array.eq_empty_of_size_eq_zero h0
  clear h0
  go_enter Tryd.func51, Tryd.ntmps51
  go_wp2
  refine bodyPost_ret (v := .tuple #[.int .i64 (0 : Nat), .int .i64 (0 : Nat), .int .i64 (0 : Nat), .int .i64 (4 : Nat)]) (by simp [results, Tryd.results51, go_sem]) rfl ⟨ret4 HV.out, Below.refl _ _⟩

set_option maxHeartbeats 800000 in
set_option maxRecDepth 100000 in
theorem rhd_tag (s : ByteArray) (w : World) (h0 : 0 < s.size) (ht : tagB (s[0].toNat : Int) = false) (t n m e : Nat) (h : hd s.data.toList = (t, n, m, e)) :
    Calls Tryd.prog 51 #[.string s] w fun en w' => en = .returned (.tuple #[.int .i64 t, .int .i64 n, .int .i64 m, .int .i64 e]) ∧ Below w.heap.size w w' := by
  have hv : (0, 0, 0, 6) = (t, n, m, e) := by rw [← h, hd, at_get s 0 h0, if_neg (by rw [len_list]; omega), if_pos ht]
  have HV := Lib.hid hv
  clear h hv
  have hb : s[0].toNat < 256 := s[0].toNat_lt
  have hse := not_empty s h0
  go_enter Tryd.func51, Tryd.ntmps51
  go_wp2_with fail
  refine (tagged_any _ _).mono ?_
  rw [ht]
  rintro e w' ⟨rfl, rfl⟩
  go_wp2
  refine bodyPost_ret (v := .tuple #[.int .i64 (0 : Nat), .int .i64 (0 : Nat), .int .i64 (0 : Nat), .int .i64 (6 : Nat)]) (by simp [results, Tryd.results51, go_sem]) rfl ⟨ret4 HV.out, Below.refl _ _⟩

set_option maxHeartbeats 800000 in
set_option maxRecDepth 100000 in
theorem rhd_one (s : ByteArray) (w : World) (h0 : s.size = 1) (ht : tagB (s[0].toNat : Int) = true) (t n m e : Nat) (h : hd s.data.toList = (t, n, m, e)) :
    Calls Tryd.prog 51 #[.string s] w fun en w' => en = .returned (.tuple #[.int .i64 t, .int .i64 n, .int .i64 m, .int .i64 e]) ∧ Below w.heap.size w w' := by
  have hv : (0, 0, 0, 4) = (t, n, m, e) := by rw [← h, hd, at_get s 0 (by omega), if_neg (by rw [len_list]; omega), if_neg (by simp [ht]), if_pos (by rw [len_list]; exact h0)]
  have HV := Lib.hid hv
  clear h hv
  have hb : s[0].toNat < 256 := s[0].toNat_lt
  have hse := not_empty s (by omega)
  go_enter Tryd.func51, Tryd.ntmps51
  go_wp2_with fail
  refine (tagged_any _ _).mono ?_
  rw [ht]
  rintro e w' ⟨rfl, rfl⟩
  go_wp2
  refine bodyPost_ret (v := .tuple #[.int .i64 (0 : Nat), .int .i64 (0 : Nat), .int .i64 (0 : Nat), .int .i64 (4 : Nat)]) (by simp [results, Tryd.results51, go_sem]) rfl ⟨ret4 HV.out, Below.refl _ _⟩

theorem hd_ok (s : ByteArray) (h0 : 1 < s.size) (ht : tagB (s[0].toNat : Int) = true) (t n m e n1 m1 : Nat) (hr : rl (s.data.toList.drop 1) = (n1, m1, 0)) (h : hd s.data.toList = (t, n, m, e)) : (s[0].toNat, n1, 1 + m1, 0) = (t, n, m, e) := by
  rw [hd, at_get s 0 (by omega), if_neg (by rw [len_list]; omega), if_neg (by simp [ht]), if_neg (by rw [len_list]; omega), hr, if_neg (by simp)] at h
  exact h
theorem hd_err (s : ByteArray) (h0 : 1 < s.size) (ht : tagB (s[0].toNat : Int) = true) (t n m e n1 m1 e1 : Nat) (he : e1 ≠ 0) (hr : rl (s.data.toList.drop 1) = (n1, m1, e1)) (h : hd s.data.toList = (t, n, m, e)) : (0, 0, 0, e1) = (t, n, m, e) := by
  rw [hd, at_get s 0 (by omega), if_neg (by rw [len_list]; omega), if_neg (by simp [ht]), if_neg (by rw [len_list]; omega), hr, if_pos (by simpa using he)] at h
  exact h

theorem drop_get (s : ByteArray) (h0 : 1 < s.size) : (s.data.toList.drop 1).getD 0 0 = s[1] := by
  rw [← at_get s 1 h0]; simp [List.getD]

set_option maxHeartbeats 800000 in
set_option maxRecDepth 100000 in
theorem rhd_small (s : ByteArray) (w : World) (h0 : 1 < s.size) (h1 : s[1].toNat < 128) (ht : tagB (s[0].toNat : Int) = true) (t n m e : Nat) (h : hd s.data.toList = (t, n, m, e)) :
    Calls Tryd.prog 51 #[.string s] w fun en w' => en = .returned (.tuple #[.int .i64 t, .int .i64 n, .int .i64 m, .int .i64 e]) ∧ Below w.heap.size w w' := by
  have hv := hd_ok s h0 ht t n m e s[1].toNat 1 (by rw [rl, drop_get s h0, if_pos h1]) h
  have HV := Lib.hid hv
  clear h hv
  have hb : s[0].toNat < 256 := s[0].toNat_lt
  have hw0 : IntKind.i64.wrap (s[0].toNat : Int) = s[0].toNat := IntWalk.i64_in _ (by omega)
  have hw1 : IntKind.i64.wrap (s[1].toNat : Int) = s[1].toNat := IntWalk.i64_in _ (by omega)
  have hse := not_empty s (by omega)
  have hne1 : ((s.size : Int) == 1) = false := beq_eq_false_iff_ne.2 (by omega)
  go_enter Tryd.func51, Tryd.ntmps51
  go_wp2_with fail
  refine (tagged_any _ _).mono ?_
  rw [ht]
  rintro e w' ⟨rfl, rfl⟩
  go_wp2
  go_quiet (fail)
  go_wp2
  refine bodyPost_ret (v := .tuple #[.int .i64 (s[0].toNat : Nat), .int .i64 (s[1].toNat : Nat), .int .i64 (1 + 1 : Nat), .int .i64 (0 : Nat)]) (by simp [results, Tryd.results51, go_sem]) rfl ⟨ret4 HV.out, below_drewN (Below.refl _ _) _⟩

set_option maxHeartbeats 800000 in
set_option maxRecDepth 100000 in
theorem rhd_form (s : ByteArray) (w : World) (h0 : 1 < s.size) (h1 : s[1].toNat = 128 ∨ 132 < s[1].toNat) (ht : tagB (s[0].toNat : Int) = true) (t n m e : Nat) (h : hd s.data.toList = (t, n, m, e)) :
    Calls Tryd.prog 51 #[.string s] w fun en w' => en = .returned (.tuple #[.int .i64 t, .int .i64 n, .int .i64 m, .int .i64 e]) ∧ Below w.heap.size w w' := by
  have hv := hd_err s h0 ht t n m e 0 0 5 (by omega) (by rw [rl, drop_get s h0, if_neg (by omega), if_pos h1]) h
  have HV := Lib.hid hv
  clear h hv
  have hb : s[0].toNat < 256 := s[0].toNat_lt
  have hb1 : s[1].toNat < 256 := s[1].toNat_lt
  have hse := not_empty s (by omega)
  have hne1 : ((s.size : Int) == 1) = false := beq_eq_false_iff_ne.2 (by omega)
  rcases h1 with h1 | h1
  · go_enter Tryd.func51, Tryd.ntmps51
    go_wp2_with fail
    refine (tagged_any _ _).mono ?_
    rw [ht]
    rintro e w' ⟨rfl, rfl⟩
    go_wp2
    refine bodyPost_ret (v := .tuple #[.int .i64 (0 : Nat), .int .i64 (0 : Nat), .int .i64 (0 : Nat), .int .i64 (5 : Nat)]) (by simp [results, Tryd.results51, go_sem]) rfl ⟨ret4 HV.out, Below.refl _ _⟩
  · have h128 : ((s[1].toNat : Int) == 128) = false := beq_eq_false_iff_ne.2 (by omega)
    go_enter Tryd.func51, Tryd.ntmps51
    go_wp2_with fail
    refine (tagged_any _ _).mono ?_
    rw [ht]
    rintro e w' ⟨rfl, rfl⟩
    go_wp2
    refine bodyPost_ret (v := .tuple #[.int .i64 (0 : Nat), .int .i64 (0 : Nat), .int .i64 (0 : Nat), .int .i64 (5 : Nat)]) (by simp [results, Tryd.results51, go_sem]) rfl ⟨ret4 HV.out, Below.refl _ _⟩

set_option maxHeartbeats 800000 in
set_option maxRecDepth 100000 in
theorem rhd_cut (s : ByteArray) (w : World) (h0 : 1 < s.size) (hm : s.size ≤ maxLen) (k : Nat) (hk : s[1].toNat = 128 + k) (hk0 : 0 < k) (hk4 : k ≤ 4) (hc : s.size < 2 + k) (ht : tagB (s[0].toNat : Int) = true) (t n m e : Nat) (h : hd s.data.toList = (t, n, m, e)) :
    Calls Tryd.prog 51 #[.string s] w fun en w' => en = .returned (.tuple #[.int .i64 t, .int .i64 n, .int .i64 m, .int .i64 e]) ∧ Below w.heap.size w w' := by
  unfold maxLen at hm
  have hv := hd_err s h0 ht t n m e 0 0 4 (by omega) (by rw [rl, drop_get s h0, hk, if_neg (by omega), if_neg (by omega), if_pos (by rw [List.length_drop, len_list]; omega)]) h
  have HV := Lib.hid hv
  clear h hv
  have hb : s[0].toNat < 256 := s[0].toNat_lt
  have hse := not_empty s (by omega)
  have hne1 : ((s.size : Int) == 1) = false := beq_eq_false_iff_ne.2 (by omega)
  have h128 : ((128 + (k : Int)) == 128) = false := beq_eq_false_iff_ne.2 (by omega)
  have ek : (128 + (k : Int) - 128) = k := by omega
  go_enter Tryd.func51, Tryd.ntmps51
  go_wp2_with fail
  refine (tagged_any _ _).mono ?_
  rw [ht]
  rintro e w' ⟨rfl, rfl⟩
  go_wp2
  refine bodyPost_ret (v := .tuple #[.int .i64 (0 : Nat), .int .i64 (0 : Nat), .int .i64 (0 : Nat), .int .i64 (4 : Nat)]) (by simp [results, Tryd.results51, go_sem]) rfl ⟨ret4 HV.out, Below.refl _ _⟩
end Go.Proofs.YtlnfbjgadcifkaaDoor
