/- The code's Head tells what the plain function hd tells, for every text that is no longer than a text may be. -/
import Derived.Test.YtlnfbjgadcifkaaDoorBerF
namespace Go.Proofs.YtlnfbjgadcifkaaDoor
open Go.RowKit Go.Proofs.BerM Go.Proofs.BerK

/-- A tag, a length, how many bytes both have, the error. -/
def hd (l : List UInt8) : Nat × Nat × Nat × Nat :=
  if l.length = 0 then (0, 0, 0, 4) else
  if tagB ((l.getD 0 0).toNat : Int) = false then (0, 0, 0, 6) else
  if l.length = 1 then (0, 0, 0, 4) else
  if (rl (l.drop 1)).2.2 ≠ 0 then (0, 0, 0, (rl (l.drop 1)).2.2) else
  ((l.getD 0 0).toNat, (rl (l.drop 1)).1, 1 + (rl (l.drop 1)).2.1, 0)

theorem len_list (s : ByteArray) : s.data.toList.length = s.size := Array.length_toList
theorem ret4 {a b c d : Nat} {x y z u : Nat} (h : (a, b, c, d) = (x, y, z, u)) : Ending.returned (.tuple #[.int .i64 (a : Int), .int .i64 (b : Int), .int .i64 (c : Int), .int .i64 (d : Int)]) = .returned (.tuple #[.int .i64 (x : Int), .int .i64 (y : Int), .int .i64 (z : Int), .int .i64 (u : Int)]) := by cases h; rfl

set_option maxHeartbeats 800000 in
set_option maxRecDepth 100000 in
theorem hd_none (s : ByteArray) (w : World) (h0 : s.size = 0) (t n m e : Nat) (h : hd s.data.toList = (t, n, m, e)) :
    Calls Tryd.prog 64 #[.string s] w fun en w' => en = .returned (.tuple #[.int .i64 t, .int .i64 n, .int .i64 m, .int .i64 e]) ∧ w = w' := by
  have hv : (0, 0, 0, 4) = (t, n, m, e) := by rw [← h, hd, if_pos (by rw [len_list]; exact h0)]
  have HV := Lib.hid hv
  clear h hv
  go_enter Tryd.func64, Tryd.ntmps64
  go_wp2
  refine bodyPost_ret (v := .tuple #[.int .i64 (0 : Nat), .int .i64 (0 : Nat), .int .i64 (0 : Nat), .int .i64 (4 : Nat)]) (by simp [results, Tryd.results64, go_sem]) rfl ⟨ret4 HV.out, rfl⟩

set_option maxHeartbeats 800000 in
set_option maxRecDepth 100000 in
theorem hd_tag (s : ByteArray) (w : World) (h0 : 0 < s.size) (ht : tagB (s[0].toNat : Int) = false) (t n m e : Nat) (h : hd s.data.toList = (t, n, m, e)) :
    Calls Tryd.prog 64 #[.string s] w fun en w' => en = .returned (.tuple #[.int .i64 t, .int .i64 n, .int .i64 m, .int .i64 e]) ∧ w = w' := by
  have hv : (0, 0, 0, 6) = (t, n, m, e) := by rw [← h, hd, at_get s 0 h0, if_neg (by rw [len_list]; omega), if_pos ht]
  have HV := Lib.hid hv
  clear h hv
  have hb : s[0].toNat < 256 := s[0].toNat_lt
  have hne : ((s.size : Int) == 0) = false := beq_eq_false_iff_ne.2 (by omega)
  go_enter Tryd.func64, Tryd.ntmps64
  go_wp2_with fail
  refine (isTag_any _ _).mono ?_
  rw [ht]
  rintro e w' ⟨rfl, rfl⟩
  go_wp2
  refine bodyPost_ret (v := .tuple #[.int .i64 (0 : Nat), .int .i64 (0 : Nat), .int .i64 (0 : Nat), .int .i64 (6 : Nat)]) (by simp [results, Tryd.results64, go_sem]) rfl ⟨ret4 HV.out, rfl⟩

set_option maxHeartbeats 800000 in
set_option maxRecDepth 100000 in
theorem hd_one (s : ByteArray) (w : World) (h0 : s.size = 1) (ht : tagB (s[0].toNat : Int) = true) (t n m e : Nat) (h : hd s.data.toList = (t, n, m, e)) :
    Calls Tryd.prog 64 #[.string s] w fun en w' => en = .returned (.tuple #[.int .i64 t, .int .i64 n, .int .i64 m, .int .i64 e]) ∧ w = w' := by
  have hv : (0, 0, 0, 4) = (t, n, m, e) := by rw [← h, hd, at_get s 0 (by omega), if_neg (by rw [len_list]; omega), if_neg (by simp [ht]), if_pos (by rw [len_list]; exact h0)]
  have HV := Lib.hid hv
  clear h hv
  have hb : s[0].toNat < 256 := s[0].toNat_lt
  go_enter Tryd.func64, Tryd.ntmps64
  go_wp2_with fail
  refine (isTag_any _ _).mono ?_
  rw [ht]
  rintro e w' ⟨rfl, rfl⟩
  go_wp2
  refine bodyPost_ret (v := .tuple #[.int .i64 (0 : Nat), .int .i64 (0 : Nat), .int .i64 (0 : Nat), .int .i64 (4 : Nat)]) (by simp [results, Tryd.results64, go_sem]) rfl ⟨ret4 HV.out, rfl⟩

set_option maxHeartbeats 800000 in
set_option maxRecDepth 100000 in
theorem hd_rest (s : ByteArray) (w : World) (h0 : 1 < s.size) (hm : s.size ≤ maxLen) (ht : tagB (s[0].toNat : Int) = true) (t n m e : Nat) (h : hd s.data.toList = (t, n, m, e)) :
    Calls Tryd.prog 64 #[.string s] w fun en w' => en = .returned (.tuple #[.int .i64 t, .int .i64 n, .int .i64 m, .int .i64 e]) ∧ w = w' := by
  rw [hd, at_get s 0 (by omega), if_neg (by rw [len_list]; omega), if_neg (by simp [ht]), if_neg (by rw [len_list]; omega)] at h
  have hx : (s.extract 1 s.size).data.toList = s.data.toList.drop 1 := by rw [ext_data, List.take_of_length_le (by simp)]
  have hxs : 0 < (s.extract 1 s.size).size ∧ (s.extract 1 s.size).size ≤ maxLen := by rw [ext_size s 1 s.size (by omega) (by omega)]; omega
  obtain ⟨n1, m1, e1, hr⟩ : ∃ n1 m1 e1, rl (s.data.toList.drop 1) = (n1, m1, e1) := ⟨_, _, _, rfl⟩
  have hr' : rl (s.extract 1 s.size).data.toList = (n1, m1, e1) := by rw [hx, hr]
  have HC := Lib.hid fun w => rl_any (s.extract 1 s.size) w hxs.1 hxs.2 n1 m1 e1 hr'
  have hb : s[0].toNat < 256 := s[0].toNat_lt
  have hm1 : m1 ≤ 5 := by
    rw [rl] at hr
    repeat' split at hr
    all_goals (simp only [Prod.mk.injEq] at hr; omega)
  rw [hr] at h
  have hne : ((s.size : Int) == 0) = false := beq_eq_false_iff_ne.2 (by omega)
  have hne1 : ((s.size : Int) == 1) = false := beq_eq_false_iff_ne.2 (by omega)
  unfold maxLen at hm
  clear hx hxs hr' hr
  by_cases q : e1 = 0
  · rw [if_neg (by simp [q])] at h
    subst q
    have HV := Lib.hid h
    clear h
    go_enter Tryd.func64, Tryd.ntmps64
    go_wp2_with fail
    refine (isTag_any _ _).mono ?_
    rw [ht]
    rintro e w' ⟨rfl, rfl⟩
    go_wp2_with fail
    refine (HC.out _).mono ?_
    rintro e w' ⟨rfl, rfl⟩
    go_wp2
    refine bodyPost_ret (v := .tuple #[.int .i64 (s[0].toNat : Nat), .int .i64 (n1 : Nat), .int .i64 (1 + m1 : Nat), .int .i64 (0 : Nat)]) (by simp [results, Tryd.results64, go_sem]) rfl ⟨ret4 HV.out, rfl⟩
  · rw [if_pos (by simpa using q)] at h
    have HV := Lib.hid h
    clear h
    have q1 : ((e1 : Int) != 0) = true := by rw [bne_iff_ne]; omega
    go_enter Tryd.func64, Tryd.ntmps64
    go_wp2_with fail
    refine (isTag_any _ _).mono ?_
    rw [ht]
    rintro e w' ⟨rfl, rfl⟩
    go_wp2_with fail
    refine (HC.out _).mono ?_
    rintro e w' ⟨rfl, rfl⟩
    go_wp2
    refine bodyPost_ret (v := .tuple #[.int .i64 (0 : Nat), .int .i64 (0 : Nat), .int .i64 (0 : Nat), .int .i64 (e1 : Nat)]) (by simp [results, Tryd.results64, go_sem]) rfl ⟨ret4 HV.out, rfl⟩

theorem hd_any (s : ByteArray) (w : World) (hm : s.size ≤ maxLen) (t n m e : Nat) (h : hd s.data.toList = (t, n, m, e)) :
    Calls Tryd.prog 64 #[.string s] w fun en w' => en = .returned (.tuple #[.int .i64 t, .int .i64 n, .int .i64 m, .int .i64 e]) ∧ w = w' := by
  by_cases h0 : s.size = 0
  · exact hd_none s w h0 t n m e h
  · by_cases ht : tagB (s[0].toNat : Int) = true
    · by_cases h1 : s.size = 1
      · exact hd_one s w h1 ht t n m e h
      · exact hd_rest s w (by omega) hm ht t n m e h
    · exact hd_tag s w (by omega) (by simpa using ht) t n m e h
end Go.Proofs.YtlnfbjgadcifkaaDoor
