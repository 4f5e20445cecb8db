/- The code reads a length as the document says, for every text of one byte at least. -/
import Derived.Test.YtlnfbjgadcifkaaDoorBerE
namespace Go.Proofs.YtlnfbjgadcifkaaDoor
open Go.RowKit Go.Proofs.BerM Go.Proofs.BerK

/-- A length, how many bytes it has, the error. -/
def rl (l : List UInt8) : Nat × Nat × Nat :=
  if (l.getD 0 0).toNat < 128 then ((l.getD 0 0).toNat, 1, 0) else
  if (l.getD 0 0).toNat = 128 ∨ 132 < (l.getD 0 0).toNat then (0, 0, 5) else
  if l.length - 1 < (l.getD 0 0).toNat - 128 then (0, 0, 4) else
  if moreN (natOf ((l.drop 1).take ((l.getD 0 0).toNat - 128))) ≠ (l.getD 0 0).toNat - 128 then (0, 0, 5) else
  if 65536 < natOf ((l.drop 1).take ((l.getD 0 0).toNat - 128)) then (0, 0, 3) else
  (natOf ((l.drop 1).take ((l.getD 0 0).toNat - 128)), 1 + ((l.getD 0 0).toNat - 128), 0)

theorem at_get (s : ByteArray) (i : Nat) (h : i < s.size) : s.data.toList.getD i 0 = s[i] := by
  simp [List.getD, h]; rfl

theorem ret3 {a b c : Nat} {x y z : Nat} (h : (a, b, c) = (x, y, z)) : Ending.returned (.tuple #[.int .i64 (a : Int), .int .i64 (b : Int), .int .i64 (c : Int)]) = .returned (.tuple #[.int .i64 (x : Int), .int .i64 (y : Int), .int .i64 (z : Int)]) := by cases h; rfl

set_option maxHeartbeats 800000 in
set_option maxRecDepth 100000 in
theorem rl_small (s : ByteArray) (w : World) (h0 : 0 < s.size) (h1 : s[0].toNat < 128) (n m e : Nat) (h : rl s.data.toList = (n, m, e)) :
    Calls Tryd.prog 70 #[.string s] w fun en w' => en = .returned (.tuple #[.int .i64 n, .int .i64 m, .int .i64 e]) ∧ w = w' := by
  have hv : (s[0].toNat, 1, 0) = (n, m, e) := by rw [← h, rl, at_get s 0 h0, if_pos h1]
  have HV := Lib.hid hv
  clear h hv
  go_enter Tryd.func70, Tryd.ntmps70
  go_wp2
  go_ret3
  exact ⟨ret3 HV.out, rfl⟩

set_option maxHeartbeats 800000 in
set_option maxRecDepth 100000 in
theorem rl_form (s : ByteArray) (w : World) (h0 : 0 < s.size) (h1 : s[0].toNat = 128 ∨ 132 < s[0].toNat) (n m e : Nat) (h : rl s.data.toList = (n, m, e)) :
    Calls Tryd.prog 70 #[.string s] w fun en w' => en = .returned (.tuple #[.int .i64 n, .int .i64 m, .int .i64 e]) ∧ w = w' := by
  have hv : (0, 0, 5) = (n, m, e) := by rw [← h, rl, at_get s 0 h0, if_neg (by omega), if_pos h1]
  have HV := Lib.hid hv
  clear h hv
  rcases h1 with h1 | h1
  · have h2 : (s[0].toNat : Int) ≤ 128 := by omega
    have h3 : (128 : Int) ≤ s[0].toNat := by omega
    clear h1
    go_enter Tryd.func70, Tryd.ntmps70
    go_wp2
    go_ret3
    exact ⟨ret3 HV.out, rfl⟩
  · have hb : s[0].toNat < 256 := s[0].toNat_lt
    go_enter Tryd.func70, Tryd.ntmps70
    go_wp2
    go_ret3
    exact ⟨ret3 HV.out, rfl⟩

set_option maxHeartbeats 800000 in
set_option maxRecDepth 100000 in
theorem rl_cut (s : ByteArray) (w : World) (h0 : 0 < s.size) (hm : s.size ≤ maxLen) (k : Nat) (hk : s[0].toNat = 128 + k) (h1 : 0 < k) (h2 : k ≤ 4) (h3 : s.size - 1 < k) (n m e : Nat) (h : rl s.data.toList = (n, m, e)) :
    Calls Tryd.prog 70 #[.string s] w fun en w' => en = .returned (.tuple #[.int .i64 n, .int .i64 m, .int .i64 e]) ∧ w = w' := by
  unfold maxLen at hm
  have hv : (0, 0, 4) = (n, m, e) := by rw [← h, rl, at_get s 0 h0, hk, if_neg (by omega), if_neg (by omega), if_pos (by rw [Nat.add_sub_cancel_left]; simpa using h3)]
  have HV := Lib.hid hv
  clear h hv
  have hne : ((k : Int) == 0) = false := by simp; omega
  have ek : (128 + (k : Int) - 128) = k := by omega
  go_enter Tryd.func70, Tryd.ntmps70
  go_wp2
  go_ret3
  exact ⟨ret3 HV.out, rfl⟩

theorem ext_data (s : ByteArray) (i j : Nat) : (s.extract i j).data.toList = (s.data.toList.drop i).take (j - i) := by
  simp [List.take_drop]
theorem ext_size (s : ByteArray) (i j : Nat) (h : i ≤ j) (h2 : j ≤ s.size) : (s.extract i j).size = j - i := by
  simp; omega

set_option maxHeartbeats 800000 in
set_option maxRecDepth 100000 in
theorem rl_rest (s : ByteArray) (w : World) (h0 : 0 < s.size) (hm : s.size ≤ maxLen) (k : Nat) (hk : s[0].toNat = 128 + k) (h1 : 0 < k) (h2 : k ≤ 4) (h3 : 1 + k ≤ s.size) (n m e : Nat) (h : rl s.data.toList = (n, m, e)) :
    Calls Tryd.prog 70 #[.string s] w fun en w' => en = .returned (.tuple #[.int .i64 n, .int .i64 m, .int .i64 e]) ∧ w = w' := by
  unfold maxLen at hm
  rw [rl, at_get s 0 h0, hk, if_neg (by omega), if_neg (by omega), if_neg (by rw [Nat.add_sub_cancel_left]; simp; omega), Nat.add_sub_cancel_left] at h
  have hx : natOf (s.extract 1 (1 + k)).data.toList = natOf ((s.data.toList.drop 1).take k) := by rw [ext_data, Nat.add_sub_cancel_left]
  obtain ⟨N, hN⟩ : ∃ N, natOf ((s.data.toList.drop 1).take k) = N := ⟨_, rfl⟩
  have hlt : N < 4294967296 := by
    have h5 := natOf_lt ((s.data.toList.drop 1).take k)
    have h6 : ((s.data.toList.drop 1).take k).length ≤ k := List.length_take_le _ _
    have h7 : 256 ^ ((s.data.toList.drop 1).take k).length ≤ 256 ^ 4 := Nat.pow_le_pow_right (by omega) (by omega)
    omega
  rw [hN] at h hx
  have HX := Lib.hid hx
  have hne : ((k : Int) == 0) = false := by simp; omega
  have ek : (128 + (k : Int) - 128) = k := by omega
  have hi1 : (0 : Int) ≤ 1 := by omega
  have hsl := fun w : World => run_slice_string (P := Tryd.prog) w 9 s .i64 .i64 1 (1 + (k : Int)) Tryd.underlying9 (by omega) (by omega) (by omega)
  have he1 : 0 < (s.extract 1 (1 + k)).size := by rw [ext_size s 1 (1 + k) (by omega) h3]; omega
  have he2 : (s.extract 1 (1 + k)).size ≤ 4 := by rw [ext_size s 1 (1 + k) (by omega) h3]; omega
  have HE1 := Lib.hid he1
  have HE2 := Lib.hid he2
  clear hx hN he1 he2
  by_cases q1 : moreN N = k
  · rw [if_neg (by simp [q1])] at h
    have Q1 := Lib.hid q1
    have q2 : ((k : Int) != (k : Int)) = false := by simp
    clear q1
    by_cases q3 : 65536 < N
    · rw [if_pos q3] at h
      have HV := Lib.hid h
      clear h
      go_enter Tryd.func70, Tryd.ntmps70
      go_wp2_with fail
      refine (big_any (s.extract 1 (1 + k)) _ HE1.out HE2.out).mono ?_
      rintro e w' ⟨he, rfl⟩
      rw [HX.out] at he
      subst he
      go_wp2_with fail
      refine (more_any N _ hlt).mono ?_
      rw [Q1.out]
      rintro e w' ⟨rfl, rfl⟩
      go_wp2
      go_ret3
      exact ⟨ret3 HV.out, rfl⟩
    · rw [if_neg q3] at h
      have HV := Lib.hid h
      clear h
      go_enter Tryd.func70, Tryd.ntmps70
      go_wp2_with fail
      refine (big_any (s.extract 1 (1 + k)) _ HE1.out HE2.out).mono ?_
      rintro e w' ⟨he, rfl⟩
      rw [HX.out] at he
      subst he
      go_wp2_with fail
      refine (more_any N _ hlt).mono ?_
      rw [Q1.out]
      rintro e w' ⟨rfl, rfl⟩
      go_wp2
      go_ret3
      exact ⟨ret3 HV.out, rfl⟩
  · rw [if_pos q1] at h
    have q2 : ((moreN N : Int) != (k : Int)) = true := by rw [bne_iff_ne]; omega
    have HV := Lib.hid h
    clear h
    go_enter Tryd.func70, Tryd.ntmps70
    go_wp2_with fail
    refine (big_any (s.extract 1 (1 + k)) _ HE1.out HE2.out).mono ?_
    rintro e w' ⟨he, rfl⟩
    rw [HX.out] at he
    subst he
    go_wp2_with fail
    refine (more_any N _ hlt).mono ?_
    rintro e w' ⟨rfl, rfl⟩
    go_wp2
    go_ret3
    exact ⟨ret3 HV.out, rfl⟩

theorem rl_any (s : ByteArray) (w : World) (h0 : 0 < s.size) (hm : s.size ≤ maxLen) (n m e : Nat) (h : rl s.data.toList = (n, m, e)) :
    Calls Tryd.prog 70 #[.string s] w fun en w' => en = .returned (.tuple #[.int .i64 n, .int .i64 m, .int .i64 e]) ∧ w = w' := by
  by_cases h1 : s[0].toNat < 128
  · exact rl_small s w h0 h1 n m e h
  · by_cases h2 : s[0].toNat = 128 ∨ 132 < s[0].toNat
    · exact rl_form s w h0 h2 n m e h
    · obtain ⟨k, hk⟩ : ∃ k, s[0].toNat = 128 + k := ⟨s[0].toNat - 128, by omega⟩
      by_cases h3 : s.size - 1 < k
      · exact rl_cut s w h0 hm k hk (by omega) (by omega) h3 n m e h
      · exact rl_rest s w h0 hm k hk (by omega) (by omega) (by omega) n m e h
end Go.Proofs.YtlnfbjgadcifkaaDoor
