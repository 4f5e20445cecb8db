/- The walks of the three laws of layer 2: each returns true and leaves what was in memory as it was. -/
import Derived.Test.YtmoangighcnpkaaNumE
namespace Go.Proofs.Ytmoangighcnpkaa
open Go.RowKit Go.Proofs.NumM Go.Proofs.BerK

theorem toList_mkN (l : List UInt8) : (ByteArray.mk l.toArray).toList = l := by rw [ByteArray.toList_eq]

theorem nput_c (n : Int) (L : List UInt8) (E : Int) (h1 : npL n = L) (h2 : npE n = E) (w : World) :
    Calls Try.prog 7 #[.int .i64 n] w fun e w' => e = .returned (.tuple #[.string ⟨L.toArray⟩, .int .i64 E]) ∧ Below w.heap.size w w' := by
  subst h1; subst h2; exact nput_any n w
theorem rnput_c (n : Int) (L : List UInt8) (E : Int) (h1 : npL n = L) (h2 : npE n = E) (w : World) :
    Calls Try.prog 8 #[.int .i64 n] w fun e w' => e = .returned (.tuple #[.string ⟨L.toArray⟩, .int .i64 E]) ∧ Below w.heap.size w w' := by
  subst h1; subst h2; exact rnput_any n w
theorem nread_c (s : ByteArray) (k : Int) (e : Nat) (h : nr s.data.toList = (k, e)) (w : World) :
    Calls Try.prog 9 #[.string s] w fun en w' => en = .returned (.tuple #[.int .i64 k, .int .i64 (e : Int)]) ∧ w = w' := by
  have := nread_any s w; rw [nrV, h] at this; exact this
theorem rnread_c (s : ByteArray) (k : Int) (e : Nat) (h : nr s.data.toList = (k, e)) (w : World) :
    Calls Try.prog 10 #[.string s] w fun en w' => en = .returned (.tuple #[.int .i64 k, .int .i64 (e : Int)]) ∧ w = w' := by
  have := rnread_any s w; rw [nrV, h] at this; exact this
theorem readBool_c (s : ByteArray) (k : Bool) (e : Nat) (h : rb s.data.toList = (k, e)) (w : World) :
    Calls Try.prog 11 #[.string s] w fun en w' => en = .returned (.tuple #[.bool k, .int .i64 (e : Int)]) ∧ w = w' := by
  have := readBool_any s w; rw [rbV, h] at this; exact this
theorem rreadBool_c (s : ByteArray) (k : Bool) (e : Nat) (h : rb s.data.toList = (k, e)) (w : World) :
    Calls Try.prog 12 #[.string s] w fun en w' => en = .returned (.tuple #[.bool k, .int .i64 (e : Int)]) ∧ w = w' := by
  have := rreadBool_any s w; rw [rbV, h] at this; exact this

/-! ### NumTells -/
set_option maxHeartbeats 800000 in
set_option maxRecDepth 100000 in
theorem tells_asleep (n : Int) (s : ByteArray) (w : World) (hm : s.size ≤ maxLen) (h1 : 100 < s.size) :
    Calls Try.prog 3 #[.int .i64 n, .string s] w fun e w' => e = .returned (.bool true) ∧ Below w.heap.size w w' := by
  unfold maxLen at hm
  go_enter Try.func3, Try.ntmps3
  go_wp2_with fail
  refine (awakeN_any _).mono ?_
  rintro e w1 ⟨rfl, hb1⟩
  go_wp2
  go_ret
  exact ⟨rfl, hb1⟩

set_option maxHeartbeats 1600000 in
set_option maxRecDepth 100000 in
theorem tells_core (n : Int) (s : ByteArray) (w : World) (h1 : s.size ≤ 100) :
    Calls Try.prog 3 #[.int .i64 n, .string s] w fun e w' => e = .returned (.bool true) ∧ Below w.heap.size w w' := by
  obtain ⟨L, hL⟩ : ∃ L, npL n = L := ⟨_, rfl⟩
  obtain ⟨E, hE⟩ : ∃ E, npE n = E := ⟨_, rfl⟩
  obtain ⟨k, e2, hr⟩ : ∃ k e, nr s.data.toList = (k, e) := ⟨_, _, rfl⟩
  obtain ⟨t, e3, hb⟩ : ∃ t e, rb s.data.toList = (t, e) := ⟨_, _, rfl⟩
  have hEb := npE_bd n
  rw [hE] at hEb
  obtain ⟨hE0, hE2⟩ := hEb
  have hrb := nr_bd s.data.toList
  rw [hr] at hrb
  have hr5 : e2 ≤ 5 := hrb.1
  clear hrb
  have hbb := rb_bd s.data.toList
  rw [hb] at hbb
  have hb5 : e3 ≤ 5 := hbb
  clear hbb
  have HC1 := Lib.hid (nput_c n L E hL hE)
  have HC2 := Lib.hid (rnput_c n L E hL hE)
  have HC3 := Lib.hid (nread_c s k e2 hr)
  have HC4 := Lib.hid (rnread_c s k e2 hr)
  have HC5 := Lib.hid (readBool_c s t e3 hb)
  have HC6 := Lib.hid (rreadBool_c s t e3 hb)
  have hll := toList_mkN L
  have hcb : ∀ b, (boolB b).toList = if b then [255] else [0] := by
    intro b; rw [ByteArray.toList_eq]; cases b <;> rfl
  have HB := Lib.hid hcb
  clear hL hE hr hb hcb
  by_cases hp : 0 < n
  all_goals
    go_enter Try.func3, Try.ntmps3
    go_wp2_with fail
    refine (HC1.out _).mono ?_
    rintro e w1 ⟨rfl, hb1⟩
    go_wp2_with fail
    refine (HC2.out _).mono ?_
    rintro e w2 ⟨rfl, hb2⟩
    go_wp2_with fail
    refine (HC3.out _).mono ?_
    rintro e w' ⟨rfl, rfl⟩
    go_wp2_with fail
    refine (HC4.out _).mono ?_
    rintro e w' ⟨rfl, rfl⟩
    go_wp2_with fail
    refine (HC5.out _).mono ?_
    rintro e w' ⟨rfl, rfl⟩
    go_wp2_with fail
    refine (HC6.out _).mono ?_
    rintro e w' ⟨rfl, rfl⟩
    go_wp2_with fail
    refine (bool_any _ _).mono ?_
    rintro e w3 ⟨rfl, hb3⟩
    go_wp2_with fail
    refine (rbool_any _ _).mono ?_
    rintro e w' ⟨rfl, rfl⟩
    go_wp2_with fail
    refine (awakeN_any _).mono ?_
    rintro e w4 ⟨rfl, hb4⟩
    have hend : Below w.heap.size w w4 := ((hb1.trans (hb2.mono hb1.size)).trans (hb3.mono (Nat.le_trans hb1.size hb2.size))).trans (hb4.mono (Nat.le_trans (Nat.le_trans hb1.size hb2.size) hb3.size))
    clear hb1 hb2 hb3 hb4
    go_wp2
    go_ret
    exact ⟨rfl, hend⟩

theorem tells_walk (n : Int) (s : ByteArray) (w : World) (hm : s.size ≤ maxLen) :
    Calls Try.prog 3 #[.int .i64 n, .string s] w fun e w' => e = .returned (.bool true) ∧ Below w.heap.size w w' := by
  by_cases h : 100 < s.size
  · exact tells_asleep n s w hm h
  · exact tells_core n s w (by omega)
end Go.Proofs.Ytmoangighcnpkaa
