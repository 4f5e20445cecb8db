/- The truths' bytes: the code and the document tell the same; and the law's own examples answer true. -/
import Derived.Test.YtlnfbjgadcifkaaDoorNumD
import Derived.Test.YtlnfbjgadcifkaaDoorNumP
namespace Go.Proofs.YtlnfbjgadcifkaaDoor
open Go.RowKit Go.Proofs.NumM Go.Proofs.BerK

def boolB (b : Bool) : ByteArray := if b then ⟨#[255]⟩ else ⟨#[0]⟩

set_option maxHeartbeats 400000 in
set_option maxRecDepth 100000 in
theorem bool_any (b : Bool) (w : World) :
    Calls Tryd.prog 40 #[.bool b] w fun e w' => e = .returned (.string (boolB b)) ∧ Below w.heap.size w w' := by
  have hc := conv_one (P := Tryd.prog) 84 9 5 Tryd.underlying84 Tryd.underlying5 Tryd.underlying9
  cases b
  all_goals
    go_enter Tryd.func40, Tryd.ntmps40
    go_wp2
    go_ret
    exact ⟨rfl, (Below.refl _ _).alloc (Nat.le_refl _) _⟩

set_option maxHeartbeats 400000 in
set_option maxRecDepth 100000 in
theorem rbool_any (b : Bool) (w : World) :
    Calls Tryd.prog 44 #[.bool b] w fun e w' => e = .returned (.string (boolB b)) ∧ w = w' := by
  cases b
  all_goals
    go_enter Tryd.func44, Tryd.ntmps44
    go_wp2
    go_ret
    exact ⟨rfl, rfl⟩

/-- What ReadBool tells. -/
def rb (l : List UInt8) : Bool × Nat := if l = [] then (false, 4) else if l = [255] then (true, 0) else if l = [0] then (false, 0) else (false, 5)
def rbV (l : List UInt8) : Value := .tuple #[.bool (rb l).1, .int .i64 ((rb l).2 : Int)]
theorem ret_rb {b : Bool} {e : Nat} {l : List UInt8} (h : rb l = (b, e)) : Ending.returned (.tuple #[.bool b, .int .i64 (e : Int)]) = .returned (rbV l) := by rw [rbV, h]
theorem rb_bd (l : List UInt8) : (rb l).2 ≤ 5 := by unfold rb; repeat' split
                                                    all_goals simp

theorem one_list (s : ByteArray) (h : s.size = 1) : s.data.toList = [s[0]] := by
  have e := take_snoc s 0 (by omega)
  rw [List.take_of_length_le (by rw [len_listN]; omega)] at e
  simpa using e

set_option maxHeartbeats 400000 in
set_option maxRecDepth 100000 in
theorem readBool_any (s : ByteArray) (w : World) :
    Calls Tryd.prog 30 #[.string s] w fun e w' => e = .returned (rbV s.data.toList) ∧ w = w' := by
  by_cases h0 : s.size = 0
  · have hv : rb s.data.toList = (false, 4) := by rw [List.eq_nil_of_length_eq_zero (show s.data.toList.length = 0 by rw [len_listN]; exact h0)]; rfl
    have HV := Lib.hid hv
    clear hv
    go_enter Tryd.func30, Tryd.ntmps30
    go_wp2
    go_ret2
    exact ⟨ret_rb HV.out, rfl⟩
  · have hne : ((s.size : Int) == 0) = false := beq_eq_false_iff_ne.2 (by omega)
    have hp : 0 < s.size := by omega
    by_cases h1 : s.size = 1
    · have hl : s.data.toList = [s[0]'hp] := one_list s h1
      have h8 : (s[0]'hp).toNat < 256 := (s[0]'hp).toNat_lt
      by_cases q1 : (s[0]'hp).toNat = 255
      · have hv : rb s.data.toList = (true, 0) := by rw [hl, show s[0]'hp = 255 from UInt8.toNat_inj.1 q1]; rfl
        have HV := Lib.hid hv
        have p1 : (((s[0]'hp).toNat : Int) != 255) = false := by simp [q1]
        have p2 : (((s[0]'hp).toNat : Int) == 255) = true := by simp [q1]
        have h11 : s.size ≤ 1 := by omega
        clear hv hl q1 h1 h0
        go_enter Tryd.func30, Tryd.ntmps30
        go_wp2
        go_ret2
        exact ⟨ret_rb HV.out, rfl⟩
      · by_cases q2 : (s[0]'hp).toNat = 0
        · have hv : rb s.data.toList = (false, 0) := by rw [hl, show s[0]'hp = 0 from UInt8.toNat_inj.1 q2]; rfl
          have HV := Lib.hid hv
          have p1 : (((s[0]'hp).toNat : Int) != 255) = true := by simp [q2]
          have p2 : (((s[0]'hp).toNat : Int) == 255) = false := by simp [q2]
          have p3 : (((s[0]'hp).toNat : Int) != 0) = false := by simp [q2]
          have h11 : s.size ≤ 1 := by omega
          clear hv hl q1 q2 h1 h0
          go_enter Tryd.func30, Tryd.ntmps30
          go_wp2
          go_ret2
          exact ⟨ret_rb HV.out, rfl⟩
        · have hv : rb s.data.toList = (false, 5) := by
            have e1 : s[0]'hp ≠ 255 := fun h => q1 (by rw [h]; rfl)
            have e2 : s[0]'hp ≠ 0 := fun h => q2 (by rw [h]; rfl)
            rw [hl, rb, if_neg (by simp), if_neg (by simpa using e1), if_neg (by simpa using e2)]
          have HV := Lib.hid hv
          have p1 : (((s[0]'hp).toNat : Int) != 255) = true := by simp; omega
          have p3 : (((s[0]'hp).toNat : Int) != 0) = true := by simp; omega
          have h11 : s.size ≤ 1 := by omega
          clear hv hl q1 q2 h1 h0
          go_enter Tryd.func30, Tryd.ntmps30
          go_wp2
          go_ret2
          exact ⟨ret_rb HV.out, rfl⟩
    · have hv : rb s.data.toList = (false, 5) := by
        have hlen := len_listN s
        rw [rb, if_neg (fun h => by rw [h] at hlen; simp at hlen; omega), if_neg (fun h => by rw [h] at hlen; simp at hlen; omega), if_neg (fun h => by rw [h] at hlen; simp at hlen; omega)]
      have HV := Lib.hid hv
      have h11 : 1 < s.size := by omega
      clear hv h1 h0
      go_enter Tryd.func30, Tryd.ntmps30
      go_wp2
      go_ret2
      exact ⟨ret_rb HV.out, rfl⟩

theorem put_1 (w : World) : Calls Tryd.prog 39 #[.int .i64 128] w fun e w' => e = .returned (.tuple #[.string ⟨#[0, 128]⟩, .int .i64 0]) ∧ Below w.heap.size w w' :=
  (nput_any 128 w).mono fun e w' ⟨h1, h2⟩ => ⟨by rw [h1]; rfl, h2⟩
theorem put_2 (w : World) : Calls Tryd.prog 39 #[.int .i64 (-1)] w fun e w' => e = .returned (.tuple #[.string ⟨#[255]⟩, .int .i64 0]) ∧ Below w.heap.size w w' :=
  (nput_any (-1) w).mono fun e w' ⟨h1, h2⟩ => ⟨by rw [h1]; rfl, h2⟩
theorem put_3 (w : World) : Calls Tryd.prog 39 #[.int .i64 2147483648] w fun e w' => e = .returned (.tuple #[.string ⟨#[]⟩, .int .i64 2]) ∧ Below w.heap.size w w' :=
  (nput_any 2147483648 w).mono fun e w' ⟨h1, h2⟩ => ⟨by rw [h1]; rfl, h2⟩
theorem readN_1 (w : World) : Calls Tryd.prog 29 #[.string ⟨#[255, 127]⟩] w fun e w' => e = .returned (.tuple #[.int .i64 (-129), .int .i64 0]) ∧ w = w' := nread_any ⟨#[255, 127]⟩ w
theorem readN_2 (w : World) : Calls Tryd.prog 29 #[.string ⟨#[0, 1]⟩] w fun e w' => e = .returned (.tuple #[.int .i64 0, .int .i64 5]) ∧ w = w' := nread_any ⟨#[0, 1]⟩ w
theorem readN_3 (w : World) : Calls Tryd.prog 29 #[.string ⟨#[1, 0, 0, 0, 0]⟩] w fun e w' => e = .returned (.tuple #[.int .i64 0, .int .i64 3]) ∧ w = w' := nread_any ⟨#[1, 0, 0, 0, 0]⟩ w
theorem bool_1 (w : World) : Calls Tryd.prog 40 #[.bool true] w fun e w' => e = .returned (.string ⟨#[255]⟩) ∧ Below w.heap.size w w' := bool_any true w
theorem readB_1 (w : World) : Calls Tryd.prog 30 #[.string ⟨#[255]⟩] w fun e w' => e = .returned (.tuple #[.bool true, .int .i64 0]) ∧ w = w' := readBool_any ⟨#[255]⟩ w
theorem readB_2 (w : World) : Calls Tryd.prog 30 #[.string ⟨#[1]⟩] w fun e w' => e = .returned (.tuple #[.bool false, .int .i64 5]) ∧ w = w' := readBool_any ⟨#[1]⟩ w

end Go.Proofs.YtlnfbjgadcifkaaDoor
