/- The law of names joined, for all texts. -/
import Derived.Test.YtdmjnfadhlgpkaaGreatDoorPlD
namespace Go.Proofs.YtdmjnfadhlgpkaaGreatDoor
set_option linter.unusedSimpArgs false
set_option linter.unusedVariables false
open Go Go.RowKit Go.Proofs.BerK Go.Proofs.MemK Go.Proofs.UtfK

theorem bl_of2 (s : ByteArray) : ∃ l : List UInt8, s = ⟨l.toArray⟩ := ⟨s.data.toList, (mk_list s).symm⟩
theorem join_two (a c : List UInt8) : (∃ n : Nat, n ≠ 0 ∧ joinL a c = ([], n)) ∨ ∃ x, joinL a c = (x, 0) := by
  obtain ⟨x, n, h⟩ : ∃ x n, joinL a c = (x, n) := ⟨_, _, rfl⟩
  by_cases hn : n = 0
  · subst hn; exact .inr ⟨x, h⟩
  · have := join_err h hn
    subst this
    exact .inl ⟨n, hn, h⟩
theorem depL_le (c : List UInt8) : -1 ≤ depL c ∧ depL c ≤ 32 := by
  unfold depL
  cases h : nrD c with
  | none => simp
  | some D => have := (nr_some h).2.1; simp; omega
set_option maxHeartbeats 12800000 in
set_option maxRecDepth 100000 in
theorem pjoins_any (a b c : ByteArray) (w : World) (he : ErrOk w) : Calls Tryz.prog 5 #[.string a, .string b, .string c] w (BoolPost true w) := by
  obtain ⟨a, rfl⟩ := bl_of2 a
  obtain ⟨b, rfl⟩ := bl_of2 b
  obtain ⟨c, rfl⟩ := bl_of2 c
  have HE := Lib.hid he
  have hbW : Below w.heap.size w w := Below.refl _ w
  have HW := Lib.hid (fun w' (hb : Below w.heap.size w w') => pawake_any w' (errOk_below he hb))
  by_cases h0 : 300 < a.length ∨ 300 < b.length ∨ 300 < c.length
  · have h1 : (300 : Int) < (a.length : Int) ∨ (¬ (300 : Int) < (a.length : Int) ∧ (300 : Int) < (b.length : Int)) ∨ (¬ (300 : Int) < (a.length : Int) ∧ ¬ (300 : Int) < (b.length : Int) ∧ (300 : Int) < (c.length : Int)) := by omega
    clear h0 he
    rcases h1 with q1 | ⟨q1, q2⟩ | ⟨q1, q2, q3⟩
    all_goals
      go_enter Tryz.func5, Tryz.ntmps5
      go_wp2_with fail
      refine (HW.out _ hbW).mono ?_
      rintro en w5 ⟨rfl, hb5⟩
      have hbW := hbW.trans (hb5.mono hbW.size)
      go_wp2
      go_ret
      exact boolPost_mk rfl hbW
  have z1 : ¬ (300 : Int) < (a.length : Int) := by omega
  have z2 : ¬ (300 : Int) < (b.length : Int) := by omega
  have z3 : ¬ (300 : Int) < (c.length : Int) := by omega
  have HJ := Lib.hid (fun w' (hb : Below w.heap.size w w') => join_any a c w' (errOk_below he hb))
  have HK := Lib.hid (fun w' (hb : Below w.heap.size w w') => join_any b c w' (errOk_below he hb))
  have HL := Lib.hid (fun x w' (hb : Below w.heap.size w w') => leaf_any x w' (errOk_below he hb))
  have HP := Lib.hid (fun x w' (hb : Below w.heap.size w w') => parent_any x w' (errOk_below he hb))
  have HD := Lib.hid (fun x w' (hb : Below w.heap.size w w') => depth_any x w' (errOk_below he hb))
  rcases join_two a c with ⟨n, hn, e1⟩ | ⟨x, e1⟩
  · have q : ((n : Int) != 0) = true := by rw [bne_iff_ne]; omega
    rw [e1] at HJ
    obtain ⟨y, m, e2⟩ : ∃ y m, joinL b c = (y, m) := ⟨_, _, rfl⟩
    rw [e2] at HK
    clear h0 he e1 e2 HL HP HD hn
    go_enter Tryz.func5, Tryz.ntmps5
    go_wp2_with ((first | with_reducible refine (HJ.out _ hbW).mono ?_ | with_reducible refine (HK.out _ hbW).mono ?_ | with_reducible refine (HW.out _ hbW).mono ?_); rintro en w5 ⟨rfl, hb5⟩; have hbW := hbW.trans (hb5.mono hbW.size))
    go_ret
    exact boolPost_mk rfl hbW
  · obtain ⟨f1, f2, f3⟩ := join_parts e1
    have HL1 := Lib.hid (HL.out x)
    have HP1 := Lib.hid (HP.out x)
    have HD1 := Lib.hid (HD.out x)
    have HD2 := Lib.hid (HD.out c)
    obtain ⟨q1, q2⟩ := depL_le c
    rw [e1] at HJ
    rw [f1] at HL1
    rw [f2] at HP1
    rw [f3] at HD1
    obtain ⟨d, hd⟩ : ∃ d, depL c = d := ⟨_, rfl⟩
    rw [hd] at HD1 HD2 q1 q2
    rcases join_two b c with ⟨n, hn, e2⟩ | ⟨y, e2⟩
    · have q : ((n : Int) != 0) = true := by rw [bne_iff_ne]; omega
      rw [e2] at HK
      clear h0 he e1 e2 f1 f2 f3 HL HP HD hn hd
      go_enter Tryz.func5, Tryz.ntmps5
      go_wp2_with ((first | with_reducible refine (HJ.out _ hbW).mono ?_ | with_reducible refine (HK.out _ hbW).mono ?_ | with_reducible refine (HL1.out _ hbW).mono ?_ | with_reducible refine (HP1.out _ hbW).mono ?_ | with_reducible refine (HD1.out _ hbW).mono ?_ | with_reducible refine (HD2.out _ hbW).mono ?_ | with_reducible refine (HW.out _ hbW).mono ?_); rintro en w5 ⟨rfl, hb5⟩; have hbW := hbW.trans (hb5.mono hbW.size))
      go_ret
      exact boolPost_mk rfl hbW
    · have hxy := join_inj e1 e2
      rw [e2] at HK
      by_cases hab : a = b
      · have hx := hxy.2 hab
        subst hab hx
        clear h0 he e1 e2 f1 f2 f3 HL HP HD hd hxy
        go_enter Tryz.func5, Tryz.ntmps5
        go_wp2_with ((first | with_reducible refine (HJ.out _ hbW).mono ?_ | with_reducible refine (HK.out _ hbW).mono ?_ | with_reducible refine (HL1.out _ hbW).mono ?_ | with_reducible refine (HP1.out _ hbW).mono ?_ | with_reducible refine (HD1.out _ hbW).mono ?_ | with_reducible refine (HD2.out _ hbW).mono ?_ | with_reducible refine (HW.out _ hbW).mono ?_); rintro en w5 ⟨rfl, hb5⟩; have hbW := hbW.trans (hb5.mono hbW.size))
        go_ret
        exact boolPost_mk rfl hbW
      · have qx : (x == y) = false := by rw [beq_eq_false_iff_ne]; exact fun e => hab (hxy.1 e)
        have qa : (a == b) = false := by rw [beq_eq_false_iff_ne]; exact hab
        clear h0 he e1 e2 f1 f2 f3 HL HP HD hd hxy hab
        go_enter Tryz.func5, Tryz.ntmps5
        go_wp2_with ((first | with_reducible refine (HJ.out _ hbW).mono ?_ | with_reducible refine (HK.out _ hbW).mono ?_ | with_reducible refine (HL1.out _ hbW).mono ?_ | with_reducible refine (HP1.out _ hbW).mono ?_ | with_reducible refine (HD1.out _ hbW).mono ?_ | with_reducible refine (HD2.out _ hbW).mono ?_ | with_reducible refine (HW.out _ hbW).mono ?_); rintro en w5 ⟨rfl, hb5⟩; have hbW := hbW.trans (hb5.mono hbW.size))
        go_ret
        exact boolPost_mk rfl hbW
end Go.Proofs.YtdmjnfadhlgpkaaGreatDoor
