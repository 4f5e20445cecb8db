/- The law of the tree of names, for all texts. -/
import Derived.Test.YtdmjnfadhlgpkaaGreatDoorPlD
namespace Go.Proofs.YtdmjnfadhlgpkaaGreatDoor
set_option linter.unusedSimpArgs false
set_option linter.unusedVariables false
open Go Go.RowKit Go.Proofs.BerK Go.Proofs.MemK Go.Proofs.UtfK

theorem pl_some {s : List UInt8} {r : List Av} {D : List (List Av)} (h : nrD s = some (r :: D)) : ∃ l p, ∃ d : Int, leafL s = (l, true) ∧ parL s = (p, true) ∧ depL s = d ∧ 1 ≤ d ∧ d ≤ 32 ∧ depL p = d - 1 ∧ joinL l p = (s, 0) ∧ undL s p = true ∧ undL p s = false := by
  obtain ⟨f1, f2, f3, f4⟩ := leaf_facts (leaf_cons h) (par_cons h)
  have hl := (nr_some h).2.1
  simp at hl
  exact ⟨_, _, _, leaf_cons h, par_cons h, dep_some h, by simp; omega, by simp; omega, by rw [f4, dep_some h], f1, f2, f3⟩
theorem pl_none {s : List UInt8} (h : nrD s = none ∨ nrD s = some []) : ∃ d : Int, leafL s = ([], false) ∧ parL s = ([], false) ∧ depL s = d ∧ d ≤ 0 := by
  refine ⟨_, leaf_none h, par_none h, rfl, ?_⟩
  rcases h with h | h
  · rw [dep_none h]; omega
  · rw [dep_some h]; simp
theorem bl_of (s : ByteArray) : ∃ l : List UInt8, s = ⟨l.toArray⟩ := ⟨s.data.toList, (mk_list s).symm⟩

set_option maxHeartbeats 12800000 in
set_option maxRecDepth 100000 in
theorem ptree_any (s t u : ByteArray) (w : World) (he : ErrOk w) : Calls Tryz.prog 4 #[.string s, .string t, .string u] w (BoolPost true w) := by
  obtain ⟨s, rfl⟩ := bl_of s
  obtain ⟨t, rfl⟩ := bl_of t
  obtain ⟨u, rfl⟩ := bl_of u
  have HE := Lib.hid he
  have hbW : Below w.heap.size w w := Below.refl _ w
  have HW := Lib.hid (fun w' (hb : Below w.heap.size w w') => pawake_any w' (errOk_below he hb))
  by_cases h0 : 300 < s.length ∨ 300 < t.length ∨ 300 < u.length
  · have h1 : (300 : Int) < (s.length : Int) ∨ (¬ (300 : Int) < (s.length : Int) ∧ (300 : Int) < (t.length : Int)) ∨ (¬ (300 : Int) < (s.length : Int) ∧ ¬ (300 : Int) < (t.length : Int) ∧ (300 : Int) < (u.length : Int)) := by omega
    clear h0 he
    rcases h1 with q1 | ⟨q1, q2⟩ | ⟨q1, q2, q3⟩
    all_goals
      go_enter Tryz.func4, Tryz.ntmps4
      go_wp2_with fail
      refine (HW.out _ hbW).mono ?_
      rintro en w5 ⟨rfl, hb5⟩
      have hbW := hbW.trans (hb5.mono hbW.size)
      go_wp2
      go_ret
      exact boolPost_mk rfl hbW
  have z1 : ¬ (300 : Int) < (s.length : Int) := by omega
  have z2 : ¬ (300 : Int) < (t.length : Int) := by omega
  have z3 : ¬ (300 : Int) < (u.length : Int) := by omega
  have HL := Lib.hid (fun w' (hb : Below w.heap.size w w') => leaf_any s w' (errOk_below he hb))
  have HP := Lib.hid (fun w' (hb : Below w.heap.size w w') => parent_any s w' (errOk_below he hb))
  have HD := Lib.hid (fun w' (hb : Below w.heap.size w w') => depth_any s w' (errOk_below he hb))
  have H1 := Lib.hid (fun w' (hb : Below w.heap.size w w') => under_any s t w' (errOk_below he hb))
  have H2 := Lib.hid (fun w' (hb : Below w.heap.size w w') => under_any t u w' (errOk_below he hb))
  have H3 := Lib.hid (fun w' (hb : Below w.heap.size w w') => under_any s u w' (errOk_below he hb))
  have H4 := Lib.hid (fun w' (hb : Below w.heap.size w w') => under_any t s w' (errOk_below he hb))
  have HM := Lib.hid (fun w' (hb : Below w.heap.size w w') => move_any s t u w' (errOk_below he hb))
  have hmv : obL (movL s t u) = ([], false) ∨ ∃ m, obL (movL s t u) = (m, true) ∧ obL (movL m u t) = (s, true) ∧ undL m u = true := by
    cases h : movL s t u with
    | none => exact .inl rfl
    | some m =>
      obtain ⟨g1, g2⟩ := mov_back h
      exact .inr ⟨m, rfl, by rw [g1]; rfl, g2⟩
  have hun : (undL s t = false) ∨ (undL s t = true ∧ undL t u = true ∧ undL s u = true ∧ undL t s = false) ∨ (undL s t = true ∧ undL t u = true ∧ undL s u = true ∧ undL t s = true ∧ s = t) ∨ (undL s t = true ∧ undL t u = false ∧ undL t s = false) ∨ (undL s t = true ∧ undL t u = false ∧ undL t s = true ∧ s = t) := by
    cases h1 : undL s t with
    | false => exact .inl rfl
    | true =>
      cases h2 : undL t u with
      | false =>
        cases h3 : undL t s with
        | false => exact .inr (.inr (.inr (.inl ⟨rfl, rfl, rfl⟩)))
        | true => exact .inr (.inr (.inr (.inr ⟨rfl, rfl, rfl, und_anti h1 h3⟩)))
      | true =>
        have h4 := und_trans h1 h2
        cases h3 : undL t s with
        | false => exact .inr (.inl ⟨rfl, rfl, h4, rfl⟩)
        | true => exact .inr (.inr (.inl ⟨rfl, rfl, h4, rfl, und_anti h1 h3⟩))
  have HME := Lib.hid (fun m w' (hb : Below w.heap.size w w') => move_any m u t w' (errOk_below he hb))
  have HMU := Lib.hid (fun m w' (hb : Below w.heap.size w w') => under_any m u w' (errOk_below he hb))
  have HJ := Lib.hid (fun l p w' (hb : Below w.heap.size w w') => join_any l p w' (errOk_below he hb))
  have HU := Lib.hid (fun a b w' (hb : Below w.heap.size w w') => under_any a b w' (errOk_below he hb))
  have HX := Lib.hid (fun p w' (hb : Below w.heap.size w w') => depth_any p w' (errOk_below he hb))
  rcases nr_ways s with hn | ⟨r, D, hn⟩
  · obtain ⟨d, e1, e2, e3, q0⟩ := pl_none hn
    rw [e1] at HL
    rw [e2] at HP
    rw [e3] at HD
    have q1 : ¬ (0 : Int) < d := by omega
    clear h0 he hn e1 e2 e3 q0 HJ HU HX
    rcases hmv with e4 | ⟨m, e4, e5, e6⟩
    · rw [e4] at HM
      clear e4 HME HMU
      rcases hun with a1 | ⟨a1, a2, a3, a4⟩ | ⟨a1, a2, a3, a4, a5⟩ | ⟨a1, a2, a4⟩ | ⟨a1, a2, a4, a5⟩
      all_goals
        try rw [a1] at H1
        try rw [a2] at H2
        try rw [a3] at H3
        try rw [a4] at H4
        try subst a5
        try clear a1
        try clear a2
        try clear a3
        try clear a4
        go_enter Tryz.func4, Tryz.ntmps4
        go_wp2_with ((first | with_reducible refine (HL.out _ hbW).mono ?_ | with_reducible refine (HP.out _ hbW).mono ?_ | with_reducible refine (HD.out _ hbW).mono ?_ | with_reducible refine (H1.out _ hbW).mono ?_ | with_reducible refine (H2.out _ hbW).mono ?_ | with_reducible refine (H3.out _ hbW).mono ?_ | with_reducible refine (H4.out _ hbW).mono ?_ | with_reducible refine (HM.out _ hbW).mono ?_ | with_reducible refine (HW.out _ hbW).mono ?_); rintro en w5 ⟨rfl, hb5⟩; have hbW := hbW.trans (hb5.mono hbW.size))
        go_ret
        exact boolPost_mk rfl hbW
    · have HM2 := Lib.hid (HME.out m)
      have HM3 := Lib.hid (HMU.out m)
      rw [e4] at HM
      rw [e5] at HM2
      rw [e6] at HM3
      clear e4 e5 e6 HME HMU
      rcases hun with a1 | ⟨a1, a2, a3, a4⟩ | ⟨a1, a2, a3, a4, a5⟩ | ⟨a1, a2, a4⟩ | ⟨a1, a2, a4, a5⟩
      all_goals
        try rw [a1] at H1
        try rw [a2] at H2
        try rw [a3] at H3
        try rw [a4] at H4
        try subst a5
        try clear a1
        try clear a2
        try clear a3
        try clear a4
        go_enter Tryz.func4, Tryz.ntmps4
        go_wp2_with ((first | with_reducible refine (HL.out _ hbW).mono ?_ | with_reducible refine (HP.out _ hbW).mono ?_ | with_reducible refine (HD.out _ hbW).mono ?_ | with_reducible refine (H1.out _ hbW).mono ?_ | with_reducible refine (H2.out _ hbW).mono ?_ | with_reducible refine (H3.out _ hbW).mono ?_ | with_reducible refine (H4.out _ hbW).mono ?_ | with_reducible refine (HM.out _ hbW).mono ?_ | with_reducible refine (HW.out _ hbW).mono ?_ | with_reducible refine (HM2.out _ hbW).mono ?_ | with_reducible refine (HM3.out _ hbW).mono ?_); rintro en w5 ⟨rfl, hb5⟩; have hbW := hbW.trans (hb5.mono hbW.size))
        go_ret
        exact boolPost_mk rfl hbW
  · obtain ⟨l, p, d, e1, e2, e3, q1, q2, e4, e5, e6, e7⟩ := pl_some hn
    have HJ1 := Lib.hid (HJ.out l p)
    have HU1 := Lib.hid (HU.out s p)
    have HU2 := Lib.hid (HU.out p s)
    have HX1 := Lib.hid (HX.out p)
    rw [e1] at HL
    rw [e2] at HP
    rw [e3] at HD
    rw [e4] at HX1
    rw [e5] at HJ1
    rw [e6] at HU1
    rw [e7] at HU2
    have q3 : (0 : Int) < d := by omega
    clear h0 he hn e1 e2 e3 e4 e5 e6 e7 HJ HU HX
    rcases hmv with e4 | ⟨m, e4, e5, e6⟩
    · rw [e4] at HM
      clear e4 HME HMU
      rcases hun with a1 | ⟨a1, a2, a3, a4⟩ | ⟨a1, a2, a3, a4, a5⟩ | ⟨a1, a2, a4⟩ | ⟨a1, a2, a4, a5⟩
      all_goals
        try rw [a1] at H1
        try rw [a2] at H2
        try rw [a3] at H3
        try rw [a4] at H4
        try subst a5
        try clear a1
        try clear a2
        try clear a3
        try clear a4
        go_enter Tryz.func4, Tryz.ntmps4
        go_wp2_with ((first | with_reducible refine (HL.out _ hbW).mono ?_ | with_reducible refine (HP.out _ hbW).mono ?_ | with_reducible refine (HD.out _ hbW).mono ?_ | with_reducible refine (H1.out _ hbW).mono ?_ | with_reducible refine (H2.out _ hbW).mono ?_ | with_reducible refine (H3.out _ hbW).mono ?_ | with_reducible refine (H4.out _ hbW).mono ?_ | with_reducible refine (HM.out _ hbW).mono ?_ | with_reducible refine (HW.out _ hbW).mono ?_ | with_reducible refine (HJ1.out _ hbW).mono ?_ | with_reducible refine (HU1.out _ hbW).mono ?_ | with_reducible refine (HU2.out _ hbW).mono ?_ | with_reducible refine (HX1.out _ hbW).mono ?_); rintro en w5 ⟨rfl, hb5⟩; have hbW := hbW.trans (hb5.mono hbW.size))
        go_ret
        exact boolPost_mk rfl hbW
    · have HM2 := Lib.hid (HME.out m)
      have HM3 := Lib.hid (HMU.out m)
      rw [e4] at HM
      rw [e5] at HM2
      rw [e6] at HM3
      clear e4 e5 e6 HME HMU
      rcases hun with a1 | ⟨a1, a2, a3, a4⟩ | ⟨a1, a2, a3, a4, a5⟩ | ⟨a1, a2, a4⟩ | ⟨a1, a2, a4, a5⟩
      all_goals
        try rw [a1] at H1
        try rw [a2] at H2
        try rw [a3] at H3
        try rw [a4] at H4
        try subst a5
        try clear a1
        try clear a2
        try clear a3
        try clear a4
        go_enter Tryz.func4, Tryz.ntmps4
        go_wp2_with ((first | with_reducible refine (HL.out _ hbW).mono ?_ | with_reducible refine (HP.out _ hbW).mono ?_ | with_reducible refine (HD.out _ hbW).mono ?_ | with_reducible refine (H1.out _ hbW).mono ?_ | with_reducible refine (H2.out _ hbW).mono ?_ | with_reducible refine (H3.out _ hbW).mono ?_ | with_reducible refine (H4.out _ hbW).mono ?_ | with_reducible refine (HM.out _ hbW).mono ?_ | with_reducible refine (HW.out _ hbW).mono ?_ | with_reducible refine (HJ1.out _ hbW).mono ?_ | with_reducible refine (HU1.out _ hbW).mono ?_ | with_reducible refine (HU2.out _ hbW).mono ?_ | with_reducible refine (HX1.out _ hbW).mono ?_ | with_reducible refine (HM2.out _ hbW).mono ?_ | with_reducible refine (HM3.out _ hbW).mono ?_); rintro en w5 ⟨rfl, hb5⟩; have hbW := hbW.trans (hb5.mono hbW.size))
        go_ret
        exact boolPost_mk rfl hbW
end Go.Proofs.YtdmjnfadhlgpkaaGreatDoor
