/- Plain facts on values that count as the same: which are equal, which is no greater, which has which parts. -/
import Derived.Test.YtlopmppiihhnnaaGreatDoorFoldM
import Derived.Lib.IndexMore
import Derived.Lib.IndexLaws
import Derived.Lib.Strings
namespace Go.Proofs.YtlopmppiihhnnaaGreatDoor
set_option linter.unusedSimpArgs false
set_option linter.unusedVariables false
open Go

/-- A truth of three. -/
def tv (b : Bool) : Int := if b = true then 1 else 0
/-- Two values as they count, false: none. -/
def eqP (p q : List UInt8 × Bool) : Int := if p.2 = true ∧ q.2 = true then tv (p.1 == q.1) else 2
def lsR (r : Int) (x y : List UInt8) : Bool := if r = 3 then lessL x y else ltB x y
def ordP (r : Int) (p q : List UInt8 × Bool) : Int := if p.2 = true ∧ q.2 = true ∧ r ≠ 5 then tv (p.1 == q.1 || lsR r p.1 q.1) else 2
/-- Each one behind the other. -/
def midL : List (List UInt8) → List UInt8 → Bool
  | [], _ => true
  | m :: ms, s => (Lib.cut s m).2.2 && midL ms (Lib.cut s m).2.1
def asked (h : List UInt8) (ms : List (List UInt8)) (t : List UInt8) : Bool := !(h.isEmpty && ms.isEmpty && t.isEmpty) && decide (ms.length ≤ 16) && ms.all (fun m => !m.isEmpty)
def restL (s h t : List UInt8) : List UInt8 := (s.drop h.length).take (s.length - h.length - t.length)
def edgeL (s h t : List UInt8) : Bool := Lib.hasPrefix s h && Lib.hasSuffix (s.drop h.length) t
def hasL (s h : List UInt8) (ms : List (List UInt8)) (t : List UInt8) : Bool := edgeL s h t && midL ms (restL s h t)
def lwR (r : Int) (x : List UInt8) : List UInt8 := if r = 1 then lowL x else x
def subP (r : Int) (p : List UInt8 × Bool) (h : List UInt8) (ms : List (List UInt8)) (t : List UInt8) : Int :=
  if p.2 = true ∧ asked h ms t = true ∧ (r = 1 ∨ r = 2) then tv (hasL p.1 (lwR r h) (ms.map (lwR r)) (lwR r t)) else 2

theorem low_fold (l : List UInt8) : blL (lowL l) = foldL l := (low_bl l false).symm

/-! ### Equal and no greater -/
theorem eqP_same (x : List UInt8) : eqP (x, true) (x, true) = 1 := by simp [eqP, tv]
theorem eqP_comm (p q : List UInt8 × Bool) : eqP p q = eqP q p := by
  unfold eqP
  rw [Bool.beq_comm]
  by_cases h : p.2 = true ∧ q.2 = true
  · rw [if_pos h, if_pos h.symm]
  · rw [if_neg h, if_neg (fun k => h k.symm)]
theorem eqP_one (x y : List UInt8) : eqP (x, true) (y, true) = tv (x == y) := by simp [eqP]
theorem ordP_one (r : Int) (x y : List UInt8) (h : r ≠ 5) : ordP r (x, true) (y, true) = tv (x == y || lsR r x y) := by simp [ordP, h]
theorem ls_ways (r : Int) (x y : List UInt8) (h : r = 3 → (∃ l, intL l = (x, true)) ∧ ∃ l, intL l = (y, true)) :
    (x = y ∧ lsR r x y = false) ∨ (x ≠ y ∧ lsR r x y = true ∧ lsR r y x = false) ∨ (x ≠ y ∧ lsR r x y = false ∧ lsR r y x = true) := by
  unfold lsR
  by_cases hr : r = 3
  · rw [if_pos hr, if_pos hr]
    obtain ⟨⟨l1, h1⟩, l2, h2⟩ := h hr
    obtain ⟨g1, g2, _⟩ := less_order h1 h2 h2
    by_cases hxy : x = y
    · refine .inl ⟨hxy, ?_⟩
      cases hq : lessL x y
      · rfl
      · exact absurd hxy (g2.1 (.inl hq))
    · rcases g2.2 hxy with hq | hq
      · refine .inr (.inl ⟨hxy, hq, ?_⟩)
        cases hq2 : lessL y x
        · rfl
        · exact absurd ⟨hq, hq2⟩ g1
      · refine .inr (.inr ⟨hxy, ?_, hq⟩)
        cases hq2 : lessL x y
        · rfl
        · exact absurd ⟨hq2, hq⟩ g1
  · rw [if_neg hr, if_neg hr]
    by_cases hxy : x = y
    · exact .inl ⟨hxy, by rw [hxy]; exact ltB_irrefl y⟩
    · have ha : ∀ a b : List UInt8, ltB a b = true → ltB b a = false := by
        intro a b hab
        cases hq : ltB b a
        · rfl
        · have := ltB_trans hab hq
          rw [ltB_irrefl] at this; cases this
      rcases ltB_total x y hxy with hq | hq
      · exact .inr (.inl ⟨hxy, hq, ha _ _ hq⟩)
      · exact .inr (.inr ⟨hxy, ha _ _ hq, hq⟩)
/-- By bytes: no greater is not less the other way round. -/
theorem le_ltB (x y : List UInt8) : (x == y || ltB x y) = !(ltB y x) := by
  have := ls_ways 0 x y (fun h => by simp at h)
  simp only [lsR, if_neg (show ¬ ((0 : Int) = 3) by decide)] at this
  rcases this with ⟨rfl, h⟩ | ⟨h1, h2, h3⟩ | ⟨h1, h2, h3⟩
  · simp [h]
  · rw [h2, h3]; simp
  · rw [h2, h3]; simp [h1]

/-! ### Parts -/
theorem edge_iff (x h t : List UInt8) : edgeL x h t = true ↔ h.length + t.length ≤ x.length ∧ x.take h.length = h ∧ x.drop (x.length - t.length) = t := by
  unfold edgeL Lib.hasPrefix Lib.hasSuffix
  rw [Bool.and_eq_true, List.isPrefixOf_iff_prefix, List.isSuffixOf_iff_suffix]
  constructor
  · rintro ⟨⟨a, rfl⟩, b, hb⟩
    rw [List.drop_left] at hb
    subst hb
    refine ⟨by simp, by simp, ?_⟩
    rw [show (h ++ (b ++ t)).length - t.length = (h ++ b).length by simp; omega, ← List.append_assoc, List.drop_left]
  · rintro ⟨h1, h2, h3⟩
    refine ⟨?_, ?_⟩
    · rw [← h2]; exact List.take_prefix _ _
    · refine ⟨(x.drop h.length).take (x.length - t.length - h.length), ?_⟩
      have e : t = (x.drop h.length).drop (x.length - t.length - h.length) := by
        rw [List.drop_drop, show h.length + (x.length - t.length - h.length) = x.length - t.length by omega, h3]
      conv => lhs; rhs; rw [e]
      rw [List.take_append_drop]
theorem rest_len (x h t : List UInt8) : (restL x h t).length ≤ x.length := by
  unfold restL
  rw [List.length_take, List.length_drop]; omega
theorem cut_self (t : List UInt8) : Lib.cut t t = ([], [], true) := by
  unfold Lib.cut
  rw [Lib.index_self]; simp
theorem low_fix {t s : List UInt8} (h : t = foldL s) : lowL t = t := by
  rw [h]; unfold foldL; exact lowL_lowL _
theorem low_app (a b : List UInt8) : lowL (a ++ b) = lowL a ++ lowL b := by simp [lowL]
theorem low_take (a : List UInt8) (k : Nat) : lowL (a.take k) = (lowL a).take k := by simp [lowL]
theorem low_drop (a : List UInt8) (k : Nat) : lowL (a.drop k) = (lowL a).drop k := by simp [lowL]
theorem sub_one (x h : List UInt8) (ms : List (List UInt8)) (t : List UInt8) (ha : asked h ms t = true) : subP 1 (x, true) h ms t = tv (hasL x (lowL h) (ms.map lowL) (lowL t)) := by
  unfold subP
  rw [if_pos ⟨rfl, ha, .inl rfl⟩]
  simp [lwR]; rfl
theorem self_ends {t s : List UInt8} (h : t = foldL s) (hn : t ≠ []) (k : Nat) : subP 1 (t, true) (t.take k) [] (t.drop k) = 1 := by
  rw [sub_one _ _ _ _ ?_, low_take, low_drop, low_fix h]
  · have : hasL t (t.take k) [] (t.drop k) = true := by
      unfold hasL
      rw [Bool.and_eq_true]
      refine ⟨?_, rfl⟩
      rw [edge_iff]
      have hl : (t.take k).length + (t.drop k).length = t.length := by rw [← List.length_append, List.take_append_drop]
      refine ⟨by omega, ?_, ?_⟩
      · rw [List.length_take, List.take_eq_take_iff]; omega
      · rw [show t.length - (t.drop k).length = (t.take k).length by omega, List.length_take]
        rcases Nat.le_total k t.length with hk | hk
        · rw [Nat.min_eq_left hk]
        · rw [Nat.min_eq_right hk, List.drop_of_length_le hk, List.drop_of_length_le (Nat.le_refl _)]
    rw [show List.map lowL [] = [] from rfl, this]; rfl
  · unfold asked
    have : ¬ (t.take k = [] ∧ t.drop k = []) := by
      rintro ⟨a, b⟩
      apply hn
      rw [← List.take_append_drop k t, a, b]; rfl
    simp only [List.isEmpty_nil, Bool.and_true, List.all_nil, List.length_nil, Nat.zero_le, decide_true, Bool.not_eq_true', Bool.and_eq_false_iff]
    rcases Decidable.em (t.take k = []) with a | a
    · right
      have b : t.drop k ≠ [] := fun b => this ⟨a, b⟩
      simpa using b
    · left; simpa using a
theorem self_mid {t s : List UInt8} (h : t = foldL s) (hn : t ≠ []) : subP 1 (t, true) [] [t] [] = 1 := by
  rw [sub_one _ _ _ _ (by unfold asked; cases t <;> simp_all), show List.map lowL [t] = [lowL t] from rfl, low_fix h]
  have : hasL t [] [t] [] = true := by
    unfold hasL
    rw [Bool.and_eq_true]
    refine ⟨by rw [edge_iff]; simp, ?_⟩
    have : restL t [] [] = t := by simp [restL]
    rw [this, midL, cut_self]; rfl
  rw [show lowL [] = [] from rfl, this]; rfl
theorem self_more {t s : List UInt8} (h : t = foldL s) : subP 1 (t, true) (t ++ [120]) [] [] = 0 := by
  rw [sub_one _ _ _ _ (by unfold asked; simp), low_app, low_fix h]
  have : hasL t (t ++ lowL [120]) [] (lowL []) = false := by
    unfold hasL
    rw [Bool.and_eq_false_iff]
    left
    cases he : edgeL t (t ++ lowL [120]) (lowL [])
    · rfl
    · rw [edge_iff] at he
      have := he.1
      simp [lowL] at this
      omega
  rw [show List.map lowL [] = [] from rfl, this]; rfl
end Go.Proofs.YtlopmppiihhnnaaGreatDoor
