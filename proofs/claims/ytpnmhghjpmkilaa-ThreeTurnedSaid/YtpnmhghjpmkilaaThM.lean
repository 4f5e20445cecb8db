/- Truths of three, as plain functions over lists of numbers, and their facts. -/
import Derived.Test.YtpnmhghjpmkilaaInts
namespace Go.Proofs.ThM

/-- A number as it counts. -/
def cntT (x : Int) : Int := if x = 0 then 0 else if x = 1 then 1 else 2
def notT (x : Int) : Int := if x = 0 then 1 else if x = 1 then 0 else 2
def hasT (l : List Int) (t : Int) : Bool := l.any fun x => cntT x == t
def firT (l : List Int) (none : Int) : List Int → Int
  | [] => none
  | t :: r => if hasT l t then t else firT l none r
def andT (l : List Int) : Int := firT l 1 [0, 2]
def orT (l : List Int) : Int := firT l 0 [1, 2]
def leastT (l : List Int) : Int := firT l 2 [0, 2, 1]
/-- As the document asks whether a truth is there. -/
def isT (t x : Int) : Bool := x == t || (t == 2 && x != 0 && x != 1)
theorem isT_cnt (t x : Int) (h : t = 0 ∨ t = 1 ∨ t = 2) : isT t x = (cntT x == t) := by
  rw [Bool.eq_iff_iff]
  unfold isT cntT
  rcases h with rfl | rfl | rfl <;> (by_cases h0 : x = 0 <;> by_cases h1 : x = 1 <;> by_cases h2 : x = 2 <;> simp [h0, h1, h2] <;> omega)
theorem has_isT (l : List Int) (t : Int) (h : t = 0 ∨ t = 1 ∨ t = 2) : l.any (isT t) = hasT l t := by
  unfold hasT
  congr 1
  funext x
  exact isT_cnt t x h
theorem has_one (l : List Int) (h0 : hasT l 0 = false) (h2 : hasT l 2 = false) (h : l ≠ []) : hasT l 1 = true := by
  match l, h with
  | x :: r, _ =>
    simp only [hasT, List.any_cons, Bool.or_eq_false_iff] at h0 h2 ⊢
    have a := h0.1
    have b := h2.1
    rw [Bool.or_eq_true]
    left
    unfold cntT at a b ⊢
    by_cases q0 : x = 0 <;> by_cases q1 : x = 1 <;> simp [q0, q1] at a b ⊢
theorem has_nil (t : Int) : hasT [] t = false := rfl
theorem least_nil : leastT [] = 2 := rfl
theorem least_at (l : List Int) (h : l ≠ []) : leastT l = if hasT l 0 then 0 else if hasT l 2 then 2 else 1 := by
  unfold leastT firT
  by_cases h0 : hasT l 0 = true
  · simp [h0]
  · by_cases h2 : hasT l 2 = true
    · simp [h0, h2, firT]
    · have := has_one l (by simpa using h0) (by simpa using h2) h
      simp [h0, h2, firT, this]
theorem and_at (l : List Int) : andT l = if hasT l 0 then 0 else if hasT l 2 then 2 else 1 := by unfold andT; simp [firT]
theorem or_at (l : List Int) : orT l = if hasT l 1 then 1 else if hasT l 2 then 2 else 0 := by unfold orT; simp [firT]
theorem has_not (l : List Int) : hasT (l.map notT) 0 = hasT l 1 ∧ hasT (l.map notT) 1 = hasT l 0 ∧ hasT (l.map notT) 2 = hasT l 2 := by
  induction l with
  | nil => exact ⟨rfl, rfl, rfl⟩
  | cons x r ih =>
    obtain ⟨i0, i1, i2⟩ := ih
    simp only [hasT, List.map_cons, List.any_cons] at i0 i1 i2 ⊢
    rw [i0, i1, i2]
    unfold cntT notT
    by_cases q0 : x = 0 <;> by_cases q1 : x = 1 <;> simp [q0, q1]
theorem has_app (l m : List Int) (t : Int) : hasT (l ++ m) t = (hasT l t || hasT m t) := by simp [hasT]
theorem not_and (l : List Int) : notT (andT l) = orT (l.map notT) := by
  obtain ⟨i0, i1, i2⟩ := has_not l
  rw [and_at, or_at, i1, i2]
  cases hasT l 0 <;> cases hasT l 2 <;> rfl
theorem not_or (l : List Int) : notT (orT l) = andT (l.map notT) := by
  obtain ⟨i0, i1, i2⟩ := has_not l
  rw [and_at, or_at, i0, i2]
  cases hasT l 1 <;> cases hasT l 2 <;> rfl
theorem has_two (a b t : Int) : hasT [a, b] t = (cntT a == t || cntT b == t) := by simp [hasT]
theorem and_app (l m : List Int) : andT [andT l, andT m] = andT (l ++ m) := by
  rw [and_at [_, _], and_at (l ++ m), has_two, has_two, has_app, has_app, and_at l, and_at m]
  cases hasT l 0 <;> cases hasT l 2 <;> cases hasT m 0 <;> cases hasT m 2 <;> rfl
theorem or_app (l m : List Int) : orT [orT l, orT m] = orT (l ++ m) := by
  rw [or_at [_, _], or_at (l ++ m), has_two, has_two, has_app, has_app, or_at l, or_at m]
  cases hasT l 1 <;> cases hasT l 2 <;> cases hasT m 1 <;> cases hasT m 2 <;> rfl
/-- The first k of those asked for are not there. -/
theorem firT_drop (l : List Int) (none : Int) (q : List Int) (k : Nat) (h : ∀ j (hj : j < q.length), j < k → hasT l q[j] = false) : firT l none (q.drop k) = firT l none q := by
  induction k with
  | zero => simp
  | succ k ih =>
    rw [← ih fun j hj hjk => h j hj (by omega)]
    by_cases hk : k < q.length
    · rw [List.drop_eq_getElem_cons hk]
      conv => rhs; unfold firT
      simp [h k hk (by omega)]
    · rw [List.drop_eq_nil_of_le (by omega), List.drop_eq_nil_of_le (by omega)]
theorem firT_hit (l : List Int) (none : Int) (q : List Int) (k : Nat) (hk : k < q.length) (h : ∀ j (hj : j < q.length), j < k → hasT l q[j] = false) (ht : hasT l q[k] = true) : firT l none q = q[k] := by
  rw [← firT_drop l none q k h, List.drop_eq_getElem_cons hk]
  simp [firT, ht]
theorem firT_miss (l : List Int) (none : Int) (q : List Int) (h : ∀ j (hj : j < q.length), hasT l q[j] = false) : firT l none q = none := by
  rw [← firT_drop l none q q.length fun j hj _ => h j hj, List.drop_length]
  rfl
end Go.Proofs.ThM
