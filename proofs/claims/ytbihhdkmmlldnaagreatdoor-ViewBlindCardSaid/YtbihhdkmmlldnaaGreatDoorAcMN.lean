/- Rules, plainly: whether they may be, which is the first one that fits, and whether it is given. What the laws of rules say, plainly. -/
import Derived.Test.YtbihhdkmmlldnaaGreatDoorPlMN
namespace Go.Proofs.YtbihhdkmmlldnaaGreatDoor
set_option linter.unusedSimpArgs false
set_option linter.unusedVariables false
open Go

/-- Who, below, attr, right, allow. -/
abbrev Rl := List UInt8 × List UInt8 × List UInt8 × Int × Bool
def nrOk (s : List UInt8) : Bool := (nrD s).isSome
def rlOk (r : Rl) : Bool := (r.1 == [42] || nrOk r.1) && nrOk r.2.1 && (r.2.2.1 == [42] || tyL r.2.2.1)
def rtOk (r : Rl) : Bool := r.2.2.2.1 == 1 || r.2.2.2.1 == 2
def ckA (l : List Rl) : Nat := if 256 < l.length then 3 else if l.all rlOk = true then (if l.all rtOk = true then 0 else 1) else 13
def fitA (who at_ attr : List UInt8) (right : Int) (r : Rl) : Bool := (r.2.2.2.1 == right) && (r.1 == [42] || r.1 == who) && undL at_ r.2.1 && (r.2.2.1 == [42] || lowL r.2.2.1 == lowL attr)
def frA (l : List Rl) (who at_ attr : List UInt8) (right : Int) : Option Nat := if ckA l = 0 then l.findIdx? (fitA who at_ attr right) else none
def fnI : Option Nat → Int | none => -1 | some i => (i : Nat)
def alO (l : List Rl) : Option Nat → Bool | none => false | some i => (l[i]?.map (fun r => r.2.2.2.2)).getD false
def alA (l : List Rl) (who at_ attr : List UInt8) (right : Int) : Bool := alO l (frA l who at_ attr right)

theorem ckA_long {l : List Rl} (h : 256 < l.length) : ckA l = 3 := by unfold ckA; rw [if_pos h]
theorem ckA_bad {l : List Rl} (h : ¬ 256 < l.length) (k : Nat) (hk : k < l.length) (hp : rlOk l[k] = false) : ckA l = 13 := by
  have : l.all rlOk = false := by
    rw [List.all_eq_false]
    exact ⟨l[k], List.getElem_mem hk, by simp [hp]⟩
  unfold ckA
  rw [if_neg h, this]; rfl
def erA (b : Bool) : Nat := if b = true then 0 else 1
theorem ckA_ok {l : List Rl} (h : ¬ 256 < l.length) (hp : l.all rlOk = true) : ckA l = erA (l.all rtOk) := by
  unfold ckA erA
  rw [if_neg h, if_pos hp]
theorem all_snoc {α : Type} (p : α → Bool) (l : List α) (k : Nat) (hk : k < l.length) : (l.take (k + 1)).all p = ((l.take k).all p && p l[k]) := by
  rw [List.take_add_one, List.getElem?_eq_getElem hk, List.all_append]
  simp
theorem fr_none {l : List Rl} {who at_ attr : List UInt8} {right : Int} (h : ckA l ≠ 0) : frA l who at_ attr right = none := by unfold frA; rw [if_neg h]
theorem fr_no {l : List Rl} {who at_ attr : List UInt8} {right : Int} (h2 : ∀ j (hj : j < l.length), fitA who at_ attr right l[j] = false) : frA l who at_ attr right = none := by
  unfold frA
  split
  · rw [List.findIdx?_eq_none_iff]
    intro x hx
    obtain ⟨j, hj, rfl⟩ := List.getElem_of_mem hx
    exact h2 j hj
  · rfl
theorem fr_at {l : List Rl} {who at_ attr : List UInt8} {right : Int} (h : ckA l = 0) (i : Nat) (hi : i < l.length) (h1 : fitA who at_ attr right l[i] = true) (h2 : ∀ j (hj : j < l.length), j < i → fitA who at_ attr right l[j] = false) : frA l who at_ attr right = some i := by
  unfold frA
  rw [if_pos h, List.findIdx?_eq_some_iff_getElem]
  exact ⟨hi, h1, fun j hj => by simp [h2 j (by omega) hj]⟩
theorem fr_lt {l : List Rl} {who at_ attr : List UInt8} {right : Int} {i : Nat} (h : frA l who at_ attr right = some i) : i < l.length := by
  unfold frA at h
  split at h
  · rw [List.findIdx?_eq_some_iff_getElem] at h
    exact h.1
  · cases h
theorem al_at {l : List Rl} {who at_ attr : List UInt8} {right : Int} {i : Nat} (h : frA l who at_ attr right = some i) (hi : i < l.length) : alA l who at_ attr right = l[i].2.2.2.2 := by
  unfold alA; rw [h]; simp [alO, hi]
theorem al_no {l : List Rl} {who at_ attr : List UInt8} {right : Int} (h : frA l who at_ attr right = none) : alA l who at_ attr right = false := by
  unfold alA; rw [h]; rfl
/-- A type, lowered, is a star just if it is one. -/
theorem low1_star (c : UInt8) : low1 c = 42 ↔ c = 42 := by
  unfold low1
  split
  · rename_i h
    constructor
    · intro e
      have := congrArg UInt8.toNat e
      simp at this
      omega
    · rintro rfl; simp at h
  · exact Iff.rfl
theorem low_star (l : List UInt8) : (lowL l == [42]) = (l == [42]) := by
  rw [Bool.eq_iff_iff, beq_iff_eq, beq_iff_eq]
  unfold lowL
  constructor
  · intro h
    match l, h with
    | [], h => simp at h
    | [c], h => simp at h; rw [(low1_star c).1 h]
    | _ :: _ :: _, h => simp at h
  · rintro rfl; rfl
end Go.Proofs.YtbihhdkmmlldnaaGreatDoor
namespace Go.Proofs.YtbihhdkmmlldnaaGreatDoor
set_option linter.unusedSimpArgs false
set_option linter.unusedVariables false
open Go

theorem ckA_app {l m : List Rl} (h : ckA (l ++ m) = 0) : ckA l = 0 := by
  unfold ckA at h ⊢
  by_cases h1 : 256 < (l ++ m).length
  · rw [if_pos h1] at h; cases h
  rw [if_neg h1] at h
  rw [List.length_append] at h1
  rw [if_neg (by omega)]
  rw [List.all_append, List.all_append] at h
  by_cases h2 : l.all rlOk = true
  · by_cases h3 : l.all rtOk = true
    · rw [if_pos h2, if_pos h3]
    · exfalso
      have h3' : l.all rtOk = false := Bool.eq_false_iff.2 h3
      rw [h2, h3'] at h
      revert h
      cases m.all rlOk <;> simp
  · exfalso
    have h2' : l.all rlOk = false := Bool.eq_false_iff.2 h2
    rw [h2'] at h
    revert h
    simp
theorem fr_app {l m : List Rl} {who at_ attr : List UInt8} {right : Int} {i : Nat} (h : ckA (l ++ m) = 0) (hi : frA l who at_ attr right = some i) : frA (l ++ m) who at_ attr right = some i := by
  have hl := fr_lt hi
  unfold frA at hi
  rw [if_pos (ckA_app h), List.findIdx?_eq_some_iff_getElem] at hi
  obtain ⟨_, h1, h2⟩ := hi
  refine fr_at h i (by rw [List.length_append]; omega) ?_ fun j hj hji => ?_
  · rw [List.getElem_append_left hl]; exact h1
  · rw [List.getElem_append_left (by omega)]
    have := h2 j hji
    simpa using this
theorem al_app {l m : List Rl} {who at_ attr : List UInt8} {right : Int} {i : Nat} (h : ckA (l ++ m) = 0) (hi : frA l who at_ attr right = some i) : alA (l ++ m) who at_ attr right = alA l who at_ attr right := by
  have hl := fr_lt hi
  rw [al_at (fr_app h hi) (by rw [List.length_append]; omega), al_at hi hl, List.getElem_append_left hl]
/-- One rule by itself. -/
theorem fr_one (r : Rl) (who at_ attr : List UInt8) (right : Int) : frA [r] who at_ attr right = if ckA [r] = 0 ∧ fitA who at_ attr right r = true then some 0 else none := by
  unfold frA
  by_cases h : ckA [r] = 0
  · rw [if_pos h]
    by_cases h2 : fitA who at_ attr right r = true
    · rw [if_pos ⟨h, h2⟩]; simp [List.findIdx?_cons, h2]
    · rw [if_neg (fun x => h2 x.2)]; simp [List.findIdx?_cons, h2]
  · rw [if_neg h, if_neg (fun x => h x.1)]
theorem al_one (r : Rl) (who at_ attr : List UInt8) (right : Int) : alA [r] who at_ attr right = (decide (ckA [r] = 0 ∧ fitA who at_ attr right r = true) && r.2.2.2.2) := by
  unfold alA
  rw [fr_one]
  by_cases h : ckA [r] = 0 ∧ fitA who at_ attr right r = true
  · rw [if_pos h, decide_eq_true h]; rfl
  · rw [if_neg h, decide_eq_false h]; rfl
theorem fit_below {who at_ attr b : List UInt8} {right : Int} {r : Rl} (h : fitA who at_ attr right r = true) (hu : undL b at_ = true) : fitA who b attr right r = true := by
  unfold fitA at h ⊢
  simp only [Bool.and_eq_true] at h ⊢
  exact ⟨⟨h.1.1, und_trans hu h.1.2⟩, h.2⟩
theorem al_below {who at_ attr b : List UInt8} {right : Int} {r : Rl} (h : alA [r] who at_ attr right = true) (hu : undL b at_ = true) : alA [r] who b attr right = true := by
  rw [al_one] at h ⊢
  simp only [Bool.and_eq_true, decide_eq_true_eq] at h ⊢
  exact ⟨⟨h.1.1, fit_below h.1.2 hu⟩, h.2⟩

/-! ### Not too many, and not too great -/
def fewL (r : Rl) : Bool := decide (r.1.length ≤ 200) && decide (r.2.1.length ≤ 200) && decide (r.2.2.1.length ≤ 80)
def fewA (l : List Rl) : Bool := decide (l.length ≤ 12) && l.all fewL
theorem fewA_long {l : List Rl} (h : 12 < l.length) : fewA l = false := by unfold fewA; rw [decide_eq_false (by omega)]; rfl
theorem fewA_bad {l : List Rl} (k : Nat) (hk : k < l.length) (h : fewL l[k] = false) : fewA l = false := by
  have : l.all fewL = false := by
    rw [List.all_eq_false]
    exact ⟨l[k], List.getElem_mem hk, by simp [h]⟩
  unfold fewA; rw [this, Bool.and_false]
theorem fewA_ok {l : List Rl} (h : ¬ 12 < l.length) (h2 : l.all fewL = true) : fewA l = true := by unfold fewA; rw [h2, decide_eq_true (by omega)]; rfl
theorem fewA_facts {l : List Rl} (h : fewA l = true) : l.length ≤ 12 ∧ ∀ k (hk : k < l.length), l[k].1.length ≤ 200 ∧ l[k].2.1.length ≤ 200 ∧ l[k].2.2.1.length ≤ 80 := by
  unfold fewA at h
  simp only [Bool.and_eq_true, decide_eq_true_eq, List.all_eq_true] at h
  refine ⟨h.1, fun k hk => ?_⟩
  have := h.2 l[k] (List.getElem_mem hk)
  unfold fewL at this
  simp only [Bool.and_eq_true, decide_eq_true_eq] at this
  exact ⟨this.1.1, this.1.2, this.2⟩
end Go.Proofs.YtbihhdkmmlldnaaGreatDoor
