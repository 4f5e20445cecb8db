/- As many entries as may be: the names of the law, and what Add tells of each. -/
import Derived.Test.YtbmnpjkcomcboaaGreatDoorDtWX
namespace Go.Proofs.YtbmnpjkcomcboaaGreatDoor
set_option linter.unusedSimpArgs false
set_option linter.unusedVariables false
open Go Go.RowKit Go.Proofs.BerK Go.Proofs.MemK Go.Proofs.UtfK Go.Maps Go.WideMaps

def fuV (i : Nat) : List UInt8 := [UInt8.ofNat (97 + i / 400), UInt8.ofNat (97 + i / 20 % 20), UInt8.ofNat (97 + i % 20)]
def fuN (i : Nat) : List UInt8 := [100, 99, 61] ++ fuV i
def fuE (i : Nat) : Ent := (fuN i, domA (fuV i))
def fuL : Nat → List Ent
  | 0 => []
  | i + 1 => addL (fuL i) (fuE i)
theorem fu_inj {i j : Nat} (hi : i < 1100) (hj : j < 1100) (h : fuN i = fuN j) : i = j := by
  unfold fuN fuV at h
  injection h with _ h
  injection h with _ h
  injection h with _ h
  injection h with h1 h
  injection h with h2 h
  injection h with h3 _
  have e1 := congrArg UInt8.toNat h1
  have e2 := congrArg UInt8.toNat h2
  have e3 := congrArg UInt8.toNat h3
  simp only [UInt8.toNat_ofNat'] at e1 e2 e3
  omega
set_option maxRecDepth 100000 in
set_option maxHeartbeats 25600000 in
theorem fu_good : ∀ i, i < 1100 → (parL (fuN i) = ([], true) ∧ chkE (fuE i) = 0) := by decide +kernel
theorem fu_st : ∀ i, i ≤ 1100 → TrL (fuL i) ∧ (fuL i).length = min i 1024 ∧ ∀ x ∈ fuL i, ∃ j, j < i ∧ x.1 = fuN j
  | 0, _ => ⟨trL_nil, rfl, fun x hx => by cases hx⟩
  | i + 1, hi => by
    obtain ⟨h1, h2, h3⟩ := fu_st i (by omega)
    obtain ⟨g1, g2⟩ := fu_good i (by omega)
    have hno : hasE (fuL i) (fuN i) = false := by
      cases hq : hasE (fuL i) (fuN i) with
      | false => rfl
      | true =>
        obtain ⟨x, hx, he⟩ := hasE_iff.1 hq
        obtain ⟨j, hj, hxj⟩ := h3 x hx
        have := fu_inj (i := i) (j := j) (by omega) (by omega) (he.symm.trans hxj)
        omega
    show TrL (addL (fuL i) (fuE i)) ∧ (addL (fuL i) (fuE i)).length = min (i + 1) 1024 ∧ ∀ x ∈ addL (fuL i) (fuE i), ∃ j, j < i + 1 ∧ x.1 = fuN j
    refine ⟨trL_add h1 _, ?_⟩
    have hp1 : (parL (fuE i).1).2 = true := by show (parL (fuN i)).2 = true; rw [g1]
    have hp2 : ¬ ((parL (fuE i).1).1 ≠ [] ∧ hasE (fuL i) (parL (fuE i).1).1 = false) := by
      show ¬ ((parL (fuN i)).1 ≠ [] ∧ _)
      rw [g1]
      exact fun h => h.1 rfl
    by_cases hl : 1024 ≤ (fuL i).length
    · have hc := add_c5 (L := fuL i) (e := fuE i) hp1 hno hp2 g2 hl
      rw [addL_no hc (by decide)]
      refine ⟨by omega, fun x hx => ?_⟩
      obtain ⟨j, hj, hxj⟩ := h3 x hx
      exact ⟨j, by omega, hxj⟩
    · have hc := add_c6 (L := fuL i) (e := fuE i) hp1 hno hp2 g2 hl
      have haL : addL (fuL i) (fuE i) = putE (clE (fuE i)) (fuL i) := by unfold addL; rw [if_pos hc]
      rw [haL]
      refine ⟨?_, fun x hx => ?_⟩
      · rw [put_len h1.up, if_neg (by rw [show hasE (fuL i) (clE (fuE i)).1 = false from hno]; decide)]
        omega
      · rcases (pute_mem h1.up x).1 hx with rfl | ⟨hx, _⟩
        · exact ⟨i, by omega, rfl⟩
        · obtain ⟨j, hj, hxj⟩ := h3 x hx
          exact ⟨j, by omega, hxj⟩
theorem fu_code (i : Nat) (hi : i < 1100) : addC (fuL i) (fuE i) = if i < 1024 then 0 else 80 := by
  obtain ⟨h1, h2, h3⟩ := fu_st i (by omega)
  obtain ⟨g1, g2⟩ := fu_good i (by omega)
  have hno : hasE (fuL i) (fuN i) = false := by
    cases hq : hasE (fuL i) (fuN i) with
    | false => rfl
    | true =>
      obtain ⟨x, hx, he⟩ := hasE_iff.1 hq
      obtain ⟨j, hj, hxj⟩ := h3 x hx
      have := fu_inj (i := i) (j := j) (by omega) (by omega) (he.symm.trans hxj)
      omega
  have hp1 : (parL (fuE i).1).2 = true := by show (parL (fuN i)).2 = true; rw [g1]
  have hp2 : ¬ ((parL (fuE i).1).1 ≠ [] ∧ hasE (fuL i) (parL (fuE i).1).1 = false) := by
    show ¬ ((parL (fuN i)).1 ≠ [] ∧ _)
    rw [g1]
    exact fun h => h.1 rfl
  by_cases hl : 1024 ≤ (fuL i).length
  · rw [add_c5 (L := fuL i) (e := fuE i) hp1 hno hp2 g2 hl, if_neg (by omega)]
  · rw [add_c6 (L := fuL i) (e := fuE i) hp1 hno hp2 g2 hl, if_pos (by omega)]
end Go.Proofs.YtbmnpjkcomcboaaGreatDoor
