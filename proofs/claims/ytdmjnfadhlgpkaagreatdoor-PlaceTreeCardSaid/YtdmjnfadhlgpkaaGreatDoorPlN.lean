/- Where names stand: plain facts of the laws. -/
import Derived.Test.YtdmjnfadhlgpkaaGreatDoorPlM
namespace Go.Proofs.YtdmjnfadhlgpkaaGreatDoor
set_option linter.unusedSimpArgs false
set_option linter.unusedVariables false
open Go Go.RowKit Go.Proofs.BerK Go.Proofs.MemK Go.Proofs.UtfK

theorem nr_ways (s : List UInt8) : (nrD s = none ∨ nrD s = some []) ∨ ∃ r D, nrD s = some (r :: D) := by
  cases h : nrD s with
  | none => exact .inl (.inl rfl)
  | some D => cases D with
    | nil => exact .inl (.inr rfl)
    | cons r D => exact .inr ⟨r, D, rfl⟩
theorem leaf_none {s : List UInt8} (h : nrD s = none ∨ nrD s = some []) : leafL s = ([], false) := by unfold leafL; rcases h with h | h <;> rw [h]
theorem par_none {s : List UInt8} (h : nrD s = none ∨ nrD s = some []) : parL s = ([], false) := by unfold parL; rcases h with h | h <;> rw [h]
theorem leaf_cons {s : List UInt8} {r : List Av} {D : List (List Av)} (h : nrD s = some (r :: D)) : leafL s = (ptL r, true) := by unfold leafL; rw [h]
theorem par_cons {s : List UInt8} {r : List Av} {D : List (List Av)} (h : nrD s = some (r :: D)) : parL s = (nmL D, true) := by unfold parL; rw [h]
theorem dep_some {s : List UInt8} {D : List (List Av)} (h : nrD s = some D) : depL s = (D.length : Nat) := by unfold depL; rw [h]
theorem dep_none {s : List UInt8} (h : nrD s = none) : depL s = -1 := by unfold depL; rw [h]
theorem leaf_par (s : List UInt8) : (leafL s).2 = (parL s).2 ∧ (leafL s).2 = decide (depL s > 0) := by
  rcases nr_ways s with h | ⟨r, D, h⟩
  · rw [leaf_none h, par_none h]
    refine ⟨rfl, ?_⟩
    rcases h with h | h
    · rw [dep_none h]; rfl
    · rw [dep_some h]; rfl
  · rw [leaf_cons h, par_cons h, dep_some h]
    exact ⟨rfl, by simp⟩
theorem leaf_facts {s l p : List UInt8} (h1 : leafL s = (l, true)) (h2 : parL s = (p, true)) : joinL l p = (s, 0) ∧ undL s p = true ∧ undL p s = false ∧ depL p = depL s - 1 := by
  rcases nr_ways s with h | ⟨r, D, h⟩
  · rw [leaf_none h] at h1; cases h1
  · rw [leaf_cons h] at h1
    rw [par_cons h] at h2
    obtain ⟨rfl, _⟩ := Prod.mk.inj h1
    obtain ⟨rfl, _⟩ := Prod.mk.inj h2
    obtain ⟨hs, hg⟩ := nr_some h
    obtain ⟨g1, g2⟩ := gd_cons hg
    have n1 : nrD (ptL r) = some [r] := by rw [← nm_one]; exact nr_nm g1
    have n2 := nr_nm g2
    have hu : undL s (nmL D) = true := und_of (P := [r]) h n2
    refine ⟨?_, hu, ?_, ?_⟩
    · unfold joinL
      rw [n1, n2]
      simp only
      rw [jo_good (P := [r]) hg, hs]
      rfl
    · cases hv : undL (nmL D) s with
      | false => rfl
      | true =>
        have e := und_anti hu hv
        rw [← e, h] at n2
        have := congrArg List.length (Option.some.inj n2)
        simp at this
    · rw [dep_some n2, dep_some h]; simp
theorem mov_back {s t u m : List UInt8} (h : movL s t u = some m) : movL m u t = some s ∧ undL m u = true := by
  unfold movL at h
  cases h1 : nrD s with
  | none => rw [h1] at h; cases h
  | some D =>
    rw [h1] at h
    simp only at h
    cases h2 : ahL D t with
    | none => rw [h2] at h; cases h
    | some P =>
      rw [h2] at h
      simp only at h
      cases h3 : nrD u with
      | none => rw [h3] at h; cases h
      | some E =>
        rw [h3] at h
        simp only at h
        obtain ⟨F, hF, hb⟩ := ah_some h2
        obtain ⟨hs, hg⟩ := nr_some h1
        rw [hF] at hg
        obtain ⟨hE1, hE2⟩ := nr_some h3
        obtain ⟨hm, hmg⟩ := jo_some (gd_sub hg).1 hE2 h
        have n1 : nrD m = some (P ++ E) := by rw [hm]; exact nr_nm hmg
        have n2 : nrD t = some F := by rw [← hb]; exact nr_nm (gd_sub hg).2
        refine ⟨?_, und_of n1 h3⟩
        unfold movL
        rw [n1, hE1]
        simp only
        rw [ah_app hmg, n2]
        simp only
        rw [jo_good hg, hs, hF]
theorem join_facts {a c x : List UInt8} (h : joinL a c = (x, 0)) : ∃ r E, a = ptL r ∧ c = nmL E ∧ x = nmL (r :: E) ∧ GD (r :: E) := by
  unfold joinL at h
  cases h1 : nrD a with
  | none => rw [h1] at h; cases h
  | some D =>
    match D, h1 with
    | [], h1 => rw [h1] at h; cases h
    | [r], h1 =>
      rw [h1] at h
      simp only at h
      cases h2 : nrD c with
      | none => rw [h2] at h; cases h
      | some E =>
        rw [h2] at h
        simp only at h
        cases h3 : joL [r] E with
        | none => rw [h3] at h; cases h
        | some y =>
          rw [h3] at h
          obtain ⟨rfl, _⟩ := Prod.mk.inj h
          obtain ⟨e1, e2⟩ := jo_some (nr_some h1).2 (nr_some h2).2 h3
          exact ⟨r, E, by rw [← nm_one]; exact (nr_some h1).1, (nr_some h2).1, e1, e2⟩
    | r :: q :: D, h1 => rw [h1] at h; cases h
theorem join_err {a c x : List UInt8} {n : Nat} (h : joinL a c = (x, n)) (hn : n ≠ 0) : x = [] := by
  unfold joinL at h
  split at h
  · split at h
    · split at h
      · exact (Prod.mk.inj h).1.symm
      · exact absurd (Prod.mk.inj h).2.symm hn
    · exact (Prod.mk.inj h).1.symm
  · exact (Prod.mk.inj h).1.symm
theorem join_parts {a c x : List UInt8} (h : joinL a c = (x, 0)) : leafL x = (a, true) ∧ parL x = (c, true) ∧ depL x = depL c + 1 := by
  obtain ⟨r, E, rfl, rfl, rfl, hg⟩ := join_facts h
  have n := nr_nm hg
  rw [leaf_cons n, par_cons n, dep_some n, dep_some (nr_nm (gd_cons hg).2)]
  exact ⟨rfl, rfl, by simp⟩
theorem join_inj {a b c x y : List UInt8} (h : joinL a c = (x, 0)) (h2 : joinL b c = (y, 0)) : (x = y) ↔ (a = b) := by
  constructor
  · intro e
    have h3 := (join_parts h).1
    rw [e, (join_parts h2).1] at h3
    exact (Prod.mk.inj h3).1.symm
  · rintro rfl
    rw [h] at h2
    exact (Prod.mk.inj h2).1
end Go.Proofs.YtdmjnfadhlgpkaaGreatDoor
