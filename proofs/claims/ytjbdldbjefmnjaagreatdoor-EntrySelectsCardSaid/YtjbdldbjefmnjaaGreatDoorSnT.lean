/- The code's Check: whether an entry may be. -/
import Derived.Test.YtjbdldbjefmnjaaGreatDoorSnQS
import Derived.Test.YtjbdldbjefmnjaaGreatDoorScCD
namespace Go.Proofs.YtjbdldbjefmnjaaGreatDoor
set_option linter.unusedSimpArgs false
set_option linter.unusedVariables false
open Go Go.RowKit Go.Proofs.BerK Go.Proofs.MemK Go.Proofs.UtfK

/-- May an entry be? The code. -/
def chkS (T : List Ty) (C : List Cl) (A : List Atr) : Nat :=
  if tyAll T A = false then 17 else if (A.any fun a => a.2.length == 0) = true then 19 else if nmOk (A.map (tyG T)) A = false then 21 else
  if ¬ ((A.map (tyG T)).map (·.1)).Nodup then 20 else if (nmG (A.map (tyG T)) A).any dupL = true then 20 else
  if tmB (A.map (tyG T)) (nmG (A.map (tyG T)) A) = true then 19 else if fitB C ((A.map (tyG T)).map (·.1)) A = false then 65 else 0
theorem tyG_name {T : List Ty} {A : List Atr} (h : tyAll T A = true) : (A.map (tyG T)).map (·.1) = A.map fun a => lowL a.1 := by
  rw [List.map_map]
  apply List.map_congr_left
  intro a ha
  have := List.all_eq_true.1 h a ha
  obtain ⟨t, ht⟩ := Option.isSome_iff_exists.1 this
  simp only [Function.comp, tyG, ht, Option.getD_some]
  exact scT_name ht
theorem nmG_mem {TL : List Ty} {A : List Atr} {l : List (List UInt8)} (h : l ∈ nmG TL A) : ∃ t, ∃ a ∈ A, l = nmV t a := by
  unfold nmG at h
  obtain ⟨i, hi, rfl⟩ := List.getElem_of_mem h
  simp at hi
  exact ⟨TL[i], A[i], List.getElem_mem _, by simp⟩
end Go.Proofs.YtjbdldbjefmnjaaGreatDoor
