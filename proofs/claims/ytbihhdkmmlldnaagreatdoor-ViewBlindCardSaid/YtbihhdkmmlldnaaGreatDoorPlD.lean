/- The given texts stand where the law says. -/
import Derived.Test.YtbihhdkmmlldnaaGreatDoorPlAC
import Derived.Test.YtbihhdkmmlldnaaGreatDoorDqJ
namespace Go.Proofs.YtbihhdkmmlldnaaGreatDoor
set_option linter.unusedSimpArgs false
set_option linter.unusedVariables false
open Go Go.RowKit Go.Proofs.BerK Go.Proofs.MemK Go.Proofs.UtfK

def pA : List Av := [([99, 110], [97])]
def pB : List Av := [([100, 99], [98])]
def pC : List Av := [([100, 99], [99])]
def pAB : List Av := [([99, 110], [98])]
theorem gd_two (p q : Av) (h1 : prL [p] = true) (h2 : prL [q] = true) (h3 : nmA p = p) (h4 : nmA q = q) (h5 : (nmL [[p], [q]]).length ≤ 4096) : GD [[p], [q]] := by
  refine ⟨by simp, fun r hr => ?_, h5⟩
  rcases List.mem_cons.1 hr with rfl | hr
  · exact ⟨h1, by unfold nmR; rw [List.map_cons, List.map_nil, srtR_one, h3]⟩
  · obtain rfl := List.mem_singleton.1 hr
    exact ⟨h2, by unfold nmR; rw [List.map_cons, List.map_nil, srtR_one, h4]⟩
theorem gd_ab : GD [pA, pB] := gd_two _ _ (by decide +kernel) (by decide +kernel) (by decide +kernel) (by decide +kernel) (by decide +kernel)
theorem gd_ac : GD [pA, pC] := gd_two _ _ (by decide +kernel) (by decide +kernel) (by decide +kernel) (by decide +kernel) (by decide +kernel)
theorem gd_aab : GD [pA, pAB] := gd_two _ _ (by decide +kernel) (by decide +kernel) (by decide +kernel) (by decide +kernel) (by decide +kernel)
theorem nr_lit {D : List (List Av)} {s : List UInt8} (h : GD D) (e : nmL D = s) : nrD s = some D := e ▸ nr_nm h
theorem nr_ab : nrD [99, 110, 61, 97, 44, 100, 99, 61, 98] = some [pA, pB] := nr_lit gd_ab (by decide +kernel)
theorem nr_a : nrD [99, 110, 61, 97] = some [pA] := nr_lit (gd_cons gd_ab).1 (by decide +kernel)
theorem nr_b : nrD [100, 99, 61, 98] = some [pB] := nr_lit (gd_cons gd_ab).2 (by decide +kernel)
theorem nr_c : nrD [100, 99, 61, 99] = some [pC] := nr_lit (gd_cons gd_ac).2 (by decide +kernel)
theorem nr_aab : nrD [99, 110, 61, 97, 44, 99, 110, 61, 98] = some [pA, pAB] := nr_lit gd_aab (by decide +kernel)
theorem nr_e : nrD [] = some [] := nr_lit gd_nil rfl
theorem lit_rdCN : rdD [67, 78, 61, 97] = ([[([67, 78], [97])]], 0) := by decide +kernel
theorem nr_CN : nrD [67, 78, 61, 97] = none := by
  refine nr_not ?_
  rw [noD_ok lit_rdCN]
  have e : ([[([67, 78], [97])]] : List (List Av)).map nmR = [pA] := by
    simp only [List.map_cons, List.map_nil, nmR, srtR_one]
    decide +kernel
  rw [e]
  decide +kernel

theorem lw_par1 : parL [99, 110, 61, 97, 44, 100, 99, 61, 98] = ([100, 99, 61, 98], true) := by rw [par_cons nr_ab]; decide +kernel
theorem lw_leaf : leafL [99, 110, 61, 97, 44, 100, 99, 61, 98] = ([99, 110, 61, 97], true) := by rw [leaf_cons nr_ab]; decide +kernel
theorem lw_par2 : parL [] = ([], false) := par_none (.inr nr_e)
theorem lw_join1 : joinL [99, 110, 61, 97] [100, 99, 61, 98] = ([99, 110, 61, 97, 44, 100, 99, 61, 98], 0) := by
  rw [join_yes nr_a nr_b, jo_good (P := [pA]) gd_ab]; decide +kernel
theorem lw_join2 : joinL [99, 110, 61, 97, 44, 99, 110, 61, 98] [100, 99, 61, 98] = ([], 13) := join_no (.inl (by rw [dep_some nr_aab]; decide))
theorem lw_mov : obL (movL [99, 110, 61, 97, 44, 100, 99, 61, 98] [100, 99, 61, 98] [100, 99, 61, 99]) = ([99, 110, 61, 97, 44, 100, 99, 61, 99], true) := by
  have h : ahL [pA, pB] [100, 99, 61, 98] = some [pA] := by
    have := ah_app (P := [pA]) gd_ab
    rw [show nmL [pB] = [100, 99, 61, 98] by decide +kernel] at this
    exact this
  rw [mov_some nr_ab h nr_c, jo_good (P := [pA]) gd_ac]; decide +kernel
theorem lw_u1 : undL [99, 110, 61, 97, 44, 100, 99, 61, 98] [100, 99, 61, 98] = true := und_of (P := [pA]) nr_ab nr_b
theorem lw_u2 : undL [100, 99, 61, 98] [] = true := und_of (P := [pB]) nr_b nr_e
theorem lw_u3 : undL [100, 99, 61, 98] [99, 110, 61, 97, 44, 100, 99, 61, 98] = false := by
  cases h : undL [100, 99, 61, 98] [99, 110, 61, 97, 44, 100, 99, 61, 98] with
  | false => rfl
  | true => exact absurd (und_anti h lw_u1) (by decide)
theorem lw_d1 : depL [] = 0 := dep_some nr_e
theorem lw_d2 : depL [67, 78, 61, 97] = -1 := dep_none nr_CN

end Go.Proofs.YtbihhdkmmlldnaaGreatDoor
