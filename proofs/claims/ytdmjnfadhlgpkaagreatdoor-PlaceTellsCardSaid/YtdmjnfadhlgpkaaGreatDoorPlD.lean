/- The given texts stand where the law says. -/
import Derived.Test.YtdmjnfadhlgpkaaGreatDoorPlC
import Derived.Test.YtdmjnfadhlgpkaaGreatDoorDnAF
namespace Go.Proofs.YtdmjnfadhlgpkaaGreatDoor
set_option linter.unusedSimpArgs false
set_option linter.unusedVariables false
open Go Go.RowKit Go.Proofs.BerK Go.Proofs.MemK Go.Proofs.UtfK

def pA : List Av := [([99, 110], [97])]
def pB : List Av := [([100, 99], [98])]
def pC : List Av := [([100, 99], [99])]
def pAB : List Av := [([99, 110], [98])]
theorem gd_two (p q : Av) (h1 : prL [p] = true) (h2 : prL [q] = true) (h3 : nmA p = p) (h4 : nmA q = q) (h5 : (nmL [[p], [q]]).length ≤ 4096) : GD [[p], [q]] := by
  refine ⟨by simp, fun r hr => ?_, h5⟩
  rcases List.mem_cons.1 hr with rfl | hr
  · exact ⟨h1, by unfold nmR; rw [List.map_cons, List.map_nil, srtR_one, h3]⟩
  · obtain rfl := List.mem_singleton.1 hr
    exact ⟨h2, by unfold nmR; rw [List.map_cons, List.map_nil, srtR_one, h4]⟩
theorem gd_ab : GD [pA, pB] := gd_two _ _ (by decide +kernel) (by decide +kernel) (by decide +kernel) (by decide +kernel) (by decide +kernel)
theorem gd_ac : GD [pA, pC] := gd_two _ _ (by decide +kernel) (by decide +kernel) (by decide +kernel) (by decide +kernel) (by decide +kernel)
theorem gd_aab : GD [pA, pAB] := gd_two _ _ (by decide +kernel) (by decide +kernel) (by decide +kernel) (by decide +kernel) (by decide +kernel)
theorem nr_lit {D : List (List Av)} {s : List UInt8} (h : GD D) (e : nmL D = s) : nrD s = some D := e ▸ nr_nm h
theorem nr_ab : nrD [99, 110, 61, 97, 44, 100, 99, 61, 98] = some [pA, pB] := nr_lit gd_ab (by decide +kernel)
theorem nr_a : nrD [99, 110, 61, 97] = some [pA] := nr_lit (gd_cons gd_ab).1 (by decide +kernel)
theorem nr_b : nrD [100, 99, 61, 98] = some [pB] := nr_lit (gd_cons gd_ab).2 (by decide +kernel)
theorem nr_c : nrD [100, 99, 61, 99] = some [pC] := nr_lit (gd_cons gd_ac).2 (by decide +kernel)
theorem nr_aab : nrD [99, 110, 61, 97, 44, 99, 110, 61, 98] = some [pA, pAB] := nr_lit gd_aab (by decide +kernel)
theorem nr_e : nrD [] = some [] := nr_lit gd_nil rfl
theorem lit_rdCN : rdD [67, 78, 61, 97] = ([[([67, 78], [97])]], 0) := by decide +kernel
theorem nr_CN : nrD [67, 78, 61, 97] = none := by
  refine nr_not ?_
  rw [noD_ok lit_rdCN]
  have e : ([[([67, 78], [97])]] : List (List Av)).map nmR = [pA] := by
    simp only [List.map_cons, List.map_nil, nmR, srtR_one]
    decide +kernel
  rw [e]
  decide +kernel

theorem lw_par1 : parL [99, 110, 61, 97, 44, 100, 99, 61, 98] = ([100, 99, 61, 98], true) := by rw [par_cons nr_ab]; decide +kernel
theorem lw_leaf : leafL [99, 110, 61, 97, 44, 100, 99, 61, 98] = ([99, 110, 61, 97], true) := by rw [leaf_cons nr_ab]; decide +kernel
theorem lw_par2 : parL [] = ([], false) := par_none (.inr nr_e)
theorem lw_join1 : joinL [99, 110, 61, 97] [100, 99, 61, 98] = ([99, 110, 61, 97, 44, 100, 99, 61, 98], 0) := by
  rw [join_yes nr_a nr_b, jo_good (P := [pA]) gd_ab]; decide +kernel
theorem lw_join2 : joinL [99, 110, 61, 97, 44, 99, 110, 61, 98] [100, 99, 61, 98] = ([], 13) := join_no (.inl (by rw [dep_some nr_aab]; decide))
theorem lw_mov : obL (movL [99, 110, 61, 97, 44, 100, 99, 61, 98] [100, 99, 61, 98] [100, 99, 61, 99]) = ([99, 110, 61, 97, 44, 100, 99, 61, 99], true) := by
  have h : ahL [pA, pB] [100, 99, 61, 98] = some [pA] := by
    have := ah_app (P := [pA]) gd_ab
    rw [show nmL [pB] = [100, 99, 61, 98] by decide +kernel] at this
    exact this
  rw [mov_some nr_ab h nr_c, jo_good (P := [pA]) gd_ac]; decide +kernel
theorem lw_u1 : undL [99, 110, 61, 97, 44, 100, 99, 61, 98] [100, 99, 61, 98] = true := und_of (P := [pA]) nr_ab nr_b
theorem lw_u2 : undL [100, 99, 61, 98] [] = true := und_of (P := [pB]) nr_b nr_e
theorem lw_u3 : undL [100, 99, 61, 98] [99, 110, 61, 97, 44, 100, 99, 61, 98] = false := by
  cases h : undL [100, 99, 61, 98] [99, 110, 61, 97, 44, 100, 99, 61, 98] with
  | false => rfl
  | true => exact absurd (und_anti h lw_u1) (by decide)
theorem lw_d1 : depL [] = 0 := dep_some nr_e
theorem lw_d2 : depL [67, 78, 61, 97] = -1 := dep_none nr_CN

set_option maxHeartbeats 6400000 in
set_option maxRecDepth 100000 in
theorem pawake_any (w : World) (he : ErrOk w) : Calls Tryz.prog 6 #[] w (BoolPost true w) := by
  have H1 : Hid (∀ w, ErrOk w → Calls Tryz.prog 7 #[.string ⟨#[99, 110, 61, 97, 44, 100, 99, 61, 98]⟩] w (SbPost ([100, 99, 61, 98], true) w)) := fun w he => by rw [← lw_par1]; exact parent_any _ w he
  have H2 : Hid (∀ w, ErrOk w → Calls Tryz.prog 9 #[.string ⟨#[99, 110, 61, 97, 44, 100, 99, 61, 98]⟩] w (SbPost ([99, 110, 61, 97], true) w)) := fun w he => by rw [← lw_leaf]; exact leaf_any _ w he
  have H3 : Hid (∀ w, ErrOk w → Calls Tryz.prog 7 #[.string ⟨#[]⟩] w (SbPost ([], false) w)) := fun w he => by rw [← lw_par2]; exact parent_any [] w he
  have H4 : Hid (∀ w, ErrOk w → Calls Tryz.prog 11 #[.string ⟨#[99, 110, 61, 97]⟩, .string ⟨#[100, 99, 61, 98]⟩] w (PutPost ([99, 110, 61, 97, 44, 100, 99, 61, 98], 0) w)) := fun w he => by rw [← lw_join1]; exact join_any _ _ w he
  have H5 : Hid (∀ w, ErrOk w → Calls Tryz.prog 11 #[.string ⟨#[99, 110, 61, 97, 44, 99, 110, 61, 98]⟩, .string ⟨#[100, 99, 61, 98]⟩] w (PutPost ([], 13) w)) := fun w he => by rw [← lw_join2]; exact join_any _ _ w he
  have H6 : Hid (∀ w, ErrOk w → Calls Tryz.prog 13 #[.string ⟨#[99, 110, 61, 97, 44, 100, 99, 61, 98]⟩, .string ⟨#[100, 99, 61, 98]⟩, .string ⟨#[100, 99, 61, 99]⟩] w (SbPost ([99, 110, 61, 97, 44, 100, 99, 61, 99], true) w)) := fun w he => by rw [← lw_mov]; exact move_any _ _ _ w he
  have H7 : Hid (∀ w, ErrOk w → Calls Tryz.prog 17 #[.string ⟨#[99, 110, 61, 97, 44, 100, 99, 61, 98]⟩, .string ⟨#[100, 99, 61, 98]⟩] w (BoolPost true w)) := fun w he => by rw [← lw_u1]; exact under_any _ _ w he
  have H8 : Hid (∀ w, ErrOk w → Calls Tryz.prog 17 #[.string ⟨#[100, 99, 61, 98]⟩, .string ⟨#[]⟩] w (BoolPost true w)) := fun w he => by rw [← lw_u2]; exact under_any _ [] w he
  have H9 : Hid (∀ w, ErrOk w → Calls Tryz.prog 17 #[.string ⟨#[100, 99, 61, 98]⟩, .string ⟨#[99, 110, 61, 97, 44, 100, 99, 61, 98]⟩] w (BoolPost false w)) := fun w he => by rw [← lw_u3]; exact under_any _ _ w he
  have H10 : Hid (∀ w, ErrOk w → Calls Tryz.prog 15 #[.string ⟨#[]⟩] w (DepPost 0 w)) := fun w he => by rw [← lw_d1]; exact depth_any [] w he
  have H11 : Hid (∀ w, ErrOk w → Calls Tryz.prog 15 #[.string ⟨#[67, 78, 61, 97]⟩] w (DepPost (-1) w)) := fun w he => by rw [← lw_d2]; exact depth_any _ w he
  have HE := Lib.hid he
  clear he
  go_enter Tryz.func6, Tryz.ntmps6
  go_wp2_with fail
  refine (H1.out w HE.out).mono ?_
  rintro e w1 ⟨rfl, hb⟩
  have B1 := Lib.hid hb
  clear hb
  go_wp2_with fail
  refine (H2.out w1 (errOk_below HE.out B1.out)).mono ?_
  rintro e w2 ⟨rfl, hb⟩
  have B2 := Lib.hid (B1.out.trans (hb.mono B1.out.size))
  clear hb
  go_wp2_with fail
  refine (H3.out w2 (errOk_below HE.out B2.out)).mono ?_
  rintro e w3 ⟨rfl, hb⟩
  have B3 := Lib.hid (B2.out.trans (hb.mono B2.out.size))
  clear hb
  go_wp2_with fail
  refine (H4.out w3 (errOk_below HE.out B3.out)).mono ?_
  rintro e w4 ⟨rfl, hb⟩
  have B4 := Lib.hid (B3.out.trans (hb.mono B3.out.size))
  clear hb
  go_wp2_with fail
  refine (H5.out w4 (errOk_below HE.out B4.out)).mono ?_
  rintro e w5 ⟨rfl, hb⟩
  have B5 := Lib.hid (B4.out.trans (hb.mono B4.out.size))
  clear hb
  go_wp2_with fail
  refine (H6.out w5 (errOk_below HE.out B5.out)).mono ?_
  rintro e w6 ⟨rfl, hb⟩
  have B6 := Lib.hid (B5.out.trans (hb.mono B5.out.size))
  clear hb
  go_wp2_with fail
  refine (H7.out w6 (errOk_below HE.out B6.out)).mono ?_
  rintro e w7 ⟨rfl, hb⟩
  have B7 := Lib.hid (B6.out.trans (hb.mono B6.out.size))
  clear hb
  go_wp2_with fail
  refine (H8.out w7 (errOk_below HE.out B7.out)).mono ?_
  rintro e w8 ⟨rfl, hb⟩
  have B8 := Lib.hid (B7.out.trans (hb.mono B7.out.size))
  clear hb
  go_wp2_with fail
  refine (H9.out w8 (errOk_below HE.out B8.out)).mono ?_
  rintro e w9 ⟨rfl, hb⟩
  have B9 := Lib.hid (B8.out.trans (hb.mono B8.out.size))
  clear hb
  go_wp2_with fail
  refine (H10.out w9 (errOk_below HE.out B9.out)).mono ?_
  rintro e w10 ⟨rfl, hb⟩
  have B10 := Lib.hid (B9.out.trans (hb.mono B9.out.size))
  clear hb
  go_wp2_with fail
  refine (H11.out w10 (errOk_below HE.out B10.out)).mono ?_
  rintro e w11 ⟨rfl, hb⟩
  have B11 := Lib.hid (B10.out.trans (hb.mono B10.out.size))
  clear hb
  go_wp2
  go_ret
  exact boolPost_mk (by rfl) B11.out
end Go.Proofs.YtdmjnfadhlgpkaaGreatDoor
