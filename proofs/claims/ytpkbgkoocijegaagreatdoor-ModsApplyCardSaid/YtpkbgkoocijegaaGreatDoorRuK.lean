/- The document's Norm, Equal and Order, for every value. -/
import Derived.Test.YtpkbgkoocijegaaGreatDoorRuAD
import Derived.Test.YtpkbgkoocijegaaGreatDoorRuB
import Derived.Test.YtpkbgkoocijegaaGreatDoorDrGH
set_option linter.unusedVariables false
set_option linter.unusedSimpArgs false
set_option maxHeartbeats 25600000
set_option maxRecDepth 100000
namespace Go.Proofs.YtpkbgkoocijegaaGreatDoor
open Go Go.RowKit Go.Proofs.BerK Go.Proofs.MemK Go.Proofs.UtfK
theorem rrnorm_any (r : Int) (s : List UInt8) (w : World) : Calls Tryz.prog 82 #[.int .i64 r, .string ⟨s.toArray⟩] w (NbPost (ruN r s) w) := by
 by_cases hl : 4096 < s.length
 ·have HR := Hy (ruN_long (r := r) hl)
  have q : (4096 : Int) < (s.length : Int) := by omega
  clear hl
  go_enter Tryz.func82, Tryz.ntmps82
  go_wp2
  go_ret2
  exact nbPost_mk (a := []) HR.out (Below.refl _ _)
 have q : ¬ (4096 : Int) < (s.length : Int) := by omega
 by_cases h1 : r = 1
 ·subst h1
  have HR := Hy (ruN_1 hl)
  have HB := Hy (fun w => rfold_any ⟨s.toArray⟩ (by show s.length <= _; omega) w)
  change Hid (∀ w, Calls Tryz.prog _ _ w (StrPost (foldL s) w)) at HB
  obtain ⟨F, hF⟩ : ∃ F, foldL s = F := ⟨_, rfl⟩
  rw [hF] at HB HR
  clear hl hF
  by_cases h0 : F = []
  ·subst h0
   go_enter Tryz.func82, Tryz.ntmps82
   go_wp2_with fail
   refine (HB.out _).mono ?_
   rintro e w2 ⟨rfl, hb2⟩
   have B2 := Hy hb2
   clear hb2
   go_wp2
   go_ret2
   exact nbPost_mk HR.out B2.out
  ·have q0 := ru_ne h0
   have HR2 := Hy (show ruN 1 s = (F, true) by rw [HR.out, q0]; rfl)
   clear h0 HR
   go_enter Tryz.func82, Tryz.ntmps82
   go_wp2_with fail
   refine (HB.out _).mono ?_
   rintro e w2 ⟨rfl, hb2⟩
   have B2 := Hy hb2
   clear hb2
   go_wp2
   go_ret2
   exact nbPost_mk HR2.out B2.out
 by_cases h2 : r = 2
 ·subst h2
  have HR := Hy (ruN_2 hl)
  have HB : Hid (∀ w, Calls Tryz.prog 136 #[.string ⟨s.toArray⟩] w (StrPost (blL s) w)) := Hy (fun w => (rblanks_any ⟨s.toArray⟩ (by show s.length <= _; omega) w).mono fun _ _ h => ⟨h.1, by rw [h.2]; exact Below.refl _ _⟩)
  obtain ⟨F, hF⟩ : ∃ F, blL s = F := ⟨_, rfl⟩
  rw [hF] at HB HR
  clear hl hF h1
  by_cases h0 : F = []
  ·subst h0
   go_enter Tryz.func82, Tryz.ntmps82
   go_wp2_with fail
   refine (HB.out _).mono ?_
   rintro e w2 ⟨rfl, hb2⟩
   have B2 := Hy hb2
   clear hb2
   go_wp2
   go_ret2
   exact nbPost_mk HR.out B2.out
  ·have q0 := ru_ne h0
   have HR2 := Hy (show ruN 2 s = (F, true) by rw [HR.out, q0]; rfl)
   clear h0 HR
   go_enter Tryz.func82, Tryz.ntmps82
   go_wp2_with fail
   refine (HB.out _).mono ?_
   rintro e w2 ⟨rfl, hb2⟩
   have B2 := Hy hb2
   clear hb2
   go_wp2
   go_ret2
   exact nbPost_mk HR2.out B2.out
 by_cases h3 : r = 3
 ·subst h3
  have HR := Hy (ruN_3 hl)
  have HB : Hid (∀ w, Calls Tryz.prog 137 #[.string ⟨s.toArray⟩] w (IntPost s w)) := Hy (fun w => (rint_any ⟨s.toArray⟩ (by show s.length <= _; omega) w).mono fun _ _ h => ⟨h.1, by rw [h.2]; exact Below.refl _ _⟩)
  clear hl h1 h2
  go_enter Tryz.func82, Tryz.ntmps82
  go_wp2_with fail
  refine (HB.out _).mono ?_
  rintro e w2 ⟨rfl, hb2⟩
  have B2 := Hy hb2
  clear hb2
  go_wp2
  go_ret2
  exact nbPost_mk HR.out B2.out
 by_cases h4 : r = 4
 ·subst h4
  have HR := Hy (ruN_4 hl)
  clear hl h1 h2 h3
  go_enter Tryz.func82, Tryz.ntmps82
  go_wp2
  go_ret2
  exact nbPost_mk HR.out (Below.refl _ _)
 by_cases h5 : r = 5
 ·subst h5
  have HR := Hy (ruN_5 hl)
  have HB := Hy (rnorm_any ⟨s.toArray⟩ w)
  change Hid (Calls Tryz.prog _ _ w (PutPost (noD s) w)) at HB
  obtain ⟨P, hP⟩ : ∃ P, noD s = P := ⟨_, rfl⟩
  rw [hP] at HB HR
  obtain ⟨X, n⟩ := P
  clear hl h1 h2 h3 h4 hP
  by_cases hn : n = 0
  ·subst hn
   go_enter Tryz.func82, Tryz.ntmps82
   go_wp2_with fail
   refine HB.out.mono ?_
   rintro e w2 ⟨rfl, hb2⟩
   have B2 := Hy hb2
   clear hb2
   go_wp2
   go_ret2
   exact nbPost_mk HR.out B2.out
  ·have q0 : ((n : Int) == 0) = false := by rw [beq_eq_false_iff_ne]; omega
   have HR2 := Hy (show ruN 5 s = (X, false) by rw [HR.out]; simp [hn])
   clear hn HR
   go_enter Tryz.func82, Tryz.ntmps82
   go_wp2_with fail
   refine HB.out.mono ?_
   rintro e w2 ⟨rfl, hb2⟩
   have B2 := Hy hb2
   clear hb2
   go_wp2
   go_ret2
   exact nbPost_mk HR2.out B2.out
 have HR := Hy (ruN_no (s := s) h1 h2 h3 h4 h5)
 have g1 : (r == 1) = false := by simpa using h1
 have g2 : (r == 2) = false := by simpa using h2
 have g3 : (r == 3) = false := by simpa using h3
 have g4 : (r == 4) = false := by simpa using h4
 have g5 : (r == 5) = false := by simpa using h5
 clear hl h1 h2 h3 h4 h5
 go_enter Tryz.func82, Tryz.ntmps82
 go_wp2
 go_ret2
 exact nbPost_mk (a := []) HR.out (Below.refl _ _)
theorem rrtruth_any (b : Bool) (w : World) : Calls Tryz.prog 146 #[.bool b] w (PureI (tv b) w) := by
 cases b
 all_goals
  go_enter Tryz.func146, Tryz.ntmps146
  go_wp2
  go_ret
  exact pureI_mkR (by rfl)
theorem rrequal_any (r : Int) (a b : List UInt8) (w : World) : Calls Tryz.prog 92 #[.int .i64 r, .string ⟨a.toArray⟩, .string ⟨b.toArray⟩] w (IPost (eqP (ruN r a) (ruN r b)) w) := by
 have H1 := Hy (fun w => rrnorm_any r a w)
 have H2 := Hy (fun w => rrnorm_any r b w)
 have HT := Hy rrtruth_any
 obtain ⟨p, hp⟩ : ∃ p, ruN r a = p := ⟨_, rfl⟩
 obtain ⟨q, hq⟩ : ∃ p, ruN r b = p := ⟨_, rfl⟩
 rw [hp] at H1 ⊢
 rw [hq] at H2 ⊢
 obtain ⟨x, b1⟩ := p
 obtain ⟨y, b2⟩ := q
 clear hp hq
 have hw : (b1 = false /\ eqP (x, b1) (y, b2) = 2) \/ (b1 = true /\ b2 = false /\ eqP (x, b1) (y, b2) = 2) \/ (b1 = true /\ b2 = true /\ eqP (x, b1) (y, b2) = tv (x == y)) := by
  cases b1 <;> cases b2 <;> simp [eqP]
 rcases hw with ⟨rfl, hR⟩ | ⟨rfl, rfl, hR⟩ | ⟨rfl, rfl, hR⟩
 ·have HR := Hy hR
  clear hR
  go_enter Tryz.func92, Tryz.ntmps92
  go_wp2_with fail
  refine (H1.out _).mono ?_
  rintro e w1 ⟨rfl, hb1⟩
  have B1 := Hy hb1
  clear hb1
  go_wp2_with fail
  refine (H2.out _).mono ?_
  rintro e w2 ⟨rfl, hb2⟩
  have B2 := Hy (B1.out.trans (hb2.mono B1.out.size))
  clear hb2
  go_wp2
  go_ret
  exact iPost_mk HR.out B2.out
 ·have HR := Hy hR
  clear hR
  go_enter Tryz.func92, Tryz.ntmps92
  go_wp2_with fail
  refine (H1.out _).mono ?_
  rintro e w1 ⟨rfl, hb1⟩
  have B1 := Hy hb1
  clear hb1
  go_wp2_with fail
  refine (H2.out _).mono ?_
  rintro e w2 ⟨rfl, hb2⟩
  have B2 := Hy (B1.out.trans (hb2.mono B1.out.size))
  clear hb2
  go_wp2
  go_ret
  exact iPost_mk HR.out B2.out
 ·have HR := Hy hR
  clear hR
  go_enter Tryz.func92, Tryz.ntmps92
  go_wp2_with fail
  refine (H1.out _).mono ?_
  rintro e w1 ⟨rfl, hb1⟩
  have B1 := Hy hb1
  clear hb1
  go_wp2_with fail
  refine (H2.out _).mono ?_
  rintro e w2 ⟨rfl, hb2⟩
  have B2 := Hy (B1.out.trans (hb2.mono B1.out.size))
  clear hb2
  go_wp2_with fail
  refine (HT.out _ _).mono ?_
  rintro e w3 ⟨rfl, hw⟩
  obtain rfl := hw.symm
  go_wp2
  go_ret
  exact iPost_mk HR.out B2.out
end Go.Proofs.YtpkbgkoocijegaaGreatDoor
