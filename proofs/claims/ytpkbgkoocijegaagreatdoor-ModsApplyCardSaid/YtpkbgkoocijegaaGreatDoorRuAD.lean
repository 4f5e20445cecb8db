/- The code's Norm, Equal and Order, for every value. The code's Equal and Order, for every two values. -/
import Derived.Test.YtpkbgkoocijegaaGreatDoorDqI
import Derived.Test.YtpkbgkoocijegaaGreatDoorFoldAE
import Derived.Test.YtpkbgkoocijegaaGreatDoorPlnA
set_option linter.unusedVariables false
set_option linter.unusedSimpArgs false
set_option maxHeartbeats 25600000
set_option maxRecDepth 100000
namespace Go.Proofs.YtpkbgkoocijegaaGreatDoor
open Go Go.RowKit Go.Proofs.BerK Go.Proofs.MemK Go.Proofs.UtfK
def ruN (r : Int) (s : List UInt8) : List UInt8 × Bool :=
 if 4096 < s.length then ([], false) else
 if r = 1 then (foldL s, !(foldL s).isEmpty) else
 if r = 2 then (blL s, !(blL s).isEmpty) else
 if r = 3 then intL s else
 if r = 4 then (s, true) else
 if r = 5 then ((noD s).1, decide ((noD s).2 = 0)) else ([], false)
theorem ruN_long {r : Int} {s : List UInt8} (h : 4096 < s.length) : ruN r s = ([], false) := by unfold ruN; rw [if_pos h]
theorem ruN_1 {s : List UInt8} (h : ¬ 4096 < s.length) : ruN 1 s = (foldL s, !(foldL s).isEmpty) := by unfold ruN; rw [if_neg h, if_pos rfl]
theorem ruN_2 {s : List UInt8} (h : ¬ 4096 < s.length) : ruN 2 s = (blL s, !(blL s).isEmpty) := by unfold ruN; rw [if_neg h, if_neg (by decide), if_pos rfl]
theorem ruN_3 {s : List UInt8} (h : ¬ 4096 < s.length) : ruN 3 s = intL s := by unfold ruN; rw [if_neg h, if_neg (by decide), if_neg (by decide), if_pos rfl]
theorem ruN_4 {s : List UInt8} (h : ¬ 4096 < s.length) : ruN 4 s = (s, true) := by unfold ruN; rw [if_neg h, if_neg (by decide), if_neg (by decide), if_neg (by decide), if_pos rfl]
theorem ruN_5 {s : List UInt8} (h : ¬ 4096 < s.length) : ruN 5 s = ((noD s).1, decide ((noD s).2 = 0)) := by unfold ruN; rw [if_neg h, if_neg (by decide), if_neg (by decide), if_neg (by decide), if_neg (by decide), if_pos rfl]
theorem ruN_no {r : Int} {s : List UInt8} (h1 : r ≠ 1) (h2 : r ≠ 2) (h3 : r ≠ 3) (h4 : r ≠ 4) (h5 : r ≠ 5) : ruN r s = ([], false) := by
 unfold ruN
 by_cases h : 4096 < s.length
 ·rw [if_pos h]
 ·rw [if_neg h, if_neg h1, if_neg h2, if_neg h3, if_neg h4, if_neg h5]
def NbPost (p : List UInt8 × Bool) (w : World) (en : Ending) (w' : World) : Prop := en = .returned (.tuple #[.string ⟨p.1.toArray⟩, .bool p.2]) /\ Below w.heap.size w w'
theorem nbPost_mk {p : List UInt8 × Bool} {a : List UInt8} {b : Bool} {w w' : World} (h : p = (a, b)) (hb : Below w.heap.size w w') : NbPost p w (.returned (.tuple #[.string ⟨a.toArray⟩, .bool b])) w' := by subst h; exact ⟨rfl, hb⟩
theorem ru_ne {l : List UInt8} (h : l ≠ []) : l.isEmpty = false := by cases l <;> simp_all
theorem runorm_any (r : Int) (s : List UInt8) (w : World) (he : ErrOk w) : Calls Tryz.prog 131 #[.int .i64 r, .string ⟨s.toArray⟩] w (NbPost (ruN r s) w) := by
 by_cases hl : 4096 < s.length
 ·have HR := Hy (ruN_long (r := r) hl)
  have q : (4096 : Int) < (s.length : Int) := by omega
  clear hl he
  go_enter Tryz.func131, Tryz.ntmps131
  go_wp2
  go_ret2
  exact nbPost_mk (a := []) HR.out (Below.refl _ _)
 have q : ¬ (4096 : Int) < (s.length : Int) := by omega
 by_cases h1 : r = 1
 ·subst h1
  have HR := Hy (ruN_1 hl)
  have HL := Hy (fun w => lower_any ⟨s.toArray⟩ w)
  change Hid (∀ w, Calls Tryz.prog _ _ w (StrPost (lowL s) w)) at HL
  have HB := Hy (fun w => blanks_any ⟨(lowL s).toArray⟩ w (by show (lowL s).length + 1 <= _; rw [lowL_length]; omega))
  change Hid (∀ w, Calls Tryz.prog _ _ w (StrPost (blL (lowL s)) w)) at HB
  rw [low_fold] at HB
  obtain ⟨F, hF⟩ : ∃ F, foldL s = F := ⟨_, rfl⟩
  obtain ⟨G, hG⟩ : ∃ G, lowL s = G := ⟨_, rfl⟩
  rw [hF] at HB HR
  rw [hG] at HL HB
  clear hl he hF hG
  by_cases h0 : F = []
  ·subst h0
   go_enter Tryz.func131, Tryz.ntmps131
   go_wp2_with fail
   refine (HL.out _).mono ?_
   rintro e w1 ⟨rfl, hb1⟩
   have B1 := Hy hb1
   clear hb1
   go_wp2_with fail
   refine (HB.out _).mono ?_
   rintro e w2 ⟨rfl, hb2⟩
   have B2 := Hy (B1.out.trans (hb2.mono B1.out.size))
   clear hb2
   go_wp2
   go_ret2
   exact nbPost_mk HR.out B2.out
  ·have q0 := ru_ne h0
   have HR2 := Hy (show ruN 1 s = (F, true) by rw [HR.out, q0]; rfl)
   clear h0 HR
   go_enter Tryz.func131, Tryz.ntmps131
   go_wp2_with fail
   refine (HL.out _).mono ?_
   rintro e w1 ⟨rfl, hb1⟩
   have B1 := Hy hb1
   clear hb1
   go_wp2_with fail
   refine (HB.out _).mono ?_
   rintro e w2 ⟨rfl, hb2⟩
   have B2 := Hy (B1.out.trans (hb2.mono B1.out.size))
   clear hb2
   go_wp2
   go_ret2
   exact nbPost_mk HR2.out B2.out
 by_cases h2 : r = 2
 ·subst h2
  have HR := Hy (ruN_2 hl)
  have HB := Hy (fun w => blanks_any ⟨s.toArray⟩ w (by show s.length + 1 <= _; omega))
  change Hid (∀ w, Calls Tryz.prog _ _ w (StrPost (blL s) w)) at HB
  obtain ⟨F, hF⟩ : ∃ F, blL s = F := ⟨_, rfl⟩
  rw [hF] at HB HR
  clear hl he hF h1
  by_cases h0 : F = []
  ·subst h0
   go_enter Tryz.func131, Tryz.ntmps131
   go_wp2_with fail
   refine (HB.out _).mono ?_
   rintro e w2 ⟨rfl, hb2⟩
   have B2 := Hy hb2
   clear hb2
   go_wp2
   go_ret2
   exact nbPost_mk HR.out B2.out
  ·have q0 := ru_ne h0
   have HR2 := Hy (show ruN 2 s = (F, true) by rw [HR.out, q0]; rfl)
   clear h0 HR
   go_enter Tryz.func131, Tryz.ntmps131
   go_wp2_with fail
   refine (HB.out _).mono ?_
   rintro e w2 ⟨rfl, hb2⟩
   have B2 := Hy hb2
   clear hb2
   go_wp2
   go_ret2
   exact nbPost_mk HR2.out B2.out
 by_cases h3 : r = 3
 ·subst h3
  have HR := Hy (ruN_3 hl)
  have HB := Hy (fun w => int_any ⟨s.toArray⟩ w)
  change Hid (∀ w, Calls Tryz.prog _ _ w (IntPost s w)) at HB
  clear hl he h1 h2
  go_enter Tryz.func131, Tryz.ntmps131
  go_wp2_with fail
  refine (HB.out _).mono ?_
  rintro e w2 ⟨rfl, hb2⟩
  have B2 := Hy hb2
  clear hb2
  go_wp2
  go_ret2
  exact nbPost_mk HR.out B2.out
 by_cases h4 : r = 4
 ·subst h4
  have HR := Hy (ruN_4 hl)
  clear hl he h1 h2 h3
  go_enter Tryz.func131, Tryz.ntmps131
  go_wp2
  go_ret2
  exact nbPost_mk HR.out (Below.refl _ _)
 by_cases h5 : r = 5
 ·subst h5
  have HR := Hy (ruN_5 hl)
  have HB := Hy (dnorm_any ⟨s.toArray⟩ w he)
  change Hid (Calls Tryz.prog _ _ w (PutPost (noD s) w)) at HB
  obtain ⟨P, hP⟩ : ∃ P, noD s = P := ⟨_, rfl⟩
  rw [hP] at HB HR
  obtain ⟨X, n⟩ := P
  clear hl he h1 h2 h3 h4 hP
  by_cases hn : n = 0
  ·subst hn
   go_enter Tryz.func131, Tryz.ntmps131
   go_wp2_with fail
   refine HB.out.mono ?_
   rintro e w2 ⟨rfl, hb2⟩
   have B2 := Hy hb2
   clear hb2
   go_wp2
   go_ret2
   exact nbPost_mk HR.out B2.out
  ·have q0 : ((n : Int) == 0) = false := by rw [beq_eq_false_iff_ne]; omega
   have HR2 := Hy (show ruN 5 s = (X, false) by rw [HR.out]; simp [hn])
   clear hn HR
   go_enter Tryz.func131, Tryz.ntmps131
   go_wp2_with fail
   refine HB.out.mono ?_
   rintro e w2 ⟨rfl, hb2⟩
   have B2 := Hy hb2
   clear hb2
   go_wp2
   go_ret2
   exact nbPost_mk HR2.out B2.out
 have HR := Hy (ruN_no (s := s) h1 h2 h3 h4 h5)
 have g1 : (r == 1) = false := by simpa using h1
 have g2 : (r == 2) = false := by simpa using h2
 have g3 : (r == 3) = false := by simpa using h3
 have g4 : (r == 4) = false := by simpa using h4
 have g5 : (r == 5) = false := by simpa using h5
 clear hl he h1 h2 h3 h4 h5
 go_enter Tryz.func131, Tryz.ntmps131
 go_wp2
 go_ret2
 exact nbPost_mk (a := []) HR.out (Below.refl _ _)
def IPost (n : Int) (w : World) (en : Ending) (w' : World) : Prop := en = .returned (.int .i64 n) /\ Below w.heap.size w w'
theorem iPost_mk {n m : Int} {w w' : World} (h : n = m) (hb : Below w.heap.size w w') : IPost n w (.returned (.int .i64 m)) w' := by subst h; exact ⟨rfl, hb⟩
theorem pureI_mkR {n m : Int} {w : World} (h : n = m) : PureI n w (.returned (.int .i64 m)) w := by subst h; exact ⟨rfl, rfl⟩
theorem rutruth_any (b : Bool) (w : World) : Calls Tryz.prog 155 #[.bool b] w (PureI (tv b) w) := by
 cases b
 all_goals
  go_enter Tryz.func155, Tryz.ntmps155
  go_wp2
  go_ret
  exact pureI_mkR (by rfl)
def BothPost (p q : List UInt8 × Bool) (w : World) (en : Ending) (w' : World) : Prop := en = .returned (.tuple #[.string ⟨p.1.toArray⟩, .string ⟨q.1.toArray⟩, .bool (p.2 && q.2)]) /\ Below w.heap.size w w'
theorem bothPost_mk {p q : List UInt8 × Bool} {a b : List UInt8} {c : Bool} {w w' : World} (h1 : p.1 = a) (h2 : q.1 = b) (h3 : (p.2 && q.2) = c) (hb : Below w.heap.size w w') : BothPost p q w (.returned (.tuple #[.string ⟨a.toArray⟩, .string ⟨b.toArray⟩, .bool c])) w' := by subst h1 h2 h3; exact ⟨rfl, hb⟩
theorem ruboth_any (r : Int) (a b : List UInt8) (w : World) (he : ErrOk w) : Calls Tryz.prog 154 #[.int .i64 r, .string ⟨a.toArray⟩, .string ⟨b.toArray⟩] w (BothPost (ruN r a) (ruN r b) w) := by
 have H1 := Hy (runorm_any r a w he)
 have H2 := Hy (fun w' (hb : Below w.heap.size w w') => runorm_any r b w' (errOk_below he hb))
 obtain ⟨p, hp⟩ : ∃ p, ruN r a = p := ⟨_, rfl⟩
 obtain ⟨q, hq⟩ : ∃ p, ruN r b = p := ⟨_, rfl⟩
 rw [hp] at H1 ⊢
 rw [hq] at H2 ⊢
 obtain ⟨x, b1⟩ := p
 obtain ⟨y, b2⟩ := q
 clear hp hq he
 cases b1
 all_goals
  go_enter Tryz.func154, Tryz.ntmps154
  go_wp2_with fail
  refine H1.out.mono ?_
  rintro e w1 ⟨rfl, hb1⟩
  have B1 := Hy hb1
  clear hb1
  go_wp2_with fail
  refine (H2.out _ B1.out).mono ?_
  rintro e w2 ⟨rfl, hb2⟩
  have B2 := Hy (B1.out.trans (hb2.mono B1.out.size))
  clear hb2
  go_wp2
  go_ret3
  exact bothPost_mk rfl rfl (by simp) B2.out
theorem ruequal_any (r : Int) (a b : List UInt8) (w : World) (he : ErrOk w) : Calls Tryz.prog 100 #[.int .i64 r, .string ⟨a.toArray⟩, .string ⟨b.toArray⟩] w (IPost (eqP (ruN r a) (ruN r b)) w) := by
 have HB := Hy (ruboth_any r a b w he)
 have HT := Hy rutruth_any
 obtain ⟨p, hp⟩ : ∃ p, ruN r a = p := ⟨_, rfl⟩
 obtain ⟨q, hq⟩ : ∃ p, ruN r b = p := ⟨_, rfl⟩
 rw [hp, hq] at HB ⊢
 obtain ⟨x, b1⟩ := p
 obtain ⟨y, b2⟩ := q
 clear hp hq he
 cases hbb : (b1 && b2)
 ·have HR := Hy (show eqP (x, b1) (y, b2) = 2 by unfold eqP; rw [if_neg]; rintro ⟨h1, h2⟩; simp at h1 h2; subst h1 h2; cases hbb)
  have e1 : BothPost (x, b1) (y, b2) w = fun en w' => en = .returned (.tuple #[.string ⟨x.toArray⟩, .string ⟨y.toArray⟩, .bool false]) /\ Below w.heap.size w w' := by unfold BothPost; simp only [hbb]
  rw [e1] at HB
  clear hbb e1
  go_enter Tryz.func100, Tryz.ntmps100
  go_wp2_with fail
  refine HB.out.mono ?_
  rintro e w1 ⟨rfl, hb1⟩
  have B1 := Hy hb1
  clear hb1
  go_wp2
  go_ret
  exact iPost_mk HR.out B1.out
 ·obtain ⟨rfl, rfl⟩ : b1 = true /\ b2 = true := by simpa using hbb
  have HR := Hy (eqP_one x y)
  clear hbb
  go_enter Tryz.func100, Tryz.ntmps100
  go_wp2_with fail
  refine HB.out.mono ?_
  rintro e w1 ⟨rfl, hb1⟩
  have B1 := Hy hb1
  clear hb1
  go_wp2_with fail
  refine (HT.out _ _).mono ?_
  rintro e w2 ⟨rfl, hw⟩
  obtain rfl := hw.symm
  go_wp2
  go_ret
  exact iPost_mk HR.out B1.out
end Go.Proofs.YtpkbgkoocijegaaGreatDoor
