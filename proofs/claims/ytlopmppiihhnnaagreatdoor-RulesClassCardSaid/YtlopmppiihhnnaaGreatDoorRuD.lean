/- The code's Equal and Order, for every two values. -/
import Derived.Test.YtlopmppiihhnnaaGreatDoorRuA
namespace Go.Proofs.YtlopmppiihhnnaaGreatDoor
set_option linter.unusedSimpArgs false
set_option linter.unusedVariables false
open Go Go.RowKit Go.Proofs.BerK Go.Proofs.MemK Go.Proofs.UtfK

def IPost (n : Int) (w : World) (en : Ending) (w' : World) : Prop := en = .returned (.int .i64 n) ∧ Below w.heap.size w w'
theorem iPost_mk {n m : Int} {w w' : World} (h : n = m) (hb : Below w.heap.size w w') : IPost n w (.returned (.int .i64 m)) w' := by subst h; exact ⟨rfl, hb⟩
theorem pureI_mk {n m : Int} {w : World} (h : n = m) : PureI n w (.returned (.int .i64 m)) w := by subst h; exact ⟨rfl, rfl⟩
set_option maxHeartbeats 400000 in
theorem rutruth_any (b : Bool) (w : World) : Calls Tryz.prog 25 #[.bool b] w (PureI (tv b) w) := by
  cases b
  all_goals
    go_enter Tryz.func25, Tryz.ntmps25
    go_wp2
    go_ret
    exact pureI_mk (by rfl)
set_option maxHeartbeats 800000 in
set_option maxRecDepth 100000 in
theorem ruless_any (r : Int) (a b : List UInt8) (w : World) : Calls Tryz.prog 27 #[.int .i64 r, .string ⟨a.toArray⟩, .string ⟨b.toArray⟩] w (BoolPost (lsR r a b) w) := by
  by_cases h : r = 3
  · subst h
    have HL := Lib.hid (fun w => less_any ⟨a.toArray⟩ ⟨b.toArray⟩ w)
    change Hid (∀ w, Calls Tryz.prog _ _ w (BoolPost (lessL a b) w)) at HL
    have e : lsR 3 a b = lessL a b := if_pos rfl
    rw [e]
    obtain ⟨q, hq⟩ : ∃ q, lessL a b = q := ⟨_, rfl⟩
    rw [hq] at HL ⊢
    clear e hq
    go_enter Tryz.func27, Tryz.ntmps27
    go_wp2_with fail
    refine (HL.out _).mono ?_
    rintro e w1 ⟨rfl, hb1⟩
    have B1 := Lib.hid hb1
    clear hb1
    go_wp2
    go_ret
    exact boolPost_mk rfl B1.out
  · have g : (r == 3) = false := by simpa using h
    have HR := Lib.hid (show lsR r a b = Op.bytesLess a b by rw [lsR, if_neg h, less_ltB])
    clear h
    go_enter Tryz.func27, Tryz.ntmps27
    go_wp2
    go_ret
    exact boolPost_mk HR.out (Below.refl _ _)
def BothPost (p q : List UInt8 × Bool) (w : World) (en : Ending) (w' : World) : Prop := en = .returned (.tuple #[.string ⟨p.1.toArray⟩, .string ⟨q.1.toArray⟩, .bool (p.2 && q.2)]) ∧ Below w.heap.size w w'
theorem bothPost_mk {p q : List UInt8 × Bool} {a b : List UInt8} {c : Bool} {w w' : World} (h1 : p.1 = a) (h2 : q.1 = b) (h3 : (p.2 && q.2) = c) (hb : Below w.heap.size w w') : BothPost p q w (.returned (.tuple #[.string ⟨a.toArray⟩, .string ⟨b.toArray⟩, .bool c])) w' := by subst h1 h2 h3; exact ⟨rfl, hb⟩
set_option maxHeartbeats 800000 in
set_option maxRecDepth 100000 in
theorem ruboth_any (r : Int) (a b : List UInt8) (w : World) (he : ErrOk w) : Calls Tryz.prog 24 #[.int .i64 r, .string ⟨a.toArray⟩, .string ⟨b.toArray⟩] w (BothPost (ruN r a) (ruN r b) w) := by
  have H1 := Lib.hid (runorm_any r a w he)
  have H2 := Lib.hid (fun w' (hb : Below w.heap.size w w') => runorm_any r b w' (errOk_below he hb))
  obtain ⟨p, hp⟩ : ∃ p, ruN r a = p := ⟨_, rfl⟩
  obtain ⟨q, hq⟩ : ∃ p, ruN r b = p := ⟨_, rfl⟩
  rw [hp] at H1 ⊢
  rw [hq] at H2 ⊢
  obtain ⟨x, b1⟩ := p
  obtain ⟨y, b2⟩ := q
  clear hp hq he
  cases b1
  all_goals
    go_enter Tryz.func24, Tryz.ntmps24
    go_wp2_with fail
    refine H1.out.mono ?_
    rintro e w1 ⟨rfl, hb1⟩
    have B1 := Lib.hid hb1
    clear hb1
    go_wp2_with fail
    refine (H2.out _ B1.out).mono ?_
    rintro e w2 ⟨rfl, hb2⟩
    have B2 := Lib.hid (B1.out.trans (hb2.mono B1.out.size))
    clear hb2
    go_wp2
    go_ret3
    exact bothPost_mk rfl rfl (by simp) B2.out
set_option maxHeartbeats 800000 in
set_option maxRecDepth 100000 in
theorem ruequal_any (r : Int) (a b : List UInt8) (w : World) (he : ErrOk w) : Calls Tryz.prog 10 #[.int .i64 r, .string ⟨a.toArray⟩, .string ⟨b.toArray⟩] w (IPost (eqP (ruN r a) (ruN r b)) w) := by
  have HB := Lib.hid (ruboth_any r a b w he)
  have HT := Lib.hid rutruth_any
  obtain ⟨p, hp⟩ : ∃ p, ruN r a = p := ⟨_, rfl⟩
  obtain ⟨q, hq⟩ : ∃ p, ruN r b = p := ⟨_, rfl⟩
  rw [hp, hq] at HB ⊢
  obtain ⟨x, b1⟩ := p
  obtain ⟨y, b2⟩ := q
  clear hp hq he
  cases hbb : (b1 && b2)
  · have HR := Lib.hid (show eqP (x, b1) (y, b2) = 2 by unfold eqP; rw [if_neg]; rintro ⟨h1, h2⟩; simp at h1 h2; subst h1 h2; cases hbb)
    have e1 : BothPost (x, b1) (y, b2) w = fun en w' => en = .returned (.tuple #[.string ⟨x.toArray⟩, .string ⟨y.toArray⟩, .bool false]) ∧ Below w.heap.size w w' := by unfold BothPost; simp only [hbb]
    rw [e1] at HB
    clear hbb e1
    go_enter Tryz.func10, Tryz.ntmps10
    go_wp2_with fail
    refine HB.out.mono ?_
    rintro e w1 ⟨rfl, hb1⟩
    have B1 := Lib.hid hb1
    clear hb1
    go_wp2
    go_ret
    exact iPost_mk HR.out B1.out
  · obtain ⟨rfl, rfl⟩ : b1 = true ∧ b2 = true := by simpa using hbb
    have HR := Lib.hid (eqP_one x y)
    clear hbb
    go_enter Tryz.func10, Tryz.ntmps10
    go_wp2_with fail
    refine HB.out.mono ?_
    rintro e w1 ⟨rfl, hb1⟩
    have B1 := Lib.hid hb1
    clear hb1
    go_wp2_with fail
    refine (HT.out _ _).mono ?_
    rintro e w2 ⟨rfl, hw⟩
    obtain rfl := hw.symm
    go_wp2
    go_ret
    exact iPost_mk HR.out B1.out
set_option maxHeartbeats 1600000 in
set_option maxRecDepth 100000 in
theorem ruorder_any (r : Int) (a b : List UInt8) (w : World) (he : ErrOk w) : Calls Tryz.prog 12 #[.int .i64 r, .string ⟨a.toArray⟩, .string ⟨b.toArray⟩] w (IPost (ordP r (ruN r a) (ruN r b)) w) := by
  have HB := Lib.hid (ruboth_any r a b w he)
  have HT := Lib.hid rutruth_any
  obtain ⟨p, hp⟩ : ∃ p, ruN r a = p := ⟨_, rfl⟩
  obtain ⟨q, hq⟩ : ∃ p, ruN r b = p := ⟨_, rfl⟩
  rw [hp, hq] at HB ⊢
  obtain ⟨x, b1⟩ := p
  obtain ⟨y, b2⟩ := q
  have HL := Lib.hid (fun w => ruless_any r x y w)
  clear hp hq he
  cases hbb : (b1 && b2)
  · have HR := Lib.hid (show ordP r (x, b1) (y, b2) = 2 by unfold ordP; rw [if_neg]; rintro ⟨h1, h2, _⟩; simp at h1 h2; subst h1 h2; cases hbb)
    have e1 : BothPost (x, b1) (y, b2) w = fun en w' => en = .returned (.tuple #[.string ⟨x.toArray⟩, .string ⟨y.toArray⟩, .bool false]) ∧ Below w.heap.size w w' := by unfold BothPost; simp only [hbb]
    rw [e1] at HB
    clear hbb e1
    go_enter Tryz.func12, Tryz.ntmps12
    go_wp2_with fail
    refine HB.out.mono ?_
    rintro e w1 ⟨rfl, hb1⟩
    have B1 := Lib.hid hb1
    clear hb1
    go_wp2
    go_ret
    exact iPost_mk HR.out B1.out
  · obtain ⟨rfl, rfl⟩ : b1 = true ∧ b2 = true := by simpa using hbb
    clear hbb
    by_cases h5 : r = 5
    · subst h5
      have HR := Lib.hid (show ordP 5 (x, true) (y, true) = 2 by simp [ordP])
      go_enter Tryz.func12, Tryz.ntmps12
      go_wp2_with fail
      refine HB.out.mono ?_
      rintro e w1 ⟨rfl, hb1⟩
      have B1 := Lib.hid hb1
      clear hb1
      go_wp2
      go_ret
      exact iPost_mk HR.out B1.out
    · have HR := Lib.hid (ordP_one r x y h5)
      have g5 : (r == 5) = false := by simpa using h5
      clear h5
      by_cases hxy : x = y
      · have q : (x == y) = true := by simpa using hxy
        have HR2 := Lib.hid (show ordP r (x, true) (y, true) = tv true by rw [HR.out, q]; rfl)
        clear hxy HR
        go_enter Tryz.func12, Tryz.ntmps12
        go_wp2_with fail
        refine HB.out.mono ?_
        rintro e w1 ⟨rfl, hb1⟩
        have B1 := Lib.hid hb1
        clear hb1
        go_wp2_with fail
        refine (HT.out _ _).mono ?_
        rintro e w2 ⟨rfl, hw⟩
        obtain rfl := hw.symm
        go_wp2
        go_ret
        exact iPost_mk HR2.out B1.out
      · have q : (x == y) = false := by simpa using hxy
        have HR2 := Lib.hid (show ordP r (x, true) (y, true) = tv (lsR r x y) by rw [HR.out, q]; rfl)
        clear hxy HR
        go_enter Tryz.func12, Tryz.ntmps12
        go_wp2_with fail
        refine HB.out.mono ?_
        rintro e w1 ⟨rfl, hb1⟩
        have B1 := Lib.hid hb1
        clear hb1
        go_wp2_with fail
        refine (HL.out _).mono ?_
        rintro e w2 ⟨rfl, hb2⟩
        have B2 := Lib.hid (B1.out.trans (hb2.mono B1.out.size))
        clear hb2
        go_wp2_with fail
        refine (HT.out _ _).mono ?_
        rintro e w3 ⟨rfl, hw⟩
        obtain rfl := hw.symm
        go_wp2
        go_ret
        exact iPost_mk HR2.out B2.out
end Go.Proofs.YtlopmppiihhnnaaGreatDoor
