/- The code's Less tells which of two texts is less, for every two texts. -/
import Derived.Test.YtnfkknelpgnmhaaDoorFoldD
namespace Go.Proofs.YtnfkknelpgnmhaaDoor
open Go Go.RowKit Go.Proofs.BerK Go.Proofs.MemK Go.Proofs.UtfK

def toldB (l : List UInt8) : Bool := decide (intL l = (l, true))

set_option maxHeartbeats 800000 in
set_option maxRecDepth 100000 in
theorem told_any (s : ByteArray) (w : World) :
    Calls Tryd.prog 14 #[.string s] w (BoolPost (toldB s.data.toList) w) := by
  obtain ⟨a, b, hi⟩ : ∃ a b, intL s.data.toList = (a, b) := ⟨_, _, rfl⟩
  have HC := Lib.hid (int_c s a b hi)
  cases b
  · have HR := Lib.hid (show toldB s.data.toList = false by simp [toldB, hi])
    clear hi
    go_enter Tryd.func14, Tryd.ntmps14
    go_wp2_with fail
    refine (HC.out _).mono ?_
    rintro e w1 ⟨rfl, hb1⟩
    go_wp2
    go_ret
    exact boolPost_mk HR.out hb1
  · have HR := Lib.hid (show toldB s.data.toList = (a == s.toList) by
      rw [toldB, hi, ByteArray.toList_eq, Bool.eq_iff_iff]; simp)
    clear hi
    go_enter Tryd.func14, Tryd.ntmps14
    go_wp2_with fail
    refine (HC.out _).mono ?_
    rintro e w1 ⟨rfl, hb1⟩
    go_wp2
    go_ret
    exact boolPost_mk HR.out hb1

set_option maxHeartbeats 800000 in
set_option maxRecDepth 100000 in
theorem lessd_any (x y : ByteArray) (w : World) :
    Calls Tryd.prog 15 #[.string x, .string y] w (BoolPost (szB x.data.toList y.data.toList) w) := by
  have hx := len_list x
  have hy := len_list y
  by_cases h : x.size = y.size
  · have HR := Lib.hid (show szB x.data.toList y.data.toList = Op.bytesLess x.toList y.toList by
      rw [szB, hx, hy, ByteArray.toList_eq, ByteArray.toList_eq, less_ltB]; simp [h])
    have h1 : ((x.size : Int) != (y.size : Int)) = false := by simp [h]
    clear h hx hy
    go_enter Tryd.func15, Tryd.ntmps15
    go_wp2
    go_ret
    exact boolPost_mk HR.out (Below.refl _ _)
  · have HR := Lib.hid (show szB x.data.toList y.data.toList = decide (x.size < y.size) by
      rw [szB, hx, hy]; simp [h])
    have h1 : ((x.size : Int) != (y.size : Int)) = true := by rw [bne_iff_ne]; omega
    clear hx hy
    by_cases h2 : x.size < y.size
    · have h3 : (x.size : Int) < (y.size : Int) := by omega
      have HR2 := Lib.hid (HR.out.trans (show _ = true by simp [h2]))
      clear h h2
      go_enter Tryd.func15, Tryd.ntmps15
      go_wp2
      go_ret
      exact boolPost_mk (HR2.out.trans (by first | rfl | simp; omega)) (Below.refl _ _)
    · have h3 : (y.size : Int) ≤ (x.size : Int) := by omega
      have HR2 := Lib.hid (HR.out.trans (show _ = false by simp; omega))
      clear h h2
      go_enter Tryd.func15, Tryd.ntmps15
      go_wp2
      go_ret
      exact boolPost_mk (HR2.out.trans (by first | rfl | simp; omega)) (Below.refl _ _)

theorem lessL_no (a b : List UInt8) (h : toldB a = false ∨ toldB b = false) : lessL a b = ltB a b := by
  rw [lessL, if_neg]
  rintro ⟨h1, h2⟩
  simp [toldB, h1, h2] at h
theorem lessL_yes (a b : List UInt8) (h1 : toldB a = true) (h2 : toldB b = true) : lessL a b = lsC (hasM a) (digs a) (hasM b) (digs b) := by
  rw [lessL, if_pos (by simpa [toldB] using And.intro h1 h2)]; rfl

theorem told_c (s : ByteArray) (b : Bool) (h : toldB s.data.toList = b) (w : World) : Calls Tryd.prog 14 #[.string s] w fun en w' => en = .returned (.bool b) ∧ Below w.heap.size w w' :=
  (told_any s w).mono fun _ _ h2 => by unfold BoolPost at h2; rw [h] at h2; exact h2
theorem cut_c (s : ByteArray) (D : List UInt8) (m : Bool) (h1 : digs s.data.toList = D) (h2 : hasM s.data.toList = m) (w : World) : Calls Tryd.prog 11 #[.string s, .string ⟨#[45]⟩] w fun en w' => en = .returned (.tuple #[.string ⟨D.toArray⟩, .bool m]) ∧ w' = w :=
  (cut_any s w).mono fun _ _ h => by unfold CutPost at h; rw [h1, h2] at h; exact h

set_option maxHeartbeats 1600000 in
set_option maxRecDepth 100000 in
theorem less_any (x y : ByteArray) (w : World) :
    Calls Tryd.prog 8 #[.string x, .string y] w (BoolPost (lessL x.data.toList y.data.toList) w) := by
  obtain ⟨p, hp⟩ : ∃ p, toldB x.data.toList = p := ⟨_, rfl⟩
  obtain ⟨q, hq⟩ : ∃ q, toldB y.data.toList = q := ⟨_, rfl⟩
  have HA := Lib.hid (told_c x p hp)
  have HB := Lib.hid (told_c y q hq)
  cases p
  · have HR := Lib.hid (show lessL x.data.toList y.data.toList = Op.bytesLess x.toList y.toList by rw [lessL_no _ _ (.inl hp), ByteArray.toList_eq, ByteArray.toList_eq, less_ltB])
    clear hp hq
    go_enter Tryd.func8, Tryd.ntmps8
    go_wp2_with fail
    refine (HA.out _).mono ?_
    rintro e w1 ⟨rfl, hb1⟩
    go_wp2
    go_ret
    exact boolPost_mk HR.out hb1
  · cases q
    · have HR := Lib.hid (show lessL x.data.toList y.data.toList = Op.bytesLess x.toList y.toList by rw [lessL_no _ _ (.inr hq), ByteArray.toList_eq, ByteArray.toList_eq, less_ltB])
      clear hp hq
      go_enter Tryd.func8, Tryd.ntmps8
      go_wp2_with fail
      refine (HA.out _).mono ?_
      rintro e w1 ⟨rfl, hb1⟩
      go_wp2_with fail
      refine (HB.out _).mono ?_
      rintro e w2 ⟨rfl, hb2⟩
      have hend := hb1.trans (hb2.mono hb1.size)
      clear hb1 hb2
      go_wp2
      go_ret
      exact boolPost_mk HR.out hend
    · obtain ⟨D1, hD1⟩ : ∃ D, digs x.data.toList = D := ⟨_, rfl⟩
      obtain ⟨D2, hD2⟩ : ∃ D, digs y.data.toList = D := ⟨_, rfl⟩
      obtain ⟨m1, hm1⟩ : ∃ D, hasM x.data.toList = D := ⟨_, rfl⟩
      obtain ⟨m2, hm2⟩ : ∃ D, hasM y.data.toList = D := ⟨_, rfl⟩
      have HC1 := Lib.hid (cut_c x D1 m1 hD1 hm1)
      have HC2 := Lib.hid (cut_c y D2 m2 hD2 hm2)
      have hR := lessL_yes _ _ hp hq
      rw [hD1, hD2, hm1, hm2] at hR
      have HR := Lib.hid hR
      clear hp hq hD1 hD2 hm1 hm2 hR
      cases m1 <;> cases m2
      · go_enter Tryd.func8, Tryd.ntmps8
        go_wp2_with fail
        refine (HA.out _).mono ?_
        rintro e w1 ⟨rfl, hb1⟩
        go_wp2_with fail
        refine (HB.out _).mono ?_
        rintro e w2 ⟨rfl, hb2⟩
        have hend := hb1.trans (hb2.mono hb1.size)
        clear hb1 hb2
        go_wp2_with fail
        refine (HC1.out _).mono ?_
        rintro e w3 ⟨rfl, hw⟩
        obtain rfl := hw.symm
        go_wp2_with fail
        refine (HC2.out _).mono ?_
        rintro e w3 ⟨rfl, hw⟩
        obtain rfl := hw.symm
        go_wp2_with fail
        refine (lessd_any _ _ _).mono ?_
        rintro e w4 ⟨rfl, hb4⟩
        have hend2 := hend.trans (hb4.mono hend.size)
        clear hend hb4
        go_wp2
        go_ret
        exact boolPost_mk HR.out hend2
      · go_enter Tryd.func8, Tryd.ntmps8
        go_wp2_with fail
        refine (HA.out _).mono ?_
        rintro e w1 ⟨rfl, hb1⟩
        go_wp2_with fail
        refine (HB.out _).mono ?_
        rintro e w2 ⟨rfl, hb2⟩
        have hend := hb1.trans (hb2.mono hb1.size)
        clear hb1 hb2
        go_wp2_with fail
        refine (HC1.out _).mono ?_
        rintro e w3 ⟨rfl, hw⟩
        obtain rfl := hw.symm
        go_wp2_with fail
        refine (HC2.out _).mono ?_
        rintro e w3 ⟨rfl, hw⟩
        obtain rfl := hw.symm
        go_wp2
        go_ret
        exact boolPost_mk HR.out hend
      · go_enter Tryd.func8, Tryd.ntmps8
        go_wp2_with fail
        refine (HA.out _).mono ?_
        rintro e w1 ⟨rfl, hb1⟩
        go_wp2_with fail
        refine (HB.out _).mono ?_
        rintro e w2 ⟨rfl, hb2⟩
        have hend := hb1.trans (hb2.mono hb1.size)
        clear hb1 hb2
        go_wp2_with fail
        refine (HC1.out _).mono ?_
        rintro e w3 ⟨rfl, hw⟩
        obtain rfl := hw.symm
        go_wp2_with fail
        refine (HC2.out _).mono ?_
        rintro e w3 ⟨rfl, hw⟩
        obtain rfl := hw.symm
        go_wp2
        go_ret
        exact boolPost_mk HR.out hend
      · go_enter Tryd.func8, Tryd.ntmps8
        go_wp2_with fail
        refine (HA.out _).mono ?_
        rintro e w1 ⟨rfl, hb1⟩
        go_wp2_with fail
        refine (HB.out _).mono ?_
        rintro e w2 ⟨rfl, hb2⟩
        have hend := hb1.trans (hb2.mono hb1.size)
        clear hb1 hb2
        go_wp2_with fail
        refine (HC1.out _).mono ?_
        rintro e w3 ⟨rfl, hw⟩
        obtain rfl := hw.symm
        go_wp2_with fail
        refine (HC2.out _).mono ?_
        rintro e w3 ⟨rfl, hw⟩
        obtain rfl := hw.symm
        go_wp2_with fail
        refine (lessd_any _ _ _).mono ?_
        rintro e w4 ⟨rfl, hb4⟩
        have hend2 := hend.trans (hb4.mono hend.size)
        clear hend hb4
        go_wp2
        go_ret
        exact boolPost_mk HR.out hend2
theorem less_c (x y : ByteArray) (b : Bool) (h : lessL x.data.toList y.data.toList = b) (w : World) : Calls Tryd.prog 8 #[.string x, .string y] w fun en w' => en = .returned (.bool b) ∧ Below w.heap.size w w' :=
  (less_any x y w).mono fun _ _ h2 => by unfold BoolPost at h2; rw [h] at h2; exact h2
end Go.Proofs.YtnfkknelpgnmhaaDoor
