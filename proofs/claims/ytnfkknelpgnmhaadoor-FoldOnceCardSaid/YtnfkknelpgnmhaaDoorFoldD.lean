/- The code's Int, and Less, for every text. -/
import Derived.Test.YtnfkknelpgnmhaaDoorFoldC
namespace Go.Proofs.YtnfkknelpgnmhaaDoor
open Go Go.RowKit Go.Proofs.BerK Go.Proofs.MemK Go.Proofs.UtfK

/-- Byte by byte, as the model has it. -/
theorem less_ltB : ∀ (x y : List UInt8), Op.bytesLess x y = ltB x y
  | x, [] => by cases x <;> simp [Op.bytesLess, ltB]
  | [], _ :: _ => by simp [Op.bytesLess, ltB]
  | a :: x, b :: y => by
    rw [Op.bytesLess, less_ltB x y, ltB, ltB, Bool.eq_iff_iff]
    simp only [Bool.or_eq_true, Bool.and_eq_true, decide_eq_true_eq, beq_iff_eq, List.cons_lt_cons_iff]

/-! ### Int -/
theorem intL_bad (l : List UInt8) (h : okD (digs l) = false) : intL l = ([], false) := by rw [intL, intOk_okD, if_pos h]
theorem okD_ne (l : List UInt8) (h : okD l = true) : l ≠ [] ∧ l.length ≤ 32 := by
  simp only [okD, Bool.and_eq_true, decide_eq_true_eq] at h
  refine ⟨?_, h.1.2⟩
  rintro rfl
  simp at h
theorem intL_zero (l : List UInt8) (h : okD (digs l) = true) (ht : tz (digs l) = []) : intL l = ([48], true) := by
  rw [intL, intOk_okD, if_neg (by simp [h]), strip_tz _ (okD_ne _ h).1, if_pos ht, if_pos rfl]
theorem intL_num (l : List UInt8) (h : okD (digs l) = true) (ht : tz (digs l) ≠ []) : intL l = ((if hasM l = true then [45] else []) ++ tz (digs l), true) := by
  rw [intL, intOk_okD, if_neg (by simp [h]), strip_tz _ (okD_ne _ h).1, if_neg ht, if_neg (tz_not _)]
  by_cases hm : l.head? = some 45 <;> simp [hasM, hm]
def IntPost (l : List UInt8) (w : World) (en : Ending) (w' : World) : Prop := en = .returned (.tuple #[.string ⟨(intL l).1.toArray⟩, .bool (intL l).2]) ∧ Below w.heap.size w w'
theorem intPost_mk {l a : List UInt8} {b : Bool} {w w' : World} (h : intL l = (a, b)) (hb : Below w.heap.size w w') : IntPost l w (.returned (.tuple #[.string ⟨a.toArray⟩, .bool b])) w' := by
  refine ⟨?_, hb⟩
  rw [h]

set_option maxHeartbeats 1600000 in
set_option maxRecDepth 100000 in
theorem int_any (s : ByteArray) (w : World) :
    Calls Tryd.prog 7 #[.string s] w (IntPost s.data.toList w) := by
  obtain ⟨L, hL⟩ : ∃ L, s.data.toList = L := ⟨_, rfl⟩
  have HC := Lib.hid (cut_any s)
  rw [hL] at HC ⊢
  obtain ⟨D, hD⟩ : ∃ D, digs L = D := ⟨_, rfl⟩
  obtain ⟨m, hm⟩ : ∃ m, hasM L = m := ⟨_, rfl⟩
  obtain ⟨T, hT⟩ : ∃ T, tz D = T := ⟨_, rfl⟩
  have HC1 := Lib.hid (isdig_any ⟨D.toArray⟩)
  have HC2 := Lib.hid (trim_any ⟨D.toArray⟩)
  have e1 : CutPost L = fun w en w' => en = .returned (.tuple #[.string ⟨D.toArray⟩, .bool m]) ∧ w' = w := by unfold CutPost; rw [hD, hm]
  rw [e1] at HC
  by_cases hok : okD D = true
  · have hne := okD_ne D hok
    have e2 : BoolPost (okD D) = fun w en w' => en = .returned (.bool true) ∧ Below w.heap.size w w' := by unfold BoolPost; rw [hok]
    change Hid (∀ w, Calls Tryd.prog _ _ w (BoolPost (okD D) w)) at HC1
    rw [e2] at HC1
    have e3 : TrimPost D = fun w en w' => en = .returned (.string ⟨T.toArray⟩) ∧ w' = w := by unfold TrimPost; rw [hT]
    change Hid (∀ w, Calls Tryd.prog _ _ w (TrimPost D w)) at HC2
    rw [e3] at HC2
    have hTl : T.length ≤ 32 := by rw [← hT]; exact Nat.le_trans (tz_len D) hne.2
    by_cases h0 : T = []
    · have HR := Lib.hid (intL_zero L (by rw [hD]; exact hok) (by rw [hD, hT]; exact h0))
      subst h0
      clear hL hD hm hT e1 e2 e3 hok hne
      go_enter Tryd.func7, Tryd.ntmps7
      go_wp2_with fail
      refine (HC.out _).mono ?_
      rintro e w1 ⟨rfl, hw⟩
      obtain rfl := hw.symm
      go_wp2_with fail
      refine (HC1.out _).mono ?_
      rintro e w2 ⟨rfl, hb2⟩
      go_wp2_with fail
      refine (HC2.out _).mono ?_
      rintro e w3 ⟨rfl, hw⟩
      obtain rfl := hw.symm
      go_wp2
      go_ret2
      exact intPost_mk HR.out hb2
    · have hem : T.isEmpty = false := by cases T with
        | nil => exact absurd rfl h0
        | cons a l => rfl
      have HR := Lib.hid (intL_num L (by rw [hD]; exact hok) (by rw [hD, hT]; exact h0))
      rw [hD, hT, hm] at HR
      clear hL hD hm hT e1 e2 e3 hok hne h0
      cases m
      · have HR2 := Lib.hid (show intL L = (T, true) by rw [HR.out]; simp)
        go_enter Tryd.func7, Tryd.ntmps7
        go_wp2_with fail
        refine (HC.out _).mono ?_
        rintro e w1 ⟨rfl, hw⟩
        obtain rfl := hw.symm
        go_wp2_with fail
        refine (HC1.out _).mono ?_
        rintro e w2 ⟨rfl, hb2⟩
        go_wp2_with fail
        refine (HC2.out _).mono ?_
        rintro e w3 ⟨rfl, hw⟩
        obtain rfl := hw.symm
        go_wp2
        go_ret2
        exact intPost_mk HR2.out hb2
      · have HR2 := Lib.hid (show intL L = (45 :: T, true) by rw [HR.out]; simp)
        go_enter Tryd.func7, Tryd.ntmps7
        go_wp2_with fail
        refine (HC.out _).mono ?_
        rintro e w1 ⟨rfl, hw⟩
        obtain rfl := hw.symm
        go_wp2_with fail
        refine (HC1.out _).mono ?_
        rintro e w2 ⟨rfl, hb2⟩
        go_wp2_with fail
        refine (HC2.out _).mono ?_
        rintro e w3 ⟨rfl, hw⟩
        obtain rfl := hw.symm
        go_wp2
        go_ret2
        rw [cat_one]
        exact intPost_mk HR2.out hb2
  · have hok' : okD D = false := by simpa using hok
    have e2 : BoolPost (okD D) = fun w en w' => en = .returned (.bool false) ∧ Below w.heap.size w w' := by unfold BoolPost; rw [hok']
    change Hid (∀ w, Calls Tryd.prog _ _ w (BoolPost (okD D) w)) at HC1
    rw [e2] at HC1
    have HR := Lib.hid (intL_bad L (by rw [hD]; exact hok'))
    clear hL hD hm hT e1 e2 hok hok' HC2
    go_enter Tryd.func7, Tryd.ntmps7
    go_wp2_with fail
    refine (HC.out _).mono ?_
    rintro e w1 ⟨rfl, hw⟩
    obtain rfl := hw.symm
    go_wp2_with fail
    refine (HC1.out _).mono ?_
    rintro e w2 ⟨rfl, hb2⟩
    go_wp2
    go_ret2
    exact intPost_mk (a := []) HR.out hb2
theorem int_c (s : ByteArray) (a : List UInt8) (b : Bool) (h : intL s.data.toList = (a, b)) (w : World) :
    Calls Tryd.prog 7 #[.string s] w fun en w' => en = .returned (.tuple #[.string ⟨a.toArray⟩, .bool b]) ∧ Below w.heap.size w w' :=
  (int_any s w).mono fun _ _ h2 => by unfold IntPost at h2; rw [h] at h2; exact h2
end Go.Proofs.YtnfkknelpgnmhaaDoor
