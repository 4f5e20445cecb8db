/- A pair's text read, for every text. -/
import Derived.Test.YtdmjnfadhlgpkaaGreatDoorDnX
namespace Go.Proofs.YtdmjnfadhlgpkaaGreatDoor
set_option linter.unusedSimpArgs false
set_option linter.unusedVariables false
open Go Go.RowKit Go.Proofs.BerK Go.Proofs.MemK Go.Proofs.UtfK

theorem cut1_len (c : UInt8) (l : List UInt8) : (cut1 c l).length ≤ l.length := (List.takeWhile_sublist _).length_le
theorem cut2_len (c : UInt8) (l : List UInt8) : (cut2 c l).length ≤ l.length := by
  unfold cut2
  rw [List.length_drop]
  have := (List.dropWhile_sublist (· != c) (l := l)).length_le
  omega
def RpV : Option Av → Value
  | none => .tuple #[.agg #[.string ⟨#[]⟩, .string ⟨#[]⟩], .bool false]
  | some p => .tuple #[.agg #[.string ⟨p.1.toArray⟩, .string ⟨p.2.toArray⟩], .bool true]
def RpPost (o : Option Av) (w : World) (en : Ending) (w' : World) : Prop := en = .returned (RpV o) ∧ Below w.heap.size w w'

/-- A struct of two cells is stored whole. -/
theorem obj_set2 {w : World} {g : Nat} {a b : Value} {t : TypeId} (h : w.heap[g]? = some (.cells #[a, b] t (0, 0))) (a' b' : Value) : ((w.setCell ⟨g, 0, none⟩ a').setCell ⟨g, 1, none⟩ b').heap[g]? = some (.cells #[a', b'] t (0, 0)) :=
  obj_set (obj_set h 0 a') 1 b'
theorem obj2 {w : World} {g : Nat} {a b : Value} {t : TypeId} (h : w.heap[g]? = some (.cells #[a, b] t (0, 0))) : w.cell? ⟨g, 0, none⟩ = some a ∧ w.cell? ⟨g, 1, none⟩ = some b := ⟨obj_cell h 0 a rfl, obj_cell h 1 b rfl⟩
theorem below_set2 {B : Nat} {a w : World} (h : Below B a w) {g : Nat} (hg : B ≤ g) (x y : Value) : Below B a ((w.setCell ⟨g, 0, none⟩ x).setCell ⟨g, 1, none⟩ y) :=
  (h.setCell (p := ⟨g, 0, none⟩) hg x).setCell (p := ⟨g, 1, none⟩) hg y

set_option maxHeartbeats 3200000 in
set_option maxRecDepth 100000 in
theorem dpair_any (s : ByteArray) (hs : s.size ≤ 140737488355328) (w : World) (he : ErrOk w) :
    Calls Tryz.prog 65 #[.string s] w (RpPost (rpL s.data.toList) w) := by
  have HC := Lib.hid (scut_any s hs)
  obtain ⟨A, hA⟩ : ∃ A, cut1 61 s.data.toList = A := ⟨_, rfl⟩
  obtain ⟨B, hB⟩ : ∃ B, cut2 61 s.data.toList = B := ⟨_, rfl⟩
  have hAl : A.length ≤ 140737488355328 := by rw [← hA]; have := cut1_len 61 s.data.toList; rw [len_list] at this; omega
  have hBl : B.length ≤ 140737488355328 := by rw [← hB]; have := cut2_len 61 s.data.toList; rw [len_list] at this; omega
  change Hid (∀ w, Calls Tryz.prog _ _ w fun en w' => (∃ b, en = .returned (.tuple #[.string ⟨(cut1 61 s.data.toList).toArray⟩, .string ⟨(cut2 61 s.data.toList).toArray⟩, .bool b])) ∧ Below w.heap.size w w') at HC
  rw [hA, hB] at HC
  have HT := Lib.hid (trim32_any ⟨A.toArray⟩ (show A.length ≤ _ from hAl))
  obtain ⟨T, hT⟩ : ∃ T, tlB (trB A) = T := ⟨_, rfl⟩
  change Hid (∀ w, Calls Tryz.prog _ _ w (StrPost (tlB (trB A)) w)) at HT
  rw [hT] at HT
  have HY := Lib.hid (dtype_any ⟨T.toArray⟩)
  change Hid (∀ w, Calls Tryz.prog _ _ w (PureB (tyL T) w)) at HY
  have HV := Lib.hid (fun w he => dvalue_any ⟨B.toArray⟩ (show B.length ≤ _ from hBl) w he)
  change Hid (∀ w, ErrOk w → Calls Tryz.prog _ _ w (RvPost (rvL B) w)) at HV
  have hrp : rpL s.data.toList = rpJ (tyL T) T (rvL B) := by unfold rpL; rw [hA, hB, hT]
  have HE := Lib.hid he
  rw [hrp]
  obtain ⟨W1, hW1⟩ : ∃ W1, w.alloc (.cells #[.string ⟨#[]⟩, .string ⟨#[]⟩] 60) = W1 := ⟨_, rfl⟩
  have hbox : W1.heap[w.heap.size]? = some (.cells #[.string ⟨#[]⟩, .string ⟨#[]⟩] 60 (0, 0)) := by rw [← hW1]; exact heap_alloc_new w _
  have hbW : Below w.heap.size w W1 := by rw [← hW1]; exact (Below.refl _ w).alloc (Nat.le_refl _) _
  have HW := Lib.hid (And.intro hbox hbW)
  clear hA hB hT hrp hAl hBl hs he hbox hbW
  obtain ⟨ty, hty⟩ : ∃ ty, tyL T = ty := ⟨_, rfl⟩
  rw [hty] at HY ⊢
  clear hty
  cases ty with
  | false =>
    go_enter Tryz.func65, Tryz.ntmps65
    go_wp2_with fail
    refine (HC.out _).mono ?_
    rintro e w2 ⟨⟨b, rfl⟩, hb2⟩
    go_wp2_with fail
    refine (HT.out _).mono ?_
    rintro e w3 ⟨rfl, hb3⟩
    go_wp2_with fail
    refine (HY.out _).mono ?_
    rintro e w4 ⟨rfl, hw⟩
    obtain rfl := hw.symm
    have hb5 : Below W1.heap.size W1 w3 := hb2.trans (hb3.mono hb2.size)
    have hbx := obj_below HW.out.1 hb5 (obj_lt HW.out.1)
    obtain ⟨b0, b1⟩ := obj2 hbx
    have f0 := obj_free hbx 0
    have f1 := obj_free hbx 1
    have HF := Lib.hid (And.intro (HW.out.2.trans (hb5.mono HW.out.2.size)) (obj_set2 hbx (.string ⟨#[]⟩) (.string ⟨#[]⟩)))
    clear hb5 hbx
    go_wp2
    obtain ⟨g0, g1⟩ := obj2 HF.out.2
    refine bodyPost_ret (v := RpV (none)) (by simp [results, Tryz.results65, go_sem, RpV, *]) rfl ⟨?_, below_set2 HF.out.1 (Nat.le_refl _) _ _⟩
    rfl
  | true =>
    obtain ⟨o, ho⟩ : ∃ o, rvL B = o := ⟨_, rfl⟩
    rw [ho] at HV ⊢
    clear ho
    go_enter Tryz.func65, Tryz.ntmps65
    go_wp2_with fail
    refine (HC.out _).mono ?_
    rintro e w2 ⟨⟨b, rfl⟩, hb2⟩
    go_wp2_with fail
    refine (HT.out _).mono ?_
    rintro e w3 ⟨rfl, hb3⟩
    go_wp2_with fail
    refine (HY.out _).mono ?_
    rintro e w4 ⟨rfl, hw⟩
    obtain rfl := hw.symm
    have hb5 : Below W1.heap.size W1 w3 := hb2.trans (hb3.mono hb2.size)
    have HVV := Lib.hid (HV.out w3 (errOk_below HE.out (show Below w.heap.size w w3 from HW.out.2.trans (hb5.mono HW.out.2.size))))
    have H5 := Lib.hid hb5
    clear hb2 hb3 hb5
    cases o with
    | none =>
      change Hid (Calls Tryz.prog _ _ w3 fun en w' => en = .returned (.tuple #[.string ⟨#[]⟩, .bool false]) ∧ Below w3.heap.size w3 w') at HVV
      go_wp2_with fail
      refine HVV.out.mono ?_
      rintro e w6 ⟨rfl, hb6⟩
      have hb5 : Below W1.heap.size W1 w6 := H5.out.trans (hb6.mono H5.out.size)
      have hbx := obj_below HW.out.1 hb5 (obj_lt HW.out.1)
      clear hb6
      obtain ⟨b0, b1⟩ := obj2 hbx
      have f0 := obj_free hbx 0
      have f1 := obj_free hbx 1
      have HF := Lib.hid (And.intro (HW.out.2.trans (hb5.mono HW.out.2.size)) (obj_set2 hbx (.string ⟨#[]⟩) (.string ⟨#[]⟩)))
      clear hb5 hbx
      go_wp2
      obtain ⟨g0, g1⟩ := obj2 HF.out.2
      refine bodyPost_ret (v := RpV (none)) (by simp [results, Tryz.results65, go_sem, RpV, *]) rfl ⟨?_, below_set2 HF.out.1 (Nat.le_refl _) _ _⟩
      rfl
    | some v =>
      change Hid (Calls Tryz.prog _ _ w3 fun en w' => en = .returned (.tuple #[.string ⟨v.toArray⟩, .bool true]) ∧ Below w3.heap.size w3 w') at HVV
      by_cases hv : v = []
      · have hem : v.isEmpty = true := by rw [hv]; rfl
        have HR := Lib.hid (show rpJ true T (some v) = none by rw [rpJ, if_pos rfl]; show (if v = [] then none else some (T, v)) = none; rw [if_pos hv])
        clear hv
        go_wp2_with fail
        refine HVV.out.mono ?_
        rintro e w6 ⟨rfl, hb6⟩
        have hb5 : Below W1.heap.size W1 w6 := H5.out.trans (hb6.mono H5.out.size)
        have hbx := obj_below HW.out.1 hb5 (obj_lt HW.out.1)
        clear hb6
        obtain ⟨b0, b1⟩ := obj2 hbx
        have f0 := obj_free hbx 0
        have f1 := obj_free hbx 1
        have HF := Lib.hid (And.intro (HW.out.2.trans (hb5.mono HW.out.2.size)) (obj_set2 hbx (.string ⟨#[]⟩) (.string ⟨#[]⟩)))
        clear hb5 hbx
        go_wp2
        obtain ⟨g0, g1⟩ := obj2 HF.out.2
        refine bodyPost_ret (v := RpV (none)) (by simp [results, Tryz.results65, go_sem, RpV, *]) rfl ⟨?_, below_set2 HF.out.1 (Nat.le_refl _) _ _⟩
        rw [HR.out]
      · have hem : v.isEmpty = false := by cases v <;> simp_all
        have HR := Lib.hid (show rpJ true T (some v) = some (T, v) by rw [rpJ, if_pos rfl]; show (if v = [] then none else some (T, v)) = some (T, v); rw [if_neg hv])
        clear hv
        go_wp2_with fail
        refine HVV.out.mono ?_
        rintro e w6 ⟨rfl, hb6⟩
        have hb5 : Below W1.heap.size W1 w6 := H5.out.trans (hb6.mono H5.out.size)
        have hbx := obj_below HW.out.1 hb5 (obj_lt HW.out.1)
        clear hb6
        obtain ⟨b0, b1⟩ := obj2 hbx
        have f0 := obj_free hbx 0
        have f1 := obj_free hbx 1
        have HF := Lib.hid (And.intro (HW.out.2.trans (hb5.mono HW.out.2.size)) (obj_set2 hbx (.string ⟨T.toArray⟩) (.string ⟨v.toArray⟩)))
        clear hb5 hbx
        go_wp2
        obtain ⟨g0, g1⟩ := obj2 HF.out.2
        refine bodyPost_ret (v := RpV (some (T, v))) (by simp [results, Tryz.results65, go_sem, RpV, *]) rfl ⟨?_, below_set2 HF.out.1 (Nat.le_refl _) _ _⟩
        rw [HR.out]
end Go.Proofs.YtdmjnfadhlgpkaaGreatDoor
