/- A pair's text read, the document's way, for every text. The document's blanks, and both, for every text. Rows of pairs of the call's own, and a row of them. A name's text read, the document's way, for every text. -/
import Derived.Test.YtlopmppiihhnnaaGreatDoorDrB
import Derived.Test.YtlopmppiihhnnaaGreatDoorDnWY
import Derived.Test.YtlopmppiihhnnaaGreatDoorDnR
import Derived.Test.YtlopmppiihhnnaaGreatDoorRd
import Derived.Test.YtlopmppiihhnnaaGreatDoorDnAA
namespace Go.Proofs.YtlopmppiihhnnaaGreatDoor
set_option linter.unusedSimpArgs false
set_option linter.unusedVariables false
open Go Go.RowKit Go.Proofs.BerK Go.Proofs.MemK Go.Proofs.UtfK

theorem cut_mid (c : UInt8) (a : List UInt8) (h : ∀ x ∈ a, x ≠ c) (u : List UInt8) : cut1 c (a ++ c :: u) = a ∧ cut2 c (a ++ c :: u) = u := by
  induction a with
  | nil => exact ⟨by simp [cut1], by simp [cut2]⟩
  | cons d r ih =>
    have hd := h d (by simp)
    obtain ⟨h1, h2⟩ := ih (fun x hx => h x (by simp [hx]))
    refine ⟨?_, ?_⟩
    · unfold cut1 at h1 ⊢
      rw [List.cons_append, List.takeWhile_cons_of_pos (by simpa using hd), h1]
    · unfold cut2 at h2 ⊢
      rw [List.cons_append, List.dropWhile_cons_of_pos (by simpa using hd), h2]
theorem cut_all (c : UInt8) (a : List UInt8) (h : ∀ x ∈ a, x ≠ c) : cut2 c a = [] := by
  induction a with
  | nil => rfl
  | cons d r ih =>
    have hd := h d (by simp)
    have h2 := ih (fun x hx => h x (by simp [hx]))
    unfold cut2 at h2 ⊢
    rw [List.dropWhile_cons_of_pos (by simpa using hd), h2]
theorem rp_noeq (l : List UInt8) (h : ∀ x ∈ l, x ≠ 61) : rpL l = none := by
  unfold rpL
  rw [cut_all 61 l h]
  unfold rpJ
  split
  · rfl
  · rfl
theorem rp_cut (s : ByteArray) (k : Nat) (h : k < s.size) (he : s[k] = 61) (ha : ∀ x ∈ s.data.toList.take k, x ≠ 61) : rpL s.data.toList = rpJ (tyL (tlB (trB (s.data.toList.take k)))) (tlB (trB (s.data.toList.take k))) (rvL (s.data.toList.drop (k + 1))) := by
  have hl := len_list s
  have hd := drop_at s.data.toList k (by omega)
  rw [at_list s k h, he] at hd
  have hc := cut_mid 61 (s.data.toList.take k) ha (s.data.toList.drop (k + 1))
  rw [← hd, List.take_append_drop] at hc
  unfold rpL
  rw [hc.1, hc.2]
/-- What a pair's text is, as it is handed back. -/
def PrPost (o : Option Av) (w : World) (en : Ending) (w' : World) : Prop :=
  ∃ T V : List UInt8, en = .returned (.tuple #[.agg #[.string ⟨T.toArray⟩, .string ⟨V.toArray⟩], .bool o.isSome]) ∧ (o = none ∨ o = some (T, V)) ∧ Below w.heap.size w w'
set_option maxHeartbeats 6400000 in
set_option maxRecDepth 100000 in
theorem rpair_any (s : ByteArray) (hs : s.size ≤ 140737488355328) (w : World) :
    Calls Tryz.prog 67 #[.string s] w (PrPost (rpL s.data.toList) w) := by
  obtain ⟨W1, hW1⟩ : ∃ W1, w.alloc (.cells #[.string ⟨#[]⟩, .string ⟨#[]⟩] 65) = W1 := ⟨_, rfl⟩
  have hbox : W1.heap[w.heap.size]? = some (.cells #[.string ⟨#[]⟩, .string ⟨#[]⟩] 65 (0, 0)) := by rw [← hW1]; exact heap_alloc_new w _
  have hbW : Below w.heap.size w W1 := by rw [← hW1]; exact (Below.refl _ w).alloc (Nat.le_refl _) _
  have HW := Lib.hid (And.intro hbox hbW)
  have HRN := Lib.hid (rp_noeq s.data.toList)
  have HRC := Lib.hid (rp_cut s)
  obtain ⟨R, hR⟩ : ∃ R, rpL s.data.toList = R := ⟨_, rfl⟩
  rw [hR] at HRN HRC ⊢
  clear hR hbox hbW
  go_enter Tryz.func67, Tryz.ntmps67
  go_wp2
  go_loop [4] (fun v => ∃ k : Nat, k ≤ s.size ∧ v = .int .i64 (k : Nat) ∧ ∀ x ∈ s.data.toList.take k, x ≠ 61) (fun v => s.size - (intOf v).toNat)
  case atStart => exact ⟨0, by omega, rfl, by simp⟩
  case round =>
    obtain ⟨k, hk, rfl, hinv⟩ := hrel
    by_cases hlt : k < s.size
    · have hkl : (k : Int) < (s.size : Int) := by omega
      have h8 : s[k].toNat < 256 := s[k].toNat_lt
      have hsn := take_snoc s k hlt
      have HRk := Lib.hid (HRC.out k hlt)
      obtain ⟨c, hc⟩ : ∃ c, s[k] = c := ⟨_, rfl⟩
      rw [hc] at hsn
      have hxk : s[k].toNat = c.toNat := by rw [hc]
      by_cases h61 : c.toNat = 61
      · have q1 : ((c.toNat : Int) != 61) = false := ne_f h61
        have q2 : ((k : Int) == (s.size : Int)) = false := eq_f (by omega)
        have hr := HRk.out (by rw [hc]; exact UInt8.toNat_inj.1 h61) hinv
        have hAl : (s.data.toList.take k).length ≤ 140737488355328 := by rw [List.length_take, len_list]; omega
        have hBl : (s.data.toList.drop (k + 1)).length ≤ 140737488355328 := by rw [List.length_drop, len_list]; omega
        have hx1 : s.extract 0 k = ⟨(s.data.toList.take k).toArray⟩ := by rw [← mk_list (s.extract 0 k), Lib.extract_data, List.drop_zero]; rfl
        have hx2 : s.extract (k + 1) s.size = ⟨(s.data.toList.drop (k + 1)).toArray⟩ := by rw [← mk_list (s.extract (k + 1) s.size), Lib.extract_to_end]
        obtain ⟨A, hA⟩ : ∃ A, s.data.toList.take k = A := ⟨_, rfl⟩
        obtain ⟨B, hB⟩ : ∃ B, s.data.toList.drop (k + 1) = B := ⟨_, rfl⟩
        rw [hA] at hr hAl hx1
        rw [hB] at hr hBl hx2
        have HT := Lib.hid (rtrim_any ⟨A.toArray⟩ (show A.length ≤ _ from hAl))
        change Hid (∀ w, Calls Tryz.prog _ _ w (PureS (tlB (trB A)) w)) at HT
        have hTl : (tlB (trB A)).length ≤ 140737488355328 := Nat.le_trans (tlB_len _) (Nat.le_trans (trB_len _) hAl)
        obtain ⟨T, hT⟩ : ∃ T, tlB (trB A) = T := ⟨_, rfl⟩
        rw [hT] at hr HT hTl
        have HY := Lib.hid (rtyped_any ⟨T.toArray⟩ (show T.length ≤ _ from hTl))
        change Hid (∀ w, Calls Tryz.prog _ _ w (PureB (tyL T) w)) at HY
        have HV := Lib.hid (fun w => rvalue_any ⟨B.toArray⟩ (show B.length ≤ _ from hBl) w)
        change Hid (∀ w, Calls Tryz.prog _ _ w (RvPost (rvL B) w)) at HV
        obtain ⟨ty, hty⟩ : ∃ ty, tyL T = ty := ⟨_, rfl⟩
        obtain ⟨o, ho⟩ : ∃ o, rvL B = o := ⟨_, rfl⟩
        rw [hty, ho] at hr
        rw [hty] at HY
        rw [ho] at HV
        have HR := Lib.hid hr
        have hk1 : (k : Int) ≤ (s.size : Int) := by omega
        have hk2 : (k : Int) + 1 ≤ (s.size : Int) := by omega
        have hk3 : (0 : Int) ≤ (k : Int) + 1 := by omega
        clear hA hB hT hty ho hr hinv hsn h61 hAl hBl hTl hc
        cases ty with
        | false =>
          go_wp2_with fail
          refine (HT.out _).mono ?_
          rintro e w3 ⟨rfl, hw⟩
          obtain rfl := hw.symm
          clear hw
          go_wp2_with fail
          refine (HY.out _).mono ?_
          rintro e w4 ⟨rfl, hw⟩
          obtain rfl := hw.symm
          clear hw
          obtain ⟨b0, b1⟩ := obj2 HW.out.1
          have f0 := obj_free HW.out.1 0
          have f1 := obj_free HW.out.1 1
          have HF := Lib.hid (obj_set2 HW.out.1 (.string ⟨#[]⟩) (.string ⟨#[]⟩))
          go_wp2
          obtain ⟨g0, g1⟩ := obj2 HF.out
          refine bodyPost_ret (v := RpV (none)) (by simp [results, Tryz.results67, go_sem, RpV, *]) rfl ⟨[], [], ?_, .inl HR.out, below_set2 HW.out.2 (Nat.le_refl _) _ _⟩
          rw [HR.out]; rfl
        | true =>
          go_wp2_with fail
          refine (HT.out _).mono ?_
          rintro e w3 ⟨rfl, hw⟩
          obtain rfl := hw.symm
          clear hw
          go_wp2_with fail
          refine (HY.out _).mono ?_
          rintro e w4 ⟨rfl, hw⟩
          obtain rfl := hw.symm
          clear hw
          cases o with
          | none =>
            have HVV := Lib.hid (HV.out W1)
            change Hid (Calls Tryz.prog _ _ W1 fun en w' => en = .returned (.tuple #[.string ⟨#[]⟩, .bool false]) ∧ Below W1.heap.size W1 w') at HVV
            go_wp2_with fail
            refine HVV.out.mono ?_
            rintro e w6 ⟨rfl, hb6⟩
            have hbx := obj_below HW.out.1 hb6 (obj_lt HW.out.1)
            have HB6 := Lib.hid (HW.out.2.trans (hb6.mono HW.out.2.size))
            clear hb6
            go_wp2_with fail
            refine (HT.out _).mono ?_
            rintro e w3 ⟨rfl, hw⟩
            obtain rfl := hw.symm
            clear hw
            obtain ⟨b0, b1⟩ := obj2 hbx
            have f0 := obj_free hbx 0
            have f1 := obj_free hbx 1
            have HF := Lib.hid (obj_set2 hbx (.string ⟨T.toArray⟩) (.string ⟨#[]⟩))
            have HRn := Lib.hid (show R = none from HR.out)
            clear hbx
            go_wp2
            obtain ⟨g0, g1⟩ := obj2 HF.out
            refine bodyPost_ret (v := .tuple #[.agg #[.string ⟨T.toArray⟩, .string ⟨#[]⟩], .bool false]) (by simp [results, Tryz.results67, go_sem, *]) rfl ⟨T, [], ?_, .inl HRn.out, below_set2 HB6.out (Nat.le_refl _) _ _⟩
            rw [HRn.out]; rfl
          | some v =>
            have HVV := Lib.hid (HV.out W1)
            change Hid (Calls Tryz.prog _ _ W1 fun en w' => en = .returned (.tuple #[.string ⟨v.toArray⟩, .bool true]) ∧ Below W1.heap.size W1 w') at HVV
            by_cases hv : v = []
            · have hem : v.isEmpty = true := lst_e hv
              have HRn := Lib.hid (show R = none by rw [HR.out, hv]; rfl)
              clear hv
              go_wp2_with fail
              refine HVV.out.mono ?_
              rintro e w6 ⟨rfl, hb6⟩
              have hbx := obj_below HW.out.1 hb6 (obj_lt HW.out.1)
              have HB6 := Lib.hid (HW.out.2.trans (hb6.mono HW.out.2.size))
              clear hb6
              go_wp2_with fail
              refine (HT.out _).mono ?_
              rintro e w3 ⟨rfl, hw⟩
              obtain rfl := hw.symm
              clear hw
              obtain ⟨b0, b1⟩ := obj2 hbx
              have f0 := obj_free hbx 0
              have f1 := obj_free hbx 1
              have HF := Lib.hid (obj_set2 hbx (.string ⟨T.toArray⟩) (.string ⟨v.toArray⟩))
              clear hbx
              go_wp2
              obtain ⟨g0, g1⟩ := obj2 HF.out
              refine bodyPost_ret (v := .tuple #[.agg #[.string ⟨T.toArray⟩, .string ⟨v.toArray⟩], .bool false]) (by simp [results, Tryz.results67, go_sem, *]) rfl ⟨T, v, ?_, .inl HRn.out, below_set2 HB6.out (Nat.le_refl _) _ _⟩
              rw [HRn.out]; rfl
            · have hem : v.isEmpty = false := lst_ne hv
              have HRn := Lib.hid (show R = some (T, v) by rw [HR.out]; unfold rpJ; rw [if_pos rfl]; exact if_neg hv)
              clear hv
              go_wp2_with fail
              refine HVV.out.mono ?_
              rintro e w6 ⟨rfl, hb6⟩
              have hbx := obj_below HW.out.1 hb6 (obj_lt HW.out.1)
              have HB6 := Lib.hid (HW.out.2.trans (hb6.mono HW.out.2.size))
              clear hb6
              go_wp2_with fail
              refine (HT.out _).mono ?_
              rintro e w3 ⟨rfl, hw⟩
              obtain rfl := hw.symm
              clear hw
              obtain ⟨b0, b1⟩ := obj2 hbx
              have f0 := obj_free hbx 0
              have f1 := obj_free hbx 1
              have HF := Lib.hid (obj_set2 hbx (.string ⟨T.toArray⟩) (.string ⟨v.toArray⟩))
              clear hbx
              go_wp2
              obtain ⟨g0, g1⟩ := obj2 HF.out
              refine bodyPost_ret (v := .tuple #[.agg #[.string ⟨T.toArray⟩, .string ⟨v.toArray⟩], .bool true]) (by simp [results, Tryz.results67, go_sem, *]) rfl ⟨T, v, ?_, .inr HRn.out, below_set2 HB6.out (Nat.le_refl _) _ _⟩
              rw [HRn.out]; rfl
      · have q1 : ((c.toNat : Int) != 61) = true := ne_t h61
        have HI := Lib.hid (show ∀ x ∈ s.data.toList.take (k + 1), x ≠ 61 by
          rw [hsn]
          intro x hx
          rcases List.mem_append.1 hx with hx | hx
          · exact hinv x hx
          · obtain rfl := List.mem_singleton.1 hx
            exact fun e => h61 (by rw [e]; rfl))
        clear hinv hsn h61 hc
        go_wp2
        exact ⟨⟨k + 1, by omega, by go_num, HI.out⟩, by simp [intOf]; omega⟩
    · obtain rfl : k = s.size := by omega
      have HRn := Lib.hid (HRN.out (by rw [List.take_of_length_le (by rw [len_list]; exact Nat.le_refl _)] at hinv; exact hinv))
      have q2 : ((s.size : Int) == (s.size : Int)) = true := by simp
      obtain ⟨b0, b1⟩ := obj2 HW.out.1
      have f0 := obj_free HW.out.1 0
      have f1 := obj_free HW.out.1 1
      have HF := Lib.hid (obj_set2 HW.out.1 (.string ⟨#[]⟩) (.string ⟨#[]⟩))
      clear hinv hlt
      go_wp2
      obtain ⟨g0, g1⟩ := obj2 HF.out
      refine bodyPost_ret (v := RpV (none)) (by simp [results, Tryz.results67, go_sem, RpV, *]) rfl ⟨[], [], ?_, .inl HRn.out, below_set2 HW.out.2 (Nat.le_refl _) _ _⟩
      rw [HRn.out]; rfl
end Go.Proofs.YtlopmppiihhnnaaGreatDoor
namespace Go.Proofs.YtlopmppiihhnnaaGreatDoor
set_option linter.unusedSimpArgs false
set_option linter.unusedVariables false
open Go Go.RowKit Go.Proofs.BerK Go.Proofs.MemK Go.Proofs.UtfK

theorem bl_other (X r : List UInt8) (c : UInt8) (h : c ≠ 32) : X ++ bl (!X.isEmpty) (c :: r) = (X ++ [c]) ++ bl (!(X ++ [c]).isEmpty) r := by
  have e2 : (!(X ++ [c]).isEmpty) = true := by cases X <;> rfl
  rw [bl, if_pos h, e2]; simp
theorem bl_one (X r : List UInt8) (h0 : X ≠ []) (h : hdn r = true) : X ++ bl (!X.isEmpty) (32 :: r) = (X ++ [32]) ++ bl (!(X ++ [32]).isEmpty) r := by
  have e : (!X.isEmpty) = true := by simpa using h0
  have e2 : (!(X ++ [32]).isEmpty) = true := by cases X <;> rfl
  rw [bl, if_neg (by simp), if_pos ⟨e, h⟩, e, e2]; simp
theorem bl_no (X r : List UInt8) (h : X = [] ∨ hdn r = false) : X ++ bl (!X.isEmpty) (32 :: r) = X ++ bl (!X.isEmpty) r := by
  rw [bl, if_neg (by simp), if_neg]
  rintro ⟨h1, h2⟩
  rcases h with h | h
  · subst h; simp at h1
  · rw [h] at h2; cases h2
theorem hdn_at (s : ByteArray) (k : Nat) : hdn (s.data.toList.drop k) = if h : k < s.size then decide (s[k] ≠ 32) else false := by
  have hl := len_list s
  split
  · rename_i h
    have hd := drop_at s.data.toList k (by omega)
    rw [at_list s k h] at hd
    rw [hd]; simp [hdn, bne]
    by_cases e : s[k] = 32 <;> simp [e]
  · rw [List.drop_of_length_le (by omega)]; rfl
set_option maxHeartbeats 1600000 in
set_option maxRecDepth 100000 in
theorem rblanks_any (s : ByteArray) (hm : s.size ≤ 35184372088832) (w : World) : Calls Tryz.prog 21 #[.string s] w (PureS (blL s.data.toList) w) := by
  have HN := Lib.hid (hdn_at s)
  obtain ⟨R, hR⟩ : ∃ R, blL s.data.toList = R := ⟨_, rfl⟩
  have HR := Lib.hid hR
  rw [hR]
  clear hR
  go_enter Tryz.func21, Tryz.ntmps21
  go_wp2
  go_loop [3, 4] (fun o v => ∃ (k : Nat) (X : List UInt8), k ≤ s.size ∧ v = .int .i64 (k : Nat) ∧ o = .string ⟨X.toArray⟩ ∧ X.length ≤ k ∧ X ++ bl (!X.isEmpty) (s.data.toList.drop k) = R) (fun _ v => s.size - (intOf v).toNat)
  case atStart => exact ⟨0, [], by omega, rfl, rfl, by simp, HR.out⟩
  case round =>
    obtain ⟨k, X, hk, rfl, rfl, hX, hinv⟩ := hrel
    have hl := len_list s
    by_cases hlt : k < s.size
    · have hkl : (k : Int) < (s.size : Int) := by omega
      have h8 : s[k].toNat < 256 := s[k].toNat_lt
      have hd := drop_at s.data.toList k (by omega)
      rw [at_list s k hlt] at hd
      rw [hd] at hinv
      have hE := ext_one s k hlt
      obtain ⟨c, hc⟩ : ∃ c, s[k] = c := ⟨_, rfl⟩
      have hxk : s[k].toNat = c.toNat := by rw [hc]
      rw [hc] at hinv hE
      have hk1 : (k : Int) + 1 ≤ (s.size : Int) := by omega
      have hk2 : (k : Int) ≤ (k : Int) + 1 := by omega
      have hk3 : (0 : Int) ≤ (k : Int) + 1 := by omega
      have hL1 : ¬ (9223372036854775807 < X.length + 1) := by omega
      by_cases h32 : c.toNat = 32
      · obtain rfl : c = 32 := UInt8.toNat_inj.1 h32
        change s[k].toNat = 32 at hxk
        have hnx := HN.out (k + 1)
        by_cases h0 : X = []
        · rw [bl_no X _ (.inl h0)] at hinv
          have q0 : X.isEmpty = true := lst_e h0
          have HI := Lib.hid hinv
          clear hinv h0 hnx h32 hc hd hl hE
          go_wp2
          exact ⟨⟨k + 1, X, by omega, by go_num, rfl, by omega, HI.out⟩, by simp [intOf]; omega⟩
        · have q0 : X.isEmpty = false := lst_ne h0
          by_cases hk4 : k + 1 < s.size
          · rw [dif_pos hk4] at hnx
            have hk4' : (k : Int) + 1 < (s.size : Int) := by omega
            have h9 : s[k + 1].toNat < 256 := s[k + 1].toNat_lt
            obtain ⟨d, hdd⟩ : ∃ d, s[k + 1] = d := ⟨_, rfl⟩
            have hxd : s[k + 1].toNat = d.toNat := by rw [hdd]
            rw [hdd] at hnx
            by_cases hd32 : d.toNat = 32
            · have q1 : ((d.toNat : Int) != 32) = false := ne_f hd32
              rw [bl_no X _ (.inr (by rw [hnx]; simpa using UInt8.toNat_inj.1 hd32))] at hinv
              have HI := Lib.hid hinv
              clear hinv h0 hnx h32 hc hd hl hE hdd hd32
              go_wp2
              exact ⟨⟨k + 1, X, by omega, by go_num, rfl, by omega, HI.out⟩, by simp [intOf]; omega⟩
            · have q1 : ((d.toNat : Int) != 32) = true := ne_t hd32
              rw [bl_one X _ h0 (by rw [hnx]; simpa using fun e : d = 32 => hd32 (by rw [e]; rfl))] at hinv
              have HI := Lib.hid hinv
              clear hinv h0 hnx h32 hc hd hl hE hdd hd32
              go_wp2
              exact ⟨⟨k + 1, X ++ [32], by omega, by go_num, by rw [← cat_l], by simp; omega, HI.out⟩, by simp [intOf]; omega⟩
          · have hk4' : ¬ ((k : Int) + 1 < (s.size : Int)) := by omega
            rw [dif_neg hk4] at hnx
            rw [bl_no X _ (.inr hnx)] at hinv
            have HI := Lib.hid hinv
            clear hinv h0 hnx h32 hc hd hl hE hk4
            go_wp2
            exact ⟨⟨k + 1, X, by omega, by go_num, rfl, by omega, HI.out⟩, by simp [intOf]; omega⟩
      · have q1 : ((c.toNat : Int) != 32) = true := ne_t h32
        rw [bl_other X _ c (fun e => h32 (by rw [e]; rfl))] at hinv
        have HI := Lib.hid hinv
        clear hinv h32 hc hd hl
        go_wp2
        exact ⟨⟨k + 1, X ++ [c], by omega, by go_num, by rw [← cat_l], by simp; omega, HI.out⟩, by simp [intOf]; omega⟩
    · obtain rfl : k = s.size := by omega
      rw [List.drop_of_length_le (by omega)] at hinv
      have HI := Lib.hid (show R = X by rw [← hinv]; simp [bl])
      clear hinv hl
      go_wp2
      go_ret
      exact ⟨by rw [HI.out]; rfl, rfl⟩
set_option maxHeartbeats 800000 in
theorem rfold_any (s : ByteArray) (hm : s.size ≤ 35184372088832) (w : World) : Calls Tryz.prog 20 #[.string s] w (StrPost (foldL s.data.toList) w) := by
  have HB := Lib.hid (rblanks_any s hm)
  have hbl := blL_length s.data.toList
  rw [len_list] at hbl
  have HL := Lib.hid (fun w => rlow5_any ⟨(blL s.data.toList).toArray⟩ (show (blL s.data.toList).length ≤ _ by omega) w)
  change Hid (∀ w, Calls Tryz.prog _ _ w (StrPost (foldL s.data.toList) w)) at HL
  obtain ⟨F, hF⟩ : ∃ F, foldL s.data.toList = F := ⟨_, rfl⟩
  obtain ⟨B, hB⟩ : ∃ B, blL s.data.toList = B := ⟨_, rfl⟩
  rw [hB] at HB HL
  rw [hF] at HL ⊢
  clear hB hF hbl
  go_enter Tryz.func20, Tryz.ntmps20
  go_wp2_with fail
  refine (HB.out _).mono ?_
  rintro e w1 ⟨rfl, hw⟩
  obtain rfl := hw.symm
  clear hw
  go_wp2_with fail
  refine (HL.out _).mono ?_
  rintro e w2 ⟨rfl, hb⟩
  go_wp2
  go_ret
  exact ⟨rfl, hb⟩
end Go.Proofs.YtlopmppiihhnnaaGreatDoor
namespace Go.Proofs.YtlopmppiihhnnaaGreatDoor
set_option linter.unusedSimpArgs false
set_option linter.unusedVariables false
open Go Go.RowKit Go.Proofs.BerK Go.Proofs.MemK Go.Proofs.UtfK

theorem avc_app (a b : List Av) : avc (a ++ b) = avc a ++ avc b := by simp [avc]
theorem avc_len2 (r : List Av) : (avc r).length = r.length * 2 := by rw [avc_len]; omega
theorem avc_take (r : List Av) (k : Nat) : (avc r).take (k * 2) = avc (r.take k) := by
  induction r generalizing k with
  | nil => simp [avc]
  | cons p r ih =>
    cases k with
    | zero => simp [avc]
    | succ k => rw [show (k + 1) * 2 = k * 2 + 1 + 1 by omega, avc_cons, List.take_succ_cons, List.take_succ_cons, ih, List.take_succ_cons, avc_cons]
theorem avc_drop (r : List Av) (k : Nat) : (avc r).drop (k * 2) = avc (r.drop k) := by
  induction r generalizing k with
  | nil => simp [avc]
  | cons p r ih =>
    cases k with
    | zero => simp [avc]
    | succ k => rw [show (k + 1) * 2 = k * 2 + 1 + 1 by omega, avc_cons, List.drop_succ_cons, List.drop_succ_cons, ih, List.drop_succ_cons]
theorem avc_one (r : List Av) : ∀ v ∈ avc r, v.oneCell' = true := by
  induction r with
  | nil => simp [avc]
  | cons p r ih =>
    intro v hv
    rw [avc_cons] at hv
    rcases List.mem_cons.1 hv with rfl | hv
    · rfl
    · rcases List.mem_cons.1 hv with rfl | hv
      · rfl
      · exact ih v hv
theorem addr0 (g j : Nat) : (⟨g, 0, none⟩ : Addr).add j = ⟨g, j, none⟩ := by
  unfold Addr.add
  by_cases h : j = 0 <;> simp [h]
/-- A row of pairs of the call's own. -/
def OwnAv (w : World) (B : Nat) (e : TypeId) (v : Value) (r : List Av) : Prop := w.ownsRow B e 2 v r.length (avc r)
theorem avAt_own {w : World} {B : Nat} {e : TypeId} {v : Value} {r : List Av} (h : OwnAv w B e v r) : AvAt w v r := by
  rcases h.2 with ⟨rfl, h0⟩ | ⟨g, cap, cur, rfl, _, hg, hn, _⟩
  · exact ⟨none, 0, by rw [h0], by omega, fun i hi => by omega⟩
  · refine ⟨_, cap, rfl, hn, fun i hi => ⟨g, 0, rfl, obj_lt hg, ?_, ?_⟩⟩
    · have := h.cells (g := g) rfl (i * 2) _ (avc_at r i hi).1
      rw [addr0] at this
      rw [Nat.zero_add]
      exact this
    · have := h.cells (g := g) rfl (i * 2 + 1) _ (avc_at r i hi).2
      rw [addr0] at this
      rw [Nat.zero_add]
      exact this
theorem ownAv_below {w w' : World} {B : Nat} {e : TypeId} {v : Value} {r : List Av} (h : OwnAv w B e v r) (hb : Below w.heap.size w w') : OwnAv w' B e v r := ownsRow_below h hb
/-- Rows of pairs, and a row of them. -/
def GridA (w : World) (B : Nat) (e2 e : TypeId) (v : Value) (vs : List Value) (D : List (List Av)) : Prop :=
  vs.length = D.length ∧ w.ownsRow B e2 1 v D.length vs ∧ ∀ i (h : i < D.length) (h' : i < vs.length), OwnAv w B e vs[i] D[i] ∧ Apart vs[i] v
theorem gridA_nil (w : World) (B : Nat) (e2 e : TypeId) : GridA w B e2 e (.slice none 0 0) [] [] := ⟨rfl, World.ownsRow_nil _ _ _ _, fun i h => by simp at h⟩
theorem gridA_below {w w' : World} {B : Nat} {e2 e : TypeId} {v : Value} {vs : List Value} {D : List (List Av)} (h : GridA w B e2 e v vs D) (hb : Below w.heap.size w w') : GridA w' B e2 e v vs D :=
  ⟨h.1, ownsRow_below h.2.1 hb, fun i hi hi' => ⟨ownsRow_below (h.2.2 i hi hi').1 hb, (h.2.2 i hi hi').2⟩⟩
theorem gridA_snoc {w w' : World} {B : Nat} {e2 e : TypeId} {v v' u : Value} {vs : List Value} {D : List (List Av)} {r : List Av} (h : GridA w B e2 e v vs D) (hu : OwnAv w B e u r) (hap : Apart u v)
    (hown : w'.ownsRow B e2 1 v' (D.length + 1) (vs ++ [u])) (hc : Chg (fun k => some k = v.ownBlock) w w') (hv : v'.ownBlock = v.ownBlock ∨ ∃ k, v'.ownBlock = some k ∧ w.heap.size ≤ k) : GridA w' B e2 e v' (vs ++ [u]) (D ++ [r]) := by
  refine ⟨by simp [h.1], by rw [List.length_append]; exact hown, fun i hi hi' => ?_⟩
  by_cases hlt : i < D.length
  · have hlt' : i < vs.length := by rw [h.1]; exact hlt
    obtain ⟨h1, h2⟩ := h.2.2 i hlt hlt'
    rw [List.getElem_append_left hlt, List.getElem_append_left hlt']
    exact ⟨ownsRow_chg h1 hc (fun k hk hS => h2 k hk hS.symm), apart_new h2 h1 hv⟩
  · have hi2 : i = D.length := by simp at hi; omega
    subst hi2
    have e1 : (D ++ [r])[D.length]'hi = r := by simp
    have e2 : (vs ++ [u])[D.length]'hi' = u := by simp [← h.1]
    rw [e1, e2]
    exact ⟨ownsRow_chg hu hc (fun k hk hS => hap k hk hS.symm), apart_new hap hu hv⟩
/-- Apart, as the new row lies in a block that was not there. -/
theorem apart_base {w : World} {B B2 : Nat} {e e2 : TypeId} {s s2 n n2 : Nat} {u v : Value} {xs ys : List Value} (hv : w.ownsRow B2 e2 s2 v n2 ys) {w2 : World} (hu : w2.ownsRow B e s u n xs) (hB : w.heap.size ≤ B) : Apart u v := by
  intro k h1 h2
  have a := (hu.lt k h1).1
  have b := (hv.lt k h2).2
  omega
/-- A row of one's own changes: the others stay. -/
theorem gridA_part {w w' : World} {B : Nat} {e2 e : TypeId} {v pv : Value} {vs : List Value} {D : List (List Av)} (h : GridA w B e2 e v vs D) (hc : Chg (fun k => some k = pv.ownBlock) w w') (h1 : Apart pv v) (h2 : ∀ u ∈ vs, Apart pv u) : GridA w' B e2 e v vs D :=
  ⟨h.1, ownsRow_chg h.2.1 hc (fun k hk hS => h1 k hS.symm hk), fun i hi hi' => ⟨ownsRow_chg (h.2.2 i hi hi').1 hc (fun k hk hS => h2 _ (List.getElem_mem hi') k hS.symm hk), (h.2.2 i hi hi').2⟩⟩
theorem dnAt_grid {w : World} {B : Nat} {e2 e : TypeId} {v : Value} {vs : List Value} {D : List (List Av)} (h : GridA w B e2 e v vs D) : DnAt w v D := by
  rcases h.2.1.2 with ⟨rfl, h0⟩ | ⟨g, cap, cur, hv, _, hg, hn, _⟩
  · exact ⟨none, 0, by rw [h0], by omega, fun i hi => by omega⟩
  · subst hv
    refine ⟨_, cap, rfl, hn, fun i hi => ?_⟩
    have hi' : i < vs.length := by rw [h.1]; exact hi
    refine ⟨g, 0, vs[i], rfl, obj_lt hg, ?_, avAt_own (h.2.2 i hi hi').1⟩
    rw [Nat.zero_add, h.2.1.cellAt i (by omega)]
    exact List.getElem?_eq_getElem hi'
end Go.Proofs.YtlopmppiihhnnaaGreatDoor
namespace Go.Proofs.YtlopmppiihhnnaaGreatDoor
set_option linter.unusedSimpArgs false
set_option linter.unusedVariables false
open Go Go.RowKit Go.Proofs.BerK Go.Proofs.MemK Go.Proofs.UtfK

theorem rp_ty {t : List UInt8} {p : Av} (h : rpL t = some p) : tyL p.1 = true := by
  unfold rpL rpJ at h
  split at h
  · rename_i hb
    split at h
    · cases h
    · split at h
      · cases h
      · injection h with h; subst h; exact hb
  · cases h
theorem rps_ty {l : List (List UInt8)} {r : List Av} (h : rpsL l = some r) : ∀ p ∈ r, tyL p.1 = true := by
  induction l generalizing r with
  | nil => injection h with h; subst h; simp
  | cons t l ih =>
    rw [rpsL] at h
    cases hp : rpL t with
    | none => rw [hp] at h; cases h
    | some p =>
      rw [hp] at h
      simp only [Option.map_eq_some_iff] at h
      obtain ⟨q, h1, rfl⟩ := h
      intro x hx
      rcases List.mem_cons.1 hx with rfl | hx
      · exact rp_ty hp
      · exact ih h1 x hx
theorem rpp_ty {l : List (List (List UInt8))} {D : List (List Av)} (h : rpp l = some D) : ∀ r ∈ D, ∀ p ∈ r, tyL p.1 = true := by
  induction l generalizing D with
  | nil => injection h with h; subst h; simp
  | cons t l ih =>
    rw [rpp] at h
    cases hp : rpsL t with
    | none => rw [hp] at h; cases h
    | some p =>
      rw [hp] at h
      simp only [Option.map_eq_some_iff] at h
      obtain ⟨q, h1, rfl⟩ := h
      intro x hx
      rcases List.mem_cons.1 hx with rfl | hx
      · exact rps_ty hp
      · exact ih h1 x hx
theorem ty_len {T : List UInt8} (h : tyL T = true) : T.length ≤ 64 := by
  simp only [tyL, Bool.and_eq_true, decide_eq_true_eq] at h
  exact h.1.2
theorem rd_long {s : List UInt8} (h : 4096 < s.length) : rdD s = ([], 3) := by unfold rdD; rw [if_pos h]
theorem rd_emp : rdD [] = ([], 0) := rfl
theorem rd_mid {s : List UInt8} (h : s.length ≤ 4096) (h0 : s ≠ []) : rdD s = match rpp ((spB 44 s).map (spB 43)) with
    | none => ([], 5)
    | some d => if lgD d = true then ([], 3) else if ckD d ≠ 0 then ([], ckD d) else (d, 0) := by
  unfold rdD
  rw [if_neg (by omega), if_neg h0, splL_sp]
  cases rpp ((spB 44 s).map (spB 43)) <;> rfl
/-- A name that is handed back, or the error's number. -/
def RnPost (p : List (List Av) × Nat) (w : World) (en : Ending) (w' : World) : Prop :=
  ∃ v, en = .returned (.tuple #[v, .int .i64 (p.2 : Nat)]) ∧ DnAt w' v p.1 ∧ Below w.heap.size w w'
theorem rnPost_mk {p : List (List Av) × Nat} {w w' : World} {v : Value} {D : List (List Av)} {n : Nat} (h : p = (D, n)) (h1 : DnAt w' v D) (h2 : Below w.heap.size w w') : RnPost p w (.returned (.tuple #[v, .int .i64 (n : Nat)])) w' := by subst h; exact ⟨v, rfl, h1, h2⟩
theorem any_snoc (D : List (List Av)) (r : List Av) : (D ++ [r]).any (fun r => decide (8 < r.length)) = (D.any (fun r => decide (8 < r.length)) || decide (8 < r.length)) := by simp
theorem map_drop_at (t : UInt8) (L : List (List UInt8)) (i : Nat) (h : i < L.length) : (L.map (spB t)).drop i = spB t L[i] :: (L.map (spB t)).drop (i + 1) := by
  rw [drop_at _ i (by simpa using h)]; simp
set_option maxHeartbeats 12800000 in
set_option maxRecDepth 100000 in
theorem rread_mid (s : ByteArray) (hm : s.size ≤ 4096) (h0 : 0 < s.size) (w : World) :
    Calls Tryz.prog 45 #[.string s] w (RnPost (rdD s.data.toList) w) := by
  have hl := len_list s
  have hrd := rd_mid (s := s.data.toList) (by omega) (by intro e; rw [e] at hl; simp at hl; omega)
  obtain ⟨R, hR⟩ : ∃ R, rdD s.data.toList = R := ⟨_, rfl⟩
  rw [hR] at hrd ⊢
  have HSp := Lib.hid (rsplit_any s 44 (by decide) (by omega))
  change Hid (∀ w, Calls Tryz.prog _ #[.string s, .int .u8 44] w _) at HSp
  obtain ⟨lb1, lb2⟩ := spB_len 44 s.data.toList
  obtain ⟨L, hL⟩ : ∃ L, spB 44 s.data.toList = L := ⟨_, rfl⟩
  rw [hL] at hrd HSp lb1 lb2
  obtain ⟨PS, hPS⟩ : ∃ PS, L.map (spB 43) = PS := ⟨_, rfl⟩
  have HPS := Lib.hid (fun i h => map_drop_at 43 L i h)
  rw [hPS] at hrd HPS
  have hPL : PS.length = L.length := by rw [← hPS]; simp
  have HR := Lib.hid hrd
  have HL2 := Lib.hid lb2
  have hLn : L.length ≤ 4097 := by omega
  have hem := str_ne s h0
  have hms : ¬ ((4096 : Int) < (s.size : Int)) := by omega
  clear hR hrd lb1 lb2 hL hPS hl
  go_enter Tryz.func45, Tryz.ntmps45
  go_wp2_with fail
  refine (HSp.out _).mono ?_
  rintro e w1 ⟨lv, rfl, hlo, hb1⟩
  obtain ⟨la, lc, rfl⟩ := ownsRow_slice hlo
  have HLo := Lib.hid (And.intro (strU_owns hlo) hb1)
  clear hlo hb1
  go_wp2
  go_loopw [4, 5, 7] (fun o lg v wr => ∃ (i : Nat) (vs : List Value) (D : List (List Av)) (b : Bool), i ≤ L.length ∧ v = .int .i64 (i : Nat) ∧ D.length = i ∧ GridA wr w1.heap.size 63 65 o vs D ∧ Below w1.heap.size w1 wr ∧
    lg = .bool b ∧ (D.any fun r => decide (8 < r.length)) = b ∧ rpp PS = (rpp (PS.drop i)).map (D ++ ·)) (fun _ _ v _ => L.length - (intOf v).toNat)
  case atStart => exact ⟨0, [], [], false, by omega, rfl, rfl, gridA_nil _ _ _ _, Below.refl _ _, rfl, rfl, by rw [List.drop_zero]; simp⟩
  case round =>
    obtain ⟨i, vs, D, lg, hi, rfl, hD, hgrid, hb, rfl, hlg, hinv⟩ := hrel
    obtain ⟨ga, gc, hgv⟩ := ownsRow_slice hgrid.2.1
    by_cases hlt : i < L.length
    · have hil : (i : Int) < (L.length : Int) := by omega
      obtain ⟨la', lc', hlv, hlc⟩ := HLo.out.1
      injection hlv with hlv1 _ hlv3
      subst hlv1 hlv3
      obtain ⟨lg2, rfl, hlg2, e1w⟩ := hlc i hlt
      have e1 := (hb.cell (p := ⟨lg2, i, none⟩) hlg2).trans e1w
      have hxl := HL2.out _ (List.getElem_mem hlt)
      have hdr := HPS.out i hlt
      obtain ⟨x, hx⟩ : ∃ x, L[i] = x := ⟨_, rfl⟩
      rw [hx] at e1 hxl hdr
      have HS2 := Lib.hid (rsplit_any ⟨x.toArray⟩ 43 (by decide) (show x.length ≤ _ by rw [len_list] at hxl; omega))
      change Hid (∀ w, Calls Tryz.prog _ #[.string ⟨x.toArray⟩, .int .u8 43] w (TxsPost (spB 43 x) _ w)) at HS2
      obtain ⟨mb1, mb2⟩ := spB_len 43 x
      obtain ⟨M, hM⟩ : ∃ M, spB 43 x = M := ⟨_, rfl⟩
      rw [hM] at HS2 mb1 mb2 hdr
      rw [hdr] at hinv
      have hMn : M.length ≤ 4097 := by rw [len_list] at hxl; omega
      have HM2 := Lib.hid (show ∀ y ∈ M, y.length ≤ 4096 from fun y hy => by have := mb2 y hy; rw [len_list] at hxl; omega)
      have H := Lib.hid (And.intro hgrid (And.intro hb (And.intro hinv (And.intro hlg (And.intro hgv hD)))))
      have hDi : D.length ≤ 4097 := by omega
      clear hgrid hb hinv hlc hx hM mb1 mb2 hdr e1w hxl hlg hgv hD
      go_wp2_with fail
      refine (HS2.out _).mono ?_
      rintro e w2 ⟨mv, rfl, hmo, hb2⟩
      obtain ⟨ma, mc, rfl⟩ := ownsRow_slice hmo
      have HMo := Lib.hid (And.intro (strU_owns hmo) hb2)
      clear hmo hb2
      go_wp2
      go_loopw [9, 10, 11, 12] (fun rv v _ _ wr2 => ∃ (k : Nat) (Q : List Av), k ≤ M.length ∧ v = .int .i64 (k : Nat) ∧ Q.length = k ∧ OwnAv wr2 w2.heap.size 65 rv Q ∧ Below w2.heap.size w2 wr2 ∧ rpsL M = (rpsL (M.drop k)).map (Q ++ ·)) (fun _ v _ _ _ => M.length - (intOf v).toNat)
      case atStart => exact ⟨0, [], by omega, rfl, rfl, World.ownsRow_nil _ _ _ _, Below.refl _ _, by rw [List.drop_zero]; simp⟩
      case round =>
        obtain ⟨k, Q, hk, rfl, hQ, hown, hbr, hinv⟩ := hrel
        obtain ⟨qa, qc, rfl⟩ := ownsRow_slice hown
        by_cases hlk : k < M.length
        · have hkl : (k : Int) < (M.length : Int) := by omega
          obtain ⟨ma', mc', hmv, hmc⟩ := HMo.out.1
          injection hmv with hmv1 _ hmv3
          subst hmv1 hmv3
          obtain ⟨mg, rfl, hmg, e2w⟩ := hmc k hlk
          have e2 := (hbr.cell (p := ⟨mg, k, none⟩) hmg).trans e2w
          have hyl := HM2.out _ (List.getElem_mem hlk)
          have HN := Lib.hid (rps_none M k hlk)
          have HSm := Lib.hid (fun q => rps_some M k hlk (p := q))
          obtain ⟨y, hy⟩ : ∃ y, M[k] = y := ⟨_, rfl⟩
          rw [hy] at e2 hyl HN HSm
          have HP := Lib.hid (fun w => rpair_any ⟨y.toArray⟩ (show y.length ≤ _ by omega) w)
          change Hid (∀ w, Calls Tryz.prog _ _ w (PrPost (rpL y) w)) at HP
          obtain ⟨o, ho⟩ : ∃ o, rpL y = o := ⟨_, rfl⟩
          rw [ho] at HP HN HSm
          have H2 := Lib.hid (And.intro hown (And.intro hbr (And.intro hinv hQ)))
          clear hown hbr hinv hmc hy ho e2w hyl hQ
          go_wp2_with fail
          refine (HP.out _).mono ?_
          rintro e w3 ⟨T, V, rfl, hor, hb3⟩
          obtain ⟨W4, hW4⟩ : ∃ W4, w3.alloc (.cells #[.string ⟨T.toArray⟩, .string ⟨V.toArray⟩] 65) = W4 := ⟨_, rfl⟩
          have hb4 : Below w3.heap.size w3 W4 := by rw [← hW4]; exact (Below.refl _ w3).alloc (Nat.le_refl _) _
          have hbox : W4.heap[w3.heap.size]? = some (.cells #[.string ⟨T.toArray⟩, .string ⟨V.toArray⟩] 65 (0, 0)) := by rw [← hW4]; exact heap_alloc_new w3 _
          obtain ⟨d1, d2⟩ := obj2 hbox
          have hb34 := hb3.trans (hb4.mono hb3.size)
          have HB := Lib.hid (And.intro (H2.out.2.1.trans (hb34.mono H2.out.2.1.size)) (ownAv_below H2.out.1 hb34))
          have HH := Lib.hid hb4
          clear hb3 hb34 hbox hb4
          rcases hor with hor | hor
          · subst hor
            have HI := Lib.hid (show R = ([], 5) by
              rw [HR.out, H.out.2.2.1, rpp, H2.out.2.2.1, HN.out rfl]; rfl)
            have hbT : Below w.heap.size w W4 := HLo.out.2.trans (((H.out.2.1.trans ((HMo.out.2.trans (HB.out.1.mono HMo.out.2.size)).mono H.out.2.1.size)).mono HLo.out.2.size))
            have HF := Lib.hid hbT
            clear hbT
            go_wp2
            go_ret2
            exact rnPost_mk HI.out (dnAt_none _) HF.out
          · subst hor
            have HI := Lib.hid (show rpsL M = (rpsL (M.drop (k + 1))).map ((Q ++ [(T, V)]) ++ ·) by
              rw [H2.out.2.2.1, HSm.out (T, V) rfl, Option.map_map]; congr 1; funext q; simp)
            go_wp2_with (at_builtin; refine wpList_pushm rfl (.tmp 48) (.tmp 50) 63 65 rfl w2.heap.size 2 32 (.agg #[.string ByteArray.empty, .string ByteArray.empty]) Tryz.dninfo65 Tryz.underlying63 rfl (by decide) 1 [.string ⟨T.toArray⟩, .string ⟨V.toArray⟩] rfl ?c0 _ Q.length _ rfl _ rfl ?c3 HB.out.2 ?c1 ?c2 HB.out.1.size ?_)
            case c0 => intro u hu; simp at hu; rcases hu with rfl | rfl <;> rfl
            case c1 => have := H2.out.2.2.2; unfold maxLen; omega
            case c2 => have := H2.out.2.2.2; omega
            case c3 => first | rfl | simp
            intro v' w' g1 g2
            have g3 : OwnAv w' w2.heap.size 65 v' (Q ++ [(T, V)]) := by unfold OwnAv; rw [avc_app, List.length_append]; exact g1
            have H5 := Lib.hid (And.intro g3 (HB.out.1.trans g2))
            clear g1 g2 g3
            go_wp2
            exact ⟨⟨k + 1, Q ++ [(T, V)], by omega, by go_num, by simp [H2.out.2.2.2], H5.out.1, H5.out.2, HI.out⟩, by simp [intOf]; omega⟩
        · obtain rfl : k = M.length := by omega
          have hps : rpsL M = some Q := by rw [hinv, List.drop_of_length_le (Nat.le_refl _)]; simp [rpsL]
          have hI : rpp PS = (rpp (PS.drop (i + 1))).map ((D ++ [Q]) ++ ·) := by
            rw [H.out.2.2.1, rpp, hps]
            simp only [Option.map_map]
            congr 1; funext q; simp
          have hlg2 : ((D ++ [Q]).any fun r => decide (8 < r.length)) = (lg || decide (8 < Q.length)) := by rw [any_snoc, H.out.2.2.2.1]
          have hgr := gridA_below (gridA_below H.out.1 HMo.out.2) (hbr.mono (Nat.le_refl _))
          have hap := apart_base (B2 := w1.heap.size) (gridA_below H.out.1 HMo.out.2).2.1 hown (Nat.le_refl _)
          have hbB : Below w1.heap.size w1 wr := H.out.2.1.trans ((HMo.out.2.trans (hbr.mono HMo.out.2.size)).mono H.out.2.1.size)
          have hro : OwnAv wr w1.heap.size 65 (.slice qa Q.length qc) Q := ownsRow_base hown (by have := H.out.2.1.size; have := HMo.out.2.size; omega)
          have hfin := H.out.2.2.2.2.1
          have HX := Lib.hid (And.intro hI (And.intro hlg2 (And.intro hgr (And.intro hap (And.intro hbB hro)))))
          have hq8 : ∃ b, decide (8 < Q.length) = b ∧ decide ((8 : Int) < (Q.length : Int)) = b := ⟨_, rfl, by rw [decide_eq_decide]; omega⟩
          obtain ⟨b8, hb8, hb8'⟩ := hq8
          have HQ8 := Lib.hid hb8
          clear hQ hown hbr hinv hps hI hlg2 hgr hap hbB hro hb8
          subst hfin
          cases lg with
          | true =>
            have HLG := Lib.hid (show (true || decide (8 < Q.length)) = true from rfl)
            go_wp2_with (at_builtin; refine wpList_pushc rfl (.tmp 58) (.tmp 60) 59 63 rfl w1.heap.size 1 24 (.slice none 0 0) Tryz.dninfo63 Tryz.underlying59 rfl (by decide) [.slice qa Q.length qc] rfl ?c0 _ D.length _ rfl _ rfl ?c3 HX.out.2.2.1.2.1 ?c1 ?c2 HX.out.2.2.2.2.1.size ?_)
            case c0 => first | rfl | (intro u hu; simp at hu; subst hu; rfl)
            case c1 => unfold maxLen; omega
            case c2 => omega
            case c3 => first | rfl | simp
            intro v' w' g1 g2 g3
            have hg := gridA_snoc HX.out.2.2.1 HX.out.2.2.2.2.2 HX.out.2.2.2.1 g1 g2 g3
            have hbb := below_chg HX.out.2.2.2.2.1 HX.out.2.2.2.2.1.size HX.out.2.2.1.2.1 g2
            have H9 := Lib.hid (And.intro hg hbb)
            clear g1 g2 g3 hg hbb
            go_wp2
            exact ⟨⟨i + 1, vs ++ [.slice qa Q.length qc], D ++ [Q], true, by omega, by go_num, by simp [H.out.2.2.2.2.2], H9.out.1, H9.out.2, rfl, by rw [HX.out.2.1]; rfl, HX.out.1⟩, by simp [intOf]; omega⟩
          | false =>
            go_wp2_with (at_builtin; refine wpList_pushc rfl (.tmp 58) (.tmp 60) 59 63 rfl w1.heap.size 1 24 (.slice none 0 0) Tryz.dninfo63 Tryz.underlying59 rfl (by decide) [.slice qa Q.length qc] rfl ?c0 _ D.length _ rfl _ rfl ?c3 HX.out.2.2.1.2.1 ?c1 ?c2 HX.out.2.2.2.2.1.size ?_)
            case c0 => first | rfl | (intro u hu; simp at hu; subst hu; rfl)
            case c1 => unfold maxLen; omega
            case c2 => omega
            case c3 => first | rfl | simp
            intro v' w' g1 g2 g3
            have hg := gridA_snoc HX.out.2.2.1 HX.out.2.2.2.2.2 HX.out.2.2.2.1 g1 g2 g3
            have hbb := below_chg HX.out.2.2.2.2.1 HX.out.2.2.2.2.1.size HX.out.2.2.1.2.1 g2
            have H9 := Lib.hid (And.intro hg hbb)
            clear g1 g2 g3 hg hbb
            go_wp2
            exact ⟨⟨i + 1, vs ++ [.slice qa Q.length qc], D ++ [Q], b8, by omega, by go_num, by simp [H.out.2.2.2.2.2], H9.out.1, H9.out.2, rfl, by rw [HX.out.2.1, HQ8.out]; rfl, HX.out.1⟩, by simp [intOf]; omega⟩
    · obtain rfl : i = L.length := by omega
      have hps : rpp PS = some D := by rw [hinv, List.drop_of_length_le (by omega)]; simp [rpp]
      have hty := rpp_ty hps
      have hat := dnAt_grid hgrid
      have hbT : Below w.heap.size w wr := HLo.out.2.trans (hb.mono HLo.out.2.size)
      have hr := HR.out
      rw [hps] at hr
      have hr2 : R = if (lg || decide (32 < D.length)) = true then ([], 3) else if ckD D ≠ 0 then ([], ckD D) else (D, 0) := by
        rw [hr]
        simp only [lgD, hlg]
        rw [Bool.or_comm]
      subst hgv
      have HCk := Lib.hid (rcheck6_any _ D (fun r hr p hp => by have := ty_len (hty r hr p hp); omega) wr hat)
      have H := Lib.hid (And.intro hat (And.intro hbT hr2))
      obtain ⟨N, hN⟩ : ∃ N, D.length = N := ⟨_, rfl⟩
      rw [hN] at hD H HCk ⊢
      clear hgrid hb hinv hps hty hat hbT hr hr2 hlg hD hi hlt hPL hLn
      by_cases hlong : lg = true ∨ 32 < N
      · have HI := Lib.hid (show R = ([], 3) by
          rw [H.out.2.2, if_pos]
          rcases hlong with h | h
          · rw [h]; rfl
          · simp [h])
        have hcase : lg = true ∨ (lg = false ∧ (32 : Int) < (N : Int)) := by
          cases lg with
          | true => exact .inl rfl
          | false => exact .inr ⟨rfl, by rcases hlong with h | h; cases h; omega⟩
        clear hlong
        rcases hcase with rfl | ⟨rfl, q⟩
        all_goals
          go_wp2
          go_ret2
          exact rnPost_mk HI.out (dnAt_none _) H.out.2.1
      · rw [not_or] at hlong
        have hlgf : lg = false := by simpa using hlong.1
        have q : ¬ (32 : Int) < (N : Int) := by omega
        subst hlgf
        have hI := H.out.2.2
        rw [if_neg (by simp; omega)] at hI
        have HI := Lib.hid hI
        obtain ⟨ck, hck⟩ : ∃ ck, ckD D = ck := ⟨_, rfl⟩
        rw [hck] at HI HCk
        clear hlong hI hck
        by_cases hc0 : ck = 0
        · subst hc0
          have HI2 := Lib.hid (show R = (D, 0) by rw [HI.out]; simp)
          go_wp2_with fail
          refine HCk.out.mono ?_
          rintro e w3 ⟨rfl, hb3⟩
          have HF := Lib.hid (And.intro (dnAt_below H.out.1 hb3) (H.out.2.1.trans (hb3.mono H.out.2.1.size)))
          clear hb3
          go_wp2
          go_ret2
          exact rnPost_mk HI2.out HF.out.1 HF.out.2
        · have hq : ((ck : Int) != 0) = true := by rw [bne_iff_ne]; omega
          have HI2 := Lib.hid (show R = ([], ck) by rw [HI.out, if_pos hc0])
          clear hc0
          go_wp2_with fail
          refine HCk.out.mono ?_
          rintro e w3 ⟨rfl, hb3⟩
          have HF := Lib.hid (H.out.2.1.trans (hb3.mono H.out.2.1.size))
          clear hb3
          go_wp2
          go_ret2
          exact rnPost_mk HI2.out (dnAt_none _) HF.out
theorem rread_any (s : ByteArray) (w : World) : Calls Tryz.prog 45 #[.string s] w (RnPost (rdD s.data.toList) w) := by
  have hl := len_list s
  by_cases h1 : 4096 < s.size
  · have HI := Lib.hid (rd_long (s := s.data.toList) (by omega))
    have q : (4096 : Int) < (s.size : Int) := by omega
    clear h1 hl
    go_enter Tryz.func45, Tryz.ntmps45
    go_wp2
    go_ret2
    exact rnPost_mk HI.out (dnAt_none _) (Below.refl _ _)
  · by_cases h0 : s.size = 0
    · have hn : s.data.toList = [] := List.eq_nil_of_length_eq_zero (by omega)
      have HI := Lib.hid (show rdD s.data.toList = ([], 0) by rw [hn]; rfl)
      have q : ¬ (4096 : Int) < (s.size : Int) := by omega
      have hem := str_e s h0
      clear h1 hl h0 hn
      go_enter Tryz.func45, Tryz.ntmps45
      go_wp2
      go_ret2
      exact rnPost_mk HI.out (dnAt_none _) (Below.refl _ _)
    · exact rread_mid s (by omega) (by omega) w
end Go.Proofs.YtlopmppiihhnnaaGreatDoor
