/- A pair's text read, the document's way, for every text. The document's blanks, and both, for every text. Rows of pairs of the call's own, and a row of them. -/
import Derived.Test.YtpkbgkoocijegaaGreatDoorDrB
import Derived.Test.YtpkbgkoocijegaaGreatDoorDqG
import Derived.Test.YtpkbgkoocijegaaGreatDoorDqC
import Derived.Test.YtpkbgkoocijegaaGreatDoorGenB
set_option linter.unusedVariables false
set_option linter.unusedSimpArgs false
set_option maxHeartbeats 25600000
set_option maxRecDepth 100000
namespace Go.Proofs.YtpkbgkoocijegaaGreatDoor
open Go Go.RowKit Go.Proofs.BerK Go.Proofs.MemK Go.Proofs.UtfK
theorem cut_mid (c : UInt8) (a : List UInt8) (h : ∀ x ∈ a, x ≠ c) (u : List UInt8) : cut1 c (a ++ c :: u) = a /\ cut2 c (a ++ c :: u) = u := by
 induction a with
 | nil => exact ⟨by simp [cut1], by simp [cut2]⟩
 | cons d r ih =>
  have hd := h d (by simp)
  obtain ⟨h1, h2⟩ := ih (fun x hx => h x (by simp [hx]))
  refine ⟨?_, ?_⟩
  ·unfold cut1 at h1 ⊢
   rw [List.cons_append, List.takeWhile_cons_of_pos (by simpa using hd), h1]
  ·unfold cut2 at h2 ⊢
   rw [List.cons_append, List.dropWhile_cons_of_pos (by simpa using hd), h2]
theorem cut_all (c : UInt8) (a : List UInt8) (h : ∀ x ∈ a, x ≠ c) : cut2 c a = [] := by
 induction a with
 | nil => rfl
 | cons d r ih =>
  have hd := h d (by simp)
  have h2 := ih (fun x hx => h x (by simp [hx]))
  unfold cut2 at h2 ⊢
  rw [List.dropWhile_cons_of_pos (by simpa using hd), h2]
theorem rp_noeq (l : List UInt8) (h : ∀ x ∈ l, x ≠ 61) : rpL l = none := by
 unfold rpL
 rw [cut_all 61 l h]
 unfold rpJ
 split
 ·rfl
 ·rfl
theorem rp_cut (s : ByteArray) (k : Nat) (h : k < s.size) (he : s[k] = 61) (ha : ∀ x ∈ s.data.toList.take k, x ≠ 61) : rpL s.data.toList = rpJ (tyL (tlB (trB (s.data.toList.take k)))) (tlB (trB (s.data.toList.take k))) (rvL (s.data.toList.drop (k + 1))) := by
 have hl := len_list s
 have hd := drop_at s.data.toList k (by omega)
 rw [at_list s k h, he] at hd
 have hc := cut_mid 61 (s.data.toList.take k) ha (s.data.toList.drop (k + 1))
 rw [<- hd, List.take_append_drop] at hc
 unfold rpL
 rw [hc.1, hc.2]
def PrPost (o : Option Av) (w : World) (en : Ending) (w' : World) : Prop :=
 ∃ T V : List UInt8, en = .returned (.tuple #[.agg #[.string ⟨T.toArray⟩, .string ⟨V.toArray⟩], .bool o.isSome]) /\ (o = none \/ o = some (T, V)) /\ Below w.heap.size w w'
theorem rpair_any (s : ByteArray) (hs : s.size <= 140737488355328) (w : World) :
  Calls Tryz.prog 89 #[.string s] w (PrPost (rpL s.data.toList) w) := by
 obtain ⟨W1, hW1⟩ : ∃ W1, w.alloc (.cells #[.string ⟨#[]⟩, .string ⟨#[]⟩] 97) = W1 := ⟨_, rfl⟩
 have hbox : W1.heap[w.heap.size]? = some (.cells #[.string ⟨#[]⟩, .string ⟨#[]⟩] 97 (0, 0)) := by rw [<- hW1]; exact heap_alloc_new w _
 have hbW : Below w.heap.size w W1 := by rw [<- hW1]; exact (Below.refl _ w).alloc (Nat.le_refl _) _
 have HW := Hy (An hbox hbW)
 have HRN := Hy (rp_noeq s.data.toList)
 have HRC := Hy (rp_cut s)
 obtain ⟨R, hR⟩ : ∃ R, rpL s.data.toList = R := ⟨_, rfl⟩
 rw [hR] at HRN HRC ⊢
 clear hR hbox hbW
 go_enter Tryz.func89, Tryz.ntmps89
 go_wp2
 go_loop [4] (fun v => ∃ k : Nat, k <= s.size /\ v = .int .i64 (k : Nat) /\ ∀ x ∈ s.data.toList.take k, x ≠ 61) (fun v => s.size - (intOf v).toNat)
 case atStart => exact ⟨0, by omega, rfl, by simp⟩
 case round =>
  obtain ⟨k, hk, rfl, hinv⟩ := hrel
  by_cases hlt : k < s.size
  ·have hkl : (k : Int) < (s.size : Int) := by omega
   have h8 : s[k].toNat < 256 := s[k].toNat_lt
   have hsn := take_snoc s k hlt
   have HRk := Hy (HRC.out k hlt)
   obtain ⟨c, hc⟩ : ∃ c, s[k] = c := ⟨_, rfl⟩
   rw [hc] at hsn
   have hxk : s[k].toNat = c.toNat := by rw [hc]
   by_cases h61 : c.toNat = 61
   ·have q1 : ((c.toNat : Int) != 61) = false := ne_f h61
    have q2 : ((k : Int) == (s.size : Int)) = false := eq_f (by omega)
    have hr := HRk.out (by rw [hc]; exact UInt8.toNat_inj.1 h61) hinv
    have hAl : (s.data.toList.take k).length <= 140737488355328 := by rw [List.length_take, len_list]; omega
    have hBl : (s.data.toList.drop (k + 1)).length <= 140737488355328 := by rw [List.length_drop, len_list]; omega
    have hx1 : s.extract 0 k = ⟨(s.data.toList.take k).toArray⟩ := by rw [<- mk_list (s.extract 0 k), Lib.extract_data, List.drop_zero]; rfl
    have hx2 : s.extract (k + 1) s.size = ⟨(s.data.toList.drop (k + 1)).toArray⟩ := by rw [<- mk_list (s.extract (k + 1) s.size), Lib.extract_to_end]
    obtain ⟨A, hA⟩ : ∃ A, s.data.toList.take k = A := ⟨_, rfl⟩
    obtain ⟨B, hB⟩ : ∃ B, s.data.toList.drop (k + 1) = B := ⟨_, rfl⟩
    rw [hA] at hr hAl hx1
    rw [hB] at hr hBl hx2
    have HT := Hy (rtrim_any ⟨A.toArray⟩ (show A.length <= _ from hAl))
    change Hid (∀ w, Calls Tryz.prog _ _ w (PureS (tlB (trB A)) w)) at HT
    have hTl : (tlB (trB A)).length <= 140737488355328 := Nat.le_trans (tlB_len _) (Nat.le_trans (trB_len _) hAl)
    obtain ⟨T, hT⟩ : ∃ T, tlB (trB A) = T := ⟨_, rfl⟩
    rw [hT] at hr HT hTl
    have HY := Hy (rtyped_any ⟨T.toArray⟩ (show T.length <= _ from hTl))
    change Hid (∀ w, Calls Tryz.prog _ _ w (PureB (tyL T) w)) at HY
    have HV := Hy (fun w => rvalue_any ⟨B.toArray⟩ (show B.length <= _ from hBl) w)
    change Hid (∀ w, Calls Tryz.prog _ _ w (RvPost (rvL B) w)) at HV
    obtain ⟨ty, hty⟩ : ∃ ty, tyL T = ty := ⟨_, rfl⟩
    obtain ⟨o, ho⟩ : ∃ o, rvL B = o := ⟨_, rfl⟩
    rw [hty, ho] at hr
    rw [hty] at HY
    rw [ho] at HV
    have HR := Hy hr
    have hk1 : (k : Int) <= (s.size : Int) := by omega
    have hk2 : (k : Int) + 1 <= (s.size : Int) := by omega
    have hk3 : (0 : Int) <= (k : Int) + 1 := by omega
    clear hA hB hT hty ho hr hinv hsn h61 hAl hBl hTl hc
    cases ty with
    | false =>
     go_wp2_with fail
     refine (HT.out _).mono ?_
     rintro e w3 ⟨rfl, hw⟩
     obtain rfl := hw.symm
     clear hw
     go_wp2_with fail
     refine (HY.out _).mono ?_
     rintro e w4 ⟨rfl, hw⟩
     obtain rfl := hw.symm
     clear hw
     obtain ⟨b0, b1⟩ := obj2 HW.out.1
     have f0 := obj_free HW.out.1 0
     have f1 := obj_free HW.out.1 1
     have HF := Hy (obj_set2 HW.out.1 (.string ⟨#[]⟩) (.string ⟨#[]⟩))
     go_wp2
     obtain ⟨g0, g1⟩ := obj2 HF.out
     refine bodyPost_ret (v := RpV (none)) (by simp [results, Tryz.results89, go_sem, RpV, *]) rfl ⟨[], [], ?_, .inl HR.out, below_set2 HW.out.2 (Nat.le_refl _) _ _⟩
     rw [HR.out]; rfl
    | true =>
     go_wp2_with fail
     refine (HT.out _).mono ?_
     rintro e w3 ⟨rfl, hw⟩
     obtain rfl := hw.symm
     clear hw
     go_wp2_with fail
     refine (HY.out _).mono ?_
     rintro e w4 ⟨rfl, hw⟩
     obtain rfl := hw.symm
     clear hw
     cases o with
     | none =>
      have HVV := Hy (HV.out W1)
      change Hid (Calls Tryz.prog _ _ W1 fun en w' => en = .returned (.tuple #[.string ⟨#[]⟩, .bool false]) /\ Below W1.heap.size W1 w') at HVV
      go_wp2_with fail
      refine HVV.out.mono ?_
      rintro e w6 ⟨rfl, hb6⟩
      have hbx := obj_below HW.out.1 hb6 (obj_lt HW.out.1)
      have HB6 := Hy (HW.out.2.trans (hb6.mono HW.out.2.size))
      clear hb6
      go_wp2_with fail
      refine (HT.out _).mono ?_
      rintro e w3 ⟨rfl, hw⟩
      obtain rfl := hw.symm
      clear hw
      obtain ⟨b0, b1⟩ := obj2 hbx
      have f0 := obj_free hbx 0
      have f1 := obj_free hbx 1
      have HF := Hy (obj_set2 hbx (.string ⟨T.toArray⟩) (.string ⟨#[]⟩))
      have HRn := Hy (show R = none from HR.out)
      clear hbx
      go_wp2
      obtain ⟨g0, g1⟩ := obj2 HF.out
      refine bodyPost_ret (v := .tuple #[.agg #[.string ⟨T.toArray⟩, .string ⟨#[]⟩], .bool false]) (by simp [results, Tryz.results89, go_sem, *]) rfl ⟨T, [], ?_, .inl HRn.out, below_set2 HB6.out (Nat.le_refl _) _ _⟩
      rw [HRn.out]; rfl
     | some v =>
      have HVV := Hy (HV.out W1)
      change Hid (Calls Tryz.prog _ _ W1 fun en w' => en = .returned (.tuple #[.string ⟨v.toArray⟩, .bool true]) /\ Below W1.heap.size W1 w') at HVV
      by_cases hv : v = []
      ·have hem : v.isEmpty = true := lst_e hv
       have HRn := Hy (show R = none by rw [HR.out, hv]; rfl)
       clear hv
       go_wp2_with fail
       refine HVV.out.mono ?_
       rintro e w6 ⟨rfl, hb6⟩
       have hbx := obj_below HW.out.1 hb6 (obj_lt HW.out.1)
       have HB6 := Hy (HW.out.2.trans (hb6.mono HW.out.2.size))
       clear hb6
       go_wp2_with fail
       refine (HT.out _).mono ?_
       rintro e w3 ⟨rfl, hw⟩
       obtain rfl := hw.symm
       clear hw
       obtain ⟨b0, b1⟩ := obj2 hbx
       have f0 := obj_free hbx 0
       have f1 := obj_free hbx 1
       have HF := Hy (obj_set2 hbx (.string ⟨T.toArray⟩) (.string ⟨v.toArray⟩))
       clear hbx
       go_wp2
       obtain ⟨g0, g1⟩ := obj2 HF.out
       refine bodyPost_ret (v := .tuple #[.agg #[.string ⟨T.toArray⟩, .string ⟨v.toArray⟩], .bool false]) (by simp [results, Tryz.results89, go_sem, *]) rfl ⟨T, v, ?_, .inl HRn.out, below_set2 HB6.out (Nat.le_refl _) _ _⟩
       rw [HRn.out]; rfl
      ·have hem : v.isEmpty = false := lst_ne hv
       have HRn := Hy (show R = some (T, v) by rw [HR.out]; unfold rpJ; rw [if_pos rfl]; exact if_neg hv)
       clear hv
       go_wp2_with fail
       refine HVV.out.mono ?_
       rintro e w6 ⟨rfl, hb6⟩
       have hbx := obj_below HW.out.1 hb6 (obj_lt HW.out.1)
       have HB6 := Hy (HW.out.2.trans (hb6.mono HW.out.2.size))
       clear hb6
       go_wp2_with fail
       refine (HT.out _).mono ?_
       rintro e w3 ⟨rfl, hw⟩
       obtain rfl := hw.symm
       clear hw
       obtain ⟨b0, b1⟩ := obj2 hbx
       have f0 := obj_free hbx 0
       have f1 := obj_free hbx 1
       have HF := Hy (obj_set2 hbx (.string ⟨T.toArray⟩) (.string ⟨v.toArray⟩))
       clear hbx
       go_wp2
       obtain ⟨g0, g1⟩ := obj2 HF.out
       refine bodyPost_ret (v := .tuple #[.agg #[.string ⟨T.toArray⟩, .string ⟨v.toArray⟩], .bool true]) (by simp [results, Tryz.results89, go_sem, *]) rfl ⟨T, v, ?_, .inr HRn.out, below_set2 HB6.out (Nat.le_refl _) _ _⟩
       rw [HRn.out]; rfl
   ·have q1 : ((c.toNat : Int) != 61) = true := ne_t h61
    have HI := Hy (show ∀ x ∈ s.data.toList.take (k + 1), x ≠ 61 by
     rw [hsn]
     intro x hx
     rcases List.mem_append.1 hx with hx | hx
     ·exact hinv x hx
     ·obtain rfl := List.mem_singleton.1 hx
      exact fun e => h61 (by rw [e]; rfl))
    clear hinv hsn h61 hc
    go_wp2
    exact ⟨⟨k + 1, by omega, by go_num, HI.out⟩, by simp [intOf]; omega⟩
  ·obtain rfl : k = s.size := by omega
   have HRn := Hy (HRN.out (by rw [List.take_of_length_le (by rw [len_list]; exact Nat.le_refl _)] at hinv; exact hinv))
   have q2 : ((s.size : Int) == (s.size : Int)) = true := by simp
   obtain ⟨b0, b1⟩ := obj2 HW.out.1
   have f0 := obj_free HW.out.1 0
   have f1 := obj_free HW.out.1 1
   have HF := Hy (obj_set2 HW.out.1 (.string ⟨#[]⟩) (.string ⟨#[]⟩))
   clear hinv hlt
   go_wp2
   obtain ⟨g0, g1⟩ := obj2 HF.out
   refine bodyPost_ret (v := RpV (none)) (by simp [results, Tryz.results89, go_sem, RpV, *]) rfl ⟨[], [], ?_, .inl HRn.out, below_set2 HW.out.2 (Nat.le_refl _) _ _⟩
   rw [HRn.out]; rfl
theorem bl_other (X r : List UInt8) (c : UInt8) (h : c ≠ 32) : X ++ bl (!X.isEmpty) (c :: r) = (X ++ [c]) ++ bl (!(X ++ [c]).isEmpty) r := by
 have e2 : (!(X ++ [c]).isEmpty) = true := by cases X <;> rfl
 rw [bl, if_pos h, e2]; simp
theorem bl_one (X r : List UInt8) (h0 : X ≠ []) (h : hdn r = true) : X ++ bl (!X.isEmpty) (32 :: r) = (X ++ [32]) ++ bl (!(X ++ [32]).isEmpty) r := by
 have e : (!X.isEmpty) = true := by simpa using h0
 have e2 : (!(X ++ [32]).isEmpty) = true := by cases X <;> rfl
 rw [bl, if_neg (by simp), if_pos ⟨e, h⟩, e, e2]; simp
theorem bl_no (X r : List UInt8) (h : X = [] \/ hdn r = false) : X ++ bl (!X.isEmpty) (32 :: r) = X ++ bl (!X.isEmpty) r := by
 rw [bl, if_neg (by simp), if_neg]
 rintro ⟨h1, h2⟩
 rcases h with h | h
 ·subst h; simp at h1
 ·rw [h] at h2; cases h2
theorem hdn_at (s : ByteArray) (k : Nat) : hdn (s.data.toList.drop k) = if h : k < s.size then decide (s[k] ≠ 32) else false := by
 have hl := len_list s
 split
 ·rename_i h
  have hd := drop_at s.data.toList k (by omega)
  rw [at_list s k h] at hd
  rw [hd]; simp [hdn, bne]
  by_cases e : s[k] = 32 <;> simp [e]
 ·rw [List.drop_of_length_le (by omega)]; rfl
theorem rblanks_any (s : ByteArray) (hm : s.size <= 35184372088832) (w : World) : Calls Tryz.prog 136 #[.string s] w (PureS (blL s.data.toList) w) := by
 have HN := Hy (hdn_at s)
 obtain ⟨R, hR⟩ : ∃ R, blL s.data.toList = R := ⟨_, rfl⟩
 have HR := Hy hR
 rw [hR]
 clear hR
 go_enter Tryz.func136, Tryz.ntmps136
 go_wp2
 go_loop [3, 4] (fun o v => ∃ (k : Nat) (X : List UInt8), k <= s.size /\ v = .int .i64 (k : Nat) /\ o = .string ⟨X.toArray⟩ /\ X.length <= k /\ X ++ bl (!X.isEmpty) (s.data.toList.drop k) = R) (fun _ v => s.size - (intOf v).toNat)
 case atStart => exact ⟨0, [], by omega, rfl, rfl, by simp, HR.out⟩
 case round =>
  obtain ⟨k, X, hk, rfl, rfl, hX, hinv⟩ := hrel
  have hl := len_list s
  by_cases hlt : k < s.size
  ·have hkl : (k : Int) < (s.size : Int) := by omega
   have h8 : s[k].toNat < 256 := s[k].toNat_lt
   have hd := drop_at s.data.toList k (by omega)
   rw [at_list s k hlt] at hd
   rw [hd] at hinv
   have hE := ext_one s k hlt
   obtain ⟨c, hc⟩ : ∃ c, s[k] = c := ⟨_, rfl⟩
   have hxk : s[k].toNat = c.toNat := by rw [hc]
   rw [hc] at hinv hE
   have hk1 : (k : Int) + 1 <= (s.size : Int) := by omega
   have hk2 : (k : Int) <= (k : Int) + 1 := by omega
   have hk3 : (0 : Int) <= (k : Int) + 1 := by omega
   have hL1 : ¬ (9223372036854775807 < X.length + 1) := by omega
   by_cases h32 : c.toNat = 32
   ·obtain rfl : c = 32 := UInt8.toNat_inj.1 h32
    change s[k].toNat = 32 at hxk
    have hnx := HN.out (k + 1)
    by_cases h0 : X = []
    ·rw [bl_no X _ (.inl h0)] at hinv
     have q0 : X.isEmpty = true := lst_e h0
     have HI := Hy hinv
     clear hinv h0 hnx h32 hc hd hl hE
     go_wp2
     exact ⟨⟨k + 1, X, by omega, by go_num, rfl, by omega, HI.out⟩, by simp [intOf]; omega⟩
    ·have q0 : X.isEmpty = false := lst_ne h0
     by_cases hk4 : k + 1 < s.size
     ·rw [dif_pos hk4] at hnx
      have hk4' : (k : Int) + 1 < (s.size : Int) := by omega
      have h9 : s[k + 1].toNat < 256 := s[k + 1].toNat_lt
      obtain ⟨d, hdd⟩ : ∃ d, s[k + 1] = d := ⟨_, rfl⟩
      have hxd : s[k + 1].toNat = d.toNat := by rw [hdd]
      rw [hdd] at hnx
      by_cases hd32 : d.toNat = 32
      ·have q1 : ((d.toNat : Int) != 32) = false := ne_f hd32
       rw [bl_no X _ (.inr (by rw [hnx]; simpa using UInt8.toNat_inj.1 hd32))] at hinv
       have HI := Hy hinv
       clear hinv h0 hnx h32 hc hd hl hE hdd hd32
       go_wp2
       exact ⟨⟨k + 1, X, by omega, by go_num, rfl, by omega, HI.out⟩, by simp [intOf]; omega⟩
      ·have q1 : ((d.toNat : Int) != 32) = true := ne_t hd32
       rw [bl_one X _ h0 (by rw [hnx]; simpa using fun e : d = 32 => hd32 (by rw [e]; rfl))] at hinv
       have HI := Hy hinv
       clear hinv h0 hnx h32 hc hd hl hE hdd hd32
       go_wp2
       exact ⟨⟨k + 1, X ++ [32], by omega, by go_num, by rw [<- cat_l], by simp; omega, HI.out⟩, by simp [intOf]; omega⟩
     ·have hk4' : ¬ ((k : Int) + 1 < (s.size : Int)) := by omega
      rw [dif_neg hk4] at hnx
      rw [bl_no X _ (.inr hnx)] at hinv
      have HI := Hy hinv
      clear hinv h0 hnx h32 hc hd hl hE hk4
      go_wp2
      exact ⟨⟨k + 1, X, by omega, by go_num, rfl, by omega, HI.out⟩, by simp [intOf]; omega⟩
   ·have q1 : ((c.toNat : Int) != 32) = true := ne_t h32
    rw [bl_other X _ c (fun e => h32 (by rw [e]; rfl))] at hinv
    have HI := Hy hinv
    clear hinv h32 hc hd hl
    go_wp2
    exact ⟨⟨k + 1, X ++ [c], by omega, by go_num, by rw [<- cat_l], by simp; omega, HI.out⟩, by simp [intOf]; omega⟩
  ·obtain rfl : k = s.size := by omega
   rw [List.drop_of_length_le (by omega)] at hinv
   have HI := Hy (show R = X by rw [<- hinv]; simp [bl])
   clear hinv hl
   go_wp2
   go_ret
   exact ⟨by rw [HI.out]; rfl, rfl⟩
theorem rfold_any (s : ByteArray) (hm : s.size <= 35184372088832) (w : World) : Calls Tryz.prog 135 #[.string s] w (StrPost (foldL s.data.toList) w) := by
 have HB := Hy (rblanks_any s hm)
 have hbl := blL_length s.data.toList
 rw [len_list] at hbl
 have HL := Hy (fun w => rlow5_any ⟨(blL s.data.toList).toArray⟩ (show (blL s.data.toList).length <= _ by omega) w)
 change Hid (∀ w, Calls Tryz.prog _ _ w (StrPost (foldL s.data.toList) w)) at HL
 obtain ⟨F, hF⟩ : ∃ F, foldL s.data.toList = F := ⟨_, rfl⟩
 obtain ⟨B, hB⟩ : ∃ B, blL s.data.toList = B := ⟨_, rfl⟩
 rw [hB] at HB HL
 rw [hF] at HL ⊢
 clear hB hF hbl
 go_enter Tryz.func135, Tryz.ntmps135
 go_wp2_with fail
 refine (HB.out _).mono ?_
 rintro e w1 ⟨rfl, hw⟩
 obtain rfl := hw.symm
 clear hw
 go_wp2_with fail
 refine (HL.out _).mono ?_
 rintro e w2 ⟨rfl, hb⟩
 go_wp2
 go_ret
 exact ⟨rfl, hb⟩
theorem avc_app (a b : List Av) : avc (a ++ b) = avc a ++ avc b := by simp [avc]
theorem avc_take (r : List Av) (k : Nat) : (avc r).take (k * 2) = avc (r.take k) := by
 induction r generalizing k with
 | nil => simp [avc]
 | cons p r ih =>
  cases k with
  | zero => simp [avc]
  | succ k => rw [show (k + 1) * 2 = k * 2 + 1 + 1 by omega, avc_cons, List.take_succ_cons, List.take_succ_cons, ih, List.take_succ_cons, avc_cons]
theorem avc_drop (r : List Av) (k : Nat) : (avc r).drop (k * 2) = avc (r.drop k) := by
 induction r generalizing k with
 | nil => simp [avc]
 | cons p r ih =>
  cases k with
  | zero => simp [avc]
  | succ k => rw [show (k + 1) * 2 = k * 2 + 1 + 1 by omega, avc_cons, List.drop_succ_cons, List.drop_succ_cons, ih, List.drop_succ_cons]
theorem avc_one (r : List Av) : ∀ v ∈ avc r, v.oneCell' = true := by
 induction r with
 | nil => simp [avc]
 | cons p r ih =>
  intro v hv
  rw [avc_cons] at hv
  rcases List.mem_cons.1 hv with rfl | hv
  ·rfl
  ·rcases List.mem_cons.1 hv with rfl | hv
   ·rfl
   ·exact ih v hv
theorem addr0 (g j : Nat) : (⟨g, 0, none⟩ : Addr).add j = ⟨g, j, none⟩ := by
 unfold Addr.add
 by_cases h : j = 0 <;> simp [h]
def OwnAv (w : World) (B : Nat) (e : TypeId) (v : Value) (r : List Av) : Prop := w.ownsRow B e 2 v r.length (avc r)
theorem avAt_own {w : World} {B : Nat} {e : TypeId} {v : Value} {r : List Av} (h : OwnAv w B e v r) : AvAt w v r := by
 rcases h.2 with ⟨rfl, h0⟩ | ⟨g, cap, cur, rfl, _, hg, hn, _⟩
 ·exact ⟨none, 0, by rw [h0], by omega, fun i hi => by omega⟩
 ·refine ⟨_, cap, rfl, hn, fun i hi => ⟨g, 0, rfl, obj_lt hg, ?_, ?_⟩⟩
  ·have := h.cells (g := g) rfl (i * 2) _ (avc_at r i hi).1
   rw [addr0] at this
   rw [Nat.zero_add]
   exact this
  ·have := h.cells (g := g) rfl (i * 2 + 1) _ (avc_at r i hi).2
   rw [addr0] at this
   rw [Nat.zero_add]
   exact this
theorem ownAv_below {w w' : World} {B : Nat} {e : TypeId} {v : Value} {r : List Av} (h : OwnAv w B e v r) (hb : Below w.heap.size w w') : OwnAv w' B e v r := ownsRow_below h hb
def GridA (w : World) (B : Nat) (e2 e : TypeId) (v : Value) (vs : List Value) (D : List (List Av)) : Prop :=
 vs.length = D.length /\ w.ownsRow B e2 1 v D.length vs /\ ∀ i (h : i < D.length) (h' : i < vs.length), OwnAv w B e vs[i] D[i] /\ Apart vs[i] v
theorem gridA_nil (w : World) (B : Nat) (e2 e : TypeId) : GridA w B e2 e (.slice none 0 0) [] [] := ⟨rfl, World.ownsRow_nil _ _ _ _, fun i h => by simp at h⟩
theorem gridA_below {w w' : World} {B : Nat} {e2 e : TypeId} {v : Value} {vs : List Value} {D : List (List Av)} (h : GridA w B e2 e v vs D) (hb : Below w.heap.size w w') : GridA w' B e2 e v vs D :=
 ⟨h.1, ownsRow_below h.2.1 hb, fun i hi hi' => ⟨ownsRow_below (h.2.2 i hi hi').1 hb, (h.2.2 i hi hi').2⟩⟩
theorem gridA_snoc {w w' : World} {B : Nat} {e2 e : TypeId} {v v' u : Value} {vs : List Value} {D : List (List Av)} {r : List Av} (h : GridA w B e2 e v vs D) (hu : OwnAv w B e u r) (hap : Apart u v)
  (hown : w'.ownsRow B e2 1 v' (D.length + 1) (vs ++ [u])) (hc : Chg (fun k => some k = v.ownBlock) w w') (hv : v'.ownBlock = v.ownBlock \/ ∃ k, v'.ownBlock = some k /\ w.heap.size <= k) : GridA w' B e2 e v' (vs ++ [u]) (D ++ [r]) := by
 refine ⟨by simp [h.1], by rw [List.length_append]; exact hown, fun i hi hi' => ?_⟩
 by_cases hlt : i < D.length
 ·have hlt' : i < vs.length := by rw [h.1]; exact hlt
  obtain ⟨h1, h2⟩ := h.2.2 i hlt hlt'
  rw [List.getElem_append_left hlt, List.getElem_append_left hlt']
  exact ⟨ownsRow_chg h1 hc (fun k hk hS => h2 k hk hS.symm), apart_new h2 h1 hv⟩
 ·have hi2 : i = D.length := by simp at hi; omega
  subst hi2
  have e1 : (D ++ [r])[D.length]'hi = r := by simp
  have e2 : (vs ++ [u])[D.length]'hi' = u := by simp [<- h.1]
  rw [e1, e2]
  exact ⟨ownsRow_chg hu hc (fun k hk hS => hap k hk hS.symm), apart_new hap hu hv⟩
theorem apart_base {w : World} {B B2 : Nat} {e e2 : TypeId} {s s2 n n2 : Nat} {u v : Value} {xs ys : List Value} (hv : w.ownsRow B2 e2 s2 v n2 ys) {w2 : World} (hu : w2.ownsRow B e s u n xs) (hB : w.heap.size <= B) : Apart u v := by
 intro k h1 h2
 have a := (hu.lt k h1).1
 have b := (hv.lt k h2).2
 omega
theorem dnAt_grid {w : World} {B : Nat} {e2 e : TypeId} {v : Value} {vs : List Value} {D : List (List Av)} (h : GridA w B e2 e v vs D) : DnAt w v D := by
 rcases h.2.1.2 with ⟨rfl, h0⟩ | ⟨g, cap, cur, hv, _, hg, hn, _⟩
 ·exact ⟨none, 0, by rw [h0], by omega, fun i hi => by omega⟩
 ·subst hv
  refine ⟨_, cap, rfl, hn, fun i hi => ?_⟩
  have hi' : i < vs.length := by rw [h.1]; exact hi
  refine ⟨g, 0, vs[i], rfl, obj_lt hg, ?_, avAt_own (h.2.2 i hi hi').1⟩
  rw [Nat.zero_add, h.2.1.cellAt i (by omega)]
  exact List.getElem?_eq_getElem hi'
end Go.Proofs.YtpkbgkoocijegaaGreatDoor
