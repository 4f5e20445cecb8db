/- The document's Norm, Equal and Order, for every value. The document's find, and whether parts are not too great. The document's parts, for every rule and all parts. The document's Subs, for every value and parts that are not too great. -/
import Derived.Test.YtlopmppiihhnnaaGreatDoorRuAD
import Derived.Test.YtlopmppiihhnnaaGreatDoorRuBC
import Derived.Test.YtlopmppiihhnnaaGreatDoorDrH
import Derived.Test.YtlopmppiihhnnaaGreatDoorRuFI
import Derived.Test.YtlopmppiihhnnaaGreatDoorDnR
namespace Go.Proofs.YtlopmppiihhnnaaGreatDoor
set_option linter.unusedSimpArgs false
set_option linter.unusedVariables false
open Go Go.RowKit Go.Proofs.BerK Go.Proofs.MemK Go.Proofs.UtfK

set_option maxHeartbeats 3200000 in
set_option maxRecDepth 100000 in
theorem rrnorm_any (r : Int) (s : List UInt8) (w : World) : Calls Tryz.prog 9 #[.int .i64 r, .string ⟨s.toArray⟩] w (NbPost (ruN r s) w) := by
  by_cases hl : 4096 < s.length
  · have HR := Lib.hid (ruN_long (r := r) hl)
    have q : (4096 : Int) < (s.length : Int) := by omega
    clear hl
    go_enter Tryz.func9, Tryz.ntmps9
    go_wp2
    go_ret2
    exact nbPost_mk (a := []) HR.out (Below.refl _ _)
  have q : ¬ (4096 : Int) < (s.length : Int) := by omega
  by_cases h1 : r = 1
  · subst h1
    have HR := Lib.hid (ruN_1 hl)
    have HB := Lib.hid (fun w => rfold_any ⟨s.toArray⟩ (by show s.length ≤ _; omega) w)
    change Hid (∀ w, Calls Tryz.prog _ _ w (StrPost (foldL s) w)) at HB
    obtain ⟨F, hF⟩ : ∃ F, foldL s = F := ⟨_, rfl⟩
    rw [hF] at HB HR
    clear hl hF
    by_cases h0 : F = []
    · subst h0
      go_enter Tryz.func9, Tryz.ntmps9
      go_wp2_with fail
      refine (HB.out _).mono ?_
      rintro e w2 ⟨rfl, hb2⟩
      have B2 := Lib.hid hb2
      clear hb2
      go_wp2
      go_ret2
      exact nbPost_mk HR.out B2.out
    · have q0 := ru_ne h0
      have HR2 := Lib.hid (show ruN 1 s = (F, true) by rw [HR.out, q0]; rfl)
      clear h0 HR
      go_enter Tryz.func9, Tryz.ntmps9
      go_wp2_with fail
      refine (HB.out _).mono ?_
      rintro e w2 ⟨rfl, hb2⟩
      have B2 := Lib.hid hb2
      clear hb2
      go_wp2
      go_ret2
      exact nbPost_mk HR2.out B2.out
  by_cases h2 : r = 2
  · subst h2
    have HR := Lib.hid (ruN_2 hl)
    have HB : Hid (∀ w, Calls Tryz.prog 21 #[.string ⟨s.toArray⟩] w (StrPost (blL s) w)) := Lib.hid (fun w => (rblanks_any ⟨s.toArray⟩ (by show s.length ≤ _; omega) w).mono fun _ _ h => ⟨h.1, by rw [h.2]; exact Below.refl _ _⟩)
    obtain ⟨F, hF⟩ : ∃ F, blL s = F := ⟨_, rfl⟩
    rw [hF] at HB HR
    clear hl hF h1
    by_cases h0 : F = []
    · subst h0
      go_enter Tryz.func9, Tryz.ntmps9
      go_wp2_with fail
      refine (HB.out _).mono ?_
      rintro e w2 ⟨rfl, hb2⟩
      have B2 := Lib.hid hb2
      clear hb2
      go_wp2
      go_ret2
      exact nbPost_mk HR.out B2.out
    · have q0 := ru_ne h0
      have HR2 := Lib.hid (show ruN 2 s = (F, true) by rw [HR.out, q0]; rfl)
      clear h0 HR
      go_enter Tryz.func9, Tryz.ntmps9
      go_wp2_with fail
      refine (HB.out _).mono ?_
      rintro e w2 ⟨rfl, hb2⟩
      have B2 := Lib.hid hb2
      clear hb2
      go_wp2
      go_ret2
      exact nbPost_mk HR2.out B2.out
  by_cases h3 : r = 3
  · subst h3
    have HR := Lib.hid (ruN_3 hl)
    have HB : Hid (∀ w, Calls Tryz.prog 22 #[.string ⟨s.toArray⟩] w (IntPost s w)) := Lib.hid (fun w => (rint_any ⟨s.toArray⟩ (by show s.length ≤ _; omega) w).mono fun _ _ h => ⟨h.1, by rw [h.2]; exact Below.refl _ _⟩)
    clear hl h1 h2
    go_enter Tryz.func9, Tryz.ntmps9
    go_wp2_with fail
    refine (HB.out _).mono ?_
    rintro e w2 ⟨rfl, hb2⟩
    have B2 := Lib.hid hb2
    clear hb2
    go_wp2
    go_ret2
    exact nbPost_mk HR.out B2.out
  by_cases h4 : r = 4
  · subst h4
    have HR := Lib.hid (ruN_4 hl)
    clear hl h1 h2 h3
    go_enter Tryz.func9, Tryz.ntmps9
    go_wp2
    go_ret2
    exact nbPost_mk HR.out (Below.refl _ _)
  by_cases h5 : r = 5
  · subst h5
    have HR := Lib.hid (ruN_5 hl)
    have HB := Lib.hid (rnorm_any ⟨s.toArray⟩ w)
    change Hid (Calls Tryz.prog _ _ w (PutPost (noD s) w)) at HB
    obtain ⟨P, hP⟩ : ∃ P, noD s = P := ⟨_, rfl⟩
    rw [hP] at HB HR
    obtain ⟨X, n⟩ := P
    clear hl h1 h2 h3 h4 hP
    by_cases hn : n = 0
    · subst hn
      go_enter Tryz.func9, Tryz.ntmps9
      go_wp2_with fail
      refine HB.out.mono ?_
      rintro e w2 ⟨rfl, hb2⟩
      have B2 := Lib.hid hb2
      clear hb2
      go_wp2
      go_ret2
      exact nbPost_mk HR.out B2.out
    · have q0 : ((n : Int) == 0) = false := by rw [beq_eq_false_iff_ne]; omega
      have HR2 := Lib.hid (show ruN 5 s = (X, false) by rw [HR.out]; simp [hn])
      clear hn HR
      go_enter Tryz.func9, Tryz.ntmps9
      go_wp2_with fail
      refine HB.out.mono ?_
      rintro e w2 ⟨rfl, hb2⟩
      have B2 := Lib.hid hb2
      clear hb2
      go_wp2
      go_ret2
      exact nbPost_mk HR2.out B2.out
  have HR := Lib.hid (ruN_no (s := s) h1 h2 h3 h4 h5)
  have g1 : (r == 1) = false := by simpa using h1
  have g2 : (r == 2) = false := by simpa using h2
  have g3 : (r == 3) = false := by simpa using h3
  have g4 : (r == 4) = false := by simpa using h4
  have g5 : (r == 5) = false := by simpa using h5
  clear hl h1 h2 h3 h4 h5
  go_enter Tryz.func9, Tryz.ntmps9
  go_wp2
  go_ret2
  exact nbPost_mk (a := []) HR.out (Below.refl _ _)
set_option maxHeartbeats 400000 in
theorem rrtruth_any (b : Bool) (w : World) : Calls Tryz.prog 26 #[.bool b] w (PureI (tv b) w) := by
  cases b
  all_goals
    go_enter Tryz.func26, Tryz.ntmps26
    go_wp2
    go_ret
    exact pureI_mk (by rfl)
set_option maxHeartbeats 1600000 in
set_option maxRecDepth 100000 in
theorem rrequal_any (r : Int) (a b : List UInt8) (w : World) : Calls Tryz.prog 11 #[.int .i64 r, .string ⟨a.toArray⟩, .string ⟨b.toArray⟩] w (IPost (eqP (ruN r a) (ruN r b)) w) := by
  have H1 := Lib.hid (fun w => rrnorm_any r a w)
  have H2 := Lib.hid (fun w => rrnorm_any r b w)
  have HT := Lib.hid rrtruth_any
  obtain ⟨p, hp⟩ : ∃ p, ruN r a = p := ⟨_, rfl⟩
  obtain ⟨q, hq⟩ : ∃ p, ruN r b = p := ⟨_, rfl⟩
  rw [hp] at H1 ⊢
  rw [hq] at H2 ⊢
  obtain ⟨x, b1⟩ := p
  obtain ⟨y, b2⟩ := q
  clear hp hq
  have hw : (b1 = false ∧ eqP (x, b1) (y, b2) = 2) ∨ (b1 = true ∧ b2 = false ∧ eqP (x, b1) (y, b2) = 2) ∨ (b1 = true ∧ b2 = true ∧ eqP (x, b1) (y, b2) = tv (x == y)) := by
    cases b1 <;> cases b2 <;> simp [eqP]
  rcases hw with ⟨rfl, hR⟩ | ⟨rfl, rfl, hR⟩ | ⟨rfl, rfl, hR⟩
  · have HR := Lib.hid hR
    clear hR
    go_enter Tryz.func11, Tryz.ntmps11
    go_wp2_with fail
    refine (H1.out _).mono ?_
    rintro e w1 ⟨rfl, hb1⟩
    have B1 := Lib.hid hb1
    clear hb1
    go_wp2_with fail
    refine (H2.out _).mono ?_
    rintro e w2 ⟨rfl, hb2⟩
    have B2 := Lib.hid (B1.out.trans (hb2.mono B1.out.size))
    clear hb2
    go_wp2
    go_ret
    exact iPost_mk HR.out B2.out
  · have HR := Lib.hid hR
    clear hR
    go_enter Tryz.func11, Tryz.ntmps11
    go_wp2_with fail
    refine (H1.out _).mono ?_
    rintro e w1 ⟨rfl, hb1⟩
    have B1 := Lib.hid hb1
    clear hb1
    go_wp2_with fail
    refine (H2.out _).mono ?_
    rintro e w2 ⟨rfl, hb2⟩
    have B2 := Lib.hid (B1.out.trans (hb2.mono B1.out.size))
    clear hb2
    go_wp2
    go_ret
    exact iPost_mk HR.out B2.out
  · have HR := Lib.hid hR
    clear hR
    go_enter Tryz.func11, Tryz.ntmps11
    go_wp2_with fail
    refine (H1.out _).mono ?_
    rintro e w1 ⟨rfl, hb1⟩
    have B1 := Lib.hid hb1
    clear hb1
    go_wp2_with fail
    refine (H2.out _).mono ?_
    rintro e w2 ⟨rfl, hb2⟩
    have B2 := Lib.hid (B1.out.trans (hb2.mono B1.out.size))
    clear hb2
    go_wp2_with fail
    refine (HT.out _ _).mono ?_
    rintro e w3 ⟨rfl, hw⟩
    obtain rfl := hw.symm
    go_wp2
    go_ret
    exact iPost_mk HR.out B2.out
theorem le_bytes (x y : List UInt8) : (x == y || ltB x y) = (Op.bytesLess x y || x == y) := by rw [less_ltB, Bool.or_comm]
set_option maxHeartbeats 1600000 in
set_option maxRecDepth 100000 in
theorem rrorder_any (r : Int) (a b : List UInt8) (w : World) : Calls Tryz.prog 13 #[.int .i64 r, .string ⟨a.toArray⟩, .string ⟨b.toArray⟩] w (IPost (ordP r (ruN r a) (ruN r b)) w) := by
  have H1 := Lib.hid (fun w => rrnorm_any r a w)
  have H2 := Lib.hid (fun w => rrnorm_any r b w)
  have HT := Lib.hid rrtruth_any
  have l1 := ru_len r a
  have l2 := ru_len r b
  obtain ⟨p, hp⟩ : ∃ p, ruN r a = p := ⟨_, rfl⟩
  obtain ⟨q, hq⟩ : ∃ p, ruN r b = p := ⟨_, rfl⟩
  rw [hp] at H1 l1 ⊢
  rw [hq] at H2 l2 ⊢
  obtain ⟨x, b1⟩ := p
  obtain ⟨y, b2⟩ := q
  have HL := Lib.hid (fun w => rless5_any ⟨x.toArray⟩ ⟨y.toArray⟩ (by show x.length ≤ _; simp only at l1; omega) (by show y.length ≤ _; simp only at l2; omega) w)
  change Hid (∀ w, Calls Tryz.prog _ _ w (BoolPost (lessL x y) w)) at HL
  obtain ⟨ls, hls⟩ : ∃ l, lessL x y = l := ⟨_, rfl⟩
  rw [hls] at HL
  clear hp hq l1 l2
  have hw : (b1 = false ∧ ordP r (x, b1) (y, b2) = 2) ∨ (b1 = true ∧ b2 = false ∧ ordP r (x, b1) (y, b2) = 2) ∨ (b1 = true ∧ b2 = true ∧ r = 5 ∧ ordP r (x, b1) (y, b2) = 2) ∨
      (b1 = true ∧ b2 = true ∧ r = 3 ∧ (x == y) = true ∧ ordP r (x, b1) (y, b2) = tv true) ∨ (b1 = true ∧ b2 = true ∧ r = 3 ∧ (x == y) = false ∧ ordP r (x, b1) (y, b2) = tv ls) ∨ (b1 = true ∧ b2 = true ∧ (r == 5) = false ∧ (r == 3) = false ∧ ordP r (x, b1) (y, b2) = tv (Op.bytesLess x y || x == y)) := by
    cases b1
    · exact .inl ⟨rfl, by simp [ordP]⟩
    cases b2
    · exact .inr (.inl ⟨rfl, rfl, by simp [ordP]⟩)
    by_cases h5 : r = 5
    · exact .inr (.inr (.inl ⟨rfl, rfl, h5, by simp [ordP, h5]⟩))
    by_cases h3 : r = 3
    · have e := ordP_one r x y h5
      rw [lsR, if_pos h3, hls] at e
      cases hxy : (x == y)
      · exact .inr (.inr (.inr (.inr (.inl ⟨rfl, rfl, h3, rfl, by rw [e, hxy]; rfl⟩))))
      · exact .inr (.inr (.inr (.inl ⟨rfl, rfl, h3, rfl, by rw [e, hxy]; rfl⟩)))
    · have e := ordP_one r x y h5
      rw [lsR, if_neg h3, le_bytes] at e
      exact .inr (.inr (.inr (.inr (.inr ⟨rfl, rfl, by simpa using h5, by simpa using h3, e⟩))))
  clear hls
  rcases hw with ⟨rfl, hR⟩ | ⟨rfl, rfl, hR⟩ | ⟨rfl, rfl, rfl, hR⟩ | ⟨rfl, rfl, rfl, hq, hR⟩ | ⟨rfl, rfl, rfl, hq, hR⟩ | ⟨rfl, rfl, hq1, hq2, hR⟩
  case inr.inr.inr.inr.inl =>
    have HR := Lib.hid hR
    clear hR
    go_enter Tryz.func13, Tryz.ntmps13
    go_wp2_with fail
    refine (H1.out _).mono ?_
    rintro e w1 ⟨rfl, hb1⟩
    have B1 := Lib.hid hb1
    clear hb1
    go_wp2_with fail
    refine (H2.out _).mono ?_
    rintro e w2 ⟨rfl, hb2⟩
    have B2 := Lib.hid (B1.out.trans (hb2.mono B1.out.size))
    clear hb2
    go_wp2_with fail
    refine (HL.out _).mono ?_
    rintro e w3 ⟨rfl, hb3⟩
    have B3 := Lib.hid (B2.out.trans (hb3.mono B2.out.size))
    clear hb3
    go_wp2_with fail
    refine (HT.out _ _).mono ?_
    rintro e w4 ⟨rfl, hw⟩
    obtain rfl := hw.symm
    go_wp2
    go_ret
    exact iPost_mk HR.out B3.out
  all_goals
    have HR := Lib.hid hR
    clear hR
    go_enter Tryz.func13, Tryz.ntmps13
    go_wp2_with fail
    refine (H1.out _).mono ?_
    rintro e w1 ⟨rfl, hb1⟩
    have B1 := Lib.hid hb1
    clear hb1
    go_wp2_with fail
    refine (H2.out _).mono ?_
    rintro e w2 ⟨rfl, hb2⟩
    have B2 := Lib.hid (B1.out.trans (hb2.mono B1.out.size))
    clear hb2
    first
      | (go_wp2; go_ret; exact iPost_mk HR.out B2.out; done)
      | (go_wp2_with fail
         refine (HT.out _ _).mono ?_
         rintro e w4 ⟨rfl, hw⟩
         obtain rfl := hw.symm
         go_wp2
         go_ret
         exact iPost_mk HR.out B2.out)
end Go.Proofs.YtlopmppiihhnnaaGreatDoor
namespace Go.Proofs.YtlopmppiihhnnaaGreatDoor
set_option linter.unusedSimpArgs false
set_option linter.unusedVariables false
open Go Go.RowKit Go.Proofs.BerK Go.Proofs.MemK Go.Proofs.UtfK

theorem ext_lr (l : List UInt8) (i j : Nat) : (⟨l.toArray⟩ : ByteArray).extract i j = ⟨((l.drop i).take (j - i)).toArray⟩ := by
  rw [← mk_list ((⟨l.toArray⟩ : ByteArray).extract i j), Lib.extract_data]
theorem index_end {s t : List UInt8} {k : Nat} (h : Lib.NoOcc s t k) (hk : s.length < k + t.length) : Lib.index s t = -1 := by
  by_cases ht : t = []
  · subst ht
    have h0 : 0 < k := by simp at hk; omega
    have := h 0 h0
    simp [Lib.occAt] at this
  · exact Lib.index_past ht h hk
set_option maxHeartbeats 1600000 in
set_option maxRecDepth 100000 in
theorem rfind_any (s t : List UInt8) (hs : s.length ≤ 100000) (ht : t.length ≤ 100000) (w : World) : Calls Tryz.prog 33 #[.string ⟨s.toArray⟩, .string ⟨t.toArray⟩] w (PureI (Lib.index s t) w) := by
  have HE := Lib.hid (fun k => index_end (s := s) (t := t) (k := k))
  have HH := Lib.hid (fun k => Lib.index_hit (s := s) (sub := t) (i := k))
  have HO := Lib.hid (fun k => Lib.occAt_iff_take s t k)
  have HX := Lib.hid (fun i j => ext_lr s i j)
  have HN0 := Lib.hid (Lib.NoOcc.zero s t)
  have HNS := Lib.hid (fun k => Lib.NoOcc.succ (s := s) (sub := t) (i := k))
  obtain ⟨R, hR⟩ : ∃ R, Lib.index s t = R := ⟨_, rfl⟩
  rw [hR] at HE ⊢
  have HH2 := Lib.hid (fun k h1 h2 h3 => hR.symm.trans (HH.out k h1 h2 h3))
  clear hR HH
  go_enter Tryz.func33, Tryz.ntmps33
  go_wp2
  go_loop [5] (fun v => ∃ k : Nat, k ≤ s.length + 1 ∧ v = .int .i64 (k : Nat) ∧ Lib.NoOcc s t k) (fun v => s.length + 1 - (intOf v).toNat)
  case atStart => exact ⟨0, by omega, rfl, HN0.out⟩
  case round =>
    obtain ⟨k, hk, rfl, hno⟩ := hrel
    by_cases hroom : k + t.length ≤ s.length
    · have q1 : (k : Int) + (t.length : Int) ≤ (s.length : Int) := by omega
      have q2 : (0 : Int) ≤ (k : Int) := by omega
      have q3 : (k : Int) ≤ (k : Int) + (t.length : Int) := by omega
      have hx := HX.out k (k + t.length)
      rw [show k + t.length - k = t.length by omega] at hx
      have ho := HO.out k hroom
      obtain ⟨u, hu⟩ : ∃ u, (s.drop k).take t.length = u := ⟨_, rfl⟩
      rw [hu] at hx ho
      clear hu
      cases hb : (u == t)
      · rw [hb] at ho
        have H := Lib.hid (HNS.out k hno ho)
        clear hno ho
        go_wp2
        exact ⟨⟨k + 1, by omega, by go_num, H.out⟩, by simp [intOf]; omega⟩
      · rw [hb] at ho
        have H := Lib.hid (HH2.out k hno (by omega) ho)
        clear hno ho
        go_wp2
        go_ret
        exact pureI_mk H.out
    · have q1 : ¬ (k : Int) + (t.length : Int) ≤ (s.length : Int) := by omega
      have H := Lib.hid (HE.out k hno (by omega))
      clear hno
      go_wp2
      go_ret
      exact pureI_mk H.out

/-! ### Few -/
def fewR (h : List UInt8) (ms : List (List UInt8)) (t : List UInt8) : Bool := decide (h.length ≤ 100) && decide (t.length ≤ 100) && decide (ms.length ≤ 20) && ms.all (fun m => decide (m.length ≤ 100))
theorem few_true {h : List UInt8} {ms : List (List UInt8)} {t : List UInt8} (hf : fewR h ms t = true) : h.length ≤ 100 ∧ t.length ≤ 100 ∧ ms.length ≤ 20 ∧ ∀ m ∈ ms, m.length ≤ 100 := by
  unfold fewR at hf
  simp only [Bool.and_eq_true, decide_eq_true_eq, List.all_eq_true] at hf
  exact ⟨hf.1.1.1, hf.1.1.2, hf.1.2, fun m hm => hf.2 m hm⟩
theorem few_long {h : List UInt8} {ms : List (List UInt8)} {t : List UInt8} (hf : 100 < h.length ∨ 100 < t.length ∨ 20 < ms.length) : fewR h ms t = false := by
  cases hq : fewR h ms t
  · rfl
  · have := few_true hq; omega
theorem few_mid {h : List UInt8} {ms : List (List UInt8)} {t : List UInt8} (k : Nat) (hk : k < ms.length) (hl : 100 < ms[k].length) : fewR h ms t = false := by
  cases hq : fewR h ms t
  · rfl
  · have := (few_true hq).2.2.2 _ (List.getElem_mem hk); omega
theorem few_all {h : List UInt8} {ms : List (List UInt8)} {t : List UInt8} (h1 : h.length ≤ 100) (h2 : t.length ≤ 100) (h3 : ms.length ≤ 20) (h4 : ∀ j (hj : j < ms.length), ms[j].length ≤ 100) : fewR h ms t = true := by
  unfold fewR
  simp only [Bool.and_eq_true, decide_eq_true_eq, List.all_eq_true]
  refine ⟨⟨⟨h1, h2⟩, h3⟩, fun m hm => ?_⟩
  obtain ⟨j, hj, rfl⟩ := List.getElem_of_mem hm
  exact h4 j hj
set_option maxHeartbeats 1600000 in
set_option maxRecDepth 100000 in
theorem rfew_any (h t : List UInt8) (ms : List (List UInt8)) (a : Option Addr) (c : Nat) (w : World) (hm : TxR w (.slice a ms.length c) ms) :
    Calls Tryz.prog 6 #[.agg #[.string ⟨h.toArray⟩, .slice a ms.length c, .string ⟨t.toArray⟩]] w (BoolPost (fewR h ms t) w) := by
  have HB0 := Lib.hid ((Below.refl _ w).alloc (Nat.le_refl _) (.cells #[.string ⟨h.toArray⟩, .slice a ms.length c, .string ⟨t.toArray⟩] 25))
  have HBX := Lib.hid (heap_alloc_new w (.cells #[.string ⟨h.toArray⟩, .slice a ms.length c, .string ⟨t.toArray⟩] 25))
  have hm1 := txR_below hm HB0.out
  obtain ⟨a', c', hv, hcells⟩ := hm1
  injection hv with hv1 _ hv3
  subst hv1 hv3
  have HM := Lib.hid hcells
  have HL := Lib.hid (few_long (h := h) (ms := ms) (t := t))
  have HMd := Lib.hid (few_mid (h := h) (ms := ms) (t := t))
  have HAl := Lib.hid (few_all (h := h) (ms := ms) (t := t))
  obtain ⟨R, hR⟩ : ∃ R, fewR h ms t = R := ⟨_, rfl⟩
  rw [hR] at HL HMd HAl ⊢
  obtain ⟨n, hn⟩ : ∃ n, ms.length = n := ⟨_, rfl⟩
  have HN := Lib.hid hn
  obtain ⟨W0, hW0⟩ : ∃ W0, w.alloc (.cells #[.string ⟨h.toArray⟩, .slice a ms.length c, .string ⟨t.toArray⟩] 25) = W0 := ⟨_, rfl⟩
  have HW0 := Lib.hid hW0
  rw [hW0] at HB0 HBX HM
  rw [hn] at HBX HL HW0 ⊢
  clear hm hcells hR hn hW0
  by_cases hlong : 100 < h.length ∨ 100 < t.length ∨ 20 < n
  · have HR := Lib.hid (HL.out hlong)
    have hw : (100 : Int) < (h.length : Int) ∨ (¬ (100 : Int) < (h.length : Int) ∧ (100 : Int) < (t.length : Int)) ∨ (¬ (100 : Int) < (h.length : Int) ∧ ¬ (100 : Int) < (t.length : Int) ∧ (20 : Int) < (n : Int)) := by omega
    clear hlong
    rcases hw with q1 | ⟨q1, q2⟩ | ⟨q1, q2, q3⟩
    all_goals
      go_enter Tryz.func6, Tryz.ntmps6
      go_wp2
      go_ret
      exact boolPost_mk HR.out (by rw [HW0.out]; exact HB0.out)
  · have q1 : ¬ (100 : Int) < (h.length : Int) := by omega
    have q2 : ¬ (100 : Int) < (t.length : Int) := by omega
    have q3 : ¬ (20 : Int) < (n : Int) := by omega
    have h3 : n ≤ 20 := by omega
    go_enter Tryz.func6, Tryz.ntmps6
    go_wp2
    rw [HW0.out]
    obtain ⟨b0, b1, b2⟩ := obj3 HBX.out
    go_loop [3] (fun v => ∃ k : Nat, k ≤ n ∧ v = .int .i64 (k : Nat) ∧ ∀ j (hj : j < ms.length), j < k → ms[j].length ≤ 100) (fun v => n - (intOf v).toNat)
    case atStart => exact ⟨0, by omega, rfl, fun j _ h => by omega⟩
    case round =>
      obtain ⟨k, hk, rfl, hall⟩ := hrel
      by_cases hlt : k < n
      · have hkl : (k : Int) < (n : Int) := by omega
        have hkm : k < ms.length := by rw [HN.out]; exact hlt
        obtain ⟨g, o, rfl, hg, e1⟩ := HM.out k hkm
        by_cases hl : 100 < ms[k].length
        · have HR := Lib.hid (HMd.out k hkm hl)
          obtain ⟨m, hmm⟩ : ∃ m, ms[k] = m := ⟨_, rfl⟩
          rw [hmm] at e1 hl
          have z : (100 : Int) < (m.length : Int) := by omega
          clear hall hmm hl
          go_wp2
          go_ret
          exact boolPost_mk HR.out HB0.out
        · have HA := Lib.hid (show ∀ j (hj : j < ms.length), j < k + 1 → ms[j].length ≤ 100 from fun j hj h => by
            by_cases hjk : j = k
            · subst hjk; omega
            · exact hall j hj (by omega))
          obtain ⟨m, hmm⟩ : ∃ m, ms[k] = m := ⟨_, rfl⟩
          rw [hmm] at e1 hl
          have z : ¬ (100 : Int) < (m.length : Int) := by omega
          clear hall hmm hl
          go_wp2
          exact ⟨⟨k + 1, by omega, by go_num, HA.out⟩, by simp [intOf]; omega⟩
      · obtain rfl : k = n := by omega
        have HR := Lib.hid (HAl.out (by omega) (by omega) (by rw [HN.out]; exact h3) (fun j hj => hall j hj (by rw [← HN.out]; exact hj)))
        clear hall
        go_wp2
        go_ret
        exact boolPost_mk HR.out HB0.out
end Go.Proofs.YtlopmppiihhnnaaGreatDoor
namespace Go.Proofs.YtlopmppiihhnnaaGreatDoor
set_option linter.unusedSimpArgs false
set_option linter.unusedVariables false
open Go Go.RowKit Go.Proofs.BerK Go.Proofs.MemK Go.Proofs.UtfK

/-- All parts one behind the other. -/
def allP (h : List UInt8) (ms : List (List UInt8)) (t : List UInt8) : List (List UInt8) := h :: (ms ++ [t])
theorem allP_len (h : List UInt8) (ms : List (List UInt8)) (t : List UInt8) : (allP h ms t).length = ms.length + 2 := by simp [allP]
def PartsPost (ok : Bool) (L : List (List UInt8)) (e : TypeId) (w : World) (en : Ending) (w' : World) : Prop :=
  (ok = false ∧ en = .returned (.tuple #[.slice none 0 0, .bool false]) ∧ Below w.heap.size w w') ∨
  (ok = true ∧ ∃ v, en = .returned (.tuple #[v, .bool true]) ∧ w'.ownsRow w.heap.size e 1 v L.length (sc L) ∧ Below w.heap.size w w')
/-- The first i of them as small letters. -/
def lwT (L : List (List UInt8)) (i : Nat) : List (List UInt8) := (L.take i).map lowL ++ L.drop i
theorem lwT_0 (L : List (List UInt8)) : lwT L 0 = L := by simp [lwT]
theorem lwT_len (L : List (List UInt8)) (i : Nat) : (lwT L i).length = L.length := by simp [lwT]; omega
theorem lwT_end (L : List (List UInt8)) : lwT L L.length = L.map lowL := by simp [lwT]
theorem lwT_at (L : List (List UInt8)) (i : Nat) (h : i < L.length) : (sc (lwT L i))[i]? = some (.string ⟨L[i].toArray⟩) := by
  unfold sc lwT
  rw [List.getElem?_map, List.getElem?_append_right (by simp; omega)]
  simp [show min i L.length = i by omega, h]
theorem lwT_set (L : List (List UInt8)) (i : Nat) (h : i < L.length) : (sc (lwT L i)).set i (.string ⟨(lowL L[i]).toArray⟩) = sc (lwT L (i + 1)) := by
  have e : i - ((L.take i).map lowL).length = 0 := by simp; omega
  have hv : Value.string ⟨(lowL L[i]).toArray⟩ = (fun x : List UInt8 => Value.string ⟨x.toArray⟩) (lowL L[i]) := rfl
  unfold sc
  rw [hv, ← List.map_set]
  congr 1
  unfold lwT
  rw [List.set_append_right _ _ (by simp; omega), List.take_succ_eq_append_getElem h, List.map_append, e, drop_at L i h, List.set_cons_zero, List.append_assoc]
  rfl
theorem map_lwR {r : Int} (h : r ≠ 1) (L : List (List UInt8)) : L.map (lwR r) = L := by
  have : lwR r = id := by funext x; simp [lwR, h]
  rw [this]; simp
theorem map_lw1 (L : List (List UInt8)) : L.map (lwR 1) = L.map lowL := by
  have : lwR 1 = lowL := by funext x; simp [lwR]
  rw [this]
theorem asked_bad {h : List UInt8} {ms : List (List UInt8)} {t : List UInt8} (k : Nat) (hk : k < ms.length) (hm : ms[k] = []) : asked h ms t = false := by
  have : ms.all (fun m => !m.isEmpty) = false := by
    rw [List.all_eq_false]
    exact ⟨ms[k], List.getElem_mem hk, by rw [hm]; simp⟩
  unfold asked
  rw [this, Bool.and_false]
theorem asked_many {h : List UInt8} {ms : List (List UInt8)} {t : List UInt8} (hk : 16 < ms.length) : asked h ms t = false := by
  have : decide (ms.length ≤ 16) = false := by simp; omega
  unfold asked
  rw [this, Bool.and_false, Bool.false_and]
theorem asked_good {h : List UInt8} {ms : List (List UInt8)} {t : List UInt8} (h0 : ¬ (h = [] ∧ ms = [] ∧ t = [])) (hk : ms.length ≤ 16) (ha : ∀ j (hj : j < ms.length), ms[j] ≠ []) : asked h ms t = true := by
  rw [asked_some h0, Bool.and_eq_true]
  refine ⟨by simpa using hk, ?_⟩
  rw [Bool.not_eq_true', List.any_eq_false]
  intro m hm
  obtain ⟨j, hj, rfl⟩ := List.getElem_of_mem hm
  have := ha j hj
  simpa using this
set_option maxHeartbeats 6400000 in
set_option maxRecDepth 100000 in
theorem rparts8_any (r : Int) (h t : List UInt8) (ms : List (List UInt8)) (a : Option Addr) (c : Nat) (w : World) (hm : TxR w (.slice a ms.length c) ms) (hbd : ∀ x ∈ allP h ms t, x.length ≤ 140737488355328) :
    Calls Tryz.prog 32 #[.int .i64 r, .agg #[.string ⟨h.toArray⟩, .slice a ms.length c, .string ⟨t.toArray⟩]] w (PartsPost (asked h ms t) ((allP h ms t).map (lwR r)) 9 w) := by
  obtain ⟨L, hL⟩ : ∃ L, allP h ms t = L := ⟨_, rfl⟩
  rw [hL] at hbd ⊢
  have HSn := Lib.hid (show sc L = sc (h :: ms) ++ [.string ⟨t.toArray⟩] by rw [← hL]; simp [sc, allP])
  have HAl := Lib.hid (show L.length = ms.length + 2 by rw [← hL, allP_len])
  have HBd := Lib.hid hbd
  clear hbd hL
  have HB0 := Lib.hid ((Below.refl _ w).alloc (Nat.le_refl _) (.cells #[.string ⟨h.toArray⟩, .slice a ms.length c, .string ⟨t.toArray⟩] 25))
  by_cases h0 : h = [] ∧ ms = [] ∧ t = []
  · obtain ⟨rfl, rfl, rfl⟩ := h0
    clear hm
    go_enter Tryz.func32, Tryz.ntmps32
    go_wp2
    go_ret2
    exact .inl ⟨rfl, rfl, HB0.out⟩
  have hw : h.isEmpty = false ∨ (h.isEmpty = true ∧ ((ms.length : Int) == 0) = false) ∨ (h.isEmpty = true ∧ ((ms.length : Int) == 0) = true ∧ t.isEmpty = false) := by
    by_cases h1 : h = []
    · by_cases h2 : ms = []
      · refine .inr (.inr ⟨by simp [h1], by simp [h2], ru_ne fun h3 => h0 ⟨h1, h2, h3⟩⟩)
      · refine .inr (.inl ⟨by simp [h1], ?_⟩)
        rw [beq_eq_false_iff_ne]
        intro e
        exact h2 (List.eq_nil_of_length_eq_zero (by omega))
    · exact .inl (ru_ne h1)
  have HG := Lib.hid (fun hk => asked_good (h := h) (ms := ms) (t := t) h0 hk)
  have HBad := Lib.hid (asked_bad (h := h) (ms := ms) (t := t))
  have HMany := Lib.hid (asked_many (h := h) (ms := ms) (t := t))
  have HBX := Lib.hid (heap_alloc_new w (.cells #[.string ⟨h.toArray⟩, .slice a ms.length c, .string ⟨t.toArray⟩] 25))
  have hm1 := txR_below hm HB0.out
  obtain ⟨a', c', hv, hcells⟩ := hm1
  injection hv with hv1 _ hv3
  subst hv1 hv3
  have HM := Lib.hid hcells
  obtain ⟨A, hA⟩ : ∃ A, asked h ms t = A := ⟨_, rfl⟩
  rw [hA] at HG HBad HMany ⊢
  obtain ⟨n, hn⟩ : ∃ n, ms.length = n := ⟨_, rfl⟩
  have HN := Lib.hid hn
  obtain ⟨W0, hW0⟩ : ∃ W0, w.alloc (.cells #[.string ⟨h.toArray⟩, .slice a ms.length c, .string ⟨t.toArray⟩] 25) = W0 := ⟨_, rfl⟩
  have HWS : W0.heap.size = w.heap.size + 1 := by rw [← hW0]; simp
  have HW0 := Lib.hid hW0
  rw [hW0] at HB0 HBX HM
  rw [hn] at HBX HMany HW0 hw ⊢
  clear hm hcells hA hn hW0 h0
  by_cases h16 : 16 < n
  · have HR := Lib.hid (HMany.out h16)
    have q4 : (16 : Int) < (n : Int) := by omega
    rcases hw with q1 | ⟨q1, q2⟩ | ⟨q1, q2, q3⟩
    all_goals
      go_enter Tryz.func32, Tryz.ntmps32
      go_wp2
      go_ret2
      exact .inl ⟨HR.out, rfl, by rw [HW0.out]; exact HB0.out⟩
  have q4 : ¬ (16 : Int) < (n : Int) := by omega
  have h16' : n ≤ 16 := by omega
  rcases hw with q1 | ⟨q1, q2⟩ | ⟨q1, q2, q3⟩
  all_goals
    go_enter Tryz.func32, Tryz.ntmps32
    go_wp2
    rw [HW0.out]
    try clear q1
    try clear q2
    try clear q3
    go_loopw [6, 7] (fun o v wr => ∃ i : Nat, i ≤ n ∧ v = .int .i64 (i : Nat) ∧ wr.ownsRow (w.heap.size + 1) 9 1 o (i + 1) (sc (h :: ms.take i)) ∧ Below (w.heap.size + 1) W0 wr ∧ ∀ j (hj : j < ms.length), j < i → ms[j] ≠ []) (fun _ v _ => n - (intOf v).toNat)
    case atStart =>
      refine ⟨0, by omega, rfl, ?_, (Below.refl (w.heap.size + 1) W0).alloc (by omega) _, fun j _ h => by omega⟩
      have ho := World.ownsRow_lit (base := w.heap.size + 1) (e := 9) (size := 1) W0 #[.string ⟨h.toArray⟩] 1 (by omega) (by decide) rfl
      rw [HWS] at ho
      exact ho
    case round =>
      obtain ⟨i, hi, rfl, hown, hb, hne⟩ := hrel
      have hsr : w.heap.size + 1 ≤ wr.heap.size := by have := hb.size; omega
      have x0 := obj_below HBX.out hb (by omega)
      obtain ⟨b0, b1, b2⟩ := obj3 x0
      by_cases hlt : i < n
      · have hil : (i : Int) < (n : Int) := by omega
        have him : i < ms.length := by rw [HN.out]; exact hlt
        obtain ⟨g, o, rfl, hg, e1w⟩ := HM.out i him
        have e1 := (hb.cell (p := ⟨g, o + i, none⟩) (by show g < _; omega)).trans e1w
        by_cases hmi : ms[i] = []
        · have HR := Lib.hid (HBad.out i him hmi)
          rw [hmi] at e1
          have H := Lib.hid (HB0.out.trans (hb.mono (by omega)))
          clear hown hb hne hmi x0 e1w
          go_wp2
          go_ret2
          exact .inl ⟨HR.out, rfl, H.out⟩
        · have HNe := Lib.hid (show ∀ j (hj : j < ms.length), j < i + 1 → ms[j] ≠ [] from fun j hj h => by
            by_cases hji : j = i
            · subst hji; exact hmi
            · exact hne j hj (by omega))
          have HSn := Lib.hid (show sc (h :: ms.take (i + 1)) = sc (h :: ms.take i) ++ [.string ⟨ms[i].toArray⟩] by
            rw [List.take_succ_eq_append_getElem him, ← List.cons_append]
            unfold sc
            rw [List.map_append]; rfl)
          have hem := ru_ne hmi
          obtain ⟨m, hmm⟩ : ∃ m, ms[i] = m := ⟨_, rfl⟩
          rw [hmm] at e1 hem HSn
          have H := Lib.hid (And.intro hown hb)
          obtain ⟨oa, oc, rfl⟩ := ownsRow_slice hown
          clear hown hb hne hmi x0 e1w hmm
          go_wp2_with (at_builtin; refine wpList_pushm rfl (.tmp 45) (.tmp 51) 23 9 rfl (w.heap.size + 1) 1 16 (.string ByteArray.empty) Tryz.dninfo9 Tryz.underlying23 rfl (by decide) 1 [.string ⟨m.toArray⟩] rfl ?c0 _ (i + 1) _ rfl _ rfl ?c3 H.out.1 ?c1 ?c2 (by omega) ?_)
          case c0 => first | rfl | (intro u hu; simp at hu; subst hu; rfl)
          case c1 => unfold maxLen; omega
          case c2 => omega
          case c3 => first | rfl | simp
          intro v' w' g1 g2
          have g3 : w'.ownsRow (w.heap.size + 1) 9 1 v' (i + 1 + 1) (sc (h :: ms.take (i + 1))) := by rw [HSn.out]; exact g1
          have H4 := Lib.hid (And.intro g3 (H.out.2.trans g2))
          clear g1 g2 g3
          go_wp2
          exact ⟨⟨i + 1, by omega, by go_num, H4.out.1, H4.out.2, HNe.out⟩, by simp [intOf]; omega⟩
      · obtain rfl : i = n := by omega
        have HR := Lib.hid (HG.out (by rw [HN.out]; exact h16') (fun j hj => hne j hj (by rw [← HN.out]; exact hj)))
        rw [List.take_of_length_le (by rw [HN.out]; exact Nat.le_refl _)] at hown
        have H := Lib.hid (And.intro hown hb)
        obtain ⟨oa, oc, rfl⟩ := ownsRow_slice hown
        clear hown hb hne x0
        go_wp2_with (at_builtin; refine wpList_pushm rfl (.tmp 53) (.tmp 56) 23 9 rfl (w.heap.size + 1) 1 16 (.string ByteArray.empty) Tryz.dninfo9 Tryz.underlying23 rfl (by decide) 1 [.string ⟨t.toArray⟩] rfl ?c0 _ (i + 1) _ rfl _ rfl ?c3 H.out.1 ?c1 ?c2 (by omega) ?_)
        case c0 => first | rfl | (intro u hu; simp at hu; subst hu; rfl)
        case c1 => unfold maxLen; omega
        case c2 => omega
        case c3 => first | rfl | simp
        intro v' w' g1 g2
        have g3 : w'.ownsRow (w.heap.size + 1) 9 1 v' (i + 2) (sc L) := by rw [HSn.out]; exact g1
        have hb4 := H.out.2.trans g2
        have hLl := HAl.out
        rw [HN.out] at hLl
        obtain ⟨N, hNN⟩ : ∃ N, i + 2 = N := ⟨_, rfl⟩
        rw [hNN] at g3 hLl
        have hN18 : N ≤ 18 := by omega
        have hN0 : 0 < N := by omega
        clear g1 g2 HSn HAl hNN
        rcases g3.2 with ⟨_, hz⟩ | ⟨g7, cap, cur, rfl, _⟩
        · omega
        by_cases hr : r = 1
        · subst hr
          have HE := Lib.hid (show L.map (lwR 1) = lwT L N by rw [map_lw1, ← hLl, lwT_end])
          have hstart := g3
          rw [← lwT_0 L] at hstart
          have H5 := Lib.hid (And.intro hstart hb4)
          clear g3 hb4 hstart
          go_wp2
          go_loopw [8] (fun v wr => ∃ i : Nat, i ≤ N ∧ v = .int .i64 (i : Nat) ∧ wr.ownsRow (w.heap.size + 1) 9 1 (.slice (some ⟨g7, 0, none⟩) N cap) N (sc (lwT L i)) ∧ Below (w.heap.size + 1) W0 wr) (fun v _ => N - (intOf v).toNat)
          case atStart => exact ⟨0, by omega, rfl, H5.out.1, H5.out.2⟩
          case round =>
            obtain ⟨j, hj, rfl, hown, hb⟩ := hrel
            by_cases hlt2 : j < N
            · have hjl : (j : Int) < (N : Int) := by omega
              have hjL : j < L.length := by rw [hLl]; exact hlt2
              have hat := lwT_at L j hjL
              have hset := lwT_set L j hjL
              have hbd := HBd.out _ (List.getElem_mem hjL)
              obtain ⟨x, hx⟩ : ∃ x, L[j] = x := ⟨_, rfl⟩
              rw [hx] at hat hset hbd
              have c0 := (hown.cellAt j (by omega)).trans hat
              have HLo := Lib.hid (fun w => show Calls Tryz.prog 44 #[.string ⟨x.toArray⟩] w (StrPost (lowL x) w) from rlow5_any ⟨x.toArray⟩ hbd w)
              obtain ⟨LX, hLX⟩ : ∃ y, lowL x = y := ⟨_, rfl⟩
              rw [hLX] at HLo hset
              have H := Lib.hid (And.intro hown (And.intro hb (And.intro hset hat)))
              clear hown hb hset hat hx hLX hbd
              go_wp2_with fail
              refine (HLo.out _).mono ?_
              rintro e w5 ⟨rfl, hb5⟩
              have hown5 := ownsRow_below H.out.1 hb5
              have c1 := (hown5.cellAt j (by omega)).trans H.out.2.2.2
              have f0 := hown5.frozenAt j
              have H6 := Lib.hid (And.intro hown5 (H.out.2.1.trans (hb5.mono (by have := H.out.2.1.size; omega))))
              have hgB := (H.out.1.lt g7 rfl).1
              clear hown5 hb5 c0
              go_wp2
              refine ⟨⟨j + 1, by omega, by go_num, ?_, ?_⟩, by simp [intOf]; omega⟩
              · have h7 := (H6.out.1.stored j (.string ⟨LX.toArray⟩)).1
                rw [H.out.2.2.1] at h7
                exact h7
              · exact H6.out.2.setCell (p := ⟨g7, j, none⟩) hgB _
            · obtain rfl : j = N := by omega
              have H6 := Lib.hid (And.intro hown hb)
              clear hown hb
              go_wp2
              go_ret2
              refine .inr ⟨HR.out, .slice (some ⟨g7, 0, none⟩) j cap, rfl, ?_, HB0.out.trans (H6.out.2.mono (by omega))⟩
              rw [HE.out, lwT_len, hLl]
              exact ownsRow_base H6.out.1 (by omega)
        · have g1 : (r == 1) = false := by simpa using hr
          have HE := Lib.hid (show L.map (lwR r) = L by exact map_lwR hr L)
          have H5 := Lib.hid (And.intro g3 hb4)
          clear g3 hb4 hr
          go_wp2
          go_loopw [8] (fun v wr => v = .int .i64 0 ∧ wr = w') (fun _ _ => 0)
          case atStart => exact ⟨rfl, rfl⟩
          case round =>
            obtain ⟨rfl, rfl⟩ := hrel
            have hjl : (0 : Int) < (N : Int) := by omega
            go_wp2
            go_ret2
            refine .inr ⟨HR.out, .slice (some ⟨g7, 0, none⟩) N cap, rfl, ?_, HB0.out.trans (H5.out.2.mono (by omega))⟩
            rw [HE.out, hLl]
            exact ownsRow_base H5.out.1 (by omega)
end Go.Proofs.YtlopmppiihhnnaaGreatDoor
namespace Go.Proofs.YtlopmppiihhnnaaGreatDoor
set_option linter.unusedSimpArgs false
set_option linter.unusedVariables false
open Go Go.RowKit Go.Proofs.BerK Go.Proofs.MemK Go.Proofs.UtfK

theorem lwR_len (r : Int) (x : List UInt8) : (lwR r x).length = x.length := by
  unfold lwR
  split
  · exact lowL_length x
  · rfl
theorem sub_go {r : Int} {x h : List UInt8} {ms : List (List UInt8)} {t : List UInt8} (ha : asked h ms t = true) (hr : r = 1 ∨ r = 2) : subP r (x, true) h ms t = tv (hasL x (lwR r h) (ms.map (lwR r)) (lwR r t)) := by
  unfold subP
  rw [if_pos ⟨rfl, ha, hr⟩]
theorem edge_not {x h t : List UInt8} (hn : x.length < h.length + t.length ∨ x.take h.length ≠ h ∨ x.drop (x.length - t.length) ≠ t) : edgeL x h t = false := by
  cases hq : edgeL x h t
  · rfl
  · rw [edge_iff] at hq
    rcases hn with hn | hn | hn
    · omega
    · exact absurd hq.2.1 hn
    · exact absurd hq.2.2 hn
theorem cut_no {y m : List UInt8} (h : Lib.index y m < 0) : Lib.cut y m = (y, [], false) := by unfold Lib.cut; rw [if_neg (by omega)]
theorem cut_yes {y m : List UInt8} {p : Nat} (h : Lib.index y m = (p : Nat)) : Lib.cut y m = (y.take p, y.drop (p + m.length), true) ∧ p + m.length ≤ y.length := by
  refine ⟨?_, ?_⟩
  · unfold Lib.cut; rw [if_pos (by omega), h]; rfl
  · have := Lib.index_room y m (by omega); omega
set_option maxHeartbeats 6400000 in
set_option maxRecDepth 100000 in
theorem rrsubs_any (r : Int) (s h t : List UInt8) (ms : List (List UInt8)) (a : Option Addr) (c : Nat) (w : World) (hm : TxR w (.slice a ms.length c) ms) (hbd : ∀ x ∈ allP h ms t, x.length ≤ 100) :
    Calls Tryz.prog 15 #[.int .i64 r, .string ⟨s.toArray⟩, .agg #[.string ⟨h.toArray⟩, .slice a ms.length c, .string ⟨t.toArray⟩]] w (IPost (subP r (ruN r s) h ms t) w) := by
  have HN := Lib.hid (fun w => rrnorm_any r s w)
  have HP := Lib.hid (fun w' (hb : Below w.heap.size w w') => rparts8_any r h t ms a c w' (txR_below hm hb) (fun x hx => by have := hbd x hx; omega))
  have hxl := ru_len r s
  obtain ⟨p, hp⟩ : ∃ p, ruN r s = p := ⟨_, rfl⟩
  rw [hp] at HN hxl ⊢
  obtain ⟨x, ok⟩ := p
  have HB0 := Lib.hid ((Below.refl _ w).alloc (Nat.le_refl _) (.cells #[.string ⟨h.toArray⟩, .slice a ms.length c, .string ⟨t.toArray⟩] 25))
  obtain ⟨A, hA⟩ : ∃ A, asked h ms t = A := ⟨_, rfl⟩
  rw [hA] at HP
  have HU := Lib.hid (sub_undef (r := r) (p := (x, ok)) (h := h) (ms := ms) (t := t))
  have HG := Lib.hid (fun e hr => sub_go (r := r) (x := x) (h := h) (ms := ms) (t := t) (hA.trans e) hr)
  have HQA := Lib.hid hA
  have hL16 : A = true → ms.length ≤ 16 := fun e => asked_len (hA.trans e)
  have hM : (allP h ms t).map (lwR r) = lwR r h :: (ms.map (lwR r) ++ [lwR r t]) := by simp [allP]
  have hH : (lwR r h).length ≤ 100 := by rw [lwR_len]; exact hbd h (by simp [allP])
  have hT : (lwR r t).length ≤ 100 := by rw [lwR_len]; exact hbd t (by simp [allP])
  have hMS : ∀ m ∈ ms.map (lwR r), m.length ≤ 100 := by
    intro m hm
    obtain ⟨q, hq, rfl⟩ := List.mem_map.1 hm
    rw [lwR_len]; exact hbd q (by simp [allP, hq])
  have hMSl : (ms.map (lwR r)).length = ms.length := by simp
  obtain ⟨M, hMM⟩ : ∃ M, (allP h ms t).map (lwR r) = M := ⟨_, rfl⟩
  obtain ⟨H1, hH1⟩ : ∃ y, lwR r h = y := ⟨_, rfl⟩
  obtain ⟨T1, hT1⟩ : ∃ y, lwR r t = y := ⟨_, rfl⟩
  obtain ⟨M1, hM1⟩ : ∃ y, ms.map (lwR r) = y := ⟨_, rfl⟩
  rw [hMM] at HP hM
  rw [hH1, hT1, hM1] at hM
  rw [hH1] at hH
  rw [hT1] at hT
  rw [hM1] at hMS hMSl
  rw [hH1, hT1, hM1] at HG
  obtain ⟨n, hn⟩ : ∃ n, ms.length = n := ⟨_, rfl⟩
  rw [hn] at HP HB0 hL16 hMSl ⊢
  have hMl : M.length = n + 2 := by rw [hM]; simp; omega
  clear hp hm hbd hA hMM hH1 hT1 hM1 hn
  by_cases hund : A = false ∨ ok = false ∨ (r ≠ 1 ∧ r ≠ 2)
  · have HR := Lib.hid (HU.out (by
      rcases hund with e | e | e
      · exact .inr (.inl (HQA.out.trans e))
      · exact .inl e
      · exact .inr (.inr e)))
    clear hM hH hT hMS hMSl hMl hxl hL16
    cases A
    · go_enter Tryz.func15, Tryz.ntmps15
      go_wp2_with fail
      refine (HN.out _).mono ?_
      rintro e w1 ⟨rfl, hb1⟩
      have B1 := Lib.hid (box3 hb1)
      clear hb1
      obtain ⟨b0, b1, b2⟩ := obj3 B1.out.1
      go_wp2_with fail
      refine Calls.mono (HP.out _ B1.out.2) ?_
      rintro e w2 (⟨_, rfl, hb2⟩ | ⟨hAt, _⟩)
      · have B2 := Lib.hid (B1.out.2.trans (hb2.mono B1.out.2.size))
        clear hb2 b0 b1 b2
        cases ok
        all_goals
          go_wp2
          go_ret
          exact iPost_mk HR.out B2.out
      · cases hAt
    · have hw : ok = false ∨ (ok = true ∧ (r != 1) = true ∧ (r != 2) = true) := by
        rcases hund with e | e | ⟨e1, e2⟩
        · cases e
        · exact .inl e
        · cases ok
          · exact .inl rfl
          · exact .inr ⟨rfl, by simpa using e1, by simpa using e2⟩
      clear hund
      go_enter Tryz.func15, Tryz.ntmps15
      go_wp2_with fail
      refine (HN.out _).mono ?_
      rintro e w1 ⟨rfl, hb1⟩
      have B1 := Lib.hid (box3 hb1)
      clear hb1
      obtain ⟨b0, b1, b2⟩ := obj3 B1.out.1
      go_wp2_with fail
      refine Calls.mono (HP.out _ B1.out.2) ?_
      rintro e w2 (⟨hAt, _⟩ | ⟨_, v, rfl, hown, hb2⟩)
      · cases hAt
      · have B2 := Lib.hid (B1.out.2.trans (hb2.mono B1.out.2.size))
        obtain ⟨oa, oc, rfl⟩ := ownsRow_slice hown
        clear hb2 b0 b1 b2 hown
        rcases hw with rfl | ⟨rfl, g1, g2⟩
        all_goals
          go_wp2
          go_ret
          exact iPost_mk HR.out B2.out
  · have hAt : A = true := by
      cases A
      · exact absurd (.inl rfl) hund
      · rfl
    have hok : ok = true := by
      cases ok
      · exact absurd (.inr (.inl rfl)) hund
      · rfl
    have hr : r = 1 ∨ r = 2 := by
      by_cases h1 : r = 1
      · exact .inl h1
      · by_cases h2 : r = 2
        · exact .inr h2
        · exact absurd (.inr (.inr ⟨h1, h2⟩)) hund
    subst hAt hok
    have hL16 := hL16 rfl
    have hR := HG.out rfl hr
    obtain ⟨R, hRR⟩ : ∃ R, subP r (x, true) h ms t = R := ⟨_, rfl⟩
    rw [hRR] at hR ⊢
    have HR := Lib.hid hR
    have HM := Lib.hid hM
    have HMS := Lib.hid hMS
    have HMSl := Lib.hid hMSl
    clear hund hRR hR HU HG HQA hMS hM
    obtain ⟨N, hN⟩ : ∃ N, M.length = N := ⟨_, rfl⟩
    obtain ⟨z, hz⟩ : ∃ z, n + 1 = z := ⟨_, rfl⟩
    have HNz := Lib.hid (show N = n + 2 ∧ z = n + 1 by omega)
    have HMN := Lib.hid hN
    have hN18 : N ≤ 18 := by omega
    have hzN : z < N := by omega
    have hzi : (N : Int) - 1 = (z : Int) := by omega
    have hzw : IntKind.i64.wrap ((N : Int) - 1) = (z : Int) := by rw [IntKind.wrap_i64]; omega
    have i1 : (0 : Int) < (N : Int) := by omega
    have i2 : (z : Int) < (N : Int) := by omega
    have i3 : (0 : Int) ≤ (z : Int) := by omega
    have x4 : x.length ≤ 4096 := hxl
    clear hL16 hMSl hMl hN hz hxl
    rcases hr with rfl | rfl
    all_goals
      go_enter Tryz.func15, Tryz.ntmps15
      go_wp2_with fail
      refine (HN.out _).mono ?_
      rintro e w1 ⟨rfl, hb1⟩
      have B1 := Lib.hid (box3 hb1)
      clear hb1
      obtain ⟨b0, b1, b2⟩ := obj3 B1.out.1
      go_wp2_with fail
      refine Calls.mono (HP.out _ B1.out.2) ?_
      rintro e w2 (⟨hAt, _⟩ | ⟨_, v, rfl, hown, hb2⟩)
      · cases hAt
      have B2 := Lib.hid (B1.out.2.trans (hb2.mono B1.out.2.size))
      rw [HMN.out] at hown
      rcases hown.2 with ⟨_, hz⟩ | ⟨g, cap, cur, rfl, hB, _⟩
      · omega
      have hgl : g < w2.heap.size := (hown.lt g rfl).2
      have c0 := (hown.cellAt 0 (by omega)).trans (show (sc M)[0]? = some (.string ⟨H1.toArray⟩) by rw [HM.out]; rfl)
      have cz := (hown.cellAt z (by omega)).trans (show (sc M)[z]? = some (.string ⟨T1.toArray⟩) by
        have h1 := HMSl.out
        have h2 := HNz.out.2
        rw [HM.out, h2, ← h1]; simp [sc])
      have HO := Lib.hid hown
      clear hb2 b0 b1 b2 hown
      go_wp2_with fail
      go_quiet (fail)
      have B3 := Lib.hid (B2.out.trans (below_dn (Below.refl _ _) nq |>.mono B2.out.size))
      have HO3 := Lib.hid (ownsRow_heap (w' := w2.drewN nq) HO.out rfl)
      obtain ⟨W3, hW3⟩ : ∃ W3, w2.drewN nq = W3 := ⟨_, rfl⟩
      rw [hW3] at B3 HO3
      rw [hW3]
      clear c0 cz hW3 hgl
      by_cases hs : x.length < H1.length + T1.length
      · have q1 : (x.length : Int) < (H1.length : Int) + (T1.length : Int) := by omega
        have HF := Lib.hid (show R = 0 by rw [HR.out, has_false (edge_not (.inl hs))]; rfl)
        clear hs
        go_wp2
        go_ret
        exact iPost_mk HF.out B3.out
      have q1 : ¬ (x.length : Int) < (H1.length : Int) + (T1.length : Int) := by omega
      have q2 : (H1.length : Int) ≤ (x.length : Int) := by omega
      have q3 : (0 : Int) ≤ (H1.length : Int) := by omega
      have hs1 := ext_lr x 0 H1.length
      rw [List.drop_zero, Nat.sub_zero] at hs1
      have HE1 := Lib.hid (fun e => edge_not (x := x) (h := H1) (t := T1) (.inr (.inl e)))
      have HE2 := Lib.hid (fun e => edge_not (x := x) (h := H1) (t := T1) (.inr (.inr e)))
      have HEt := Lib.hid (fun e1 e2 => (edge_iff x H1 T1).2 ⟨by omega, e1, e2⟩)
      obtain ⟨P1, hP1⟩ : ∃ P, x.take H1.length = P := ⟨_, rfl⟩
      rw [hP1] at hs1 HE1 HEt
      by_cases hp1 : P1 = H1
      case neg =>
        have HF := Lib.hid (show R = 0 by rw [HR.out, has_false (HE1.out hp1)]; rfl)
        have q4 : (P1 == H1) = false := by simpa using hp1
        clear hs hp1 hP1
        go_wp2
        go_ret
        exact iPost_mk HF.out B3.out
      have q4 : (P1 == H1) = true := by simpa using hp1
      obtain ⟨z2, hz2⟩ : ∃ z2, x.length - T1.length = z2 := ⟨_, rfl⟩
      have q5 : (x.length : Int) - (T1.length : Int) = (z2 : Int) := by omega
      have q6 : IntKind.i64.wrap ((x.length : Int) - (T1.length : Int)) = (z2 : Int) := by rw [IntKind.wrap_i64]; omega
      have q7 : (z2 : Int) ≤ (x.length : Int) := by omega
      have q8 : (0 : Int) ≤ (z2 : Int) := by omega
      have q9 : (H1.length : Int) ≤ (z2 : Int) := by omega
      have hs2 := ext_lr x z2 x.length
      rw [List.take_of_length_le (by rw [List.length_drop]; exact Nat.le_refl _)] at hs2
      rw [hz2] at HE2 HEt
      have HY := Lib.hid (show (x.drop H1.length).take (z2 - H1.length) = restL x H1 T1 by unfold restL; congr 1; omega)
      have hs3 := ext_lr x H1.length z2
      rw [HY.out] at hs3
      obtain ⟨P2, hP2⟩ : ∃ P, x.drop z2 = P := ⟨_, rfl⟩
      rw [hP2] at hs2 HE2 HEt
      by_cases hp2 : P2 = T1
      case neg =>
        have HF := Lib.hid (show R = 0 by rw [HR.out, has_false (HE2.out hp2)]; rfl)
        have q10 : (P2 == T1) = false := by simpa using hp2
        clear hs hp1 hP1 hp2 hP2 hz2
        go_wp2
        go_ret
        exact iPost_mk HF.out B3.out
      have q10 : (P2 == T1) = true := by simpa using hp2
      have hRm := HR.out
      rw [has_true (HEt.out hp1 hp2)] at hRm
      have hyl := rest_len x H1 T1
      obtain ⟨Y, hY⟩ : ∃ Y, restL x H1 T1 = Y := ⟨_, rfl⟩
      rw [hY] at hs3 hRm hyl
      have HRm := Lib.hid hRm
      have y4 : Y.length ≤ 4096 := by omega
      have HHC := Lib.hid (fun i (hi : i < M1.length) y => mid_cons (ms := M1) (i := i) hi y)
      have HHD := Lib.hid (mid_done M1)
      clear hs hp1 hP1 hp2 hP2 hz2 hRm hyl hY HR HE1 HE2 HEt HY
      go_wp2
      clear hs1 hs2 hs3 q1 q2 q3 q4 q5 q6 q7 q8 q9 q10
      go_loopw [7, 13] (fun v0 v wr => ∃ (i k : Nat) (y : List UInt8), i ≤ n ∧ k = i + 1 ∧ v = .int .i64 (k : Nat) ∧ v0 = .string ⟨y.toArray⟩ ∧ y.length ≤ 4096 ∧ R = tv (midL (M1.drop i) y) ∧ wr = W3) (fun _ v _ => N - (intOf v).toNat)
      case atStart => exact ⟨0, 1, Y, by omega, rfl, rfl, rfl, y4, HRm.out, rfl⟩
      case round =>
        obtain ⟨i, k, y, hi, hk, rfl, rfl, hy, hinv, rfl⟩ := hrel
        have hnz := HNz.out
        by_cases hlt : k < z
        · have hkl : (k : Int) < (z : Int) := by omega
          have hkN : (k : Int) < (N : Int) := by omega
          have him : i < M1.length := by rw [HMSl.out]; omega
          have hml := HMS.out _ (List.getElem_mem him)
          have ck := (HO3.out.cellAt k (by omega)).trans (show (sc M)[k]? = some (.string ⟨M1[i].toArray⟩) by
            rw [HM.out, hk]; simp [sc, List.getElem?_append_left, him])
          rw [HHC.out i him] at hinv
          obtain ⟨m, hmm⟩ : ∃ m, M1[i] = m := ⟨_, rfl⟩
          rw [hmm] at hinv ck hml
          have HFi := Lib.hid (fun w => rfind_any y m (by omega) (by omega) w)
          have HKN := Lib.hid (And.intro hk hnz)
          have hge := Lib.index_ge y m
          obtain ⟨I, hI⟩ : ∃ I, Lib.index y m = I := ⟨_, rfl⟩
          rw [hI] at HFi hge
          by_cases hneg : I < 0
          · have HF := Lib.hid (show R = 0 by rw [hinv, cut_no (by rw [hI]; exact hneg)]; rfl)
            clear hinv hI hmm hge hk hnz
            go_wp2_with fail
            refine (HFi.out _).mono ?_
            rintro e w5 ⟨rfl, hw⟩
            obtain rfl := hw.symm
            go_wp2
            go_ret
            exact iPost_mk HF.out B3.out
          · obtain ⟨p, rfl⟩ := Int.eq_ofNat_of_zero_le (show 0 ≤ I by omega)
            obtain ⟨hcut, hroom⟩ := cut_yes hI
            rw [hcut] at hinv
            have hs5 := ext_lr y (p + m.length) y.length
            rw [List.take_of_length_le (by rw [List.length_drop]; exact Nat.le_refl _)] at hs5
            have hyl : (y.drop (p + m.length)).length ≤ 4096 := by rw [List.length_drop]; omega
            obtain ⟨y2, hy2⟩ : ∃ y2, y.drop (p + m.length) = y2 := ⟨_, rfl⟩
            rw [hy2] at hs5 hinv hyl
            have HI := Lib.hid (show R = tv (midL (M1.drop (i + 1)) y2) by rw [hinv]; rfl)
            have q1 : (p : Int) + (m.length : Int) ≤ (y.length : Int) := by omega
            have q2 : (0 : Int) ≤ (p : Int) + (m.length : Int) := by omega
            have q3 : ¬ ((p : Int) < 0) := by omega
            have hin : i + 1 ≤ n := by omega
            clear hinv hI hmm hge hcut hy2 hneg hk hnz
            go_wp2_with fail
            refine (HFi.out _).mono ?_
            rintro e w5 ⟨rfl, hw⟩
            obtain rfl := hw.symm
            go_wp2
            exact ⟨⟨i + 1, k + 1, y2, hin, by have := HKN.out.1; omega, by go_num, (by first | rfl | rw [hs5]), hyl, HI.out, (by first | rfl | trivial)⟩, by simp [intOf]; omega⟩
        · have hkz : k = z := by omega
          have hin : i = n := by omega
          have HF := Lib.hid (show R = 1 by rw [hinv, hin, ← HMSl.out, HHD.out]; rfl)
          have hkl : ¬ (k : Int) < (z : Int) := by omega
          clear hinv hk hnz hkz hin
          go_wp2
          go_ret
          exact iPost_mk HF.out B3.out
end Go.Proofs.YtlopmppiihhnnaaGreatDoor
