/- The code's Escape, for every text. The document's Escape, for every text. Names in memory; whether a part has a type; whether a part, and a name, may be. -/
import Derived.Test.YtpkbgkoocijegaaGreatDoorDqA
import Derived.Test.YtpkbgkoocijegaaGreatDoorGenB
import Derived.Test.YtpkbgkoocijegaaGreatDoorFoldAE
import Derived.StillTailTactics
import Derived.BigQuiet
import Derived.Deep.RegionHeld3
set_option linter.unusedVariables false
set_option linter.unusedSimpArgs false
set_option maxHeartbeats 25600000
set_option maxRecDepth 100000
namespace Go.Proofs.YtpkbgkoocijegaaGreatDoor
open Go Go.RowKit Go.Proofs.BerK Go.Proofs.MemK Go.Proofs.UtfK
theorem esc_step (s : ByteArray) (k : Nat) (h : k < s.size) : egL (decide (k = 0)) (s.data.toList.drop k) = e1L (decide (k = 0)) (decide (k + 1 = s.size)) s[k] ++ egL (decide (k + 1 = 0)) (s.data.toList.drop (k + 1)) := by
 have hl := len_list s
 rw [drop_at s.data.toList k (by omega), egL]
 have e1 : (s.data.toList.drop (k + 1)).isEmpty = decide (k + 1 = s.size) := by
  rw [Bool.eq_iff_iff, List.isEmpty_iff, decide_eq_true_eq, <- List.length_eq_zero_iff, List.length_drop]; omega
 have e2 : decide (k + 1 = 0) = false := by simp
 rw [e1, e2]; rfl
theorem esc_end (s : ByteArray) (f : Bool) : egL f (s.data.toList.drop s.size) = [] := by
 rw [List.drop_of_length_le (by rw [len_list]; exact Nat.le_refl _)]; rfl
theorem e1_bare (f l : Bool) (c : UInt8) (h : bareN c.toNat = true) : e1L f l c = [92, hxD (c.toNat / 16), hxD (c.toNat % 16)] := by rw [e1L, if_pos h]
theorem e1_mark (f l : Bool) (c : UInt8) (h : bareN c.toNat = false) (h2 : mkN f l c.toNat = true) : e1L f l c = [92, c] := by rw [e1L, if_neg (by simp [h]), if_pos h2]
theorem e1_else (f l : Bool) (c : UInt8) (h : bareN c.toNat = false) (h2 : mkN f l c.toNat = false) : e1L f l c = [c] := by rw [e1L, if_neg (by simp [h]), if_neg (by simp [h2])]
def hexS : ByteArray := ⟨#[48, 49, 50, 51, 52, 53, 54, 55, 56, 57, 97, 98, 99, 100, 101, 102]⟩
theorem hexS_at : ∀ n : Fin 16, hexS[n.val]'(show n.val < 16 from n.isLt) = hxD n.val := by decide +kernel
theorem and_15 : ∀ c : Fin 256, bits BinOp.and IntKind.u8 ((c.val : Nat) : Int) 15 = ((c.val : Nat) : Int) % 16 := by decide +kernel
theorem hexS_i (n : Int) (h0 : 0 <= n) (h : n < 16) : hexS[n.toNat]'(show n.toNat < 16 by omega) = hxD n.toNat := hexS_at ⟨n.toNat, by omega⟩
theorem desc_any (s : ByteArray) (hm : s.size <= 35184372088832) (w : World) :
  Calls Tryz.prog 249 #[.string s] w (StrPost (esL s.data.toList) w) := by
 obtain ⟨i0, hi, hz0, hz1, hz2⟩ := info_parts Tryz.info5
 have HI := Hy (An hi (An hz0 (An hz1 hz2)))
 clear hi hz0 hz1 hz2
 go_enter Tryz.func249, Tryz.ntmps249
 go_wp2_with (at_make; refine wpList_make_own _ rfl _ _ 188 rfl w.heap.size 5 i0 (.int .u8 0) 1 Tryz.underlying188 HI.out.1 HI.out.2.1 HI.out.2.2.1 _ _ _ s.size rfl rfl ?e1 ?b0 ?b1 ?b2 ?_)
 case e1 => rfl
 case b0 => rw [HI.out.2.2.2]; omega
 case b1 => unfold maxLen; omega
 case b2 => omega
 intro w1 hown1 hg1
 have hb1 : Below w.heap.size w w1 := (Below.refl _ _).grown hg1 (Nat.le_refl _) (fun k hk => by cases hk)
 have H1 := Hy (An hown1 hb1)
 clear hown1 hb1 hg1
 go_wp2
 go_loopw [3, 11] (fun o v wr => ∃ (k : Nat) (X : List UInt8), k <= s.size /\ v = .int .i64 (k : Nat) /\ wr.ownsRow w.heap.size 5 1 o X.length (bc X) /\ Below w.heap.size w wr /\ X.length <= 3 * k /\
  X ++ egL (decide (k = 0)) (s.data.toList.drop k) = esL s.data.toList) (fun _ v _ => s.size - (intOf v).toNat)
 case atStart => exact ⟨0, [], by omega, rfl, H1.out.1, H1.out.2, by simp, rfl⟩
 case round =>
  obtain ⟨k, X, hk, rfl, hown, hb, hX, hinv⟩ := hrel
  by_cases hlt : k < s.size
  ·have hkl : (k : Int) < (s.size : Int) := by omega
   have h8 : s[k].toNat < 256 := s[k].toNat_lt
   have HB := Hy (dbare_any s[k].toNat)
   rw [esc_step s k hlt] at hinv
   cases hbr : bareN s[k].toNat with
   | true =>
    rw [hbr] at HB
    rw [e1_bare _ _ _ hbr, <- List.append_assoc] at hinv
    have H := Hy (An hown (An hb hinv))
    clear hbr hown hb hinv
    obtain ⟨x, hx⟩ : ∃ x, s[k] = x := ⟨_, rfl⟩
    rw [hx] at HB H h8
    go_wp2_with fail
    refine (HB.out _).mono ?_
    rintro e w2 ⟨rfl, hw⟩
    obtain rfl := hw.symm
    go_wp2
    have hq1 : ((x.toNat : Int) / 16) < 16 := by omega
    have hq2 : (0 : Int) <= (x.toNat : Int) / 16 := by omega
    have hq3 := and_15 ⟨x.toNat, h8⟩
    have hq4 : ((x.toNat : Int) % 16) < 16 := by omega
    have hq5 : (0 : Int) <= (x.toNat : Int) % 16 := by omega
    simp only [] at hq3
    go_region_law (refine step_pushm rfl (.tmp 24) (.tmp 31) 188 5 rfl w.heap.size 1 1 (.int .u8 0) Tryz.info5 Tryz.underlying188 rfl (by decide) wr.drew 3 [_, _, _] rfl rfl (by intro u hu; simp at hu; rcases hu with rfl | rfl | rfl <;> rfl) u3 X.length (bc X) rfl _ rfl rfl (ownsRow_heap H.out.1 rfl) (by unfold maxLen; omega) (by omega) H.out.2.1.size ?_; intro v' w' h1 h2)
    all_goals
     have HV := Hy (An h1 h2)
     clear h1 h2
     go_wp2
     have e1 := hexS_i ((x.toNat : Int) / 16) hq2 hq1
     have e2 := hexS_i ((x.toNat : Int) % 16) hq5 hq4
     refine ⟨⟨k + 1, X ++ [92, hxD (x.toNat / 16), hxD (x.toNat % 16)], by omega, by go_num, ?_, H.out.2.1.trans ((Below.refl _ wr).drew.trans HV.out.2), by simp; omega, H.out.2.2⟩, by simp [intOf]; omega⟩
     rw [bc_append, List.length_append]
     have e3 : ((x.toNat : Int) / 16).toNat = x.toNat / 16 := by omega
     have e4 : ((x.toNat : Int) % 16).toNat = x.toNat % 16 := by omega
     rw [<- (e1.trans (congrArg hxD e3)), <- (e2.trans (congrArg hxD e4))]
     exact HV.out.1
   | false =>
    rw [hbr] at HB
    have HM := Hy (dmark_any s k hlt (by omega))
    cases hmk : mkN (decide (k = 0)) (decide (k + 1 = s.size)) s[k].toNat with
    | true =>
     rw [hmk] at HM
     rw [e1_mark _ _ _ hbr hmk, <- List.append_assoc] at hinv
     have H := Hy (An hown (An hb hinv))
     clear hbr hmk hown hb hinv
     obtain ⟨x, hx⟩ : ∃ x, s[k] = x := ⟨_, rfl⟩
     rw [hx] at HB H h8
     go_wp2_with fail
     refine (HB.out _).mono ?_
     rintro e w2 ⟨rfl, hw⟩
     obtain rfl := hw.symm
     go_wp2_with fail
     refine (HM.out _).mono ?_
     rintro e w2 ⟨rfl, hw⟩
     obtain rfl := hw.symm
     go_wp2_with (at_builtin; refine wpList_pushm rfl (.tmp 37) (.tmp 39) 188 5 rfl w.heap.size 1 1 (.int .u8 0) Tryz.info5 Tryz.underlying188 rfl (by decide) 2 [.int .u8 92, .int .u8 (x.toNat : Nat)] rfl ?c0 _ X.length _ rfl _ rfl ?c3 H.out.1 ?c1 ?c2 H.out.2.1.size ?_)
     case c0 => intro u hu; simp at hu; rcases hu with rfl | rfl <;> rfl
     case c1 => unfold maxLen; omega
     case c2 => omega
     case c3 => rfl
     intro v' w' h1 h2
     go_wp2
     refine ⟨⟨k + 1, X ++ [92, x], by omega, by go_num, ?_, H.out.2.1.trans h2, by simp; omega, H.out.2.2⟩, by simp [intOf]; omega⟩
     rw [bc_append, List.length_append]; exact h1
    | false =>
     rw [hmk] at HM
     rw [e1_else _ _ _ hbr hmk, <- List.append_assoc] at hinv
     have H := Hy (An hown (An hb hinv))
     clear hbr hmk hown hb hinv
     obtain ⟨x, hx⟩ : ∃ x, s[k] = x := ⟨_, rfl⟩
     rw [hx] at HB H h8
     go_wp2_with fail
     refine (HB.out _).mono ?_
     rintro e w2 ⟨rfl, hw⟩
     obtain rfl := hw.symm
     go_wp2_with fail
     refine (HM.out _).mono ?_
     rintro e w2 ⟨rfl, hw⟩
     obtain rfl := hw.symm
     go_wp2_with (at_builtin; refine wpList_pushm rfl (.tmp 17) (.tmp 19) 188 5 rfl w.heap.size 1 1 (.int .u8 0) Tryz.info5 Tryz.underlying188 rfl (by decide) 1 [.int .u8 (x.toNat : Nat)] rfl ?c0 _ X.length _ rfl _ rfl ?c3 H.out.1 ?c1 ?c2 H.out.2.1.size ?_)
     case c0 => intro u hu; simp at hu; subst hu; rfl
     case c1 => unfold maxLen; omega
     case c2 => omega
     case c3 => rfl
     intro v' w' h1 h2
     go_wp2
     refine ⟨⟨k + 1, X ++ [x], by omega, by go_num, ?_, H.out.2.1.trans h2, by simp; omega, H.out.2.2⟩, by simp [intOf]; omega⟩
     rw [bc_append, List.length_append]; exact h1
  ·obtain rfl : k = s.size := by omega
   rw [esc_end, List.append_nil] at hinv
   subst hinv
   have hc := conv_own' (P := Tryz.prog) (src := 188) (dst := 9) Tryz.underlying188 Tryz.underlying5 Tryz.underlying9 hown
   have H := Hy hb
   clear hb hown
   go_wp2
   go_ret
   exact ⟨rfl, H.out⟩
theorem hexS_ex : ∀ n : Fin 16, hexS.extract n.val (n.val + 1) = ⟨#[hxD n.val]⟩ := by decide +kernel
theorem hexS_exI (n : Int) (h0 : 0 <= n) (h : n < 16) : hexS.extract n.toNat (n + 1).toNat = ⟨#[hxD n.toNat]⟩ := by
 have := hexS_ex ⟨n.toNat, by omega⟩
 rw [show (n + 1).toNat = n.toNat + 1 by omega]; exact this
theorem wr_q : ∀ c : Fin 256, IntKind.u8.wrap (((c.val : Nat) : Int) / 16) = ((c.val : Nat) : Int) / 16 := by decide +kernel
theorem wr_q1 : ∀ c : Fin 256, IntKind.u8.wrap (((c.val : Nat) : Int) / 16 + 1) = ((c.val : Nat) : Int) / 16 + 1 := by decide +kernel
theorem wr_r : ∀ c : Fin 256, IntKind.u8.wrap (((c.val : Nat) : Int) % 16) = ((c.val : Nat) : Int) % 16 := by decide +kernel
theorem wr_r1 : ∀ c : Fin 256, IntKind.u8.wrap (((c.val : Nat) : Int) % 16 + 1) = ((c.val : Nat) : Int) % 16 + 1 := by decide +kernel
theorem cat_l (a b : List UInt8) : (⟨a.toArray⟩ : ByteArray) ++ ⟨b.toArray⟩ = ⟨(a ++ b).toArray⟩ := ByteArray.mk_append_mk a b
theorem cat_2 (X : List UInt8) (a : UInt8) : (⟨X.toArray⟩ : ByteArray) ++ ⟨#[a]⟩ = ⟨(X ++ [a]).toArray⟩ := cat_l X [a]
theorem cat_3 (X : List UInt8) (a b : UInt8) : (⟨X.toArray⟩ : ByteArray) ++ ⟨#[a]⟩ ++ ⟨#[b]⟩ = ⟨(X ++ [a, b]).toArray⟩ := by
 rw [cat_2, cat_2, List.append_assoc]; rfl
theorem cat_4 (X : List UInt8) (a b c : UInt8) : (⟨X.toArray⟩ : ByteArray) ++ ⟨#[a]⟩ ++ ⟨#[b]⟩ ++ ⟨#[c]⟩ = ⟨(X ++ [a, b, c]).toArray⟩ := by
 rw [cat_3, cat_2, List.append_assoc]; rfl
theorem ext_one (s : ByteArray) (k : Nat) (h : k < s.size) : s.extract k (k + 1) = ⟨#[s[k]]⟩ := by
 have hl := len_list s
 have h1 : (s.extract k (k + 1)).data.toList = [s[k]] := by
  rw [Lib.extract_data, show k + 1 - k = 1 by omega, drop_at s.data.toList k (by omega)]; rfl
 rw [<- mk_list (s.extract k (k + 1)), h1]
theorem mk_yes (k n c : Nat) (h : mkN (decide (k = 0)) (decide (k + 1 = n)) c = true) :
  spN c = true \/ (spN c = false /\ ((k : Int) == 0) = true /\ ((c : Int) == 32) = true) \/ (spN c = false /\ ((k : Int) == 0) = true /\ ((c : Int) == 32) = false /\ ((c : Int) == 35) = true) \/
   (spN c = false /\ ((k : Int) == 0) = false /\ ((k : Int) == (n : Int) - 1) = true /\ ((c : Int) == 32) = true) := by
 by_cases h32 : c = 32
 ·subst h32
  rw [mkN_blank, Bool.or_eq_true, decide_eq_true_eq, decide_eq_true_eq] at h
  by_cases hk : k = 0
  ·exact .inr (.inl ⟨rfl, by simp; omega, rfl⟩)
  ·exact .inr (.inr (.inr ⟨rfl, by simp; omega, by simp; omega, rfl⟩))
 ·by_cases h35 : c = 35
  ·subst h35
   rw [mkN_sharp, decide_eq_true_eq] at h
   exact .inr (.inr (.inl ⟨rfl, by simp; omega, rfl, rfl⟩))
  ·rw [mkN_else _ _ _ h32 h35] at h
   exact .inl h
theorem mk_no (k n c : Nat) (h : mkN (decide (k = 0)) (decide (k + 1 = n)) c = false) :
  (spN c = false /\ ((k : Int) == 0) = true /\ ((c : Int) == 32) = false /\ ((c : Int) == 35) = false /\ ∃ b, ((k : Int) == (n : Int) - 1) = b) \/ (spN c = false /\ ((k : Int) == 0) = false /\ ((c : Int) == 32) = false /\ ∃ b, ((k : Int) == (n : Int) - 1) = b) \/
   (spN c = false /\ ((k : Int) == 0) = false /\ ((c : Int) == 32) = true /\ ∃ b, ((k : Int) == (n : Int) - 1) = b /\ b = false) := by
 by_cases h32 : c = 32
 ·subst h32
  rw [mkN_blank, Bool.or_eq_false_iff, decide_eq_false_iff_not, decide_eq_false_iff_not] at h
  exact .inr (.inr ⟨rfl, by simp; omega, rfl, false, by simp; omega, rfl⟩)
 ·by_cases h35 : c = 35
  ·subst h35
   rw [mkN_sharp, decide_eq_false_iff_not] at h
   exact .inr (.inl ⟨rfl, by simp; omega, rfl, _, rfl⟩)
  ·rw [mkN_else _ _ _ h32 h35] at h
   by_cases hk : k = 0
   ·exact .inl ⟨h, by simp; omega, by simp; omega, by simp; omega, _, rfl⟩
   ·exact .inr (.inl ⟨h, by simp; omega, by simp; omega, _, rfl⟩)
theorem resc_any (s : ByteArray) (hm : s.size <= 35184372088832) (w : World) :
  Calls Tryz.prog 186 #[.string s] w (StrPost (esL s.data.toList) w) := by
 go_enter Tryz.func186, Tryz.ntmps186
 go_wp2
 go_loopw [4, 5] (fun o v wr => ∃ (k : Nat) (X : List UInt8), k <= s.size /\ v = .int .i64 (k : Nat) /\ o = .string ⟨X.toArray⟩ /\ Below w.heap.size w wr /\ X.length <= 3 * k /\
  X ++ egL (decide (k = 0)) (s.data.toList.drop k) = esL s.data.toList) (fun _ v _ => s.size - (intOf v).toNat)
 case atStart => exact ⟨0, [], by omega, rfl, rfl, Below.refl _ _, by simp, rfl⟩
 case round =>
  obtain ⟨k, X, hk, rfl, rfl, hb, hX, hinv⟩ := hrel
  by_cases hlt : k < s.size
  ·have hkl : (k : Int) < (s.size : Int) := by omega
   have h8 : s[k].toNat < 256 := s[k].toNat_lt
   rw [esc_step s k hlt] at hinv
   cases hbr : bareN s[k].toNat with
   | true =>
    rw [e1_bare _ _ _ hbr, <- List.append_assoc] at hinv
    have H := Hy (An hb hinv)
    have hw : ((s[k].toNat : Int) < 32) \/ ((32 : Int) <= (s[k].toNat : Int) /\ ((s[k].toNat : Int) == 127) = true) := by
     simp only [bareN, Bool.or_eq_true, decide_eq_true_eq] at hbr; simp only [beq_iff_eq]; omega
    clear hbr hb hinv
    obtain ⟨x, hx⟩ : ∃ x, s[k] = x := ⟨_, rfl⟩
    rw [hx] at H h8 hw
    have hq1 : ((x.toNat : Int) / 16) < 16 := by omega
    have hq2 : (0 : Int) <= (x.toNat : Int) / 16 := by omega
    have hq4 : ((x.toNat : Int) % 16) < 16 := by omega
    have hq5 : (0 : Int) <= (x.toNat : Int) % 16 := by omega
    rcases hw with hw | ⟨hw, hw2⟩
    all_goals
     go_wp2
     have hL : X.length <= 140737488355328 := by omega
     have hL1 : ¬ (9223372036854775807 < X.length + 1) := by omega
     have hL2 : ¬ (9223372036854775807 < X.length + 1 + 1) := by omega
     have hL3 : ¬ (9223372036854775807 < X.length + 1 + 1 + 1) := by omega
     have hL4 : ¬ (9223372036854775807 < X.length + 2) := by omega
     have hL5 : ¬ (9223372036854775807 < X.length + 2 + 1) := by omega
     have hL6 : ¬ (9223372036854775807 < X.length + 3) := by omega
     have hq6 : (x.toNat : Int) / 16 + 1 <= 16 := by omega
     have hq7 : (x.toNat : Int) % 16 + 1 <= 16 := by omega
     have hq8 : (0 : Int) <= (x.toNat : Int) / 16 + 1 := by omega
     have hq9 : (0 : Int) <= (x.toNat : Int) % 16 + 1 := by omega
     have hq10 : (x.toNat : Int) / 16 <= (x.toNat : Int) / 16 + 1 := by omega
     have hq11 : (x.toNat : Int) % 16 <= (x.toNat : Int) % 16 + 1 := by omega
     have hW1 := wr_q ⟨x.toNat, h8⟩
     have hW2 := wr_q1 ⟨x.toNat, h8⟩
     have hW3 := wr_r ⟨x.toNat, h8⟩
     have hW4 := wr_r1 ⟨x.toNat, h8⟩
     simp only [] at hW1 hW2 hW3 hW4
     have hE1 := hexS_exI ((x.toNat : Int) / 16) hq2 hq1
     have hE2 := hexS_exI ((x.toNat : Int) % 16) hq5 hq4
     unfold hexS at hE1 hE2
     go_quiet (fail)
     go_wp2
     refine ⟨⟨k + 1, X ++ [92, hxD (x.toNat / 16), hxD (x.toNat % 16)], by omega, by go_num, by rw [cat_4], below_dn H.out.1 nq, by simp; omega, H.out.2⟩, by simp [intOf]; omega⟩
   | false =>
    have hb32 : (32 : Int) <= (s[k].toNat : Int) /\ ((s[k].toNat : Int) == 127) = false := by
     simp only [bareN, Bool.or_eq_false_iff, decide_eq_false_iff_not] at hbr; simp only [beq_eq_false_iff_ne, ne_eq]; omega
    have HS := Hy (rspec_any s[k].toNat)
    have hE := ext_one s k hlt
    have hk1 : (k : Int) + 1 <= (s.size : Int) := by omega
    have hk2 : (k : Int) <= (k : Int) + 1 := by omega
    have hk3 : (0 : Int) <= (k : Int) + 1 := by omega
    have hL : X.length <= 140737488355328 := by omega
    have hL1 : ¬ (9223372036854775807 < X.length + 1) := by omega
    have hL2 : ¬ (9223372036854775807 < X.length + 1 + 1) := by omega
    have hL3 : ¬ (9223372036854775807 < X.length + 2) := by omega
    cases hmk : mkN (decide (k = 0)) (decide (k + 1 = s.size)) s[k].toNat with
    | true =>
     rw [e1_mark _ _ _ hbr hmk, <- List.append_assoc] at hinv
     have H := Hy (An hb hinv)
     have hw := mk_yes k s.size s[k].toNat hmk
     clear hbr hmk hb hinv
     obtain ⟨x, hx⟩ : ∃ x, s[k] = x := ⟨_, rfl⟩
     rw [hx] at H h8 hw HS hb32 hE
     obtain ⟨hb1, hb2⟩ := hb32
     rcases hw with hw | ⟨hw, hw0, hw1⟩ | ⟨hw, hw0, hw1, hw2⟩ | ⟨hw, hw0, hw1, hw2⟩
     all_goals
      rw [hw] at HS
      clear hw
      go_wp2_with fail
      refine (HS.out _).mono ?_
      rintro e w2 ⟨rfl, hw⟩
      obtain rfl := hw.symm
      go_wp2
      refine ⟨⟨k + 1, X ++ [92, x], by omega, by go_num, by rw [cat_3], H.out.1, by simp; omega, H.out.2⟩, by simp [intOf]; omega⟩
    | false =>
     rw [e1_else _ _ _ hbr hmk, <- List.append_assoc] at hinv
     have H := Hy (An hb hinv)
     have hw := mk_no k s.size s[k].toNat hmk
     clear hbr hmk hb hinv
     obtain ⟨x, hx⟩ : ∃ x, s[k] = x := ⟨_, rfl⟩
     rw [hx] at H h8 hw HS hb32 hE
     obtain ⟨hb1, hb2⟩ := hb32
     have hw' : spN x.toNat = false /\ ∃ b0 b1 b2 b3, ((k : Int) == 0) = b0 /\ ((x.toNat : Int) == 32) = b1 /\ ((x.toNat : Int) == 35) = b2 /\ ((k : Int) == (s.size : Int) - 1) = b3 /\ ((b0 = true /\ b1 = false /\ b2 = false) \/ (b0 = false /\ (b1 = false \/ b3 = false))) := by
      rcases hw with ⟨hw, hw0, hw1, hw2, _, _⟩ | ⟨hw, hw0, hw1, _, _⟩ | ⟨hw, hw0, hw1, _, h3, rfl⟩
      ·exact ⟨hw, _, _, _, _, rfl, rfl, rfl, rfl, .inl ⟨hw0, hw1, hw2⟩⟩
      ·exact ⟨hw, _, _, _, _, rfl, rfl, rfl, rfl, .inr ⟨hw0, .inl hw1⟩⟩
      ·exact ⟨hw, _, _, _, _, rfl, rfl, rfl, rfl, .inr ⟨hw0, .inr h3⟩⟩
     obtain ⟨hs, b0, b1, b2, b3, g0, g1, g2, g3, hor⟩ := hw'
     rw [hs] at HS
     clear hs hw
     cases b0 <;> cases b1 <;> cases b2 <;> cases b3 <;> simp only [reduceCtorEq, and_false, and_true, false_and, true_and, or_false, or_true, false_or, true_or] at hor
     all_goals
      go_wp2_with fail
      refine (HS.out _).mono ?_
      rintro e w2 ⟨rfl, hw⟩
      obtain rfl := hw.symm
      go_wp2
      refine ⟨⟨k + 1, X ++ [x], by omega, by go_num, by rw [cat_2], H.out.1, by simp; omega, H.out.2⟩, by simp [intOf]; omega⟩
  ·obtain rfl : k = s.size := by omega
   rw [esc_end, List.append_nil] at hinv
   subst hinv
   have H := Hy hb
   clear hb
   go_wp2
   go_ret
   exact ⟨rfl, H.out⟩
def AvAt (w : World) (v : Value) (r : List Av) : Prop :=
 ∃ a c, v = .slice a r.length c /\ r.length <= c /\ ∀ i (h : i < r.length), ∃ g o, a = some ⟨g, o, none⟩ /\ g < w.heap.size /\ w.cell? ⟨g, o + i * 2, none⟩ = some (.string ⟨r[i].1.toArray⟩) /\ w.cell? ⟨g, o + i * 2 + 1, none⟩ = some (.string ⟨r[i].2.toArray⟩)
def DnAt (w : World) (v : Value) (d : List (List Av)) : Prop :=
 ∃ a c, v = .slice a d.length c /\ d.length <= c /\ ∀ i (h : i < d.length), ∃ g o u, a = some ⟨g, o, none⟩ /\ g < w.heap.size /\ w.cell? ⟨g, o + i, none⟩ = some u /\ AvAt w u d[i]
theorem avAt_below {w w' : World} {v : Value} {r : List Av} (h : AvAt w v r) (hb : Below w.heap.size w w') : AvAt w' v r := by
 obtain ⟨a, c, rfl, hcap, h⟩ := h
 refine ⟨a, c, rfl, hcap, fun i hi => ?_⟩
 obtain ⟨g, o, rfl, hg, h1, h2⟩ := h i hi
 exact ⟨g, o, rfl, Nat.lt_of_lt_of_le hg hb.size, (hb.cell (p := ⟨g, _, none⟩) hg).trans h1, (hb.cell (p := ⟨g, _, none⟩) hg).trans h2⟩
theorem dnAt_below {w w' : World} {v : Value} {d : List (List Av)} (h : DnAt w v d) (hb : Below w.heap.size w w') : DnAt w' v d := by
 obtain ⟨a, c, rfl, hcap, h⟩ := h
 refine ⟨a, c, rfl, hcap, fun i hi => ?_⟩
 obtain ⟨g, o, u, rfl, hg, h1, h2⟩ := h i hi
 exact ⟨g, o, u, rfl, Nat.lt_of_lt_of_le hg hb.size, (hb.cell (p := ⟨g, _, none⟩) hg).trans h1, avAt_below h2 hb⟩
theorem avAt_take {w : World} {v : Value} {r : List Av} (h : AvAt w v r) (k : Nat) (hk : k <= r.length) : ∃ a c, v = .slice a r.length c /\ AvAt w (.slice a k c) (r.take k) := by
 obtain ⟨a, c, rfl, hcap, h⟩ := h
 have hl : (r.take k).length = k := by simp; omega
 refine ⟨a, c, rfl, a, c, by rw [hl], by omega, fun i hi => ?_⟩
 obtain ⟨g, o, rfl, hg, h1, h2⟩ := h i (by omega)
 exact ⟨g, o, rfl, hg, by rw [h1, List.getElem_take], by rw [h2, List.getElem_take]⟩
theorem any_take {α : Type} (p : α -> Bool) (r : List α) (k : Nat) (h : k < r.length) : (r.take (k + 1)).any p = ((r.take k).any p || p r[k]) := by
 rw [List.take_succ_eq_append_getElem h, List.any_append]; simp
theorem dhas1_any (T V : List UInt8) (s : ByteArray) (b : Nat) (w : World) (hs : w.cell? ⟨b, 0, none⟩ = some (.string s)) (hbl : b < w.heap.size) :
  Calls Tryz.prog 238 #[.agg #[.string ⟨T.toArray⟩, .string ⟨V.toArray⟩], .pointer (some ⟨b, 0, none⟩)] w (BoolPost (lowL T == lowL s.data.toList) w) := by
 go_enter Tryz.func238, Tryz.ntmps238
 go_wp2
 obtain ⟨W, hW⟩ : ∃ W, w.alloc (.cells #[.string ⟨T.toArray⟩, .string ⟨V.toArray⟩] 97) = W := ⟨_, rfl⟩
 have hb0 : Below w.heap.size w W := by rw [<- hW]; exact (Below.refl _ w).alloc (Nat.le_refl _) _
 have hc0 : W.cell? ⟨w.heap.size, 0, none⟩ = some (.string ⟨T.toArray⟩) := by rw [<- hW, World.cell?_alloc_mark w _ _ (0, 0)]; rfl
 have hc1 : W.cell? ⟨b, 0, none⟩ = some (.string s) := (hb0.cell (p := ⟨b, 0, none⟩) hbl).trans hs
 have hz : w.heap.size < W.heap.size := by rw [<- hW]; simp
 have hbz : b < W.heap.size := by omega
 rw [hW]
 clear hW
 go_region_held3 (fun w' => w'.cell? ⟨w.heap.size, 0, none⟩ = some (.string ⟨T.toArray⟩) /\ w'.cell? ⟨b, 0, none⟩ = some (.string s)) (first | exact ⟨hd0, hd1⟩ | exact ⟨hc0, hc1⟩ | go_keep)
  (first | (go_at_call 74; refine (lower_any _ _).mono ?_; rintro en w3 ⟨rfl, hb3⟩; have hbW : Below W.heap.size W w3 := (by first | exact hbW.trans (hb3.mono hbW.size) | exact (Below.refl _ W).drew.trans hb3); have hd0 := (hbW.cell (p := ⟨w.heap.size, 0, none⟩) hz).trans hc0; have hd1 := (hbW.cell (p := ⟨b, 0, none⟩) hbz).trans hc1))
 go_wp2
 go_ret
 exact ⟨rfl, hb0.trans (hbW.mono hb0.size)⟩
theorem dhasf_any (v : Value) (r : List Av) (s : ByteArray) (b : Nat) (w : World) (h : AvAt w v r) (hs : w.cell? ⟨b, 0, none⟩ = some (.string s)) (hbl : b < w.heap.size) (hr : r.length <= 9223372036854775807) :
  Calls Tryz.prog 101 #[v, .func (.func 238) #[] #[.pointer (some ⟨b, 0, none⟩)]] w
   (fun e w' => (∃ n : Int, e = .returned (.int .i64 n) /\ decide (n ≥ 0) = r.any fun q => lowL q.1 == lowL s.data.toList) /\ Below w.heap.size w w') := by
 obtain ⟨a, c, rfl, hcap, h⟩ := h
 go_enter Tryz.func101, Tryz.ntmps101
 go_wp2
 go_loopw [8] (fun v wr => ∃ k : Nat, k <= r.length /\ v = .int .i64 (k : Nat) /\ Below w.heap.size w wr /\ (r.take k).any (fun q => lowL q.1 == lowL s.data.toList) = false) (fun v _ => r.length - (intOf v).toNat)
 case atStart => exact ⟨0, by omega, rfl, Below.refl _ _, rfl⟩
 case round =>
  obtain ⟨k, hk, rfl, hb, hany⟩ := hrel
  by_cases hlt : k < r.length
  ·obtain ⟨g, o, rfl, hg, h1, h2⟩ := h k hlt
   have hkl : (k : Int) < (r.length : Int) := by omega
   have c1 := (hb.cell (p := ⟨g, _, none⟩) hg).trans h1
   have c2 := (hb.cell (p := ⟨g, _, none⟩) hg).trans h2
   have HC := Hy (dhas1_any r[k].1 r[k].2 s b wr ((hb.cell (p := ⟨b, 0, none⟩) hbl).trans hs) (Nat.lt_of_lt_of_le hbl hb.size))
   have hstep := any_take (fun q : Av => lowL q.1 == lowL s.data.toList) r k hlt
   rw [hany, Bool.false_or] at hstep
   obtain ⟨T, hT⟩ : ∃ T, r[k].1 = T := ⟨_, rfl⟩
   obtain ⟨V, hV⟩ : ∃ V, r[k].2 = V := ⟨_, rfl⟩
   rw [hT] at c1 HC hstep
   rw [hV] at c2 HC
   obtain ⟨q, hq⟩ : ∃ q, (lowL T == lowL s.data.toList) = q := ⟨_, rfl⟩
   rw [hq] at HC hstep
   have H := Hy (An hb hstep)
   clear hany hb hstep
   cases q
   ·go_wp2_with fail
    refine HC.out.mono ?_
    rintro e w2 ⟨rfl, hb2⟩
    go_wp2
    refine ⟨⟨k + 1, by omega, by go_num, H.out.1.trans (hb2.mono H.out.1.size), H.out.2⟩, by simp [intOf]; omega⟩
   ·go_wp2_with fail
    refine HC.out.mono ?_
    rintro e w2 ⟨rfl, hb2⟩
    go_wp2
    go_ret
    refine ⟨⟨k, rfl, ?_⟩, H.out.1.trans (hb2.mono H.out.1.size)⟩
    have h9 := H.out.2
    have h10 : (r.any fun q => lowL q.1 == lowL s.data.toList) = true := by
     rw [List.any_eq_true] at h9 ⊢
     obtain ⟨x, hx, hp⟩ := h9
     exact ⟨x, List.mem_of_mem_take hx, hp⟩
    rw [h10]; simp
  ·obtain rfl : k = r.length := by omega
   rw [List.take_length] at hany
   have H := Hy (An hb hany)
   clear hb hany
   go_wp2
   go_ret
   exact ⟨⟨-1, rfl, by rw [H.out.2]; rfl⟩, H.out.1⟩
theorem dhas_any (v : Value) (r : List Av) (s : ByteArray) (w : World) (h : AvAt w v r) (hr : r.length <= 9223372036854775807) :
  Calls Tryz.prog 196 #[v, .string s] w (BoolPost (r.any fun q => lowL q.1 == lowL s.data.toList) w) := by
 obtain ⟨W, hW⟩ : ∃ W, w.alloc (.cells #[.string s] 9) = W := ⟨_, rfl⟩
 have hb0 : Below w.heap.size w W := by rw [<- hW]; exact (Below.refl _ w).alloc (Nat.le_refl _) _
 have hc0 : W.cell? ⟨w.heap.size, 0, none⟩ = some (.string s) := by rw [<- hW, World.cell?_alloc_mark w _ _ (0, 0)]; rfl
 have hz : w.heap.size < W.heap.size := by rw [<- hW]; simp
 have HC := Hy (dhasf_any v r s w.heap.size W (avAt_below h hb0) hc0 hz hr)
 have H := Hy hb0
 obtain ⟨a, c, rfl, _, _⟩ := h
 clear hb0 hc0 hz
 go_enter Tryz.func196, Tryz.ntmps196
 go_wp2_with fail
 go_in
 go_wp2_with fail
 refine HC.out.mono ?_
 rintro e w2 ⟨⟨n, rfl, hn⟩, hb2⟩
 have HN := Hy hn
 clear hn
 go_wp2
 go_ret
 refine ⟨?_, H.out.trans (hb2.mono H.out.size)⟩
 rw [<- HN.out]
 rfl
end Go.Proofs.YtpkbgkoocijegaaGreatDoor
