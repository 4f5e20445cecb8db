/- The code's Escape, for every text. -/
import Derived.Test.YtlopmppiihhnnaaGreatDoorDnB
import Derived.Test.YtlopmppiihhnnaaGreatDoorDnK
import Derived.Test.YtlopmppiihhnnaaGreatDoorFoldB
import Derived.StillTailTactics
import Derived.BigQuiet
namespace Go.Proofs.YtlopmppiihhnnaaGreatDoor
set_option linter.unusedSimpArgs false
set_option linter.unusedVariables false
open Go Go.RowKit Go.Proofs.BerK Go.Proofs.MemK Go.Proofs.UtfK

theorem esc_step (s : ByteArray) (k : Nat) (h : k < s.size) : egL (decide (k = 0)) (s.data.toList.drop k) = e1L (decide (k = 0)) (decide (k + 1 = s.size)) s[k] ++ egL (decide (k + 1 = 0)) (s.data.toList.drop (k + 1)) := by
  have hl := len_list s
  rw [drop_at s.data.toList k (by omega), egL]
  have e1 : (s.data.toList.drop (k + 1)).isEmpty = decide (k + 1 = s.size) := by
    rw [Bool.eq_iff_iff, List.isEmpty_iff, decide_eq_true_eq, ← List.length_eq_zero_iff, List.length_drop]; omega
  have e2 : decide (k + 1 = 0) = false := by simp
  rw [e1, e2]; rfl
theorem esc_end (s : ByteArray) (f : Bool) : egL f (s.data.toList.drop s.size) = [] := by
  rw [List.drop_of_length_le (by rw [len_list]; exact Nat.le_refl _)]; rfl
theorem e1_bare (f l : Bool) (c : UInt8) (h : bareN c.toNat = true) : e1L f l c = [92, hxD (c.toNat / 16), hxD (c.toNat % 16)] := by rw [e1L, if_pos h]
theorem e1_mark (f l : Bool) (c : UInt8) (h : bareN c.toNat = false) (h2 : mkN f l c.toNat = true) : e1L f l c = [92, c] := by rw [e1L, if_neg (by simp [h]), if_pos h2]
theorem e1_else (f l : Bool) (c : UInt8) (h : bareN c.toNat = false) (h2 : mkN f l c.toNat = false) : e1L f l c = [c] := by rw [e1L, if_neg (by simp [h]), if_neg (by simp [h2])]
def hexS : ByteArray := ⟨#[48, 49, 50, 51, 52, 53, 54, 55, 56, 57, 97, 98, 99, 100, 101, 102]⟩
theorem hexS_at : ∀ n : Fin 16, hexS[n.val]'(show n.val < 16 from n.isLt) = hxD n.val := by decide +kernel

theorem and_15 : ∀ c : Fin 256, bits BinOp.and IntKind.u8 ((c.val : Nat) : Int) 15 = ((c.val : Nat) : Int) % 16 := by decide +kernel
theorem hexS_i (n : Int) (h0 : 0 ≤ n) (h : n < 16) : hexS[n.toNat]'(show n.toNat < 16 by omega) = hxD n.toNat := hexS_at ⟨n.toNat, by omega⟩

set_option maxHeartbeats 1600000 in
set_option maxRecDepth 100000 in
theorem desc_any (s : ByteArray) (hm : s.size ≤ 35184372088832) (w : World) :
    Calls Tryz.prog 65 #[.string s] w (StrPost (esL s.data.toList) w) := by
  obtain ⟨i0, hi, hz0, hz1, hz2⟩ := info_parts Tryz.info5
  have HI := Lib.hid (And.intro hi (And.intro hz0 (And.intro hz1 hz2)))
  clear hi hz0 hz1 hz2
  go_enter Tryz.func65, Tryz.ntmps65
  go_wp2_with (at_make; refine wpList_make_own _ rfl _ _ 53 rfl w.heap.size 5 i0 (.int .u8 0) 1 Tryz.underlying53 HI.out.1 HI.out.2.1 HI.out.2.2.1 _ _ _ s.size rfl rfl ?e1 ?b0 ?b1 ?b2 ?_)
  case e1 => rfl
  case b0 => rw [HI.out.2.2.2]; omega
  case b1 => unfold maxLen; omega
  case b2 => omega
  intro w1 hown1 hg1
  have hb1 : Below w.heap.size w w1 := (Below.refl _ _).grown hg1 (Nat.le_refl _) (fun k hk => by cases hk)
  have H1 := Lib.hid (And.intro hown1 hb1)
  clear hown1 hb1 hg1
  go_wp2
  go_loopw [3, 11] (fun o v wr => ∃ (k : Nat) (X : List UInt8), k ≤ s.size ∧ v = .int .i64 (k : Nat) ∧ wr.ownsRow w.heap.size 5 1 o X.length (bc X) ∧ Below w.heap.size w wr ∧ X.length ≤ 3 * k ∧
    X ++ egL (decide (k = 0)) (s.data.toList.drop k) = esL s.data.toList) (fun _ v _ => s.size - (intOf v).toNat)
  case atStart => exact ⟨0, [], by omega, rfl, H1.out.1, H1.out.2, by simp, rfl⟩
  case round =>
    obtain ⟨k, X, hk, rfl, hown, hb, hX, hinv⟩ := hrel
    by_cases hlt : k < s.size
    · have hkl : (k : Int) < (s.size : Int) := by omega
      have h8 : s[k].toNat < 256 := s[k].toNat_lt
      have HB := Lib.hid (dbare_any s[k].toNat)
      rw [esc_step s k hlt] at hinv
      cases hbr : bareN s[k].toNat with
      | true =>
        rw [hbr] at HB
        rw [e1_bare _ _ _ hbr, ← List.append_assoc] at hinv
        have H := Lib.hid (And.intro hown (And.intro hb hinv))
        clear hbr hown hb hinv
        obtain ⟨x, hx⟩ : ∃ x, s[k] = x := ⟨_, rfl⟩
        rw [hx] at HB H h8
        go_wp2_with fail
        refine (HB.out _).mono ?_
        rintro e w2 ⟨rfl, hw⟩
        obtain rfl := hw.symm
        go_wp2
        have hq1 : ((x.toNat : Int) / 16) < 16 := by omega
        have hq2 : (0 : Int) ≤ (x.toNat : Int) / 16 := by omega
        have hq3 := and_15 ⟨x.toNat, h8⟩
        have hq4 : ((x.toNat : Int) % 16) < 16 := by omega
        have hq5 : (0 : Int) ≤ (x.toNat : Int) % 16 := by omega
        simp only [] at hq3
        go_region_law (refine step_pushm rfl (.tmp 24) (.tmp 31) 53 5 rfl w.heap.size 1 1 (.int .u8 0) Tryz.info5 Tryz.underlying53 rfl (by decide) wr.drew 3 [_, _, _] rfl rfl (by intro u hu; simp at hu; rcases hu with rfl | rfl | rfl <;> rfl) u3 X.length (bc X) rfl _ rfl rfl (ownsRow_heap H.out.1 rfl) (by unfold maxLen; omega) (by omega) H.out.2.1.size ?_; intro v' w' h1 h2)
        all_goals
          have HV := Lib.hid (And.intro h1 h2)
          clear h1 h2
          go_wp2
          have e1 := hexS_i ((x.toNat : Int) / 16) hq2 hq1
          have e2 := hexS_i ((x.toNat : Int) % 16) hq5 hq4
          refine ⟨⟨k + 1, X ++ [92, hxD (x.toNat / 16), hxD (x.toNat % 16)], by omega, by go_num, ?_, H.out.2.1.trans ((Below.refl _ wr).drew.trans HV.out.2), by simp; omega, H.out.2.2⟩, by simp [intOf]; omega⟩
          rw [bc_append, List.length_append]
          have e3 : ((x.toNat : Int) / 16).toNat = x.toNat / 16 := by omega
          have e4 : ((x.toNat : Int) % 16).toNat = x.toNat % 16 := by omega
          rw [← (e1.trans (congrArg hxD e3)), ← (e2.trans (congrArg hxD e4))]
          exact HV.out.1
      | false =>
        rw [hbr] at HB
        have HM := Lib.hid (dmark_any s k hlt (by omega))
        cases hmk : mkN (decide (k = 0)) (decide (k + 1 = s.size)) s[k].toNat with
        | true =>
          rw [hmk] at HM
          rw [e1_mark _ _ _ hbr hmk, ← List.append_assoc] at hinv
          have H := Lib.hid (And.intro hown (And.intro hb hinv))
          clear hbr hmk hown hb hinv
          obtain ⟨x, hx⟩ : ∃ x, s[k] = x := ⟨_, rfl⟩
          rw [hx] at HB H h8
          go_wp2_with fail
          refine (HB.out _).mono ?_
          rintro e w2 ⟨rfl, hw⟩
          obtain rfl := hw.symm
          go_wp2_with fail
          refine (HM.out _).mono ?_
          rintro e w2 ⟨rfl, hw⟩
          obtain rfl := hw.symm
          go_wp2_with (at_builtin; refine wpList_pushm rfl (.tmp 37) (.tmp 39) 53 5 rfl w.heap.size 1 1 (.int .u8 0) Tryz.info5 Tryz.underlying53 rfl (by decide) 2 [.int .u8 92, .int .u8 (x.toNat : Nat)] rfl ?c0 _ X.length _ rfl _ rfl ?c3 H.out.1 ?c1 ?c2 H.out.2.1.size ?_)
          case c0 => intro u hu; simp at hu; rcases hu with rfl | rfl <;> rfl
          case c1 => unfold maxLen; omega
          case c2 => omega
          case c3 => rfl
          intro v' w' h1 h2
          go_wp2
          refine ⟨⟨k + 1, X ++ [92, x], by omega, by go_num, ?_, H.out.2.1.trans h2, by simp; omega, H.out.2.2⟩, by simp [intOf]; omega⟩
          rw [bc_append, List.length_append]; exact h1
        | false =>
          rw [hmk] at HM
          rw [e1_else _ _ _ hbr hmk, ← List.append_assoc] at hinv
          have H := Lib.hid (And.intro hown (And.intro hb hinv))
          clear hbr hmk hown hb hinv
          obtain ⟨x, hx⟩ : ∃ x, s[k] = x := ⟨_, rfl⟩
          rw [hx] at HB H h8
          go_wp2_with fail
          refine (HB.out _).mono ?_
          rintro e w2 ⟨rfl, hw⟩
          obtain rfl := hw.symm
          go_wp2_with fail
          refine (HM.out _).mono ?_
          rintro e w2 ⟨rfl, hw⟩
          obtain rfl := hw.symm
          go_wp2_with (at_builtin; refine wpList_pushm rfl (.tmp 17) (.tmp 19) 53 5 rfl w.heap.size 1 1 (.int .u8 0) Tryz.info5 Tryz.underlying53 rfl (by decide) 1 [.int .u8 (x.toNat : Nat)] rfl ?c0 _ X.length _ rfl _ rfl ?c3 H.out.1 ?c1 ?c2 H.out.2.1.size ?_)
          case c0 => intro u hu; simp at hu; subst hu; rfl
          case c1 => unfold maxLen; omega
          case c2 => omega
          case c3 => rfl
          intro v' w' h1 h2
          go_wp2
          refine ⟨⟨k + 1, X ++ [x], by omega, by go_num, ?_, H.out.2.1.trans h2, by simp; omega, H.out.2.2⟩, by simp [intOf]; omega⟩
          rw [bc_append, List.length_append]; exact h1
    · obtain rfl : k = s.size := by omega
      rw [esc_end, List.append_nil] at hinv
      subst hinv
      have hc := conv_own' (P := Tryz.prog) (src := 53) (dst := 9) Tryz.underlying53 Tryz.underlying5 Tryz.underlying9 hown
      have H := Lib.hid hb
      clear hb hown
      go_wp2
      go_ret
      exact ⟨rfl, H.out⟩
end Go.Proofs.YtlopmppiihhnnaaGreatDoor
