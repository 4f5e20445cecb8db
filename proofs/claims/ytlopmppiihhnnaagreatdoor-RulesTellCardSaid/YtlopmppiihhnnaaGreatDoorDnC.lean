/- The document's Typed, for every text. -/
import Derived.Test.YtlopmppiihhnnaaGreatDoorDnB
namespace Go.Proofs.YtlopmppiihhnnaaGreatDoor
set_option linter.unusedSimpArgs false
set_option linter.unusedVariables false
open Go Go.RowKit Go.Proofs.BerK Go.Proofs.MemK Go.Proofs.UtfK

theorem tyL_full (s : ByteArray) (h1 : 1 ≤ s.size) (h2 : s.size ≤ 64) (hd : hdP letN s.data.toList = true) (hall : (s.data.toList.take s.size).all (fun c => tcN c.toNat) = true) : tyL s.data.toList = true := by
  rw [hdP_at _ s (by omega)] at hd
  exact tyL_ok s (by omega) h2 hd hall
theorem letN_yes (c : Nat) (h : (97 ≤ (c : Int) ∧ (c : Int) ≤ 122) ∨ ((c : Int) < 97 ∧ 65 ≤ (c : Int) ∧ (c : Int) ≤ 90)) : letN c = true := by
  simp only [letN, Bool.or_eq_true, Bool.and_eq_true, decide_eq_true_eq]; omega
theorem letN_no (c : Nat) (h : (c : Int) < 65 ∨ (90 < (c : Int) ∧ (c : Int) < 97) ∨ 122 < (c : Int)) : letN c = false := by
  simp only [letN, Bool.or_eq_false_iff, Bool.and_eq_false_iff, decide_eq_false_iff_not]; omega
theorem tc_ways (c : Nat) : (letN c = true ∧ tcN c = true ∧ ((97 ≤ (c : Int) ∧ (c : Int) ≤ 122) ∨ ((c : Int) < 97 ∧ 65 ≤ (c : Int) ∧ (c : Int) ≤ 90))) ∨
    (letN c = false ∧ tcN c = true ∧ (((c : Int) < 97 ∧ (c : Int) < 65 ∧ 48 ≤ (c : Int) ∧ (c : Int) ≤ 57) ∨ ((c : Int) < 97 ∧ (c : Int) < 65 ∧ (c : Int) < 48 ∧ ((c : Int) == 45) = true))) ∨
    (letN c = false ∧ tcN c = false ∧ (((c : Int) < 97 ∧ (c : Int) < 65 ∧ (c : Int) < 48 ∧ ((c : Int) == 45) = false) ∨ ((c : Int) < 97 ∧ (c : Int) < 65 ∧ 48 ≤ (c : Int) ∧ 57 < (c : Int) ∧ ((c : Int) == 45) = false) ∨
      ((c : Int) < 97 ∧ 65 ≤ (c : Int) ∧ 90 < (c : Int) ∧ 48 ≤ (c : Int) ∧ 57 < (c : Int) ∧ ((c : Int) == 45) = false) ∨ (97 ≤ (c : Int) ∧ 122 < (c : Int) ∧ 65 ≤ (c : Int) ∧ 90 < (c : Int) ∧ 48 ≤ (c : Int) ∧ 57 < (c : Int) ∧ ((c : Int) == 45) = false))) := by
  by_cases h : letN c = true
  · refine .inl ⟨h, tcN_let c h, ?_⟩
    simp only [letN, Bool.or_eq_true, Bool.and_eq_true, decide_eq_true_eq] at h; omega
  · have h' : letN c = false := by simpa using h
    have g := h'
    simp only [letN, Bool.or_eq_false_iff, Bool.and_eq_false_iff, decide_eq_false_iff_not] at g
    cases ht : tcN c
    · have := tcN_not c h' ht
      refine .inr (.inr ⟨h', rfl, ?_⟩)
      simp only [beq_eq_false_iff_ne, ne_eq]; omega
    · have := tcN_ways c h' ht
      refine .inr (.inl ⟨h', rfl, ?_⟩)
      simp only [beq_iff_eq]; omega

set_option maxHeartbeats 3200000 in
set_option maxRecDepth 100000 in
theorem rtyped_any (s : ByteArray) (hs : s.size ≤ 140737488355328) (w : World) : Calls Tryz.prog 95 #[.string s] w (PureB (tyL s.data.toList) w) := by
  have HB := Lib.hid (tyL_bad s)
  have HH := Lib.hid (tyL_head s)
  have HF := Lib.hid (tyL_full s)
  have HL := Lib.hid (tyL_long s)
  have HN := Lib.hid (tyL_nil s)
  have HP := Lib.hid (hdP_at letN s)
  go_enter Tryz.func95, Tryz.ntmps95
  go_wp2
  go_loop [3] (fun v => ∃ k : Nat, k ≤ s.size ∧ v = .int .i64 (k : Nat) ∧ (s.data.toList.take k).all (fun c => tcN c.toNat) = true ∧ (0 < k → hdP letN s.data.toList = true)) (fun v => s.size - (intOf v).toNat)
  case atStart => exact ⟨0, by omega, rfl, rfl, by omega⟩
  case round =>
    obtain ⟨k, hk, rfl, hall, hh⟩ := hrel
    by_cases hlt : k < s.size
    · have hb : s[k].toNat < 256 := s[k].toNat_lt
      have hkl : (k : Int) < (s.size : Int) := by omega
      have hpos : 0 < s.size := by omega
      rcases tc_ways s[k].toNat with ⟨g1, g2, g3⟩ | ⟨g1, g2, g3⟩ | ⟨g1, g2, g3⟩
      · have H := Lib.hid (And.intro (all_step s k hlt _ hall g2) (show hdP letN s.data.toList = true from if h0 : k = 0 then by subst h0; rw [hdP_at _ s hpos]; exact g1 else hh (by omega)))
        clear hall hh g1 g2 hpos
        obtain ⟨c, hc⟩ : ∃ c, s[k].toNat = c := ⟨_, rfl⟩
        rw [hc] at hb g3
        rcases g3 with ⟨g3, g4⟩ | ⟨g3, g4, g5⟩
        all_goals
          go_wp2
          exact ⟨⟨k + 1, by omega, by go_num, H.out.1, fun _ => H.out.2⟩, by simp [intOf]; omega⟩
      · by_cases h0 : k = 0
        · subst h0
          have H := Lib.hid (HH.out hpos g1)
          clear hall hh g1 g2 hpos
          obtain ⟨c, hc⟩ : ∃ c, s[0].toNat = c := ⟨_, rfl⟩
          rw [hc] at hb g3
          rcases g3 with ⟨g3, g4, g5, g6⟩ | ⟨g3, g4, g5, g6⟩
          all_goals
            go_wp2
            go_ret
            exact pureB_mk H.out
        · have H := Lib.hid (And.intro (all_step s k hlt _ hall g2) (hh (by omega)))
          have hk0 : ((k : Int) == 0) = false := by rw [beq_eq_false_iff_ne]; omega
          clear hall hh g1 g2 hpos h0
          obtain ⟨c, hc⟩ : ∃ c, s[k].toNat = c := ⟨_, rfl⟩
          rw [hc] at hb g3
          rcases g3 with ⟨g3, g4, g5, g6⟩ | ⟨g3, g4, g5, g6⟩
          all_goals
            go_wp2
            exact ⟨⟨k + 1, by omega, by go_num, H.out.1, fun _ => H.out.2⟩, by simp [intOf]; omega⟩
      · have H := Lib.hid (HB.out k hlt g2)
        clear hall hh g1 g2 hpos
        by_cases h0 : k = 0
        · subst h0
          obtain ⟨c, hc⟩ : ∃ c, s[0].toNat = c := ⟨_, rfl⟩
          rw [hc] at hb g3
          rcases g3 with ⟨g3, g4, g5, g6⟩ | ⟨g3, g4, g5, g6, g7⟩ | ⟨g3, g4, g5, g6, g7, g8⟩ | ⟨g3, g4, g5, g6, g7, g8, g9⟩
          all_goals
            go_wp2
            all_goals first
              | (go_ret; exact pureB_mk H.out)
              | (exfalso; rename_i hx; simp only [Bool.not_eq_eq_eq_not, Bool.not_false, decide_eq_true_eq] at hx; omega)
        · have hk0 : ((k : Int) == 0) = false := by rw [beq_eq_false_iff_ne]; omega
          clear h0
          obtain ⟨c, hc⟩ : ∃ c, s[k].toNat = c := ⟨_, rfl⟩
          rw [hc] at hb g3
          rcases g3 with ⟨g3, g4, g5, g6⟩ | ⟨g3, g4, g5, g6, g7⟩ | ⟨g3, g4, g5, g6, g7, g8⟩ | ⟨g3, g4, g5, g6, g7, g8, g9⟩
          all_goals
            go_wp2
            all_goals first
              | (go_ret; exact pureB_mk H.out)
              | (exfalso; rename_i hx; simp only [Bool.not_eq_eq_eq_not, Bool.not_false, decide_eq_true_eq] at hx; omega)
    · obtain rfl : k = s.size := by omega
      have hw : ((s.size : Int) < 1 ∧ tyL s.data.toList = false) ∨ (1 ≤ (s.size : Int) ∧ (s.size : Int) ≤ 64 ∧ tyL s.data.toList = true) ∨ (1 ≤ (s.size : Int) ∧ 64 < (s.size : Int) ∧ tyL s.data.toList = false) := by
        by_cases h0 : s.size = 0
        · exact .inl ⟨by omega, HN.out h0⟩
        · by_cases h64 : 64 < s.size
          · exact .inr (.inr ⟨by omega, by omega, HL.out h64⟩)
          · exact .inr (.inl ⟨by omega, by omega, HF.out (by omega) (by omega) (hh (by omega)) hall⟩)
      clear hall hh
      rcases hw with ⟨g1, g2⟩ | ⟨g1, g2, g3⟩ | ⟨g1, g2, g3⟩
      · have H := Lib.hid g2
        clear g2
        go_wp2
        go_ret
        exact pureB_mk H.out
      · have H := Lib.hid g3
        clear g3
        go_wp2
        go_ret
        exact pureB_mk (H.out.trans (by first | rfl | (rw [eq_comm, decide_eq_true_eq]; omega)))
      · have H := Lib.hid g3
        clear g3
        go_wp2
        go_ret
        exact pureB_mk (H.out.trans (by first | rfl | (rw [eq_comm, decide_eq_false_iff_not]; omega)))
end Go.Proofs.YtlopmppiihhnnaaGreatDoor
