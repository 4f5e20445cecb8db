/- The document's Escape, for every text. -/
import Derived.Test.YtlopmppiihhnnaaGreatDoorDnD
namespace Go.Proofs.YtlopmppiihhnnaaGreatDoor
set_option linter.unusedSimpArgs false
set_option linter.unusedVariables false
open Go Go.RowKit Go.Proofs.BerK Go.Proofs.MemK Go.Proofs.UtfK

theorem hexS_ex : ∀ n : Fin 16, hexS.extract n.val (n.val + 1) = ⟨#[hxD n.val]⟩ := by decide +kernel
theorem hexS_exI (n : Int) (h0 : 0 ≤ n) (h : n < 16) : hexS.extract n.toNat (n + 1).toNat = ⟨#[hxD n.toNat]⟩ := by
  have := hexS_ex ⟨n.toNat, by omega⟩
  rw [show (n + 1).toNat = n.toNat + 1 by omega]; exact this
theorem wr_q : ∀ c : Fin 256, IntKind.u8.wrap (((c.val : Nat) : Int) / 16) = ((c.val : Nat) : Int) / 16 := by decide +kernel
theorem wr_q1 : ∀ c : Fin 256, IntKind.u8.wrap (((c.val : Nat) : Int) / 16 + 1) = ((c.val : Nat) : Int) / 16 + 1 := by decide +kernel
theorem wr_r : ∀ c : Fin 256, IntKind.u8.wrap (((c.val : Nat) : Int) % 16) = ((c.val : Nat) : Int) % 16 := by decide +kernel
theorem wr_r1 : ∀ c : Fin 256, IntKind.u8.wrap (((c.val : Nat) : Int) % 16 + 1) = ((c.val : Nat) : Int) % 16 + 1 := by decide +kernel
theorem cat_l (a b : List UInt8) : (⟨a.toArray⟩ : ByteArray) ++ ⟨b.toArray⟩ = ⟨(a ++ b).toArray⟩ := ByteArray.mk_append_mk a b
theorem cat_2 (X : List UInt8) (a : UInt8) : (⟨X.toArray⟩ : ByteArray) ++ ⟨#[a]⟩ = ⟨(X ++ [a]).toArray⟩ := cat_l X [a]
theorem cat_3 (X : List UInt8) (a b : UInt8) : (⟨X.toArray⟩ : ByteArray) ++ ⟨#[a]⟩ ++ ⟨#[b]⟩ = ⟨(X ++ [a, b]).toArray⟩ := by
  rw [cat_2, cat_2, List.append_assoc]; rfl
theorem cat_4 (X : List UInt8) (a b c : UInt8) : (⟨X.toArray⟩ : ByteArray) ++ ⟨#[a]⟩ ++ ⟨#[b]⟩ ++ ⟨#[c]⟩ = ⟨(X ++ [a, b, c]).toArray⟩ := by
  rw [cat_3, cat_2, List.append_assoc]; rfl
theorem ext_one (s : ByteArray) (k : Nat) (h : k < s.size) : s.extract k (k + 1) = ⟨#[s[k]]⟩ := by
  have hl := len_list s
  have h1 : (s.extract k (k + 1)).data.toList = [s[k]] := by
    rw [Lib.extract_data, show k + 1 - k = 1 by omega, drop_at s.data.toList k (by omega)]; rfl
  rw [← mk_list (s.extract k (k + 1)), h1]
theorem mk_yes (k n c : Nat) (h : mkN (decide (k = 0)) (decide (k + 1 = n)) c = true) :
    spN c = true ∨ (spN c = false ∧ ((k : Int) == 0) = true ∧ ((c : Int) == 32) = true) ∨ (spN c = false ∧ ((k : Int) == 0) = true ∧ ((c : Int) == 32) = false ∧ ((c : Int) == 35) = true) ∨
      (spN c = false ∧ ((k : Int) == 0) = false ∧ ((k : Int) == (n : Int) - 1) = true ∧ ((c : Int) == 32) = true) := by
  by_cases h32 : c = 32
  · subst h32
    rw [mkN_blank, Bool.or_eq_true, decide_eq_true_eq, decide_eq_true_eq] at h
    by_cases hk : k = 0
    · exact .inr (.inl ⟨rfl, by simp; omega, rfl⟩)
    · exact .inr (.inr (.inr ⟨rfl, by simp; omega, by simp; omega, rfl⟩))
  · by_cases h35 : c = 35
    · subst h35
      rw [mkN_sharp, decide_eq_true_eq] at h
      exact .inr (.inr (.inl ⟨rfl, by simp; omega, rfl, rfl⟩))
    · rw [mkN_else _ _ _ h32 h35] at h
      exact .inl h
theorem mk_no (k n c : Nat) (h : mkN (decide (k = 0)) (decide (k + 1 = n)) c = false) :
    (spN c = false ∧ ((k : Int) == 0) = true ∧ ((c : Int) == 32) = false ∧ ((c : Int) == 35) = false ∧ ∃ b, ((k : Int) == (n : Int) - 1) = b) ∨ (spN c = false ∧ ((k : Int) == 0) = false ∧ ((c : Int) == 32) = false ∧ ∃ b, ((k : Int) == (n : Int) - 1) = b) ∨
      (spN c = false ∧ ((k : Int) == 0) = false ∧ ((c : Int) == 32) = true ∧ ∃ b, ((k : Int) == (n : Int) - 1) = b ∧ b = false) := by
  by_cases h32 : c = 32
  · subst h32
    rw [mkN_blank, Bool.or_eq_false_iff, decide_eq_false_iff_not, decide_eq_false_iff_not] at h
    exact .inr (.inr ⟨rfl, by simp; omega, rfl, false, by simp; omega, rfl⟩)
  · by_cases h35 : c = 35
    · subst h35
      rw [mkN_sharp, decide_eq_false_iff_not] at h
      exact .inr (.inl ⟨rfl, by simp; omega, rfl, _, rfl⟩)
    · rw [mkN_else _ _ _ h32 h35] at h
      by_cases hk : k = 0
      · exact .inl ⟨h, by simp; omega, by simp; omega, by simp; omega, _, rfl⟩
      · exact .inr (.inl ⟨h, by simp; omega, by simp; omega, _, rfl⟩)
theorem spN_blank : spN 32 = false := rfl
theorem spN_sharp : spN 35 = false := rfl

set_option maxHeartbeats 3200000 in
set_option maxRecDepth 100000 in
theorem resc_any (s : ByteArray) (hm : s.size ≤ 35184372088832) (w : World) :
    Calls Tryz.prog 98 #[.string s] w (StrPost (esL s.data.toList) w) := by
  go_enter Tryz.func98, Tryz.ntmps98
  go_wp2
  go_loopw [4, 5] (fun o v wr => ∃ (k : Nat) (X : List UInt8), k ≤ s.size ∧ v = .int .i64 (k : Nat) ∧ o = .string ⟨X.toArray⟩ ∧ Below w.heap.size w wr ∧ X.length ≤ 3 * k ∧
    X ++ egL (decide (k = 0)) (s.data.toList.drop k) = esL s.data.toList) (fun _ v _ => s.size - (intOf v).toNat)
  case atStart => exact ⟨0, [], by omega, rfl, rfl, Below.refl _ _, by simp, rfl⟩
  case round =>
    obtain ⟨k, X, hk, rfl, rfl, hb, hX, hinv⟩ := hrel
    by_cases hlt : k < s.size
    · have hkl : (k : Int) < (s.size : Int) := by omega
      have h8 : s[k].toNat < 256 := s[k].toNat_lt
      rw [esc_step s k hlt] at hinv
      cases hbr : bareN s[k].toNat with
      | true =>
        rw [e1_bare _ _ _ hbr, ← List.append_assoc] at hinv
        have H := Lib.hid (And.intro hb hinv)
        have hw : ((s[k].toNat : Int) < 32) ∨ ((32 : Int) ≤ (s[k].toNat : Int) ∧ ((s[k].toNat : Int) == 127) = true) := by
          simp only [bareN, Bool.or_eq_true, decide_eq_true_eq] at hbr; simp only [beq_iff_eq]; omega
        clear hbr hb hinv
        obtain ⟨x, hx⟩ : ∃ x, s[k] = x := ⟨_, rfl⟩
        rw [hx] at H h8 hw
        have hq1 : ((x.toNat : Int) / 16) < 16 := by omega
        have hq2 : (0 : Int) ≤ (x.toNat : Int) / 16 := by omega
        have hq4 : ((x.toNat : Int) % 16) < 16 := by omega
        have hq5 : (0 : Int) ≤ (x.toNat : Int) % 16 := by omega
        rcases hw with hw | ⟨hw, hw2⟩
        all_goals
          go_wp2
          have hL : X.length ≤ 140737488355328 := by omega
          have hL1 : ¬ (9223372036854775807 < X.length + 1) := by omega
          have hL2 : ¬ (9223372036854775807 < X.length + 1 + 1) := by omega
          have hL3 : ¬ (9223372036854775807 < X.length + 1 + 1 + 1) := by omega
          have hL4 : ¬ (9223372036854775807 < X.length + 2) := by omega
          have hL5 : ¬ (9223372036854775807 < X.length + 2 + 1) := by omega
          have hL6 : ¬ (9223372036854775807 < X.length + 3) := by omega
          have hq6 : (x.toNat : Int) / 16 + 1 ≤ 16 := by omega
          have hq7 : (x.toNat : Int) % 16 + 1 ≤ 16 := by omega
          have hq8 : (0 : Int) ≤ (x.toNat : Int) / 16 + 1 := by omega
          have hq9 : (0 : Int) ≤ (x.toNat : Int) % 16 + 1 := by omega
          have hq10 : (x.toNat : Int) / 16 ≤ (x.toNat : Int) / 16 + 1 := by omega
          have hq11 : (x.toNat : Int) % 16 ≤ (x.toNat : Int) % 16 + 1 := by omega
          have hW1 := wr_q ⟨x.toNat, h8⟩
          have hW2 := wr_q1 ⟨x.toNat, h8⟩
          have hW3 := wr_r ⟨x.toNat, h8⟩
          have hW4 := wr_r1 ⟨x.toNat, h8⟩
          simp only [] at hW1 hW2 hW3 hW4
          have hE1 := hexS_exI ((x.toNat : Int) / 16) hq2 hq1
          have hE2 := hexS_exI ((x.toNat : Int) % 16) hq5 hq4
          unfold hexS at hE1 hE2
          go_quiet (fail)
          go_wp2
          refine ⟨⟨k + 1, X ++ [92, hxD (x.toNat / 16), hxD (x.toNat % 16)], by omega, by go_num, by rw [cat_4], below_dn H.out.1 nq, by simp; omega, H.out.2⟩, by simp [intOf]; omega⟩
      | false =>
        have hb32 : (32 : Int) ≤ (s[k].toNat : Int) ∧ ((s[k].toNat : Int) == 127) = false := by
          simp only [bareN, Bool.or_eq_false_iff, decide_eq_false_iff_not] at hbr; simp only [beq_eq_false_iff_ne, ne_eq]; omega
        have HS := Lib.hid (rspec_any s[k].toNat)
        have hE := ext_one s k hlt
        have hk1 : (k : Int) + 1 ≤ (s.size : Int) := by omega
        have hk2 : (k : Int) ≤ (k : Int) + 1 := by omega
        have hk3 : (0 : Int) ≤ (k : Int) + 1 := by omega
        have hL : X.length ≤ 140737488355328 := by omega
        have hL1 : ¬ (9223372036854775807 < X.length + 1) := by omega
        have hL2 : ¬ (9223372036854775807 < X.length + 1 + 1) := by omega
        have hL3 : ¬ (9223372036854775807 < X.length + 2) := by omega
        cases hmk : mkN (decide (k = 0)) (decide (k + 1 = s.size)) s[k].toNat with
        | true =>
          rw [e1_mark _ _ _ hbr hmk, ← List.append_assoc] at hinv
          have H := Lib.hid (And.intro hb hinv)
          have hw := mk_yes k s.size s[k].toNat hmk
          clear hbr hmk hb hinv
          obtain ⟨x, hx⟩ : ∃ x, s[k] = x := ⟨_, rfl⟩
          rw [hx] at H h8 hw HS hb32 hE
          obtain ⟨hb1, hb2⟩ := hb32
          rcases hw with hw | ⟨hw, hw0, hw1⟩ | ⟨hw, hw0, hw1, hw2⟩ | ⟨hw, hw0, hw1, hw2⟩
          all_goals
            rw [hw] at HS
            clear hw
            go_wp2_with fail
            refine (HS.out _).mono ?_
            rintro e w2 ⟨rfl, hw⟩
            obtain rfl := hw.symm
            go_wp2
            refine ⟨⟨k + 1, X ++ [92, x], by omega, by go_num, by rw [cat_3], H.out.1, by simp; omega, H.out.2⟩, by simp [intOf]; omega⟩
        | false =>
          rw [e1_else _ _ _ hbr hmk, ← List.append_assoc] at hinv
          have H := Lib.hid (And.intro hb hinv)
          have hw := mk_no k s.size s[k].toNat hmk
          clear hbr hmk hb hinv
          obtain ⟨x, hx⟩ : ∃ x, s[k] = x := ⟨_, rfl⟩
          rw [hx] at H h8 hw HS hb32 hE
          obtain ⟨hb1, hb2⟩ := hb32
          have hw' : spN x.toNat = false ∧ ∃ b0 b1 b2 b3, ((k : Int) == 0) = b0 ∧ ((x.toNat : Int) == 32) = b1 ∧ ((x.toNat : Int) == 35) = b2 ∧ ((k : Int) == (s.size : Int) - 1) = b3 ∧ ((b0 = true ∧ b1 = false ∧ b2 = false) ∨ (b0 = false ∧ (b1 = false ∨ b3 = false))) := by
            rcases hw with ⟨hw, hw0, hw1, hw2, _, _⟩ | ⟨hw, hw0, hw1, _, _⟩ | ⟨hw, hw0, hw1, _, h3, rfl⟩
            · exact ⟨hw, _, _, _, _, rfl, rfl, rfl, rfl, .inl ⟨hw0, hw1, hw2⟩⟩
            · exact ⟨hw, _, _, _, _, rfl, rfl, rfl, rfl, .inr ⟨hw0, .inl hw1⟩⟩
            · exact ⟨hw, _, _, _, _, rfl, rfl, rfl, rfl, .inr ⟨hw0, .inr h3⟩⟩
          obtain ⟨hs, b0, b1, b2, b3, g0, g1, g2, g3, hor⟩ := hw'
          rw [hs] at HS
          clear hs hw
          cases b0 <;> cases b1 <;> cases b2 <;> cases b3 <;> simp only [reduceCtorEq, and_false, and_true, false_and, true_and, or_false, or_true, false_or, true_or] at hor
          all_goals
            go_wp2_with fail
            refine (HS.out _).mono ?_
            rintro e w2 ⟨rfl, hw⟩
            obtain rfl := hw.symm
            go_wp2
            refine ⟨⟨k + 1, X ++ [x], by omega, by go_num, by rw [cat_2], H.out.1, by simp; omega, H.out.2⟩, by simp [intOf]; omega⟩
    · obtain rfl : k = s.size := by omega
      rw [esc_end, List.append_nil] at hinv
      subst hinv
      have H := Lib.hid hb
      clear hb
      go_wp2
      go_ret
      exact ⟨rfl, H.out⟩
end Go.Proofs.YtlopmppiihhnnaaGreatDoor
