/- The document's truths: what is called tells what the plain functions do. -/
import Derived.Test.YtpnmhghjpmkilaaThA
namespace Go.Proofs.Ytpnmhghjpmkilaa
set_option linter.unusedSimpArgs false
set_option linter.unusedVariables false
open Go Go.RowKit Go.Proofs.BerK Go.Proofs.MemK Go.Proofs.ThM

set_option maxRecDepth 100000 in
theorem rtnot_any (x : Int) (w : World) : Calls Try.prog 7 #[.int .i64 x] w fun e w' => e = .returned (.int .i64 (notT x)) ∧ w' = w := by
  by_cases h0 : x = 0
  · subst h0
    go_enter Try.func7, Try.ntmps7
    go_wp2
    go_ret
    exact ⟨rfl, rfl⟩
  · by_cases h1 : x = 1
    · subst h1
      go_enter Try.func7, Try.ntmps7
      go_wp2
      go_ret
      exact ⟨rfl, rfl⟩
    · have HV := Lib.hid (show notT x = 2 by simp [notT, h0, h1])
      have q0 : (x == 0) = false := by simpa using h0
      have q1 : (x == 1) = false := by simpa using h1
      clear h0 h1
      go_enter Try.func7, Try.ntmps7
      go_wp2
      go_ret
      exact ⟨by rw [HV.out]; rfl, rfl⟩

/-- What a number is like, as the document's test asks. -/
theorem kinds3 (x : Int) : x = 0 ∨ x = 1 ∨ x = 2 ∨ ((x == 0) = false ∧ (x == 1) = false ∧ (x == 2) = false ∧ (x != 0) = true ∧ (x != 1) = true) := by
  by_cases h0 : x = 0
  · exact .inl h0
  · by_cases h1 : x = 1
    · exact .inr (.inl h1)
    · by_cases h2 : x = 2
      · exact .inr (.inr (.inl h2))
      · exact .inr (.inr (.inr ⟨by simpa using h0, by simpa using h1, by simpa using h2, by simpa using h0, by simpa using h1⟩))

set_option maxHeartbeats 1600000 in
set_option maxRecDepth 100000 in
theorem rthas0_any (l : List Int) (v : Value) (w : World) (h : IntR w v l) (hl : l.length ≤ 1000000) :
    Calls Try.prog 15 #[v, .int .i64 0] w fun e w' => e = .returned (.bool (hasT l 0)) ∧ w' = w := by
  obtain ⟨a, c, rfl, hcells⟩ := h
  have HM := Lib.hid hcells
  obtain ⟨n, hn⟩ : ∃ n, l.length = n := ⟨_, rfl⟩
  have HL := Lib.hid hn
  rw [← has_isT l 0 (by decide)]
  have HY := Lib.hid (any_atL (l := l) (q := isT 0))
  have HN := Lib.hid (any_noL (l := l) (q := isT 0))
  obtain ⟨R, hR⟩ : ∃ R, l.any (isT 0) = R := ⟨_, rfl⟩
  rw [hn] at hl ⊢
  rw [hR] at HY HN ⊢
  clear hcells hn hR
  go_enter Try.func15, Try.ntmps15
  go_wp2
  go_loop [5] (fun v => ∃ k : Nat, k ≤ n ∧ v = .int .i64 (k : Nat) ∧ ∀ j (hj : j < l.length), j < k → isT 0 l[j] = false) (fun v => n - (intOf v).toNat)
  case atStart => exact ⟨0, by omega, rfl, fun j _ h => by omega⟩
  case round =>
    obtain ⟨k, hk, rfl, hall⟩ := hrel
    by_cases hlt : k < n
    · have hkl : (k : Int) < (n : Int) := by omega
      have hkm : k < l.length := by rw [HL.out]; exact hlt
      obtain ⟨g, o, rfl, hg, e0⟩ := HM.out k hkm
      obtain ⟨nm, hnm⟩ : ∃ x, l[k] = x := ⟨_, rfl⟩
      have HYk := Lib.hid (fun hx => HY.out k hkm (by rw [hnm]; exact hx))
      have HA := Lib.hid (fun (hx : isT 0 nm = false) j (hj : j < l.length) (hjk : j < k + 1) => (show isT 0 l[j] = false by
        by_cases hjj : j = k
        · subst hjj; rw [hnm]; exact hx
        · exact hall j hj (by omega)))
      rw [hnm] at e0
      clear hall hnm
      rcases kinds3 nm with rfl | rfl | rfl | ⟨q0, q1, q2, q3, q4⟩
      · have H := Lib.hid (HYk.out (by decide))
        clear HYk HA
        go_wp2
        go_ret
        exact ⟨by rw [H.out]; rfl, rfl⟩
      · have H := Lib.hid (HA.out (by decide))
        clear HYk HA
        go_wp2
        exact ⟨⟨k + 1, by omega, by go_num, H.out⟩, by simp [intOf]; omega⟩
      · have H := Lib.hid (HA.out (by decide))
        clear HYk HA
        go_wp2
        exact ⟨⟨k + 1, by omega, by go_num, H.out⟩, by simp [intOf]; omega⟩
      · have H := Lib.hid (HA.out (by simp [isT, q0, q1, q2, q3, q4]))
        clear HYk HA
        go_wp2
        exact ⟨⟨k + 1, by omega, by go_num, H.out⟩, by simp [intOf]; omega⟩
    · obtain rfl : k = n := by omega
      have H := Lib.hid (HN.out (fun j hj => hall j hj (by rw [← HL.out]; exact hj)))
      clear hall
      go_wp2
      go_ret
      exact ⟨by rw [H.out]; rfl, rfl⟩
set_option maxHeartbeats 1600000 in
set_option maxRecDepth 100000 in
theorem rthas1_any (l : List Int) (v : Value) (w : World) (h : IntR w v l) (hl : l.length ≤ 1000000) :
    Calls Try.prog 15 #[v, .int .i64 1] w fun e w' => e = .returned (.bool (hasT l 1)) ∧ w' = w := by
  obtain ⟨a, c, rfl, hcells⟩ := h
  have HM := Lib.hid hcells
  obtain ⟨n, hn⟩ : ∃ n, l.length = n := ⟨_, rfl⟩
  have HL := Lib.hid hn
  rw [← has_isT l 1 (by decide)]
  have HY := Lib.hid (any_atL (l := l) (q := isT 1))
  have HN := Lib.hid (any_noL (l := l) (q := isT 1))
  obtain ⟨R, hR⟩ : ∃ R, l.any (isT 1) = R := ⟨_, rfl⟩
  rw [hn] at hl ⊢
  rw [hR] at HY HN ⊢
  clear hcells hn hR
  go_enter Try.func15, Try.ntmps15
  go_wp2
  go_loop [5] (fun v => ∃ k : Nat, k ≤ n ∧ v = .int .i64 (k : Nat) ∧ ∀ j (hj : j < l.length), j < k → isT 1 l[j] = false) (fun v => n - (intOf v).toNat)
  case atStart => exact ⟨0, by omega, rfl, fun j _ h => by omega⟩
  case round =>
    obtain ⟨k, hk, rfl, hall⟩ := hrel
    by_cases hlt : k < n
    · have hkl : (k : Int) < (n : Int) := by omega
      have hkm : k < l.length := by rw [HL.out]; exact hlt
      obtain ⟨g, o, rfl, hg, e0⟩ := HM.out k hkm
      obtain ⟨nm, hnm⟩ : ∃ x, l[k] = x := ⟨_, rfl⟩
      have HYk := Lib.hid (fun hx => HY.out k hkm (by rw [hnm]; exact hx))
      have HA := Lib.hid (fun (hx : isT 1 nm = false) j (hj : j < l.length) (hjk : j < k + 1) => (show isT 1 l[j] = false by
        by_cases hjj : j = k
        · subst hjj; rw [hnm]; exact hx
        · exact hall j hj (by omega)))
      rw [hnm] at e0
      clear hall hnm
      rcases kinds3 nm with rfl | rfl | rfl | ⟨q0, q1, q2, q3, q4⟩
      · have H := Lib.hid (HA.out (by decide))
        clear HYk HA
        go_wp2
        exact ⟨⟨k + 1, by omega, by go_num, H.out⟩, by simp [intOf]; omega⟩
      · have H := Lib.hid (HYk.out (by decide))
        clear HYk HA
        go_wp2
        go_ret
        exact ⟨by rw [H.out]; rfl, rfl⟩
      · have H := Lib.hid (HA.out (by decide))
        clear HYk HA
        go_wp2
        exact ⟨⟨k + 1, by omega, by go_num, H.out⟩, by simp [intOf]; omega⟩
      · have H := Lib.hid (HA.out (by simp [isT, q0, q1, q2, q3, q4]))
        clear HYk HA
        go_wp2
        exact ⟨⟨k + 1, by omega, by go_num, H.out⟩, by simp [intOf]; omega⟩
    · obtain rfl : k = n := by omega
      have H := Lib.hid (HN.out (fun j hj => hall j hj (by rw [← HL.out]; exact hj)))
      clear hall
      go_wp2
      go_ret
      exact ⟨by rw [H.out]; rfl, rfl⟩
set_option maxHeartbeats 1600000 in
set_option maxRecDepth 100000 in
theorem rthas2_any (l : List Int) (v : Value) (w : World) (h : IntR w v l) (hl : l.length ≤ 1000000) :
    Calls Try.prog 15 #[v, .int .i64 2] w fun e w' => e = .returned (.bool (hasT l 2)) ∧ w' = w := by
  obtain ⟨a, c, rfl, hcells⟩ := h
  have HM := Lib.hid hcells
  obtain ⟨n, hn⟩ : ∃ n, l.length = n := ⟨_, rfl⟩
  have HL := Lib.hid hn
  rw [← has_isT l 2 (by decide)]
  have HY := Lib.hid (any_atL (l := l) (q := isT 2))
  have HN := Lib.hid (any_noL (l := l) (q := isT 2))
  obtain ⟨R, hR⟩ : ∃ R, l.any (isT 2) = R := ⟨_, rfl⟩
  rw [hn] at hl ⊢
  rw [hR] at HY HN ⊢
  clear hcells hn hR
  go_enter Try.func15, Try.ntmps15
  go_wp2
  go_loop [5] (fun v => ∃ k : Nat, k ≤ n ∧ v = .int .i64 (k : Nat) ∧ ∀ j (hj : j < l.length), j < k → isT 2 l[j] = false) (fun v => n - (intOf v).toNat)
  case atStart => exact ⟨0, by omega, rfl, fun j _ h => by omega⟩
  case round =>
    obtain ⟨k, hk, rfl, hall⟩ := hrel
    by_cases hlt : k < n
    · have hkl : (k : Int) < (n : Int) := by omega
      have hkm : k < l.length := by rw [HL.out]; exact hlt
      obtain ⟨g, o, rfl, hg, e0⟩ := HM.out k hkm
      obtain ⟨nm, hnm⟩ : ∃ x, l[k] = x := ⟨_, rfl⟩
      have HYk := Lib.hid (fun hx => HY.out k hkm (by rw [hnm]; exact hx))
      have HA := Lib.hid (fun (hx : isT 2 nm = false) j (hj : j < l.length) (hjk : j < k + 1) => (show isT 2 l[j] = false by
        by_cases hjj : j = k
        · subst hjj; rw [hnm]; exact hx
        · exact hall j hj (by omega)))
      rw [hnm] at e0
      clear hall hnm
      rcases kinds3 nm with rfl | rfl | rfl | ⟨q0, q1, q2, q3, q4⟩
      · have H := Lib.hid (HA.out (by decide))
        clear HYk HA
        go_wp2
        exact ⟨⟨k + 1, by omega, by go_num, H.out⟩, by simp [intOf]; omega⟩
      · have H := Lib.hid (HA.out (by decide))
        clear HYk HA
        go_wp2
        exact ⟨⟨k + 1, by omega, by go_num, H.out⟩, by simp [intOf]; omega⟩
      · have H := Lib.hid (HYk.out (by decide))
        clear HYk HA
        go_wp2
        go_ret
        exact ⟨by rw [H.out]; rfl, rfl⟩
      · have H := Lib.hid (HYk.out (by simp [isT, q0, q1, q2, q3, q4]))
        clear HYk HA
        go_wp2
        go_ret
        exact ⟨by rw [H.out]; rfl, rfl⟩
    · obtain rfl : k = n := by omega
      have H := Lib.hid (HN.out (fun j hj => hall j hj (by rw [← HL.out]; exact hj)))
      clear hall
      go_wp2
      go_ret
      exact ⟨by rw [H.out]; rfl, rfl⟩
set_option maxHeartbeats 400000 in
theorem rtand_any (l : List Int) (v : Value) (w : World) (h : IntR w v l) (hl : l.length ≤ 1000000) :
    Calls Try.prog 9 #[v] w fun e w' => e = .returned (.int .i64 (andT l)) ∧ w' = w := by
  have HC := Lib.hid (rthas0_any l v w h hl)
  have HD := Lib.hid (rthas2_any l v w h hl)
  obtain ⟨a, c, rfl, _⟩ := h
  rw [and_at l]
  obtain ⟨R, hR⟩ : ∃ R, hasT l 0 = R := ⟨_, rfl⟩
  obtain ⟨S, hS⟩ : ∃ S, hasT l 2 = S := ⟨_, rfl⟩
  rw [hR] at HC ⊢
  rw [hS] at HD ⊢
  clear hR hS
  cases R <;> cases S
  all_goals
    go_enter Try.func9, Try.ntmps9
    go_wp2_with fail
    refine HC.out.mono ?_
    rintro en w5 ⟨rfl, rfl⟩
    go_wp2_with (first | (refine HD.out.mono ?_; rintro en w6 ⟨rfl, rfl⟩))
    go_ret
    exact ⟨rfl, rfl⟩
set_option maxHeartbeats 400000 in
theorem rtor_any (l : List Int) (v : Value) (w : World) (h : IntR w v l) (hl : l.length ≤ 1000000) :
    Calls Try.prog 11 #[v] w fun e w' => e = .returned (.int .i64 (orT l)) ∧ w' = w := by
  have HC := Lib.hid (rthas1_any l v w h hl)
  have HD := Lib.hid (rthas2_any l v w h hl)
  obtain ⟨a, c, rfl, _⟩ := h
  rw [or_at l]
  obtain ⟨R, hR⟩ : ∃ R, hasT l 1 = R := ⟨_, rfl⟩
  obtain ⟨S, hS⟩ : ∃ S, hasT l 2 = S := ⟨_, rfl⟩
  rw [hR] at HC ⊢
  rw [hS] at HD ⊢
  clear hR hS
  cases R <;> cases S
  all_goals
    go_enter Try.func11, Try.ntmps11
    go_wp2_with fail
    refine HC.out.mono ?_
    rintro en w5 ⟨rfl, rfl⟩
    go_wp2_with (first | (refine HD.out.mono ?_; rintro en w6 ⟨rfl, rfl⟩))
    go_ret
    exact ⟨rfl, rfl⟩
theorem rtleast_none (v : Value) (w : World) (h : IntR w v []) :
    Calls Try.prog 13 #[v] w fun e w' => e = .returned (.int .i64 2) ∧ w' = w := by
  have HC := Lib.hid (rthas0_any [] v w h (by decide))
  have HD := Lib.hid (rthas2_any [] v w h (by decide))
  rw [has_nil] at HC HD
  obtain ⟨a, c, rfl, _⟩ := h
  go_enter Try.func13, Try.ntmps13
  go_wp2_with fail
  refine HC.out.mono ?_
  rintro en w5 ⟨rfl, rfl⟩
  go_wp2_with fail
  refine HD.out.mono ?_
  rintro en w6 ⟨rfl, rfl⟩
  go_wp2
  go_ret
  exact ⟨rfl, rfl⟩
set_option maxHeartbeats 400000 in
theorem rtleast_any (l : List Int) (v : Value) (w : World) (h : IntR w v l) (hl : l.length ≤ 1000000) :
    Calls Try.prog 13 #[v] w fun e w' => e = .returned (.int .i64 (leastT l)) ∧ w' = w := by
  by_cases h0 : l = []
  · subst h0
    exact rtleast_none v w h
  · have HC := Lib.hid (rthas0_any l v w h hl)
    have HD := Lib.hid (rthas2_any l v w h hl)
    obtain ⟨a, c, rfl, _⟩ := h
    rw [least_at l h0]
    obtain ⟨R, hR⟩ : ∃ R, hasT l 0 = R := ⟨_, rfl⟩
    obtain ⟨S, hS⟩ : ∃ S, hasT l 2 = S := ⟨_, rfl⟩
    rw [hR] at HC ⊢
    rw [hS] at HD ⊢
    obtain ⟨n, hn⟩ : ∃ n, l.length = n := ⟨_, rfl⟩
    have hn0 : ((n : Int) == 0) = false := by
      rw [← hn]
      cases l with
      | nil => exact absurd rfl h0
      | cons x r => simp; omega
    rw [hn] at HC HD hl ⊢
    clear hR hS hn h0
    cases R <;> cases S
    all_goals
      go_enter Try.func13, Try.ntmps13
      go_wp2_with fail
      refine HC.out.mono ?_
      rintro en w5 ⟨rfl, rfl⟩
      go_wp2_with (first | (refine HD.out.mono ?_; rintro en w6 ⟨rfl, rfl⟩))
      go_ret
      exact ⟨rfl, rfl⟩
end Go.Proofs.Ytpnmhghjpmkilaa
