/- The document's Part and Put, for every name. -/
import Derived.Test.YtlopmppiihhnnaaGreatDoorDnR
namespace Go.Proofs.YtlopmppiihhnnaaGreatDoor
set_option linter.unusedSimpArgs false
set_option linter.unusedVariables false
open Go Go.RowKit Go.Proofs.BerK Go.Proofs.MemK Go.Proofs.UtfK

theorem jn_len (sep : UInt8) (m : Nat) (l : List (List UInt8)) (h : ∀ x ∈ l, x.length ≤ m) (f : Bool) : (jnL sep f l).length ≤ (m + 1) * l.length := by
  induction l generalizing f with
  | nil => simp [jnL]
  | cons x r ih =>
    have h1 := h x (by simp)
    have h2 := ih (fun y hy => h y (by simp [hy])) false
    rw [jnL, List.length_append, List.length_append, List.length_cons, Nat.mul_add]
    have : (if f = true then ([] : List UInt8) else [sep]).length ≤ 1 := by split <;> simp
    omega
theorem pt_len {r : List Av} (h : prL r = true) : (ptL r).length ≤ 6672 := by
  obtain ⟨h1, h2, h3⟩ := prL_facts h
  have := jn_len 43 833 (r.map avL) (fun x hx => by obtain ⟨p, hp, rfl⟩ := List.mem_map.1 hx; exact av_len (h3 p hp)) true
  rw [List.length_map] at this
  rw [ptL]
  have : 834 * r.length ≤ 834 * 8 := Nat.mul_le_mul_left _ h2
  omega

set_option maxHeartbeats 1600000 in
set_option maxRecDepth 100000 in
theorem rpart6_any (v : Value) (r : List Av) (hr : r.length ≤ 8) (hok : ∀ p ∈ r, avOk p = true) (w : World) (h : AvAt w v r) :
    Calls Tryz.prog 69 #[v] w (StrPost (ptL r) w) := by
  have HV := Lib.hid (And.intro h hok)
  obtain ⟨a, c, hv, hcap, _⟩ := id h
  subst hv
  have hr8 : (r.length : Int) ≤ 8 := by omega
  clear h hok
  go_enter Tryz.func69, Tryz.ntmps69
  go_wp2
  go_loopw [3, 4] (fun s v wr => ∃ (k : Nat) (X : List UInt8), k ≤ r.length ∧ v = .int .i64 (k : Nat) ∧ s = .string ⟨X.toArray⟩ ∧ Below w.heap.size w wr ∧ X.length ≤ 834 * k ∧ X ++ jnL 43 (decide (k = 0)) ((r.map avL).drop k) = ptL r) (fun _ v _ => r.length - (intOf v).toNat)
  case atStart => exact ⟨0, [], by omega, rfl, rfl, Below.refl _ _, by simp, rfl⟩
  case round =>
    obtain ⟨k, X, hk, rfl, rfl, hb, hX, hinv⟩ := hrel
    by_cases hlk : k < r.length
    · have hkl : (k : Int) < (r.length : Int) := by omega
      obtain ⟨a2, c2, hv, _, hcl⟩ := HV.out.1
      injection hv with hv1 hv2 hv3
      subst hv1 hv3
      obtain ⟨g, o, rfl, hg, e1w, e2w⟩ := hcl k hlk
      have e1 := (hb.cell (p := ⟨g, _, none⟩) hg).trans e1w
      have e2 := (hb.cell (p := ⟨g, _, none⟩) hg).trans e2w
      have hav := avOk_len (HV.out.2 _ (List.getElem_mem hlk))
      rw [jn_step 43 (r.map avL) k (by simpa using hlk)] at hinv
      simp only [List.getElem_map] at hinv
      obtain ⟨T, hT⟩ : ∃ T, r[k].1 = T := ⟨_, rfl⟩
      obtain ⟨V, hVV⟩ : ∃ V, r[k].2 = V := ⟨_, rfl⟩
      obtain ⟨EV, hEV⟩ : ∃ EV, esL V = EV := ⟨_, rfl⟩
      have hal : avL r[k] = T ++ 61 :: EV := by rw [avL, hT, hVV, hEV]
      rw [hT] at e1 hav
      rw [hVV] at e2 hav
      rw [hal] at hinv
      have HE := Lib.hid (fun w' => resc_any ⟨V.toArray⟩ (by show V.length ≤ _; have := hav.2.2.1; omega) w')
      change Hid (∀ w', Calls Tryz.prog _ _ w' (StrPost (esL V) w')) at HE
      rw [hEV] at HE
      have hTl := hav.1
      have hEl : EV.length ≤ 768 := by rw [← hEV]; exact Nat.le_trans (es_len true V) (by have := hav.2.2.1; omega)
      have hX1 : ∃ X' : List UInt8, (¬ 0 < k ∧ X' = X ∨ 0 < k ∧ X' = X ++ [43]) ∧ X'.length ≤ 834 * k + 1 ∧ (X' ++ (T ++ [61] ++ EV)) ++ jnL 43 (decide (k + 1 = 0)) ((r.map avL).drop (k + 1)) = ptL r := by
        by_cases hk0 : k = 0
        · rw [if_pos hk0, List.nil_append] at hinv
          exact ⟨X, .inl ⟨by omega, rfl⟩, by omega, by rw [← hinv]; simp⟩
        · rw [if_neg hk0] at hinv
          exact ⟨_, .inr ⟨by omega, rfl⟩, by simp; omega, by rw [← hinv]; simp⟩
      obtain ⟨X', hway, hX', hinv'⟩ := hX1
      have H := Lib.hid (And.intro hb (And.intro hX' hinv'))
      have zg := Nat.lt_of_lt_of_le hg hb.size
      have hl0 : ¬ (9223372036854775807 < X.length + 1) := by omega
      clear hb hinv hX hX' hinv' hcl hav hal hT hVV hEV e1w e2w
      rcases hway with ⟨hk0, rfl⟩ | ⟨hk0, rfl⟩
      · have hl1 : ¬ (9223372036854775807 < X'.length + T.length) := by have := H.out.2.1; omega
        have hl2 : ¬ (9223372036854775807 < X'.length + T.length + 1) := by have := H.out.2.1; omega
        have hl3 : ¬ (9223372036854775807 < X'.length + T.length + 1 + EV.length) := by have := H.out.2.1; omega
        go_wp2
        go_region_held3 (fun w' => w'.cell? ⟨g, o + k * 2, none⟩ = some (.string ⟨T.toArray⟩) ∧ w'.cell? ⟨g, o + k * 2 + 1, none⟩ = some (.string ⟨V.toArray⟩)) (first | exact ⟨he0, he1⟩ | exact ⟨e1, e2⟩ | go_keep)
          (first | (go_at_call 98; refine (HE.out _).mono ?_; rintro en w5 ⟨rfl, hb5⟩; have hbV : Below wr.heap.size wr w5 := (Below.refl _ wr).drew.trans hb5; have he0 := (hbV.cell (p := ⟨g, _, none⟩) zg).trans e1; have he1 := (hbV.cell (p := ⟨g, _, none⟩) zg).trans e2))
        have H6 := Lib.hid (H.out.1.trans (hbV.mono H.out.1.size))
        clear hbV hb5
        go_wp2
        refine ⟨⟨k + 1, X' ++ (T ++ [61] ++ EV), by omega, by go_num, ?_, H6.out, ?_, H.out.2.2⟩, by simp [intOf]; omega⟩
        · rw [show (⟨#[61]⟩ : ByteArray) = ⟨[61].toArray⟩ from rfl, cat_l, cat_l, cat_l]; simp
        · have := H.out.2.1; simp; omega
      · have hl1 : ¬ (9223372036854775807 < X.length + 1 + T.length) := by have := H.out.2.1; simp at this; omega
        have hl2 : ¬ (9223372036854775807 < X.length + 1 + T.length + 1) := by have := H.out.2.1; simp at this; omega
        have hl3 : ¬ (9223372036854775807 < X.length + 1 + T.length + 1 + EV.length) := by have := H.out.2.1; simp at this; omega
        go_wp2
        go_region_held3 (fun w' => w'.cell? ⟨g, o + k * 2, none⟩ = some (.string ⟨T.toArray⟩) ∧ w'.cell? ⟨g, o + k * 2 + 1, none⟩ = some (.string ⟨V.toArray⟩)) (first | exact ⟨he0, he1⟩ | exact ⟨e1, e2⟩ | go_keep)
          (first | (go_at_call 98; refine (HE.out _).mono ?_; rintro en w5 ⟨rfl, hb5⟩; have hbV : Below wr.heap.size wr w5 := (Below.refl _ wr).drew.trans hb5; have he0 := (hbV.cell (p := ⟨g, _, none⟩) zg).trans e1; have he1 := (hbV.cell (p := ⟨g, _, none⟩) zg).trans e2))
        have H6 := Lib.hid (H.out.1.trans (hbV.mono H.out.1.size))
        clear hbV hb5
        go_wp2
        refine ⟨⟨k + 1, (X ++ [43]) ++ (T ++ [61] ++ EV), by omega, by go_num, ?_, H6.out, ?_, H.out.2.2⟩, by simp [intOf]; omega⟩
        · rw [show (⟨#[61]⟩ : ByteArray) = ⟨[61].toArray⟩ from rfl, show (⟨#[43]⟩ : ByteArray) = ⟨[43].toArray⟩ from rfl, cat_l, cat_l, cat_l, cat_l]; simp
        · have := H.out.2.1; simp at this ⊢; omega
    · obtain rfl : k = r.length := by omega
      rw [show r.length = (r.map avL).length by simp, jn_end, List.append_nil] at hinv
      subst hinv
      have H := Lib.hid hb
      clear hb
      go_wp2
      go_ret
      exact ⟨rfl, H.out⟩

set_option maxHeartbeats 1600000 in
set_option maxRecDepth 100000 in
theorem rput6_any (v : Value) (d : List (List Av)) (hs : ∀ r ∈ d, ∀ p ∈ r, p.1.length ≤ 140737488355328) (w : World) (h : DnAt w v d) :
    Calls Tryz.prog 47 #[v] w (PutPost (puD d) w) := by
  have HC := Lib.hid (rcheck6_any v d hs w h)
  have HA := Lib.hid h
  obtain ⟨a, c, hv, hcap, _⟩ := id h
  subst hv
  clear h hs
  by_cases h0 : ckD d = 0
  · rw [h0] at HC
    obtain ⟨hd1, hd2⟩ := ckD_facts h0
    have HL := Lib.hid (puD_long d h0)
    have HO := Lib.hid (puD_ok d h0)
    have hd3 : (d.length : Int) ≤ 32 := by omega
    clear h0
    go_enter Tryz.func47, Tryz.ntmps47
    go_wp2_with fail
    refine HC.out.mono ?_
    rintro e w1 ⟨rfl, hb1⟩
    go_wp2
    go_loopw [5, 6] (fun s v wr => ∃ (k : Nat) (X : List UInt8), k ≤ d.length ∧ v = .int .i64 (k : Nat) ∧ s = .string ⟨X.toArray⟩ ∧ Below w.heap.size w wr ∧ X.length ≤ 6700 * k ∧ X ++ jnL 44 (decide (k = 0)) ((d.map ptL).drop k) = nmL d) (fun _ v _ => d.length - (intOf v).toNat)
    case atStart => exact ⟨0, [], by omega, rfl, rfl, hb1, by simp, rfl⟩
    case round =>
      obtain ⟨k, X, hk, rfl, rfl, hb, hX, hinv⟩ := hrel
      by_cases hlt : k < d.length
      · obtain ⟨a', c', hv, _, hcells⟩ := HA.out
        injection hv with hv1 hv2 hv3
        subst hv1 hv3
        obtain ⟨g, o, u, rfl, hg, c1w, hav⟩ := hcells k hlt
        have c1 := (hb.cell (p := ⟨g, _, none⟩) hg).trans c1w
        have hkl : (k : Int) < (d.length : Int) := by omega
        have hpr := hd2 _ (List.getElem_mem hlt)
        obtain ⟨hr1, hr2, hr3⟩ := prL_facts hpr
        have hpl := pt_len hpr
        have HP := Lib.hid (fun w' (hb' : Below w.heap.size w w') => rpart6_any u d[k] hr2 hr3 w' (avAt_below hav hb'))
        rw [jn_step 44 (d.map ptL) k (by simpa using hlt)] at hinv
        simp only [List.getElem_map] at hinv
        obtain ⟨P, hP⟩ : ∃ P, ptL d[k] = P := ⟨_, rfl⟩
        rw [hP] at HP hinv hpl
        obtain ⟨ua, uc, hu, _, _⟩ := hav
        subst hu
        have hl0 : ¬ (9223372036854775807 < X.length + 1) := by omega
        have hl1 : ¬ (9223372036854775807 < X.length + P.length) := by omega
        have hl2 : ¬ (9223372036854775807 < X.length + 1 + P.length) := by omega
        have hway : (¬ 0 < k ∧ (X ++ P) ++ jnL 44 (decide (k + 1 = 0)) ((d.map ptL).drop (k + 1)) = nmL d) ∨ (0 < k ∧ (X ++ [44] ++ P) ++ jnL 44 (decide (k + 1 = 0)) ((d.map ptL).drop (k + 1)) = nmL d) := by
          by_cases hk0 : k = 0
          · rw [if_pos hk0, List.nil_append, ← List.append_assoc] at hinv
            exact .inl ⟨by omega, hinv⟩
          · rw [if_neg hk0, ← List.append_assoc, ← List.append_assoc] at hinv
            exact .inr ⟨by omega, hinv⟩
        have H := Lib.hid (And.intro hb (And.intro hX hpl))
        clear hb hinv hX hcells hP hr1 hr2 hr3 hpr hpl c1w
        rcases hway with ⟨hk0, hi⟩ | ⟨hk0, hi⟩
        · have HI := Lib.hid hi
          clear hi
          go_wp2_with fail
          refine (HP.out _ H.out.1).mono ?_
          rintro e w2 ⟨rfl, hb2⟩
          have H2 := Lib.hid (H.out.1.trans (hb2.mono H.out.1.size))
          clear hb2
          go_wp2
          refine ⟨⟨k + 1, X ++ P, by omega, by go_num, by rw [cat_l], H2.out, ?_, HI.out⟩, by simp [intOf]; omega⟩
          have := H.out.2; simp; omega
        · have HI := Lib.hid hi
          clear hi
          go_wp2_with fail
          refine (HP.out _ H.out.1).mono ?_
          rintro e w2 ⟨rfl, hb2⟩
          have H2 := Lib.hid (H.out.1.trans (hb2.mono H.out.1.size))
          clear hb2
          go_wp2
          refine ⟨⟨k + 1, X ++ [44] ++ P, by omega, by go_num, by rw [show (⟨#[44]⟩ : ByteArray) = ⟨[44].toArray⟩ from rfl, cat_l, cat_l], H2.out, ?_, HI.out⟩, by simp [intOf]; omega⟩
          have := H.out.2; simp; omega
      · obtain rfl : k = d.length := by omega
        rw [show d.length = (d.map ptL).length by simp, jn_end, List.append_nil] at hinv
        subst hinv
        have H := Lib.hid hb
        clear hb
        by_cases h4 : 4096 < (nmL d).length
        · have HR := Lib.hid (HL.out h4)
          have hq : (4096 : Int) < ((nmL d).length : Int) := by omega
          clear h4
          go_wp2
          go_ret2
          exact putPost_mk (a := []) (n := 3) HR.out H.out
        · have HR := Lib.hid (HO.out h4)
          have hq : ((nmL d).length : Int) ≤ 4096 := by omega
          clear h4
          go_wp2
          go_ret2
          exact putPost_mk (n := 0) HR.out H.out
  · have HR := Lib.hid (puD_err d h0)
    obtain ⟨n, hn⟩ : ∃ n, ckD d = n := ⟨_, rfl⟩
    rw [hn] at HC HR h0
    have hq : ((n : Int) != 0) = true := by simp; omega
    clear h0 hn
    go_enter Tryz.func47, Tryz.ntmps47
    go_wp2_with fail
    refine HC.out.mono ?_
    rintro e w1 ⟨rfl, hb1⟩
    go_wp2
    go_ret2
    exact putPost_mk (a := []) HR.out hb1
end Go.Proofs.YtlopmppiihhnnaaGreatDoor
