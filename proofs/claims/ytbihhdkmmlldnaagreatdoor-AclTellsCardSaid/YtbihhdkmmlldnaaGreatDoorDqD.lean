/- The document's Lower, Check, Part and Put, for every name. The document's Part and Put, for every name. -/
import Derived.Test.YtbihhdkmmlldnaaGreatDoorDqC
import Derived.Test.YtbihhdkmmlldnaaGreatDoorDqA
import Derived.Test.YtbihhdkmmlldnaaGreatDoorDqB
namespace Go.Proofs.YtbihhdkmmlldnaaGreatDoor
set_option linter.unusedSimpArgs false
set_option linter.unusedVariables false
open Go Go.RowKit Go.Proofs.BerK Go.Proofs.MemK Go.Proofs.UtfK

theorem low_snoc (s : ByteArray) (k : Nat) (h : k < s.size) : lowL (s.data.toList.take (k + 1)) = lowL (s.data.toList.take k) ++ [low1 s[k]] := by
  rw [take_snoc s k h]; simp [lowL]

set_option maxHeartbeats 1600000 in
set_option maxRecDepth 100000 in
theorem rlow5_any (s : ByteArray) (hm : s.size ≤ 140737488355328) (w : World) :
    Calls Tryz.prog 35 #[.string s] w (StrPost (lowL s.data.toList) w) := by
  have hsz := len_list s
  go_enter Tryz.func35, Tryz.ntmps35
  go_wp2
  go_loopw [3, 4] (fun o v wr => ∃ k : Nat, k ≤ s.size ∧ v = .int .i64 (k : Nat) ∧ wr.ownsRow w.heap.size 5 1 o k (bc (lowL (s.data.toList.take k))) ∧ Below w.heap.size w wr) (fun _ v _ => s.size - (intOf v).toNat)
  case atStart => exact ⟨0, by omega, rfl, World.ownsRow_nil _ _ _ _, Below.refl _ _⟩
  case round =>
    obtain ⟨k, hk, rfl, hown, hb⟩ := hrel
    by_cases hlt : k < s.size
    · have hkl : (k : Int) < (s.size : Int) := by omega
      have h8 : s[k].toNat < 256 := s[k].toNat_lt
      have hlow := low1_toNat s[k]
      have HS := Lib.hid (low_snoc s k hlt)
      have H := Lib.hid (And.intro hown hb)
      clear hown hb
      obtain ⟨x, hx⟩ : ∃ x, s[k] = x := ⟨_, rfl⟩
      rw [hx] at h8 hlow HS
      have hw : ((65 : Int) ≤ (x.toNat : Int) ∧ (x.toNat : Int) ≤ 90 ∧ ((low1 x).toNat : Int) = (x.toNat : Int) + 32) ∨ ((x.toNat : Int) < 65 ∧ (low1 x).toNat = x.toNat) ∨ ((65 : Int) ≤ (x.toNat : Int) ∧ (90 : Int) < (x.toNat : Int) ∧ (low1 x).toNat = x.toNat) := by
        by_cases hu : 65 ≤ x.toNat ∧ x.toNat ≤ 90
        · rw [if_pos hu] at hlow; exact .inl ⟨by omega, by omega, by omega⟩
        · rw [if_neg hu] at hlow; omega
      clear hlow
      rcases hw with ⟨q1, q2, q3⟩ | ⟨q1, q3⟩ | ⟨q1, q2, q3⟩
      · have HQ := Lib.hid q3
        clear q3
        go_wp2_with (at_builtin; refine wpList_pushm rfl (.tmp 23) (.tmp 25) 77 5 rfl w.heap.size 1 1 (.int .u8 0) Tryz.info5 Tryz.underlying77 rfl (by decide) 1 [.int .u8 ((x.toNat : Int) + 32)] rfl ?c0 _ k _ rfl _ rfl ?c3 H.out.1 ?c1 ?c2 H.out.2.size ?_)
        case c0 => first | rfl | (intro u hu; simp at hu; subst hu; rfl)
        case c1 => unfold maxLen; omega
        case c2 => omega
        case c3 => rfl
        intro v' w' g1 g2
        go_wp2
        refine ⟨⟨k + 1, by omega, by go_num, ?_, H.out.2.trans g2⟩, by simp [intOf]; omega⟩
        rw [HS.out, bc_append]
        rw [← HQ.out] at g1; exact g1
      all_goals
        have HQ := Lib.hid q3
        clear q3
        go_wp2_with (at_builtin; refine wpList_pushm rfl (.tmp 23) (.tmp 25) 77 5 rfl w.heap.size 1 1 (.int .u8 0) Tryz.info5 Tryz.underlying77 rfl (by decide) 1 [.int .u8 (x.toNat : Int)] rfl ?c0 _ k _ rfl _ rfl ?c3 H.out.1 ?c1 ?c2 H.out.2.size ?_)
        case c0 => first | rfl | (intro u hu; simp at hu; subst hu; rfl)
        case c1 => unfold maxLen; omega
        case c2 => omega
        case c3 => rfl
        intro v' w' g1 g2
        go_wp2
        refine ⟨⟨k + 1, by omega, by go_num, ?_, H.out.2.trans g2⟩, by simp [intOf]; omega⟩
        rw [HS.out, bc_append]
        rw [← HQ.out] at g1; exact g1
    · obtain rfl : k = s.size := by omega
      rw [List.take_of_length_le (by omega)] at hown
      have hc := conv_own' (P := Tryz.prog) (src := 77) (dst := 9) Tryz.underlying77 Tryz.underlying5 Tryz.underlying9 hown
      have H := Lib.hid hb
      clear hb hown
      go_wp2
      go_ret
      exact ⟨rfl, H.out⟩

theorem tw_step (r : List Av) (T : List UInt8) (j k : Nat) (h : j < k) (hk : k ≤ r.length) : (r.take (j + 1)).any (fun q => lowL q.1 == lowL T) = ((r.take j).any (fun q => lowL q.1 == lowL T) || (lowL (r[j]'(by omega)).1 == lowL T)) := by
  rw [any_take (fun q : Av => lowL q.1 == lowL T) r j (by omega)]
theorem any_more {r : List Av} {p : Av → Bool} {j k : Nat} (h : j ≤ k) (h1 : (r.take j).any p = true) : (r.take k).any p = true := by
  rw [List.any_eq_true] at h1 ⊢
  obtain ⟨x, hx, hp⟩ := h1
  refine ⟨x, ?_, hp⟩
  have : r.take j = (r.take k).take j := by rw [List.take_take, Nat.min_eq_left h]
  rw [this] at hx
  exact List.mem_of_mem_take hx

set_option maxHeartbeats 3200000 in
set_option maxRecDepth 100000 in
theorem rcheck6_any (v : Value) (d : List (List Av)) (hs : ∀ r ∈ d, ∀ p ∈ r, p.1.length ≤ 140737488355328) (w : World) (h : DnAt w v d) :
    Calls Tryz.prog 65 #[v] w (NumPost (ckD d) w) := by
  have HA := Lib.hid h
  obtain ⟨a, c, hv, hcap, _⟩ := id h
  subst hv
  clear h
  by_cases h0 : 32 < d.length
  · have H := Lib.hid (ckD_long d h0)
    have h1 : (32 : Int) < (d.length : Int) := by omega
    clear h0
    go_enter Tryz.func65, Tryz.ntmps65
    go_wp2
    go_ret
    exact numPost_mk H.out (Below.refl _ _)
  have h1 : (d.length : Int) ≤ 32 := by omega
  have HB := Lib.hid (ckD_bad d (by omega))
  have HG := Lib.hid (ckD_good d (by omega))
  have HS := Lib.hid hs
  clear h0 hs
  go_enter Tryz.func65, Tryz.ntmps65
  go_wp2
  go_loopw [3] (fun v wr => ∃ i : Nat, i ≤ d.length ∧ v = .int .i64 (i : Nat) ∧ Below w.heap.size w wr ∧ (d.take i).all prL = true) (fun v _ => d.length - (intOf v).toNat)
  case atStart => exact ⟨0, by omega, rfl, Below.refl _ _, rfl⟩
  case round =>
    obtain ⟨i, hi, rfl, hb, hall⟩ := hrel
    by_cases hlt : i < d.length
    · obtain ⟨a', c', hv, _, hcells⟩ := HA.out
      injection hv with hv1 hv2 hv3
      subst hv1 hv3
      obtain ⟨g, o, u, rfl, hg, c1w, hav⟩ := hcells i hlt
      have c1 := (hb.cell (p := ⟨g, _, none⟩) hg).trans c1w
      have hil : (i : Int) < (d.length : Int) := by omega
      have HBi := Lib.hid (HB.out i hlt)
      have HT := Lib.hid (fun h => all_take prL d i hlt hall h)
      have HSr := Lib.hid (HS.out _ (List.getElem_mem hlt))
      obtain ⟨r, hr⟩ : ∃ r, d[i] = r := ⟨_, rfl⟩
      rw [hr] at hav HBi HT HSr
      obtain ⟨ua, uc, hu, hucap, _⟩ := id hav
      subst hu
      have HV := Lib.hid hav
      have HC1 := Lib.hid (And.intro hg c1w)
      have HH := Lib.hid hb
      clear hcells hav hall hr c1w hb
      by_cases hr0 : r.length < 1 ∨ 8 < r.length
      · have H := Lib.hid (HBi.out (show prL r = false by simp only [prL, Bool.and_eq_false_iff, decide_eq_false_iff_not]; omega))
        have hr0' : (r.length : Int) < 1 ∨ (1 ≤ (r.length : Int) ∧ (8 : Int) < (r.length : Int)) := by omega
        clear hr0
        rcases hr0' with q1 | ⟨q1, q2⟩
        all_goals
          go_wp2
          go_ret
          exact numPost_mk H.out HH.out
      · have q1 : (1 : Int) ≤ (r.length : Int) := by omega
        have q2 : (r.length : Int) ≤ 8 := by omega
        have HP := Lib.hid (show prL r = pgL [] r by simp only [prL, Bool.and_eq_true, decide_eq_true_eq]; rw [show decide (1 ≤ r.length) = true by simp; omega, show decide (r.length ≤ 8) = true by simp; omega]; rfl)
        clear hr0
        go_wp2
        go_loopw [4] (fun v wr => ∃ k : Nat, k ≤ r.length ∧ v = .int .i64 (k : Nat) ∧ Below w.heap.size w wr ∧ pgL (r.take k) (r.drop k) = prL r) (fun v _ => r.length - (intOf v).toNat)
        case atStart => exact ⟨0, by omega, rfl, HH.out, by rw [HP.out]; rfl⟩
        case round =>
          obtain ⟨k, hk, rfl, hb, hinv⟩ := hrel
          have c1 := (hb.cell (p := ⟨g, _, none⟩) HC1.out.1).trans HC1.out.2
          by_cases hlk : k < r.length
          · have hkl : (k : Int) < (r.length : Int) := by omega
            obtain ⟨a2, c2, hv, _, hcl⟩ := HV.out
            injection hv with hv1 hv2 hv3
            subst hv1 hv3
            obtain ⟨g2, o2, rfl, hg2, e1w, e2w⟩ := hcl k hlk
            have e1 := (hb.cell (p := ⟨g2, _, none⟩) hg2).trans e1w
            have e2 := (hb.cell (p := ⟨g2, _, none⟩) hg2).trans e2w
            rw [pg_step r k hlk] at hinv
            have hTs := HSr.out _ (List.getElem_mem hlk)
            obtain ⟨T, hT⟩ : ∃ T, r[k].1 = T := ⟨_, rfl⟩
            obtain ⟨V, hVV⟩ : ∃ V, r[k].2 = V := ⟨_, rfl⟩
            have hw := avOk_ways r[k]
            have htw : twL (r.take k) r[k] = (r.take k).any (fun q => lowL q.1 == lowL T) := by rw [twL, hT]
            rw [hT, hVV] at hw
            rw [hT] at e1 e1w hTs
            rw [hVV] at e2 e2w
            have HT1 := Lib.hid (rtyped_any ⟨T.toArray⟩ (show (⟨T.toArray⟩ : ByteArray).size ≤ _ from hTs))
            change Hid (∀ w, Calls Tryz.prog _ _ w (PureB (tyL T) w)) at HT1
            obtain ⟨bx, hbx⟩ : ∃ bx, wr.heap.size = bx := ⟨_, rfl⟩
            obtain ⟨W2, hW2⟩ : ∃ W2, wr.alloc (.cells #[.string ⟨T.toArray⟩, .string ⟨V.toArray⟩] 89) = W2 := ⟨_, rfl⟩
            have hbox : W2.heap[bx]? = some (.cells #[.string ⟨T.toArray⟩, .string ⟨V.toArray⟩] 89 (0, 0)) := by rw [← hW2, ← hbx]; exact heap_alloc_new wr _
            have hbW : Below w.heap.size w W2 := by rw [← hW2]; exact hb.alloc hb.size _
            have d1 := obj_cell hbox 0 _ rfl
            have d2 := obj_cell hbox 1 _ rfl
            have d3 := (hbW.cell (p := ⟨g, _, none⟩) HC1.out.1).trans HC1.out.2
            rcases hw with ⟨hok, hw⟩ | ⟨hok, hw1, hw2, hw3⟩
            · rw [hok, Bool.false_and, Bool.false_and] at hinv
              have H := Lib.hid (And.intro hbW (HBi.out hinv.symm))
              clear hinv hb hcl hok htw hT hVV hbox hbW e1w e2w hTs
              rcases hw with hw | ⟨hw, hV0⟩ | ⟨hw, hw2, hw3⟩
              · rw [hw] at HT1
                go_wp2_with fail
                refine (HT1.out _).mono ?_
                rintro e w2 ⟨rfl, hw2⟩
                obtain rfl := hw2.symm
                go_wp2
                go_ret
                exact numPost_mk H.out.2 H.out.1
              · rw [hw] at HT1
                have hem : (V.length : Int) < 1 := by rw [hV0]; decide
                clear hV0
                go_wp2_with fail
                refine (HT1.out _).mono ?_
                rintro e w2 ⟨rfl, hw2⟩
                obtain rfl := hw2.symm
                go_wp2
                go_ret
                exact numPost_mk H.out.2 H.out.1
              · rw [hw] at HT1
                have hgt : (256 : Int) < (V.length : Int) := by omega
                clear hw2 hw3
                go_wp2_with fail
                refine (HT1.out _).mono ?_
                rintro e w2 ⟨rfl, hw2⟩
                obtain rfl := hw2.symm
                go_wp2
                go_ret
                exact numPost_mk H.out.2 H.out.1
            · rw [hok, Bool.true_and] at hinv
              rw [hw1] at HT1
              have hge : (1 : Int) ≤ (V.length : Int) := by have := List.length_pos_iff.2 hw2; omega
              have hgt : (V.length : Int) ≤ 256 := by omega
              have HI := Lib.hid (And.intro hinv htw)
              have HW2 := Lib.hid (And.intro hbW (And.intro hbox (avAt_below HV.out hbW)))
              have HTs := Lib.hid hTs
              clear hinv htw hb hcl hok hT hVV hbox hbW e1w e2w hTs hw1 hw2 hw3
              go_wp2_with fail
              refine (HT1.out _).mono ?_
              rintro e w2 ⟨rfl, hw2⟩
              obtain rfl := hw2.symm
              go_wp2
              go_loopw [6] (fun v wr => ∃ j : Nat, j ≤ k ∧ v = .int .i64 (j : Nat) ∧ Below W2.heap.size W2 wr ∧ (r.take j).any (fun q => lowL q.1 == lowL T) = false) (fun v _ => k - (intOf v).toNat)
              case atStart => exact ⟨0, by omega, rfl, Below.refl _ _, rfl⟩
              case round =>
                obtain ⟨j, hj, rfl, hb, hany⟩ := hrel
                have z1 := obj_lt HW2.out.2.1
                have f1 := (hb.cell (p := ⟨bx, 0, none⟩) z1).trans (obj_cell HW2.out.2.1 0 _ rfl)
                have f3 := (hb.cell (p := ⟨g, _, none⟩) (Nat.lt_of_lt_of_le HC1.out.1 HW2.out.1.size)).trans d3
                by_cases hlj : j < k
                · obtain ⟨a3, c3, hv, _, hcl⟩ := HW2.out.2.2
                  injection hv with hv1 hv2 hv3
                  subst hv1 hv3
                  obtain ⟨g3, o3, hv1', hg3, e3, _⟩ := hcl j (by omega)
                  injection hv1' with hv1'
                  injection hv1' with hv4 hv5 _
                  subst hv4 hv5
                  have hjr : (j : Int) < (r.length : Int) := by omega
                  have hjk : (j : Int) < (k : Int) := by omega
                  have hst := tw_step r T j k hlj (by omega)
                  rw [hany, Bool.false_or] at hst
                  have hUs := HSr.out _ (List.getElem_mem (show j < r.length by omega))
                  obtain ⟨U, hU⟩ : ∃ U, (r[j]'(by omega)).1 = U := ⟨_, rfl⟩
                  rw [hU] at e3 hst hUs
                  have f2 := (hb.cell (p := ⟨g2, _, none⟩) hg3).trans e3
                  obtain ⟨q, hq⟩ : ∃ q, (lowL U == lowL T) = q := ⟨_, rfl⟩
                  rw [hq] at hst
                  have zg := Nat.lt_of_lt_of_le (Nat.lt_of_lt_of_le HC1.out.1 HW2.out.1.size) hb.size
                  have zg2 := Nat.lt_of_lt_of_le hg3 hb.size
                  have zb := Nat.lt_of_lt_of_le z1 hb.size
                  have HL1 := Lib.hid (rlow5_any ⟨U.toArray⟩ (show (⟨U.toArray⟩ : ByteArray).size ≤ _ from hUs))
                  change Hid (∀ w, Calls Tryz.prog _ _ w (StrPost (lowL U) w)) at HL1
                  have HL2 := Lib.hid (rlow5_any ⟨T.toArray⟩ (show (⟨T.toArray⟩ : ByteArray).size ≤ _ from HTs.out))
                  change Hid (∀ w, Calls Tryz.prog _ _ w (StrPost (lowL T) w)) at HL2
                  have H := Lib.hid (And.intro hb hst)
                  clear hb hany hst hcl hU hUs e3
                  go_wp2
                  go_region_held3 (fun w' => w'.cell? ⟨g, o + i, none⟩ = some (.slice (some ⟨g2, o2, none⟩) r.length uc) ∧ w'.cell? ⟨g2, o2 + j * 2, none⟩ = some (.string ⟨U.toArray⟩) ∧ w'.cell? ⟨bx, 0, none⟩ = some (.string ⟨T.toArray⟩)) (first | exact ⟨he0, he1, he2⟩ | exact ⟨f3, f2, f1⟩ | go_keep)
                    (first | (go_at_call_of 35 (Value.string ⟨U.toArray⟩); refine (HL1.out _).mono ?_; rintro en w5 ⟨rfl, hb5⟩; have hbV : Below wr.heap.size wr w5 := (by first | exact hbV.trans (hb5.mono hbV.size) | exact (Below.refl _ wr).drew.trans hb5); have he0 := (hbV.cell (p := ⟨g, _, none⟩) zg).trans f3; have he1 := (hbV.cell (p := ⟨g2, _, none⟩) zg2).trans f2; have he2 := (hbV.cell (p := ⟨bx, _, none⟩) zb).trans f1) | (go_at_call_of 35 (Value.string ⟨T.toArray⟩); refine (HL2.out _).mono ?_; rintro en w5 ⟨rfl, hb5⟩; have hbV : Below wr.heap.size wr w5 := (by first | exact hbV.trans (hb5.mono hbV.size) | exact (Below.refl _ wr).drew.trans hb5); have he0 := (hbV.cell (p := ⟨g, _, none⟩) zg).trans f3; have he1 := (hbV.cell (p := ⟨g2, _, none⟩) zg2).trans f2; have he2 := (hbV.cell (p := ⟨bx, _, none⟩) zb).trans f1))
                  have H6 := Lib.hid (H.out.1.trans (hbV.mono H.out.1.size))
                  clear hbV hb5
                  cases q
                  · go_wp2
                    refine ⟨⟨j + 1, by omega, by go_num, H6.out, H.out.2⟩, by simp [intOf]; omega⟩
                  · go_wp2
                    go_ret
                    refine numPost_mk (HBi.out ?_).symm.symm (HW2.out.1.trans (H6.out.mono HW2.out.1.size))
                    have h9 := HI.out.1
                    rw [HI.out.2, any_more (k := k) (by omega) H.out.2] at h9
                    simpa using h9.symm
                · obtain rfl : j = k := by omega
                  have h9 := HI.out.1
                  rw [HI.out.2, hany] at h9
                  have H := Lib.hid (And.intro (HW2.out.1.trans (hb.mono HW2.out.1.size)) (show pgL (r.take (j + 1)) (r.drop (j + 1)) = prL r by simpa using h9))
                  clear hb hany h9
                  go_wp2
                  refine ⟨⟨j + 1, by omega, by go_num, H.out.1, H.out.2⟩, by simp [intOf]; omega⟩
          · obtain rfl : k = r.length := by omega
            rw [pg_end] at hinv
            have H := Lib.hid (And.intro hb (HT.out hinv.symm))
            clear hb hinv
            go_wp2
            refine ⟨⟨i + 1, by omega, by go_num, H.out.1, H.out.2⟩, by simp [intOf]; omega⟩
    · obtain rfl : i = d.length := by omega
      rw [List.take_length] at hall
      have H := Lib.hid (And.intro hb (HG.out hall))
      clear hb hall
      go_wp2
      go_ret
      exact numPost_mk H.out.2 H.out.1
end Go.Proofs.YtbihhdkmmlldnaaGreatDoor
namespace Go.Proofs.YtbihhdkmmlldnaaGreatDoor
set_option linter.unusedSimpArgs false
set_option linter.unusedVariables false
open Go Go.RowKit Go.Proofs.BerK Go.Proofs.MemK Go.Proofs.UtfK

theorem jn_len (sep : UInt8) (m : Nat) (l : List (List UInt8)) (h : ∀ x ∈ l, x.length ≤ m) (f : Bool) : (jnL sep f l).length ≤ (m + 1) * l.length := by
  induction l generalizing f with
  | nil => simp [jnL]
  | cons x r ih =>
    have h1 := h x (by simp)
    have h2 := ih (fun y hy => h y (by simp [hy])) false
    rw [jnL, List.length_append, List.length_append, List.length_cons, Nat.mul_add]
    have : (if f = true then ([] : List UInt8) else [sep]).length ≤ 1 := by split <;> simp
    omega
theorem pt_len {r : List Av} (h : prL r = true) : (ptL r).length ≤ 6672 := by
  obtain ⟨h1, h2, h3⟩ := prL_facts h
  have := jn_len 43 833 (r.map avL) (fun x hx => by obtain ⟨p, hp, rfl⟩ := List.mem_map.1 hx; exact av_len (h3 p hp)) true
  rw [List.length_map] at this
  rw [ptL]
  have : 834 * r.length ≤ 834 * 8 := Nat.mul_le_mul_left _ h2
  omega

set_option maxHeartbeats 1600000 in
set_option maxRecDepth 100000 in
theorem rpart6_any (v : Value) (r : List Av) (hr : r.length ≤ 8) (hok : ∀ p ∈ r, avOk p = true) (w : World) (h : AvAt w v r) :
    Calls Tryz.prog 49 #[v] w (StrPost (ptL r) w) := by
  have HV := Lib.hid (And.intro h hok)
  obtain ⟨a, c, hv, hcap, _⟩ := id h
  subst hv
  have hr8 : (r.length : Int) ≤ 8 := by omega
  clear h hok
  go_enter Tryz.func49, Tryz.ntmps49
  go_wp2
  go_loopw [3, 4] (fun s v wr => ∃ (k : Nat) (X : List UInt8), k ≤ r.length ∧ v = .int .i64 (k : Nat) ∧ s = .string ⟨X.toArray⟩ ∧ Below w.heap.size w wr ∧ X.length ≤ 834 * k ∧ X ++ jnL 43 (decide (k = 0)) ((r.map avL).drop k) = ptL r) (fun _ v _ => r.length - (intOf v).toNat)
  case atStart => exact ⟨0, [], by omega, rfl, rfl, Below.refl _ _, by simp, rfl⟩
  case round =>
    obtain ⟨k, X, hk, rfl, rfl, hb, hX, hinv⟩ := hrel
    by_cases hlk : k < r.length
    · have hkl : (k : Int) < (r.length : Int) := by omega
      obtain ⟨a2, c2, hv, _, hcl⟩ := HV.out.1
      injection hv with hv1 hv2 hv3
      subst hv1 hv3
      obtain ⟨g, o, rfl, hg, e1w, e2w⟩ := hcl k hlk
      have e1 := (hb.cell (p := ⟨g, _, none⟩) hg).trans e1w
      have e2 := (hb.cell (p := ⟨g, _, none⟩) hg).trans e2w
      have hav := avOk_len (HV.out.2 _ (List.getElem_mem hlk))
      rw [jn_step 43 (r.map avL) k (by simpa using hlk)] at hinv
      simp only [List.getElem_map] at hinv
      obtain ⟨T, hT⟩ : ∃ T, r[k].1 = T := ⟨_, rfl⟩
      obtain ⟨V, hVV⟩ : ∃ V, r[k].2 = V := ⟨_, rfl⟩
      obtain ⟨EV, hEV⟩ : ∃ EV, esL V = EV := ⟨_, rfl⟩
      have hal : avL r[k] = T ++ 61 :: EV := by rw [avL, hT, hVV, hEV]
      rw [hT] at e1 hav
      rw [hVV] at e2 hav
      rw [hal] at hinv
      have HE := Lib.hid (fun w' => resc_any ⟨V.toArray⟩ (by show V.length ≤ _; have := hav.2.2.1; omega) w')
      change Hid (∀ w', Calls Tryz.prog _ _ w' (StrPost (esL V) w')) at HE
      rw [hEV] at HE
      have hTl := hav.1
      have hEl : EV.length ≤ 768 := by rw [← hEV]; exact Nat.le_trans (es_len true V) (by have := hav.2.2.1; omega)
      have hX1 : ∃ X' : List UInt8, (¬ 0 < k ∧ X' = X ∨ 0 < k ∧ X' = X ++ [43]) ∧ X'.length ≤ 834 * k + 1 ∧ (X' ++ (T ++ [61] ++ EV)) ++ jnL 43 (decide (k + 1 = 0)) ((r.map avL).drop (k + 1)) = ptL r := by
        by_cases hk0 : k = 0
        · rw [if_pos hk0, List.nil_append] at hinv
          exact ⟨X, .inl ⟨by omega, rfl⟩, by omega, by rw [← hinv]; simp⟩
        · rw [if_neg hk0] at hinv
          exact ⟨_, .inr ⟨by omega, rfl⟩, by simp; omega, by rw [← hinv]; simp⟩
      obtain ⟨X', hway, hX', hinv'⟩ := hX1
      have H := Lib.hid (And.intro hb (And.intro hX' hinv'))
      have zg := Nat.lt_of_lt_of_le hg hb.size
      have hl0 : ¬ (9223372036854775807 < X.length + 1) := by omega
      clear hb hinv hX hX' hinv' hcl hav hal hT hVV hEV e1w e2w
      rcases hway with ⟨hk0, rfl⟩ | ⟨hk0, rfl⟩
      · have hl1 : ¬ (9223372036854775807 < X'.length + T.length) := by have := H.out.2.1; omega
        have hl2 : ¬ (9223372036854775807 < X'.length + T.length + 1) := by have := H.out.2.1; omega
        have hl3 : ¬ (9223372036854775807 < X'.length + T.length + 1 + EV.length) := by have := H.out.2.1; omega
        go_wp2
        go_region_held3 (fun w' => w'.cell? ⟨g, o + k * 2, none⟩ = some (.string ⟨T.toArray⟩) ∧ w'.cell? ⟨g, o + k * 2 + 1, none⟩ = some (.string ⟨V.toArray⟩)) (first | exact ⟨he0, he1⟩ | exact ⟨e1, e2⟩ | go_keep)
          (first | (go_at_call 66; refine (HE.out _).mono ?_; rintro en w5 ⟨rfl, hb5⟩; have hbV : Below wr.heap.size wr w5 := (Below.refl _ wr).drew.trans hb5; have he0 := (hbV.cell (p := ⟨g, _, none⟩) zg).trans e1; have he1 := (hbV.cell (p := ⟨g, _, none⟩) zg).trans e2))
        have H6 := Lib.hid (H.out.1.trans (hbV.mono H.out.1.size))
        clear hbV hb5
        go_wp2
        refine ⟨⟨k + 1, X' ++ (T ++ [61] ++ EV), by omega, by go_num, ?_, H6.out, ?_, H.out.2.2⟩, by simp [intOf]; omega⟩
        · rw [show (⟨#[61]⟩ : ByteArray) = ⟨[61].toArray⟩ from rfl, cat_l, cat_l, cat_l]; simp
        · have := H.out.2.1; simp; omega
      · have hl1 : ¬ (9223372036854775807 < X.length + 1 + T.length) := by have := H.out.2.1; simp at this; omega
        have hl2 : ¬ (9223372036854775807 < X.length + 1 + T.length + 1) := by have := H.out.2.1; simp at this; omega
        have hl3 : ¬ (9223372036854775807 < X.length + 1 + T.length + 1 + EV.length) := by have := H.out.2.1; simp at this; omega
        go_wp2
        go_region_held3 (fun w' => w'.cell? ⟨g, o + k * 2, none⟩ = some (.string ⟨T.toArray⟩) ∧ w'.cell? ⟨g, o + k * 2 + 1, none⟩ = some (.string ⟨V.toArray⟩)) (first | exact ⟨he0, he1⟩ | exact ⟨e1, e2⟩ | go_keep)
          (first | (go_at_call 66; refine (HE.out _).mono ?_; rintro en w5 ⟨rfl, hb5⟩; have hbV : Below wr.heap.size wr w5 := (Below.refl _ wr).drew.trans hb5; have he0 := (hbV.cell (p := ⟨g, _, none⟩) zg).trans e1; have he1 := (hbV.cell (p := ⟨g, _, none⟩) zg).trans e2))
        have H6 := Lib.hid (H.out.1.trans (hbV.mono H.out.1.size))
        clear hbV hb5
        go_wp2
        refine ⟨⟨k + 1, (X ++ [43]) ++ (T ++ [61] ++ EV), by omega, by go_num, ?_, H6.out, ?_, H.out.2.2⟩, by simp [intOf]; omega⟩
        · rw [show (⟨#[61]⟩ : ByteArray) = ⟨[61].toArray⟩ from rfl, show (⟨#[43]⟩ : ByteArray) = ⟨[43].toArray⟩ from rfl, cat_l, cat_l, cat_l, cat_l]; simp
        · have := H.out.2.1; simp at this ⊢; omega
    · obtain rfl : k = r.length := by omega
      rw [show r.length = (r.map avL).length by simp, jn_end, List.append_nil] at hinv
      subst hinv
      have H := Lib.hid hb
      clear hb
      go_wp2
      go_ret
      exact ⟨rfl, H.out⟩

set_option maxHeartbeats 1600000 in
set_option maxRecDepth 100000 in
theorem rput6_any (v : Value) (d : List (List Av)) (hs : ∀ r ∈ d, ∀ p ∈ r, p.1.length ≤ 140737488355328) (w : World) (h : DnAt w v d) :
    Calls Tryz.prog 62 #[v] w (PutPost (puD d) w) := by
  have HC := Lib.hid (rcheck6_any v d hs w h)
  have HA := Lib.hid h
  obtain ⟨a, c, hv, hcap, _⟩ := id h
  subst hv
  clear h hs
  by_cases h0 : ckD d = 0
  · rw [h0] at HC
    obtain ⟨hd1, hd2⟩ := ckD_facts h0
    have HL := Lib.hid (puD_long d h0)
    have HO := Lib.hid (puD_ok d h0)
    have hd3 : (d.length : Int) ≤ 32 := by omega
    clear h0
    go_enter Tryz.func62, Tryz.ntmps62
    go_wp2_with fail
    refine HC.out.mono ?_
    rintro e w1 ⟨rfl, hb1⟩
    go_wp2
    go_loopw [5, 6] (fun s v wr => ∃ (k : Nat) (X : List UInt8), k ≤ d.length ∧ v = .int .i64 (k : Nat) ∧ s = .string ⟨X.toArray⟩ ∧ Below w.heap.size w wr ∧ X.length ≤ 6700 * k ∧ X ++ jnL 44 (decide (k = 0)) ((d.map ptL).drop k) = nmL d) (fun _ v _ => d.length - (intOf v).toNat)
    case atStart => exact ⟨0, [], by omega, rfl, rfl, hb1, by simp, rfl⟩
    case round =>
      obtain ⟨k, X, hk, rfl, rfl, hb, hX, hinv⟩ := hrel
      by_cases hlt : k < d.length
      · obtain ⟨a', c', hv, _, hcells⟩ := HA.out
        injection hv with hv1 hv2 hv3
        subst hv1 hv3
        obtain ⟨g, o, u, rfl, hg, c1w, hav⟩ := hcells k hlt
        have c1 := (hb.cell (p := ⟨g, _, none⟩) hg).trans c1w
        have hkl : (k : Int) < (d.length : Int) := by omega
        have hpr := hd2 _ (List.getElem_mem hlt)
        obtain ⟨hr1, hr2, hr3⟩ := prL_facts hpr
        have hpl := pt_len hpr
        have HP := Lib.hid (fun w' (hb' : Below w.heap.size w w') => rpart6_any u d[k] hr2 hr3 w' (avAt_below hav hb'))
        rw [jn_step 44 (d.map ptL) k (by simpa using hlt)] at hinv
        simp only [List.getElem_map] at hinv
        obtain ⟨P, hP⟩ : ∃ P, ptL d[k] = P := ⟨_, rfl⟩
        rw [hP] at HP hinv hpl
        obtain ⟨ua, uc, hu, _, _⟩ := hav
        subst hu
        have hl0 : ¬ (9223372036854775807 < X.length + 1) := by omega
        have hl1 : ¬ (9223372036854775807 < X.length + P.length) := by omega
        have hl2 : ¬ (9223372036854775807 < X.length + 1 + P.length) := by omega
        have hway : (¬ 0 < k ∧ (X ++ P) ++ jnL 44 (decide (k + 1 = 0)) ((d.map ptL).drop (k + 1)) = nmL d) ∨ (0 < k ∧ (X ++ [44] ++ P) ++ jnL 44 (decide (k + 1 = 0)) ((d.map ptL).drop (k + 1)) = nmL d) := by
          by_cases hk0 : k = 0
          · rw [if_pos hk0, List.nil_append, ← List.append_assoc] at hinv
            exact .inl ⟨by omega, hinv⟩
          · rw [if_neg hk0, ← List.append_assoc, ← List.append_assoc] at hinv
            exact .inr ⟨by omega, hinv⟩
        have H := Lib.hid (And.intro hb (And.intro hX hpl))
        clear hb hinv hX hcells hP hr1 hr2 hr3 hpr hpl c1w
        rcases hway with ⟨hk0, hi⟩ | ⟨hk0, hi⟩
        · have HI := Lib.hid hi
          clear hi
          go_wp2_with fail
          refine (HP.out _ H.out.1).mono ?_
          rintro e w2 ⟨rfl, hb2⟩
          have H2 := Lib.hid (H.out.1.trans (hb2.mono H.out.1.size))
          clear hb2
          go_wp2
          refine ⟨⟨k + 1, X ++ P, by omega, by go_num, by rw [cat_l], H2.out, ?_, HI.out⟩, by simp [intOf]; omega⟩
          have := H.out.2; simp; omega
        · have HI := Lib.hid hi
          clear hi
          go_wp2_with fail
          refine (HP.out _ H.out.1).mono ?_
          rintro e w2 ⟨rfl, hb2⟩
          have H2 := Lib.hid (H.out.1.trans (hb2.mono H.out.1.size))
          clear hb2
          go_wp2
          refine ⟨⟨k + 1, X ++ [44] ++ P, by omega, by go_num, by rw [show (⟨#[44]⟩ : ByteArray) = ⟨[44].toArray⟩ from rfl, cat_l, cat_l], H2.out, ?_, HI.out⟩, by simp [intOf]; omega⟩
          have := H.out.2; simp; omega
      · obtain rfl : k = d.length := by omega
        rw [show d.length = (d.map ptL).length by simp, jn_end, List.append_nil] at hinv
        subst hinv
        have H := Lib.hid hb
        clear hb
        by_cases h4 : 4096 < (nmL d).length
        · have HR := Lib.hid (HL.out h4)
          have hq : (4096 : Int) < ((nmL d).length : Int) := by omega
          clear h4
          go_wp2
          go_ret2
          exact putPost_mk (a := []) (n := 3) HR.out H.out
        · have HR := Lib.hid (HO.out h4)
          have hq : ((nmL d).length : Int) ≤ 4096 := by omega
          clear h4
          go_wp2
          go_ret2
          exact putPost_mk (n := 0) HR.out H.out
  · have HR := Lib.hid (puD_err d h0)
    obtain ⟨n, hn⟩ : ∃ n, ckD d = n := ⟨_, rfl⟩
    rw [hn] at HC HR h0
    have hq : ((n : Int) != 0) = true := by simp; omega
    clear h0 hn
    go_enter Tryz.func62, Tryz.ntmps62
    go_wp2_with fail
    refine HC.out.mono ?_
    rintro e w1 ⟨rfl, hb1⟩
    go_wp2
    go_ret2
    exact putPost_mk (a := []) HR.out hb1
end Go.Proofs.YtbihhdkmmlldnaaGreatDoor
