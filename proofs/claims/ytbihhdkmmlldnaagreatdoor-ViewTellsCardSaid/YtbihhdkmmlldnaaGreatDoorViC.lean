/- What somebody sees of an entry: the document's Entry. -/
import Derived.Test.YtbihhdkmmlldnaaGreatDoorViB
import Derived.Test.YtbihhdkmmlldnaaGreatDoorAcDF
import Derived.Test.YtbihhdkmmlldnaaGreatDoorEnHO
namespace Go.Proofs.YtbihhdkmmlldnaaGreatDoor
set_option linter.unusedSimpArgs false
set_option linter.unusedVariables false
open Go Go.RowKit Go.Proofs.BerK Go.Proofs.MemK Go.Proofs.UtfK

set_option maxRecDepth 100000 in
theorem rseen_any (v : Value) (L : List Rl) (s t : List UInt8) (w : World) (hs : 256 < L.length ∨ ∀ r ∈ L, r.2.2.1.length ≤ 80) (h : RlAt w v L) : Calls Tryz.prog 24 #[v, .string ⟨s.toArray⟩, .string ⟨t.toArray⟩] w (BoolPost (seB L s t) w) := by
  have HA := Lib.hid (rallowed_any v L s t [101, 110, 116, 114, 121] 1 w hs (by decide) h)
  obtain ⟨a, c, rfl, _⟩ := id h
  obtain ⟨n, hn⟩ : ∃ n, L.length = n := ⟨_, rfl⟩
  unfold seB
  rw [hn] at HA ⊢
  clear h hs hn
  go_enter Tryz.func24, Tryz.ntmps24
  go_wp2_with fail
  refine HA.out.mono ?_
  rintro e w1 ⟨rfl, hb⟩
  have HB := Lib.hid hb
  clear hb
  go_wp2
  go_ret
  exact boolPost_mk rfl HB.out
set_option maxRecDepth 100000 in
theorem rold_any (v : Value) (L : List Rl) (s t : List UInt8) (w : World) (hs : 256 < L.length ∨ ∀ r ∈ L, r.2.2.1.length ≤ 80) (h : RlAt w v L) : Calls Tryz.prog 26 #[v, .string ⟨s.toArray⟩, .string ⟨t.toArray⟩] w (StrPost (oldL (seB L s t) t) w) := by
  have HA := Lib.hid (rseen_any v L s t w hs h)
  obtain ⟨a, c, rfl, _⟩ := id h
  obtain ⟨n, hn⟩ : ∃ n, L.length = n := ⟨_, rfl⟩
  obtain ⟨q, hq⟩ : ∃ q, seB L s t = q := ⟨_, rfl⟩
  rw [hq] at HA ⊢
  rw [hn] at HA ⊢
  clear h hs hn hq
  cases q
  all_goals
    go_enter Tryz.func26, Tryz.ntmps26
    go_wp2_with fail
    refine HA.out.mono ?_
    rintro e w1 ⟨rfl, hb⟩
    have HB := Lib.hid hb
    clear hb
    go_wp2
    go_ret
    exact strPost_mk rfl HB.out
set_option maxHeartbeats 3200000 in
set_option maxRecDepth 100000 in
theorem rentry_no (A : List Atr) (L : List Rl) (dn s : List UInt8) (lv av : Value) (w : World) (hs : 256 < L.length ∨ ∀ r ∈ L, r.2.2.1.length ≤ 80) (hL : RlAt w lv L) (h : EaAt w av A) (hq : seB L s dn = false) :
    Calls Tryz.prog 21 #[lv, .string ⟨s.toArray⟩, .agg #[.string ⟨dn.toArray⟩, av]] w (VePost false dn (vwA L s dn A) w) := by
  obtain ⟨a, c, rfl⟩ := eaAt_slice h
  obtain ⟨W1, hW1⟩ : ∃ W1, (w.alloc (.cells #[.string ⟨dn.toArray⟩, .slice a A.length c] 40)).alloc (.cells #[.string ⟨#[]⟩, .slice none 0 0] 40) = W1 := ⟨_, rfl⟩
  obtain ⟨x0, x1, hb1, hz1⟩ := boxes10 hW1
  have HS := Lib.hid (rseen_any lv L s dn W1 hs (rlAt_below hL hb1))
  rw [hq] at HS
  obtain ⟨la, lc, rfl, _⟩ := id hL
  have HW1 := Lib.hid hW1
  obtain ⟨n, hn⟩ : ∃ n, A.length = n := ⟨_, rfl⟩
  rw [hn] at HW1 x0 ⊢
  obtain ⟨ln, hln⟩ : ∃ n, L.length = n := ⟨_, rfl⟩
  rw [hln] at HS ⊢
  have HX := Lib.hid (And.intro x0 (And.intro x1 (And.intro hb1 hz1)))
  obtain ⟨e0, e1⟩ := obj2s x0
  rw [← hW1] at e0 e1
  clear hs hL h hq x0 x1 hb1 hz1 hn hln hW1
  go_enter Tryz.func21, Tryz.ntmps21
  go_wp2_with fail
  rw [HW1.out]
  refine HS.out.mono ?_
  rintro e w2 ⟨rfl, hb2⟩
  clear e0 e1
  have y2 := obj_below HX.out.2.1 hb2 (by have := HX.out.2.2.2; omega)
  have HY := Lib.hid (And.intro y2 (HX.out.2.2.1.trans (hb2.mono HX.out.2.2.1.size)))
  obtain ⟨r0, r1⟩ := obj2s y2
  have f0 := obj_free y2 0
  have f1 := obj_free y2 1
  clear hb2 y2
  go_wp2
  obtain ⟨j0, j1⟩ := obj2s (set2_e HY.out.1 (.string ⟨#[]⟩) (.slice none 0 0))
  refine bodyPost_ret (v := .tuple #[.agg #[.string ⟨#[]⟩, .slice none 0 0], .bool false]) (by simp [results, Tryz.results21, go_sem, *]) rfl ?_
  exact ⟨.inl ⟨rfl, rfl⟩, below_e2 HY.out.2 (by omega) _ _⟩
theorem vf_step (p : Atr → Bool) (R : List Atr) (k : Nat) (hk : k < R.length) : (R.take (k + 1)).filter p = if p R[k] = true then (R.take k).filter p ++ [R[k]] else (R.take k).filter p := by
  rw [List.take_succ_eq_append_getElem hk, List.filter_append]
  split
  · rename_i h; simp [h]
  · rename_i h; simp [h]
set_option maxHeartbeats 12800000 in
set_option maxRecDepth 100000 in
theorem rentry_yes (A : List Atr) (L : List Rl) (dn s : List UInt8) (lv av : Value) (w : World) (hs : 256 < L.length ∨ ∀ r ∈ L, r.2.2.1.length ≤ 80) (hL : RlAt w lv L) (h : EaAt w av A) (hf : FewG 300 300 A) (hq : seB L s dn = true) :
    Calls Tryz.prog 21 #[lv, .string ⟨s.toArray⟩, .agg #[.string ⟨dn.toArray⟩, av]] w (VePost true dn (vwA L s dn A) w) := by
  obtain ⟨a, c, rfl⟩ := eaAt_slice h
  obtain ⟨W1, hW1⟩ : ∃ W1, (w.alloc (.cells #[.string ⟨dn.toArray⟩, .slice a A.length c] 40)).alloc (.cells #[.string ⟨#[]⟩, .slice none 0 0] 40) = W1 := ⟨_, rfl⟩
  obtain ⟨x0, x1, hb1, hz1⟩ := boxes10 hW1
  have HS := Lib.hid (rseen_any lv L s dn W1 hs (rlAt_below hL hb1))
  rw [hq] at HS
  have HCl := Lib.hid (fun w' (hb : Below W1.heap.size W1 w') => rclean10_any dn A _ w' (eaAt_at (eaAt_below (eaAt_below h hb1) hb)) hf)
  have HCf := Lib.hid (fewG_cl hf)
  have HAll := Lib.hid (fun t w' (hu : t.length ≤ 1000000) (hb : Below W1.heap.size W1 w') => rallowed_any lv L s dn t 1 w' hs hu (rlAt_below (rlAt_below hL hb1) hb))
  obtain ⟨la, lc, rfl, _⟩ := id hL
  have HW1 := Lib.hid hW1
  obtain ⟨n, hn⟩ : ∃ n, A.length = n := ⟨_, rfl⟩
  rw [hn] at HCl HW1 x0 ⊢
  obtain ⟨ln, hln⟩ : ∃ n, L.length = n := ⟨_, rfl⟩
  rw [hln] at HS HAll ⊢
  have HX := Lib.hid (And.intro x0 (And.intro x1 (And.intro hb1 hz1)))
  obtain ⟨R, hR⟩ : ∃ R, clA A = R := ⟨_, rfl⟩
  have HV : Hid (vwA L s dn A = R.filter fun q => rdB L s dn q.1) := Lib.hid (by unfold vwA; rw [hR])
  rw [hR] at HCl HCf
  obtain ⟨e0, e1⟩ := obj2s x0
  rw [← hW1] at e0 e1
  have hz0 : w.heap.size < W1.heap.size := by omega
  have hz01 : w.heap.size + 1 < W1.heap.size := by omega
  clear hs hL h hq x0 x1 hb1 hn hln hW1 hR hf hz1
  go_enter Tryz.func21, Tryz.ntmps21
  go_wp2_with fail
  rw [HW1.out]
  refine HS.out.mono ?_
  rintro e w2 ⟨rfl, hb2⟩
  clear e0 e1
  obtain ⟨e0, e1⟩ := obj2s (obj_below HX.out.1 hb2 hz0)
  have HB2 := Lib.hid hb2
  clear hb2
  go_wp2_with fail
  refine (HCl.out _ HB2.out).mono ?_
  rintro e w4 ⟨v, rfl, hpa, hb4⟩
  clear e0 e1
  obtain ⟨ra, rc, rfl⟩ := paAt_slice hpa
  obtain ⟨rl, hrl⟩ : ∃ x, R.length = x := ⟨_, rfl⟩
  have HRl := Lib.hid hrl
  have hrlb : rl ≤ 100000 := by have := HCf.out.1; omega
  obtain ⟨W6, hW6⟩ : ∃ W6, (w4.alloc (.cells #[.string ⟨dn.toArray⟩, .slice ra rl rc] 40)).alloc (.cells #[.string ⟨dn.toArray⟩, .slice none 0 0] 40) = W6 := ⟨_, rfl⟩
  obtain ⟨y0, y1, hb6, hz6⟩ := boxes10 hW6
  have hb14 := HB2.out.trans (hb4.mono HB2.out.size)
  have HP := Lib.hid (And.intro hpa (And.intro y0 (And.intro y1 (And.intro hb6 (And.intro hz6 hb14)))))
  have HW6 := Lib.hid hW6
  rw [hrl]
  have hw14 : W1.heap.size ≤ w4.heap.size := hb14.size
  clear hpa y0 y1 hb6 hb14 hb4 hrl hW6
  go_wp2
  rw [HW6.out]
  go_loopw [10] (fun v wr => ∃ (k : Nat) (ov : Value) (Lo : List (List UInt8 × Value)), k ≤ rl ∧ v = .int .i64 (k : Nat) ∧ wr.heap[w4.heap.size]? = some (.cells #[.string ⟨dn.toArray⟩, .slice ra rl rc] 40 (0, 0)) ∧ wr.heap[w4.heap.size + 1]? = some (.cells #[.string ⟨dn.toArray⟩, ov] 40 (0, 0)) ∧ AtOk w4 Lo ((R.take k).filter fun q => rdB L s dn q.1) ∧ wr.ownsRow (w4.heap.size + 2) 50 2 ov ((R.take k).filter fun q => rdB L s dn q.1).length (atcs Lo) ∧ Below w4.heap.size w4 wr ∧ w4.heap.size + 2 ≤ wr.heap.size) (fun v _ => rl - (intOf v).toNat)
  case atStart => exact ⟨0, .slice none 0 0, [], by omega, rfl, HP.out.2.1, HP.out.2.2.1, by rw [List.take_zero]; exact atOk_nil _, by rw [List.take_zero]; exact World.ownsRow_nil _ _ _ _, HP.out.2.2.2.1, by have := HP.out.2.2.2.2.1; omega⟩
  case round =>
    obtain ⟨k, ov, Lo, hk, rfl, hcb, hob, hok, hrow, hb, hsz⟩ := hrel
    obtain ⟨oa, oc, hov⟩ := ownsRow_slice hrow
    have hb1r := HP.out.2.2.2.2.2.trans (hb.mono hw14)
    obtain ⟨k0, k1⟩ := obj2s hcb
    by_cases hlt : k < rl
    · have hkl : (k : Int) < (rl : Int) := by omega
      have hkR : k < R.length := by rw [HRl.out]; exact hlt
      obtain ⟨Lq, B, hqk, hqr⟩ := HP.out.1
      obtain ⟨rg, rc', eo, hrB, hrg⟩ := own_block hqr (by omega)
      injection eo with eo1 eo2 eo3
      subst eo1 eo3
      clear eo2
      have hkq : k < Lq.length := by rw [hqk.1]; exact hkR
      obtain ⟨h1, h2⟩ := atcs_at Lq k hkq
      obtain ⟨hn1, BB', hlist⟩ := hqk.2 k hkq hkR
      have t0 := (hb.cell (p := ⟨rg, k * 2, none⟩) hrg).trans ((hqr.cellAt (k * 2) (by omega)).trans h1)
      have t1 := (hb.cell (p := ⟨rg, k * 2 + 1, none⟩) hrg).trans ((hqr.cellAt (k * 2 + 1) (by omega)).trans h2)
      obtain ⟨xa, xc, hxv⟩ := ownsRow_slice hlist
      rw [hxv] at t1 hlist
      have hfk := HCf.out.2 _ (List.getElem_mem hkR)
      have hvs := vf_step (fun q => rdB L s dn q.1) R k hkR
      obtain ⟨⟨t, T⟩, hrk⟩ : ∃ x, R[k] = x := ⟨_, rfl⟩
      rw [hrk] at hn1 hlist hfk hvs t1
      dsimp only at hn1 hlist hfk hvs t1
      rw [hn1] at t0
      have HAl := Lib.hid (fun w' (hb' : Below wr.heap.size wr w') => HAll.out t w' (by omega) (hb1r.trans (hb'.mono hb1r.size)))
      obtain ⟨Tn, hTn⟩ : ∃ x, T.length = x := ⟨_, rfl⟩
      rw [hTn] at t1
      obtain ⟨q, hq⟩ : ∃ q, alA L s dn t 1 = q := ⟨_, rfl⟩
      rw [hq] at HAl
      have hvs : (R.take (k + 1)).filter (fun q => rdB L s dn q.1) = if q = true then (R.take k).filter (fun q => rdB L s dn q.1) ++ [(t, T)] else (R.take k).filter (fun q => rdB L s dn q.1) := by
        rw [hvs]; unfold rdB; rw [hq]
      obtain ⟨F, hF⟩ : ∃ F, (R.take k).filter (fun q => rdB L s dn q.1) = F := ⟨_, rfl⟩
      have hFl : F.length ≤ rl := by
        rw [← hF]
        have := List.length_filter_le (fun q : Atr => rdB L s dn q.1) (R.take k)
        rw [List.length_take] at this
        omega
      rw [hF] at hok hrow hvs hov
      subst hov
      have e0 := (hb1r.cell (p := ⟨w.heap.size, 0, none⟩) hz0).trans (obj2s HX.out.1).1
      have ze : w.heap.size < wr.heap.size := by omega
      have zc : w4.heap.size < wr.heap.size := by omega
      have zr : rg < wr.heap.size := by omega
      have c1 := k1
      have H := Lib.hid (And.intro hcb (And.intro hob (And.intro hok (And.intro hrow (And.intro hb (And.intro hvs (And.intro hlist hTn)))))))
      clear hcb hob hok hrow hb hvs hqk hqr hrB h1 h2 hn1 hxv hfk hrk hq hF hb1r k0
      go_wp2_with fail
      go_region_held3 (fun w' => w'.cell? ⟨w.heap.size, 0, none⟩ = some (.string ⟨dn.toArray⟩) ∧ w'.cell? ⟨w4.heap.size, 1, none⟩ = some (.slice (some ⟨rg, 0, none⟩) rl rc) ∧ w'.cell? ⟨rg, k * 2, none⟩ = some (.string ⟨t.toArray⟩)) (first | exact ⟨he0, hc1, ht0⟩ | exact ⟨e0, c1, t0⟩ | go_keep)
        (first | (go_at_call 16; (with_reducible refine (HAl.out _ (by first | exact hbW | exact (Below.refl _ wr).drew)).mono ?_); rintro en wz ⟨rfl, hb5⟩; have hbW : Below wr.heap.size wr wz := (by first | exact hbW.trans (hb5.mono hbW.size) | exact (Below.refl _ wr).drew.trans hb5); have he0 := (hbW.cell (p := ⟨w.heap.size, 0, none⟩) ze).trans e0; have hc1 := (hbW.cell (p := ⟨w4.heap.size, 1, none⟩) zc).trans c1; have ht0 := (hbW.cell (p := ⟨rg, k * 2, none⟩) zr).trans t0; clear hb5))
      cases q with
      | false =>
        clear t1 he0 hc1 ht0
        go_wp2
        refine ⟨⟨k + 1, .slice oa F.length oc, Lo, by omega, by go_num, obj_below H.out.1 hbW (by omega), obj_below H.out.2.1 hbW (by omega), ?_, ?_, H.out.2.2.2.2.1.trans (hbW.mono H.out.2.2.2.2.1.size), by have := hbW.size; omega⟩, by simp [intOf]; omega⟩
        · rw [H.out.2.2.2.2.2.1, if_neg (by decide)]
          exact H.out.2.2.1
        · rw [H.out.2.2.2.2.2.1, if_neg (by decide)]
          exact ownsRow_below H.out.2.2.2.1 hbW
      | true =>
        have ht1 := (hbW.cell (p := ⟨rg, k * 2 + 1, none⟩) zr).trans t1
        have o9 := obj_below H.out.2.1 hbW (by omega)
        have p1 := (obj2s o9).2
        have pf := obj_free o9 1
        have hs9 := hbW.size
        have HRo := Lib.hid (And.intro (ownsRow_below H.out.2.2.2.1 hbW) (And.intro o9 (show w4.heap.size + 2 ≤ wz.drew.heap.size by show _ ≤ wz.heap.size; omega)))
        have hA : ∀ ob, Below wz.heap.size wz (wz.alloc ob) := fun ob => (Below.refl _ wz).alloc (Nat.le_refl _) ob
        have m1 : ∀ ob, (wz.alloc ob).cell? ⟨w4.heap.size + 1, 1, none⟩ = some (.slice oa F.length oc) := fun ob => ((hA ob).cell (p := ⟨w4.heap.size + 1, 1, none⟩) (by show w4.heap.size + 1 < _; omega)).trans p1
        have m2 : ∀ ob, (wz.alloc ob).cell? ⟨w4.heap.size, 1, none⟩ = some (.slice (some ⟨rg, 0, none⟩) rl rc) := fun ob => ((hA ob).cell (p := ⟨w4.heap.size, 1, none⟩) (by show w4.heap.size < _; omega)).trans hc1
        have m3 : ∀ ob, (wz.alloc ob).cell? ⟨rg, k * 2, none⟩ = some (.string ⟨t.toArray⟩) := fun ob => ((hA ob).cell (p := ⟨rg, k * 2, none⟩) (by show rg < _; omega)).trans ht0
        have m4 : ∀ ob, (wz.alloc ob).cell? ⟨rg, k * 2 + 1, none⟩ = some (.slice xa Tn xc) := fun ob => ((hA ob).cell (p := ⟨rg, k * 2 + 1, none⟩) (by show rg < _; omega)).trans ht1
        clear t0 t1 e0 c1 k1 o9 hA
        go_wp2
        go_region_law (refine step_pushm rfl (.tmp 42) (.tmp 48) 38 50 rfl (w4.heap.size + 2) 2 40 (.agg #[.string ByteArray.empty, .slice none 0 0]) Tryz.sninfo50 Tryz.underlying38 rfl (by decide) wz.drew 1 [.string ⟨t.toArray⟩, .slice xa Tn xc] rfl rfl (by intro u hu; simp at hu; rcases hu with rfl | rfl <;> rfl) (.slice oa F.length oc) F.length (atcs Lo) rfl _ rfl rfl (ownsRow_heap HRo.out.1 rfl) (by unfold maxLen; omega) (by omega) HRo.out.2.2 ?_; intro v' w' h1 h2; obtain ⟨na, nc, rfl⟩ := ownsRow_slice h1; have o10 := obj_below (w := wz.drew) HRo.out.2.1 h2 (by omega); have q1 := (obj2s o10).2; have q2 := obj_free o10 1)
        all_goals
          have HV := Lib.hid (And.intro h1 (And.intro h2 o10))
          clear h1 h2 o10 q1 q2
          go_wp2
          have hb9 : Below w4.heap.size w4 wz.drew := (H.out.2.2.2.2.1.trans (hbW.mono H.out.2.2.2.2.1.size)).drew
          have hb10 := hb9.trans (HV.out.2.1.mono (by omega))
          have c9 := obj_below H.out.1 hbW (show w4.heap.size < wr.heap.size by omega)
          have c10 := obj_below (w := wz.drew) c9 HV.out.2.1 (by omega)
          have hs10 := HV.out.2.1.size
          refine ⟨⟨k + 1, .slice na (F.length + 1) nc, Lo ++ [(t, .slice xa Tn xc)], by omega, by go_num, obj_set_other c10 (by show _ ≠ w4.heap.size + 1; omega) _, set1_e HV.out.2.2 _, ?_, ?_, hb10.setCell (p := ⟨w4.heap.size + 1, 1, none⟩) (by show _ ≤ w4.heap.size + 1; omega) _, ?_⟩, by simp [intOf]; omega⟩
          · rw [H.out.2.2.2.2.2.1]
            first | rw [if_pos trivial] | rw [if_pos rfl]
            refine atOk_app H.out.2.2.1 (atOk_one (B := BB') ?_)
            have := H.out.2.2.2.2.2.2.1
            rw [H.out.2.2.2.2.2.2.2] at this
            rw [H.out.2.2.2.2.2.2.2]
            exact this
          · rw [H.out.2.2.2.2.2.1]
            first | rw [if_pos trivial] | rw [if_pos rfl]
            rw [List.length_append, atcs_app]
            exact own_set1 HV.out.1 HV.out.2.2 (by decide) _
          · have : (w'.setCell ⟨w4.heap.size + 1, 1, none⟩ (.slice na (F.length + 1) nc)).heap.size = w'.heap.size := by simp
            have h9 : wz.drew.heap.size = wz.heap.size := rfl
            omega
    · obtain rfl : k = rl := by omega
      have hl : R.take k = R := by rw [← HRl.out]; exact List.take_length
      rw [hl] at hok hrow hov
      rw [← HV.out] at hok hrow hov
      obtain ⟨F, hF⟩ : ∃ F, vwA L s dn A = F := ⟨_, rfl⟩
      rw [hF] at hok hrow hov
      have HFx := Lib.hid hF
      subst hov
      obtain ⟨o0, o1⟩ := obj2s hob
      have r1 := obj_below HX.out.2.1 hb1r hz01
      obtain ⟨p0, p1⟩ := obj2s r1
      have f0 := obj_free r1 0
      have f1 := obj_free r1 1
      have H := Lib.hid (And.intro (atOk_below hok hb) (And.intro hrow (And.intro r1 (HX.out.2.2.1.trans (hb1r.mono HX.out.2.2.1.size)))))
      clear hok hrow hb hcb hob hb1r r1 hl hF
      go_wp2
      obtain ⟨j0, j1⟩ := obj2s (set2_e H.out.2.2.1 (.string ⟨dn.toArray⟩) (.slice oa F.length oc))
      refine bodyPost_ret (v := .tuple #[.agg #[.string ⟨dn.toArray⟩, .slice oa F.length oc], .bool true]) (by simp [results, Tryz.results21, go_sem, *]) rfl ?_
      rw [HFx.out]
      exact ⟨.inr ⟨rfl, oa, oc, rfl, Lo, w4.heap.size + 2, atOk_set2 H.out.1 H.out.2.2.1 (by decide) _ _, own_set2 H.out.2.1 H.out.2.2.1 (by decide) _ _⟩, below_e2 H.out.2.2.2 (by omega) _ _⟩
theorem rentry_any (A : List Atr) (L : List Rl) (dn s : List UInt8) (lv av : Value) (w : World) (hs : 256 < L.length ∨ ∀ r ∈ L, r.2.2.1.length ≤ 80) (hL : RlAt w lv L) (h : EaAt w av A) (hf : FewG 300 300 A) :
    Calls Tryz.prog 21 #[lv, .string ⟨s.toArray⟩, .agg #[.string ⟨dn.toArray⟩, av]] w (VePost (seB L s dn) dn (vwA L s dn A) w) := by
  cases hq : seB L s dn with
  | false => exact rentry_no A L dn s lv av w hs hL h hq
  | true => exact rentry_yes A L dn s lv av w hs hL h hf hq
end Go.Proofs.YtbihhdkmmlldnaaGreatDoor
