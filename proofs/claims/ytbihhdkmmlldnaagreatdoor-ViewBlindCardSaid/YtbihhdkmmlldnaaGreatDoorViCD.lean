/- What somebody sees of an entry: the document's Entry. Two rules; the examples of what is seen. -/
import Derived.Test.YtbihhdkmmlldnaaGreatDoorViAB
import Derived.Test.YtbihhdkmmlldnaaGreatDoorAcDF
import Derived.Test.YtbihhdkmmlldnaaGreatDoorEnHO
import Derived.Test.YtbihhdkmmlldnaaGreatDoorAcG
import Derived.Test.YtbihhdkmmlldnaaGreatDoorSnUW
import Derived.Test.YtbihhdkmmlldnaaGreatDoorEnMP
namespace Go.Proofs.YtbihhdkmmlldnaaGreatDoor
set_option linter.unusedSimpArgs false
set_option linter.unusedVariables false
open Go Go.RowKit Go.Proofs.BerK Go.Proofs.MemK Go.Proofs.UtfK

set_option maxRecDepth 100000 in
theorem rseen_any (v : Value) (L : List Rl) (s t : List UInt8) (w : World) (hs : 256 < L.length ∨ ∀ r ∈ L, r.2.2.1.length ≤ 80) (h : RlAt w v L) : Calls Tryz.prog 24 #[v, .string ⟨s.toArray⟩, .string ⟨t.toArray⟩] w (BoolPost (seB L s t) w) := by
  have HA := Lib.hid (rallowed_any v L s t [101, 110, 116, 114, 121] 1 w hs (by decide) h)
  obtain ⟨a, c, rfl, _⟩ := id h
  obtain ⟨n, hn⟩ : ∃ n, L.length = n := ⟨_, rfl⟩
  unfold seB
  rw [hn] at HA ⊢
  clear h hs hn
  go_enter Tryz.func24, Tryz.ntmps24
  go_wp2_with fail
  refine HA.out.mono ?_
  rintro e w1 ⟨rfl, hb⟩
  have HB := Lib.hid hb
  clear hb
  go_wp2
  go_ret
  exact boolPost_mk rfl HB.out
set_option maxRecDepth 100000 in
theorem rold_any (v : Value) (L : List Rl) (s t : List UInt8) (w : World) (hs : 256 < L.length ∨ ∀ r ∈ L, r.2.2.1.length ≤ 80) (h : RlAt w v L) : Calls Tryz.prog 26 #[v, .string ⟨s.toArray⟩, .string ⟨t.toArray⟩] w (StrPost (oldL (seB L s t) t) w) := by
  have HA := Lib.hid (rseen_any v L s t w hs h)
  obtain ⟨a, c, rfl, _⟩ := id h
  obtain ⟨n, hn⟩ : ∃ n, L.length = n := ⟨_, rfl⟩
  obtain ⟨q, hq⟩ : ∃ q, seB L s t = q := ⟨_, rfl⟩
  rw [hq] at HA ⊢
  rw [hn] at HA ⊢
  clear h hs hn hq
  cases q
  all_goals
    go_enter Tryz.func26, Tryz.ntmps26
    go_wp2_with fail
    refine HA.out.mono ?_
    rintro e w1 ⟨rfl, hb⟩
    have HB := Lib.hid hb
    clear hb
    go_wp2
    go_ret
    exact strPost_mk rfl HB.out
set_option maxHeartbeats 3200000 in
set_option maxRecDepth 100000 in
theorem rentry_no (A : List Atr) (L : List Rl) (dn s : List UInt8) (lv av : Value) (w : World) (hs : 256 < L.length ∨ ∀ r ∈ L, r.2.2.1.length ≤ 80) (hL : RlAt w lv L) (h : EaAt w av A) (hq : seB L s dn = false) :
    Calls Tryz.prog 21 #[lv, .string ⟨s.toArray⟩, .agg #[.string ⟨dn.toArray⟩, av]] w (VePost false dn (vwA L s dn A) w) := by
  obtain ⟨a, c, rfl⟩ := eaAt_slice h
  obtain ⟨W1, hW1⟩ : ∃ W1, (w.alloc (.cells #[.string ⟨dn.toArray⟩, .slice a A.length c] 40)).alloc (.cells #[.string ⟨#[]⟩, .slice none 0 0] 40) = W1 := ⟨_, rfl⟩
  obtain ⟨x0, x1, hb1, hz1⟩ := boxes10 hW1
  have HS := Lib.hid (rseen_any lv L s dn W1 hs (rlAt_below hL hb1))
  rw [hq] at HS
  obtain ⟨la, lc, rfl, _⟩ := id hL
  have HW1 := Lib.hid hW1
  obtain ⟨n, hn⟩ : ∃ n, A.length = n := ⟨_, rfl⟩
  rw [hn] at HW1 x0 ⊢
  obtain ⟨ln, hln⟩ : ∃ n, L.length = n := ⟨_, rfl⟩
  rw [hln] at HS ⊢
  have HX := Lib.hid (And.intro x0 (And.intro x1 (And.intro hb1 hz1)))
  obtain ⟨e0, e1⟩ := obj2s x0
  rw [← hW1] at e0 e1
  clear hs hL h hq x0 x1 hb1 hz1 hn hln hW1
  go_enter Tryz.func21, Tryz.ntmps21
  go_wp2_with fail
  rw [HW1.out]
  refine HS.out.mono ?_
  rintro e w2 ⟨rfl, hb2⟩
  clear e0 e1
  have y2 := obj_below HX.out.2.1 hb2 (by have := HX.out.2.2.2; omega)
  have HY := Lib.hid (And.intro y2 (HX.out.2.2.1.trans (hb2.mono HX.out.2.2.1.size)))
  obtain ⟨r0, r1⟩ := obj2s y2
  have f0 := obj_free y2 0
  have f1 := obj_free y2 1
  clear hb2 y2
  go_wp2
  obtain ⟨j0, j1⟩ := obj2s (set2_e HY.out.1 (.string ⟨#[]⟩) (.slice none 0 0))
  refine bodyPost_ret (v := .tuple #[.agg #[.string ⟨#[]⟩, .slice none 0 0], .bool false]) (by simp [results, Tryz.results21, go_sem, *]) rfl ?_
  exact ⟨.inl ⟨rfl, rfl⟩, below_e2 HY.out.2 (by omega) _ _⟩
theorem vf_step (p : Atr → Bool) (R : List Atr) (k : Nat) (hk : k < R.length) : (R.take (k + 1)).filter p = if p R[k] = true then (R.take k).filter p ++ [R[k]] else (R.take k).filter p := by
  rw [List.take_succ_eq_append_getElem hk, List.filter_append]
  split
  · rename_i h; simp [h]
  · rename_i h; simp [h]
set_option maxHeartbeats 12800000 in
set_option maxRecDepth 100000 in
theorem rentry_yes (A : List Atr) (L : List Rl) (dn s : List UInt8) (lv av : Value) (w : World) (hs : 256 < L.length ∨ ∀ r ∈ L, r.2.2.1.length ≤ 80) (hL : RlAt w lv L) (h : EaAt w av A) (hf : FewG 300 300 A) (hq : seB L s dn = true) :
    Calls Tryz.prog 21 #[lv, .string ⟨s.toArray⟩, .agg #[.string ⟨dn.toArray⟩, av]] w (VePost true dn (vwA L s dn A) w) := by
  obtain ⟨a, c, rfl⟩ := eaAt_slice h
  obtain ⟨W1, hW1⟩ : ∃ W1, (w.alloc (.cells #[.string ⟨dn.toArray⟩, .slice a A.length c] 40)).alloc (.cells #[.string ⟨#[]⟩, .slice none 0 0] 40) = W1 := ⟨_, rfl⟩
  obtain ⟨x0, x1, hb1, hz1⟩ := boxes10 hW1
  have HS := Lib.hid (rseen_any lv L s dn W1 hs (rlAt_below hL hb1))
  rw [hq] at HS
  have HCl := Lib.hid (fun w' (hb : Below W1.heap.size W1 w') => rclean10_any dn A _ w' (eaAt_at (eaAt_below (eaAt_below h hb1) hb)) hf)
  have HCf := Lib.hid (fewG_cl hf)
  have HAll := Lib.hid (fun t w' (hu : t.length ≤ 1000000) (hb : Below W1.heap.size W1 w') => rallowed_any lv L s dn t 1 w' hs hu (rlAt_below (rlAt_below hL hb1) hb))
  obtain ⟨la, lc, rfl, _⟩ := id hL
  have HW1 := Lib.hid hW1
  obtain ⟨n, hn⟩ : ∃ n, A.length = n := ⟨_, rfl⟩
  rw [hn] at HCl HW1 x0 ⊢
  obtain ⟨ln, hln⟩ : ∃ n, L.length = n := ⟨_, rfl⟩
  rw [hln] at HS HAll ⊢
  have HX := Lib.hid (And.intro x0 (And.intro x1 (And.intro hb1 hz1)))
  obtain ⟨R, hR⟩ : ∃ R, clA A = R := ⟨_, rfl⟩
  have HV : Hid (vwA L s dn A = R.filter fun q => rdB L s dn q.1) := Lib.hid (by unfold vwA; rw [hR])
  rw [hR] at HCl HCf
  obtain ⟨e0, e1⟩ := obj2s x0
  rw [← hW1] at e0 e1
  have hz0 : w.heap.size < W1.heap.size := by omega
  have hz01 : w.heap.size + 1 < W1.heap.size := by omega
  clear hs hL h hq x0 x1 hb1 hn hln hW1 hR hf hz1
  go_enter Tryz.func21, Tryz.ntmps21
  go_wp2_with fail
  rw [HW1.out]
  refine HS.out.mono ?_
  rintro e w2 ⟨rfl, hb2⟩
  clear e0 e1
  obtain ⟨e0, e1⟩ := obj2s (obj_below HX.out.1 hb2 hz0)
  have HB2 := Lib.hid hb2
  clear hb2
  go_wp2_with fail
  refine (HCl.out _ HB2.out).mono ?_
  rintro e w4 ⟨v, rfl, hpa, hb4⟩
  clear e0 e1
  obtain ⟨ra, rc, rfl⟩ := paAt_slice hpa
  obtain ⟨rl, hrl⟩ : ∃ x, R.length = x := ⟨_, rfl⟩
  have HRl := Lib.hid hrl
  have hrlb : rl ≤ 100000 := by have := HCf.out.1; omega
  obtain ⟨W6, hW6⟩ : ∃ W6, (w4.alloc (.cells #[.string ⟨dn.toArray⟩, .slice ra rl rc] 40)).alloc (.cells #[.string ⟨dn.toArray⟩, .slice none 0 0] 40) = W6 := ⟨_, rfl⟩
  obtain ⟨y0, y1, hb6, hz6⟩ := boxes10 hW6
  have hb14 := HB2.out.trans (hb4.mono HB2.out.size)
  have HP := Lib.hid (And.intro hpa (And.intro y0 (And.intro y1 (And.intro hb6 (And.intro hz6 hb14)))))
  have HW6 := Lib.hid hW6
  rw [hrl]
  have hw14 : W1.heap.size ≤ w4.heap.size := hb14.size
  clear hpa y0 y1 hb6 hb14 hb4 hrl hW6
  go_wp2
  rw [HW6.out]
  go_loopw [10] (fun v wr => ∃ (k : Nat) (ov : Value) (Lo : List (List UInt8 × Value)), k ≤ rl ∧ v = .int .i64 (k : Nat) ∧ wr.heap[w4.heap.size]? = some (.cells #[.string ⟨dn.toArray⟩, .slice ra rl rc] 40 (0, 0)) ∧ wr.heap[w4.heap.size + 1]? = some (.cells #[.string ⟨dn.toArray⟩, ov] 40 (0, 0)) ∧ AtOk w4 Lo ((R.take k).filter fun q => rdB L s dn q.1) ∧ wr.ownsRow (w4.heap.size + 2) 50 2 ov ((R.take k).filter fun q => rdB L s dn q.1).length (atcs Lo) ∧ Below w4.heap.size w4 wr ∧ w4.heap.size + 2 ≤ wr.heap.size) (fun v _ => rl - (intOf v).toNat)
  case atStart => exact ⟨0, .slice none 0 0, [], by omega, rfl, HP.out.2.1, HP.out.2.2.1, by rw [List.take_zero]; exact atOk_nil _, by rw [List.take_zero]; exact World.ownsRow_nil _ _ _ _, HP.out.2.2.2.1, by have := HP.out.2.2.2.2.1; omega⟩
  case round =>
    obtain ⟨k, ov, Lo, hk, rfl, hcb, hob, hok, hrow, hb, hsz⟩ := hrel
    obtain ⟨oa, oc, hov⟩ := ownsRow_slice hrow
    have hb1r := HP.out.2.2.2.2.2.trans (hb.mono hw14)
    obtain ⟨k0, k1⟩ := obj2s hcb
    by_cases hlt : k < rl
    · have hkl : (k : Int) < (rl : Int) := by omega
      have hkR : k < R.length := by rw [HRl.out]; exact hlt
      obtain ⟨Lq, B, hqk, hqr⟩ := HP.out.1
      obtain ⟨rg, rc', eo, hrB, hrg⟩ := own_block hqr (by omega)
      injection eo with eo1 eo2 eo3
      subst eo1 eo3
      clear eo2
      have hkq : k < Lq.length := by rw [hqk.1]; exact hkR
      obtain ⟨h1, h2⟩ := atcs_at Lq k hkq
      obtain ⟨hn1, BB', hlist⟩ := hqk.2 k hkq hkR
      have t0 := (hb.cell (p := ⟨rg, k * 2, none⟩) hrg).trans ((hqr.cellAt (k * 2) (by omega)).trans h1)
      have t1 := (hb.cell (p := ⟨rg, k * 2 + 1, none⟩) hrg).trans ((hqr.cellAt (k * 2 + 1) (by omega)).trans h2)
      obtain ⟨xa, xc, hxv⟩ := ownsRow_slice hlist
      rw [hxv] at t1 hlist
      have hfk := HCf.out.2 _ (List.getElem_mem hkR)
      have hvs := vf_step (fun q => rdB L s dn q.1) R k hkR
      obtain ⟨⟨t, T⟩, hrk⟩ : ∃ x, R[k] = x := ⟨_, rfl⟩
      rw [hrk] at hn1 hlist hfk hvs t1
      dsimp only at hn1 hlist hfk hvs t1
      rw [hn1] at t0
      have HAl := Lib.hid (fun w' (hb' : Below wr.heap.size wr w') => HAll.out t w' (by omega) (hb1r.trans (hb'.mono hb1r.size)))
      obtain ⟨Tn, hTn⟩ : ∃ x, T.length = x := ⟨_, rfl⟩
      rw [hTn] at t1
      obtain ⟨q, hq⟩ : ∃ q, alA L s dn t 1 = q := ⟨_, rfl⟩
      rw [hq] at HAl
      have hvs : (R.take (k + 1)).filter (fun q => rdB L s dn q.1) = if q = true then (R.take k).filter (fun q => rdB L s dn q.1) ++ [(t, T)] else (R.take k).filter (fun q => rdB L s dn q.1) := by
        rw [hvs]; unfold rdB; rw [hq]
      obtain ⟨F, hF⟩ : ∃ F, (R.take k).filter (fun q => rdB L s dn q.1) = F := ⟨_, rfl⟩
      have hFl : F.length ≤ rl := by
        rw [← hF]
        have := List.length_filter_le (fun q : Atr => rdB L s dn q.1) (R.take k)
        rw [List.length_take] at this
        omega
      rw [hF] at hok hrow hvs hov
      subst hov
      have e0 := (hb1r.cell (p := ⟨w.heap.size, 0, none⟩) hz0).trans (obj2s HX.out.1).1
      have ze : w.heap.size < wr.heap.size := by omega
      have zc : w4.heap.size < wr.heap.size := by omega
      have zr : rg < wr.heap.size := by omega
      have c1 := k1
      have H := Lib.hid (And.intro hcb (And.intro hob (And.intro hok (And.intro hrow (And.intro hb (And.intro hvs (And.intro hlist hTn)))))))
      clear hcb hob hok hrow hb hvs hqk hqr hrB h1 h2 hn1 hxv hfk hrk hq hF hb1r k0
      go_wp2_with fail
      go_region_held3 (fun w' => w'.cell? ⟨w.heap.size, 0, none⟩ = some (.string ⟨dn.toArray⟩) ∧ w'.cell? ⟨w4.heap.size, 1, none⟩ = some (.slice (some ⟨rg, 0, none⟩) rl rc) ∧ w'.cell? ⟨rg, k * 2, none⟩ = some (.string ⟨t.toArray⟩)) (first | exact ⟨he0, hc1, ht0⟩ | exact ⟨e0, c1, t0⟩ | go_keep)
        (first | (go_at_call 16; (with_reducible refine (HAl.out _ (by first | exact hbW | exact (Below.refl _ wr).drew)).mono ?_); rintro en wz ⟨rfl, hb5⟩; have hbW : Below wr.heap.size wr wz := (by first | exact hbW.trans (hb5.mono hbW.size) | exact (Below.refl _ wr).drew.trans hb5); have he0 := (hbW.cell (p := ⟨w.heap.size, 0, none⟩) ze).trans e0; have hc1 := (hbW.cell (p := ⟨w4.heap.size, 1, none⟩) zc).trans c1; have ht0 := (hbW.cell (p := ⟨rg, k * 2, none⟩) zr).trans t0; clear hb5))
      cases q with
      | false =>
        clear t1 he0 hc1 ht0
        go_wp2
        refine ⟨⟨k + 1, .slice oa F.length oc, Lo, by omega, by go_num, obj_below H.out.1 hbW (by omega), obj_below H.out.2.1 hbW (by omega), ?_, ?_, H.out.2.2.2.2.1.trans (hbW.mono H.out.2.2.2.2.1.size), by have := hbW.size; omega⟩, by simp [intOf]; omega⟩
        · rw [H.out.2.2.2.2.2.1, if_neg (by decide)]
          exact H.out.2.2.1
        · rw [H.out.2.2.2.2.2.1, if_neg (by decide)]
          exact ownsRow_below H.out.2.2.2.1 hbW
      | true =>
        have ht1 := (hbW.cell (p := ⟨rg, k * 2 + 1, none⟩) zr).trans t1
        have o9 := obj_below H.out.2.1 hbW (by omega)
        have p1 := (obj2s o9).2
        have pf := obj_free o9 1
        have hs9 := hbW.size
        have HRo := Lib.hid (And.intro (ownsRow_below H.out.2.2.2.1 hbW) (And.intro o9 (show w4.heap.size + 2 ≤ wz.drew.heap.size by show _ ≤ wz.heap.size; omega)))
        have hA : ∀ ob, Below wz.heap.size wz (wz.alloc ob) := fun ob => (Below.refl _ wz).alloc (Nat.le_refl _) ob
        have m1 : ∀ ob, (wz.alloc ob).cell? ⟨w4.heap.size + 1, 1, none⟩ = some (.slice oa F.length oc) := fun ob => ((hA ob).cell (p := ⟨w4.heap.size + 1, 1, none⟩) (by show w4.heap.size + 1 < _; omega)).trans p1
        have m2 : ∀ ob, (wz.alloc ob).cell? ⟨w4.heap.size, 1, none⟩ = some (.slice (some ⟨rg, 0, none⟩) rl rc) := fun ob => ((hA ob).cell (p := ⟨w4.heap.size, 1, none⟩) (by show w4.heap.size < _; omega)).trans hc1
        have m3 : ∀ ob, (wz.alloc ob).cell? ⟨rg, k * 2, none⟩ = some (.string ⟨t.toArray⟩) := fun ob => ((hA ob).cell (p := ⟨rg, k * 2, none⟩) (by show rg < _; omega)).trans ht0
        have m4 : ∀ ob, (wz.alloc ob).cell? ⟨rg, k * 2 + 1, none⟩ = some (.slice xa Tn xc) := fun ob => ((hA ob).cell (p := ⟨rg, k * 2 + 1, none⟩) (by show rg < _; omega)).trans ht1
        clear t0 t1 e0 c1 k1 o9 hA
        go_wp2
        go_region_law (refine step_pushm rfl (.tmp 42) (.tmp 48) 38 50 rfl (w4.heap.size + 2) 2 40 (.agg #[.string ByteArray.empty, .slice none 0 0]) Tryz.sninfo50 Tryz.underlying38 rfl (by decide) wz.drew 1 [.string ⟨t.toArray⟩, .slice xa Tn xc] rfl rfl (by intro u hu; simp at hu; rcases hu with rfl | rfl <;> rfl) (.slice oa F.length oc) F.length (atcs Lo) rfl _ rfl rfl (ownsRow_heap HRo.out.1 rfl) (by unfold maxLen; omega) (by omega) HRo.out.2.2 ?_; intro v' w' h1 h2; obtain ⟨na, nc, rfl⟩ := ownsRow_slice h1; have o10 := obj_below (w := wz.drew) HRo.out.2.1 h2 (by omega); have q1 := (obj2s o10).2; have q2 := obj_free o10 1)
        all_goals
          have HV := Lib.hid (And.intro h1 (And.intro h2 o10))
          clear h1 h2 o10 q1 q2
          go_wp2
          have hb9 : Below w4.heap.size w4 wz.drew := (H.out.2.2.2.2.1.trans (hbW.mono H.out.2.2.2.2.1.size)).drew
          have hb10 := hb9.trans (HV.out.2.1.mono (by omega))
          have c9 := obj_below H.out.1 hbW (show w4.heap.size < wr.heap.size by omega)
          have c10 := obj_below (w := wz.drew) c9 HV.out.2.1 (by omega)
          have hs10 := HV.out.2.1.size
          refine ⟨⟨k + 1, .slice na (F.length + 1) nc, Lo ++ [(t, .slice xa Tn xc)], by omega, by go_num, obj_set_other c10 (by show _ ≠ w4.heap.size + 1; omega) _, set1_e HV.out.2.2 _, ?_, ?_, hb10.setCell (p := ⟨w4.heap.size + 1, 1, none⟩) (by show _ ≤ w4.heap.size + 1; omega) _, ?_⟩, by simp [intOf]; omega⟩
          · rw [H.out.2.2.2.2.2.1]
            first | rw [if_pos trivial] | rw [if_pos rfl]
            refine atOk_app H.out.2.2.1 (atOk_one (B := BB') ?_)
            have := H.out.2.2.2.2.2.2.1
            rw [H.out.2.2.2.2.2.2.2] at this
            rw [H.out.2.2.2.2.2.2.2]
            exact this
          · rw [H.out.2.2.2.2.2.1]
            first | rw [if_pos trivial] | rw [if_pos rfl]
            rw [List.length_append, atcs_app]
            exact own_set1 HV.out.1 HV.out.2.2 (by decide) _
          · have : (w'.setCell ⟨w4.heap.size + 1, 1, none⟩ (.slice na (F.length + 1) nc)).heap.size = w'.heap.size := by simp
            have h9 : wz.drew.heap.size = wz.heap.size := rfl
            omega
    · obtain rfl : k = rl := by omega
      have hl : R.take k = R := by rw [← HRl.out]; exact List.take_length
      rw [hl] at hok hrow hov
      rw [← HV.out] at hok hrow hov
      obtain ⟨F, hF⟩ : ∃ F, vwA L s dn A = F := ⟨_, rfl⟩
      rw [hF] at hok hrow hov
      have HFx := Lib.hid hF
      subst hov
      obtain ⟨o0, o1⟩ := obj2s hob
      have r1 := obj_below HX.out.2.1 hb1r hz01
      obtain ⟨p0, p1⟩ := obj2s r1
      have f0 := obj_free r1 0
      have f1 := obj_free r1 1
      have H := Lib.hid (And.intro (atOk_below hok hb) (And.intro hrow (And.intro r1 (HX.out.2.2.1.trans (hb1r.mono HX.out.2.2.1.size)))))
      clear hok hrow hb hcb hob hb1r r1 hl hF
      go_wp2
      obtain ⟨j0, j1⟩ := obj2s (set2_e H.out.2.2.1 (.string ⟨dn.toArray⟩) (.slice oa F.length oc))
      refine bodyPost_ret (v := .tuple #[.agg #[.string ⟨dn.toArray⟩, .slice oa F.length oc], .bool true]) (by simp [results, Tryz.results21, go_sem, *]) rfl ?_
      rw [HFx.out]
      exact ⟨.inr ⟨rfl, oa, oc, rfl, Lo, w4.heap.size + 2, atOk_set2 H.out.1 H.out.2.2.1 (by decide) _ _, own_set2 H.out.2.1 H.out.2.2.1 (by decide) _ _⟩, below_e2 H.out.2.2.2 (by omega) _ _⟩
theorem rentry_any (A : List Atr) (L : List Rl) (dn s : List UInt8) (lv av : Value) (w : World) (hs : 256 < L.length ∨ ∀ r ∈ L, r.2.2.1.length ≤ 80) (hL : RlAt w lv L) (h : EaAt w av A) (hf : FewG 300 300 A) :
    Calls Tryz.prog 21 #[lv, .string ⟨s.toArray⟩, .agg #[.string ⟨dn.toArray⟩, av]] w (VePost (seB L s dn) dn (vwA L s dn A) w) := by
  cases hq : seB L s dn with
  | false => exact rentry_no A L dn s lv av w hs hL h hq
  | true => exact rentry_yes A L dn s lv av w hs hL h hf hq
end Go.Proofs.YtbihhdkmmlldnaaGreatDoor
namespace Go.Proofs.YtbihhdkmmlldnaaGreatDoor
set_option linter.unusedSimpArgs false
set_option linter.unusedVariables false
open Go Go.RowKit Go.Proofs.BerK Go.Proofs.MemK Go.Proofs.UtfK

def AlPost (t : List UInt8) (w : World) (en : Ending) (w' : World) : Prop := ∃ b, en = .returned (.slice (some ⟨b, 0, none⟩) 2 2) ∧ RlAt w' (.slice (some ⟨b, 0, none⟩) 2 2) (twR t) ∧ Below w.heap.size w w'
set_option maxRecDepth 100000 in
theorem vall_any (t : List UInt8) (w : World) : Calls Tryz.prog 37 #[.string ⟨t.toArray⟩] w (AlPost t w) := by
  go_enter Tryz.func37, Tryz.ntmps37
  go_wp2
  go_ret
  refine ⟨w.heap.size, rfl, ?_, (Below.refl _ w).alloc (Nat.le_refl _) _⟩
  exact rlAt_block (L := twR t) 2 (heap_alloc_new w _)
def enP3 : List Atr := [([99, 110], [[97]]), ([111, 98, 106, 101, 99, 116, 99, 108, 97, 115, 115], [[116, 111, 112], [80, 101, 114, 115, 111, 110]]), ([115, 110], [[98]])]
theorem cl_put (A : List Atr) (a : Atr) : clA (A ++ [a]) = putL (clA A) (lowL a.1) a.2 := by
  rw [put_cl]
theorem enPer_cl : clA perA = enP3 := by
  have e : perA = (([] ++ [([111, 98, 106, 101, 99, 116, 67, 108, 97, 115, 115], [[116, 111, 112], [80, 101, 114, 115, 111, 110]])]) ++ [([99, 110], [[97]])]) ++ [([115, 110], [[98]])] := rfl
  rw [e, cl_put, cl_put, cl_put, cl_nil]
  decide +kernel
theorem eaAt_blk {w : World} {g : Nat} {A : List Atr} {L : List (List UInt8 × Value)} {e : TypeId} (c : Nat) (h : w.heap[g]? = some (.cells (atcs L).toArray e (0, 0))) (hl : L.length = A.length) (hx : ∀ i (h1 : i < A.length) (h2 : i < L.length), L[i].1 = A[i].1 ∧ TxR w L[i].2 A[i].2) (hk : ∀ q ∈ L, SlOk q.2) :
    EaAt w (.slice (some ⟨g, 0, none⟩) A.length c) A := by
  refine ⟨.inr ⟨_, _, _, rfl⟩, _, _, rfl, fun i hi => ?_⟩
  obtain ⟨h1, h2⟩ := atcs_at L i (by omega)
  obtain ⟨x1, x2⟩ := hx i hi (by omega)
  refine ⟨g, 0, L[i].2, rfl, obj_lt h, ?_, ?_, x2, hk _ (List.getElem_mem _)⟩
  · rw [Nat.zero_add, ← x1]; exact obj_cell h _ _ (by simpa using h1)
  · rw [Nat.zero_add]; exact obj_cell h _ _ (by simpa using h2)
theorem eaAt_per {w : World} {g b : Nat} (h : w.heap[g]? = some (.cells (atcs (perRow b)).toArray 50 (0, 0))) (hx : ∀ i (h1 : i < perA.length) (h2 : i < (perRow b).length), (perRow b)[i].1 = perA[i].1 ∧ TxR w (perRow b)[i].2 perA[i].2) : EaAt w (.slice (some ⟨g, 0, none⟩) 3 3) perA :=
  eaAt_blk (A := perA) 3 h rfl hx (fun q hq => by
    unfold perRow at hq
    simp only [List.mem_cons, List.not_mem_nil, or_false] at hq
    rcases hq with rfl | rfl | rfl <;> exact .inr ⟨_, _, _, rfl⟩)

theorem vun_a : undL [99, 110, 61, 97] [] = true := und_of (P := [pA]) (E := []) nr_a nr_e
theorem vse_sn : seB (twR [115, 110]) [] [99, 110, 61, 97] = true := by
  unfold seB
  rw [tw_al (by decide +kernel) (by decide +kernel) vun_a]
  decide +kernel
theorem vse_en : seB (twR [101, 110, 116, 114, 121]) [] [99, 110, 61, 97] = false := by
  unfold seB
  rw [tw_al (by decide +kernel) (by decide +kernel) vun_a]
  decide +kernel
theorem vse_no (s dn : List UInt8) : seB [] s dn = false := by
  unfold seB
  rw [al_gv]
  simp [gvL]
def vwL : List Atr := [([99, 110], [[97]]), ([111, 98, 106, 101, 99, 116, 99, 108, 97, 115, 115], [[116, 111, 112], [80, 101, 114, 115, 111, 110]])]
theorem vvw_sn : vwA (twR [115, 110]) [] [99, 110, 61, 97] perA = vwL := by
  unfold vwA
  rw [enPer_cl]
  have : (fun a : Atr => rdB (twR [115, 110]) [] [99, 110, 61, 97] a.1) = fun a : Atr => !(lowL [115, 110] == lowL a.1) := by
    funext a
    unfold rdB
    rw [tw_al (by decide +kernel) (by decide +kernel) vun_a]
  rw [this]
  decide +kernel
set_option maxHeartbeats 12800000 in
set_option maxRecDepth 100000 in
theorem awake17_any (w : World) (he : ErrOk w) : Calls Tryz.prog 19 #[] w (BoolPost true w) := by
  have HE := Lib.hid (fun w' (hb : Below w.heap.size w w') => errOk_below he hb)
  have A1 : Hid (∀ w, Calls Tryz.prog 37 #[.string ⟨#[115, 110]⟩] w (AlPost [115, 110] w)) := fun w => vall_any [115, 110] w
  have A2 : Hid (∀ w, Calls Tryz.prog 37 #[.string ⟨#[101, 110, 116, 114, 121]⟩] w (AlPost [101, 110, 116, 114, 121] w)) := fun w => vall_any [101, 110, 116, 114, 121] w
  have P := Lib.hid (fun w => person_any w)
  have E1 : Hid (∀ lv av w, ErrOk w → RlAt w lv (twR [115, 110]) → EaAt w av perA → Calls Tryz.prog 20 #[lv, .string ⟨#[]⟩, .agg #[.string ⟨#[99, 110, 61, 97]⟩, av]] w (VePost true [99, 110, 61, 97] vwL w)) := fun lv av w he hl ha => by
    have := ventry_any perA (twR [115, 110]) [99, 110, 61, 97] [] lv av w he hl ha (by unfold FewE; decide +kernel)
    rw [vse_sn, vvw_sn] at this
    exact this
  have E2 : Hid (∀ lv av w, ErrOk w → RlAt w lv (twR [101, 110, 116, 114, 121]) → EaAt w av perA → Calls Tryz.prog 20 #[lv, .string ⟨#[]⟩, .agg #[.string ⟨#[99, 110, 61, 97]⟩, av]] w (VePost false [99, 110, 61, 97] (vwA (twR [101, 110, 116, 114, 121]) [] [99, 110, 61, 97] perA) w)) := fun lv av w he hl ha => by
    have := ventry_any perA (twR [101, 110, 116, 114, 121]) [99, 110, 61, 97] [] lv av w he hl ha (by unfold FewE; decide +kernel)
    rw [vse_en] at this
    exact this
  have S1 : Hid (∀ lv w, ErrOk w → RlAt w lv (twR [115, 110]) → Calls Tryz.prog 23 #[lv, .string ⟨#[]⟩, .string ⟨#[99, 110, 61, 97]⟩] w (BoolPost true w)) := fun lv w he hl => by rw [← vse_sn]; exact seen_any lv _ [] _ w he hl
  have S2 : Hid (∀ w, ErrOk w → Calls Tryz.prog 23 #[.slice none 0 0, .string ⟨#[]⟩, .string ⟨#[99, 110, 61, 97]⟩] w (BoolPost false w)) := fun w he => by rw [← vse_no [] [99, 110, 61, 97]]; exact seen_any _ [] [] _ w he (rlAt_nil w none 0)
  have O1 : Hid (∀ lv w, ErrOk w → RlAt w lv (twR [115, 110]) → Calls Tryz.prog 25 #[lv, .string ⟨#[]⟩, .string ⟨#[99, 110, 61, 97]⟩] w (StrPost [99, 110, 61, 97] w)) := fun lv w he hl => by
    have := old_any lv (twR [115, 110]) [] [99, 110, 61, 97] w he hl
    rw [vse_sn] at this
    exact this
  have O2 : Hid (∀ w, ErrOk w → Calls Tryz.prog 25 #[.slice none 0 0, .string ⟨#[]⟩, .string ⟨#[99, 110, 61, 97]⟩] w (StrPost [] w)) := fun w he => by
    have := old_any (.slice none 0 0) [] [] [99, 110, 61, 97] w he (rlAt_nil w none 0)
    rw [vse_no] at this
    exact this
  clear he
  go_enter Tryz.func19, Tryz.ntmps19
  go_wp2_with fail
  refine (A1.out w).mono ?_
  rintro e w1 ⟨b1, rfl, hl1, hb1⟩
  have B1 := Lib.hid (And.intro hb1 hl1)
  clear hb1 hl1
  go_wp2_with fail
  refine (P.out w1).mono ?_
  rintro e w2 ⟨pg, pb, rfl, hp1, hpx, hp2, hpy, hb2⟩
  clear hpx hpy
  have B2 := Lib.hid (And.intro (B1.out.1.trans (hb2.mono B1.out.1.size)) (And.intro (rlAt_below B1.out.2 hb2) (eaAt_per hp1 hp2)))
  clear hb2 hp1 hp2
  go_wp2_with fail
  refine (E1.out _ _ w2 (HE.out _ B2.out.1) B2.out.2.1 B2.out.2.2).mono ?_
  rintro e w3 ⟨hx, hb3⟩
  rcases hx with ⟨h0, _⟩ | ⟨_, va, vc, he3, _⟩
  · cases h0
  have he3 : e = .returned (.tuple #[.agg #[.string ⟨#[99, 110, 61, 97]⟩, .slice va 2 vc], .bool true]) := he3
  subst he3
  have B3 := Lib.hid (B2.out.1.trans (hb3.mono B2.out.1.size))
  clear hb3
  obtain ⟨W4, hW4⟩ : ∃ W4, w3.alloc (.cells #[.string ⟨#[99, 110, 61, 97]⟩, .slice va 2 vc] 40) = W4 := ⟨_, rfl⟩
  have hg4 : W4.heap[w3.heap.size]? = some (.cells #[.string ⟨#[99, 110, 61, 97]⟩, .slice va 2 vc] 40 (0, 0)) := by rw [← hW4]; exact heap_alloc_new w3 _
  have B4 := Lib.hid (show Below w.heap.size w W4 by rw [← hW4]; exact B3.out.alloc B3.out.size _)
  have HW4 := Lib.hid hW4
  clear hW4
  go_wp2_with fail
  rw [HW4.out]
  refine (A2.out W4).mono ?_
  rintro e w5 ⟨b5, rfl, hl5, hb5⟩
  have B5 := Lib.hid (And.intro (B4.out.trans (hb5.mono B4.out.size)) (And.intro hl5 (obj_below hg4 hb5 (obj_lt hg4))))
  clear hb5 hl5 hg4
  go_wp2_with fail
  refine (P.out w5).mono ?_
  rintro e w6 ⟨qg, qb, rfl, hp1, hpx, hp2, hpy, hb6⟩
  clear hpx hpy
  have B6 := Lib.hid (And.intro (B5.out.1.trans (hb6.mono B5.out.1.size)) (And.intro (rlAt_below B5.out.2.1 hb6) (And.intro (eaAt_per hp1 hp2) (obj_below B5.out.2.2 hb6 (obj_lt B5.out.2.2)))))
  clear hb6 hp1 hp2
  go_wp2_with fail
  refine (E2.out _ _ w6 (HE.out _ B6.out.1) B6.out.2.1 B6.out.2.2.1).mono ?_
  rintro e w7 ⟨hx, hb7⟩
  rcases hx with ⟨_, he7⟩ | ⟨h0, _⟩
  rotate_left
  · cases h0
  subst he7
  have B7 := Lib.hid (And.intro (B6.out.1.trans (hb7.mono B6.out.1.size)) (obj_below B6.out.2.2.2 hb7 (obj_lt B6.out.2.2.2)))
  clear hb7
  obtain ⟨W8, hW8⟩ : ∃ W8, w7.alloc (.cells #[.string ⟨#[]⟩, .slice none 0 0] 40) = W8 := ⟨_, rfl⟩
  have hg8 : W8.heap[w3.heap.size]? = some (.cells #[.string ⟨#[99, 110, 61, 97]⟩, .slice va 2 vc] 40 (0, 0)) := by rw [← hW8]; exact obj_alloc B7.out.2 _
  have B8 := Lib.hid (show Below w.heap.size w W8 by rw [← hW8]; exact B7.out.1.alloc B7.out.1.size _)
  obtain ⟨j0, j1⟩ := obj2s hg8
  rw [← hW8] at j0 j1
  have HW8 := Lib.hid hW8
  clear hW8 hg8
  go_wp2_with fail
  rw [HW8.out]
  clear j0 j1
  refine (A1.out W8).mono ?_
  rintro e w9 ⟨b9, rfl, hl9, hb9⟩
  have B9 := Lib.hid (And.intro (B8.out.trans (hb9.mono B8.out.size)) hl9)
  clear hb9 hl9
  go_wp2_with fail
  refine (S1.out _ w9 (HE.out _ B9.out.1) B9.out.2).mono ?_
  rintro e w10 ⟨rfl, hb⟩
  have B10 := Lib.hid (B9.out.1.trans (hb.mono B9.out.1.size))
  clear hb
  go_wp2_with fail
  refine (S2.out w10 (HE.out _ B10.out)).mono ?_
  rintro e w11 ⟨rfl, hb⟩
  have B11 := Lib.hid (B10.out.trans (hb.mono B10.out.size))
  clear hb
  go_wp2_with fail
  refine (A1.out w11).mono ?_
  rintro e w12 ⟨b12, rfl, hl12, hb12⟩
  have B12 := Lib.hid (And.intro (B11.out.trans (hb12.mono B11.out.size)) hl12)
  clear hb12 hl12
  go_wp2_with fail
  refine (O1.out _ w12 (HE.out _ B12.out.1) B12.out.2).mono ?_
  rintro e w13 ⟨rfl, hb⟩
  have B13 := Lib.hid (B12.out.1.trans (hb.mono B12.out.1.size))
  clear hb
  go_wp2_with fail
  refine (O2.out w13 (HE.out _ B13.out)).mono ?_
  rintro e w14 ⟨rfl, hb⟩
  have B14 := Lib.hid (B13.out.trans (hb.mono B13.out.size))
  clear hb
  go_wp2
  go_ret
  exact boolPost_mk (by first | rfl | simp) B14.out
end Go.Proofs.YtbihhdkmmlldnaaGreatDoor
