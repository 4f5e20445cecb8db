/- The law on what is selected. -/
import Derived.Test.YtjbdldbjefmnjaaGreatDoorEoIL
namespace Go.Proofs.YtjbdldbjefmnjaaGreatDoor
set_option linter.unusedSimpArgs false
set_option linter.unusedVariables false
open Go Go.RowKit Go.Proofs.BerK Go.Proofs.MemK Go.Proofs.UtfK

set_option maxHeartbeats 25600000 in
set_option maxRecDepth 100000 in
theorem enselects_any (dn : List UInt8) (A : List Atr) (T : List (List UInt8)) (av tv : Value) (ty : Bool) (w : World) (hA : EaAt w av A) (hT : TxR w tv T) (he : ErrOk w) :
    Calls Tryz.prog 3 #[.agg #[.string ⟨dn.toArray⟩, av], tv, .bool ty] w (BB true w) := by
  have HAw := Lib.hid (fun w' (hb : Below w.heap.size w w') => enawake_any w' (errOk_below he hb))
  have HFw := Lib.hid (fun w' (hb : Below w.heap.size w w') => few9_any dn A av w' (eaAt_at (eaAt_below hA hb)))
  have HEa := Lib.hid (fun w' (hb : Below w.heap.size w w') => eaAt_below hA hb)
  have HTx := Lib.hid (fun w' (hb : Below w.heap.size w w') => txR_below hT hb)
  obtain ⟨a, c, rfl⟩ := eaAt_slice hA
  obtain ⟨ta, tc, rfl, htc⟩ := hT
  have HTc := Lib.hid htc
  obtain ⟨tl, htl⟩ : ∃ x, T.length = x := ⟨_, rfl⟩
  have HTl := Lib.hid htl
  rw [htl] at HTx ⊢
  obtain ⟨n, hn⟩ : ∃ x, A.length = x := ⟨_, rfl⟩
  rw [hn] at HFw HEa ⊢
  obtain ⟨W1, hW1⟩ : ∃ W1, w.alloc (.cells #[.string ⟨dn.toArray⟩, .slice a n c] 24) = W1 := ⟨_, rfl⟩
  have hb1 : Below w.heap.size w W1 := by rw [← hW1]; exact (Below.refl _ w).alloc (Nat.le_refl _) _
  have y1 : W1.heap[w.heap.size]? = some (.cells #[.string ⟨dn.toArray⟩, .slice a n c] 24 (0, 0)) := by rw [← hW1]; exact heap_alloc_new w _
  have HB1 := Lib.hid (And.intro hb1 y1)
  have HW1 := Lib.hid hW1
  obtain ⟨k0, k1⟩ := obj2s y1
  rw [← hW1] at k0 k1
  clear hA htc htl hn hW1 hb1 y1 he
  go_enter Tryz.func3, Tryz.ntmps3
  go_wp2_with fail
  rw [HW1.out]
  clear k0 k1
  refine (HFw.out _ HB1.out.1).mono ?_
  rintro en w3 ⟨hfew, hb3⟩
  have hb13 := HB1.out.1.trans (hb3.mono HB1.out.1.size)
  have y3 := obj_below HB1.out.2 hb3 (obj_lt HB1.out.2)
  have H3 := Lib.hid (And.intro hb13 y3)
  clear hb3 hb13 y3
  rcases hfew with rfl | ⟨rfl, hfew⟩
  · go_wp2_with fail
    refine (HAw.out _ H3.out.1).mono ?_
    rintro en w9 ⟨rfl, hb⟩
    have HB9 := Lib.hid ((H3.out.1).trans (hb.mono (H3.out.1).size))
    clear hb
    go_wp2
    go_ret
    exact bB_mk rfl HB9.out

  have HFe := Lib.hid hfew
  clear hfew
  by_cases h10 : 10 < tl
  · have hq : (10 : Int) < (tl : Int) := by omega
    go_wp2_with fail
    refine (HAw.out _ H3.out.1).mono ?_
    rintro en w9 ⟨rfl, hb⟩
    have HB9 := Lib.hid ((H3.out.1).trans (hb.mono (H3.out.1).size))
    clear hb
    go_wp2
    go_ret
    exact bB_mk rfl HB9.out

  have hq : ¬ (10 : Int) < (tl : Int) := by omega
  obtain ⟨k0, k1⟩ := obj2s H3.out.2
  go_wp2
  go_loop [7] (fun v => ∃ k : Nat, k ≤ tl ∧ v = .int .i64 (k : Nat) ∧ ∀ j (hj : j < T.length), j < k → T[j].length ≤ 100) (fun v => tl - (intOf v).toNat)
  case atStart => exact ⟨0, by omega, rfl, fun j _ h => by omega⟩
  case round =>
    obtain ⟨k, hk, rfl, hall⟩ := hrel
    by_cases hlt : k < tl
    · have hkl : (k : Int) < (tl : Int) := by omega
      have hkm : k < T.length := by rw [HTl.out]; exact hlt
      obtain ⟨g, o, rfl, hg, t0w⟩ := HTc.out k hkm
      have t0 := (H3.out.1.cell (p := ⟨g, o + k, none⟩) hg).trans t0w
      have hstep : T[k].length ≤ 100 → ∀ j (hj : j < T.length), j < k + 1 → T[j].length ≤ 100 := fun h j hj hjk => by
        by_cases e : j = k
        · subst e; exact h
        · exact hall j hj (by omega)
      obtain ⟨m, hm⟩ : ∃ x, T[k] = x := ⟨_, rfl⟩
      rw [hm] at t0 hstep
      by_cases h100 : 100 < m.length
      · have hq2 : (100 : Int) < (m.length : Int) := by omega
        clear hall hstep hm t0w
        go_wp2_with fail
        refine (HAw.out _ H3.out.1).mono ?_
        rintro en w9 ⟨rfl, hb⟩
        have HB9 := Lib.hid ((H3.out.1).trans (hb.mono (H3.out.1).size))
        clear hb
        go_wp2
        go_ret
        exact bB_mk rfl HB9.out

      · have hq2 : ¬ (100 : Int) < (m.length : Int) := by omega
        have HS := Lib.hid (hstep (by omega))
        clear hall hstep hm t0w
        go_wp2
        exact ⟨⟨k + 1, by omega, by go_num, HS.out⟩, by simp [intOf]; omega⟩
    · obtain rfl : tl = k := by omega
      have hTb : ∀ s ∈ T, s.length ≤ 100 := fun s hs => by
        obtain ⟨j, hj, rfl⟩ := List.mem_iff_getElem.1 hs
        exact hall j hj (by rw [← HTl.out]; exact hj)
      have hG := few_g HFe.out
      have hGs := fewG_sel hG T ty
      have HSe := Lib.hid (select_any A T dn _ _ ty w3 (HEa.out _ H3.out.1) (HTx.out _ H3.out.1) (fewG_e hG (by omega) (by omega)) (by rw [HTl.out]; omega) (fun s hs => by have := hTb s hs; omega))
      have HRs0 := Lib.hid (fun w' (hb : Below w.heap.size w w') => rsel10_any A T dn _ _ ty w' (eaAt_at (HEa.out _ hb)) (HTx.out _ hb) (fewG_mono hG (by omega) (by omega)) (by rw [HTl.out]; omega) (fun s hs => by have := hTb s hs; omega))
      have HSe20 := Lib.hid (fun w' v (h : EaAt w' v (seL A T ty)) (hb : Below w.heap.size w w') => select_any (seL A T ty) T dn v _ false w' h (HTx.out _ hb) (fewG_e hGs (by omega) (by omega)) (by rw [HTl.out]; omega) (fun s hs => by have := hTb s hs; omega))
      have hAg := seL_again A T ty
      have HEqA := Lib.hid (fun w' v1 v2 (h1 : AtAt w' v1 (seL A T ty)) (h2 : AtAt w' v2 (seL A T ty)) => by
        have hx := req10_any (seL A T ty) (seL A T ty) dn dn v1 v2 w' h1 h2 (by have := hGs.1; omega) (by have := hGs.1; omega) (fun a ha => by have := (hGs.2 a ha).2.1; omega) (fun a ha => by have := (hGs.2 a ha).2.1; omega)
        rw [decide_eq_true (show dn = dn ∧ seL A T ty = seL A T ty from ⟨rfl, rfl⟩)] at hx
        exact hx)
      have hG2 : FewG 12 96 (seL (seL A T ty) T false) := by
        rw [hAg]
        split
        · exact ⟨by simp, fun a ha => by simp at ha⟩
        · exact hGs
      have HEqB0 := Lib.hid (fun w' v1 v2 (h1 : AtAt w' v1 (seL (seL A T ty) T false)) (h2 : AtAt w' v2 (seL A T ty)) => req10_any (seL (seL A T ty) T false) (seL A T ty) dn dn v1 v2 w' h1 h2 (by have := hG2.1; omega) (by have := hGs.1; omega) (fun a ha => by have := (hG2.2 a ha).2.1; omega) (fun a ha => by have := (hGs.2 a ha).2.1; omega))
      rw [hAg] at HSe20 HEqB0
      clear hall hG hGs hTb hAg hG2
      obtain ⟨S, hS⟩ : ∃ S, seL A T ty = S := ⟨_, rfl⟩
      rw [hS] at HSe HRs0 HSe20 HEqA HEqB0
      obtain ⟨S2, hS2⟩ : ∃ S2, (if ty = true then ([] : List Atr) else S) = S2 := ⟨_, rfl⟩
      rw [hS2] at HSe20 HEqB0
      obtain ⟨sl, hsl⟩ : ∃ x, S.length = x := ⟨_, rfl⟩
      have HSl := Lib.hid hsl
      have hdec : decide (dn = dn ∧ S2 = S) = (!ty || ((sl : Int) == 0)) := by
        rw [← hS2, ← hsl]
        cases ty
        · simp
        · cases S with
          | nil => simp
          | cons x S => simp; omega
      have HEqB := Lib.hid (fun w' v1 v2 h1 h2 => by have hx := HEqB0.out w' v1 v2 h1 h2; rw [hdec] at hx; exact hx)
      clear HEqB0 hS hS2 hsl hdec
      go_wp2_with fail
      refine HSe.out.mono ?_
      rintro en w5 ⟨sv, Sq, rfl, hok, hr, hb5⟩
      have hea5 := eaAt_own (atTx_ok hok) hr
      obtain ⟨ya, yc, rfl⟩ := ownsRow_slice hr
      rw [HSl.out] at hea5 ⊢
      obtain ⟨W6, hW6⟩ : ∃ W6, w5.alloc (.cells #[.string ⟨dn.toArray⟩, .slice ya sl yc] 24) = W6 := ⟨_, rfl⟩
      have hb56 : Below w5.heap.size w5 W6 := by rw [← hW6]; exact (Below.refl _ w5).alloc (Nat.le_refl _) _
      have y6 : W6.heap[w5.heap.size]? = some (.cells #[.string ⟨dn.toArray⟩, .slice ya sl yc] 24 (0, 0)) := by rw [← hW6]; exact heap_alloc_new w5 _
      have hb36 : Below w3.heap.size w3 W6 := hb5.trans (hb56.mono hb5.size)
      have hbw6 := H3.out.1.trans (hb36.mono H3.out.1.size)
      have hea6 := eaAt_below hea5 hb56
      have HRs := Lib.hid (fun w' (hb : Below W6.heap.size W6 w') => HRs0.out w' (hbw6.trans (hb.mono hbw6.size)))
      have HSe2 := Lib.hid (fun w' (hb : Below W6.heap.size W6 w') => HSe20.out w' _ (eaAt_below hea6 hb) (hbw6.trans (hb.mono hbw6.size)))
      have HAa := Lib.hid (fun w' (hb : Below W6.heap.size W6 w') => eaAt_at (eaAt_below hea6 hb))
      have HAw2 := Lib.hid (fun w' (hb : Below W6.heap.size W6 w') => HAw.out w' (hbw6.trans (hb.mono hbw6.size)))
      have HBw := Lib.hid hbw6
      have yb6 := obj_below H3.out.2 hb36 (obj_lt H3.out.2)
      have ze := obj_lt yb6
      have zs := obj_lt y6
      clear k0 k1
      obtain ⟨e0, e1⟩ := obj2s yb6
      obtain ⟨s0, s1⟩ := obj2s y6
      have HW6 := Lib.hid hW6
      have L0 := e0
      have L1 := e1
      have L2 := s0
      have L3 := s1
      rw [← hW6] at L0 L1 L2 L3
      clear hok hr hb5 hea5 hb56 y6 hb36 hbw6 hea6 yb6 hW6 HRs0 HSe20
      cases ty with
      | false =>
        rw [show (!false || ((sl : Int) == 0)) = true from rfl] at HEqB
        go_wp2_with fail
        rw [HW6.out]
        clear L0 L1 L2 L3
        refine wp_region_noPanic ?_
        refine wp_region_held_drew (S := fun w' => w'.cell? ⟨w.heap.size, 0, none⟩ = some (.string ⟨dn.toArray⟩) ∧ w'.cell? ⟨w.heap.size, 1, none⟩ = some (.slice a n c) ∧ w'.cell? ⟨w5.heap.size, 0, none⟩ = some (.string ⟨dn.toArray⟩) ∧ w'.cell? ⟨w5.heap.size, 1, none⟩ = some (.slice ya sl yc)) (by kernel_rfl) ?_ (fun hHeld => ?_)
        · exact ⟨e0, e1, s0, s1⟩
        refine wpAnyH_take (i := 0) (v := ?v0) rfl (by kernel_rfl) (by kernel_rfl) (by kernel_rfl) (fun _ _ _ h => h) (Or.inl ⟨by rfl, ?y0⟩) (by assumption) ?r0
        case y0 => (intro w' hSw; (try dsimp only at hSw); go_simp; with_reducible rfl)
        try simp only [List.getElem_toArray, List.getElem_cons_zero, List.getElem_cons_succ, Act.put, List.setIfInBounds_toArray, List.set_cons_zero, List.set_cons_succ]
        refine wpAnyH_take (i := 1) (v := ?v1) rfl (by kernel_rfl) (by kernel_rfl) (by kernel_rfl) (fun _ _ _ h => h) (Or.inl ⟨by rfl, ?y1⟩) (by assumption) ?r1
        case y1 => (intro w' hSw; (try dsimp only at hSw); go_simp; with_reducible rfl)
        try simp only [List.getElem_toArray, List.getElem_cons_zero, List.getElem_cons_succ, Act.put, List.setIfInBounds_toArray, List.set_cons_zero, List.set_cons_succ]
        refine wpAnyH_take (i := 2) (v := ?v2) rfl (by kernel_rfl) (by kernel_rfl) (by kernel_rfl) (fun _ _ _ h => h) (Or.inl ⟨by rfl, ?y2⟩) (by assumption) ?r2
        case y2 => (intro w' hSw; (try dsimp only at hSw); go_simp; with_reducible rfl)
        try simp only [List.getElem_toArray, List.getElem_cons_zero, List.getElem_cons_succ, Act.put, List.setIfInBounds_toArray, List.set_cons_zero, List.set_cons_succ]
        refine wpAnyH_take (i := 3) (v := ?v3) rfl (by kernel_rfl) (by kernel_rfl) (by kernel_rfl) (fun _ _ _ h => h) (Or.inl ⟨by rfl, ?y3⟩) (by assumption) ?r3
        case y3 => (intro w' hSw; (try dsimp only at hSw); go_simp; with_reducible rfl)
        try simp only [List.getElem_toArray, List.getElem_cons_zero, List.getElem_cons_succ, Act.put, List.setIfInBounds_toArray, List.set_cons_zero, List.set_cons_succ]
        refine wpAnyH_ready (rs := [4]) (by kernel_rfl) (by simp) ?_
        refine AllReadyH.cons (o := _) rfl (fun K hK => ?c4) ?n4
        case n4 => exact AllReadyH.nil
        go_simp
        go_at_call 9
        with_reducible refine (HRs.out _ (by first | exact hbW | exact (Below.refl _ W6).drew)).mono ?_
        rintro en wz ⟨rv, rfl, hpa, hb5⟩
        have hbW : Below W6.heap.size W6 wz := (by first | exact hbW.trans (hb5.mono hbW.size) | exact (Below.refl _ W6).drew.trans hb5)
        have he0 := (hbW.cell (p := ⟨w.heap.size, 0, none⟩) ze).trans e0
        have he1 := (hbW.cell (p := ⟨w.heap.size, 1, none⟩) ze).trans e1
        have hs0 := (hbW.cell (p := ⟨w5.heap.size, 0, none⟩) zs).trans s0
        have hs1 := (hbW.cell (p := ⟨w5.heap.size, 1, none⟩) zs).trans s1
        have HR1 := Lib.hid (eaAt_at (paAt_ea hpa))
        obtain ⟨ra, rc, rfl⟩ := paAt_slice hpa
        rw [HSl.out] at HR1 ⊢
        clear hpa hb5
        go_wp2_with fail
        refine hK.out _ _ ?_ (fun hHeld => ?_)
        · exact ⟨he0, he1, hs0, hs1⟩
        clear hK K
        try simp only [List.getElem_toArray, List.getElem_cons_zero, List.getElem_cons_succ, Act.put, List.setIfInBounds_toArray, List.set_cons_zero, List.set_cons_succ]
        refine wpAnyH_ready (rs := [5]) (by kernel_rfl) (by simp) ?_
        refine AllReadyH.cons (o := _) rfl (fun K hK => ?c5) ?n5
        case n5 => exact AllReadyH.nil
        go_simp
        go_at_call 8
        with_reducible refine (HEqA.out _ _ _ (HAa.out _ (by first | exact hbW | exact (Below.refl _ W6).drew)) HR1.out).mono ?_
        rintro en wz ⟨rfl, hb5⟩
        have hbW : Below W6.heap.size W6 wz := (by first | exact hbW.trans (hb5.mono hbW.size) | exact (Below.refl _ W6).drew.trans hb5)
        have he0 := (hbW.cell (p := ⟨w.heap.size, 0, none⟩) ze).trans e0
        have he1 := (hbW.cell (p := ⟨w.heap.size, 1, none⟩) ze).trans e1
        have hs0 := (hbW.cell (p := ⟨w5.heap.size, 0, none⟩) zs).trans s0
        have hs1 := (hbW.cell (p := ⟨w5.heap.size, 1, none⟩) zs).trans s1
        clear hb5
        go_wp2_with fail
        refine hK.out _ _ ?_ (fun hHeld => ?_)
        · exact ⟨he0, he1, hs0, hs1⟩
        clear hK K
        try simp only [List.getElem_toArray, List.getElem_cons_zero, List.getElem_cons_succ, Act.put, List.setIfInBounds_toArray, List.set_cons_zero, List.set_cons_succ]
        refine wpAnyH_take (i := 6) (v := ?v6) rfl (by kernel_rfl) (by kernel_rfl) (by kernel_rfl) (fun _ _ _ h => h) (Or.inl ⟨by rfl, ?y6⟩) (by assumption) ?r6
        case y6 => (intro w' hSw; (try dsimp only at hSw); go_simp; with_reducible rfl)
        try simp only [List.getElem_toArray, List.getElem_cons_zero, List.getElem_cons_succ, Act.put, List.setIfInBounds_toArray, List.set_cons_zero, List.set_cons_succ]
        refine wpAnyH_take (i := 7) (v := ?v7) rfl (by kernel_rfl) (by kernel_rfl) (by kernel_rfl) (fun _ _ _ h => h) (Or.inl ⟨by rfl, ?y7⟩) (by assumption) ?r7
        case y7 => (intro w' hSw; (try dsimp only at hSw); go_simp; with_reducible rfl)
        try simp only [List.getElem_toArray, List.getElem_cons_zero, List.getElem_cons_succ, Act.put, List.setIfInBounds_toArray, List.set_cons_zero, List.set_cons_succ]
        refine wpAnyH_take (i := 8) (v := ?v8) rfl (by kernel_rfl) (by kernel_rfl) (by kernel_rfl) (fun _ _ _ h => h) (Or.inl ⟨by rfl, ?y8⟩) (by assumption) ?r8
        case y8 => (intro w' hSw; (try dsimp only at hSw); go_simp; with_reducible rfl)
        try simp only [List.getElem_toArray, List.getElem_cons_zero, List.getElem_cons_succ, Act.put, List.setIfInBounds_toArray, List.set_cons_zero, List.set_cons_succ]
        refine wpAnyH_take (i := 10) (v := ?v10) rfl (by kernel_rfl) (by kernel_rfl) (by kernel_rfl) (fun _ _ _ h => h) (Or.inl ⟨by rfl, ?y10⟩) (by assumption) ?r10
        case y10 => (intro w' hSw; (try dsimp only at hSw); go_simp; with_reducible rfl)
        try simp only [List.getElem_toArray, List.getElem_cons_zero, List.getElem_cons_succ, Act.put, List.setIfInBounds_toArray, List.set_cons_zero, List.set_cons_succ]
        refine wpAnyH_take (i := 12) (v := ?v12) rfl (by kernel_rfl) (by kernel_rfl) (by kernel_rfl) (fun _ _ _ h => h) (Or.inl ⟨by rfl, ?y12⟩) (by assumption) ?r12
        case y12 => (intro w' hSw; (try dsimp only at hSw); go_simp; with_reducible rfl)
        try simp only [List.getElem_toArray, List.getElem_cons_zero, List.getElem_cons_succ, Act.put, List.setIfInBounds_toArray, List.set_cons_zero, List.set_cons_succ]
        refine wpAnyH_take (i := 13) (v := ?v13) rfl (by kernel_rfl) (by kernel_rfl) (by kernel_rfl) (fun _ _ _ h => h) (Or.inl ⟨by rfl, ?y13⟩) (by assumption) ?r13
        case y13 => (intro w' hSw; (try dsimp only at hSw); go_simp; with_reducible rfl)
        try simp only [List.getElem_toArray, List.getElem_cons_zero, List.getElem_cons_succ, Act.put, List.setIfInBounds_toArray, List.set_cons_zero, List.set_cons_succ]
        refine wpAnyH_ready (rs := [9]) (by kernel_rfl) (by simp) ?_
        refine AllReadyH.cons (o := _) rfl (fun K hK => ?c9) ?n9
        case n9 => exact AllReadyH.nil
        go_simp
        go_at_call 7
        with_reducible refine (HSe2.out _ (by first | exact hbW | exact (Below.refl _ W6).drew)).mono ?_
        rintro en wz ⟨v2, L2, rfl, hok, hr, hb5⟩
        have hbW : Below W6.heap.size W6 wz := (by first | exact hbW.trans (hb5.mono hbW.size) | exact (Below.refl _ W6).drew.trans hb5)
        have he0 := (hbW.cell (p := ⟨w.heap.size, 0, none⟩) ze).trans e0
        have he1 := (hbW.cell (p := ⟨w.heap.size, 1, none⟩) ze).trans e1
        have hs0 := (hbW.cell (p := ⟨w5.heap.size, 0, none⟩) zs).trans s0
        have hs1 := (hbW.cell (p := ⟨w5.heap.size, 1, none⟩) zs).trans s1
        have HR2 := Lib.hid (eaAt_at (eaAt_own (atTx_ok hok) hr))
        obtain ⟨qa, qc, rfl⟩ := ownsRow_slice hr
        clear hok hr hb5
        go_wp2_with fail
        refine hK.out _ _ ?_ (fun hHeld => ?_)
        · exact ⟨he0, he1, hs0, hs1⟩
        clear hK K
        try simp only [List.getElem_toArray, List.getElem_cons_zero, List.getElem_cons_succ, Act.put, List.setIfInBounds_toArray, List.set_cons_zero, List.set_cons_succ]
        refine wpAnyH_ready (rs := [11]) (by kernel_rfl) (by simp) ?_
        refine AllReadyH.cons (o := _) rfl (fun K hK => ?c11) ?n11
        case n11 => exact AllReadyH.nil
        go_simp
        go_at_call 8
        with_reducible refine (HEqB.out _ _ _ HR2.out (HAa.out _ (by first | exact hbW | exact (Below.refl _ W6).drew))).mono ?_
        rintro en wz ⟨rfl, hb5⟩
        have hbW : Below W6.heap.size W6 wz := (by first | exact hbW.trans (hb5.mono hbW.size) | exact (Below.refl _ W6).drew.trans hb5)
        have he0 := (hbW.cell (p := ⟨w.heap.size, 0, none⟩) ze).trans e0
        have he1 := (hbW.cell (p := ⟨w.heap.size, 1, none⟩) ze).trans e1
        have hs0 := (hbW.cell (p := ⟨w5.heap.size, 0, none⟩) zs).trans s0
        have hs1 := (hbW.cell (p := ⟨w5.heap.size, 1, none⟩) zs).trans s1
        clear hb5
        go_wp2_with fail
        refine hK.out _ _ ?_ (fun hHeld => ?_)
        · exact ⟨he0, he1, hs0, hs1⟩
        clear hK K
        try simp only [List.getElem_toArray, List.getElem_cons_zero, List.getElem_cons_succ, Act.put, List.setIfInBounds_toArray, List.set_cons_zero, List.set_cons_succ]
        refine wpAnyH_take (i := 14) (v := ?v14) rfl (by kernel_rfl) (by kernel_rfl) (by kernel_rfl) (fun _ _ _ h => h) (Or.inl ⟨by rfl, ?y14⟩) (by assumption) ?r14
        case y14 => (intro w' hSw; (try dsimp only at hSw); go_simp; with_reducible rfl)
        try simp only [List.getElem_toArray, List.getElem_cons_zero, List.getElem_cons_succ, Act.put, List.setIfInBounds_toArray, List.set_cons_zero, List.set_cons_succ]
        refine wpAnyH_take (i := 15) (v := undef) rfl (by kernel_rfl) (by kernel_rfl) (by kernel_rfl) (fun _ _ _ h => h) (Or.inr ⟨by rfl, rfl⟩) (by assumption) ?_
        try simp only [List.getElem_toArray, List.getElem_cons_zero, List.getElem_cons_succ, Act.put, List.setIfInBounds_toArray, List.set_cons_zero, List.set_cons_succ]
        refine wpAnyH_take (i := 16) (v := undef) rfl (by kernel_rfl) (by kernel_rfl) (by kernel_rfl) (fun _ _ _ h => h) (Or.inr ⟨by rfl, rfl⟩) (by assumption) ?_
        try simp only [List.getElem_toArray, List.getElem_cons_zero, List.getElem_cons_succ, Act.put, List.setIfInBounds_toArray, List.set_cons_zero, List.set_cons_succ]
        refine wpAnyH_take (i := 17) (v := undef) rfl (by kernel_rfl) (by kernel_rfl) (by kernel_rfl) (fun _ _ _ h => h) (Or.inr ⟨by rfl, rfl⟩) (by assumption) ?_
        try simp only [List.getElem_toArray, List.getElem_cons_zero, List.getElem_cons_succ, Act.put, List.setIfInBounds_toArray, List.set_cons_zero, List.set_cons_succ]
        refine wpAnyH_take (i := 18) (v := undef) rfl (by kernel_rfl) (by kernel_rfl) (by kernel_rfl) (fun _ _ _ h => h) (Or.inr ⟨by rfl, rfl⟩) (by assumption) ?_
        try simp only [List.getElem_toArray, List.getElem_cons_zero, List.getElem_cons_succ, Act.put, List.setIfInBounds_toArray, List.set_cons_zero, List.set_cons_succ]
        refine wpAnyH_take (i := 19) (v := ?v19) rfl (by kernel_rfl) (by kernel_rfl) (by kernel_rfl) (fun _ _ _ h => h) (Or.inl ⟨by rfl, ?y19⟩) (by assumption) ?r19
        case y19 => (intro w' hSw; (try dsimp only at hSw); go_simp; with_reducible rfl)
        try simp only [List.getElem_toArray, List.getElem_cons_zero, List.getElem_cons_succ, Act.put, List.setIfInBounds_toArray, List.set_cons_zero, List.set_cons_succ]
        refine wpAnyH_take (i := 20) (v := ?v20) rfl (by kernel_rfl) (by kernel_rfl) (by kernel_rfl) (fun _ _ _ h => h) (Or.inl ⟨by rfl, ?y20⟩) (by assumption) ?r20
        case y20 => (intro w' hSw; (try dsimp only at hSw); go_simp; with_reducible rfl)
        try simp only [List.getElem_toArray, List.getElem_cons_zero, List.getElem_cons_succ, Act.put, List.setIfInBounds_toArray, List.set_cons_zero, List.set_cons_succ]
        refine wpAnyH_take (i := 21) (v := ?v21) rfl (by kernel_rfl) (by kernel_rfl) (by kernel_rfl) (fun _ _ _ h => h) (Or.inl ⟨by rfl, ?y21⟩) (by assumption) ?r21
        case y21 => (intro w' hSw; (try dsimp only at hSw); go_simp; with_reducible rfl)
        try simp only [List.getElem_toArray, List.getElem_cons_zero, List.getElem_cons_succ, Act.put, List.setIfInBounds_toArray, List.set_cons_zero, List.set_cons_succ]
        refine wpAnyH_take (i := 22) (v := ?v22) rfl (by kernel_rfl) (by kernel_rfl) (by kernel_rfl) (fun _ _ _ h => h) (Or.inl ⟨by rfl, ?y22⟩) (by assumption) ?r22
        case y22 => (intro w' hSw; (try dsimp only at hSw); go_simp; with_reducible rfl)
        try simp only [List.getElem_toArray, List.getElem_cons_zero, List.getElem_cons_succ, Act.put, List.setIfInBounds_toArray, List.set_cons_zero, List.set_cons_succ]
        refine wpAnyH_ready (rs := [23]) (by kernel_rfl) (by simp) ?_
        refine AllReadyH.cons (o := _) rfl (fun K hK => ?c23) ?n23
        case n23 => exact AllReadyH.nil
        go_simp
        go_at_call 6
        with_reducible refine (HAw2.out _ (by first | exact hbW | exact (Below.refl _ W6).drew)).mono ?_
        rintro en wz ⟨rfl, hb5⟩
        have hbW : Below W6.heap.size W6 wz := (by first | exact hbW.trans (hb5.mono hbW.size) | exact (Below.refl _ W6).drew.trans hb5)
        have he0 := (hbW.cell (p := ⟨w.heap.size, 0, none⟩) ze).trans e0
        have he1 := (hbW.cell (p := ⟨w.heap.size, 1, none⟩) ze).trans e1
        have hs0 := (hbW.cell (p := ⟨w5.heap.size, 0, none⟩) zs).trans s0
        have hs1 := (hbW.cell (p := ⟨w5.heap.size, 1, none⟩) zs).trans s1
        have HFin := Lib.hid hbW
        clear hb5
        go_wp2_with fail
        refine hK.out _ _ ?_ (fun hHeld => ?_)
        · exact ⟨he0, he1, hs0, hs1⟩
        clear hK K
        try simp only [List.getElem_toArray, List.getElem_cons_zero, List.getElem_cons_succ, Act.put, List.setIfInBounds_toArray, List.set_cons_zero, List.set_cons_succ]
        refine wpAnyH_take (i := 24) (v := ?v24) rfl (by kernel_rfl) (by kernel_rfl) (by kernel_rfl) (fun _ _ _ h => h) (Or.inl ⟨by rfl, ?y24⟩) (by assumption) ?r24
        case y24 => (intro w' hSw; (try dsimp only at hSw); go_simp; with_reducible rfl)
        try simp only [List.getElem_toArray, List.getElem_cons_zero, List.getElem_cons_succ, Act.put, List.setIfInBounds_toArray, List.set_cons_zero, List.set_cons_succ]
        refine wpAnyH_take (i := 25) (v := ?v25) rfl (by kernel_rfl) (by kernel_rfl) (by kernel_rfl) (fun _ _ _ h => h) (Or.inl ⟨by rfl, ?y25⟩) (by assumption) ?r25
        case y25 => (intro w' hSw; (try dsimp only at hSw); go_simp; with_reducible rfl)
        try simp only [List.getElem_toArray, List.getElem_cons_zero, List.getElem_cons_succ, Act.put, List.setIfInBounds_toArray, List.set_cons_zero, List.set_cons_succ]
        refine wpAnyH_done (by kernel_rfl) ?_ _
        refine NoPanic.normal ?_
        all_goals
          go_wp2
          go_ret
          exact bB_mk (by first | rfl | simp) (HBw.out.trans (HFin.out.mono HBw.out.size))

      | true =>
        by_cases hz0 : sl = 0
        · have hz : ((sl : Int) == 0) = true := by rw [beq_iff_eq]; omega
          clear hz0
          rw [hz, show (!true || true) = true from rfl] at HEqB
          go_wp2_with fail
          rw [HW6.out]
          clear L0 L1 L2 L3
          go_region_held3 (fun w' => w'.cell? ⟨w.heap.size, 0, none⟩ = some (.string ⟨dn.toArray⟩) ∧ w'.cell? ⟨w.heap.size, 1, none⟩ = some (.slice a n c) ∧ w'.cell? ⟨w5.heap.size, 0, none⟩ = some (.string ⟨dn.toArray⟩) ∧ w'.cell? ⟨w5.heap.size, 1, none⟩ = some (.slice ya sl yc)) (first | exact ⟨he0, he1, hs0, hs1⟩ | exact ⟨e0, e1, s0, s1⟩ | go_keep)
            (first | (go_at_call 9; (with_reducible refine (HRs.out _ (by first | exact hbW | exact (Below.refl _ W6).drew)).mono ?_); rintro en wz ⟨rv, rfl, hpa, hb5⟩; have hbW : Below W6.heap.size W6 wz := (by first | exact hbW.trans (hb5.mono hbW.size) | exact (Below.refl _ W6).drew.trans hb5); have he0 := (hbW.cell (p := ⟨w.heap.size, 0, none⟩) ze).trans e0; have he1 := (hbW.cell (p := ⟨w.heap.size, 1, none⟩) ze).trans e1; have hs0 := (hbW.cell (p := ⟨w5.heap.size, 0, none⟩) zs).trans s0; have hs1 := (hbW.cell (p := ⟨w5.heap.size, 1, none⟩) zs).trans s1; have HR1 := Lib.hid (eaAt_at (paAt_ea hpa)); obtain ⟨ra, rc, rfl⟩ := paAt_slice hpa; rw [HSl.out] at HR1 ⊢; clear hpa hb5) | (go_at_call 8; (with_reducible refine (HEqA.out _ _ _ (HAa.out _ (by first | exact hbW | exact (Below.refl _ W6).drew)) HR1.out).mono ?_); rintro en wz ⟨rfl, hb5⟩; have hbW : Below W6.heap.size W6 wz := (by first | exact hbW.trans (hb5.mono hbW.size) | exact (Below.refl _ W6).drew.trans hb5); have he0 := (hbW.cell (p := ⟨w.heap.size, 0, none⟩) ze).trans e0; have he1 := (hbW.cell (p := ⟨w.heap.size, 1, none⟩) ze).trans e1; have hs0 := (hbW.cell (p := ⟨w5.heap.size, 0, none⟩) zs).trans s0; have hs1 := (hbW.cell (p := ⟨w5.heap.size, 1, none⟩) zs).trans s1; clear hb5) | (go_at_call 7; (with_reducible refine (HSe2.out _ (by first | exact hbW | exact (Below.refl _ W6).drew)).mono ?_); rintro en wz ⟨v2, L2, rfl, hok, hr, hb5⟩; have hbW : Below W6.heap.size W6 wz := (by first | exact hbW.trans (hb5.mono hbW.size) | exact (Below.refl _ W6).drew.trans hb5); have he0 := (hbW.cell (p := ⟨w.heap.size, 0, none⟩) ze).trans e0; have he1 := (hbW.cell (p := ⟨w.heap.size, 1, none⟩) ze).trans e1; have hs0 := (hbW.cell (p := ⟨w5.heap.size, 0, none⟩) zs).trans s0; have hs1 := (hbW.cell (p := ⟨w5.heap.size, 1, none⟩) zs).trans s1; have HR2 := Lib.hid (eaAt_at (eaAt_own (atTx_ok hok) hr)); obtain ⟨qa, qc, rfl⟩ := ownsRow_slice hr; clear hok hr hb5) | (go_at_call 8; (with_reducible refine (HEqB.out _ _ _ HR2.out (HAa.out _ (by first | exact hbW | exact (Below.refl _ W6).drew))).mono ?_); rintro en wz ⟨rfl, hb5⟩; have hbW : Below W6.heap.size W6 wz := (by first | exact hbW.trans (hb5.mono hbW.size) | exact (Below.refl _ W6).drew.trans hb5); have he0 := (hbW.cell (p := ⟨w.heap.size, 0, none⟩) ze).trans e0; have he1 := (hbW.cell (p := ⟨w.heap.size, 1, none⟩) ze).trans e1; have hs0 := (hbW.cell (p := ⟨w5.heap.size, 0, none⟩) zs).trans s0; have hs1 := (hbW.cell (p := ⟨w5.heap.size, 1, none⟩) zs).trans s1; clear hb5) | (go_at_call 6; (with_reducible refine (HAw2.out _ (by first | exact hbW | exact (Below.refl _ W6).drew)).mono ?_); rintro en wz ⟨rfl, hb5⟩; have hbW : Below W6.heap.size W6 wz := (by first | exact hbW.trans (hb5.mono hbW.size) | exact (Below.refl _ W6).drew.trans hb5); have he0 := (hbW.cell (p := ⟨w.heap.size, 0, none⟩) ze).trans e0; have he1 := (hbW.cell (p := ⟨w.heap.size, 1, none⟩) ze).trans e1; have hs0 := (hbW.cell (p := ⟨w5.heap.size, 0, none⟩) zs).trans s0; have hs1 := (hbW.cell (p := ⟨w5.heap.size, 1, none⟩) zs).trans s1; have HFin := Lib.hid hbW; clear hb5))
          all_goals
            go_wp2
            go_ret
            exact bB_mk (by first | rfl | simp) (HBw.out.trans (HFin.out.mono HBw.out.size))

        · have hz : ((sl : Int) == 0) = false := by rw [beq_eq_false_iff_ne]; omega
          clear hz0
          rw [hz, show (!true || false) = false from rfl] at HEqB
          go_wp2_with fail
          rw [HW6.out]
          clear L0 L1 L2 L3
          go_region_held3 (fun w' => w'.cell? ⟨w.heap.size, 0, none⟩ = some (.string ⟨dn.toArray⟩) ∧ w'.cell? ⟨w.heap.size, 1, none⟩ = some (.slice a n c) ∧ w'.cell? ⟨w5.heap.size, 0, none⟩ = some (.string ⟨dn.toArray⟩) ∧ w'.cell? ⟨w5.heap.size, 1, none⟩ = some (.slice ya sl yc)) (first | exact ⟨he0, he1, hs0, hs1⟩ | exact ⟨e0, e1, s0, s1⟩ | go_keep)
            (first | (go_at_call 9; (with_reducible refine (HRs.out _ (by first | exact hbW | exact (Below.refl _ W6).drew)).mono ?_); rintro en wz ⟨rv, rfl, hpa, hb5⟩; have hbW : Below W6.heap.size W6 wz := (by first | exact hbW.trans (hb5.mono hbW.size) | exact (Below.refl _ W6).drew.trans hb5); have he0 := (hbW.cell (p := ⟨w.heap.size, 0, none⟩) ze).trans e0; have he1 := (hbW.cell (p := ⟨w.heap.size, 1, none⟩) ze).trans e1; have hs0 := (hbW.cell (p := ⟨w5.heap.size, 0, none⟩) zs).trans s0; have hs1 := (hbW.cell (p := ⟨w5.heap.size, 1, none⟩) zs).trans s1; have HR1 := Lib.hid (eaAt_at (paAt_ea hpa)); obtain ⟨ra, rc, rfl⟩ := paAt_slice hpa; rw [HSl.out] at HR1 ⊢; clear hpa hb5) | (go_at_call 8; (with_reducible refine (HEqA.out _ _ _ (HAa.out _ (by first | exact hbW | exact (Below.refl _ W6).drew)) HR1.out).mono ?_); rintro en wz ⟨rfl, hb5⟩; have hbW : Below W6.heap.size W6 wz := (by first | exact hbW.trans (hb5.mono hbW.size) | exact (Below.refl _ W6).drew.trans hb5); have he0 := (hbW.cell (p := ⟨w.heap.size, 0, none⟩) ze).trans e0; have he1 := (hbW.cell (p := ⟨w.heap.size, 1, none⟩) ze).trans e1; have hs0 := (hbW.cell (p := ⟨w5.heap.size, 0, none⟩) zs).trans s0; have hs1 := (hbW.cell (p := ⟨w5.heap.size, 1, none⟩) zs).trans s1; clear hb5) | (go_at_call 7; (with_reducible refine (HSe2.out _ (by first | exact hbW | exact (Below.refl _ W6).drew)).mono ?_); rintro en wz ⟨v2, L2, rfl, hok, hr, hb5⟩; have hbW : Below W6.heap.size W6 wz := (by first | exact hbW.trans (hb5.mono hbW.size) | exact (Below.refl _ W6).drew.trans hb5); have he0 := (hbW.cell (p := ⟨w.heap.size, 0, none⟩) ze).trans e0; have he1 := (hbW.cell (p := ⟨w.heap.size, 1, none⟩) ze).trans e1; have hs0 := (hbW.cell (p := ⟨w5.heap.size, 0, none⟩) zs).trans s0; have hs1 := (hbW.cell (p := ⟨w5.heap.size, 1, none⟩) zs).trans s1; have HR2 := Lib.hid (eaAt_at (eaAt_own (atTx_ok hok) hr)); obtain ⟨qa, qc, rfl⟩ := ownsRow_slice hr; clear hok hr hb5) | (go_at_call 8; (with_reducible refine (HEqB.out _ _ _ HR2.out (HAa.out _ (by first | exact hbW | exact (Below.refl _ W6).drew))).mono ?_); rintro en wz ⟨rfl, hb5⟩; have hbW : Below W6.heap.size W6 wz := (by first | exact hbW.trans (hb5.mono hbW.size) | exact (Below.refl _ W6).drew.trans hb5); have he0 := (hbW.cell (p := ⟨w.heap.size, 0, none⟩) ze).trans e0; have he1 := (hbW.cell (p := ⟨w.heap.size, 1, none⟩) ze).trans e1; have hs0 := (hbW.cell (p := ⟨w5.heap.size, 0, none⟩) zs).trans s0; have hs1 := (hbW.cell (p := ⟨w5.heap.size, 1, none⟩) zs).trans s1; clear hb5) | (go_at_call 6; (with_reducible refine (HAw2.out _ (by first | exact hbW | exact (Below.refl _ W6).drew)).mono ?_); rintro en wz ⟨rfl, hb5⟩; have hbW : Below W6.heap.size W6 wz := (by first | exact hbW.trans (hb5.mono hbW.size) | exact (Below.refl _ W6).drew.trans hb5); have he0 := (hbW.cell (p := ⟨w.heap.size, 0, none⟩) ze).trans e0; have he1 := (hbW.cell (p := ⟨w.heap.size, 1, none⟩) ze).trans e1; have hs0 := (hbW.cell (p := ⟨w5.heap.size, 0, none⟩) zs).trans s0; have hs1 := (hbW.cell (p := ⟨w5.heap.size, 1, none⟩) zs).trans s1; have HFin := Lib.hid hbW; clear hb5))
          all_goals
            go_wp2
            go_ret
            exact bB_mk (by first | rfl | simp) (HBw.out.trans (HFin.out.mono HBw.out.size))

end Go.Proofs.YtjbdldbjefmnjaaGreatDoor
