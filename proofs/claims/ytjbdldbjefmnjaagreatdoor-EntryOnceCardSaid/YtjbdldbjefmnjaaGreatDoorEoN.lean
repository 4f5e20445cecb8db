/- The law on what is clean, put in and taken out. -/
import Derived.Test.YtjbdldbjefmnjaaGreatDoorEoIL
namespace Go.Proofs.YtjbdldbjefmnjaaGreatDoor
set_option linter.unusedSimpArgs false
set_option linter.unusedVariables false
open Go Go.RowKit Go.Proofs.BerK Go.Proofs.MemK Go.Proofs.UtfK

theorem with_has (A : List Atr) (s v : List UInt8) : inL (geL (clA (A ++ [(s, [v])])) s) v = true := by
  rw [ge_with, inL_mem, on_mem]
  simp
set_option maxHeartbeats 25600000 in
set_option maxRecDepth 100000 in
theorem enonce_any (dn s vv : List UInt8) (A : List Atr) (av : Value) (w : World) (hA : EaAt w av A) (he : ErrOk w) :
    Calls Tryz.prog 4 #[.agg #[.string ⟨dn.toArray⟩, av], .string ⟨s.toArray⟩, .string ⟨vv.toArray⟩] w (BB true w) := by
  have HAw := Lib.hid (fun w' (hb : Below w.heap.size w w') => enawake_any w' (errOk_below he hb))
  have HFw := Lib.hid (fun w' (hb : Below w.heap.size w w') => few9_any dn A av w' (eaAt_at (eaAt_below hA hb)))
  have HEa := Lib.hid (fun w' (hb : Below w.heap.size w w') => eaAt_below hA hb)
  obtain ⟨a, c, rfl⟩ := eaAt_slice hA
  obtain ⟨n, hn⟩ : ∃ x, A.length = x := ⟨_, rfl⟩
  rw [hn] at HFw HEa ⊢
  obtain ⟨W1, hW1⟩ : ∃ W1, w.alloc (.cells #[.string ⟨dn.toArray⟩, .slice a n c] 24) = W1 := ⟨_, rfl⟩
  have hb1 : Below w.heap.size w W1 := by rw [← hW1]; exact (Below.refl _ w).alloc (Nat.le_refl _) _
  have y1 : W1.heap[w.heap.size]? = some (.cells #[.string ⟨dn.toArray⟩, .slice a n c] 24 (0, 0)) := by rw [← hW1]; exact heap_alloc_new w _
  have HB1 := Lib.hid (And.intro hb1 y1)
  have HW1 := Lib.hid hW1
  obtain ⟨k0, k1⟩ := obj2s y1
  rw [← hW1] at k0 k1
  clear hA hn hW1 hb1 y1 he
  go_enter Tryz.func4, Tryz.ntmps4
  go_wp2_with fail
  rw [HW1.out]
  clear k0 k1
  refine (HFw.out _ HB1.out.1).mono ?_
  rintro en w3 ⟨hfew, hb3⟩
  have hb13 := HB1.out.1.trans (hb3.mono HB1.out.1.size)
  have y3 := obj_below HB1.out.2 hb3 (obj_lt HB1.out.2)
  have H3 := Lib.hid (And.intro hb13 y3)
  clear hb3 hb13 y3
  rcases hfew with rfl | ⟨rfl, hfew⟩
  · go_wp2_with fail
    refine (HAw.out _ H3.out.1).mono ?_
    rintro en w9 ⟨rfl, hb⟩
    have HB9 := Lib.hid ((H3.out.1).trans (hb.mono (H3.out.1).size))
    clear hb
    go_wp2
    go_ret
    exact bB_mk rfl HB9.out

  have HFe := Lib.hid hfew
  clear hfew
  by_cases h1 : 100 < s.length
  · have hq : (100 : Int) < (s.length : Int) := by omega
    go_wp2_with fail
    refine (HAw.out _ H3.out.1).mono ?_
    rintro en w9 ⟨rfl, hb⟩
    have HB9 := Lib.hid ((H3.out.1).trans (hb.mono (H3.out.1).size))
    clear hb
    go_wp2
    go_ret
    exact bB_mk rfl HB9.out

  have hq : ¬ (100 : Int) < (s.length : Int) := by omega
  by_cases h2 : 200 < vv.length
  · have hq2 : (200 : Int) < (vv.length : Int) := by omega
    go_wp2_with fail
    refine (HAw.out _ H3.out.1).mono ?_
    rintro en w9 ⟨rfl, hb⟩
    have HB9 := Lib.hid ((H3.out.1).trans (hb.mono (H3.out.1).size))
    clear hb
    go_wp2
    go_ret
    exact bB_mk rfl HB9.out

  have hq2 : ¬ (200 : Int) < (vv.length : Int) := by omega
  have hG := few_g HFe.out
  have hG1 : FewG 13 8 (A ++ [(s, [vv])]) := fewG_snoc hG (by omega) (by simp) (fun x hx => by simp at hx; subst hx; omega)
  have hGc : FewG 12 96 (clA A) := fewG_cl hG
  have hGw : FewG 13 104 (clA (A ++ [(s, [vv])])) := fewG_cl hG1
  have HCl := Lib.hid (eclean_any A dn _ w3 (HEa.out _ H3.out.1) (fewG_e hG (by omega) (by omega)))
  have HC20 := Lib.hid (fun w' v (h : EaAt w' v (clA A)) => by
    have hx := eclean_any (clA A) dn v w' h (fewG_e hGc (by omega) (by omega))
    rw [cl_cl] at hx
    exact hx)
  have HWi0 := Lib.hid (fun w' v (hb : Below w.heap.size w w') (ht : TxR w' v [vv]) (hk : SlOk v) => with_any A dn s [vv] _ v w' (HEa.out _ hb) ht hk (fewG_e hG1 (by omega) (by omega)))
  have HGe0 := Lib.hid (fun w' v (h : EaAt w' v (clA (A ++ [(s, [vv])]))) => get_any (clA (A ++ [(s, [vv])])) dn s v w' h (fewG_e hGw (by omega) (by omega)) (by omega))
  have HEq := Lib.hid (fun w' v1 v2 (q1 : AtAt w' v1 (clA A)) (q2 : AtAt w' v2 (clA A)) => by
    have hx := req10_any (clA A) (clA A) dn dn v1 v2 w' q1 q2 (by have := hGc.1; omega) (by have := hGc.1; omega) (fun a ha => by have := (hGc.2 a ha).2.1; omega) (fun a ha => by have := (hGc.2 a ha).2.1; omega)
    rw [decide_eq_true (show dn = dn ∧ clA A = clA A from ⟨rfl, rfl⟩)] at hx
    exact hx)
  have HSm0 := Lib.hid (fun w' v (hb : Below w.heap.size w w') (h : EaAt w' v (clA A)) => by
    have hx := same_any A (clA A) dn _ v w' (HEa.out _ hb) h (fewG_e hG (by omega) (by omega)) (fewG_e hGc (by omega) (by omega)) (fewG_mono hGc (by omega) (by omega)) (by rw [cl_cl]; exact fewG_mono hGc (by omega) (by omega))
    rw [cl_cl, decide_eq_true (show clA A = clA A from rfl)] at hx
    exact hx)
  have HWo0 := Lib.hid (fun w' v (h : EaAt w' v (clA (A ++ [(s, [vv])]))) => without_any (clA (A ++ [(s, [vv])])) dn s v w' h (fewG_e hGw (by omega) (by omega)))
  have HG2 := Lib.hid (fun w' v (h : EaAt w' v (woL (clA (A ++ [(s, [vv])])) s)) => by
    have hx := get_any (woL (clA (A ++ [(s, [vv])])) s) dn s v w' h (by
      unfold woL
      rw [cl_cl]
      exact fewG_e (fewG_filter hGw _) (by omega) (by omega)) (by omega)
    rw [ge_without] at hx
    exact hx)
  have HHas := Lib.hid (with_has A s vv)
  have HLl := Lib.hid (show (geL (clA (A ++ [(s, [vv])])) s).length ≤ 100000 by
    unfold geL
    have := (fewG_va hGw (lowL s)).1
    have := onL_len (vaL (clA (A ++ [(s, [vv])])) (lowL s))
    omega)
  clear hG hG1 hGc hGw
  obtain ⟨C, hC⟩ : ∃ C, clA A = C := ⟨_, rfl⟩
  rw [hC] at HCl HC20 HEq HSm0
  obtain ⟨D, hD⟩ : ∃ D, clA (A ++ [(s, [vv])]) = D := ⟨_, rfl⟩
  rw [hD] at HWi0 HGe0 HWo0 HG2 HHas HLl
  obtain ⟨O, hO⟩ : ∃ O, woL D s = O := ⟨_, rfl⟩
  rw [hO] at HWo0 HG2
  obtain ⟨G, hGg⟩ : ∃ G, geL D s = G := ⟨_, rfl⟩
  rw [hGg] at HGe0 HHas HLl
  obtain ⟨cl, hcl⟩ : ∃ x, C.length = x := ⟨_, rfl⟩
  have HCll := Lib.hid hcl
  obtain ⟨wl, hwl⟩ : ∃ x, D.length = x := ⟨_, rfl⟩
  have HWl := Lib.hid hwl
  clear hC hD hO hGg hcl hwl
  obtain ⟨k0, k1⟩ := obj2s H3.out.2
  go_wp2_with fail
  clear k0 k1
  refine HCl.out.mono ?_
  rintro en w4 ⟨cv, Cq, rfl, hok, hr, hb4⟩
  have hc4 := eaAt_own (atTx_ok hok) hr
  obtain ⟨ya, yc, rfl⟩ := ownsRow_slice hr
  rw [HCll.out] at hc4 ⊢
  obtain ⟨W5, hW5⟩ : ∃ W5, w4.alloc (.cells #[.string ⟨dn.toArray⟩, .slice ya cl yc] 24) = W5 := ⟨_, rfl⟩
  have hb45 : Below w4.heap.size w4 W5 := by rw [← hW5]; exact (Below.refl _ w4).alloc (Nat.le_refl _) _
  have y5 : W5.heap[w4.heap.size]? = some (.cells #[.string ⟨dn.toArray⟩, .slice ya cl yc] 24 (0, 0)) := by rw [← hW5]; exact heap_alloc_new w4 _
  have hb35 := hb4.trans (hb45.mono hb4.size)
  have yb5 := obj_below H3.out.2 hb35 (obj_lt H3.out.2)
  have hbw5 := H3.out.1.trans (hb35.mono H3.out.1.size)
  obtain ⟨W6, hW6⟩ : ∃ W6, W5.alloc (.cells #[.string ⟨vv.toArray⟩] 9) = W6 := ⟨_, rfl⟩
  have hb56 : Below W5.heap.size W5 W6 := by rw [← hW6]; exact (Below.refl _ W5).alloc (Nat.le_refl _) _
  have t6 : TxR W6 (.slice (some ⟨W5.heap.size, 0, none⟩) 1 1) [vv] := by rw [← hW6]; exact txR_new W5 [vv] 9
  have hz5 : W5.heap.size = w4.heap.size + 1 := by rw [← hW5]; simp
  rw [hz5] at t6
  have hbw6 := hbw5.trans (hb56.mono hbw5.size)
  have HWi := Lib.hid (HWi0.out W6 _ hbw6 t6 (.inr ⟨_, _, _, rfl⟩))
  have HW5 := Lib.hid hW5
  have HW6 := Lib.hid hW6
  have H6 := Lib.hid (And.intro (obj_below yb5 hb56 (obj_lt yb5)) (And.intro (obj_below y5 hb56 (obj_lt y5)) (And.intro (eaAt_below (eaAt_below hc4 hb45) hb56) hbw6)))
  obtain ⟨k0, k1⟩ := obj2s yb5
  rw [← hW5] at k0 k1
  have kk0 : ∀ ob, ((w4.alloc (.cells #[.string ⟨dn.toArray⟩, .slice ya cl yc] 24)).alloc ob).cell? ⟨w.heap.size, 0, none⟩ = some (.string ⟨dn.toArray⟩) := fun ob => by
    rw [hW5]
    exact (((Below.refl W5.heap.size W5).alloc (Nat.le_refl _) ob).cell (p := ⟨w.heap.size, _, none⟩) (obj_lt yb5)).trans (obj2s yb5).1
  have kk1 : ∀ ob, ((w4.alloc (.cells #[.string ⟨dn.toArray⟩, .slice ya cl yc] 24)).alloc ob).cell? ⟨w.heap.size, 1, none⟩ = some (.slice a n c) := fun ob => by
    rw [hW5]
    exact (((Below.refl W5.heap.size W5).alloc (Nat.le_refl _) ob).cell (p := ⟨w.heap.size, _, none⟩) (obj_lt yb5)).trans (obj2s yb5).2
  clear hok hr hb4 hc4 hW5 hb45 y5 hb35 yb5 hbw5 hW6 hb56 t6 hz5 hbw6
  go_wp2_with fail
  rw [HW5.out, HW6.out]
  clear k0 k1 kk0 kk1
  refine HWi.out.mono ?_
  rintro en w7 ⟨wv, Wq, rfl, hok, hr, hb7⟩
  have hw7 := eaAt_own (atTx_ok hok) hr
  obtain ⟨za, zc', rfl⟩ := ownsRow_slice hr
  rw [HWl.out] at hw7 ⊢
  obtain ⟨W8, hW8⟩ : ∃ W8, w7.alloc (.cells #[.string ⟨dn.toArray⟩, .slice za wl zc'] 24) = W8 := ⟨_, rfl⟩
  have hb78 : Below w7.heap.size w7 W8 := by rw [← hW8]; exact (Below.refl _ w7).alloc (Nat.le_refl _) _
  have y8 : W8.heap[w7.heap.size]? = some (.cells #[.string ⟨dn.toArray⟩, .slice za wl zc'] 24 (0, 0)) := by rw [← hW8]; exact heap_alloc_new w7 _
  have hb68 := hb7.trans (hb78.mono hb7.size)
  have hw8 := eaAt_below hw7 hb78
  have HGe := Lib.hid (HGe0.out W8 _ hw8)
  have H8 := Lib.hid (And.intro (obj_below H6.out.1 hb68 (obj_lt H6.out.1)) (And.intro (obj_below H6.out.2.1 hb68 (obj_lt H6.out.2.1)) (And.intro (eaAt_below H6.out.2.2.1 hb68) (And.intro (H6.out.2.2.2.trans (hb68.mono H6.out.2.2.2.size)) (And.intro y8 hw8)))))
  have HW8 := Lib.hid hW8
  obtain ⟨k0, k1⟩ := obj2s y8
  rw [← hW8] at k0 k1
  clear hok hr hb7 hw7 hW8 hb78 y8 hb68 hw8
  go_wp2_with fail
  rw [HW8.out]
  clear k0 k1
  refine HGe.out.mono ?_
  rintro en w9 ⟨gv, rfl, hr9, hb9⟩
  have tg := txR_owns hr9
  obtain ⟨ga, gc, egv, hgc⟩ := tg
  subst egv
  obtain ⟨gl, hgl⟩ : ∃ x, G.length = x := ⟨_, rfl⟩
  have hgl5 : gl ≤ 100000 := by rw [← hgl]; exact HLl.out
  have HGl := Lib.hid hgl
  rw [hgl]
  have HGc := Lib.hid hgc
  have hbw9 := H8.out.2.2.2.1.trans (hb9.mono H8.out.2.2.2.1.size)
  have yb9 := obj_below H8.out.1 hb9 (obj_lt H8.out.1)
  have yc9 := obj_below H8.out.2.1 hb9 (obj_lt H8.out.2.1)
  have hca9 := eaAt_below H8.out.2.2.1 hb9
  have yw9 := obj_below H8.out.2.2.2.2.1 hb9 (obj_lt H8.out.2.2.2.2.1)
  have hwa9 := eaAt_below H8.out.2.2.2.2.2 hb9
  have HC2 := Lib.hid (fun w' (hb : Below w9.heap.size w9 w') => HC20.out w' _ (eaAt_below hca9 hb))
  have HCa := Lib.hid (fun w' (hb : Below w9.heap.size w9 w') => eaAt_at (eaAt_below hca9 hb))
  have HSm := Lib.hid (fun w' (hb : Below w9.heap.size w9 w') => HSm0.out w' _ (hbw9.trans (hb.mono hbw9.size)) (eaAt_below hca9 hb))
  have HWo := Lib.hid (fun w' (hb : Below w9.heap.size w9 w') => HWo0.out w' _ (eaAt_below hwa9 hb))
  have HAw2 := Lib.hid (fun w' (hb : Below w9.heap.size w9 w') => HAw.out w' (hbw9.trans (hb.mono hbw9.size)))
  have HBw := Lib.hid hbw9
  have ze := obj_lt yb9
  have zc := obj_lt yc9
  have zs := obj_lt yw9
  obtain ⟨e0, e1⟩ := obj2s yb9
  obtain ⟨c0, c1⟩ := obj2s yc9
  obtain ⟨s0, s1⟩ := obj2s yw9
  have HSt := Lib.hid (fun i (hi : i < G.length) => inL_step (F := G) (y := vv) i hi)
  have HG0 := Lib.hid (show inL (G.take 0) vv = false by simp [inL])
  have HGe2 := Lib.hid (show inL (G.take gl) vv = true by rw [← hgl, List.take_length]; exact HHas.out)
  clear hr9 hb9 hgc hgl hbw9 yb9 yc9 hca9 yw9 hwa9 HC20 HSm0 HWo0 HWi0 HGe0
  go_wp2
  go_loop [10, 11] (fun b v => ∃ k : Nat, k ≤ gl ∧ v = .int .i64 (k : Nat) ∧ b = .bool (inL (G.take k) vv)) (fun _ v => gl - (intOf v).toNat)
  case atStart => exact ⟨0, by omega, rfl, by rw [HG0.out]⟩
  case round =>
    obtain ⟨k, hk, rfl, rfl⟩ := hrel
    by_cases hlt : k < gl
    · have hkl : (k : Int) < (gl : Int) := by omega
      have hkm : k < G.length := by rw [HGl.out]; exact hlt
      obtain ⟨g, o, rfl, hg, g1⟩ := HGc.out k hkm
      have hS := HSt.out k hkm
      obtain ⟨m, hm⟩ : ∃ x, G[k] = x := ⟨_, rfl⟩
      rw [hm] at g1 hS
      obtain ⟨bb, hbb⟩ : ∃ x, inL (G.take k) vv = x := ⟨_, rfl⟩
      rw [hbb] at hS ⊢
      have HS := Lib.hid hS
      clear hS hm hbb hg
      cases bb with
      | true =>
        go_wp2
        exact ⟨⟨k + 1, by omega, by go_num, by rw [HS.out]; rfl⟩, by simp [intOf]; omega⟩
      | false =>
        cases hq3 : (m == vv) with
        | true =>
          rw [hq3] at HS
          go_wp2
          exact ⟨⟨k + 1, by omega, by go_num, by rw [HS.out]; rfl⟩, by simp [intOf]; omega⟩
        | false =>
          rw [hq3] at HS
          go_wp2
          exact ⟨⟨k + 1, by omega, by go_num, by rw [HS.out]; rfl⟩, by simp [intOf]; omega⟩
    · obtain rfl : gl = k := by omega
      rw [HGe2.out]
      go_wp2_with fail
      go_region_held3 (fun w' => w'.cell? ⟨w.heap.size, 0, none⟩ = some (.string ⟨dn.toArray⟩) ∧ w'.cell? ⟨w.heap.size, 1, none⟩ = some (.slice a n c) ∧ w'.cell? ⟨w4.heap.size, 0, none⟩ = some (.string ⟨dn.toArray⟩) ∧ w'.cell? ⟨w4.heap.size, 1, none⟩ = some (.slice ya cl yc) ∧ w'.cell? ⟨w7.heap.size, 0, none⟩ = some (.string ⟨dn.toArray⟩) ∧ w'.cell? ⟨w7.heap.size, 1, none⟩ = some (.slice za wl zc')) (first | exact ⟨he0, he1, hc0, hc1, hs0, hs1⟩ | exact ⟨e0, e1, c0, c1, s0, s1⟩ | go_keep)
        (first | (go_at_call 10; (with_reducible refine (HC2.out _ (by first | exact hbW | exact (Below.refl _ w9).drew)).mono ?_); rintro en wz ⟨v2, L2, rfl, hok, hr, hb5⟩; have hbW : Below w9.heap.size w9 wz := (by first | exact hbW.trans (hb5.mono hbW.size) | exact (Below.refl _ w9).drew.trans hb5); have he0 := (hbW.cell (p := ⟨w.heap.size, 0, none⟩) ze).trans e0; have he1 := (hbW.cell (p := ⟨w.heap.size, 1, none⟩) ze).trans e1; have hc0 := (hbW.cell (p := ⟨w4.heap.size, 0, none⟩) zc).trans c0; have hc1 := (hbW.cell (p := ⟨w4.heap.size, 1, none⟩) zc).trans c1; have hs0 := (hbW.cell (p := ⟨w7.heap.size, 0, none⟩) zs).trans s0; have hs1 := (hbW.cell (p := ⟨w7.heap.size, 1, none⟩) zs).trans s1; have HR1 := Lib.hid (eaAt_at (eaAt_own (atTx_ok hok) hr)); obtain ⟨qa, qc, rfl⟩ := ownsRow_slice hr; clear hok hr hb5) | (go_at_call 8; (with_reducible refine (HEq.out _ _ _ HR1.out (HCa.out _ (by first | exact hbW | exact (Below.refl _ w9).drew))).mono ?_); rintro en wz ⟨rfl, hb5⟩; have hbW : Below w9.heap.size w9 wz := (by first | exact hbW.trans (hb5.mono hbW.size) | exact (Below.refl _ w9).drew.trans hb5); have he0 := (hbW.cell (p := ⟨w.heap.size, 0, none⟩) ze).trans e0; have he1 := (hbW.cell (p := ⟨w.heap.size, 1, none⟩) ze).trans e1; have hc0 := (hbW.cell (p := ⟨w4.heap.size, 0, none⟩) zc).trans c0; have hc1 := (hbW.cell (p := ⟨w4.heap.size, 1, none⟩) zc).trans c1; have hs0 := (hbW.cell (p := ⟨w7.heap.size, 0, none⟩) zs).trans s0; have hs1 := (hbW.cell (p := ⟨w7.heap.size, 1, none⟩) zs).trans s1; clear hb5) | (go_at_call 13; (with_reducible refine (HSm.out _ (by first | exact hbW | exact (Below.refl _ w9).drew)).mono ?_); rintro en wz ⟨rfl, hb5⟩; have hbW : Below w9.heap.size w9 wz := (by first | exact hbW.trans (hb5.mono hbW.size) | exact (Below.refl _ w9).drew.trans hb5); have he0 := (hbW.cell (p := ⟨w.heap.size, 0, none⟩) ze).trans e0; have he1 := (hbW.cell (p := ⟨w.heap.size, 1, none⟩) ze).trans e1; have hc0 := (hbW.cell (p := ⟨w4.heap.size, 0, none⟩) zc).trans c0; have hc1 := (hbW.cell (p := ⟨w4.heap.size, 1, none⟩) zc).trans c1; have hs0 := (hbW.cell (p := ⟨w7.heap.size, 0, none⟩) zs).trans s0; have hs1 := (hbW.cell (p := ⟨w7.heap.size, 1, none⟩) zs).trans s1; clear hb5) | (go_at_call 14; (with_reducible refine (HWo.out _ (by first | exact hbW | exact (Below.refl _ w9).drew)).mono ?_); rintro en wz ⟨v3, L3, rfl, hok, hr, hb5⟩; have hbW : Below w9.heap.size w9 wz := (by first | exact hbW.trans (hb5.mono hbW.size) | exact (Below.refl _ w9).drew.trans hb5); have he0 := (hbW.cell (p := ⟨w.heap.size, 0, none⟩) ze).trans e0; have he1 := (hbW.cell (p := ⟨w.heap.size, 1, none⟩) ze).trans e1; have hc0 := (hbW.cell (p := ⟨w4.heap.size, 0, none⟩) zc).trans c0; have hc1 := (hbW.cell (p := ⟨w4.heap.size, 1, none⟩) zc).trans c1; have hs0 := (hbW.cell (p := ⟨w7.heap.size, 0, none⟩) zs).trans s0; have hs1 := (hbW.cell (p := ⟨w7.heap.size, 1, none⟩) zs).trans s1; have HR3 := Lib.hid (eaAt_own (atTx_ok hok) hr); obtain ⟨ra, rc, rfl⟩ := ownsRow_slice hr; clear hok hr hb5) | (go_at_call 12; (with_reducible refine (HG2.out _ _ HR3.out).mono ?_); rintro en wz ⟨v4, rfl, hr, hb5⟩; have hbW : Below w9.heap.size w9 wz := (by first | exact hbW.trans (hb5.mono hbW.size) | exact (Below.refl _ w9).drew.trans hb5); have he0 := (hbW.cell (p := ⟨w.heap.size, 0, none⟩) ze).trans e0; have he1 := (hbW.cell (p := ⟨w.heap.size, 1, none⟩) ze).trans e1; have hc0 := (hbW.cell (p := ⟨w4.heap.size, 0, none⟩) zc).trans c0; have hc1 := (hbW.cell (p := ⟨w4.heap.size, 1, none⟩) zc).trans c1; have hs0 := (hbW.cell (p := ⟨w7.heap.size, 0, none⟩) zs).trans s0; have hs1 := (hbW.cell (p := ⟨w7.heap.size, 1, none⟩) zs).trans s1; obtain ⟨pa, pc, rfl⟩ := ownsRow_slice hr; clear hr hb5) | (go_at_call 6; (with_reducible refine (HAw2.out _ (by first | exact hbW | exact (Below.refl _ w9).drew)).mono ?_); rintro en wz ⟨rfl, hb5⟩; have hbW : Below w9.heap.size w9 wz := (by first | exact hbW.trans (hb5.mono hbW.size) | exact (Below.refl _ w9).drew.trans hb5); have he0 := (hbW.cell (p := ⟨w.heap.size, 0, none⟩) ze).trans e0; have he1 := (hbW.cell (p := ⟨w.heap.size, 1, none⟩) ze).trans e1; have hc0 := (hbW.cell (p := ⟨w4.heap.size, 0, none⟩) zc).trans c0; have hc1 := (hbW.cell (p := ⟨w4.heap.size, 1, none⟩) zc).trans c1; have hs0 := (hbW.cell (p := ⟨w7.heap.size, 0, none⟩) zs).trans s0; have hs1 := (hbW.cell (p := ⟨w7.heap.size, 1, none⟩) zs).trans s1; have HFin := Lib.hid hbW; clear hb5))
      all_goals
        go_wp2
        go_ret
        exact bB_mk (by first | rfl | simp) (HBw.out.trans (HFin.out.mono HBw.out.size))
end Go.Proofs.YtjbdldbjefmnjaaGreatDoor
