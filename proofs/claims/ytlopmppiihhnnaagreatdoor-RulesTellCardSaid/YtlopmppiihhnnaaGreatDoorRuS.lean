/- The law that tells any values as they count, for every rule, every two texts and all parts. -/
import Derived.Test.YtlopmppiihhnnaaGreatDoorRuKO
import Derived.Test.YtlopmppiihhnnaaGreatDoorRuJ
namespace Go.Proofs.YtlopmppiihhnnaaGreatDoor
set_option linter.unusedSimpArgs false
set_option linter.unusedVariables false
open Go Go.RowKit Go.Proofs.BerK Go.Proofs.MemK Go.Proofs.UtfK

theorem few_bd {h : List UInt8} {ms : List (List UInt8)} {t : List UInt8} (hf : fewR h ms t = true) : ∀ x ∈ allP h ms t, x.length ≤ 100 := by
  obtain ⟨h1, h2, _, h4⟩ := few_true hf
  intro x hx
  simp [allP] at hx
  rcases hx with rfl | hx | rfl
  · exact h1
  · exact h4 x hx
  · exact h2
/-- Two boxes laid one behind the other. -/
theorem box23 {w : World} {a b x y z : Value} {t u : TypeId} : ((w.alloc (.cells #[a, b] t)).alloc (.cells #[x, y, z] u)).heap[w.heap.size]? = some (.cells #[a, b] t (0, 0)) ∧ ((w.alloc (.cells #[a, b] t)).alloc (.cells #[x, y, z] u)).heap[w.heap.size + 1]? = some (.cells #[x, y, z] u (0, 0)) ∧ Below w.heap.size w ((w.alloc (.cells #[a, b] t)).alloc (.cells #[x, y, z] u)) := by
  refine ⟨obj_alloc (heap_alloc_new w _) _, ?_, ((Below.refl _ w).alloc (Nat.le_refl _) _).alloc (by simp) _⟩
  have := heap_alloc_new (w.alloc (.cells #[a, b] t)) (.cells #[x, y, z] u)
  rw [World.size_alloc] at this
  exact this
set_option maxHeartbeats 12800000 in
set_option maxRecDepth 100000 in
theorem rutells_any (r : Int) (s t h b : List UInt8) (ms : List (List UInt8)) (a : Option Addr) (c : Nat) (w : World) (hl : ms.length ≤ 9223372036854775807) (hm : TxR w (.slice a ms.length c) ms) (he : ErrOk w) (hk : MlOk w) :
    Calls Tryz.prog 3 #[.int .i64 r, .agg #[.string ⟨s.toArray⟩, .string ⟨t.toArray⟩], .agg #[.string ⟨h.toArray⟩, .slice a ms.length c, .string ⟨b.toArray⟩]] w (BoolPost true w) := by
  have HF := Lib.hid (fun w' (hb : Below w.heap.size w w') => rfew_any h b ms a c w' (txR_below hm hb))
  have HW := Lib.hid (fun w' (hb : Below w.heap.size w w') => ruawake_any w' (errOk_below he hb) (mlOk_below hk hb))
  have N1 := Lib.hid (fun w' (hb : Below w.heap.size w w') => runorm_any r s w' (errOk_below he hb))
  have N2 := Lib.hid (fun w' (hb : Below w.heap.size w w') => rrnorm_any r s w')
  have E1 := Lib.hid (fun w' (hb : Below w.heap.size w w') => ruequal_any r s t w' (errOk_below he hb))
  have E2 := Lib.hid (fun w' (hb : Below w.heap.size w w') => rrequal_any r s t w')
  have O1 := Lib.hid (fun w' (hb : Below w.heap.size w w') => ruorder_any r s t w' (errOk_below he hb))
  have O2 := Lib.hid (fun w' (hb : Below w.heap.size w w') => rrorder_any r s t w')
  have S1 := Lib.hid (fun w' (hb : Below w.heap.size w w') => rusubs_any r s h b ms a c w' hl (txR_below hm hb) (errOk_below he hb) (mlOk_below hk hb))
  have S2 := Lib.hid (fun (hbd : ∀ x ∈ allP h ms b, x.length ≤ 100) w' (hb : Below w.heap.size w w') => rrsubs_any r s h b ms a c w' (txR_below hm hb) hbd)
  obtain ⟨x0, x1, x2⟩ := box23 (w := w) (a := .string ⟨s.toArray⟩) (b := .string ⟨t.toArray⟩) (x := .string ⟨h.toArray⟩) (y := .slice a ms.length c) (z := .string ⟨b.toArray⟩) (t := 22) (u := 25)
  obtain ⟨W0, hW0⟩ : ∃ W0, ((w.alloc (.cells #[.string ⟨s.toArray⟩, .string ⟨t.toArray⟩] 22)).alloc (.cells #[.string ⟨h.toArray⟩, .slice a ms.length c, .string ⟨b.toArray⟩] 25)) = W0 := ⟨_, rfl⟩
  rw [hW0] at x0 x1 x2
  have HW0 := Lib.hid hW0
  obtain ⟨P, hP⟩ : ∃ P, ruN r s = P := ⟨_, rfl⟩
  obtain ⟨ev, hev⟩ : ∃ P, eqP (ruN r s) (ruN r t) = P := ⟨_, rfl⟩
  obtain ⟨ov, hov⟩ : ∃ P, ordP r (ruN r s) (ruN r t) = P := ⟨_, rfl⟩
  obtain ⟨sv, hsv⟩ : ∃ P, subP r (ruN r s) h ms b = P := ⟨_, rfl⟩
  rw [hev] at E1 E2
  rw [hov] at O1 O2
  rw [hsv] at S1 S2
  rw [hP] at N1 N2
  obtain ⟨A, ok⟩ := P
  have HFb := Lib.hid (few_bd (h := h) (ms := ms) (t := b))
  obtain ⟨fw, hfw⟩ : ∃ f, fewR h ms b = f := ⟨_, rfl⟩
  rw [hfw] at HF HFb
  obtain ⟨n, hn⟩ : ∃ n, ms.length = n := ⟨_, rfl⟩
  rw [hn] at HF S1 S2 x1 HW0 ⊢
  have HX := Lib.hid (And.intro x0 (And.intro x1 x2))
  have d0 := obj_cell x0 0 _ rfl
  have d1 := obj_cell x0 1 _ rfl
  clear hP hev hov hsv hfw hn hW0 x0 x1 x2 he hk hl hm
  by_cases hbig : 300 < s.length ∧ s.length ≤ 4096 ∨ 5000 < s.length ∨ 300 < t.length
  · have hw : ((300 : Int) < (s.length : Int) ∧ (s.length : Int) ≤ 4096) ∨ ((300 : Int) < (s.length : Int) ∧ ¬ (s.length : Int) ≤ 4096 ∧ (5000 : Int) < (s.length : Int)) ∨
      ((¬ (300 : Int) < (s.length : Int) ∧ ¬ (5000 : Int) < (s.length : Int)) ∧ (300 : Int) < (t.length : Int)) ∨ (((300 : Int) < (s.length : Int) ∧ ¬ (s.length : Int) ≤ 4096 ∧ ¬ (5000 : Int) < (s.length : Int)) ∧ (300 : Int) < (t.length : Int)) := by omega
    clear hbig
    rcases hw with ⟨q1, q2⟩ | ⟨q1, q2, q3⟩ | ⟨⟨q1, q2⟩, q3⟩ | ⟨⟨q1, q2, q3⟩, q4⟩
    all_goals
      go_enter Tryz.func3, Tryz.ntmps3
      go_wp2_with fail
      rw [HW0.out]
      go_quiet (fail)
      have B1 := Lib.hid (below_dn HX.out.2.2 nq)
      go_wp2_with fail
      refine (HW.out _ B1.out).mono ?_
      rintro e w2 ⟨rfl, hb2⟩
      have B2 := Lib.hid (B1.out.trans (hb2.mono B1.out.size))
      clear hb2
      go_wp2
      go_ret
      exact boolPost_mk rfl B2.out
  have hw : (¬ (300 : Int) < (s.length : Int) ∧ ¬ (5000 : Int) < (s.length : Int) ∧ ¬ (300 : Int) < (t.length : Int)) ∨ ((300 : Int) < (s.length : Int) ∧ ¬ (s.length : Int) ≤ 4096 ∧ ¬ (5000 : Int) < (s.length : Int) ∧ ¬ (300 : Int) < (t.length : Int)) := by omega
  clear hbig
  cases fw
  · clear S1 S2 HFb
    rcases hw with ⟨q1, q2, q3⟩ | ⟨q1, q2, q3, q4⟩
    all_goals
      go_enter Tryz.func3, Tryz.ntmps3
      go_wp2_with fail
      rw [HW0.out]
      go_quiet (fail)
      have B1 := Lib.hid (below_dn HX.out.2.2 nq)
      have x1 := obj_below HX.out.2.1 (below_dn (Below.refl _ _) nq) (obj_lt HX.out.2.1)
      obtain ⟨b0, b1, b2⟩ := obj3 x1
      clear d0 d1 x1
      go_wp2_with fail
      refine (HF.out _ B1.out).mono ?_
      rintro e w2 ⟨rfl, hb2⟩
      have B2 := Lib.hid (B1.out.trans (hb2.mono B1.out.size))
      clear hb2 b0 b1 b2
      go_wp2_with fail
      refine (HW.out _ B2.out).mono ?_
      rintro e w3 ⟨rfl, hb3⟩
      have B3 := Lib.hid (B2.out.trans (hb3.mono B2.out.size))
      clear hb3
      go_wp2
      go_ret
      exact boolPost_mk rfl B3.out
  · have S3 := Lib.hid (S2.out (HFb.out rfl))
    clear S2 HFb
    rcases hw with ⟨q1, q2, q3⟩ | ⟨q1, q2, q3, q4⟩
    all_goals
      go_enter Tryz.func3, Tryz.ntmps3
      go_wp2_with fail
      rw [HW0.out]
      go_quiet (fail)
      have B1 := Lib.hid (below_dn HX.out.2.2 nq)
      have x1 := obj_below HX.out.2.1 (below_dn (Below.refl _ _) nq) (obj_lt HX.out.2.1)
      have X1 := Lib.hid x1
      obtain ⟨b0, b1, b2⟩ := obj3 x1
      clear d0 d1 x1
      go_wp2_with fail
      refine (HF.out _ B1.out).mono ?_
      rintro e w2 ⟨rfl, hb2⟩
      have B2 := Lib.hid (And.intro (obj_below X1.out hb2 (obj_lt X1.out)) (B1.out.trans (hb2.mono B1.out.size)))
      clear hb2 b0 b1 b2
      go_wp2_with fail
      refine (N1.out _ B2.out.2).mono ?_
      rintro e w3 ⟨rfl, hb3⟩
      have B3 := Lib.hid (And.intro (obj_below B2.out.1 hb3 (obj_lt B2.out.1)) (B2.out.2.trans (hb3.mono B2.out.2.size)))
      clear hb3
      go_wp2_with fail
      refine (N2.out _ B3.out.2).mono ?_
      rintro e w4 ⟨rfl, hb4⟩
      have B4 := Lib.hid (And.intro (obj_below B3.out.1 hb4 (obj_lt B3.out.1)) (B3.out.2.trans (hb4.mono B3.out.2.size)))
      clear hb4
      obtain ⟨c0, c1, c2⟩ := obj3 B4.out.1
      have zb := obj_lt B4.out.1
      have hbW : Below w4.heap.size w4 w4 := Below.refl _ _
      go_wp2_with fail
      go_region_held3 (fun w' => w'.cell? ⟨w.heap.size + 1, 0, none⟩ = some (.string ⟨h.toArray⟩) ∧ w'.cell? ⟨w.heap.size + 1, 1, none⟩ = some (.slice a n c) ∧ w'.cell? ⟨w.heap.size + 1, 2, none⟩ = some (.string ⟨b.toArray⟩)) (first | exact ⟨e0, e1, e2⟩ | exact ⟨c0, c1, c2⟩ | go_keep)
        (first | (go_at_call 10; (with_reducible refine (E1.out _ (by first | exact HbW.out | exact B4.out.2.drew)).mono ?_); rintro en w5 ⟨rfl, hb5⟩; have hbW : Below w4.heap.size w4 w5 := (by first | exact hbW.trans (hb5.mono hbW.size) | exact (Below.refl _ w4).drew.trans hb5); have e0 := (hbW.cell (p := ⟨w.heap.size + 1, 0, none⟩) zb).trans c0; have e1 := (hbW.cell (p := ⟨w.heap.size + 1, 1, none⟩) zb).trans c1; have e2 := (hbW.cell (p := ⟨w.heap.size + 1, 2, none⟩) zb).trans c2; have HbW := Lib.hid (B4.out.2.trans (hbW.mono B4.out.2.size))) | (go_at_call 11; (with_reducible refine (E2.out _ (by first | exact HbW.out | exact B4.out.2.drew)).mono ?_); rintro en w5 ⟨rfl, hb5⟩; have hbW : Below w4.heap.size w4 w5 := (by first | exact hbW.trans (hb5.mono hbW.size) | exact (Below.refl _ w4).drew.trans hb5); have e0 := (hbW.cell (p := ⟨w.heap.size + 1, 0, none⟩) zb).trans c0; have e1 := (hbW.cell (p := ⟨w.heap.size + 1, 1, none⟩) zb).trans c1; have e2 := (hbW.cell (p := ⟨w.heap.size + 1, 2, none⟩) zb).trans c2; have HbW := Lib.hid (B4.out.2.trans (hbW.mono B4.out.2.size))) | (go_at_call 12; (with_reducible refine (O1.out _ (by first | exact HbW.out | exact B4.out.2.drew)).mono ?_); rintro en w5 ⟨rfl, hb5⟩; have hbW : Below w4.heap.size w4 w5 := (by first | exact hbW.trans (hb5.mono hbW.size) | exact (Below.refl _ w4).drew.trans hb5); have e0 := (hbW.cell (p := ⟨w.heap.size + 1, 0, none⟩) zb).trans c0; have e1 := (hbW.cell (p := ⟨w.heap.size + 1, 1, none⟩) zb).trans c1; have e2 := (hbW.cell (p := ⟨w.heap.size + 1, 2, none⟩) zb).trans c2; have HbW := Lib.hid (B4.out.2.trans (hbW.mono B4.out.2.size))) | (go_at_call 13; (with_reducible refine (O2.out _ (by first | exact HbW.out | exact B4.out.2.drew)).mono ?_); rintro en w5 ⟨rfl, hb5⟩; have hbW : Below w4.heap.size w4 w5 := (by first | exact hbW.trans (hb5.mono hbW.size) | exact (Below.refl _ w4).drew.trans hb5); have e0 := (hbW.cell (p := ⟨w.heap.size + 1, 0, none⟩) zb).trans c0; have e1 := (hbW.cell (p := ⟨w.heap.size + 1, 1, none⟩) zb).trans c1; have e2 := (hbW.cell (p := ⟨w.heap.size + 1, 2, none⟩) zb).trans c2; have HbW := Lib.hid (B4.out.2.trans (hbW.mono B4.out.2.size))) | (go_at_call 14; (with_reducible refine (S1.out _ (by first | exact HbW.out | exact B4.out.2.drew)).mono ?_); rintro en w5 ⟨rfl, hb5⟩; have hbW : Below w4.heap.size w4 w5 := (by first | exact hbW.trans (hb5.mono hbW.size) | exact (Below.refl _ w4).drew.trans hb5); have e0 := (hbW.cell (p := ⟨w.heap.size + 1, 0, none⟩) zb).trans c0; have e1 := (hbW.cell (p := ⟨w.heap.size + 1, 1, none⟩) zb).trans c1; have e2 := (hbW.cell (p := ⟨w.heap.size + 1, 2, none⟩) zb).trans c2; have HbW := Lib.hid (B4.out.2.trans (hbW.mono B4.out.2.size))) | (go_at_call 15; (with_reducible refine (S3.out _ (by first | exact HbW.out | exact B4.out.2.drew)).mono ?_); rintro en w5 ⟨rfl, hb5⟩; have hbW : Below w4.heap.size w4 w5 := (by first | exact hbW.trans (hb5.mono hbW.size) | exact (Below.refl _ w4).drew.trans hb5); have e0 := (hbW.cell (p := ⟨w.heap.size + 1, 0, none⟩) zb).trans c0; have e1 := (hbW.cell (p := ⟨w.heap.size + 1, 1, none⟩) zb).trans c1; have e2 := (hbW.cell (p := ⟨w.heap.size + 1, 2, none⟩) zb).trans c2; have HbW := Lib.hid (B4.out.2.trans (hbW.mono B4.out.2.size))) | (go_at_call 7; (with_reducible refine (HW.out _ (by first | exact HbW.out | exact B4.out.2.drew)).mono ?_); rintro en w5 ⟨rfl, hb5⟩; have hbW : Below w4.heap.size w4 w5 := (by first | exact hbW.trans (hb5.mono hbW.size) | exact (Below.refl _ w4).drew.trans hb5); have e0 := (hbW.cell (p := ⟨w.heap.size + 1, 0, none⟩) zb).trans c0; have e1 := (hbW.cell (p := ⟨w.heap.size + 1, 1, none⟩) zb).trans c1; have e2 := (hbW.cell (p := ⟨w.heap.size + 1, 2, none⟩) zb).trans c2; have HbW := Lib.hid (B4.out.2.trans (hbW.mono B4.out.2.size))))
      have B9 := Lib.hid HbW.out
      clear hbW e0 e1 e2 HbW c0 c1 c2 hb5
      go_wp2
      go_ret
      exact boolPost_mk rfl B9.out
end Go.Proofs.YtlopmppiihhnnaaGreatDoor
