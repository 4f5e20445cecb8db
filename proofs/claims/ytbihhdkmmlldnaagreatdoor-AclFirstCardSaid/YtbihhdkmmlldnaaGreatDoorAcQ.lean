/- The law of rules behind the first one that fits. -/
import Derived.Test.YtbihhdkmmlldnaaGreatDoorAcG
import Derived.Test.YtbihhdkmmlldnaaGreatDoorAcH
namespace Go.Proofs.YtbihhdkmmlldnaaGreatDoor
set_option linter.unusedSimpArgs false
set_option linter.unusedVariables false
open Go Go.RowKit Go.Proofs.BerK Go.Proofs.MemK Go.Proofs.UtfK

set_option maxHeartbeats 12800000 in
set_option maxRecDepth 100000 in
theorem afst_any (L M : List Rl) (a b : Option Addr) (c d : Nat) (x y z : List UInt8) (w : World) (he : ErrOk w) (hL : RlAt w (.slice a L.length c) L) (hM : RlAt w (.slice b M.length d) M) (hc : L.length ≤ c) (hcm : c ≤ maxLen) :
    Calls Tryz.prog 4 #[.slice a L.length c, .slice b M.length d, .agg #[.string ⟨x.toArray⟩, .string ⟨y.toArray⟩, .string ⟨z.toArray⟩]] w (BoolPost true w) := by
  obtain ⟨W, hW⟩ : ∃ W, w.alloc (.cells #[.string ⟨x.toArray⟩, .string ⟨y.toArray⟩, .string ⟨z.toArray⟩] 24) = W := ⟨_, rfl⟩
  have hb0 : Below w.heap.size w W := by rw [← hW]; exact (Below.refl _ w).alloc (Nat.le_refl _) _
  have hg : W.heap[w.heap.size]? = some (.cells #[.string ⟨x.toArray⟩, .string ⟨y.toArray⟩, .string ⟨z.toArray⟩] 24 (0, 0)) := by rw [← hW]; exact heap_alloc_new w _
  have d0 := obj_cell hg 0 _ rfl
  have d1 := obj_cell hg 1 _ rfl
  have d2 := obj_cell hg 2 _ rfl
  have hz : w.heap.size < W.heap.size := obj_lt hg
  have HB0 := Lib.hid hb0
  have HLa := Lib.hid (rlAt_below hL hb0)
  have HMa := Lib.hid (rlAt_below hM hb0)
  have HE := Lib.hid (fun w' (hb : Below W.heap.size W w') => errOk_below (errOk_below he hb0) hb)
  have HF1 := Lib.hid (fun w' (hb : Below W.heap.size W w') => few16_any _ L w' (rlAt_below HLa.out hb))
  have HF2 := Lib.hid (fun w' (hb : Below W.heap.size W w') => few16_any _ M w' (rlAt_below HMa.out hb))
  have HAw := Lib.hid (fun w' (hb : Below W.heap.size W w') => awake16_any w' (HE.out w' hb))
  have HFL := Lib.hid (fun w' (hb : Below W.heap.size W w') => afirst_any _ L x y z 1 w' (HE.out w' hb) (rlAt_below HLa.out hb))
  have HAL := Lib.hid (fun w' (hb : Below W.heap.size W w') => allowed_any _ L x y z 1 w' (HE.out w' hb) (rlAt_below HLa.out hb))
  have hfa := fun h => (fewA_facts (l := L) h).1
  have hfb := fun h => (fewA_facts (l := M) h).1
  obtain ⟨n1, e1⟩ : ∃ q, fewA L = q := ⟨_, rfl⟩
  obtain ⟨n2, e2⟩ : ∃ q, fewA M = q := ⟨_, rfl⟩
  rw [e1] at HF1 hfa
  rw [e2] at HF2 hfb
  obtain ⟨n, hn⟩ : ∃ n, L.length = n := ⟨_, rfl⟩
  obtain ⟨m, hm⟩ : ∃ m, M.length = m := ⟨_, rfl⟩
  have HLn := Lib.hid (And.intro hn hm)
  rw [hn] at HLa HF1 HFL HAL hc hfa ⊢
  rw [hm] at HMa HF2 hfb ⊢
  have hbW : Below W.heap.size W W := Below.refl _ W
  have hways : (n1 = false ∨ (n1 = true ∧ n2 = false) ∨ (n1 = true ∧ n2 = true ∧ (200 : Int) < (x.length : Int)) ∨ (n1 = true ∧ n2 = true ∧ ¬ (200 : Int) < (x.length : Int) ∧ (200 : Int) < (y.length : Int)) ∨ (n1 = true ∧ n2 = true ∧ ¬ (200 : Int) < (x.length : Int) ∧ ¬ (200 : Int) < (y.length : Int) ∧ (100 : Int) < (z.length : Int))) ∨ (n1 = true ∧ n2 = true ∧ ¬ (200 : Int) < (x.length : Int) ∧ ¬ (200 : Int) < (y.length : Int) ∧ ¬ (100 : Int) < (z.length : Int)) := by
    cases n1 <;> cases n2 <;> simp <;> omega
  clear he hL hM hb0 hg e1 e2 hn hm
  rcases hways with hways | ⟨rfl, rfl, p3, p4, p5⟩
  · clear hfa hfb
    rcases hways with rfl | ⟨rfl, rfl⟩ | ⟨rfl, rfl, p3⟩ | ⟨rfl, rfl, p3, p4⟩ | ⟨rfl, rfl, p3, p4, p5⟩
    all_goals
      go_enter Tryz.func4, Tryz.ntmps4
      go_wp2_with ((first | with_reducible refine (HF1.out _ hbW).mono ?_ | with_reducible refine (HF2.out _ hbW).mono ?_ | with_reducible refine (HAw.out _ hbW).mono ?_); rintro en w5 ⟨rfl, hb5⟩; have hbW := hbW.trans (hb5.mono hbW.size); have h0 := (hbW.cell (p := ⟨w.heap.size, 0, none⟩) hz).trans d0; have h1 := (hbW.cell (p := ⟨w.heap.size, 1, none⟩) hz).trans d1; have h2 := (hbW.cell (p := ⟨w.heap.size, 2, none⟩) hz).trans d2)
      go_ret
      exact boolPost_mk rfl (HB0.out.trans (hbW.mono HB0.out.size))
  have hn12 : n ≤ 12 := by have := hfa rfl; omega
  have hm12 : m ≤ 12 := by have := hfb rfl; omega
  have hci : (n : Int) ≤ (c : Int) := by omega
  clear hfa hfb
  obtain ⟨N, hN⟩ : ∃ N, L ++ M = N := ⟨_, rfl⟩
  have HNN := Lib.hid hN
  obtain ⟨kk, hkk⟩ : ∃ kk, N.length = kk := ⟨_, rfl⟩
  have hkn : kk = n + m := by rw [← hkk, ← hN, List.length_append, HLn.out.1, HLn.out.2]
  have HK := Lib.hid hkk
  clear hN hkk
  go_enter Tryz.func4, Tryz.ntmps4
  go_wp2_with fail
  refine (HF1.out _ hbW).mono ?_
  rintro en w5 ⟨rfl, hb5⟩
  have hbW := hbW.trans (hb5.mono hbW.size)
  clear hb5
  go_wp2_with fail
  refine (HF2.out _ hbW).mono ?_
  rintro en w6 ⟨rfl, hb5⟩
  have hbW := hbW.trans (hb5.mono hbW.size)
  have h0 := (hbW.cell (p := ⟨w.heap.size, 0, none⟩) hz).trans d0
  have h1 := (hbW.cell (p := ⟨w.heap.size, 1, none⟩) hz).trans d1
  have h2 := (hbW.cell (p := ⟨w.heap.size, 2, none⟩) hz).trans d2
  have HBW := Lib.hid hbW
  clear hb5 hbW
  go_wp2_with (at_builtin; refine rl_append rfl (.tmp 41) (.tmp 42) rfl a L M ?ev ?il _ rfl ?im ?ln ?_)
  case ev => rw [HLn.out.1]; rfl
  case il => rw [HLn.out.1]; exact rlAt_below (rlAt_cap HLa.out _) HBW.out
  case im => exact rlAt_below HMa.out HBW.out
  case ln => rw [HLn.out.1, HLn.out.2]; omega
  intro a7 c7 w7 hi7 hb7
  rw [HNN.out] at hi7
  rw [HLn.out.1, HLn.out.2, ← hkn] at hi7 ⊢
  have HKn := Lib.hid hkn
  clear hkn
  have B7 := Lib.hid (HBW.out.trans (hb7.mono HBW.out.size))
  have J7 := Lib.hid hi7
  have HFN := Lib.hid (fun w' (hb : Below w7.heap.size w7 w') => afirst_any _ N x y z 1 w' (errOk_below (HE.out w7 B7.out) hb) (rlAt_below J7.out hb))
  have HAN := Lib.hid (fun w' (hb : Below w7.heap.size w7 w') => allowed_any _ N x y z 1 w' (errOk_below (HE.out w7 B7.out) hb) (rlAt_below J7.out hb))
  have HCN := Lib.hid (fun w' (hb : Below w7.heap.size w7 w') => acheck_any _ N w' (errOk_below (HE.out w7 B7.out) hb) (rlAt_below J7.out hb))
  have k0 := (B7.out.cell (p := ⟨w.heap.size, 0, none⟩) hz).trans d0
  have k1 := (B7.out.cell (p := ⟨w.heap.size, 1, none⟩) hz).trans d1
  have k2 := (B7.out.cell (p := ⟨w.heap.size, 2, none⟩) hz).trans d2
  have hz7 : w.heap.size < w7.heap.size := Nat.lt_of_lt_of_le hz B7.out.size
  clear hi7 hb7 h0 h1 h2 d0 d1 d2
  have hcases : (ckA N ≠ 0) ∨ (ckA N = 0 ∧ frA L x y z 1 = none) ∨ (ckA N = 0 ∧ ∃ i, frA L x y z 1 = some i) := by
    by_cases h : ckA N = 0
    · cases h2 : frA L x y z 1 with
      | none => exact .inr (.inl ⟨h, rfl⟩)
      | some i => exact .inr (.inr ⟨h, i, rfl⟩)
    · exact .inl h
  rcases hcases with hck | ⟨hck, hfr⟩ | ⟨hck, i, hfr⟩
  · rw [fr_none hck, fn_none] at HFN
    rw [al_no (fr_none hck)] at HAN
    obtain ⟨q, hq⟩ : ∃ q, ckA N = q := ⟨_, rfl⟩
    obtain ⟨fi, hfi⟩ : ∃ q, fnI (frA L x y z 1) = q := ⟨_, rfl⟩
    rw [hq] at HCN hck
    rw [hfi] at HFL
    have qq : ((q : Int) != 0) = true := by simp; omega
    clear hq hfi hck
    go_wp2_with fail
    refine (HFL.out _ B7.out).mono ?_
    rintro en w8 ⟨rfl, hb8⟩
    have hb7 := Lib.hid hb8
    clear hb8
    go_wp2_with fail
    refine (HCN.out _ hb7.out).mono ?_
    rintro en w9 ⟨rfl, hb9⟩
    have hbX : Below w7.heap.size w7 w9 := hb7.out.trans (hb9.mono hb7.out.size)
    have j0 := (hbX.cell (p := ⟨w.heap.size, 0, none⟩) hz7).trans k0
    have j1 := (hbX.cell (p := ⟨w.heap.size, 1, none⟩) hz7).trans k1
    have j2 := (hbX.cell (p := ⟨w.heap.size, 2, none⟩) hz7).trans k2
    clear hb9
    go_wp2_with ((first | with_reducible refine (HFN.out _ hbX).mono ?_ | with_reducible refine (HAN.out _ hbX).mono ?_ | with_reducible refine (HAw.out _ (B7.out.trans (hbX.mono B7.out.size))).mono ?_); rintro en w5 ⟨rfl, hb5⟩; have hbX := hbX.trans (hb5.mono hbX.size); have h0 := (hbX.cell (p := ⟨w.heap.size, 0, none⟩) hz7).trans k0; have h1 := (hbX.cell (p := ⟨w.heap.size, 1, none⟩) hz7).trans k1; have h2 := (hbX.cell (p := ⟨w.heap.size, 2, none⟩) hz7).trans k2)
    go_ret
    exact boolPost_mk rfl (HB0.out.trans ((B7.out.trans (hbX.mono B7.out.size)).mono HB0.out.size))
  · rw [hfr, fn_none] at HFL
    rw [al_no hfr] at HAL
    rw [hck] at HCN
    clear hck hfr
    go_wp2_with fail
    refine (HFL.out _ B7.out).mono ?_
    rintro en w8 ⟨rfl, hb8⟩
    have hb7 := Lib.hid hb8
    clear hb8
    go_wp2_with fail
    refine (HCN.out _ hb7.out).mono ?_
    rintro en w9 ⟨rfl, hb9⟩
    have hbX : Below w7.heap.size w7 w9 := hb7.out.trans (hb9.mono hb7.out.size)
    have j0 := (hbX.cell (p := ⟨w.heap.size, 0, none⟩) hz7).trans k0
    have j1 := (hbX.cell (p := ⟨w.heap.size, 1, none⟩) hz7).trans k1
    have j2 := (hbX.cell (p := ⟨w.heap.size, 2, none⟩) hz7).trans k2
    clear hb9
    go_wp2_with ((first | with_reducible refine (HAL.out _ (B7.out.trans (hbX.mono B7.out.size))).mono ?_ | with_reducible refine (HAw.out _ (B7.out.trans (hbX.mono B7.out.size))).mono ?_); rintro en w5 ⟨rfl, hb5⟩; have hbX := hbX.trans (hb5.mono hbX.size); have h0 := (hbX.cell (p := ⟨w.heap.size, 0, none⟩) hz7).trans k0; have h1 := (hbX.cell (p := ⟨w.heap.size, 1, none⟩) hz7).trans k1; have h2 := (hbX.cell (p := ⟨w.heap.size, 2, none⟩) hz7).trans k2)
    go_ret
    exact boolPost_mk rfl (HB0.out.trans ((B7.out.trans (hbX.mono B7.out.size)).mono HB0.out.size))
  · have hck' := hck
    rw [← HNN.out] at hck
    have hfa := fr_app hck hfr
    have haa := al_app hck hfr
    rw [HNN.out] at hfa haa
    have hil := fr_lt hfr
    have hal := al_at hfr hil
    rw [hfr, fn_some] at HFL
    rw [hfa, fn_some] at HFN
    rw [haa, hal] at HAN
    rw [hck'] at HCN
    obtain ⟨al, hal2⟩ : ∃ q, L[i].2.2.2.2 = q := ⟨_, rfl⟩
    rw [hal2] at HAN
    have hA7 := rlAt_below HLa.out B7.out
    obtain ⟨g, o, rfl, hg7, _, _, _, _, c4⟩ := rlAt_five hA7 i hil
    have k4 : w7.cell? ⟨g, o + i * 5 + 4, none⟩ = some (.bool al) := c4.trans (congrArg (fun q => some (Value.bool q)) hal2)
    rw [HLn.out.1] at hil
    have hi1 : (i : Int) < (n : Int) := by omega
    have hi2 : ¬ (i : Int) < 0 := by omega
    clear hck hck' hfr hfa haa hal hal2 c4 hA7
    go_wp2_with fail
    refine (HFL.out _ B7.out).mono ?_
    rintro en w8 ⟨rfl, hb8⟩
    have hb7 := Lib.hid hb8
    clear hb8
    go_wp2_with fail
    refine (HCN.out _ hb7.out).mono ?_
    rintro en w9 ⟨rfl, hb9⟩
    have C8 := Lib.hid (hb7.out.trans (hb9.mono hb7.out.size))
    have B8 := Lib.hid (B7.out.trans (C8.out.mono B7.out.size))
    have k0 := (C8.out.cell (p := ⟨w.heap.size, 0, none⟩) hz7).trans k0
    have k1 := (C8.out.cell (p := ⟨w.heap.size, 1, none⟩) hz7).trans k1
    have k2 := (C8.out.cell (p := ⟨w.heap.size, 2, none⟩) hz7).trans k2
    have k4 := (C8.out.cell (p := ⟨g, _, none⟩) hg7).trans k4
    have hz7 : w.heap.size < w9.heap.size := Nat.lt_of_lt_of_le hz7 C8.out.size
    have hg7 : g < w9.heap.size := Nat.lt_of_lt_of_le hg7 C8.out.size
    have HF9 := Lib.hid (fun w' (hb : Below w9.heap.size w9 w') => HFN.out w' (C8.out.trans (hb.mono C8.out.size)))
    have HA9 := Lib.hid (fun w' (hb : Below w9.heap.size w9 w') => HAN.out w' (C8.out.trans (hb.mono C8.out.size)))
    have HW9 := Lib.hid (fun w' (hb : Below w9.heap.size w9 w') => HAw.out w' (B8.out.trans (hb.mono B8.out.size)))
    clear hb9
    go_wp2_with fail
    go_region_held3 (fun w' => w'.cell? ⟨w.heap.size, 0, none⟩ = some (.string ⟨x.toArray⟩) ∧ w'.cell? ⟨w.heap.size, 1, none⟩ = some (.string ⟨y.toArray⟩) ∧ w'.cell? ⟨w.heap.size, 2, none⟩ = some (.string ⟨z.toArray⟩) ∧ w'.cell? ⟨g, o + i * 5 + 4, none⟩ = some (.bool al)) (first | exact ⟨hk0, hk1, hk2, hk4⟩ | exact ⟨k0, k1, k2, k4⟩ | go_keep)
      (first | (go_at_call 13; (with_reducible refine (HF9.out _ (by first | exact hbW | exact (Below.refl _ w9).drew)).mono ?_); rintro en wz ⟨rfl, hb5⟩; have hbW : Below w9.heap.size w9 wz := (by first | exact hbW.trans (hb5.mono hbW.size) | exact (Below.refl _ w9).drew.trans hb5); have hk0 := (hbW.cell (p := ⟨w.heap.size, 0, none⟩) hz7).trans k0; have hk1 := (hbW.cell (p := ⟨w.heap.size, 1, none⟩) hz7).trans k1; have hk2 := (hbW.cell (p := ⟨w.heap.size, 2, none⟩) hz7).trans k2; have hk4 := (hbW.cell (p := ⟨g, o + i * 5 + 4, none⟩) hg7).trans k4; clear hb5) | (go_at_call 15; (with_reducible refine (HA9.out _ (by first | exact hbW | exact (Below.refl _ w9).drew)).mono ?_); rintro en wz ⟨rfl, hb5⟩; have hbW : Below w9.heap.size w9 wz := (by first | exact hbW.trans (hb5.mono hbW.size) | exact (Below.refl _ w9).drew.trans hb5); have hk0 := (hbW.cell (p := ⟨w.heap.size, 0, none⟩) hz7).trans k0; have hk1 := (hbW.cell (p := ⟨w.heap.size, 1, none⟩) hz7).trans k1; have hk2 := (hbW.cell (p := ⟨w.heap.size, 2, none⟩) hz7).trans k2; have hk4 := (hbW.cell (p := ⟨g, o + i * 5 + 4, none⟩) hg7).trans k4; clear hb5) | (go_at_call 10; (with_reducible refine (HW9.out _ (by first | exact hbW | exact (Below.refl _ w9).drew)).mono ?_); rintro en wz ⟨rfl, hb5⟩; have hbW : Below w9.heap.size w9 wz := (by first | exact hbW.trans (hb5.mono hbW.size) | exact (Below.refl _ w9).drew.trans hb5); have hk0 := (hbW.cell (p := ⟨w.heap.size, 0, none⟩) hz7).trans k0; have hk1 := (hbW.cell (p := ⟨w.heap.size, 1, none⟩) hz7).trans k1; have hk2 := (hbW.cell (p := ⟨w.heap.size, 2, none⟩) hz7).trans k2; have hk4 := (hbW.cell (p := ⟨g, o + i * 5 + 4, none⟩) hg7).trans k4; clear hb5))
    go_wp2
    go_ret
    exact boolPost_mk (by simp) (HB0.out.trans ((B8.out.trans (hbW.mono B8.out.size)).mono HB0.out.size))
end Go.Proofs.YtbihhdkmmlldnaaGreatDoor
