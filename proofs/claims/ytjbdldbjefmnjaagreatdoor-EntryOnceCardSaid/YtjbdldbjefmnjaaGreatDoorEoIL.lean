/- The document's Select. The document's Select, types alone. The law's own values of layer 10 come out as said; the document's Select, every way. The law on what is selected: plain facts. -/
import Derived.Test.YtjbdldbjefmnjaaGreatDoorEoAH
import Derived.Test.YtjbdldbjefmnjaaGreatDoorEnCE
import Derived.Test.YtjbdldbjefmnjaaGreatDoorTxs
import Derived.Test.YtjbdldbjefmnjaaGreatDoorSnUW
import Derived.Test.YtjbdldbjefmnjaaGreatDoorScL
namespace Go.Proofs.YtjbdldbjefmnjaaGreatDoor
set_option linter.unusedSimpArgs false
set_option linter.unusedVariables false
open Go Go.RowKit Go.Proofs.BerK Go.Proofs.MemK Go.Proofs.UtfK
set_option maxHeartbeats 6400000 in
set_option maxRecDepth 100000 in
theorem rsel_false (A : List Atr) (T : List (List UInt8)) (dn : List UInt8) (av tv : Value) (w : World) (h : AtAt w av A) (ht : TxR w tv T) (hf : FewG 300 300 A) (hl : T.length ≤ 1000000) (hb : ∀ s ∈ T, s.length ≤ 100000) :
    Calls Tryz.prog 9 #[.agg #[.string ⟨dn.toArray⟩, av], tv, .bool false] w (EnPost10 dn (rsL (clA A) T false) w) := by
  obtain ⟨a, c, rfl, hcells⟩ := h
  have h : AtAt w (.slice a A.length c) A := ⟨a, c, rfl, hcells⟩
  obtain ⟨ta, tc, rfl, htc⟩ := ht
  have HT := Lib.hid htc
  have HTb := Lib.hid hb
  obtain ⟨W1, hW1⟩ : ∃ W1, (w.alloc (.cells #[.string ⟨dn.toArray⟩, .slice a A.length c] 24)).alloc (.cells #[.string ⟨#[]⟩, .slice none 0 0] 24) = W1 := ⟨_, rfl⟩
  obtain ⟨x0, x1, hb1, hz1⟩ := boxes10 hW1
  have HCl := Lib.hid (rclean10_any dn A _ W1 (atAt_below h hb1) hf)
  have HCf := Lib.hid (fewG_cl hf)
  have HW1 := Lib.hid hW1
  obtain ⟨n, hn⟩ : ∃ n, A.length = n := ⟨_, rfl⟩
  rw [hn] at HCl HW1 x0 ⊢
  obtain ⟨R, hR⟩ : ∃ R, clA A = R := ⟨_, rfl⟩
  rw [hR] at HCl HCf ⊢
  have HX := Lib.hid (And.intro x1 (And.intro hb1 hz1))
  have HSt := Lib.hid (fun i (hi : i < R.length) => rs_step R T false i hi)
  have HSl := Lib.hid (rs_len R T false)
  have HS0 := Lib.hid (show rsL (R.take 0) T false = [] by simp [rsL])
  have HSe := Lib.hid (show rsL (R.take R.length) T false = rsL R T false by rw [List.take_length])
  have HAl := Lib.hid (fun i (hi : i < T.length) => show (T.isEmpty || inL (T.take (i + 1)) starL) = ((T.isEmpty || inL (T.take i) starL) || T[i] == starL) by rw [inL_step i hi, Bool.or_assoc])
  have HA0 := Lib.hid (show (T.isEmpty || inL (T.take 0) starL) = T.isEmpty by simp [inL])
  have HAe := Lib.hid (show (T.isEmpty || inL (T.take T.length) starL) = allB T by rw [List.take_length]; rfl)
  have HNk := Lib.hid (fun (m : List UInt8) k (hk : k < T.length) => show (allB T || inL ((T.map lowL).take (k + 1)) m) = ((allB T || inL ((T.map lowL).take k) m) || lowL T[k] == m) by rw [inL_step k (by simpa using hk), Bool.or_assoc, List.getElem_map])
  have HN0 := Lib.hid (fun m => show (allB T || inL ((T.map lowL).take 0) m) = allB T by simp [inL])
  have HNe := Lib.hid (fun (p : Atr) => show (allB T || inL ((T.map lowL).take T.length) p.1) = rsP T p by unfold rsP; rw [List.take_of_length_le (by simp)])
  obtain ⟨tl, htl⟩ : ∃ x, T.length = x := ⟨_, rfl⟩
  have HTl := Lib.hid htl
  rw [htl] at HAe HNe hl ⊢
  have htE : T.isEmpty = ((tl : Int) == 0) := by
    rw [← htl]
    cases T with
    | nil => rfl
    | cons x T => symm; show decide _ = false; simp; omega
  obtain ⟨AB, hAB⟩ : ∃ x, allB T = x := ⟨_, rfl⟩
  rw [hAB] at HAe HNk HN0 HNe
  obtain ⟨TE, hTE⟩ : ∃ x, T.isEmpty = x := ⟨_, rfl⟩
  rw [hTE] at HAl HA0 HAe htE
  obtain ⟨e0, e1⟩ := obj2s x0
  rw [← hW1] at e0 e1
  clear hcells h hf htc x0 x1 hb1 hW1 hn hR hb htl hAB hTE
  go_enter Tryz.func9, Tryz.ntmps9
  go_wp2_with fail
  rw [HW1.out]
  refine HCl.out.mono ?_
  rintro e w2 ⟨cv, rfl, hpa, hb2⟩
  clear e0 e1
  obtain ⟨ca, cc, rfl⟩ := paAt_slice hpa
  obtain ⟨rl, hrl⟩ : ∃ x, R.length = x := ⟨_, rfl⟩
  have HRl := Lib.hid hrl
  have hrl3 : rl ≤ 300 := by rw [← hrl]; exact HCf.out.1
  rw [hrl] at hpa HSe HSl ⊢
  obtain ⟨Wc, hWc⟩ : ∃ Wc, w2.alloc (.cells #[.string ⟨dn.toArray⟩, .slice ca rl cc] 24) = Wc := ⟨_, rfl⟩
  have hbc : Below w2.heap.size w2 Wc := by rw [← hWc]; exact (Below.refl _ w2).alloc (Nat.le_refl _) _
  have yc : Wc.heap[w2.heap.size]? = some (.cells #[.string ⟨dn.toArray⟩, .slice ca rl cc] 24 (0, 0)) := by rw [← hWc]; exact heap_alloc_new w2 _
  have hzc : Wc.heap.size = w2.heap.size + 1 := by rw [← hWc]; simp
  have hs2 := hb2.size
  have hpc := paAt_below hpa hbc
  have hbwc : Below w.heap.size w Wc := (HX.out.2.1.trans (hb2.mono HX.out.2.1.size)).trans (hbc.mono (by have := HX.out.2.1.size; omega))
  have x1c := obj_below (obj_below HX.out.1 hb2 (by have := HX.out.2.2; omega)) hbc (by have := HX.out.2.2; omega)
  obtain ⟨Wo, hWo⟩ : ∃ Wo, Wc.alloc (.cells #[.string ⟨dn.toArray⟩, .slice none 0 0] 24) = Wo := ⟨_, rfl⟩
  have hbo : Below Wc.heap.size Wc Wo := by rw [← hWo]; exact (Below.refl _ Wc).alloc (Nat.le_refl _) _
  have yo : Wo.heap[Wc.heap.size]? = some (.cells #[.string ⟨dn.toArray⟩, .slice none 0 0] 24 (0, 0)) := by rw [← hWo]; exact heap_alloc_new Wc _
  have hzo : Wo.heap.size = Wc.heap.size + 1 := by rw [← hWo]; simp
  have HWc := Lib.hid hWc
  have HWo := Lib.hid hWo
  have HC := Lib.hid (And.intro yc (And.intro hzc (And.intro hpc (And.intro hbwc (And.intro x1c (And.intro hbo (And.intro yo (And.intro hzo (And.intro hrl hs2)))))))))
  obtain ⟨k0, k1⟩ := obj2s yc
  clear hpa hb2 hbc yc hzc hpc hbwc x1c hWo hbo yo hzo hrl hs2 hWc
  go_wp2
  try rw [HWc.out]
  go_loop [8, 9] (fun s v => ∃ k : Nat, k ≤ tl ∧ v = .int .i64 (k : Nat) ∧ s = .bool (TE || inL (T.take k) starL)) (fun _ v => tl - (intOf v).toNat)
  case atStart => exact ⟨0, by omega, rfl, by rw [HA0.out, htE]⟩
  case round =>
    clear htE
    obtain ⟨k, hk, rfl, rfl⟩ := hrel
    by_cases hlt : k < tl
    · have hkl : (k : Int) < (tl : Int) := by omega
      have hkm : k < T.length := by rw [HTl.out]; exact hlt
      obtain ⟨g, o, rfl, hg, e1w⟩ := HT.out k hkm
      have hAk := HAl.out k hkm
      have hbwc := HC.out.2.2.2.1
      have e1 := (hbwc.cell (p := ⟨g, o + k, none⟩) hg).trans e1w
      obtain ⟨m, hm⟩ : ∃ x, T[k] = x := ⟨_, rfl⟩
      rw [hm] at hAk e1
      obtain ⟨bb, hbb⟩ : ∃ x, (TE || inL (T.take k) starL) = x := ⟨_, rfl⟩
      rw [hbb] at hAk ⊢
      have H := Lib.hid hAk
      clear hAk hm hbb hbwc e1w
      cases bb with
      | true =>
        go_wp2
        exact ⟨⟨k + 1, by omega, by go_num, by rw [H.out]; rfl⟩, by simp [intOf]; omega⟩
      | false =>
        cases hq : (m == starL) with
        | true =>
          have hq2 : (m == [42]) = true := hq
          rw [hq] at H
          clear hq
          go_wp2
          exact ⟨⟨k + 1, by omega, by go_num, by rw [H.out]; rfl⟩, by simp [intOf]; omega⟩
        | false =>
          have hq2 : (m == [42]) = false := hq
          rw [hq] at H
          clear hq
          go_wp2
          exact ⟨⟨k + 1, by omega, by go_num, by rw [H.out]; rfl⟩, by simp [intOf]; omega⟩
    · obtain rfl : tl = k := by omega
      rw [HAe.out]
      go_wp2
      try rw [HWo.out]
      clear k0 k1
      go_loopw [11] (fun v wr => ∃ (i : Nat) (ov : Value) (Lq : List (List UInt8 × Value)), i ≤ rl ∧ v = .int .i64 (i : Nat) ∧ Below Wc.heap.size Wc wr ∧ wr.heap[Wc.heap.size]? = some (.cells #[.string ⟨dn.toArray⟩, ov] 24 (0, 0)) ∧ AtOk wr Lq (rsL (R.take i) T false) ∧ wr.ownsRow (Wc.heap.size + 1) 37 2 ov (rsL (R.take i) T false).length (atcs Lq)) (fun v _ => rl - (intOf v).toNat)
      case atStart => exact ⟨0, .slice none 0 0, [], by omega, rfl, HC.out.2.2.2.2.2.1, HC.out.2.2.2.2.2.2.1, by rw [HS0.out]; exact atOk_nil _, by rw [HS0.out]; exact World.ownsRow_nil _ _ _ _⟩
      case round =>
        clear hlt hk
        obtain ⟨i, ov, Lq, hi, rfl, hb, yo, hok, hrow⟩ := hrel
        obtain ⟨wo, rfl⟩ : ∃ x, x = wr := ⟨_, rfl⟩
        have hyc := obj_below HC.out.1 hb (by have := HC.out.2.1; omega)
        obtain ⟨k0, k1⟩ := obj2s hyc
        have hszb := hb.size
        by_cases hlt : i < rl
        · have hil : (i : Int) < (rl : Int) := by omega
          have him : i < R.length := by rw [HRl.out]; exact hlt
          have hpw := paAt_below HC.out.2.2.1 hb
          obtain ⟨Cq, Bc, hcok, hcrow⟩ := hpw
          rw [HRl.out] at hcrow
          obtain ⟨cg, cc', ec, hcB, hcl⟩ := own_block hcrow (by omega)
          injection ec with ec1 ec2 ec3
          subst ec1 ec3
          clear ec2
          have hciq : i < Cq.length := by rw [hcok.1]; exact him
          obtain ⟨r1, r2⟩ := atcs_at Cq i hciq
          have hci := hcok.2 i hciq him
          have c0 := (hcrow.cellAt (i * 2) (by omega)).trans r1
          have c1 := (hcrow.cellAt (i * 2 + 1) (by omega)).trans r2
          rw [hci.1] at c0
          obtain ⟨Bi, hown⟩ := hci.2
          have hSt := HSt.out i him
          have hSl := HSl.out i
          have hNe := HNe.out R[i]
          obtain ⟨p, hp⟩ : ∃ x, R[i] = x := ⟨_, rfl⟩
          rw [hp] at c0 hSt hNe hown
          obtain ⟨vi, hvi⟩ : ∃ x, (Cq[i]'hciq).2 = x := ⟨_, rfl⟩
          rw [hvi] at c1 hown
          obtain ⟨via, vic, rfl⟩ := ownsRow_slice hown
          obtain ⟨vil, hvil⟩ : ∃ x, p.2.length = x := ⟨_, rfl⟩
          have HVl := Lib.hid hvil
          rw [hvil] at hown c1
          obtain ⟨m, hm⟩ : ∃ x, p.1 = x := ⟨_, rfl⟩
          have HPm := Lib.hid hm
          rw [hm] at c0 hNe
          obtain ⟨L, hL⟩ : ∃ x, rsL (R.take i) T false = x := ⟨_, rfl⟩
          rw [hL] at hok hrow hSt hSl
          have hcgl : cg < Wc.heap.size := (HC.out.2.2.1.elim fun _ hq => hq.elim fun _ hq => by have h3 := hq.2; exact (h3.lt cg rfl).2)
          have H := Lib.hid (And.intro hb (And.intro yo (And.intro hok (And.intro hrow (And.intro hSt (And.intro hSl (And.intro hNe (And.intro (show ∃ B, wo.ownsRow B 9 1 (.slice via vil vic) vil (sc p.2) from ⟨Bi, hown⟩) hcgl))))))))
          clear hb yo hok hrow hSt hSl hNe hown hcok hcrow hcB hcl r1 r2 hci hp hvi hvil hm hL hyc
          go_wp2
          go_loopw [12, 13] (fun s v wr => ∃ k : Nat, k ≤ tl ∧ v = .int .i64 (k : Nat) ∧ s = .bool (AB || inL ((T.map lowL).take k) m) ∧ Below wo.heap.size wo wr) (fun _ v _ => tl - (intOf v).toNat)
          case atStart => exact ⟨0, by omega, rfl, by rw [HN0.out], Below.refl _ _⟩
          case round =>
            obtain ⟨k, hk, rfl, rfl, hbq⟩ := hrel
            have hwcq := H.out.1.trans (hbq.mono H.out.1.size)
            have hycq := obj_below HC.out.1 hwcq (by have := HC.out.2.1; omega)
            have z2 : w2.heap.size < wr.heap.size := obj_lt hycq
            have zcg : cg < wr.heap.size := Nat.lt_of_lt_of_le H.out.2.2.2.2.2.2.2.2 hwcq.size
            have hcgr : cg < wo.heap.size := Nat.lt_of_lt_of_le H.out.2.2.2.2.2.2.2.2 H.out.1.size
            clear k0 k1
            obtain ⟨k0, k1⟩ := obj2s hycq
            have n0 := (hbq.cell (p := ⟨cg, i * 2, none⟩) hcgr).trans c0
            have n1 := (hbq.cell (p := ⟨cg, i * 2 + 1, none⟩) hcgr).trans c1
            clear c0 c1
            by_cases hlt3 : k < tl
            · clear n1 k0
              have hkl : (k : Int) < (tl : Int) := by omega
              have hkm : k < T.length := by rw [HTl.out]; exact hlt3
              obtain ⟨tg, tq, rfl, htg, t0w⟩ := HT.out k hkm
              have hbwq := HC.out.2.2.2.1.trans (hwcq.mono HC.out.2.2.2.1.size)
              have t0 := (hbwq.cell (p := ⟨tg, tq + k, none⟩) htg).trans t0w
              have zt : tg < wr.heap.size := Nat.lt_of_lt_of_le htg hbwq.size
              have hNk := HNk.out m k hkm
              have hxb := HTb.out _ (List.getElem_mem hkm)
              obtain ⟨x, hx⟩ : ∃ x, T[k] = x := ⟨_, rfl⟩
              rw [hx] at t0 hNk hxb
              have HLo := Lib.hid (fun w => show Calls Tryz.prog 23 #[.string ⟨x.toArray⟩] w (StrPost (lowL x) w) from rlow5_any ⟨x.toArray⟩ (by show x.length ≤ _; omega) w)
              obtain ⟨LX, hLX⟩ : ∃ y, lowL x = y := ⟨_, rfl⟩
              rw [hLX] at HLo hNk
              obtain ⟨bb, hbb⟩ : ∃ x, (AB || inL ((T.map lowL).take k) m) = x := ⟨_, rfl⟩
              rw [hbb] at hNk ⊢
              have HK := Lib.hid (And.intro hNk hbq)
              clear hNk hbb hbq hwcq hycq hbwq hx hxb hLX t0w
              cases bb with
              | true =>
                go_wp2_with fail
                go_quiet (fail)
                go_wp2
                exact ⟨⟨k + 1, by omega, by go_num, by rw [HK.out.1]; rfl, below_dn HK.out.2 _⟩, by simp [intOf]; omega⟩
              | false =>
                have zc := z2
                have zn := zcg
                have c1 := k1
                clear k1
                go_wp2_with fail
                go_region_held3 (fun w' => w'.cell? ⟨tg, tq + k, none⟩ = some (.string ⟨x.toArray⟩) ∧ w'.cell? ⟨w2.heap.size, 1, none⟩ = some (.slice (some ⟨cg, 0, none⟩) rl cc) ∧ w'.cell? ⟨cg, i * 2, none⟩ = some (.string ⟨m.toArray⟩)) (first | exact ⟨ht0, hc1, hn0⟩ | exact ⟨t0, c1, n0⟩ | go_keep)
                  (first | (go_at_call 23; (with_reducible refine (HLo.out _).mono ?_); rintro en wz ⟨rfl, hb5⟩; have hbW : Below wr.heap.size wr wz := (by first | exact hbW.trans (hb5.mono hbW.size) | exact (Below.refl _ wr).drew.trans hb5); have ht0 := (hbW.cell (p := ⟨tg, tq + k, none⟩) zt).trans t0; have hc1 := (hbW.cell (p := ⟨w2.heap.size, 1, none⟩) zc).trans c1; have hn0 := (hbW.cell (p := ⟨cg, i * 2, none⟩) zn).trans n0; have HWQ := Lib.hid hbW; clear hb5))
                all_goals
                  cases hq : (LX == m) with
                  | true =>
                    rw [hq] at HK
                    go_wp2
                    exact ⟨⟨k + 1, by omega, by go_num, by rw [HK.out.1]; rfl, HK.out.2.trans (HWQ.out.mono HK.out.2.size)⟩, by simp [intOf]; omega⟩
                  | false =>
                    rw [hq] at HK
                    go_wp2
                    exact ⟨⟨k + 1, by omega, by go_num, by rw [HK.out.1]; rfl, HK.out.2.trans (HWQ.out.mono HK.out.2.size)⟩, by simp [intOf]; omega⟩
            · obtain rfl : tl = k := by omega
              rw [H.out.2.2.2.2.2.2.1]
              cases hP : rsP T p with
              | false =>
                have hn := H.out.2.2.2.2.1
                rw [hP, if_neg (by simp)] at hn
                have HF := Lib.hid (And.intro hn (And.intro hwcq (And.intro (obj_below H.out.2.1 hbq (by have := H.out.1.size; have := HC.out.2.2.2.2.2.2.2.1; exact obj_lt H.out.2.1)) (And.intro (atOk_below H.out.2.2.1 hbq) (ownsRow_below H.out.2.2.2.1 hbq)))))
                clear hn hwcq hycq hbq n0 n1 k0 k1
                go_wp2
                exact ⟨⟨i + 1, ov, Lq, by omega, by go_num, HF.out.2.1, HF.out.2.2.1, by rw [HF.out.1]; exact HF.out.2.2.2.1, by rw [HF.out.1]; exact HF.out.2.2.2.2⟩, by simp [intOf]; omega⟩
              | true =>
                have hn := H.out.2.2.2.2.1
                rw [hP, if_pos rfl] at hn
                have yq := obj_below H.out.2.1 hbq (obj_lt H.out.2.1)
                have okq := atOk_below H.out.2.2.1 hbq
                have rowq := ownsRow_below H.out.2.2.2.1 hbq
                obtain ⟨Bi, hown⟩ := H.out.2.2.2.2.2.2.2.1
                have ownq := ownsRow_below hown hbq
                obtain ⟨oa, oc, rfl⟩ := ownsRow_slice rowq
                have hLl := H.out.2.2.2.2.2.1
                obtain ⟨ll, hll⟩ : ∃ x, L.length = x := ⟨_, rfl⟩
                rw [hll] at rowq hLl yq
                obtain ⟨W4, hW4⟩ : ∃ W4, wr.alloc (.cells #[.string ⟨m.toArray⟩, .slice via vil vic] 37) = W4 := ⟨_, rfl⟩
                have hb4 : Below wr.heap.size wr W4 := by rw [← hW4]; exact (Below.refl _ wr).alloc (Nat.le_refl _) _
                have y4 : W4.heap[wr.heap.size]? = some (.cells #[.string ⟨m.toArray⟩, .slice via vil vic] 37 (0, 0)) := by rw [← hW4]; exact heap_alloc_new wr _
                obtain ⟨W5, hW5⟩ : ∃ W5, W4 = W5 := ⟨_, rfl⟩
                have hb5 : Below wr.heap.size wr W5 := by rw [← hW5]; exact hb4
                have HW4 := Lib.hid (hW4.trans hW5)
                obtain ⟨i0, i1⟩ := obj2s y4
                rw [← hW4] at i0 i1
                have yo5 := obj_below yq hb5 (obj_lt yq)
                have ok5 := atOk_below okq hb5
                have row5 := ownsRow_below rowq hb5
                have own5 := ownsRow_below ownq hb5
                have hbc5 := hwcq.trans (hb5.mono hwcq.size)
                have hob5 : Wc.heap.size + 1 ≤ W5.heap.size := obj_lt yo5
                obtain ⟨o0, o1⟩ := obj2s yo5
                have hx0 : ∀ ob, (W5.alloc ob).cell? ⟨Wc.heap.size, 1, none⟩ = some (.slice oa ll oc) := fun ob => (((Below.refl W5.heap.size W5).alloc (Nat.le_refl _) ob).cell (p := ⟨Wc.heap.size, _, none⟩) (obj_lt yo5)).trans o1
                have H6 := Lib.hid (And.intro yo5 (And.intro ok5 (And.intro row5 (And.intro own5 (And.intro hbc5 (And.intro hn hll))))))
                clear hn hwcq hycq hbq yq okq rowq hown ownq hll yo5 ok5 row5 own5 hbc5 hb5 hb4 y4 hW4 hW5
                have hW5s : W5.heap.size = wr.heap.size + 1 := by rw [← HW4.out]; simp
                rw [← HW4.out] at o0 o1 hx0
                go_wp2_with (first
                  | (at_builtin; (try rw [HW4.out]); refine wpList_pushc rfl (.tmp 76) (.tmp 78) 22 37 rfl (Wc.heap.size + 1) 2 40 (.agg #[.string ByteArray.empty, .slice none 0 0]) Tryz.sninfo37 Tryz.underlying22 rfl (by decide) [.string ⟨m.toArray⟩, .slice via vil vic] rfl ?d0 (.slice oa ll oc) ll (atcs Lq) rfl _ rfl ?d5 H6.out.2.2.1 ?d1 ?d2 hob5 ?_)
                  | go_in)
                case d0 => intro u hu; simp at hu; rcases hu with rfl | rfl <;> rfl
                case d5 => exact hW5s.symm
                case d1 => unfold maxLen; omega
                case d2 => omega
                intro v' w' g1 g2 g3
                obtain ⟨na, nc, rfl⟩ := ownsRow_slice g1
                have hne9 : some Wc.heap.size ≠ (Value.slice oa ll oc).ownBlock := fun e => by have := (H6.out.2.2.1.lt _ e.symm).1; omega
                have y9 := obj_chg H6.out.1 g2 hne9
                have ok9 := atOk_chg H6.out.2.1 H6.out.2.2.1 g2
                have own9 := ownsRow_chg H6.out.2.2.2.1 g2 (fun k hk e => row_apart H6.out.2.2.1 H6.out.2.2.2.1 (by decide) k e.symm hk)
                have hb9 := H6.out.2.2.2.2.1.trans (g2.toBelow (by omega) (fun k hk e => by have := (H6.out.2.2.1.lt k e.symm).1; omega))
                obtain ⟨s0, s1⟩ := obj2s y9
                have f1 := obj_free y9 1
                have HR9 := Lib.hid (show AtOk (w'.setCell ⟨Wc.heap.size, 1, none⟩ (.slice na (ll + 1) nc)) (Lq ++ [(m, .slice via vil vic)]) (L ++ [rsM false p]) from (by rw [show rsM false p = (m, p.2) by rw [← HPm.out]; rfl]; exact atOk_app (atOk_set1 ok9 y9 (by decide) _) (atOk_one (B := Bi) (by rw [HVl.out]; exact own_set1 own9 y9 (by decide) _))))
                have H9 := Lib.hid (And.intro (set1_e y9 (.slice na (ll + 1) nc)) (And.intro (own_set1 (i := 1) g1 y9 (by decide) (.slice na (ll + 1) nc)) (hb9.setCell (p := ⟨Wc.heap.size, 1, none⟩) (Nat.le_refl _) (.slice na (ll + 1) nc))))
                clear g1 g2 g3 hne9 y9 ok9 own9 hb9 o0 o1 hx0
                go_wp2
                refine ⟨⟨i + 1, .slice na (ll + 1) nc, Lq ++ [(m, .slice via vil vic)], by omega, by go_num, H9.out.2.2, H9.out.1, ?_, ?_⟩, by simp [intOf]; omega⟩
                · rw [H6.out.2.2.2.2.2.1]; exact HR9.out
                · rw [H6.out.2.2.2.2.2.1, List.length_append, H6.out.2.2.2.2.2.2, atcs_app]; exact H9.out.2.1
        · obtain rfl : rl = i := by omega
          rw [HSe.out] at hok hrow
          obtain ⟨oa, oc, rfl⟩ := ownsRow_slice hrow
          obtain ⟨ll, hll⟩ : ∃ x, (rsL R T false).length = x := ⟨_, rfl⟩
          rw [hll] at hrow yo
          have x1 := obj_below HC.out.2.2.2.2.1 hb (by have := HC.out.2.1; have := HX.out.2.2; have := HC.out.2.2.2.2.2.2.2.2.2; omega)
          obtain ⟨o0, o1⟩ := obj2s yo
          obtain ⟨l0, l1⟩ := obj2s x1
          have m0 := obj_free x1 0
          have m1 := obj_free x1 1
          have hbw := HC.out.2.2.2.1.trans (hb.mono HC.out.2.2.2.1.size)
          have HZ := Lib.hid (And.intro x1 (And.intro hok (And.intro hrow (And.intro hbw hll))))
          clear hb hok hrow hll x1 hbw hyc yo
          go_wp2
          obtain ⟨j0, j1⟩ := obj2s (set2_e HZ.out.1 (.string ⟨dn.toArray⟩) (.slice oa ll oc))
          refine bodyPost_ret (v := .agg #[.string ⟨dn.toArray⟩, .slice oa ll oc]) (by simp [results, Tryz.results9, go_sem, *]) rfl ?_
          exact ⟨_, rfl, ⟨Lq, _, atOk_set2 HZ.out.2.1 HZ.out.1 (by decide) _ _, by rw [HZ.out.2.2.2.2]; exact own_set2 HZ.out.2.2.1 HZ.out.1 (by decide) _ _⟩, below_e2 HZ.out.2.2.2.1 (by omega) _ _⟩
end Go.Proofs.YtjbdldbjefmnjaaGreatDoor
namespace Go.Proofs.YtjbdldbjefmnjaaGreatDoor
set_option linter.unusedSimpArgs false
set_option linter.unusedVariables false
open Go Go.RowKit Go.Proofs.BerK Go.Proofs.MemK Go.Proofs.UtfK
set_option maxHeartbeats 6400000 in
set_option maxRecDepth 100000 in
theorem rsel_true (A : List Atr) (T : List (List UInt8)) (dn : List UInt8) (av tv : Value) (w : World) (h : AtAt w av A) (ht : TxR w tv T) (hf : FewG 300 300 A) (hl : T.length ≤ 1000000) (hb : ∀ s ∈ T, s.length ≤ 100000) :
    Calls Tryz.prog 9 #[.agg #[.string ⟨dn.toArray⟩, av], tv, .bool true] w (EnPost10 dn (rsL (clA A) T true) w) := by
  obtain ⟨a, c, rfl, hcells⟩ := h
  have h : AtAt w (.slice a A.length c) A := ⟨a, c, rfl, hcells⟩
  obtain ⟨ta, tc, rfl, htc⟩ := ht
  have HT := Lib.hid htc
  have HTb := Lib.hid hb
  obtain ⟨W1, hW1⟩ : ∃ W1, (w.alloc (.cells #[.string ⟨dn.toArray⟩, .slice a A.length c] 24)).alloc (.cells #[.string ⟨#[]⟩, .slice none 0 0] 24) = W1 := ⟨_, rfl⟩
  obtain ⟨x0, x1, hb1, hz1⟩ := boxes10 hW1
  have HCl := Lib.hid (rclean10_any dn A _ W1 (atAt_below h hb1) hf)
  have HCf := Lib.hid (fewG_cl hf)
  have HW1 := Lib.hid hW1
  obtain ⟨n, hn⟩ : ∃ n, A.length = n := ⟨_, rfl⟩
  rw [hn] at HCl HW1 x0 ⊢
  obtain ⟨R, hR⟩ : ∃ R, clA A = R := ⟨_, rfl⟩
  rw [hR] at HCl HCf ⊢
  have HX := Lib.hid (And.intro x1 (And.intro hb1 hz1))
  have HSt := Lib.hid (fun i (hi : i < R.length) => rs_step R T true i hi)
  have HSl := Lib.hid (rs_len R T true)
  have HS0 := Lib.hid (show rsL (R.take 0) T true = [] by simp [rsL])
  have HSe := Lib.hid (show rsL (R.take R.length) T true = rsL R T true by rw [List.take_length])
  have HAl := Lib.hid (fun i (hi : i < T.length) => show (T.isEmpty || inL (T.take (i + 1)) starL) = ((T.isEmpty || inL (T.take i) starL) || T[i] == starL) by rw [inL_step i hi, Bool.or_assoc])
  have HA0 := Lib.hid (show (T.isEmpty || inL (T.take 0) starL) = T.isEmpty by simp [inL])
  have HAe := Lib.hid (show (T.isEmpty || inL (T.take T.length) starL) = allB T by rw [List.take_length]; rfl)
  have HNk := Lib.hid (fun (m : List UInt8) k (hk : k < T.length) => show (allB T || inL ((T.map lowL).take (k + 1)) m) = ((allB T || inL ((T.map lowL).take k) m) || lowL T[k] == m) by rw [inL_step k (by simpa using hk), Bool.or_assoc, List.getElem_map])
  have HN0 := Lib.hid (fun m => show (allB T || inL ((T.map lowL).take 0) m) = allB T by simp [inL])
  have HNe := Lib.hid (fun (p : Atr) => show (allB T || inL ((T.map lowL).take T.length) p.1) = rsP T p by unfold rsP; rw [List.take_of_length_le (by simp)])
  obtain ⟨tl, htl⟩ : ∃ x, T.length = x := ⟨_, rfl⟩
  have HTl := Lib.hid htl
  rw [htl] at HAe HNe hl ⊢
  have htE : T.isEmpty = ((tl : Int) == 0) := by
    rw [← htl]
    cases T with
    | nil => rfl
    | cons x T => symm; show decide _ = false; simp; omega
  obtain ⟨AB, hAB⟩ : ∃ x, allB T = x := ⟨_, rfl⟩
  rw [hAB] at HAe HNk HN0 HNe
  obtain ⟨TE, hTE⟩ : ∃ x, T.isEmpty = x := ⟨_, rfl⟩
  rw [hTE] at HAl HA0 HAe htE
  obtain ⟨e0, e1⟩ := obj2s x0
  rw [← hW1] at e0 e1
  clear hcells h hf htc x0 x1 hb1 hW1 hn hR hb htl hAB hTE
  go_enter Tryz.func9, Tryz.ntmps9
  go_wp2_with fail
  rw [HW1.out]
  refine HCl.out.mono ?_
  rintro e w2 ⟨cv, rfl, hpa, hb2⟩
  clear e0 e1
  obtain ⟨ca, cc, rfl⟩ := paAt_slice hpa
  obtain ⟨rl, hrl⟩ : ∃ x, R.length = x := ⟨_, rfl⟩
  have HRl := Lib.hid hrl
  have hrl3 : rl ≤ 300 := by rw [← hrl]; exact HCf.out.1
  rw [hrl] at hpa HSe HSl ⊢
  obtain ⟨Wc, hWc⟩ : ∃ Wc, w2.alloc (.cells #[.string ⟨dn.toArray⟩, .slice ca rl cc] 24) = Wc := ⟨_, rfl⟩
  have hbc : Below w2.heap.size w2 Wc := by rw [← hWc]; exact (Below.refl _ w2).alloc (Nat.le_refl _) _
  have yc : Wc.heap[w2.heap.size]? = some (.cells #[.string ⟨dn.toArray⟩, .slice ca rl cc] 24 (0, 0)) := by rw [← hWc]; exact heap_alloc_new w2 _
  have hzc : Wc.heap.size = w2.heap.size + 1 := by rw [← hWc]; simp
  have hs2 := hb2.size
  have hpc := paAt_below hpa hbc
  have hbwc : Below w.heap.size w Wc := (HX.out.2.1.trans (hb2.mono HX.out.2.1.size)).trans (hbc.mono (by have := HX.out.2.1.size; omega))
  have x1c := obj_below (obj_below HX.out.1 hb2 (by have := HX.out.2.2; omega)) hbc (by have := HX.out.2.2; omega)
  obtain ⟨Wo, hWo⟩ : ∃ Wo, Wc.alloc (.cells #[.string ⟨dn.toArray⟩, .slice none 0 0] 24) = Wo := ⟨_, rfl⟩
  have hbo : Below Wc.heap.size Wc Wo := by rw [← hWo]; exact (Below.refl _ Wc).alloc (Nat.le_refl _) _
  have yo : Wo.heap[Wc.heap.size]? = some (.cells #[.string ⟨dn.toArray⟩, .slice none 0 0] 24 (0, 0)) := by rw [← hWo]; exact heap_alloc_new Wc _
  have hzo : Wo.heap.size = Wc.heap.size + 1 := by rw [← hWo]; simp
  have HWc := Lib.hid hWc
  have HWo := Lib.hid hWo
  have HC := Lib.hid (And.intro yc (And.intro hzc (And.intro hpc (And.intro hbwc (And.intro x1c (And.intro hbo (And.intro yo (And.intro hzo (And.intro hrl hs2)))))))))
  obtain ⟨k0, k1⟩ := obj2s yc
  clear hpa hb2 hbc yc hzc hpc hbwc x1c hWo hbo yo hzo hrl hs2 hWc
  go_wp2
  try rw [HWc.out]
  go_loop [8, 9] (fun s v => ∃ k : Nat, k ≤ tl ∧ v = .int .i64 (k : Nat) ∧ s = .bool (TE || inL (T.take k) starL)) (fun _ v => tl - (intOf v).toNat)
  case atStart => exact ⟨0, by omega, rfl, by rw [HA0.out, htE]⟩
  case round =>
    clear htE
    obtain ⟨k, hk, rfl, rfl⟩ := hrel
    by_cases hlt : k < tl
    · have hkl : (k : Int) < (tl : Int) := by omega
      have hkm : k < T.length := by rw [HTl.out]; exact hlt
      obtain ⟨g, o, rfl, hg, e1w⟩ := HT.out k hkm
      have hAk := HAl.out k hkm
      have hbwc := HC.out.2.2.2.1
      have e1 := (hbwc.cell (p := ⟨g, o + k, none⟩) hg).trans e1w
      obtain ⟨m, hm⟩ : ∃ x, T[k] = x := ⟨_, rfl⟩
      rw [hm] at hAk e1
      obtain ⟨bb, hbb⟩ : ∃ x, (TE || inL (T.take k) starL) = x := ⟨_, rfl⟩
      rw [hbb] at hAk ⊢
      have H := Lib.hid hAk
      clear hAk hm hbb hbwc e1w
      cases bb with
      | true =>
        go_wp2
        exact ⟨⟨k + 1, by omega, by go_num, by rw [H.out]; rfl⟩, by simp [intOf]; omega⟩
      | false =>
        cases hq : (m == starL) with
        | true =>
          have hq2 : (m == [42]) = true := hq
          rw [hq] at H
          clear hq
          go_wp2
          exact ⟨⟨k + 1, by omega, by go_num, by rw [H.out]; rfl⟩, by simp [intOf]; omega⟩
        | false =>
          have hq2 : (m == [42]) = false := hq
          rw [hq] at H
          clear hq
          go_wp2
          exact ⟨⟨k + 1, by omega, by go_num, by rw [H.out]; rfl⟩, by simp [intOf]; omega⟩
    · obtain rfl : tl = k := by omega
      rw [HAe.out]
      go_wp2
      try rw [HWo.out]
      clear k0 k1
      go_loopw [11] (fun v wr => ∃ (i : Nat) (ov : Value) (Lq : List (List UInt8 × Value)), i ≤ rl ∧ v = .int .i64 (i : Nat) ∧ Below Wc.heap.size Wc wr ∧ wr.heap[Wc.heap.size]? = some (.cells #[.string ⟨dn.toArray⟩, ov] 24 (0, 0)) ∧ AtOk wr Lq (rsL (R.take i) T true) ∧ wr.ownsRow (Wc.heap.size + 1) 37 2 ov (rsL (R.take i) T true).length (atcs Lq)) (fun v _ => rl - (intOf v).toNat)
      case atStart => exact ⟨0, .slice none 0 0, [], by omega, rfl, HC.out.2.2.2.2.2.1, HC.out.2.2.2.2.2.2.1, by rw [HS0.out]; exact atOk_nil _, by rw [HS0.out]; exact World.ownsRow_nil _ _ _ _⟩
      case round =>
        clear hlt hk
        obtain ⟨i, ov, Lq, hi, rfl, hb, yo, hok, hrow⟩ := hrel
        obtain ⟨wo, rfl⟩ : ∃ x, x = wr := ⟨_, rfl⟩
        have hyc := obj_below HC.out.1 hb (by have := HC.out.2.1; omega)
        obtain ⟨k0, k1⟩ := obj2s hyc
        have hszb := hb.size
        by_cases hlt : i < rl
        · have hil : (i : Int) < (rl : Int) := by omega
          have him : i < R.length := by rw [HRl.out]; exact hlt
          have hpw := paAt_below HC.out.2.2.1 hb
          obtain ⟨Cq, Bc, hcok, hcrow⟩ := hpw
          rw [HRl.out] at hcrow
          obtain ⟨cg, cc', ec, hcB, hcl⟩ := own_block hcrow (by omega)
          injection ec with ec1 ec2 ec3
          subst ec1 ec3
          clear ec2
          have hciq : i < Cq.length := by rw [hcok.1]; exact him
          obtain ⟨r1, r2⟩ := atcs_at Cq i hciq
          have hci := hcok.2 i hciq him
          have c0 := (hcrow.cellAt (i * 2) (by omega)).trans r1
          have c1 := (hcrow.cellAt (i * 2 + 1) (by omega)).trans r2
          rw [hci.1] at c0
          obtain ⟨Bi, hown⟩ := hci.2
          have hSt := HSt.out i him
          have hSl := HSl.out i
          have hNe := HNe.out R[i]
          obtain ⟨p, hp⟩ : ∃ x, R[i] = x := ⟨_, rfl⟩
          rw [hp] at c0 hSt hNe hown
          obtain ⟨vi, hvi⟩ : ∃ x, (Cq[i]'hciq).2 = x := ⟨_, rfl⟩
          rw [hvi] at c1 hown
          obtain ⟨via, vic, rfl⟩ := ownsRow_slice hown
          obtain ⟨vil, hvil⟩ : ∃ x, p.2.length = x := ⟨_, rfl⟩
          have HVl := Lib.hid hvil
          rw [hvil] at hown c1
          obtain ⟨m, hm⟩ : ∃ x, p.1 = x := ⟨_, rfl⟩
          have HPm := Lib.hid hm
          rw [hm] at c0 hNe
          obtain ⟨L, hL⟩ : ∃ x, rsL (R.take i) T true = x := ⟨_, rfl⟩
          rw [hL] at hok hrow hSt hSl
          have hcgl : cg < Wc.heap.size := (HC.out.2.2.1.elim fun _ hq => hq.elim fun _ hq => by have h3 := hq.2; exact (h3.lt cg rfl).2)
          have H := Lib.hid (And.intro hb (And.intro yo (And.intro hok (And.intro hrow (And.intro hSt (And.intro hSl (And.intro hNe (And.intro (show ∃ B, wo.ownsRow B 9 1 (.slice via vil vic) vil (sc p.2) from ⟨Bi, hown⟩) hcgl))))))))
          clear hb yo hok hrow hSt hSl hNe hown hcok hcrow hcB hcl r1 r2 hci hp hvi hvil hm hL hyc
          go_wp2
          go_loopw [12, 13] (fun s v wr => ∃ k : Nat, k ≤ tl ∧ v = .int .i64 (k : Nat) ∧ s = .bool (AB || inL ((T.map lowL).take k) m) ∧ Below wo.heap.size wo wr) (fun _ v _ => tl - (intOf v).toNat)
          case atStart => exact ⟨0, by omega, rfl, by rw [HN0.out], Below.refl _ _⟩
          case round =>
            obtain ⟨k, hk, rfl, rfl, hbq⟩ := hrel
            have hwcq := H.out.1.trans (hbq.mono H.out.1.size)
            have hycq := obj_below HC.out.1 hwcq (by have := HC.out.2.1; omega)
            have z2 : w2.heap.size < wr.heap.size := obj_lt hycq
            have zcg : cg < wr.heap.size := Nat.lt_of_lt_of_le H.out.2.2.2.2.2.2.2.2 hwcq.size
            have hcgr : cg < wo.heap.size := Nat.lt_of_lt_of_le H.out.2.2.2.2.2.2.2.2 H.out.1.size
            clear k0 k1
            obtain ⟨k0, k1⟩ := obj2s hycq
            have n0 := (hbq.cell (p := ⟨cg, i * 2, none⟩) hcgr).trans c0
            have n1 := (hbq.cell (p := ⟨cg, i * 2 + 1, none⟩) hcgr).trans c1
            clear c0 c1
            by_cases hlt3 : k < tl
            · clear n1 k0
              have hkl : (k : Int) < (tl : Int) := by omega
              have hkm : k < T.length := by rw [HTl.out]; exact hlt3
              obtain ⟨tg, tq, rfl, htg, t0w⟩ := HT.out k hkm
              have hbwq := HC.out.2.2.2.1.trans (hwcq.mono HC.out.2.2.2.1.size)
              have t0 := (hbwq.cell (p := ⟨tg, tq + k, none⟩) htg).trans t0w
              have zt : tg < wr.heap.size := Nat.lt_of_lt_of_le htg hbwq.size
              have hNk := HNk.out m k hkm
              have hxb := HTb.out _ (List.getElem_mem hkm)
              obtain ⟨x, hx⟩ : ∃ x, T[k] = x := ⟨_, rfl⟩
              rw [hx] at t0 hNk hxb
              have HLo := Lib.hid (fun w => show Calls Tryz.prog 23 #[.string ⟨x.toArray⟩] w (StrPost (lowL x) w) from rlow5_any ⟨x.toArray⟩ (by show x.length ≤ _; omega) w)
              obtain ⟨LX, hLX⟩ : ∃ y, lowL x = y := ⟨_, rfl⟩
              rw [hLX] at HLo hNk
              obtain ⟨bb, hbb⟩ : ∃ x, (AB || inL ((T.map lowL).take k) m) = x := ⟨_, rfl⟩
              rw [hbb] at hNk ⊢
              have HK := Lib.hid (And.intro hNk hbq)
              clear hNk hbb hbq hwcq hycq hbwq hx hxb hLX t0w
              cases bb with
              | true =>
                go_wp2_with fail
                go_quiet (fail)
                go_wp2
                exact ⟨⟨k + 1, by omega, by go_num, by rw [HK.out.1]; rfl, below_dn HK.out.2 _⟩, by simp [intOf]; omega⟩
              | false =>
                have zc := z2
                have zn := zcg
                have c1 := k1
                clear k1
                go_wp2_with fail
                go_region_held3 (fun w' => w'.cell? ⟨tg, tq + k, none⟩ = some (.string ⟨x.toArray⟩) ∧ w'.cell? ⟨w2.heap.size, 1, none⟩ = some (.slice (some ⟨cg, 0, none⟩) rl cc) ∧ w'.cell? ⟨cg, i * 2, none⟩ = some (.string ⟨m.toArray⟩)) (first | exact ⟨ht0, hc1, hn0⟩ | exact ⟨t0, c1, n0⟩ | go_keep)
                  (first | (go_at_call 23; (with_reducible refine (HLo.out _).mono ?_); rintro en wz ⟨rfl, hb5⟩; have hbW : Below wr.heap.size wr wz := (by first | exact hbW.trans (hb5.mono hbW.size) | exact (Below.refl _ wr).drew.trans hb5); have ht0 := (hbW.cell (p := ⟨tg, tq + k, none⟩) zt).trans t0; have hc1 := (hbW.cell (p := ⟨w2.heap.size, 1, none⟩) zc).trans c1; have hn0 := (hbW.cell (p := ⟨cg, i * 2, none⟩) zn).trans n0; have HWQ := Lib.hid hbW; clear hb5))
                all_goals
                  cases hq : (LX == m) with
                  | true =>
                    rw [hq] at HK
                    go_wp2
                    exact ⟨⟨k + 1, by omega, by go_num, by rw [HK.out.1]; rfl, HK.out.2.trans (HWQ.out.mono HK.out.2.size)⟩, by simp [intOf]; omega⟩
                  | false =>
                    rw [hq] at HK
                    go_wp2
                    exact ⟨⟨k + 1, by omega, by go_num, by rw [HK.out.1]; rfl, HK.out.2.trans (HWQ.out.mono HK.out.2.size)⟩, by simp [intOf]; omega⟩
            · obtain rfl : tl = k := by omega
              rw [H.out.2.2.2.2.2.2.1]
              cases hP : rsP T p with
              | false =>
                have hn := H.out.2.2.2.2.1
                rw [hP, if_neg (by simp)] at hn
                have HF := Lib.hid (And.intro hn (And.intro hwcq (And.intro (obj_below H.out.2.1 hbq (by have := H.out.1.size; have := HC.out.2.2.2.2.2.2.2.1; exact obj_lt H.out.2.1)) (And.intro (atOk_below H.out.2.2.1 hbq) (ownsRow_below H.out.2.2.2.1 hbq)))))
                clear hn hwcq hycq hbq n0 n1 k0 k1
                go_wp2
                exact ⟨⟨i + 1, ov, Lq, by omega, by go_num, HF.out.2.1, HF.out.2.2.1, by rw [HF.out.1]; exact HF.out.2.2.2.1, by rw [HF.out.1]; exact HF.out.2.2.2.2⟩, by simp [intOf]; omega⟩
              | true =>
                have hn := H.out.2.2.2.2.1
                rw [hP, if_pos rfl] at hn
                have yq := obj_below H.out.2.1 hbq (obj_lt H.out.2.1)
                have okq := atOk_below H.out.2.2.1 hbq
                have rowq := ownsRow_below H.out.2.2.2.1 hbq
                obtain ⟨Bi, hown⟩ := H.out.2.2.2.2.2.2.2.1
                have ownq := ownsRow_below hown hbq
                obtain ⟨oa, oc, rfl⟩ := ownsRow_slice rowq
                have hLl := H.out.2.2.2.2.2.1
                obtain ⟨ll, hll⟩ : ∃ x, L.length = x := ⟨_, rfl⟩
                rw [hll] at rowq hLl yq
                obtain ⟨W4, hW4⟩ : ∃ W4, wr.alloc (.cells #[.string ⟨m.toArray⟩, .slice none 0 0] 37) = W4 := ⟨_, rfl⟩
                have hb4 : Below wr.heap.size wr W4 := by rw [← hW4]; exact (Below.refl _ wr).alloc (Nat.le_refl _) _
                have y4 : W4.heap[wr.heap.size]? = some (.cells #[.string ⟨m.toArray⟩, .slice none 0 0] 37 (0, 0)) := by rw [← hW4]; exact heap_alloc_new wr _
                obtain ⟨W5, hW5⟩ : ∃ W5, W4 = W5 := ⟨_, rfl⟩
                have hb5 : Below wr.heap.size wr W5 := by rw [← hW5]; exact hb4
                have HW4 := Lib.hid (hW4.trans hW5)
                obtain ⟨i0, i1⟩ := obj2s y4
                rw [← hW4] at i0 i1
                have yo5 := obj_below yq hb5 (obj_lt yq)
                have ok5 := atOk_below okq hb5
                have row5 := ownsRow_below rowq hb5
                have own5 := ownsRow_below ownq hb5
                have hbc5 := hwcq.trans (hb5.mono hwcq.size)
                have hob5 : Wc.heap.size + 1 ≤ W5.heap.size := obj_lt yo5
                obtain ⟨o0, o1⟩ := obj2s yo5
                have hx0 : ∀ ob, (W5.alloc ob).cell? ⟨Wc.heap.size, 1, none⟩ = some (.slice oa ll oc) := fun ob => (((Below.refl W5.heap.size W5).alloc (Nat.le_refl _) ob).cell (p := ⟨Wc.heap.size, _, none⟩) (obj_lt yo5)).trans o1
                have H6 := Lib.hid (And.intro yo5 (And.intro ok5 (And.intro row5 (And.intro own5 (And.intro hbc5 (And.intro hn hll))))))
                clear hn hwcq hycq hbq yq okq rowq hown ownq hll yo5 ok5 row5 own5 hbc5 hb5 hb4 y4 hW4 hW5
                have hW5s : W5.heap.size = wr.heap.size + 1 := by rw [← HW4.out]; simp
                rw [← HW4.out] at o0 o1 hx0
                go_wp2_with (first
                  | (at_builtin; (try rw [HW4.out]); refine wpList_pushc rfl (.tmp 76) (.tmp 78) 22 37 rfl (Wc.heap.size + 1) 2 40 (.agg #[.string ByteArray.empty, .slice none 0 0]) Tryz.sninfo37 Tryz.underlying22 rfl (by decide) [.string ⟨m.toArray⟩, .slice none 0 0] rfl ?d0 (.slice oa ll oc) ll (atcs Lq) rfl _ rfl ?d5 H6.out.2.2.1 ?d1 ?d2 hob5 ?_)
                  | go_in)
                case d0 => intro u hu; simp at hu; rcases hu with rfl | rfl <;> rfl
                case d5 => exact hW5s.symm
                case d1 => unfold maxLen; omega
                case d2 => omega
                intro v' w' g1 g2 g3
                obtain ⟨na, nc, rfl⟩ := ownsRow_slice g1
                have hne9 : some Wc.heap.size ≠ (Value.slice oa ll oc).ownBlock := fun e => by have := (H6.out.2.2.1.lt _ e.symm).1; omega
                have y9 := obj_chg H6.out.1 g2 hne9
                have ok9 := atOk_chg H6.out.2.1 H6.out.2.2.1 g2
                have own9 := ownsRow_chg H6.out.2.2.2.1 g2 (fun k hk e => row_apart H6.out.2.2.1 H6.out.2.2.2.1 (by decide) k e.symm hk)
                have hb9 := H6.out.2.2.2.2.1.trans (g2.toBelow (by omega) (fun k hk e => by have := (H6.out.2.2.1.lt k e.symm).1; omega))
                obtain ⟨s0, s1⟩ := obj2s y9
                have f1 := obj_free y9 1
                have HR9 := Lib.hid (show AtOk (w'.setCell ⟨Wc.heap.size, 1, none⟩ (.slice na (ll + 1) nc)) (Lq ++ [(m, .slice none 0 0)]) (L ++ [rsM true p]) from (by rw [show rsM true p = (m, []) by rw [← HPm.out]; rfl]; exact atOk_app (atOk_set1 ok9 y9 (by decide) _) (atOk_one (B := 0) (World.ownsRow_nil _ _ _ _))))
                have H9 := Lib.hid (And.intro (set1_e y9 (.slice na (ll + 1) nc)) (And.intro (own_set1 (i := 1) g1 y9 (by decide) (.slice na (ll + 1) nc)) (hb9.setCell (p := ⟨Wc.heap.size, 1, none⟩) (Nat.le_refl _) (.slice na (ll + 1) nc))))
                clear g1 g2 g3 hne9 y9 ok9 own9 hb9 o0 o1 hx0
                go_wp2
                refine ⟨⟨i + 1, .slice na (ll + 1) nc, Lq ++ [(m, .slice none 0 0)], by omega, by go_num, H9.out.2.2, H9.out.1, ?_, ?_⟩, by simp [intOf]; omega⟩
                · rw [H6.out.2.2.2.2.2.1]; exact HR9.out
                · rw [H6.out.2.2.2.2.2.1, List.length_append, H6.out.2.2.2.2.2.2, atcs_app]; exact H9.out.2.1
        · obtain rfl : rl = i := by omega
          rw [HSe.out] at hok hrow
          obtain ⟨oa, oc, rfl⟩ := ownsRow_slice hrow
          obtain ⟨ll, hll⟩ : ∃ x, (rsL R T true).length = x := ⟨_, rfl⟩
          rw [hll] at hrow yo
          have x1 := obj_below HC.out.2.2.2.2.1 hb (by have := HC.out.2.1; have := HX.out.2.2; have := HC.out.2.2.2.2.2.2.2.2.2; omega)
          obtain ⟨o0, o1⟩ := obj2s yo
          obtain ⟨l0, l1⟩ := obj2s x1
          have m0 := obj_free x1 0
          have m1 := obj_free x1 1
          have hbw := HC.out.2.2.2.1.trans (hb.mono HC.out.2.2.2.1.size)
          have HZ := Lib.hid (And.intro x1 (And.intro hok (And.intro hrow (And.intro hbw hll))))
          clear hb hok hrow hll x1 hbw hyc yo
          go_wp2
          obtain ⟨j0, j1⟩ := obj2s (set2_e HZ.out.1 (.string ⟨dn.toArray⟩) (.slice oa ll oc))
          refine bodyPost_ret (v := .agg #[.string ⟨dn.toArray⟩, .slice oa ll oc]) (by simp [results, Tryz.results9, go_sem, *]) rfl ?_
          exact ⟨_, rfl, ⟨Lq, _, atOk_set2 HZ.out.2.1 HZ.out.1 (by decide) _ _, by rw [HZ.out.2.2.2.2]; exact own_set2 HZ.out.2.2.1 HZ.out.1 (by decide) _ _⟩, below_e2 HZ.out.2.2.2.1 (by omega) _ _⟩
end Go.Proofs.YtjbdldbjefmnjaaGreatDoor
namespace Go.Proofs.YtjbdldbjefmnjaaGreatDoor
set_option linter.unusedSimpArgs false
set_option linter.unusedVariables false
open Go Go.RowKit Go.Proofs.BerK Go.Proofs.MemK Go.Proofs.UtfK

theorem rsel10_any (A : List Atr) (T : List (List UInt8)) (dn : List UInt8) (av tv : Value) (ty : Bool) (w : World) (h : AtAt w av A) (ht : TxR w tv T) (hf : FewG 300 300 A) (hl : T.length ≤ 1000000) (hb : ∀ s ∈ T, s.length ≤ 100000) :
    Calls Tryz.prog 9 #[.agg #[.string ⟨dn.toArray⟩, av], tv, .bool ty] w (EnPost10 dn (seL A T ty) w) := by
  rw [← rs_eq]
  cases ty
  · exact rsel_false A T dn av tv w h ht hf hl hb
  · exact rsel_true A T dn av tv w h ht hf hl hb
theorem eaAt_nil (w : World) : EaAt w (.slice none 0 0) [] := ⟨.inl rfl, none, 0, rfl, fun i hi => by simp at hi⟩
def enAba : List (List UInt8) := [[97], [98], [97]]
def enAb : List (List UInt8) := [[97], [98]]
def enE1 : List Atr := [([99, 110], enAb)]
def enS1 : List Atr := [([115, 110], [])]
def enP3 : List Atr := [([99, 110], [[97]]), ([111, 98, 106, 101, 99, 116, 99, 108, 97, 115, 115], [[116, 111, 112], [80, 101, 114, 115, 111, 110]]), ([115, 110], [[98]])]
theorem cl_put (A : List Atr) (a : Atr) : clA (A ++ [a]) = putL (clA A) (lowL a.1) a.2 := by
  rw [put_cl]
theorem a10_1 : clA ([] ++ [([67, 78], enAba)]) = enE1 := by
  rw [cl_put, cl_nil]
  decide +kernel
theorem enE1_cl : clA enE1 = enE1 := by
  rw [← a10_1, cl_cl]
theorem a10_2 : woL enE1 [99, 110] = [] := by
  unfold woL
  rw [enE1_cl]
  decide +kernel
theorem enPer_cl : clA perA = enP3 := by
  have e : perA = (([] ++ [([111, 98, 106, 101, 99, 116, 67, 108, 97, 115, 115], [[116, 111, 112], [80, 101, 114, 115, 111, 110]])]) ++ [([99, 110], [[97]])]) ++ [([115, 110], [[98]])] := rfl
  rw [e, cl_put, cl_put, cl_put, cl_nil]
  decide +kernel
theorem a10_3 : seL perA [[83, 78]] true = enS1 := by
  unfold seL selF
  rw [if_pos rfl, if_neg (by decide +kernel), enPer_cl]
  decide +kernel
theorem a10_4 : geL enE1 [99, 110] = enAb := by decide +kernel
theorem a10_5 : seL perA [] false = enP3 := by
  unfold seL selF
  rw [if_neg (by decide), if_pos (Or.inl rfl), enPer_cl]
theorem a10_6 : clA [([97], [])] = [] := by
  have e : ([([97], [])] : List Atr) = [] ++ [([97], [])] := rfl
  rw [e, cl_put, cl_nil]
  decide +kernel
theorem a10_7 : (geL enE1 [99, 110]).any (sameQ 1 [65]) = true := by decide +kernel
theorem a10_8 : (geL enE1 [99, 110]).any (sameQ 2 [65]) = false := by decide +kernel
theorem eaAt_blk {w : World} {g : Nat} {A : List Atr} {L : List (List UInt8 × Value)} {e : TypeId} (c : Nat) (h : w.heap[g]? = some (.cells (atcs L).toArray e (0, 0))) (hl : L.length = A.length) (hx : ∀ i (h1 : i < A.length) (h2 : i < L.length), L[i].1 = A[i].1 ∧ TxR w L[i].2 A[i].2) (hk : ∀ q ∈ L, SlOk q.2) :
    EaAt w (.slice (some ⟨g, 0, none⟩) A.length c) A := by
  refine ⟨.inr ⟨_, _, _, rfl⟩, _, _, rfl, fun i hi => ?_⟩
  obtain ⟨h1, h2⟩ := atcs_at L i (by omega)
  obtain ⟨x1, x2⟩ := hx i hi (by omega)
  refine ⟨g, 0, L[i].2, rfl, obj_lt h, ?_, ?_, x2, hk _ (List.getElem_mem _)⟩
  · rw [Nat.zero_add, ← x1]; exact obj_cell h _ _ (by simpa using h1)
  · rw [Nat.zero_add]; exact obj_cell h _ _ (by simpa using h2)
theorem eaAt_per {w : World} {g b : Nat} (h : w.heap[g]? = some (.cells (atcs (perRow b)).toArray 37 (0, 0))) (hx : ∀ i (h1 : i < perA.length) (h2 : i < (perRow b).length), (perRow b)[i].1 = perA[i].1 ∧ TxR w (perRow b)[i].2 perA[i].2) : EaAt w (.slice (some ⟨g, 0, none⟩) 3 3) perA :=
  eaAt_blk (A := perA) 3 h rfl hx (fun q hq => by
    unfold perRow at hq
    simp only [List.mem_cons, List.not_mem_nil, or_false] at hq
    rcases hq with rfl | rfl | rfl <;> exact .inr ⟨_, _, _, rfl⟩)
/-- The three entries that the law keeps. -/
def AwSt (w0 : World) (eb fb sb : Nat) (ev fv sv : Value) (W : World) : Prop :=
  W.heap[eb]? = some (.cells #[.string ⟨#[120]⟩, ev] 24 (0, 0)) ∧ EaAt W ev enE1 ∧ W.heap[fb]? = some (.cells #[.string ⟨#[120]⟩, fv] 24 (0, 0)) ∧ EaAt W fv [] ∧ W.heap[sb]? = some (.cells #[.string ⟨#[99, 110, 61, 97]⟩, sv] 24 (0, 0)) ∧ EaAt W sv enS1 ∧ Below w0.heap.size w0 W ∧ ErrOk W
theorem awSt_below {w0 W W' : World} {eb fb sb : Nat} {ev fv sv : Value} (h : AwSt w0 eb fb sb ev fv sv W) (hb : Below W.heap.size W W') : AwSt w0 eb fb sb ev fv sv W' :=
  ⟨obj_below h.1 hb (obj_lt h.1), eaAt_below h.2.1 hb, obj_below h.2.2.1 hb (obj_lt h.2.2.1), eaAt_below h.2.2.2.1 hb, obj_below h.2.2.2.2.1 hb (obj_lt h.2.2.2.2.1), eaAt_below h.2.2.2.2.2.1 hb, h.2.2.2.2.2.2.1.trans (hb.mono h.2.2.2.2.2.2.1.size), errOk_below h.2.2.2.2.2.2.2 hb⟩
set_option maxHeartbeats 12800000 in
set_option maxRecDepth 100000 in
theorem enawake_any (w : World) (he : ErrOk w) : Calls Tryz.prog 6 #[] w (BB true w) := by
  have HEr := Lib.hid he
  clear he
  obtain ⟨W1, hW1⟩ : ∃ W1, w.alloc (.cells #[.string ⟨#[97]⟩, .string ⟨#[98]⟩, .string ⟨#[97]⟩] 9) = W1 := ⟨_, rfl⟩
  have hb1 : Below w.heap.size w W1 := by rw [← hW1]; exact (Below.refl _ w).alloc (Nat.le_refl _) _
  have t1 : TxR W1 (.slice (some ⟨w.heap.size, 0, none⟩) 3 3) enAba := by rw [← hW1]; exact txR_new w enAba 9
  have hwi := with_any [] [120] [67, 78] enAba (.slice none 0 0) (.slice (some ⟨w.heap.size, 0, none⟩) 3 3) W1 (eaAt_nil _) t1 (.inr ⟨_, _, _, rfl⟩) (by unfold FewE; decide +kernel)
  rw [a10_1] at hwi
  have HWi := Lib.hid hwi
  have HW1 := Lib.hid hW1
  have HB1 := Lib.hid hb1
  clear hW1 hb1 t1 hwi
  go_enter Tryz.func6, Tryz.ntmps6
  go_wp2_with fail
  rw [HW1.out]
  refine HWi.out.mono ?_
  rintro e w2 ⟨ev, Eq, rfl, hok, hr, hb2⟩
  have he2 := eaAt_own (atTx_ok hok) hr
  obtain ⟨ea, ec, rfl⟩ := ownsRow_slice hr
  rw [show enE1.length = 1 from rfl] at he2 ⊢
  obtain ⟨W3, hW3⟩ : ∃ W3, w2.alloc (.cells #[.string ⟨#[120]⟩, .slice ea 1 ec] 24) = W3 := ⟨_, rfl⟩
  have hb23 : Below w2.heap.size w2 W3 := by rw [← hW3]; exact (Below.refl _ w2).alloc (Nat.le_refl _) _
  have y3 : W3.heap[w2.heap.size]? = some (.cells #[.string ⟨#[120]⟩, .slice ea 1 ec] 24 (0, 0)) := by rw [← hW3]; exact heap_alloc_new w2 _
  have he3 := eaAt_below he2 hb23
  have hbw3 := (HB1.out.trans (hb2.mono HB1.out.size)).trans (hb23.mono (by have := HB1.out.size; have := hb2.size; omega))
  have hwo := without_any enE1 [120] [99, 110] _ W3 he3 (by unfold FewE; decide +kernel)
  rw [a10_2] at hwo
  have HWo := Lib.hid hwo
  have HW3 := Lib.hid hW3
  obtain ⟨k0, k1⟩ := obj2s y3
  rw [← hW3] at k0 k1
  have H3 := Lib.hid (And.intro y3 (And.intro he3 hbw3))
  clear hok hr hb2 he2 hW3 hb23 y3 he3 hbw3 hwo
  go_wp2_with fail
  rw [HW3.out]
  refine HWo.out.mono ?_
  rintro e w4 ⟨fv, Fq, rfl, hok, hr, hb4⟩
  clear k0 k1
  have hf4 := eaAt_own (atTx_ok hok) hr
  obtain ⟨fa, fc, rfl⟩ := ownsRow_slice hr
  rw [List.length_nil] at hf4 ⊢
  obtain ⟨W5, hW5⟩ : ∃ W5, w4.alloc (.cells #[.string ⟨#[120]⟩, .slice fa 0 fc] 24) = W5 := ⟨_, rfl⟩
  have hb45 : Below w4.heap.size w4 W5 := by rw [← hW5]; exact (Below.refl _ w4).alloc (Nat.le_refl _) _
  have y5 : W5.heap[w4.heap.size]? = some (.cells #[.string ⟨#[120]⟩, .slice fa 0 fc] 24 (0, 0)) := by rw [← hW5]; exact heap_alloc_new w4 _
  have hb35 : Below W3.heap.size W3 W5 := hb4.trans (hb45.mono hb4.size)
  have HW5 := Lib.hid hW5
  have H5 := Lib.hid (And.intro (obj_below H3.out.1 hb35 (obj_lt H3.out.1)) (And.intro (eaAt_below H3.out.2.1 hb35) (And.intro y5 (And.intro (eaAt_below hf4 hb45) (H3.out.2.2.trans (hb35.mono H3.out.2.2.size))))))
  clear hok hr hb4 hf4 hW5 hb45 y5 hb35
  go_wp2_with fail
  rw [HW5.out]
  refine (person_any W5).mono ?_
  rintro e w6 ⟨pg, pb, rfl, hu1, hu2, hu3, hat, hb6⟩
  have hp6 := eaAt_per hu1 hu3
  obtain ⟨W7, hW7⟩ : ∃ W7, w6.alloc (.cells #[.string ⟨#[83, 78]⟩] 9) = W7 := ⟨_, rfl⟩
  have hb67 : Below w6.heap.size w6 W7 := by rw [← hW7]; exact (Below.refl _ w6).alloc (Nat.le_refl _) _
  have t7 : TxR W7 (.slice (some ⟨w6.heap.size, 0, none⟩) 1 1) [[83, 78]] := by rw [← hW7]; exact txR_new w6 [[83, 78]] 9
  have hb57 : Below W5.heap.size W5 W7 := hb6.trans (hb67.mono hb6.size)
  have hse := select_any perA [[83, 78]] [99, 110, 61, 97] _ _ true W7 (eaAt_below hp6 hb67) t7 (by unfold FewE; decide +kernel) (by decide) (by decide)
  rw [a10_3] at hse
  have HSe := Lib.hid hse
  have HW7 := Lib.hid hW7
  have H7 := Lib.hid (And.intro (obj_below H5.out.1 hb57 (obj_lt H5.out.1)) (And.intro (eaAt_below H5.out.2.1 hb57) (And.intro (obj_below H5.out.2.2.1 hb57 (obj_lt H5.out.2.2.1)) (And.intro (eaAt_below H5.out.2.2.2.1 hb57) (H5.out.2.2.2.2.trans (hb57.mono H5.out.2.2.2.2.size))))))
  clear hu1 hu2 hu3 hat hb6 hp6 hW7 hb67 t7 hb57 hse
  go_wp2_with fail
  rw [HW7.out]
  refine HSe.out.mono ?_
  rintro e w8 ⟨sv, Sq, rfl, hok, hr, hb8⟩
  have hs8 := eaAt_own (atTx_ok hok) hr
  obtain ⟨sa, sc', rfl⟩ := ownsRow_slice hr
  rw [show enS1.length = 1 from rfl] at hs8 ⊢
  obtain ⟨W9, hW9⟩ : ∃ W9, w8.alloc (.cells #[.string ⟨#[99, 110, 61, 97]⟩, .slice sa 1 sc'] 24) = W9 := ⟨_, rfl⟩
  have hb89 : Below w8.heap.size w8 W9 := by rw [← hW9]; exact (Below.refl _ w8).alloc (Nat.le_refl _) _
  have y9 : W9.heap[w8.heap.size]? = some (.cells #[.string ⟨#[99, 110, 61, 97]⟩, .slice sa 1 sc'] 24 (0, 0)) := by rw [← hW9]; exact heap_alloc_new w8 _
  have hb79 : Below W7.heap.size W7 W9 := hb8.trans (hb89.mono hb8.size)
  have hbw9 := H7.out.2.2.2.2.trans (hb79.mono H7.out.2.2.2.2.size)
  have HA9 := Lib.hid (show AwSt w w2.heap.size w4.heap.size w8.heap.size (.slice ea 1 ec) (.slice fa 0 fc) (.slice sa 1 sc') W9 from ⟨obj_below H7.out.1 hb79 (obj_lt H7.out.1), eaAt_below H7.out.2.1 hb79, obj_below H7.out.2.2.1 hb79 (obj_lt H7.out.2.2.1), eaAt_below H7.out.2.2.2.1 hb79, y9, eaAt_below hs8 hb89, hbw9, errOk_below HEr.out hbw9⟩)
  have HW9 := Lib.hid hW9
  obtain ⟨c0, c1⟩ := obj2s HA9.out.1
  obtain ⟨d0, d1⟩ := obj2s HA9.out.2.2.1
  obtain ⟨q0, q1⟩ := obj2s HA9.out.2.2.2.2.1
  rw [← hW9] at c0 c1 d0 d1 q0 q1
  have hge := get_any enE1 [120] [99, 110] _ W9 HA9.out.2.1 (by unfold FewE; decide +kernel) (by decide)
  rw [a10_4] at hge
  have HGe := Lib.hid hge
  clear hok hr hb8 hs8 hW9 hb89 y9 hb79 hbw9 hge
  go_wp2_with fail
  rw [HW9.out]
  clear c0 c1 d0 d1 q0 q1
  refine HGe.out.mono ?_
  rintro e w10 ⟨gv, rfl, hr10, hb10⟩
  have tg := txR_owns hr10
  obtain ⟨ga, gc, rfl⟩ := ownsRow_slice hr10
  rw [show enAb.length = 2 from rfl] at tg ⊢
  obtain ⟨W11, hW11⟩ : ∃ W11, w10.alloc (.cells #[.string ⟨#[97]⟩, .string ⟨#[98]⟩] 9) = W11 := ⟨_, rfl⟩
  have hb1011 : Below w10.heap.size w10 W11 := by rw [← hW11]; exact (Below.refl _ w10).alloc (Nat.le_refl _) _
  have t11 : TxR W11 (.slice (some ⟨w10.heap.size, 0, none⟩) 2 2) enAb := by rw [← hW11]; exact txR_new w10 enAb 9
  have hte := textr_any enAb enAb _ _ W11 (txR_below tg hb1011) t11 (by decide) (by decide)
  rw [show decide (enAb = enAb) = true by simp] at hte
  have HTe := Lib.hid hte
  have HA11 := Lib.hid (awSt_below (awSt_below HA9.out hb10) hb1011)
  have HW11 := Lib.hid hW11
  clear hr10 hb10 tg hW11 hb1011 t11 hte
  go_wp2_with fail
  rw [HW11.out]
  refine HTe.out.mono ?_
  rintro e w12 ⟨rfl, hb12⟩
  have HA12 := Lib.hid (awSt_below HA11.out hb12)
  clear hb12
  obtain ⟨c0, c1⟩ := obj2s HA12.out.1
  obtain ⟨d0, d1⟩ := obj2s HA12.out.2.2.1
  obtain ⟨q0, q1⟩ := obj2s HA12.out.2.2.2.2.1
  have hh1 := has_any enE1 [120] [99, 110] [65] 1 _ w12 HA12.out.2.1 (by unfold FewE; decide +kernel) (by decide) HA12.out.2.2.2.2.2.2.2
  rw [a10_7] at hh1
  have HH1 := Lib.hid hh1
  clear hh1
  go_wp2_with fail
  clear c0 c1 d0 d1 q0 q1
  refine HH1.out.mono ?_
  rintro e w13 ⟨rfl, hb13⟩
  have HA13 := Lib.hid (awSt_below HA12.out hb13)
  clear hb13
  obtain ⟨c0, c1⟩ := obj2s HA13.out.1
  obtain ⟨d0, d1⟩ := obj2s HA13.out.2.2.1
  obtain ⟨q0, q1⟩ := obj2s HA13.out.2.2.2.2.1
  have hh2 := has_any enE1 [120] [99, 110] [65] 2 _ w13 HA13.out.2.1 (by unfold FewE; decide +kernel) (by decide) HA13.out.2.2.2.2.2.2.2
  rw [a10_8] at hh2
  have HH2 := Lib.hid hh2
  clear hh2
  go_wp2_with fail
  clear c0 c1 d0 d1 q0 q1
  refine HH2.out.mono ?_
  rintro e w14 ⟨rfl, hb14⟩
  have HA14 := Lib.hid (awSt_below HA13.out hb14)
  clear hb14
  obtain ⟨c0, c1⟩ := obj2s HA14.out.1
  obtain ⟨d0, d1⟩ := obj2s HA14.out.2.2.1
  obtain ⟨q0, q1⟩ := obj2s HA14.out.2.2.2.2.1
  obtain ⟨W15, hW15⟩ : ∃ W15, w14.alloc (.cells #[.string ⟨#[97]⟩, .slice none 0 0] 37) = W15 := ⟨_, rfl⟩
  have hb15 : Below w14.heap.size w14 W15 := by rw [← hW15]; exact (Below.refl _ w14).alloc (Nat.le_refl _) _
  have y15 : W15.heap[w14.heap.size]? = some (.cells #[.string ⟨#[97]⟩, .slice none 0 0] 37 (0, 0)) := by rw [← hW15]; exact heap_alloc_new w14 _
  have hea := eaAt_one (s := [97]) (V := []) y15 (txR_nil _ _ _) (.inl rfl)
  have HA15 := Lib.hid (awSt_below HA14.out hb15)
  have hsa := same_any [] [([97], [])] [120] _ _ W15 HA15.out.2.2.2.1 hea (by unfold FewE; decide +kernel) (by unfold FewE; decide +kernel) (by rw [cl_nil]; unfold FewG; decide +kernel) (by rw [a10_6]; unfold FewG; decide +kernel)
  rw [cl_nil, a10_6, show decide (([] : List Atr) = []) = true by simp] at hsa
  have HSa := Lib.hid hsa
  have HW15 := Lib.hid hW15
  clear hW15 hb15 y15 hea hsa
  go_wp2_with fail
  rw [HW15.out]
  clear c0 c1 d0 d1 q0 q1
  refine HSa.out.mono ?_
  rintro e w16 ⟨rfl, hb16⟩
  have HA16 := Lib.hid (awSt_below HA15.out hb16)
  clear hb16
  obtain ⟨c0, c1⟩ := obj2s HA16.out.1
  obtain ⟨d0, d1⟩ := obj2s HA16.out.2.2.1
  obtain ⟨q0, q1⟩ := obj2s HA16.out.2.2.2.2.1
  obtain ⟨_, sa2, sc2, es, hsc⟩ := HA16.out.2.2.2.2.2.1
  obtain ⟨sg, so, vl, es2, hsg, r0, r1, htx, hsk⟩ := hsc 0 (by decide)
  injection es with es3 es4 es5
  subst es3 es5
  rw [es2]
  rw [es2] at q1
  rw [show so + 0 * 2 = so by omega] at r0
  rw [show so + 0 * 2 + 1 = so + 1 by omega] at r1
  obtain ⟨va, vc, rfl, _⟩ := htx
  change _ = some (Value.string ⟨#[115, 110]⟩) at r0
  change _ = some (Value.slice va 0 vc) at r1
  have hz : sg < w16.heap.size := hsg
  clear hsc es2 es4 hsk hsg
  go_wp2_with fail
  clear c0 c1 d0 d1 q0 q1
  clear r0 r1
  refine (person_any w16).mono ?_
  rintro e w17 ⟨pg2, pb2, rfl, hu1, hu2, hu3, hat, hb17⟩
  have hp17 := eaAt_per hu1 hu3
  have HA17 := Lib.hid (awSt_below HA16.out hb17)
  have hs2 := select_any perA [] [99, 110, 61, 97] _ (.slice none 0 0) false w17 hp17 (txR_nil _ _ _) (by unfold FewE; decide +kernel) (by decide) (by decide)
  rw [a10_5] at hs2
  have HS2 := Lib.hid hs2
  clear hu1 hu2 hu3 hat hb17 hp17 hs2
  go_wp2_with fail
  refine HS2.out.mono ?_
  rintro e w18 ⟨v18, L18, rfl, hok, hr, hb18⟩
  obtain ⟨a18, c18, rfl⟩ := ownsRow_slice hr
  rw [show enP3.length = 3 from rfl]
  have HB18 := Lib.hid (HA17.out.2.2.2.2.2.2.1.trans (hb18.mono HA17.out.2.2.2.2.2.2.1.size))
  clear hok hr hb18
  have hfd : ∀ (w : World) (a : Option Addr) (n c : Nat), (Instr.field 24 (.agg #[.string ⟨#[99, 110, 61, 97]⟩, .slice a n c]) 1).run Tryz.prog w = .ok (.slice a n c) w := fun w a n c => by kernel_rfl
  go_wp2
  go_ret
  exact bB_mk rfl HB18.out
end Go.Proofs.YtjbdldbjefmnjaaGreatDoor
namespace Go.Proofs.YtjbdldbjefmnjaaGreatDoor
set_option linter.unusedSimpArgs false
set_option linter.unusedVariables false
open Go Go.RowKit Go.Proofs.BerK Go.Proofs.MemK Go.Proofs.UtfK

theorem va_self {L : List Atr} (hr : Rising L) (hlow : ∀ p ∈ L, lowL p.1 = p.1) {p : Atr} (hp : p ∈ L) : vaL L p.1 = p.2 := by
  unfold vaL
  have hf : L.filter (fun a => lowL a.1 == p.1) = [p] := by
    have hsub : ∀ q ∈ L.filter (fun a => lowL a.1 == p.1), q = p := fun q hq => by
      obtain ⟨h1, h2⟩ := List.mem_filter.1 hq
      have h3 : q.1 = p.1 := by rw [← hlow q h1]; simpa using h2
      obtain ⟨i, hi, rfl⟩ := List.mem_iff_getElem.1 h1
      obtain ⟨j, hj, rfl⟩ := List.mem_iff_getElem.1 hp
      rcases Nat.lt_trichotomy i j with h | h | h
      · have := rising_lt hr i j hi hj h
        rw [h3] at this; exact absurd this (List.lt_irrefl _)
      · subst h; rfl
      · have := rising_lt hr j i hj hi h
        rw [h3] at this; exact absurd this (List.lt_irrefl _)
    have hmem : p ∈ L.filter (fun a => lowL a.1 == p.1) := List.mem_filter.2 ⟨hp, by simpa using hlow p hp⟩
    have hnd : (L.filter (fun a => lowL a.1 == p.1)).Nodup := by
      have : L.Nodup := hr.imp fun hlt e => by subst e; exact absurd hlt (List.lt_irrefl _)
      exact this.filter _
    generalize L.filter (fun a => lowL a.1 == p.1) = F at *
    match F with
    | [] => simp at hmem
    | [q] => rw [hsub q (by simp)]
    | q :: r :: F =>
      have h1 := hsub q (by simp)
      have h2 := hsub r (by simp)
      rw [List.nodup_cons] at hnd
      exact absurd (by rw [h1, h2]; simp) hnd.1
  rw [hf]
  simp
/-- What rises, in small letters, each value once, none without values, is clean. -/
theorem cl_self {L : List Atr} (hr : Rising L) (hlow : ∀ p ∈ L, lowL p.1 = p.1) (hn : ∀ p ∈ L, p.2 ≠ []) (hd : ∀ p ∈ L, p.2.Nodup) : clA L = L := by
  refine (cl_of (A := L) ⟨hr, fun q => ⟨fun hq => ?_, ?_⟩⟩).symm
  · rw [va_self hr hlow hq, on_self (hd q hq)]
    exact ⟨rfl, hn q hq⟩
  · rintro ⟨h1, h2⟩
    have hv : vaL L q.1 ≠ [] := fun e => h2 (by rw [h1, e]; rfl)
    obtain ⟨a, ha, _, hl⟩ := va_ne.1 hv
    rw [hlow a ha] at hl
    have h3 := va_self hr hlow ha
    rw [hl] at h3
    rw [h3, on_self (hd a ha)] at h1
    have : q = a := Prod.ext hl.symm h1
    rw [this]; exact ha
theorem cl_filter (A : List Atr) (p : Atr → Bool) : clA ((clA A).filter p) = (clA A).filter p := by
  have hcl := cl_is A
  refine cl_self (List.Pairwise.sublist List.filter_sublist hcl.1) (fun q hq => cl_low (List.mem_filter.1 hq).1) (fun q hq => ((hcl.2 q).1 (List.mem_filter.1 hq).1).2) (fun q hq => ?_)
  rw [((hcl.2 q).1 (List.mem_filter.1 hq).1).1]
  exact on_nodup _
theorem cl_empty {X : List Atr} (h : ∀ a ∈ X, a.2 = []) : clA X = [] := by
  have e : (X.filter fun a => !a.2.isEmpty) = [] := List.filter_eq_nil_iff.2 fun a ha => by rw [h a ha]; simp
  unfold clA clNs
  rw [e]
  simp [onL, risL]
theorem selF_self (A : List Atr) (T : List (List UInt8)) : selF (selF A T) T = selF A T := by
  by_cases h : T = [] ∨ inL T starL = true
  · have e : ∀ X, selF X T = clA X := fun X => by unfold selF; rw [if_pos h]
    rw [e, e, cl_cl]
  · have e : ∀ X, selF X T = (clA X).filter fun a => !(!inL (T.map lowL) a.1) := fun X => by unfold selF; rw [if_neg h]
    rw [e, e, cl_filter, List.filter_filter]
    simp
theorem selF_nil (X : List Atr) (T : List (List UInt8)) (h : ∀ a ∈ X, a.2 = []) : selF X T = [] := by
  unfold selF
  rw [cl_empty h]
  simp
/-- What is selected, selected again. -/
theorem seL_again (A : List Atr) (T : List (List UInt8)) (ty : Bool) : seL (seL A T ty) T false = if ty = true then [] else seL A T ty := by
  cases ty
  · simp only [seL, Bool.false_eq_true, if_false]
    exact selF_self A T
  · simp only [seL, if_true, Bool.false_eq_true, if_false]
    refine selF_nil _ T fun a ha => ?_
    obtain ⟨q, _, rfl⟩ := List.mem_map.1 ha
    rfl
theorem fewG_sel {m k : Nat} {A : List Atr} (h : FewG m k A) (T : List (List UInt8)) (ty : Bool) : FewG m (k * m) (seL A T ty) := by
  have h1 : FewG m (k * m) (selF A T) := by
    unfold selF
    split
    · exact fewG_cl h
    · exact fewG_filter (fewG_cl h) _
  unfold seL
  split
  · refine ⟨by rw [List.length_map]; exact h1.1, fun a ha => ?_⟩
    obtain ⟨q, hq, rfl⟩ := List.mem_map.1 ha
    exact ⟨(h1.2 q hq).1, Nat.zero_le _, fun s hs => by simp [nilA] at hs⟩
  · exact h1
theorem few_g {dn : List UInt8} {A : List Atr} (h : FewA dn A) : FewG 12 8 A := by
  refine ⟨h.2.1, fun a ha => ?_⟩
  obtain ⟨i, hi, rfl⟩ := List.mem_iff_getElem.1 ha
  obtain ⟨h1, h2, h3⟩ := h.2.2 i hi
  refine ⟨by omega, h2, fun s hs => ?_⟩
  obtain ⟨j, hj, rfl⟩ := List.mem_iff_getElem.1 hs
  have := h3 j hj
  omega
theorem enC_ea {dn : List UInt8} {L : List Atr} {v : Value} {Lq : List (List UInt8 × Value)} {w w' : World} (hok : AtOk w' Lq L) (hr : w'.ownsRow w.heap.size 37 2 v L.length (atcs Lq)) : EaAt w' v L := eaAt_own (atTx_ok hok) hr
end Go.Proofs.YtjbdldbjefmnjaaGreatDoor
