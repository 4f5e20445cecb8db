/- The document's put: a type that is there. The document's put: a type that is there. The document's put, every way. -/
import Derived.Test.YtpkbgkoocijegaaGreatDoorEnQT
set_option linter.unusedVariables false
set_option linter.unusedSimpArgs false
set_option maxHeartbeats 25600000
set_option maxRecDepth 100000
namespace Go.Proofs.YtpkbgkoocijegaaGreatDoor
open Go Go.RowKit Go.Proofs.BerK Go.Proofs.MemK Go.Proofs.UtfK
theorem put_hit2 (L : List Atr) (Lq : List (List UInt8 × Value)) (t : List UInt8) (V : List (List UInt8)) (B g n cap : Nat) (av : Value) (w : World) (hq : AtOk w Lq L) (hr : w.ownsRow B 45 2 (.slice (some ⟨g, 0, none⟩) n cap) n (atcs Lq)) (hn : L.length = n) (hV : TxR w av V) (hln : n <= 100000) (hlV : V.length <= 100000)
  (hlL : ∀ a ∈ L, a.2.length <= 100000) (hK : putK L t < L.length) (he : L[putK L t].1 = t) (hck : ¬ cap = putK L t + 1) :
  Calls Tryz.prog 80 #[.slice (some ⟨g, 0, none⟩) n cap, .agg #[.string ⟨t.toArray⟩, av]] w (PaPost10 (putL L t V) w) := by
 have HQ := Hy hq
 have HR := Hy hr
 have HNn := Hy hn
 have hA : ∀ k, putK L t = k -> ∀ h : k < L.length, L[k].1 = t /\ ¬ L[k].1 < t /\ putV L t = L[k].2 := by rintro k rfl h; exact ⟨he, putK_at hK, by unfold putV; rw [dif_pos hK, if_pos he]⟩
 have hB : ∀ k, putK L t = k -> ∀ j, j < k -> ∀ hj : j < L.length, L[j].1 < t := by rintro k rfl j h hj; exact putK_lt j h hj
 obtain ⟨X, hX⟩ : ∃ X, putV L t = X := ⟨_, rfl⟩
 have hX1 : X.length <= 100000 := by
  rw [<- hX]; unfold putV; rw [dif_pos hK, if_pos he]
  exact hlL _ (List.getElem_mem hK)
 have hP : ∀ k, putK L t = k -> putL L t V = L.take k ++ ((if V.foldl onS1 X = [] then [] else [(t, V.foldl onS1 X)]) ++ L.drop (k + 1)) := by
  rintro k rfl
  rw [<- hX]; unfold putL putR; rw [dif_pos hK, if_pos he]
 obtain ⟨R, hRq⟩ : ∃ R, putL L t V = R := ⟨_, rfl⟩
 rw [hRq] at hP ⊢
 clear he
 obtain ⟨K, hKe⟩ : ∃ K, putK L t = K := ⟨_, rfl⟩
 rw [hKe] at hK hck
 have hKa := hA K hKe hK
 rw [hX] at hKa
 have HKa := Hy hKa
 have HKl := Hy (hB K hKe)
 have HPl := Hy (hP K hKe)
 clear hA hB hP hKe hKa
 have hKn : K < n := by omega
 have hcap : n <= cap := by
  rcases hr.2 with ⟨e, _⟩ | ⟨g', cap', cur, e, _, _, h, _⟩
  ·cases e
  ·injection e with e1 e2 e3
   omega
 have HXl := Hy hX1
 have hV2 := hV
 obtain ⟨va, vc, rfl, hvc⟩ := hV
 have HV := Hy hvc
 obtain ⟨m, hm⟩ : ∃ m, V.length = m := ⟨_, rfl⟩
 have HVl := Hy hm
 have HVt := Hy (show (V.take m).foldl onS1 X = V.foldl onS1 X by rw [<- hm, List.take_length])
 have HSt := Hy (fun i hi => fo_step (X := X) (V := V) i hi)
 have HFl := Hy (fun i => show ((V.take i).foldl onS1 X).length <= 200000 by
  have h1 := fo_len X (V.take i)
  have h2 := HXl.out
  rw [List.length_take] at h1
  omega)
 rw [hm] at hlV ⊢
 obtain ⟨W1, hW1⟩ : ∃ W1, w.alloc (.cells #[.string ⟨t.toArray⟩, .slice va m vc] 45) = W1 := ⟨_, rfl⟩
 have k1 : Below w.heap.size w W1 := by rw [<- hW1]; exact (Below.refl _ w).alloc (Nat.le_refl _) _
 have x1 : W1.heap[w.heap.size]? = some (.cells #[.string ⟨t.toArray⟩, .slice va m vc] 45 (0, 0)) := by rw [<- hW1]; exact heap_alloc_new w _
 have HX1 := Hy (An k1 x1)
 have HW1 := Hy hW1
 have hlq := hq.1
 have hgl : g < w.heap.size := by
  rcases hr.2 with ⟨e, _⟩ | ⟨g', cap', cur, e, _, hg, _⟩
  ·cases e
  ·injection e with e1 e2 e3
   injection e1 with e1
   injection e1 with e1 _ _
   subst e1
   exact obj_lt hg
 have HC := Hy (fun j (hj : j < n) (hj2 : j < L.length) => show w.cell? ⟨g, j * 2, none⟩ = some (.string ⟨L[j].1.toArray⟩) by
  obtain ⟨h1, _⟩ := atcs_at Lq j (by omega)
  rw [<- (hq.2 j (by omega) hj2).1]
  exact (hr.cellAt _ (by omega)).trans h1)
 clear hvc hm hX hX1 hW1 hlL k1 x1 hq hr hV2 hRq
 go_enter Tryz.func80, Tryz.ntmps80
 go_wp2
 rw [HW1.out]
 go_loopw [5] (fun v wr => ∃ k : Nat, k <= K /\ v = .int .i64 (k : Nat) /\ Below W1.heap.size W1 wr) (fun v _ => K - (intOf v).toNat)
 case atStart => exact ⟨0, by omega, rfl, Below.refl _ _⟩
 case round =>
  obtain ⟨k, hk, rfl, hb⟩ := hrel
  have y1 := obj_below HX1.out.2 hb (obj_lt HX1.out.2)
  obtain ⟨b0, b1⟩ := obj2s y1
  have hbw := HX1.out.1.trans (hb.mono HX1.out.1.size)
  have HB := Hy (An hb hbw)
  by_cases hkK : k < K
  ·have hkl : (k : Int) < (n : Int) := by omega
   have hkL : k < L.length := by rw [HNn.out]; omega
   have d1 := (hbw.cell (p := ⟨g, k * 2, none⟩) hgl).trans (HC.out k (by omega) hkL)
   have hls := lt9_t (ltB_iff.2 (HKl.out k hkK hkL))
   obtain ⟨nm, hnm⟩ : ∃ nm, L[k].1 = nm := ⟨_, rfl⟩
   rw [hnm] at d1 hls
   clear hb hbw y1 hnm
   go_wp2_with fail
   go_quiet (fail)
   have HB9 := Hy (below_dn HB.out.1 nq)
   go_wp2
   exact ⟨⟨k + 1, by omega, by go_num, HB9.out⟩, by simp [intOf]; omega⟩
  ·obtain rfl : k = K := by omega
   have hkl : (k : Int) < (n : Int) := by omega
   have d1 := (hbw.cell (p := ⟨g, k * 2, none⟩) hgl).trans (HC.out k hKn hK)
   have hls := lt9_f (show ltB L[k].1 t = false by
    cases h : ltB L[k].1 t
    ·rfl
    ·exact absurd (ltB_iff.1 h) HKa.out.2.1)
   have hkq : k < Lq.length := by omega
   have hz : Lq[k].1 = L[k].1 /\ TxR w Lq[k].2 L[k].2 /\ SlOk Lq[k].2 := by obtain ⟨z1, BZ, zo⟩ := HQ.out.2 k hkq hK; exact ⟨z1, txR_owns zo, slOk_owns zo⟩
   rw [<- HKa.out.2.2] at hz
   obtain ⟨xv, hxv⟩ : ∃ v, Lq[k].2 = v := ⟨_, rfl⟩
   have w1 := (hbw.cell (p := ⟨g, k * 2 + 1, none⟩) hgl).trans ((HR.out.cellAt (k * 2 + 1) (by omega)).trans ((atcs_at Lq k hkq).2))
   rw [hxv] at w1 hz
   have HXV := Hy hz.2
   obtain ⟨_, ⟨xa, xc, rfl, _⟩, _⟩ := hz
   rw [HKa.out.1] at d1 hls
   clear hb hbw hxv
   go_wp2_with fail
   go_quiet (fail)
   obtain ⟨W2, hW2⟩ : ∃ W2, wr.drewN nq = W2 := ⟨_, rfl⟩
   rw [hW2]
   have k2 : Below wr.heap.size wr W2 := by rw [<- hW2]; exact below_dn (Below.refl _ _) nq
   have d2 := (k2.cell (p := ⟨g, k * 2, none⟩) (Lib.lt_of_cell d1)).trans d1
   have w2 := (k2.cell (p := ⟨g, k * 2 + 1, none⟩) (Lib.lt_of_cell w1)).trans w1
   have y2 := obj_below y1 k2 (obj_lt y1)
   obtain ⟨W3, hW3⟩ : ∃ W3, W2.alloc (.cells #[.string ⟨t.toArray⟩, .slice none 0 0] 45) = W3 := ⟨_, rfl⟩
   have k3 : Below W2.heap.size W2 W3 := by rw [<- hW3]; exact (Below.refl _ W2).alloc (Nat.le_refl _) _
   have z3 : W3.heap[W2.heap.size]? = some (.cells #[.string ⟨t.toArray⟩, .slice none 0 0] 45 (0, 0)) := by rw [<- hW3]; exact heap_alloc_new W2 _
   have y3 := obj_below y2 k3 (obj_lt y2)
   have d3 := (k3.cell (p := ⟨g, k * 2, none⟩) (Lib.lt_of_cell d2)).trans d2
   have w3 := (k3.cell (p := ⟨g, k * 2 + 1, none⟩) (Lib.lt_of_cell w2)).trans w2
   obtain ⟨bX, hbX⟩ : ∃ bX, W2.heap.size = bX := ⟨_, rfl⟩
   have HbX := Hy (show w.heap.size < bX by rw [<- hbX]; exact obj_lt y2)
   have HB3 := Hy (HB.out.2.trans ((k2.trans (k3.mono k2.size)).mono HB.out.2.size))
   rw [hbX] at z3
   have HZ3 := Hy (An y3 z3)
   have HW3 := Hy hW3
   have HbXe := Hy hbX
   clear b0 b1 d1 w1 hW2 hW3 hbX z3 y3 k2 k3
   obtain ⟨b0, b1⟩ := obj2s y2
   have D3 := Hy (An d3 w3)
   have hck0 : ¬ cap = k := by omega
   clear d3 w3 y1 y2
   go_wp2_with fail
   rw [HW3.out, HbXe.out]
   clear b0 b1 d2 w2
   have d3 := D3.out.1
   have w3 := D3.out.2
   have y3 := HZ3.out.1
   have z3 := HZ3.out.2
   obtain ⟨b0, b1⟩ := obj2s y3
   obtain ⟨i0, i1⟩ := obj2s z3
   clear y3 z3
   go_quiet (fail)
   obtain ⟨W4a, hW4a⟩ : ∃ W4, W3.drewN nq = W4 := ⟨_, rfl⟩
   rw [hW4a]
   have k4 : Below W3.heap.size W3 W4a := by rw [<- hW4a]; exact below_dn (Below.refl _ _) nq
   have y4 := obj_below HZ3.out.1 k4 (obj_lt HZ3.out.1)
   have z4 := obj_below HZ3.out.2 k4 (obj_lt HZ3.out.2)
   have hk4 := HB3.out.trans (k4.mono HB3.out.size)
   have d4 := (k4.cell (p := ⟨g, k * 2, none⟩) (Lib.lt_of_cell d3)).trans d3
   have w4 := (k4.cell (p := ⟨g, k * 2 + 1, none⟩) (Lib.lt_of_cell w3)).trans w3
   obtain ⟨W4, hW4⟩ : ∃ W4, (W4a.setCell ⟨bX, 0, none⟩ (.string ⟨t.toArray⟩)).setCell ⟨bX, 1, none⟩ (.slice xa X.length xc) = W4 := ⟨_, rfl⟩
   have hz5 : W4.heap[bX]? = some (.cells #[.string ⟨t.toArray⟩, .slice xa X.length xc] 45 (0, 0)) := by rw [<- hW4]; exact obj_set2 z4 _ _
   have hch5 : Chg (fun k => k = bX) W4a W4 := by rw [<- hW4]; exact ((Chg.refl (fun k => k = bX) W4a).setCell (p := ⟨bX, 0, none⟩) (fun _ => rfl) _).setCell (p := ⟨bX, 1, none⟩) (fun _ => rfl) _
   have hy5 := obj_chg (w := W4a) y4 hch5 (by have := HbX.out; omega)
   have hb5 : Below w.heap.size w W4 := hk4.trans (hch5.toBelow hk4.size (fun k _ e => by have := HbX.out; omega))
   have HF4 := Hy (An hb5 (An hy5 hz5))
   have HW4 := Hy hW4
   clear b0 b1 i0 i1 d3 w3 hW4 hW4a k4 hz5 hch5 hy5 hb5 hk4
   obtain ⟨b0, b1⟩ := obj2s y4
   obtain ⟨i0, i1⟩ := obj2s z4
   have fr0 := obj_free z4 0
   have fr1 := obj_free z4 1
   clear y4 z4
   have ib0 := (obj2s HF4.out.2.2).1
   have ib1 := (obj2s HF4.out.2.2).2
   go_wp2_with (first
    | (at_builtin; (try rw [HW4.out]); refine wpList_appendr rfl (.tmp 57) (.tmp 59) 43 9 rfl W4.heap.size 1 16 (.string ByteArray.empty) Tryz.scinfo9 Tryz.underlying43 rfl (by decide) (.slice none 0 0) 0 [] rfl (World.ownsRow_nil _ _ _ _) _ X.length (sc X) rfl ?c3 (sc_one_cell _) ?c1 ?c2 (Nat.le_refl _) ?_)
    | go_in)
   case c3 => exact rdRow_below (rd_txR HXV.out.1 HXV.out.2) HF4.out.1
   try (case c1 => have := HXl.out; unfold maxLen; omega)
   try (case c2 => have := HXl.out; omega)
   intro v1 w5 g1 g2 g3
   obtain ⟨oa, oc, rfl⟩ := ownsRow_slice g1
   have hb5 := chg_nil9c g2
   have g1 : w5.ownsRow W4.heap.size 9 1 (.slice oa X.length oc) X.length (sc X) := by simpa using g1
   have e0X : 0 + X.length = X.length := Nat.zero_add _
   try rw [e0X]
   have H5 := Hy (An g1 hb5)
   clear g1 g2 g3 hb5 e0X
   go_wp2
   go_loopw [8, 9] (fun o v wr => ∃ i : Nat, i <= m /\ v = .int .i64 (i : Nat) /\ wr.ownsRow W4.heap.size 9 1 o ((V.take i).foldl onS1 X).length (sc ((V.take i).foldl onS1 X)) /\ Below W4.heap.size W4 wr) (fun _ v _ => m - (intOf v).toNat)
   case atStart => exact ⟨0, by omega, rfl, H5.out.1, H5.out.2⟩
   case round =>
    obtain ⟨i, hi, rfl, hown, hb⟩ := hrel
    have y0 := obj_below HF4.out.2.1 hb (obj_lt HF4.out.2.1)
    have y1 := obj_below HF4.out.2.2 hb (obj_lt HF4.out.2.2)
    obtain ⟨p0, p1⟩ := obj2s y0
    obtain ⟨q0, q1⟩ := obj2s y1
    have hbw := HF4.out.1.trans (hb.mono HF4.out.1.size)
    by_cases hlt : i < m
    ·have hil : (i : Int) < (m : Int) := by omega
     have hiV : i < V.length := by rw [HVl.out]; exact hlt
     obtain ⟨gv, ov, rfl, hgv, e0w⟩ := HV.out i hiV
     have e0 := (hbw.cell (p := ⟨gv, ov + i, none⟩) hgv).trans e0w
     have hst := HSt.out i hiV
     have hfl := HFl.out i
     obtain ⟨y, hy⟩ : ∃ y, V[i] = y := ⟨_, rfl⟩
     rw [hy] at e0 hst
     obtain ⟨F0, hF⟩ : ∃ F0, (V.take i).foldl onS1 X = F0 := ⟨_, rfl⟩
     rw [hF] at hown hst hfl
     have htx := txR_owns hown
     obtain ⟨fa, fc, rfl, hfc⟩ := htx
     have HFc := Hy hfc
     have HI := Hy (An hown (An hb (An hst (An hfl (inL_step (F := F0) (y := y))))))
     have HTk := Hy (show inL (F0.take F0.length) y = inL F0 y by rw [List.take_length])
     obtain ⟨nf, hnf⟩ : ∃ nf, F0.length = nf := ⟨_, rfl⟩
     have HNf := Hy hnf
     rw [hnf]
     clear hown hb hst hbw y0 y1 e0w hfc hy hF hnf q0 q1
     go_wp2
     go_loopw [10, 11] (fun s v wz => ∃ j q : Nat, j <= nf /\ v = .int .i64 (j : Nat) /\ s = .bool (inL (F0.take j) y) /\ wz = wr.drewN q) (fun _ v _ => nf - (intOf v).toNat)
     case atStart => exact ⟨0, 0, by omega, rfl, rfl, rfl⟩
     case round =>
      obtain ⟨j, q, hj, rfl, rfl, rfl⟩ := hrel
      by_cases hjn : j < nf
      ·have hjl : (j : Int) < (nf : Int) := by omega
       have hjF : j < F0.length := by rw [HNf.out]; exact hjn
       obtain ⟨gf, of, rfl, hgf, f0⟩ := HFc.out j hjF
       have hs := HI.out.2.2.2.2 j hjF
       obtain ⟨z, hz⟩ : ∃ z, F0[j] = z := ⟨_, rfl⟩
       rw [hz] at f0 hs
       obtain ⟨b, hbq⟩ : ∃ b, inL (F0.take j) y = b := ⟨_, rfl⟩
       rw [hbq] at hs
       have HS := Hy hs
       rw [hbq]
       clear hz hbq hs
       cases b
       ·obtain ⟨c, hc⟩ : ∃ c, (z == y) = c := ⟨_, rfl⟩
        have HC := Hy hc
        cases c
        ·go_wp2
         go_quiet (fail)
         go_wp2
         exact ⟨⟨j + 1, q + nq, by omega, by go_num, by rw [HS.out, HC.out]; rfl, rfl⟩, by simp [intOf]; omega⟩
        ·go_wp2
         go_quiet (fail)
         go_wp2
         exact ⟨⟨j + 1, q + nq, by omega, by go_num, by rw [HS.out, HC.out]; rfl, rfl⟩, by simp [intOf]; omega⟩
       ·go_wp2
        go_quiet (fail)
        go_wp2
        exact ⟨⟨j + 1, q + nq, by omega, by go_num, by rw [HS.out]; rfl, rfl⟩, by simp [intOf]; omega⟩
      ·obtain rfl : j = nf := by omega
       have hT := HTk.out
       rw [HNf.out] at hT
       rw [hT]
       obtain ⟨b, hbq⟩ : ∃ b, inL F0 y = b := ⟨_, rfl⟩
       rw [hbq]
       obtain ⟨W7, hW7⟩ : ∃ W7, wr.drewN q = W7 := ⟨_, rfl⟩
       have hb7 : Below wr.heap.size wr W7 := by rw [<- hW7]; exact below_dn (Below.refl _ _) _
       have p07 := (hb7.cell (p := ⟨w.heap.size, 0, none⟩) (Lib.lt_of_cell p0)).trans p0
       have p17 := (hb7.cell (p := ⟨w.heap.size, 1, none⟩) (Lib.lt_of_cell p1)).trans p1
       have e07 := (hb7.cell (p := ⟨gv, ov + i, none⟩) (Lib.lt_of_cell e0)).trans e0
       have hr7 := ownsRow_below HI.out.1 hb7
       rw [HNf.out] at hr7
       have H7 := Hy (An hr7 (HI.out.2.1.trans (hb7.mono HI.out.2.1.size)))
       have hjb : j <= 200000 := by rw [<- HNf.out]; exact HI.out.2.2.2.1
       rw [hW7]
       clear hT hW7 hb7 p0 p1 e0 hr7
       cases b
       ·have HE := Hy (show (V.take (i + 1)).foldl onS1 X = F0 ++ [y] by rw [HI.out.2.2.1]; unfold onS1; rw [if_neg (by rw [hbq]; simp)])
        clear hbq
        go_wp2_with (first
         | (at_builtin; refine wpList_pushm rfl (.tmp 89) (.tmp 95) 43 9 rfl W4.heap.size 1 16 (.string ByteArray.empty) Tryz.scinfo9 Tryz.underlying43 rfl (by decide) 1 [.string ⟨y.toArray⟩] rfl ?c0 _ _ _ rfl _ rfl ?c3 H7.out.1 ?c1 ?c2 H7.out.2.size ?_)
         | go_in)
        case c0 => first | rfl | (intro u hu; simp at hu; subst hu; rfl)
        try (case c1 => unfold maxLen; omega)
        try (case c2 => omega)
        case c3 => first | rfl | simp
        intro v' w' g1 g2
        have H8 := Hy (An g1 (H7.out.2.trans g2))
        clear g1 g2
        go_wp2
        refine ⟨⟨i + 1, by omega, by go_num, ?_, H8.out.2⟩, by simp [intOf]; omega⟩
        rw [HE.out, List.length_append, sc_snoc1, HNf.out]; exact H8.out.1
       ·have HE := Hy (show (V.take (i + 1)).foldl onS1 X = F0 by rw [HI.out.2.2.1]; unfold onS1; rw [if_pos hbq])
        clear hbq
        go_wp2
        refine ⟨⟨i + 1, by omega, by go_num, ?_, H7.out.2⟩, by simp [intOf]; omega⟩
        rw [HE.out, HNf.out]; exact H7.out.1
    ·obtain rfl : i = m := by omega
     have hT := HVt.out
     rw [hT] at hown
     have hfl := HFl.out i
     rw [hT] at hfl
     obtain ⟨FV, hFV⟩ : ∃ FV, V.foldl onS1 X = FV := ⟨_, rfl⟩
     have HFV := Hy hFV
     rw [hFV] at hown hfl
     obtain ⟨fa, fc, rfl⟩ := ownsRow_slice hown
     have hfr := obj_free y1 1
     have x8 := obj_set y1 1 (.slice fa FV.length fc)
     have hch : Chg (fun k => k = bX) wr (wr.setCell ⟨bX, 1, none⟩ (.slice fa FV.length fc)) := (Chg.refl (fun k => k = bX) wr).setCell (p := ⟨bX, 1, none⟩) (fun _ => rfl) _
     have hbx : W4.heap.size <= wr.heap.size := hb.size
     have hbl := obj_lt HF4.out.2.2
     have hr8 := ownsRow_chg hown hch (fun k hk e => by have := (hown.lt k hk).1; omega)
     have hb8 : Below w.heap.size w (wr.setCell ⟨bX, 1, none⟩ (.slice fa FV.length fc)) := hbw.trans (hch.toBelow hbw.size (fun k _ e => by have := HbX.out; omega))
     obtain ⟨W8, hW8⟩ : ∃ W8, wr.setCell ⟨bX, 1, none⟩ (.slice fa FV.length fc) = W8 := ⟨_, rfl⟩
     rw [hW8] at x8 hr8 hb8
     have HW8 := Hy hW8
     have HX8 := Hy x8
     have HR8 := Hy (An hr8 (An hb8 hfl))
     have HL8 := Hy (atOk_below HQ.out hb8)
     have HO8 := Hy (ownsRow_below HR.out hb8)
     clear hown hb hbw y0 y1 hT hfl hFV x8 hch hbx hbl hr8 hb8 hW8 q0
     go_wp2_with (first
      | (at_builtin; (try rw [HW8.out]); refine wpList_appendr rfl (.tmp 99) (.tmp 102) 22 45 rfl W8.heap.size 2 40 (.agg #[.string ByteArray.empty, .slice none 0 0]) Tryz.sninfo45 Tryz.underlying22 rfl (by decide) (.slice none 0 0) 0 [] rfl (World.ownsRow_nil _ _ _ _) _ (k) (atcs (Lq.take k)) rfl ?c3 ?c4 ?c1 ?c2 (Nat.le_refl _) ?_)
      | go_in)
     case c3 => exact rd_take2 HO8.out k (by omega)
     case c4 => exact atcs_ones (atOk_take HL8.out k)
     try (case c1 => unfold maxLen; omega)
     try (case c2 => omega)
     intro v1 w9 g1 g2 g3
     have hb9 := chg_nil9c g2
     have g1 : w9.ownsRow W8.heap.size 45 2 v1 (k) (atcs (Lq.take k)) := by simpa using g1
     obtain ⟨a9, c9, rfl⟩ := ownsRow_slice g1
     have x9 := obj_below HX8.out hb9 (obj_lt HX8.out)
     obtain ⟨r0, r1⟩ := obj2s x9
     have H9 := Hy (An g1 hb9)
     have HO9 := Hy (ownsRow_below HO8.out hb9)
     have HL9 := Hy (atOk_below HL8.out hb9)
     clear g1 g2 g3 hb9 x9 q1
     by_cases hF0 : FV.length = 0
     ·have hFn : ¬ ((0 : Int) < (FV.length : Int)) := by omega
      have HFE := Hy (show R = L.take k ++ (([] : List Atr) ++ L.drop (k + 1)) by rw [HPl.out, HFV.out, if_pos (List.eq_nil_of_length_eq_zero hF0)])
      go_wp2_with (first
       | (at_builtin; refine wpList_appendr rfl (.tmp 111) (.tmp 112) 22 45 rfl W8.heap.size 2 40 (.agg #[.string ByteArray.empty, .slice none 0 0]) Tryz.sninfo45 Tryz.underlying22 rfl (by decide) _ (k) _ rfl H9.out.1 _ (n - (k + 1)) (atcs (Lq.drop (k + 1))) rfl ?c3r ?c4r ?c1r ?c2r H9.out.2.size ?_)
       | go_in)
      case c3r => first | exact rd_drop2 HO9.out (k + 1) _ (by omega) | exact rd_zero2 _ _ _ _ (List.drop_of_length_le (by omega))
      case c4r => exact atcs_ones (w := w9) (atOk_drop HL9.out (k + 1))
      try (case c1r => unfold maxLen; omega)
      try (case c2r => omega)
      intro v2 w10 g1 g2 g3
      have hb10 := below_chg H9.out.2 H9.out.2.size H9.out.1 g2
      obtain ⟨a10, c10, rfl⟩ := ownsRow_slice g1
      have H10 := Hy (An g1 hb10)
      have hL10 := atOk_below HL8.out hb10
      have HL9 := Hy hL10
      have hlq := HQ.out.1
      have hnn := HNn.out
      clear g1 g2 g3 hb10
      go_wp2
      go_ret
      refine ⟨_, rfl, ⟨(Lq.take k) ++ (([] : List (List UInt8 × Value)) ++ (Lq.drop (k + 1))), W8.heap.size, ?_, ?_⟩, HR8.out.2.1.trans (H10.out.2.mono HR8.out.2.1.size)⟩
      ·rw [HFE.out]
       exact atOk_app (atOk_take HL9.out k) (atOk_app (atOk_nil _) (atOk_drop HL9.out (k + 1)))
      ·have e : R.length = k + (n - (k + 1)) := by rw [HFE.out]; simp; try omega
       rw [e, List.nil_append, atcs_app]; exact H10.out.1
     ·have hFn : (0 : Int) < (FV.length : Int) := by omega
      have HFE := Hy (show R = L.take k ++ ([(t, FV)] ++ L.drop (k + 1)) by rw [HPl.out, HFV.out, if_neg (fun e => hF0 (by rw [e]; rfl))])
      go_wp2_with (first
       | (at_builtin; refine wpList_pushm rfl (.tmp 107) (.tmp 109) 22 45 rfl W8.heap.size 2 40 (.agg #[.string ByteArray.empty, .slice none 0 0]) Tryz.sninfo45 Tryz.underlying22 rfl (by decide) 1 [.string ⟨t.toArray⟩, .slice fa FV.length fc] rfl ?c0p _ _ _ rfl _ rfl ?c3p H9.out.1 ?c1p ?c2p H9.out.2.size ?_)
       | go_in)
      case c0p => intro u hu; simp at hu; rcases hu with rfl | rfl <;> rfl
      try (case c1p => unfold maxLen; omega)
      try (case c2p => omega)
      case c3p => first | rfl | simp
      intro v2 w10 g1 g2
      obtain ⟨a10, c10, rfl⟩ := ownsRow_slice g1
      have hb10 := H9.out.2.trans g2
      have HG := Hy (An g1 hb10)
      have HO9 := Hy (ownsRow_below HO8.out hb10)
      have HL9 := Hy (atOk_below HL8.out hb10)
      clear g1 g2 hb10 r0 r1
      go_wp2_with (first
       | (at_builtin; refine wpList_appendr rfl (.tmp 111) (.tmp 112) 22 45 rfl W8.heap.size 2 40 (.agg #[.string ByteArray.empty, .slice none 0 0]) Tryz.sninfo45 Tryz.underlying22 rfl (by decide) _ _ _ rfl HG.out.1 _ (n - (k + 1)) (atcs (Lq.drop (k + 1))) rfl ?c3q ?c4q ?c1q ?c2q HG.out.2.size ?_)
       | go_in)
      case c3q => first | exact rd_drop2 HO9.out (k + 1) _ (by omega) | exact rd_zero2 _ _ _ _ (List.drop_of_length_le (by omega))
      case c4q => exact atcs_ones (w := w10) (atOk_drop HL9.out (k + 1))
      try (case c1q => unfold maxLen; omega)
      try (case c2q => omega)
      intro v3 w11 g1 g2 g3
      have hb11 := below_chg HG.out.2 HG.out.2.size HG.out.1 g2
      obtain ⟨a11, c11, rfl⟩ := ownsRow_slice g1
      have H11 := Hy (An g1 hb11)
      have hL11 := atOk_below HL8.out hb11
      have HL9 := Hy hL11
      have hlq := HQ.out.1
      have hnn := HNn.out
      clear g1 g2 g3 hb11
      go_wp2
      go_ret
      refine ⟨_, rfl, ⟨(Lq.take k) ++ ([(t, .slice fa FV.length fc)] ++ (Lq.drop (k + 1))), W8.heap.size, ?_, ?_⟩, HR8.out.2.1.trans (H11.out.2.mono HR8.out.2.1.size)⟩
      ·rw [HFE.out]
       exact atOk_app (atOk_take HL9.out k) (atOk_app (atOk_one (ownsRow_below HR8.out.1 H11.out.2)) (atOk_drop HL9.out (k + 1)))
      ·have e : R.length = k + 1 + (n - (k + 1)) := by rw [HFE.out]; simp; try omega
       rw [e, atcs_app, atcs_app]; exact H11.out.1
theorem put_hit1 (K : Nat) (L : List Atr) (Lq : List (List UInt8 × Value)) (t : List UInt8) (V : List (List UInt8)) (B g : Nat) (av : Value) (w : World) (hq : AtOk w Lq L) (hr : w.ownsRow B 45 2 (.slice (some ⟨g, 0, none⟩) (K + 1) (K + 1)) (K + 1) (atcs Lq)) (hn : L.length = K + 1) (hV : TxR w av V) (hln : (K + 1) <= 100000) (hlV : V.length <= 100000)
  (hlL : ∀ a ∈ L, a.2.length <= 100000) (hK : putK L t < L.length) (he : L[putK L t].1 = t) (hKe : putK L t = K) :
  Calls Tryz.prog 80 #[.slice (some ⟨g, 0, none⟩) (K + 1) (K + 1), .agg #[.string ⟨t.toArray⟩, av]] w (PaPost10 (putL L t V) w) := by
 have HQ := Hy hq
 have HR := Hy hr
 have HNn := Hy hn
 have hA : ∀ k, putK L t = k -> ∀ h : k < L.length, L[k].1 = t /\ ¬ L[k].1 < t /\ putV L t = L[k].2 := by rintro k rfl h; exact ⟨he, putK_at hK, by unfold putV; rw [dif_pos hK, if_pos he]⟩
 have hB : ∀ k, putK L t = k -> ∀ j, j < k -> ∀ hj : j < L.length, L[j].1 < t := by rintro k rfl j h hj; exact putK_lt j h hj
 obtain ⟨X, hX⟩ : ∃ X, putV L t = X := ⟨_, rfl⟩
 have hX1 : X.length <= 100000 := by
  rw [<- hX]; unfold putV; rw [dif_pos hK, if_pos he]
  exact hlL _ (List.getElem_mem hK)
 have hP : ∀ k, putK L t = k -> putL L t V = L.take k ++ ((if V.foldl onS1 X = [] then [] else [(t, V.foldl onS1 X)]) ++ L.drop (k + 1)) := by
  rintro k rfl
  rw [<- hX]; unfold putL putR; rw [dif_pos hK, if_pos he]
 obtain ⟨R, hRq⟩ : ∃ R, putL L t V = R := ⟨_, rfl⟩
 rw [hRq] at hP ⊢
 clear he
 rw [hKe] at hK
 have hKa := hA K hKe hK
 rw [hX] at hKa
 have HKa := Hy hKa
 have HKl := Hy (hB K hKe)
 have HPl := Hy (hP K hKe)
 clear hA hB hP hKe hKa
 have hKn : K < (K + 1) := by omega
 have hcap : (K + 1) <= (K + 1) := by
  rcases hr.2 with ⟨e, _⟩ | ⟨g', cap', cur, e, _, _, h, _⟩
  ·cases e
  ·exact Nat.le_refl _
 have HXl := Hy hX1
 have hV2 := hV
 obtain ⟨va, vc, rfl, hvc⟩ := hV
 have HV := Hy hvc
 obtain ⟨m, hm⟩ : ∃ m, V.length = m := ⟨_, rfl⟩
 have HVl := Hy hm
 have HVt := Hy (show (V.take m).foldl onS1 X = V.foldl onS1 X by rw [<- hm, List.take_length])
 have HSt := Hy (fun i hi => fo_step (X := X) (V := V) i hi)
 have HFl := Hy (fun i => show ((V.take i).foldl onS1 X).length <= 200000 by
  have h1 := fo_len X (V.take i)
  have h2 := HXl.out
  rw [List.length_take] at h1
  omega)
 rw [hm] at hlV ⊢
 obtain ⟨W1, hW1⟩ : ∃ W1, w.alloc (.cells #[.string ⟨t.toArray⟩, .slice va m vc] 45) = W1 := ⟨_, rfl⟩
 have k1 : Below w.heap.size w W1 := by rw [<- hW1]; exact (Below.refl _ w).alloc (Nat.le_refl _) _
 have x1 : W1.heap[w.heap.size]? = some (.cells #[.string ⟨t.toArray⟩, .slice va m vc] 45 (0, 0)) := by rw [<- hW1]; exact heap_alloc_new w _
 have HX1 := Hy (An k1 x1)
 have HW1 := Hy hW1
 have hlq := hq.1
 have hgl : g < w.heap.size := by
  rcases hr.2 with ⟨e, _⟩ | ⟨g', cap', cur, e, _, hg, _⟩
  ·cases e
  ·injection e with e1 e2 e3
   injection e1 with e1
   injection e1 with e1 _ _
   subst e1
   exact obj_lt hg
 have HC := Hy (fun j (hj : j < (K + 1)) (hj2 : j < L.length) => show w.cell? ⟨g, j * 2, none⟩ = some (.string ⟨L[j].1.toArray⟩) by
  obtain ⟨h1, _⟩ := atcs_at Lq j (by omega)
  rw [<- (hq.2 j (by omega) hj2).1]
  exact (hr.cellAt _ (by omega)).trans h1)
 clear hvc hm hX hX1 hW1 hlL k1 x1 hq hr hV2 hRq
 go_enter Tryz.func80, Tryz.ntmps80
 go_wp2
 rw [HW1.out]
 go_loopw [5] (fun v wr => ∃ k : Nat, k <= K /\ v = .int .i64 (k : Nat) /\ Below W1.heap.size W1 wr) (fun v _ => K - (intOf v).toNat)
 case atStart => exact ⟨0, by omega, rfl, Below.refl _ _⟩
 case round =>
  obtain ⟨k, hk, rfl, hb⟩ := hrel
  have y1 := obj_below HX1.out.2 hb (obj_lt HX1.out.2)
  obtain ⟨b0, b1⟩ := obj2s y1
  have hbw := HX1.out.1.trans (hb.mono HX1.out.1.size)
  have HB := Hy (An hb hbw)
  by_cases hkK : k < K
  ·have hkl : (k : Int) < (K : Int) + 1 := by omega
   have hkL : k < L.length := by rw [HNn.out]; omega
   have d1 := (hbw.cell (p := ⟨g, k * 2, none⟩) hgl).trans (HC.out k (by omega) hkL)
   have hls := lt9_t (ltB_iff.2 (HKl.out k hkK hkL))
   obtain ⟨nm, hnm⟩ : ∃ nm, L[k].1 = nm := ⟨_, rfl⟩
   rw [hnm] at d1 hls
   clear hb hbw y1 hnm
   go_wp2_with fail
   go_quiet (fail)
   have HB9 := Hy (below_dn HB.out.1 nq)
   go_wp2
   exact ⟨⟨k + 1, by omega, by go_num, HB9.out⟩, by simp [intOf]; omega⟩
  ·obtain rfl : k = K := by omega
   have hkl : (k : Int) < (k : Int) + 1 := by omega
   have d1 := (hbw.cell (p := ⟨g, k * 2, none⟩) hgl).trans (HC.out k hKn hK)
   have hls := lt9_f (show ltB L[k].1 t = false by
    cases h : ltB L[k].1 t
    ·rfl
    ·exact absurd (ltB_iff.1 h) HKa.out.2.1)
   have hkq : k < Lq.length := by omega
   have hz : Lq[k].1 = L[k].1 /\ TxR w Lq[k].2 L[k].2 /\ SlOk Lq[k].2 := by obtain ⟨z1, BZ, zo⟩ := HQ.out.2 k hkq hK; exact ⟨z1, txR_owns zo, slOk_owns zo⟩
   rw [<- HKa.out.2.2] at hz
   obtain ⟨xv, hxv⟩ : ∃ v, Lq[k].2 = v := ⟨_, rfl⟩
   have w1 := (hbw.cell (p := ⟨g, k * 2 + 1, none⟩) hgl).trans ((HR.out.cellAt (k * 2 + 1) (by omega)).trans ((atcs_at Lq k hkq).2))
   rw [hxv] at w1 hz
   have HXV := Hy hz.2
   obtain ⟨_, ⟨xa, xc, rfl, _⟩, _⟩ := hz
   rw [HKa.out.1] at d1 hls
   clear hb hbw hxv
   go_wp2_with fail
   go_quiet (fail)
   obtain ⟨W2, hW2⟩ : ∃ W2, wr.drewN nq = W2 := ⟨_, rfl⟩
   rw [hW2]
   have k2 : Below wr.heap.size wr W2 := by rw [<- hW2]; exact below_dn (Below.refl _ _) nq
   have d2 := (k2.cell (p := ⟨g, k * 2, none⟩) (Lib.lt_of_cell d1)).trans d1
   have w2 := (k2.cell (p := ⟨g, k * 2 + 1, none⟩) (Lib.lt_of_cell w1)).trans w1
   have y2 := obj_below y1 k2 (obj_lt y1)
   obtain ⟨W3, hW3⟩ : ∃ W3, W2.alloc (.cells #[.string ⟨t.toArray⟩, .slice none 0 0] 45) = W3 := ⟨_, rfl⟩
   have k3 : Below W2.heap.size W2 W3 := by rw [<- hW3]; exact (Below.refl _ W2).alloc (Nat.le_refl _) _
   have z3 : W3.heap[W2.heap.size]? = some (.cells #[.string ⟨t.toArray⟩, .slice none 0 0] 45 (0, 0)) := by rw [<- hW3]; exact heap_alloc_new W2 _
   have y3 := obj_below y2 k3 (obj_lt y2)
   have d3 := (k3.cell (p := ⟨g, k * 2, none⟩) (Lib.lt_of_cell d2)).trans d2
   have w3 := (k3.cell (p := ⟨g, k * 2 + 1, none⟩) (Lib.lt_of_cell w2)).trans w2
   obtain ⟨bX, hbX⟩ : ∃ bX, W2.heap.size = bX := ⟨_, rfl⟩
   have HbX := Hy (show w.heap.size < bX by rw [<- hbX]; exact obj_lt y2)
   have HB3 := Hy (HB.out.2.trans ((k2.trans (k3.mono k2.size)).mono HB.out.2.size))
   rw [hbX] at z3
   have HZ3 := Hy (An y3 z3)
   have HW3 := Hy hW3
   have HbXe := Hy hbX
   clear b0 b1 d1 w1 hW2 hW3 hbX z3 y3 k2 k3
   obtain ⟨b0, b1⟩ := obj2s y2
   have D3 := Hy (An d3 w3)
   have hck0 : ¬ (k + 1) = k := by omega
   clear d3 w3 y1 y2
   go_wp2_with fail
   rw [HW3.out, HbXe.out]
   clear b0 b1 d2 w2
   have d3 := D3.out.1
   have w3 := D3.out.2
   have y3 := HZ3.out.1
   have z3 := HZ3.out.2
   obtain ⟨b0, b1⟩ := obj2s y3
   obtain ⟨i0, i1⟩ := obj2s z3
   clear y3 z3
   go_quiet (fail)
   obtain ⟨W4a, hW4a⟩ : ∃ W4, W3.drewN nq = W4 := ⟨_, rfl⟩
   rw [hW4a]
   have k4 : Below W3.heap.size W3 W4a := by rw [<- hW4a]; exact below_dn (Below.refl _ _) nq
   have y4 := obj_below HZ3.out.1 k4 (obj_lt HZ3.out.1)
   have z4 := obj_below HZ3.out.2 k4 (obj_lt HZ3.out.2)
   have hk4 := HB3.out.trans (k4.mono HB3.out.size)
   have d4 := (k4.cell (p := ⟨g, k * 2, none⟩) (Lib.lt_of_cell d3)).trans d3
   have w4 := (k4.cell (p := ⟨g, k * 2 + 1, none⟩) (Lib.lt_of_cell w3)).trans w3
   obtain ⟨W4, hW4⟩ : ∃ W4, (W4a.setCell ⟨bX, 0, none⟩ (.string ⟨t.toArray⟩)).setCell ⟨bX, 1, none⟩ (.slice xa X.length xc) = W4 := ⟨_, rfl⟩
   have hz5 : W4.heap[bX]? = some (.cells #[.string ⟨t.toArray⟩, .slice xa X.length xc] 45 (0, 0)) := by rw [<- hW4]; exact obj_set2 z4 _ _
   have hch5 : Chg (fun k => k = bX) W4a W4 := by rw [<- hW4]; exact ((Chg.refl (fun k => k = bX) W4a).setCell (p := ⟨bX, 0, none⟩) (fun _ => rfl) _).setCell (p := ⟨bX, 1, none⟩) (fun _ => rfl) _
   have hy5 := obj_chg (w := W4a) y4 hch5 (by have := HbX.out; omega)
   have hb5 : Below w.heap.size w W4 := hk4.trans (hch5.toBelow hk4.size (fun k _ e => by have := HbX.out; omega))
   have HF4 := Hy (An hb5 (An hy5 hz5))
   have HW4 := Hy hW4
   clear b0 b1 i0 i1 d3 w3 hW4 hW4a k4 hz5 hch5 hy5 hb5 hk4
   obtain ⟨b0, b1⟩ := obj2s y4
   obtain ⟨i0, i1⟩ := obj2s z4
   have fr0 := obj_free z4 0
   have fr1 := obj_free z4 1
   clear y4 z4
   have ib0 := (obj2s HF4.out.2.2).1
   have ib1 := (obj2s HF4.out.2.2).2
   go_wp2_with (first
    | (at_builtin; (try rw [HW4.out]); refine wpList_appendr rfl (.tmp 57) (.tmp 59) 43 9 rfl W4.heap.size 1 16 (.string ByteArray.empty) Tryz.scinfo9 Tryz.underlying43 rfl (by decide) (.slice none 0 0) 0 [] rfl (World.ownsRow_nil _ _ _ _) _ X.length (sc X) rfl ?c3 (sc_one_cell _) ?c1 ?c2 (Nat.le_refl _) ?_)
    | go_in)
   case c3 => exact rdRow_below (rd_txR HXV.out.1 HXV.out.2) HF4.out.1
   try (case c1 => have := HXl.out; unfold maxLen; omega)
   try (case c2 => have := HXl.out; omega)
   intro v1 w5 g1 g2 g3
   obtain ⟨oa, oc, rfl⟩ := ownsRow_slice g1
   have hb5 := chg_nil9c g2
   have g1 : w5.ownsRow W4.heap.size 9 1 (.slice oa X.length oc) X.length (sc X) := by simpa using g1
   have e0X : 0 + X.length = X.length := Nat.zero_add _
   try rw [e0X]
   have H5 := Hy (An g1 hb5)
   clear g1 g2 g3 hb5 e0X
   go_wp2
   go_loopw [8, 9] (fun o v wr => ∃ i : Nat, i <= m /\ v = .int .i64 (i : Nat) /\ wr.ownsRow W4.heap.size 9 1 o ((V.take i).foldl onS1 X).length (sc ((V.take i).foldl onS1 X)) /\ Below W4.heap.size W4 wr) (fun _ v _ => m - (intOf v).toNat)
   case atStart => exact ⟨0, by omega, rfl, H5.out.1, H5.out.2⟩
   case round =>
    obtain ⟨i, hi, rfl, hown, hb⟩ := hrel
    have y0 := obj_below HF4.out.2.1 hb (obj_lt HF4.out.2.1)
    have y1 := obj_below HF4.out.2.2 hb (obj_lt HF4.out.2.2)
    obtain ⟨p0, p1⟩ := obj2s y0
    obtain ⟨q0, q1⟩ := obj2s y1
    have hbw := HF4.out.1.trans (hb.mono HF4.out.1.size)
    by_cases hlt : i < m
    ·have hil : (i : Int) < (m : Int) := by omega
     have hiV : i < V.length := by rw [HVl.out]; exact hlt
     obtain ⟨gv, ov, rfl, hgv, e0w⟩ := HV.out i hiV
     have e0 := (hbw.cell (p := ⟨gv, ov + i, none⟩) hgv).trans e0w
     have hst := HSt.out i hiV
     have hfl := HFl.out i
     obtain ⟨y, hy⟩ : ∃ y, V[i] = y := ⟨_, rfl⟩
     rw [hy] at e0 hst
     obtain ⟨F0, hF⟩ : ∃ F0, (V.take i).foldl onS1 X = F0 := ⟨_, rfl⟩
     rw [hF] at hown hst hfl
     have htx := txR_owns hown
     obtain ⟨fa, fc, rfl, hfc⟩ := htx
     have HFc := Hy hfc
     have HI := Hy (An hown (An hb (An hst (An hfl (inL_step (F := F0) (y := y))))))
     have HTk := Hy (show inL (F0.take F0.length) y = inL F0 y by rw [List.take_length])
     obtain ⟨nf, hnf⟩ : ∃ nf, F0.length = nf := ⟨_, rfl⟩
     have HNf := Hy hnf
     rw [hnf]
     clear hown hb hst hbw y0 y1 e0w hfc hy hF hnf q0 q1
     go_wp2
     go_loopw [10, 11] (fun s v wz => ∃ j q : Nat, j <= nf /\ v = .int .i64 (j : Nat) /\ s = .bool (inL (F0.take j) y) /\ wz = wr.drewN q) (fun _ v _ => nf - (intOf v).toNat)
     case atStart => exact ⟨0, 0, by omega, rfl, rfl, rfl⟩
     case round =>
      obtain ⟨j, q, hj, rfl, rfl, rfl⟩ := hrel
      by_cases hjn : j < nf
      ·have hjl : (j : Int) < (nf : Int) := by omega
       have hjF : j < F0.length := by rw [HNf.out]; exact hjn
       obtain ⟨gf, of, rfl, hgf, f0⟩ := HFc.out j hjF
       have hs := HI.out.2.2.2.2 j hjF
       obtain ⟨z, hz⟩ : ∃ z, F0[j] = z := ⟨_, rfl⟩
       rw [hz] at f0 hs
       obtain ⟨b, hbq⟩ : ∃ b, inL (F0.take j) y = b := ⟨_, rfl⟩
       rw [hbq] at hs
       have HS := Hy hs
       rw [hbq]
       clear hz hbq hs
       cases b
       ·obtain ⟨c, hc⟩ : ∃ c, (z == y) = c := ⟨_, rfl⟩
        have HC := Hy hc
        cases c
        ·go_wp2
         go_quiet (fail)
         go_wp2
         exact ⟨⟨j + 1, q + nq, by omega, by go_num, by rw [HS.out, HC.out]; rfl, rfl⟩, by simp [intOf]; omega⟩
        ·go_wp2
         go_quiet (fail)
         go_wp2
         exact ⟨⟨j + 1, q + nq, by omega, by go_num, by rw [HS.out, HC.out]; rfl, rfl⟩, by simp [intOf]; omega⟩
       ·go_wp2
        go_quiet (fail)
        go_wp2
        exact ⟨⟨j + 1, q + nq, by omega, by go_num, by rw [HS.out]; rfl, rfl⟩, by simp [intOf]; omega⟩
      ·obtain rfl : j = nf := by omega
       have hT := HTk.out
       rw [HNf.out] at hT
       rw [hT]
       obtain ⟨b, hbq⟩ : ∃ b, inL F0 y = b := ⟨_, rfl⟩
       rw [hbq]
       obtain ⟨W7, hW7⟩ : ∃ W7, wr.drewN q = W7 := ⟨_, rfl⟩
       have hb7 : Below wr.heap.size wr W7 := by rw [<- hW7]; exact below_dn (Below.refl _ _) _
       have p07 := (hb7.cell (p := ⟨w.heap.size, 0, none⟩) (Lib.lt_of_cell p0)).trans p0
       have p17 := (hb7.cell (p := ⟨w.heap.size, 1, none⟩) (Lib.lt_of_cell p1)).trans p1
       have e07 := (hb7.cell (p := ⟨gv, ov + i, none⟩) (Lib.lt_of_cell e0)).trans e0
       have hr7 := ownsRow_below HI.out.1 hb7
       rw [HNf.out] at hr7
       have H7 := Hy (An hr7 (HI.out.2.1.trans (hb7.mono HI.out.2.1.size)))
       have hjb : j <= 200000 := by rw [<- HNf.out]; exact HI.out.2.2.2.1
       rw [hW7]
       clear hT hW7 hb7 p0 p1 e0 hr7
       cases b
       ·have HE := Hy (show (V.take (i + 1)).foldl onS1 X = F0 ++ [y] by rw [HI.out.2.2.1]; unfold onS1; rw [if_neg (by rw [hbq]; simp)])
        clear hbq
        go_wp2_with (first
         | (at_builtin; refine wpList_pushm rfl (.tmp 89) (.tmp 95) 43 9 rfl W4.heap.size 1 16 (.string ByteArray.empty) Tryz.scinfo9 Tryz.underlying43 rfl (by decide) 1 [.string ⟨y.toArray⟩] rfl ?c0 _ _ _ rfl _ rfl ?c3 H7.out.1 ?c1 ?c2 H7.out.2.size ?_)
         | go_in)
        case c0 => first | rfl | (intro u hu; simp at hu; subst hu; rfl)
        try (case c1 => unfold maxLen; omega)
        try (case c2 => omega)
        case c3 => first | rfl | simp
        intro v' w' g1 g2
        have H8 := Hy (An g1 (H7.out.2.trans g2))
        clear g1 g2
        go_wp2
        refine ⟨⟨i + 1, by omega, by go_num, ?_, H8.out.2⟩, by simp [intOf]; omega⟩
        rw [HE.out, List.length_append, sc_snoc1, HNf.out]; exact H8.out.1
       ·have HE := Hy (show (V.take (i + 1)).foldl onS1 X = F0 by rw [HI.out.2.2.1]; unfold onS1; rw [if_pos hbq])
        clear hbq
        go_wp2
        refine ⟨⟨i + 1, by omega, by go_num, ?_, H7.out.2⟩, by simp [intOf]; omega⟩
        rw [HE.out, HNf.out]; exact H7.out.1
    ·obtain rfl : i = m := by omega
     have hT := HVt.out
     rw [hT] at hown
     have hfl := HFl.out i
     rw [hT] at hfl
     obtain ⟨FV, hFV⟩ : ∃ FV, V.foldl onS1 X = FV := ⟨_, rfl⟩
     have HFV := Hy hFV
     rw [hFV] at hown hfl
     obtain ⟨fa, fc, rfl⟩ := ownsRow_slice hown
     have hfr := obj_free y1 1
     have x8 := obj_set y1 1 (.slice fa FV.length fc)
     have hch : Chg (fun k => k = bX) wr (wr.setCell ⟨bX, 1, none⟩ (.slice fa FV.length fc)) := (Chg.refl (fun k => k = bX) wr).setCell (p := ⟨bX, 1, none⟩) (fun _ => rfl) _
     have hbx : W4.heap.size <= wr.heap.size := hb.size
     have hbl := obj_lt HF4.out.2.2
     have hr8 := ownsRow_chg hown hch (fun k hk e => by have := (hown.lt k hk).1; omega)
     have hb8 : Below w.heap.size w (wr.setCell ⟨bX, 1, none⟩ (.slice fa FV.length fc)) := hbw.trans (hch.toBelow hbw.size (fun k _ e => by have := HbX.out; omega))
     obtain ⟨W8, hW8⟩ : ∃ W8, wr.setCell ⟨bX, 1, none⟩ (.slice fa FV.length fc) = W8 := ⟨_, rfl⟩
     rw [hW8] at x8 hr8 hb8
     have HW8 := Hy hW8
     have HX8 := Hy x8
     have HR8 := Hy (An hr8 (An hb8 hfl))
     have HL8 := Hy (atOk_below HQ.out hb8)
     have HO8 := Hy (ownsRow_below HR.out hb8)
     clear hown hb hbw y0 y1 hT hfl hFV x8 hch hbx hbl hr8 hb8 hW8 q0
     go_wp2_with (first
      | (at_builtin; (try rw [HW8.out]); refine wpList_appendr rfl (.tmp 99) (.tmp 102) 22 45 rfl W8.heap.size 2 40 (.agg #[.string ByteArray.empty, .slice none 0 0]) Tryz.sninfo45 Tryz.underlying22 rfl (by decide) (.slice none 0 0) 0 [] rfl (World.ownsRow_nil _ _ _ _) _ (k) (atcs (Lq.take k)) rfl ?c3 ?c4 ?c1 ?c2 (Nat.le_refl _) ?_)
      | go_in)
     case c3 => exact rd_take2 HO8.out k (by omega)
     case c4 => exact atcs_ones (atOk_take HL8.out k)
     try (case c1 => unfold maxLen; omega)
     try (case c2 => omega)
     intro v1 w9 g1 g2 g3
     have hb9 := chg_nil9c g2
     have g1 : w9.ownsRow W8.heap.size 45 2 v1 (k) (atcs (Lq.take k)) := by simpa using g1
     obtain ⟨a9, c9, rfl⟩ := ownsRow_slice g1
     have x9 := obj_below HX8.out hb9 (obj_lt HX8.out)
     obtain ⟨r0, r1⟩ := obj2s x9
     have H9 := Hy (An g1 hb9)
     have HO9 := Hy (ownsRow_below HO8.out hb9)
     have HL9 := Hy (atOk_below HL8.out hb9)
     clear g1 g2 g3 hb9 x9 q1
     by_cases hF0 : FV.length = 0
     ·have hFn : ¬ ((0 : Int) < (FV.length : Int)) := by omega
      have HFE := Hy (show R = L.take k ++ (([] : List Atr) ++ L.drop (k + 1)) by rw [HPl.out, HFV.out, if_pos (List.eq_nil_of_length_eq_zero hF0)])
      go_wp2_with (first
       | (at_builtin; refine wpList_appendr rfl (.tmp 111) (.tmp 112) 22 45 rfl W8.heap.size 2 40 (.agg #[.string ByteArray.empty, .slice none 0 0]) Tryz.sninfo45 Tryz.underlying22 rfl (by decide) _ (k) _ rfl H9.out.1 _ (0) (atcs (Lq.drop (k + 1))) rfl ?c3r ?c4r ?c1r ?c2r H9.out.2.size ?_)
       | go_in)
      case c3r => first | exact rd_drop2 HO9.out (k + 1) _ (by omega) | exact rd_zero2 _ _ _ _ (List.drop_of_length_le (by omega))
      case c4r => exact atcs_ones (w := w9) (atOk_drop HL9.out (k + 1))
      try (case c1r => unfold maxLen; omega)
      try (case c2r => omega)
      intro v2 w10 g1 g2 g3
      have hb10 := below_chg H9.out.2 H9.out.2.size H9.out.1 g2
      obtain ⟨a10, c10, rfl⟩ := ownsRow_slice g1
      have H10 := Hy (An g1 hb10)
      have hL10 := atOk_below HL8.out hb10
      have HL9 := Hy hL10
      have hlq := HQ.out.1
      have hnn := HNn.out
      clear g1 g2 g3 hb10
      go_wp2
      go_ret
      refine ⟨_, rfl, ⟨(Lq.take k) ++ (([] : List (List UInt8 × Value)) ++ (Lq.drop (k + 1))), W8.heap.size, ?_, ?_⟩, HR8.out.2.1.trans (H10.out.2.mono HR8.out.2.1.size)⟩
      ·rw [HFE.out]
       exact atOk_app (atOk_take HL9.out k) (atOk_app (atOk_nil _) (atOk_drop HL9.out (k + 1)))
      ·have e : R.length = k + (0) := by rw [HFE.out]; simp; try omega
       rw [e, List.nil_append, atcs_app]; exact H10.out.1
     ·have hFn : (0 : Int) < (FV.length : Int) := by omega
      have HFE := Hy (show R = L.take k ++ ([(t, FV)] ++ L.drop (k + 1)) by rw [HPl.out, HFV.out, if_neg (fun e => hF0 (by rw [e]; rfl))])
      go_wp2_with (first
       | (at_builtin; refine wpList_pushm rfl (.tmp 107) (.tmp 109) 22 45 rfl W8.heap.size 2 40 (.agg #[.string ByteArray.empty, .slice none 0 0]) Tryz.sninfo45 Tryz.underlying22 rfl (by decide) 1 [.string ⟨t.toArray⟩, .slice fa FV.length fc] rfl ?c0p _ _ _ rfl _ rfl ?c3p H9.out.1 ?c1p ?c2p H9.out.2.size ?_)
       | go_in)
      case c0p => intro u hu; simp at hu; rcases hu with rfl | rfl <;> rfl
      try (case c1p => unfold maxLen; omega)
      try (case c2p => omega)
      case c3p => first | rfl | simp
      intro v2 w10 g1 g2
      obtain ⟨a10, c10, rfl⟩ := ownsRow_slice g1
      have hb10 := H9.out.2.trans g2
      have HG := Hy (An g1 hb10)
      have HO9 := Hy (ownsRow_below HO8.out hb10)
      have HL9 := Hy (atOk_below HL8.out hb10)
      clear g1 g2 hb10 r0 r1
      go_wp2_with (first
       | (at_builtin; refine wpList_appendr rfl (.tmp 111) (.tmp 112) 22 45 rfl W8.heap.size 2 40 (.agg #[.string ByteArray.empty, .slice none 0 0]) Tryz.sninfo45 Tryz.underlying22 rfl (by decide) _ _ _ rfl HG.out.1 _ (0) (atcs (Lq.drop (k + 1))) rfl ?c3q ?c4q ?c1q ?c2q HG.out.2.size ?_)
       | go_in)
      case c3q => first | exact rd_drop2 HO9.out (k + 1) _ (by omega) | exact rd_zero2 _ _ _ _ (List.drop_of_length_le (by omega))
      case c4q => exact atcs_ones (w := w10) (atOk_drop HL9.out (k + 1))
      try (case c1q => unfold maxLen; omega)
      try (case c2q => omega)
      intro v3 w11 g1 g2 g3
      have hb11 := below_chg HG.out.2 HG.out.2.size HG.out.1 g2
      obtain ⟨a11, c11, rfl⟩ := ownsRow_slice g1
      have H11 := Hy (An g1 hb11)
      have hL11 := atOk_below HL8.out hb11
      have HL9 := Hy hL11
      have hlq := HQ.out.1
      have hnn := HNn.out
      clear g1 g2 g3 hb11
      go_wp2
      go_ret
      refine ⟨_, rfl, ⟨(Lq.take k) ++ ([(t, .slice fa FV.length fc)] ++ (Lq.drop (k + 1))), W8.heap.size, ?_, ?_⟩, HR8.out.2.1.trans (H11.out.2.mono HR8.out.2.1.size)⟩
      ·rw [HFE.out]
       exact atOk_app (atOk_take HL9.out k) (atOk_app (atOk_one (ownsRow_below HR8.out.1 H11.out.2)) (atOk_drop HL9.out (k + 1)))
      ·have e : R.length = k + 1 + (0) := by rw [HFE.out]; simp; try omega
       rw [e, atcs_app, atcs_app]; exact H11.out.1
theorem rput10_any (L : List Atr) (t : List UInt8) (V : List (List UInt8)) (lv av : Value) (w : World) (h : PaAt w lv L) (hV : TxR w av V) (hl : L.length <= 100000) (hlL : ∀ a ∈ L, a.2.length <= 100000) (hlV : V.length <= 100000) :
  Calls Tryz.prog 80 #[lv, .agg #[.string ⟨t.toArray⟩, av]] w (PaPost10 (putL L t V) w) := by
 obtain ⟨Lq, B, hq, hr⟩ := h
 rcases hr.2 with ⟨rfl, h0⟩ | ⟨g, cap, cur, rfl, _, _, hc, _⟩
 ·have : L = [] := List.eq_nil_of_length_eq_zero h0
  subst this
  exact put_nil t V av w hV hlV
 ·by_cases hK : putK L t < L.length
  ·by_cases he : L[putK L t].1 = t
   ·by_cases hck : cap = putK L t + 1
    ·have hn : L.length = putK L t + 1 := by omega
     have hr2 : w.ownsRow B 45 2 (.slice (some ⟨g, 0, none⟩) (putK L t + 1) (putK L t + 1)) (putK L t + 1) (atcs Lq) := by
      rw [hn, hck] at hr; exact hr
     rw [hn, hck]
     exact put_hit1 (putK L t) L Lq t V B g av w hq hr2 hn hV (by omega) hlV hlL hK he rfl
    ·exact put_hit2 L Lq t V B g L.length cap av w hq hr rfl hV hl hlV hlL hK he hck
   ·exact put_miss L Lq t V B g L.length cap av w hq hr rfl hV hl hlV hK he
  ·have hK2 : putK L t = L.length := by have := putK_le L t; omega
   by_cases hck : cap = L.length
   ·subst hck
    exact put_end1 L Lq t V B g L.length av w hq hr rfl hV hl hlV hK2
   ·exact put_end2 L Lq t V B g L.length cap av w hq hr rfl hV hl hlV hK2 hck
end Go.Proofs.YtpkbgkoocijegaaGreatDoor
