/- The document's Clean: attributes in order, each type once. The code's Clean. -/
import Derived.Test.YtpkbgkoocijegaaGreatDoorEnUW
import Derived.Test.YtpkbgkoocijegaaGreatDoorEnFI
import Derived.Test.YtpkbgkoocijegaaGreatDoorDqC
import Derived.Test.YtpkbgkoocijegaaGreatDoorEnJN
set_option linter.unusedVariables false
set_option linter.unusedSimpArgs false
set_option maxHeartbeats 25600000
set_option maxRecDepth 100000
namespace Go.Proofs.YtpkbgkoocijegaaGreatDoor
open Go Go.RowKit Go.Proofs.BerK Go.Proofs.MemK Go.Proofs.UtfK
def EnPost10 (dn : List UInt8) (L : List Atr) (w : World) (en : Ending) (w' : World) : Prop := ∃ v, en = .returned (.agg #[.string ⟨dn.toArray⟩, v]) /\ PaAt w' v L /\ Below w.heap.size w w'
theorem paAt_slice {w : World} {v : Value} {L : List Atr} (h : PaAt w v L) : ∃ a c, v = .slice a L.length c := by
 obtain ⟨_, _, _, h⟩ := h
 exact ownsRow_slice h
theorem set2_e {w : World} {g : Nat} {a b : Value} {t : TypeId} (h : w.heap[g]? = some (.cells #[a, b] t (0, 0))) (c d : Value) : ((w.setCell ⟨g, 0, none⟩ c).setCell ⟨g, 1, none⟩ d).heap[g]? = some (.cells #[c, d] t (0, 0)) := by simpa using obj_set (obj_set h 0 c) 1 d
theorem below_e2 {B : Nat} {a w : World} (h : Below B a w) {g : Nat} (hg : B <= g) (x y : Value) : Below B a ((w.setCell ⟨g, 0, none⟩ x).setCell ⟨g, 1, none⟩ y) := (h.setCell (p := ⟨g, 0, none⟩) hg x).setCell (p := ⟨g, 1, none⟩) hg y
theorem own_set2 {w : World} {B s n rb : Nat} {e t : TypeId} {v : Value} {xs : List Value} {cs : Array Value} (h : w.ownsRow B e s v n xs) (hx : w.heap[rb]? = some (.cells cs t (0, 0))) (hne : e ≠ t) (x y : Value) : ((w.setCell ⟨rb, 0, none⟩ x).setCell ⟨rb, 1, none⟩ y).ownsRow B e s v n xs := by
 refine ownsRow_chg (S := fun k => k = rb) h (((Chg.refl (fun k => k = rb) w).setCell (p := ⟨rb, 0, none⟩) (fun _ => rfl) x).setCell (p := ⟨rb, 1, none⟩) (fun _ => rfl) y) (fun k hk e2 => ?_)
 have e2 : k = rb := e2
 subst e2
 rcases h.2 with ⟨rfl, _⟩ | ⟨g, cap, cur, rfl, _, hg, _⟩
 ·cases hk
 ·have e1 : g = k := by injection hk
  subst e1
  rw [hg] at hx
  injection hx with hx
  injection hx with _ hx
  exact hne hx
theorem paAt_set2 {w : World} {rb : Nat} {v : Value} {L : List Atr} {t : TypeId} {cs : Array Value} (h : PaAt w v L) (hx : w.heap[rb]? = some (.cells cs t (0, 0))) (h1 : 45 ≠ t) (h2 : 9 ≠ t) (x y : Value) : PaAt ((w.setCell ⟨rb, 0, none⟩ x).setCell ⟨rb, 1, none⟩ y) v L := by
 obtain ⟨Lq, B, hq, hr⟩ := h
 exact ⟨Lq, B, ⟨hq.1, fun i i1 i2 => ⟨(hq.2 i i1 i2).1, by obtain ⟨_, B2, hB⟩ := hq.2 i i1 i2; exact ⟨B2, own_set2 hB hx h2 x y⟩⟩⟩, own_set2 hr hx h1 x y⟩
theorem rclean10_any (dn : List UInt8) (A : List Atr) (v : Value) (w : World) (h : AtAt w v A) (hf : FewG 300 300 A) :
  Calls Tryz.prog 39 #[.agg #[.string ⟨dn.toArray⟩, v]] w (EnPost10 dn (clA A) w) := by
 obtain ⟨a, c, rfl, hcells⟩ := h
 have HM := Hy hcells
 have HF := Hy hf
 have HS := Hy (fun i (hi : i < A.length) => cl_step (A := A) i hi)
 have HT := Hy (show clA (A.take A.length) = clA A by rw [List.take_length])
 have HC0 := Hy (show clA (A.take 0) = [] by rw [List.take_zero]; exact cl_nil)
 obtain ⟨R, hR⟩ : ∃ R, clA A = R := ⟨_, rfl⟩
 rw [hR] at HT ⊢
 obtain ⟨n, hn⟩ : ∃ n, A.length = n := ⟨_, rfl⟩
 have HL := Hy hn
 have hnl : n <= 300 := by rw [<- hn]; exact hf.1
 rw [hn] at HT ⊢
 obtain ⟨W1, hW1⟩ : ∃ W1, (w.alloc (.cells #[.string ⟨dn.toArray⟩, .slice a n c] 24)).alloc (.cells #[.string ⟨#[]⟩, .slice none 0 0] 24) = W1 := ⟨_, rfl⟩
 have HX := Hy (boxes10 hW1)
 have HW1 := Hy hW1
 clear hcells hf hR hn hW1
 go_enter Tryz.func39, Tryz.ntmps39
 go_wp2
 try rw [HW1.out]
 go_loopw [3, 4] (fun lv v wr => ∃ k : Nat, k <= n /\ v = .int .i64 (k : Nat) /\ PaAt wr lv (clA (A.take k)) /\ Below (w.heap.size + 2) W1 wr) (fun _ v _ => n - (intOf v).toNat)
 case atStart => exact ⟨0, by omega, rfl, by rw [HC0.out]; exact paAt_nil _, Below.refl _ _⟩
 case round =>
  obtain ⟨k, hk, rfl, hpa, hb⟩ := hrel
  have x0 := obj_below HX.out.1 hb (by omega)
  have x1 := obj_below HX.out.2.1 hb (by omega)
  obtain ⟨b0, b1⟩ := obj2s x0
  obtain ⟨d0, d1⟩ := obj2s x1
  have f0 := obj_free x1 0
  have f1 := obj_free x1 1
  have zb := obj_lt x0
  have hbw := HX.out.2.2.1.trans (hb.mono (by omega))
  have HY := Hy (An x0 x1)
  clear x0 x1
  by_cases hlt : k < n
  ·clear d0 d1 f0 f1
   have hkl : (k : Int) < (n : Int) := by omega
   have hkm : k < A.length := by rw [HL.out]; exact hlt
   obtain ⟨g, o, vl, rfl, hg, e0w, e1w, hvl⟩ := HM.out k hkm
   have e0 := (hbw.cell (p := ⟨g, _, none⟩) hg).trans e0w
   have e1 := (hbw.cell (p := ⟨g, _, none⟩) hg).trans e1w
   have zg := Nat.lt_of_lt_of_le hg hbw.size
   have hvr := txR_below hvl hbw
   have hS := HS.out k hkm
   have hF := HF.out.2 _ (List.getElem_mem hkm)
   have hFl := fewG_cl (fewG_take HF.out k)
   obtain ⟨m, hmm⟩ : ∃ m, A[k].1 = m := ⟨_, rfl⟩
   obtain ⟨V, hV⟩ : ∃ V, A[k].2 = V := ⟨_, rfl⟩
   rw [hmm, hV] at hS hF
   rw [hmm] at e0
   rw [hV] at hvr
   obtain ⟨L, hLe⟩ : ∃ L, clA (A.take k) = L := ⟨_, rfl⟩
   rw [hLe] at hpa hS hFl
   have HLo := Hy (fun w => show Calls Tryz.prog 81 #[.string ⟨m.toArray⟩] w (StrPost (lowL m) w) from rlow5_any ⟨m.toArray⟩ (by show m.length <= _; omega) w)
   obtain ⟨LM, hLM⟩ : ∃ x, lowL m = x := ⟨_, rfl⟩
   rw [hLM] at HLo hS
   have HPu := Hy (fun w' (hb' : Below wr.heap.size wr w') => rput10_any L LM V u3 vl w' (paAt_below hpa hb') (txR_below hvr hb') (by have := hFl.1; omega) (fun p hp => by have := (hFl.2 p hp).2.1; omega) (by omega))
   obtain ⟨va, vc, rfl, _⟩ := hvr
   obtain ⟨nl, hnl2⟩ : ∃ x, V.length = x := ⟨_, rfl⟩
   rw [hnl2] at HPu e1
   have H := Hy (An hS hb)
   clear hpa hb hS hF hFl hmm hV hLe hLM e0w e1w hbw hvl hnl2 b0 hg
   go_wp2_with fail
   go_region_held3 (fun w' => w'.cell? ⟨w.heap.size, 1, none⟩ = some (.slice (some ⟨g, o, none⟩) n c) /\ w'.cell? ⟨g, o + k * 2, none⟩ = some (.string ⟨m.toArray⟩) /\ w'.cell? ⟨g, o + k * 2 + 1, none⟩ = some (.slice va nl vc)) (first | exact ⟨hb1, he0, he1⟩ | exact ⟨b1, e0, e1⟩ | go_keep)
    (first | (go_at_call 81; (with_reducible refine (HLo.out _).mono ?_); rintro en wz ⟨rfl, hb5⟩; have hbW : Below wr.heap.size wr wz := (by first | exact hbW.trans (hb5.mono hbW.size) | exact (Below.refl _ wr).drew.trans hb5); have hb1 := (hbW.cell (p := ⟨w.heap.size, 1, none⟩) zb).trans b1; have he0 := (hbW.cell (p := ⟨g, o + k * 2, none⟩) zg).trans e0; have he1 := (hbW.cell (p := ⟨g, o + k * 2 + 1, none⟩) zg).trans e1; clear hb5) | (go_at_call 80; (with_reducible refine (HPu.out _ (by first | exact hbW | exact (Below.refl _ wr).drew)).mono ?_); rintro en wz ⟨lv', rfl, hpa5, hb5⟩; have hbW : Below wr.heap.size wr wz := (by first | exact hbW.trans (hb5.mono hbW.size) | exact (Below.refl _ wr).drew.trans hb5); have hb1 := (hbW.cell (p := ⟨w.heap.size, 1, none⟩) zb).trans b1; have he0 := (hbW.cell (p := ⟨g, o + k * 2, none⟩) zg).trans e0; have he1 := (hbW.cell (p := ⟨g, o + k * 2 + 1, none⟩) zg).trans e1; have HPA := Hy (An hpa5 hbW); clear hb5 hpa5))
   go_wp2
   refine ⟨⟨k + 1, by omega, by go_num, ?_, H.out.2.trans (HPA.out.2.mono (by have := H.out.2.size; rw [HX.out.2.2.2] at this; exact this))⟩, by simp [intOf]; omega⟩
   rw [H.out.1]
   exact HPA.out.1
  ·obtain rfl : k = n := by omega
   rw [HT.out] at hpa
   obtain ⟨la, lc, rfl⟩ := paAt_slice hpa
   obtain ⟨rl, hrl⟩ : ∃ x, R.length = x := ⟨_, rfl⟩
   rw [hrl] at hpa ⊢
   have H := Hy (An hpa (An hbw hrl))
   clear hpa hb hbw hrl
   go_wp2
   obtain ⟨j0, j1⟩ := obj2s (set2_e HY.out.2 (.string ⟨dn.toArray⟩) (.slice la rl lc))
   refine bodyPost_ret (v := .agg #[.string ⟨dn.toArray⟩, .slice la rl lc]) (by simp [results, Tryz.results39, go_sem, *]) rfl ?_
   exact ⟨_, rfl, paAt_set2 H.out.1 HY.out.2 (by decide) (by decide) _ _, below_e2 H.out.2.1 (by omega) _ _⟩
def EnPostC (dn : List UInt8) (L : List Atr) (w : World) (en : Ending) (w' : World) : Prop := ∃ v Lq, en = .returned (.agg #[.string ⟨dn.toArray⟩, v]) /\ AtOk w' Lq L /\ w'.ownsRow w.heap.size 45 2 v L.length (atcs Lq) /\ Below w.heap.size w w'
theorem atOk_set2 {w : World} {rb : Nat} {Lq : List (List UInt8 × Value)} {L : List Atr} {t : TypeId} {cs : Array Value} (h : AtOk w Lq L) (hx : w.heap[rb]? = some (.cells cs t (0, 0))) (h2 : 9 ≠ t) (x y : Value) : AtOk ((w.setCell ⟨rb, 0, none⟩ x).setCell ⟨rb, 1, none⟩ y) Lq L :=
 ⟨h.1, fun i i1 i2 => ⟨(h.2 i i1 i2).1, by obtain ⟨_, B2, hB⟩ := h.2 i i1 i2; exact ⟨B2, own_set2 hB hx h2 x y⟩⟩⟩
theorem eaAt_slice {w : World} {v : Value} {A : List Atr} (h : EaAt w v A) : ∃ a c, v = .slice a A.length c := by
 obtain ⟨_, a, c, e, _⟩ := h
 exact ⟨a, c, e⟩
theorem eclean_any (A : List Atr) (dn : List UInt8) (av : Value) (w : World) (h : EaAt w av A) (hf : FewE A) : Calls Tryz.prog 36 #[.agg #[.string ⟨dn.toArray⟩, av]] w (EnPostC dn (clA A) w) := by
 have HA := Hy h
 obtain ⟨a, c, rfl⟩ := eaAt_slice h
 obtain ⟨W1, hW1⟩ : ∃ W1, (w.alloc (.cells #[.string ⟨dn.toArray⟩, .slice a A.length c] 24)).alloc (.cells #[.string ⟨#[]⟩, .slice none 0 0] 24) = W1 := ⟨_, rfl⟩
 obtain ⟨x0, x1, hb1, hz1⟩ := boxes10 hW1
 have HC := Hy (fun w' (hb : Below W1.heap.size W1 w') => clean_any A _ w' (eaAt_below (eaAt_below h hb1) hb) hf)
 obtain ⟨p0, p1⟩ := obj2s x0
 obtain ⟨r0, r1⟩ := obj2s x1
 have g0 := obj_free x1 0
 have g1 := obj_free x1 1
 have hne : w.heap.size ≠ w.heap.size + 1 := by omega
 have z0 : w.heap.size < W1.heap.size := by omega
 have z1 : w.heap.size + 1 < W1.heap.size := by omega
 have HX := Hy (An x1 (An hb1 hz1))
 have HW1 := Hy hW1
 obtain ⟨n, hn⟩ : ∃ n, A.length = n := ⟨_, rfl⟩
 rw [hn] at p1 HC HW1 ⊢
 obtain ⟨R, hR⟩ : ∃ R, clA A = R := ⟨_, rfl⟩
 rw [hR] at HC ⊢
 clear h hf x0 x1 hb1 hz1 hW1 hn hR HA
 go_enter Tryz.func36, Tryz.ntmps36
 go_wp2_with fail
 try rw [HW1.out]
 go_region_held3 (fun w' => w'.cell? ⟨w.heap.size, 0, none⟩ = some (.string ⟨dn.toArray⟩) /\ w'.cell? ⟨w.heap.size, 1, none⟩ = some (.slice a n c)) (first | exact ⟨d0, d1⟩ | exact ⟨p0, p1⟩ | exact ⟨(cell_other2 hne _ _ _ _ _).trans d0, (cell_other2 hne _ _ _ _ _).trans d1⟩ | go_keep)
  (first | (go_at_call 72; (with_reducible refine (HC.out _ ((Below.refl _ W1).drew)).mono ?_); rintro en w5 ⟨v, Lq, rfl, hok, hr, hb5⟩; obtain ⟨va, vc, rfl⟩ := ownsRow_slice hr; have hbW : Below W1.heap.size W1 w5 := (Below.refl _ W1).drew.trans hb5; have d0 := (hbW.cell (p := ⟨w.heap.size, 0, none⟩) z0).trans p0; have d1 := (hbW.cell (p := ⟨w.heap.size, 1, none⟩) z0).trans p1; have s0 := (hbW.cell (p := ⟨w.heap.size + 1, 0, none⟩) z1).trans r0; have s1 := (hbW.cell (p := ⟨w.heap.size + 1, 1, none⟩) z1).trans r1; have k0 := (hbW.frozen (p := ⟨w.heap.size + 1, 0, none⟩) z1).trans g0; have k1 := (hbW.frozen (p := ⟨w.heap.size + 1, 1, none⟩) z1).trans g1; have HR := Hy (An hok (An hr hbW)); clear hok hr hb5 hbW))
 all_goals
  have hx5 := obj_below HX.out.1 HR.out.2.2 (by omega)
  have HY := Hy hx5
  clear hx5 d0 d1
  go_wp2
  obtain ⟨j0, j1⟩ := obj2s (set2_e HY.out (.string ⟨dn.toArray⟩) (.slice va R.length vc))
  refine bodyPost_ret (v := .agg #[.string ⟨dn.toArray⟩, .slice va R.length vc]) (by simp [results, Tryz.results36, go_sem, *]) rfl ?_
  exact ⟨_, Lq, rfl, atOk_set2 HR.out.1 HY.out (by decide) _ _, own_set2 (ownsRow_base HR.out.2.1 (by show w.heap.size <= W1.heap.size; omega)) HY.out (by decide) _ _, below_e2 (HX.out.2.1.trans (HR.out.2.2.mono HX.out.2.1.size)) (by omega) _ _⟩
end Go.Proofs.YtpkbgkoocijegaaGreatDoor
