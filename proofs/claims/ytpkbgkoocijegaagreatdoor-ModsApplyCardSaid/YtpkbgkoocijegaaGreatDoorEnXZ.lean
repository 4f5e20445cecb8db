/- slices.Concat of two lists of attributes. The code's With and Same. The code's Without. -/
import Derived.Test.YtpkbgkoocijegaaGreatDoorLayw
import Derived.Test.YtpkbgkoocijegaaGreatDoorEnHO
import Derived.Test.YtpkbgkoocijegaaGreatDoorEnCE
set_option linter.unusedVariables false
set_option linter.unusedSimpArgs false
set_option maxHeartbeats 25600000
set_option maxRecDepth 100000
namespace Go.Proofs.YtpkbgkoocijegaaGreatDoor
open Go Go.RowKit Go.Proofs.BerK Go.Proofs.MemK Go.Proofs.UtfK
def AtTx (w : World) (Lq : List (List UInt8 × Value)) (L : List Atr) : Prop := Lq.length = L.length /\ ∀ i (h1 : i < Lq.length) (h2 : i < L.length), Lq[i].1 = L[i].1 /\ TxR w Lq[i].2 L[i].2 /\ SlOk Lq[i].2
theorem atTx_below {w w' : World} {Lq : List (List UInt8 × Value)} {L : List Atr} (h : AtTx w Lq L) (hb : Below w.heap.size w w') : AtTx w' Lq L :=
 ⟨h.1, fun i h1 h2 => ⟨(h.2 i h1 h2).1, txR_below (h.2 i h1 h2).2.1 hb, (h.2 i h1 h2).2.2⟩⟩
theorem atTx_app {w : World} {Lq Mq : List (List UInt8 × Value)} {L M : List Atr} (h : AtTx w Lq L) (h2 : AtTx w Mq M) : AtTx w (Lq ++ Mq) (L ++ M) := by
 have hl := h.1
 refine ⟨by rw [List.length_append, List.length_append, h.1, h2.1], fun i i1 i2 => ?_⟩
 rw [List.length_append] at i1 i2
 rw [List.getElem_append, List.getElem_append]
 by_cases hi : i < Lq.length
 ·rw [dif_pos hi, dif_pos (by omega)]
  exact h.2 i hi (by omega)
 ·rw [dif_neg hi, dif_neg (by omega)]
  have := h2.2 (i - Lq.length) (by omega) (by omega)
  simp only [hl] at this ⊢
  exact this
theorem atTx_ones {w : World} {Lq : List (List UInt8 × Value)} {L : List Atr} (h : AtTx w Lq L) : ∀ u ∈ atcs Lq, u.oneCell' = true := by
 intro u hu
 unfold atcs at hu
 obtain ⟨q, hq, hu⟩ := List.mem_flatMap.1 hu
 obtain ⟨i, hi, rfl⟩ := List.mem_iff_getElem.1 hq
 have hl := h.1
 simp only [List.mem_cons, List.not_mem_nil, or_false] at hu
 rcases hu with rfl | rfl
 ·rfl
 ·exact slOk_one (h.2 i hi (by omega)).2.2
theorem eaAt_own {w : World} {B : Nat} {v : Value} {Lq : List (List UInt8 × Value)} {L : List Atr} (hq : AtTx w Lq L) (h : w.ownsRow B 45 2 v L.length (atcs Lq)) : EaAt w v L := by
 refine ⟨slOk_owns h, ?_⟩
 have hl := hq.1
 rcases h.2 with ⟨rfl, h0⟩ | ⟨g, cap, cur, rfl, _, hg, _⟩
 ·exact ⟨none, 0, by rw [h0], fun i hi => by omega⟩
 ·refine ⟨_, cap, rfl, fun i hi => ?_⟩
  obtain ⟨h1, h2⟩ := atcs_at Lq i (by omega)
  obtain ⟨x1, x2, x3⟩ := hq.2 i (by omega) hi
  refine ⟨g, 0, Lq[i].2, rfl, (Array.getElem?_eq_some_iff.1 hg).1, ?_, ?_, x2, x3⟩
  ·rw [Nat.zero_add, <- x1]; exact (h.cellAt _ (by omega)).trans h1
  ·rw [Nat.zero_add]; exact (h.cellAt _ (by omega)).trans h2
theorem eaAt_rd {w : World} {v : Value} {A : List Atr} (h : EaAt w v A) : ∃ Lq, AtTx w Lq A /\ RdRow w 2 v A.length (atcs Lq) := by
 obtain ⟨hk, a, c, rfl, h⟩ := h
 have h2 : ∀ i : Fin A.length, ∃ vl, ∃ g o, a = some ⟨g, o, none⟩ /\ w.cell? ⟨g, o + i.1 * 2, none⟩ = some (.string ⟨A[i.1].1.toArray⟩) /\ w.cell? ⟨g, o + i.1 * 2 + 1, none⟩ = some vl /\ TxR w vl A[i.1].2 /\ SlOk vl := fun i => by
  obtain ⟨g, o, vl, h1, h2, h3, h4, h5, h6⟩ := h i.1 i.2
  exact ⟨vl, g, o, h1, h3, h4, h5, h6⟩
 obtain ⟨f, hf⟩ := Classical.axiomOfChoice h2
 have hl : (List.ofFn fun i : Fin A.length => (A[i.1].1, f i)).length = A.length := by simp
 refine ⟨List.ofFn fun i : Fin A.length => (A[i.1].1, f i), ⟨hl, fun i h1 h2 => ?_⟩, ?_⟩
 ·rw [List.getElem_ofFn]
  obtain ⟨g, o, _, _, _, x1, x2⟩ := hf ⟨i, h2⟩
  exact ⟨rfl, x1, x2⟩
 ·refine ⟨by rw [atcs_len, hl], ?_⟩
  rcases hk with e | ⟨ad, n, cc, e⟩
  ·injection e with e1 e2 e3
   subst e1 e3
   exact .inl ⟨by rw [e2], e2⟩
  ·injection e with e1 e2 e3
   subst e1
   refine .inr ⟨ad, c, rfl, fun j u hj => ?_⟩
   have hj2 : j < A.length * 2 := by
    have := (List.getElem?_eq_some_iff.1 hj).1
    rw [atcs_len, hl] at this
    exact this
   have hi : j / 2 < A.length := by omega
   obtain ⟨g, o, e4, c1, c2, _, _⟩ := hf ⟨j / 2, hi⟩
   injection e4 with e4
   subst e4
   rw [Addr.add_lit]
   obtain ⟨a1, a2⟩ := atcs_at (List.ofFn fun i : Fin A.length => (A[i.1].1, f i)) (j / 2) (by rw [hl]; exact hi)
   rw [List.getElem_ofFn] at a1 a2
   rcases (show j % 2 = 0 \/ j % 2 = 1 by omega) with q | q
   ·rw [show j / 2 * 2 = j by omega] at a1
    rw [a1] at hj
    injection hj with hj
    subst hj
    simp only [] at c1
    rw [show o + j / 2 * 2 = o + j by omega] at c1
    exact c1
   ·rw [show j / 2 * 2 + 1 = j by omega] at a2
    rw [a2] at hj
    injection hj with hj
    subst hj
    simp only [] at c2
    rw [show o + j / 2 * 2 + 1 = o + j by omega] at c2
    exact c2
def GrPost (w : World) (en : Ending) (w' : World) : Prop := ∃ a c, en = .returned (.slice a 0 c) /\ w'.ownsRow w.heap.size 45 2 (.slice a 0 c) 0 [] /\ Below w.heap.size w w'
theorem zeroC_size (c : Array Value) (n : Nat) : (Builtin.zeroCells c n).size = n * c.size := by
 unfold Builtin.zeroCells
 simp
theorem grow_any (n : Nat) (w : World) (h0 : 0 < n) (hn : n <= 1000000) : Calls Tryz.prog 225 #[.slice none 0 0, .int .i64 (n : Nat)] w (GrPost w) := by
 obtain ⟨i, hi, hz0, hz1, hz2⟩ := info_parts Tryz.sninfo45
 have hcon := Any8.slices_Grow_grow Tryz.growAtr i _ hi hz0 (by omega) none 0 0 n [] w (Nat.le_refl _) (by omega) (by rw [hz2]; omega) (by omega) (by simp) (fun _ => rfl) (fun a h => by cases h)
 change Calls Tryz.prog 225 _ _ _ at hcon
 refine hcon.mono ?_
 rintro en w' ⟨rfl, rfl⟩
 have hG1 := grownCap_ge w (0 + n) 0 (Tryz.growAtr_ren.t 25)
 have hG2 := grownCap_le_maxLen w (0 + n) 0 (Tryz.growAtr_ren.t 25) (by unfold maxLen; omega)
 have key : ∀ (z : Array Value) (G : Nat), z.size = 2 -> 0 + n <= G -> (([] : List Value).toArray ++ Builtin.zeroCells z (0 + n - 0) ++ Builtin.zeroCells z (G - (0 + n))).size = G * 2 := by
  intro z G hz hG
  rw [Array.size_append, Array.size_append, zeroC_size, zeroC_size, hz]
  simp only [List.size_toArray, List.length_nil]
  omega
 exact ⟨_, _, rfl, ⟨rfl, .inr ⟨w.heap.size, _, _, rfl, Nat.le_refl _, heap_alloc_new w.drew _, Nat.zero_le _, hG2, key _ _ rfl hG1, rfl⟩⟩, (Below.refl _ w).drew.alloc (Nat.le_refl _) _⟩
def CcPost (L : List Atr) (w : World) (en : Ending) (w' : World) : Prop := ∃ v, en = .returned v /\ EaAt w' v L /\ Below w.heap.size w w'
def szK (n m k : Nat) : Nat := if k = 0 then 0 else if k = 1 then n else n + m
def caK {α : Type} (A C : List α) (k : Nat) : List α := if k = 0 then [] else if k = 1 then A else A ++ C
theorem concat_any (A C : List Atr) (v1 v2 : Value) (g : Nat) (t : TypeId) (w : World) (hx : w.heap[g]? = some (.cells #[v1, v2] t (0, 0))) (h1 : EaAt w v1 A) (h2 : EaAt w v2 C) (hl : A.length <= 100000) (hl2 : C.length <= 100000) (hp : 0 < A.length + C.length) :
  Calls Tryz.prog 182 #[.slice (some ⟨g, 0, none⟩) 2 2] w (CcPost (A ++ C) w) := by
 obtain ⟨Aq, ha1, ha2⟩ := eaAt_rd h1
 obtain ⟨Cq, hc1, hc2⟩ := eaAt_rd h2
 obtain ⟨a1, e1, rfl⟩ := eaAt_slice h1
 obtain ⟨a2, e2, rfl⟩ := eaAt_slice h2
 have HK := Hy (fun k (hk : k < 2) => show ∃ a n c Lq, w.cell? ⟨g, k, none⟩ = some (.slice a n c) /\ szK A.length C.length (k + 1) = szK A.length C.length k + n /\ RdRow w 2 (.slice a n c) n (atcs Lq) /\ (∀ u ∈ atcs Lq, u.oneCell' = true) /\ caK Aq Cq (k + 1) = caK Aq Cq k ++ Lq by
  obtain ⟨c0, c1⟩ := obj2s hx
  rcases (show k = 0 \/ k = 1 by omega) with rfl | rfl
  ·exact ⟨_, _, _, Aq, c0, by simp [szK], ha2, atTx_ones ha1, by simp [caK]⟩
  ·exact ⟨_, _, _, Cq, c1, by simp [szK], hc2, atTx_ones hc1, by simp [caK]⟩)
 have HE := Hy (show caK Aq Cq 2 = Aq ++ Cq /\ szK A.length C.length 2 = (A ++ C).length by simp [caK, szK])
 have HT := Hy (atTx_app ha1 hc1)
 obtain ⟨SZ, hSZ⟩ : ∃ f, szK A.length C.length = f := ⟨_, rfl⟩
 have hSb : ∀ k, SZ k <= 200000 := fun k => by rw [<- hSZ]; unfold szK; split <;> (try split) <;> omega
 have hS0 : SZ 0 = 0 := by rw [<- hSZ]; rfl
 have hS2 : 0 < SZ 2 := by rw [<- hSZ]; simp [szK]; omega
 rw [hSZ] at HK HE
 obtain ⟨CA, hCA⟩ : ∃ f, caK Aq Cq = f := ⟨_, rfl⟩
 have hC0 : CA 0 = [] := by rw [<- hCA]; rfl
 rw [hCA] at HK HE
 have HG := Hy (fun w => grow_any (SZ 2) w hS2 (by have := hSb 2; omega))
 have HB := Hy (An hSb (An hS0 (An hC0 (obj_lt hx))))
 clear hx h1 h2 ha1 ha2 hc1 hc2 hSZ hSb hS0 hS2 hCA hC0 hl hl2 hp
 go_enter Tryz.func182, Tryz.ntmps182
 go_wp2
 go_loop [3, 11] (fun s v => ∃ k : Nat, k <= 2 /\ v = .int .i64 (k : Nat) /\ s = .int .i64 (SZ k : Nat)) (fun _ v => 2 - (intOf v).toNat)
 case atStart => exact ⟨0, by omega, rfl, by rw [HB.out.2.1]; rfl⟩
 case round =>
  obtain ⟨k, hk, rfl, rfl⟩ := hrel
  by_cases hlt : k < 2
  ·have hkl : (k : Int) < 2 := by omega
   obtain ⟨a, n, c, Lq, c0, hs, _⟩ := HK.out k hlt
   have hb1 := HB.out.1 (k + 1)
   rw [hs] at hb1
   obtain ⟨S, hS⟩ : ∃ x, SZ k = x := ⟨_, rfl⟩
   rw [hS] at hs hb1 ⊢
   have hq1 : (S : Int) + (n : Int) <= 9223372036854775807 := by omega
   have hq2 : ¬ ((S : Int) + (n : Int) < 0) := by omega
   have H := Hy hs
   clear hs hb1 hS
   go_wp2
   exact ⟨⟨k + 1, by omega, by go_num, by rw [H.out]; push_cast; go_num⟩, by simp [intOf]; omega⟩
  ·obtain rfl : k = 2 := by omega
   go_wp2_with fail
   refine (HG.out _).mono ?_
   rintro e w1 ⟨ga, gc, rfl, hr, hb⟩
   have H1 := Hy (An hr hb)
   clear hr hb
   go_wp2
   go_loopw [6, 27] (fun o v wr => ∃ k : Nat, k <= 2 /\ v = .int .i64 (k : Nat) /\ wr.ownsRow w.heap.size 45 2 o (SZ k) (atcs (CA k)) /\ Below w.heap.size w wr) (fun _ v _ => 2 - (intOf v).toNat)
   case atStart => exact ⟨0, by omega, rfl, by rw [HB.out.2.1, HB.out.2.2.1]; exact H1.out.1, H1.out.2⟩
   case round =>
    clear hlt hk
    obtain ⟨k, hk, rfl, hrow, hb⟩ := hrel
    by_cases hlt : k < 2
    ·have hkl : (k : Int) < 2 := by omega
     obtain ⟨a, n, c, Lq, c0w, hs, hrd, hones, hca⟩ := HK.out k hlt
     have c0 := (hb.cell (p := ⟨g, k, none⟩) HB.out.2.2.2).trans c0w
     have hrd' := rdRow_below hrd hb
     have hb1 := HB.out.1 (k + 1)
     rw [hs] at hb1
     obtain ⟨S, hS⟩ : ∃ x, SZ k = x := ⟨_, rfl⟩
     rw [hS] at hs hb1 hrow
     obtain ⟨oa, oc, rfl⟩ := ownsRow_slice hrow
     have H := Hy (An hrow (An hb (An hrd' (An hones (An hs hca)))))
     clear hrow hb hrd hrd' hones hs hca hS c0w
     go_wp2_with (first
      | (at_builtin; refine wpList_appendr rfl (.tmp 31) (.tmp 32) 22 45 rfl w.heap.size 2 40 (.agg #[.string ByteArray.empty, .slice none 0 0]) Tryz.sninfo45 Tryz.underlying22 rfl (by decide) _ S _ rfl H.out.1 _ n (atcs Lq) rfl H.out.2.2.1 H.out.2.2.2.1 ?c1 ?c2 H.out.2.1.size ?_)
      | go_in)
     case c1 => unfold maxLen; omega
     case c2 => omega
     intro v' w' g1 g2 g3
     have H6 := Hy (An g1 (below_chg H.out.2.1 H.out.2.1.size H.out.1 g2))
     clear g1 g2 g3
     go_wp2
     refine ⟨⟨k + 1, by omega, by go_num, ?_, H6.out.2⟩, by simp [intOf]; omega⟩
     rw [H.out.2.2.2.2.1, H.out.2.2.2.2.2, atcs_app]
     exact H6.out.1
    ·obtain rfl : k = 2 := by omega
     obtain ⟨oa, oc, rfl⟩ := ownsRow_slice hrow
     have H := Hy (An hrow hb)
     clear hrow hb
     go_wp2
     go_ret
     have hr := H.out.1
     rw [HE.out.1, HE.out.2] at hr
     refine ⟨_, rfl, ?_, H.out.2⟩
     rw [HE.out.2]
     exact eaAt_own (atTx_below HT.out H.out.2) hr
theorem eaAt_one {w : World} {g : Nat} {s : List UInt8} {V : List (List UInt8)} {v : Value} (hx : w.heap[g]? = some (.cells #[.string ⟨s.toArray⟩, v] 45 (0, 0))) (hv : TxR w v V) (hk : SlOk v) : EaAt w (.slice (some ⟨g, 0, none⟩) 1 1) [(s, V)] := by
 obtain ⟨c0, c1⟩ := obj2s hx
 refine ⟨.inr ⟨_, _, _, rfl⟩, some ⟨g, 0, none⟩, 1, rfl, fun i hi => ?_⟩
 have : i = 0 := by simp at hi; exact hi
 subst this
 exact ⟨g, 0, v, rfl, obj_lt hx, by simpa using c0, by simpa using c1, hv, hk⟩
theorem with_any (A : List Atr) (dn s : List UInt8) (V : List (List UInt8)) (av vv : Value) (w : World) (h : EaAt w av A) (hV : TxR w vv V) (hk : SlOk vv) (hf : FewE (A ++ [(s, V)])) :
  Calls Tryz.prog 132 #[.agg #[.string ⟨dn.toArray⟩, av], .string ⟨s.toArray⟩, vv] w (EnPostC dn (clA (A ++ [(s, V)])) w) := by
 obtain ⟨a, c, rfl⟩ := eaAt_slice h
 obtain ⟨va, vc, rfl, hVc⟩ := hV
 have hV : TxR w (.slice va V.length vc) V := ⟨va, vc, rfl, hVc⟩
 obtain ⟨W1, hW1⟩ : ∃ W1, (w.alloc (.cells #[.string ⟨dn.toArray⟩, .slice a A.length c] 24)).alloc (.cells #[.string ⟨#[]⟩, .slice none 0 0] 24) = W1 := ⟨_, rfl⟩
 obtain ⟨x0, x1, hb1, hz1⟩ := boxes10 hW1
 obtain ⟨W3, hW3⟩ : ∃ W3, W1.alloc (.cells #[.string ⟨s.toArray⟩, .slice va V.length vc] 45) = W3 := ⟨_, rfl⟩
 have hb3 : Below W1.heap.size W1 W3 := by rw [<- hW3]; exact (Below.refl _ W1).alloc (Nat.le_refl _) _
 have hz3 : W3.heap.size = w.heap.size + 3 := by rw [<- hW3]; simp; omega
 have x3 : W3.heap[w.heap.size + 1 + 1]? = some (.cells #[.string ⟨s.toArray⟩, .slice va V.length vc] 45 (0, 0)) := by rw [<- hW3, show w.heap.size + 1 + 1 = W1.heap.size by omega]; exact heap_alloc_new W1 _
 have hb13 := hb1.trans (hb3.mono hb1.size)
 have hE1 := eaAt_below h hb13
 have hE2 := eaAt_one x3 (txR_below hV hb13) hk
 have hl1 : A.length + 1 <= 1000 := by have := hf.1; rw [List.length_append] at this; exact this
 have HCo := Hy (fun w' (hb : Below W3.heap.size W3 w') g t (hx : w'.heap[g]? = some (.cells #[.slice a A.length c, .slice (some ⟨w.heap.size + 1 + 1, 0, none⟩) 1 1] t (0, 0))) => concat_any A [(s, V)] _ _ g t w' hx (eaAt_below hE1 hb) (eaAt_below hE2 hb) (by omega) (by simp) (by simp))
 have HCl := Hy (fun w' v (hE : EaAt w' v (A ++ [(s, V)])) => clean_any _ v w' hE hf)
 have x0' := obj_below x0 hb3 (by omega)
 have x1' := obj_below x1 hb3 (by omega)
 obtain ⟨p0, p1⟩ := obj2s x0'
 obtain ⟨r0, r1⟩ := obj2s x1'
 have g0 := obj_free x1' 0
 have g1 := obj_free x1' 1
 have hne : w.heap.size ≠ w.heap.size + 1 := by omega
 have hne3 : w.heap.size ≠ W3.heap.size := by omega
 have z0 : w.heap.size < W3.heap.size := by omega
 have z1 : w.heap.size + 1 < W3.heap.size := by omega
 have HX := Hy (An x1' (An hb13 hz3))
 have HW1 := Hy hW1
 have HW3 := Hy hW3
 have HZ1 := Hy hz1
 obtain ⟨n, hn⟩ : ∃ n, A.length = n := ⟨_, rfl⟩
 rw [hn] at p1 HCo HW1 ⊢
 obtain ⟨nl, hnl⟩ : ∃ n, V.length = n := ⟨_, rfl⟩
 rw [hnl] at HW3 ⊢
 obtain ⟨AX, hAX⟩ : ∃ X, A ++ [(s, V)] = X := ⟨_, rfl⟩
 rw [hAX] at HCo HCl ⊢
 obtain ⟨R, hR⟩ : ∃ R, clA AX = R := ⟨_, rfl⟩
 rw [hR] at HCl ⊢
 have kp0 : ∀ ob, (W3.drew.alloc ob).cell? ⟨w.heap.size, 0, none⟩ = some (.string ⟨dn.toArray⟩) := fun ob => (((Below.refl W3.drew.heap.size W3.drew).alloc (Nat.le_refl _) ob).cell (p := ⟨w.heap.size, _, none⟩) z0).trans p0
 have kp1 : ∀ ob, (W3.drew.alloc ob).cell? ⟨w.heap.size, 1, none⟩ = some (.slice a n c) := fun ob => (((Below.refl W3.drew.heap.size W3.drew).alloc (Nat.le_refl _) ob).cell (p := ⟨w.heap.size, _, none⟩) z0).trans p1
 have kq0 : ∀ ob, (W3.alloc ob).cell? ⟨w.heap.size, 0, none⟩ = some (.string ⟨dn.toArray⟩) := fun ob => (((Below.refl W3.heap.size W3).alloc (Nat.le_refl _) ob).cell (p := ⟨w.heap.size, _, none⟩) z0).trans p0
 have kq1 : ∀ ob, (W3.alloc ob).cell? ⟨w.heap.size, 1, none⟩ = some (.slice a n c) := fun ob => (((Below.refl W3.heap.size W3).alloc (Nat.le_refl _) ob).cell (p := ⟨w.heap.size, _, none⟩) z0).trans p1
 clear h hf x0 x1 x3 x0' x1' hb1 hb3 hb13 hz1 hz3 hW1 hW3 hn hR hAX hE1 hE2 hV hVc hk hl1 hnl
 go_enter Tryz.func132, Tryz.ntmps132
 go_wp2_with fail
 rw [HW1.out, HW3.out]
 go_region_held3 (fun w' => w'.cell? ⟨w.heap.size, 0, none⟩ = some (.string ⟨dn.toArray⟩) /\ w'.cell? ⟨w.heap.size, 1, none⟩ = some (.slice a n c)) (first | exact ⟨d0, d1⟩ | exact ⟨e0, e1⟩ | exact ⟨p0, p1⟩ | exact ⟨kp0 _, kp1 _⟩ | exact ⟨kq0 _, kq1 _⟩ | exact ⟨(cell_other2 hne _ _ _ _ _).trans d0, (cell_other2 hne _ _ _ _ _).trans d1⟩ | go_keep)
  (first
   | (go_at_call 182; (first | (with_reducible refine (HCo.out _ (((Below.refl _ W3).alloc (Nat.le_refl _) _).drew) _ _ (heap_alloc_new W3 _)).mono ?_) | (with_reducible refine (HCo.out _ ((Below.refl _ W3).drew.alloc (Nat.le_refl _) _) _ _ (heap_alloc_new W3.drew _)).mono ?_)); rintro en w5 ⟨v, rfl, hE5, hb5⟩; have hbV : Below W3.heap.size W3 w5 := (by first | exact (((Below.refl _ W3).alloc (Nat.le_refl _) _).drew).trans (hb5.mono (by show _ <= (W3.alloc _).heap.size; simp)) | exact ((Below.refl _ W3).drew.alloc (Nat.le_refl _) _).trans (hb5.mono (by simp))); have HE5 := Hy hE5; obtain ⟨ca, cc, rfl⟩ := eaAt_slice hE5; have e0 := (hbV.cell (p := ⟨w.heap.size, 0, none⟩) z0).trans p0; have e1 := (hbV.cell (p := ⟨w.heap.size, 1, none⟩) z0).trans p1; clear hE5 hb5)
   | (go_at_call 72; (with_reducible refine (HCl.out _ _ HE5.out).mono ?_); rintro en w6 ⟨v, Lq, rfl, hok, hr, hb6⟩; obtain ⟨ya, yc, rfl⟩ := ownsRow_slice hr; have hbW : Below W3.heap.size W3 w6 := hbV.trans (hb6.mono hbV.size); have d0 := (hbW.cell (p := ⟨w.heap.size, 0, none⟩) z0).trans p0; have d1 := (hbW.cell (p := ⟨w.heap.size, 1, none⟩) z0).trans p1; have s0 := (hbW.cell (p := ⟨w.heap.size + 1, 0, none⟩) z1).trans r0; have s1 := (hbW.cell (p := ⟨w.heap.size + 1, 1, none⟩) z1).trans r1; have k0 := (hbW.frozen (p := ⟨w.heap.size + 1, 0, none⟩) z1).trans g0; have k1 := (hbW.frozen (p := ⟨w.heap.size + 1, 1, none⟩) z1).trans g1; have HR := Hy (An hok (An hr (An hbW hbV))); clear hok hr hb6 hbW))
 all_goals
  have hx5 := obj_below HX.out.1 HR.out.2.2.1 z1
  have HY := Hy hx5
  clear hx5 d0 d1 e0 e1 p0 p1 kp0 kp1 kq0 kq1
  go_wp2
  obtain ⟨j0, j1⟩ := obj2s (set2_e HY.out (.string ⟨dn.toArray⟩) (.slice ya R.length yc))
  refine bodyPost_ret (v := .agg #[.string ⟨dn.toArray⟩, .slice ya R.length yc]) (by simp [results, Tryz.results132, go_sem, *]) rfl ?_
  exact ⟨_, Lq, rfl, atOk_set2 HR.out.1 HY.out (by decide) _ _, own_set2 (ownsRow_base HR.out.2.1 (by have := HR.out.2.2.2.size; omega)) HY.out (by decide) _ _, below_e2 (HX.out.2.1.trans (HR.out.2.2.1.mono HX.out.2.1.size)) (by omega) _ _⟩
theorem own_set1 {w : World} {B s n rb i : Nat} {e t : TypeId} {v : Value} {xs : List Value} {cs : Array Value} (h : w.ownsRow B e s v n xs) (hx : w.heap[rb]? = some (.cells cs t (0, 0))) (hne : e ≠ t) (x : Value) : (w.setCell ⟨rb, i, none⟩ x).ownsRow B e s v n xs := by
 refine ownsRow_chg (S := fun k => k = rb) h ((Chg.refl (fun k => k = rb) w).setCell (p := ⟨rb, i, none⟩) (fun _ => rfl) x) (fun k hk e2 => ?_)
 have e2 : k = rb := e2
 subst e2
 rcases h.2 with ⟨rfl, _⟩ | ⟨g, cap, cur, rfl, _, hg, _⟩
 ·cases hk
 ·have e1 : g = k := by injection hk
  subst e1
  rw [hg] at hx
  injection hx with hx
  injection hx with _ hx
  exact hne hx
theorem atOk_set1 {w : World} {rb i : Nat} {Lq : List (List UInt8 × Value)} {L : List Atr} {t : TypeId} {cs : Array Value} (h : AtOk w Lq L) (hx : w.heap[rb]? = some (.cells cs t (0, 0))) (h2 : 9 ≠ t) (x : Value) : AtOk (w.setCell ⟨rb, i, none⟩ x) Lq L :=
 ⟨h.1, fun j i1 i2 => ⟨(h.2 j i1 i2).1, by obtain ⟨_, B2, hB⟩ := h.2 j i1 i2; exact ⟨B2, own_set1 hB hx h2 x⟩⟩⟩
theorem set1_e {w : World} {g : Nat} {a b : Value} {t : TypeId} (h : w.heap[g]? = some (.cells #[a, b] t (0, 0))) (d : Value) : (w.setCell ⟨g, 1, none⟩ d).heap[g]? = some (.cells #[a, d] t (0, 0)) := by simpa using obj_set h 1 d
theorem obj1s {w : World} {g : Nat} {a : Value} {t : TypeId} (h : w.heap[g]? = some (.cells #[a] t (0, 0))) : w.cell? ⟨g, 0, none⟩ = some a := obj_cell h 0 _ rfl
theorem chg_cell {S : Nat -> Prop} {w w' : World} (h : Chg S w w') {g : Nat} (hg : g < w.heap.size) (hS : ¬ S g) (i : Nat) : w'.cell? ⟨g, i, none⟩ = w.cell? ⟨g, i, none⟩ := by
 unfold World.cell?
 have := h.block g hg hS
 simp only [this]
theorem without1_any (N t : List UInt8) (nb : Nat) (a : Option Addr) (n c : Nat) (W : World) (hc : W.cell? ⟨nb, 0, none⟩ = some (.string ⟨N.toArray⟩)) (hnb : nb < W.heap.size) :
  Calls Tryz.prog 134 #[.agg #[.string ⟨t.toArray⟩, .slice a n c], .pointer (some ⟨nb, 0, none⟩)] W (BB (t == N) W) := by
 have hc2 : ∀ ob, (W.alloc ob).cell? ⟨nb, 0, none⟩ = some (.string ⟨N.toArray⟩) := fun ob => (((Below.refl W.heap.size W).alloc (Nat.le_refl _) ob).cell (p := ⟨nb, _, none⟩) hnb).trans hc
 obtain ⟨R, hR⟩ : ∃ R, (t == N) = R := ⟨_, rfl⟩
 rw [hR]
 clear hc
 go_enter Tryz.func134, Tryz.ntmps134
 go_wp2
 go_ret
 exact bB_mk (by first | exact hR.symm | rfl | simp) ((Below.refl _ W).alloc (Nat.le_refl _) _)
theorem without_any (A : List Atr) (dn s : List UInt8) (av : Value) (w : World) (h : EaAt w av A) (hf : FewE A) :
  Calls Tryz.prog 78 #[.agg #[.string ⟨dn.toArray⟩, av], .string ⟨s.toArray⟩] w (EnPostC dn (woL A s) w) := by
 obtain ⟨a, c, rfl⟩ := eaAt_slice h
 obtain ⟨W1, hW1⟩ : ∃ W1, (w.alloc (.cells #[.string ⟨dn.toArray⟩, .slice a A.length c] 24)).alloc (.cells #[.string ⟨#[]⟩, .slice none 0 0] 24) = W1 := ⟨_, rfl⟩
 obtain ⟨x0, x1, hb1, hz1⟩ := boxes10 hW1
 have HCl := Hy (fun w' (hb : Below W1.heap.size W1 w') => eclean_any A dn _ w' (eaAt_below (eaAt_below h hb1) hb) hf)
 have HLo := Hy (fun w => show Calls Tryz.prog 74 #[.string ⟨s.toArray⟩] w (StrPost (lowL s) w) from lower_any ⟨s.toArray⟩ w)
 have HLl := Hy (An (fewG_cl (m := 1000) (k := 1000) hf).1 (fun q (hq : q ∈ clA A) => ((fewG_cl (m := 1000) (k := 1000) hf).2 q hq).1))
 have hwo : woL A s = (clA A).filter fun q => !(q.1 == lowL s) := rfl
 rw [hwo]
 obtain ⟨LM, hLM⟩ : ∃ x, lowL s = x := ⟨_, rfl⟩
 rw [hLM] at HLo ⊢
 have HX := Hy (An x0 (An x1 (An hb1 hz1)))
 have HW1 := Hy hW1
 obtain ⟨n, hn⟩ : ∃ n, A.length = n := ⟨_, rfl⟩
 rw [hn] at HCl HW1 HX ⊢
 obtain ⟨R, hR⟩ : ∃ R, clA A = R := ⟨_, rfl⟩
 rw [hR] at HCl HLl ⊢
 obtain ⟨F, hF⟩ : ∃ F, (R.filter fun q => !(q.1 == LM)) = F := ⟨_, rfl⟩
 rw [hF]
 have HF := Hy hF
 clear h hf x0 x1 hb1 hz1 hW1 hn hR hwo hLM hF
 go_enter Tryz.func78, Tryz.ntmps78
 go_wp2_with fail
 rw [HW1.out]
 refine (HLo.out _).mono ?_
 rintro e w2 ⟨rfl, hb2⟩
 have hz1 := HX.out.2.2.2
 have hs2 := hb2.size
 obtain ⟨W3, hW3⟩ : ∃ W3, w2.alloc (.cells #[.string ⟨LM.toArray⟩] 9) = W3 := ⟨_, rfl⟩
 have hb3 : Below W1.heap.size W1 W3 := by rw [<- hW3]; exact hb2.alloc hb2.size _
 have n3 : W3.heap[w2.heap.size]? = some (.cells #[.string ⟨LM.toArray⟩] 9 (0, 0)) := by rw [<- hW3]; exact heap_alloc_new w2 _
 have hz3 : W3.heap.size = w2.heap.size + 1 := by rw [<- hW3]; simp
 have y3 := obj_below HX.out.1 hb3 (by omega)
 have q3 := obj_below HX.out.2.1 hb3 (by omega)
 have HW3 := Hy hW3
 have H3 := Hy (An hb3 (An n3 (An hz3 (An y3 q3))))
 obtain ⟨e0, e1⟩ := obj2s y3
 rw [<- hW3] at e0 e1
 clear hb2 hb3 n3 y3 q3 hW3
 go_wp2_with fail
 rw [HW3.out]
 refine (HCl.out _ H3.out.1).mono ?_
 rintro e w4 ⟨v, Lq, rfl, hok, hr, hb4⟩
 clear e0 e1
 have hRl := HLl.out.1
 have y4 := obj_below H3.out.2.2.2.1 hb4 (by omega)
 have q4 := obj_below H3.out.2.2.2.2 hb4 (by omega)
 have n4 := obj_below H3.out.2.1 hb4 (by omega)
 obtain ⟨va, vc, rfl⟩ := ownsRow_slice hr
 obtain ⟨W5, hW5⟩ : ∃ W5, (w4.setCell ⟨w.heap.size, 0, none⟩ (.string ⟨dn.toArray⟩)).setCell ⟨w.heap.size, 1, none⟩ (.slice va R.length vc) = W5 := ⟨_, rfl⟩
 have y5 : W5.heap[w.heap.size]? = some (.cells #[.string ⟨dn.toArray⟩, .slice va R.length vc] 24 (0, 0)) := by rw [<- hW5]; exact set2_e y4 _ _
 have q5 : W5.heap[w.heap.size + 1]? = some (.cells #[.string ⟨#[]⟩, .slice none 0 0] 24 (0, 0)) := by rw [<- hW5]; exact obj_set_other (obj_set_other q4 (by show _ ≠ w.heap.size; omega) _) (by show _ ≠ w.heap.size; omega) _
 have n5 : W5.heap[w2.heap.size]? = some (.cells #[.string ⟨LM.toArray⟩] 9 (0, 0)) := by rw [<- hW5]; exact obj_set_other (obj_set_other n4 (by show _ ≠ w.heap.size; omega) _) (by show _ ≠ w.heap.size; omega) _
 have ok5 : AtOk W5 Lq R := by rw [<- hW5]; exact atOk_set2 hok y4 (by decide) _ _
 have hr5 : W5.ownsRow W3.heap.size 45 2 (.slice va R.length vc) R.length (atcs Lq) := by rw [<- hW5]; exact own_set2 hr y4 (by decide) _ _
 have hb5 : Below w.heap.size w W5 := by
  rw [<- hW5]
  exact below_e2 ((HX.out.2.2.1.trans (H3.out.1.mono HX.out.2.2.1.size)).trans (hb4.mono (by omega))) (Nat.le_refl _) _ _
 have hkB : ∀ k, (Value.slice va R.length vc).ownBlock = some k -> W3.heap.size <= k := fun k hk => (hr5.lt k hk).1
 have hcl : ClW (fun t => t == LM) (.slice va R.length vc) (.pointer (some ⟨w2.heap.size, 0, none⟩)) W5 := fun W t a n c _ hch => by
  have hnW : w2.heap.size < W5.heap.size := obj_lt n5
  refine without1_any LM t w2.heap.size a n c W ?_ (Nat.lt_of_lt_of_le hnW hch.size)
  exact (chg_cell hch hnW (fun e => by have := hkB _ e.symm; omega) 0).trans (obj1s n5)
 have HDel := Hy (delW_any (fun t => t == LM) Lq R.length W3.heap.size _ W5 _ hr5 (atOk_slice ok5 (fun q hq => by have := HLl.out.2 q hq; omega)) hcl (by omega))
 have HW5 := Hy hW5
 have H5 := Hy (An y5 (An q5 (An ok5 (An hr5 (An hb5 hkB)))))
 obtain ⟨c0, c1⟩ := obj2s y4
 have f0 := obj_free y4 0
 have f1 := obj_free y4 1
 obtain ⟨rl, hrl⟩ : ∃ x, R.length = x := ⟨_, rfl⟩
 rw [hrl] at HDel HW5 H5 ⊢
 clear hok hr y4 q4 n4 y5 q5 n5 ok5 hr5 hb5 hkB hcl hW5 hb4 hRl hrl
 go_wp2_with fail
 rw [HW5.out]
 refine HDel.out.mono ?_
 rintro e w6 ⟨v', rfl, hr6, hc6⟩
 clear c0 c1 f0 f1
 have y6 := obj_chg H5.out.1 hc6 (fun e => by have := H5.out.2.2.2.2.2 _ e.symm; omega)
 have q6 := obj_chg H5.out.2.1 hc6 (fun e => by have := H5.out.2.2.2.2.2 _ e.symm; omega)
 obtain ⟨za, zc, rfl⟩ := ownsRow_slice hr6
 have ok6 := atOk_filter (atOk_chg H5.out.2.2.1 H5.out.2.2.2.1 hc6) (fun t => t == LM)
 have hl6 := ok6.1
 have hb6 : Below w.heap.size w w6 := H5.out.2.2.2.2.1.trans (hc6.toBelow H5.out.2.2.2.2.1.size (fun k hk e => by have := H5.out.2.2.2.2.2 _ e.symm; omega))
 have hF := HF.out
 obtain ⟨Fq, hFq⟩ : ∃ F, (Lq.filter fun q => !(q.1 == LM)) = F := ⟨_, rfl⟩
 rw [hF, hFq] at ok6 hl6
 rw [hFq, hl6] at hr6
 rw [hFq, hl6]
 obtain ⟨c0, c1⟩ := obj2s y6
 obtain ⟨d0, d1⟩ := obj2s q6
 have f1 := obj_free y6 1
 have g0 := obj_free q6 0
 have g1 := obj_free q6 1
 have hne : w.heap.size + 1 ≠ w.heap.size := by omega
 obtain ⟨W7, hW7⟩ : ∃ W7, w6.setCell ⟨w.heap.size, 1, none⟩ (.slice za F.length zc) = W7 := ⟨_, rfl⟩
 have q7 : W7.heap[w.heap.size + 1]? = some (.cells #[.string ⟨#[]⟩, .slice none 0 0] 24 (0, 0)) := by rw [<- hW7]; exact obj_set_other q6 (by show _ ≠ w.heap.size; omega) _
 have ok7 : AtOk W7 Fq F := by rw [<- hW7]; exact atOk_set1 ok6 y6 (by decide) _
 have hr7 : W7.ownsRow w.heap.size 45 2 (.slice za F.length zc) F.length (atcs Fq) := by rw [<- hW7]; exact own_set1 (ownsRow_base hr6 (by omega)) y6 (by decide) _
 have hb7 : Below w.heap.size w W7 := by rw [<- hW7]; exact hb6.setCell (p := ⟨w.heap.size, 1, none⟩) (Nat.le_refl _) _
 have y7 : W7.heap[w.heap.size]? = some (.cells #[.string ⟨dn.toArray⟩, .slice za F.length zc] 24 (0, 0)) := by rw [<- hW7]; exact set1_e y6 _
 have H7 := Hy (An q7 (An ok7 (An hr7 hb7)))
 have HW7 := Hy hW7
 have k0 := (obj2s y7).1
 have k1 := (obj2s y7).2
 have l0 := (obj2s q7).1
 have l1 := (obj2s q7).2
 have m0 := obj_free q7 0
 have m1 := obj_free q7 1
 obtain ⟨fl, hfl⟩ : ∃ x, F.length = x := ⟨_, rfl⟩
 have HFl := Hy hfl
 rw [hfl] at hW7 H7 HW7 k1 ⊢
 rw [<- hW7] at k0 k1 l0 l1 m0 m1
 clear hr6 hc6 y6 q6 ok6 hl6 hb6 hF hFq q7 ok7 hr7 hb7 y7 hW7 hfl d0 d1 g0 g1
 go_wp2
 rw [HW7.out]
 obtain ⟨j0, j1⟩ := obj2s (set2_e H7.out.1 (.string ⟨dn.toArray⟩) (.slice za fl zc))
 refine bodyPost_ret (v := .agg #[.string ⟨dn.toArray⟩, .slice za fl zc]) (by simp [results, Tryz.results78, go_sem, *]) rfl ?_
 exact ⟨_, Fq, rfl, atOk_set2 H7.out.2.1 H7.out.1 (by decide) _ _, by rw [HFl.out]; exact own_set2 (by have := H7.out.2.2.1; exact this) H7.out.1 (by decide) _ _, below_e2 H7.out.2.2.2 (by omega) _ _⟩
end Go.Proofs.YtpkbgkoocijegaaGreatDoor
