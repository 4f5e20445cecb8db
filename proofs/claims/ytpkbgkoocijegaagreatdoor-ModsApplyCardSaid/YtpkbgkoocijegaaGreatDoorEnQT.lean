/- Attributes in a row that is owned; their cells. The document's put: a type that is not there, ahead of others. The document's put: a type that is not there, behind all others. The document's put: into nothing. -/
import Derived.Test.YtpkbgkoocijegaaGreatDoorEnMP
import Derived.Test.YtpkbgkoocijegaaGreatDoorEnCE
import Derived.Test.YtpkbgkoocijegaaGreatDoorSnUW
set_option linter.unusedVariables false
set_option linter.unusedSimpArgs false
set_option maxHeartbeats 25600000
set_option maxRecDepth 100000
namespace Go.Proofs.YtpkbgkoocijegaaGreatDoor
open Go Go.RowKit Go.Proofs.BerK Go.Proofs.MemK Go.Proofs.UtfK
def AtOk (w : World) (Lq : List (List UInt8 × Value)) (L : List Atr) : Prop := Lq.length = L.length /\ ∀ i (h1 : i < Lq.length) (h2 : i < L.length), Lq[i].1 = L[i].1 /\ ∃ B, w.ownsRow B 9 1 Lq[i].2 L[i].2.length (sc L[i].2)
theorem atOk_below {w w' : World} {Lq : List (List UInt8 × Value)} {L : List Atr} (h : AtOk w Lq L) (hb : Below w.heap.size w w') : AtOk w' Lq L :=
 ⟨h.1, fun i h1 h2 => ⟨(h.2 i h1 h2).1, by obtain ⟨_, B, hB⟩ := h.2 i h1 h2; exact ⟨B, ownsRow_below hB hb⟩⟩⟩
theorem atOk_nil (w : World) : AtOk w [] [] := ⟨rfl, fun i h1 => by simp at h1⟩
theorem atOk_take {w : World} {Lq : List (List UInt8 × Value)} {L : List Atr} (h : AtOk w Lq L) (k : Nat) : AtOk w (Lq.take k) (L.take k) := by
 refine ⟨by rw [List.length_take, List.length_take, h.1], fun i h1 h2 => ?_⟩
 rw [List.length_take] at h1 h2
 rw [List.getElem_take, List.getElem_take]
 exact h.2 i (by omega) (by omega)
theorem atOk_drop {w : World} {Lq : List (List UInt8 × Value)} {L : List Atr} (h : AtOk w Lq L) (k : Nat) : AtOk w (Lq.drop k) (L.drop k) := by
 refine ⟨by rw [List.length_drop, List.length_drop, h.1], fun i h1 h2 => ?_⟩
 rw [List.length_drop] at h1 h2
 rw [List.getElem_drop, List.getElem_drop]
 exact h.2 (k + i) (by omega) (by omega)
theorem atOk_app {w : World} {Lq Mq : List (List UInt8 × Value)} {L M : List Atr} (h : AtOk w Lq L) (h2 : AtOk w Mq M) : AtOk w (Lq ++ Mq) (L ++ M) := by
 have hl := h.1
 refine ⟨by rw [List.length_append, List.length_append, h.1, h2.1], fun i i1 i2 => ?_⟩
 rw [List.length_append] at i1 i2
 rw [List.getElem_append, List.getElem_append]
 by_cases hi : i < Lq.length
 ·rw [dif_pos hi, dif_pos (by omega)]
  exact h.2 i hi (by omega)
 ·rw [dif_neg hi, dif_neg (by omega)]
  have := h2.2 (i - Lq.length) (by omega) (by omega)
  simp only [hl] at this ⊢
  exact this
theorem atOk_one {w : World} {B : Nat} {t : List UInt8} {V : List (List UInt8)} {v : Value} (h : w.ownsRow B 9 1 v V.length (sc V)) : AtOk w [(t, v)] [(t, V)] := by
 refine ⟨rfl, fun i h1 h2 => ?_⟩
 have : i = 0 := by simp at h1; exact h1
 subst this
 exact ⟨rfl, B, h⟩
theorem slOk_one {v : Value} (h : SlOk v) : v.oneCell' = true := by
 rcases h with rfl | ⟨ad, n, c, rfl⟩ <;> rfl
theorem slOk_owns {w : World} {B : Nat} {e : TypeId} {size : Nat} {v : Value} {n : Nat} {xs : List Value} (h : w.ownsRow B e size v n xs) : SlOk v := by
 rcases h.2 with ⟨rfl, rfl⟩ | ⟨g, cap, cur, rfl, _⟩
 ·exact .inl rfl
 ·exact .inr ⟨_, _, _, rfl⟩
theorem atcs_len (L : List (List UInt8 × Value)) : (atcs L).length = L.length * 2 := by
 induction L with
 | nil => rfl
 | cons c L ih =>
  have e : atcs (c :: L) = .string ⟨c.1.toArray⟩ :: c.2 :: atcs L := rfl
  rw [e]; simp only [List.length_cons, ih]; omega
theorem atcs_app (L M : List (List UInt8 × Value)) : atcs (L ++ M) = atcs L ++ atcs M := by simp [atcs]
theorem atcs_take (L : List (List UInt8 × Value)) (k : Nat) : atcs (L.take k) = (atcs L).take (k * 2) := by
 induction L generalizing k with
 | nil => simp [atcs]
 | cons c L ih =>
  have e : ∀ L, atcs (c :: L) = .string ⟨c.1.toArray⟩ :: c.2 :: atcs L := fun _ => rfl
  cases k with
  | zero => simp [atcs]
  | succ k =>
   rw [List.take_succ_cons, e, e, ih, show (k + 1) * 2 = k * 2 + 1 + 1 by omega, List.take_succ_cons, List.take_succ_cons]
theorem atcs_drop (L : List (List UInt8 × Value)) (k : Nat) : atcs (L.drop k) = (atcs L).drop (k * 2) := by
 induction L generalizing k with
 | nil => simp [atcs]
 | cons c L ih =>
  have e : ∀ L, atcs (c :: L) = .string ⟨c.1.toArray⟩ :: c.2 :: atcs L := fun _ => rfl
  cases k with
  | zero => simp
  | succ k =>
   rw [List.drop_succ_cons, e, ih, show (k + 1) * 2 = k * 2 + 1 + 1 by omega, List.drop_succ_cons, List.drop_succ_cons]
theorem atcs_ones {w : World} {Lq : List (List UInt8 × Value)} {L : List Atr} (h : AtOk w Lq L) : ∀ u ∈ atcs Lq, u.oneCell' = true := by
 intro u hu
 unfold atcs at hu
 obtain ⟨q, hq, hu⟩ := List.mem_flatMap.1 hu
 obtain ⟨i, hi, rfl⟩ := List.mem_iff_getElem.1 hq
 have hl := h.1
 simp only [List.mem_cons, List.not_mem_nil, or_false] at hu
 rcases hu with rfl | rfl
 ·rfl
 ·obtain ⟨_, B, hB⟩ := h.2 i hi (by omega)
  exact slOk_one (slOk_owns hB)
def PaAt (w : World) (v : Value) (L : List Atr) : Prop := ∃ Lq B, AtOk w Lq L /\ w.ownsRow B 45 2 v L.length (atcs Lq)
theorem paAt_below {w w' : World} {v : Value} {L : List Atr} (h : PaAt w v L) (hb : Below w.heap.size w w') : PaAt w' v L := by
 obtain ⟨Lq, B, h1, h2⟩ := h
 exact ⟨Lq, B, atOk_below h1 hb, ownsRow_below h2 hb⟩
theorem paAt_nil (w : World) : PaAt w (.slice none 0 0) [] := ⟨[], 0, atOk_nil w, World.ownsRow_nil _ _ _ _⟩
theorem paAt_ea {w : World} {v : Value} {L : List Atr} (h : PaAt w v L) : EaAt w v L := by
 obtain ⟨Lq, B, hq, h⟩ := h
 refine ⟨slOk_owns h, ?_⟩
 have hl := hq.1
 rcases h.2 with ⟨rfl, h0⟩ | ⟨g, cap, cur, rfl, _, hg, _⟩
 ·exact ⟨none, 0, by rw [h0], fun i hi => by omega⟩
 ·refine ⟨_, cap, rfl, fun i hi => ?_⟩
  obtain ⟨h1, h2⟩ := atcs_at Lq i (by omega)
  obtain ⟨x1, BB, xo⟩ := hq.2 i (by omega) hi
  have x2 := txR_owns xo
  have x3 := slOk_owns xo
  refine ⟨g, 0, Lq[i].2, rfl, (Array.getElem?_eq_some_iff.1 hg).1, ?_, ?_, x2, x3⟩
  ·rw [Nat.zero_add, <- x1]; exact (h.cellAt _ (by omega)).trans h1
  ·rw [Nat.zero_add]; exact (h.cellAt _ (by omega)).trans h2
def PaPost10 (L : List Atr) (w : World) (en : Ending) (w' : World) : Prop := ∃ v, en = .returned v /\ PaAt w' v L /\ Below w.heap.size w w'
theorem rd_zero2 (w : World) (ad : Addr) (c : Nat) (Lq : List (List UInt8 × Value)) (h : Lq = []) : RdRow w 2 (.slice (some ad) 0 c) 0 (atcs Lq) := by
 subst h
 exact ⟨rfl, .inr ⟨ad, c, rfl, fun j u hj => by simp [atcs] at hj⟩⟩
theorem rd_take2 {w : World} {B : Nat} {g n cap : Nat} {Lq : List (List UInt8 × Value)} (h : w.ownsRow B 45 2 (.slice (some ⟨g, 0, none⟩) n cap) n (atcs Lq)) (k : Nat) (hk : k <= n) : RdRow w 2 (.slice (some ⟨g, 0, none⟩) k cap) k (atcs (Lq.take k)) := by
 rw [atcs_take]; exact rdRow_take h k hk
theorem rd_drop2 {w : World} {B : Nat} {g n cap : Nat} {Lq : List (List UInt8 × Value)} (h : w.ownsRow B 45 2 (.slice (some ⟨g, 0, none⟩) n cap) n (atcs Lq)) (k c : Nat) (hk : k <= n) : RdRow w 2 (.slice (some ⟨g, k * 2, none⟩) (n - k) c) (n - k) (atcs (Lq.drop k)) := by
 rw [atcs_drop]; exact rdRow_drop h k c hk
theorem fo_step {X V : List (List UInt8)} (i : Nat) (hi : i < V.length) : (V.take (i + 1)).foldl onS1 X = onS1 ((V.take i).foldl onS1 X) V[i] := by
 rw [List.take_succ_eq_append_getElem hi, List.foldl_append]; rfl
theorem fo_len (X V : List (List UInt8)) : (V.foldl onS1 X).length <= X.length + V.length := by
 induction V generalizing X with
 | nil => simp
 | cons x V ih =>
  have h1 := ih (onS1 X x)
  have h2 : (onS1 X x).length <= X.length + 1 := by unfold onS1; split <;> simp
  simp only [List.foldl_cons, List.length_cons]
  omega
theorem inL_step {F : List (List UInt8)} {y : List UInt8} (j : Nat) (hj : j < F.length) : inL (F.take (j + 1)) y = (inL (F.take j) y || F[j] == y) := by
 rw [List.take_succ_eq_append_getElem hj, Bool.eq_iff_iff, inL_mem, Bool.or_eq_true, inL_mem, beq_iff_eq, List.mem_append, List.mem_singleton]
 constructor
 ·rintro (h | h)
  ·exact .inl h
  ·exact .inr h.symm
 ·rintro (h | h)
  ·exact .inl h
  ·exact .inr h.symm
theorem put_miss (L : List Atr) (Lq : List (List UInt8 × Value)) (t : List UInt8) (V : List (List UInt8)) (B g n cap : Nat) (av : Value) (w : World) (hq : AtOk w Lq L) (hr : w.ownsRow B 45 2 (.slice (some ⟨g, 0, none⟩) n cap) n (atcs Lq)) (hn : L.length = n) (hV : TxR w av V) (hln : n <= 100000) (hlV : V.length <= 100000)
  (hK : putK L t < L.length) (hne : L[putK L t].1 ≠ t) :
  Calls Tryz.prog 80 #[.slice (some ⟨g, 0, none⟩) n cap, .agg #[.string ⟨t.toArray⟩, av]] w (PaPost10 (putL L t V) w) := by
 have HQ := Hy hq
 have HR := Hy hr
 have HNn := Hy hn
 have hA : ∀ k, putK L t = k -> ∀ h : k < L.length, L[k].1 ≠ t /\ ¬ L[k].1 < t := by rintro k rfl h; exact ⟨hne, putK_at hK⟩
 have hB : ∀ k, putK L t = k -> ∀ j, j < k -> ∀ hj : j < L.length, L[j].1 < t := by rintro k rfl j h hj; exact putK_lt j h hj
 obtain ⟨X, hX⟩ : ∃ X, putV L t = X := ⟨_, rfl⟩
 have hX0 : X = [] := by rw [<- hX]; unfold putV; rw [dif_pos hK, if_neg hne]
 have hP : ∀ k, putK L t = k -> putL L t V = L.take k ++ ((if V.foldl onS1 X = [] then [] else [(t, V.foldl onS1 X)]) ++ L.drop k) := by
  rintro k rfl
  rw [<- hX]; unfold putL putR; rw [dif_pos hK, if_neg hne]
 obtain ⟨R, hRq⟩ : ∃ R, putL L t V = R := ⟨_, rfl⟩
 rw [hRq] at hP ⊢
 clear hne
 obtain ⟨K, hKe⟩ : ∃ K, putK L t = K := ⟨_, rfl⟩
 rw [hKe] at hK
 have HKa := Hy (hA K hKe hK)
 have HKl := Hy (hB K hKe)
 have HPl := Hy (hP K hKe)
 clear hA hB hP hKe
 have hKn : K < n := by omega
 have hcap : n <= cap := by
  rcases hr.2 with ⟨e, _⟩ | ⟨g', cap', cur, e, _, _, h, _⟩
  ·cases e
  ·injection e with e1 e2 e3
   omega
 have HXl := Hy (show X.length <= 100000 by rw [hX0]; simp)
 have HXe := Hy hX0
 have hV2 := hV
 obtain ⟨va, vc, rfl, hvc⟩ := hV
 have HV := Hy hvc
 obtain ⟨m, hm⟩ : ∃ m, V.length = m := ⟨_, rfl⟩
 have HVl := Hy hm
 have HVt := Hy (show (V.take m).foldl onS1 X = V.foldl onS1 X by rw [<- hm, List.take_length])
 have HSt := Hy (fun i hi => fo_step (X := X) (V := V) i hi)
 have HFl := Hy (fun i => show ((V.take i).foldl onS1 X).length <= 200000 by
  have h1 := fo_len X (V.take i)
  have h2 := HXl.out
  rw [List.length_take] at h1
  omega)
 rw [hm] at hlV ⊢
 obtain ⟨W1, hW1⟩ : ∃ W1, w.alloc (.cells #[.string ⟨t.toArray⟩, .slice va m vc] 45) = W1 := ⟨_, rfl⟩
 have k1 : Below w.heap.size w W1 := by rw [<- hW1]; exact (Below.refl _ w).alloc (Nat.le_refl _) _
 have x1 : W1.heap[w.heap.size]? = some (.cells #[.string ⟨t.toArray⟩, .slice va m vc] 45 (0, 0)) := by rw [<- hW1]; exact heap_alloc_new w _
 have HX1 := Hy (An k1 x1)
 have HW1 := Hy hW1
 have hlq := hq.1
 have hgl : g < w.heap.size := by
  rcases hr.2 with ⟨e, _⟩ | ⟨g', cap', cur, e, _, hg, _⟩
  ·cases e
  ·injection e with e1 e2 e3
   injection e1 with e1
   injection e1 with e1 _ _
   subst e1
   exact obj_lt hg
 have HC := Hy (fun j (hj : j < n) (hj2 : j < L.length) => show w.cell? ⟨g, j * 2, none⟩ = some (.string ⟨L[j].1.toArray⟩) by
  obtain ⟨h1, _⟩ := atcs_at Lq j (by omega)
  rw [<- (hq.2 j (by omega) hj2).1]
  exact (hr.cellAt _ (by omega)).trans h1)
 clear hvc hm hX hX0 hW1 k1 x1 hq hr hV2 hRq
 go_enter Tryz.func80, Tryz.ntmps80
 go_wp2
 rw [HW1.out]
 go_loopw [5] (fun v wr => ∃ k : Nat, k <= K /\ v = .int .i64 (k : Nat) /\ Below W1.heap.size W1 wr) (fun v _ => K - (intOf v).toNat)
 case atStart => exact ⟨0, by omega, rfl, Below.refl _ _⟩
 case round =>
  obtain ⟨k, hk, rfl, hb⟩ := hrel
  have y1 := obj_below HX1.out.2 hb (obj_lt HX1.out.2)
  obtain ⟨b0, b1⟩ := obj2s y1
  have hbw := HX1.out.1.trans (hb.mono HX1.out.1.size)
  have HB := Hy (An hb hbw)
  by_cases hkK : k < K
  ·have hkl : (k : Int) < (n : Int) := by omega
   have hkL : k < L.length := by rw [HNn.out]; omega
   have d1 := (hbw.cell (p := ⟨g, k * 2, none⟩) hgl).trans (HC.out k (by omega) hkL)
   have hls := lt9_t (ltB_iff.2 (HKl.out k hkK hkL))
   obtain ⟨nm, hnm⟩ : ∃ nm, L[k].1 = nm := ⟨_, rfl⟩
   rw [hnm] at d1 hls
   clear hb hbw y1 hnm
   go_wp2_with fail
   go_quiet (fail)
   have HB9 := Hy (below_dn HB.out.1 nq)
   go_wp2
   exact ⟨⟨k + 1, by omega, by go_num, HB9.out⟩, by simp [intOf]; omega⟩
  ·obtain rfl : k = K := by omega
   have hkl : (k : Int) < (n : Int) := by omega
   have d1 := (hbw.cell (p := ⟨g, k * 2, none⟩) hgl).trans (HC.out k hKn hK)
   have hls := lt9_f (show ltB L[k].1 t = false by
    cases h : ltB L[k].1 t
    ·rfl
    ·exact absurd (ltB_iff.1 h) HKa.out.2)
   have heq : (L[k].1 == t) = false := by rw [beq_eq_false_iff_ne]; exact HKa.out.1
   obtain ⟨nm, hnm⟩ : ∃ nm, L[k].1 = nm := ⟨_, rfl⟩
   rw [hnm] at d1 hls heq
   clear hb hbw hnm
   go_wp2_with fail
   go_quiet (fail)
   obtain ⟨W2, hW2⟩ : ∃ W2, wr.drewN nq = W2 := ⟨_, rfl⟩
   rw [hW2]
   have k2 : Below wr.heap.size wr W2 := by rw [<- hW2]; exact below_dn (Below.refl _ _) nq
   have d2 := (k2.cell (p := ⟨g, k * 2, none⟩) (Lib.lt_of_cell d1)).trans d1
   have y2 := obj_below y1 k2 (obj_lt y1)
   obtain ⟨W3, hW3⟩ : ∃ W3, W2.alloc (.cells #[.string ⟨t.toArray⟩, .slice none 0 0] 45) = W3 := ⟨_, rfl⟩
   have k3 : Below W2.heap.size W2 W3 := by rw [<- hW3]; exact (Below.refl _ W2).alloc (Nat.le_refl _) _
   have z3 : W3.heap[W2.heap.size]? = some (.cells #[.string ⟨t.toArray⟩, .slice none 0 0] 45 (0, 0)) := by rw [<- hW3]; exact heap_alloc_new W2 _
   have y3 := obj_below y2 k3 (obj_lt y2)
   have d3 := (k3.cell (p := ⟨g, k * 2, none⟩) (Lib.lt_of_cell d2)).trans d2
   obtain ⟨bX, hbX⟩ : ∃ bX, W2.heap.size = bX := ⟨_, rfl⟩
   have HbX := Hy (show w.heap.size < bX by rw [<- hbX]; exact obj_lt y2)
   have HB3 := Hy (HB.out.2.trans ((k2.trans (k3.mono k2.size)).mono HB.out.2.size))
   rw [hbX] at z3
   have HZ3 := Hy (An y3 z3)
   have HW3 := Hy hW3
   have HbXe := Hy hbX
   clear b0 b1 d1 hW2 hW3 hbX z3 y3 k2 k3
   obtain ⟨b0, b1⟩ := obj2s y2
   have D3 := Hy d3
   have hck : ¬ cap = k := by omega
   clear d3 y1 y2
   go_wp2_with fail
   rw [HW3.out, HbXe.out]
   clear b0 b1 d2
   have d3 := D3.out
   have y3 := HZ3.out.1
   have z3 := HZ3.out.2
   obtain ⟨b0, b1⟩ := obj2s y3
   obtain ⟨i0, i1⟩ := obj2s z3
   clear y3 z3
   go_quiet (fail)
   obtain ⟨W4, hW4⟩ : ∃ W4, W3.drewN nq = W4 := ⟨_, rfl⟩
   rw [hW4]
   have k4 : Below W3.heap.size W3 W4 := by rw [<- hW4]; exact below_dn (Below.refl _ _) nq
   have y4 := obj_below HZ3.out.1 k4 (obj_lt HZ3.out.1)
   have z4 := obj_below HZ3.out.2 k4 (obj_lt HZ3.out.2)
   have HF4 := Hy (An (HB3.out.trans (k4.mono HB3.out.size)) (An y4 z4))
   have HW4 := Hy (rfl : W4 = W4)
   clear b0 b1 i0 i1 d3 hW4 k4
   obtain ⟨b0, b1⟩ := obj2s y4
   obtain ⟨i0, i1⟩ := obj2s z4
   clear y4 z4
   go_wp2_with (first
    | (at_builtin; (try rw [HW4.out]); refine wpList_appendr rfl (.tmp 57) (.tmp 59) 43 9 rfl W4.heap.size 1 16 (.string ByteArray.empty) Tryz.scinfo9 Tryz.underlying43 rfl (by decide) (.slice none 0 0) 0 [] rfl (World.ownsRow_nil _ _ _ _) _ X.length (sc X) rfl ?c3 (sc_one_cell _) ?c1 ?c2 (Nat.le_refl _) ?_)
    | go_in)
   case c3 => rw [HXe.out]; exact rdRow_nil _ _
   try (case c1 => have := HXl.out; unfold maxLen; omega)
   try (case c2 => have := HXl.out; omega)
   intro v1 w5 g1 g2 g3
   obtain ⟨oa, oc, rfl⟩ := ownsRow_slice g1
   have hb5 := chg_nil9c g2
   have g1 : w5.ownsRow W4.heap.size 9 1 (.slice oa X.length oc) X.length (sc X) := by simpa using g1
   have e0X : 0 + X.length = X.length := Nat.zero_add _
   try rw [e0X]
   have H5 := Hy (An g1 hb5)
   clear g1 g2 g3 hb5 e0X
   go_wp2
   go_loopw [8, 9] (fun o v wr => ∃ i : Nat, i <= m /\ v = .int .i64 (i : Nat) /\ wr.ownsRow W4.heap.size 9 1 o ((V.take i).foldl onS1 X).length (sc ((V.take i).foldl onS1 X)) /\ Below W4.heap.size W4 wr) (fun _ v _ => m - (intOf v).toNat)
   case atStart => exact ⟨0, by omega, rfl, H5.out.1, H5.out.2⟩
   case round =>
    obtain ⟨i, hi, rfl, hown, hb⟩ := hrel
    have y0 := obj_below HF4.out.2.1 hb (obj_lt HF4.out.2.1)
    have y1 := obj_below HF4.out.2.2 hb (obj_lt HF4.out.2.2)
    obtain ⟨p0, p1⟩ := obj2s y0
    obtain ⟨q0, q1⟩ := obj2s y1
    have hbw := HF4.out.1.trans (hb.mono HF4.out.1.size)
    by_cases hlt : i < m
    ·have hil : (i : Int) < (m : Int) := by omega
     have hiV : i < V.length := by rw [HVl.out]; exact hlt
     obtain ⟨gv, ov, rfl, hgv, e0w⟩ := HV.out i hiV
     have e0 := (hbw.cell (p := ⟨gv, ov + i, none⟩) hgv).trans e0w
     have hst := HSt.out i hiV
     have hfl := HFl.out i
     obtain ⟨y, hy⟩ : ∃ y, V[i] = y := ⟨_, rfl⟩
     rw [hy] at e0 hst
     obtain ⟨F0, hF⟩ : ∃ F0, (V.take i).foldl onS1 X = F0 := ⟨_, rfl⟩
     rw [hF] at hown hst hfl
     have htx := txR_owns hown
     obtain ⟨fa, fc, rfl, hfc⟩ := htx
     have HFc := Hy hfc
     have HI := Hy (An hown (An hb (An hst (An hfl (inL_step (F := F0) (y := y))))))
     have HTk := Hy (show inL (F0.take F0.length) y = inL F0 y by rw [List.take_length])
     obtain ⟨nf, hnf⟩ : ∃ nf, F0.length = nf := ⟨_, rfl⟩
     have HNf := Hy hnf
     rw [hnf]
     clear hown hb hst hbw y0 y1 e0w hfc hy hF hnf q0 q1
     go_wp2
     go_loopw [10, 11] (fun s v wz => ∃ j q : Nat, j <= nf /\ v = .int .i64 (j : Nat) /\ s = .bool (inL (F0.take j) y) /\ wz = wr.drewN q) (fun _ v _ => nf - (intOf v).toNat)
     case atStart => exact ⟨0, 0, by omega, rfl, rfl, rfl⟩
     case round =>
      obtain ⟨j, q, hj, rfl, rfl, rfl⟩ := hrel
      by_cases hjn : j < nf
      ·have hjl : (j : Int) < (nf : Int) := by omega
       have hjF : j < F0.length := by rw [HNf.out]; exact hjn
       obtain ⟨gf, of, rfl, hgf, f0⟩ := HFc.out j hjF
       have hs := HI.out.2.2.2.2 j hjF
       obtain ⟨z, hz⟩ : ∃ z, F0[j] = z := ⟨_, rfl⟩
       rw [hz] at f0 hs
       obtain ⟨b, hbq⟩ : ∃ b, inL (F0.take j) y = b := ⟨_, rfl⟩
       rw [hbq] at hs
       have HS := Hy hs
       rw [hbq]
       clear hz hbq hs
       cases b
       ·obtain ⟨c, hc⟩ : ∃ c, (z == y) = c := ⟨_, rfl⟩
        have HC := Hy hc
        cases c
        ·go_wp2
         go_quiet (fail)
         go_wp2
         exact ⟨⟨j + 1, q + nq, by omega, by go_num, by rw [HS.out, HC.out]; rfl, rfl⟩, by simp [intOf]; omega⟩
        ·go_wp2
         go_quiet (fail)
         go_wp2
         exact ⟨⟨j + 1, q + nq, by omega, by go_num, by rw [HS.out, HC.out]; rfl, rfl⟩, by simp [intOf]; omega⟩
       ·go_wp2
        go_quiet (fail)
        go_wp2
        exact ⟨⟨j + 1, q + nq, by omega, by go_num, by rw [HS.out]; rfl, rfl⟩, by simp [intOf]; omega⟩
      ·obtain rfl : j = nf := by omega
       have hT := HTk.out
       rw [HNf.out] at hT
       rw [hT]
       obtain ⟨b, hbq⟩ : ∃ b, inL F0 y = b := ⟨_, rfl⟩
       rw [hbq]
       obtain ⟨W7, hW7⟩ : ∃ W7, wr.drewN q = W7 := ⟨_, rfl⟩
       have hb7 : Below wr.heap.size wr W7 := by rw [<- hW7]; exact below_dn (Below.refl _ _) _
       have p07 := (hb7.cell (p := ⟨w.heap.size, 0, none⟩) (Lib.lt_of_cell p0)).trans p0
       have p17 := (hb7.cell (p := ⟨w.heap.size, 1, none⟩) (Lib.lt_of_cell p1)).trans p1
       have e07 := (hb7.cell (p := ⟨gv, ov + i, none⟩) (Lib.lt_of_cell e0)).trans e0
       have hr7 := ownsRow_below HI.out.1 hb7
       rw [HNf.out] at hr7
       have H7 := Hy (An hr7 (HI.out.2.1.trans (hb7.mono HI.out.2.1.size)))
       have hjb : j <= 200000 := by rw [<- HNf.out]; exact HI.out.2.2.2.1
       rw [hW7]
       clear hT hW7 hb7 p0 p1 e0 hr7
       cases b
       ·have HE := Hy (show (V.take (i + 1)).foldl onS1 X = F0 ++ [y] by rw [HI.out.2.2.1]; unfold onS1; rw [if_neg (by rw [hbq]; simp)])
        clear hbq
        go_wp2_with (first
         | (at_builtin; refine wpList_pushm rfl (.tmp 89) (.tmp 95) 43 9 rfl W4.heap.size 1 16 (.string ByteArray.empty) Tryz.scinfo9 Tryz.underlying43 rfl (by decide) 1 [.string ⟨y.toArray⟩] rfl ?c0 _ _ _ rfl _ rfl ?c3 H7.out.1 ?c1 ?c2 H7.out.2.size ?_)
         | go_in)
        case c0 => first | rfl | (intro u hu; simp at hu; subst hu; rfl)
        try (case c1 => unfold maxLen; omega)
        try (case c2 => omega)
        case c3 => first | rfl | simp
        intro v' w' g1 g2
        have H8 := Hy (An g1 (H7.out.2.trans g2))
        clear g1 g2
        go_wp2
        refine ⟨⟨i + 1, by omega, by go_num, ?_, H8.out.2⟩, by simp [intOf]; omega⟩
        rw [HE.out, List.length_append, sc_snoc1, HNf.out]; exact H8.out.1
       ·have HE := Hy (show (V.take (i + 1)).foldl onS1 X = F0 by rw [HI.out.2.2.1]; unfold onS1; rw [if_pos hbq])
        clear hbq
        go_wp2
        refine ⟨⟨i + 1, by omega, by go_num, ?_, H7.out.2⟩, by simp [intOf]; omega⟩
        rw [HE.out, HNf.out]; exact H7.out.1
    ·obtain rfl : i = m := by omega
     have hT := HVt.out
     rw [hT] at hown
     have hfl := HFl.out i
     rw [hT] at hfl
     obtain ⟨FV, hFV⟩ : ∃ FV, V.foldl onS1 X = FV := ⟨_, rfl⟩
     have HFV := Hy hFV
     rw [hFV] at hown hfl
     obtain ⟨fa, fc, rfl⟩ := ownsRow_slice hown
     have hfr := obj_free y1 1
     have x8 := obj_set y1 1 (.slice fa FV.length fc)
     have hch : Chg (fun k => k = bX) wr (wr.setCell ⟨bX, 1, none⟩ (.slice fa FV.length fc)) := (Chg.refl (fun k => k = bX) wr).setCell (p := ⟨bX, 1, none⟩) (fun _ => rfl) _
     have hbx : W4.heap.size <= wr.heap.size := hb.size
     have hbl := obj_lt HF4.out.2.2
     have hr8 := ownsRow_chg hown hch (fun k hk e => by have := (hown.lt k hk).1; omega)
     have hb8 : Below w.heap.size w (wr.setCell ⟨bX, 1, none⟩ (.slice fa FV.length fc)) := hbw.trans (hch.toBelow hbw.size (fun k _ e => by have := HbX.out; omega))
     obtain ⟨W8, hW8⟩ : ∃ W8, wr.setCell ⟨bX, 1, none⟩ (.slice fa FV.length fc) = W8 := ⟨_, rfl⟩
     rw [hW8] at x8 hr8 hb8
     have HW8 := Hy hW8
     have HX8 := Hy x8
     have HR8 := Hy (An hr8 (An hb8 hfl))
     have HL8 := Hy (atOk_below HQ.out hb8)
     have HO8 := Hy (ownsRow_below HR.out hb8)
     clear hown hb hbw y0 y1 hT hfl hFV x8 hch hbx hbl hr8 hb8 hW8 q0
     go_wp2_with (first
      | (at_builtin; (try rw [HW8.out]); refine wpList_appendr rfl (.tmp 99) (.tmp 102) 22 45 rfl W8.heap.size 2 40 (.agg #[.string ByteArray.empty, .slice none 0 0]) Tryz.sninfo45 Tryz.underlying22 rfl (by decide) (.slice none 0 0) 0 [] rfl (World.ownsRow_nil _ _ _ _) _ (k) (atcs (Lq.take k)) rfl ?c3 ?c4 ?c1 ?c2 (Nat.le_refl _) ?_)
      | go_in)
     case c3 => exact rd_take2 HO8.out k (by omega)
     case c4 => exact atcs_ones (atOk_take HL8.out k)
     try (case c1 => unfold maxLen; omega)
     try (case c2 => omega)
     intro v1 w9 g1 g2 g3
     have hb9 := chg_nil9c g2
     have g1 : w9.ownsRow W8.heap.size 45 2 v1 (k) (atcs (Lq.take k)) := by simpa using g1
     obtain ⟨a9, c9, rfl⟩ := ownsRow_slice g1
     have x9 := obj_below HX8.out hb9 (obj_lt HX8.out)
     obtain ⟨r0, r1⟩ := obj2s x9
     have H9 := Hy (An g1 hb9)
     have HO9 := Hy (ownsRow_below HO8.out hb9)
     have HL9 := Hy (atOk_below HL8.out hb9)
     clear g1 g2 g3 hb9 x9 q1
     by_cases hF0 : FV.length = 0
     ·have hFn : ¬ ((0 : Int) < (FV.length : Int)) := by omega
      have HFE := Hy (show R = L.take k ++ (([] : List Atr) ++ L.drop k) by rw [HPl.out, HFV.out, if_pos (List.eq_nil_of_length_eq_zero hF0)])
      go_wp2_with (first
       | (at_builtin; refine wpList_appendr rfl (.tmp 111) (.tmp 112) 22 45 rfl W8.heap.size 2 40 (.agg #[.string ByteArray.empty, .slice none 0 0]) Tryz.sninfo45 Tryz.underlying22 rfl (by decide) _ (k) _ rfl H9.out.1 _ (n - k) (atcs (Lq.drop k)) rfl ?c3r ?c4r ?c1r ?c2r H9.out.2.size ?_)
       | go_in)
      case c3r => exact rd_drop2 HO9.out k _ (by omega)
      case c4r => exact atcs_ones (w := w9) (atOk_drop HL9.out k)
      try (case c1r => unfold maxLen; omega)
      try (case c2r => omega)
      intro v2 w10 g1 g2 g3
      have hb10 := below_chg H9.out.2 H9.out.2.size H9.out.1 g2
      obtain ⟨a10, c10, rfl⟩ := ownsRow_slice g1
      have H10 := Hy (An g1 hb10)
      have hL10 := atOk_below HL8.out hb10
      have HL9 := Hy hL10
      have hlq := HQ.out.1
      have hnn := HNn.out
      clear g1 g2 g3 hb10
      go_wp2
      go_ret
      refine ⟨_, rfl, ⟨(Lq.take k) ++ (([] : List (List UInt8 × Value)) ++ (Lq.drop k)), W8.heap.size, ?_, ?_⟩, HR8.out.2.1.trans (H10.out.2.mono HR8.out.2.1.size)⟩
      ·rw [HFE.out]
       exact atOk_app (atOk_take HL9.out k) (atOk_app (atOk_nil _) (atOk_drop HL9.out k))
      ·have e : R.length = k + (n - k) := by rw [HFE.out]; simp; try omega
       rw [e, List.nil_append, atcs_app]; exact H10.out.1
     ·have hFn : (0 : Int) < (FV.length : Int) := by omega
      have HFE := Hy (show R = L.take k ++ ([(t, FV)] ++ L.drop k) by rw [HPl.out, HFV.out, if_neg (fun e => hF0 (by rw [e]; rfl))])
      go_wp2_with (first
       | (at_builtin; refine wpList_pushm rfl (.tmp 107) (.tmp 109) 22 45 rfl W8.heap.size 2 40 (.agg #[.string ByteArray.empty, .slice none 0 0]) Tryz.sninfo45 Tryz.underlying22 rfl (by decide) 1 [.string ⟨t.toArray⟩, .slice fa FV.length fc] rfl ?c0p _ _ _ rfl _ rfl ?c3p H9.out.1 ?c1p ?c2p H9.out.2.size ?_)
       | go_in)
      case c0p => intro u hu; simp at hu; rcases hu with rfl | rfl <;> rfl
      try (case c1p => unfold maxLen; omega)
      try (case c2p => omega)
      case c3p => first | rfl | simp
      intro v2 w10 g1 g2
      obtain ⟨a10, c10, rfl⟩ := ownsRow_slice g1
      have hb10 := H9.out.2.trans g2
      have HG := Hy (An g1 hb10)
      have HO9 := Hy (ownsRow_below HO8.out hb10)
      have HL9 := Hy (atOk_below HL8.out hb10)
      clear g1 g2 hb10 r0 r1
      go_wp2_with (first
       | (at_builtin; refine wpList_appendr rfl (.tmp 111) (.tmp 112) 22 45 rfl W8.heap.size 2 40 (.agg #[.string ByteArray.empty, .slice none 0 0]) Tryz.sninfo45 Tryz.underlying22 rfl (by decide) _ _ _ rfl HG.out.1 _ (n - k) (atcs (Lq.drop k)) rfl ?c3q ?c4q ?c1q ?c2q HG.out.2.size ?_)
       | go_in)
      case c3q => exact rd_drop2 HO9.out k _ (by omega)
      case c4q => exact atcs_ones (w := w10) (atOk_drop HL9.out k)
      try (case c1q => unfold maxLen; omega)
      try (case c2q => omega)
      intro v3 w11 g1 g2 g3
      have hb11 := below_chg HG.out.2 HG.out.2.size HG.out.1 g2
      obtain ⟨a11, c11, rfl⟩ := ownsRow_slice g1
      have H11 := Hy (An g1 hb11)
      have hL11 := atOk_below HL8.out hb11
      have HL9 := Hy hL11
      have hlq := HQ.out.1
      have hnn := HNn.out
      clear g1 g2 g3 hb11
      go_wp2
      go_ret
      refine ⟨_, rfl, ⟨(Lq.take k) ++ ([(t, .slice fa FV.length fc)] ++ (Lq.drop k)), W8.heap.size, ?_, ?_⟩, HR8.out.2.1.trans (H11.out.2.mono HR8.out.2.1.size)⟩
      ·rw [HFE.out]
       exact atOk_app (atOk_take HL9.out k) (atOk_app (atOk_one (ownsRow_below HR8.out.1 H11.out.2)) (atOk_drop HL9.out k))
      ·have e : R.length = k + 1 + (n - k) := by rw [HFE.out]; simp; try omega
       rw [e, atcs_app, atcs_app]; exact H11.out.1
theorem put_end1 (L : List Atr) (Lq : List (List UInt8 × Value)) (t : List UInt8) (V : List (List UInt8)) (B g n : Nat) (av : Value) (w : World) (hq : AtOk w Lq L) (hr : w.ownsRow B 45 2 (.slice (some ⟨g, 0, none⟩) n n) n (atcs Lq)) (hn : L.length = n) (hV : TxR w av V) (hln : n <= 100000) (hlV : V.length <= 100000)
  (hK : putK L t = L.length)  :
  Calls Tryz.prog 80 #[.slice (some ⟨g, 0, none⟩) n n, .agg #[.string ⟨t.toArray⟩, av]] w (PaPost10 (putL L t V) w) := by
 have HQ := Hy hq
 have HR := Hy hr
 have HNn := Hy hn
 have hB : ∀ k, putK L t = k -> ∀ j, j < k -> ∀ hj : j < L.length, L[j].1 < t := by rintro k rfl j h hj; exact putK_lt j h hj
 obtain ⟨X, hX⟩ : ∃ X, putV L t = X := ⟨_, rfl⟩
 have hX0 : X = [] := by rw [<- hX]; unfold putV; rw [dif_neg (by omega)]
 have hP : ∀ k, putK L t = k -> putL L t V = L.take k ++ ((if V.foldl onS1 X = [] then [] else [(t, V.foldl onS1 X)]) ++ []) := by
  rintro k rfl
  rw [<- hX]; unfold putL putR; rw [dif_neg (by omega)]
 obtain ⟨R, hRq⟩ : ∃ R, putL L t V = R := ⟨_, rfl⟩
 rw [hRq] at hP ⊢
 have hKe : putK L t = n := by omega
 clear hK
 have HKl := Hy (hB n hKe)
 have HPl := Hy (hP n hKe)
 clear hB hP hKe
 have hn : n <= n := by
  rcases hr.2 with ⟨e, _⟩ | ⟨g', n', cur, e, _, _, h, _⟩
  ·cases e
  ·injection e with e1 e2 e3
   omega
 have HXl := Hy (show X.length <= 100000 by rw [hX0]; simp)
 have HXe := Hy hX0
 have hV2 := hV
 obtain ⟨va, vc, rfl, hvc⟩ := hV
 have HV := Hy hvc
 obtain ⟨m, hm⟩ : ∃ m, V.length = m := ⟨_, rfl⟩
 have HVl := Hy hm
 have HVt := Hy (show (V.take m).foldl onS1 X = V.foldl onS1 X by rw [<- hm, List.take_length])
 have HSt := Hy (fun i hi => fo_step (X := X) (V := V) i hi)
 have HFl := Hy (fun i => show ((V.take i).foldl onS1 X).length <= 200000 by
  have h1 := fo_len X (V.take i)
  have h2 := HXl.out
  rw [List.length_take] at h1
  omega)
 rw [hm] at hlV ⊢
 obtain ⟨W1, hW1⟩ : ∃ W1, w.alloc (.cells #[.string ⟨t.toArray⟩, .slice va m vc] 45) = W1 := ⟨_, rfl⟩
 have k1 : Below w.heap.size w W1 := by rw [<- hW1]; exact (Below.refl _ w).alloc (Nat.le_refl _) _
 have x1 : W1.heap[w.heap.size]? = some (.cells #[.string ⟨t.toArray⟩, .slice va m vc] 45 (0, 0)) := by rw [<- hW1]; exact heap_alloc_new w _
 have HX1 := Hy (An k1 x1)
 have HW1 := Hy hW1
 have hlq := hq.1
 have hgl : g < w.heap.size := by
  rcases hr.2 with ⟨e, _⟩ | ⟨g', n', cur, e, _, hg, _⟩
  ·cases e
  ·injection e with e1 e2 e3
   injection e1 with e1
   injection e1 with e1 _ _
   subst e1
   exact obj_lt hg
 have HC := Hy (fun j (hj : j < n) (hj2 : j < L.length) => show w.cell? ⟨g, j * 2, none⟩ = some (.string ⟨L[j].1.toArray⟩) by
  obtain ⟨h1, _⟩ := atcs_at Lq j (by omega)
  rw [<- (hq.2 j (by omega) hj2).1]
  exact (hr.cellAt _ (by omega)).trans h1)
 clear hvc hm hX hX0 hW1 k1 x1 hq hr hV2 hRq
 go_enter Tryz.func80, Tryz.ntmps80
 go_wp2
 rw [HW1.out]
 go_loopw [5] (fun v wr => ∃ k : Nat, k <= n /\ v = .int .i64 (k : Nat) /\ Below W1.heap.size W1 wr) (fun v _ => n - (intOf v).toNat)
 case atStart => exact ⟨0, by omega, rfl, Below.refl _ _⟩
 case round =>
  obtain ⟨k, hk, rfl, hb⟩ := hrel
  have y1 := obj_below HX1.out.2 hb (obj_lt HX1.out.2)
  obtain ⟨b0, b1⟩ := obj2s y1
  have hbw := HX1.out.1.trans (hb.mono HX1.out.1.size)
  have HB := Hy (An hb hbw)
  by_cases hkK : k < n
  ·have hkl : (k : Int) < (n : Int) := by omega
   have hkL : k < L.length := by rw [HNn.out]; omega
   have d1 := (hbw.cell (p := ⟨g, k * 2, none⟩) hgl).trans (HC.out k (by omega) hkL)
   have hls := lt9_t (ltB_iff.2 (HKl.out k hkK hkL))
   obtain ⟨nm, hnm⟩ : ∃ nm, L[k].1 = nm := ⟨_, rfl⟩
   rw [hnm] at d1 hls
   clear hb hbw y1 hnm
   go_wp2_with fail
   go_quiet (fail)
   have HB9 := Hy (below_dn HB.out.1 nq)
   go_wp2
   exact ⟨⟨k + 1, by omega, by go_num, HB9.out⟩, by simp [intOf]; omega⟩
  ·obtain rfl : k = n := by omega
   have hkl : ¬ ((k : Int) < (k : Int)) := by omega
   clear hb hbw
   go_wp2_with fail
   go_quiet (fail)
   obtain ⟨W2, hW2⟩ : ∃ W2, wr.drewN nq = W2 := ⟨_, rfl⟩
   rw [hW2]
   have k2 : Below wr.heap.size wr W2 := by rw [<- hW2]; exact below_dn (Below.refl _ _) nq
   have y2 := obj_below y1 k2 (obj_lt y1)
   obtain ⟨W3, hW3⟩ : ∃ W3, W2.alloc (.cells #[.string ⟨t.toArray⟩, .slice none 0 0] 45) = W3 := ⟨_, rfl⟩
   have k3 : Below W2.heap.size W2 W3 := by rw [<- hW3]; exact (Below.refl _ W2).alloc (Nat.le_refl _) _
   have z3 : W3.heap[W2.heap.size]? = some (.cells #[.string ⟨t.toArray⟩, .slice none 0 0] 45 (0, 0)) := by rw [<- hW3]; exact heap_alloc_new W2 _
   have y3 := obj_below y2 k3 (obj_lt y2)
   obtain ⟨bX, hbX⟩ : ∃ bX, W2.heap.size = bX := ⟨_, rfl⟩
   have HbX := Hy (show w.heap.size < bX by rw [<- hbX]; exact obj_lt y2)
   have HB3 := Hy (HB.out.2.trans ((k2.trans (k3.mono k2.size)).mono HB.out.2.size))
   rw [hbX] at z3
   have HZ3 := Hy (An y3 z3)
   have HW3 := Hy hW3
   have HbXe := Hy hbX
   clear b0 b1 hW2 hW3 hbX z3 y3 k2 k3
   obtain ⟨b0, b1⟩ := obj2s y2
   clear y1 y2
   go_wp2_with fail
   rw [HW3.out, HbXe.out]
   clear b0 b1
   have y3 := HZ3.out.1
   have z3 := HZ3.out.2
   obtain ⟨b0, b1⟩ := obj2s y3
   obtain ⟨i0, i1⟩ := obj2s z3
   clear y3 z3
   go_quiet (fail)
   obtain ⟨W4, hW4⟩ : ∃ W4, W3.drewN nq = W4 := ⟨_, rfl⟩
   rw [hW4]
   have k4 : Below W3.heap.size W3 W4 := by rw [<- hW4]; exact below_dn (Below.refl _ _) nq
   have y4 := obj_below HZ3.out.1 k4 (obj_lt HZ3.out.1)
   have z4 := obj_below HZ3.out.2 k4 (obj_lt HZ3.out.2)
   have HF4 := Hy (An (HB3.out.trans (k4.mono HB3.out.size)) (An y4 z4))
   have HW4 := Hy (rfl : W4 = W4)
   clear b0 b1 i0 i1 hW4 k4
   obtain ⟨b0, b1⟩ := obj2s y4
   obtain ⟨i0, i1⟩ := obj2s z4
   clear y4 z4
   go_wp2_with (first
    | (at_builtin; (try rw [HW4.out]); refine wpList_appendr rfl (.tmp 57) (.tmp 59) 43 9 rfl W4.heap.size 1 16 (.string ByteArray.empty) Tryz.scinfo9 Tryz.underlying43 rfl (by decide) (.slice none 0 0) 0 [] rfl (World.ownsRow_nil _ _ _ _) _ X.length (sc X) rfl ?c3 (sc_one_cell _) ?c1 ?c2 (Nat.le_refl _) ?_)
    | go_in)
   case c3 => rw [HXe.out]; exact rdRow_nil _ _
   try (case c1 => have := HXl.out; unfold maxLen; omega)
   try (case c2 => have := HXl.out; omega)
   intro v1 w5 g1 g2 g3
   obtain ⟨oa, oc, rfl⟩ := ownsRow_slice g1
   have hb5 := chg_nil9c g2
   have g1 : w5.ownsRow W4.heap.size 9 1 (.slice oa X.length oc) X.length (sc X) := by simpa using g1
   have e0X : 0 + X.length = X.length := Nat.zero_add _
   try rw [e0X]
   have H5 := Hy (An g1 hb5)
   clear g1 g2 g3 hb5 e0X
   go_wp2
   go_loopw [8, 9] (fun o v wr => ∃ i : Nat, i <= m /\ v = .int .i64 (i : Nat) /\ wr.ownsRow W4.heap.size 9 1 o ((V.take i).foldl onS1 X).length (sc ((V.take i).foldl onS1 X)) /\ Below W4.heap.size W4 wr) (fun _ v _ => m - (intOf v).toNat)
   case atStart => exact ⟨0, by omega, rfl, H5.out.1, H5.out.2⟩
   case round =>
    obtain ⟨i, hi, rfl, hown, hb⟩ := hrel
    have y0 := obj_below HF4.out.2.1 hb (obj_lt HF4.out.2.1)
    have y1 := obj_below HF4.out.2.2 hb (obj_lt HF4.out.2.2)
    obtain ⟨p0, p1⟩ := obj2s y0
    obtain ⟨q0, q1⟩ := obj2s y1
    have hbw := HF4.out.1.trans (hb.mono HF4.out.1.size)
    by_cases hlt : i < m
    ·have hil : (i : Int) < (m : Int) := by omega
     have hiV : i < V.length := by rw [HVl.out]; exact hlt
     obtain ⟨gv, ov, rfl, hgv, e0w⟩ := HV.out i hiV
     have e0 := (hbw.cell (p := ⟨gv, ov + i, none⟩) hgv).trans e0w
     have hst := HSt.out i hiV
     have hfl := HFl.out i
     obtain ⟨y, hy⟩ : ∃ y, V[i] = y := ⟨_, rfl⟩
     rw [hy] at e0 hst
     obtain ⟨F0, hF⟩ : ∃ F0, (V.take i).foldl onS1 X = F0 := ⟨_, rfl⟩
     rw [hF] at hown hst hfl
     have htx := txR_owns hown
     obtain ⟨fa, fc, rfl, hfc⟩ := htx
     have HFc := Hy hfc
     have HI := Hy (An hown (An hb (An hst (An hfl (inL_step (F := F0) (y := y))))))
     have HTk := Hy (show inL (F0.take F0.length) y = inL F0 y by rw [List.take_length])
     obtain ⟨nf, hnf⟩ : ∃ nf, F0.length = nf := ⟨_, rfl⟩
     have HNf := Hy hnf
     rw [hnf]
     clear hown hb hst hbw y0 y1 e0w hfc hy hF hnf q0 q1
     go_wp2
     go_loopw [10, 11] (fun s v wz => ∃ j q : Nat, j <= nf /\ v = .int .i64 (j : Nat) /\ s = .bool (inL (F0.take j) y) /\ wz = wr.drewN q) (fun _ v _ => nf - (intOf v).toNat)
     case atStart => exact ⟨0, 0, by omega, rfl, rfl, rfl⟩
     case round =>
      obtain ⟨j, q, hj, rfl, rfl, rfl⟩ := hrel
      by_cases hjn : j < nf
      ·have hjl : (j : Int) < (nf : Int) := by omega
       have hjF : j < F0.length := by rw [HNf.out]; exact hjn
       obtain ⟨gf, of, rfl, hgf, f0⟩ := HFc.out j hjF
       have hs := HI.out.2.2.2.2 j hjF
       obtain ⟨z, hz⟩ : ∃ z, F0[j] = z := ⟨_, rfl⟩
       rw [hz] at f0 hs
       obtain ⟨b, hbq⟩ : ∃ b, inL (F0.take j) y = b := ⟨_, rfl⟩
       rw [hbq] at hs
       have HS := Hy hs
       rw [hbq]
       clear hz hbq hs
       cases b
       ·obtain ⟨c, hc⟩ : ∃ c, (z == y) = c := ⟨_, rfl⟩
        have HC := Hy hc
        cases c
        ·go_wp2
         go_quiet (fail)
         go_wp2
         exact ⟨⟨j + 1, q + nq, by omega, by go_num, by rw [HS.out, HC.out]; rfl, rfl⟩, by simp [intOf]; omega⟩
        ·go_wp2
         go_quiet (fail)
         go_wp2
         exact ⟨⟨j + 1, q + nq, by omega, by go_num, by rw [HS.out, HC.out]; rfl, rfl⟩, by simp [intOf]; omega⟩
       ·go_wp2
        go_quiet (fail)
        go_wp2
        exact ⟨⟨j + 1, q + nq, by omega, by go_num, by rw [HS.out]; rfl, rfl⟩, by simp [intOf]; omega⟩
      ·obtain rfl : j = nf := by omega
       have hT := HTk.out
       rw [HNf.out] at hT
       rw [hT]
       obtain ⟨b, hbq⟩ : ∃ b, inL F0 y = b := ⟨_, rfl⟩
       rw [hbq]
       obtain ⟨W7, hW7⟩ : ∃ W7, wr.drewN q = W7 := ⟨_, rfl⟩
       have hb7 : Below wr.heap.size wr W7 := by rw [<- hW7]; exact below_dn (Below.refl _ _) _
       have p07 := (hb7.cell (p := ⟨w.heap.size, 0, none⟩) (Lib.lt_of_cell p0)).trans p0
       have p17 := (hb7.cell (p := ⟨w.heap.size, 1, none⟩) (Lib.lt_of_cell p1)).trans p1
       have e07 := (hb7.cell (p := ⟨gv, ov + i, none⟩) (Lib.lt_of_cell e0)).trans e0
       have hr7 := ownsRow_below HI.out.1 hb7
       rw [HNf.out] at hr7
       have H7 := Hy (An hr7 (HI.out.2.1.trans (hb7.mono HI.out.2.1.size)))
       have hjb : j <= 200000 := by rw [<- HNf.out]; exact HI.out.2.2.2.1
       rw [hW7]
       clear hT hW7 hb7 p0 p1 e0 hr7
       cases b
       ·have HE := Hy (show (V.take (i + 1)).foldl onS1 X = F0 ++ [y] by rw [HI.out.2.2.1]; unfold onS1; rw [if_neg (by rw [hbq]; simp)])
        clear hbq
        go_wp2_with (first
         | (at_builtin; refine wpList_pushm rfl (.tmp 89) (.tmp 95) 43 9 rfl W4.heap.size 1 16 (.string ByteArray.empty) Tryz.scinfo9 Tryz.underlying43 rfl (by decide) 1 [.string ⟨y.toArray⟩] rfl ?c0 _ _ _ rfl _ rfl ?c3 H7.out.1 ?c1 ?c2 H7.out.2.size ?_)
         | go_in)
        case c0 => first | rfl | (intro u hu; simp at hu; subst hu; rfl)
        try (case c1 => unfold maxLen; omega)
        try (case c2 => omega)
        case c3 => first | rfl | simp
        intro v' w' g1 g2
        have H8 := Hy (An g1 (H7.out.2.trans g2))
        clear g1 g2
        go_wp2
        refine ⟨⟨i + 1, by omega, by go_num, ?_, H8.out.2⟩, by simp [intOf]; omega⟩
        rw [HE.out, List.length_append, sc_snoc1, HNf.out]; exact H8.out.1
       ·have HE := Hy (show (V.take (i + 1)).foldl onS1 X = F0 by rw [HI.out.2.2.1]; unfold onS1; rw [if_pos hbq])
        clear hbq
        go_wp2
        refine ⟨⟨i + 1, by omega, by go_num, ?_, H7.out.2⟩, by simp [intOf]; omega⟩
        rw [HE.out, HNf.out]; exact H7.out.1
    ·obtain rfl : i = m := by omega
     have hT := HVt.out
     rw [hT] at hown
     have hfl := HFl.out i
     rw [hT] at hfl
     obtain ⟨FV, hFV⟩ : ∃ FV, V.foldl onS1 X = FV := ⟨_, rfl⟩
     have HFV := Hy hFV
     rw [hFV] at hown hfl
     obtain ⟨fa, fc, rfl⟩ := ownsRow_slice hown
     have hfr := obj_free y1 1
     have x8 := obj_set y1 1 (.slice fa FV.length fc)
     have hch : Chg (fun k => k = bX) wr (wr.setCell ⟨bX, 1, none⟩ (.slice fa FV.length fc)) := (Chg.refl (fun k => k = bX) wr).setCell (p := ⟨bX, 1, none⟩) (fun _ => rfl) _
     have hbx : W4.heap.size <= wr.heap.size := hb.size
     have hbl := obj_lt HF4.out.2.2
     have hr8 := ownsRow_chg hown hch (fun k hk e => by have := (hown.lt k hk).1; omega)
     have hb8 : Below w.heap.size w (wr.setCell ⟨bX, 1, none⟩ (.slice fa FV.length fc)) := hbw.trans (hch.toBelow hbw.size (fun k _ e => by have := HbX.out; omega))
     obtain ⟨W8, hW8⟩ : ∃ W8, wr.setCell ⟨bX, 1, none⟩ (.slice fa FV.length fc) = W8 := ⟨_, rfl⟩
     rw [hW8] at x8 hr8 hb8
     have HW8 := Hy hW8
     have HX8 := Hy x8
     have HR8 := Hy (An hr8 (An hb8 hfl))
     have HL8 := Hy (atOk_below HQ.out hb8)
     have HO8 := Hy (ownsRow_below HR.out hb8)
     clear hown hb hbw y0 y1 hT hfl hFV x8 hch hbx hbl hr8 hb8 hW8 q0
     go_wp2_with (first
      | (at_builtin; (try rw [HW8.out]); refine wpList_appendr rfl (.tmp 99) (.tmp 102) 22 45 rfl W8.heap.size 2 40 (.agg #[.string ByteArray.empty, .slice none 0 0]) Tryz.sninfo45 Tryz.underlying22 rfl (by decide) (.slice none 0 0) 0 [] rfl (World.ownsRow_nil _ _ _ _) _ (k) (atcs (Lq.take k)) rfl ?c3 ?c4 ?c1 ?c2 (Nat.le_refl _) ?_)
      | go_in)
     case c3 => exact rd_take2 HO8.out k (by omega)
     case c4 => exact atcs_ones (atOk_take HL8.out k)
     try (case c1 => unfold maxLen; omega)
     try (case c2 => omega)
     intro v1 w9 g1 g2 g3
     have hb9 := chg_nil9c g2
     have g1 : w9.ownsRow W8.heap.size 45 2 v1 (k) (atcs (Lq.take k)) := by simpa using g1
     obtain ⟨a9, c9, rfl⟩ := ownsRow_slice g1
     have x9 := obj_below HX8.out hb9 (obj_lt HX8.out)
     obtain ⟨r0, r1⟩ := obj2s x9
     have H9 := Hy (An g1 hb9)
     have HO9 := Hy (ownsRow_below HO8.out hb9)
     have HL9 := Hy (atOk_below HL8.out hb9)
     clear g1 g2 g3 hb9 x9 q1
     by_cases hF0 : FV.length = 0
     ·have hFn : ¬ ((0 : Int) < (FV.length : Int)) := by omega
      have HFE := Hy (show R = L.take k ++ (([] : List Atr) ++ ([] : List Atr)) by rw [HPl.out, HFV.out, if_pos (List.eq_nil_of_length_eq_zero hF0)])
      go_wp2_with (first
       | (at_builtin; refine wpList_appendr rfl (.tmp 111) (.tmp 112) 22 45 rfl W8.heap.size 2 40 (.agg #[.string ByteArray.empty, .slice none 0 0]) Tryz.sninfo45 Tryz.underlying22 rfl (by decide) _ (k) _ rfl H9.out.1 _ (0) (atcs ([] : List (List UInt8 × Value))) rfl ?c3r ?c4r ?c1r ?c2r H9.out.2.size ?_)
       | go_in)
      case c3r => first | exact rd_zero2 _ _ _ _ rfl | (simp only [Nat.sub_self]; exact rd_zero2 _ _ _ _ rfl)
      case c4r => exact atcs_ones (w := w9) (atOk_nil _)
      try (case c1r => unfold maxLen; omega)
      try (case c2r => omega)
      intro v2 w10 g1 g2 g3
      have hb10 := below_chg H9.out.2 H9.out.2.size H9.out.1 g2
      obtain ⟨a10, c10, rfl⟩ := ownsRow_slice g1
      have H10 := Hy (An g1 hb10)
      have hL10 := atOk_below HL8.out hb10
      have HL9 := Hy hL10
      have hlq := HQ.out.1
      have hnn := HNn.out
      clear g1 g2 g3 hb10
      go_wp2
      go_ret
      refine ⟨_, rfl, ⟨(Lq.take k) ++ (([] : List (List UInt8 × Value)) ++ ([] : List (List UInt8 × Value))), W8.heap.size, ?_, ?_⟩, HR8.out.2.1.trans (H10.out.2.mono HR8.out.2.1.size)⟩
      ·rw [HFE.out]
       exact atOk_app (atOk_take HL9.out k) (atOk_app (atOk_nil _) (atOk_nil _))
      ·have e : R.length = k + (0) := by rw [HFE.out]; simp; try omega
       rw [e, List.nil_append, atcs_app]; exact H10.out.1
     ·have hFn : (0 : Int) < (FV.length : Int) := by omega
      have HFE := Hy (show R = L.take k ++ ([(t, FV)] ++ ([] : List Atr)) by rw [HPl.out, HFV.out, if_neg (fun e => hF0 (by rw [e]; rfl))])
      go_wp2_with (first
       | (at_builtin; refine wpList_pushm rfl (.tmp 107) (.tmp 109) 22 45 rfl W8.heap.size 2 40 (.agg #[.string ByteArray.empty, .slice none 0 0]) Tryz.sninfo45 Tryz.underlying22 rfl (by decide) 1 [.string ⟨t.toArray⟩, .slice fa FV.length fc] rfl ?c0p _ _ _ rfl _ rfl ?c3p H9.out.1 ?c1p ?c2p H9.out.2.size ?_)
       | go_in)
      case c0p => intro u hu; simp at hu; rcases hu with rfl | rfl <;> rfl
      try (case c1p => unfold maxLen; omega)
      try (case c2p => omega)
      case c3p => first | rfl | simp
      intro v2 w10 g1 g2
      obtain ⟨a10, c10, rfl⟩ := ownsRow_slice g1
      have hb10 := H9.out.2.trans g2
      have HG := Hy (An g1 hb10)
      have HO9 := Hy (ownsRow_below HO8.out hb10)
      have HL9 := Hy (atOk_below HL8.out hb10)
      clear g1 g2 hb10 r0 r1
      go_wp2_with (first
       | (at_builtin; refine wpList_appendr rfl (.tmp 111) (.tmp 112) 22 45 rfl W8.heap.size 2 40 (.agg #[.string ByteArray.empty, .slice none 0 0]) Tryz.sninfo45 Tryz.underlying22 rfl (by decide) _ _ _ rfl HG.out.1 _ (0) (atcs ([] : List (List UInt8 × Value))) rfl ?c3q ?c4q ?c1q ?c2q HG.out.2.size ?_)
       | go_in)
      case c3q => first | exact rd_zero2 _ _ _ _ rfl | (simp only [Nat.sub_self]; exact rd_zero2 _ _ _ _ rfl)
      case c4q => exact atcs_ones (w := w10) (atOk_nil _)
      try (case c1q => unfold maxLen; omega)
      try (case c2q => omega)
      intro v3 w11 g1 g2 g3
      have hb11 := below_chg HG.out.2 HG.out.2.size HG.out.1 g2
      obtain ⟨a11, c11, rfl⟩ := ownsRow_slice g1
      have H11 := Hy (An g1 hb11)
      have hL11 := atOk_below HL8.out hb11
      have HL9 := Hy hL11
      have hlq := HQ.out.1
      have hnn := HNn.out
      clear g1 g2 g3 hb11
      go_wp2
      go_ret
      refine ⟨_, rfl, ⟨(Lq.take k) ++ ([(t, .slice fa FV.length fc)] ++ ([] : List (List UInt8 × Value))), W8.heap.size, ?_, ?_⟩, HR8.out.2.1.trans (H11.out.2.mono HR8.out.2.1.size)⟩
      ·rw [HFE.out]
       exact atOk_app (atOk_take HL9.out k) (atOk_app (atOk_one (ownsRow_below HR8.out.1 H11.out.2)) (atOk_nil _))
      ·have e : R.length = k + 1 + (0) := by rw [HFE.out]; simp; try omega
       rw [e, atcs_app, atcs_app]; exact H11.out.1
theorem put_end2 (L : List Atr) (Lq : List (List UInt8 × Value)) (t : List UInt8) (V : List (List UInt8)) (B g n cap : Nat) (av : Value) (w : World) (hq : AtOk w Lq L) (hr : w.ownsRow B 45 2 (.slice (some ⟨g, 0, none⟩) n cap) n (atcs Lq)) (hn : L.length = n) (hV : TxR w av V) (hln : n <= 100000) (hlV : V.length <= 100000)
  (hK : putK L t = L.length) (hck : ¬ cap = n) :
  Calls Tryz.prog 80 #[.slice (some ⟨g, 0, none⟩) n cap, .agg #[.string ⟨t.toArray⟩, av]] w (PaPost10 (putL L t V) w) := by
 have HQ := Hy hq
 have HR := Hy hr
 have HNn := Hy hn
 have hB : ∀ k, putK L t = k -> ∀ j, j < k -> ∀ hj : j < L.length, L[j].1 < t := by rintro k rfl j h hj; exact putK_lt j h hj
 obtain ⟨X, hX⟩ : ∃ X, putV L t = X := ⟨_, rfl⟩
 have hX0 : X = [] := by rw [<- hX]; unfold putV; rw [dif_neg (by omega)]
 have hP : ∀ k, putK L t = k -> putL L t V = L.take k ++ ((if V.foldl onS1 X = [] then [] else [(t, V.foldl onS1 X)]) ++ []) := by
  rintro k rfl
  rw [<- hX]; unfold putL putR; rw [dif_neg (by omega)]
 obtain ⟨R, hRq⟩ : ∃ R, putL L t V = R := ⟨_, rfl⟩
 rw [hRq] at hP ⊢
 have hKe : putK L t = n := by omega
 clear hK
 have HKl := Hy (hB n hKe)
 have HPl := Hy (hP n hKe)
 clear hB hP hKe
 have hcap : n <= cap := by
  rcases hr.2 with ⟨e, _⟩ | ⟨g', cap', cur, e, _, _, h, _⟩
  ·cases e
  ·injection e with e1 e2 e3
   omega
 have HXl := Hy (show X.length <= 100000 by rw [hX0]; simp)
 have HXe := Hy hX0
 have hV2 := hV
 obtain ⟨va, vc, rfl, hvc⟩ := hV
 have HV := Hy hvc
 obtain ⟨m, hm⟩ : ∃ m, V.length = m := ⟨_, rfl⟩
 have HVl := Hy hm
 have HVt := Hy (show (V.take m).foldl onS1 X = V.foldl onS1 X by rw [<- hm, List.take_length])
 have HSt := Hy (fun i hi => fo_step (X := X) (V := V) i hi)
 have HFl := Hy (fun i => show ((V.take i).foldl onS1 X).length <= 200000 by
  have h1 := fo_len X (V.take i)
  have h2 := HXl.out
  rw [List.length_take] at h1
  omega)
 rw [hm] at hlV ⊢
 obtain ⟨W1, hW1⟩ : ∃ W1, w.alloc (.cells #[.string ⟨t.toArray⟩, .slice va m vc] 45) = W1 := ⟨_, rfl⟩
 have k1 : Below w.heap.size w W1 := by rw [<- hW1]; exact (Below.refl _ w).alloc (Nat.le_refl _) _
 have x1 : W1.heap[w.heap.size]? = some (.cells #[.string ⟨t.toArray⟩, .slice va m vc] 45 (0, 0)) := by rw [<- hW1]; exact heap_alloc_new w _
 have HX1 := Hy (An k1 x1)
 have HW1 := Hy hW1
 have hlq := hq.1
 have hgl : g < w.heap.size := by
  rcases hr.2 with ⟨e, _⟩ | ⟨g', cap', cur, e, _, hg, _⟩
  ·cases e
  ·injection e with e1 e2 e3
   injection e1 with e1
   injection e1 with e1 _ _
   subst e1
   exact obj_lt hg
 have HC := Hy (fun j (hj : j < n) (hj2 : j < L.length) => show w.cell? ⟨g, j * 2, none⟩ = some (.string ⟨L[j].1.toArray⟩) by
  obtain ⟨h1, _⟩ := atcs_at Lq j (by omega)
  rw [<- (hq.2 j (by omega) hj2).1]
  exact (hr.cellAt _ (by omega)).trans h1)
 clear hvc hm hX hX0 hW1 k1 x1 hq hr hV2 hRq
 go_enter Tryz.func80, Tryz.ntmps80
 go_wp2
 rw [HW1.out]
 go_loopw [5] (fun v wr => ∃ k : Nat, k <= n /\ v = .int .i64 (k : Nat) /\ Below W1.heap.size W1 wr) (fun v _ => n - (intOf v).toNat)
 case atStart => exact ⟨0, by omega, rfl, Below.refl _ _⟩
 case round =>
  obtain ⟨k, hk, rfl, hb⟩ := hrel
  have y1 := obj_below HX1.out.2 hb (obj_lt HX1.out.2)
  obtain ⟨b0, b1⟩ := obj2s y1
  have hbw := HX1.out.1.trans (hb.mono HX1.out.1.size)
  have HB := Hy (An hb hbw)
  by_cases hkK : k < n
  ·have hkl : (k : Int) < (n : Int) := by omega
   have hkL : k < L.length := by rw [HNn.out]; omega
   have d1 := (hbw.cell (p := ⟨g, k * 2, none⟩) hgl).trans (HC.out k (by omega) hkL)
   have hls := lt9_t (ltB_iff.2 (HKl.out k hkK hkL))
   obtain ⟨nm, hnm⟩ : ∃ nm, L[k].1 = nm := ⟨_, rfl⟩
   rw [hnm] at d1 hls
   clear hb hbw y1 hnm
   go_wp2_with fail
   go_quiet (fail)
   have HB9 := Hy (below_dn HB.out.1 nq)
   go_wp2
   exact ⟨⟨k + 1, by omega, by go_num, HB9.out⟩, by simp [intOf]; omega⟩
  ·obtain rfl : k = n := by omega
   have hkl : ¬ ((k : Int) < (k : Int)) := by omega
   clear hb hbw
   go_wp2_with fail
   go_quiet (fail)
   obtain ⟨W2, hW2⟩ : ∃ W2, wr.drewN nq = W2 := ⟨_, rfl⟩
   rw [hW2]
   have k2 : Below wr.heap.size wr W2 := by rw [<- hW2]; exact below_dn (Below.refl _ _) nq
   have y2 := obj_below y1 k2 (obj_lt y1)
   obtain ⟨W3, hW3⟩ : ∃ W3, W2.alloc (.cells #[.string ⟨t.toArray⟩, .slice none 0 0] 45) = W3 := ⟨_, rfl⟩
   have k3 : Below W2.heap.size W2 W3 := by rw [<- hW3]; exact (Below.refl _ W2).alloc (Nat.le_refl _) _
   have z3 : W3.heap[W2.heap.size]? = some (.cells #[.string ⟨t.toArray⟩, .slice none 0 0] 45 (0, 0)) := by rw [<- hW3]; exact heap_alloc_new W2 _
   have y3 := obj_below y2 k3 (obj_lt y2)
   obtain ⟨bX, hbX⟩ : ∃ bX, W2.heap.size = bX := ⟨_, rfl⟩
   have HbX := Hy (show w.heap.size < bX by rw [<- hbX]; exact obj_lt y2)
   have HB3 := Hy (HB.out.2.trans ((k2.trans (k3.mono k2.size)).mono HB.out.2.size))
   rw [hbX] at z3
   have HZ3 := Hy (An y3 z3)
   have HW3 := Hy hW3
   have HbXe := Hy hbX
   clear b0 b1 hW2 hW3 hbX z3 y3 k2 k3
   obtain ⟨b0, b1⟩ := obj2s y2
   clear y1 y2
   go_wp2_with fail
   rw [HW3.out, HbXe.out]
   clear b0 b1
   have y3 := HZ3.out.1
   have z3 := HZ3.out.2
   obtain ⟨b0, b1⟩ := obj2s y3
   obtain ⟨i0, i1⟩ := obj2s z3
   clear y3 z3
   go_quiet (fail)
   obtain ⟨W4, hW4⟩ : ∃ W4, W3.drewN nq = W4 := ⟨_, rfl⟩
   rw [hW4]
   have k4 : Below W3.heap.size W3 W4 := by rw [<- hW4]; exact below_dn (Below.refl _ _) nq
   have y4 := obj_below HZ3.out.1 k4 (obj_lt HZ3.out.1)
   have z4 := obj_below HZ3.out.2 k4 (obj_lt HZ3.out.2)
   have HF4 := Hy (An (HB3.out.trans (k4.mono HB3.out.size)) (An y4 z4))
   have HW4 := Hy (rfl : W4 = W4)
   clear b0 b1 i0 i1 hW4 k4
   obtain ⟨b0, b1⟩ := obj2s y4
   obtain ⟨i0, i1⟩ := obj2s z4
   clear y4 z4
   go_wp2_with (first
    | (at_builtin; (try rw [HW4.out]); refine wpList_appendr rfl (.tmp 57) (.tmp 59) 43 9 rfl W4.heap.size 1 16 (.string ByteArray.empty) Tryz.scinfo9 Tryz.underlying43 rfl (by decide) (.slice none 0 0) 0 [] rfl (World.ownsRow_nil _ _ _ _) _ X.length (sc X) rfl ?c3 (sc_one_cell _) ?c1 ?c2 (Nat.le_refl _) ?_)
    | go_in)
   case c3 => rw [HXe.out]; exact rdRow_nil _ _
   try (case c1 => have := HXl.out; unfold maxLen; omega)
   try (case c2 => have := HXl.out; omega)
   intro v1 w5 g1 g2 g3
   obtain ⟨oa, oc, rfl⟩ := ownsRow_slice g1
   have hb5 := chg_nil9c g2
   have g1 : w5.ownsRow W4.heap.size 9 1 (.slice oa X.length oc) X.length (sc X) := by simpa using g1
   have e0X : 0 + X.length = X.length := Nat.zero_add _
   try rw [e0X]
   have H5 := Hy (An g1 hb5)
   clear g1 g2 g3 hb5 e0X
   go_wp2
   go_loopw [8, 9] (fun o v wr => ∃ i : Nat, i <= m /\ v = .int .i64 (i : Nat) /\ wr.ownsRow W4.heap.size 9 1 o ((V.take i).foldl onS1 X).length (sc ((V.take i).foldl onS1 X)) /\ Below W4.heap.size W4 wr) (fun _ v _ => m - (intOf v).toNat)
   case atStart => exact ⟨0, by omega, rfl, H5.out.1, H5.out.2⟩
   case round =>
    obtain ⟨i, hi, rfl, hown, hb⟩ := hrel
    have y0 := obj_below HF4.out.2.1 hb (obj_lt HF4.out.2.1)
    have y1 := obj_below HF4.out.2.2 hb (obj_lt HF4.out.2.2)
    obtain ⟨p0, p1⟩ := obj2s y0
    obtain ⟨q0, q1⟩ := obj2s y1
    have hbw := HF4.out.1.trans (hb.mono HF4.out.1.size)
    by_cases hlt : i < m
    ·have hil : (i : Int) < (m : Int) := by omega
     have hiV : i < V.length := by rw [HVl.out]; exact hlt
     obtain ⟨gv, ov, rfl, hgv, e0w⟩ := HV.out i hiV
     have e0 := (hbw.cell (p := ⟨gv, ov + i, none⟩) hgv).trans e0w
     have hst := HSt.out i hiV
     have hfl := HFl.out i
     obtain ⟨y, hy⟩ : ∃ y, V[i] = y := ⟨_, rfl⟩
     rw [hy] at e0 hst
     obtain ⟨F0, hF⟩ : ∃ F0, (V.take i).foldl onS1 X = F0 := ⟨_, rfl⟩
     rw [hF] at hown hst hfl
     have htx := txR_owns hown
     obtain ⟨fa, fc, rfl, hfc⟩ := htx
     have HFc := Hy hfc
     have HI := Hy (An hown (An hb (An hst (An hfl (inL_step (F := F0) (y := y))))))
     have HTk := Hy (show inL (F0.take F0.length) y = inL F0 y by rw [List.take_length])
     obtain ⟨nf, hnf⟩ : ∃ nf, F0.length = nf := ⟨_, rfl⟩
     have HNf := Hy hnf
     rw [hnf]
     clear hown hb hst hbw y0 y1 e0w hfc hy hF hnf q0 q1
     go_wp2
     go_loopw [10, 11] (fun s v wz => ∃ j q : Nat, j <= nf /\ v = .int .i64 (j : Nat) /\ s = .bool (inL (F0.take j) y) /\ wz = wr.drewN q) (fun _ v _ => nf - (intOf v).toNat)
     case atStart => exact ⟨0, 0, by omega, rfl, rfl, rfl⟩
     case round =>
      obtain ⟨j, q, hj, rfl, rfl, rfl⟩ := hrel
      by_cases hjn : j < nf
      ·have hjl : (j : Int) < (nf : Int) := by omega
       have hjF : j < F0.length := by rw [HNf.out]; exact hjn
       obtain ⟨gf, of, rfl, hgf, f0⟩ := HFc.out j hjF
       have hs := HI.out.2.2.2.2 j hjF
       obtain ⟨z, hz⟩ : ∃ z, F0[j] = z := ⟨_, rfl⟩
       rw [hz] at f0 hs
       obtain ⟨b, hbq⟩ : ∃ b, inL (F0.take j) y = b := ⟨_, rfl⟩
       rw [hbq] at hs
       have HS := Hy hs
       rw [hbq]
       clear hz hbq hs
       cases b
       ·obtain ⟨c, hc⟩ : ∃ c, (z == y) = c := ⟨_, rfl⟩
        have HC := Hy hc
        cases c
        ·go_wp2
         go_quiet (fail)
         go_wp2
         exact ⟨⟨j + 1, q + nq, by omega, by go_num, by rw [HS.out, HC.out]; rfl, rfl⟩, by simp [intOf]; omega⟩
        ·go_wp2
         go_quiet (fail)
         go_wp2
         exact ⟨⟨j + 1, q + nq, by omega, by go_num, by rw [HS.out, HC.out]; rfl, rfl⟩, by simp [intOf]; omega⟩
       ·go_wp2
        go_quiet (fail)
        go_wp2
        exact ⟨⟨j + 1, q + nq, by omega, by go_num, by rw [HS.out]; rfl, rfl⟩, by simp [intOf]; omega⟩
      ·obtain rfl : j = nf := by omega
       have hT := HTk.out
       rw [HNf.out] at hT
       rw [hT]
       obtain ⟨b, hbq⟩ : ∃ b, inL F0 y = b := ⟨_, rfl⟩
       rw [hbq]
       obtain ⟨W7, hW7⟩ : ∃ W7, wr.drewN q = W7 := ⟨_, rfl⟩
       have hb7 : Below wr.heap.size wr W7 := by rw [<- hW7]; exact below_dn (Below.refl _ _) _
       have p07 := (hb7.cell (p := ⟨w.heap.size, 0, none⟩) (Lib.lt_of_cell p0)).trans p0
       have p17 := (hb7.cell (p := ⟨w.heap.size, 1, none⟩) (Lib.lt_of_cell p1)).trans p1
       have e07 := (hb7.cell (p := ⟨gv, ov + i, none⟩) (Lib.lt_of_cell e0)).trans e0
       have hr7 := ownsRow_below HI.out.1 hb7
       rw [HNf.out] at hr7
       have H7 := Hy (An hr7 (HI.out.2.1.trans (hb7.mono HI.out.2.1.size)))
       have hjb : j <= 200000 := by rw [<- HNf.out]; exact HI.out.2.2.2.1
       rw [hW7]
       clear hT hW7 hb7 p0 p1 e0 hr7
       cases b
       ·have HE := Hy (show (V.take (i + 1)).foldl onS1 X = F0 ++ [y] by rw [HI.out.2.2.1]; unfold onS1; rw [if_neg (by rw [hbq]; simp)])
        clear hbq
        go_wp2_with (first
         | (at_builtin; refine wpList_pushm rfl (.tmp 89) (.tmp 95) 43 9 rfl W4.heap.size 1 16 (.string ByteArray.empty) Tryz.scinfo9 Tryz.underlying43 rfl (by decide) 1 [.string ⟨y.toArray⟩] rfl ?c0 _ _ _ rfl _ rfl ?c3 H7.out.1 ?c1 ?c2 H7.out.2.size ?_)
         | go_in)
        case c0 => first | rfl | (intro u hu; simp at hu; subst hu; rfl)
        try (case c1 => unfold maxLen; omega)
        try (case c2 => omega)
        case c3 => first | rfl | simp
        intro v' w' g1 g2
        have H8 := Hy (An g1 (H7.out.2.trans g2))
        clear g1 g2
        go_wp2
        refine ⟨⟨i + 1, by omega, by go_num, ?_, H8.out.2⟩, by simp [intOf]; omega⟩
        rw [HE.out, List.length_append, sc_snoc1, HNf.out]; exact H8.out.1
       ·have HE := Hy (show (V.take (i + 1)).foldl onS1 X = F0 by rw [HI.out.2.2.1]; unfold onS1; rw [if_pos hbq])
        clear hbq
        go_wp2
        refine ⟨⟨i + 1, by omega, by go_num, ?_, H7.out.2⟩, by simp [intOf]; omega⟩
        rw [HE.out, HNf.out]; exact H7.out.1
    ·obtain rfl : i = m := by omega
     have hT := HVt.out
     rw [hT] at hown
     have hfl := HFl.out i
     rw [hT] at hfl
     obtain ⟨FV, hFV⟩ : ∃ FV, V.foldl onS1 X = FV := ⟨_, rfl⟩
     have HFV := Hy hFV
     rw [hFV] at hown hfl
     obtain ⟨fa, fc, rfl⟩ := ownsRow_slice hown
     have hfr := obj_free y1 1
     have x8 := obj_set y1 1 (.slice fa FV.length fc)
     have hch : Chg (fun k => k = bX) wr (wr.setCell ⟨bX, 1, none⟩ (.slice fa FV.length fc)) := (Chg.refl (fun k => k = bX) wr).setCell (p := ⟨bX, 1, none⟩) (fun _ => rfl) _
     have hbx : W4.heap.size <= wr.heap.size := hb.size
     have hbl := obj_lt HF4.out.2.2
     have hr8 := ownsRow_chg hown hch (fun k hk e => by have := (hown.lt k hk).1; omega)
     have hb8 : Below w.heap.size w (wr.setCell ⟨bX, 1, none⟩ (.slice fa FV.length fc)) := hbw.trans (hch.toBelow hbw.size (fun k _ e => by have := HbX.out; omega))
     obtain ⟨W8, hW8⟩ : ∃ W8, wr.setCell ⟨bX, 1, none⟩ (.slice fa FV.length fc) = W8 := ⟨_, rfl⟩
     rw [hW8] at x8 hr8 hb8
     have HW8 := Hy hW8
     have HX8 := Hy x8
     have HR8 := Hy (An hr8 (An hb8 hfl))
     have HL8 := Hy (atOk_below HQ.out hb8)
     have HO8 := Hy (ownsRow_below HR.out hb8)
     clear hown hb hbw y0 y1 hT hfl hFV x8 hch hbx hbl hr8 hb8 hW8 q0
     go_wp2_with (first
      | (at_builtin; (try rw [HW8.out]); refine wpList_appendr rfl (.tmp 99) (.tmp 102) 22 45 rfl W8.heap.size 2 40 (.agg #[.string ByteArray.empty, .slice none 0 0]) Tryz.sninfo45 Tryz.underlying22 rfl (by decide) (.slice none 0 0) 0 [] rfl (World.ownsRow_nil _ _ _ _) _ (k) (atcs (Lq.take k)) rfl ?c3 ?c4 ?c1 ?c2 (Nat.le_refl _) ?_)
      | go_in)
     case c3 => exact rd_take2 HO8.out k (by omega)
     case c4 => exact atcs_ones (atOk_take HL8.out k)
     try (case c1 => unfold maxLen; omega)
     try (case c2 => omega)
     intro v1 w9 g1 g2 g3
     have hb9 := chg_nil9c g2
     have g1 : w9.ownsRow W8.heap.size 45 2 v1 (k) (atcs (Lq.take k)) := by simpa using g1
     obtain ⟨a9, c9, rfl⟩ := ownsRow_slice g1
     have x9 := obj_below HX8.out hb9 (obj_lt HX8.out)
     obtain ⟨r0, r1⟩ := obj2s x9
     have H9 := Hy (An g1 hb9)
     have HO9 := Hy (ownsRow_below HO8.out hb9)
     have HL9 := Hy (atOk_below HL8.out hb9)
     clear g1 g2 g3 hb9 x9 q1
     by_cases hF0 : FV.length = 0
     ·have hFn : ¬ ((0 : Int) < (FV.length : Int)) := by omega
      have HFE := Hy (show R = L.take k ++ (([] : List Atr) ++ ([] : List Atr)) by rw [HPl.out, HFV.out, if_pos (List.eq_nil_of_length_eq_zero hF0)])
      go_wp2_with (first
       | (at_builtin; refine wpList_appendr rfl (.tmp 111) (.tmp 112) 22 45 rfl W8.heap.size 2 40 (.agg #[.string ByteArray.empty, .slice none 0 0]) Tryz.sninfo45 Tryz.underlying22 rfl (by decide) _ (k) _ rfl H9.out.1 _ (0) (atcs ([] : List (List UInt8 × Value))) rfl ?c3r ?c4r ?c1r ?c2r H9.out.2.size ?_)
       | go_in)
      case c3r => first | exact rd_zero2 _ _ _ _ rfl | (simp only [Nat.sub_self]; exact rd_zero2 _ _ _ _ rfl)
      case c4r => exact atcs_ones (w := w9) (atOk_nil _)
      try (case c1r => unfold maxLen; omega)
      try (case c2r => omega)
      intro v2 w10 g1 g2 g3
      have hb10 := below_chg H9.out.2 H9.out.2.size H9.out.1 g2
      obtain ⟨a10, c10, rfl⟩ := ownsRow_slice g1
      have H10 := Hy (An g1 hb10)
      have hL10 := atOk_below HL8.out hb10
      have HL9 := Hy hL10
      have hlq := HQ.out.1
      have hnn := HNn.out
      clear g1 g2 g3 hb10
      go_wp2
      go_ret
      refine ⟨_, rfl, ⟨(Lq.take k) ++ (([] : List (List UInt8 × Value)) ++ ([] : List (List UInt8 × Value))), W8.heap.size, ?_, ?_⟩, HR8.out.2.1.trans (H10.out.2.mono HR8.out.2.1.size)⟩
      ·rw [HFE.out]
       exact atOk_app (atOk_take HL9.out k) (atOk_app (atOk_nil _) (atOk_nil _))
      ·have e : R.length = k + (0) := by rw [HFE.out]; simp; try omega
       rw [e, List.nil_append, atcs_app]; exact H10.out.1
     ·have hFn : (0 : Int) < (FV.length : Int) := by omega
      have HFE := Hy (show R = L.take k ++ ([(t, FV)] ++ ([] : List Atr)) by rw [HPl.out, HFV.out, if_neg (fun e => hF0 (by rw [e]; rfl))])
      go_wp2_with (first
       | (at_builtin; refine wpList_pushm rfl (.tmp 107) (.tmp 109) 22 45 rfl W8.heap.size 2 40 (.agg #[.string ByteArray.empty, .slice none 0 0]) Tryz.sninfo45 Tryz.underlying22 rfl (by decide) 1 [.string ⟨t.toArray⟩, .slice fa FV.length fc] rfl ?c0p _ _ _ rfl _ rfl ?c3p H9.out.1 ?c1p ?c2p H9.out.2.size ?_)
       | go_in)
      case c0p => intro u hu; simp at hu; rcases hu with rfl | rfl <;> rfl
      try (case c1p => unfold maxLen; omega)
      try (case c2p => omega)
      case c3p => first | rfl | simp
      intro v2 w10 g1 g2
      obtain ⟨a10, c10, rfl⟩ := ownsRow_slice g1
      have hb10 := H9.out.2.trans g2
      have HG := Hy (An g1 hb10)
      have HO9 := Hy (ownsRow_below HO8.out hb10)
      have HL9 := Hy (atOk_below HL8.out hb10)
      clear g1 g2 hb10 r0 r1
      go_wp2_with (first
       | (at_builtin; refine wpList_appendr rfl (.tmp 111) (.tmp 112) 22 45 rfl W8.heap.size 2 40 (.agg #[.string ByteArray.empty, .slice none 0 0]) Tryz.sninfo45 Tryz.underlying22 rfl (by decide) _ _ _ rfl HG.out.1 _ (0) (atcs ([] : List (List UInt8 × Value))) rfl ?c3q ?c4q ?c1q ?c2q HG.out.2.size ?_)
       | go_in)
      case c3q => first | exact rd_zero2 _ _ _ _ rfl | (simp only [Nat.sub_self]; exact rd_zero2 _ _ _ _ rfl)
      case c4q => exact atcs_ones (w := w10) (atOk_nil _)
      try (case c1q => unfold maxLen; omega)
      try (case c2q => omega)
      intro v3 w11 g1 g2 g3
      have hb11 := below_chg HG.out.2 HG.out.2.size HG.out.1 g2
      obtain ⟨a11, c11, rfl⟩ := ownsRow_slice g1
      have H11 := Hy (An g1 hb11)
      have hL11 := atOk_below HL8.out hb11
      have HL9 := Hy hL11
      have hlq := HQ.out.1
      have hnn := HNn.out
      clear g1 g2 g3 hb11
      go_wp2
      go_ret
      refine ⟨_, rfl, ⟨(Lq.take k) ++ ([(t, .slice fa FV.length fc)] ++ ([] : List (List UInt8 × Value))), W8.heap.size, ?_, ?_⟩, HR8.out.2.1.trans (H11.out.2.mono HR8.out.2.1.size)⟩
      ·rw [HFE.out]
       exact atOk_app (atOk_take HL9.out k) (atOk_app (atOk_one (ownsRow_below HR8.out.1 H11.out.2)) (atOk_nil _))
      ·have e : R.length = k + 1 + (0) := by rw [HFE.out]; simp; try omega
       rw [e, atcs_app, atcs_app]; exact H11.out.1
theorem put_nil (t : List UInt8) (V : List (List UInt8)) (av : Value) (w : World) (hV : TxR w av V) (hlV : V.length <= 100000) :
  Calls Tryz.prog 80 #[.slice none 0 0, .agg #[.string ⟨t.toArray⟩, av]] w (PaPost10 (putL [] t V) w) := by
 obtain ⟨X, hX⟩ : ∃ X, putV [] t = X := ⟨_, rfl⟩
 have hX0 : X = [] := by rw [<- hX]; unfold putV; rw [dif_neg (by simp)]
 have HPl := Hy (show putL [] t V = [] ++ ((if V.foldl onS1 X = [] then [] else [(t, V.foldl onS1 X)]) ++ []) by rw [<- hX]; rfl)
 obtain ⟨R, hRq⟩ : ∃ R, putL [] t V = R := ⟨_, rfl⟩
 rw [hRq] at HPl ⊢
 have HXl := Hy (show X.length <= 100000 by rw [hX0]; simp)
 have HXe := Hy hX0
 have hV2 := hV
 obtain ⟨va, vc, rfl, hvc⟩ := hV
 have HV := Hy hvc
 obtain ⟨m, hm⟩ : ∃ m, V.length = m := ⟨_, rfl⟩
 have HVl := Hy hm
 have HVt := Hy (show (V.take m).foldl onS1 X = V.foldl onS1 X by rw [<- hm, List.take_length])
 have HSt := Hy (fun i hi => fo_step (X := X) (V := V) i hi)
 have HFl := Hy (fun i => show ((V.take i).foldl onS1 X).length <= 200000 by
  have h1 := fo_len X (V.take i)
  have h2 := HXl.out
  rw [List.length_take] at h1
  omega)
 rw [hm] at hlV ⊢
 obtain ⟨W1, hW1⟩ : ∃ W1, w.alloc (.cells #[.string ⟨t.toArray⟩, .slice va m vc] 45) = W1 := ⟨_, rfl⟩
 have k1 : Below w.heap.size w W1 := by rw [<- hW1]; exact (Below.refl _ w).alloc (Nat.le_refl _) _
 have x1 : W1.heap[w.heap.size]? = some (.cells #[.string ⟨t.toArray⟩, .slice va m vc] 45 (0, 0)) := by rw [<- hW1]; exact heap_alloc_new w _
 have HX1 := Hy (An k1 x1)
 have HW1 := Hy hW1
 clear hvc hm hX hX0 hW1 k1 x1 hV2 hRq
 go_enter Tryz.func80, Tryz.ntmps80
 go_wp2
 rw [HW1.out]
 go_loopw [5] (fun v wr => v = .int .i64 0 /\ Below W1.heap.size W1 wr) (fun _ _ => 0)
 case atStart => exact ⟨rfl, Below.refl _ _⟩
 case round =>
  obtain ⟨rfl, hb⟩ := hrel
  have y1 := obj_below HX1.out.2 hb (obj_lt HX1.out.2)
  obtain ⟨b0, b1⟩ := obj2s y1
  have hbw := HX1.out.1.trans (hb.mono HX1.out.1.size)
  have HB := Hy (An hb hbw)
  have hkl : ¬ ((0 : Int) < (0 : Int)) := by omega
  clear hb hbw
  go_wp2_with fail
  go_quiet (fail)
  obtain ⟨W2, hW2⟩ : ∃ W2, wr.drewN nq = W2 := ⟨_, rfl⟩
  rw [hW2]
  have k2 : Below wr.heap.size wr W2 := by rw [<- hW2]; exact below_dn (Below.refl _ _) nq
  have y2 := obj_below y1 k2 (obj_lt y1)
  obtain ⟨W3, hW3⟩ : ∃ W3, W2.alloc (.cells #[.string ⟨t.toArray⟩, .slice none 0 0] 45) = W3 := ⟨_, rfl⟩
  have k3 : Below W2.heap.size W2 W3 := by rw [<- hW3]; exact (Below.refl _ W2).alloc (Nat.le_refl _) _
  have z3 : W3.heap[W2.heap.size]? = some (.cells #[.string ⟨t.toArray⟩, .slice none 0 0] 45 (0, 0)) := by rw [<- hW3]; exact heap_alloc_new W2 _
  have y3 := obj_below y2 k3 (obj_lt y2)
  obtain ⟨bX, hbX⟩ : ∃ bX, W2.heap.size = bX := ⟨_, rfl⟩
  have HbX := Hy (show w.heap.size < bX by rw [<- hbX]; exact obj_lt y2)
  have HB3 := Hy (HB.out.2.trans ((k2.trans (k3.mono k2.size)).mono HB.out.2.size))
  rw [hbX] at z3
  have HZ3 := Hy (An y3 z3)
  have HW3 := Hy hW3
  have HbXe := Hy hbX
  clear b0 b1 hW2 hW3 hbX z3 y3 k2 k3
  obtain ⟨b0, b1⟩ := obj2s y2
  clear y1 y2
  go_wp2_with fail
  rw [HW3.out, HbXe.out]
  clear b0 b1
  have y3 := HZ3.out.1
  have z3 := HZ3.out.2
  obtain ⟨b0, b1⟩ := obj2s y3
  obtain ⟨i0, i1⟩ := obj2s z3
  clear y3 z3
  go_quiet (fail)
  obtain ⟨W4, hW4⟩ : ∃ W4, W3.drewN nq = W4 := ⟨_, rfl⟩
  rw [hW4]
  have k4 : Below W3.heap.size W3 W4 := by rw [<- hW4]; exact below_dn (Below.refl _ _) nq
  have y4 := obj_below HZ3.out.1 k4 (obj_lt HZ3.out.1)
  have z4 := obj_below HZ3.out.2 k4 (obj_lt HZ3.out.2)
  have HF4 := Hy (An (HB3.out.trans (k4.mono HB3.out.size)) (An y4 z4))
  have HW4 := Hy (rfl : W4 = W4)
  clear b0 b1 i0 i1 hW4 k4
  obtain ⟨b0, b1⟩ := obj2s y4
  obtain ⟨i0, i1⟩ := obj2s z4
  clear y4 z4
  go_wp2_with (first
   | (at_builtin; (try rw [HW4.out]); refine wpList_appendr rfl (.tmp 57) (.tmp 59) 43 9 rfl W4.heap.size 1 16 (.string ByteArray.empty) Tryz.scinfo9 Tryz.underlying43 rfl (by decide) (.slice none 0 0) 0 [] rfl (World.ownsRow_nil _ _ _ _) _ X.length (sc X) rfl ?c3 (sc_one_cell _) ?c1 ?c2 (Nat.le_refl _) ?_)
   | go_in)
  case c3 => rw [HXe.out]; exact rdRow_nil _ _
  try (case c1 => have := HXl.out; unfold maxLen; omega)
  try (case c2 => have := HXl.out; omega)
  intro v1 w5 g1 g2 g3
  obtain ⟨oa, oc, rfl⟩ := ownsRow_slice g1
  have hb5 := chg_nil9c g2
  have g1 : w5.ownsRow W4.heap.size 9 1 (.slice oa X.length oc) X.length (sc X) := by simpa using g1
  have e0X : 0 + X.length = X.length := Nat.zero_add _
  try rw [e0X]
  have H5 := Hy (An g1 hb5)
  clear g1 g2 g3 hb5 e0X
  go_wp2
  go_loopw [8, 9] (fun o v wr => ∃ i : Nat, i <= m /\ v = .int .i64 (i : Nat) /\ wr.ownsRow W4.heap.size 9 1 o ((V.take i).foldl onS1 X).length (sc ((V.take i).foldl onS1 X)) /\ Below W4.heap.size W4 wr) (fun _ v _ => m - (intOf v).toNat)
  case atStart => exact ⟨0, by omega, rfl, H5.out.1, H5.out.2⟩
  case round =>
   obtain ⟨i, hi, rfl, hown, hb⟩ := hrel
   have y0 := obj_below HF4.out.2.1 hb (obj_lt HF4.out.2.1)
   have y1 := obj_below HF4.out.2.2 hb (obj_lt HF4.out.2.2)
   obtain ⟨p0, p1⟩ := obj2s y0
   obtain ⟨q0, q1⟩ := obj2s y1
   have hbw := HF4.out.1.trans (hb.mono HF4.out.1.size)
   by_cases hlt : i < m
   ·have hil : (i : Int) < (m : Int) := by omega
    have hiV : i < V.length := by rw [HVl.out]; exact hlt
    obtain ⟨gv, ov, rfl, hgv, e0w⟩ := HV.out i hiV
    have e0 := (hbw.cell (p := ⟨gv, ov + i, none⟩) hgv).trans e0w
    have hst := HSt.out i hiV
    have hfl := HFl.out i
    obtain ⟨y, hy⟩ : ∃ y, V[i] = y := ⟨_, rfl⟩
    rw [hy] at e0 hst
    obtain ⟨F0, hF⟩ : ∃ F0, (V.take i).foldl onS1 X = F0 := ⟨_, rfl⟩
    rw [hF] at hown hst hfl
    have htx := txR_owns hown
    obtain ⟨fa, fc, rfl, hfc⟩ := htx
    have HFc := Hy hfc
    have HI := Hy (An hown (An hb (An hst (An hfl (inL_step (F := F0) (y := y))))))
    have HTk := Hy (show inL (F0.take F0.length) y = inL F0 y by rw [List.take_length])
    obtain ⟨nf, hnf⟩ : ∃ nf, F0.length = nf := ⟨_, rfl⟩
    have HNf := Hy hnf
    rw [hnf]
    clear hown hb hst hbw y0 y1 e0w hfc hy hF hnf q0 q1
    go_wp2
    go_loopw [10, 11] (fun s v wz => ∃ j q : Nat, j <= nf /\ v = .int .i64 (j : Nat) /\ s = .bool (inL (F0.take j) y) /\ wz = wr.drewN q) (fun _ v _ => nf - (intOf v).toNat)
    case atStart => exact ⟨0, 0, by omega, rfl, rfl, rfl⟩
    case round =>
     obtain ⟨j, q, hj, rfl, rfl, rfl⟩ := hrel
     by_cases hjn : j < nf
     ·have hjl : (j : Int) < (nf : Int) := by omega
      have hjF : j < F0.length := by rw [HNf.out]; exact hjn
      obtain ⟨gf, of, rfl, hgf, f0⟩ := HFc.out j hjF
      have hs := HI.out.2.2.2.2 j hjF
      obtain ⟨z, hz⟩ : ∃ z, F0[j] = z := ⟨_, rfl⟩
      rw [hz] at f0 hs
      obtain ⟨b, hbq⟩ : ∃ b, inL (F0.take j) y = b := ⟨_, rfl⟩
      rw [hbq] at hs
      have HS := Hy hs
      rw [hbq]
      clear hz hbq hs
      cases b
      ·obtain ⟨c, hc⟩ : ∃ c, (z == y) = c := ⟨_, rfl⟩
       have HC := Hy hc
       cases c
       ·go_wp2
        go_quiet (fail)
        go_wp2
        exact ⟨⟨j + 1, q + nq, by omega, by go_num, by rw [HS.out, HC.out]; rfl, rfl⟩, by simp [intOf]; omega⟩
       ·go_wp2
        go_quiet (fail)
        go_wp2
        exact ⟨⟨j + 1, q + nq, by omega, by go_num, by rw [HS.out, HC.out]; rfl, rfl⟩, by simp [intOf]; omega⟩
      ·go_wp2
       go_quiet (fail)
       go_wp2
       exact ⟨⟨j + 1, q + nq, by omega, by go_num, by rw [HS.out]; rfl, rfl⟩, by simp [intOf]; omega⟩
     ·obtain rfl : j = nf := by omega
      have hT := HTk.out
      rw [HNf.out] at hT
      rw [hT]
      obtain ⟨b, hbq⟩ : ∃ b, inL F0 y = b := ⟨_, rfl⟩
      rw [hbq]
      obtain ⟨W7, hW7⟩ : ∃ W7, wr.drewN q = W7 := ⟨_, rfl⟩
      have hb7 : Below wr.heap.size wr W7 := by rw [<- hW7]; exact below_dn (Below.refl _ _) _
      have p07 := (hb7.cell (p := ⟨w.heap.size, 0, none⟩) (Lib.lt_of_cell p0)).trans p0
      have p17 := (hb7.cell (p := ⟨w.heap.size, 1, none⟩) (Lib.lt_of_cell p1)).trans p1
      have e07 := (hb7.cell (p := ⟨gv, ov + i, none⟩) (Lib.lt_of_cell e0)).trans e0
      have hr7 := ownsRow_below HI.out.1 hb7
      rw [HNf.out] at hr7
      have H7 := Hy (An hr7 (HI.out.2.1.trans (hb7.mono HI.out.2.1.size)))
      have hjb : j <= 200000 := by rw [<- HNf.out]; exact HI.out.2.2.2.1
      rw [hW7]
      clear hT hW7 hb7 p0 p1 e0 hr7
      cases b
      ·have HE := Hy (show (V.take (i + 1)).foldl onS1 X = F0 ++ [y] by rw [HI.out.2.2.1]; unfold onS1; rw [if_neg (by rw [hbq]; simp)])
       clear hbq
       go_wp2_with (first
        | (at_builtin; refine wpList_pushm rfl (.tmp 89) (.tmp 95) 43 9 rfl W4.heap.size 1 16 (.string ByteArray.empty) Tryz.scinfo9 Tryz.underlying43 rfl (by decide) 1 [.string ⟨y.toArray⟩] rfl ?c0 _ _ _ rfl _ rfl ?c3 H7.out.1 ?c1 ?c2 H7.out.2.size ?_)
        | go_in)
       case c0 => first | rfl | (intro u hu; simp at hu; subst hu; rfl)
       try (case c1 => unfold maxLen; omega)
       try (case c2 => omega)
       case c3 => first | rfl | simp
       intro v' w' g1 g2
       have H8 := Hy (An g1 (H7.out.2.trans g2))
       clear g1 g2
       go_wp2
       refine ⟨⟨i + 1, by omega, by go_num, ?_, H8.out.2⟩, by simp [intOf]; omega⟩
       rw [HE.out, List.length_append, sc_snoc1, HNf.out]; exact H8.out.1
      ·have HE := Hy (show (V.take (i + 1)).foldl onS1 X = F0 by rw [HI.out.2.2.1]; unfold onS1; rw [if_pos hbq])
       clear hbq
       go_wp2
       refine ⟨⟨i + 1, by omega, by go_num, ?_, H7.out.2⟩, by simp [intOf]; omega⟩
       rw [HE.out, HNf.out]; exact H7.out.1
   ·obtain rfl : i = m := by omega
    have hT := HVt.out
    rw [hT] at hown
    have hfl := HFl.out i
    rw [hT] at hfl
    obtain ⟨FV, hFV⟩ : ∃ FV, V.foldl onS1 X = FV := ⟨_, rfl⟩
    have HFV := Hy hFV
    rw [hFV] at hown hfl
    obtain ⟨fa, fc, rfl⟩ := ownsRow_slice hown
    have hfr := obj_free y1 1
    have x8 := obj_set y1 1 (.slice fa FV.length fc)
    have hch : Chg (fun k => k = bX) wr (wr.setCell ⟨bX, 1, none⟩ (.slice fa FV.length fc)) := (Chg.refl (fun k => k = bX) wr).setCell (p := ⟨bX, 1, none⟩) (fun _ => rfl) _
    have hbx : W4.heap.size <= wr.heap.size := hb.size
    have hbl := obj_lt HF4.out.2.2
    have hr8 := ownsRow_chg hown hch (fun k hk e => by have := (hown.lt k hk).1; omega)
    have hb8 : Below w.heap.size w (wr.setCell ⟨bX, 1, none⟩ (.slice fa FV.length fc)) := hbw.trans (hch.toBelow hbw.size (fun k _ e => by have := HbX.out; omega))
    obtain ⟨W8, hW8⟩ : ∃ W8, wr.setCell ⟨bX, 1, none⟩ (.slice fa FV.length fc) = W8 := ⟨_, rfl⟩
    rw [hW8] at x8 hr8 hb8
    have HW8 := Hy hW8
    have HX8 := Hy x8
    have HR8 := Hy (An hr8 (An hb8 hfl))
    have HL8 := Hy (atOk_nil w)
    clear hown hb hbw y0 y1 hT hfl hFV x8 hch hbx hbl hr8 hb8 hW8 q0
    go_wp2_with (first
     | (at_builtin; (try rw [HW8.out]); refine wpList_appendr rfl (.tmp 99) (.tmp 102) 22 45 rfl W8.heap.size 2 40 (.agg #[.string ByteArray.empty, .slice none 0 0]) Tryz.sninfo45 Tryz.underlying22 rfl (by decide) (.slice none 0 0) 0 [] rfl (World.ownsRow_nil _ _ _ _) _ (0) (atcs ([] : List (List UInt8 × Value))) rfl ?c3 ?c4 ?c1 ?c2 (Nat.le_refl _) ?_)
     | go_in)
    case c3 => exact rdRow_nil _ _
    case c4 => exact (fun u hu => by simp [atcs] at hu)
    try (case c1 => unfold maxLen; omega)
    try (case c2 => omega)
    intro v1 w9 g1 g2 g3
    have hb9 := chg_nil9c g2
    have g1 : w9.ownsRow W8.heap.size 45 2 v1 (0) (atcs ([] : List (List UInt8 × Value))) := by simpa using g1
    obtain ⟨a9, c9, rfl⟩ := ownsRow_slice g1
    have x9 := obj_below HX8.out hb9 (obj_lt HX8.out)
    obtain ⟨r0, r1⟩ := obj2s x9
    have H9 := Hy (An g1 hb9)
    skip
    skip
    clear g1 g2 g3 hb9 x9 q1
    by_cases hF0 : FV.length = 0
    ·have hFn : ¬ ((0 : Int) < (FV.length : Int)) := by omega
     have HFE := Hy (show R = ([] : List Atr) ++ (([] : List Atr) ++ ([] : List Atr)) by rw [HPl.out, HFV.out, if_pos (List.eq_nil_of_length_eq_zero hF0)])
     go_wp2_with (first
      | (at_builtin; refine wpList_appendr rfl (.tmp 111) (.tmp 112) 22 45 rfl W8.heap.size 2 40 (.agg #[.string ByteArray.empty, .slice none 0 0]) Tryz.sninfo45 Tryz.underlying22 rfl (by decide) _ (0) _ rfl H9.out.1 _ (0) (atcs ([] : List (List UInt8 × Value))) rfl ?c3r ?c4r ?c1r ?c2r H9.out.2.size ?_)
      | go_in)
     case c3r => exact rdRow_nil _ _
     case c4r => exact (fun u hu => by simp [atcs] at hu)
     try (case c1r => unfold maxLen; omega)
     try (case c2r => omega)
     intro v2 w10 g1 g2 g3
     have hb10 := below_chg H9.out.2 H9.out.2.size H9.out.1 g2
     obtain ⟨a10, c10, rfl⟩ := ownsRow_slice g1
     have H10 := Hy (An g1 hb10)
     clear g1 g2 g3 hb10
     go_wp2
     go_ret
     refine ⟨_, rfl, ⟨([] : List (List UInt8 × Value)) ++ (([] : List (List UInt8 × Value)) ++ ([] : List (List UInt8 × Value))), W8.heap.size, ?_, ?_⟩, HR8.out.2.1.trans (H10.out.2.mono HR8.out.2.1.size)⟩
     ·rw [HFE.out]
      exact atOk_app (atOk_nil _) (atOk_app (atOk_nil _) (atOk_nil _))
     ·have e : R.length = 0 + (0) := by rw [HFE.out]; simp; try omega
      rw [e, List.nil_append, atcs_app]; exact H10.out.1
    ·have hFn : (0 : Int) < (FV.length : Int) := by omega
     have HFE := Hy (show R = ([] : List Atr) ++ ([(t, FV)] ++ ([] : List Atr)) by rw [HPl.out, HFV.out, if_neg (fun e => hF0 (by rw [e]; rfl))])
     go_wp2_with (first
      | (at_builtin; refine wpList_pushm rfl (.tmp 107) (.tmp 109) 22 45 rfl W8.heap.size 2 40 (.agg #[.string ByteArray.empty, .slice none 0 0]) Tryz.sninfo45 Tryz.underlying22 rfl (by decide) 1 [.string ⟨t.toArray⟩, .slice fa FV.length fc] rfl ?c0p _ _ _ rfl _ rfl ?c3p H9.out.1 ?c1p ?c2p H9.out.2.size ?_)
      | go_in)
     case c0p => intro u hu; simp at hu; rcases hu with rfl | rfl <;> rfl
     try (case c1p => unfold maxLen; omega)
     try (case c2p => omega)
     case c3p => first | rfl | simp
     intro v2 w10 g1 g2
     obtain ⟨a10, c10, rfl⟩ := ownsRow_slice g1
     have hb10 := H9.out.2.trans g2
     have HG := Hy (An g1 hb10)
     skip
     skip
     clear g1 g2 hb10 r0 r1
     go_wp2_with (first
      | (at_builtin; refine wpList_appendr rfl (.tmp 111) (.tmp 112) 22 45 rfl W8.heap.size 2 40 (.agg #[.string ByteArray.empty, .slice none 0 0]) Tryz.sninfo45 Tryz.underlying22 rfl (by decide) _ _ _ rfl HG.out.1 _ (0) (atcs ([] : List (List UInt8 × Value))) rfl ?c3q ?c4q ?c1q ?c2q HG.out.2.size ?_)
      | go_in)
     case c3q => exact rdRow_nil _ _
     case c4q => exact (fun u hu => by simp [atcs] at hu)
     try (case c1q => unfold maxLen; omega)
     try (case c2q => omega)
     intro v3 w11 g1 g2 g3
     have hb11 := below_chg HG.out.2 HG.out.2.size HG.out.1 g2
     obtain ⟨a11, c11, rfl⟩ := ownsRow_slice g1
     have H11 := Hy (An g1 hb11)
     clear g1 g2 g3 hb11
     go_wp2
     go_ret
     refine ⟨_, rfl, ⟨([] : List (List UInt8 × Value)) ++ ([(t, .slice fa FV.length fc)] ++ ([] : List (List UInt8 × Value))), W8.heap.size, ?_, ?_⟩, HR8.out.2.1.trans (H11.out.2.mono HR8.out.2.1.size)⟩
     ·rw [HFE.out]
      exact atOk_app (atOk_nil _) (atOk_app (atOk_one (ownsRow_below HR8.out.1 H11.out.2)) (atOk_nil _))
     ·have e : R.length = 0 + 1 + (0) := by rw [HFE.out]; simp; try omega
      rw [e, atcs_app, atcs_app]; exact H11.out.1
end Go.Proofs.YtpkbgkoocijegaaGreatDoor
