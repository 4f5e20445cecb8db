/- The law of what may not be read. -/
import Derived.Test.YtbihhdkmmlldnaaGreatDoorViQG
import Derived.ArgAppend
import Derived.Deep.SlicePairs
import Derived.Lib.SmallJoins
import Derived.OpenShut
import Derived.Test.YtbihhdkmmlldnaaGreatDoorArgsE
namespace Go.Proofs.MemK
open Go Go.RowKit Go.Proofs.BerK
/-- 'append(l[:n:n], x...)', inside a statement that draws its order: the row that grows alone. -/
theorem step_grows {P : Program} {ops : Array Oper} {o : Oper} {a : Act} {w : World} {K : Act → World → Prop} {Q : Exit → Act → World → Prop} {E : Prop}
    (hgd : o.guard = none) (s x : Operand) (t e : TypeId) (ho : o.op = Op.call { callee := Callee.builtin Builtin.append, args := #[s, x], argTypes := #[t, t] })
    (size bytes : Nat) (z : Value) (h5 : (P.info? e).map (fun i => (i.zero, i.size, i.bytes)) = some (some z, size, bytes)) (ht : P.underlying t = some (.slice e)) (hzs : z.cells.size = size) (hsz : 0 < size)
    (ao : Option Addr) (n cap : Nat) (olds : List Value) (hs : a.eval s = .slice ao n cap) (hnone : ao = none → n = 0 ∧ cap = 0) (hlo : olds.length = n * size) (holds : ∀ b, ao = some b → ∀ j u, olds[j]? = some u → w.cell? (b.add j) = some u)
    (ad : Addr) (m c : Nat) (news : List Value) (hx : a.eval x = .slice (some ad) m c) (hn : news.length = m * size) (hc : ∀ j u, news[j]? = some u → w.cell? (ad.add j) = some u) (h1c : ∀ u ∈ news, u.oneCell' = true)
    (hfull : cap < n + m) (b1 : n + m ≤ maxLen) (b2 : (n + m) * bytes ≤ 140737488355328)
    (h : ∀ v' w', w'.ownsRow w.heap.size e size v' (n + m) (olds ++ news) → Below w.heap.size w w' → K (a.put o.dst v') w') :
    if Region.wanted o (yielded ops a.tmps) = true then Oper.wp P o a w K Q else E := by
  have hw : Region.wanted o (yielded ops a.tmps) = true := by simp [Region.wanted, hgd]
  rw [if_pos hw]
  obtain ⟨i, hi, hz0, hz1, hz2⟩ := info_parts h5
  have hb : ∀ w', w.grownBy w' none → Below w.heap.size w w' := fun w' h2 => ⟨h2.os, h2.tape, h2.output, h2.size, fun k hk => h2.block k hk (by simp)⟩
  cases ao with
  | some b =>
    obtain ⟨v', w', hr, r1, r2⟩ := run_append_arg_grows (P := P) w t o.type e i z size bytes ht hi hz0 hz1 hz2 hzs hsz b n cap olds hlo (holds b rfl) ad m c news hn hc hfull b1 b2
    unfold Oper.wp execOp
    simp only [ho, resolve, invoke, builtin, Sem.run_bind, Sem.run_pure, Result.andThen_ok, List.map_toArray, List.map_cons, List.map_nil, hs, hx, hr]
    exact h v' w' r1 (hb w' r2)
  | none =>
    obtain ⟨rfl, rfl⟩ := hnone rfl
    obtain rfl : olds = [] := List.eq_nil_of_length_eq_zero (by simpa using hlo)
    obtain ⟨v', w', hr, r1, r2, _⟩ := run_append_own (P := P) w w.heap.size t o.type e i z size bytes ht hi hz0 hz1 hz2 hzs hsz (.slice none 0 0) 0 [] (World.ownsRow_nil w _ e size) ad m c news hn hc h1c b1 b2 (Nat.le_refl _)
    unfold Oper.wp execOp
    simp only [ho, resolve, invoke, builtin, Sem.run_bind, Sem.run_pure, Result.andThen_ok, List.map_toArray, List.map_cons, List.map_nil, hs, hx, hr]
    exact h v' w' r1 (hb w' r2)
end Go.Proofs.MemK
namespace Go.Proofs.YtbihhdkmmlldnaaGreatDoor
set_option linter.unusedSimpArgs false
set_option linter.unusedVariables false
open Go Go.RowKit Go.Proofs.BerK Go.Proofs.MemK Go.Proofs.UtfK
/-- Names with lists in memory, to be read. -/
def AtTx (w : World) (Lq : List (List UInt8 × Value)) (L : List Atr) : Prop := Lq.length = L.length ∧ ∀ i (h1 : i < Lq.length) (h2 : i < L.length), Lq[i].1 = L[i].1 ∧ TxR w Lq[i].2 L[i].2 ∧ SlOk Lq[i].2
theorem atTx_ok {w : World} {Lq : List (List UInt8 × Value)} {L : List Atr} (h : AtOk w Lq L) : AtTx w Lq L :=
  ⟨h.1, fun i h1 h2 => by obtain ⟨e, B, hB⟩ := h.2 i h1 h2; exact ⟨e, txR_owns hB, slOk_owns hB⟩⟩
theorem atTx_below {w w' : World} {Lq : List (List UInt8 × Value)} {L : List Atr} (h : AtTx w Lq L) (hb : Below w.heap.size w w') : AtTx w' Lq L :=
  ⟨h.1, fun i h1 h2 => ⟨(h.2 i h1 h2).1, txR_below (h.2 i h1 h2).2.1 hb, (h.2 i h1 h2).2.2⟩⟩
theorem atTx_app {w : World} {Lq Mq : List (List UInt8 × Value)} {L M : List Atr} (h : AtTx w Lq L) (h2 : AtTx w Mq M) : AtTx w (Lq ++ Mq) (L ++ M) := by
  have hl := h.1
  refine ⟨by rw [List.length_append, List.length_append, h.1, h2.1], fun i i1 i2 => ?_⟩
  rw [List.length_append] at i1 i2
  rw [List.getElem_append, List.getElem_append]
  by_cases hi : i < Lq.length
  · rw [dif_pos hi, dif_pos (by omega)]
    exact h.2 i hi (by omega)
  · rw [dif_neg hi, dif_neg (by omega)]
    have := h2.2 (i - Lq.length) (by omega) (by omega)
    simp only [hl] at this ⊢
    exact this
theorem atTx_ones {w : World} {Lq : List (List UInt8 × Value)} {L : List Atr} (h : AtTx w Lq L) : ∀ u ∈ atcs Lq, u.oneCell' = true := by
  intro u hu
  unfold atcs at hu
  obtain ⟨q, hq, hu⟩ := List.mem_flatMap.1 hu
  obtain ⟨i, hi, rfl⟩ := List.mem_iff_getElem.1 hq
  have hl := h.1
  simp only [List.mem_cons, List.not_mem_nil, or_false] at hu
  rcases hu with rfl | rfl
  · rfl
  · exact slOk_one (h.2 i hi (by omega)).2.2
theorem eaAt_own {w : World} {B : Nat} {v : Value} {Lq : List (List UInt8 × Value)} {L : List Atr} (hq : AtTx w Lq L) (h : w.ownsRow B 50 2 v L.length (atcs Lq)) : EaAt w v L := by
  refine ⟨slOk_owns h, ?_⟩
  have hl := hq.1
  rcases h.2 with ⟨rfl, h0⟩ | ⟨g, cap, cur, rfl, _, hg, _⟩
  · exact ⟨none, 0, by rw [h0], fun i hi => by omega⟩
  · refine ⟨_, cap, rfl, fun i hi => ?_⟩
    obtain ⟨h1, h2⟩ := atcs_at Lq i (by omega)
    obtain ⟨x1, x2, x3⟩ := hq.2 i (by omega) hi
    refine ⟨g, 0, Lq[i].2, rfl, (Array.getElem?_eq_some_iff.1 hg).1, ?_, ?_, x2, x3⟩
    · rw [Nat.zero_add, ← x1]; exact (h.cellAt _ (by omega)).trans h1
    · rw [Nat.zero_add]; exact (h.cellAt _ (by omega)).trans h2
theorem eaAt_rd {w : World} {v : Value} {A : List Atr} (h : EaAt w v A) : ∃ Lq, AtTx w Lq A ∧ RdRow w 2 v A.length (atcs Lq) := by
  obtain ⟨hk, a, c, rfl, h⟩ := h
  have h2 : ∀ i : Fin A.length, ∃ vl, ∃ g o, a = some ⟨g, o, none⟩ ∧ w.cell? ⟨g, o + i.1 * 2, none⟩ = some (.string ⟨A[i.1].1.toArray⟩) ∧ w.cell? ⟨g, o + i.1 * 2 + 1, none⟩ = some vl ∧ TxR w vl A[i.1].2 ∧ SlOk vl := fun i => by
    obtain ⟨g, o, vl, h1, h2, h3, h4, h5, h6⟩ := h i.1 i.2
    exact ⟨vl, g, o, h1, h3, h4, h5, h6⟩
  obtain ⟨f, hf⟩ := Classical.axiomOfChoice h2
  have hl : (List.ofFn fun i : Fin A.length => (A[i.1].1, f i)).length = A.length := by simp
  refine ⟨List.ofFn fun i : Fin A.length => (A[i.1].1, f i), ⟨hl, fun i h1 h2 => ?_⟩, ?_⟩
  · rw [List.getElem_ofFn]
    obtain ⟨g, o, _, _, _, x1, x2⟩ := hf ⟨i, h2⟩
    exact ⟨rfl, x1, x2⟩
  · refine ⟨by rw [atcs_len, hl], ?_⟩
    rcases hk with e | ⟨ad, n, cc, e⟩
    · injection e with e1 e2 e3
      subst e1 e3
      exact .inl ⟨by rw [e2], e2⟩
    · injection e with e1 e2 e3
      subst e1
      refine .inr ⟨ad, c, rfl, fun j u hj => ?_⟩
      have hj2 : j < A.length * 2 := by
        have := (List.getElem?_eq_some_iff.1 hj).1
        rw [atcs_len, hl] at this
        exact this
      have hi : j / 2 < A.length := by omega
      obtain ⟨g, o, e4, c1, c2, _, _⟩ := hf ⟨j / 2, hi⟩
      injection e4 with e4
      subst e4
      rw [Addr.add_lit]
      obtain ⟨a1, a2⟩ := atcs_at (List.ofFn fun i : Fin A.length => (A[i.1].1, f i)) (j / 2) (by rw [hl]; exact hi)
      rw [List.getElem_ofFn] at a1 a2
      rcases (show j % 2 = 0 ∨ j % 2 = 1 by omega) with q | q
      · rw [show j / 2 * 2 = j by omega] at a1
        rw [a1] at hj
        injection hj with hj
        subst hj
        simp only [] at c1
        rw [show o + j / 2 * 2 = o + j by omega] at c1
        exact c1
      · rw [show j / 2 * 2 + 1 = j by omega] at a2
        rw [a2] at hj
        injection hj with hj
        subst hj
        simp only [] at c2
        rw [show o + j / 2 * 2 + 1 = o + j by omega] at c2
        exact c2
theorem few_snoc {dn : List UInt8} {A : List Atr} {t : List UInt8} {V : List (List UInt8)} (h : FewA dn A) (h2 : FewA [] [(t, V)]) : FewG 13 8 (A ++ [(t, V)]) := by
  have h1 := few_G h
  have h3 := few_G h2
  have h4 := h3.2 (t, V) (by simp)
  exact fewG_snoc h1 h4.1 h4.2.1 h4.2.2
/-- One attribute by itself, as a literal lays it. -/
theorem eaAt_one {w : World} {b : Nat} {t : List UInt8} {V : List (List UInt8)} {va : Option Addr} {vc : Nat} {e : TypeId} (h : w.heap[b]? = some (.cells #[.string ⟨t.toArray⟩, .slice va V.length vc] e (0, 0))) (ht : TxR w (.slice va V.length vc) V) (hk : SlOk (.slice va V.length vc)) : EaAt w (.slice (some ⟨b, 0, none⟩) 1 1) [(t, V)] := by
  refine ⟨.inr ⟨_, _, _, rfl⟩, _, 1, rfl, fun i hi => ?_⟩
  obtain rfl : i = 0 := by simpa using hi
  exact ⟨b, 0, .slice va V.length vc, rfl, obj_lt h, obj_cell h 0 _ rfl, obj_cell h 1 _ rfl, ht, hk⟩
open Go.ChangeShapes Go.WideShapes Go.Deep in
theorem attrs_cap {H : Type} {enc : TypeId × Value → H} {w : World} {fuel : Nat} {a : Option Addr} {n c : Nat} {x : DataW H × List MemPlace} (h : DataW.trod enc Tryz.prog w 0 (fun _ => true) true fuel 38 [.slice a n c] = some x) : n ≤ c := by
  rcases open_slice Tryz.underlying38 h with h0 | ⟨a', len', cap', m, n', D, Pl, hcs, hb, hl, _⟩
  · have h0 := h0.1
    simp at h0
    omega
  · simp at hcs
    omega
open Go.ChangeShapes Go.WideShapes Go.Deep in
set_option maxRecDepth 100000 in
theorem entry_cap {H : Type} {enc : TypeId × Value → H} {w : World} {r : Reach} {b0 : Nat} {s v : Value} {d : DataW H} {ps : List MemPlace} (hval : Value.okWide Tryz.prog w r b0 40 (.agg #[s, v]))
    (h : DataW.Trod enc Tryz.prog w 0 (fun _ => true) true 40 (.agg #[s, v]) d ps) : ∀ x y z, v = .slice x y z → y ≤ z := by
  obtain ⟨v0, v1, y0, y1, n, he, _, _, g0, g1⟩ := Joins.open_agg2 Tryz.underlying40 (by kernel_rfl) en_c2e hval h
  intro x y z hv
  simp at he
  obtain ⟨_, rfl⟩ := he
  subst hv
  exact attrs_cap g1
open Go.ChangeShapes Go.WideShapes Go.Deep in
set_option maxRecDepth 100000 in
theorem attr_arg {H : Type} {enc : TypeId × Value → H} {w : World} {r : Reach} {b0 : Nat} {v : Value} {d : DataW H} {ps : List MemPlace} (hval : Value.okWide Tryz.prog w r b0 50 v)
    (h : DataW.Trod enc Tryz.prog w 0 (fun _ => true) true 50 v d ps) : ∃ (t : List UInt8) (V : List (List UInt8)) (a : Option Addr) (c : Nat), v = .agg #[.string ⟨t.toArray⟩, .slice a V.length c] ∧ TxR w (.slice a V.length c) V ∧ SlOk (.slice a V.length c) := by
  obtain ⟨v0, v1, y0, y1, n, rfl, _, _, g0, g1⟩ := Joins.open_agg2 Tryz.underlying50 (by kernel_rfl) en_c2 hval h
  obtain ⟨s0, e0, _⟩ := DataW.trod_string Tryz.underlying9 g0
  have hk := slOk_cell g1
  obtain ⟨a, c, V, rfl, hV, _⟩ := strs_cell9 Tryz.underlying48 Tryz.underlying9 en_c1 g1
  injection e0 with e0
  subst e0
  exact ⟨s0.data.toList, V, a, c, by simp, txR_str hV, hk⟩
set_option maxHeartbeats 25600000 in
set_option maxRecDepth 100000 in
theorem vblind_any (A : List Atr) (L : List Rl) (la : Option Addr) (lc : Nat) (dn t : List UInt8) (V : List (List UInt8)) (av : Value) (va : Option Addr) (vc : Nat) (w : World) (he : ErrOk w) (hL : RlAt w (.slice la L.length lc) L) (hA : EaAt w av A) (hV : TxR w (.slice va V.length vc) V) (hVk : SlOk (.slice va V.length vc)) (hcap : ∀ x y z, av = .slice x y z → y ≤ z) :
    Calls Tryz.prog 7 #[.slice la L.length lc, .agg #[.string ⟨dn.toArray⟩, av], .agg #[.string ⟨t.toArray⟩, .slice va V.length vc]] w (BoolPost true w) := by
  obtain ⟨a, c, rfl⟩ := eaAt_slice hA
  have HCap := Lib.hid (hcap _ _ _ rfl)
  clear hcap
  obtain ⟨Wa, hWa⟩ : ∃ Wa, w.alloc (.cells #[.string ⟨dn.toArray⟩, .slice a A.length c] 40) = Wa := ⟨_, rfl⟩
  obtain ⟨W, hW⟩ : ∃ W, Wa.alloc (.cells #[.string ⟨t.toArray⟩, .slice va V.length vc] 50) = W := ⟨_, rfl⟩
  have hba : Below w.heap.size w Wa := by rw [← hWa]; exact (Below.refl _ w).alloc (Nat.le_refl _) _
  have hb0 : Below w.heap.size w W := by rw [← hW]; exact hba.alloc hba.size _
  have hr : W.heap[w.heap.size]? = some (.cells #[.string ⟨dn.toArray⟩, .slice a A.length c] 40 (0, 0)) := by
    rw [← hW]
    refine obj_alloc ?_ _
    rw [← hWa]; exact heap_alloc_new w _
  have hg : W.heap[Wa.heap.size]? = some (.cells #[.string ⟨t.toArray⟩, .slice va V.length vc] 50 (0, 0)) := by rw [← hW]; exact heap_alloc_new Wa _
  obtain ⟨d0, d1⟩ := obj2s hr
  obtain ⟨g0, g1⟩ := obj2s hg
  have zd : w.heap.size < W.heap.size := obj_lt hr
  have zg : Wa.heap.size < W.heap.size := obj_lt hg
  have HB0 := Lib.hid hb0
  have HLa := Lib.hid (rlAt_below hL hb0)
  have HAa := Lib.hid (eaAt_below hA hb0)
  have HVa := Lib.hid (And.intro (txR_below hV hb0) hVk)
  have HE := Lib.hid (fun w' (hb : Below W.heap.size W w') => errOk_below (errOk_below he hb0) hb)
  have HF1 := Lib.hid (fun w' (hb : Below W.heap.size W w') => few16_any _ L w' (rlAt_below HLa.out hb))
  have HF9 := Lib.hid (fun w' (hb : Below W.heap.size W w') => few9_any dn A _ w' (eaAt_at (eaAt_below HAa.out hb)))
  have HAw := Lib.hid (fun w' (hb : Below W.heap.size W w') => awake17_any w' (HE.out w' hb))
  obtain ⟨Lq, hq1, hq2⟩ := eaAt_rd (eaAt_below hA hb0)
  have HTx := Lib.hid (atTx_app hq1 (show AtTx W [(t, .slice va V.length vc)] [(t, V)] from ⟨rfl, fun i h1 h2 => by
    obtain rfl : i = 0 := by simpa using h1
    exact ⟨rfl, txR_below hV hb0, hVk⟩⟩))
  have HRd := Lib.hid (fun w' (hb : Below W.heap.size W w') => show (a = none → A.length = 0) ∧ ∀ b, a = some b → ∀ j u, (atcs Lq)[j]? = some u → w'.cell? (b.add j) = some u from by
    rcases hq2.2 with ⟨e, e0⟩ | ⟨ad, c', e, hc⟩
    · injection e with x1 x2 x3
      exact ⟨fun _ => e0, fun b hb' => (by rw [x1] at hb'; cases hb')⟩
    · injection e with x1 x2 x3
      refine ⟨fun hn => (by rw [hn] at x1; cases x1), fun b hb' j u hj => ?_⟩
      rw [x1] at hb'
      injection hb' with hb'
      subst hb'
      have := hc j u hj
      exact (hb.cell (p := ad.add j) (World.block_lt_of_cell? W _ this)).trans this)
  have HLl := Lib.hid (show (atcs Lq).length = A.length * 2 by rw [atcs_len, hq1.1])
  have HOne := Lib.hid (fun w0 (hb : Below W.heap.size W w0) => eaAt_one (heap_alloc_new w0 (.cells #[.string ⟨t.toArray⟩, .slice va V.length vc] 50)) (txR_below (txR_below HVa.out.1 hb) ((Below.refl _ w0).alloc (Nat.le_refl _) _)) HVa.out.2)
  have HRA := Lib.hid (fun (hs : ∀ q ∈ L, q.2.2.1.length ≤ 80) (hu : t.length ≤ 1000000) w' (hb : Below W.heap.size W w') => rallowed_any _ L [] dn t 1 w' (.inr hs) hu (rlAt_below HLa.out hb))
  have HEn := Lib.hid (fun (hf : FewG 12 8 A) w' (hb : Below W.heap.size W w') => ventry_any A L dn [] _ _ w' (HE.out w' hb) (rlAt_below HLa.out hb) (eaAt_below HAa.out hb) (fewG_e hf (by decide) (by decide)))
  have HEf := Lib.hid (fun (hf : FewG 13 8 (A ++ [(t, V)])) fv w' (hb : Below W.heap.size W w') (h : EaAt w' fv (A ++ [(t, V)])) => ventry_any (A ++ [(t, V)]) L dn [] _ fv w' (HE.out w' hb) (rlAt_below HLa.out hb) h (fewG_e hf (by decide) (by decide)))
  have hfa := fun h => fewA_attr (L := L) h
  obtain ⟨n1, e1⟩ : ∃ q, fewA L = q := ⟨_, rfl⟩
  rw [e1] at HF1 hfa
  have HAlen := Lib.hid (show (A ++ [(t, V)]).length = A.length + 1 by simp)
  obtain ⟨n, hn⟩ : ∃ n, L.length = n := ⟨_, rfl⟩
  obtain ⟨m, hm⟩ : ∃ m, A.length = m := ⟨_, rfl⟩
  obtain ⟨vn, hvn⟩ : ∃ m, V.length = m := ⟨_, rfl⟩
  have HMn := Lib.hid (And.intro hm hvn)
  rw [hn] at HLa HF1 HRA HEn HEf ⊢
  rw [hm] at HAa HF9 HEn hWa d1 HAlen HRd HLl HCap ⊢
  rw [hvn] at HVa HOne hW g1 HTx ⊢
  have hbW : Below W.heap.size W W := Below.refl _ W
  clear he hL hA hb0 hg hr e1 hn hm hV hVk hvn hba hq1 hq2
  cases n1 with
  | false =>
    clear hfa
    go_enter Tryz.func7, Tryz.ntmps7
    go_wp2_with ((first | with_reducible refine (HF1.out _ hbW).mono ?_ | with_reducible refine (HAw.out _ hbW).mono ?_); rintro en w5 ⟨rfl, hb5⟩; have hbW := hbW.trans (hb5.mono hbW.size))
    go_ret
    exact boolPost_mk rfl (HB0.out.trans (hbW.mono HB0.out.size))
  | true =>
  have HFa := Lib.hid (hfa rfl)
  clear hfa
  go_enter Tryz.func7, Tryz.ntmps7
  go_wp2_with fail
  refine (HF1.out _ hbW).mono ?_
  rintro en w5 ⟨rfl, hb5⟩
  have k0 := (hb5.cell (p := ⟨w.heap.size, 0, none⟩) zd).trans d0
  have k1 := (hb5.cell (p := ⟨w.heap.size, 1, none⟩) zd).trans d1
  have B5 := Lib.hid hb5
  clear hb5 hbW
  go_wp2_with fail
  refine (HF9.out _ B5.out).mono ?_
  rintro en w6 ⟨hx, hb6⟩
  have hb06 := B5.out.trans (hb6.mono B5.out.size)
  clear k0 k1
  have l0 := (hb06.cell (p := ⟨Wa.heap.size, 0, none⟩) zg).trans g0
  have l1 := (hb06.cell (p := ⟨Wa.heap.size, 1, none⟩) zg).trans g1
  have B6 := Lib.hid hb06
  clear hb6 hb06
  rcases hx with rfl | ⟨rfl, hfew⟩
  · have hbW := B6.out
    go_wp2_with ((with_reducible refine (HAw.out _ hbW).mono ?_); rintro en w7 ⟨rfl, hb5⟩; have hbW := hbW.trans (hb5.mono hbW.size))
    go_ret
    exact boolPost_mk rfl (HB0.out.trans (hbW.mono HB0.out.size))
  have HFew := Lib.hid hfew
  clear hfew
  go_wp2_with fail
  refine (few9_any [] [(t, V)] _ _ (eaAt_at (HOne.out w6 B6.out))).mono ?_
  rintro en w7 ⟨hx, hb7⟩
  have hb07 := (B6.out.alloc B6.out.size _).trans (hb7.mono (by have := B6.out.size; simp; omega))
  clear l0 l1
  have l0 := (hb07.cell (p := ⟨Wa.heap.size, 0, none⟩) zg).trans g0
  have k0 := (hb07.cell (p := ⟨w.heap.size, 0, none⟩) zd).trans d0
  have B7 := Lib.hid hb07
  clear hb7 hb07
  rcases hx with rfl | ⟨rfl, hfew2⟩
  · have hbW := B7.out
    go_wp2_with ((with_reducible refine (HAw.out _ hbW).mono ?_); rintro en w8 ⟨rfl, hb5⟩; have hbW := hbW.trans (hb5.mono hbW.size))
    go_ret
    exact boolPost_mk rfl (HB0.out.trans (hbW.mono HB0.out.size))
  have HG := Lib.hid (And.intro (few_G HFew.out) (few_snoc HFew.out hfew2))
  have HRA1 := Lib.hid (HRA.out HFa.out (by have := hfew2.2.2 0 (by simp); have := this.1; simp at this; omega))
  have HBl := Lib.hid (fun h => vw_blind (l := L) (who := []) (dn := dn) (t := t) (A := A) (vs := V) h)
  unfold rdB at HBl
  obtain ⟨q, hq⟩ : ∃ q, alA L [] dn t 1 = q := ⟨_, rfl⟩
  rw [hq] at HRA1 HBl
  clear hfew2 hq HRA
  go_wp2_with fail
  refine (HRA1.out _ B7.out).mono ?_
  rintro en w8 ⟨rfl, hb8⟩
  have B8 := Lib.hid (B7.out.trans (hb8.mono B7.out.size))
  clear hb8 k0 l0
  cases q with
  | true =>
    have hbW := B8.out
    go_wp2_with ((with_reducible refine (HAw.out _ hbW).mono ?_); rintro en w9 ⟨rfl, hb5⟩; have hbW := hbW.trans (hb5.mono hbW.size))
    go_ret
    exact boolPost_mk rfl (HB0.out.trans (hbW.mono HB0.out.size))
  | false =>
  have HBl := Lib.hid (HBl.out rfl)
  have HVe := Lib.hid (ve_len (ve_few (q := seB L [] dn) (dn := dn) (s := []) (L := L) HG.out.1) (by decide) (by decide))
  have HEn1 := Lib.hid (fun w' (hb : Below W.heap.size W w') => (HEn.out HG.out.1 w' hb).mono fun en w'' h => vePost_at h)
  have HEf1 := Lib.hid (fun fv w' (hb : Below W.heap.size W w') (h : EaAt w' fv (A ++ [(t, V)])) => (HEf.out HG.out.2 fv w' hb h).mono fun en w'' h => vePost_at h)
  rw [HBl.out] at HEf1
  obtain ⟨q, hq⟩ : ∃ q, seB L [] dn = q := ⟨_, rfl⟩
  rw [hq] at HVe HEn1 HEf1
  obtain ⟨⟨x, X⟩, hX⟩ : ∃ p, veR q dn (vwA L [] dn A) = p := ⟨_, rfl⟩
  rw [hX] at HVe HEn1 HEf1
  dsimp only at HVe HEn1 HEf1
  obtain ⟨xn, hxn⟩ : ∃ n, X.length = n := ⟨_, rfl⟩
  have HXn := Lib.hid hxn
  rw [hxn] at HEn1 HEf1
  clear hq hX hxn HEn HEf HBl
  have k0 := (B8.out.cell (p := ⟨w.heap.size, 0, none⟩) zd).trans d0
  have k1 := (B8.out.cell (p := ⟨w.heap.size, 1, none⟩) zd).trans d1
  obtain ⟨W9, hW9⟩ : ∃ W9, w8.alloc (.cells #[.string ⟨dn.toArray⟩, .slice a m c] 40) = W9 := ⟨_, rfl⟩
  have hb89 : Below w8.heap.size w8 W9 := by rw [← hW9]; exact (Below.refl _ w8).alloc (Nat.le_refl _) _
  have hf9 : W9.heap[w8.heap.size]? = some (.cells #[.string ⟨dn.toArray⟩, .slice a m c] 40 (0, 0)) := by rw [← hW9]; exact heap_alloc_new w8 _
  have hb9 := B8.out.trans (hb89.mono B8.out.size)
  have B9 := Lib.hid (And.intro hb9 hf9)
  have HW9 := Lib.hid hW9
  have e0 := (hb9.cell (p := ⟨w.heap.size, 0, none⟩) zd).trans d0
  have e1 := (hb9.cell (p := ⟨w.heap.size, 1, none⟩) zd).trans d1
  have a0 := (hb9.cell (p := ⟨Wa.heap.size, 0, none⟩) zg).trans g0
  have a1 := (hb9.cell (p := ⟨Wa.heap.size, 1, none⟩) zg).trans g1
  have f1 := (obj2s hf9).2
  have ff := obj_free hf9 1
  have hA : ∀ ob, Below W9.heap.size W9 (W9.alloc ob) := fun ob => (Below.refl _ W9).alloc (Nat.le_refl _) ob
  have zd9 : w.heap.size < W9.heap.size := Nat.lt_of_lt_of_le zd hb9.size
  have zg9 : Wa.heap.size < W9.heap.size := Nat.lt_of_lt_of_le zg hb9.size
  have m1 : ∀ ob, (W9.alloc ob).cell? ⟨w.heap.size, 1, none⟩ = some (.slice a m c) := fun ob => ((hA ob).cell (p := ⟨w.heap.size, 1, none⟩) zd9).trans e1
  have m2 : ∀ ob, (W9.alloc ob).cell? ⟨Wa.heap.size, 0, none⟩ = some (.string ⟨t.toArray⟩) := fun ob => ((hA ob).cell (p := ⟨Wa.heap.size, 0, none⟩) zg9).trans a0
  have m3 : ∀ ob, (W9.alloc ob).cell? ⟨Wa.heap.size, 1, none⟩ = some (.slice va vn vc) := fun ob => ((hA ob).cell (p := ⟨Wa.heap.size, 1, none⟩) zg9).trans a1
  have hmb : m ≤ 1000 := by have := HG.out.1.1; rw [HMn.out.1] at this; omega
  have hnone : a = none → m = 0 ∧ m = 0 := fun h => ⟨(HRd.out W (Below.refl _ _)).1 h, (HRd.out W (Below.refl _ _)).1 h⟩
  have HNo := Lib.hid hnone
  have hmc : (m : Int) ≤ (c : Int) := by have := HCap.out; omega
  have hs98 : w8.heap.size < W9.heap.size := obj_lt B9.out.2
  clear hA hb89 hf9 hb9 hW9 e0 hnone f1 ff
  go_wp2
  rw [HW9.out]
  clear k0 k1
  refine wp_region_noPanic ?_
  refine wp_region_held_drew (S := fun w' => w'.cell? ⟨w.heap.size, 1, none⟩ = some (.slice a m c) ∧ w'.cell? ⟨Wa.heap.size, 0, none⟩ = some (.string ⟨t.toArray⟩) ∧ w'.cell? ⟨Wa.heap.size, 1, none⟩ = some (.slice va vn vc)) (by kernel_rfl) ?_ (fun hHeld => ?_)
  · exact ⟨e1, a0, a1⟩
  refine wpAnyH_take (i := 0) (v := ?v0) rfl (by kernel_rfl) (by kernel_rfl) (by kernel_rfl) (fun _ _ _ h => h) (Or.inl ⟨by rfl, ?y0⟩) (by assumption) ?r0
  case y0 => (intro w' hSw; (try dsimp only at hSw); go_simp; with_reducible rfl)
  try simp only [List.getElem_toArray, List.getElem_cons_zero, List.getElem_cons_succ, Act.put, List.setIfInBounds_toArray, List.set_cons_zero, List.set_cons_succ]
  refine wpAnyH_take (i := 1) (v := ?v1) rfl (by kernel_rfl) (by kernel_rfl) (by kernel_rfl) (fun _ _ _ h => h) (Or.inl ⟨by rfl, ?y1⟩) (by assumption) ?r1
  case y1 => (intro w' hSw; (try dsimp only at hSw); go_simp; with_reducible rfl)
  try simp only [List.getElem_toArray, List.getElem_cons_zero, List.getElem_cons_succ, Act.put, List.setIfInBounds_toArray, List.set_cons_zero, List.set_cons_succ]
  refine wpAnyH_take (i := 2) (v := ?v2) rfl (by kernel_rfl) (by kernel_rfl) (by kernel_rfl) (fun _ _ _ h => h) (Or.inl ⟨by rfl, ?y2⟩) (by assumption) ?r2
  case y2 => (intro w' hSw; (try dsimp only at hSw); go_simp; with_reducible rfl)
  try simp only [List.getElem_toArray, List.getElem_cons_zero, List.getElem_cons_succ, Act.put, List.setIfInBounds_toArray, List.set_cons_zero, List.set_cons_succ]
  refine wpAnyH_take (i := 3) (v := ?v3) rfl (by kernel_rfl) (by kernel_rfl) (by kernel_rfl) (fun _ _ _ h => h) (Or.inl ⟨by rfl, ?y3⟩) (by assumption) ?r3
  case y3 => (intro w' hSw; (try dsimp only at hSw); go_simp; with_reducible rfl)
  try simp only [List.getElem_toArray, List.getElem_cons_zero, List.getElem_cons_succ, Act.put, List.setIfInBounds_toArray, List.set_cons_zero, List.set_cons_succ]
  refine wpAnyH_take (i := 4) (v := ?v4) rfl (by kernel_rfl) (by kernel_rfl) (by kernel_rfl) (fun _ _ _ h => h) (Or.inl ⟨by rfl, ?y4⟩) (by assumption) ?r4
  case y4 => (intro w' hSw; (try dsimp only at hSw); go_simp; with_reducible rfl)
  try simp only [List.getElem_toArray, List.getElem_cons_zero, List.getElem_cons_succ, Act.put, List.setIfInBounds_toArray, List.set_cons_zero, List.set_cons_succ]
  refine wpAnyH_take (i := 5) (v := ?v5) rfl (by kernel_rfl) (by kernel_rfl) (by kernel_rfl) (fun _ _ _ h => h) (Or.inl ⟨by rfl, ?y5⟩) (by assumption) ?r5
  case y5 => (intro w' hSw; (try dsimp only at hSw); go_simp; with_reducible rfl)
  try simp only [List.getElem_toArray, List.getElem_cons_zero, List.getElem_cons_succ, Act.put, List.setIfInBounds_toArray, List.set_cons_zero, List.set_cons_succ]
  refine wpAnyH_take (i := 6) (v := ?v6) rfl (by kernel_rfl) (by kernel_rfl) (by kernel_rfl) (fun _ _ _ h => h) (Or.inl ⟨by rfl, ?y6⟩) (by assumption) ?r6
  case y6 => (intro w' hSw; (try dsimp only at hSw); go_simp; with_reducible rfl)
  try simp only [List.getElem_toArray, List.getElem_cons_zero, List.getElem_cons_succ, Act.put, List.setIfInBounds_toArray, List.set_cons_zero, List.set_cons_succ]
  refine wpAnyH_take (i := 7) (v := ?v7) rfl (by kernel_rfl) (by kernel_rfl) (by kernel_rfl) (fun _ _ _ h => h) (Or.inl ⟨by rfl, ?y7⟩) (by assumption) ?r7
  case y7 => (intro w' hSw; (try dsimp only at hSw); go_simp; with_reducible rfl)
  try simp only [List.getElem_toArray, List.getElem_cons_zero, List.getElem_cons_succ, Act.put, List.setIfInBounds_toArray, List.set_cons_zero, List.set_cons_succ]
  refine wpAnyH_take (i := 8) (v := ?v8) rfl (by kernel_rfl) (by kernel_rfl) (by kernel_rfl) (fun _ _ _ h => h) (Or.inl ⟨by rfl, ?y8⟩) (by assumption) ?r8
  case y8 => (intro w' hSw; (try dsimp only at hSw); go_simp; with_reducible rfl)
  try simp only [List.getElem_toArray, List.getElem_cons_zero, List.getElem_cons_succ, Act.put, List.setIfInBounds_toArray, List.set_cons_zero, List.set_cons_succ]
  refine wpAnyH_take (i := 9) (v := ?v9) rfl (by kernel_rfl) (by kernel_rfl) (by kernel_rfl) (fun _ _ _ h => h) (Or.inl ⟨by rfl, ?y9⟩) (by assumption) ?r9
  case y9 => (intro w' hSw; (try dsimp only at hSw); go_simp; with_reducible rfl)
  try simp only [List.getElem_toArray, List.getElem_cons_zero, List.getElem_cons_succ, Act.put, List.setIfInBounds_toArray, List.set_cons_zero, List.set_cons_succ]
  refine wpAnyH_ready (rs := [10]) (by kernel_rfl) (by simp) ?_
  refine AllReadyH.cons (o := _) rfl (fun K hK => ?c10) ?n10
  case n10 => exact AllReadyH.nil
  go_simp
  refine hK.out _ _ ?_ (fun hHeld => ?_)
  · exact ⟨m1 _, m2 _, m3 _⟩
  clear hK K
  try simp only [List.getElem_toArray, List.getElem_cons_zero, List.getElem_cons_succ, Act.put, List.setIfInBounds_toArray, List.set_cons_zero, List.set_cons_succ]
  refine wpAnyH_ready (rs := [11]) (by kernel_rfl) (by simp) ?_
  refine AllReadyH.cons (o := _) rfl (fun K hK => ?c11) ?n11
  case n11 => exact AllReadyH.nil
  refine step_grows rfl (.tmp 45) (.tmp 47) 38 50 rfl 2 40 (.agg #[.string ByteArray.empty, .slice none 0 0]) Tryz.sninfo50 Tryz.underlying38 rfl (by decide) a m m (atcs Lq) rfl HNo.out HLl.out ?ho ⟨W9.heap.size, 0, none⟩ 1 1 [.string ⟨t.toArray⟩, .slice va vn vc] rfl rfl ?hn (by intro u hu; simp at hu; rcases hu with rfl | rfl <;> rfl) (by omega) (by unfold maxLen; omega) (by omega) ?_
  case ho => exact (HRd.out _ (by first | exact B9.out.1.alloc B9.out.1.size _ | exact (B9.out.1.alloc B9.out.1.size _).drew | exact (B9.out.1.drew).alloc B9.out.1.size _)).2
  case hn => first | exact cell_new W9 _ _ | exact cell_new W9.drew _ _
  intro v' w' h1 h2
  obtain ⟨na, nc, rfl⟩ := ownsRow_slice h1
  have h3 : Below W9.heap.size W9 w' := (by first | exact ((Below.refl _ W9).alloc (Nat.le_refl _) _).trans (h2.mono (by simp)) | exact (((Below.refl _ W9).alloc (Nat.le_refl _) _).drew).trans (h2.mono (by show _ ≤ (W9.alloc _).heap.size; simp)) | exact ((Below.refl _ W9).drew.alloc (Nat.le_refl _) _).trans (h2.mono (by show _ ≤ (W9.alloc _).heap.size; simp)))
  have o9 := obj_below B9.out.2 h3 hs98
  have q1 := (obj2s o9).2
  have q2 := obj_free o9 1
  have i1 := (h3.cell (p := ⟨w.heap.size, 1, none⟩) zd9).trans e1
  have i2 := (h3.cell (p := ⟨Wa.heap.size, 0, none⟩) zg9).trans a0
  have i3 := (h3.cell (p := ⟨Wa.heap.size, 1, none⟩) zg9).trans a1
  have HV := Lib.hid (And.intro h1 (And.intro h3 o9))
  clear h1 h2 h3 o9
  refine hK.out _ _ ?_ (fun hHeld => ?_)
  · exact ⟨i1, i2, i3⟩
  clear hK K
  try simp only [List.getElem_toArray, List.getElem_cons_zero, List.getElem_cons_succ, Act.put, List.setIfInBounds_toArray, List.set_cons_zero, List.set_cons_succ]
  refine wpAnyH_take (i := 12) (v := ?v12) rfl (by kernel_rfl) (by kernel_rfl) (by kernel_rfl) (fun _ _ _ h => h) (Or.inl ⟨by rfl, ?y12⟩) (by assumption) ?r12
  case y12 => (intro w' hSw; (try dsimp only at hSw); go_simp; with_reducible rfl)
  try simp only [List.getElem_toArray, List.getElem_cons_zero, List.getElem_cons_succ, Act.put, List.setIfInBounds_toArray, List.set_cons_zero, List.set_cons_succ]
  refine wpAnyH_ready (rs := [13]) (by kernel_rfl) (by simp) ?_
  refine AllReadyH.cons (o := _) rfl (fun K hK => ?c13) ?n13
  case n13 => exact AllReadyH.nil
  go_simp
  refine hK.out _ _ ?_ (fun hHeld => ?_)
  · have hne1 : w8.heap.size ≠ w.heap.size := by have := B8.out.size; omega
    have hne2 : w8.heap.size ≠ Wa.heap.size := by have := B8.out.size; omega
    exact ⟨(World.cell?_setCell_far _ _ _ _ hne1).trans i1, (World.cell?_setCell_far _ _ _ _ hne2).trans i2, (World.cell?_setCell_far _ _ _ _ hne2).trans i3⟩
  clear hK K
  try simp only [List.getElem_toArray, List.getElem_cons_zero, List.getElem_cons_succ, Act.put, List.setIfInBounds_toArray, List.set_cons_zero, List.set_cons_succ]
  refine wpAnyH_done (by kernel_rfl) ?_ _
  refine NoPanic.normal ?_
  obtain ⟨W10, hW10⟩ : ∃ W10, w'.setCell ⟨w8.heap.size, 1, none⟩ (.slice na (m + 1) nc) = W10 := ⟨_, rfl⟩
  have hw8 : W.heap.size ≤ w8.heap.size := B8.out.size
  have hb10 : Below W.heap.size W W10 := by
    rw [← hW10]
    exact (B9.out.1.trans (HV.out.2.1.mono B9.out.1.size)).setCell (p := ⟨w8.heap.size, 1, none⟩) hw8 _
  have hf10 : W10.heap[w8.heap.size]? = some (.cells #[.string ⟨dn.toArray⟩, .slice na (m + 1) nc] 40 (0, 0)) := by rw [← hW10]; exact set1_e HV.out.2.2 _
  have hea10 : EaAt W10 (.slice na (m + 1) nc) (A ++ [(t, V)]) := by
    have hrow := own_set1 HV.out.1 HV.out.2.2 (i := 1) (by decide) (.slice na (m + 1) nc)
    rw [hW10] at hrow
    have hrow0 := ownsRow_base (B' := 0) hrow (Nat.zero_le _)
    refine eaAt_own (atTx_below HTx.out hb10) (B := 0) ?_
    rw [HAlen.out, atcs_app]
    exact hrow0
  have k0 := (hb10.cell (p := ⟨w.heap.size, 0, none⟩) zd).trans d0
  have k1 := (hb10.cell (p := ⟨w.heap.size, 1, none⟩) zd).trans d1
  rw [← hW10] at k0 k1
  have B10 := Lib.hid (And.intro hb10 (And.intro hf10 hea10))
  have HW10 := Lib.hid hW10
  clear hb10 hf10 hea10 hW10 q1 q2 i1 i2 i3 m1 m2 m3 e1 a0 a1
  go_wp2_with fail
  rw [HW10.out]
  clear k0 k1
  refine (HEn1.out _ B10.out.1).mono ?_
  rintro en w11 ⟨⟨a1, c1, rfl, hx1⟩, hb11⟩
  have hb011 := B10.out.1.trans (hb11.mono B10.out.1.size)
  obtain ⟨W12, hW12⟩ : ∃ W12, w11.alloc (.cells #[.string ⟨x.toArray⟩, .slice a1 xn c1] 40) = W12 := ⟨_, rfl⟩
  have hb1112 : Below w11.heap.size w11 W12 := by rw [← hW12]; exact (Below.refl _ w11).alloc (Nat.le_refl _) _
  have hg12 : W12.heap[w11.heap.size]? = some (.cells #[.string ⟨x.toArray⟩, .slice a1 xn c1] 40 (0, 0)) := by rw [← hW12]; exact heap_alloc_new w11 _
  have hb012 := hb011.trans (hb1112.mono hb011.size)
  have hf12 := obj_below (obj_below B10.out.2.1 hb11 (obj_lt B10.out.2.1)) hb1112 (by have := obj_lt B10.out.2.1; have := hb11.size; omega)
  obtain ⟨k0, k1⟩ := obj2s hf12
  rw [← hW12] at k0 k1
  have B12 := Lib.hid (And.intro hb012 (And.intro hg12 (And.intro (eaAt_below (eaAt_below B10.out.2.2 hb11) hb1112) (eaAt_below hx1 hb1112))))
  have HW12 := Lib.hid hW12
  clear hb11 hb011 hW12 hb1112 hg12 hb012 hf12 hx1
  go_wp2_with fail
  rw [HW12.out]
  clear k0 k1
  refine (HEf1.out _ _ B12.out.1 B12.out.2.2.1).mono ?_
  rintro en w13 ⟨⟨a2, c2, rfl, hx2⟩, hb13⟩
  have hb013 := B12.out.1.trans (hb13.mono B12.out.1.size)
  obtain ⟨W14, hW14⟩ : ∃ W14, w13.alloc (.cells #[.string ⟨x.toArray⟩, .slice a2 xn c2] 40) = W14 := ⟨_, rfl⟩
  have hb1314 : Below w13.heap.size w13 W14 := by rw [← hW14]; exact (Below.refl _ w13).alloc (Nat.le_refl _) _
  have hg14 : W14.heap[w13.heap.size]? = some (.cells #[.string ⟨x.toArray⟩, .slice a2 xn c2] 40 (0, 0)) := by rw [← hW14]; exact heap_alloc_new w13 _
  have hb014 := hb013.trans (hb1314.mono hb013.size)
  have hg12 := obj_below (obj_below B12.out.2.1 hb13 (obj_lt B12.out.2.1)) hb1314 (by have := obj_lt B12.out.2.1; have := hb13.size; omega)
  obtain ⟨p0, p1⟩ := obj2s hg12
  obtain ⟨r0, r1⟩ := obj2s hg14
  rw [← hW14] at p0 p1 r0 r1
  have B14 := Lib.hid (And.intro hb014 (And.intro (eaAt_below (eaAt_below B12.out.2.2.2 hb13) hb1314) (eaAt_below hx2 hb1314)))
  have HW14 := Lib.hid hW14
  have HEq := Lib.hid (show Calls Tryz.prog 22 #[.agg #[.string ⟨x.toArray⟩, .slice a1 xn c1], .agg #[.string ⟨x.toArray⟩, .slice a2 xn c2]] W14 (BB true W14) from by
    have := req10_any X X x x _ _ W14 (eaAt_at B14.out.2.1) (eaAt_at B14.out.2.2) HVe.out.1 HVe.out.1 HVe.out.2 HVe.out.2
    rw [decide_eq_true ⟨rfl, rfl⟩] at this
    exact this)
  clear hb13 hb013 hW14 hb1314 hg14 hb014 hg12 hx2
  go_wp2_with fail
  rw [HW14.out]
  clear p0 p1 r0 r1
  refine HEq.out.mono ?_
  rintro en w15 ⟨rfl, hb15⟩
  have B15 := Lib.hid (B14.out.1.trans (hb15.mono B14.out.1.size))
  clear hb15
  go_wp2_with fail
  refine (HAw.out _ B15.out).mono ?_
  rintro en w16 ⟨rfl, hb16⟩
  have B16 := Lib.hid (B15.out.trans (hb16.mono B15.out.size))
  clear hb16
  go_wp2
  go_ret
  exact boolPost_mk (by simp) (HB0.out.trans (B16.out.mono HB0.out.size))
end Go.Proofs.YtbihhdkmmlldnaaGreatDoor
