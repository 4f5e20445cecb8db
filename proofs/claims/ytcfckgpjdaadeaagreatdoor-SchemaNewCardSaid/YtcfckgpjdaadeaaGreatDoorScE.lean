/- The document's New: a schema of types and classes. -/
import Derived.Test.YtcfckgpjdaadeaaGreatDoorScP
import Derived.Test.YtcfckgpjdaadeaaGreatDoorScCD
namespace Go.Proofs.YtcfckgpjdaadeaaGreatDoor
set_option linter.unusedSimpArgs false
set_option linter.unusedVariables false
open Go Go.RowKit Go.Proofs.BerK Go.Proofs.MemK Go.Proofs.UtfK

theorem scT_some (T : List Ty) (s : List UInt8) : (scT T s).isSome = inL ((T.map lowTy).map (·.1)) (lowL s) := by
  rw [scT_ix, ← ix_isSome]
  cases hq : ixL ((T.map lowTy).map (·.1)) (lowL s) with
  | none => rfl
  | some i =>
    have hi := ix_lt hq
    have hi : i < T.length := by simpa using hi
    simp [hi]
theorem objL_low : lowL objL = objL := by decide +kernel
theorem hasTy_ok {T : List Ty} {C : List Cl} (h : ∀ i (hi : i < C.length) k (hk : k < (C[i].2.1 ++ C[i].2.2).length), (scT T (C[i].2.1 ++ C[i].2.2)[k]).isSome = true) (h2 : (scT T objL).isSome = true) : hasTyB ((T.map lowTy).map (·.1)) (C.map lowCl) = true := by
  rw [scT_some, objL_low] at h2
  unfold hasTyB
  rw [h2, Bool.and_true, Bool.not_eq_true', List.any_eq_false]
  intro c hc
  obtain ⟨d, hd, rfl⟩ := List.mem_map.1 hc
  obtain ⟨i, hi, rfl⟩ := List.getElem_of_mem hd
  have key : ∀ s ∈ C[i].2.1 ++ C[i].2.2, inL ((T.map lowTy).map (·.1)) (lowL s) = true := by
    intro s hs
    obtain ⟨k, hk, rfl⟩ := List.getElem_of_mem hs
    rw [← scT_some]; exact h i hi k hk
  rw [Bool.not_eq_true]
  unfold misC lowCl
  rw [Bool.or_eq_false_iff, List.any_eq_false, List.any_eq_false]
  constructor
  · intro s hs
    obtain ⟨q, hq, rfl⟩ := List.mem_map.1 hs
    rw [key q (List.mem_append.2 (.inl hq))]; simp
  · intro s hs
    obtain ⟨q, hq, rfl⟩ := List.mem_map.1 hs
    rw [key q (List.mem_append.2 (.inr hq))]; simp
theorem hasTy_mis {T : List Ty} {C : List Cl} (i : Nat) (hi : i < C.length) (k : Nat) (hk : k < (C[i].2.1 ++ C[i].2.2).length) (h : scT T (C[i].2.1 ++ C[i].2.2)[k] = none) : hasTyB ((T.map lowTy).map (·.1)) (C.map lowCl) = false := by
  have hs := scT_some T (C[i].2.1 ++ C[i].2.2)[k]
  rw [h] at hs
  have hx : (C.map lowCl).any (misC ((T.map lowTy).map (·.1))) = true := by
    rw [List.any_eq_true]
    refine ⟨lowCl C[i], List.mem_map.2 ⟨_, List.getElem_mem hi, rfl⟩, ?_⟩
    unfold misC lowCl
    rw [Bool.or_eq_true, List.any_eq_true, List.any_eq_true]
    rcases List.mem_append.1 (List.getElem_mem hk) with hm | hm
    · exact .inl ⟨lowL _, List.mem_map.2 ⟨_, hm, rfl⟩, by rw [← hs]; rfl⟩
    · exact .inr ⟨lowL _, List.mem_map.2 ⟨_, hm, rfl⟩, by rw [← hs]; rfl⟩
  unfold hasTyB
  rw [hx]; rfl
theorem hasTy_obj {T : List Ty} {C : List Cl} (h : scT T objL = none) : hasTyB ((T.map lowTy).map (·.1)) (C.map lowCl) = false := by
  have hs := scT_some T objL
  rw [h, objL_low] at hs
  unfold hasTyB
  rw [← hs, Bool.and_comm]; rfl
/-- What the document's New leaves. -/
def NewO (T : List Ty) (C : List Cl) (tv cv : Value) (w : World) (en : Ending) (w' : World) : Prop :=
  (scNw T C ≠ 0 → en = .returned (.tuple #[.agg #[.slice none 0 0, .slice none 0 0], .int .i64 (scNw T C : Nat)])) ∧ (scNw T C = 0 → en = .returned (.tuple #[.agg #[tv, cv], .int .i64 0])) ∧ Below w.heap.size w w'
theorem newO_err {T : List Ty} {C : List Cl} {tv cv : Value} {n : Nat} {w w' : World} (h : scNw T C = n) (hn : n ≠ 0) (hb : Below w.heap.size w w') : NewO T C tv cv w (.returned (.tuple #[.agg #[.slice none 0 0, .slice none 0 0], .int .i64 (n : Nat)])) w' := by
  subst h; exact ⟨fun _ => rfl, fun h => absurd h hn, hb⟩
theorem newO_ok {T : List Ty} {C : List Cl} {tv cv : Value} {w w' : World} (h : scNw T C = 0) (hb : Below w.heap.size w w') : NewO T C tv cv w (.returned (.tuple #[.agg #[tv, cv], .int .i64 0])) w' :=
  ⟨fun h2 => absurd h h2, fun _ => rfl, hb⟩
theorem set2_s {w : World} {g : Nat} {a b : Value} {t : TypeId} (h : w.heap[g]? = some (.cells #[a, b] t (0, 0))) (c d : Value) : ((w.setCell ⟨g, 0, none⟩ c).setCell ⟨g, 1, none⟩ d).heap[g]? = some (.cells #[c, d] t (0, 0)) := obj_set (obj_set h 0 c) 1 d
theorem below_s2 {B : Nat} {a w : World} (h : Below B a w) {g : Nat} (hg : B ≤ g) (x y : Value) : Below B a ((w.setCell ⟨g, 0, none⟩ x).setCell ⟨g, 1, none⟩ y) := (h.setCell (p := ⟨g, 0, none⟩) hg x).setCell (p := ⟨g, 1, none⟩) hg y
theorem chg_nil9 {w w' : World} {n c : Nat} (h : Chg (fun k => some k = (Value.slice none n c).ownBlock) w w') : Below w.heap.size w w' := h.toBelow (Nat.le_refl _) (fun k _ hk => by cases hk)
set_option maxHeartbeats 12800000 in
set_option maxRecDepth 100000 in
theorem rnew9_any (T : List Ty) (C : List Cl) (tv cv : Value) (w : World) (h : TyAt w tv T) (h2 : ClAt w cv C) (hbt : ∀ t ∈ T, t.1.length ≤ 140737488355328) (hbc : ∀ t ∈ C, t.1.length ≤ 140737488355328)
    (hlm : ∀ c ∈ C, c.2.1.length ≤ 1000000 ∧ c.2.2.length ≤ 1000000) (hs : ∀ c ∈ C, (∀ s ∈ c.2.1, s.length ≤ 140737488355328) ∧ ∀ s ∈ c.2.2, s.length ≤ 140737488355328) :
    Calls Tryz.prog 23 #[tv, cv] w (NewO T C tv cv w) := by
  have hS' : scNw T C = scNw T C := rfl
  conv at hS' => rhs; unfold scNw
  obtain ⟨S, hS⟩ : ∃ S, scNw T C = S := ⟨_, rfl⟩
  rw [hS] at hS'
  have HS := Lib.hid hS
  obtain ⟨ta, tc, rfl, htc⟩ := id h
  obtain ⟨ca, cc, rfl, hcc⟩ := id h2
  have HCl := Lib.hid hcc
  have HT0 := Lib.hid h
  have HC0 := Lib.hid h2
  have HLm := Lib.hid hlm
  have HLs := Lib.hid hs
  have HBt := Lib.hid hbt
  have HBc := Lib.hid hbc
  obtain ⟨tn, htn⟩ : ∃ n, T.length = n := ⟨_, rfl⟩
  obtain ⟨cn, hcn⟩ : ∃ n, C.length = n := ⟨_, rfl⟩
  have HLt := Lib.hid htn
  have HLc := Lib.hid hcn
  rw [htn, hcn] at hS'
  rw [htn] at HT0 ⊢
  rw [hcn] at HC0 ⊢
  obtain ⟨W0, hW0⟩ : ∃ W0, w.alloc (.cells #[.slice none 0 0, .slice none 0 0] 32) = W0 := ⟨_, rfl⟩
  have y0 : W0.heap[w.heap.size]? = some (.cells #[.slice none 0 0, .slice none 0 0] 32 (0, 0)) := by rw [← hW0]; exact heap_alloc_new w _
  have hb0 : Below w.heap.size w W0 := by rw [← hW0]; exact (Below.refl _ w).alloc (Nat.le_refl _) _
  have H0 := Lib.hid (And.intro y0 hb0)
  have HW0 := Lib.hid hW0
  clear h h2 hS htc hcc hlm hs hbt hbc htn hcn hW0 y0 hb0
  by_cases hT : 1024 < tn ∨ 1024 < cn
  · rw [if_pos hT] at hS'
    have H := Lib.hid (HS.out.trans hS')
    have hq : (1024 : Int) < (tn : Int) ∨ (¬ (1024 : Int) < (tn : Int) ∧ (1024 : Int) < (cn : Int)) := by omega
    clear hS' hT
    obtain ⟨r0, r1⟩ := obj2s H0.out.1
    have f0 := obj_free H0.out.1 0
    have f1 := obj_free H0.out.1 1
    rcases hq with hq | ⟨hq, hq2⟩
    all_goals
      go_enter Tryz.func23, Tryz.ntmps23
      go_wp2_with (first | rw [HW0.out] | fail)
      first | rw [HW0.out] | skip
      obtain ⟨j0, j1⟩ := obj2s (set2_s H0.out.1 (.slice none 0 0) (.slice none 0 0))
      refine bodyPost_ret (v := .tuple #[.agg #[.slice none 0 0, .slice none 0 0], .int .i64 3]) (by simp [results, Tryz.results23, go_sem, *]) rfl ?_
      exact newO_err (n := 3) H.out (by decide) (by first | exact H0.out.2 | exact below_s2 H0.out.2 (Nat.le_refl _) _ _)
  rw [if_neg hT] at hS'
  have hq1 : ¬ (1024 : Int) < (tn : Int) := by omega
  have hq2 : ¬ (1024 : Int) < (cn : Int) := by omega
  have hlt : T.length ≤ 1000000 := by rw [HLt.out]; omega
  have hlc : C.length ≤ 1000000 := by rw [HLc.out]; omega
  have HCk := Lib.hid (rcheck9_any T C (.slice ta tn tc) (.slice ca cn cc) W0 (tyAt_below HT0.out H0.out.2) (clAt_below HC0.out H0.out.2) hlt hlc HBt.out HBc.out)
  obtain ⟨K, hK⟩ : ∃ K, scChk T C = K := ⟨_, rfl⟩
  rw [hK] at hS' HCk
  clear hT hK
  by_cases hk : K = 0
  case neg =>
    rw [if_pos hk] at hS'
    have H := Lib.hid (HS.out.trans hS')
    have HKn := Lib.hid hk
    have q1 : ((K : Int) != 0) = true := by rw [bne_iff_ne]; omega
    clear hS' hk
    go_enter Tryz.func23, Tryz.ntmps23
    go_wp2_with fail
    rw [HW0.out]
    refine HCk.out.mono ?_
    rintro en w1 ⟨rfl, hb1⟩
    have y1 := obj_below H0.out.1 hb1 (obj_lt H0.out.1)
    obtain ⟨r0, r1⟩ := obj2s y1
    have f0 := obj_free y1 0
    have f1 := obj_free y1 1
    have H1 := Lib.hid (And.intro y1 (H0.out.2.trans (hb1.mono H0.out.2.size)))
    clear y1 hb1
    go_wp2
    obtain ⟨j0, j1⟩ := obj2s (set2_s H1.out.1 (.slice none 0 0) (.slice none 0 0))
    refine bodyPost_ret (v := .tuple #[.agg #[.slice none 0 0, .slice none 0 0], .int .i64 (K : Nat)]) (by simp [results, Tryz.results23, go_sem, *]) rfl ?_
    exact newO_err H.out HKn.out (below_s2 H1.out.2 (Nat.le_refl _) _ _)
  subst hk
  rw [if_neg (by simp)] at hS'
  have HNo := Lib.hid (show ∀ i (hi : i < C.length) k (hk : k < (C[i].2.1 ++ C[i].2.2).length), scT T (C[i].2.1 ++ C[i].2.2)[k] = none → scNw T C = 8 from fun i hi k hk h => by
    rw [HS.out, hS', hasTy_mis i hi k hk h]; rfl)
  have HOb := Lib.hid (show scT T objL = none → scNw T C = 8 from fun h => by rw [HS.out, hS', hasTy_obj h]; rfl)
  have HYes := Lib.hid (show (∀ i (hi : i < C.length) k (hk : k < (C[i].2.1 ++ C[i].2.2).length), (scT T (C[i].2.1 ++ C[i].2.2)[k]).isSome = true) → (scT T objL).isSome = true → scNw T C = 0 from fun h h2 => by
    rw [HS.out, hS', hasTy_ok h h2]; rfl)
  have HTy := Lib.hid (fun w' (hb : Below w.heap.size w w') s (hs : s.length ≤ 140737488355328) => rtype9_any T (.slice ta tn tc) (.slice ca cn cc) s w' (tyAt_below HT0.out hb) hlt HBt.out hs)
  clear hS' HS
  go_enter Tryz.func23, Tryz.ntmps23
  go_wp2_with fail
  rw [HW0.out]
  refine HCk.out.mono ?_
  rintro en w1 ⟨rfl, hb1⟩
  have y1 := obj_below H0.out.1 hb1 (obj_lt H0.out.1)
  have hz01 := obj_lt y1
  have H1 := Lib.hid (And.intro y1 (H0.out.2.trans (hb1.mono H0.out.2.size)))
  obtain ⟨W2, hW2⟩ : ∃ W2, w1 = W2 := ⟨_, rfl⟩
  subst hW2
  obtain ⟨W2, hW2⟩ : ∃ W2, w1 = W2 := ⟨_, rfl⟩
  obtain ⟨W3, hW3⟩ : ∃ W3, w1.alloc (.cells #[.slice ta tn tc, .slice ca cn cc] 32) = W3 := ⟨_, rfl⟩
  have y3 : W3.heap[w1.heap.size]? = some (.cells #[.slice ta tn tc, .slice ca cn cc] 32 (0, 0)) := by rw [← hW3]; exact heap_alloc_new w1 _
  have hb3 : Below w1.heap.size w1 W3 := by rw [← hW3]; exact (Below.refl _ w1).alloc (Nat.le_refl _) _
  rw [hW2] at H1 hW3 y3 hb3 hz01
  have H3 := Lib.hid (And.intro y3 (And.intro (obj_below H1.out.1 hb3 hz01) (H1.out.2.trans (hb3.mono H1.out.2.size))))
  have HW3 := Lib.hid hW3
  have hz3 := obj_lt y3
  rw [hW2]
  clear y1 hb1 hW3 y3 hb3 hW2
  go_wp2
  rw [HW3.out]
  go_loopw [8] (fun v wr => ∃ i : Nat, i ≤ cn ∧ v = .int .i64 (i : Nat) ∧ Below W3.heap.size W3 wr ∧ ∀ j (hj : j < C.length), j < i → ∀ k (hk : k < (C[j].2.1 ++ C[j].2.2).length), (scT T (C[j].2.1 ++ C[j].2.2)[k]).isSome = true) (fun v _ => cn - (intOf v).toNat)
  case atStart => exact ⟨0, by omega, rfl, Below.refl _ _, fun j _ h => by omega⟩
  case round =>
    obtain ⟨i, hi, rfl, hb, hall⟩ := hrel
    have hsr := hb.size
    have hbw := H3.out.2.2.trans (hb.mono H3.out.2.2.size)
    by_cases hli : i < cn
    · have hil : (i : Int) < (cn : Int) := by omega
      have him : i < C.length := by rw [HLc.out]; exact hli
      obtain ⟨g, o, mu, ma, rfl, hg, _, e1w, e2w, hmu, hma, hk1, hk2⟩ := HCl.out i him
      have e1 := (hbw.cell (p := ⟨g, _, none⟩) hg).trans e1w
      have e2 := (hbw.cell (p := ⟨g, _, none⟩) hg).trans e2w
      have hlmi := HLm.out _ (List.getElem_mem him)
      have hlsi := HLs.out _ (List.getElem_mem him)
      have rd1 := rd_txR (txR_below hmu hbw) hk1
      have rd2 := rd_txR (txR_below hma hbw) hk2
      obtain ⟨mua, muc, hmuv, _⟩ := id hmu
      obtain ⟨maa, mac, hmav, _⟩ := id hma
      subst hmuv hmav
      obtain ⟨L, hL⟩ : ∃ L, C[i].2.1 ++ C[i].2.2 = L := ⟨_, rfl⟩
      have HNi := Lib.hid (fun k (hk : k < L.length) (hh : scT T L[k] = none) => (show scNw T C = 8 by subst hL; exact HNo.out i him k hk hh))
      have HAl := Lib.hid (fun (hx : ∀ k (hk : k < L.length), (scT T L[k]).isSome = true) j (hj : j < C.length) (h : j < i + 1) => (show ∀ k (hk : k < (C[j].2.1 ++ C[j].2.2).length), (scT T (C[j].2.1 ++ C[j].2.2)[k]).isSome = true by
        subst hL
        by_cases e : j = i
        · subst e; exact hx
        · exact hall j hj (by omega)))
      obtain ⟨M, hM⟩ : ∃ M, C[i].2.1 = M := ⟨_, rfl⟩
      obtain ⟨Y, hY⟩ : ∃ Y, C[i].2.2 = Y := ⟨_, rfl⟩
      rw [hM, hY] at hL
      rw [hM] at e1 hlmi hlsi rd1
      rw [hY] at e2 hlmi hlsi rd2
      obtain ⟨m1, hm1⟩ : ∃ n, M.length = n := ⟨_, rfl⟩
      obtain ⟨m2, hm2⟩ : ∃ n, Y.length = n := ⟨_, rfl⟩
      rw [hm1] at e1 hlmi rd1
      rw [hm2] at e2 hlmi rd2
      have HRd := Lib.hid (And.intro rd1 rd2)
      have HB := Lib.hid (And.intro hb hbw)
      have HMY := Lib.hid (And.intro hm1 hm2)
      have HML := Lib.hid hL
      have HBd := Lib.hid (show ∀ s ∈ L, s.length ≤ 140737488355328 from fun s hs => by
        rw [← hL] at hs
        rcases List.mem_append.1 hs with h | h
        · exact hlsi.1 s h
        · exact hlsi.2 s h)
      have hl1 := hlmi.1
      have hl2 := hlmi.2
      have hE2 := Lib.hid e2w
      clear hb hbw hall e1w e2w hmu hma hk1 hk2 rd1 rd2 hM hY hL hm1 hm2 hlsi hlmi
      go_wp2_with (at_builtin; refine wpList_appendr rfl (.tmp 40) (.tmp 45) 38 9 rfl wr.heap.size 1 16 (.string ByteArray.empty) Tryz.scinfo9 Tryz.underlying38 rfl (by decide) (.slice none 0 0) 0 [] rfl (World.ownsRow_nil _ _ _ _) _ m1 (sc M) rfl HRd.out.1 (sc_one_cell _) (by unfold maxLen; omega) (by omega) (Nat.le_refl _) ?_)
      intro v1 w4 g1 g2 g3
      obtain ⟨a1, c1, rfl⟩ := ownsRow_slice g1
      have hb4 := chg_nil9 g2
      have g1 : w4.ownsRow wr.heap.size 9 1 (.slice a1 m1 c1) m1 (sc M) := by simpa using g1
      have e2' := (hb4.cell (p := ⟨g, _, none⟩) (Nat.lt_of_lt_of_le hg HB.out.2.size)).trans e2
      have H4 := Lib.hid (And.intro g1 hb4)
      have hs4 := hb4.size
      clear g1 g2 g3 hb4 e1 e2
      go_wp2_with (at_builtin; refine wpList_appendr rfl (.tmp 47) (.tmp 52) 38 9 rfl wr.heap.size 1 16 (.string ByteArray.empty) Tryz.scinfo9 Tryz.underlying38 rfl (by decide) (.slice a1 m1 c1) m1 (sc M) rfl H4.out.1 _ m2 (sc Y) rfl (rdRow_below HRd.out.2 H4.out.2) (sc_one_cell _) (by unfold maxLen; omega) (by omega) hs4 ?_)
      intro v2 w5 g1 g2 g3
      obtain ⟨a2, c2, rfl⟩ := ownsRow_slice g1
      have hb5 := below_chg H4.out.2 hs4 H4.out.1 g2
      have hlen : L.length = m1 + m2 := by rw [← HML.out, List.length_append, HMY.out.1, HMY.out.2]
      have row5 : w5.ownsRow wr.heap.size 9 1 (.slice a2 L.length c2) L.length (sc L) := by rw [hlen, ← HML.out, sc_append]; simpa using g1
      have tx5 := txR_owns row5
      obtain ⟨n5, hn5⟩ : ∃ n, m1 + m2 = n := ⟨_, rfl⟩
      have hn5b : n5 ≤ 2000000 := by omega
      rw [hn5] at hlen ⊢
      rw [hlen] at tx5
      have H5 := Lib.hid (And.intro tx5 (And.intro hb5 hlen))
      have hs5 := hb5.size
      clear g1 g2 g3 hb5 row5 tx5 hlen hn5 e2' H4 HRd HMY HML
      go_wp2
      go_loopw [10] (fun v wz => ∃ k : Nat, k ≤ n5 ∧ v = .int .i64 (k : Nat) ∧ Below w5.heap.size w5 wz ∧ ∀ q (hq : q < L.length), q < k → (scT T L[q]).isSome = true) (fun v _ => n5 - (intOf v).toNat)
      case atStart => exact ⟨0, by omega, rfl, Below.refl _ _, fun q _ h => by omega⟩
      case round =>
        obtain ⟨k, hk, rfl, hbz, hgd⟩ := hrel
        by_cases hlk : k < n5
        · have hkl : (k : Int) < (n5 : Int) := by omega
          have hkm : k < L.length := by rw [H5.out.2.2]; exact hlk
          obtain ⟨_, _, hv, hcell⟩ := H5.out.1
          injection hv with hv1 hv2 hv3
          subst hv1 hv3
          clear hv2
          obtain ⟨lg, lo, rfl, hlg, e0w⟩ := hcell k hkm
          have e0 := (hbz.cell (p := ⟨lg, _, none⟩) hlg).trans e0w
          have zl := Nat.lt_of_lt_of_le hlg hbz.size
          have hbd := HBd.out _ (List.getElem_mem hkm)
          have hbR := HB.out.1.trans ((H5.out.2.1.trans (hbz.mono hs5)).mono hsr)
          have hbW := HB.out.2.trans ((H5.out.2.1.trans (hbz.mono hs5)).mono HB.out.2.size)
          have x2 := obj_below H3.out.1 hbR hz3
          obtain ⟨b0, b1⟩ := obj2s x2
          have z0 := obj_lt x2
          have x4 := obj_below H3.out.2.1 hbR (obj_lt H3.out.2.1)
          have z4 := obj_lt x4
          have HBadk := Lib.hid (HNi.out k hkm)
          have HNx := Lib.hid (fun (hx : (scT T L[k]).isSome = true) q (hq : q < L.length) (h : q < k + 1) => (show (scT T L[q]).isSome = true by
            by_cases e : q = k
            · subst e; exact hx
            · exact hgd q hq (by omega)))
          obtain ⟨nm, hnm⟩ : ∃ x, L[k] = x := ⟨_, rfl⟩
          rw [hnm] at e0 hbd HBadk
          have HNm := Lib.hid hnm
          have hT := fun w' (hb' : Below wr.heap.size wr w') => HTy.out w' (hbW.trans (hb'.mono hbW.size)) nm hbd
          obtain ⟨tt, htt⟩ : ∃ t, scT T nm = t := ⟨_, rfl⟩
          rw [htt] at hT
          have HI := Lib.hid (And.intro hbz (And.intro hbW x4))
          clear hbz hgd e0w hbR hbW x2 x4 hnm hbd
          cases tt with
          | none =>
            have HT := Lib.hid (fun w' (hb' : Below wr.heap.size wr w') => (show Calls Tryz.prog 13 #[.agg #[.slice ta tn tc, .slice (some ⟨g, o, none⟩) cn cc], .string ⟨nm.toArray⟩] w' (fun en w'' => en = .returned (.tuple #[.agg #[.string ⟨#[]⟩, .int .i64 0, .bool false], .bool false]) ∧ Below w'.heap.size w' w'') from hT w' hb'))
            have HR := Lib.hid (HBadk.out htt)
            clear hT htt
            have kb0 : ∀ ob, (wr.drew.alloc ob).cell? ⟨W2.heap.size, 0, none⟩ = some (.slice ta tn tc) := fun ob => (((Below.refl wr.drew.heap.size wr.drew).alloc (Nat.le_refl _) ob).cell (p := ⟨W2.heap.size, _, none⟩) z0).trans b0
            have kb1 : ∀ ob, (wr.drew.alloc ob).cell? ⟨W2.heap.size, 1, none⟩ = some (.slice (some ⟨g, o, none⟩) cn cc) := fun ob => (((Below.refl wr.drew.heap.size wr.drew).alloc (Nat.le_refl _) ob).cell (p := ⟨W2.heap.size, _, none⟩) z0).trans b1
            have ke0 : ∀ ob, (wr.drew.alloc ob).cell? ⟨lg, lo + k, none⟩ = some (.string ⟨nm.toArray⟩) := fun ob => (((Below.refl wr.drew.heap.size wr.drew).alloc (Nat.le_refl _) ob).cell (p := ⟨lg, _, none⟩) zl).trans e0
            have nW2heapsize : W2.heap.size ≠ wr.heap.size := Nat.ne_of_lt z0
            have nlg : lg ≠ wr.heap.size := Nat.ne_of_lt zl
            go_wp2_with fail
            go_region_held3 (fun w' => w'.cell? ⟨W2.heap.size, 0, none⟩ = some (.slice ta tn tc) ∧ w'.cell? ⟨W2.heap.size, 1, none⟩ = some (.slice (some ⟨g, o, none⟩) cn cc) ∧ w'.cell? ⟨lg, lo + k, none⟩ = some (.string ⟨nm.toArray⟩)) (first | exact ⟨hb0, hb1, he0⟩ | exact ⟨b0, b1, e0⟩ | exact ⟨(ib0 _), (ib1 _), (ie0 _)⟩ | exact ⟨(kb0 _), (kb1 _), (ke0 _)⟩ | exact ⟨((cell_other3 nW2heapsize _ _ _ _ _ _ _).trans hb0), ((cell_other3 nW2heapsize _ _ _ _ _ _ _).trans hb1), ((cell_other3 nlg _ _ _ _ _ _ _).trans he0)⟩ | go_keep)
              (first | (go_at_call 13; (with_reducible refine (HT.out _ (by first | exact (Below.refl _ wr).drew | exact ((Below.refl _ wr).drew.alloc (Nat.le_refl _) _) | exact ((Below.refl _ wr).alloc (Nat.le_refl _) _).drew)).mono ?_); rintro en w5 ⟨rfl, hb5⟩; have hbV : Below wr.heap.size wr w5 := (by first | exact (Below.refl _ wr).drew.trans hb5 | exact ((Below.refl _ wr).drew.alloc (Nat.le_refl _) _).trans (hb5.mono (by simp)) | exact (((Below.refl _ wr).alloc (Nat.le_refl _) _).drew).trans (hb5.mono (by show _ ≤ (wr.alloc _).heap.size; simp))); have hb0 := (hbV.cell (p := ⟨W2.heap.size, _, none⟩) z0).trans b0; have ib0 : ∀ ob, (w5.alloc ob).cell? ⟨W2.heap.size, 0, none⟩ = some (.slice ta tn tc) := (fun ob => (((Below.refl w5.heap.size w5).alloc (Nat.le_refl _) ob).cell (p := ⟨W2.heap.size, _, none⟩) (Nat.lt_of_lt_of_le z0 hbV.size)).trans hb0); have hb1 := (hbV.cell (p := ⟨W2.heap.size, _, none⟩) z0).trans b1; have ib1 : ∀ ob, (w5.alloc ob).cell? ⟨W2.heap.size, 1, none⟩ = some (.slice (some ⟨g, o, none⟩) cn cc) := (fun ob => (((Below.refl w5.heap.size w5).alloc (Nat.le_refl _) ob).cell (p := ⟨W2.heap.size, _, none⟩) (Nat.lt_of_lt_of_le z0 hbV.size)).trans hb1); have he0 := (hbV.cell (p := ⟨lg, _, none⟩) zl).trans e0; have ie0 : ∀ ob, (w5.alloc ob).cell? ⟨lg, lo + k, none⟩ = some (.string ⟨nm.toArray⟩) := (fun ob => (((Below.refl w5.heap.size w5).alloc (Nat.le_refl _) ob).cell (p := ⟨lg, _, none⟩) (Nat.lt_of_lt_of_le zl hbV.size)).trans he0); have HV5 := Lib.hid hbV; try (have hbox : w5.heap[wr.heap.size]? = some (.cells #[.string ⟨#[]⟩, .int .i64 0, .bool false] 35 (0, 0)) := (by first | exact obj_below (heap_alloc_new wr.drew _) hb5 (by simp) | exact obj_below (w := (wr.alloc _).drew) (heap_alloc_new wr _) hb5 (by show _ < (wr.alloc _).heap.size; simp)); have b0_ := obj_cell hbox 0 _ rfl; have f0_ := obj_free hbox 0; have b1_ := obj_cell hbox 1 _ rfl; have f1_ := obj_free hbox 1; have b2_ := obj_cell hbox 2 _ rfl; have f2_ := obj_free hbox 2; have HB5 := Lib.hid hbox; clear hbox); clear hb5 hbV))
            all_goals
              first
                | (obtain ⟨W7, hW7⟩ : ∃ W7, (((w5.setCell ⟨wr.heap.size, 0, none⟩ (.string ⟨#[]⟩)).setCell ⟨wr.heap.size, 1, none⟩ (.int .i64 0)).setCell ⟨wr.heap.size, 2, none⟩ (.bool false)) = W7 := ⟨_, rfl⟩; have hbx : W7.heap[wr.heap.size]? = some (.cells #[.string ⟨#[]⟩, .int .i64 0, .bool false] 35 (0, 0)) := (by rw [← hW7]; exact obj_set3 HB5.out _ _ _); have hb7 : Below wr.heap.size wr W7 := (by rw [← hW7]; exact below_set3 HV5.out (Nat.le_refl _) _ _ _); rw [hW7]; obtain ⟨bx, hbe⟩ : ∃ bx, wr.heap.size = bx := ⟨_, rfl⟩; have HBX := Lib.hid (show wr.heap.size ≤ bx by have := HV5.out.size; omega); rw [hbe] at hbx ⊢; have H7 := Lib.hid (And.intro hbx hb7); clear hbx hb7 hW7 hbe)
                | (obtain ⟨W7, hW7⟩ : ∃ W7, w5.alloc (.cells #[.string ⟨#[]⟩, .int .i64 0, .bool false] 35) = W7 := ⟨_, rfl⟩; have hbx : W7.heap[w5.heap.size]? = some (.cells #[.string ⟨#[]⟩, .int .i64 0, .bool false] 35 (0, 0)) := (by rw [← hW7]; exact heap_alloc_new w5 _); have hb7 : Below wr.heap.size wr W7 := (by rw [← hW7]; exact HV5.out.alloc HV5.out.size _); rw [hW7]; obtain ⟨bx, hbe⟩ : ∃ bx, w5.heap.size = bx := ⟨_, rfl⟩; have HBX := Lib.hid (show wr.heap.size ≤ bx by have := HV5.out.size; omega); rw [hbe] at hbx ⊢; have H7 := Lib.hid (And.intro hbx hb7); clear hbx hb7 hW7 hbe)
            all_goals
              try clear hb0 hb1 he0
              try clear ib0 ib1 ie0
              try clear kb0 kb1 ke0
              try clear b0_ f0_
              try clear b1_ f1_
              try clear b2_ f2_
              try clear HB5
              try clear HV5
            all_goals
              have y7 := obj_below HI.out.2.2 H7.out.2 z4
              obtain ⟨r0, r1⟩ := obj2s y7
              have f0 := obj_free y7 0
              have f1 := obj_free y7 1
              have HB7 := Lib.hid (And.intro y7 (HI.out.2.1.trans (H7.out.2.mono HI.out.2.1.size)))
              clear y7
              try clear b0 b1 e0
              go_wp2
              obtain ⟨j0, j1⟩ := obj2s (set2_s HB7.out.1 (.slice none 0 0) (.slice none 0 0))
              refine bodyPost_ret (v := .tuple #[.agg #[.slice none 0 0, .slice none 0 0], .int .i64 8]) (by simp [results, Tryz.results23, go_sem, *]) rfl ?_
              exact newO_err (n := 8) HR.out (by decide) (below_s2 HB7.out.2 (Nat.le_refl _) _ _)
          | some tt =>
            obtain ⟨tyn, tyr, tys⟩ := tt
            have HT := Lib.hid (fun w' (hb' : Below wr.heap.size wr w') => (show Calls Tryz.prog 13 #[.agg #[.slice ta tn tc, .slice (some ⟨g, o, none⟩) cn cc], .string ⟨nm.toArray⟩] w' (fun en w'' => en = .returned (.tuple #[.agg #[.string ⟨tyn.toArray⟩, .int .i64 tyr, .bool tys], .bool true]) ∧ Below w'.heap.size w' w'') from hT w' hb'))
            have HN := Lib.hid (HNx.out (by rw [HNm.out, htt]; rfl))
            clear hT htt
            have kb0 : ∀ ob, (wr.drew.alloc ob).cell? ⟨W2.heap.size, 0, none⟩ = some (.slice ta tn tc) := fun ob => (((Below.refl wr.drew.heap.size wr.drew).alloc (Nat.le_refl _) ob).cell (p := ⟨W2.heap.size, _, none⟩) z0).trans b0
            have kb1 : ∀ ob, (wr.drew.alloc ob).cell? ⟨W2.heap.size, 1, none⟩ = some (.slice (some ⟨g, o, none⟩) cn cc) := fun ob => (((Below.refl wr.drew.heap.size wr.drew).alloc (Nat.le_refl _) ob).cell (p := ⟨W2.heap.size, _, none⟩) z0).trans b1
            have ke0 : ∀ ob, (wr.drew.alloc ob).cell? ⟨lg, lo + k, none⟩ = some (.string ⟨nm.toArray⟩) := fun ob => (((Below.refl wr.drew.heap.size wr.drew).alloc (Nat.le_refl _) ob).cell (p := ⟨lg, _, none⟩) zl).trans e0
            have nW2heapsize : W2.heap.size ≠ wr.heap.size := Nat.ne_of_lt z0
            have nlg : lg ≠ wr.heap.size := Nat.ne_of_lt zl
            go_wp2_with fail
            go_region_held3 (fun w' => w'.cell? ⟨W2.heap.size, 0, none⟩ = some (.slice ta tn tc) ∧ w'.cell? ⟨W2.heap.size, 1, none⟩ = some (.slice (some ⟨g, o, none⟩) cn cc) ∧ w'.cell? ⟨lg, lo + k, none⟩ = some (.string ⟨nm.toArray⟩)) (first | exact ⟨hb0, hb1, he0⟩ | exact ⟨b0, b1, e0⟩ | exact ⟨(ib0 _), (ib1 _), (ie0 _)⟩ | exact ⟨(kb0 _), (kb1 _), (ke0 _)⟩ | exact ⟨((cell_other3 nW2heapsize _ _ _ _ _ _ _).trans hb0), ((cell_other3 nW2heapsize _ _ _ _ _ _ _).trans hb1), ((cell_other3 nlg _ _ _ _ _ _ _).trans he0)⟩ | go_keep)
              (first | (go_at_call 13; (with_reducible refine (HT.out _ (by first | exact (Below.refl _ wr).drew | exact ((Below.refl _ wr).drew.alloc (Nat.le_refl _) _) | exact ((Below.refl _ wr).alloc (Nat.le_refl _) _).drew)).mono ?_); rintro en w5 ⟨rfl, hb5⟩; have hbV : Below wr.heap.size wr w5 := (by first | exact (Below.refl _ wr).drew.trans hb5 | exact ((Below.refl _ wr).drew.alloc (Nat.le_refl _) _).trans (hb5.mono (by simp)) | exact (((Below.refl _ wr).alloc (Nat.le_refl _) _).drew).trans (hb5.mono (by show _ ≤ (wr.alloc _).heap.size; simp))); have hb0 := (hbV.cell (p := ⟨W2.heap.size, _, none⟩) z0).trans b0; have ib0 : ∀ ob, (w5.alloc ob).cell? ⟨W2.heap.size, 0, none⟩ = some (.slice ta tn tc) := (fun ob => (((Below.refl w5.heap.size w5).alloc (Nat.le_refl _) ob).cell (p := ⟨W2.heap.size, _, none⟩) (Nat.lt_of_lt_of_le z0 hbV.size)).trans hb0); have hb1 := (hbV.cell (p := ⟨W2.heap.size, _, none⟩) z0).trans b1; have ib1 : ∀ ob, (w5.alloc ob).cell? ⟨W2.heap.size, 1, none⟩ = some (.slice (some ⟨g, o, none⟩) cn cc) := (fun ob => (((Below.refl w5.heap.size w5).alloc (Nat.le_refl _) ob).cell (p := ⟨W2.heap.size, _, none⟩) (Nat.lt_of_lt_of_le z0 hbV.size)).trans hb1); have he0 := (hbV.cell (p := ⟨lg, _, none⟩) zl).trans e0; have ie0 : ∀ ob, (w5.alloc ob).cell? ⟨lg, lo + k, none⟩ = some (.string ⟨nm.toArray⟩) := (fun ob => (((Below.refl w5.heap.size w5).alloc (Nat.le_refl _) ob).cell (p := ⟨lg, _, none⟩) (Nat.lt_of_lt_of_le zl hbV.size)).trans he0); have HV5 := Lib.hid hbV; try (have hbox : w5.heap[wr.heap.size]? = some (.cells #[.string ⟨#[]⟩, .int .i64 0, .bool false] 35 (0, 0)) := (by first | exact obj_below (heap_alloc_new wr.drew _) hb5 (by simp) | exact obj_below (w := (wr.alloc _).drew) (heap_alloc_new wr _) hb5 (by show _ < (wr.alloc _).heap.size; simp)); have b0_ := obj_cell hbox 0 _ rfl; have f0_ := obj_free hbox 0; have b1_ := obj_cell hbox 1 _ rfl; have f1_ := obj_free hbox 1; have b2_ := obj_cell hbox 2 _ rfl; have f2_ := obj_free hbox 2; have HB5 := Lib.hid hbox; clear hbox); clear hb5 hbV))
            all_goals
              first
                | (obtain ⟨W7, hW7⟩ : ∃ W7, (((w5.setCell ⟨wr.heap.size, 0, none⟩ (.string ⟨tyn.toArray⟩)).setCell ⟨wr.heap.size, 1, none⟩ (.int .i64 tyr)).setCell ⟨wr.heap.size, 2, none⟩ (.bool tys)) = W7 := ⟨_, rfl⟩; have hbx : W7.heap[wr.heap.size]? = some (.cells #[.string ⟨tyn.toArray⟩, .int .i64 tyr, .bool tys] 35 (0, 0)) := (by rw [← hW7]; exact obj_set3 HB5.out _ _ _); have hb7 : Below wr.heap.size wr W7 := (by rw [← hW7]; exact below_set3 HV5.out (Nat.le_refl _) _ _ _); rw [hW7]; obtain ⟨bx, hbe⟩ : ∃ bx, wr.heap.size = bx := ⟨_, rfl⟩; have HBX := Lib.hid (show wr.heap.size ≤ bx by have := HV5.out.size; omega); rw [hbe] at hbx ⊢; have H7 := Lib.hid (And.intro hbx hb7); clear hbx hb7 hW7 hbe)
                | (obtain ⟨W7, hW7⟩ : ∃ W7, w5.alloc (.cells #[.string ⟨tyn.toArray⟩, .int .i64 tyr, .bool tys] 35) = W7 := ⟨_, rfl⟩; have hbx : W7.heap[w5.heap.size]? = some (.cells #[.string ⟨tyn.toArray⟩, .int .i64 tyr, .bool tys] 35 (0, 0)) := (by rw [← hW7]; exact heap_alloc_new w5 _); have hb7 : Below wr.heap.size wr W7 := (by rw [← hW7]; exact HV5.out.alloc HV5.out.size _); rw [hW7]; obtain ⟨bx, hbe⟩ : ∃ bx, w5.heap.size = bx := ⟨_, rfl⟩; have HBX := Lib.hid (show wr.heap.size ≤ bx by have := HV5.out.size; omega); rw [hbe] at hbx ⊢; have H7 := Lib.hid (And.intro hbx hb7); clear hbx hb7 hW7 hbe)
            all_goals
              try clear hb0 hb1 he0
              try clear ib0 ib1 ie0
              try clear kb0 kb1 ke0
              try clear b0_ f0_
              try clear b1_ f1_
              try clear b2_ f2_
              try clear HB5
              try clear HV5
            all_goals
              have HB7 := Lib.hid (HI.out.1.trans (H7.out.2.mono HI.out.1.size))
              try clear b0 b1 e0
              go_wp2
              exact ⟨⟨k + 1, by omega, by go_num, HB7.out, HN.out⟩, by simp [intOf]; omega⟩
        · obtain rfl : k = n5 := by omega
          have HN := Lib.hid (HAl.out (fun q hq => hgd q hq (by rw [← H5.out.2.2]; exact hq)))
          have HBn := Lib.hid (HB.out.1.trans ((H5.out.2.1.trans (hbz.mono hs5)).mono hsr))
          clear hbz hgd
          go_wp2
          exact ⟨⟨i + 1, by omega, by go_num, HBn.out, HN.out⟩, by simp [intOf]; omega⟩
    · obtain rfl : i = cn := by omega
      have HAll := Lib.hid (fun j hj => hall j hj (by rw [← HLc.out]; exact hj))
      have x2 := obj_below H3.out.1 hb hz3
      obtain ⟨b0, b1⟩ := obj2s x2
      have x4 := obj_below H3.out.2.1 hb (obj_lt H3.out.2.1)
      have hT := HTy.out wr hbw objL (by decide)
      obtain ⟨tt, htt⟩ : ∃ t, scT T objL = t := ⟨_, rfl⟩
      rw [htt] at hT
      have HI := Lib.hid (And.intro x2 (And.intro x4 hbw))
      clear hb hbw hall x2 x4
      cases tt with
      | none =>
        have HT := Lib.hid (show Calls Tryz.prog 13 #[.agg #[.slice ta tn tc, .slice ca i cc], .string ⟨#[111, 98, 106, 101, 99, 116, 99, 108, 97, 115, 115]⟩] wr (fun en w'' => en = .returned (.tuple #[.agg #[.string ⟨#[]⟩, .int .i64 0, .bool false], .bool false]) ∧ Below wr.heap.size wr w'') from hT)
        have HR := Lib.hid (HOb.out htt)
        clear hT htt
        go_wp2_with fail
        refine HT.out.mono ?_
        rintro en w6 ⟨rfl, hb6⟩
        obtain ⟨W7, hW7⟩ : ∃ W7, w6.alloc (.cells #[.string ⟨#[]⟩, .int .i64 0, .bool false] 35) = W7 := ⟨_, rfl⟩
        have hb7 : Below wr.heap.size wr W7 := by rw [← hW7]; exact hb6.alloc hb6.size _
        have HW7 := Lib.hid hW7
        have y7 := obj_below HI.out.2.1 hb7 (obj_lt HI.out.2.1)
        obtain ⟨r0, r1⟩ := obj2s y7
        have f0 := obj_free y7 0
        have f1 := obj_free y7 1
        have HB7 := Lib.hid (And.intro y7 (HI.out.2.2.trans (hb7.mono HI.out.2.2.size)))
        rw [← hW7] at r0 r1 f0 f1
        clear y7 hb6 hb7 hW7 b0 b1
        go_wp2
        rw [HW7.out]
        obtain ⟨j0, j1⟩ := obj2s (set2_s HB7.out.1 (.slice none 0 0) (.slice none 0 0))
        refine bodyPost_ret (v := .tuple #[.agg #[.slice none 0 0, .slice none 0 0], .int .i64 8]) (by simp [results, Tryz.results23, go_sem, *]) rfl ?_
        exact newO_err (n := 8) HR.out (by decide) (below_s2 HB7.out.2 (Nat.le_refl _) _ _)
      | some tt =>
        obtain ⟨tyn, tyr, tys⟩ := tt
        have HT := Lib.hid (show Calls Tryz.prog 13 #[.agg #[.slice ta tn tc, .slice ca i cc], .string ⟨#[111, 98, 106, 101, 99, 116, 99, 108, 97, 115, 115]⟩] wr (fun en w'' => en = .returned (.tuple #[.agg #[.string ⟨tyn.toArray⟩, .int .i64 tyr, .bool tys], .bool true]) ∧ Below wr.heap.size wr w'') from hT)
        have HR := Lib.hid (HYes.out HAll.out (by rw [htt]; rfl))
        clear hT htt
        go_wp2_with fail
        refine HT.out.mono ?_
        rintro en w6 ⟨rfl, hb6⟩
        obtain ⟨W7, hW7⟩ : ∃ W7, w6.alloc (.cells #[.string ⟨tyn.toArray⟩, .int .i64 tyr, .bool tys] 35) = W7 := ⟨_, rfl⟩
        have hb7 : Below wr.heap.size wr W7 := by rw [← hW7]; exact hb6.alloc hb6.size _
        have HW7 := Lib.hid hW7
        have y7 := obj_below HI.out.2.1 hb7 (obj_lt HI.out.2.1)
        obtain ⟨r0, r1⟩ := obj2s y7
        have f0 := obj_free y7 0
        have f1 := obj_free y7 1
        obtain ⟨b0, b1⟩ := obj2s (obj_below HI.out.1 hb7 (obj_lt HI.out.1))
        have HB7 := Lib.hid (And.intro y7 (HI.out.2.2.trans (hb7.mono HI.out.2.2.size)))
        rw [← hW7] at r0 r1 f0 f1 b0 b1
        clear y7 hb6 hb7 hW7
        go_wp2
        rw [HW7.out]
        obtain ⟨j0, j1⟩ := obj2s (set2_s HB7.out.1 (.slice ta tn tc) (.slice ca i cc))
        refine bodyPost_ret (v := .tuple #[.agg #[.slice ta tn tc, .slice ca i cc], .int .i64 0]) (by simp [results, Tryz.results23, go_sem, *]) rfl ?_
        exact newO_ok HR.out (below_s2 HB7.out.2 (Nat.le_refl _) _ _)
end Go.Proofs.YtcfckgpjdaadeaaGreatDoor
