/- slices.DeleteFunc of attributes in a row of the call's own: those that may not be read. -/
import Derived.Test.YtbihhdkmmlldnaaGreatDoorEnJN
namespace Go.Proofs.YtbihhdkmmlldnaaGreatDoor
set_option linter.unusedSimpArgs false
set_option linter.unusedVariables false
open Go Go.RowKit Go.Proofs.BerK Go.Proofs.MemK Go.Proofs.UtfK
theorem ixnilE (p : List UInt8 → Bool) (cap : Value) (w : World) : Calls Tryz.prog 57 #[.slice none 0 0, .func (.func 42) #[] #[cap]] w (fun en w' => en = .returned (.int .i64 (-1)) ∧ w = w') := by
  go_enter Tryz.func57, Tryz.ntmps57
  go_wp2
  go_loop [8] (fun v => v = .int .i64 (0 : Nat)) (fun v => 0)
  case atStart => rfl
  case round =>
    obtain rfl := hrel
    go_wp2
    go_ret
    exact ⟨rfl, rfl⟩
def ClE (p : List UInt8 → Bool) (ov cap : Value) (w : World) : Prop := ∀ (W : World) (t : List UInt8) (a : Option Addr) (n c : Nat), t.length ≤ 140737488355328 → Chg (fun k => some k = ov.ownBlock) w W → Calls Tryz.prog 42 #[.agg #[.string ⟨t.toArray⟩, .slice a n c], cap] W (BB (p t) W)
set_option maxHeartbeats 1600000 in
set_option maxRecDepth 100000 in
theorem ixdelE_any (p : List UInt8 → Bool) (Lq : List (List UInt8 × Value)) (B g c : Nat) (w : World) (cap : Value) (hr : w.ownsRow B 50 2 (.slice (some ⟨g, 0, none⟩) Lq.length c) Lq.length (atcs Lq)) (hs : ∀ q ∈ Lq, q.1.length ≤ 140737488355328 ∧ ∃ a n c, q.2 = .slice a n c) (hcl : ClE p (.slice (some ⟨g, 0, none⟩) Lq.length c) cap w) (hl : Lq.length ≤ 1000000) :
    Calls Tryz.prog 57 #[.slice (some ⟨g, 0, none⟩) Lq.length c, .func (.func 42) #[] #[cap]] w (IxDel p Lq w) := by
  have HC := Lib.hid (fun (W : World) (hb : Below w.heap.size w W) t a n c' hql => hcl W t a n c' hql (Chg.ofBelow hb))
  have HR := Lib.hid hr
  have HS := Lib.hid hs
  have hgl := (hr.lt g rfl).2
  obtain ⟨n, hn⟩ : ∃ n, Lq.length = n := ⟨_, rfl⟩
  have HL := Lib.hid hn
  rw [hn] at hl ⊢
  clear hr hs hcl hn
  go_enter Tryz.func57, Tryz.ntmps57
  go_wp2
  go_loopw [8] (fun v wr => ∃ k : Nat, k ≤ n ∧ v = .int .i64 (k : Nat) ∧ Below w.heap.size w wr ∧ ∀ q ∈ Lq.take k, p q.1 = false) (fun v _ => n - (intOf v).toNat)
  case atStart => exact ⟨0, by omega, rfl, Below.refl _ _, fun q hq => by simp at hq⟩
  case round =>
    obtain ⟨k, hk, rfl, hb, hall⟩ := hrel
    by_cases hlt : k < n
    · have hkl : (k : Int) < (n : Int) := by omega
      have hkm : k < Lq.length := by rw [HL.out]; exact hlt
      obtain ⟨h1, h2⟩ := atcs_at Lq k hkm
      have c0 := (hb.cell (p := ⟨g, k * 2, none⟩) hgl).trans ((HR.out.cellAt _ (by omega)).trans h1)
      have c1 := (hb.cell (p := ⟨g, k * 2 + 1, none⟩) hgl).trans ((HR.out.cellAt _ (by omega)).trans h2)
      obtain ⟨hql, qa, qn, qc, hq⟩ := HS.out _ (List.getElem_mem hkm)
      rw [hq] at c1
      obtain ⟨t, ht⟩ : ∃ x, Lq[k].1 = x := ⟨_, rfl⟩
      rw [ht] at c0 hql
      have HCk := Lib.hid (HC.out wr hb t qa qn qc hql)
      cases hp : p t with
      | true =>
        rw [hp] at HCk
        have H := Lib.hid (And.intro hb (And.intro hall (show p Lq[k].1 = true by rw [ht]; exact hp)))
        clear hb hall h1 h2 hq ht hp
        go_wp2_with fail
        refine HCk.out.mono ?_
        rintro e w5 ⟨rfl, hb5⟩
        have H5 := Lib.hid hb5
        clear hb5 c0 c1
        go_wp2
        go_ret
        exact ⟨.inr ⟨k, rfl, hkm, H.out.2.2, H.out.2.1⟩, H.out.1.trans (H5.out.mono H.out.1.size)⟩
      | false =>
        rw [hp] at HCk
        have H := Lib.hid (And.intro hb (show ∀ q ∈ Lq.take (k + 1), p q.1 = false from mem_take_snoc hkm hall (by rw [ht]; exact hp)))
        clear hb hall h1 h2 hq ht hp
        go_wp2_with fail
        refine HCk.out.mono ?_
        rintro e w5 ⟨rfl, hb5⟩
        have H5 := Lib.hid hb5
        clear hb5 c0 c1
        go_wp2
        exact ⟨⟨k + 1, by omega, by go_num, H.out.1.trans (H5.out.mono H.out.1.size), H.out.2⟩, by simp [intOf]; omega⟩
    · obtain rfl : k = n := by omega
      have H := Lib.hid (And.intro hb (show ∀ q ∈ Lq, p q.1 = false by rw [← HL.out, List.take_length] at hall; exact hall))
      clear hb hall
      go_wp2
      go_ret
      exact ⟨.inl ⟨rfl, H.out.2⟩, H.out.1⟩
set_option maxHeartbeats 3200000 in
set_option maxRecDepth 100000 in
theorem delE_some (p : List UInt8 → Bool) (Lq : List (List UInt8 × Value)) (B g c : Nat) (w : World) (cap : Value) (hr : w.ownsRow B 50 2 (.slice (some ⟨g, 0, none⟩) Lq.length c) Lq.length (atcs Lq)) (hs : ∀ q ∈ Lq, q.1.length ≤ 140737488355328 ∧ ∃ a n c, q.2 = .slice a n c) (hcl : ClE p (.slice (some ⟨g, 0, none⟩) Lq.length c) cap w) (hl : Lq.length ≤ 1000000) :
    Calls Tryz.prog 41 #[.slice (some ⟨g, 0, none⟩) Lq.length c, .func (.func 42) #[] #[cap]] w (DelPost p Lq B (.slice (some ⟨g, 0, none⟩) Lq.length c) w) := by
  have HX := Lib.hid (ixdelE_any p Lq B g c w cap hr hs hcl hl)
  have HC := Lib.hid hcl
  have HR := Lib.hid hr
  have HS := Lib.hid hs
  have hgl := (hr.lt g rfl).2
  have hnc : Lq.length ≤ c ∧ c ≤ maxLen := by
    rcases hr.2 with ⟨h', _⟩ | ⟨g', cap', cur, h', hB, hg, hnc, hcm, hcs, ht⟩
    · cases h'
    · simp only [Value.slice.injEq, Option.some.injEq, Addr.mk.injEq, and_true, true_and] at h'
      obtain ⟨rfl, rfl⟩ := h'
      exact ⟨hnc, hcm⟩
  obtain ⟨hnc1, hnc2⟩ := hnc
  obtain ⟨n, hn⟩ : ∃ n, Lq.length = n := ⟨_, rfl⟩
  have HL := Lib.hid hn
  rw [hn] at hl HX hnc1 ⊢
  clear hr hs hcl hn
  go_enter Tryz.func41, Tryz.ntmps41
  go_wp2_with fail
  refine HX.out.mono ?_
  rintro e w1 ⟨hx, hb1⟩
  have HB1 := Lib.hid hb1
  clear hb1
  rcases hx with ⟨rfl, hno⟩ | ⟨i0, rfl, hi0, hp0, ha0⟩
  · have H := Lib.hid hno
    clear hno
    go_wp2
    go_ret
    refine ⟨_, rfl, ?_, Chg.ofBelow HB1.out⟩
    have e : (Lq.filter fun q => !p q.1) = Lq := List.filter_eq_self.2 fun q hq => by simp [H.out q hq]
    rw [e, HL.out]
    have := ownsRow_below HR.out HB1.out
    rw [HL.out] at this
    exact this
  · have hi0n : i0 < n := by rw [← HL.out]; exact hi0
    have hi0l : (i0 : Int) ≠ -1 := by omega
    have HD0 := Lib.hid (delAt_start hi0 hp0 ha0)
    have hz : ((i0 : Int) == -1) = false := by rw [beq_eq_false_iff_ne]; omega
    clear hp0 ha0
    go_wp2
    go_loopw [5, 6] (fun v5 v6 wr => ∃ (i j : Nat) (R : List (List UInt8 × Value)), j ≤ n ∧ v5 = .int .i64 (i : Nat) ∧ v6 = .int .i64 (j : Nat) ∧ i < j ∧ DelAt p Lq R i j ∧ wr.ownsRow B 50 2 (.slice (some ⟨g, 0, none⟩) n c) n (atcs R) ∧ Chg (fun k => some k = (Value.slice (some ⟨g, 0, none⟩) n c).ownBlock) w wr) (fun _ v _ => n - (intOf v).toNat)
    case atStart => exact ⟨i0, i0 + 1, Lq, by omega, rfl, by go_num, by omega, HD0.out, by have := ownsRow_below HR.out HB1.out; rw [HL.out] at this; exact this, Chg.ofBelow HB1.out⟩
    case round =>
      clear HX HD0 hz hi0l
      obtain ⟨i, j, R, hj, rfl, rfl, hij, hD, hrow, hch⟩ := hrel
      by_cases hlt : j < n
      · have hjl : (j : Int) < (n : Int) := by omega
        have hil : (i : Int) < (n : Int) := by omega
        have hjm : j < Lq.length := by rw [HL.out]; exact hlt
        obtain ⟨hjR, ejR⟩ := delAt_at hD hjm
        obtain ⟨h1, h2⟩ := atcs_at R j hjR
        rw [ejR] at h1 h2
        have c0 := (hrow.cellAt (j * 2) (by omega)).trans h1
        have c1 := (hrow.cellAt (j * 2 + 1) (by omega)).trans h2
        obtain ⟨hql, qa, qn, qc, hq⟩ := HS.out _ (List.getElem_mem hjm)
        have hDs := delAt_skip hD hjm
        have hDk := delAt_keep hD hjm
        obtain ⟨q, hqe⟩ : ∃ x, Lq[j] = x := ⟨_, rfl⟩
        rw [hqe] at hq hql c0 c1 hDs hDk
        obtain ⟨t, qv⟩ := q
        simp only [] at hq hql c0 c1 hDs hDk
        subst hq
        have hgr := (hrow.lt g rfl).2
        obtain ⟨W2, hW2⟩ : ∃ W2, wr.alloc (.cells #[.string ⟨t.toArray⟩, .slice qa qn qc] 50) = W2 := ⟨_, rfl⟩
        have hb2 : Below wr.heap.size wr W2 := by rw [← hW2]; exact (Below.refl _ wr).alloc (Nat.le_refl _) _
        have y2 : W2.heap[wr.heap.size]? = some (.cells #[.string ⟨t.toArray⟩, .slice qa qn qc] 50 (0, 0)) := by rw [← hW2]; exact heap_alloc_new wr _
        have hch2 := hch.below (hb2.mono hch.size)
        have HCk := Lib.hid (HC.out W2 t qa qn qc hql (by rw [HL.out]; exact hch2.mono (fun _ _ h => h)))
        have HW2 := Lib.hid hW2
        obtain ⟨i0', i1'⟩ := obj2s y2
        rw [← hW2] at i0' i1'
        cases hp : p t with
        | true =>
          rw [hp] at HCk
          have H := Lib.hid (And.intro hrow (And.intro hch (And.intro hb2 (hDs hp))))
          clear hrow hch hb2 hDs hDk hD h1 h2 hqe hch2 y2 hW2 ejR hp
          go_wp2_with fail
          rw [HW2.out]
          refine HCk.out.mono ?_
          rintro e w5 ⟨rfl, hb5⟩
          have H5 := Lib.hid (H.out.2.2.1.trans (hb5.mono H.out.2.2.1.size))
          clear hb5 c0 c1 i0' i1'
          go_wp2
          exact ⟨⟨i, j + 1, R, by omega, rfl, by go_num, by omega, H.out.2.2.2, ownsRow_below H.out.1 H5.out, H.out.2.1.below (H5.out.mono H.out.2.1.size)⟩, by simp [intOf]; omega⟩
        | false =>
          rw [hp] at HCk
          have H := Lib.hid (And.intro hrow (And.intro hch (And.intro hb2 (And.intro (hDk hp) (And.intro hD y2)))))
          clear hrow hch hb2 hDs hDk hD h1 h2 hqe hch2 hW2 ejR hp y2
          go_wp2_with fail
          rw [HW2.out]
          refine HCk.out.mono ?_
          rintro e w5 ⟨rfl, hb5⟩
          clear c0 c1 i0' i1'
          have hb6 := H.out.2.2.1.trans (hb5.mono H.out.2.2.1.size)
          have hr5 := ownsRow_below H.out.1 hb6
          have y5 := obj_below H.out.2.2.2.2.2 hb5 (obj_lt H.out.2.2.2.2.2)
          obtain ⟨j0, j1⟩ := obj2s y5
          have hiR : i < R.length := by rw [H.out.2.2.2.2.1.1, HL.out]; omega
          obtain ⟨r1, r2⟩ := atcs_at R i hiR
          have s0 := (hr5.cellAt (i * 2) (by omega)).trans r1
          have s1 := (hr5.cellAt (i * 2 + 1) (by omega)).trans r2
          have f0 := hr5.frozenAt (i * 2)
          have f1 := hr5.frozenAt (i * 2 + 1)
          have hst := own_stored (own_stored hr5 (i * 2) (.string ⟨t.toArray⟩)) (i * 2 + 1) (.slice qa qn qc)
          rw [show (Value.slice qa qn qc) = (t, Value.slice qa qn qc).2 from rfl, show (Value.string ⟨t.toArray⟩) = .string ⟨(t, Value.slice qa qn qc).1.toArray⟩ from rfl, atcs_set2 R i hiR] at hst
          have hc5 := H.out.2.1.below (hb6.mono H.out.2.1.size)
          have hc6 : Chg (fun k => some k = (Value.slice (some ⟨g, 0, none⟩) n c).ownBlock) w ((w5.setCell ⟨g, i * 2, none⟩ (.string ⟨t.toArray⟩)).setCell ⟨g, i * 2 + 1, none⟩ (.slice qa qn qc)) := (hc5.setCell (p := ⟨g, i * 2, none⟩) (fun _ => rfl) _).setCell (p := ⟨g, i * 2 + 1, none⟩) (fun _ => rfl) _
          have H5 := Lib.hid (And.intro hst hc6)
          clear hb5 hb6 hr5 y5 r1 r2 hst hc5 hc6
          go_wp2
          exact ⟨⟨i + 1, j + 1, R.set i (t, .slice qa qn qc), by omega, by go_num, by go_num, by omega, H.out.2.2.2.1, H5.out.1, H5.out.2⟩, by simp [intOf]; omega⟩
      · obtain rfl : j = n := by omega
        have hD2 : DelAt p Lq R i Lq.length := by rw [HL.out]; exact hD
        obtain ⟨e1, e2, e3⟩ := delAt_end hD2
        have hRl : R.length = j := by rw [hD.1, HL.out]
        have hij2 : (i : Int) ≤ (j : Int) := by omega
        have hjc : (j : Int) ≤ (c : Int) := by omega
        have hic : (i : Int) ≤ (c : Int) := by omega
        have hclr : ∀ ty, (Builtin.clear_ #[38] ty #[.slice (some ⟨g, i * 2, none⟩) (j - i) (c - i)]).run Tryz.prog wr = .ok (.tuple #[]) (wr.setCells g (i * 2) (zeroAt (j - i))) := fun ty => by
          refine run_clear_k wr _ 50 ty (.agg #[.string ByteArray.empty, .slice none 0 0]) Tryz.underlying38 Tryz.zeroValue50 (fun _ _ => trivial) g (i * 2) (j - i) (c - i) ((j - i) * 2) (by omega) (zeroAt (j - i)) rfl (zeroAt_len _) (zeroAt_one _) (fun q hq => ?_) (fun q hq => hrow.frozenAt _)
          rw [hrow.cellAt _ (by omega), List.getElem?_eq_getElem (by rw [atcs_len]; omega)]
          rfl
        have hpre := own_prefix hrow i (by omega)
        rw [← atcs_take, e1] at hpre
        obtain ⟨k1, k2⟩ := own_setCells (zeroAt (j - i)) wr (i * 2) hpre (Nat.le_refl _)
        have H := Lib.hid (And.intro k1 (And.intro (hch.trans (k2.mono (fun k _ h => (by show some k = some g; rw [h]))) (fun _ _ h => h)) e2))
        clear hpre k1 k2 hrow hch hD hD2 e1 e2 e3
        go_wp2
        go_ret
        refine ⟨_, rfl, ?_, H.out.2.1⟩
        rw [← H.out.2.2]
        exact H.out.1
theorem delE_any (p : List UInt8 → Bool) (Lq : List (List UInt8 × Value)) (n B : Nat) (ov : Value) (w : World) (cap : Value) (hr : w.ownsRow B 50 2 ov n (atcs Lq)) (hs : ∀ q ∈ Lq, q.1.length ≤ 140737488355328 ∧ ∃ a n c, q.2 = .slice a n c) (hcl : ClE p ov cap w) (hl : n ≤ 1000000) :
    Calls Tryz.prog 41 #[ov, .func (.func 42) #[] #[cap]] w (DelPost p Lq B ov w) := by
  have hn : Lq.length = n := by have := hr.1; rw [atcs_len] at this; omega
  subst hn
  rcases hr.2 with ⟨rfl, h0⟩ | ⟨g, c, cur, rfl, _⟩
  · have e : Lq = [] := List.eq_nil_of_length_eq_zero h0
    subst e
    have HX := Lib.hid (ixnilE p cap w)
    clear hr hs hcl hl h0
    go_enter Tryz.func41, Tryz.ntmps41
    go_wp2_with fail
    refine HX.out.mono ?_
    rintro e w1 ⟨rfl, hw⟩
    obtain rfl := hw.symm
    go_wp2
    go_ret
    exact ⟨_, rfl, World.ownsRow_nil _ _ _ _, Chg.refl _ _⟩
  · exact delE_some p Lq B g c w cap hr hs hcl hl
end Go.Proofs.YtbihhdkmmlldnaaGreatDoor
