/- slices.DeleteFunc of those right below a name. slices.Insert of one among those right below a name. Those right below a name: one hung among them, one taken away. Those right below a name: one taken away. -/
import Derived.Test.YtbmnpjkcomcboaaGreatDoorDtAC
import Derived.Test.YtbmnpjkcomcboaaGreatDoorEnJN
import Derived.Laws.IdiomCopy
import Derived.Shelf.Spec.SlicesInsertGrow
import Derived.Test.YtbmnpjkcomcboaaGreatDoorPlAC
namespace Go.Proofs.YtbmnpjkcomcboaaGreatDoor
set_option linter.unusedSimpArgs false
set_option linter.unusedVariables false
open Go Go.RowKit Go.Proofs.BerK Go.Proofs.MemK Go.Proofs.UtfK

theorem avc_takeD : ∀ (r : List Av) (k : Nat), avc (r.take k) = (avc r).take (k * 2)
  | _, 0 => by simp [avc]
  | [], _ + 1 => by simp [avc]
  | p :: r, k + 1 => by
    rw [List.take_succ_cons, avc_cons, avc_cons, avc_takeD r k, show (k + 1) * 2 = k * 2 + 1 + 1 by omega, List.take_succ_cons, List.take_succ_cons]
theorem avc_oneD (r : List Av) : ∀ v ∈ avc r, v.oneCell' = true := by
  intro v hv
  obtain ⟨p, _, hp⟩ := List.mem_flatMap.1 hv
  simp at hp
  rcases hp with rfl | rfl <;> rfl
def zeroCh (n : Nat) : List Value := (Builtin.zeroCells (Value.agg #[.string ByteArray.empty, .string ByteArray.empty]).cells n).toList
theorem zeroCh_len (n : Nat) : (zeroCh n).length = n * 2 := by
  unfold zeroCh Builtin.zeroCells
  simp [Value.cells]
theorem zeroCh_one (n : Nat) : ∀ v ∈ zeroCh n, v.oneCell' = true := by
  intro v hv
  unfold zeroCh Builtin.zeroCells at hv
  simp [Value.cells] at hv
  obtain ⟨a, _, rfl⟩ := hv
  rcases (show a % 2 = 0 ∨ a % 2 = 1 by omega) with h | h <;> simp [h, Value.oneCell']
def IxDelC (p : Av → Bool) (Lq : List Av) (w : World) (en : Ending) (w' : World) : Prop :=
  ((en = .returned (.int .i64 (-1)) ∧ ∀ q ∈ Lq, p q = false) ∨ ∃ i : Nat, en = .returned (.int .i64 (i : Nat)) ∧ ∃ h : i < Lq.length, p Lq[i] = true ∧ ∀ q ∈ Lq.take i, p q = false) ∧ Below w.heap.size w w'
def DelPostC (p : Av → Bool) (Lq : List Av) (B : Nat) (ov : Value) (w : World) (en : Ending) (w' : World) : Prop :=
  ∃ v, en = .returned v ∧ w'.ownsRow B 86 2 v (Lq.filter fun q => !p q).length (avc (Lq.filter fun q => !p q)) ∧ Chg (fun k => some k = ov.ownBlock) w w' ∧ v.ownBlock = ov.ownBlock
def DelAtC (p : Av → Bool) (Lq R : List Av) (i j : Nat) : Prop := R.length = Lq.length ∧ R.take i = (Lq.take j).filter (fun q => !p q) ∧ R.drop j = Lq.drop j ∧ i < j ∧ j ≤ Lq.length
theorem delAtC_start {p : Av → Bool} {Lq : List Av} {i : Nat} (hi : i < Lq.length) (hp : p Lq[i] = true) (ha : ∀ q ∈ Lq.take i, p q = false) : DelAtC p Lq Lq i (i + 1) := by
  refine ⟨rfl, ?_, rfl, by omega, hi⟩
  rw [List.take_succ_eq_append_getElem hi, List.filter_append]
  have e1 : (Lq.take i).filter (fun q => !p q) = Lq.take i := List.filter_eq_self.2 fun q hq => by simp [ha q hq]
  rw [e1]
  simp [hp]
theorem delAtC_at {p : Av → Bool} {Lq R : List Av} {i j : Nat} (h : DelAtC p Lq R i j) (hj : j < Lq.length) : ∃ h1 : j < R.length, R[j] = Lq[j] := by
  have h1 : j < R.length := by rw [h.1]; exact hj
  refine ⟨h1, ?_⟩
  have h2 := congrArg (fun l => l[0]?) h.2.2.1
  simp only [List.getElem?_drop, Nat.add_zero, List.getElem?_eq_getElem h1, List.getElem?_eq_getElem hj, Option.some.injEq] at h2
  exact h2
theorem delAtC_skip {p : Av → Bool} {Lq R : List Av} {i j : Nat} (h : DelAtC p Lq R i j) (hj : j < Lq.length) (hp : p Lq[j] = true) : DelAtC p Lq R i (j + 1) := by
  obtain ⟨h1, h2, h3, h4, h5⟩ := h
  refine ⟨h1, ?_, ?_, by omega, hj⟩
  · rw [h2, List.take_succ_eq_append_getElem hj, List.filter_append]
    simp [hp]
  · have := congrArg (List.drop 1) h3
    rw [List.drop_drop, List.drop_drop] at this
    exact this
theorem delAtC_keep {p : Av → Bool} {Lq R : List Av} {i j : Nat} (h : DelAtC p Lq R i j) (hj : j < Lq.length) (hp : p Lq[j] = false) : DelAtC p Lq (R.set i Lq[j]) (i + 1) (j + 1) := by
  obtain ⟨h1, h2, h3, h4, h5⟩ := h
  have hi : i < (R.set i Lq[j]).length := by rw [List.length_set]; omega
  refine ⟨by rw [List.length_set]; exact h1, ?_, ?_, by omega, hj⟩
  · rw [List.take_succ_eq_append_getElem hi, List.getElem_set_self, List.take_set_of_le (Nat.le_refl _), h2, List.take_succ_eq_append_getElem hj, List.filter_append]
    simp [hp]
  · rw [List.drop_set_of_lt (by omega)]
    have := congrArg (List.drop 1) h3
    rw [List.drop_drop, List.drop_drop] at this
    exact this
theorem delAtC_end {p : Av → Bool} {Lq R : List Av} {i : Nat} (h : DelAtC p Lq R i Lq.length) : R.take i = Lq.filter (fun q => !p q) ∧ i = (Lq.filter (fun q => !p q)).length ∧ i < R.length := by
  obtain ⟨h1, h2, h3, h4, h5⟩ := h
  rw [List.take_length] at h2
  refine ⟨h2, ?_, by omega⟩
  rw [← h2, List.length_take]
  omega
theorem ixnilC (p : Av → Bool) (cap : Value) (w : World) : Calls Tryz.prog 116 #[.slice none 0 0, .func (.func 69) #[] #[cap]] w (fun en w' => en = .returned (.int .i64 (-1)) ∧ w = w') := by
  go_enter Tryz.func116, Tryz.ntmps116
  go_wp2
  go_loop [8] (fun v => v = .int .i64 (0 : Nat)) (fun v => 0)
  case atStart => rfl
  case round =>
    obtain rfl := hrel
    go_wp2
    go_ret
    exact ⟨rfl, rfl⟩
def ClC (p : Av → Bool) (ov cap : Value) (w : World) : Prop := ∀ (W : World) (t m : List UInt8), Chg (fun k => some k = ov.ownBlock) w W → Calls Tryz.prog 69 #[.agg #[.string ⟨t.toArray⟩, .string ⟨m.toArray⟩], cap] W (BB (p (t, m)) W)
set_option maxHeartbeats 1600000 in
set_option maxRecDepth 100000 in
theorem ixdelC_any (p : Av → Bool) (Lq : List Av) (B g c : Nat) (w : World) (cap : Value) (hr : w.ownsRow B 86 2 (.slice (some ⟨g, 0, none⟩) Lq.length c) Lq.length (avc Lq)) (hcl : ClC p (.slice (some ⟨g, 0, none⟩) Lq.length c) cap w) (hl : Lq.length ≤ 1000000) :
    Calls Tryz.prog 116 #[.slice (some ⟨g, 0, none⟩) Lq.length c, .func (.func 69) #[] #[cap]] w (IxDelC p Lq w) := by
  have HC := Lib.hid (fun (W : World) (hb : Below w.heap.size w W) t m => hcl W t m (Chg.ofBelow hb))
  have HR := Lib.hid hr
  have hgl := (hr.lt g rfl).2
  obtain ⟨n, hn⟩ : ∃ n, Lq.length = n := ⟨_, rfl⟩
  have HL := Lib.hid hn
  rw [hn] at hl ⊢
  clear hr hcl hn
  go_enter Tryz.func116, Tryz.ntmps116
  go_wp2
  go_loopw [8] (fun v wr => ∃ k : Nat, k ≤ n ∧ v = .int .i64 (k : Nat) ∧ Below w.heap.size w wr ∧ ∀ q ∈ Lq.take k, p q = false) (fun v _ => n - (intOf v).toNat)
  case atStart => exact ⟨0, by omega, rfl, Below.refl _ _, fun q hq => by simp at hq⟩
  case round =>
    obtain ⟨k, hk, rfl, hb, hall⟩ := hrel
    by_cases hlt : k < n
    · have hkl : (k : Int) < (n : Int) := by omega
      have hkm : k < Lq.length := by rw [HL.out]; exact hlt
      obtain ⟨h1, h2⟩ := avc_at Lq k hkm
      have c0 := (hb.cell (p := ⟨g, k * 2, none⟩) hgl).trans ((HR.out.cellAt _ (by omega)).trans h1)
      have c1 := (hb.cell (p := ⟨g, k * 2 + 1, none⟩) hgl).trans ((HR.out.cellAt _ (by omega)).trans h2)
      obtain ⟨⟨t, m⟩, ht⟩ : ∃ x, Lq[k] = x := ⟨_, rfl⟩
      rw [ht] at c0 c1
      dsimp only at c0 c1
      have HCk := Lib.hid (HC.out wr hb t m)
      cases hp : p (t, m) with
      | true =>
        rw [hp] at HCk
        have H := Lib.hid (And.intro hb (And.intro hall (show p Lq[k] = true by rw [ht]; exact hp)))
        clear hb hall h1 h2 ht hp
        go_wp2_with fail
        refine HCk.out.mono ?_
        rintro e w5 ⟨rfl, hb5⟩
        have H5 := Lib.hid hb5
        clear hb5 c0 c1
        go_wp2
        go_ret
        exact ⟨.inr ⟨k, rfl, hkm, H.out.2.2, H.out.2.1⟩, H.out.1.trans (H5.out.mono H.out.1.size)⟩
      | false =>
        rw [hp] at HCk
        have H := Lib.hid (And.intro hb (show ∀ q ∈ Lq.take (k + 1), p q = false from mem_take_snoc hkm hall (by rw [ht]; exact hp)))
        clear hb hall h1 h2 ht hp
        go_wp2_with fail
        refine HCk.out.mono ?_
        rintro e w5 ⟨rfl, hb5⟩
        have H5 := Lib.hid hb5
        clear hb5 c0 c1
        go_wp2
        exact ⟨⟨k + 1, by omega, by go_num, H.out.1.trans (H5.out.mono H.out.1.size), H.out.2⟩, by simp [intOf]; omega⟩
    · obtain rfl : k = n := by omega
      have H := Lib.hid (And.intro hb (show ∀ q ∈ Lq, p q = false by rw [← HL.out, List.take_length] at hall; exact hall))
      clear hb hall
      go_wp2
      go_ret
      exact ⟨.inl ⟨rfl, H.out.2⟩, H.out.1⟩
set_option maxHeartbeats 3200000 in
set_option maxRecDepth 100000 in
theorem delC_some (p : Av → Bool) (Lq : List Av) (B g c : Nat) (w : World) (cap : Value) (hr : w.ownsRow B 86 2 (.slice (some ⟨g, 0, none⟩) Lq.length c) Lq.length (avc Lq)) (hcl : ClC p (.slice (some ⟨g, 0, none⟩) Lq.length c) cap w) (hl : Lq.length ≤ 1000000) :
    Calls Tryz.prog 68 #[.slice (some ⟨g, 0, none⟩) Lq.length c, .func (.func 69) #[] #[cap]] w (DelPostC p Lq B (.slice (some ⟨g, 0, none⟩) Lq.length c) w) := by
  have HX := Lib.hid (ixdelC_any p Lq B g c w cap hr hcl hl)
  have HC := Lib.hid hcl
  have HR := Lib.hid hr
  have hgl := (hr.lt g rfl).2
  have hnc : Lq.length ≤ c ∧ c ≤ maxLen := by
    rcases hr.2 with ⟨h', _⟩ | ⟨g', cap', cur, h', hB, hg, hnc, hcm, hcs, ht⟩
    · cases h'
    · simp only [Value.slice.injEq, Option.some.injEq, Addr.mk.injEq, and_true, true_and] at h'
      obtain ⟨rfl, rfl⟩ := h'
      exact ⟨hnc, hcm⟩
  obtain ⟨hnc1, hnc2⟩ := hnc
  obtain ⟨n, hn⟩ : ∃ n, Lq.length = n := ⟨_, rfl⟩
  have HL := Lib.hid hn
  rw [hn] at hl HX hnc1 ⊢
  clear hr hcl hn
  go_enter Tryz.func68, Tryz.ntmps68
  go_wp2_with fail
  refine HX.out.mono ?_
  rintro e w1 ⟨hx, hb1⟩
  have HB1 := Lib.hid hb1
  clear hb1
  rcases hx with ⟨rfl, hno⟩ | ⟨i0, rfl, hi0, hp0, ha0⟩
  · have H := Lib.hid hno
    clear hno
    go_wp2
    go_ret
    refine ⟨_, rfl, ?_, Chg.ofBelow HB1.out, rfl⟩
    have e : (Lq.filter fun q => !p q) = Lq := List.filter_eq_self.2 fun q hq => by simp [H.out q hq]
    rw [e, HL.out]
    have := ownsRow_below HR.out HB1.out
    rw [HL.out] at this
    exact this
  · have hi0n : i0 < n := by rw [← HL.out]; exact hi0
    have hi0l : (i0 : Int) ≠ -1 := by omega
    have HD0 := Lib.hid (delAtC_start hi0 hp0 ha0)
    have hz : ((i0 : Int) == -1) = false := by rw [beq_eq_false_iff_ne]; omega
    clear hp0 ha0
    go_wp2
    go_loopw [5, 6] (fun v5 v6 wr => ∃ (i j : Nat) (R : List Av), j ≤ n ∧ v5 = .int .i64 (i : Nat) ∧ v6 = .int .i64 (j : Nat) ∧ i < j ∧ DelAtC p Lq R i j ∧ wr.ownsRow B 86 2 (.slice (some ⟨g, 0, none⟩) n c) n (avc R) ∧ Chg (fun k => some k = (Value.slice (some ⟨g, 0, none⟩) n c).ownBlock) w wr) (fun _ v _ => n - (intOf v).toNat)
    case atStart => exact ⟨i0, i0 + 1, Lq, by omega, rfl, by go_num, by omega, HD0.out, by have := ownsRow_below HR.out HB1.out; rw [HL.out] at this; exact this, Chg.ofBelow HB1.out⟩
    case round =>
      clear HX HD0 hz hi0l
      obtain ⟨i, j, R, hj, rfl, rfl, hij, hD, hrow, hch⟩ := hrel
      by_cases hlt : j < n
      · have hjl : (j : Int) < (n : Int) := by omega
        have hil : (i : Int) < (n : Int) := by omega
        have hjm : j < Lq.length := by rw [HL.out]; exact hlt
        obtain ⟨hjR, ejR⟩ := delAtC_at hD hjm
        obtain ⟨h1, h2⟩ := avc_at R j hjR
        rw [ejR] at h1 h2
        have c0 := (hrow.cellAt (j * 2) (by omega)).trans h1
        have c1 := (hrow.cellAt (j * 2 + 1) (by omega)).trans h2
        have hDs := delAtC_skip hD hjm
        have hDk := delAtC_keep hD hjm
        obtain ⟨q, hqe⟩ : ∃ x, Lq[j] = x := ⟨_, rfl⟩
        rw [hqe] at c0 c1 hDs hDk
        obtain ⟨t, m⟩ := q
        simp only [] at c0 c1 hDs hDk
        have hgr := (hrow.lt g rfl).2
        obtain ⟨W2, hW2⟩ : ∃ W2, wr.alloc (.cells #[.string ⟨t.toArray⟩, .string ⟨m.toArray⟩] 86) = W2 := ⟨_, rfl⟩
        have hb2 : Below wr.heap.size wr W2 := by rw [← hW2]; exact (Below.refl _ wr).alloc (Nat.le_refl _) _
        have y2 : W2.heap[wr.heap.size]? = some (.cells #[.string ⟨t.toArray⟩, .string ⟨m.toArray⟩] 86 (0, 0)) := by rw [← hW2]; exact heap_alloc_new wr _
        have hch2 := hch.below (hb2.mono hch.size)
        have HCk := Lib.hid (HC.out W2 t m (by rw [HL.out]; exact hch2.mono (fun _ _ h => h)))
        have HW2 := Lib.hid hW2
        obtain ⟨i0', i1'⟩ := obj2s y2
        rw [← hW2] at i0' i1'
        cases hp : p (t, m) with
        | true =>
          rw [hp] at HCk
          have H := Lib.hid (And.intro hrow (And.intro hch (And.intro hb2 (hDs hp))))
          clear hrow hch hb2 hDs hDk hD h1 h2 hqe hch2 y2 hW2 ejR hp
          go_wp2_with fail
          rw [HW2.out]
          refine HCk.out.mono ?_
          rintro e w5 ⟨rfl, hb5⟩
          have H5 := Lib.hid (H.out.2.2.1.trans (hb5.mono H.out.2.2.1.size))
          clear hb5 c0 c1 i0' i1'
          go_wp2
          exact ⟨⟨i, j + 1, R, by omega, rfl, by go_num, by omega, H.out.2.2.2, ownsRow_below H.out.1 H5.out, H.out.2.1.below (H5.out.mono H.out.2.1.size)⟩, by simp [intOf]; omega⟩
        | false =>
          rw [hp] at HCk
          have H := Lib.hid (And.intro hrow (And.intro hch (And.intro hb2 (And.intro (hDk hp) (And.intro hD y2)))))
          clear hrow hch hb2 hDs hDk hD h1 h2 hqe hch2 hW2 ejR hp y2
          go_wp2_with fail
          rw [HW2.out]
          refine HCk.out.mono ?_
          rintro e w5 ⟨rfl, hb5⟩
          clear c0 c1 i0' i1'
          have hb6 := H.out.2.2.1.trans (hb5.mono H.out.2.2.1.size)
          have hr5 := ownsRow_below H.out.1 hb6
          have y5 := obj_below H.out.2.2.2.2.2 hb5 (obj_lt H.out.2.2.2.2.2)
          obtain ⟨j0, j1⟩ := obj2s y5
          have hiR : i < R.length := by rw [H.out.2.2.2.2.1.1, HL.out]; omega
          obtain ⟨r1, r2⟩ := avc_at R i hiR
          have s0 := (hr5.cellAt (i * 2) (by omega)).trans r1
          have s1 := (hr5.cellAt (i * 2 + 1) (by omega)).trans r2
          have f0 := hr5.frozenAt (i * 2)
          have f1 := hr5.frozenAt (i * 2 + 1)
          have hst := own_stored (own_stored hr5 (i * 2) (.string ⟨t.toArray⟩)) (i * 2 + 1) (.string ⟨m.toArray⟩)
          rw [avc_set R i hiR (t, m)] at hst
          have hc5 := H.out.2.1.below (hb6.mono H.out.2.1.size)
          have hc6 : Chg (fun k => some k = (Value.slice (some ⟨g, 0, none⟩) n c).ownBlock) w ((w5.setCell ⟨g, i * 2, none⟩ (.string ⟨t.toArray⟩)).setCell ⟨g, i * 2 + 1, none⟩ (.string ⟨m.toArray⟩)) := (hc5.setCell (p := ⟨g, i * 2, none⟩) (fun _ => rfl) _).setCell (p := ⟨g, i * 2 + 1, none⟩) (fun _ => rfl) _
          have H5 := Lib.hid (And.intro hst hc6)
          clear hb5 hb6 hr5 y5 r1 r2 hst hc5 hc6
          go_wp2
          exact ⟨⟨i + 1, j + 1, R.set i (t, m), by omega, by go_num, by go_num, by omega, H.out.2.2.2.1, H5.out.1, H5.out.2⟩, by simp [intOf]; omega⟩
      · obtain rfl : j = n := by omega
        have hD2 : DelAtC p Lq R i Lq.length := by rw [HL.out]; exact hD
        obtain ⟨e1, e2, e3⟩ := delAtC_end hD2
        have hRl : R.length = j := by rw [hD.1, HL.out]
        have hij2 : (i : Int) ≤ (j : Int) := by omega
        have hjc : (j : Int) ≤ (c : Int) := by omega
        have hic : (i : Int) ≤ (c : Int) := by omega
        have hclr : ∀ ty, (Builtin.clear_ #[83] ty #[.slice (some ⟨g, i * 2, none⟩) (j - i) (c - i)]).run Tryz.prog wr = .ok (.tuple #[]) (wr.setCells g (i * 2) (zeroCh (j - i))) := fun ty => by
          refine run_clear_k wr _ 86 ty (.agg #[.string ByteArray.empty, .string ByteArray.empty]) Tryz.underlying83 Tryz.zeroValue86 (fun _ _ => trivial) g (i * 2) (j - i) (c - i) ((j - i) * 2) (by omega) (zeroCh (j - i)) rfl (zeroCh_len _) (zeroCh_one _) (fun q hq => ?_) (fun q hq => hrow.frozenAt _)
          rw [hrow.cellAt _ (by omega), List.getElem?_eq_getElem (by rw [avc_len]; omega)]
          rfl
        have hpre := own_prefix hrow i (by omega)
        rw [← avc_takeD, e1] at hpre
        obtain ⟨k1, k2⟩ := own_setCells (zeroCh (j - i)) wr (i * 2) hpre (Nat.le_refl _)
        have H := Lib.hid (And.intro k1 (And.intro (hch.trans (k2.mono (fun k _ h => (by show some k = some g; rw [h]))) (fun _ _ h => h)) e2))
        clear hpre k1 k2 hrow hch hD hD2 e1 e2 e3
        go_wp2
        go_ret
        refine ⟨_, rfl, ?_, H.out.2.1, rfl⟩
        rw [← H.out.2.2]
        exact H.out.1
theorem delC_any (p : Av → Bool) (Lq : List Av) (n B : Nat) (ov : Value) (w : World) (cap : Value) (hr : w.ownsRow B 86 2 ov n (avc Lq)) (hcl : ClC p ov cap w) (hl : n ≤ 1000000) :
    Calls Tryz.prog 68 #[ov, .func (.func 69) #[] #[cap]] w (DelPostC p Lq B ov w) := by
  have hn : Lq.length = n := by have := hr.1; rw [avc_len] at this; omega
  subst hn
  rcases hr.2 with ⟨rfl, h0⟩ | ⟨g, c, cur, rfl, _⟩
  · have e : Lq = [] := List.eq_nil_of_length_eq_zero h0
    subst e
    have HX := Lib.hid (ixnilC p cap w)
    clear hr hcl hl h0
    go_enter Tryz.func68, Tryz.ntmps68
    go_wp2_with fail
    refine HX.out.mono ?_
    rintro e w1 ⟨rfl, hw⟩
    obtain rfl := hw.symm
    go_wp2
    go_ret
    exact ⟨_, rfl, World.ownsRow_nil _ _ _ _, Chg.refl _ _, rfl⟩
  · exact delC_some p Lq B g c w cap hr hcl hl
end Go.Proofs.YtbmnpjkcomcboaaGreatDoor
namespace Go.Proofs.YtbmnpjkcomcboaaGreatDoor
set_option linter.unusedSimpArgs false
set_option linter.unusedVariables false
open Go Go.RowKit Go.Proofs.BerK Go.Proofs.MemK Go.Proofs.UtfK Go.Lib

theorem run_copy_k {P : Program} (k : Nat) (w : World) (dT sT ty elem : TypeId) (b o dLen dCap : Nat) (a : Addr) (sLen sCap m : Nat) (cs : List Value)
    (hu : P.underlying dT = some (.slice elem)) (hs : (P.info? elem).map (·.size) = some k) (hn : m = Nat.min sLen dLen) (hl : cs.length = m * k)
    (hsrc : ∀ j v, cs[j]? = some v → w.cell? (a.add j) = some v) (hc : ∀ j, j < cs.length → (w.cell? ⟨b, o + j, none⟩).isSome = true) (hf : ∀ j, j < cs.length → w.frozen? ⟨b, o + j, none⟩ = false) (h1 : ∀ v ∈ cs, v.oneCell' = true) :
    (Builtin.copy_ #[dT, sT] ty #[.slice (some ⟨b, o, none⟩) dLen dCap, .slice (some a) sLen sCap]).run P w = .ok (goInt m) (w.setCells b o cs) := by
  have hld := run_loadCells_list (P := P) w a cs hsrc
  have hst := run_storeCells_cells (P := P) b o cs 0 w (by simpa using hc) (by simpa using hf) h1
  rw [hl] at hld
  cases hq : P.info? elem with
  | none => simp [hq] at hs
  | some i =>
    have hi : i.size = k := by simpa [hq] using hs
    simp [Builtin.copy_, run_underlying hu, Builtin.lenOf, Builtin.firstCells, sizeOf, typeInfo, hq, hi, ← hn, hld, hst]
def setL (xs : List Value) : Nat → List Value → List Value
  | _, [] => xs
  | o, u :: us => setL (xs.set o u) (o + 1) us
theorem setL_app : ∀ (us a b c : List Value), b.length = us.length → setL (a ++ b ++ c) a.length us = a ++ us ++ c
  | [], a, b, c, h => by
    have : b = [] := List.eq_nil_of_length_eq_zero h
    subst this; rfl
  | u :: us, a, [], c, h => by simp at h
  | u :: us, a, x :: b, c, h => by
    show setL ((a ++ (x :: b) ++ c).set a.length u) (a.length + 1) us = _
    have e1 : (a ++ (x :: b) ++ c).set a.length u = (a ++ [u]) ++ b ++ c := by
      rw [List.append_assoc, List.set_append_right _ _ (Nat.le_refl _)]
      simp
    have e2 : a.length + 1 = (a ++ [u]).length := by simp
    rw [e1, e2, setL_app us (a ++ [u]) b c (by simpa using h)]
    simp
theorem own_setMany {B s g m c n : Nat} {e : TypeId} (us : List Value) : ∀ (w : World) (o : Nat) (xs : List Value), w.ownsRow B e s (.slice (some ⟨g, 0, none⟩) m c) n xs → (w.setCells g o us).ownsRow B e s (.slice (some ⟨g, 0, none⟩) m c) n (setL xs o us) ∧ Chg (fun k => k = g) w (w.setCells g o us) := by
  induction us with
  | nil => intro w o xs h; exact ⟨h, Chg.refl _ _⟩
  | cons u us ih =>
    intro w o xs h
    obtain ⟨h2, h3⟩ := ih (w.setCell ⟨g, o, none⟩ u) (o + 1) (xs.set o u) (own_stored h o u)
    have hc : Chg (fun k => k = g) w (w.setCell ⟨g, o, none⟩ u) := (Chg.refl (fun k => k = g) w).setCell (p := ⟨g, o, none⟩) (fun _ => rfl) u
    exact ⟨h2, hc.trans h3 (fun _ _ h => h)⟩
theorem own_more {w : World} {B s g c n k : Nat} {e : TypeId} {xs : List Value} (h : w.ownsRow B e s (.slice (some ⟨g, 0, none⟩) n c) n xs) (hk : n + k ≤ c) : ∃ ys, ys.length = k * s ∧ w.ownsRow B e s (.slice (some ⟨g, 0, none⟩) (n + k) c) (n + k) (xs ++ ys) := by
  have hl := h.1
  rcases h.2 with ⟨h', _⟩ | ⟨g', cap', cur, h', hB, hg, hnc, hcm, hcs, ht⟩
  · cases h'
  · simp only [Value.slice.injEq, Option.some.injEq, Addr.mk.injEq, and_true, true_and] at h'
    obtain ⟨rfl, rfl⟩ := h'
    have hm := Nat.mul_le_mul_right s hk
    rw [Nat.add_mul] at hm
    have e1 : cur.toList.take ((n + k) * s) = xs ++ (cur.toList.drop (n * s)).take (k * s) := by
      rw [Nat.add_mul, List.take_add, ht]
    have e2 : ((cur.toList.drop (n * s)).take (k * s)).length = k * s := by
      rw [List.length_take, List.length_drop, Array.length_toList, hcs]; omega
    exact ⟨_, e2, by rw [List.length_append, hl, e2, Nat.add_mul], .inr ⟨g, c, cur, rfl, hB, hg, hk, hcm, hcs, e1⟩⟩
theorem own_cap {w : World} {B s g c n : Nat} {e : TypeId} {xs : List Value} (h : w.ownsRow B e s (.slice (some ⟨g, 0, none⟩) n c) n xs) : n ≤ c ∧ c ≤ maxLen := by
  rcases h.2 with ⟨h', _⟩ | ⟨g', cap', cur, h', hB, hg, hnc, hcm, hcs, ht⟩
  · cases h'
  · simp only [Value.slice.injEq, Option.some.injEq, Addr.mk.injEq, and_true, true_and] at h'
    obtain ⟨rfl, rfl⟩ := h'
    exact ⟨hnc, hcm⟩
theorem own_blk {w : World} {B s g c n : Nat} {e : TypeId} {xs : List Value} (h : w.ownsRow B e s (.slice (some ⟨g, 0, none⟩) n c) n xs) : B ≤ g ∧ ∃ cur, w.heap[g]? = some (.cells cur e (0, 0)) ∧ cur.size = c * s := by
  rcases h.2 with ⟨h', _⟩ | ⟨g', cap', cur, h', hB, hg, hnc, hcm, hcs, ht⟩
  · cases h'
  · simp only [Value.slice.injEq, Option.some.injEq, Addr.mk.injEq, and_true, true_and] at h'
    obtain ⟨rfl, rfl⟩ := h'
    exact ⟨hB, cur, hg, hcs⟩
theorem Tryz.dtinfo : (Tryz.prog.info? 86).map (fun i => (i.zero, i.size, i.bytes)) = some (some (.agg #[.string ByteArray.empty, .string ByteArray.empty]), 2, 32) := by kernel_rfl
theorem dtsize : (Tryz.prog.info? 86).map (·.size) = some 2 := by kernel_rfl
def InsPost (K : List Av) (B : Nat) (v : Value) (w : World) (en : Ending) (w' : World) : Prop :=
  ∃ v', en = .returned v' ∧ w'.ownsRow B 86 2 v' K.length (avc K) ∧ Chg (fun k => some k = v.ownBlock) w w' ∧ (v'.ownBlock = v.ownBlock ∨ ∃ k, v'.ownBlock = some k ∧ w.heap.size ≤ k)
set_option maxHeartbeats 3200000 in
set_option maxRecDepth 100000 in
theorem dtins_end (K : List Av) (c : Av) (v : Value) (B vb : Nat) (w : World) (hr : w.ownsRow B 86 2 v K.length (avc K)) (hl : K.length ≤ 1000000) (hB : B ≤ w.heap.size) (hvb : w.heap[vb]? = some (.cells (avc [c]).toArray 86 (0, 0))) :
    Calls Tryz.prog 67 #[v, .int .i64 (K.length : Nat), .slice (some ⟨vb, 0, none⟩) 1 1] w (InsPost (K ++ [c]) B v w) := by
  obtain ⟨va, vc, rfl⟩ := ownsRow_slice hr
  have HR := Lib.hid hr
  have HV := Lib.hid (show w.ownsRow 0 86 2 (.slice (some ⟨vb, 0, none⟩) 1 1) 1 (avc [c]) from ⟨rfl, .inr ⟨vb, 1, _, rfl, Nat.zero_le _, hvb, Nat.le_refl _, by decide, rfl, rfl⟩⟩)
  obtain ⟨n, hn⟩ : ∃ n, K.length = n := ⟨_, rfl⟩
  have HL := Lib.hid hn
  have HX := Lib.hid (show w.ownsRow B 86 2 (.slice va n vc) n (avc K) by rw [← hn]; exact hr)
  rw [hn] at hl ⊢
  have hcc : n ≤ vc ∨ va = none := by
    rcases HX.out.2 with ⟨h', _⟩ | ⟨g', cap', cur, h', hB, hg, hnc, hcm, hcs, ht⟩
    · injection h' with h1 h2 h3; exact .inr h1
    · injection h' with h1 h2 h3; subst h3; exact .inl hnc
  clear hr hn hvb
  go_enter Tryz.func67, Tryz.ntmps67
  go_wp2_with (at_builtin; refine wpList_appendc rfl (.tmp 23) (.tmp 24) 83 86 rfl B 2 32 _ Tryz.dtinfo Tryz.underlying83 rfl (by decide) (.slice va n vc) n (avc K) rfl HX.out (.slice (some ⟨vb, 0, none⟩) 1 1) 0 1 (avc [c]) rfl HV.out (avc_one _) (by unfold maxLen; omega) (by omega) hB ?_)
  all_goals
    intro v' w' h1 h2 h3
    obtain ⟨a', c', hv'⟩ := ownsRow_slice h1
    subst hv'
    have H := Lib.hid (And.intro h1 (And.intro h2 h3))
    clear h1 h2 h3
    go_wp2
    go_ret
    refine ⟨_, rfl, ?_, H.out.2.1.mono (fun k _ hk => by cases va <;> exact hk), by cases va <;> exact H.out.2.2⟩
    have := H.out.1
    rw [← avc_app] at this
    rw [List.length_append, HL.out]
    exact this
set_option maxHeartbeats 6400000 in
set_option maxRecDepth 100000 in
theorem dtins_room (K : List Av) (c : Av) (i g vc : Nat) (B vb : Nat) (w : World) (hr : w.ownsRow B 86 2 (.slice (some ⟨g, 0, none⟩) K.length vc) K.length (avc K)) (hl : K.length ≤ 1000000) (hi : i < K.length) (hroom : K.length + 1 ≤ vc) (hvb : w.heap[vb]? = some (.cells (avc [c]).toArray 86 (0, 0))) (hne : vb ≠ g) :
    Calls Tryz.prog 67 #[.slice (some ⟨g, 0, none⟩) K.length vc, .int .i64 (i : Nat), .slice (some ⟨vb, 0, none⟩) 1 1] w (InsPost (K.take i ++ c :: K.drop i) B (.slice (some ⟨g, 0, none⟩) K.length vc) w) := by
  obtain ⟨hnc, hcm⟩ := own_cap hr
  obtain ⟨ys, hy, hr2⟩ := own_more (k := 1) hr hroom
  obtain ⟨hBg, cur, hcur, hcs⟩ := own_blk hr
  have hK2 : (avc K).length = 2 * K.length := avc_len K
  have hcl : ((avc K).drop (i * 2)).length = (K.length - i) * 2 := by rw [List.length_drop, hK2]; omega
  have hov : ∀ lb cb, (callFunc 114 #[.slice (some ⟨vb, 0, none⟩) 1 1, .slice (some ⟨g, (i + 1) * 2, none⟩) lb cb]).run Tryz.prog w = .ok (.value (.bool false)) w := fun lb cb => by
    rw [run_callFunc_extern Tryz.func114 (by kernel_rfl) (by kernel_rfl) (by kernel_rfl) (e := Extern.SlicesOverlaps.overlaps #[83, 83] #[4]) (by kernel_rfl),
      Lib.run_overlaps_apart w 83 4 86 Tryz.underlying83 2 Tryz.sizeOf86 ⟨vb, 0, none⟩ ⟨g, (i + 1) * 2, none⟩ 1 1 lb cb hne 86 86 2 (vc * 2) (by unfold World.shape?; rw [hvb]; rfl) (by unfold World.shape?; rw [hcur]; simp [hcs]) (by omega) (by simp [World.frozen?, hvb]) (by simp [World.frozen?, hvb])]
    rfl
  have hcell : ∀ j, j < 2 * (K.length + 1) → (w.cell? ⟨g, j, none⟩).isSome = true := fun j hj => by
    rw [hr2.cellAt _ (by omega), List.getElem?_eq_getElem (by rw [List.length_append, hK2, hy]; omega)]; rfl
  have hfz : ∀ j, w.frozen? ⟨g, j, none⟩ = false := fun j => hr.frozenAt _
  have hcp1 : ∀ ty dc sc, (Builtin.copy_ #[83, 83] ty #[.slice (some ⟨g, (i + 1) * 2, none⟩) (K.length - i) dc, .slice (some ⟨g, i * 2, none⟩) (K.length + 1 - i) sc]).run Tryz.prog w.drew = .ok (goInt ((K.length - i : Nat) : Int)) (w.drew.setCells g ((i + 1) * 2) ((avc K).drop (i * 2))) := fun ty dc sc =>
    run_copy_k 2 w.drew _ _ ty 86 g ((i + 1) * 2) (K.length - i) dc ⟨g, i * 2, none⟩ (K.length + 1 - i) sc (K.length - i) ((avc K).drop (i * 2)) Tryz.underlying83 dtsize (by simp only [Nat.min_def]; split <;> omega) hcl
      (fun j v hj => by
        rw [List.getElem?_drop] at hj
        rw [Addr.add_lit]
        have hlt : i * 2 + j < (avc K).length := (List.getElem?_eq_some_iff.1 hj).1
        exact ((hr.cellAt (i * 2 + j) (by omega)).trans hj))
      (fun j hj => hcell _ (by omega)) (fun j hj => hfz _) (fun v hv => avc_one _ v (List.mem_of_mem_drop hv))
  obtain ⟨W1, hW1⟩ : ∃ W1, W1 = w.drew.setCells g ((i + 1) * 2) ((avc K).drop (i * 2)) := ⟨_, rfl⟩
  have hrd : w.drew.ownsRow B 86 2 (.slice (some ⟨g, 0, none⟩) (K.length + 1) vc) (K.length + 1) (avc K ++ ys) := hr2
  obtain ⟨ho1, hc1⟩ := own_setMany ((avc K).drop (i * 2)) w.drew ((i + 1) * 2) _ hrd
  rw [← hW1] at ho1 hc1 hcp1
  have hlen1 := ho1.1
  have hvb1 : W1.heap[vb]? = some (.cells (avc [c]).toArray 86 (0, 0)) := (hc1.block vb (obj_lt (w := w.drew) hvb) hne).trans hvb
  have hcp2 : ∀ (W : World), W.heap = W1.heap → ∀ ty dc, (Builtin.copy_ #[83, 83] ty #[.slice (some ⟨g, i * 2, none⟩) (K.length + 1 - i) dc, .slice (some ⟨vb, 0, none⟩) 1 1]).run Tryz.prog W = .ok (goInt 1) (W.setCells g (i * 2) (avc [c])) := fun W hW ty dc =>
    run_copy_k 2 W _ _ ty 86 g (i * 2) (K.length + 1 - i) dc ⟨vb, 0, none⟩ 1 1 1 (avc [c]) Tryz.underlying83 dtsize (by simp only [Nat.min_def]; split <;> omega) rfl
      (fun j v hj => by
        rw [Addr.add_lit, Nat.zero_add]
        have : W.heap[vb]? = some (.cells (avc [c]).toArray 86 (0, 0)) := by rw [hW]; exact hvb1
        rw [cell_of_row W vb j _ _ _ this]
        simpa using hj)
      (fun j hj => by
        have : W.ownsRow B 86 2 (.slice (some ⟨g, 0, none⟩) (K.length + 1) vc) (K.length + 1) (setL (avc K ++ ys) ((i + 1) * 2) ((avc K).drop (i * 2))) := ownsRow_heap ho1 hW
        have hj2 : j < 2 := hj
        rw [this.cellAt _ (by omega), List.getElem?_eq_getElem (by rw [hlen1]; omega)]; rfl)
      (fun j hj => by
        have : W.ownsRow B 86 2 (.slice (some ⟨g, 0, none⟩) (K.length + 1) vc) (K.length + 1) (setL (avc K ++ ys) ((i + 1) * 2) ((avc K).drop (i * 2))) := ownsRow_heap ho1 hW
        exact this.frozenAt _) (avc_one _)
  have hfin : ∀ (W : World), W.heap = W1.heap → W.os = W1.os → W.tape = W1.tape → W.output = W1.output → (W.setCells g (i * 2) (avc [c])).ownsRow B 86 2 (.slice (some ⟨g, 0, none⟩) (K.length + 1) vc) (K.length + 1) (avc (K.take i ++ c :: K.drop i)) ∧ Chg (fun k => some k = (Value.slice (some ⟨g, 0, none⟩) K.length vc).ownBlock) w (W.setCells g (i * 2) (avc [c])) := by
    intro W q1 q2 q3 q4
    have ho : W.ownsRow B 86 2 (.slice (some ⟨g, 0, none⟩) (K.length + 1) vc) (K.length + 1) (setL (avc K ++ ys) ((i + 1) * 2) ((avc K).drop (i * 2))) := ownsRow_heap ho1 q1
    obtain ⟨r1, r2⟩ := own_setMany (avc [c]) W (i * 2) _ ho
    have hcW : Chg (fun k => k = g) w W := ⟨q2.trans hc1.os, q3.trans hc1.tape, q4.trans hc1.output, by rw [q1]; exact hc1.size, fun k hk hn => by rw [q1]; exact hc1.block k hk hn⟩
    refine ⟨?_, (hcW.trans r2 (fun _ _ h => h)).mono (fun k _ hk => by rw [hk]; rfl)⟩
    have hti : (avc (K.take i)).length = i * 2 := by rw [avc_len, List.length_take]; omega
    have e1 : avc K = avc (K.take i) ++ avc (K.drop i) := by rw [← avc_app, List.take_append_drop]
    have hdi : (avc (K.drop i)).length = (K.length - i) * 2 := by rw [avc_len, List.length_drop]; omega
    obtain ⟨K0, hK0⟩ : ∃ x, K.drop i = x := ⟨_, rfl⟩
    have e3 : setL (setL (avc K ++ ys) ((i + 1) * 2) ((avc K).drop (i * 2))) (i * 2) (avc [c]) = avc (K.take i ++ c :: K.drop i) := by
      have ed : (avc K).drop (i * 2) = avc (K.drop i) := by rw [e1]; exact List.drop_left' hti
      have f1 : ∃ x y, avc (K.drop i) ++ ys = x ++ y ∧ x.length = 2 ∧ y.length = (K.length - i) * 2 := by
        refine ⟨(avc (K.drop i) ++ ys).take 2, (avc (K.drop i) ++ ys).drop 2, (List.take_append_drop _ _).symm, ?_, ?_⟩
        · rw [List.length_take, List.length_append, hdi, hy]; omega
        · rw [List.length_drop, List.length_append, hdi, hy]; omega
      obtain ⟨x, y, f2, f3, f4⟩ := f1
      rw [ed]
      have g1 : avc K ++ ys = (avc (K.take i) ++ x) ++ y ++ [] := by rw [e1, List.append_assoc, f2]; simp
      have g2 : (i + 1) * 2 = (avc (K.take i) ++ x).length := by rw [List.length_append, hti, f3]; omega
      rw [g1, g2, setL_app _ _ _ _ (by rw [f4, hdi])]
      have g3 : avc (K.take i) ++ x ++ avc (K.drop i) ++ [] = avc (K.take i) ++ x ++ avc (K.drop i) := by simp
      rw [g3, ← hti, setL_app _ _ _ _ (by rw [f3]; rfl)]
      rw [avc_app, avc_cons]
      simp [avc]
    rw [e3] at r1
    exact r1
  have HF := Lib.hid hfin
  have HOV := hov
  obtain ⟨n, hn⟩ : ∃ n, K.length = n := ⟨_, rfl⟩
  have HL := Lib.hid hn
  rw [hn] at hcp1 hcp2 hl hi hroom HF ⊢
  have hz2 : ¬ ((i : Int) = (n : Int)) := by omega
  have hin : i ≤ n := by omega
  have hb3 : (i : Int) ≤ (n : Int) + 1 := by omega
  have hcm' : vc ≤ 9223372036854775807 := by unfold maxLen at hcm; omega
  have hb2 : ¬ (vc = i + 1) := by omega
  have hb4 : ¬ (vc = i) := by omega
  have mixed : Tryz.prog.follows Departure.mixedOrders = true := by kernel_rfl
  have hw1 : IntKind.i64.wrap ((i : Int) + 1) = (i : Int) + 1 := by rw [IntKind.wrap_i64]; omega
  have hb1 : (0 : Int) ≤ (i : Int) + 1 := by omega
  have htn : ((i : Int) + 1).toNat = i + 1 := by omega
  have hb5 : (i : Int) + 1 ≤ (n : Int) + 1 := by omega
  have hln : (K.take i ++ c :: K.drop i).length = n + 1 := by rw [List.length_append, List.length_take, List.length_cons, List.length_drop, hn]; omega
  have HLN := Lib.hid hln
  clear hr hr2 hrd ho1 hc1 hvb hvb1 hcell hfz hcs hcur hy hK2 hcl hfin hn hov hln hlen1 hnc
  go_enter Tryz.func67, Tryz.ntmps67
  go_wp2_with (simp only [HOV])
  go_region_law_o (refine step_copy_runI rfl _ _ 83 83 rfl _ _ (by simp [Act.eval, Act.put]) (by simp [Act.eval, Act.put]) (hcp1 _ _ _) ?_)
  go_wp2_with (at_builtin; refine wpList_copy_runI _ rfl _ _ 83 83 rfl _ _ rfl rfl (hcp2 _ rfl _ _) ?_)
  go_ret
  have h := HF.out W1 rfl rfl rfl rfl
  rw [hW1] at h
  exact ⟨_, rfl, by rw [HLN.out]; exact h.1, h.2, .inl rfl⟩
set_option maxHeartbeats 6400000 in
set_option maxRecDepth 100000 in
theorem dtins_grow (K : List Av) (c : Av) (i g vc : Nat) (B vb : Nat) (w : World) (hr : w.ownsRow B 86 2 (.slice (some ⟨g, 0, none⟩) K.length vc) K.length (avc K)) (hl : K.length ≤ 1000000) (hB : B ≤ w.heap.size) (hi : i < K.length) (hroom : vc < K.length + 1) (hvb : w.heap[vb]? = some (.cells (avc [c]).toArray 86 (0, 0))) :
    Calls Tryz.prog 67 #[.slice (some ⟨g, 0, none⟩) K.length vc, .int .i64 (i : Nat), .slice (some ⟨vb, 0, none⟩) 1 1] w (InsPost (K.take i ++ c :: K.drop i) B (.slice (some ⟨g, 0, none⟩) K.length vc) w) := by
  obtain ⟨hnc, hcm⟩ := own_cap hr
  have hgl : g < w.heap.size := (hr.lt g rfl).2
  have hvl : vb < w.heap.size := obj_lt hvb
  have hK2 : (avc K).length = 2 * K.length := avc_len K
  have hcl : ((avc K).drop (i * 2)).length = (K.length - i) * 2 := by rw [List.length_drop, hK2]; omega
  have hti : (avc (K.take i)).length = i * 2 := by rw [avc_len, List.length_take]; omega
  obtain ⟨i0, hi0, hz0, hzs, hzb⟩ := info_parts Tryz.dtinfo
  have hold : (Builtin.firstCells i0.size i (.slice (some ⟨g, 0, none⟩) i vc)).run Tryz.prog w.drew = .ok (avc (K.take i)).toArray w.drew := by
    rw [hzs]
    exact run_firstCells_some w.drew 2 i ⟨g, 0, none⟩ i vc (avc (K.take i)) hti (fun j v hj => by
      rw [Addr.add_lit, Nat.zero_add]
      have hj2 : j < i * 2 := by have := (List.getElem?_eq_some_iff.1 hj).1; omega
      rw [← avc_take, List.getElem?_take, if_pos hj2] at hj
      exact (hr.cellAt j (by omega)).trans hj)
  have hik : i + (K.length + 1 - i) = K.length + 1 := by omega
  have hkk : (K.length : Int) + 1 - (i : Int) = ((K.length + 1 - i : Nat) : Int) := by omega
  have hrz : ∀ ty, (Builtin.append_ #[83, 3] ty #[.slice (some ⟨g, 0, none⟩) i vc, .int .i64 ((K.length : Int) + 1 - (i : Int))]).run Tryz.prog w =
      .ok (.slice (some ⟨w.heap.size, 0, none⟩) (K.length + 1) (grownCap w (K.length + 1) vc 86)) (w.drew.alloc (.cells ((avc (K.take i)).toArray ++ Builtin.zeroCells (Value.agg #[.string ByteArray.empty, .string ByteArray.empty]).cells (K.length + 1 - i) ++ Builtin.zeroCells (Value.agg #[.string ByteArray.empty, .string ByteArray.empty]).cells (grownCap w (K.length + 1) vc 86 - (K.length + 1))) 86)) := fun ty => by
    have h := Lib.run_append_grow_zeros w 83 3 ty 86 i0 _ .i64 .i64 Tryz.underlying83 Tryz.underlying3 hi0 hz0 (some ⟨g, 0, none⟩) i vc (avc (K.take i)) hold (K.length + 1 - i) (by omega) (by omega) (by omega) (by omega) (by rw [hzb]; omega) (by rw [hzb, hik]; exact growslice_fits hroom (by omega))
    rw [hik] at h
    rw [hkk]
    exact h
  obtain ⟨G, hG⟩ : ∃ G, grownCap w (K.length + 1) vc 86 = G := ⟨_, rfl⟩
  have hGn : K.length + 1 ≤ G := by rw [← hG]; exact grownCap_ge w _ _ _
  have hG63 : G ≤ maxLen := by rw [← hG]; exact grownCap_le_maxLen w _ _ _ (by unfold maxLen; omega)
  rw [hG] at hrz
  obtain ⟨W1, hW1⟩ : ∃ W1, w.drew.alloc (.cells ((avc (K.take i)).toArray ++ Builtin.zeroCells (Value.agg #[.string ByteArray.empty, .string ByteArray.empty]).cells (K.length + 1 - i) ++ Builtin.zeroCells (Value.agg #[.string ByteArray.empty, .string ByteArray.empty]).cells (G - (K.length + 1))) 86) = W1 := ⟨_, rfl⟩
  rw [hW1] at hrz
  have hb1 : Below w.heap.size w W1 := by rw [← hW1]; exact ((Below.refl _ w).drew).alloc (Nat.le_refl _) _
  have hW1h : W1.heap[w.heap.size]? = some (.cells ((avc (K.take i)).toArray ++ Builtin.zeroCells (Value.agg #[.string ByteArray.empty, .string ByteArray.empty]).cells (K.length + 1 - i) ++ Builtin.zeroCells (Value.agg #[.string ByteArray.empty, .string ByteArray.empty]).cells (G - (K.length + 1))) 86 (0, 0)) := by rw [← hW1]; exact heap_alloc_new w.drew _
  have hown : W1.ownsRow B 86 2 (.slice (some ⟨w.heap.size, 0, none⟩) (K.length + 1) G) (K.length + 1) (avc (K.take i) ++ zeroCh (K.length + 1 - i)) := by
    refine ⟨by rw [List.length_append, hti, zeroCh_len]; omega, .inr ⟨w.heap.size, G, _, rfl, hB, hW1h, hGn, hG63, ?_, ?_⟩⟩
    · simp only [Array.size_append, List.size_toArray, hti, size_zeroCells]
      have hz2 : (Value.agg #[.string ByteArray.empty, .string ByteArray.empty]).cells.size = 2 := rfl
      rw [hz2]; omega
    · rw [Array.toList_append, Array.toList_append]
      have e : (avc (K.take i) ++ (Builtin.zeroCells (Value.agg #[.string ByteArray.empty, .string ByteArray.empty]).cells (K.length + 1 - i)).toList).length = (K.length + 1) * 2 := by
        have := zeroCh_len (K.length + 1 - i)
        unfold zeroCh at this
        rw [List.length_append, hti, this]; omega
      rw [← e]
      exact List.take_left
  have hlenW := hown.1
  have hcell1 : ∀ j, j < (K.length + 1) * 2 → (W1.cell? ⟨w.heap.size, j, none⟩).isSome = true := fun j hj => by
    rw [hown.cellAt _ (by omega), List.getElem?_eq_getElem (by omega)]; rfl
  have hvb1 : W1.heap[vb]? = some (.cells (avc [c]).toArray 86 (0, 0)) := obj_below hvb hb1 hvl
  have hcpA : ∀ (W : World), W.heap = W1.heap → ∀ ty dc, (Builtin.copy_ #[83, 83] ty #[.slice (some ⟨w.heap.size, i * 2, none⟩) (K.length + 1 - i) dc, .slice (some ⟨vb, 0, none⟩) 1 1]).run Tryz.prog W = .ok (goInt 1) (W.setCells w.heap.size (i * 2) (avc [c])) := fun W hW ty dc =>
    run_copy_k 2 W _ _ ty 86 w.heap.size (i * 2) (K.length + 1 - i) dc ⟨vb, 0, none⟩ 1 1 1 (avc [c]) Tryz.underlying83 dtsize (by simp only [Nat.min_def]; split <;> omega) rfl
      (fun j v hj => by
        rw [Addr.add_lit, Nat.zero_add, cell_of_row W vb j _ _ _ (by rw [hW]; exact hvb1)]
        simpa using hj)
      (fun j hj => by
        have hj2 : j < 2 := hj
        have h := ownsRow_heap hown hW
        rw [h.cellAt _ (by omega), List.getElem?_eq_getElem (by omega)]; rfl)
      (fun j hj => (ownsRow_heap hown hW).frozenAt _) (avc_one _)
  obtain ⟨W2, hW2⟩ : ∃ W2, W1.setCells w.heap.size (i * 2) (avc [c]) = W2 := ⟨_, rfl⟩
  obtain ⟨ho2, hc2⟩ := own_setMany (avc [c]) W1 (i * 2) _ hown
  rw [hW2] at ho2 hc2
  have hlen2 := ho2.1
  have hcg : Chg (fun k => k = w.heap.size) w W2 := (Chg.ofBelow (S := fun k => k = w.heap.size) hb1).trans hc2 (fun _ _ h => h)
  have hr2 : W2.ownsRow B 86 2 (.slice (some ⟨g, 0, none⟩) K.length vc) K.length (avc K) := ownsRow_chg hr hcg (fun k hk e => by
    have hk : g = k := by simpa [Value.ownBlock] using hk
    have e : k = w.heap.size := e
    omega)
  have hcpB : ∀ (W : World), W.heap = W2.heap → ∀ ty dc sc, (Builtin.copy_ #[83, 83] ty #[.slice (some ⟨w.heap.size, (i + 1) * 2, none⟩) (K.length - i) dc, .slice (some ⟨g, i * 2, none⟩) (K.length - i) sc]).run Tryz.prog W = .ok (goInt ((K.length - i : Nat) : Int)) (W.setCells w.heap.size ((i + 1) * 2) ((avc K).drop (i * 2))) := fun W hW ty dc sc =>
    run_copy_k 2 W _ _ ty 86 w.heap.size ((i + 1) * 2) (K.length - i) dc ⟨g, i * 2, none⟩ (K.length - i) sc (K.length - i) ((avc K).drop (i * 2)) Tryz.underlying83 dtsize (by simp only [Nat.min_def]; split <;> omega) hcl
      (fun j v hj => by
        rw [List.getElem?_drop] at hj
        rw [Addr.add_lit]
        have hlt : i * 2 + j < (avc K).length := (List.getElem?_eq_some_iff.1 hj).1
        exact (((ownsRow_heap hr2 hW).cellAt (i * 2 + j) (by omega)).trans hj))
      (fun j hj => by
        have h := ownsRow_heap ho2 hW
        rw [h.cellAt _ (by omega), List.getElem?_eq_getElem (by omega)]; rfl)
      (fun j hj => (ownsRow_heap ho2 hW).frozenAt _) (fun v hv => avc_one _ v (List.mem_of_mem_drop hv))
  have hfin : ∀ (W : World), W.heap = W2.heap → W.os = W2.os → W.tape = W2.tape → W.output = W2.output → (W.setCells w.heap.size ((i + 1) * 2) ((avc K).drop (i * 2))).ownsRow B 86 2 (.slice (some ⟨w.heap.size, 0, none⟩) (K.length + 1) G) (K.length + 1) (avc (K.take i ++ c :: K.drop i)) ∧ Chg (fun k => some k = (Value.slice (some ⟨g, 0, none⟩) K.length vc).ownBlock) w (W.setCells w.heap.size ((i + 1) * 2) ((avc K).drop (i * 2))) := by
    intro W q1 q2 q3 q4
    obtain ⟨r1, r2⟩ := own_setMany ((avc K).drop (i * 2)) W ((i + 1) * 2) _ (ownsRow_heap ho2 q1)
    have hcW : Chg (fun k => k = w.heap.size) w W := ⟨q2.trans hcg.os, q3.trans hcg.tape, q4.trans hcg.output, by rw [q1]; exact hcg.size, fun k hk hn => by rw [q1]; exact hcg.block k hk hn⟩
    refine ⟨?_, (hcW.trans r2 (fun _ _ h => h)).mono (fun k hk e => by have e : k = w.heap.size := e; omega)⟩
    have hcd : (avc K).drop (i * 2) = avc (K.drop i) := avc_drop K i
    have hdi : (avc (K.drop i)).length = (K.length - i) * 2 := by rw [avc_len, List.length_drop]; omega
    have e3 : setL (setL (avc (K.take i) ++ zeroCh (K.length + 1 - i)) (i * 2) (avc [c])) ((i + 1) * 2) ((avc K).drop (i * 2)) = avc (K.take i ++ c :: K.drop i) := by
      obtain ⟨x, y, f2, f3, f4⟩ : ∃ x y, zeroCh (K.length + 1 - i) = x ++ y ∧ x.length = 2 ∧ y.length = (K.length - i) * 2 := by
        refine ⟨(zeroCh (K.length + 1 - i)).take 2, (zeroCh (K.length + 1 - i)).drop 2, (List.take_append_drop _ _).symm, ?_, ?_⟩
        · rw [List.length_take, zeroCh_len]; omega
        · rw [List.length_drop, zeroCh_len]; omega
      rw [hcd, f2, ← List.append_assoc, ← hti, setL_app _ _ _ _ (by rw [f3]; rfl)]
      have g2 : (i + 1) * 2 = (avc (K.take i) ++ avc [c]).length := by rw [List.length_append, hti, avc_len]; simp; omega
      have g1 : avc (K.take i) ++ avc [c] ++ y = avc (K.take i) ++ avc [c] ++ y ++ [] := by simp
      rw [g1, g2, setL_app _ _ _ _ (by rw [f4, hdi])]
      rw [avc_app, avc_cons]
      simp [avc]
    rw [e3] at r1
    exact r1
  have HF := Lib.hid hfin
  obtain ⟨n, hn⟩ : ∃ n, K.length = n := ⟨_, rfl⟩
  rw [hn] at hcpA hcpB hrz hl hi hroom hGn HF ⊢
  have hz2 : ¬ ((i : Int) = (n : Int)) := by omega
  have hz3 : (vc : Int) < (n : Int) + 1 := by omega
  have hin : i ≤ n := by omega
  have hic : (i : Int) ≤ (vc : Int) := by omega
  have hG' : G ≤ 9223372036854775807 := by unfold maxLen at hG63; omega
  have hGi : ¬ (G = i) := by omega
  have hGim : ¬ (G = i + 1) := by omega
  have hci : ¬ (vc = i) := by omega
  have hb3 : (i : Int) ≤ (n : Int) := by omega
  have hb3' : (i : Int) ≤ (n : Int) + 1 := by omega
  have mixed : Tryz.prog.follows Departure.mixedOrders = true := by kernel_rfl
  have hw1 : IntKind.i64.wrap ((i : Int) + 1) = (i : Int) + 1 := by rw [IntKind.wrap_i64]; omega
  have hb1' : (0 : Int) ≤ (i : Int) + 1 := by omega
  have htn : ((i : Int) + 1).toNat = i + 1 := by omega
  have hb5 : (i : Int) + 1 ≤ (n : Int) + 1 := by omega
  have hln : (K.take i ++ c :: K.drop i).length = n + 1 := by rw [List.length_append, List.length_take, List.length_cons, List.length_drop, hn]; omega
  have HLN := Lib.hid hln
  have HW := Lib.hid (And.intro hW1 hW2)
  have HD1 : W1.drew.heap = W1.heap := rfl
  clear hr hr2 hown ho2 hc2 hcg hvb hvb1 hcell1 hcl hK2 hti hold hik hkk hb1 hW1h hfin hn hln hlen2 hlenW hi0 hz0 hzs hzb hG hG63 hcm hnc hW1 hW2
  go_enter Tryz.func67, Tryz.ntmps67
  go_wp2_with (first
    | (at_builtin; refine Lib.wpList_append_run _ rfl _ _ _ _ rfl _ _ rfl rfl _ _ (hrz _) ?_)
    | (at_builtin; refine wpList_copy_runI _ rfl _ _ 83 83 rfl _ _ rfl rfl (hcpA W1 rfl _ _) ?_))
  rw [HW.out.2]
  have hcpC := hcpB W2.drew rfl
  go_region_law_o (refine step_copy_runI rfl _ _ 83 83 rfl _ _ (by simp [Act.eval, Act.put]) (by simp [Act.eval, Act.put]) (hcpC _ _ _) ?_)
  go_wp2
  go_ret
  have h := HF.out W2.drew rfl rfl rfl rfl
  exact ⟨_, rfl, by rw [HLN.out]; exact h.1, h.2, .inr ⟨w.heap.size, rfl, Nat.le_refl _⟩⟩
theorem dtins_any (K : List Av) (c : Av) (i : Nat) (v : Value) (B vb : Nat) (w : World) (hr : w.ownsRow B 86 2 v K.length (avc K)) (hl : K.length ≤ 1000000) (hB : B ≤ w.heap.size) (hi : i ≤ K.length) (hvb : w.heap[vb]? = some (.cells (avc [c]).toArray 86 (0, 0))) (hne : v.ownBlock ≠ some vb) :
    Calls Tryz.prog 67 #[v, .int .i64 (i : Nat), .slice (some ⟨vb, 0, none⟩) 1 1] w (InsPost (K.take i ++ c :: K.drop i) B v w) := by
  by_cases he : i = K.length
  · subst he
    rw [List.take_length, List.drop_length]
    exact dtins_end K c v B vb w hr hl hB hvb
  · rcases hr.2 with ⟨rfl, h0⟩ | ⟨g, cap, cur, rfl, _⟩
    · omega
    · by_cases hroom : K.length + 1 ≤ cap
      · exact dtins_room K c i g cap B vb w hr hl (by omega) hroom hvb (fun e => hne (by rw [e]; rfl))
      · exact dtins_grow K c i g cap B vb w hr hl hB (by omega) (by omega) hvb
end Go.Proofs.YtbmnpjkcomcboaaGreatDoor
namespace Go.Proofs.YtbmnpjkcomcboaaGreatDoor
set_option linter.unusedSimpArgs false
set_option linter.unusedVariables false
open Go Go.RowKit Go.Proofs.BerK Go.Proofs.MemK Go.Proofs.UtfK Go.Maps Go.WideMaps

set_option maxHeartbeats 1600000 in
theorem unh1_any (t m s : List UInt8) (bx : Nat) (W : World) (hc : W.cell? ⟨bx, 0, none⟩ = some (.string ⟨s.toArray⟩)) (hb : bx < W.heap.size) :
    Calls Tryz.prog 69 #[.agg #[.string ⟨t.toArray⟩, .string ⟨m.toArray⟩], .pointer (some ⟨bx, 0, none⟩)] W (BB (m == s) W) := by
  have hne : bx ≠ W.heap.size := by omega
  have c1 : ∀ ob, (W.alloc ob).cell? ⟨bx, 0, none⟩ = some (.string ⟨s.toArray⟩) := fun ob => (((Below.refl W.heap.size W).alloc (Nat.le_refl _) ob).cell (p := ⟨bx, 0, none⟩) hb).trans hc
  have HB := Lib.hid (beq_str m s)
  clear hc
  go_enter Tryz.func69, Tryz.ntmps69
  go_wp2
  go_ret
  exact bB_mk rfl ((Below.refl _ _).alloc (Nat.le_refl _) _)
def upK (KF : List UInt8 → List Av) (p : List UInt8) (K : List Av) : List UInt8 → List Av := fun q => if q = p then K else KF q
def KdG (w : World) (g bb : Nat) : Prop := ∃ sv eb, w.heap[g]? = some (.cells #[sv, .map (some eb), .map (some bb)] 69 (0, 0))
def HangPost (B bb : Nat) (F : List UInt8 → Value) (KF : List UInt8 → List Av) (p l s : List UInt8) (w : World) (en : Ending) (w' : World) : Prop :=
  en = .returned (.tuple #[]) ∧ ∃ F' nb' i, i ≤ (KF p).length ∧ BinLo (KF p) l i ∧ BinHi (KF p) l i ∧ MvAt w' bb (kidF (upK KF p ((KF p).take i ++ (l, s) :: (KF p).drop i)) F') nb' ∧ KidIs w' B F' (upK KF p ((KF p).take i ++ (l, s) :: (KF p).drop i)) ∧
    Chg (fun k => k = bb ∨ some k = (F p).ownBlock) w w' ∧ ∀ q k, (F' q).ownBlock = some k → (F q).ownBlock = some k ∨ w.heap.size ≤ k
theorem kid_turn {w w' : World} {B bb : Nat} {F : List UInt8 → Value} {KF : List UInt8 → List Av} {p : List UInt8} {K : List Av} {v : Value} (h : KidIs w B F KF) (hbb : ∃ es c, w.heap[bb]? = some (.map es c)) (hc : Chg (fun k => k = bb ∨ some k = (F p).ownBlock) w w')
    (hv : w'.ownsRow B 86 2 v K.length (avc K)) (h0 : K = [] → v = .slice none 0 0) (hb : ∀ k, v.ownBlock = some k → (F p).ownBlock = some k ∨ w.heap.size ≤ k) :
    KidIs w' B (fun q => if q = p then v else F q) (upK KF p K) ∧ ∀ q k, ((fun q => if q = p then v else F q) q).ownBlock = some k → (F q).ownBlock = some k ∨ w.heap.size ≤ k := by
  have hap : ∀ q, q ≠ p → Apart v (F q) := fun q hq k h1 h2 => by
    rcases hb k h1 with h3 | h3
    · exact ((h p).2.2 q (Ne.symm hq)) k h3 h2
    · have := ((h q).2.1.lt k h2).2
      omega
  refine ⟨fun q => ?_, fun q k hk => ?_⟩
  · unfold upK
    by_cases hq : q = p
    · simp only [if_pos hq]
      refine ⟨h0, hv, fun q' hq' => ?_⟩
      have : q' ≠ p := fun e => hq' (by rw [hq, e])
      simp only [if_neg this]
      exact hap q' this
    · simp only [if_neg hq]
      obtain ⟨h1, h2, h3⟩ := h q
      refine ⟨h1, ownsRow_chg h2 hc (fun k hk => ?_), fun q' hq' => ?_⟩
      · rintro (e | e)
        · subst e
          obtain ⟨es, c, hm⟩ := hbb
          rcases h2.2 with ⟨e, _⟩ | ⟨g', cap, cur, e, _, hg', _⟩
          · rw [e] at hk; simp [Value.ownBlock] at hk
          · rw [e] at hk
            simp [Value.ownBlock] at hk
            subst hk
            rw [hm] at hg'; cases hg'
        · exact h3 p hq k hk e.symm
      · by_cases hp : q' = p
        · simp only [if_pos hp]
          exact (hap q hq).symm
        · simp only [if_neg hp]
          exact h3 q' hq'
  · by_cases hq : q = p
    · simp only [if_pos hq] at hk
      rw [hq]; exact hb k hk
    · simp only [if_neg hq] at hk
      exact .inl hk
theorem kidF_up (KF : List UInt8 → List Av) (F : List UInt8 → Value) (p : List UInt8) (K : List Av) (v : Value) : kidF (upK KF p K) (fun q => if q = p then v else F q) = upF (kidF KF F) p (if K = [] then none else some v) := by
  funext q
  unfold kidF upK upF
  by_cases hq : q = p
  · simp only [if_pos hq]
  · simp only [if_neg hq]
set_option maxHeartbeats 6400000 in
set_option maxRecDepth 100000 in
theorem dthang_any (B g bb nb : Nat) (F : List UInt8 → Value) (KF : List UInt8 → List Av) (s p l : List UInt8) (w : World) (hg : KdG w g bb) (hm : MvAt w bb (kidF KF F) nb) (hk : KidIs w B F KF) (hB : B ≤ w.heap.size) (hnb : nb ≤ 1000000) (hle : leafL s = (l, true)) (hup : (KF p).Pairwise (fun a b => ltB a.1 b.1 = true)) (hlen : (KF p).length ≤ 1000000) (hp : p.length ≤ 140737488355328) (he : ErrOk w) :
    Calls Tryz.prog 45 #[.pointer (some ⟨g, 0, none⟩), .string ⟨s.toArray⟩, .string ⟨p.toArray⟩] w (HangPost B bb F KF p l s w) := by
  obtain ⟨sv, eb, hg⟩ := hg
  have zg := obj_lt hg
  have zbb := mvAt_lt hm
  have HLf := Lib.hid (show Calls Tryz.prog 63 #[.string ⟨s.toArray⟩] w (SbPost (l, true) w) from hle ▸ leaf_any s w he)
  have HK := Lib.hid hk
  have HM := Lib.hid hm
  obtain ⟨K, hK⟩ : ∃ K, KF p = K := ⟨_, rfl⟩
  have hrow := (hk p).2.1
  have hF0 := (hk p).1
  rw [hK] at hrow hup hlen hF0
  obtain ⟨va, vc, hv⟩ := ownsRow_slice hrow
  obtain ⟨n, hn⟩ : ∃ n, K.length = n := ⟨_, rfl⟩
  have hlook : ∀ w', Below w.heap.size w w' → (Instr.lookup 67 (.map (some bb)) (.string ⟨p.toArray⟩) false).run Tryz.prog w' = .ok (.slice va n vc) w' := fun w' hb => by
    have hm' := mvAt_block hm (hb.block bb zbb)
    rw [mv_look1 hm' Tryz.underlying67 (dtzK w') p hp]
    unfold kidF
    rw [hK]
    by_cases h0 : K = []
    · have e := hF0 h0
      rw [hv] at e
      rw [if_pos h0, Option.getD_none, ← e, hn]
    · rw [if_neg h0, Option.getD_some, hv, hn]
  have HLk := Lib.hid hlook
  have HBin := Lib.hid (fun w' (hb : Below w.heap.size w w') => dtbin_any K l (.slice va K.length vc) B w' (ownsRow_below (hv ▸ hrow) hb) hup hlen)
  have HI := Lib.hid (fun w' (hb : Below w.heap.size w w') vb (hvb : w'.heap[vb]? = some (.cells (avc [(l, s)]).toArray 86 (0, 0))) (hge : w.heap.size ≤ vb) i (hi : i ≤ K.length) =>
    dtins_any K (l, s) i (.slice va K.length vc) B vb w' (ownsRow_below (hv ▸ hrow) hb) hlen (Nat.le_trans hB hb.size) hi hvb (fun e => by
      have := ((hv ▸ hrow : w.ownsRow B 86 2 (.slice va K.length vc) K.length (avc K)).lt vb e).2
      omega))
  have HX := Lib.hid (show ∀ k, (Value.slice va n vc).ownBlock = some k → k ≠ g ∧ k ≠ bb from fun k hkk0 => by
    have hkk : (F p).ownBlock = some k := by rw [hv, hn]; exact hkk0
    rcases hrow.2 with ⟨e, _⟩ | ⟨g', cap, cur, e, _, hg', _⟩
    · rw [e] at hkk; simp [Value.ownBlock] at hkk
    · rw [e] at hkk
      simp [Value.ownBlock] at hkk
      subst hkk
      refine ⟨fun e2 => ?_, fun e2 => ?_⟩
      · rw [e2, hg] at hg'
        injection hg' with hg'
        injection hg' with _ h5 _
        exact absurd h5 (by decide)
      · obtain ⟨es, c, hq⟩ := mvAt_map hm
        rw [e2, hq] at hg'; cases hg')
  have HN := Lib.hid hn
  have HGo := Lib.hid hg
  have HV := Lib.hid (And.intro hv hK)
  rw [hn] at HBin HI
  clear hk hm hrow hF0 hup hlook hv he hle hg hn hlen hK
  go_enter Tryz.func45, Tryz.ntmps45
  go_wp2_with fail
  refine HLf.out.mono ?_
  rintro e w2 ⟨rfl, hb2⟩
  have hlk2 := HLk.out w2 hb2
  have k2 := (obj3 (obj_below HGo.out hb2 zg)).2.2
  have HB2 := Lib.hid hb2
  clear hb2
  go_wp2_with fail
  refine (HBin.out w2 HB2.out).mono ?_
  rintro e w4 ⟨i, b, rfl, hi, hlo, hhi, hb4⟩
  have H4 := Lib.hid (And.intro (And.intro hlo hhi) (HB2.out.trans (hb4.mono HB2.out.size)))
  have k2 := (obj3 (obj_below HGo.out H4.out.2 zg)).2.2
  have HIi := Lib.hid (fun w' hb vb hvb hge => HI.out w' hb vb hvb hge i (by rw [← HN.out]; exact hi))
  clear hb4 hlo hhi hlk2
  go_wp2
  have m2 : ∀ ob, (w4.drew.alloc ob).cell? ⟨g, 2, none⟩ = some (.map (some bb)) := fun ob => (((Below.refl w4.heap.size w4).drew.alloc (Nat.le_refl _) ob).cell (p := ⟨g, 2, none⟩) (Nat.lt_of_lt_of_le zg H4.out.2.size)).trans k2
  refine wp_region_noPanic ?_
  refine wp_region_held_drew (S := fun w' => w'.cell? ⟨g, 2, none⟩ = some (.map (some bb))) (by kernel_rfl) ?_ (fun hHeld => ?_)
  · exact k2
  refine wpAnyH_take (i := 0) (v := ?vh0) rfl (by kernel_rfl) (by kernel_rfl) (by kernel_rfl) (fun _ _ _ h => h) (Or.inl ⟨by rfl, ?yh0⟩) (by assumption) ?rh0
  case yh0 => (intro w' hSw; (try dsimp only at hSw); go_simp; with_reducible rfl)
  try simp only [List.getElem_toArray, List.getElem_cons_zero, List.getElem_cons_succ, Act.put, List.setIfInBounds_toArray, List.set_cons_zero, List.set_cons_succ]
  refine wpAnyH_take (i := 1) (v := ?vh1) rfl (by kernel_rfl) (by kernel_rfl) (by kernel_rfl) (fun _ _ _ h => h) (Or.inl ⟨by rfl, ?yh1⟩) (by assumption) ?rh1
  case yh1 => (intro w' hSw; (try dsimp only at hSw); go_simp; with_reducible rfl)
  try simp only [List.getElem_toArray, List.getElem_cons_zero, List.getElem_cons_succ, Act.put, List.setIfInBounds_toArray, List.set_cons_zero, List.set_cons_succ]
  refine wpAnyH_take (i := 2) (v := ?vh2) rfl (by kernel_rfl) (by kernel_rfl) (by kernel_rfl) (fun _ _ _ h => h) (Or.inl ⟨by rfl, ?yh2⟩) (by assumption) ?rh2
  case yh2 => (intro w' hSw; (try dsimp only at hSw); go_simp; with_reducible rfl)
  try simp only [List.getElem_toArray, List.getElem_cons_zero, List.getElem_cons_succ, Act.put, List.setIfInBounds_toArray, List.set_cons_zero, List.set_cons_succ]
  refine wpAnyH_take (i := 3) (v := ?vh3) rfl (by kernel_rfl) (by kernel_rfl) (by kernel_rfl) (fun _ _ _ h => h) (Or.inl ⟨by rfl, ?yh3⟩) (by assumption) ?rh3
  case yh3 => (intro w' hSw; (try dsimp only at hSw); go_simp; with_reducible rfl)
  try simp only [List.getElem_toArray, List.getElem_cons_zero, List.getElem_cons_succ, Act.put, List.setIfInBounds_toArray, List.set_cons_zero, List.set_cons_succ]
  refine wpAnyH_take (i := 4) (v := ?vh4) rfl (by kernel_rfl) (by kernel_rfl) (by kernel_rfl) (fun _ _ _ h => h) (Or.inl ⟨by rfl, ?yh4⟩) (by assumption) ?rh4
  case yh4 => (intro w' hSw; (try dsimp only at hSw); go_simp; with_reducible rfl)
  try simp only [List.getElem_toArray, List.getElem_cons_zero, List.getElem_cons_succ, Act.put, List.setIfInBounds_toArray, List.set_cons_zero, List.set_cons_succ]
  refine wpAnyH_take (i := 5) (v := ?vh5) rfl (by kernel_rfl) (by kernel_rfl) (by kernel_rfl) (fun _ _ _ h => h) (Or.inl ⟨by rfl, ?yh5⟩) (by assumption) ?rh5
  case yh5 => (intro w' hSw; (try dsimp only at hSw); go_simp; with_reducible rfl)
  try simp only [List.getElem_toArray, List.getElem_cons_zero, List.getElem_cons_succ, Act.put, List.setIfInBounds_toArray, List.set_cons_zero, List.set_cons_succ]
  refine wpAnyH_take (i := 6) (v := ?vh6) rfl (by kernel_rfl) (by kernel_rfl) (by kernel_rfl) (fun _ _ _ h => h) (Or.inl ⟨by rfl, ?yh6⟩) (by assumption) ?rh6
  case yh6 => (intro w' hSw; (try dsimp only at hSw); go_simp; with_reducible rfl)
  try simp only [List.getElem_toArray, List.getElem_cons_zero, List.getElem_cons_succ, Act.put, List.setIfInBounds_toArray, List.set_cons_zero, List.set_cons_succ]
  refine wpAnyH_take (i := 7) (v := ?vh7) rfl (by kernel_rfl) (by kernel_rfl) (by kernel_rfl) (fun _ _ _ h => h) (Or.inl ⟨by rfl, ?yh7⟩) (by assumption) ?rh7
  case yh7 => (intro w' hSw; (try dsimp only at hSw); go_simp; with_reducible rfl)
  try simp only [List.getElem_toArray, List.getElem_cons_zero, List.getElem_cons_succ, Act.put, List.setIfInBounds_toArray, List.set_cons_zero, List.set_cons_succ]
  refine wpAnyH_take (i := 8) (v := ?vh8) rfl (by kernel_rfl) (by kernel_rfl) (by kernel_rfl) (fun _ _ _ h => h) (Or.inl ⟨by rfl, ?yh8⟩) (by assumption) ?rh8
  case yh8 => (intro w' hSw; (try dsimp only at hSw); go_simp; with_reducible rfl)
  try simp only [List.getElem_toArray, List.getElem_cons_zero, List.getElem_cons_succ, Act.put, List.setIfInBounds_toArray, List.set_cons_zero, List.set_cons_succ]
  refine wpAnyH_take (i := 9) (v := ?vh9) rfl (by kernel_rfl) (by kernel_rfl) (by kernel_rfl) (fun _ _ _ h => h) (Or.inl ⟨by rfl, ?yh9⟩) (by assumption) ?rh9
  case yh9 => (intro w' hSw; (try dsimp only at hSw); go_simp; with_reducible rfl)
  try simp only [List.getElem_toArray, List.getElem_cons_zero, List.getElem_cons_succ, Act.put, List.setIfInBounds_toArray, List.set_cons_zero, List.set_cons_succ]
  refine wpAnyH_ready (rs := [10]) (by kernel_rfl) (by simp) ?_
  refine AllReadyH.cons (o := _) rfl (fun KR hKR => ?ch10) ?nh10
  case nh10 => exact AllReadyH.nil
  go_simp
  refine hKR.out _ _ ?_ (fun hHeld => ?_)
  · exact m2 _
  clear hKR KR
  try simp only [List.getElem_toArray, List.getElem_cons_zero, List.getElem_cons_succ, Act.put, List.setIfInBounds_toArray, List.set_cons_zero, List.set_cons_succ]
  refine wpAnyH_ready (rs := [11]) (by kernel_rfl) (by simp) ?_
  refine AllReadyH.cons (o := _) rfl (fun KR hKR => ?ch11) ?nh11
  case nh11 => exact AllReadyH.nil
  go_simp
  go_at_call 67
  have hva : (w4.drew.alloc (.cells #[.string ⟨l.toArray⟩, .string ⟨s.toArray⟩] 86)).heap[w4.heap.size]? = some (.cells (avc [(l, s)]).toArray 86 (0, 0)) := heap_alloc_new w4.drew _
  have hvb : ((w4.alloc (.cells #[.string ⟨l.toArray⟩, .string ⟨s.toArray⟩] 86)).drew).heap[w4.heap.size]? = some (.cells (avc [(l, s)]).toArray 86 (0, 0)) := heap_alloc_new w4 _
  with_reducible refine (HIi.out _ (by first | exact (H4.out.2.drew.alloc H4.out.2.size _) | exact (H4.out.2.alloc H4.out.2.size _).drew | exact (H4.out.2.alloc H4.out.2.size _)) _ (by first | exact hva | exact hvb) H4.out.2.size).mono ?_
  rintro en w6 ⟨nv, rfl, hr6, hc6, hb6⟩
  have hc7 : Chg (fun k => some k = (Value.slice va n vc).ownBlock) w w6 := (Chg.ofBelow (by first | exact (H4.out.2.drew.alloc H4.out.2.size _) | exact (H4.out.2.alloc H4.out.2.size _).drew | exact (H4.out.2.alloc H4.out.2.size _))).trans hc6 (fun _ _ h => h)
  have hb7 : ∀ k, nv.ownBlock = some k → (Value.slice va n vc).ownBlock = some k ∨ w.heap.size ≤ k := fun k hk => by (rcases hb6 with e | ⟨j, e, hj⟩; exact .inl (e ▸ hk); rw [e] at hk; injection hk with hk; subst hk; exact .inr (Nat.le_trans (Below.size (by first | exact (H4.out.2.drew.alloc H4.out.2.size _) | exact (H4.out.2.alloc H4.out.2.size _).drew | exact (H4.out.2.alloc H4.out.2.size _))) hj))
  have hg6 := obj_chg HGo.out hc7 (fun h => (HX.out g h.symm).1 rfl)
  have hm6 := mvAt_chg HM.out hc7 (fun h => (HX.out bb h.symm).2 rfl)
  have i2 := (obj3 hg6).2.2
  obtain ⟨na, nc, rfl⟩ := ownsRow_slice hr6
  obtain ⟨N1, hN1⟩ : ∃ N1, (K.take i ++ (l, s) :: K.drop i).length = N1 := ⟨_, rfl⟩
  rw [hN1] at hr6 hb7 ⊢
  have HN1 := Lib.hid hN1
  clear hN1
  have H6 := Lib.hid (And.intro hr6 (And.intro hc7 (And.intro hb7 (And.intro hg6 hm6))))
  clear hr6 hc6 hb6 hc7 hb7 hg6 hm6
  go_wp2_with fail
  refine hKR.out _ _ ?_ (fun hHeld => ?_)
  · exact i2
  clear hKR KR
  try simp only [List.getElem_toArray, List.getElem_cons_zero, List.getElem_cons_succ, Act.put, List.setIfInBounds_toArray, List.set_cons_zero, List.set_cons_succ]
  refine wpAnyH_ready (rs := [12]) (by kernel_rfl) (by simp) ?_
  refine AllReadyH.cons (o := _) rfl (fun KR hKR => ?ch12) ?nh12
  case nh12 => exact AllReadyH.nil
  refine step_mvPut rfl (.tmp 31) (.tmp 32) (.tmp 39) 67 83 rfl Tryz.underlying67 bb nb (kidF KF F) rfl H6.out.2.2.2.2 (by unfold maxLen; omega) p _ rfl rfl hp ?_
  intro w7 n7 hm7 hn7 ht7
  have hne : g ≠ bb := fun e => by (obtain ⟨es, c, hq⟩ := mvAt_map H6.out.2.2.2.2; have hq2 := H6.out.2.2.2.1; rw [e, hq] at hq2; cases hq2)
  have i7 := (obj3 (obj_chg H6.out.2.2.2.1 (chg_turned ht7) hne)).2.2
  have hm7 : MvAt w7 bb (upF (kidF KF F) p (some (.slice na N1 nc))) n7 := hm7
  have H7 := Lib.hid (And.intro hm7 ht7)
  clear hm7 hn7 ht7
  refine hKR.out _ _ ?_ (fun hHeld => ?_)
  · exact i7
  clear hKR KR
  try simp only [List.getElem_toArray, List.getElem_cons_zero, List.getElem_cons_succ, Act.put, List.setIfInBounds_toArray, List.set_cons_zero, List.set_cons_succ]
  refine wpAnyH_done (by kernel_rfl) ?_ _
  refine NoPanic.normal ?_
  go_end0
  obtain ⟨hv, hK⟩ := HV.out
  have hcF : Chg (fun k => k = bb ∨ some k = (F p).ownBlock) w w7 := (H6.out.2.1.mono (fun k _ e => .inr (by rw [hv, HN.out]; exact e))).trans (chg_turned H7.out.2) (fun k _ e => .inl e)
  have hrow7 : w7.ownsRow B 86 2 (.slice na N1 nc) (K.take i ++ (l, s) :: K.drop i).length (avc (K.take i ++ (l, s) :: K.drop i)) := ownsRow_chg (HN1.out.symm ▸ H6.out.1) (chg_turned H7.out.2) (fun k hkk e => by
    have e : k = bb := e
    subst e
    obtain ⟨es, c, hq⟩ := mvAt_map H6.out.2.2.2.2
    rcases H6.out.1.2 with ⟨e, _⟩ | ⟨g', cap, cur, e, _, hg', _⟩
    · rw [e] at hkk; simp [Value.ownBlock] at hkk
    · rw [e] at hkk
      simp [Value.ownBlock] at hkk
      subst hkk
      rw [hq] at hg'; cases hg')
  have hne : (K.take i ++ (l, s) :: K.drop i) ≠ [] := by simp
  obtain ⟨q1, q2⟩ := kid_turn (p := p) (K := K.take i ++ (l, s) :: K.drop i) HK.out (mvAt_map HM.out) hcF hrow7 (fun e => absurd e hne) (fun k hkk => by
    have := H6.out.2.2.1 k hkk
    rw [hv, HN.out]; exact this)
  refine ⟨rfl, (fun q => if q = p then Value.slice na N1 nc else F q), n7, i, ?_, ?_, ?_, ?_, ?_, hcF, q2⟩
  · rw [hK]; exact hi
  · rw [hK]; exact H4.out.1.1
  · rw [hK]; exact H4.out.1.2
  · rw [hK, kidF_up, if_neg hne]
    exact H7.out.1
  · rw [hK]; exact q1
end Go.Proofs.YtbmnpjkcomcboaaGreatDoor
namespace Go.Proofs.YtbmnpjkcomcboaaGreatDoor
set_option linter.unusedSimpArgs false
set_option linter.unusedVariables false
open Go Go.RowKit Go.Proofs.BerK Go.Proofs.MemK Go.Proofs.UtfK Go.Maps Go.WideMaps

def UnhPost (B bb : Nat) (F : List UInt8 → Value) (KF : List UInt8 → List Av) (p s : List UInt8) (w : World) (en : Ending) (w' : World) : Prop :=
  en = .returned (.tuple #[]) ∧ ∃ F' nb', MvAt w' bb (kidF (upK KF p ((KF p).filter fun c => !(c.2 == s))) F') nb' ∧ KidIs w' B F' (upK KF p ((KF p).filter fun c => !(c.2 == s))) ∧
    Chg (fun k => k = bb ∨ some k = (F p).ownBlock) w w' ∧ ∀ q k, (F' q).ownBlock = some k → (F q).ownBlock = some k ∨ w.heap.size ≤ k
set_option maxHeartbeats 6400000 in
set_option maxRecDepth 100000 in
theorem dtunh_any (B g bb nb : Nat) (F : List UInt8 → Value) (KF : List UInt8 → List Av) (s p : List UInt8) (ok : Bool) (w : World) (hg : KdG w g bb) (hm : MvAt w bb (kidF KF F) nb) (hk : KidIs w B F KF) (hnb : nb ≤ 1000000) (hpl : parL s = (p, ok)) (hlen : (KF p).length ≤ 1000000) (hp : p.length ≤ 140737488355328) (he : ErrOk w) :
    Calls Tryz.prog 46 #[.pointer (some ⟨g, 0, none⟩), .string ⟨s.toArray⟩] w (UnhPost B bb F KF p s w) := by
  obtain ⟨sv, eb, hg⟩ := hg
  have zg := obj_lt hg
  have zbb := mvAt_lt hm
  obtain ⟨W0, hW0⟩ : ∃ W, w.alloc (.cells #[.string ⟨s.toArray⟩] 9) = W := ⟨_, rfl⟩
  have hb0 : Below w.heap.size w W0 := by rw [← hW0]; exact (Below.refl _ w).alloc (Nat.le_refl _) _
  have hx0 : W0.heap[w.heap.size]? = some (.cells #[.string ⟨s.toArray⟩] 9 (0, 0)) := by rw [← hW0]; exact heap_alloc_new w _
  have zx : w.heap.size < W0.heap.size := obj_lt hx0
  have HPa := Lib.hid (show Calls Tryz.prog 42 #[.string ⟨s.toArray⟩] W0 (SbPost (p, ok) W0) from hpl ▸ parent_any s W0 (errOk_below he hb0))
  have d0 := obj_cell hx0 0 _ rfl
  obtain ⟨K, hK⟩ : ∃ K, KF p = K := ⟨_, rfl⟩
  have hrow := (hk p).2.1
  have hF0 := (hk p).1
  rw [hK] at hrow hlen hF0
  obtain ⟨va, vc, hv⟩ := ownsRow_slice hrow
  obtain ⟨n, hn⟩ : ∃ n, K.length = n := ⟨_, rfl⟩
  have hlook : ∀ w', Below w.heap.size w w' → (Instr.lookup 67 (.map (some bb)) (.string ⟨p.toArray⟩) false).run Tryz.prog w' = .ok (.slice va n vc) w' := fun w' hb => by
    have hm' := mvAt_block hm (hb.block bb zbb)
    rw [mv_look1 hm' Tryz.underlying67 (dtzK w') p hp]
    unfold kidF
    rw [hK]
    by_cases h0 : K = []
    · have e := hF0 h0
      rw [hv] at e
      rw [if_pos h0, Option.getD_none, ← e, hn]
    · rw [if_neg h0, Option.getD_some, hv, hn]
  have HLk := Lib.hid hlook
  have hX : ∀ k, (Value.slice va n vc).ownBlock = some k → k ≠ g ∧ k ≠ bb ∧ k < w.heap.size := fun k hkk0 => by
    have hkk : (F p).ownBlock = some k := by rw [hv, hn]; exact hkk0
    have hkl := (hrow.lt k hkk).2
    rcases hrow.2 with ⟨e, _⟩ | ⟨g', cap, cur, e, _, hg', _⟩
    · rw [e] at hkk; simp [Value.ownBlock] at hkk
    · rw [e] at hkk
      simp [Value.ownBlock] at hkk
      subst hkk
      refine ⟨fun e2 => ?_, fun e2 => ?_, hkl⟩
      · rw [e2, hg] at hg'
        injection hg' with hg'
        injection hg' with _ h5 _
        exact absurd h5 (by decide)
      · obtain ⟨es, c, hq⟩ := mvAt_map hm
        rw [e2, hq] at hg'; cases hg'
  have HX := Lib.hid hX
  have HDel := Lib.hid (fun w' (hb : Below w.heap.size w w') (hc : w'.cell? ⟨w.heap.size, 0, none⟩ = some (.string ⟨s.toArray⟩)) (hz : w.heap.size < w'.heap.size) =>
    delC_any (fun c => c.2 == s) K K.length B (.slice va K.length vc) w' (.pointer (some ⟨w.heap.size, 0, none⟩)) (ownsRow_below (hv ▸ hrow) hb)
      (fun W t m hcW => unh1_any t m s w.heap.size W (by
        have hne : ¬ some w.heap.size = (Value.slice va K.length vc).ownBlock := fun e => by
          have := (hX w.heap.size (by rw [← hn]; exact e.symm)).2.2
          omega
        have := hcW.block w.heap.size hz hne
        unfold World.cell? at hc ⊢
        simp only [this]
        exact hc) (Nat.lt_of_lt_of_le hz hcW.size)) hlen)
  rw [hn] at HDel
  have HK := Lib.hid hk
  have HM := Lib.hid hm
  have HN := Lib.hid hn
  have HGo := Lib.hid hg
  have HV := Lib.hid (And.intro hv hK)
  have HB0 := Lib.hid (And.intro hb0 (And.intro hx0 zx))
  have HW0 := Lib.hid hW0
  clear hk hm hrow hF0 hlook hv he hpl hg hn hlen hK hX hb0 hx0 hW0
  go_enter Tryz.func46, Tryz.ntmps46
  go_wp2_with fail
  rw [HW0.out]
  go_wp2_with fail
  refine HPa.out.mono ?_
  rintro e w2 ⟨rfl, hb2⟩
  have hb2w := HB0.out.1.trans (hb2.mono HB0.out.1.size)
  have hlk2 := HLk.out w2 hb2w
  have k2 := (obj3 (obj_below HGo.out hb2w zg)).2.2
  have HDw := Lib.hid (HDel.out w2 hb2w (obj_cell (obj_below HB0.out.2.1 hb2 zx) 0 _ rfl) (Nat.lt_of_lt_of_le zx hb2.size))
  have HB2 := Lib.hid hb2w
  clear hb2 hb2w d0
  go_wp2_with fail
  refine HDw.out.mono ?_
  rintro e w4 ⟨v, rfl, hr4, hc4, hb4⟩
  have hcw : Chg (fun k => some k = (Value.slice va n vc).ownBlock) w w4 := (Chg.ofBelow HB2.out).trans hc4 (fun _ _ h => h)
  have hg4 := obj_chg HGo.out hcw (fun h => (HX.out g h.symm).1 rfl)
  have hm4 := mvAt_chg HM.out hcw (fun h => (HX.out bb h.symm).2.1 rfl)
  have k2 := (obj3 hg4).2.2
  obtain ⟨K', hK'⟩ : ∃ K', (K.filter fun c => !(c.2 == s)) = K' := ⟨_, rfl⟩
  rw [hK'] at hr4
  obtain ⟨na, nc, rfl⟩ := ownsRow_slice hr4
  obtain ⟨n', hn'⟩ : ∃ n', K'.length = n' := ⟨_, rfl⟩
  rw [hn'] at hr4 hb4 ⊢
  have H4 := Lib.hid (And.intro hr4 (And.intro hcw (And.intro hb4 (And.intro hg4 (And.intro hm4 (And.intro hK' hn'))))))
  clear hr4 hc4 hb4 hcw hg4 hm4 hK' hn' hlk2
  by_cases h0 : n' = 0
  · subst h0
    go_wp2_with (at_delete; refine wpList_mvDel rfl (.tmp 26) (.tmp 27) 67 83 rfl Tryz.underlying67 bb nb (kidF KF F) rfl H4.out.2.2.2.2.1 p rfl hp ?_)
    intro w7 n7 hm7 hn7 ht7
    have H7 := Lib.hid (And.intro hm7 ht7)
    clear hm7 hn7 ht7
    go_wp2
    go_end0
    obtain ⟨hv, hK⟩ := HV.out
    have hKn : K' = [] := List.eq_nil_of_length_eq_zero H4.out.2.2.2.2.2.2
    have hcF : Chg (fun k => k = bb ∨ some k = (F p).ownBlock) w w7 := (H4.out.2.1.mono (fun k _ e => .inr (by rw [hv, HN.out]; exact e))).trans (chg_turned H7.out.2) (fun k _ e => .inl e)
    obtain ⟨q1, q2⟩ := kid_turn (p := p) (K := []) (v := .slice none 0 0) HK.out (mvAt_map HM.out) hcF (World.ownsRow_nil _ _ _ _) (fun _ => rfl) (fun k hkk => by simp [Value.ownBlock] at hkk)
    refine ⟨rfl, (fun q => if q = p then Value.slice none 0 0 else F q), n7, ?_, ?_, hcF, q2⟩
    · rw [hK, H4.out.2.2.2.2.2.1, hKn, kidF_up, if_pos rfl]
      exact H7.out.1
    · rw [hK, H4.out.2.2.2.2.2.1, hKn]; exact q1
  · have hnz : ((n' : Int) == 0) = false := by rw [beq_eq_false_iff_ne]; omega
    go_wp2_with (at_mapUpdate; refine wpList_mvPut rfl (.tmp 31) (.tmp 32) (.tmp 33) 67 83 rfl Tryz.underlying67 bb nb (kidF KF F) rfl H4.out.2.2.2.2.1 (by unfold maxLen; omega) p _ rfl rfl hp ?_)
    intro w7 n7 hm7 hn7 ht7
    have hm7 : MvAt w7 bb (upF (kidF KF F) p (some (.slice na n' nc))) n7 := hm7
    have H7 := Lib.hid (And.intro hm7 ht7)
    clear hm7 hn7 ht7
    go_wp2
    go_end0
    obtain ⟨hv, hK⟩ := HV.out
    have hKn : K' ≠ [] := fun e => h0 (by rw [← H4.out.2.2.2.2.2.2, e]; rfl)
    have hcF : Chg (fun k => k = bb ∨ some k = (F p).ownBlock) w w7 := (H4.out.2.1.mono (fun k _ e => .inr (by rw [hv, HN.out]; exact e))).trans (chg_turned H7.out.2) (fun k _ e => .inl e)
    have hrow7 : w7.ownsRow B 86 2 (.slice na n' nc) K'.length (avc K') := ownsRow_chg (H4.out.2.2.2.2.2.2.symm ▸ H4.out.1) (chg_turned H7.out.2) (fun k hkk e => by
      have e : k = bb := e
      exact (HX.out k (H4.out.2.2.1 ▸ hkk)).2.1 e)
    obtain ⟨q1, q2⟩ := kid_turn (p := p) (K := K') (v := .slice na n' nc) HK.out (mvAt_map HM.out) hcF hrow7 (fun e => absurd e hKn) (fun k hkk => by
      left; rw [hv, HN.out]; exact H4.out.2.2.1 ▸ hkk)
    refine ⟨rfl, (fun q => if q = p then Value.slice na n' nc else F q), n7, ?_, ?_, hcF, q2⟩
    · rw [hK, H4.out.2.2.2.2.2.1, kidF_up, if_neg hKn]
      exact H7.out.1
    · rw [hK, H4.out.2.2.2.2.2.1]; exact q1
end Go.Proofs.YtbmnpjkcomcboaaGreatDoor
