/- Of any controls the first one that says that a search goes on: the code's Find and the document's. -/
import Derived.Test.YtlnfbjgadcifkaaDoorCtH
namespace Go.Proofs.YtlnfbjgadcifkaaDoor
set_option linter.unusedSimpArgs false
set_option linter.unusedVariables false
open Go Go.RowKit Go.Proofs.BerM Go.Proofs.BerK Go.Proofs.MemK Go.Proofs.NumM

/-- A control: its OID, whether it is critical, its value. -/
abbrev Ct := List UInt8 × Bool × List UInt8
def ctC (r : Ct) : List Value := [.string ⟨r.1.toArray⟩, .bool r.2.1, .string ⟨r.2.2.toArray⟩]
/-- Controls lie in memory, to be read. -/
def CoAt (w : World) (v : Value) (L : List Ct) : Prop :=
  ∃ a c, v = .slice a L.length c ∧ ∀ i (hi : i < L.length), ∃ g o, a = some ⟨g, o, none⟩ ∧ g < w.heap.size ∧ ∀ j, j < 3 → w.cell? ⟨g, o + i * 3 + j, none⟩ = (ctC L[i])[j]?
theorem coAt_below {w w' : World} {v : Value} {L : List Ct} (h : CoAt w v L) (hb : Below w.heap.size w w') : CoAt w' v L := by
  obtain ⟨a, c, rfl, h⟩ := h
  refine ⟨a, c, rfl, fun i hi => ?_⟩
  obtain ⟨g, o, h1, h2, h3⟩ := h i hi
  exact ⟨g, o, h1, Nat.lt_of_lt_of_le h2 hb.size, fun j hj => (hb.cell (p := ⟨g, _, none⟩) h2).trans (h3 j hj)⟩
theorem coAt_three {w : World} {a : Option Addr} {n c : Nat} {L : List Ct} (h : CoAt w (.slice a n c) L) (i : Nat) (hi : i < L.length) : ∃ g o, a = some ⟨g, o, none⟩ ∧ g < w.heap.size ∧ w.cell? ⟨g, o + i * 3, none⟩ = some (.string ⟨L[i].1.toArray⟩) ∧ w.cell? ⟨g, o + i * 3 + 1, none⟩ = some (.bool L[i].2.1) ∧ w.cell? ⟨g, o + i * 3 + 2, none⟩ = some (.string ⟨L[i].2.2.toArray⟩) := by
  obtain ⟨a', c', hv, h⟩ := h
  injection hv with h1 h2 h3
  subst h1 h3
  obtain ⟨g, o, h1, h2, h3⟩ := h i hi
  exact ⟨g, o, h1, h2, h3 0 (by omega), h3 1 (by omega), h3 2 (by omega)⟩
theorem coAt_new1 (w : World) (r : Ct) (e : TypeId) (cs : Array Value) (hcs : cs = (ctC r).toArray) : CoAt (w.alloc (.cells cs e)) (.slice (some ⟨w.heap.size, 0, none⟩) 1 1) [r] := by
  subst hcs
  refine ⟨_, 1, rfl, fun i hi => ⟨w.heap.size, 0, rfl, by simp, fun j hj => ?_⟩⟩
  obtain rfl : i = 0 := by simpa using hi
  rw [World.cell?_alloc_mark w _ e (0, 0)]
  simp

/-- The OID of the control that says that a search goes on. -/
def pO : List UInt8 := [50, 46, 49, 54, 46, 56, 52, 48, 46, 49, 46, 49, 49, 51, 55, 51, 48, 46, 51, 46, 52, 46, 51]
def fiL (L : List Ct) : Option (List UInt8) := (L.find? fun c => c.1 == pO).map fun c => c.2.2
/-- What is found: which search goes on, whether one does, a code. -/
def fiP (L : List Ct) : (Int × Bool × Bool) × Bool × Int :=
  match fiL L with
  | some v => if (peR v).2 = 0 then ((peR v).1, true, 0) else ((0, false, false), false, 2)
  | none => ((0, false, false), false, if (L.any fun c => c.2.1) = true then 12 else 0)
theorem fi_at {L : List Ct} (k : Nat) (hk : k < L.length) (h1 : (L[k].1 == pO) = true) (h2 : ∀ j (hj : j < L.length), j < k → (L[j].1 == pO) = false) : fiL L = some L[k].2.2 := by
  unfold fiL
  have : L.find? (fun c => c.1 == pO) = some L[k] := by
    rw [List.find?_eq_some_iff_getElem]
    exact ⟨h1, k, hk, rfl, fun j hj => by simp [h2 j (by omega) hj]⟩
  rw [this]; rfl
theorem fi_no {L : List Ct} (h2 : ∀ j (hj : j < L.length), (L[j].1 == pO) = false) : fiL L = none := by
  unfold fiL
  have : L.find? (fun c => c.1 == pO) = none := by
    rw [List.find?_eq_none]
    intro x hx
    obtain ⟨j, hj, rfl⟩ := List.getElem_of_mem hx
    simp [h2 j hj]
  rw [this]; rfl
theorem fi_ok {L : List Ct} {v : List UInt8} {t : Int} {c r : Bool} (h : fiL L = some v) (h2 : peR v = ((t, c, r), 0)) : fiP L = ((t, c, r), true, 0) := by
  unfold fiP; rw [h]; simp only [h2, if_true]
theorem fi_err {L : List Ct} {v : List UInt8} (h : fiL L = some v) (h2 : peR v = ((0, false, false), 5)) : fiP L = ((0, false, false), false, 2) := by
  unfold fiP; rw [h]; simp only [h2]; rfl
theorem fi_none {L : List Ct} (h : fiL L = none) (b : Bool) (h2 : (L.any fun c => c.2.1) = b) : fiP L = ((0, false, false), false, if b = true then 12 else 0) := by
  unfold fiP; rw [h, h2]
/-- What Find hands back. -/
def FiPost (p : (Int × Bool × Bool) × Bool × Int) (w : World) (en : Ending) (w' : World) : Prop := en = .returned (.tuple #[.agg #[.int .i64 p.1.1, .bool p.1.2.1, .bool p.1.2.2], .bool p.2.1, .int .i64 p.2.2]) ∧ Below w.heap.size w w'

set_option maxHeartbeats 400000 in
theorem ccrit_any (o v : List UInt8) (b : Bool) (w : World) : Calls Tryd.prog 36 #[.agg #[.string ⟨o.toArray⟩, .bool b, .string ⟨v.toArray⟩]] w fun en w' => en = .returned (.bool b) ∧ Below w.heap.size w w' := by
  have hb0 := Lib.hid ((Below.refl _ w).alloc (Nat.le_refl _) (.cells #[.string ⟨o.toArray⟩, .bool b, .string ⟨v.toArray⟩] 27))
  go_enter Tryd.func36, Tryd.ntmps36
  go_wp2
  go_ret
  exact ⟨rfl, hb0.out⟩
def CixPost (R : Bool) (w : World) (en : Ending) (w' : World) : Prop := ∃ n : Int, en = .returned (.int .i64 n) ∧ decide (0 ≤ n) = R ∧ Below w.heap.size w w'
set_option maxHeartbeats 1600000 in
set_option maxRecDepth 100000 in
theorem cix_any (T : List Ct) (tv : Value) (w : World) (h : CoAt w tv T) (hl : T.length ≤ 1000000) :
    Calls Tryd.prog 52 #[tv, .func (.func 36) #[] #[]] w (CixPost (T.any fun c => c.2.1) w) := by
  obtain ⟨a, c, rfl, hcells⟩ := h
  have HM := Lib.hid (fun i hi => coAt_three (a := a) (n := T.length) (c := c) ⟨a, c, rfl, hcells⟩ i hi)
  obtain ⟨n, hn⟩ : ∃ n, T.length = n := ⟨_, rfl⟩
  have HL := Lib.hid hn
  have HY := Lib.hid (any_atL (l := T) (q := fun c => c.2.1))
  have HN := Lib.hid (any_noL (l := T) (q := fun c => c.2.1))
  obtain ⟨R, hR⟩ : ∃ R, (T.any fun c => c.2.1) = R := ⟨_, rfl⟩
  rw [hR] at HY HN ⊢
  rw [hn] at hl ⊢
  clear hcells hn hR
  go_enter Tryd.func52, Tryd.ntmps52
  go_wp2
  go_loopw [8] (fun v wr => ∃ k : Nat, k ≤ n ∧ v = .int .i64 (k : Nat) ∧ Below w.heap.size w wr ∧ ∀ j (hj : j < T.length), j < k → T[j].2.1 = false) (fun v _ => n - (intOf v).toNat)
  case atStart => exact ⟨0, by omega, rfl, Below.refl _ _, fun j _ h => by omega⟩
  case round =>
    obtain ⟨k, hk, rfl, hb, hall⟩ := hrel
    have hsr := hb.size
    by_cases hlt : k < n
    · have hkl : (k : Int) < (n : Int) := by omega
      have hkm : k < T.length := by rw [HL.out]; exact hlt
      obtain ⟨g, o, rfl, hg, e0w, e1w, e2w⟩ := HM.out k hkm
      have e0 := (hb.cell (p := ⟨g, _, none⟩) hg).trans e0w
      have e1 := (hb.cell (p := ⟨g, _, none⟩) hg).trans e1w
      have e2 := (hb.cell (p := ⟨g, _, none⟩) hg).trans e2w
      obtain ⟨bq, hbq⟩ : ∃ b, T[k].2.1 = b := ⟨_, rfl⟩
      have HYk := Lib.hid (fun hx => HY.out k hkm (by rw [hbq]; exact hx))
      have HA := Lib.hid (fun (hx : bq = false) j (hj : j < T.length) (hjk : j < k + 1) => (show T[j].2.1 = false by
        by_cases hjj : j = k
        · subst hjj; rw [hbq]; exact hx
        · exact hall j hj (by omega)))
      obtain ⟨nm, hnm⟩ : ∃ x, T[k].1 = x := ⟨_, rfl⟩
      obtain ⟨m, hm⟩ : ∃ m, T[k].2.2 = m := ⟨_, rfl⟩
      rw [hnm] at e0
      rw [hm] at e2
      rw [hbq] at e1
      have HF := Lib.hid (ccrit_any nm m bq wr)
      have HB := Lib.hid hb
      clear hb hall e0w e1w e2w hbq hm hnm
      go_wp2_with fail
      refine HF.out.mono ?_
      rintro en w5 ⟨rfl, hb5⟩
      have HB5 := Lib.hid (HB.out.trans (hb5.mono hsr))
      clear hb5 e0 e1 e2
      cases bq
      · have H := Lib.hid (HA.out rfl)
        go_wp2
        exact ⟨⟨k + 1, by omega, by go_num, HB5.out, H.out⟩, by simp [intOf]; omega⟩
      · have H := Lib.hid (HYk.out rfl)
        go_wp2
        go_ret
        exact ⟨_, rfl, by rw [H.out]; simp, HB5.out⟩
    · obtain rfl : k = n := by omega
      have H := Lib.hid (HN.out (fun j hj => hall j hj (by rw [← HL.out]; exact hj)))
      have HB := Lib.hid hb
      clear hb hall
      go_wp2
      go_ret
      exact ⟨_, rfl, by rw [H.out]; rfl, HB.out⟩
set_option maxHeartbeats 400000 in
theorem ccn_any (T : List Ct) (tv : Value) (w : World) (h : CoAt w tv T) (hl : T.length ≤ 1000000) :
    Calls Tryd.prog 35 #[tv, .func (.func 36) #[] #[]] w fun en w' => en = .returned (.bool (T.any fun c => c.2.1)) ∧ Below w.heap.size w w' := by
  have HC := Lib.hid (cix_any T tv w h hl)
  obtain ⟨a, c, rfl, _⟩ := h
  obtain ⟨R, hR⟩ : ∃ R, (T.any fun c => c.2.1) = R := ⟨_, rfl⟩
  rw [hR] at HC ⊢
  clear hR
  go_enter Tryd.func35, Tryd.ntmps35
  go_wp2_with fail
  refine HC.out.mono ?_
  rintro en w1 ⟨n, rfl, hn, hb⟩
  have H := Lib.hid hn
  have HB := Lib.hid hb
  clear hn hb
  go_wp2
  go_ret
  exact ⟨by rw [← H.out]; rfl, HB.out⟩

set_option maxHeartbeats 3200000 in
set_option maxRecDepth 100000 in
theorem cfind_any (L : List Ct) (v : Value) (w : World) (h : CoAt w v L) (hl : L.length ≤ 1000000) (hv : ∀ c ∈ L, c.2.2.length ≤ maxLen) : Calls Tryd.prog 17 #[v] w (FiPost (fiP L) w) := by
  obtain ⟨a, c, rfl, hcells⟩ := h
  have HCo := Lib.hid (show CoAt w (.slice a L.length c) L from ⟨a, c, rfl, hcells⟩)
  have HM := Lib.hid (fun i hi => coAt_three (a := a) (n := L.length) (c := c) ⟨a, c, rfl, hcells⟩ i hi)
  have HAt := Lib.hid (fun k hk h1 h2 => fi_at (L := L) k hk h1 h2)
  have HNo := Lib.hid (fun h2 => fi_no (L := L) h2)
  have HOk := Lib.hid (fun v t c r (h : fiL L = some v) h2 => fi_ok (L := L) (v := v) (t := t) (c := c) (r := r) h h2)
  have HEr := Lib.hid (fun v (h : fiL L = some v) h2 => fi_err (L := L) (v := v) h h2)
  have HNn := Lib.hid (fun (h : fiL L = none) b h2 => fi_none (L := L) h b h2)
  have HVl := Lib.hid hv
  obtain ⟨n, hn⟩ : ∃ n, L.length = n := ⟨_, rfl⟩
  have HL := Lib.hid hn
  obtain ⟨W, hW⟩ : ∃ W, w.alloc (.cells #[.int .i64 0, .bool false, .bool false] 23) = W := ⟨_, rfl⟩
  have hb0 : Below w.heap.size w W := by rw [← hW]; exact (Below.refl _ w).alloc (Nat.le_refl _) _
  have hg : W.heap[w.heap.size]? = some (.cells #[.int .i64 0, .bool false, .bool false] 23 (0, 0)) := by rw [← hW]; exact heap_alloc_new w _
  have HG := Lib.hid hg
  have HZ := Lib.hid hb0
  have HXL := Lib.hid (obj_lt hg)
  rw [hn] at hl HCo ⊢
  clear hcells hn hb0 hg hv
  go_enter Tryd.func17, Tryd.ntmps17
  go_wp2
  go_loopw [11] (fun v wr => ∃ k : Nat, k ≤ n ∧ v = .int .i64 (k : Nat) ∧ Below W.heap.size W wr ∧ ∀ j (hj : j < L.length), j < k → (L[j].1 == pO) = false) (fun v _ => n - (intOf v).toNat)
  case atStart => exact ⟨0, by omega, rfl, Below.refl _ _, fun j _ h => by omega⟩
  case round =>
    obtain ⟨k, hk, rfl, hb, hall⟩ := hrel
    have hsr := hb.size
    by_cases hlt : k < n
    · have hkl : (k : Int) < (n : Int) := by omega
      have hkm : k < L.length := by rw [HL.out]; exact hlt
      obtain ⟨g, o, rfl, hg, e0w, e1w, e2w⟩ := HM.out k hkm
      have hgW : g < W.heap.size := Nat.lt_of_lt_of_le hg HZ.out.size
      have e0 := (hb.cell (p := ⟨g, _, none⟩) hgW).trans ((HZ.out.cell (p := ⟨g, _, none⟩) hg).trans e0w)
      have e1 := (hb.cell (p := ⟨g, _, none⟩) hgW).trans ((HZ.out.cell (p := ⟨g, _, none⟩) hg).trans e1w)
      have e2 := (hb.cell (p := ⟨g, _, none⟩) hgW).trans ((HZ.out.cell (p := ⟨g, _, none⟩) hg).trans e2w)
      have HAk := Lib.hid (HAt.out k hkm)
      have hvl := HVl.out L[k] (List.getElem_mem hkm)
      have HNx := Lib.hid (fun (hx : (L[k].1 == pO) = false) j (hj : j < L.length) (hjk : j < k + 1) => (show (L[j].1 == pO) = false by
        by_cases hjj : j = k
        · subst hjj; exact hx
        · exact hall j hj (by omega)))
      have HAll := Lib.hid hall
      obtain ⟨x, hx⟩ : ∃ x, L[k].1 = x := ⟨_, rfl⟩
      obtain ⟨y, hy⟩ : ∃ y, L[k].2.1 = y := ⟨_, rfl⟩
      obtain ⟨z, hz⟩ : ∃ z, L[k].2.2 = z := ⟨_, rfl⟩
      rw [hx] at e0 HAk HNx
      rw [hy] at e1
      rw [hz] at e2 HAk hvl
      have HF := Lib.hid (fun w' => cper_any z w' hvl)
      have HPo := Lib.hid (pe_or z)
      have HB := Lib.hid hb
      obtain ⟨q, hq⟩ : ∃ q, (x == pO) = q := ⟨_, rfl⟩
      have hqx : (x == [50, 46, 49, 54, 46, 56, 52, 48, 46, 49, 46, 49, 49, 51, 55, 51, 48, 46, 51, 46, 52, 46, 51]) = q := hq
      rw [hq] at HAk HNx
      clear hb hall e0w e1w e2w hx hy hz hq hg hvl
      cases q
      · have H := Lib.hid (HNx.out rfl)
        have HBn := Lib.hid (HB.out.alloc HB.out.size (.cells #[.string ⟨x.toArray⟩, .bool y, .string ⟨z.toArray⟩] 27))
        go_wp2
        exact ⟨⟨k + 1, by omega, by go_num, HBn.out, H.out⟩, by simp [intOf]; omega⟩
      · have hfi := HAk.out rfl HAll.out
        have hw : (∃ p1 p2 p3, peR z = ((p1, p2, p3), 0) ∧ fiP L = ((p1, p2, p3), true, 0)) ∨ (peR z = ((0, false, false), 5) ∧ fiP L = ((0, false, false), false, 2)) := by
          rcases HPo.out with h | ⟨p1, p2, p3, h, _⟩
          · exact .inr ⟨h, HEr.out z hfi h⟩
          · exact .inl ⟨p1, p2, p3, h, HOk.out z p1 p2 p3 hfi h⟩
        clear hfi
        rcases hw with ⟨p1, p2, p3, hp, hv⟩ | ⟨hp, hv⟩
        all_goals
          rw [hp] at HF
          have HV := Lib.hid hv
          clear hp hv
          go_wp2_with fail
          refine (HF.out _).mono ?_
          rintro en w5 ⟨rfl, hb5⟩
          have hb5 := HB.out.trans ((((Below.refl _ wr).alloc (Nat.le_refl _) _).trans (hb5.mono (by simp))).mono HB.out.size)
          have hbox := obj_below HG.out hb5 HXL.out
          have b0 := fun ob => obj_cell (obj_alloc hbox ob) 0 _ rfl
          have b1 := fun ob => obj_cell (obj_alloc hbox ob) 1 _ rfl
          have b2 := fun ob => obj_cell (obj_alloc hbox ob) 2 _ rfl
          have f0 := fun ob => obj_free (obj_alloc hbox ob) 0
          have f1 := fun ob => obj_free (obj_alloc hbox ob) 1
          have f2 := fun ob => obj_free (obj_alloc hbox ob) 2

          have H3 := Lib.hid ((HZ.out.trans (hb5.mono HZ.out.size)).alloc (by have := HZ.out.size; have := hb5.size; omega) (.cells #[.int .i64 0, .bool false, .bool false] 23))
          have H4 := Lib.hid (HZ.out.trans (hb5.mono HZ.out.size))
          clear hb5 hbox e0 e1 e2
          go_wp2
          first
            | (refine bodyPost_ret (v := .tuple #[.agg #[.int .i64 p1, .bool p2, .bool p3], .bool true, .int .i64 0]) (by simp [results, Tryd.results17, go_sem, *]) rfl ⟨by rw [HV.out], ?_⟩; exact below_set3' (H4.out.alloc H4.out.size _) (Nat.le_refl _) _ _ _)
            | (refine bodyPost_ret (v := .tuple #[.agg #[.int .i64 0, .bool false, .bool false], .bool false, .int .i64 2]) (by simp [results, Tryd.results17, go_sem, *]) rfl ⟨by rw [HV.out], ?_⟩; exact below_set3' (H4.out.alloc H4.out.size _) (Nat.le_refl _) _ _ _)
    · obtain rfl : k = n := by omega
      have hfi := HNo.out (fun j hj => hall j hj (by rw [← HL.out]; exact hj))
      obtain ⟨R, hR⟩ : ∃ R, (L.any fun c => c.2.1) = R := ⟨_, rfl⟩
      have hv := HNn.out hfi R hR
      have HC := Lib.hid (ccn_any L _ wr (coAt_below (coAt_below HCo.out HZ.out) hb) (by rw [HL.out]; exact hl))
      rw [hR] at HC
      have HV := Lib.hid hv
      have HB := Lib.hid hb
      clear hb hall hfi hR hv
      cases R
      all_goals
        go_wp2_with fail
        refine HC.out.mono ?_
        rintro en w5 ⟨rfl, hb5⟩
        have hb5 := HB.out.trans (hb5.mono HB.out.size)
        have hbox := obj_below HG.out hb5 HXL.out
        have b0 := obj_cell hbox 0 _ rfl
        have b1 := obj_cell hbox 1 _ rfl
        have b2 := obj_cell hbox 2 _ rfl
        have f0 := obj_free hbox 0
        have f1 := obj_free hbox 1
        have f2 := obj_free hbox 2

        have H4 := Lib.hid (HZ.out.trans (hb5.mono HZ.out.size))
        clear hb5 hbox
        go_wp2
        first
          | (refine bodyPost_ret (v := .tuple #[.agg #[.int .i64 0, .bool false, .bool false], .bool false, .int .i64 0]) (by simp [results, Tryd.results17, go_sem, *]) rfl ⟨by rw [HV.out]; rfl, ?_⟩; exact below_set3' H4.out (Nat.le_refl _) _ _ _)
          | (refine bodyPost_ret (v := .tuple #[.agg #[.int .i64 0, .bool false, .bool false], .bool false, .int .i64 12]) (by simp [results, Tryd.results17, go_sem, *]) rfl ⟨by rw [HV.out]; rfl, ?_⟩; exact below_set3' H4.out (Nat.le_refl _) _ _ _)
set_option maxHeartbeats 3200000 in
set_option maxRecDepth 100000 in
theorem rcfind_any (L : List Ct) (v : Value) (w : World) (h : CoAt w v L) (hl : L.length ≤ 1000000) (hv : ∀ c ∈ L, c.2.2.length ≤ maxLen) : Calls Tryd.prog 18 #[v] w (FiPost (fiP L) w) := by
  obtain ⟨a, c, rfl, hcells⟩ := h
  have HCo := Lib.hid (show CoAt w (.slice a L.length c) L from ⟨a, c, rfl, hcells⟩)
  have HM := Lib.hid (fun i hi => coAt_three (a := a) (n := L.length) (c := c) ⟨a, c, rfl, hcells⟩ i hi)
  have HAt := Lib.hid (fun k hk h1 h2 => fi_at (L := L) k hk h1 h2)
  have HNo := Lib.hid (fun h2 => fi_no (L := L) h2)
  have HOk := Lib.hid (fun v t c r (h : fiL L = some v) h2 => fi_ok (L := L) (v := v) (t := t) (c := c) (r := r) h h2)
  have HEr := Lib.hid (fun v (h : fiL L = some v) h2 => fi_err (L := L) (v := v) h h2)
  have HNn := Lib.hid (fun (h : fiL L = none) b h2 => fi_none (L := L) h b h2)
  have HVl := Lib.hid hv
  obtain ⟨n, hn⟩ : ∃ n, L.length = n := ⟨_, rfl⟩
  have HL := Lib.hid hn
  obtain ⟨W, hW⟩ : ∃ W, w.alloc (.cells #[.int .i64 0, .bool false, .bool false] 23) = W := ⟨_, rfl⟩
  have hb0 : Below w.heap.size w W := by rw [← hW]; exact (Below.refl _ w).alloc (Nat.le_refl _) _
  have hg : W.heap[w.heap.size]? = some (.cells #[.int .i64 0, .bool false, .bool false] 23 (0, 0)) := by rw [← hW]; exact heap_alloc_new w _
  have HG := Lib.hid hg
  have HZ := Lib.hid hb0
  have HXL := Lib.hid (obj_lt hg)
  rw [hn] at hl HCo ⊢
  clear hcells hn hb0 hg hv
  go_enter Tryd.func18, Tryd.ntmps18
  go_wp2
  go_loopw [5, 6] (fun v5 v wr => ∃ k : Nat, ∃ cr : Bool, ∃ m : Int, v5 = .int .i64 m ∧ m = (if cr = true then 12 else 0) ∧ ((L.take k).any fun c => c.2.1) = cr ∧ k ≤ n ∧ v = .int .i64 (k : Nat) ∧ Below W.heap.size W wr ∧ ∀ j (hj : j < L.length), j < k → (L[j].1 == pO) = false) (fun _ v _ => n - (intOf v).toNat)
  case atStart => exact ⟨0, false, 0, rfl, rfl, rfl, by omega, rfl, Below.refl _ _, fun j _ h => by omega⟩
  case round =>
    obtain ⟨k, cr, m, rfl, hm, hcr, hk, rfl, hb, hall⟩ := hrel
    have HMm := Lib.hid hm
    clear hm
    have hsr := hb.size
    by_cases hlt : k < n
    · have hkl : (k : Int) < (n : Int) := by omega
      have hkm : k < L.length := by rw [HL.out]; exact hlt
      obtain ⟨g, o, rfl, hg, e0w, e1w, e2w⟩ := HM.out k hkm
      have hgW : g < W.heap.size := Nat.lt_of_lt_of_le hg HZ.out.size
      have e0 := (hb.cell (p := ⟨g, _, none⟩) hgW).trans ((HZ.out.cell (p := ⟨g, _, none⟩) hg).trans e0w)
      have e1 := (hb.cell (p := ⟨g, _, none⟩) hgW).trans ((HZ.out.cell (p := ⟨g, _, none⟩) hg).trans e1w)
      have e2 := (hb.cell (p := ⟨g, _, none⟩) hgW).trans ((HZ.out.cell (p := ⟨g, _, none⟩) hg).trans e2w)
      have HAk := Lib.hid (HAt.out k hkm)
      have hvl := HVl.out L[k] (List.getElem_mem hkm)
      have HNx := Lib.hid (fun (hx : (L[k].1 == pO) = false) j (hj : j < L.length) (hjk : j < k + 1) => (show (L[j].1 == pO) = false by
        by_cases hjj : j = k
        · subst hjj; exact hx
        · exact hall j hj (by omega)))
      have HAll := Lib.hid hall
      have hst : ((L.take (k + 1)).any fun c => c.2.1) = (cr || L[k].2.1) := by
        rw [List.take_succ_eq_append_getElem hkm, List.any_append, hcr]
        simp
      obtain ⟨x, hx⟩ : ∃ x, L[k].1 = x := ⟨_, rfl⟩
      obtain ⟨y, hy⟩ : ∃ y, L[k].2.1 = y := ⟨_, rfl⟩
      obtain ⟨z, hz⟩ : ∃ z, L[k].2.2 = z := ⟨_, rfl⟩
      rw [hx] at e0 HAk HNx
      rw [hy] at e1 hst
      rw [hz] at e2 HAk hvl
      have HSt := Lib.hid hst
      have HF := Lib.hid (fun w' => rcper_any z w' hvl)
      have HPo := Lib.hid (pe_or z)
      have HB := Lib.hid hb
      obtain ⟨q, hq⟩ : ∃ q, (x == pO) = q := ⟨_, rfl⟩
      have hqx : (x == [50, 46, 49, 54, 46, 56, 52, 48, 46, 49, 46, 49, 49, 51, 55, 51, 48, 46, 51, 46, 52, 46, 51]) = q := hq
      rw [hq] at HAk HNx
      have hi0 : (0 : Int) ≤ k := by omega
      clear hb hall e0w e1w e2w hx hy hz hq hg hvl hst hcr
      cases q
      · have H := Lib.hid (HNx.out rfl)
        cases y
        · go_wp2
          exact ⟨⟨k + 1, cr, m, rfl, HMm.out, by rw [HSt.out, Bool.or_false], by omega, by go_num, HB.out, H.out⟩, by simp [intOf]; omega⟩
        · go_wp2
          exact ⟨⟨k + 1, true, 12, rfl, rfl, by rw [HSt.out, Bool.or_true], by omega, by go_num, HB.out, H.out⟩, by simp [intOf]; omega⟩
      · have hfi := HAk.out rfl HAll.out
        have hw : (∃ p1 p2 p3, peR z = ((p1, p2, p3), 0) ∧ fiP L = ((p1, p2, p3), true, 0)) ∨ (peR z = ((0, false, false), 5) ∧ fiP L = ((0, false, false), false, 2)) := by
          rcases HPo.out with h | ⟨p1, p2, p3, h, _⟩
          · exact .inr ⟨h, HEr.out z hfi h⟩
          · exact .inl ⟨p1, p2, p3, h, HOk.out z p1 p2 p3 hfi h⟩
        clear hfi
        rcases hw with ⟨p1, p2, p3, hp, hv⟩ | ⟨hp, hv⟩
        all_goals
          rw [hp] at HF
          have HV := Lib.hid hv
          clear hp hv
          go_wp2_with fail
          refine (HF.out _).mono ?_
          rintro en w5 ⟨rfl, hb5⟩
          have hb5 := HB.out.trans (hb5.mono HB.out.size)
          have hbox := obj_below HG.out hb5 HXL.out
          have b0 := fun ob => obj_cell (obj_alloc hbox ob) 0 _ rfl
          have b1 := fun ob => obj_cell (obj_alloc hbox ob) 1 _ rfl
          have b2 := fun ob => obj_cell (obj_alloc hbox ob) 2 _ rfl
          have f0 := fun ob => obj_free (obj_alloc hbox ob) 0
          have f1 := fun ob => obj_free (obj_alloc hbox ob) 1
          have f2 := fun ob => obj_free (obj_alloc hbox ob) 2

          have H4 := Lib.hid (HZ.out.trans (hb5.mono HZ.out.size))
          clear hb5 hbox e0 e1 e2
          go_wp2
          first
            | (refine bodyPost_ret (v := .tuple #[.agg #[.int .i64 p1, .bool p2, .bool p3], .bool true, .int .i64 0]) (by simp [results, Tryd.results18, go_sem, *]) rfl ⟨by rw [HV.out], ?_⟩; exact below_set3' (H4.out.alloc H4.out.size _) (Nat.le_refl _) _ _ _)
            | (refine bodyPost_ret (v := .tuple #[.agg #[.int .i64 0, .bool false, .bool false], .bool false, .int .i64 2]) (by simp [results, Tryd.results18, go_sem, *]) rfl ⟨by rw [HV.out], ?_⟩; exact below_set3' (H4.out.alloc H4.out.size _) (Nat.le_refl _) _ _ _)
    · obtain rfl : k = n := by omega
      have hfi := HNo.out (fun j hj => hall j hj (by rw [← HL.out]; exact hj))
      have hR : (L.any fun c => c.2.1) = cr := by
        rw [← hcr, List.take_of_length_le (by rw [HL.out]; exact Nat.le_refl _)]
      have hv := HNn.out hfi cr hR
      have HV := Lib.hid hv
      have hbox := obj_below HG.out hb HXL.out
      have b0 := obj_cell hbox 0 _ rfl
      have b1 := obj_cell hbox 1 _ rfl
      have b2 := obj_cell hbox 2 _ rfl
      have f0 := obj_free hbox 0
      have f1 := obj_free hbox 1
      have f2 := obj_free hbox 2

      have H4 := Lib.hid (HZ.out.trans (hb.mono HZ.out.size))
      clear hb hall hfi hR hv hbox hcr
      go_wp2
      refine bodyPost_ret (v := .tuple #[.agg #[.int .i64 0, .bool false, .bool false], .bool false, .int .i64 m]) (by simp [results, Tryd.results18, go_sem, *]) rfl ⟨by rw [HV.out, ← HMm.out], ?_⟩
      exact below_set3' H4.out (Nat.le_refl _) _ _ _
end Go.Proofs.YtlnfbjgadcifkaaDoor
