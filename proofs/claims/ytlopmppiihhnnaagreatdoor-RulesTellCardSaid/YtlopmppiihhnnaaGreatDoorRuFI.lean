/- Parts as an argument; whether parts may be asked for. The code's parts as small letters, for all parts. The code's Subs, for every value and all parts. The code's Subs, for every value and all parts. -/
import Derived.Test.YtlopmppiihhnnaaGreatDoorRuAD
import Derived.Test.YtlopmppiihhnnaaGreatDoorLays
namespace Go.Proofs.YtlopmppiihhnnaaGreatDoor
set_option linter.unusedSimpArgs false
set_option linter.unusedVariables false
open Go Go.RowKit Go.Proofs.BerK Go.Proofs.MemK Go.Proofs.UtfK

/-- Texts lie in memory, to be read. -/
def TxR (w : World) (v : Value) (l : List (List UInt8)) : Prop :=
  ∃ a c, v = .slice a l.length c ∧ ∀ i (hi : i < l.length), ∃ g o, a = some ⟨g, o, none⟩ ∧ g < w.heap.size ∧ w.cell? ⟨g, o + i, none⟩ = some (.string ⟨l[i].toArray⟩)
theorem txR_below {w w' : World} {v : Value} {l : List (List UInt8)} (h : TxR w v l) (hb : Below w.heap.size w w') : TxR w' v l := by
  obtain ⟨a, c, rfl, h⟩ := h
  refine ⟨a, c, rfl, fun i hi => ?_⟩
  obtain ⟨g, o, h1, h2, h3⟩ := h i hi
  exact ⟨g, o, h1, Nat.lt_of_lt_of_le h2 hb.size, (hb.cell (p := ⟨g, o + i, none⟩) h2).trans h3⟩
theorem txR_owns {w : World} {B : Nat} {e : TypeId} {v : Value} {l : List (List UInt8)} (h : w.ownsRow B e 1 v l.length (sc l)) : TxR w v l := by
  obtain ⟨a, c, hv, hc⟩ := strU_owns h
  refine ⟨a, c, hv, fun i hi => ?_⟩
  obtain ⟨g, h1, h2, h3⟩ := hc i hi
  exact ⟨g, 0, h1, h2, by rw [Nat.zero_add]; exact h3⟩
theorem txR_str {w : World} {v : Value} {l : List (List UInt8)} (h : StrAt w v l) : TxR w v l := by
  rcases h with ⟨rfl, a, c, rfl⟩ | ⟨h0, g, o, c, rfl, hg, hq⟩
  · exact ⟨a, c, rfl, fun i hi => by simp at hi⟩
  · exact ⟨some ⟨g, o, none⟩, c, rfl, fun i hi => ⟨g, o, rfl, hg, hq i hi⟩⟩
theorem txR_nil (w : World) (a : Option Addr) (c : Nat) : TxR w (.slice a 0 c) [] := ⟨a, c, rfl, fun i hi => by simp at hi⟩
theorem txR_new (w : World) (l : List (List UInt8)) (e : TypeId) : TxR (w.alloc (.cells (sc l).toArray e)) (.slice (some ⟨w.heap.size, 0, none⟩) l.length l.length) l := by
  obtain ⟨a, c, hv, hc⟩ := strU_new w l e
  refine ⟨a, c, hv, fun i hi => ?_⟩
  obtain ⟨g, h1, h2, h3⟩ := hc i hi
  exact ⟨g, 0, h1, h2, by rw [Nat.zero_add]; exact h3⟩
/-- The library's variable holds a number. -/
def MlOk (w : World) : Prop := ∃ m, w.cell? ⟨0, 0, none⟩ = some (.int .i64 m)
theorem mlOk_below {w w' : World} (h : MlOk w) (hb : Below w.heap.size w w') : MlOk w' := by
  obtain ⟨m, hm⟩ := h
  exact ⟨m, (hb.cell (p := ⟨0, 0, none⟩) (Lib.lt_of_cell hm)).trans hm⟩

theorem rucont_any (l : List (List UInt8)) (a : Option Addr) (c : Nat) (w : World) (hl : l.length ≤ 9223372036854775807) (h : TxR w (.slice a l.length c) l) :
    Calls Tryz.prog 50 #[.slice a l.length c, .string ⟨#[]⟩] w (PureB (l.any List.isEmpty) w) := by
  by_cases h0 : l = []
  · subst h0
    exact Any.slices_Contains_string_empty Tryz.cont8 a c ⟨#[]⟩ w
  · obtain ⟨a', c', hv, hc⟩ := h
    injection hv with hv1 _ hv3
    subst hv1 hv3
    obtain ⟨g, o, rfl, _, _⟩ := hc 0 (by cases l <;> simp_all)
    refine (Any.slices_Contains_string Tryz.cont8 g o l.length c (l.map fun x => ⟨x.toArray⟩) ⟨#[]⟩ w (by simp) hl ?_).mono ?_
    · intro j hj
      have hj' : j < l.length := by simpa using hj
      obtain ⟨g', o', e, _, h3⟩ := hc j hj'
      injection e with e
      injection e with e1 e2 _
      subst e1 e2
      rw [h3]
      simp [List.getD, hj']
    · rintro en w' ⟨rfl, rfl⟩
      refine ⟨?_, rfl⟩
      congr 2
      rw [Bool.eq_iff_iff, Lib.containsS_iff, List.take_of_length_le (by simp), List.any_eq_true, List.mem_map]
      constructor
      · rintro ⟨x, hx, e⟩
        refine ⟨x, hx, ?_⟩
        have := congrArg (fun b : ByteArray => b.data.toList) e
        simp at this
        simp [this]
      · rintro ⟨x, hx, e⟩
        have : x = [] := by simpa using e
        subst this
        exact ⟨[], hx, rfl⟩
theorem asked_none : asked [] [] [] = false := rfl
theorem asked_some {h : List UInt8} {ms : List (List UInt8)} {t : List UInt8} (hn : ¬ (h = [] ∧ ms = [] ∧ t = [])) : asked h ms t = (decide (ms.length ≤ 16) && !ms.any List.isEmpty) := by
  have e : (h.isEmpty && ms.isEmpty && t.isEmpty) = false := by
    cases hq : (h.isEmpty && ms.isEmpty && t.isEmpty)
    · rfl
    · simp at hq
      exact absurd ⟨hq.1.1, hq.1.2, hq.2⟩ hn
  unfold asked
  rw [e, Bool.not_false, Bool.true_and, List.all_eq_not_any_not]
  simp
set_option maxHeartbeats 1600000 in
set_option maxRecDepth 100000 in
theorem rumay_any (h t : List UInt8) (ms : List (List UInt8)) (a : Option Addr) (c : Nat) (w : World) (hl : ms.length ≤ 9223372036854775807) (hm : TxR w (.slice a ms.length c) ms) :
    Calls Tryz.prog 29 #[.agg #[.string ⟨h.toArray⟩, .slice a ms.length c, .string ⟨t.toArray⟩]] w (BoolPost (asked h ms t) w) := by
  by_cases h0 : h = [] ∧ ms = [] ∧ t = []
  · obtain ⟨rfl, rfl, rfl⟩ := h0
    go_enter Tryz.func29, Tryz.ntmps29
    go_wp2
    go_ret
    exact boolPost_mk rfl ((Below.refl _ w).alloc (Nat.le_refl _) _)
  · have HC := Lib.hid (fun w' (hb : Below w.heap.size w w') => rucont_any ms a c w' hl (txR_below hm hb))
    have hA := asked_some h0
    obtain ⟨q, hq⟩ : ∃ q, ms.any List.isEmpty = q := ⟨_, rfl⟩
    rw [hq] at HC hA
    have hw : h.isEmpty = false ∨ (h.isEmpty = true ∧ ((ms.length : Int) == 0) = false) ∨ (h.isEmpty = true ∧ ((ms.length : Int) == 0) = true ∧ t.isEmpty = false) := by
      by_cases h1 : h = []
      · by_cases h2 : ms = []
        · refine .inr (.inr ⟨by simp [h1], by simp [h2], ru_ne fun h3 => h0 ⟨h1, h2, h3⟩⟩)
        · refine .inr (.inl ⟨by simp [h1], ?_⟩)
          rw [beq_eq_false_iff_ne]
          intro e
          exact h2 (List.eq_nil_of_length_eq_zero (by omega))
      · exact .inl (ru_ne h1)
    obtain ⟨n, hn⟩ : ∃ n, ms.length = n := ⟨_, rfl⟩
    rw [hn] at HC hA hw ⊢
    by_cases h16 : n ≤ 16
    · have HA := Lib.hid (show asked h ms t = !q by rw [hA]; simp [h16])
      have q16 : (n : Int) ≤ 16 := by omega
      clear hm h0 hA hq hn hl
      rcases hw with q1 | ⟨q1, q2⟩ | ⟨q1, q2, q3⟩
      all_goals
        go_enter Tryz.func29, Tryz.ntmps29
        go_wp2_with fail
        refine Calls.mono (HC.out _ ((Below.refl _ w).alloc (Nat.le_refl _) _)) ?_
        rintro e w1 ⟨rfl, hw⟩
        obtain rfl := hw.symm
        go_wp2
        go_ret
        exact boolPost_mk HA.out ((Below.refl _ w).alloc (Nat.le_refl _) _)
    · have HA := Lib.hid (show asked h ms t = false by rw [hA]; simp [h16])
      have q16 : ¬ (n : Int) ≤ 16 := by omega
      clear hm h0 hA hq hn hl HC
      rcases hw with q1 | ⟨q1, q2⟩ | ⟨q1, q2, q3⟩
      all_goals
        go_enter Tryz.func29, Tryz.ntmps29
        go_wp2
        go_ret
        exact boolPost_mk HA.out ((Below.refl _ w).alloc (Nat.le_refl _) _)
end Go.Proofs.YtlopmppiihhnnaaGreatDoor
namespace Go.Proofs.YtlopmppiihhnnaaGreatDoor
set_option linter.unusedSimpArgs false
set_option linter.unusedVariables false
open Go Go.RowKit Go.Proofs.BerK Go.Proofs.MemK Go.Proofs.UtfK

def LwPost (h : List UInt8) (ms : List (List UInt8)) (t : List UInt8) (w : World) (en : Ending) (w' : World) : Prop :=
  ∃ a c, en = .returned (.agg #[.string ⟨h.toArray⟩, .slice a ms.length c, .string ⟨t.toArray⟩]) ∧ TxR w' (.slice a ms.length c) ms ∧ Below w.heap.size w w' ∧ ∀ g o, a = some ⟨g, o, none⟩ → w.heap.size ≤ g
theorem cell_other3 {w : World} {a b : Nat} (h : a ≠ b) (i j l k : Nat) (u v x : Value) : (((w.setCell ⟨b, i, none⟩ u).setCell ⟨b, j, none⟩ v).setCell ⟨b, l, none⟩ x).cell? ⟨a, k, none⟩ = w.cell? ⟨a, k, none⟩ :=
  World.cell?_of_block (w := w) (a := ⟨a, k, none⟩) (((Below.heap_setCell _ ⟨b, l, none⟩ x a h).trans (Below.heap_setCell _ ⟨b, j, none⟩ v a h)).trans (Below.heap_setCell w ⟨b, i, none⟩ u a h))
theorem txR_other3 {w : World} {a : Option Addr} {n c : Nat} {l : List (List UInt8)} (h : TxR w (.slice a n c) l) {b : Nat} (hb : ∀ g o, a = some ⟨g, o, none⟩ → g ≠ b) (i j k : Nat) (u v x : Value) : TxR (((w.setCell ⟨b, i, none⟩ u).setCell ⟨b, j, none⟩ v).setCell ⟨b, k, none⟩ x) (.slice a n c) l := by
  obtain ⟨a', c', hv, h⟩ := h
  injection hv with hv1 hv2 hv3
  subst hv1 hv2 hv3
  refine ⟨a, c, rfl, fun q hq => ?_⟩
  obtain ⟨g, o, h1, h2, h3⟩ := h q hq
  refine ⟨g, o, h1, by simpa using h2, (cell_other3 (hb g o h1) _ _ _ _ _ _ _).trans h3⟩
set_option maxHeartbeats 6400000 in
set_option maxRecDepth 100000 in
theorem rulower_any (h t : List UInt8) (ms : List (List UInt8)) (a : Option Addr) (c : Nat) (w : World) (hl : ms.length ≤ 1000) (hm : TxR w (.slice a ms.length c) ms) :
    Calls Tryz.prog 30 #[.agg #[.string ⟨h.toArray⟩, .slice a ms.length c, .string ⟨t.toArray⟩]] w (LwPost (lowL h) (ms.map lowL) (lowL t) w) := by
  obtain ⟨a', c', hv, hcells⟩ := hm
  injection hv with hv1 _ hv3
  subst hv1 hv3
  have HM := Lib.hid hcells
  have HH := Lib.hid (fun w => show Calls Tryz.prog 16 #[.string ⟨h.toArray⟩] w (StrPost (lowL h) w) from lower_any ⟨h.toArray⟩ w)
  have HT := Lib.hid (fun w => show Calls Tryz.prog 16 #[.string ⟨t.toArray⟩] w (StrPost (lowL t) w) from lower_any ⟨t.toArray⟩ w)
  obtain ⟨LH, hLH⟩ : ∃ L, lowL h = L := ⟨_, rfl⟩
  obtain ⟨LT, hLT⟩ : ∃ L, lowL t = L := ⟨_, rfl⟩
  rw [hLH] at HH ⊢
  rw [hLT] at HT ⊢
  obtain ⟨L, hL⟩ : ∃ L, ms.map lowL = L := ⟨_, rfl⟩
  have hLl : L.length = ms.length := by rw [← hL]; simp
  have HL := Lib.hid hL
  have HLl := Lib.hid hLl
  rw [hL]
  obtain ⟨n, hn⟩ : ∃ n, ms.length = n := ⟨_, rfl⟩
  have HN := Lib.hid hn
  rw [hn] at hl hLl ⊢
  obtain ⟨i0, hi, hz0, hz1, hz2⟩ := info_parts Tryz.dninfo9
  have HI := Lib.hid hi
  have HZ0 := Lib.hid hz0
  have HZ1 := Lib.hid hz1
  have HZ2 := Lib.hid hz2
  clear hi hz0 hz1 hz2 hcells hLH hLT hL hn
  go_enter Tryz.func30, Tryz.ntmps30
  go_wp2_with (at_make; refine wpList_make_full _ rfl _ _ 23 rfl (w.heap.size + 1 + 1) 9 i0 (.string ByteArray.empty) 1 Tryz.underlying23 HI.out HZ0.out HZ1.out _ _ _ _ n rfl rfl ?e1 ?e2 ?b0 ?b1 ?b2 ?_)
  case e1 => rfl
  case e2 => rfl
  case b0 => rw [HZ2.out]; omega
  case b1 => unfold maxLen; omega
  intro w3 hown3 hg3
  have hb3 := (Below.refl _ _).grown hg3 (Nat.le_refl _) (fun k hk => by cases hk)
  obtain ⟨x0, x1⟩ := six hb3
  have hb03 : Below w.heap.size w w3 := (((Below.refl _ w).alloc (Nat.le_refl _) _).alloc (by simp) _).trans (hb3.mono (by simp; omega))
  have e0 := preS_0 L
  rw [hLl] at e0
  rw [← e0] at hown3
  have hs3 : w.heap.size + 1 + 1 ≤ w3.heap.size := by have := hb3.size; simp at this; omega
  have HX := Lib.hid (And.intro x0 (And.intro x1 hb03))
  have y1 := (obj3 x0).2.1
  clear e0 hg3 hb3 x0 x1 hb03
  go_wp2
  clear y1
  go_loopw [13] (fun v wr => ∃ i : Nat, i ≤ n ∧ v = .int .i64 (i : Nat) ∧ wr.ownsRow (w.heap.size + 1 + 1) 9 1 (.slice (some ⟨w.heap.size + 1 + 1, 0, none⟩) n n) n (sc (preS L i)) ∧ Below (w.heap.size + 1 + 1) w3 wr) (fun v _ => n - (intOf v).toNat)
  case atStart => exact ⟨0, by omega, rfl, hown3, Below.refl _ _⟩
  case round =>
    obtain ⟨i, hi, rfl, hown, hb⟩ := hrel
    have hsr : w.heap.size + 1 + 1 ≤ wr.heap.size := Nat.le_trans hs3 hb.size
    by_cases hlt : i < n
    · have hil : (i : Int) < (n : Int) := by omega
      have hims : i < ms.length := by rw [HN.out]; exact hlt
      obtain ⟨g, o, rfl, hg, e1w⟩ := HM.out i hims
      have e1 := (hb.cell (p := ⟨g, o + i, none⟩) (by show g < _; omega)).trans ((HX.out.2.2.cell (p := ⟨g, o + i, none⟩) hg).trans e1w)
      have hiL : i < L.length := by rw [hLl]; exact hlt
      have hLi : L[i] = lowL ms[i] := by
        have := HL.out
        subst this
        simp
      have hset := preS_set L i hiL
      have hat := preS_at L i hiL
      rw [hLi] at hset
      obtain ⟨m, hmm⟩ : ∃ m, ms[i] = m := ⟨_, rfl⟩
      rw [hmm] at e1 hset
      have HLo := Lib.hid (fun w => show Calls Tryz.prog 16 #[.string ⟨m.toArray⟩] w (StrPost (lowL m) w) from lower_any ⟨m.toArray⟩ w)
      obtain ⟨LM, hLM⟩ : ∃ x, lowL m = x := ⟨_, rfl⟩
      rw [hLM] at HLo hset
      have H := Lib.hid (And.intro hown (And.intro hb (And.intro hset hat)))
      clear hown hb hset hat hLi hmm hLM e1w
      go_wp2_with fail
      refine (HLo.out _).mono ?_
      rintro e w5 ⟨rfl, hb5⟩
      have hown5 := ownsRow_below H.out.1 hb5
      have c0 := (hown5.cellAt i (by omega)).trans H.out.2.2.2
      have f0 := hown5.frozenAt i
      have H5 := Lib.hid (And.intro hown5 (H.out.2.1.trans (hb5.mono hsr)))
      clear hown5 hb5
      go_wp2
      refine ⟨⟨i + 1, by omega, by go_num, ?_, ?_⟩, by simp [intOf]; omega⟩
      · have h7 := (H5.out.1.stored i (.string ⟨LM.toArray⟩)).1
        rw [H.out.2.2.1] at h7
        exact h7
      · exact H5.out.2.setCell (p := ⟨w.heap.size + 1 + 1, i, none⟩) (Nat.le_refl _) _
    · obtain rfl : i = n := by omega
      rw [← hLl, preS_all, hLl] at hown
      have x0 := obj_below HX.out.1 hb (by omega)
      have x1 := obj_below HX.out.2.1 hb (by omega)
      obtain ⟨d0, d1, d2⟩ := obj3 x0
      have r0 := (obj3 x1).1
      have r1 := (obj3 x1).2.1
      have r2 := (obj3 x1).2.2
      have g0 := obj_free x1 0
      have g1 := obj_free x1 1
      have g2 := obj_free x1 2
      have hne : w.heap.size ≠ w.heap.size + 1 := by omega
      have z0 : w.heap.size < wr.heap.size := by omega
      have z1 : w.heap.size + 1 < wr.heap.size := by omega
      have H := Lib.hid (And.intro hown (And.intro (HX.out.2.2.trans (hb.mono (by omega))) x1))
      clear hown hb x0 x1
      go_wp2_with fail
      go_region_held3 (fun w' => w'.cell? ⟨w.heap.size, 0, none⟩ = some (.string ⟨h.toArray⟩) ∧ w'.cell? ⟨w.heap.size, 2, none⟩ = some (.string ⟨t.toArray⟩)) (first | exact ⟨e0, e2⟩ | exact ⟨d0, d2⟩ | exact ⟨(cell_other3 hne _ _ _ _ _ _ _).trans e0, (cell_other3 hne _ _ _ _ _ _ _).trans e2⟩ | go_keep)
        (first | (go_at_call 16; (with_reducible refine (HH.out _).mono ?_); rintro en w5 ⟨rfl, hb5⟩; have hbW : Below wr.heap.size wr w5 := (by first | exact hbW.trans (hb5.mono hbW.size) | exact (Below.refl _ wr).drew.trans hb5); have e0 := (hbW.cell (p := ⟨w.heap.size, 0, none⟩) z0).trans d0; have e2 := (hbW.cell (p := ⟨w.heap.size, 2, none⟩) z0).trans d2; have s0 := (hbW.cell (p := ⟨w.heap.size + 1, 0, none⟩) z1).trans r0; have s1 := (hbW.cell (p := ⟨w.heap.size + 1, 1, none⟩) z1).trans r1; have s2 := (hbW.cell (p := ⟨w.heap.size + 1, 2, none⟩) z1).trans r2; have k0 := (hbW.frozen (p := ⟨w.heap.size + 1, 0, none⟩) z1).trans g0; have k1 := (hbW.frozen (p := ⟨w.heap.size + 1, 1, none⟩) z1).trans g1; have k2 := (hbW.frozen (p := ⟨w.heap.size + 1, 2, none⟩) z1).trans g2) | (go_at_call 16; (with_reducible refine (HT.out _).mono ?_); rintro en w5 ⟨rfl, hb5⟩; have hbW : Below wr.heap.size wr w5 := (by first | exact hbW.trans (hb5.mono hbW.size) | exact (Below.refl _ wr).drew.trans hb5); have e0 := (hbW.cell (p := ⟨w.heap.size, 0, none⟩) z0).trans d0; have e2 := (hbW.cell (p := ⟨w.heap.size, 2, none⟩) z0).trans d2; have s0 := (hbW.cell (p := ⟨w.heap.size + 1, 0, none⟩) z1).trans r0; have s1 := (hbW.cell (p := ⟨w.heap.size + 1, 1, none⟩) z1).trans r1; have s2 := (hbW.cell (p := ⟨w.heap.size + 1, 2, none⟩) z1).trans r2; have k0 := (hbW.frozen (p := ⟨w.heap.size + 1, 0, none⟩) z1).trans g0; have k1 := (hbW.frozen (p := ⟨w.heap.size + 1, 1, none⟩) z1).trans g1; have k2 := (hbW.frozen (p := ⟨w.heap.size + 1, 2, none⟩) z1).trans g2))
      have hrow := ownsRow_below H.out.1 hbW
      have hbx := obj_below H.out.2.2 hbW z1
      have HW := Lib.hid (And.intro hrow (And.intro (H.out.2.1.trans (hbW.mono H.out.2.1.size)) hbx))
      clear hrow hbx hbW hb5 e0 e2 d0 d1 d2
      go_wp2
      have hfx := obj3 (obj_set3 HW.out.2.2 (.string ⟨LH.toArray⟩) (.slice (some ⟨w.heap.size + 1 + 1, 0, none⟩) i i) (.string ⟨LT.toArray⟩))
      obtain ⟨j0, j1, j2⟩ := hfx
      refine bodyPost_ret (v := .agg #[.string ⟨LH.toArray⟩, .slice (some ⟨w.heap.size + 1 + 1, 0, none⟩) i i, .string ⟨LT.toArray⟩]) (by simp [results, Tryz.results30, go_sem, *]) rfl ?_
      refine ⟨some ⟨w.heap.size + 1 + 1, 0, none⟩, i, by rw [hLl], ?_, below_set3 HW.out.2.1 (by omega) _ _ _, fun g o e => by injection e with e; injection e with e; omega⟩
      rw [hLl]
      have ho := HW.out.1
      rw [← hLl] at ho
      have hx := txR_other3 (txR_owns ho) (b := w.heap.size + 1) (fun g o e => by injection e with e; injection e with e; omega) 0 1 2 (.string ⟨LH.toArray⟩) (.slice (some ⟨w.heap.size + 1 + 1, 0, none⟩) i i) (.string ⟨LT.toArray⟩)
      rw [hLl] at hx
      exact hx
end Go.Proofs.YtlopmppiihhnnaaGreatDoor
namespace Go.Proofs.YtlopmppiihhnnaaGreatDoor
set_option linter.unusedSimpArgs false
set_option linter.unusedVariables false
open Go Go.RowKit Go.Proofs.BerK Go.Proofs.MemK Go.Proofs.UtfK

theorem rucutp_any (s p : List UInt8) (w : World) : Calls Tryz.prog 35 #[.string ⟨s.toArray⟩, .string ⟨p.toArray⟩] w fun en w' => en = .returned (.tuple #[.string ⟨(Lib.trimPrefix s p).toArray⟩, .bool (Lib.hasPrefix s p)]) ∧ w' = w :=
  Any.strings_CutPrefix Tryz.cutPre8 ⟨s.toArray⟩ ⟨p.toArray⟩ w
theorem rucuts_any (s p : List UInt8) (w : World) (hs : s.length ≤ 9223372036854775807) : Calls Tryz.prog 51 #[.string ⟨s.toArray⟩, .string ⟨p.toArray⟩] w fun en w' => en = .returned (.tuple #[.string ⟨(Lib.trimSuffix s p).toArray⟩, .bool (Lib.hasSuffix s p)]) ∧ w' = w :=
  Any.strings_CutSuffix Tryz.cutSuf8 ⟨s.toArray⟩ ⟨p.toArray⟩ w hs
def CutR (c : List UInt8 × List UInt8 × Bool) (w : World) (en : Ending) (w' : World) : Prop := en = .returned (.tuple #[.string ⟨c.1.toArray⟩, .string ⟨c.2.1.toArray⟩, .bool c.2.2]) ∧ Below w.heap.size w w'
theorem rucut_any (s p : List UInt8) (w : World) (hs : s.length < 4294967281) (hm : MlOk w) : Calls Tryz.prog 52 #[.string ⟨s.toArray⟩, .string ⟨p.toArray⟩] w (CutR (Lib.cut s p) w) := by
  obtain ⟨m, hm⟩ := hm
  exact (Any.strings_Cut Tryz.cut8 ⟨s.toArray⟩ ⟨p.toArray⟩ m w hs hm).mono fun en w' ⟨h1, n, h2⟩ => ⟨h1, by rw [h2]; exact below_dn (Below.refl _ _) n⟩
theorem cut_len (s p : List UInt8) : (Lib.cut s p).2.1.length ≤ s.length := by
  unfold Lib.cut
  split
  · simp
  · simp
theorem mid_cons {ms : List (List UInt8)} {i : Nat} (hi : i < ms.length) (x : List UInt8) : midL (ms.drop i) x = ((Lib.cut x ms[i]).2.2 && midL (ms.drop (i + 1)) (Lib.cut x ms[i]).2.1) := by
  rw [List.drop_eq_getElem_cons hi, midL]
theorem mid_done (ms : List (List UInt8)) (x : List UInt8) : midL (ms.drop ms.length) x = true := by rw [List.drop_length, midL]
theorem edge_ways (s h t : List UInt8) : (Lib.hasPrefix s h = false ∧ Lib.trimPrefix s h = s ∧ edgeL s h t = false) ∨
    (Lib.hasPrefix s h = true ∧ Lib.trimPrefix s h = s.drop h.length ∧ Lib.hasSuffix (s.drop h.length) t = false ∧ edgeL s h t = false) ∨
    (Lib.hasPrefix s h = true ∧ Lib.trimPrefix s h = s.drop h.length ∧ Lib.hasSuffix (s.drop h.length) t = true ∧ Lib.trimSuffix (s.drop h.length) t = restL s h t ∧ edgeL s h t = true) := by
  unfold edgeL
  cases h1 : Lib.hasPrefix s h
  · exact .inl ⟨rfl, by simp [Lib.trimPrefix, h1], rfl⟩
  · cases h2 : Lib.hasSuffix (s.drop h.length) t
    · exact .inr (.inl ⟨rfl, by simp [Lib.trimPrefix, h1], rfl, rfl⟩)
    · exact .inr (.inr ⟨rfl, by simp [Lib.trimPrefix, h1], rfl, by simp [Lib.trimSuffix, h2, restL], rfl⟩)
theorem has_false {s h t : List UInt8} {ms : List (List UInt8)} (he : edgeL s h t = false) : hasL s h ms t = false := by unfold hasL; rw [he]; rfl
theorem has_true {s h t : List UInt8} {ms : List (List UInt8)} (he : edgeL s h t = true) : hasL s h ms t = midL ms (restL s h t) := by unfold hasL; rw [he]; rfl
set_option maxHeartbeats 3200000 in
set_option maxRecDepth 100000 in
theorem ruhas_any (s h t : List UInt8) (ms : List (List UInt8)) (a : Option Addr) (c : Nat) (w : World) (hs : s.length ≤ 4096) (hl : ms.length ≤ 1000) (hm : TxR w (.slice a ms.length c) ms) (hk : MlOk w) :
    Calls Tryz.prog 31 #[.string ⟨s.toArray⟩, .agg #[.string ⟨h.toArray⟩, .slice a ms.length c, .string ⟨t.toArray⟩]] w (BoolPost (hasL s h ms t) w) := by
  obtain ⟨a', c', hv, hcells⟩ := hm
  injection hv with hv1 _ hv3
  subst hv1 hv3
  have HM := Lib.hid hcells
  have HK := Lib.hid hk
  have HP := Lib.hid (fun w => rucutp_any s h w)
  have HS := Lib.hid (fun x w hx => rucuts_any x t w hx)
  have hb0 : Below w.heap.size w (w.alloc (.cells #[.string ⟨h.toArray⟩, .slice a ms.length c, .string ⟨t.toArray⟩] 25)) := (Below.refl _ w).alloc (Nat.le_refl _) _
  have HB0 := Lib.hid hb0
  have hd : (s.drop h.length).length ≤ 4096 := by rw [List.length_drop]; omega
  rcases edge_ways s h t with ⟨e1, e2, e3⟩ | ⟨e1, e2, e3, e4⟩ | ⟨e1, e2, e3, e4, e5⟩
  · rw [e1, e2] at HP
    have HS1 := Lib.hid (fun w => HS.out s w (by omega))
    have HR := Lib.hid (has_false (ms := ms) e3)
    obtain ⟨b, hb⟩ : ∃ b, Lib.hasSuffix s t = b := ⟨_, rfl⟩
    obtain ⟨y, hy⟩ : ∃ y, Lib.trimSuffix s t = y := ⟨_, rfl⟩
    rw [hb, hy] at HS1
    clear hcells hk hb0 hd e1 e2 e3 hb hy HS
    go_enter Tryz.func31, Tryz.ntmps31
    go_wp2_with fail
    refine (HP.out _).mono ?_
    rintro e w1 ⟨rfl, hw⟩
    obtain rfl := hw.symm
    go_wp2_with fail
    refine (HS1.out _).mono ?_
    rintro e w1 ⟨rfl, hw⟩
    obtain rfl := hw.symm
    go_wp2
    go_ret
    exact boolPost_mk HR.out HB0.out
  · rw [e1, e2] at HP
    obtain ⟨x, hx⟩ : ∃ x, s.drop h.length = x := ⟨_, rfl⟩
    rw [hx] at HP hd e3
    have HS1 := Lib.hid (fun w => HS.out x w (by omega))
    have HR := Lib.hid (has_false (ms := ms) e4)
    obtain ⟨y, hy⟩ : ∃ y, Lib.trimSuffix x t = y := ⟨_, rfl⟩
    rw [e3, hy] at HS1
    clear hcells hk hb0 hd e1 e2 e3 e4 hx hy HS
    go_enter Tryz.func31, Tryz.ntmps31
    go_wp2_with fail
    refine (HP.out _).mono ?_
    rintro e w1 ⟨rfl, hw⟩
    obtain rfl := hw.symm
    go_wp2_with fail
    refine (HS1.out _).mono ?_
    rintro e w1 ⟨rfl, hw⟩
    obtain rfl := hw.symm
    go_wp2
    go_ret
    exact boolPost_mk HR.out HB0.out
  · rw [e1, e2] at HP
    have hrl := rest_len s h t
    obtain ⟨x, hx⟩ : ∃ x, s.drop h.length = x := ⟨_, rfl⟩
    rw [hx] at HP hd e3 e4
    have HS1 := Lib.hid (fun w => HS.out x w (by omega))
    have hR := has_true (ms := ms) e5
    obtain ⟨y, hy⟩ : ∃ y, restL s h t = y := ⟨_, rfl⟩
    rw [hy] at e4 hR hrl
    rw [e3, e4] at HS1
    obtain ⟨R, hRR⟩ : ∃ R, hasL s h ms t = R := ⟨_, rfl⟩
    rw [hRR] at hR ⊢
    have HR := Lib.hid hR
    have HMC := Lib.hid (fun i hi x => mid_cons (ms := ms) (i := i) hi x)
    have HMD := Lib.hid (mid_done ms)
    have hy4 : y.length ≤ 4096 := by omega
    obtain ⟨n, hn⟩ : ∃ n, ms.length = n := ⟨_, rfl⟩
    have HN := Lib.hid hn
    rw [hn] at HB0 HMD hl ⊢
    clear hcells hk hb0 hd e1 e2 e3 e4 e5 hx hy hrl hRR hR HS hn
    go_enter Tryz.func31, Tryz.ntmps31
    go_wp2_with fail
    refine (HP.out _).mono ?_
    rintro e w1 ⟨rfl, hw⟩
    obtain rfl := hw.symm
    go_wp2_with fail
    refine (HS1.out _).mono ?_
    rintro e w1 ⟨rfl, hw⟩
    obtain rfl := hw.symm
    go_wp2
    go_loopw [0, 35] (fun v0 v wr => ∃ (i : Nat) (z : List UInt8), i ≤ n ∧ v = .int .i64 (i : Nat) ∧ v0 = .string ⟨z.toArray⟩ ∧ z.length ≤ 4096 ∧ R = midL (ms.drop i) z ∧ Below w.heap.size w wr) (fun _ v _ => n - (intOf v).toNat)
    case atStart => exact ⟨0, y, by omega, rfl, rfl, hy4, HR.out, HB0.out⟩
    case round =>
      obtain ⟨i, z, hi, rfl, rfl, hz, hinv, hb⟩ := hrel
      by_cases hlt : i < n
      · have hil : (i : Int) < (n : Int) := by omega
        have hims : i < ms.length := by rw [HN.out]; exact hlt
        obtain ⟨g, o, rfl, hg, e1w⟩ := HM.out i hims
        have e1 := (hb.cell (p := ⟨g, o + i, none⟩) hg).trans e1w
        rw [HMC.out i hims] at hinv
        obtain ⟨m, hmm⟩ : ∃ m, ms[i] = m := ⟨_, rfl⟩
        rw [hmm] at e1 hinv
        have HC := Lib.hid (rucut_any z m wr (by omega) (mlOk_below HK.out hb))
        have hcl := cut_len z m
        obtain ⟨C, hC⟩ : ∃ C, Lib.cut z m = C := ⟨_, rfl⟩
        rw [hC] at HC hcl hinv
        obtain ⟨c1, c2, c3⟩ := C
        have hcl2 : c2.length ≤ 4096 := Nat.le_trans hcl hz
        have HB := Lib.hid hb
        cases c3
        · have HI := Lib.hid (show R = false by rw [hinv]; rfl)
          clear hinv hb hcl e1w hmm hC
          go_wp2_with fail
          refine HC.out.mono ?_
          rintro e w2 ⟨rfl, hb2⟩
          have B2 := Lib.hid (HB.out.trans (hb2.mono HB.out.size))
          clear hb2
          go_wp2
          go_ret
          exact boolPost_mk HI.out B2.out
        · have HI := Lib.hid (show R = midL (ms.drop (i + 1)) c2 by rw [hinv]; rfl)
          clear hinv hb hcl e1w hmm hC
          go_wp2_with fail
          refine HC.out.mono ?_
          rintro e w2 ⟨rfl, hb2⟩
          have B2 := Lib.hid (HB.out.trans (hb2.mono HB.out.size))
          clear hb2
          go_wp2
          exact ⟨⟨i + 1, c2, by omega, by go_num, rfl, hcl2, HI.out, B2.out⟩, by simp [intOf]; omega⟩
      · obtain rfl : i = n := by omega
        have HI := Lib.hid (show R = true by rw [hinv, HMD.out])
        have HB := Lib.hid hb
        clear hinv hb
        go_wp2
        go_ret
        exact boolPost_mk HI.out HB.out
end Go.Proofs.YtlopmppiihhnnaaGreatDoor
namespace Go.Proofs.YtlopmppiihhnnaaGreatDoor
set_option linter.unusedSimpArgs false
set_option linter.unusedVariables false
open Go Go.RowKit Go.Proofs.BerK Go.Proofs.MemK Go.Proofs.UtfK

theorem sub_undef {r : Int} {p : List UInt8 × Bool} {h : List UInt8} {ms : List (List UInt8)} {t : List UInt8} (hn : p.2 = false ∨ asked h ms t = false ∨ (r ≠ 1 ∧ r ≠ 2)) : subP r p h ms t = 2 := by
  unfold subP
  rw [if_neg]
  rintro ⟨h1, h2, h3⟩
  rcases hn with hn | hn | ⟨hn1, hn2⟩
  · rw [h1] at hn; cases hn
  · rw [h2] at hn; cases hn
  · omega
theorem sub_1 (x h : List UInt8) (ms : List (List UInt8)) (t : List UInt8) (ha : asked h ms t = true) : subP 1 (x, true) h ms t = tv (hasL x (lowL h) (ms.map lowL) (lowL t)) := sub_one x h ms t ha
theorem sub_2 (x h : List UInt8) (ms : List (List UInt8)) (t : List UInt8) (ha : asked h ms t = true) : subP 2 (x, true) h ms t = tv (hasL x h ms t) := by
  unfold subP
  rw [if_pos ⟨rfl, ha, .inr rfl⟩]
  have : lwR 2 = id := by funext y; simp [lwR]
  simp [this]
theorem asked_len {h : List UInt8} {ms : List (List UInt8)} {t : List UInt8} (ha : asked h ms t = true) : ms.length ≤ 16 := by
  unfold asked at ha
  simp only [Bool.and_eq_true, decide_eq_true_eq] at ha
  exact ha.1.2
/-- A box of three cells behind a call. -/
theorem box3 {w w1 : World} {a b c : Value} {t : TypeId} (hb : Below (w.alloc (.cells #[a, b, c] t)).heap.size (w.alloc (.cells #[a, b, c] t)) w1) : w1.heap[w.heap.size]? = some (.cells #[a, b, c] t (0, 0)) ∧ Below w.heap.size w w1 :=
  ⟨obj_below (heap_alloc_new w _) hb (by simp), ((Below.refl _ w).alloc (Nat.le_refl _) _).trans (hb.mono (by simp))⟩
set_option maxHeartbeats 6400000 in
set_option maxRecDepth 100000 in
theorem rusubs_any (r : Int) (s h t : List UInt8) (ms : List (List UInt8)) (a : Option Addr) (c : Nat) (w : World) (hl : ms.length ≤ 9223372036854775807) (hm : TxR w (.slice a ms.length c) ms) (he : ErrOk w) (hk : MlOk w) :
    Calls Tryz.prog 14 #[.int .i64 r, .string ⟨s.toArray⟩, .agg #[.string ⟨h.toArray⟩, .slice a ms.length c, .string ⟨t.toArray⟩]] w (IPost (subP r (ruN r s) h ms t) w) := by
  have HN := Lib.hid (fun w' (hb : Below w.heap.size w w') => runorm_any r s w' (errOk_below he hb))
  have HA := Lib.hid (fun w' (hb : Below w.heap.size w w') => rumay_any h t ms a c w' hl (txR_below hm hb))
  have HT := Lib.hid rutruth_any
  have hxl := ru_len r s
  obtain ⟨p, hp⟩ : ∃ p, ruN r s = p := ⟨_, rfl⟩
  rw [hp] at HN hxl ⊢
  obtain ⟨x, ok⟩ := p
  have hb0 : Below w.heap.size w (w.alloc (.cells #[.string ⟨h.toArray⟩, .slice a ms.length c, .string ⟨t.toArray⟩] 25)) := (Below.refl _ w).alloc (Nat.le_refl _) _
  have HB0 := Lib.hid hb0
  have HLo := Lib.hid (fun (hl16 : ms.length ≤ 1000) w' (hb : Below w.heap.size w w') => rulower_any h t ms a c w' hl16 (txR_below hm hb))
  have HH2 := Lib.hid (fun (hl16 : ms.length ≤ 1000) w' (hb : Below w.heap.size w w') => ruhas_any x h t ms a c w' hxl hl16 (txR_below hm hb) (mlOk_below hk hb))
  have HH1 := Lib.hid (fun h t (ms : List (List UInt8)) a c w' (hl16 : ms.length ≤ 1000) hm (hb : Below w.heap.size w w') => ruhas_any x h t ms a c w' hxl hl16 hm (mlOk_below hk hb))
  obtain ⟨A, hA⟩ : ∃ A, asked h ms t = A := ⟨_, rfl⟩
  rw [hA] at HA
  have HU := Lib.hid (sub_undef (r := r) (p := (x, ok)) (h := h) (ms := ms) (t := t))
  have hL16 : A = true → ms.length ≤ 16 := fun e => asked_len (hA.trans e)
  have HS1 := Lib.hid (fun e => sub_1 x h ms t (hA.trans e))
  have HS2 := Lib.hid (fun e => sub_2 x h ms t (hA.trans e))
  have HQA := Lib.hid hA
  obtain ⟨n, hn⟩ : ∃ n, ms.length = n := ⟨_, rfl⟩
  have HNn := Lib.hid hn
  rw [hn] at HA HB0 HLo HH2 hL16 ⊢
  clear hp hb0 hm he hk hxl hA hn hl
  cases ok
  · have HR := Lib.hid (HU.out (.inl rfl))
    go_enter Tryz.func14, Tryz.ntmps14
    go_wp2_with fail
    refine Calls.mono (HN.out _ HB0.out) ?_
    rintro e w1 ⟨rfl, hb1⟩
    have B1 := Lib.hid (box3 hb1)
    clear hb1
    go_wp2
    go_ret
    exact iPost_mk HR.out B1.out.2
  cases A
  · have HR := Lib.hid (HU.out (.inr (.inl HQA.out)))
    go_enter Tryz.func14, Tryz.ntmps14
    go_wp2_with fail
    refine Calls.mono (HN.out _ HB0.out) ?_
    rintro e w1 ⟨rfl, hb1⟩
    have B1 := Lib.hid (box3 hb1)
    clear hb1
    obtain ⟨b0, b1, b2⟩ := obj3 B1.out.1
    go_wp2_with fail
    refine Calls.mono (HA.out _ B1.out.2) ?_
    rintro e w2 ⟨rfl, hb2⟩
    have B2 := Lib.hid (B1.out.2.trans (hb2.mono B1.out.2.size))
    clear hb2 b0 b1 b2
    go_wp2
    go_ret
    exact iPost_mk HR.out B2.out
  have hL16 := hL16 rfl
  have hl16 : n ≤ 1000 := by omega
  by_cases h1 : r = 1
  · subst h1
    have hR := HS1.out rfl
    obtain ⟨LH, hLH⟩ : ∃ q, lowL h = q := ⟨_, rfl⟩
    obtain ⟨LT, hLT⟩ : ∃ q, lowL t = q := ⟨_, rfl⟩
    obtain ⟨M, hM⟩ : ∃ q, ms.map lowL = q := ⟨_, rfl⟩
    have hMl : M.length = n := by rw [← hM, ← HNn.out]; simp
    rw [hLH, hLT, hM] at hR
    obtain ⟨q, hq⟩ : ∃ q, hasL x LH M LT = q := ⟨_, rfl⟩
    rw [hq] at hR
    have HR := Lib.hid hR
    have HL1 : Hid (∀ w' (hb : Below w.heap.size w w'), Calls Tryz.prog 30 #[.agg #[.string ⟨h.toArray⟩, .slice a n c, .string ⟨t.toArray⟩]] w' fun en w'' => ∃ a c, en = .returned (.agg #[.string ⟨LH.toArray⟩, .slice a n c, .string ⟨LT.toArray⟩]) ∧ TxR w'' (.slice a n c) M ∧ Below w'.heap.size w' w'' ∧ ∀ g o, a = some ⟨g, o, none⟩ → w'.heap.size ≤ g) := by
      refine Lib.hid fun w' hb => ?_
      have := HLo.out hl16 w' hb
      unfold LwPost at this
      rw [hLH, hLT, hM, hMl] at this
      exact this
    have HHs : Hid (∀ a c w', TxR w' (.slice a n c) M → Below w.heap.size w w' → Calls Tryz.prog 31 #[.string ⟨x.toArray⟩, .agg #[.string ⟨LH.toArray⟩, .slice a n c, .string ⟨LT.toArray⟩]] w' (BoolPost q w')) := by
      refine Lib.hid fun a c w' hx hb => ?_
      have := HH1.out LH LT M a c w' (by omega) (by rw [hMl]; exact hx) hb
      rw [hMl, hq] at this
      exact this
    clear hLH hLT hM hMl hq hR HLo HH1 HH2
    go_enter Tryz.func14, Tryz.ntmps14
    go_wp2_with fail
    refine Calls.mono (HN.out _ HB0.out) ?_
    rintro e w1 ⟨rfl, hb1⟩
    have B1 := Lib.hid (box3 hb1)
    clear hb1
    obtain ⟨b0, b1, b2⟩ := obj3 B1.out.1
    go_wp2_with fail
    refine Calls.mono (HA.out _ B1.out.2) ?_
    rintro e w2 ⟨rfl, hb2⟩
    have B2 := Lib.hid (And.intro (obj_below B1.out.1 hb2 (obj_lt B1.out.1)) (B1.out.2.trans (hb2.mono B1.out.2.size)))
    clear hb2 b0 b1 b2
    obtain ⟨b0, b1, b2⟩ := obj3 B2.out.1
    go_wp2_with fail
    refine Calls.mono (HL1.out _ B2.out.2) ?_
    rintro e w3 ⟨a3, c3, rfl, hx3, hb3, hg3⟩
    have B3 := Lib.hid (And.intro (obj_below B2.out.1 hb3 (obj_lt B2.out.1)) (And.intro (B2.out.2.trans (hb3.mono B2.out.2.size)) (And.intro hx3 (fun g o e => Nat.lt_of_lt_of_le (obj_lt B2.out.1) (hg3 g o e)))))
    clear hb3 b0 b1 b2 hx3 hg3
    obtain ⟨b0, b1, b2⟩ := obj3 B3.out.1
    have f0 := obj_free B3.out.1 0
    have f1 := obj_free B3.out.1 1
    have f2 := obj_free B3.out.1 2
    go_wp2_with fail
    obtain ⟨W5, hW5⟩ : ∃ W5, (((w3.setCell ⟨w.heap.size, 0, none⟩ (.string ⟨LH.toArray⟩)).setCell ⟨w.heap.size, 1, none⟩ (.slice a3 n c3)).setCell ⟨w.heap.size, 2, none⟩ (.string ⟨LT.toArray⟩)) = W5 := ⟨_, rfl⟩
    rw [hW5]
    have hx5 : TxR W5 (.slice a3 n c3) M := by
      rw [← hW5]
      exact txR_other3 B3.out.2.2.1 (b := w.heap.size) (fun g o e => by have := B3.out.2.2.2 g o e; omega) 0 1 2 _ _ _
    have hb5 : Below w.heap.size w W5 := by rw [← hW5]; exact below_set3 B3.out.2.1 (Nat.le_refl _) _ _ _
    have ho5 : W5.heap[w.heap.size]? = some (.cells #[.string ⟨LH.toArray⟩, .slice a3 n c3, .string ⟨LT.toArray⟩] 25 (0, 0)) := by rw [← hW5]; exact obj_set3 B3.out.1 _ _ _
    have B5 := Lib.hid (And.intro hx5 hb5)
    clear b0 b1 b2 f0 f1 f2 hW5 hx5 hb5
    obtain ⟨b0, b1, b2⟩ := obj3 ho5
    clear ho5
    go_wp2_with fail
    refine Calls.mono (HHs.out a3 c3 _ B5.out.1 B5.out.2) ?_
    rintro e w6 ⟨rfl, hb6⟩
    have B6 := Lib.hid (B5.out.2.trans (hb6.mono B5.out.2.size))
    clear hb6 b0 b1 b2
    go_wp2_with fail
    refine (HT.out _ _).mono ?_
    rintro e w4 ⟨rfl, hw⟩
    obtain rfl := hw.symm
    go_wp2
    go_ret
    exact iPost_mk HR.out B6.out
  by_cases h2 : r = 2
  · subst h2
    have HR := Lib.hid (HS2.out rfl)
    have HH := Lib.hid (HH2.out hl16)
    obtain ⟨q, hq⟩ : ∃ q, hasL x h ms t = q := ⟨_, rfl⟩
    rw [hq] at HR HH
    clear hq h1
    go_enter Tryz.func14, Tryz.ntmps14
    go_wp2_with fail
    refine Calls.mono (HN.out _ HB0.out) ?_
    rintro e w1 ⟨rfl, hb1⟩
    have B1 := Lib.hid (box3 hb1)
    clear hb1
    obtain ⟨b0, b1, b2⟩ := obj3 B1.out.1
    go_wp2_with fail
    refine Calls.mono (HA.out _ B1.out.2) ?_
    rintro e w2 ⟨rfl, hb2⟩
    have B2 := Lib.hid (And.intro (obj_below B1.out.1 hb2 (obj_lt B1.out.1)) (B1.out.2.trans (hb2.mono B1.out.2.size)))
    clear hb2 b0 b1 b2
    obtain ⟨b0, b1, b2⟩ := obj3 B2.out.1
    go_wp2_with fail
    refine Calls.mono (HH.out _ B2.out.2) ?_
    rintro e w3 ⟨rfl, hb3⟩
    have B3 := Lib.hid (B2.out.2.trans (hb3.mono B2.out.2.size))
    clear hb3 b0 b1 b2
    go_wp2_with fail
    refine (HT.out _ _).mono ?_
    rintro e w4 ⟨rfl, hw⟩
    obtain rfl := hw.symm
    go_wp2
    go_ret
    exact iPost_mk HR.out B3.out
  have HR := Lib.hid (HU.out (.inr (.inr ⟨h1, h2⟩)))
  have g1 : (r == 1) = false := by simpa using h1
  have g2 : (r == 2) = false := by simpa using h2
  clear h1 h2
  go_enter Tryz.func14, Tryz.ntmps14
  go_wp2_with fail
  refine Calls.mono (HN.out _ HB0.out) ?_
  rintro e w1 ⟨rfl, hb1⟩
  have B1 := Lib.hid (box3 hb1)
  clear hb1
  obtain ⟨b0, b1, b2⟩ := obj3 B1.out.1
  go_wp2_with fail
  refine Calls.mono (HA.out _ B1.out.2) ?_
  rintro e w2 ⟨rfl, hb2⟩
  have B2 := Lib.hid (B1.out.2.trans (hb2.mono B1.out.2.size))
  clear hb2 b0 b1 b2
  go_wp2
  go_ret
  exact iPost_mk HR.out B2.out
end Go.Proofs.YtlopmppiihhnnaaGreatDoor
