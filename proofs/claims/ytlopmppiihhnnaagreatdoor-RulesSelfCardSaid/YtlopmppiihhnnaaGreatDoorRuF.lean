/- Parts as an argument; whether parts may be asked for. -/
import Derived.Test.YtlopmppiihhnnaaGreatDoorRuD
import Derived.Test.YtlopmppiihhnnaaGreatDoorLays
namespace Go.Proofs.YtlopmppiihhnnaaGreatDoor
set_option linter.unusedSimpArgs false
set_option linter.unusedVariables false
open Go Go.RowKit Go.Proofs.BerK Go.Proofs.MemK Go.Proofs.UtfK

/-- Texts lie in memory, to be read. -/
def TxR (w : World) (v : Value) (l : List (List UInt8)) : Prop :=
  ∃ a c, v = .slice a l.length c ∧ ∀ i (hi : i < l.length), ∃ g o, a = some ⟨g, o, none⟩ ∧ g < w.heap.size ∧ w.cell? ⟨g, o + i, none⟩ = some (.string ⟨l[i].toArray⟩)
theorem txR_below {w w' : World} {v : Value} {l : List (List UInt8)} (h : TxR w v l) (hb : Below w.heap.size w w') : TxR w' v l := by
  obtain ⟨a, c, rfl, h⟩ := h
  refine ⟨a, c, rfl, fun i hi => ?_⟩
  obtain ⟨g, o, h1, h2, h3⟩ := h i hi
  exact ⟨g, o, h1, Nat.lt_of_lt_of_le h2 hb.size, (hb.cell (p := ⟨g, o + i, none⟩) h2).trans h3⟩
theorem txR_owns {w : World} {B : Nat} {e : TypeId} {v : Value} {l : List (List UInt8)} (h : w.ownsRow B e 1 v l.length (sc l)) : TxR w v l := by
  obtain ⟨a, c, hv, hc⟩ := strU_owns h
  refine ⟨a, c, hv, fun i hi => ?_⟩
  obtain ⟨g, h1, h2, h3⟩ := hc i hi
  exact ⟨g, 0, h1, h2, by rw [Nat.zero_add]; exact h3⟩
theorem txR_str {w : World} {v : Value} {l : List (List UInt8)} (h : StrAt w v l) : TxR w v l := by
  rcases h with ⟨rfl, a, c, rfl⟩ | ⟨h0, g, o, c, rfl, hg, hq⟩
  · exact ⟨a, c, rfl, fun i hi => by simp at hi⟩
  · exact ⟨some ⟨g, o, none⟩, c, rfl, fun i hi => ⟨g, o, rfl, hg, hq i hi⟩⟩
theorem txR_nil (w : World) (a : Option Addr) (c : Nat) : TxR w (.slice a 0 c) [] := ⟨a, c, rfl, fun i hi => by simp at hi⟩
theorem txR_new (w : World) (l : List (List UInt8)) (e : TypeId) : TxR (w.alloc (.cells (sc l).toArray e)) (.slice (some ⟨w.heap.size, 0, none⟩) l.length l.length) l := by
  obtain ⟨a, c, hv, hc⟩ := strU_new w l e
  refine ⟨a, c, hv, fun i hi => ?_⟩
  obtain ⟨g, h1, h2, h3⟩ := hc i hi
  exact ⟨g, 0, h1, h2, by rw [Nat.zero_add]; exact h3⟩
/-- The library's variable holds a number. -/
def MlOk (w : World) : Prop := ∃ m, w.cell? ⟨0, 0, none⟩ = some (.int .i64 m)
theorem mlOk_below {w w' : World} (h : MlOk w) (hb : Below w.heap.size w w') : MlOk w' := by
  obtain ⟨m, hm⟩ := h
  exact ⟨m, (hb.cell (p := ⟨0, 0, none⟩) (Lib.lt_of_cell hm)).trans hm⟩

theorem rucont_any (l : List (List UInt8)) (a : Option Addr) (c : Nat) (w : World) (hl : l.length ≤ 9223372036854775807) (h : TxR w (.slice a l.length c) l) :
    Calls Tryz.prog 50 #[.slice a l.length c, .string ⟨#[]⟩] w (PureB (l.any List.isEmpty) w) := by
  by_cases h0 : l = []
  · subst h0
    exact Any.slices_Contains_string_empty Tryz.cont8 a c ⟨#[]⟩ w
  · obtain ⟨a', c', hv, hc⟩ := h
    injection hv with hv1 _ hv3
    subst hv1 hv3
    obtain ⟨g, o, rfl, _, _⟩ := hc 0 (by cases l <;> simp_all)
    refine (Any.slices_Contains_string Tryz.cont8 g o l.length c (l.map fun x => ⟨x.toArray⟩) ⟨#[]⟩ w (by simp) hl ?_).mono ?_
    · intro j hj
      have hj' : j < l.length := by simpa using hj
      obtain ⟨g', o', e, _, h3⟩ := hc j hj'
      injection e with e
      injection e with e1 e2 _
      subst e1 e2
      rw [h3]
      simp [List.getD, hj']
    · rintro en w' ⟨rfl, rfl⟩
      refine ⟨?_, rfl⟩
      congr 2
      rw [Bool.eq_iff_iff, Lib.containsS_iff, List.take_of_length_le (by simp), List.any_eq_true, List.mem_map]
      constructor
      · rintro ⟨x, hx, e⟩
        refine ⟨x, hx, ?_⟩
        have := congrArg (fun b : ByteArray => b.data.toList) e
        simp at this
        simp [this]
      · rintro ⟨x, hx, e⟩
        have : x = [] := by simpa using e
        subst this
        exact ⟨[], hx, rfl⟩
theorem asked_none : asked [] [] [] = false := rfl
theorem asked_some {h : List UInt8} {ms : List (List UInt8)} {t : List UInt8} (hn : ¬ (h = [] ∧ ms = [] ∧ t = [])) : asked h ms t = (decide (ms.length ≤ 16) && !ms.any List.isEmpty) := by
  have e : (h.isEmpty && ms.isEmpty && t.isEmpty) = false := by
    cases hq : (h.isEmpty && ms.isEmpty && t.isEmpty)
    · rfl
    · simp at hq
      exact absurd ⟨hq.1.1, hq.1.2, hq.2⟩ hn
  unfold asked
  rw [e, Bool.not_false, Bool.true_and, List.all_eq_not_any_not]
  simp
set_option maxHeartbeats 1600000 in
set_option maxRecDepth 100000 in
theorem rumay_any (h t : List UInt8) (ms : List (List UInt8)) (a : Option Addr) (c : Nat) (w : World) (hl : ms.length ≤ 9223372036854775807) (hm : TxR w (.slice a ms.length c) ms) :
    Calls Tryz.prog 29 #[.agg #[.string ⟨h.toArray⟩, .slice a ms.length c, .string ⟨t.toArray⟩]] w (BoolPost (asked h ms t) w) := by
  by_cases h0 : h = [] ∧ ms = [] ∧ t = []
  · obtain ⟨rfl, rfl, rfl⟩ := h0
    go_enter Tryz.func29, Tryz.ntmps29
    go_wp2
    go_ret
    exact boolPost_mk rfl ((Below.refl _ w).alloc (Nat.le_refl _) _)
  · have HC := Lib.hid (fun w' (hb : Below w.heap.size w w') => rucont_any ms a c w' hl (txR_below hm hb))
    have hA := asked_some h0
    obtain ⟨q, hq⟩ : ∃ q, ms.any List.isEmpty = q := ⟨_, rfl⟩
    rw [hq] at HC hA
    have hw : h.isEmpty = false ∨ (h.isEmpty = true ∧ ((ms.length : Int) == 0) = false) ∨ (h.isEmpty = true ∧ ((ms.length : Int) == 0) = true ∧ t.isEmpty = false) := by
      by_cases h1 : h = []
      · by_cases h2 : ms = []
        · refine .inr (.inr ⟨by simp [h1], by simp [h2], ru_ne fun h3 => h0 ⟨h1, h2, h3⟩⟩)
        · refine .inr (.inl ⟨by simp [h1], ?_⟩)
          rw [beq_eq_false_iff_ne]
          intro e
          exact h2 (List.eq_nil_of_length_eq_zero (by omega))
      · exact .inl (ru_ne h1)
    obtain ⟨n, hn⟩ : ∃ n, ms.length = n := ⟨_, rfl⟩
    rw [hn] at HC hA hw ⊢
    by_cases h16 : n ≤ 16
    · have HA := Lib.hid (show asked h ms t = !q by rw [hA]; simp [h16])
      have q16 : (n : Int) ≤ 16 := by omega
      clear hm h0 hA hq hn hl
      rcases hw with q1 | ⟨q1, q2⟩ | ⟨q1, q2, q3⟩
      all_goals
        go_enter Tryz.func29, Tryz.ntmps29
        go_wp2_with fail
        refine Calls.mono (HC.out _ ((Below.refl _ w).alloc (Nat.le_refl _) _)) ?_
        rintro e w1 ⟨rfl, hw⟩
        obtain rfl := hw.symm
        go_wp2
        go_ret
        exact boolPost_mk HA.out ((Below.refl _ w).alloc (Nat.le_refl _) _)
    · have HA := Lib.hid (show asked h ms t = false by rw [hA]; simp [h16])
      have q16 : ¬ (n : Int) ≤ 16 := by omega
      clear hm h0 hA hq hn hl HC
      rcases hw with q1 | ⟨q1, q2⟩ | ⟨q1, q2, q3⟩
      all_goals
        go_enter Tryz.func29, Tryz.ntmps29
        go_wp2
        go_ret
        exact boolPost_mk HA.out ((Below.refl _ w).alloc (Nat.le_refl _) _)
end Go.Proofs.YtlopmppiihhnnaaGreatDoor
