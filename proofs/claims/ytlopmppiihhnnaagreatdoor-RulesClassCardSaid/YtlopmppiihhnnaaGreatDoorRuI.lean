/- The code's Subs, for every value and all parts. -/
import Derived.Test.YtlopmppiihhnnaaGreatDoorRuH
namespace Go.Proofs.YtlopmppiihhnnaaGreatDoor
set_option linter.unusedSimpArgs false
set_option linter.unusedVariables false
open Go Go.RowKit Go.Proofs.BerK Go.Proofs.MemK Go.Proofs.UtfK

theorem sub_undef {r : Int} {p : List UInt8 × Bool} {h : List UInt8} {ms : List (List UInt8)} {t : List UInt8} (hn : p.2 = false ∨ asked h ms t = false ∨ (r ≠ 1 ∧ r ≠ 2)) : subP r p h ms t = 2 := by
  unfold subP
  rw [if_neg]
  rintro ⟨h1, h2, h3⟩
  rcases hn with hn | hn | ⟨hn1, hn2⟩
  · rw [h1] at hn; cases hn
  · rw [h2] at hn; cases hn
  · omega
theorem sub_1 (x h : List UInt8) (ms : List (List UInt8)) (t : List UInt8) (ha : asked h ms t = true) : subP 1 (x, true) h ms t = tv (hasL x (lowL h) (ms.map lowL) (lowL t)) := sub_one x h ms t ha
theorem sub_2 (x h : List UInt8) (ms : List (List UInt8)) (t : List UInt8) (ha : asked h ms t = true) : subP 2 (x, true) h ms t = tv (hasL x h ms t) := by
  unfold subP
  rw [if_pos ⟨rfl, ha, .inr rfl⟩]
  have : lwR 2 = id := by funext y; simp [lwR]
  simp [this]
theorem asked_len {h : List UInt8} {ms : List (List UInt8)} {t : List UInt8} (ha : asked h ms t = true) : ms.length ≤ 16 := by
  unfold asked at ha
  simp only [Bool.and_eq_true, decide_eq_true_eq] at ha
  exact ha.1.2
/-- A box of three cells behind a call. -/
theorem box3 {w w1 : World} {a b c : Value} {t : TypeId} (hb : Below (w.alloc (.cells #[a, b, c] t)).heap.size (w.alloc (.cells #[a, b, c] t)) w1) : w1.heap[w.heap.size]? = some (.cells #[a, b, c] t (0, 0)) ∧ Below w.heap.size w w1 :=
  ⟨obj_below (heap_alloc_new w _) hb (by simp), ((Below.refl _ w).alloc (Nat.le_refl _) _).trans (hb.mono (by simp))⟩
set_option maxHeartbeats 6400000 in
set_option maxRecDepth 100000 in
theorem rusubs_any (r : Int) (s h t : List UInt8) (ms : List (List UInt8)) (a : Option Addr) (c : Nat) (w : World) (hl : ms.length ≤ 9223372036854775807) (hm : TxR w (.slice a ms.length c) ms) (he : ErrOk w) (hk : MlOk w) :
    Calls Tryz.prog 14 #[.int .i64 r, .string ⟨s.toArray⟩, .agg #[.string ⟨h.toArray⟩, .slice a ms.length c, .string ⟨t.toArray⟩]] w (IPost (subP r (ruN r s) h ms t) w) := by
  have HN := Lib.hid (fun w' (hb : Below w.heap.size w w') => runorm_any r s w' (errOk_below he hb))
  have HA := Lib.hid (fun w' (hb : Below w.heap.size w w') => rumay_any h t ms a c w' hl (txR_below hm hb))
  have HT := Lib.hid rutruth_any
  have hxl := ru_len r s
  obtain ⟨p, hp⟩ : ∃ p, ruN r s = p := ⟨_, rfl⟩
  rw [hp] at HN hxl ⊢
  obtain ⟨x, ok⟩ := p
  have hb0 : Below w.heap.size w (w.alloc (.cells #[.string ⟨h.toArray⟩, .slice a ms.length c, .string ⟨t.toArray⟩] 25)) := (Below.refl _ w).alloc (Nat.le_refl _) _
  have HB0 := Lib.hid hb0
  have HLo := Lib.hid (fun (hl16 : ms.length ≤ 1000) w' (hb : Below w.heap.size w w') => rulower_any h t ms a c w' hl16 (txR_below hm hb))
  have HH2 := Lib.hid (fun (hl16 : ms.length ≤ 1000) w' (hb : Below w.heap.size w w') => ruhas_any x h t ms a c w' hxl hl16 (txR_below hm hb) (mlOk_below hk hb))
  have HH1 := Lib.hid (fun h t (ms : List (List UInt8)) a c w' (hl16 : ms.length ≤ 1000) hm (hb : Below w.heap.size w w') => ruhas_any x h t ms a c w' hxl hl16 hm (mlOk_below hk hb))
  obtain ⟨A, hA⟩ : ∃ A, asked h ms t = A := ⟨_, rfl⟩
  rw [hA] at HA
  have HU := Lib.hid (sub_undef (r := r) (p := (x, ok)) (h := h) (ms := ms) (t := t))
  have hL16 : A = true → ms.length ≤ 16 := fun e => asked_len (hA.trans e)
  have HS1 := Lib.hid (fun e => sub_1 x h ms t (hA.trans e))
  have HS2 := Lib.hid (fun e => sub_2 x h ms t (hA.trans e))
  have HQA := Lib.hid hA
  obtain ⟨n, hn⟩ : ∃ n, ms.length = n := ⟨_, rfl⟩
  have HNn := Lib.hid hn
  rw [hn] at HA HB0 HLo HH2 hL16 ⊢
  clear hp hb0 hm he hk hxl hA hn hl
  cases ok
  · have HR := Lib.hid (HU.out (.inl rfl))
    go_enter Tryz.func14, Tryz.ntmps14
    go_wp2_with fail
    refine Calls.mono (HN.out _ HB0.out) ?_
    rintro e w1 ⟨rfl, hb1⟩
    have B1 := Lib.hid (box3 hb1)
    clear hb1
    go_wp2
    go_ret
    exact iPost_mk HR.out B1.out.2
  cases A
  · have HR := Lib.hid (HU.out (.inr (.inl HQA.out)))
    go_enter Tryz.func14, Tryz.ntmps14
    go_wp2_with fail
    refine Calls.mono (HN.out _ HB0.out) ?_
    rintro e w1 ⟨rfl, hb1⟩
    have B1 := Lib.hid (box3 hb1)
    clear hb1
    obtain ⟨b0, b1, b2⟩ := obj3 B1.out.1
    go_wp2_with fail
    refine Calls.mono (HA.out _ B1.out.2) ?_
    rintro e w2 ⟨rfl, hb2⟩
    have B2 := Lib.hid (B1.out.2.trans (hb2.mono B1.out.2.size))
    clear hb2 b0 b1 b2
    go_wp2
    go_ret
    exact iPost_mk HR.out B2.out
  have hL16 := hL16 rfl
  have hl16 : n ≤ 1000 := by omega
  by_cases h1 : r = 1
  · subst h1
    have hR := HS1.out rfl
    obtain ⟨LH, hLH⟩ : ∃ q, lowL h = q := ⟨_, rfl⟩
    obtain ⟨LT, hLT⟩ : ∃ q, lowL t = q := ⟨_, rfl⟩
    obtain ⟨M, hM⟩ : ∃ q, ms.map lowL = q := ⟨_, rfl⟩
    have hMl : M.length = n := by rw [← hM, ← HNn.out]; simp
    rw [hLH, hLT, hM] at hR
    obtain ⟨q, hq⟩ : ∃ q, hasL x LH M LT = q := ⟨_, rfl⟩
    rw [hq] at hR
    have HR := Lib.hid hR
    have HL1 : Hid (∀ w' (hb : Below w.heap.size w w'), Calls Tryz.prog 30 #[.agg #[.string ⟨h.toArray⟩, .slice a n c, .string ⟨t.toArray⟩]] w' fun en w'' => ∃ a c, en = .returned (.agg #[.string ⟨LH.toArray⟩, .slice a n c, .string ⟨LT.toArray⟩]) ∧ TxR w'' (.slice a n c) M ∧ Below w'.heap.size w' w'' ∧ ∀ g o, a = some ⟨g, o, none⟩ → w'.heap.size ≤ g) := by
      refine Lib.hid fun w' hb => ?_
      have := HLo.out hl16 w' hb
      unfold LwPost at this
      rw [hLH, hLT, hM, hMl] at this
      exact this
    have HHs : Hid (∀ a c w', TxR w' (.slice a n c) M → Below w.heap.size w w' → Calls Tryz.prog 31 #[.string ⟨x.toArray⟩, .agg #[.string ⟨LH.toArray⟩, .slice a n c, .string ⟨LT.toArray⟩]] w' (BoolPost q w')) := by
      refine Lib.hid fun a c w' hx hb => ?_
      have := HH1.out LH LT M a c w' (by omega) (by rw [hMl]; exact hx) hb
      rw [hMl, hq] at this
      exact this
    clear hLH hLT hM hMl hq hR HLo HH1 HH2
    go_enter Tryz.func14, Tryz.ntmps14
    go_wp2_with fail
    refine Calls.mono (HN.out _ HB0.out) ?_
    rintro e w1 ⟨rfl, hb1⟩
    have B1 := Lib.hid (box3 hb1)
    clear hb1
    obtain ⟨b0, b1, b2⟩ := obj3 B1.out.1
    go_wp2_with fail
    refine Calls.mono (HA.out _ B1.out.2) ?_
    rintro e w2 ⟨rfl, hb2⟩
    have B2 := Lib.hid (And.intro (obj_below B1.out.1 hb2 (obj_lt B1.out.1)) (B1.out.2.trans (hb2.mono B1.out.2.size)))
    clear hb2 b0 b1 b2
    obtain ⟨b0, b1, b2⟩ := obj3 B2.out.1
    go_wp2_with fail
    refine Calls.mono (HL1.out _ B2.out.2) ?_
    rintro e w3 ⟨a3, c3, rfl, hx3, hb3, hg3⟩
    have B3 := Lib.hid (And.intro (obj_below B2.out.1 hb3 (obj_lt B2.out.1)) (And.intro (B2.out.2.trans (hb3.mono B2.out.2.size)) (And.intro hx3 (fun g o e => Nat.lt_of_lt_of_le (obj_lt B2.out.1) (hg3 g o e)))))
    clear hb3 b0 b1 b2 hx3 hg3
    obtain ⟨b0, b1, b2⟩ := obj3 B3.out.1
    have f0 := obj_free B3.out.1 0
    have f1 := obj_free B3.out.1 1
    have f2 := obj_free B3.out.1 2
    go_wp2_with fail
    obtain ⟨W5, hW5⟩ : ∃ W5, (((w3.setCell ⟨w.heap.size, 0, none⟩ (.string ⟨LH.toArray⟩)).setCell ⟨w.heap.size, 1, none⟩ (.slice a3 n c3)).setCell ⟨w.heap.size, 2, none⟩ (.string ⟨LT.toArray⟩)) = W5 := ⟨_, rfl⟩
    rw [hW5]
    have hx5 : TxR W5 (.slice a3 n c3) M := by
      rw [← hW5]
      exact txR_other3 B3.out.2.2.1 (b := w.heap.size) (fun g o e => by have := B3.out.2.2.2 g o e; omega) 0 1 2 _ _ _
    have hb5 : Below w.heap.size w W5 := by rw [← hW5]; exact below_set3 B3.out.2.1 (Nat.le_refl _) _ _ _
    have ho5 : W5.heap[w.heap.size]? = some (.cells #[.string ⟨LH.toArray⟩, .slice a3 n c3, .string ⟨LT.toArray⟩] 25 (0, 0)) := by rw [← hW5]; exact obj_set3 B3.out.1 _ _ _
    have B5 := Lib.hid (And.intro hx5 hb5)
    clear b0 b1 b2 f0 f1 f2 hW5 hx5 hb5
    obtain ⟨b0, b1, b2⟩ := obj3 ho5
    clear ho5
    go_wp2_with fail
    refine Calls.mono (HHs.out a3 c3 _ B5.out.1 B5.out.2) ?_
    rintro e w6 ⟨rfl, hb6⟩
    have B6 := Lib.hid (B5.out.2.trans (hb6.mono B5.out.2.size))
    clear hb6 b0 b1 b2
    go_wp2_with fail
    refine (HT.out _ _).mono ?_
    rintro e w4 ⟨rfl, hw⟩
    obtain rfl := hw.symm
    go_wp2
    go_ret
    exact iPost_mk HR.out B6.out
  by_cases h2 : r = 2
  · subst h2
    have HR := Lib.hid (HS2.out rfl)
    have HH := Lib.hid (HH2.out hl16)
    obtain ⟨q, hq⟩ : ∃ q, hasL x h ms t = q := ⟨_, rfl⟩
    rw [hq] at HR HH
    clear hq h1
    go_enter Tryz.func14, Tryz.ntmps14
    go_wp2_with fail
    refine Calls.mono (HN.out _ HB0.out) ?_
    rintro e w1 ⟨rfl, hb1⟩
    have B1 := Lib.hid (box3 hb1)
    clear hb1
    obtain ⟨b0, b1, b2⟩ := obj3 B1.out.1
    go_wp2_with fail
    refine Calls.mono (HA.out _ B1.out.2) ?_
    rintro e w2 ⟨rfl, hb2⟩
    have B2 := Lib.hid (And.intro (obj_below B1.out.1 hb2 (obj_lt B1.out.1)) (B1.out.2.trans (hb2.mono B1.out.2.size)))
    clear hb2 b0 b1 b2
    obtain ⟨b0, b1, b2⟩ := obj3 B2.out.1
    go_wp2_with fail
    refine Calls.mono (HH.out _ B2.out.2) ?_
    rintro e w3 ⟨rfl, hb3⟩
    have B3 := Lib.hid (B2.out.2.trans (hb3.mono B2.out.2.size))
    clear hb3 b0 b1 b2
    go_wp2_with fail
    refine (HT.out _ _).mono ?_
    rintro e w4 ⟨rfl, hw⟩
    obtain rfl := hw.symm
    go_wp2
    go_ret
    exact iPost_mk HR.out B3.out
  have HR := Lib.hid (HU.out (.inr (.inr ⟨h1, h2⟩)))
  have g1 : (r == 1) = false := by simpa using h1
  have g2 : (r == 2) = false := by simpa using h2
  clear h1 h2
  go_enter Tryz.func14, Tryz.ntmps14
  go_wp2_with fail
  refine Calls.mono (HN.out _ HB0.out) ?_
  rintro e w1 ⟨rfl, hb1⟩
  have B1 := Lib.hid (box3 hb1)
  clear hb1
  obtain ⟨b0, b1, b2⟩ := obj3 B1.out.1
  go_wp2_with fail
  refine Calls.mono (HA.out _ B1.out.2) ?_
  rintro e w2 ⟨rfl, hb2⟩
  have B2 := Lib.hid (B1.out.2.trans (hb2.mono B1.out.2.size))
  clear hb2 b0 b1 b2
  go_wp2
  go_ret
  exact iPost_mk HR.out B2.out
end Go.Proofs.YtlopmppiihhnnaaGreatDoor
