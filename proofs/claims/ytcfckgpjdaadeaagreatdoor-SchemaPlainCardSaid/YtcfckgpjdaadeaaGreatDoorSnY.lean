/- The law on the plain schema, for every entry and name. -/
import Derived.Test.YtcfckgpjdaadeaaGreatDoorSnUW
import Derived.Test.YtcfckgpjdaadeaaGreatDoorScF
import Derived.Test.YtcfckgpjdaadeaaGreatDoorScG
import Derived.Test.YtcfckgpjdaadeaaGreatDoorScK
import Derived.Test.YtcfckgpjdaadeaaGreatDoorScL
import Derived.Test.YtcfckgpjdaadeaaGreatDoorTxs
namespace Go.Proofs.YtcfckgpjdaadeaaGreatDoor
set_option linter.unusedSimpArgs false
set_option linter.unusedVariables false
open Go Go.RowKit Go.Proofs.BerK Go.Proofs.MemK Go.Proofs.UtfK

set_option maxRecDepth 100000 in
theorem ty_form (s : List UInt8) : ∃ (x : List UInt8) (r : Int) (b ok : Bool), TyV (scT plT s) = .tuple #[.agg #[.string ⟨x.toArray⟩, .int .i64 r, .bool b], .bool ok] ∧ ∀ w : World, (binOp .eql 35 (.agg #[.string ⟨x.toArray⟩, .int .i64 r, .bool b]) (.agg #[.string ⟨x.toArray⟩, .int .i64 r, .bool b])).run Tryz.prog w = .ok (.bool true) w := by
  cases h : scT plT s with
  | none => exact ⟨[], 0, false, false, rfl, fun w => by kernel_rfl⟩
  | some t =>
    have ht : t ∈ plT := by
      have hix := scT_ixl plT_lowT s
      rw [h] at hix
      cases hq : ixL (plT.map (·.1)) (lowL s) with
      | none => rw [hq] at hix; cases hix
      | some i =>
        rw [hq] at hix
        have : plT[i]? = some t := hix.symm
        obtain ⟨hi, e⟩ := List.getElem?_eq_some_iff.1 this
        rw [← e]; exact List.getElem_mem hi
    refine ⟨t.1, t.2.1, t.2.2, true, rfl, ?_⟩
    clear h
    simp only [plT, List.mem_cons, List.not_mem_nil, or_false] at ht
    rcases ht with rfl | rfl | rfl | rfl | rfl | rfl | rfl | rfl | rfl | rfl | rfl | rfl | rfl
    all_goals exact fun w => by kernel_rfl
/-- A class of a name, in one form. -/
theorem cl_form (o : Option Cl) : ∃ (x : List UInt8) (L1 L2 : List (List UInt8)) (ok : Bool), (o = none ∧ L1 = [] ∧ L2 = [] ∨ ∃ c, o = some c ∧ L1 = c.2.1 ∧ L2 = c.2.2) ∧ ∀ (w : World) (en : Ending) (w' : World), ClPost o w en w' → ∃ am cm ay cy, en = .returned (.tuple #[.agg #[.string ⟨x.toArray⟩, .slice am L1.length cm, .slice ay L2.length cy], .bool ok]) ∧ TxR w' (.slice am L1.length cm) L1 ∧ TxR w' (.slice ay L2.length cy) L2 ∧ Below w.heap.size w w' := by
  cases o with
  | none =>
    refine ⟨[], [], [], false, .inl ⟨rfl, rfl, rfl⟩, fun w en w' h => ?_⟩
    rcases h with ⟨_, h1, h2⟩ | ⟨c, hc, _⟩
    · exact ⟨none, 0, none, 0, h1, txR_nil _ _ _, txR_nil _ _ _, h2⟩
    · cases hc
  | some c =>
    refine ⟨c.1, c.2.1, c.2.2, true, .inr ⟨c, rfl, rfl, rfl⟩, fun w en w' h => ?_⟩
    rcases h with ⟨h, _⟩ | ⟨d, hd, am, cm, ay, cy, h1, h2, h3, h4⟩
    · cases h
    · injection hd with hd
      subst hd
      exact ⟨am, cm, ay, cy, h1, h2, h3, h4⟩
theorem plC_few {s : List UInt8} {c : Cl} (h : scC plC s = some c) : c.2.1.length ≤ 7 ∧ c.2.2.length ≤ 7 := by
  obtain ⟨d, hd, rfl⟩ := scC_mem9 h
  have : ∀ d ∈ plC, d.2.1.length ≤ 7 ∧ d.2.2.length ≤ 7 := by decide +kernel
  simpa using this d hd
theorem pl_names : (plT.map (·.1)) = plT.map (fun t => lowL t.1) := by decide +kernel
set_option maxHeartbeats 25600000 in
set_option maxRecDepth 100000 in
theorem scplain_any (dn s : List UInt8) (A : List Atr) (av : Value) (w : World) (hA : AtAt w av A) (he : ErrOk w) : Calls Tryz.prog 3 #[.agg #[.string ⟨dn.toArray⟩, av], .string ⟨s.toArray⟩] w (BB true w) := by
  have HAw := Lib.hid (fun w' (hb : Below w.heap.size w w') => scawake_any w' (errOk_below he hb))
  have HFw := Lib.hid (fun w' (hb : Below w.heap.size w w') => few9_any dn A av w' (atAt_below hA hb))
  have HAt := Lib.hid (fun w' (hb : Below w.heap.size w w') => atAt_below hA hb)
  have HEr := Lib.hid (fun w' (hb : Below w.heap.size w w') => errOk_below he hb)
  obtain ⟨a, c, rfl, _⟩ := hA
  obtain ⟨n, hn⟩ : ∃ n, A.length = n := ⟨_, rfl⟩
  have HL := Lib.hid hn
  rw [hn] at HFw HAt ⊢
  obtain ⟨W1, hW1⟩ : ∃ W1, w.alloc (.cells #[.string ⟨dn.toArray⟩, .slice a n c] 24) = W1 := ⟨_, rfl⟩
  have y1 : W1.heap[w.heap.size]? = some (.cells #[.string ⟨dn.toArray⟩, .slice a n c] 24 (0, 0)) := by rw [← hW1]; exact heap_alloc_new w _
  have hb1 : Below w.heap.size w W1 := by rw [← hW1]; exact (Below.refl _ w).alloc (Nat.le_refl _) _
  have H1 := Lib.hid (And.intro y1 hb1)
  have HW1 := Lib.hid hW1
  have e01 := obj2s y1
  rw [← hW1] at e01
  obtain ⟨e0, e1⟩ := e01
  clear he hn hW1 y1 hb1
  go_enter Tryz.func3, Tryz.ntmps3
  go_wp2_with fail
  rw [HW1.out]
  refine (HFw.out W1 H1.out.2).mono ?_
  rintro en w2 ⟨hen, hb⟩
  have H2 := Lib.hid (And.intro (obj_below H1.out.1 hb (obj_lt H1.out.1)) (H1.out.2.trans (hb.mono H1.out.2.size)))
  clear hb e0 e1
  have hway : (en = .returned (.bool false)) ∨ (en = .returned (.bool true) ∧ (100 : Int) < (s.length : Int)) ∨ (en = .returned (.bool true) ∧ ¬ (100 : Int) < (s.length : Int) ∧ FewA dn A) := by
    rcases hen with h | ⟨h, hf⟩
    · exact .inl h
    · by_cases h1 : 100 < s.length
      · exact .inr (.inl ⟨h, by omega⟩)
      · exact .inr (.inr ⟨h, by omega, hf⟩)
  clear hen
  rcases hway with rfl | ⟨rfl, q1⟩ | ⟨rfl, q1, hfew⟩
  case inl =>
    go_wp2_with fail
    refine (HAw.out w2 H2.out.2).mono ?_
    rintro en w3 ⟨rfl, hb⟩
    have H3 := Lib.hid (H2.out.2.trans (hb.mono H2.out.2.size))
    clear hb
    go_wp2
    go_ret
    exact bB_mk rfl H3.out
  case inr.inl =>
    go_wp2_with fail
    refine (HAw.out w2 H2.out.2).mono ?_
    rintro en w3 ⟨rfl, hb⟩
    have H3 := Lib.hid (H2.out.2.trans (hb.mono H2.out.2.size))
    clear hb
    go_wp2
    go_ret
    exact bB_mk rfl H3.out
  have HFe := Lib.hid hfew
  have hsl : s.length ≤ 140737488355328 := by omega
  clear hfew
  go_wp2_with fail
  refine (plain_any w2).mono ?_
  rintro en w3 ⟨g, rfl, hs, hb⟩
  have H3 := Lib.hid (And.intro (obj_below H2.out.1 hb (obj_lt H2.out.1)) (And.intro (H2.out.2.trans (hb.mono H2.out.2.size)) hs))
  clear hs hb
  go_wp2_with fail
  refine (rplain9_any w3).mono ?_
  rintro en w4 ⟨tv, cv, rfl, hty, hcl, hb⟩
  obtain ⟨tva, tvc, htv, _⟩ := id hty
  obtain ⟨cva, cvc, hcv, _⟩ := id hcl
  rw [show plT.length = 13 by decide] at htv
  rw [show plC.length = 5 by decide] at hcv
  have HV := Lib.hid (And.intro htv hcv)
  subst htv hcv
  obtain ⟨W4, hW4⟩ : ∃ W4, w4.alloc (.cells #[.slice tva 13 tvc, .slice cva 5 cvc] 32) = W4 := ⟨_, rfl⟩
  have y4 : W4.heap[w4.heap.size]? = some (.cells #[.slice tva 13 tvc, .slice cva 5 cvc] 32 (0, 0)) := by rw [← hW4]; exact heap_alloc_new w4 _
  have hb4 : Below w3.heap.size w3 W4 := by rw [← hW4]; exact hb.alloc hb.size _
  have hb44 : Below w4.heap.size w4 W4 := by rw [← hW4]; exact (Below.refl _ w4).alloc (Nat.le_refl _) _
  have H4 := Lib.hid (And.intro (obj_below H3.out.1 hb4 (obj_lt H3.out.1)) (And.intro (H3.out.2.1.trans (hb4.mono H3.out.2.1.size)) (And.intro (scAt_below H3.out.2.2 hb4) (And.intro y4 (And.intro (tyAt_below hty hb44) (clAt_below hcl hb44))))))
  have HW4 := Lib.hid hW4
  obtain ⟨x, r, b, ok, hform, heq⟩ := ty_form s
  have HEq := Lib.hid heq
  have hT1 := stype_any g plT plC s W4 H4.out.2.2.1 plT_lowT hsl (by decide)
  have HT1 := Lib.hid (hT1.mono (R' := fun en w' => en = .returned (.tuple #[.agg #[.string ⟨x.toArray⟩, .int .i64 r, .bool b], .bool ok]) ∧ Below W4.heap.size W4 w') (fun en w' h => ⟨by rw [← hform]; exact h.1, h.2⟩))
  have HT2 := Lib.hid (fun w' (hty : TyAt w' (.slice tva 13 tvc) plT) => (rtype9_any plT (.slice tva 13 tvc) (.slice cva 5 cvc) s w' hty (by decide) (by decide +kernel) hsl).mono (R' := fun en w'' => en = .returned (.tuple #[.agg #[.string ⟨x.toArray⟩, .int .i64 r, .bool b], .bool ok]) ∧ Below w'.heap.size w' w'') (fun en w'' h => ⟨by rw [← hform]; exact h.1, h.2⟩))
  obtain ⟨cx, L1, L2, cok, hway, hcf⟩ := cl_form (scC plC s)
  have hL : L1.length ≤ 7 ∧ L2.length ≤ 7 := by
    rcases hway with ⟨_, h1, h2⟩ | ⟨c, h0, h1, h2⟩
    · subst h1 h2; simp
    · subst h1 h2; exact plC_few h0
  have HC1 := Lib.hid (fun w' (hs : ScAt w' g plT plC) => (sclass_any g plT plC s w' hs plC_lowC hsl (by decide +kernel) (by decide +kernel)).mono (hcf w'))
  have HC2 := Lib.hid (fun w' (hc : ClAt w' (.slice cva 5 cvc) plC) => (rclass9_any plC (.slice tva 13 tvc) (.slice cva 5 cvc) s w' hc (by decide) (by decide +kernel) (by decide +kernel) hsl).mono (hcf w'))
  obtain ⟨n1, hn1⟩ : ∃ n1, L1.length = n1 := ⟨_, rfl⟩
  obtain ⟨n2, hn2⟩ : ∃ n2, L2.length = n2 := ⟨_, rfl⟩
  have hL1 := hL.1
  have hL2 := hL.2
  rw [hn1] at hL1
  rw [hn2] at hL2
  simp only [hn1, hn2] at HC1 HC2
  have HNl := Lib.hid (And.intro hn1 hn2)
  clear hb hW4 y4 hb4 hb44 hty hcl hform heq hT1 hway hcf hL hn1 hn2
  go_wp2_with fail
  rw [HW4.out]
  refine HT1.out.mono ?_
  rintro en w5 ⟨rfl, hb⟩
  obtain ⟨W5, hW5⟩ : ∃ W5, w5.alloc (.cells #[.string ⟨x.toArray⟩, .int .i64 r, .bool b] 35) = W5 := ⟨_, rfl⟩
  have y5 : W5.heap[w5.heap.size]? = some (.cells #[.string ⟨x.toArray⟩, .int .i64 r, .bool b] 35 (0, 0)) := by rw [← hW5]; exact heap_alloc_new w5 _
  have hb5 : Below W4.heap.size W4 W5 := by rw [← hW5]; exact hb.alloc hb.size _
  have H5 := Lib.hid (And.intro (obj_below H4.out.1 hb5 (obj_lt H4.out.1)) (And.intro (H4.out.2.1.trans (hb5.mono H4.out.2.1.size)) (And.intro (scAt_below H4.out.2.2.1 hb5) (And.intro (obj_below H4.out.2.2.2.1 hb5 (obj_lt H4.out.2.2.2.1)) (And.intro (tyAt_below H4.out.2.2.2.2.1 hb5) (And.intro (clAt_below H4.out.2.2.2.2.2 hb5) y5))))))
  have s01 := obj2s H5.out.2.2.2.1
  rw [← hW5] at s01
  obtain ⟨s0, s1⟩ := s01
  have HW5 := Lib.hid hW5
  clear hb hW5 y5 hb5
  go_wp2_with fail
  rw [HW5.out]
  refine (HT2.out W5 H5.out.2.2.2.2.1).mono ?_
  rintro en w6 ⟨rfl, hb⟩
  obtain ⟨W6, hW6⟩ : ∃ W6, w6.alloc (.cells #[.string ⟨x.toArray⟩, .int .i64 r, .bool b] 35) = W6 := ⟨_, rfl⟩
  have y6 : W6.heap[w6.heap.size]? = some (.cells #[.string ⟨x.toArray⟩, .int .i64 r, .bool b] 35 (0, 0)) := by rw [← hW6]; exact heap_alloc_new w6 _
  have hb6 : Below W5.heap.size W5 W6 := by rw [← hW6]; exact hb.alloc hb.size _
  have H6 := Lib.hid (And.intro (obj_below H5.out.1 hb6 (obj_lt H5.out.1)) (And.intro (H5.out.2.1.trans (hb6.mono H5.out.2.1.size)) (And.intro (scAt_below H5.out.2.2.1 hb6) (And.intro (obj_below H5.out.2.2.2.1 hb6 (obj_lt H5.out.2.2.2.1)) (And.intro (tyAt_below H5.out.2.2.2.2.1 hb6) (And.intro (clAt_below H5.out.2.2.2.2.2.1 hb6) (And.intro (obj_below H5.out.2.2.2.2.2.2 hb6 (obj_lt H5.out.2.2.2.2.2.2)) y6)))))))
  have HW6 := Lib.hid hW6
  clear hb hW6 y6 hb6 s0 s1
  go_wp2_with fail
  rw [HW6.out]
  refine (HC1.out W6 H6.out.2.2.1).mono ?_
  rintro en w7 ⟨am, cm, ay, cy, rfl, tm, ty, hb⟩
  obtain ⟨W7, hW7⟩ : ∃ W7, w7.alloc (.cells #[.string ⟨cx.toArray⟩, .slice am n1 cm, .slice ay n2 cy] 40) = W7 := ⟨_, rfl⟩
  have y7 : W7.heap[w7.heap.size]? = some (.cells #[.string ⟨cx.toArray⟩, .slice am n1 cm, .slice ay n2 cy] 40 (0, 0)) := by rw [← hW7]; exact heap_alloc_new w7 _
  have hb7 : Below W6.heap.size W6 W7 := by rw [← hW7]; exact hb.alloc hb.size _
  have hb77 : Below w7.heap.size w7 W7 := by rw [← hW7]; exact (Below.refl _ w7).alloc (Nat.le_refl _) _
  have HTx := Lib.hid (And.intro (txR_below tm hb77) (txR_below ty hb77))
  have H7 := Lib.hid (And.intro (obj_below H6.out.1 hb7 (obj_lt H6.out.1)) (And.intro (H6.out.2.1.trans (hb7.mono H6.out.2.1.size)) (And.intro (scAt_below H6.out.2.2.1 hb7) (And.intro (obj_below H6.out.2.2.2.1 hb7 (obj_lt H6.out.2.2.2.1)) (And.intro (tyAt_below H6.out.2.2.2.2.1 hb7) (And.intro (clAt_below H6.out.2.2.2.2.2.1 hb7) (And.intro (obj_below H6.out.2.2.2.2.2.2.1 hb7 (obj_lt H6.out.2.2.2.2.2.2.1)) (And.intro (obj_below H6.out.2.2.2.2.2.2.2 hb7 (obj_lt H6.out.2.2.2.2.2.2.2)) y7))))))))
  have HW7 := Lib.hid hW7
  have s01 := obj2s H7.out.2.2.2.1
  rw [← hW7] at s01
  obtain ⟨s0, s1⟩ := s01
  clear hb hW7 y7 hb7 hb77 tm ty
  go_wp2_with fail
  rw [HW7.out]
  refine (HC2.out W7 H7.out.2.2.2.2.2.1).mono ?_
  rintro en w8 ⟨dm, fm, dy, fy, rfl, tm, ty, hb⟩
  obtain ⟨W8, hW8⟩ : ∃ W8, w8.alloc (.cells #[.string ⟨cx.toArray⟩, .slice dm n1 fm, .slice dy n2 fy] 40) = W8 := ⟨_, rfl⟩
  have y8 : W8.heap[w8.heap.size]? = some (.cells #[.string ⟨cx.toArray⟩, .slice dm n1 fm, .slice dy n2 fy] 40 (0, 0)) := by rw [← hW8]; exact heap_alloc_new w8 _
  have hb8 : Below W7.heap.size W7 W8 := by rw [← hW8]; exact hb.alloc hb.size _
  have hb88 : Below w8.heap.size w8 W8 := by rw [← hW8]; exact (Below.refl _ w8).alloc (Nat.le_refl _) _
  have HTy := Lib.hid (And.intro (And.intro (txR_below HTx.out.1 hb8) (txR_below HTx.out.2 hb8)) (And.intro (txR_below tm hb88) (txR_below ty hb88)))
  have H8 := Lib.hid (And.intro (obj_below H7.out.1 hb8 (obj_lt H7.out.1)) (And.intro (H7.out.2.1.trans (hb8.mono H7.out.2.1.size)) (And.intro (scAt_below H7.out.2.2.1 hb8) (And.intro (obj_below H7.out.2.2.2.1 hb8 (obj_lt H7.out.2.2.2.1)) (And.intro (tyAt_below H7.out.2.2.2.2.1 hb8) (And.intro (clAt_below H7.out.2.2.2.2.2.1 hb8) (And.intro (obj_below H7.out.2.2.2.2.2.2.1 hb8 (obj_lt H7.out.2.2.2.2.2.2.1)) (And.intro (obj_below H7.out.2.2.2.2.2.2.2.1 hb8 (obj_lt H7.out.2.2.2.2.2.2.2.1)) (And.intro (obj_below H7.out.2.2.2.2.2.2.2.2 hb8 (obj_lt H7.out.2.2.2.2.2.2.2.2)) y8)))))))))
  obtain ⟨e0, e1⟩ := obj2s H8.out.1
  obtain ⟨s0', s1'⟩ := obj2s H8.out.2.2.2.1
  obtain ⟨a0, a1, a2⟩ := obj3 H8.out.2.2.2.2.2.2.1
  obtain ⟨b0, b1, b2⟩ := obj3 H8.out.2.2.2.2.2.2.2.1
  obtain ⟨c0, c1, c2⟩ := obj3 H8.out.2.2.2.2.2.2.2.2.1
  obtain ⟨d0, d1, d2⟩ := obj3 H8.out.2.2.2.2.2.2.2.2.2
  have hst := HEq.out
  have za := obj_lt H8.out.2.2.2.2.2.2.1
  have zb := obj_lt H8.out.2.2.2.2.2.2.2.1
  have zc := obj_lt H8.out.2.2.2.2.2.2.2.2.1
  have zd := obj_lt H8.out.2.2.2.2.2.2.2.2.2
  have ze := obj_lt H8.out.1
  have zs := obj_lt H8.out.2.2.2.1
  have hbA : ∀ q ∈ A, q.1.length ≤ 140737488355328 ∧ q.2.length ≤ 8 ∧ ∀ s ∈ q.2, s.length ≤ 140737488355328 := fun q hq => by
    obtain ⟨i, hi, rfl⟩ := List.getElem_of_mem hq
    obtain ⟨h1, h2, h3⟩ := HFe.out.2.2 i hi
    refine ⟨by omega, h2, fun s hs => ?_⟩
    obtain ⟨j, hj, rfl⟩ := List.getElem_of_mem hs
    have := h3 j hj
    omega
  have hAl : A.length ≤ 1000000 := by have := HFe.out.2.1; omega
  have X1 := Lib.hid (fun w' (hb : Below W8.heap.size W8 w') => (show Calls Tryz.prog 16 #[.slice am n1 cm, .slice dm n1 fm] w' (BB true w') by
    have := textr_any L1 L1 _ _ w' (txR_below HTy.out.1.1 hb) (txR_below HTy.out.2.1 hb) (by rw [HNl.out.1]; omega) (by rw [HNl.out.1]; omega)
    simpa using this))
  have X2 := Lib.hid (fun w' (hb : Below W8.heap.size W8 w') => (show Calls Tryz.prog 16 #[.slice ay n2 cy, .slice dy n2 fy] w' (BB true w') by
    have := textr_any L2 L2 _ _ w' (txR_below HTy.out.1.2 hb) (txR_below HTy.out.2.2 hb) (by rw [HNl.out.2]; omega) (by rw [HNl.out.2]; omega)
    simpa using this))
  obtain ⟨K, hK⟩ : ∃ K, chkS plT plC A = K := ⟨_, rfl⟩
  have K1 := Lib.hid (fun w' (hb : Below W8.heap.size W8 w') => (show Calls Tryz.prog 17 #[.pointer (some ⟨g, 0, none⟩), .agg #[.string ⟨dn.toArray⟩, .slice a n c]] w' (ScI (K : Nat) w') by
    have := scheck_any g plT plC A ⟨dn.toArray⟩ (.slice a n c) w' (scAt_below H8.out.2.2.1 hb) plT_lowT plC_lowC (by decide +kernel) (by decide +kernel) (HAt.out w' (H8.out.2.1.trans (hb.mono H8.out.2.1.size))) hAl (fun q hq => ⟨(hbA q hq).1, by have := (hbA q hq).2.1; omega, (hbA q hq).2.2⟩) (by decide +kernel) (by decide +kernel) (HEr.out w' (H8.out.2.1.trans (hb.mono H8.out.2.1.size)))
    rw [hK] at this; exact this))
  have K2 := Lib.hid (fun w' (hb : Below W8.heap.size W8 w') => (show Calls Tryz.prog 18 #[.agg #[.slice tva 13 tvc, .slice cva 5 cvc], .agg #[.string ⟨dn.toArray⟩, .slice a n c]] w' (ScI (K : Nat) w') by
    have := rchk9_any plT plC A (.slice tva 13 tvc) (.slice cva 5 cvc) (.slice a n c) ⟨dn.toArray⟩ w' (tyAt_below H8.out.2.2.2.2.1 hb) (clAt_below H8.out.2.2.2.2.2.1 hb) (HAt.out w' (H8.out.2.1.trans (hb.mono H8.out.2.1.size))) (by decide) (by decide) (by decide +kernel) (by decide +kernel) (by decide +kernel) hAl (fun q hq => ⟨(hbA q hq).1, by have := (hbA q hq).2.1; omega, (hbA q hq).2.2⟩)
    rw [hK] at this; exact this))
  obtain ⟨R, hR⟩ : ∃ R, risL (plT.map (·.1)) = R := ⟨_, rfl⟩
  have hRn : namL (plT.map fun t => lowL t.1) = R := by rw [namL_ris, ← pl_names]; exact hR
  have hRl : R.length ≤ 1000000 := by rw [← hR, aw_8]; decide
  obtain ⟨rn, hrn⟩ : ∃ rn, R.length = rn := ⟨_, rfl⟩
  have T1 := Lib.hid (fun w' (hb : Below W8.heap.size W8 w') => (show Calls Tryz.prog 19 #[.pointer (some ⟨g, 0, none⟩)] w' (fun en w'' => ∃ ta tc, en = .returned (.slice ta rn tc) ∧ TxR w'' (.slice ta rn tc) R ∧ Below w'.heap.size w' w'') by
    have := stypes_any g plT plC w' (scAt_below H8.out.2.2.1 hb) (by decide) (by decide) plT_nodup
    rw [hR] at this
    unfold RisPost at this
    rw [hrn] at this
    exact this))
  have N1 := Lib.hid (fun w' (hb : Below W8.heap.size W8 w') => (show Calls Tryz.prog 20 #[.agg #[.slice tva 13 tvc, .slice cva 5 cvc]] w' (fun en w'' => ∃ ta tc, en = .returned (.slice ta rn tc) ∧ TxR w'' (.slice ta rn tc) R ∧ Below w'.heap.size w' w'') by
    have := rnam9_any plT (.slice tva 13 tvc) (.slice cva 5 cvc) w' (tyAt_below H8.out.2.2.2.2.1 hb) (by decide) (by decide +kernel)
    rw [hRn] at this
    unfold NamPost at this
    rw [hrn] at this
    exact this))
  have X3 := Lib.hid (fun (v1 v2 : Value) w' (h1 : TxR w' v1 R) (h2 : TxR w' v2 R) => (show Calls Tryz.prog 16 #[v1, v2] w' (BB true w') by
    have := textr_any R R v1 v2 w' h1 h2 hRl hRl
    simpa using this))
  have A1 := Lib.hid (fun w' (hb : Below W8.heap.size W8 w') => HAw.out w' (H8.out.2.1.trans (hb.mono H8.out.2.1.size)))
  have HB8 := Lib.hid H8.out.2.1
  have HW8 := Lib.hid hW8
  clear hb y8 hb8 hb88 tm ty s0 s1 hW8 hK hR hRn hRl hrn hbA hAl
  go_wp2_with fail
  rw [HW8.out]
  go_region_held3 (fun w' => w'.cell? ⟨w.heap.size, 0, none⟩ = some (.string ⟨dn.toArray⟩) ∧ w'.cell? ⟨w.heap.size, 1, none⟩ = some (.slice a n c) ∧ w'.cell? ⟨w4.heap.size, 0, none⟩ = some (.slice tva 13 tvc) ∧ w'.cell? ⟨w4.heap.size, 1, none⟩ = some (.slice cva 5 cvc) ∧ w'.cell? ⟨w5.heap.size, 0, none⟩ = some (.string ⟨x.toArray⟩) ∧ w'.cell? ⟨w5.heap.size, 1, none⟩ = some (.int .i64 r) ∧ w'.cell? ⟨w5.heap.size, 2, none⟩ = some (.bool b) ∧ w'.cell? ⟨w6.heap.size, 0, none⟩ = some (.string ⟨x.toArray⟩) ∧ w'.cell? ⟨w6.heap.size, 1, none⟩ = some (.int .i64 r) ∧ w'.cell? ⟨w6.heap.size, 2, none⟩ = some (.bool b) ∧ w'.cell? ⟨w7.heap.size, 0, none⟩ = some (.string ⟨cx.toArray⟩) ∧ w'.cell? ⟨w7.heap.size, 1, none⟩ = some (.slice am n1 cm) ∧ w'.cell? ⟨w7.heap.size, 2, none⟩ = some (.slice ay n2 cy) ∧ w'.cell? ⟨w8.heap.size, 0, none⟩ = some (.string ⟨cx.toArray⟩) ∧ w'.cell? ⟨w8.heap.size, 1, none⟩ = some (.slice dm n1 fm) ∧ w'.cell? ⟨w8.heap.size, 2, none⟩ = some (.slice dy n2 fy)) (first | exact ⟨he0, he1, hs0', hs1', ha0, ha1, ha2, hb0, hb1, hb2, hc0, hc1, hc2, hd0, hd1, hd2⟩ | exact ⟨e0, e1, s0', s1', a0, a1, a2, b0, b1, b2, c0, c1, c2, d0, d1, d2⟩ | go_keep)
    (first | (go_at_call 16; (with_reducible refine (X1.out _ (by first | exact hbW | exact (Below.refl _ W8).drew)).mono ?_); rintro en wz ⟨rfl, hb5⟩; have hbW : Below W8.heap.size W8 wz := (by first | exact hbW.trans (hb5.mono hbW.size) | exact (Below.refl _ W8).drew.trans hb5); have he0 := (hbW.cell (p := ⟨w.heap.size, 0, none⟩) ze).trans e0; have he1 := (hbW.cell (p := ⟨w.heap.size, 1, none⟩) ze).trans e1; have hs0' := (hbW.cell (p := ⟨w4.heap.size, 0, none⟩) zs).trans s0'; have hs1' := (hbW.cell (p := ⟨w4.heap.size, 1, none⟩) zs).trans s1'; have ha0 := (hbW.cell (p := ⟨w5.heap.size, 0, none⟩) za).trans a0; have ha1 := (hbW.cell (p := ⟨w5.heap.size, 1, none⟩) za).trans a1; have ha2 := (hbW.cell (p := ⟨w5.heap.size, 2, none⟩) za).trans a2; have hb0 := (hbW.cell (p := ⟨w6.heap.size, 0, none⟩) zb).trans b0; have hb1 := (hbW.cell (p := ⟨w6.heap.size, 1, none⟩) zb).trans b1; have hb2 := (hbW.cell (p := ⟨w6.heap.size, 2, none⟩) zb).trans b2; have hc0 := (hbW.cell (p := ⟨w7.heap.size, 0, none⟩) zc).trans c0; have hc1 := (hbW.cell (p := ⟨w7.heap.size, 1, none⟩) zc).trans c1; have hc2 := (hbW.cell (p := ⟨w7.heap.size, 2, none⟩) zc).trans c2; have hd0 := (hbW.cell (p := ⟨w8.heap.size, 0, none⟩) zd).trans d0; have hd1 := (hbW.cell (p := ⟨w8.heap.size, 1, none⟩) zd).trans d1; have hd2 := (hbW.cell (p := ⟨w8.heap.size, 2, none⟩) zd).trans d2) | (go_at_call 16; (with_reducible refine (X2.out _ (by first | exact hbW | exact (Below.refl _ W8).drew)).mono ?_); rintro en wz ⟨rfl, hb5⟩; have hbW : Below W8.heap.size W8 wz := (by first | exact hbW.trans (hb5.mono hbW.size) | exact (Below.refl _ W8).drew.trans hb5); have he0 := (hbW.cell (p := ⟨w.heap.size, 0, none⟩) ze).trans e0; have he1 := (hbW.cell (p := ⟨w.heap.size, 1, none⟩) ze).trans e1; have hs0' := (hbW.cell (p := ⟨w4.heap.size, 0, none⟩) zs).trans s0'; have hs1' := (hbW.cell (p := ⟨w4.heap.size, 1, none⟩) zs).trans s1'; have ha0 := (hbW.cell (p := ⟨w5.heap.size, 0, none⟩) za).trans a0; have ha1 := (hbW.cell (p := ⟨w5.heap.size, 1, none⟩) za).trans a1; have ha2 := (hbW.cell (p := ⟨w5.heap.size, 2, none⟩) za).trans a2; have hb0 := (hbW.cell (p := ⟨w6.heap.size, 0, none⟩) zb).trans b0; have hb1 := (hbW.cell (p := ⟨w6.heap.size, 1, none⟩) zb).trans b1; have hb2 := (hbW.cell (p := ⟨w6.heap.size, 2, none⟩) zb).trans b2; have hc0 := (hbW.cell (p := ⟨w7.heap.size, 0, none⟩) zc).trans c0; have hc1 := (hbW.cell (p := ⟨w7.heap.size, 1, none⟩) zc).trans c1; have hc2 := (hbW.cell (p := ⟨w7.heap.size, 2, none⟩) zc).trans c2; have hd0 := (hbW.cell (p := ⟨w8.heap.size, 0, none⟩) zd).trans d0; have hd1 := (hbW.cell (p := ⟨w8.heap.size, 1, none⟩) zd).trans d1; have hd2 := (hbW.cell (p := ⟨w8.heap.size, 2, none⟩) zd).trans d2) | (go_at_call 17; (with_reducible refine (K1.out _ (by first | exact hbW | exact (Below.refl _ W8).drew)).mono ?_); rintro en wz ⟨rfl, hb5⟩; have hbW : Below W8.heap.size W8 wz := (by first | exact hbW.trans (hb5.mono hbW.size) | exact (Below.refl _ W8).drew.trans hb5); have he0 := (hbW.cell (p := ⟨w.heap.size, 0, none⟩) ze).trans e0; have he1 := (hbW.cell (p := ⟨w.heap.size, 1, none⟩) ze).trans e1; have hs0' := (hbW.cell (p := ⟨w4.heap.size, 0, none⟩) zs).trans s0'; have hs1' := (hbW.cell (p := ⟨w4.heap.size, 1, none⟩) zs).trans s1'; have ha0 := (hbW.cell (p := ⟨w5.heap.size, 0, none⟩) za).trans a0; have ha1 := (hbW.cell (p := ⟨w5.heap.size, 1, none⟩) za).trans a1; have ha2 := (hbW.cell (p := ⟨w5.heap.size, 2, none⟩) za).trans a2; have hb0 := (hbW.cell (p := ⟨w6.heap.size, 0, none⟩) zb).trans b0; have hb1 := (hbW.cell (p := ⟨w6.heap.size, 1, none⟩) zb).trans b1; have hb2 := (hbW.cell (p := ⟨w6.heap.size, 2, none⟩) zb).trans b2; have hc0 := (hbW.cell (p := ⟨w7.heap.size, 0, none⟩) zc).trans c0; have hc1 := (hbW.cell (p := ⟨w7.heap.size, 1, none⟩) zc).trans c1; have hc2 := (hbW.cell (p := ⟨w7.heap.size, 2, none⟩) zc).trans c2; have hd0 := (hbW.cell (p := ⟨w8.heap.size, 0, none⟩) zd).trans d0; have hd1 := (hbW.cell (p := ⟨w8.heap.size, 1, none⟩) zd).trans d1; have hd2 := (hbW.cell (p := ⟨w8.heap.size, 2, none⟩) zd).trans d2) | (go_at_call 18; (with_reducible refine (K2.out _ (by first | exact hbW | exact (Below.refl _ W8).drew)).mono ?_); rintro en wz ⟨rfl, hb5⟩; have hbW : Below W8.heap.size W8 wz := (by first | exact hbW.trans (hb5.mono hbW.size) | exact (Below.refl _ W8).drew.trans hb5); have he0 := (hbW.cell (p := ⟨w.heap.size, 0, none⟩) ze).trans e0; have he1 := (hbW.cell (p := ⟨w.heap.size, 1, none⟩) ze).trans e1; have hs0' := (hbW.cell (p := ⟨w4.heap.size, 0, none⟩) zs).trans s0'; have hs1' := (hbW.cell (p := ⟨w4.heap.size, 1, none⟩) zs).trans s1'; have ha0 := (hbW.cell (p := ⟨w5.heap.size, 0, none⟩) za).trans a0; have ha1 := (hbW.cell (p := ⟨w5.heap.size, 1, none⟩) za).trans a1; have ha2 := (hbW.cell (p := ⟨w5.heap.size, 2, none⟩) za).trans a2; have hb0 := (hbW.cell (p := ⟨w6.heap.size, 0, none⟩) zb).trans b0; have hb1 := (hbW.cell (p := ⟨w6.heap.size, 1, none⟩) zb).trans b1; have hb2 := (hbW.cell (p := ⟨w6.heap.size, 2, none⟩) zb).trans b2; have hc0 := (hbW.cell (p := ⟨w7.heap.size, 0, none⟩) zc).trans c0; have hc1 := (hbW.cell (p := ⟨w7.heap.size, 1, none⟩) zc).trans c1; have hc2 := (hbW.cell (p := ⟨w7.heap.size, 2, none⟩) zc).trans c2; have hd0 := (hbW.cell (p := ⟨w8.heap.size, 0, none⟩) zd).trans d0; have hd1 := (hbW.cell (p := ⟨w8.heap.size, 1, none⟩) zd).trans d1; have hd2 := (hbW.cell (p := ⟨w8.heap.size, 2, none⟩) zd).trans d2) | (go_at_call 19; (with_reducible refine (T1.out _ (by first | exact hbW | exact (Below.refl _ W8).drew)).mono ?_); rintro en wz ⟨t1a, t1c, rfl, ht5, hb5⟩; have hbW : Below W8.heap.size W8 wz := (by first | exact hbW.trans (hb5.mono hbW.size) | exact (Below.refl _ W8).drew.trans hb5); have he0 := (hbW.cell (p := ⟨w.heap.size, 0, none⟩) ze).trans e0; have he1 := (hbW.cell (p := ⟨w.heap.size, 1, none⟩) ze).trans e1; have hs0' := (hbW.cell (p := ⟨w4.heap.size, 0, none⟩) zs).trans s0'; have hs1' := (hbW.cell (p := ⟨w4.heap.size, 1, none⟩) zs).trans s1'; have ha0 := (hbW.cell (p := ⟨w5.heap.size, 0, none⟩) za).trans a0; have ha1 := (hbW.cell (p := ⟨w5.heap.size, 1, none⟩) za).trans a1; have ha2 := (hbW.cell (p := ⟨w5.heap.size, 2, none⟩) za).trans a2; have hb0 := (hbW.cell (p := ⟨w6.heap.size, 0, none⟩) zb).trans b0; have hb1 := (hbW.cell (p := ⟨w6.heap.size, 1, none⟩) zb).trans b1; have hb2 := (hbW.cell (p := ⟨w6.heap.size, 2, none⟩) zb).trans b2; have hc0 := (hbW.cell (p := ⟨w7.heap.size, 0, none⟩) zc).trans c0; have hc1 := (hbW.cell (p := ⟨w7.heap.size, 1, none⟩) zc).trans c1; have hc2 := (hbW.cell (p := ⟨w7.heap.size, 2, none⟩) zc).trans c2; have hd0 := (hbW.cell (p := ⟨w8.heap.size, 0, none⟩) zd).trans d0; have hd1 := (hbW.cell (p := ⟨w8.heap.size, 1, none⟩) zd).trans d1; have hd2 := (hbW.cell (p := ⟨w8.heap.size, 2, none⟩) zd).trans d2; have HTt := Lib.hid ht5; clear ht5) | (go_at_call 20; (with_reducible refine (N1.out _ (by first | exact hbW | exact (Below.refl _ W8).drew)).mono ?_); rintro en wz ⟨n1a, n1c, rfl, hn5, hb5⟩; have hbW : Below W8.heap.size W8 wz := (by first | exact hbW.trans (hb5.mono hbW.size) | exact (Below.refl _ W8).drew.trans hb5); have he0 := (hbW.cell (p := ⟨w.heap.size, 0, none⟩) ze).trans e0; have he1 := (hbW.cell (p := ⟨w.heap.size, 1, none⟩) ze).trans e1; have hs0' := (hbW.cell (p := ⟨w4.heap.size, 0, none⟩) zs).trans s0'; have hs1' := (hbW.cell (p := ⟨w4.heap.size, 1, none⟩) zs).trans s1'; have ha0 := (hbW.cell (p := ⟨w5.heap.size, 0, none⟩) za).trans a0; have ha1 := (hbW.cell (p := ⟨w5.heap.size, 1, none⟩) za).trans a1; have ha2 := (hbW.cell (p := ⟨w5.heap.size, 2, none⟩) za).trans a2; have hb0 := (hbW.cell (p := ⟨w6.heap.size, 0, none⟩) zb).trans b0; have hb1 := (hbW.cell (p := ⟨w6.heap.size, 1, none⟩) zb).trans b1; have hb2 := (hbW.cell (p := ⟨w6.heap.size, 2, none⟩) zb).trans b2; have hc0 := (hbW.cell (p := ⟨w7.heap.size, 0, none⟩) zc).trans c0; have hc1 := (hbW.cell (p := ⟨w7.heap.size, 1, none⟩) zc).trans c1; have hc2 := (hbW.cell (p := ⟨w7.heap.size, 2, none⟩) zc).trans c2; have hd0 := (hbW.cell (p := ⟨w8.heap.size, 0, none⟩) zd).trans d0; have hd1 := (hbW.cell (p := ⟨w8.heap.size, 1, none⟩) zd).trans d1; have hd2 := (hbW.cell (p := ⟨w8.heap.size, 2, none⟩) zd).trans d2; have HTt := Lib.hid (And.intro (txR_below HTt.out hb5) hn5); clear hn5) | (go_at_call 16; (with_reducible refine (X3.out _ _ _ HTt.out.1 HTt.out.2).mono ?_); rintro en wz ⟨rfl, hb5⟩; have hbW : Below W8.heap.size W8 wz := (by first | exact hbW.trans (hb5.mono hbW.size) | exact (Below.refl _ W8).drew.trans hb5); have he0 := (hbW.cell (p := ⟨w.heap.size, 0, none⟩) ze).trans e0; have he1 := (hbW.cell (p := ⟨w.heap.size, 1, none⟩) ze).trans e1; have hs0' := (hbW.cell (p := ⟨w4.heap.size, 0, none⟩) zs).trans s0'; have hs1' := (hbW.cell (p := ⟨w4.heap.size, 1, none⟩) zs).trans s1'; have ha0 := (hbW.cell (p := ⟨w5.heap.size, 0, none⟩) za).trans a0; have ha1 := (hbW.cell (p := ⟨w5.heap.size, 1, none⟩) za).trans a1; have ha2 := (hbW.cell (p := ⟨w5.heap.size, 2, none⟩) za).trans a2; have hb0 := (hbW.cell (p := ⟨w6.heap.size, 0, none⟩) zb).trans b0; have hb1 := (hbW.cell (p := ⟨w6.heap.size, 1, none⟩) zb).trans b1; have hb2 := (hbW.cell (p := ⟨w6.heap.size, 2, none⟩) zb).trans b2; have hc0 := (hbW.cell (p := ⟨w7.heap.size, 0, none⟩) zc).trans c0; have hc1 := (hbW.cell (p := ⟨w7.heap.size, 1, none⟩) zc).trans c1; have hc2 := (hbW.cell (p := ⟨w7.heap.size, 2, none⟩) zc).trans c2; have hd0 := (hbW.cell (p := ⟨w8.heap.size, 0, none⟩) zd).trans d0; have hd1 := (hbW.cell (p := ⟨w8.heap.size, 1, none⟩) zd).trans d1; have hd2 := (hbW.cell (p := ⟨w8.heap.size, 2, none⟩) zd).trans d2) | (go_at_call 9; (with_reducible refine (A1.out _ (by first | exact hbW | exact (Below.refl _ W8).drew)).mono ?_); rintro en wz ⟨rfl, hb5⟩; have hbW : Below W8.heap.size W8 wz := (by first | exact hbW.trans (hb5.mono hbW.size) | exact (Below.refl _ W8).drew.trans hb5); have he0 := (hbW.cell (p := ⟨w.heap.size, 0, none⟩) ze).trans e0; have he1 := (hbW.cell (p := ⟨w.heap.size, 1, none⟩) ze).trans e1; have hs0' := (hbW.cell (p := ⟨w4.heap.size, 0, none⟩) zs).trans s0'; have hs1' := (hbW.cell (p := ⟨w4.heap.size, 1, none⟩) zs).trans s1'; have ha0 := (hbW.cell (p := ⟨w5.heap.size, 0, none⟩) za).trans a0; have ha1 := (hbW.cell (p := ⟨w5.heap.size, 1, none⟩) za).trans a1; have ha2 := (hbW.cell (p := ⟨w5.heap.size, 2, none⟩) za).trans a2; have hb0 := (hbW.cell (p := ⟨w6.heap.size, 0, none⟩) zb).trans b0; have hb1 := (hbW.cell (p := ⟨w6.heap.size, 1, none⟩) zb).trans b1; have hb2 := (hbW.cell (p := ⟨w6.heap.size, 2, none⟩) zb).trans b2; have hc0 := (hbW.cell (p := ⟨w7.heap.size, 0, none⟩) zc).trans c0; have hc1 := (hbW.cell (p := ⟨w7.heap.size, 1, none⟩) zc).trans c1; have hc2 := (hbW.cell (p := ⟨w7.heap.size, 2, none⟩) zc).trans c2; have hd0 := (hbW.cell (p := ⟨w8.heap.size, 0, none⟩) zd).trans d0; have hd1 := (hbW.cell (p := ⟨w8.heap.size, 1, none⟩) zd).trans d1; have hd2 := (hbW.cell (p := ⟨w8.heap.size, 2, none⟩) zd).trans d2))
  have HF := Lib.hid (HB8.out.trans (hbW.mono HB8.out.size))
  clear hbW he0 he1 hs0' hs1' ha0 ha1 ha2 hb0 hb1 hb2 hc0 hc1 hc2 hd0 hd1 hd2
  clear e0 e1 s0' s1' a0 a1 a2 b0 b1 b2 c0 c1 c2 d0 d1 d2
  go_wp2
  go_ret
  exact bB_mk rfl HF.out
end Go.Proofs.YtcfckgpjdaadeaaGreatDoor
