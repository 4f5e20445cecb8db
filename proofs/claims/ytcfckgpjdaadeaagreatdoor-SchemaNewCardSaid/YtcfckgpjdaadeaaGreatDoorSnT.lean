/- The code's Check: whether an entry may be. -/
import Derived.Test.YtcfckgpjdaadeaaGreatDoorSnQS
import Derived.Test.YtcfckgpjdaadeaaGreatDoorScCD
namespace Go.Proofs.YtcfckgpjdaadeaaGreatDoor
set_option linter.unusedSimpArgs false
set_option linter.unusedVariables false
open Go Go.RowKit Go.Proofs.BerK Go.Proofs.MemK Go.Proofs.UtfK

/-- May an entry be? The code. -/
def chkS (T : List Ty) (C : List Cl) (A : List Atr) : Nat :=
  if tyAll T A = false then 17 else if (A.any fun a => a.2.length == 0) = true then 19 else if nmOk (A.map (tyG T)) A = false then 21 else
  if ¬ ((A.map (tyG T)).map (·.1)).Nodup then 20 else if (nmG (A.map (tyG T)) A).any dupL = true then 20 else
  if tmB (A.map (tyG T)) (nmG (A.map (tyG T)) A) = true then 19 else if fitB C ((A.map (tyG T)).map (·.1)) A = false then 65 else 0
theorem tyG_name {T : List Ty} {A : List Atr} (h : tyAll T A = true) : (A.map (tyG T)).map (·.1) = A.map fun a => lowL a.1 := by
  rw [List.map_map]
  apply List.map_congr_left
  intro a ha
  have := List.all_eq_true.1 h a ha
  obtain ⟨t, ht⟩ := Option.isSome_iff_exists.1 this
  simp only [Function.comp, tyG, ht, Option.getD_some]
  exact scT_name ht
theorem nmG_mem {TL : List Ty} {A : List Atr} {l : List (List UInt8)} (h : l ∈ nmG TL A) : ∃ t, ∃ a ∈ A, l = nmV t a := by
  unfold nmG at h
  obtain ⟨i, hi, rfl⟩ := List.getElem_of_mem h
  simp at hi
  exact ⟨TL[i], A[i], List.getElem_mem _, by simp⟩
theorem scheck_nil (dn : ByteArray) (a : Option Addr) (n c : Nat) (w : World) : Calls Tryz.prog 17 #[.pointer none, .agg #[.string dn, .slice a n c]] w (ScI 80 w) := by
  go_enter Tryz.func17, Tryz.ntmps17
  go_wp2
  go_ret
  exact scI_mk rfl ((Below.refl _ _).alloc (Nat.le_refl _) _)
set_option maxHeartbeats 6400000 in
set_option maxRecDepth 100000 in
theorem scheck_any (g : Nat) (T : List Ty) (C : List Cl) (A : List Atr) (dn : ByteArray) (v : Value) (w : World) (h : ScAt w g T C) (hlowT : LowT T) (hlowC : LowC C) (hlT : T.length ≤ 1024) (hlC : C.length ≤ 1024) (hA : AtAt w v A)
    (hl : A.length ≤ 1000000) (hv : ∀ a ∈ A, a.1.length ≤ 140737488355328 ∧ a.2.length ≤ 1000000 ∧ ∀ s ∈ a.2, s.length ≤ 140737488355328) (hlm : ∀ c ∈ C, c.2.1.length ≤ 1000000 ∧ c.2.2.length ≤ 1000000) (hs : ∀ c ∈ C, (∀ s ∈ c.2.1, s.length ≤ 140737488355328) ∧ ∀ s ∈ c.2.2, s.length ≤ 140737488355328) (he : ErrOk w) :
    Calls Tryz.prog 17 #[.pointer (some ⟨g, 0, none⟩), .agg #[.string dn, v]] w (ScI (chkS T C A : Nat) w) := by
  obtain ⟨R, hR⟩ : ∃ R, chkS T C A = R := ⟨_, rfl⟩
  have hR' := hR
  rw [hR]
  unfold chkS at hR'
  obtain ⟨TL, hTL⟩ : ∃ TL, A.map (tyG T) = TL := ⟨_, rfl⟩
  rw [hTL] at hR'
  have hTLl : TL.length = A.length := by rw [← hTL]; simp
  obtain ⟨G, hG⟩ : ∃ G, nmG TL A = G := ⟨_, rfl⟩
  rw [hG] at hR'
  have hGl : G.length = A.length := by rw [← hG]; unfold nmG; simp; omega
  obtain ⟨N, hN⟩ : ∃ N, TL.map (·.1) = N := ⟨_, rfl⟩
  rw [hN] at hR'
  have hNl : N.length = A.length := by rw [← hN]; simpa using hTLl
  have hb0 : ∀ wb, Below w.heap.size w (w.alloc wb) := fun wb => (Below.refl _ w).alloc (Nat.le_refl _) _
  obtain ⟨a, c, rfl, _⟩ := id hA
  obtain ⟨W1, hW1⟩ : ∃ W1, w.alloc (.cells #[.string dn, .slice a A.length c] 24) = W1 := ⟨_, rfl⟩
  have hb1 : Below w.heap.size w W1 := by rw [← hW1]; exact hb0 _
  have x1 : W1.heap[w.heap.size]? = some (.cells #[.string dn, .slice a A.length c] 24 (0, 0)) := by rw [← hW1]; exact heap_alloc_new w _
  have hz1 : w.heap.size < W1.heap.size := obj_lt x1
  have HTy := Lib.hid (typesOf_any g T C A _ W1 (scAt_below h hb1) hlowT hlT (atAt_below hA hb1) hl (fun a ha => (hv a ha).1))
  have HCn := Lib.hid (fun w' (hb : Below W1.heap.size W1 w') => cnA_any A _ w' (atAt_below hA (hb1.trans (hb.mono hb1.size))) hl)
  have HNo := Lib.hid (fun tv w' (hb : Below W1.heap.size W1 w') (ht : TyAt w' tv TL) => norms_any TL A tv _ w' ht (atAt_below hA (hb1.trans (hb.mono hb1.size))) hTLl hl (fun a ha => (hv a ha).2.1) (errOk_below he (hb1.trans (hb.mono hb1.size))))
  have HDu := Lib.hid (fun gv w' (hg : GrAt w' gv G) => cnG_any G gv w' hg (by omega) (fun l hl' => by
    rw [← hG] at hl'
    obtain ⟨t, a, ha, rfl⟩ := nmG_mem hl'
    refine ⟨by unfold nmV; rw [List.length_map]; exact (hv a ha).2.1, fun s hs' => ?_⟩
    obtain ⟨u, _, rfl⟩ := List.mem_map.1 hs'
    have := ru_len t.2.1 u
    omega))
  have HTm := Lib.hid (fun tv gv w' (ht : TyAt w' tv TL) (hg : GrAt w' gv G) => tooMany_any TL G tv gv w' ht hg (by omega) (by omega))
  have HFi := Lib.hid (fun q w' (hb : Below W1.heap.size W1 w') (hq : NmAt w' (.map q) N) (hnd : N.Nodup) => fits_any g T C A N _ q w' (scAt_below h (hb1.trans (hb.mono hb1.size))) hlowC hlC (atAt_below hA (hb1.trans (hb.mono hb1.size))) hq hNl hnd hl (fun a ha => (hv a ha).2) hlm hs)
  have HX := Lib.hid (And.intro hb1 x1)
  have HW1 := Lib.hid hW1
  have HRR := Lib.hid hR'
  obtain ⟨n, hn⟩ : ∃ n, A.length = n := ⟨_, rfl⟩
  rw [hn] at HTy HCn HNo HFi x1
  have HXc := Lib.hid (obj_cell x1 1 (.slice a n c) rfl)
  have hname : N.length ≤ 1000000 ∧ TL.length ≤ 1000000 := by omega
  have HNa := Lib.hid (fun tv w' (hall : tyAll T A = true) (ht : TyAt w' tv TL) => (show Calls Tryz.prog 46 #[tv] w' (NmsV N w') by
    rw [← hN]
    refine namesOf_any TL tv w' ht (by omega) (fun t ht' => ?_)
    have h2 : t.1 ∈ TL.map (·.1) := List.mem_map.2 ⟨t, ht', rfl⟩
    rw [← hTL, tyG_name hall] at h2
    obtain ⟨a, ha, e⟩ := List.mem_map.1 h2
    rw [← e]
    simpa [lowL] using (hv a ha).1))
  rw [hn] at hW1
  have HW1 := Lib.hid hW1
  have HTLe := Lib.hid hTL
  have HGe := Lib.hid hG
  clear hb0 hb1 x1 hW1 hA hl hv hlm hs he h hlowT hlowC hlT hlC hR hR' hTL hTLl hG hGl hN hNl
  have HNn := Lib.hid hn
  rw [hn]
  clear hn
  cases hty : tyAll T A with
  | false =>
    have HTy0 := Lib.hid (HTy.out.mono (R' := fun en w'' => en = .returned (.tuple #[.slice none 0 0, .bool false]) ∧ Below W1.heap.size W1 w'') (fun en w'' h => ⟨h.1 hty, h.2.2⟩))
    have H := Lib.hid (HRR.out.symm.trans (if_pos hty))
    clear hty
    go_enter Tryz.func17, Tryz.ntmps17
    go_wp2_with fail
    rw [HW1.out]
    refine HTy0.out.mono ?_
    rintro en w2 ⟨rfl, hb⟩
    have HB := Lib.hid (HX.out.1.trans (hb.mono HX.out.1.size))
    clear hb
    go_wp2
    go_ret
    exact scI_mk (by rw [H.out]; rfl) HB.out
  | true =>
    have HTy1 := Lib.hid (HTy.out.mono (R' := fun en w'' => ∃ ta tc, en = .returned (.tuple #[.slice ta n tc, .bool true]) ∧ TyAt w'' (.slice ta n tc) TL ∧ Below W1.heap.size W1 w'') (fun en w'' h => by
      obtain ⟨ta, tc, e, ht⟩ := h.2.1 hty
      rw [HNn.out] at e ht
      exact ⟨ta, tc, e, by rw [← HTLe.out]; exact ht, h.2.2⟩))
    have HNa1 := Lib.hid (fun tv w' ht => HNa.out tv w' hty ht)
    have hR1 := HRR.out
    rw [if_neg (by rw [hty]; simp)] at hR1
    have HR1 := Lib.hid hR1
    clear hty hR1 HRR HNa
    go_enter Tryz.func17, Tryz.ntmps17
    go_wp2_with fail
    rw [HW1.out]
    refine HTy1.out.mono ?_
    rintro en w2 ⟨ta, tc, rfl, ht2, hb2⟩
    have x2 := (hb2.cell (p := ⟨w.heap.size, 1, none⟩) hz1).trans HXc.out
    have H2 := Lib.hid (And.intro ht2 hb2)
    have hz2 : w.heap.size < w2.heap.size := Nat.lt_of_lt_of_le hz1 hb2.size
    clear ht2 hb2
    have HCn2 := Lib.hid (HCn.out w2 H2.out.2)
    obtain ⟨q1, hq1⟩ : ∃ b, (A.any fun a => a.2.length == 0) = b := ⟨_, rfl⟩
    rw [hq1] at HCn2 HR1
    clear hq1
    go_wp2_with fail
    refine HCn2.out.mono ?_
    rintro en w3 ⟨rfl, hb⟩
    have x3 := (hb.cell (p := ⟨w.heap.size, 1, none⟩) hz2).trans x2
    have H3 := Lib.hid (And.intro (tyAt_below H2.out.1 hb) (H2.out.2.trans (hb.mono H2.out.2.size)))
    have hz3 : w.heap.size < w3.heap.size := Nat.lt_of_lt_of_le hz2 hb.size
    clear hb x2
    cases q1 with
    | true =>
      have H := Lib.hid (HR1.out.symm.trans (if_pos rfl))
      have HB := Lib.hid (HX.out.1.trans (H3.out.2.mono HX.out.1.size))
      clear x3
      go_wp2
      go_ret
      exact scI_mk (by rw [H.out]; rfl) HB.out
    | false =>
    have hR1 := HR1.out
    rw [if_neg (by simp)] at hR1
    have HR2 := Lib.hid hR1
    clear hR1
    cases hno : nmOk TL A with
    | false =>
      have HNo0 := Lib.hid ((HNo.out _ w3 H3.out.2 H3.out.1).mono (R' := fun en w'' => en = .returned (.tuple #[.slice none 0 0, .bool false]) ∧ Below w3.heap.size w3 w'') (fun en w'' h => ⟨h.1 hno, h.2.2⟩))
      have H := Lib.hid (HR2.out.symm.trans (if_pos hno))
      clear hno
      go_wp2_with fail
      refine HNo0.out.mono ?_
      rintro en w4 ⟨rfl, hb⟩
      have HB := Lib.hid (HX.out.1.trans ((H3.out.2.trans (hb.mono H3.out.2.size)).mono HX.out.1.size))
      clear hb x3
      go_wp2
      go_ret
      exact scI_mk (by rw [H.out]; rfl) HB.out
    | true =>
    have HNo1 := Lib.hid ((HNo.out _ w3 H3.out.2 H3.out.1).mono (R' := fun en w'' => ∃ ga gn gc, en = .returned (.tuple #[.slice ga gn gc, .bool true]) ∧ GrAt w'' (.slice ga gn gc) G ∧ Below w3.heap.size w3 w'') (fun en w'' h => by
      obtain ⟨v, e, hg⟩ := h.2.1 hno
      rw [HGe.out] at hg
      obtain ⟨ga, gc, rfl, hx⟩ := id hg
      exact ⟨ga, _, gc, e, hg, h.2.2⟩))
    have hR1 := HR2.out
    rw [if_neg (by rw [hno]; simp)] at hR1
    have HR3 := Lib.hid hR1
    clear hR1 hno
    go_wp2_with fail
    refine HNo1.out.mono ?_
    rintro en w4 ⟨ga, gn, gc, rfl, hg4, hb⟩
    have x4 := (hb.cell (p := ⟨w.heap.size, 1, none⟩) hz3).trans x3
    have H4 := Lib.hid (And.intro (tyAt_below H3.out.1 hb) (And.intro (H3.out.2.trans (hb.mono H3.out.2.size)) hg4))
    have hz4 : w.heap.size < w4.heap.size := Nat.lt_of_lt_of_le hz3 hb.size
    clear hb x3 hg4
    by_cases hnd : N.Nodup
    · have HNa2 := Lib.hid ((HNa1.out _ w4 H4.out.1).mono (R' := fun en w'' => ∃ q, en = .returned (.tuple #[.agg #[.map q], .bool true]) ∧ NmAt w'' (.map q) N ∧ Below w4.heap.size w4 w'') (fun en w'' h => by
        obtain ⟨mv, e, hm⟩ := h.2.1 hnd
        obtain ⟨q, rfl⟩ := nmAt_form hm
        exact ⟨q, e, hm, h.2.2⟩))
      have hR1 := HR3.out
      rw [if_neg (fun h => h hnd)] at hR1
      have HR4 := Lib.hid hR1
      have HND := Lib.hid hnd
      clear hR1 hnd
      go_wp2_with fail
      refine HNa2.out.mono ?_
      rintro en w5 ⟨q, rfl, hm5, hb⟩
      have x5 := (hb.cell (p := ⟨w.heap.size, 1, none⟩) hz4).trans x4
      have hz5 : w.heap.size < w5.heap.size := Nat.lt_of_lt_of_le hz4 hb.size
      obtain ⟨W6, hW6⟩ : ∃ W6, w5.alloc (.cells #[.map q] 71) = W6 := ⟨_, rfl⟩
      have hb56 : Below w5.heap.size w5 W6 := by rw [← hW6]; exact (Below.refl _ w5).alloc (Nat.le_refl _) _
      have y6 : W6.heap[w5.heap.size]? = some (.cells #[.map q] 71 (0, 0)) := by rw [← hW6]; exact heap_alloc_new w5 _
      have hb46 := hb.trans (hb56.mono hb.size)
      have x6 := (hb56.cell (p := ⟨w.heap.size, 1, none⟩) hz5).trans x5
      have HW6 := Lib.hid hW6
      have H6 := Lib.hid (And.intro (tyAt_below H4.out.1 hb46) (And.intro (H4.out.2.1.trans (hb46.mono H4.out.2.1.size)) (And.intro (grAt_below H4.out.2.2 hb46) (And.intro (nmAt_below hm5 hb56) y6))))
      have hz6 : w.heap.size < W6.heap.size := Nat.lt_of_lt_of_le hz5 hb56.size
      have hz56 : w5.heap.size < W6.heap.size := obj_lt y6
      clear hb x4 hm5 hb56 hW6 hb46 y6
      have HDu6 := Lib.hid (HDu.out _ W6 H6.out.2.2.1)
      obtain ⟨q2, hq2⟩ : ∃ b, G.any dupL = b := ⟨_, rfl⟩
      rw [hq2] at HDu6 HR4
      clear hq2
      go_wp2_with fail
      rw [HW6.out]
      clear x5
      refine HDu6.out.mono ?_
      rintro en w7 ⟨rfl, hb⟩
      have x7 := (hb.cell (p := ⟨w.heap.size, 1, none⟩) hz6).trans x6
      have y7 := obj_cell (obj_below H6.out.2.2.2.2 hb hz56) 0 (.map q) rfl
      have H7 := Lib.hid (And.intro (tyAt_below H6.out.1 hb) (And.intro (H6.out.2.1.trans (hb.mono H6.out.2.1.size)) (And.intro (grAt_below H6.out.2.2.1 hb) (nmAt_below H6.out.2.2.2.1 hb))))
      have hz7 : w.heap.size < w7.heap.size := Nat.lt_of_lt_of_le hz6 hb.size
      have hz57 : w5.heap.size < w7.heap.size := Nat.lt_of_lt_of_le hz56 hb.size
      clear hb x6
      cases q2 with
      | true =>
        have H := Lib.hid (HR4.out.symm.trans (if_pos rfl))
        have HB := Lib.hid (HX.out.1.trans (H7.out.2.1.mono HX.out.1.size))
        clear x7 y7
        go_wp2
        go_ret
        exact scI_mk (by rw [H.out]; rfl) HB.out
      | false =>
      have hR1 := HR4.out
      rw [if_neg (by simp)] at hR1
      have HTm7 := Lib.hid (HTm.out _ _ w7 H7.out.1 H7.out.2.2.1)
      obtain ⟨q3, hq3⟩ : ∃ b, tmB TL G = b := ⟨_, rfl⟩
      rw [hq3] at HTm7 hR1
      have HR5 := Lib.hid hR1
      clear hq3 hR1
      go_wp2_with fail
      refine HTm7.out.mono ?_
      rintro en w8 ⟨rfl, hb⟩
      have x8 := (hb.cell (p := ⟨w.heap.size, 1, none⟩) hz7).trans x7
      have y8 := (hb.cell (p := ⟨w5.heap.size, 0, none⟩) hz57).trans y7
      have H8 := Lib.hid (And.intro (H7.out.2.1.trans (hb.mono H7.out.2.1.size)) (nmAt_below H7.out.2.2.2 hb))
      clear hb x7 y7
      cases q3 with
      | true =>
        have H := Lib.hid (HR5.out.symm.trans (if_pos rfl))
        have HB := Lib.hid (HX.out.1.trans (H8.out.1.mono HX.out.1.size))
        clear x8 y8
        go_wp2
        go_ret
        exact scI_mk (by rw [H.out]; rfl) HB.out
      | false =>
      have hR1 := HR5.out
      rw [if_neg (by simp)] at hR1
      have HFi8 := Lib.hid (HFi.out q w8 H8.out.1 H8.out.2 HND.out)
      obtain ⟨q4, hq4⟩ : ∃ b, fitB C N A = b := ⟨_, rfl⟩
      rw [hq4] at HFi8 hR1
      have HR6 := Lib.hid hR1
      clear hq4 hR1
      go_wp2_with fail
      refine HFi8.out.mono ?_
      rintro en w9 ⟨rfl, hb⟩
      have HB := Lib.hid (HX.out.1.trans ((H8.out.1.trans (hb.mono H8.out.1.size)).mono HX.out.1.size))
      clear hb x8 y8
      cases q4 with
      | false =>
        have H := Lib.hid (HR6.out.symm.trans (if_pos rfl))
        go_wp2
        go_ret
        exact scI_mk (by rw [H.out]; rfl) HB.out
      | true =>
        have H := Lib.hid (HR6.out.symm.trans (if_neg (by simp)))
        go_wp2
        go_ret
        exact scI_mk (by rw [H.out]; rfl) HB.out
    · have HNa2 := Lib.hid ((HNa1.out _ w4 H4.out.1).mono (R' := fun en w'' => en = .returned (.tuple #[.agg #[.map none], .bool false]) ∧ Below w4.heap.size w4 w'') (fun en w'' h => ⟨h.1 hnd, h.2.2⟩))
      have H := Lib.hid (HR3.out.symm.trans (if_pos hnd))
      clear hnd
      go_wp2_with fail
      refine HNa2.out.mono ?_
      rintro en w5 ⟨rfl, hb⟩
      have hbw := HX.out.1.trans ((H4.out.2.1.trans (hb.mono H4.out.2.1.size)).mono HX.out.1.size)
      have HB := Lib.hid (hbw.alloc hbw.size (.cells #[.map none] 71))
      clear hb hbw x4
      go_wp2
      go_ret
      exact scI_mk (by rw [H.out]; rfl) HB.out
end Go.Proofs.YtcfckgpjdaadeaaGreatDoor
