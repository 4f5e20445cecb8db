/- The law on any schema, for all types, classes and entries. -/
import Derived.Test.YtcfckgpjdaadeaaGreatDoorSnUW
import Derived.Test.YtcfckgpjdaadeaaGreatDoorScE
import Derived.Test.YtcfckgpjdaadeaaGreatDoorScG
import Derived.Test.YtcfckgpjdaadeaaGreatDoorScK
import Derived.Test.YtcfckgpjdaadeaaGreatDoorScW
import Derived.Test.YtcfckgpjdaadeaaGreatDoorTxs
namespace Go.Proofs.YtcfckgpjdaadeaaGreatDoor
set_option linter.unusedSimpArgs false
set_option linter.unusedVariables false
open Go Go.RowKit Go.Proofs.BerK Go.Proofs.MemK Go.Proofs.UtfK

theorem chkS_low (T : List Ty) (C : List Cl) (A : List Atr) : chkS (T.map lowTy) (C.map lowCl) A = chkS T C A := by
  have h1 : tyG (T.map lowTy) = tyG T := by funext a; unfold tyG; rw [scT_low]
  have h2 : tyAll (T.map lowTy) A = tyAll T A := by unfold tyAll; congr 1; funext a; rw [scT_low]
  have h3 : scC (C.map lowCl) = scC C := by funext s; exact scC_low C s
  have h4 : ∀ N, fitB (C.map lowCl) N A = fitB C N A := fun N => by unfold fitB ofOk; rw [h3]
  unfold chkS
  rw [h1, h2, h4]
theorem nw_facts {T : List Ty} {C : List Cl} (h : scNw T C = 0) : ((T.map lowTy).map (·.1)).Nodup ∧ 0 < T.length ∧ T.length ≤ 1024 ∧ C.length ≤ 1024 := by
  unfold scNw at h
  by_cases h1 : 1024 < T.length ∨ 1024 < C.length
  · rw [if_pos h1] at h; cases h
  rw [if_neg h1] at h
  by_cases h2 : scChk T C ≠ 0
  · rw [if_pos h2] at h; exact absurd h h2
  rw [if_neg h2] at h
  have h2 : scChk T C = 0 := by omega
  have h3 : hasTyB ((T.map lowTy).map (·.1)) (C.map lowCl) = true := by
    cases hq : hasTyB ((T.map lowTy).map (·.1)) (C.map lowCl)
    · rw [hq] at h; cases h
    · rfl
  refine ⟨?_, ?_, by omega, by omega⟩
  · have h4 : twcL (T.map Prod.fst) = false := by
      unfold scChk at h2
      cases hq : twcL (T.map Prod.fst)
      · rfl
      · rw [hq] at h2
        split at h2
        · rename_i ha; exact absurd h2 ha
        · split at h2
          · cases h2
          · simp at h2
    rw [twc_nodup] at h4
    rw [lowTy_names]
    simpa using h4
  · cases T with
    | nil => unfold hasTyB at h3; simp [inL] at h3
    | cons t T => simp
theorem lowL_len (s : List UInt8) : (lowL s).length = s.length := by simp [lowL]
set_option maxHeartbeats 25600000 in
set_option maxRecDepth 100000 in
theorem scnew_any (dn : List UInt8) (T : List Ty) (C : List Cl) (A : List Atr) (tv cv av : Value) (w : World) (hT : TyAt w tv T) (hC : ClAt w cv C) (hA : AtAt w av A) (hs : ∀ c ∈ C, (∀ s ∈ c.2.1, s.length ≤ 140737488355328) ∧ ∀ s ∈ c.2.2, s.length ≤ 140737488355328) (he : ErrOk w) :
    Calls Tryz.prog 4 #[tv, cv, .agg #[.string ⟨dn.toArray⟩, av]] w (BB true w) := by
  have HAw := Lib.hid (fun w' (hb : Below w.heap.size w w') => scawake_any w' (errOk_below he hb))
  have HFw := Lib.hid (fun w' (hb : Below w.heap.size w w') => few9_any dn A av w' (atAt_below hA hb))
  have HSm := Lib.hid (fun w' (hb : Below w.heap.size w w') => small9_any T C tv cv w' (tyAt_below hT hb) (clAt_below hC hb))
  have HAt := Lib.hid (fun w' (hb : Below w.heap.size w w') => atAt_below hA hb)
  have HTy := Lib.hid (fun w' (hb : Below w.heap.size w w') => tyAt_below hT hb)
  have HCl := Lib.hid (fun w' (hb : Below w.heap.size w w') => clAt_below hC hb)
  have HEr := Lib.hid (fun w' (hb : Below w.heap.size w w') => errOk_below he hb)
  have HS := Lib.hid hs
  obtain ⟨a, c, rfl, _⟩ := hA
  obtain ⟨ta, tc, rfl, _⟩ := hT
  obtain ⟨ca, cc, rfl, _⟩ := hC
  obtain ⟨n, hn⟩ : ∃ n, A.length = n := ⟨_, rfl⟩
  obtain ⟨tn, htn⟩ : ∃ n, T.length = n := ⟨_, rfl⟩
  obtain ⟨cn, hcn⟩ : ∃ n, C.length = n := ⟨_, rfl⟩
  rw [hn] at HFw HAt ⊢
  rw [htn] at HSm HTy ⊢
  rw [hcn] at HSm HCl ⊢
  obtain ⟨W1, hW1⟩ : ∃ W1, w.alloc (.cells #[.string ⟨dn.toArray⟩, .slice a n c] 24) = W1 := ⟨_, rfl⟩
  have y1 : W1.heap[w.heap.size]? = some (.cells #[.string ⟨dn.toArray⟩, .slice a n c] 24 (0, 0)) := by rw [← hW1]; exact heap_alloc_new w _
  have hb1 : Below w.heap.size w W1 := by rw [← hW1]; exact (Below.refl _ w).alloc (Nat.le_refl _) _
  have H1 := Lib.hid (And.intro y1 hb1)
  have HW1 := Lib.hid hW1
  clear he hn htn hcn hW1 y1 hb1 hs
  go_enter Tryz.func4, Tryz.ntmps4
  go_wp2_with fail
  rw [HW1.out]
  refine (HSm.out W1 H1.out.2).mono ?_
  rintro en w2 ⟨hen, hb⟩
  have H2 := Lib.hid (And.intro (obj_below H1.out.1 hb (obj_lt H1.out.1)) (H1.out.2.trans (hb.mono H1.out.2.size)))
  clear hb
  rcases hen with rfl | ⟨rfl, hsm⟩
  · go_wp2_with fail
    refine (HAw.out _ H2.out.2).mono ?_
    rintro en w9 ⟨rfl, hb⟩
    have HB9 := Lib.hid ((H2.out.2).trans (hb.mono (H2.out.2).size))
    clear hb
    go_wp2
    go_ret
    exact bB_mk rfl HB9.out
  have HSa := Lib.hid hsm
  clear hsm
  obtain ⟨e0, e1⟩ := obj2s H2.out.1
  go_wp2_with fail
  refine (HFw.out w2 H2.out.2).mono ?_
  rintro en w3 ⟨hen, hb⟩
  have H3 := Lib.hid (And.intro (obj_below H2.out.1 hb (obj_lt H2.out.1)) (H2.out.2.trans (hb.mono H2.out.2.size)))
  clear hb e0 e1
  rcases hen with rfl | ⟨rfl, hfew⟩
  · go_wp2_with fail
    refine (HAw.out _ H3.out.2).mono ?_
    rintro en w9 ⟨rfl, hb⟩
    have HB9 := Lib.hid ((H3.out.2).trans (hb.mono (H3.out.2).size))
    clear hb
    go_wp2
    go_ret
    exact bB_mk rfl HB9.out
  have HFe := Lib.hid hfew
  clear hfew
  have hbt : ∀ t ∈ T, t.1.length ≤ 140737488355328 := fun t ht => by
    obtain ⟨i, hi, rfl⟩ := List.getElem_of_mem ht
    have := HSa.out.2.2.1 i hi
    omega
  have hbc : ∀ t ∈ C, t.1.length ≤ 140737488355328 ∧ t.2.1.length ≤ 5 ∧ t.2.2.length ≤ 5 := fun t ht => by
    obtain ⟨i, hi, rfl⟩ := List.getElem_of_mem ht
    have := HSa.out.2.2.2 i hi
    exact ⟨by omega, this.2⟩
  have HBt := Lib.hid hbt
  have HBc := Lib.hid hbc
  have HN1 := Lib.hid (snew_any T C (.slice ta tn tc) (.slice ca cn cc) w3 (HTy.out w3 H3.out.2) (HCl.out w3 H3.out.2) hbt (fun t ht => (hbc t ht).1) (fun t ht => ⟨by have := (hbc t ht).2.1; omega, by have := (hbc t ht).2.2; omega⟩) HS.out)
  clear hbt hbc
  go_wp2_with fail
  refine HN1.out.mono ?_
  rintro en w4 ⟨hbad, hgood, hb⟩
  have HB4 := Lib.hid (And.intro (obj_below H3.out.1 hb (obj_lt H3.out.1)) (H3.out.2.trans (hb.mono H3.out.2.size)))
  have HN2 := Lib.hid (rnew9_any T C (.slice ta tn tc) (.slice ca cn cc) w4 (HTy.out w4 HB4.out.2) (HCl.out w4 HB4.out.2) HBt.out (fun t ht => (HBc.out t ht).1) (fun t ht => ⟨by have := (HBc.out t ht).2.1; omega, by have := (HBc.out t ht).2.2; omega⟩) HS.out)
  clear hb
  by_cases hz : scNw T C = 0
  case neg =>
    have hen := hbad hz
    subst hen
    have HZ := Lib.hid hz
    obtain ⟨K, hK⟩ : ∃ K, scNw T C = K := ⟨_, rfl⟩
    have hKn : K ≠ 0 := by rw [← hK]; exact hz
    have q1 : ((K : Int) != 0) = true := by rw [bne_iff_ne]; omega
    rw [hK]
    have HKe := Lib.hid hK
    clear hbad hgood hz hK hKn
    go_wp2_with fail
    refine HN2.out.mono ?_
    rintro en w5 ⟨hbad, _, hb⟩
    have hen := hbad HZ.out
    subst hen
    rw [HKe.out]
    obtain ⟨W5, hW5⟩ : ∃ W5, w5.alloc (.cells #[.slice none 0 0, .slice none 0 0] 32) = W5 := ⟨_, rfl⟩
    have hb5 : Below w4.heap.size w4 W5 := by rw [← hW5]; exact hb.alloc hb.size _
    have HB5 := Lib.hid (HB4.out.2.trans (hb5.mono HB4.out.2.size))
    have HW5 := Lib.hid hW5
    clear hbad hb hW5 hb5
    go_wp2_with fail
    rw [HW5.out]
    refine (HAw.out _ HB5.out).mono ?_
    rintro en w9 ⟨rfl, hb⟩
    have HB9 := Lib.hid (HB5.out.trans (hb.mono HB5.out.size))
    clear hb
    go_wp2
    go_ret
    exact bB_mk rfl HB9.out
  obtain ⟨g, hen, hsc⟩ := hgood hz
  subst hen
  have HZ := Lib.hid hz
  have HSc := Lib.hid hsc
  clear hbad hgood hz hsc
  go_wp2_with fail
  refine HN2.out.mono ?_
  rintro en w5 ⟨_, hgood, hb⟩
  have hen := hgood HZ.out
  subst hen
  obtain ⟨W5, hW5⟩ : ∃ W5, w5.alloc (.cells #[.slice ta tn tc, .slice ca cn cc] 32) = W5 := ⟨_, rfl⟩
  have y5 : W5.heap[w5.heap.size]? = some (.cells #[.slice ta tn tc, .slice ca cn cc] 32 (0, 0)) := by rw [← hW5]; exact heap_alloc_new w5 _
  have hb5 : Below w4.heap.size w4 W5 := by rw [← hW5]; exact hb.alloc hb.size _
  have H5 := Lib.hid (And.intro (obj_below HB4.out.1 hb5 (obj_lt HB4.out.1)) (And.intro (HB4.out.2.trans (hb5.mono HB4.out.2.size)) (And.intro (scAt_below HSc.out hb5) y5)))
  have HW5 := Lib.hid hW5
  obtain ⟨e0, e1⟩ := obj2s H5.out.1
  obtain ⟨s0', s1'⟩ := obj2s H5.out.2.2.2
  have ze := obj_lt H5.out.1
  have zs := obj_lt H5.out.2.2.2
  obtain ⟨hnd, hT0, hT1, hC1⟩ := nw_facts HZ.out
  have hbA : ∀ q ∈ A, q.1.length ≤ 140737488355328 ∧ q.2.length ≤ 8 ∧ ∀ s ∈ q.2, s.length ≤ 140737488355328 := fun q hq => by
    obtain ⟨i, hi, rfl⟩ := List.getElem_of_mem hq
    obtain ⟨h1, h2, h3⟩ := HFe.out.2.2 i hi
    refine ⟨by omega, h2, fun s hs => ?_⟩
    obtain ⟨j, hj, rfl⟩ := List.getElem_of_mem hs
    have := h3 j hj
    omega
  have hAl : A.length ≤ 1000000 := by have := HFe.out.2.1; omega
  obtain ⟨K, hK⟩ : ∃ K, chkS T C A = K := ⟨_, rfl⟩
  have K1 := Lib.hid (fun w' (hb : Below W5.heap.size W5 w') => (show Calls Tryz.prog 17 #[.pointer (some ⟨g, 0, none⟩), .agg #[.string ⟨dn.toArray⟩, .slice a n c]] w' (ScI (K : Nat) w') by
    have hC' : ∀ c ∈ C.map lowCl, (c.2.1.length ≤ 1000000 ∧ c.2.2.length ≤ 1000000) ∧ (∀ s ∈ c.2.1, s.length ≤ 140737488355328) ∧ ∀ s ∈ c.2.2, s.length ≤ 140737488355328 := fun c hc => by
      obtain ⟨d, hd, rfl⟩ := List.mem_map.1 hc
      obtain ⟨_, h1, h2⟩ := HBc.out d hd
      obtain ⟨h3, h4⟩ := HS.out d hd
      refine ⟨⟨by show (d.2.1.map lowL).length ≤ _; rw [List.length_map]; omega, by show (d.2.2.map lowL).length ≤ _; rw [List.length_map]; omega⟩, fun s hs => ?_, fun s hs => ?_⟩
      · obtain ⟨q, hq, rfl⟩ := List.mem_map.1 (show s ∈ d.2.1.map lowL from hs)
        rw [lowL_len]; exact h3 q hq
      · obtain ⟨q, hq, rfl⟩ := List.mem_map.1 (show s ∈ d.2.2.map lowL from hs)
        rw [lowL_len]; exact h4 q hq
    have := scheck_any g (T.map lowTy) (C.map lowCl) A ⟨dn.toArray⟩ (.slice a n c) w' (scAt_below H5.out.2.2.1 hb) (lowT_map T) (lowC_map C) (by rw [List.length_map]; exact hT1) (by rw [List.length_map]; exact hC1) (HAt.out w' (H5.out.2.1.trans (hb.mono H5.out.2.1.size))) hAl (fun q hq => ⟨(hbA q hq).1, by have := (hbA q hq).2.1; omega, (hbA q hq).2.2⟩) (fun c hc => (hC' c hc).1) (fun c hc => (hC' c hc).2) (HEr.out w' (H5.out.2.1.trans (hb.mono H5.out.2.1.size)))
    rw [chkS_low, hK] at this; exact this))
  have K2 := Lib.hid (fun w' (hb : Below W5.heap.size W5 w') => (show Calls Tryz.prog 18 #[.agg #[.slice ta tn tc, .slice ca cn cc], .agg #[.string ⟨dn.toArray⟩, .slice a n c]] w' (ScI (K : Nat) w') by
    have hbb := H5.out.2.1.trans (hb.mono H5.out.2.1.size)
    have := rchk9_any T C A (.slice ta tn tc) (.slice ca cn cc) (.slice a n c) ⟨dn.toArray⟩ w' (HTy.out w' hbb) (HCl.out w' hbb) (HAt.out w' hbb) (by omega) (by omega) HBt.out (fun t ht => (HBc.out t ht).1) (fun t ht => ⟨by have := (HBc.out t ht).2; omega, HS.out t ht⟩) hAl (fun q hq => ⟨(hbA q hq).1, by have := (hbA q hq).2.1; omega, (hbA q hq).2.2⟩)
    rw [hK] at this; exact this))
  obtain ⟨R, hR⟩ : ∃ R, risL ((T.map lowTy).map (·.1)) = R := ⟨_, rfl⟩
  have hRn : namL (T.map fun t => lowL t.1) = R := by rw [namL_ris, ← lowTy_names]; exact hR
  have hRl : R.length ≤ 1000000 := by rw [← hRn, namL_length, List.length_map]; omega
  obtain ⟨rn, hrn⟩ : ∃ rn, R.length = rn := ⟨_, rfl⟩
  have T1 := Lib.hid (fun w' (hb : Below W5.heap.size W5 w') => (show Calls Tryz.prog 19 #[.pointer (some ⟨g, 0, none⟩)] w' (fun en w'' => ∃ ta tc, en = .returned (.slice ta rn tc) ∧ TxR w'' (.slice ta rn tc) R ∧ Below w'.heap.size w' w'') by
    have := stypes_any g (T.map lowTy) (C.map lowCl) w' (scAt_below H5.out.2.2.1 hb) (by rw [List.length_map]; exact hT0) (by rw [List.length_map]; exact hT1) hnd
    rw [hR] at this
    unfold RisPost at this
    rw [hrn] at this
    exact this))
  have N1 := Lib.hid (fun w' (hb : Below W5.heap.size W5 w') => (show Calls Tryz.prog 20 #[.agg #[.slice ta tn tc, .slice ca cn cc]] w' (fun en w'' => ∃ ta tc, en = .returned (.slice ta rn tc) ∧ TxR w'' (.slice ta rn tc) R ∧ Below w'.heap.size w' w'') by
    have := rnam9_any T (.slice ta tn tc) (.slice ca cn cc) w' (HTy.out w' (H5.out.2.1.trans (hb.mono H5.out.2.1.size))) (by omega) HBt.out
    rw [hRn] at this
    unfold NamPost at this
    rw [hrn] at this
    exact this))
  have X3 := Lib.hid (fun (v1 v2 : Value) w' (h1 : TxR w' v1 R) (h2 : TxR w' v2 R) => (show Calls Tryz.prog 16 #[v1, v2] w' (BB true w') by
    have := textr_any R R v1 v2 w' h1 h2 hRl hRl
    simpa using this))
  have A1 := Lib.hid (fun w' (hb : Below W5.heap.size W5 w') => HAw.out w' (H5.out.2.1.trans (hb.mono H5.out.2.1.size)))
  have HB5 := Lib.hid H5.out.2.1
  clear hgood hb y5 hb5 hW5 hnd hT0 hT1 hC1 hbA hAl hK hR hRn hRl hrn
  go_wp2_with fail
  rw [HW5.out]
  go_region_held3 (fun w' => w'.cell? ⟨w.heap.size, 0, none⟩ = some (.string ⟨dn.toArray⟩) ∧ w'.cell? ⟨w.heap.size, 1, none⟩ = some (.slice a n c) ∧ w'.cell? ⟨w5.heap.size, 0, none⟩ = some (.slice ta tn tc) ∧ w'.cell? ⟨w5.heap.size, 1, none⟩ = some (.slice ca cn cc)) (first | exact ⟨he0, he1, hs0', hs1'⟩ | exact ⟨e0, e1, s0', s1'⟩ | go_keep)
    (first | (go_at_call 17; (with_reducible refine (K1.out _ (by first | exact hbW | exact (Below.refl _ W5).drew)).mono ?_); rintro en wz ⟨rfl, hb5⟩; have hbW : Below W5.heap.size W5 wz := (by first | exact hbW.trans (hb5.mono hbW.size) | exact (Below.refl _ W5).drew.trans hb5); have he0 := (hbW.cell (p := ⟨w.heap.size, 0, none⟩) ze).trans e0; have he1 := (hbW.cell (p := ⟨w.heap.size, 1, none⟩) ze).trans e1; have hs0' := (hbW.cell (p := ⟨w5.heap.size, 0, none⟩) zs).trans s0'; have hs1' := (hbW.cell (p := ⟨w5.heap.size, 1, none⟩) zs).trans s1') | (go_at_call 18; (with_reducible refine (K2.out _ (by first | exact hbW | exact (Below.refl _ W5).drew)).mono ?_); rintro en wz ⟨rfl, hb5⟩; have hbW : Below W5.heap.size W5 wz := (by first | exact hbW.trans (hb5.mono hbW.size) | exact (Below.refl _ W5).drew.trans hb5); have he0 := (hbW.cell (p := ⟨w.heap.size, 0, none⟩) ze).trans e0; have he1 := (hbW.cell (p := ⟨w.heap.size, 1, none⟩) ze).trans e1; have hs0' := (hbW.cell (p := ⟨w5.heap.size, 0, none⟩) zs).trans s0'; have hs1' := (hbW.cell (p := ⟨w5.heap.size, 1, none⟩) zs).trans s1') | (go_at_call 19; (with_reducible refine (T1.out _ (by first | exact hbW | exact (Below.refl _ W5).drew)).mono ?_); rintro en wz ⟨t1a, t1c, rfl, ht5, hb5⟩; have hbW : Below W5.heap.size W5 wz := (by first | exact hbW.trans (hb5.mono hbW.size) | exact (Below.refl _ W5).drew.trans hb5); have he0 := (hbW.cell (p := ⟨w.heap.size, 0, none⟩) ze).trans e0; have he1 := (hbW.cell (p := ⟨w.heap.size, 1, none⟩) ze).trans e1; have hs0' := (hbW.cell (p := ⟨w5.heap.size, 0, none⟩) zs).trans s0'; have hs1' := (hbW.cell (p := ⟨w5.heap.size, 1, none⟩) zs).trans s1'; have HTt := Lib.hid ht5; clear ht5) | (go_at_call 20; (with_reducible refine (N1.out _ (by first | exact hbW | exact (Below.refl _ W5).drew)).mono ?_); rintro en wz ⟨n1a, n1c, rfl, hn5, hb5⟩; have hbW : Below W5.heap.size W5 wz := (by first | exact hbW.trans (hb5.mono hbW.size) | exact (Below.refl _ W5).drew.trans hb5); have he0 := (hbW.cell (p := ⟨w.heap.size, 0, none⟩) ze).trans e0; have he1 := (hbW.cell (p := ⟨w.heap.size, 1, none⟩) ze).trans e1; have hs0' := (hbW.cell (p := ⟨w5.heap.size, 0, none⟩) zs).trans s0'; have hs1' := (hbW.cell (p := ⟨w5.heap.size, 1, none⟩) zs).trans s1'; have HTt := Lib.hid (And.intro (txR_below HTt.out hb5) hn5); clear hn5) | (go_at_call 16; (with_reducible refine (X3.out _ _ _ HTt.out.1 HTt.out.2).mono ?_); rintro en wz ⟨rfl, hb5⟩; have hbW : Below W5.heap.size W5 wz := (by first | exact hbW.trans (hb5.mono hbW.size) | exact (Below.refl _ W5).drew.trans hb5); have he0 := (hbW.cell (p := ⟨w.heap.size, 0, none⟩) ze).trans e0; have he1 := (hbW.cell (p := ⟨w.heap.size, 1, none⟩) ze).trans e1; have hs0' := (hbW.cell (p := ⟨w5.heap.size, 0, none⟩) zs).trans s0'; have hs1' := (hbW.cell (p := ⟨w5.heap.size, 1, none⟩) zs).trans s1') | (go_at_call 9; (with_reducible refine (A1.out _ (by first | exact hbW | exact (Below.refl _ W5).drew)).mono ?_); rintro en wz ⟨rfl, hb5⟩; have hbW : Below W5.heap.size W5 wz := (by first | exact hbW.trans (hb5.mono hbW.size) | exact (Below.refl _ W5).drew.trans hb5); have he0 := (hbW.cell (p := ⟨w.heap.size, 0, none⟩) ze).trans e0; have he1 := (hbW.cell (p := ⟨w.heap.size, 1, none⟩) ze).trans e1; have hs0' := (hbW.cell (p := ⟨w5.heap.size, 0, none⟩) zs).trans s0'; have hs1' := (hbW.cell (p := ⟨w5.heap.size, 1, none⟩) zs).trans s1'))
  have HF := Lib.hid (HB5.out.trans (hbW.mono HB5.out.size))
  clear hbW he0 he1 hs0' hs1'
  clear e0 e1 s0' s1'
  go_wp2
  go_ret
  exact bB_mk rfl HF.out
end Go.Proofs.YtcfckgpjdaadeaaGreatDoor
