/- The document's ReadNotice. -/
import Derived.Test.YtlnfbjgadcifkaaDoorCtH
namespace Go.Proofs.YtlnfbjgadcifkaaDoor
set_option linter.unusedSimpArgs false
set_option linter.unusedVariables false
open Go Go.RowKit Go.Proofs.BerM Go.Proofs.BerK Go.Proofs.MemK Go.Proofs.NumM

/-- The bodies that the document looks at. -/
def bodyAt (P : List TB) (i : Nat) : List UInt8 := (P.getD i (0, [])).2
def oldOf (P : List TB) : List UInt8 := if 2 < P.length then bodyAt P 1 else []
theorem bodyAt_get {P : List TB} {i : Nat} (h : i < P.length) : bodyAt P i = P[i].2 := by simp [bodyAt, List.getD, h]
theorem nt_len2 (k : Int) (o : List UInt8) (n : Int) : 2 ≤ (ntTB k o n).length := by unfold ntTB; split <;> simp
theorem nt_bad {s b : List UInt8} {t sz e f : Nat} {P : List TB} (hr : rd s = (t, b, sz, e)) (ha : al b = (P, f)) (h : e ≠ 0 ∨ sz < s.length ∨ f ≠ 0 ∨ P.length < 2) : ntR s = ((0, [], 0), 5) := by
  refine nt_none s (fun k o n hk => ?_)
  obtain ⟨b', h1, h2⟩ := nt_rd hk
  rw [hr] at h1
  simp only [Prod.mk.injEq] at h1
  obtain ⟨_, rfl, rfl, rfl⟩ := h1
  rw [ha] at h2
  simp only [Prod.mk.injEq] at h2
  obtain ⟨rfl, rfl⟩ := h2
  have := nt_len2 k o n
  omega
theorem nt_doc {s b : List UInt8} {t sz e f : Nat} {P : List TB} (hr : rd s = (t, b, sz, e)) (ha : al b = (P, f)) : ntR s = ((0, [], 0), 5) ∨ ntP (nr (bodyAt P 0)).1 (oldOf P) (nr (bodyAt P (P.length - 1))).1 = (s, 0) := by
  rcases nt_or s with h | ⟨k, o, n, _, hk⟩
  · exact .inl h
  · refine .inr ?_
    obtain ⟨q1, q2, q3, q4, _⟩ := nt_ok hk
    have hkk := (isK_iff k).1 q1
    obtain ⟨b', h1, h2⟩ := nt_rd hk
    rw [hr] at h1
    simp only [Prod.mk.injEq] at h1
    obtain ⟨_, rfl, rfl, rfl⟩ := h1
    rw [ha] at h2
    simp only [Prod.mk.injEq] at h2
    obtain ⟨rfl, rfl⟩ := h2
    have e1 : bodyAt (ntTB k o n) 0 = npL k := by unfold ntTB; split <;> rfl
    have e2 : bodyAt (ntTB k o n) ((ntTB k o n).length - 1) = npL n := by unfold ntTB; split <;> rfl
    have e3 : oldOf (ntTB k o n) = o := by
      unfold oldOf ntTB
      by_cases ho : o = []
      · simp [ho]
      · simp [ho, bodyAt]
    rw [e1, e2, e3, nr_put k (by omega) (by omega), nr_put n (by omega) (by omega)]
    exact hk
theorem body_len {b : List UInt8} {P : List TB} {f : Nat} (ha : al b = (P, f)) (i : Nat) : (bodyAt P i).length ≤ 65536 := by
  unfold bodyAt
  by_cases h : i < P.length
  · have e : P.getD i (0, []) = P[i] := by simp [List.getD, h]
    rw [e]
    have := (al_good b).1
    rw [ha] at this
    exact (this _ (List.getElem_mem h)).2
  · have e : P.getD i (0, []) = (0, []) := by rw [List.getD_eq_getElem?_getD, List.getElem?_eq_none (by omega)]; rfl
    rw [e]; simp
theorem old_len {b : List UInt8} {P : List TB} {f : Nat} (ha : al b = (P, f)) : (oldOf P).length ≤ 65536 := by
  unfold oldOf
  split
  · exact body_len ha 1
  · simp
theorem own_tbs {w : World} {B : Nat} {v : Value} {P : List TB} (h : w.ownsRow B 54 2 v P.length (tc P)) (h0 : 0 < P.length) :
    ∃ g c, v = .slice (some ⟨g, 0, none⟩) P.length c ∧ g < w.heap.size ∧ ∀ i (hi : i < P.length), w.cell? ⟨g, i * 2, none⟩ = some (.int .i64 (P[i].1 : Int)) ∧ w.cell? ⟨g, i * 2 + 1, none⟩ = some (.string ⟨P[i].2.toArray⟩) := by
  rcases rowAt_owns h with ⟨h1, _⟩ | ⟨_, g, c, hv, hg, hq⟩
  · rw [h1] at h0; simp at h0
  · exact ⟨g, c, hv, hg, hq⟩
theorem rd_blen (l : List UInt8) : (rd l).2.2.2 ≠ 0 → (rd l).2.1 = [] := by
  intro h
  unfold rd at h ⊢
  split
  · rfl
  · split
    · rfl
    · rename_i h1 h2
      rw [if_neg h1, if_neg h2] at h
      simp at h
set_option maxHeartbeats 6400000 in
set_option maxRecDepth 100000 in
theorem rcntr_any (s : List UInt8) (w : World) (hs : s.length ≤ maxLen) : Calls Tryd.prog 16 #[.string ⟨s.toArray⟩] w (NtPost (ntR s) w) := by
  obtain ⟨t, b, sz, e, hr⟩ : ∃ t b sz e, rd s = (t, b, sz, e) := ⟨_, _, _, _, rfl⟩
  obtain ⟨P, f, ha⟩ : ∃ P f, al b = (P, f) := ⟨_, _, rfl⟩
  have hbl : b.length ≤ maxLen := by
    unfold maxLen at hs ⊢
    by_cases he : e = 0
    · subst he
      have := (rd_good s t sz b hr).2
      omega
    · have := rd_blen s
      rw [hr] at this
      simp only at this
      rw [this he]; simp
  have HR := Lib.hid (fun w' => rrd_any ⟨s.toArray⟩ w' hs t sz e b hr)
  have HA := Lib.hid (fun w' => (ral_any ⟨b.toArray⟩ w' hbl : Calls Tryd.prog _ _ w' (AllPost b w')))
  have hPl : P.length ≤ 1024 := by have := (al_good b).2; rw [ha] at this; exact this
  have hol := old_len ha
  have HD := Lib.hid (nt_doc hr ha)
  have HBad := Lib.hid (nt_bad hr ha)
  have HAl := Lib.hid ha
  have hZ : Below w.heap.size w (w.alloc (.cells #[.int .i64 0, .string ⟨([] : List UInt8).toArray⟩, .int .i64 0] 25)) := (Below.refl _ w).alloc (Nat.le_refl _) _
  have HZ := Lib.hid hZ
  unfold maxLen at hs
  clear hZ hr hbl ha
  obtain ⟨m, hm⟩ : ∃ m, P.length = m := ⟨_, rfl⟩
  have HM := Lib.hid hm
  rw [hm] at hPl HBad HD
  have hways : (((e : Int) != 0) = true ∨ (((e : Int) != 0) = false ∧ (sz : Int) < (s.length : Int)) ∨ (((e : Int) != 0) = false ∧ ¬ (sz : Int) < (s.length : Int) ∧ ((f : Int) != 0) = true) ∨ (((e : Int) != 0) = false ∧ ¬ (sz : Int) < (s.length : Int) ∧ ((f : Int) != 0) = false ∧ (m : Int) < 2)) ∨
      (((e : Int) != 0) = false ∧ ¬ (sz : Int) < (s.length : Int) ∧ ((f : Int) != 0) = false ∧ ¬ (m : Int) < 2) := by
    simp only [bne_iff_ne, bne_eq_false_iff_eq, ne_eq]
    omega
  clear hm
  rcases hways with hways | ⟨p1, p2, p3, p4⟩
  · have HV := Lib.hid (HBad.out (by
      simp only [bne_iff_ne, bne_eq_false_iff_eq, ne_eq] at hways
      omega))
    clear HBad HD
    rcases hways with q1 | ⟨q1, q2⟩ | ⟨q1, q2, q3⟩ | ⟨q1, q2, q3, q4⟩
    all_goals
      go_enter Tryd.func16, Tryd.ntmps16
      go_wp2_with fail
      refine (HR.out _).mono ?_
      rintro en w1 ⟨rfl, hb1⟩
      have H1 := Lib.hid (HZ.out.trans (hb1.mono HZ.out.size))
      have HBx := Lib.hid (obj_below (heap_alloc_new w _) hb1 (by simp))
      clear hb1
      go_wp2_with fail
      refine (HA.out _).mono ?_
      rintro en w2 ⟨v, rfl, ho, hb2⟩
      rw [HAl.out] at ho ⊢
      simp only [HM.out] at ho
      obtain ⟨oa, oc, rfl⟩ := ownsRow_slice ho
      have hb2 := ((Below.refl _ w1).alloc (Nat.le_refl _) _).trans (hb2.mono (by simp))
      have hbox := obj_below HBx.out hb2 (obj_lt HBx.out)
      have b0 := obj_cell hbox 0 _ rfl
      have b1 := obj_cell hbox 1 _ rfl
      have b2 := obj_cell hbox 2 _ rfl
      have f0 := obj_free hbox 0
      have f1 := obj_free hbox 1
      have f2 := obj_free hbox 2
      have H2 := Lib.hid (H1.out.trans (hb2.mono H1.out.size))
      clear hb2 hbox ho
      go_wp2
      refine bodyPost_ret (v := .tuple #[.agg #[.int .i64 0, .string ⟨([] : List UInt8).toArray⟩, .int .i64 0], .int .i64 5]) (by simp [results, Tryd.results16, go_sem, *]) rfl ⟨by rw [HV.out]; rfl, ?_⟩
      exact below_set3' H2.out (Nat.le_refl _) _ _ _
  · clear HBad
    have hm2 : 2 ≤ m := by omega
    obtain ⟨k, e1, hk⟩ : ∃ k e, nr (bodyAt P 0) = (k, e) := ⟨_, _, rfl⟩
    obtain ⟨n, e2, hn⟩ : ∃ k e, nr (bodyAt P (m - 1)) = (k, e) := ⟨_, _, rfl⟩
    have HN1 := Lib.hid (fun w' => rnread_c ⟨(bodyAt P 0).toArray⟩ k e1 hk w')
    have HN2 := Lib.hid (fun w' => rnread_c ⟨(bodyAt P (m - 1)).toArray⟩ n e2 hn w')
    rw [hk, hn] at HD
    simp only at HD
    have HO := Lib.hid (show oldOf P = if 2 < m then bodyAt P 1 else [] by unfold oldOf; rw [HM.out])
    have HG0 := Lib.hid (bodyAt_get (P := P) (i := 0) (by rw [HM.out]; omega))
    have HG1 := Lib.hid (fun (h : 2 < m) => bodyAt_get (P := P) (i := 1) (by rw [HM.out]; omega))
    have HGm := Lib.hid (bodyAt_get (P := P) (i := m - 1) (by rw [HM.out]; omega))
    obtain ⟨o, hoo⟩ : ∃ o, oldOf P = o := ⟨_, rfl⟩
    rw [hoo] at hol HD HO
    have HQ := Lib.hid (fun w' => rcnt_any k o n w' (by unfold maxLen; omega))
    obtain ⟨X, E, hq⟩ : ∃ X E, ntP k o n = (X, E) := ⟨_, _, rfl⟩
    have HBk := Lib.hid (fun (h : ntP k o n = (s, 0)) => nt_back k o n s h)
    rw [hq] at HQ HD HBk
    have hw3 : (((E : Int) != 0) = true ∧ ntR s = ((0, [], 0), 5)) ∨ (((E : Int) != 0) = false ∧ (X == s) = false ∧ ntR s = ((0, [], 0), 5)) ∨ (((E : Int) != 0) = false ∧ (X == s) = true ∧ ntR s = ((k, o, n), 0)) := by
      by_cases hE : E = 0
      · refine .inr ?_
        by_cases hX : X = s
        · exact .inr ⟨by simp [hE], by simp [hX], HBk.out (by rw [hE, hX])⟩
        · exact .inl ⟨by simp [hE], by simp [hX], by rcases HD.out with h | h; exact h; simp [hX] at h⟩
      · exact .inl ⟨by rw [bne_iff_ne]; omega, by rcases HD.out with h | h; exact h; simp [hE] at h⟩
    have hsub : ((m : Int) - 1).toNat = m - 1 := by omega
    have hs0 : (0 : Int) ≤ (m : Int) - 1 := by omega
    have hs1 : (m : Int) - 1 < (m : Int) := by omega
    clear hk hn hoo hq HD HBk
    by_cases h2m : 2 < m
    · have ho1 := HO.out
      rw [if_pos h2m] at ho1
      have HO1 := Lib.hid ho1
      have hmI : (2 : Int) < (m : Int) := by omega
      have hmI1 : (1 : Int) < (m : Int) := by omega
      clear ho1 HO
      rcases hw3 with ⟨q1, hv⟩ | ⟨q1, q2, hv⟩ | ⟨q1, q2, hv⟩
      all_goals
        have HV := Lib.hid hv
        clear hv
        go_enter Tryd.func16, Tryd.ntmps16
        go_wp2_with fail
        refine (HR.out _).mono ?_
        rintro en w1 ⟨rfl, hb1⟩
        have H1 := Lib.hid (HZ.out.trans (hb1.mono HZ.out.size))
        have HBx := Lib.hid (obj_below (heap_alloc_new w _) hb1 (by simp))
        clear hb1
        go_wp2_with fail
        refine (HA.out _).mono ?_
        rintro en w2 ⟨v, rfl, ho, hb2⟩
        rw [HAl.out] at ho ⊢
        obtain ⟨g, oc, rfl, hg, hq⟩ := own_tbs ho (by rw [HM.out]; omega)
        have c0 := (hq 0 (by rw [HM.out]; omega)).2
        have cm := (hq (m - 1) (by rw [HM.out]; omega)).2
        rw [← HG0.out] at c0
        rw [← HGm.out] at cm
        have c1 := (hq 1 (by rw [HM.out]; omega)).2
        rw [← HG1.out h2m, ← HO1.out] at c1
        simp only [HM.out]
        have hb2 := ((Below.refl _ w1).alloc (Nat.le_refl _) _).trans (hb2.mono (by simp))
        have HBy := Lib.hid (obj_below HBx.out hb2 (obj_lt HBx.out))
        have H2 := Lib.hid (H1.out.trans (hb2.mono H1.out.size))
        clear hb2 ho hq
        go_wp2_with fail
        refine (HN1.out _).mono ?_
        rintro en w3 ⟨rfl, rfl⟩
        go_wp2_with fail
        refine (HN2.out _).mono ?_
        rintro en w3 ⟨rfl, rfl⟩
        have hgw : g ≠ w2.heap.size := by omega
        have c1a := fun ob => (World.cell?_alloc_old w2 ob ⟨g, 1 * 2 + 1, none⟩ hgw).trans c1
        go_wp2_with fail
        refine (HQ.out _).mono ?_
        rintro en w3 ⟨rfl, hb3⟩
        have hbp := obj_below (heap_alloc_new w2 _) hb3 (by simp)
        have hb3 := ((Below.refl _ w2).alloc (Nat.le_refl _) _).trans (hb3.mono (by simp))
        have p0 := obj_cell hbp 0 _ rfl
        have p1 := obj_cell hbp 1 _ rfl
        have p2 := obj_cell hbp 2 _ rfl
        have hbox := obj_below HBy.out hb3 (obj_lt HBy.out)
        have b0 := obj_cell hbox 0 _ rfl
        have b1 := obj_cell hbox 1 _ rfl
        have b2 := obj_cell hbox 2 _ rfl
        have f0 := obj_free hbox 0
        have f1 := obj_free hbox 1
        have f2 := obj_free hbox 2
        have H3 := Lib.hid (H2.out.trans (hb3.mono H2.out.size))
        clear hb3 hbox hbp c0 cm
        go_wp2
        first
          | (refine bodyPost_ret (v := .tuple #[.agg #[.int .i64 0, .string ⟨([] : List UInt8).toArray⟩, .int .i64 0], .int .i64 5]) (by simp [results, Tryd.results16, go_sem, *]) rfl ⟨by rw [HV.out]; rfl, ?_⟩; exact below_set3' H3.out (Nat.le_refl _) _ _ _)
          | (refine bodyPost_ret (v := .tuple #[.agg #[.int .i64 k, .string ⟨o.toArray⟩, .int .i64 n], .int .i64 0]) (by simp [results, Tryd.results16, go_sem, *]) rfl ⟨by rw [HV.out]; rfl, ?_⟩; exact below_set3' H3.out (Nat.le_refl _) _ _ _)
    · have ho1 := HO.out
      rw [if_neg h2m] at ho1
      subst ho1
      have hmI : ¬ (2 : Int) < (m : Int) := by omega
      clear HO
      rcases hw3 with ⟨q1, hv⟩ | ⟨q1, q2, hv⟩ | ⟨q1, q2, hv⟩
      all_goals
        have HV := Lib.hid hv
        clear hv
        go_enter Tryd.func16, Tryd.ntmps16
        go_wp2_with fail
        refine (HR.out _).mono ?_
        rintro en w1 ⟨rfl, hb1⟩
        have H1 := Lib.hid (HZ.out.trans (hb1.mono HZ.out.size))
        have HBx := Lib.hid (obj_below (heap_alloc_new w _) hb1 (by simp))
        clear hb1
        go_wp2_with fail
        refine (HA.out _).mono ?_
        rintro en w2 ⟨v, rfl, ho, hb2⟩
        rw [HAl.out] at ho ⊢
        obtain ⟨g, oc, rfl, hg, hq⟩ := own_tbs ho (by rw [HM.out]; omega)
        have c0 := (hq 0 (by rw [HM.out]; omega)).2
        have cm := (hq (m - 1) (by rw [HM.out]; omega)).2
        rw [← HG0.out] at c0
        rw [← HGm.out] at cm
        simp only [HM.out]
        have hb2 := ((Below.refl _ w1).alloc (Nat.le_refl _) _).trans (hb2.mono (by simp))
        have HBy := Lib.hid (obj_below HBx.out hb2 (obj_lt HBx.out))
        have H2 := Lib.hid (H1.out.trans (hb2.mono H1.out.size))
        clear hb2 ho hq
        go_wp2_with fail
        refine (HN1.out _).mono ?_
        rintro en w3 ⟨rfl, rfl⟩
        go_wp2_with fail
        refine (HN2.out _).mono ?_
        rintro en w3 ⟨rfl, rfl⟩
        go_wp2_with fail
        refine (HQ.out _).mono ?_
        rintro en w3 ⟨rfl, hb3⟩
        have hbp := obj_below (heap_alloc_new w2 _) hb3 (by simp)
        have hb3 := ((Below.refl _ w2).alloc (Nat.le_refl _) _).trans (hb3.mono (by simp))
        have p0 := obj_cell hbp 0 _ rfl
        have p1 := obj_cell hbp 1 _ rfl
        have p2 := obj_cell hbp 2 _ rfl
        have hbox := obj_below HBy.out hb3 (obj_lt HBy.out)
        have b0 := obj_cell hbox 0 _ rfl
        have b1 := obj_cell hbox 1 _ rfl
        have b2 := obj_cell hbox 2 _ rfl
        have f0 := obj_free hbox 0
        have f1 := obj_free hbox 1
        have f2 := obj_free hbox 2
        have H3 := Lib.hid (H2.out.trans (hb3.mono H2.out.size))
        clear hb3 hbox hbp c0 cm
        go_wp2
        first
          | (refine bodyPost_ret (v := .tuple #[.agg #[.int .i64 0, .string ⟨([] : List UInt8).toArray⟩, .int .i64 0], .int .i64 5]) (by simp [results, Tryd.results16, go_sem, *]) rfl ⟨by rw [HV.out]; rfl, ?_⟩; exact below_set3' H3.out (Nat.le_refl _) _ _ _)
          | (refine bodyPost_ret (v := .tuple #[.agg #[.int .i64 k, .string ⟨([] : List UInt8).toArray⟩, .int .i64 n], .int .i64 0]) (by simp [results, Tryd.results16, go_sem, *]) rfl ⟨by rw [HV.out]; rfl, ?_⟩; exact below_set3' H3.out (Nat.le_refl _) _ _ _)
end Go.Proofs.YtlnfbjgadcifkaaDoor
