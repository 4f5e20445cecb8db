/- The code's noticeParts and ReadNotice. -/
import Derived.Test.YtlnfbjgadcifkaaDoorCtF
namespace Go.Proofs.YtlnfbjgadcifkaaDoor
set_option linter.unusedSimpArgs false
set_option linter.unusedVariables false
open Go Go.RowKit Go.Proofs.BerM Go.Proofs.BerK Go.Proofs.MemK Go.Proofs.NumM

/-- What noticeParts hands back. -/
def NpPost : Option (List UInt8 × List UInt8 × List UInt8) → World → Ending → World → Prop
  | none, w, en, w' => en = .returned (.tuple #[.slice none 0 0, .bool false]) ∧ Below w.heap.size w w'
  | some (a, o, b), w, en, w' => ∃ v, en = .returned (.tuple #[v, .bool true]) ∧ StrU w' v [a, o, b] ∧ Below w.heap.size w w'

set_option maxHeartbeats 3200000 in
set_option maxRecDepth 100000 in
theorem cnp_any (s : List UInt8) (w : World) (hs : s.length ≤ maxLen) : Calls Tryd.prog 31 #[.string ⟨s.toArray⟩] w (NpPost (ntB s) w) := by
  obtain ⟨B, e, hp⟩ : ∃ B e, pa s [10, 4, 2] = (B, e) := ⟨_, _, rfl⟩
  obtain ⟨D, f, hp2⟩ : ∃ B e, pa s [10, 2] = (B, e) := ⟨_, _, rfl⟩
  have HP := Lib.hid (fun w' C hC => cparts_new [10, 4, 2] (by decide) s hs B e hp 3 rfl #[.int .i64 10, .int .i64 4, .int .i64 2] rfl 3 w' C hC)
  have HP2 := Lib.hid (fun w' v hv => parts_any ⟨s.toArray⟩ v [10, 2] w' hs hv (by decide) D f hp2)
  by_cases he : e = 0
  · subst he
    have hb : ntB s = some (B.getD 0 [], B.getD 1 [], B.getD 2 []) := by unfold ntB; rw [hp]; simp
    obtain ⟨x, y, z, rfl⟩ := three_of (pa_lens hp)
    rw [hb]
    clear hb hp hp2
    go_enter Tryd.func31, Tryd.ntmps31
    go_wp2_with fail
    refine (HP.out _ _ (by simp)).mono ?_
    rintro en w1 ⟨v, rfl, ho, hb1⟩
    have HO := Lib.hid (strU_owns (l := [x, y, z]) ho)
    have HB := Lib.hid (((Below.refl _ w).alloc (Nat.le_refl _) _).trans (hb1.mono (by simp)))
    clear ho hb1
    go_wp2
    go_ret2
    exact ⟨_, rfl, HO.out, HB.out⟩
  · have h1 : ((e : Int) == 0) = false := beq_eq_false_iff_ne.2 (by omega)
    have hb0 : ntB s = if f = 0 then some (D.getD 0 [], [], D.getD 1 []) else none := by unfold ntB; rw [hp, if_neg he, hp2]
    have HR := Lib.hid (fun g w' h0 h2 => rpl_int g 10 4 2 w' h0 h2)
    by_cases hf : f = 0
    · subst hf
      obtain ⟨x, y, rfl⟩ := two_of (pa_lens hp2)
      rw [hb0, if_pos rfl]
      have HS := Lib.hid (fun g c (w' : World) h0 h1 hc hcm hg C hC => (rpl_str g C c x y (w'.alloc (.cells #[.string ⟨([] : List UInt8).toArray⟩] 9)) h0 h1 hc hcm hg hC))
      clear hb0 hp hp2 he
      go_enter Tryd.func31, Tryd.ntmps31
      go_wp2_with fail
      refine (HP.out _ _ (by simp)).mono ?_
      rintro en w1 ⟨v, rfl, ho, hb1⟩
      have hbx := obj_below (heap_alloc_new w _) hb1 (by simp)
      have c0 := obj_cell hbx 0 _ rfl
      have c2 := obj_cell hbx 2 _ rfl
      have HB := Lib.hid (((Below.refl _ w).alloc (Nat.le_refl _) _).trans (hb1.mono (by simp)))
      have HC0 := Lib.hid c0
      have HC2 := Lib.hid c2
      clear ho hb1 hbx c0 c2
      go_wp2_with fail
      refine (HR.out _ _ HC0.out HC2.out).mono ?_
      rintro en w2 ⟨v2, rfl, hi, hb2⟩
      have HI := Lib.hid hi
      have HB2 := Lib.hid (HB.out.trans (hb2.mono HB.out.size))
      clear hi hb2
      go_wp2_with fail
      refine (HP2.out _ _ HI.out).mono ?_
      rintro en w3 ⟨v3, rfl, ho3, hb3⟩
      have HB3 := Lib.hid (HB2.out.trans (hb3.mono HB2.out.size))
      obtain ⟨g, cp, rfl, hg, hk, hkm, c0, c1⟩ := own_two ho3
      have d0 := Lib.hid (((Below.refl w3.heap.size w3).alloc (Nat.le_refl _) (.cells #[.string ⟨([] : List UInt8).toArray⟩] 9)).cell (p := ⟨g, 0, none⟩) hg |>.trans c0)
      have d1 := Lib.hid (((Below.refl w3.heap.size w3).alloc (Nat.le_refl _) (.cells #[.string ⟨([] : List UInt8).toArray⟩] 9)).cell (p := ⟨g, 1, none⟩) hg |>.trans c1)
      have hg2 := Lib.hid (show g < (w3.alloc (.cells #[.string ⟨([] : List UInt8).toArray⟩] 9)).heap.size by simp; omega)
      have hn := Lib.hid (obj_cell (heap_alloc_new w3 (.cells #[.string ⟨([] : List UInt8).toArray⟩] 9)) 0 _ rfl)
      clear ho3 hb3 c0 c1
      go_wp2_with fail
      refine (HS.out g cp w3 d0.out d1.out hk hkm hg2.out _ hn.out).mono ?_
      rintro en w4 ⟨v4, rfl, hu, hb4⟩
      have HU := Lib.hid hu
      have HB4 := Lib.hid ((HB3.out.alloc HB3.out.size _).trans (hb4.mono (by have := HB3.out.size; simp; omega)))
      clear hu hb4
      go_wp2
      go_ret2
      exact ⟨_, rfl, HU.out, HB4.out⟩
    · have h2 : ((f : Int) != 0) = true := by rw [bne_iff_ne]; omega
      rw [hb0, if_neg hf]
      clear hb0 hp hp2 he hf
      go_enter Tryd.func31, Tryd.ntmps31
      go_wp2_with fail
      refine (HP.out _ _ (by simp)).mono ?_
      rintro en w1 ⟨v, rfl, ho, hb1⟩
      have hbx := obj_below (heap_alloc_new w _) hb1 (by simp)
      have c0 := obj_cell hbx 0 _ rfl
      have c2 := obj_cell hbx 2 _ rfl
      have HB := Lib.hid (((Below.refl _ w).alloc (Nat.le_refl _) _).trans (hb1.mono (by simp)))
      have HC0 := Lib.hid c0
      have HC2 := Lib.hid c2
      clear ho hb1 hbx c0 c2
      go_wp2_with fail
      refine (HR.out _ _ HC0.out HC2.out).mono ?_
      rintro en w2 ⟨v2, rfl, hi, hb2⟩
      have HI := Lib.hid hi
      have HB2 := Lib.hid (HB.out.trans (hb2.mono HB.out.size))
      clear hi hb2
      go_wp2_with fail
      refine (HP2.out _ _ HI.out).mono ?_
      rintro en w3 ⟨v3, rfl, ho3, hb3⟩
      have HB3 := Lib.hid (HB2.out.trans (hb3.mono HB2.out.size))
      clear ho3 hb3
      go_wp2
      go_ret2
      exact ⟨rfl, HB3.out⟩

theorem pa_mem_len {s : List UInt8} {ts : List Nat} : ∀ x ∈ (pa s ts).1, x.length ≤ 65536 := by
  intro x hx
  unfold pa at hx
  repeat' split at hx
  all_goals try (simp at hx; done)
  have := (al_good (rd s).2.1).1
  obtain ⟨y, hy, rfl⟩ := List.mem_map.1 hx
  exact (this y hy).2
theorem getD_len {l : List (List UInt8)} {i : Nat} (h : ∀ x ∈ l, x.length ≤ 65536) : (l.getD i []).length ≤ 65536 := by
  by_cases hi : i < l.length
  · have : l.getD i [] = l[i] := by simp [List.getD, hi]
    rw [this]
    exact h _ (List.getElem_mem hi)
  · have : l.getD i [] = [] := by
      rw [List.getD_eq_getElem?_getD, List.getElem?_eq_none (by omega)]; rfl
    rw [this]; simp
theorem ntB_len {s x y z : List UInt8} (hs : s.length ≤ maxLen) (h : ntB s = some (x, y, z)) : y.length ≤ maxLen := by
  unfold maxLen
  unfold ntB at h
  split at h
  · simp only [Option.some.injEq, Prod.mk.injEq] at h
    rw [← h.2.1]
    have := getD_len (i := 1) (pa_mem_len (s := s) (ts := [10, 4, 2]))
    omega
  · split at h
    · simp only [Option.some.injEq, Prod.mk.injEq] at h
      rw [← h.2.1]; simp
    · cases h

set_option maxHeartbeats 3200000 in
set_option maxRecDepth 100000 in
theorem cntr_any (s : List UInt8) (w : World) (hs : s.length ≤ maxLen) : Calls Tryd.prog 15 #[.string ⟨s.toArray⟩] w (NtPost (ntR s) w) := by
  have HP := Lib.hid (fun w' => cnp_any s w' hs)
  have hZ : Below w.heap.size w (w.alloc (.cells #[.int .i64 0, .string ⟨([] : List UInt8).toArray⟩, .int .i64 0] 25)) := (Below.refl _ w).alloc (Nat.le_refl _) _
  have HZ := Lib.hid hZ
  clear hZ
  cases hb : ntB s with
  | none =>
    have hv : ntR s = ((0, [], 0), 5) := by unfold ntR; rw [hb]
    rw [hv]
    rw [hb] at HP
    clear hv hb
    go_enter Tryd.func15, Tryd.ntmps15
    go_wp2_with fail
    refine (HP.out _).mono ?_
    rintro en w1 ⟨rfl, hb1⟩
    have hbox := obj_below (heap_alloc_new w _) hb1 (by simp)
    have b0 := obj_cell hbox 0 _ rfl
    have b1 := obj_cell hbox 1 _ rfl
    have b2 := obj_cell hbox 2 _ rfl
    have f0 := obj_free hbox 0
    have f1 := obj_free hbox 1
    have f2 := obj_free hbox 2
    have H1 := Lib.hid (HZ.out.trans (hb1.mono HZ.out.size))
    clear hb1 hbox
    go_wp2
    refine bodyPost_ret (v := .tuple #[.agg #[.int .i64 0, .string ⟨([] : List UInt8).toArray⟩, .int .i64 0], .int .i64 5]) (by simp [results, Tryd.results15, go_sem, *]) rfl ⟨rfl, ?_⟩
    exact below_set3' H1.out (Nat.le_refl _) _ _ _
  | some p =>
    obtain ⟨x, y, z⟩ := p
    rw [hb] at HP
    obtain ⟨k, e1, hn⟩ : ∃ k e, nr x = (k, e) := ⟨_, _, rfl⟩
    obtain ⟨n, e3, hr⟩ : ∃ k e, nr z = (k, e) := ⟨_, _, rfl⟩
    have hyl : y.length ≤ maxLen := ntB_len hs hb
    have hv : ntR s = if ntP k y n = (s, 0) then ((k, y, n), 0) else ((0, [], 0), 5) := by
      unfold ntR
      rw [hb]
      simp only [hn, hr]
    have HN := Lib.hid (fun w' => nread_c ⟨x.toArray⟩ k e1 hn w')
    have HR := Lib.hid (fun w' => nread_c ⟨z.toArray⟩ n e3 hr w')
    obtain ⟨X, E, hq⟩ : ∃ X E, ntP k y n = (X, E) := ⟨_, _, rfl⟩
    have HQ := Lib.hid (fun w' => cnt_any k y n w' hyl)
    rw [hq] at HQ hv
    have hways : (((E : Int) != 0) = true ∧ ntR s = ((0, [], 0), 5)) ∨ (((E : Int) != 0) = false ∧ (X == s) = false ∧ ntR s = ((0, [], 0), 5)) ∨ (((E : Int) != 0) = false ∧ (X == s) = true ∧ ntR s = ((k, y, n), 0)) := by
      by_cases hE : E = 0
      · refine .inr ?_
        by_cases hX : X = s
        · exact .inr ⟨by simp [hE], by simp [hX], by rw [hv, if_pos (by rw [hE, hX])]⟩
        · exact .inl ⟨by simp [hE], by simp [hX], by rw [hv, if_neg (by simp [hX])]⟩
      · exact .inl ⟨by rw [bne_iff_ne]; omega, by rw [hv, if_neg (by simp [hE])]⟩
    clear hb hn hr hq hv hyl
    rcases hways with ⟨q1, hv⟩ | ⟨q1, q2, hv⟩ | ⟨q1, q2, hv⟩
    all_goals
      rw [hv]
      clear hv
      go_enter Tryd.func15, Tryd.ntmps15
      go_wp2_with fail
      refine (HP.out _).mono ?_
      rintro en w1 ⟨v, rfl, hu, hb1⟩
      obtain ⟨g, cp, rfl, hg, c0, c1, c2⟩ := strU_three hu
      have hbox := obj_below (heap_alloc_new w _) hb1 (by simp)
      have hxl := obj_lt hbox
      have H1 := Lib.hid (HZ.out.trans (hb1.mono HZ.out.size))
      have HBx := Lib.hid hbox
      clear hb1 hbox hu
      go_wp2_with fail
      refine (HN.out _).mono ?_
      rintro en w2 ⟨rfl, rfl⟩
      go_wp2_with fail
      refine (HR.out _).mono ?_
      rintro en w2 ⟨rfl, rfl⟩
      go_wp2_with fail
      refine (HQ.out _).mono ?_
      rintro en w3 ⟨rfl, hb3⟩
      clear c0 c1 c2
      have hbp := obj_below (heap_alloc_new w1 _) hb3 (by simp)
      have p0 := obj_cell hbp 0 _ rfl
      have p1 := obj_cell hbp 1 _ rfl
      have p2 := obj_cell hbp 2 _ rfl
      have hb3 := ((Below.refl _ w1).alloc (Nat.le_refl _) _).trans (hb3.mono (by simp))
      have hbox := obj_below HBx.out hb3 hxl
      have b0 := obj_cell hbox 0 _ rfl
      have b1 := obj_cell hbox 1 _ rfl
      have b2 := obj_cell hbox 2 _ rfl
      have f0 := obj_free hbox 0
      have f1 := obj_free hbox 1
      have f2 := obj_free hbox 2
      have H3 := Lib.hid (H1.out.trans (hb3.mono H1.out.size))
      clear hb3 hbox hbp
      go_wp2
      first
        | (refine bodyPost_ret (v := .tuple #[.agg #[.int .i64 0, .string ⟨([] : List UInt8).toArray⟩, .int .i64 0], .int .i64 5]) (by simp [results, Tryd.results15, go_sem, *]) rfl ⟨rfl, ?_⟩; exact below_set3' H3.out (Nat.le_refl _) _ _ _)
        | (refine bodyPost_ret (v := .tuple #[.agg #[.int .i64 k, .string ⟨y.toArray⟩, .int .i64 n], .int .i64 0]) (by simp [results, Tryd.results15, go_sem, *]) rfl ⟨rfl, ?_⟩; exact below_set3' H3.out (Nat.le_refl _) _ _ _)
end Go.Proofs.YtlnfbjgadcifkaaDoor
