/- The walk of the law ControlReads: it returns true and leaves what was in memory as it was. -/
import Derived.Test.YtlnfbjgadcifkaaDoorCtL
import Derived.Test.YtlnfbjgadcifkaaDoorCtI
namespace Go.Proofs.YtlnfbjgadcifkaaDoor
set_option linter.unusedSimpArgs false
set_option linter.unusedVariables false
open Go Go.RowKit Go.Proofs.BerM Go.Proofs.BerK Go.Proofs.MemK Go.Proofs.NumM

theorem nt_read_ok {s : List UInt8} {k : Int} {o : List UInt8} {n : Int} {f : Nat} (h : ntR s = ((k, o, n), f)) : f = 0 ∧ ntP k o n = (s, 0) ∨ f = 5 := by
  rcases nt_or s with h1 | ⟨k', o', n', h1, h2⟩
  · rw [h1] at h
    simp only [Prod.mk.injEq] at h
    exact .inr h.2.symm
  · rw [h1] at h
    simp only [Prod.mk.injEq] at h
    obtain ⟨⟨rfl, rfl, rfl⟩, rfl⟩ := h
    exact .inl ⟨rfl, h2⟩
theorem nt_put_ok {k : Int} {o : List UInt8} {n : Int} {X : List UInt8} {E : Nat} (h : ntP k o n = (X, E)) : E = 0 ∧ ntR X = ((k, o, n), 0) ∨ E ≠ 0 := by
  by_cases hE : E = 0
  · subst hE
    exact .inl ⟨rfl, nt_back k o n X h⟩
  · exact .inr hE
theorem nt_olen {s : List UInt8} {k : Int} {o : List UInt8} {n : Int} {f : Nat} (h : ntR s = ((k, o, n), f)) : o.length ≤ 4096 := by
  rcases nt_read_ok h with ⟨_, h2⟩ | h2
  · exact (nt_ok h2).2.1
  · rcases nt_or s with h1 | ⟨k', o', n', h1, _⟩
    · rw [h1] at h
      simp only [Prod.mk.injEq] at h
      rw [← h.1.2.1]; simp
    · rw [h1] at h
      simp only [Prod.mk.injEq] at h
      omega
theorem nt_xlen {k : Int} {o : List UInt8} {n : Int} {X : List UInt8} {E : Nat} (h : ntP k o n = (X, E)) : X.length ≤ 70000 := by
  unfold ntP at h
  split at h
  · simp only [Prod.mk.injEq] at h; rw [← h.1]; simp
  · split at h
    · simp only [Prod.mk.injEq] at h; rw [← h.1]; simp
    · split at h
      · simp only [Prod.mk.injEq] at h; rw [← h.1]; simp
      · simp only [Prod.mk.injEq] at h
        have h1 := nt_len k o n (by omega)
        have h2 := putL_le 48 (putL 10 (npL k) ++ ((if o = [] then [] else putL 4 o) ++ putL 2 (npL n)))
        rw [← h.1, ntL]; omega
set_option maxHeartbeats 6400000 in
set_option maxRecDepth 100000 in
theorem creads_asleep (s : List UInt8) (k : Int) (o : List UInt8) (n : Int) (w : World) (hs : s.length ≤ maxLen) (ho : o.length ≤ maxLen) (h : (500 : Int) < (s.length : Int) ∨ (¬ (500 : Int) < (s.length : Int) ∧ (300 : Int) < (o.length : Int))) :
    Calls Tryd.prog 4 #[.string ⟨s.toArray⟩, .agg #[.int .i64 k, .string ⟨o.toArray⟩, .int .i64 n]] w fun e w' => e = .returned (.bool true) ∧ Below w.heap.size w w' := by
  have HAw := Lib.hid (fun w' => cawake_any w')
  have HB0 := Lib.hid ((Below.refl _ w).alloc (Nat.le_refl _) (.cells #[.int .i64 k, .string ⟨o.toArray⟩, .int .i64 n] 25))
  unfold maxLen at hs ho
  rcases h with r1 | ⟨r1, r2⟩
  all_goals
    go_enter Tryd.func4, Tryd.ntmps4
    go_wp2_with fail
    refine (HAw.out _).mono ?_
    rintro en w5 ⟨rfl, hb5⟩
    have H5 := Lib.hid (HB0.out.trans (hb5.mono HB0.out.size))
    clear hb5
    go_wp2
    go_ret
    exact ⟨rfl, H5.out⟩
set_option maxHeartbeats 12800000 in
set_option maxRecDepth 100000 in
theorem creads_core (s : List UInt8) (k : Int) (o : List UInt8) (n : Int) (w : World) (r1 : ¬ (500 : Int) < (s.length : Int)) (r2 : ¬ (300 : Int) < (o.length : Int)) :
    Calls Tryd.prog 4 #[.string ⟨s.toArray⟩, .agg #[.int .i64 k, .string ⟨o.toArray⟩, .int .i64 n]] w fun e w' => e = .returned (.bool true) ∧ Below w.heap.size w w' := by
  have hs : s.length ≤ maxLen := by unfold maxLen; omega
  have ho : o.length ≤ maxLen := by unfold maxLen; omega
  have HAw := Lib.hid (fun w' => cawake_any w')
  have HB0 := Lib.hid ((Below.refl _ w).alloc (Nat.le_refl _) (.cells #[.int .i64 k, .string ⟨o.toArray⟩, .int .i64 n] 25))
  have HG0 := Lib.hid (heap_alloc_new w (.cells #[.int .i64 k, .string ⟨o.toArray⟩, .int .i64 n] 25))
  have HR1 := Lib.hid (fun w' => cper_any s w' hs)
  have HR2 := Lib.hid (fun w' => rcper_any s w' hs)
  have HR3 := Lib.hid (fun w' => cntr_any s w' hs)
  have HR4 := Lib.hid (fun w' => rcntr_any s w' hs)
  have HP1 := Lib.hid (fun w' => cnt_any k o n w' ho)
  obtain ⟨⟨⟨pt, pc, pr⟩, pe⟩, e1⟩ : ∃ q, peR s = q := ⟨_, rfl⟩
  obtain ⟨⟨⟨nk, no, nn⟩, ne⟩, e2⟩ : ∃ q, ntR s = q := ⟨_, rfl⟩
  obtain ⟨⟨X, E⟩, e3⟩ : ∃ q, ntP k o n = q := ⟨_, rfl⟩
  have hX := nt_xlen e3
  have hno := nt_olen e2
  have HR5 := Lib.hid (fun w' => cntr_any X w' (by unfold maxLen; omega))
  have HP2 := Lib.hid (fun w' => cnt_any nk no nn w' (by unfold maxLen; omega))
  obtain ⟨⟨⟨mk, mo, mn⟩, me⟩, e4⟩ : ∃ q, ntR X = q := ⟨_, rfl⟩
  obtain ⟨⟨Y, F⟩, e5⟩ : ∃ q, ntP nk no nn = q := ⟨_, rfl⟩
  have w1 := nt_put_ok e3
  have w2 := nt_read_ok e2
  rw [e4] at w1
  rw [e5] at w2
  rw [e1] at HR1 HR2
  rw [e2] at HR3 HR4
  rw [e3] at HP1
  rw [e4] at HR5
  rw [e5] at HP2
  have hw1 : ((E : Int) != 0) = true ∨ (((E : Int) != 0) = false ∧ mk = k ∧ mo = o ∧ mn = n ∧ me = 0) := by
    rcases w1 with ⟨h1, h2⟩ | h1
    · simp only [Prod.mk.injEq] at h2
      exact .inr ⟨by simp [h1], h2.1.1, h2.1.2.1, h2.1.2.2, h2.2⟩
    · exact .inl (by rw [bne_iff_ne]; omega)
  have hw2 : ((ne : Int) != 0) = true ∨ (((ne : Int) != 0) = false ∧ Y = s ∧ F = 0) := by
    rcases w2 with ⟨h1, h2⟩ | h1
    · simp only [Prod.mk.injEq] at h2
      exact .inr ⟨by simp [h1], h2.1, h2.2⟩
    · exact .inl (by rw [h1]; rfl)
  clear e1 e2 e3 e4 e5 w1 w2 hX hno hs ho
  rcases hw1 with q1 | ⟨q1, rfl, rfl, rfl, rfl⟩ <;> rcases hw2 with q2 | ⟨q2, rfl, rfl⟩
  all_goals
    go_enter Tryd.func4, Tryd.ntmps4
    go_wp2_with fail
    refine (HR1.out _).mono ?_
    rintro en v1 ⟨rfl, hb⟩
    have BN1 := Lib.hid (obj_below HG0.out hb (by simp))
    have H1 := Lib.hid (HB0.out.trans (hb.mono (by simp)))
    clear hb
    go_wp2_with fail
    refine (HR2.out _).mono ?_
    rintro en v2 ⟨rfl, hb⟩
    have BN2 := Lib.hid (obj_below (obj_alloc BN1.out _) hb (by have := obj_lt BN1.out; simp; omega))
    have BP12 := Lib.hid (obj_below (heap_alloc_new v1 _) hb (by simp))
    have H2 := Lib.hid ((H1.out.alloc H1.out.size _).trans (hb.mono (by have := H1.out.size; simp; omega)))
    clear hb BN1
    go_wp2_with fail
    refine (HR3.out _).mono ?_
    rintro en v3 ⟨rfl, hb⟩
    have BN3 := Lib.hid (obj_below (obj_alloc BN2.out _) hb (by have := obj_lt BN2.out; simp; omega))
    have BP13 := Lib.hid (obj_below (obj_alloc BP12.out _) hb (by have := obj_lt BP12.out; simp; omega))
    have BP23 := Lib.hid (obj_below (heap_alloc_new v2 _) hb (by simp))
    have H3 := Lib.hid ((H2.out.alloc H2.out.size _).trans (hb.mono (by have := H2.out.size; simp; omega)))
    clear hb BN2 BP12
    go_wp2_with fail
    refine (HR4.out _).mono ?_
    rintro en v4 ⟨rfl, hb⟩
    have BN4 := Lib.hid (obj_below (obj_alloc BN3.out _) hb (by have := obj_lt BN3.out; simp; omega))
    have BP14 := Lib.hid (obj_below (obj_alloc BP13.out _) hb (by have := obj_lt BP13.out; simp; omega))
    have BP24 := Lib.hid (obj_below (obj_alloc BP23.out _) hb (by have := obj_lt BP23.out; simp; omega))
    have BQ14 := Lib.hid (obj_below (heap_alloc_new v3 _) hb (by simp))
    have H4 := Lib.hid ((H3.out.alloc H3.out.size _).trans (hb.mono (by have := H3.out.size; simp; omega)))
    clear hb BN3 BP13 BP23
    have n0 := fun ob => obj_cell (obj_alloc BN4.out ob) 0 _ rfl
    have n1 := fun ob => obj_cell (obj_alloc BN4.out ob) 1 _ rfl
    have n2 := fun ob => obj_cell (obj_alloc BN4.out ob) 2 _ rfl
    go_wp2_with fail
    refine (HP1.out _).mono ?_
    rintro en v5 ⟨rfl, hb⟩
    clear n0 n1 n2
    have BN5 := Lib.hid (obj_below (obj_alloc BN4.out _) hb (by have := obj_lt BN4.out; simp; omega))
    have BP15 := Lib.hid (obj_below (obj_alloc BP14.out _) hb (by have := obj_lt BP14.out; simp; omega))
    have BP25 := Lib.hid (obj_below (obj_alloc BP24.out _) hb (by have := obj_lt BP24.out; simp; omega))
    have BQ15 := Lib.hid (obj_below (obj_alloc BQ14.out _) hb (by have := obj_lt BQ14.out; simp; omega))
    have BQ25 := Lib.hid (obj_below (heap_alloc_new v4 _) hb (by simp))
    have H5 := Lib.hid ((H4.out.alloc H4.out.size _).trans (hb.mono (by have := H4.out.size; simp; omega)))
    clear hb BN4 BP14 BP24 BQ14
    go_wp2_with fail
    refine (HR5.out _).mono ?_
    rintro en v6 ⟨rfl, hb⟩
    have BN6 := Lib.hid (obj_below BN5.out hb (obj_lt BN5.out))
    have BP16 := Lib.hid (obj_below BP15.out hb (obj_lt BP15.out))
    have BP26 := Lib.hid (obj_below BP25.out hb (obj_lt BP25.out))
    have BQ16 := Lib.hid (obj_below BQ15.out hb (obj_lt BQ15.out))
    have BQ26 := Lib.hid (obj_below BQ25.out hb (obj_lt BQ25.out))
    have H6 := Lib.hid (H5.out.trans (hb.mono H5.out.size))
    clear hb BN5 BP15 BP25 BQ15 BQ25
    have n0 := fun ob => obj_cell (obj_alloc BQ16.out ob) 0 _ rfl
    have n1 := fun ob => obj_cell (obj_alloc BQ16.out ob) 1 _ rfl
    have n2 := fun ob => obj_cell (obj_alloc BQ16.out ob) 2 _ rfl
    go_wp2_with fail
    refine (HP2.out _).mono ?_
    rintro en v7 ⟨rfl, hb⟩
    clear n0 n1 n2
    have BN7 := Lib.hid (obj_below (obj_alloc BN6.out _) hb (by have := obj_lt BN6.out; simp; omega))
    have BP17 := Lib.hid (obj_below (obj_alloc BP16.out _) hb (by have := obj_lt BP16.out; simp; omega))
    have BP27 := Lib.hid (obj_below (obj_alloc BP26.out _) hb (by have := obj_lt BP26.out; simp; omega))
    have BQ17 := Lib.hid (obj_below (obj_alloc BQ16.out _) hb (by have := obj_lt BQ16.out; simp; omega))
    have BQ27 := Lib.hid (obj_below (obj_alloc BQ26.out _) hb (by have := obj_lt BQ26.out; simp; omega))
    have BM7 := Lib.hid (obj_below (heap_alloc_new v6 _) hb (by simp))
    have H7 := Lib.hid ((H6.out.alloc H6.out.size _).trans (hb.mono (by have := H6.out.size; simp; omega)))
    clear hb BN6 BP16 BP26 BQ16 BQ26
    have nx0 := obj_cell BN7.out 0 _ rfl
    have nx1 := obj_cell BN7.out 1 _ rfl
    have nx2 := obj_cell BN7.out 2 _ rfl
    have p1x0 := obj_cell BP17.out 0 _ rfl
    have p1x1 := obj_cell BP17.out 1 _ rfl
    have p1x2 := obj_cell BP17.out 2 _ rfl
    have p2x0 := obj_cell BP27.out 0 _ rfl
    have p2x1 := obj_cell BP27.out 1 _ rfl
    have p2x2 := obj_cell BP27.out 2 _ rfl
    have q1x0 := obj_cell BQ17.out 0 _ rfl
    have q1x1 := obj_cell BQ17.out 1 _ rfl
    have q1x2 := obj_cell BQ17.out 2 _ rfl
    have q2x0 := obj_cell BQ27.out 0 _ rfl
    have q2x1 := obj_cell BQ27.out 1 _ rfl
    have q2x2 := obj_cell BQ27.out 2 _ rfl
    have mx0 := obj_cell BM7.out 0 _ rfl
    have mx1 := obj_cell BM7.out 1 _ rfl
    have mx2 := obj_cell BM7.out 2 _ rfl
    clear BN7 BP17 BP27 BQ17 BQ27 BM7
    go_wp2_with fail
    refine (HAw.out _).mono ?_
    rintro en v8 ⟨rfl, hb⟩
    have H8 := Lib.hid (H7.out.trans (hb.mono H7.out.size))
    clear hb
    go_wp2
    go_ret
    exact ⟨rfl, H8.out⟩
theorem creads_walk (s : List UInt8) (k : Int) (o : List UInt8) (n : Int) (w : World) (hs : s.length ≤ maxLen) (ho : o.length ≤ maxLen) :
    Calls Tryd.prog 4 #[.string ⟨s.toArray⟩, .agg #[.int .i64 k, .string ⟨o.toArray⟩, .int .i64 n]] w fun e w' => e = .returned (.bool true) ∧ Below w.heap.size w w' := by
  by_cases r1 : (500 : Int) < (s.length : Int)
  · exact creads_asleep s k o n w hs ho (.inl r1)
  · by_cases r2 : (300 : Int) < (o.length : Int)
    · exact creads_asleep s k o n w hs ho (.inr ⟨r1, r2⟩)
    · exact creads_core s k o n w r1 r2
end Go.Proofs.YtlnfbjgadcifkaaDoor
