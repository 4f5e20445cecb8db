/- The chapter's examples hold, in whatever memory. -/
import Derived.Test.YtlnfbjgadcifkaaDoorCtK
import Derived.Test.YtlnfbjgadcifkaaDoorCtJ
namespace Go.Proofs.YtlnfbjgadcifkaaDoor
set_option linter.unusedSimpArgs false
set_option linter.unusedVariables false
open Go Go.RowKit Go.Proofs.BerM Go.Proofs.BerK Go.Proofs.MemK Go.Proofs.NumM

theorem cfind_new (r : Ct) (hr : r.2.2.length ≤ maxLen) (p : (Int × Bool × Bool) × Bool × Int) (hp : fiP [r] = p) (cs : Array Value) (hcs : cs = (ctC r).toArray) (w : World) (C : Nat) (hC : C = w.heap.size) :
    Calls Tryd.prog 17 #[.slice (some ⟨C, 0, none⟩) 1 1] (w.alloc (.cells cs 27)) (FiPost p w) := by
  subst hC hp
  refine (cfind_any [r] _ _ (coAt_new1 w r _ cs hcs) (by simp) (fun c hc => by simp only [List.mem_singleton] at hc; subst hc; exact hr)).mono ?_
  rintro en w' ⟨rfl, hb⟩
  exact ⟨rfl, ((Below.refl _ w).alloc (Nat.le_refl _) _).trans (hb.mono (by simp))⟩
set_option maxHeartbeats 6400000 in
set_option maxRecDepth 100000 in
theorem cawake_any (w : World) : Calls Tryd.prog 6 #[] w (RetB true w) := by
  have H1 := Lib.hid (fun w' => (by
    have h := cpe_any 1 false true w'
    rw [show peP 1 false true = ([48, 9, 2, 1, 1, 1, 1, 0, 1, 1, 255], 0) by decide +kernel] at h
    exact h : Calls Tryd.prog 7 #[.agg #[.int .i64 1, .bool false, .bool true]] w' (SePost ([48, 9, 2, 1, 1, 1, 1, 0, 1, 1, 255], 0) w')))
  have H2 := Lib.hid (fun w' => (by
    have h := cper_any [48, 9, 2, 1, 1, 1, 1, 0, 1, 1, 255] w' (by decide)
    rw [show peR [48, 9, 2, 1, 1, 1, 1, 0, 1, 1, 255] = ((1, false, true), 0) by decide +kernel] at h
    exact h : Calls Tryd.prog 13 #[.string ⟨#[48, 9, 2, 1, 1, 1, 1, 0, 1, 1, 255]⟩] w' (PrPost ((1, false, true), 0) w')))
  have H3 := Lib.hid (fun w' => (by
    have h := cnt_any 8 [97] 5 w' (by decide)
    rw [show ntP 8 [97] 5 = ([48, 9, 10, 1, 8, 4, 1, 97, 2, 1, 5], 0) by decide +kernel] at h
    exact h : Calls Tryd.prog 9 #[.agg #[.int .i64 8, .string ⟨#[97]⟩, .int .i64 5]] w' (SePost ([48, 9, 10, 1, 8, 4, 1, 97, 2, 1, 5], 0) w')))
  have H4 := Lib.hid (fun w' => (by
    have h := cntr_any [48, 9, 10, 1, 8, 4, 1, 97, 2, 1, 5] w' (by decide)
    rw [show ntR [48, 9, 10, 1, 8, 4, 1, 97, 2, 1, 5] = ((8, [97], 5), 0) by decide +kernel] at h
    exact h : Calls Tryd.prog 15 #[.string ⟨#[48, 9, 10, 1, 8, 4, 1, 97, 2, 1, 5]⟩] w' (NtPost ((8, [97], 5), 0) w')))
  have H5 := Lib.hid (fun w' => (by
    have h := cntr_any [48, 9, 10, 1, 8, 4, 1, 97, 2, 1, 5, 120] w' (by decide)
    rw [show ntR [48, 9, 10, 1, 8, 4, 1, 97, 2, 1, 5, 120] = ((0, [], 0), 5) by decide +kernel] at h
    exact h : Calls Tryd.prog 15 #[.string ⟨#[48, 9, 10, 1, 8, 4, 1, 97, 2, 1, 5, 120]⟩] w' (NtPost ((0, [], 0), 5) w')))
  have H6 := Lib.hid (fun w' C hC => cfind_new ([50, 46, 49, 54, 46, 56, 52, 48, 46, 49, 46, 49, 49, 51, 55, 51, 48, 46, 51, 46, 52, 46, 51], false, [48, 9, 2, 1, 1, 1, 1, 0, 1, 1, 255]) (by decide) ((1, false, true), true, 0) (by decide +kernel) #[.string ⟨#[50, 46, 49, 54, 46, 56, 52, 48, 46, 49, 46, 49, 49, 51, 55, 51, 48, 46, 51, 46, 52, 46, 51]⟩, .bool false, .string ⟨#[48, 9, 2, 1, 1, 1, 1, 0, 1, 1, 255]⟩] rfl w' C hC)
  have H7 := Lib.hid (fun w' C hC => cfind_new ([49], true, []) (by decide) ((0, false, false), false, 12) (by decide +kernel) #[.string ⟨#[49]⟩, .bool true, .string ⟨#[]⟩] rfl w' C hC)
  have H8 := Lib.hid (fun w' => (by
    have h := ccheck_any [97] [] false w' (by decide) (by decide)
    rw [show ckC [97] [] = 13 by decide +kernel] at h
    exact h : Calls Tryd.prog 11 #[.agg #[.string ⟨#[97]⟩, .bool false, .string ⟨#[]⟩]] w' (CkcPost 13 w')))
  have B0 := Lib.hid (Below.refl w.heap.size w)
  go_enter Tryd.func6, Tryd.ntmps6
  go_wp2_with fail
  refine (H1.out _).mono ?_
  rintro e v1 ⟨rfl, hb⟩
  have B1 := Lib.hid (B0.out.trans (hb.mono B0.out.size))
  clear hb
  go_wp2_with fail
  refine (H2.out _).mono ?_
  rintro e v2 ⟨rfl, hb⟩
  have B2 := Lib.hid (B1.out.trans (hb.mono B1.out.size))
  clear hb
  go_wp2_with fail
  refine (H3.out _).mono ?_
  rintro e v3 ⟨rfl, hb⟩
  have P3 := Lib.hid (obj_below (heap_alloc_new v2 _) hb (by simp))
  have B3 := Lib.hid ((B2.out.alloc B2.out.size _).trans (hb.mono (by have := B2.out.size; simp; omega)))
  clear hb
  go_wp2_with fail
  refine (H4.out _).mono ?_
  rintro e v4 ⟨rfl, hb⟩
  have P4 := Lib.hid (obj_below P3.out hb (obj_lt P3.out))
  have B4 := Lib.hid (B3.out.trans (hb.mono B3.out.size))
  clear hb P3
  go_wp2_with fail
  refine (H5.out _).mono ?_
  rintro e v5 ⟨rfl, hb⟩
  have P5 := Lib.hid (obj_below (obj_alloc P4.out _) hb (by have := obj_lt P4.out; simp; omega))
  have N5 := Lib.hid (obj_below (heap_alloc_new v4 _) hb (by simp))
  have B5 := Lib.hid ((B4.out.alloc B4.out.size _).trans (hb.mono (by have := B4.out.size; simp; omega)))
  clear hb P4
  go_wp2_with fail
  refine (H6.out _ _ (by simp)).mono ?_
  rintro e v6 ⟨rfl, hb⟩
  have P6 := Lib.hid (obj_below (obj_alloc P5.out _) hb (by have := obj_lt P5.out; simp; omega))
  have N6 := Lib.hid (obj_below (obj_alloc N5.out _) hb (by have := obj_lt N5.out; simp; omega))
  have B6 := Lib.hid ((B5.out.alloc B5.out.size _).trans (hb.mono (by have := B5.out.size; simp; omega)))
  clear hb P5 N5
  go_wp2_with fail
  refine (H7.out _ _ (by simp)).mono ?_
  rintro e v7 ⟨rfl, hb⟩
  have hp := obj_below (obj_alloc P6.out _) hb (by have := obj_lt P6.out; simp; omega)
  have hn := obj_below (obj_alloc N6.out _) hb (by have := obj_lt N6.out; simp; omega)
  have hq := obj_below (heap_alloc_new v6 _) hb (by simp)
  have B7 := Lib.hid ((B6.out.alloc B6.out.size _).trans (hb.mono (by have := B6.out.size; simp; omega)))
  clear hb P6 N6
  have p0 := fun ob => obj_cell (obj_alloc hp ob) 0 _ rfl
  have p1 := fun ob => obj_cell (obj_alloc hp ob) 1 _ rfl
  have p2 := fun ob => obj_cell (obj_alloc hp ob) 2 _ rfl
  have n0 := fun ob => obj_cell (obj_alloc hn ob) 0 _ rfl
  have n1 := fun ob => obj_cell (obj_alloc hn ob) 1 _ rfl
  have n2 := fun ob => obj_cell (obj_alloc hn ob) 2 _ rfl
  have q0 := fun ob => obj_cell (obj_alloc hq ob) 0 _ rfl
  have q1 := fun ob => obj_cell (obj_alloc hq ob) 1 _ rfl
  have q2 := fun ob => obj_cell (obj_alloc hq ob) 2 _ rfl
  clear hp hn hq
  go_wp2_with fail
  refine (H8.out _).mono ?_
  rintro e v8 ⟨rfl, hb⟩
  have B8 := Lib.hid ((B7.out.alloc B7.out.size _).trans (hb.mono (by have := B7.out.size; simp; omega)))
  clear hb
  go_wp2
  go_ret
  exact retB_mk rfl B8.out
end Go.Proofs.YtlnfbjgadcifkaaDoor
