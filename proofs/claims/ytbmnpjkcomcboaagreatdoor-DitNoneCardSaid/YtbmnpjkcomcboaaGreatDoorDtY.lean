/- A tree that is none. -/
import Derived.Test.YtbmnpjkcomcboaaGreatDoorDtWX
import Derived.Test.YtbmnpjkcomcboaaGreatDoorEnCE
namespace Go.Proofs.YtbmnpjkcomcboaaGreatDoor
set_option linter.unusedSimpArgs false
set_option linter.unusedVariables false
open Go Go.RowKit Go.Proofs.BerK Go.Proofs.MemK Go.Proofs.UtfK Go.Maps Go.WideMaps

set_option maxHeartbeats 25600000 in
set_option maxRecDepth 100000 in
theorem dtnone_any (k : Int) (dn : List UInt8) (a : Option Addr) (n c : Nat) (w : World) (he : ErrOk w) :
    Calls Tryz.prog 5 #[.agg #[.int .i64 k, .string ⟨dn.toArray⟩, .slice a n c]] w (BB true w) := by
  have HE := Lib.hid he
  obtain ⟨W0, hW0⟩ : ∃ W, w.alloc (.cells #[.int .i64 k, .string ⟨dn.toArray⟩, .slice a n c] 41) = W := ⟨_, rfl⟩
  have hb0 : Below w.heap.size w W0 := by rw [← hW0]; exact (Below.refl _ w).alloc (Nat.le_refl _) _
  have y0 : W0.heap[w.heap.size]? = some (.cells #[.int .i64 k, .string ⟨dn.toArray⟩, .slice a n c] 41 (0, 0)) := by rw [← hW0]; exact heap_alloc_new w _
  have HW := Lib.hid hW0
  have HY := Lib.hid y0
  have HB := Lib.hid hb0
  obtain ⟨_, d1, d2⟩ := obj3 y0
  clear he hW0 y0 hb0
  go_enter Tryz.func5, Tryz.ntmps5
  go_wp2_with fail
  rw [HW.out]
  refine (dtget_nil ⟨dn.toArray⟩ W0).mono ?_
  rintro en w1 ⟨hge, _, hb1⟩
  have hge := hge rfl
  subst hge
  obtain ⟨W1, hW1⟩ : ∃ W, w1.alloc (.cells #[.string ⟨#[]⟩, .slice none 0 0] 39) = W := ⟨_, rfl⟩
  have hb1W : Below w1.heap.size w1 W1 := by rw [← hW1]; exact (Below.refl _ _).alloc (Nat.le_refl _) _
  have yx : W1.heap[w1.heap.size]? = some (.cells #[.string ⟨#[]⟩, .slice none 0 0] 39 (0, 0)) := by rw [← hW1]; exact heap_alloc_new w1 _
  have HW1 := Lib.hid hW1
  have hb01 := hb1.trans (hb1W.mono hb1.size)
  have HY1 := Lib.hid (obj_below HY.out hb01 (obj_lt HY.out))
  have HX1 := Lib.hid yx
  have HB1 := Lib.hid (HB.out.trans (hb01.mono HB.out.size))
  clear hb1 hW1 hb1W yx hb01 d1 d2
  go_wp2_with fail
  rw [HW1.out]
  refine (dtnew_any none W1).mono ?_
  rintro en w2 ⟨g, S, rfl, htr, _, _, hb2, _⟩
  obtain ⟨eb, bb, hg⟩ := trAt_g htr
  have HG2 := Lib.hid hg
  have HY2 := Lib.hid (obj_below HY1.out hb2 (obj_lt HY1.out))
  have HX2 := Lib.hid (obj_below HX1.out hb2 (obj_lt HX1.out))
  have HB2 := Lib.hid (HB1.out.trans (hb2.mono HB1.out.size))
  obtain ⟨x0, x1⟩ := obj2s HX2.out
  obtain ⟨_, d1, d2⟩ := obj3 HY2.out
  clear htr hb2 hg
  have hz : AtAt w2 (.slice none 0 0) [] := ⟨none, 0, rfl, fun i hi => by simp at hi⟩
  have HEq := Lib.hid (req10_any [] [] [] [] _ _ w2 hz hz (by simp) (by simp) (by simp) (by simp))
  rw [show decide (([] : List UInt8) = [] ∧ ([] : List Atr) = []) = true by decide] at HEq
  clear hz
  go_wp2_with fail
  refine (HEq.out).mono ?_
  rintro en w3 ⟨rfl, hb⟩
  have HG3 := Lib.hid (obj_below HG2.out hb (obj_lt HG2.out))
  have HY3 := Lib.hid (obj_below HY2.out hb (obj_lt HY2.out))
  have HB3 := Lib.hid (HB2.out.trans (hb.mono HB2.out.size))
  clear hb d1 d2
  obtain ⟨_, d1, d2⟩ := obj3 HY3.out
  clear x0 x1
  go_wp2_with fail
  refine (dtadd_nil _ dn a n c _ rfl).mono ?_
  rintro en w4 ⟨rfl, hb⟩
  have HG4 := Lib.hid (obj_below HG3.out hb (obj_lt HG3.out))
  have HY4 := Lib.hid (obj_below HY3.out hb (obj_lt HY3.out))
  have HB4 := Lib.hid (HB3.out.trans (hb.mono HB3.out.size))
  clear hb d1 d2
  obtain ⟨_, d1, d2⟩ := obj3 HY4.out
  go_wp2_with fail
  refine (dtdel_nil dn _).mono ?_
  rintro en w5 ⟨rfl, hb⟩
  have HG5 := Lib.hid (obj_below HG4.out hb (obj_lt HG4.out))
  have HY5 := Lib.hid (obj_below HY4.out hb (obj_lt HY4.out))
  have HB5 := Lib.hid (HB4.out.trans (hb.mono HB4.out.size))
  clear hb d1 d2
  obtain ⟨_, d1, d2⟩ := obj3 HY5.out
  go_wp2_with fail
  refine (dtrep_nil _ dn a n c _ rfl).mono ?_
  rintro en w6 ⟨rfl, hb⟩
  have HG6 := Lib.hid (obj_below HG5.out hb (obj_lt HG5.out))
  have HY6 := Lib.hid (obj_below HY5.out hb (obj_lt HY5.out))
  have HB6 := Lib.hid (HB5.out.trans (hb.mono HB5.out.size))
  clear hb d1 d2
  obtain ⟨_, d1, d2⟩ := obj3 HY6.out
  go_wp2_with fail
  refine (dtnames_nil _).mono ?_
  rintro en w7 ⟨rfl, rfl⟩
  have HG7 := HG6
  have HY7 := HY6
  have HB7 := HB6
  go_wp2_with fail
  refine (dtbel_nil [] _).mono ?_
  rintro en w8 ⟨rfl, rfl⟩
  have HG8 := HG7
  have HY8 := HY7
  have HB8 := HB7
  go_wp2_with fail
  refine (dtlen_nil _).mono ?_
  rintro en w9 ⟨rfl, rfl⟩
  have HG9 := HG8
  have HY9 := HY8
  have HB9 := HB8
  go_wp2_with fail
  refine (dtcopy_nil _).mono ?_
  rintro en w10 ⟨rfl, rfl⟩
  have HG10 := HG9
  have HY10 := HY9
  have HB10 := HB9
  go_wp2_with fail
  refine (dtadd_ns g _ _ _ dn a n c _ rfl HG10.out).mono ?_
  rintro en w11 ⟨rfl, hb⟩
  have HG11 := Lib.hid (obj_below HG10.out hb (obj_lt HG10.out))
  have HY11 := Lib.hid (obj_below HY10.out hb (obj_lt HY10.out))
  have HB11 := Lib.hid (HB10.out.trans (hb.mono HB10.out.size))
  clear hb d1 d2
  obtain ⟨_, d1, d2⟩ := obj3 HY11.out
  go_wp2_with fail
  refine (dtrep_ns g _ _ _ dn a n c _ rfl HG11.out).mono ?_
  rintro en w12 ⟨rfl, hb⟩
  have HG12 := Lib.hid (obj_below HG11.out hb (obj_lt HG11.out))
  have HY12 := Lib.hid (obj_below HY11.out hb (obj_lt HY11.out))
  have HB12 := Lib.hid (HB11.out.trans (hb.mono HB11.out.size))
  clear hb d1 d2
  obtain ⟨_, d1, d2⟩ := obj3 HY12.out
  go_wp2_with fail
  refine (dtaw_any _ (errOk_below HE.out HB12.out)).mono ?_
  rintro en w13 ⟨rfl, hb⟩
  have HG13 := Lib.hid (obj_below HG12.out hb (obj_lt HG12.out))
  have HY13 := Lib.hid (obj_below HY12.out hb (obj_lt HY12.out))
  have HB13 := Lib.hid (HB12.out.trans (hb.mono HB12.out.size))
  clear hb d1 d2
  obtain ⟨_, d1, d2⟩ := obj3 HY13.out
  go_wp2
  go_ret
  exact bB_mk rfl HB13.out
end Go.Proofs.YtbmnpjkcomcboaaGreatDoor
