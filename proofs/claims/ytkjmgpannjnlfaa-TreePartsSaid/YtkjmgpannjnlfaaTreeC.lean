/- The code's Check and Depth tell what the plain functions ck and dpth tell, for every text that is no longer than a text may be and every number of levels. -/
import Derived.Test.YtkjmgpannjnlfaaTreeB
namespace Go.Proofs.Ytkjmgpannjnlfaa
open Go.RowKit Go.Proofs.BerM Go.Proofs.BerK

/-- How many levels are asked for, 64 at most, none of a number below 1. -/
def lv (q : Int) : Nat := (min q 64).toNat
theorem lv_lt {q : Int} (h : q < 1) : lv q = 0 := by unfold lv; omega
theorem lv_le (q : Int) : lv q ≤ 64 := by unfold lv; omega

theorem dpL_one (m : Nat) (x : TB) : dpL (dp1 m) [x] 0 = dp1 m x := by
  by_cases h : (dp1 m x).2 = 0
  · rw [dpL_go (pair_of rfl h)]
    simp only [dpL]
    rw [pair_of (a := dp1 m x) rfl h]; simp
  · rw [dpL_err (pair_of rfl rfl) h]
    exact (pair_of (dp1_zero_err m x h) rfl).symm

theorem cells_one (w : World) (t : Int) (s : ByteArray) (e : TypeId) : (w.alloc (.cells #[.int .i64 t, .string s] e)).cell? ⟨w.heap.size, 0 * 2, none⟩ = some (.int .i64 t) ∧ (w.alloc (.cells #[.int .i64 t, .string s] e)).cell? ⟨w.heap.size, 0 * 2 + 1, none⟩ = some (.string s) := by
  rw [World.cell?_alloc_mark w _ e (0, 0), World.cell?_alloc_mark w _ e (0, 0)]
  exact ⟨rfl, rfl⟩
theorem rowAt_one (w : World) (t : Nat) (b : List UInt8) (e : TypeId) : RowAt (w.alloc (.cells #[.int .i64 t, .string ⟨b.toArray⟩] e)) (.slice (some ⟨w.heap.size, 0, none⟩) 1 1) [(t, b)] := by
  refine .inr ⟨by simp, w.heap.size, 1, rfl, by simp, fun i hi => ?_⟩
  obtain rfl : i = 0 := by simpa using hi
  exact cells_one w t ⟨b.toArray⟩ e

set_option maxHeartbeats 800000 in
set_option maxRecDepth 100000 in
theorem ms_none (s : ByteArray) (q : Int) (w : World) (h : q < 1) :
    Calls Try.prog 16 #[.string s, .int .i64 q] w (DeepPost (ms (lv q) s.data.toList) w) := by
  have HV : Hid (ms (lv q) s.data.toList = (0, 7)) := by unfold Hid; rw [lv_lt h]; rfl
  go_enter Try.func16, Try.ntmps16
  go_wp2
  go_ret2
  exact deep_mk HV.out (Below.refl _ _)

set_option maxHeartbeats 800000 in
set_option maxRecDepth 100000 in
theorem ms_err (s : ByteArray) (q : Int) (w : World) (hm : s.size ≤ maxLen) (h : ¬ q < 1) (t sz e : Nat) (b : List UInt8) (hr : rd s.data.toList = (t, b, sz, e)) (he : e ≠ 0) :
    Calls Try.prog 16 #[.string s, .int .i64 q] w (DeepPost (ms (lv q) s.data.toList) w) := by
  have HV : Hid (ms (lv q) s.data.toList = (0, e)) := by
    unfold Hid; rw [ms, if_neg (by unfold lv; omega), hr, if_pos he]
  have HC := Lib.hid fun w => rd_any s w hm t sz e b hr
  have h1 : ((e : Int) != 0) = true := by rw [bne_iff_ne]; omega
  clear hr
  go_enter Try.func16, Try.ntmps16
  go_wp2_with fail
  refine (HC.out _).mono ?_
  rintro en w1 ⟨rfl, hb1⟩
  go_wp2
  go_ret2
  exact deep_mk HV.out (hb1.alloc hb1.size _)

set_option maxHeartbeats 800000 in
set_option maxRecDepth 100000 in
theorem ms_form (s : ByteArray) (q : Int) (w : World) (hm : s.size ≤ maxLen) (h : ¬ q < 1) (t sz : Nat) (b : List UInt8) (hr : rd s.data.toList = (t, b, sz, 0)) (hs : sz < s.size) :
    Calls Try.prog 16 #[.string s, .int .i64 q] w (DeepPost (ms (lv q) s.data.toList) w) := by
  have HV : Hid (ms (lv q) s.data.toList = (0, 5)) := by
    unfold Hid; rw [ms, if_neg (by unfold lv; omega), hr, if_neg (by simp), if_pos (by rw [len_list]; exact hs)]
  have HC := Lib.hid fun w => rd_any s w hm t sz 0 b hr
  unfold maxLen at hm
  clear hr
  go_enter Try.func16, Try.ntmps16
  go_wp2_with fail
  refine (HC.out _).mono ?_
  rintro en w1 ⟨rfl, hb1⟩
  go_wp2
  go_ret2
  exact deep_mk HV.out (hb1.alloc hb1.size _)

theorem deep_m (k : Nat) (hk : k ≤ 64) (q : Int) (hq : (k : Int) = q) (t : Nat) (b : List UInt8) (hg : goodTB (t, b)) (w : World) (B : Nat) (hB : B = w.heap.size) (e : TypeId) :
    Calls Try.prog 23 #[.int .i64 q, .slice (some ⟨B, 0, none⟩) 1 1] (w.alloc (.cells #[.int .i64 t, .string ⟨b.toArray⟩] e)) (DeepPost (dpL (dp1 k) [(t, b)] 0) (w.alloc (.cells #[.int .i64 t, .string ⟨b.toArray⟩] e))) := by
  subst hq hB
  exact deep_any k hk [(t, b)] _ _ (by intro x hx; obtain rfl := List.mem_singleton.1 hx; exact hg) (by simp) (rowAt_one w t b e)
theorem below_2 {w w1 w2 : World} {o1 o2 : Obj} (h1 : Below w.heap.size w w1) (h2 : Below ((w1.alloc o1).alloc o2).heap.size ((w1.alloc o1).alloc o2) w2) : Below w.heap.size w w2 :=
  ((h1.alloc h1.size o1).alloc (by have := h1.size; simp; omega) o2).trans (h2.mono (by have := h1.size; simp; omega))

set_option maxHeartbeats 800000 in
set_option maxRecDepth 100000 in
theorem ms_ok (s : ByteArray) (q : Int) (w : World) (hm : s.size ≤ maxLen) (h : ¬ q < 1) (t sz : Nat) (b : List UInt8) (hr : rd s.data.toList = (t, b, sz, 0)) (hs : ¬ sz < s.size) :
    Calls Try.prog 16 #[.string s, .int .i64 q] w (DeepPost (ms (lv q) s.data.toList) w) := by
  have hV : ms (lv q) s.data.toList = dpL (dp1 (lv q)) [(t, b)] 0 := by
    rw [dpL_one, ms, if_neg (by unfold lv; omega), hr, if_neg (by simp), if_neg (by rw [len_list]; exact hs)]
  have HV := Lib.hid hV
  have HC := Lib.hid fun w => rd_any s w hm t sz 0 b hr
  have hg := (rd_good _ t sz b hr).1
  unfold maxLen at hm
  clear hr hV
  by_cases h64 : q ≤ 64
  · have HD := Lib.hid (deep_m (lv q) (lv_le q) q (by unfold lv; omega) t b hg)
    clear hg
    go_enter Try.func16, Try.ntmps16
    go_wp2_with fail
    refine (HC.out _).mono ?_
    rintro en w1 ⟨rfl, hb1⟩
    go_wp2_with fail
    refine (HD.out (w1.alloc (.cells #[.int .i64 t, .string ⟨b.toArray⟩] 45)) _ (by simp) _).mono ?_
    rintro en w2 ⟨rfl, hb2⟩
    go_wp2
    go_ret2
    exact deep_mk HV.out (below_2 hb1 hb2)
  · have HD := Lib.hid (deep_m (lv q) (lv_le q) 64 (by unfold lv; omega) t b hg)
    clear hg
    go_enter Try.func16, Try.ntmps16
    go_wp2_with fail
    refine (HC.out _).mono ?_
    rintro en w1 ⟨rfl, hb1⟩
    go_wp2_with fail
    refine (HD.out (w1.alloc (.cells #[.int .i64 t, .string ⟨b.toArray⟩] 45)) _ (by simp) _).mono ?_
    rintro en w2 ⟨rfl, hb2⟩
    go_wp2
    go_ret2
    exact deep_mk HV.out (below_2 hb1 hb2)

theorem ms_any (s : ByteArray) (q : Int) (w : World) (hm : s.size ≤ maxLen) :
    Calls Try.prog 16 #[.string s, .int .i64 q] w (DeepPost (ms (lv q) s.data.toList) w) := by
  by_cases h : q < 1
  · exact ms_none s q w h
  · obtain ⟨t, b, sz, e, hr⟩ : ∃ t b sz e, rd s.data.toList = (t, b, sz, e) := ⟨_, _, _, _, rfl⟩
    by_cases he : e = 0
    · subst he
      by_cases hs : sz < s.size
      · exact ms_form s q w hm h t sz b hr hs
      · exact ms_ok s q w hm h t sz b hr hs
    · exact ms_err s q w hm h t sz e b hr he

set_option maxHeartbeats 800000 in
set_option maxRecDepth 100000 in
theorem check_any (s : ByteArray) (q : Int) (w : World) (hm : s.size ≤ maxLen) (e : Nat) (he : ck (lv q) s.data.toList = e) :
    Calls Try.prog 7 #[.string s, .int .i64 q] w fun en w' => en = .returned (.int .i64 e) ∧ Below w.heap.size w w' := by
  have HC := Lib.hid fun w => ms_any s q w hm
  have HV := Lib.hid ((ms_ck (lv q) s.data.toList).trans he)
  obtain ⟨d1, e1, hD⟩ : ∃ d1 e1, ms (lv q) s.data.toList = (d1, e1) := ⟨_, _, rfl⟩
  have HD := Lib.hid hD
  clear he hD
  go_enter Try.func7, Try.ntmps7
  go_wp2_with fail
  refine (HC.out _).mono ?_
  rintro en w1 ⟨rfl, hb1⟩
  rw [HD.out]
  go_wp2
  go_ret
  exact ⟨ret_int (by have := HV.out; rw [HD.out] at this; simp at this; omega), hb1⟩

set_option maxHeartbeats 800000 in
set_option maxRecDepth 100000 in
theorem depth_any (s : ByteArray) (w : World) (hm : s.size ≤ maxLen) (d : Nat) (hd : dpth s.data.toList = d) :
    Calls Try.prog 9 #[.string s] w fun en w' => en = .returned (.int .i64 d) ∧ Below w.heap.size w w' := by
  have HC := Lib.hid fun w => ms_any s 64 w hm
  have hl : lv 64 = 64 := rfl
  rw [hl] at HC
  obtain ⟨d1, e1, hD⟩ : ∃ d1 e1, ms 64 s.data.toList = (d1, e1) := ⟨_, _, rfl⟩
  rw [dpth, hD] at hd
  have HD := Lib.hid hD
  have HV := Lib.hid hd
  clear hd hD hl
  go_enter Try.func9, Try.ntmps9
  go_wp2_with fail
  refine (HC.out _).mono ?_
  rintro en w1 ⟨rfl, hb1⟩
  rw [HD.out]
  go_wp2
  go_ret
  exact ⟨ret_int (by have := HV.out; omega), hb1⟩
end Go.Proofs.Ytkjmgpannjnlfaa
