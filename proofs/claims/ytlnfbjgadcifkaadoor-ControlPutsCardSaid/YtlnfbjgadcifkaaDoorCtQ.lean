/- The walk of the law ControlPuts: it returns true and leaves what was in memory as it was. -/
import Derived.Test.YtlnfbjgadcifkaaDoorCtL
import Derived.Test.YtlnfbjgadcifkaaDoorCtE
namespace Go.Proofs.YtlnfbjgadcifkaaDoor
set_option linter.unusedSimpArgs false
set_option linter.unusedVariables false
open Go Go.RowKit Go.Proofs.BerM Go.Proofs.BerK Go.Proofs.MemK Go.Proofs.NumM

theorem puts_ways (a b c : Nat) : ((((300 : Int) < (a : Int) ∧ (a : Int) ≤ 4096) ∨ ((300 : Int) < (a : Int) ∧ ¬ (a : Int) ≤ 4096 ∧ (5000 : Int) < (a : Int)) ∨ ((300 : Int) < (a : Int) ∧ ¬ (a : Int) ≤ 4096 ∧ ¬ (5000 : Int) < (a : Int) ∧ (100 : Int) < (b : Int)) ∨ ((300 : Int) < (a : Int) ∧ ¬ (a : Int) ≤ 4096 ∧ ¬ (5000 : Int) < (a : Int) ∧ ¬ (100 : Int) < (b : Int) ∧ (1100 : Int) < (c : Int)) ∨ (¬ (300 : Int) < (a : Int) ∧ ¬ (5000 : Int) < (a : Int) ∧ (100 : Int) < (b : Int)) ∨ (¬ (300 : Int) < (a : Int) ∧ ¬ (5000 : Int) < (a : Int) ∧ ¬ (100 : Int) < (b : Int) ∧ (1100 : Int) < (c : Int))) ∨
    (((300 : Int) < (a : Int) ∧ ¬ (a : Int) ≤ 4096 ∧ ¬ (5000 : Int) < (a : Int) ∧ ¬ (100 : Int) < (b : Int) ∧ ¬ (1100 : Int) < (c : Int)) ∨ (¬ (300 : Int) < (a : Int) ∧ ¬ (5000 : Int) < (a : Int) ∧ ¬ (100 : Int) < (b : Int) ∧ ¬ (1100 : Int) < (c : Int)))) := by omega
set_option maxHeartbeats 6400000 in
set_option maxRecDepth 100000 in
theorem cputs_walk (t : Int) (p q : Bool) (k : Int) (o : List UInt8) (n : Int) (x : List UInt8) (y : Bool) (z : List UInt8) (w : World) (ho : o.length ≤ maxLen) (hx : x.length ≤ maxLen) (hz : z.length ≤ maxLen) :
    Calls Tryd.prog 3 #[.agg #[.int .i64 t, .bool p, .bool q], .agg #[.int .i64 k, .string ⟨o.toArray⟩, .int .i64 n], .agg #[.string ⟨x.toArray⟩, .bool y, .string ⟨z.toArray⟩]] w fun e w' => e = .returned (.bool true) ∧ Below w.heap.size w w' := by
  obtain ⟨W, hW⟩ : ∃ W, ((w.alloc (.cells #[.int .i64 t, .bool p, .bool q] 23)).alloc (.cells #[.int .i64 k, .string ⟨o.toArray⟩, .int .i64 n] 25)).alloc (.cells #[.string ⟨x.toArray⟩, .bool y, .string ⟨z.toArray⟩] 27) = W := ⟨_, rfl⟩
  have hb0 : Below w.heap.size w W := by rw [← hW]; exact (((Below.refl _ w).alloc (Nat.le_refl _) _).alloc (by simp) _).alloc (by simp; omega) _
  have hA : W.heap[w.heap.size]? = some (.cells #[.int .i64 t, .bool p, .bool q] 23 (0, 0)) := by rw [← hW]; exact obj_alloc (obj_alloc (heap_alloc_new w _) _) _
  have hB : W.heap[w.heap.size + 1]? = some (.cells #[.int .i64 k, .string ⟨o.toArray⟩, .int .i64 n] 25 (0, 0)) := by
    rw [← hW]
    have := heap_alloc_new (w.alloc (.cells #[.int .i64 t, .bool p, .bool q] 23)) (.cells #[.int .i64 k, .string ⟨o.toArray⟩, .int .i64 n] 25)
    rw [World.size_alloc] at this
    exact obj_alloc this _
  have hC : W.heap[w.heap.size + 2]? = some (.cells #[.string ⟨x.toArray⟩, .bool y, .string ⟨z.toArray⟩] 27 (0, 0)) := by
    rw [← hW]
    have := heap_alloc_new ((w.alloc (.cells #[.int .i64 t, .bool p, .bool q] 23)).alloc (.cells #[.int .i64 k, .string ⟨o.toArray⟩, .int .i64 n] 25)) (.cells #[.string ⟨x.toArray⟩, .bool y, .string ⟨z.toArray⟩] 27)
    rw [World.size_alloc, World.size_alloc] at this
    exact this
  have a0 := obj_cell hA 0 _ rfl
  have a1 := obj_cell hA 1 _ rfl
  have a2 := obj_cell hA 2 _ rfl
  have b0 := obj_cell hB 0 _ rfl
  have b1 := obj_cell hB 1 _ rfl
  have b2 := obj_cell hB 2 _ rfl
  have c0 := obj_cell hC 0 _ rfl
  have c1 := obj_cell hC 1 _ rfl
  have c2 := obj_cell hC 2 _ rfl
  have HB0 := Lib.hid hb0
  have HAx := Lib.hid hA
  have HBx := Lib.hid hB
  have HCx := Lib.hid hC
  have HAw := Lib.hid (fun w' => cawake_any w')
  have HP1 := Lib.hid (fun w' => cpe_any t p q w')
  have HP2 := Lib.hid (fun w' => rcpe_any t p q w')
  have HN1 := Lib.hid (fun w' => cnt_any k o n w' ho)
  have HN2 := Lib.hid (fun w' => rcnt_any k o n w' ho)
  have HC1 := Lib.hid (fun w' => ccheck_any x z y w' hx hz)
  have HC2 := Lib.hid (fun w' => rccheck_any x z y w' hx hz)
  obtain ⟨p1, e1⟩ : ∃ s, peP t p q = s := ⟨_, rfl⟩
  obtain ⟨p2, e2⟩ : ∃ q, ntP k o n = q := ⟨_, rfl⟩
  obtain ⟨p3, e3⟩ : ∃ q, ckC x z = q := ⟨_, rfl⟩
  rw [e1] at HP1 HP2
  rw [e2] at HN1 HN2
  rw [e3] at HC1 HC2
  obtain ⟨X1, E1⟩ := p1
  obtain ⟨X2, E2⟩ := p2
  unfold maxLen at ho hx hz
  clear e1 e2 e3 hb0 hA hB hC
  rcases puts_ways o.length x.length z.length with h | h
  · rcases h with ⟨r1, r2⟩ | ⟨r1, r2, r3⟩ | ⟨r1, r2, r3, r4⟩ | ⟨r1, r2, r3, r4, r5⟩ | ⟨r1, r3, r4⟩ | ⟨r1, r3, r4, r5⟩
    all_goals
      go_enter Tryd.func3, Tryd.ntmps3
      go_wp2_with fail
      refine (HAw.out _).mono ?_
      rintro en w5 ⟨rfl, hb5⟩
      have H5 := Lib.hid (HB0.out.trans (hb5.mono HB0.out.size))
      clear hb5
      go_wp2
      go_ret
      exact ⟨rfl, H5.out⟩
  · rcases h with ⟨r1, r2, r3, r4, r5⟩ | ⟨r1, r3, r4, r5⟩
    all_goals
      go_enter Tryd.func3, Tryd.ntmps3
      go_wp2_with fail
      refine (HP1.out _).mono ?_
      rintro en v1 ⟨rfl, hb⟩
      have HA1 := Lib.hid (obj_below HAx.out hb (obj_lt HAx.out))
      have HB1 := Lib.hid (obj_below HBx.out hb (obj_lt HBx.out))
      have HC1x := Lib.hid (obj_below HCx.out hb (obj_lt HCx.out))
      have H1 := Lib.hid (HB0.out.trans (hb.mono HB0.out.size))
      clear hb a0 a1 a2 b0 b1 b2 c0 c1 c2
      have a0 := obj_cell HA1.out 0 _ rfl
      have a1 := obj_cell HA1.out 1 _ rfl
      have a2 := obj_cell HA1.out 2 _ rfl
      go_wp2_with fail
      refine (HP2.out _).mono ?_
      rintro en v2 ⟨rfl, hb⟩
      have HB2 := Lib.hid (obj_below HB1.out hb (obj_lt HB1.out))
      have HC2x := Lib.hid (obj_below HC1x.out hb (obj_lt HC1x.out))
      have H2 := Lib.hid (H1.out.trans (hb.mono H1.out.size))
      clear hb a0 a1 a2
      have b0 := obj_cell HB2.out 0 _ rfl
      have b1 := obj_cell HB2.out 1 _ rfl
      have b2 := obj_cell HB2.out 2 _ rfl
      go_wp2_with fail
      refine (HN1.out _).mono ?_
      rintro en v3 ⟨rfl, hb⟩
      have HB3 := Lib.hid (obj_below HB2.out hb (obj_lt HB2.out))
      have HC3x := Lib.hid (obj_below HC2x.out hb (obj_lt HC2x.out))
      have H3 := Lib.hid (H2.out.trans (hb.mono H2.out.size))
      clear hb b0 b1 b2
      have b0 := obj_cell HB3.out 0 _ rfl
      have b1 := obj_cell HB3.out 1 _ rfl
      have b2 := obj_cell HB3.out 2 _ rfl
      go_wp2_with fail
      refine (HN2.out _).mono ?_
      rintro en v4 ⟨rfl, hb⟩
      have hc4 := obj_below HC3x.out hb (obj_lt HC3x.out)
      have H4 := Lib.hid (H3.out.trans (hb.mono H3.out.size))
      have hz4 : w.heap.size + 2 < v4.heap.size := obj_lt hc4
      clear hb b0 b1 b2
      have c0 := obj_cell hc4 0 _ rfl
      have c1 := obj_cell hc4 1 _ rfl
      have c2 := obj_cell hc4 2 _ rfl
      clear hc4 HA1 HB1 HC1x HB2 HC2x HB3 HC3x HAx HBx HCx
      go_wp2_with fail
      go_region_held3 (fun w' => w'.cell? ⟨w.heap.size + 2, 0, none⟩ = some (.string ⟨x.toArray⟩) ∧ w'.cell? ⟨w.heap.size + 2, 1, none⟩ = some (.bool y) ∧ w'.cell? ⟨w.heap.size + 2, 2, none⟩ = some (.string ⟨z.toArray⟩)) (first | exact ⟨hc0, hc1, hc2⟩ | exact ⟨c0, c1, c2⟩ | go_keep)
        (first | (go_at_call 11; (with_reducible refine (HC1.out _).mono ?_); rintro en wz ⟨rfl, hb5⟩; have hbW : Below v4.heap.size v4 wz := (by first | exact hbW.trans (hb5.mono hbW.size) | exact (Below.refl _ v4).drew.trans hb5); have hc0 := (hbW.cell (p := ⟨w.heap.size + 2, 0, none⟩) hz4).trans c0; have hc1 := (hbW.cell (p := ⟨w.heap.size + 2, 1, none⟩) hz4).trans c1; have hc2 := (hbW.cell (p := ⟨w.heap.size + 2, 2, none⟩) hz4).trans c2; clear hb5) | (go_at_call 12; (with_reducible refine (HC2.out _).mono ?_); rintro en wz ⟨rfl, hb5⟩; have hbW : Below v4.heap.size v4 wz := (by first | exact hbW.trans (hb5.mono hbW.size) | exact (Below.refl _ v4).drew.trans hb5); have hc0 := (hbW.cell (p := ⟨w.heap.size + 2, 0, none⟩) hz4).trans c0; have hc1 := (hbW.cell (p := ⟨w.heap.size + 2, 1, none⟩) hz4).trans c1; have hc2 := (hbW.cell (p := ⟨w.heap.size + 2, 2, none⟩) hz4).trans c2; clear hb5) | (go_at_call 6; (with_reducible refine (HAw.out _).mono ?_); rintro en wz ⟨rfl, hb5⟩; have hbW : Below v4.heap.size v4 wz := (by first | exact hbW.trans (hb5.mono hbW.size) | exact (Below.refl _ v4).drew.trans hb5); have hc0 := (hbW.cell (p := ⟨w.heap.size + 2, 0, none⟩) hz4).trans c0; have hc1 := (hbW.cell (p := ⟨w.heap.size + 2, 1, none⟩) hz4).trans c1; have hc2 := (hbW.cell (p := ⟨w.heap.size + 2, 2, none⟩) hz4).trans c2; clear hb5))
      go_wp2
      go_ret
      exact ⟨by simp, H4.out.trans (hbW.mono H4.out.size)⟩
end Go.Proofs.YtlnfbjgadcifkaaDoor
