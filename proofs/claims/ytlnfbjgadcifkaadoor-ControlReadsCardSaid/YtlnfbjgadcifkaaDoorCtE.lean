/- The document's PutPersist and PutNotice. -/
import Derived.Test.YtlnfbjgadcifkaaDoorCtD
namespace Go.Proofs.YtlnfbjgadcifkaaDoor
set_option linter.unusedSimpArgs false
set_option linter.unusedVariables false
open Go Go.RowKit Go.Proofs.BerM Go.Proofs.BerK Go.Proofs.MemK Go.Proofs.NumM

theorem cat_3 (a b c : List UInt8) : ByteArray.mk a.toArray ++ ByteArray.mk b.toArray ++ ByteArray.mk c.toArray = ByteArray.mk (a ++ (b ++ c)).toArray := by
  rw [cat_2, cat_2, List.append_assoc]
set_option maxHeartbeats 3200000 in
set_option maxRecDepth 100000 in
theorem rcpe_any (t : Int) (c r : Bool) (w : World) : Calls Tryd.prog 8 #[.agg #[.int .i64 t, .bool c, .bool r]] w (SePost (peP t c r) w) := by
  obtain ⟨W, hW⟩ : ∃ W, w.alloc (.cells #[.int .i64 t, .bool c, .bool r] 23) = W := ⟨_, rfl⟩
  have hb0 : Below w.heap.size w W := by rw [← hW]; exact (Below.refl _ w).alloc (Nat.le_refl _) _
  have hg : W.heap[w.heap.size]? = some (.cells #[.int .i64 t, .bool c, .bool r] 23 (0, 0)) := by rw [← hW]; exact heap_alloc_new w _
  have p0 := obj_cell hg 0 _ rfl
  have p1 := obj_cell hg 1 _ rfl
  have p2 := obj_cell hg 2 _ rfl
  have hz : w.heap.size < W.heap.size := obj_lt hg
  have HB0 := Lib.hid hb0
  unfold peP
  by_cases ht : 1 ≤ t ∧ t ≤ 15
  · rw [if_pos ht]
    obtain ⟨ht1, ht2⟩ := ht
    have HN := Lib.hid fun w' => rcnum_any 2 t w'
    have HT1 := Lib.hid fun w' => rctru_any c w'
    have HT2 := Lib.hid fun w' => rctru_any r w'
    have hl1 := putL_le 2 (npL t)
    have hl2 := putL_le 1 (bB c)
    have hl3 := putL_le 1 (bB r)
    have hl4 := npL_le t
    rw [bB_len] at hl2 hl3
    unfold peL
    obtain ⟨A, hA⟩ : ∃ q, putL 2 (npL t) = q := ⟨_, rfl⟩
    obtain ⟨B, hB⟩ : ∃ q, putL 1 (bB c) = q := ⟨_, rfl⟩
    obtain ⟨C, hC⟩ : ∃ q, putL 1 (bB r) = q := ⟨_, rfl⟩
    rw [hA] at HN hl1 ⊢
    rw [hB] at HT1 hl2 ⊢
    rw [hC] at HT2 hl3 ⊢
    have hlen : (A ++ (B ++ C)).length ≤ 65536 := by simp only [List.length_append]; omega
    have HP := Lib.hid fun w' => rput_c 48 (ByteArray.mk A.toArray ++ ByteArray.mk B.toArray ++ ByteArray.mk C.toArray) (by rw [cat_3]; unfold maxLen; show (A ++ (B ++ C)).length ≤ _; omega) (putL 48 (A ++ (B ++ C))) 0 (by rw [cat_3]) (by rw [cat_3]; exact putE_ok tag48 hlen) w'
    have h1 : ¬ (9223372036854775807 < A.length + B.length) := by omega
    have h2 : ¬ (9223372036854775807 < A.length + B.length + C.length) := by omega
    obtain ⟨X, hX⟩ : ∃ X, putL 48 (A ++ (B ++ C)) = X := ⟨_, rfl⟩
    rw [hX] at HP ⊢
    clear hA hB hC hX hb0 hg hl1 hl2 hl3 hl4 hlen
    go_enter Tryd.func8, Tryd.ntmps8
    go_wp2_with fail
    go_region_held3 (fun w' => w'.cell? ⟨w.heap.size, 0, none⟩ = some (.int .i64 t) ∧ w'.cell? ⟨w.heap.size, 1, none⟩ = some (.bool c) ∧ w'.cell? ⟨w.heap.size, 2, none⟩ = some (.bool r)) (first | exact ⟨hp0, hp1, hp2⟩ | exact ⟨p0, p1, p2⟩ | go_keep)
      (first | (go_at_call 23; (with_reducible refine (HN.out _).mono ?_); rintro en wz ⟨rfl, hb5⟩; have hbW : Below W.heap.size W wz := (by first | exact hbW.trans (hb5.mono hbW.size) | exact (Below.refl _ W).drew.trans hb5); have hp0 := (hbW.cell (p := ⟨w.heap.size, 0, none⟩) hz).trans p0; have hp1 := (hbW.cell (p := ⟨w.heap.size, 1, none⟩) hz).trans p1; have hp2 := (hbW.cell (p := ⟨w.heap.size, 2, none⟩) hz).trans p2; clear hb5) | (go_at_call 24; (with_reducible refine (HT1.out _).mono ?_); rintro en wz ⟨rfl, hb5⟩; have hbW : Below W.heap.size W wz := (by first | exact hbW.trans (hb5.mono hbW.size) | exact (Below.refl _ W).drew.trans hb5); have hp0 := (hbW.cell (p := ⟨w.heap.size, 0, none⟩) hz).trans p0; have hp1 := (hbW.cell (p := ⟨w.heap.size, 1, none⟩) hz).trans p1; have hp2 := (hbW.cell (p := ⟨w.heap.size, 2, none⟩) hz).trans p2; clear hb5) | (go_at_call 24; (with_reducible refine (HT2.out _).mono ?_); rintro en wz ⟨rfl, hb5⟩; have hbW : Below W.heap.size W wz := (by first | exact hbW.trans (hb5.mono hbW.size) | exact (Below.refl _ W).drew.trans hb5); have hp0 := (hbW.cell (p := ⟨w.heap.size, 0, none⟩) hz).trans p0; have hp1 := (hbW.cell (p := ⟨w.heap.size, 1, none⟩) hz).trans p1; have hp2 := (hbW.cell (p := ⟨w.heap.size, 2, none⟩) hz).trans p2; clear hb5) | (go_at_call 22; (with_reducible refine (HP.out _).mono ?_); rintro en wz ⟨rfl, hb5⟩; have hbW : Below W.heap.size W wz := (by first | exact hbW.trans (hb5.mono hbW.size) | exact (Below.refl _ W).drew.trans hb5); have hp0 := (hbW.cell (p := ⟨w.heap.size, 0, none⟩) hz).trans p0; have hp1 := (hbW.cell (p := ⟨w.heap.size, 1, none⟩) hz).trans p1; have hp2 := (hbW.cell (p := ⟨w.heap.size, 2, none⟩) hz).trans p2; clear hb5))
    go_wp2
    go_ret2
    exact ⟨rfl, HB0.out.trans (hbW.mono HB0.out.size)⟩
  · rw [if_neg ht]
    have hw : t < 1 ∨ (¬ t < 1 ∧ 15 < t) := by omega
    clear ht hb0 hg
    rcases hw with q1 | ⟨q1, q2⟩
    all_goals
      go_enter Tryd.func8, Tryd.ntmps8
      go_wp2
      go_ret2
      exact ⟨rfl, HB0.out⟩

theorem nt_wayn (k : Int) : (isK k = false ∧ ((k : Int) != 1) = true ∧ ((k : Int) != 2) = true ∧ ((k : Int) != 4) = true ∧ ((k : Int) != 8) = true) ∨
    (isK k = true ∧ (((k : Int) != 1) = false ∨ (((k : Int) != 1) = true ∧ ((k : Int) != 2) = false) ∨ (((k : Int) != 1) = true ∧ ((k : Int) != 2) = true ∧ ((k : Int) != 4) = false) ∨ (((k : Int) != 1) = true ∧ ((k : Int) != 2) = true ∧ ((k : Int) != 4) = true ∧ ((k : Int) != 8) = false))) := by
  simp only [bne_iff_ne, bne_eq_false_iff_eq, ne_eq, isK, Bool.or_eq_true, Bool.or_eq_false_iff, decide_eq_true_eq, decide_eq_false_iff_not]
  omega
set_option maxHeartbeats 6400000 in
set_option maxRecDepth 100000 in
theorem rcnt_any (k : Int) (o : List UInt8) (n : Int) (w : World) (hm : o.length ≤ maxLen) : Calls Tryd.prog 10 #[.agg #[.int .i64 k, .string ⟨o.toArray⟩, .int .i64 n]] w (SePost (ntP k o n) w) := by
  obtain ⟨W, hW⟩ : ∃ W, w.alloc (.cells #[.int .i64 k, .string ⟨o.toArray⟩, .int .i64 n] 25) = W := ⟨_, rfl⟩
  have hb0 : Below w.heap.size w W := by rw [← hW]; exact (Below.refl _ w).alloc (Nat.le_refl _) _
  have hg : W.heap[w.heap.size]? = some (.cells #[.int .i64 k, .string ⟨o.toArray⟩, .int .i64 n] 25 (0, 0)) := by rw [← hW]; exact heap_alloc_new w _
  have p0 := obj_cell hg 0 _ rfl
  have p1 := obj_cell hg 1 _ rfl
  have p2 := obj_cell hg 2 _ rfl
  have hz : w.heap.size < W.heap.size := obj_lt hg
  have HB0 := Lib.hid hb0
  clear hb0 hg
  unfold maxLen at hm
  rcases nt_wayn k with ⟨q1, k1, k2, k3, k4⟩ | ⟨q1, hk⟩
  · have hv : ntP k o n = ([], 1) := by unfold ntP; rw [if_pos q1]
    rw [hv]
    clear hv q1
    go_enter Tryd.func10, Tryd.ntmps10
    go_wp2
    go_ret2
    exact ⟨rfl, HB0.out⟩
  rcases nt_ways k o n with ⟨q0, hv⟩ | ⟨q0, q2, hv⟩ | ⟨q0, q2, q3, hv⟩ | ⟨q0, q2, q3, q4, hv⟩ | ⟨q0, q2, q3, q4, hv⟩
  · rw [q0] at q1; cases q1
  iterate 3
    · rw [hv]
      clear hv q1 q0
      rcases hk with k1 | ⟨k1, k2⟩ | ⟨k1, k2, k3⟩ | ⟨k1, k2, k3, k4⟩
      all_goals
        go_enter Tryd.func10, Tryd.ntmps10
        go_wp2
        go_ret2
        exact ⟨rfl, HB0.out⟩
  rw [hv]
  have ho : o.length ≤ 4096 := by omega
  have HN1 := Lib.hid fun w' => rcnum_any 10 k w'
  have HN2 := Lib.hid fun w' => rcnum_any 2 n w'
  have HN4 := Lib.hid fun w' => rput_c 4 ⟨o.toArray⟩ (by unfold maxLen; show o.length ≤ _; omega) (putL 4 o) 0 rfl (putE_ok (by decide) (by show o.length ≤ _; omega)) w'
  have hl1 := putL_le 10 (npL k)
  have hl2 := putL_le 4 o
  have hl3 := putL_le 2 (npL n)
  have hl4 := npL_le k
  have hl5 := npL_le n
  unfold ntL
  obtain ⟨A, hA⟩ : ∃ q, putL 10 (npL k) = q := ⟨_, rfl⟩
  obtain ⟨B, hB⟩ : ∃ q, putL 4 o = q := ⟨_, rfl⟩
  obtain ⟨C, hC⟩ : ∃ q, putL 2 (npL n) = q := ⟨_, rfl⟩
  rw [hA] at HN1 hl1 ⊢
  rw [hB] at HN4 hl2 ⊢
  rw [hC] at HN2 hl3 ⊢
  clear hv q1 hA hC hB
  by_cases he : o = []
  · have hem := emp_eq he
    rw [if_pos he, List.nil_append]
    have hlen : (A ++ C).length ≤ 65536 := by simp only [List.length_append]; omega
    have HP := Lib.hid fun w' => rput_c 48 (ByteArray.mk A.toArray ++ ByteArray.mk C.toArray) (by rw [cat_2]; unfold maxLen; show (A ++ C).length ≤ _; omega) (putL 48 (A ++ C)) 0 (by rw [cat_2]) (by rw [cat_2]; exact putE_ok tag48 hlen) w'
    have h1 : ¬ (9223372036854775807 < A.length + C.length) := by omega
    obtain ⟨X, hX⟩ : ∃ q, putL 48 (A ++ C) = q := ⟨_, rfl⟩
    rw [hX] at HP ⊢
    clear hX he HN4 hl1 hl2 hl3 hl4 hl5 hlen q0 ho
    rcases hk with k1 | ⟨k1, k2⟩ | ⟨k1, k2, k3⟩ | ⟨k1, k2, k3, k4⟩
    all_goals
      go_enter Tryd.func10, Tryd.ntmps10
      go_wp2_with fail
      refine (HN1.out _).mono ?_
      rintro en w1 ⟨rfl, hb1⟩
      have p0 := (hb1.cell (p := ⟨w.heap.size, 0, none⟩) hz).trans p0
      have p1 := (hb1.cell (p := ⟨w.heap.size, 1, none⟩) hz).trans p1
      have p2 := (hb1.cell (p := ⟨w.heap.size, 2, none⟩) hz).trans p2
      have H1 := Lib.hid hb1
      clear hb1
      go_wp2_with fail
      refine (HN2.out _).mono ?_
      rintro en w5 ⟨rfl, hb5⟩
      have H5 := Lib.hid (H1.out.trans (hb5.mono H1.out.size))
      clear hb5
      go_wp2_with fail
      refine (HP.out _).mono ?_
      rintro en w6 ⟨rfl, hb6⟩
      have H6 := Lib.hid (H5.out.trans (hb6.mono H5.out.size))
      clear hb6
      go_wp2
      go_ret2
      exact ⟨rfl, HB0.out.trans (H6.out.mono HB0.out.size)⟩

  · have hem := emp_ne he
    rw [if_neg he]
    have hlen : (A ++ (B ++ C)).length ≤ 65536 := by simp only [List.length_append]; omega
    have HP := Lib.hid fun w' => rput_c 48 (ByteArray.mk A.toArray ++ ByteArray.mk B.toArray ++ ByteArray.mk C.toArray) (by rw [cat_3]; unfold maxLen; show (A ++ (B ++ C)).length ≤ _; omega) (putL 48 (A ++ (B ++ C))) 0 (by rw [cat_3]) (by rw [cat_3]; exact putE_ok tag48 hlen) w'
    have h1 : ¬ (9223372036854775807 < A.length + B.length) := by omega
    have h2 : ¬ (9223372036854775807 < A.length + B.length + C.length) := by omega
    obtain ⟨X, hX⟩ : ∃ q, putL 48 (A ++ (B ++ C)) = q := ⟨_, rfl⟩
    rw [hX] at HP ⊢
    clear hX he hl1 hl2 hl3 hl4 hl5 hlen q0 ho
    rcases hk with k1 | ⟨k1, k2⟩ | ⟨k1, k2, k3⟩ | ⟨k1, k2, k3, k4⟩
    all_goals
      go_enter Tryd.func10, Tryd.ntmps10
      go_wp2_with fail
      refine (HN1.out _).mono ?_
      rintro en w1 ⟨rfl, hb1⟩
      have p0 := (hb1.cell (p := ⟨w.heap.size, 0, none⟩) hz).trans p0
      have p1 := (hb1.cell (p := ⟨w.heap.size, 1, none⟩) hz).trans p1
      have p2 := (hb1.cell (p := ⟨w.heap.size, 2, none⟩) hz).trans p2
      have H1 := Lib.hid hb1
      clear hb1
      go_wp2_with fail
      refine (HN4.out _).mono ?_
      rintro en w2 ⟨rfl, hb2⟩
      have H2 := Lib.hid (H1.out.trans (hb2.mono H1.out.size))
      have hz1 : w.heap.size < w1.heap.size := Nat.lt_of_lt_of_le hz H1.out.size
      have p2 := (hb2.cell (p := ⟨w.heap.size, 2, none⟩) hz1).trans p2
      clear hb2
      go_wp2_with fail
      refine (HN2.out _).mono ?_
      rintro en w5 ⟨rfl, hb5⟩
      have H5 := Lib.hid (H2.out.trans (hb5.mono H2.out.size))
      clear hb5
      go_wp2_with fail
      refine (HP.out _).mono ?_
      rintro en w6 ⟨rfl, hb6⟩
      have H6 := Lib.hid (H5.out.trans (hb6.mono H5.out.size))
      clear hb6
      go_wp2
      go_ret2
      exact ⟨rfl, HB0.out.trans (H6.out.mono HB0.out.size)⟩

end Go.Proofs.YtlnfbjgadcifkaaDoor
