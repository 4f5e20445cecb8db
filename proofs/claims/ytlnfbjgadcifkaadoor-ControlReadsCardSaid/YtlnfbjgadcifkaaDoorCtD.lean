/- The code's PutNotice; the document's PutPersist and PutNotice. -/
import Derived.Test.YtlnfbjgadcifkaaDoorCtC
namespace Go.Proofs.YtlnfbjgadcifkaaDoor
set_option linter.unusedSimpArgs false
set_option linter.unusedVariables false
open Go Go.RowKit Go.Proofs.BerM Go.Proofs.BerK Go.Proofs.MemK Go.Proofs.NumM

theorem emp_ne {o : List UInt8} (h : o ≠ []) : o.isEmpty = false := by
  cases o with
  | nil => exact absurd rfl h
  | cons a l => rfl
theorem emp_eq {o : List UInt8} (h : o = []) : o.isEmpty = true := by rw [h]; rfl
theorem nt_good1 (k : Int) (o : List UInt8) (n : Int) (ho : o.length ≤ 4096) : ∀ x ∈ ([(10, npL k), (4, o), (2, npL n)] : List TB), goodTB x ∧ x.2.length ≤ 4096 := by
  intro x hx
  have h4 := npL_le k
  have h5 := npL_le n
  simp only [List.mem_cons, List.not_mem_nil, or_false] at hx
  rcases hx with rfl | rfl | rfl
  · exact ⟨⟨(by show tagB (10 : Int) = true; decide), by show (npL k).length ≤ _; omega⟩, by show (npL k).length ≤ _; omega⟩
  · exact ⟨⟨(by show tagB (4 : Int) = true; decide), by show o.length ≤ _; omega⟩, ho⟩
  · exact ⟨⟨(by show tagB (2 : Int) = true; decide), by show (npL n).length ≤ _; omega⟩, by show (npL n).length ≤ _; omega⟩
theorem nt_ways (k : Int) (o : List UInt8) (n : Int) :
    (isK k = false ∧ ntP k o n = ([], 1)) ∨ (isK k = true ∧ (4096 : Int) < (o.length : Int) ∧ ntP k o n = ([], 3)) ∨ (isK k = true ∧ ¬ (4096 : Int) < (o.length : Int) ∧ n < 0 ∧ ntP k o n = ([], 2)) ∨
    (isK k = true ∧ ¬ (4096 : Int) < (o.length : Int) ∧ ¬ n < 0 ∧ (2147483647 : Int) < n ∧ ntP k o n = ([], 2)) ∨ (isK k = true ∧ ¬ (4096 : Int) < (o.length : Int) ∧ ¬ n < 0 ∧ ¬ (2147483647 : Int) < n ∧ ntP k o n = (ntL k o n, 0)) := by
  unfold ntP
  cases isK k
  · exact .inl ⟨rfl, by simp⟩
  · refine .inr ?_
    by_cases h1 : 4096 < o.length
    · exact .inl ⟨rfl, by omega, by simp [h1]⟩
    · refine .inr ?_
      by_cases h2 : n < 0
      · exact .inl ⟨rfl, by omega, h2, by simp [h1, h2]⟩
      · refine .inr ?_
        by_cases h3 : 2147483647 < n
        · exact .inl ⟨rfl, by omega, h2, h3, by simp [h1, h2, h3]⟩
        · exact .inr ⟨rfl, by omega, h2, h3, by simp [h1, h2, h3]⟩
/-- A notice's parts as a literal lays them, put. -/
theorem cput_nt (k : Int) (o : List UInt8) (n : Int) (ho : o.length ≤ 4096) (w : World) (g : Nat) (hg : g = w.heap.size) :
    Calls Tryd.prog 19 #[.slice (some ⟨g, 0, none⟩) 3 3] (w.alloc (.cells #[.int .i64 10, .string ⟨(npL k).toArray⟩, .int .i64 4, .string ⟨o.toArray⟩, .int .i64 2, .string ⟨(npL n).toArray⟩] 54)) (SeqPost (putL 10 (npL k) ++ (putL 4 o ++ putL 2 (npL n))) w) :=
  cput_new [(10, npL k), (4, o), (2, npL n)] (nt_good1 k o n ho) (by simp) (by simp) _ rfl 3 rfl _ (by simp) w g hg
/-- The old name taken out of them. -/
theorem rpl_nt (a b c : List UInt8) (w : World) (g : Nat) (hg : g = w.heap.size) :
    Calls Tryd.prog 26 #[.slice (some ⟨g, 0, none⟩) 3 3, .int .i64 1, .int .i64 2, .slice none 0 0] (w.alloc (.cells #[.int .i64 10, .string ⟨a.toArray⟩, .int .i64 4, .string ⟨b.toArray⟩, .int .i64 2, .string ⟨c.toArray⟩] 54)) fun en w' => ∃ v, en = .returned v ∧ RowAt w' v [(10, a), (2, c)] ∧ Below w.heap.size w w' := by
  subst hg
  have hbx := heap_alloc_new w (.cells #[.int .i64 10, .string ⟨a.toArray⟩, .int .i64 4, .string ⟨b.toArray⟩, .int .i64 2, .string ⟨c.toArray⟩] 54)
  refine (rpl_tlv w.heap.size (10, a) (4, b) (2, c) _ (.inr ⟨by simp, w.heap.size, 3, rfl, by simp, fun i hi => ?_⟩)).mono ?_
  · have h3 : i < 3 := hi
    rcases (show i = 0 ∨ i = 1 ∨ i = 2 by omega) with rfl | rfl | rfl
    · exact ⟨obj_cell hbx 0 _ rfl, obj_cell hbx 1 _ rfl⟩
    · exact ⟨obj_cell hbx 2 _ rfl, obj_cell hbx 3 _ rfl⟩
    · exact ⟨obj_cell hbx 4 _ rfl, obj_cell hbx 5 _ rfl⟩
  · rintro en w' ⟨v, rfl, hr, hb⟩
    exact ⟨v, rfl, hr, ((Below.refl _ w).alloc (Nat.le_refl _) _).trans (hb.mono (by simp))⟩

set_option maxHeartbeats 3200000 in
set_option maxRecDepth 100000 in
theorem cnt_any (k : Int) (o : List UInt8) (n : Int) (w : World) (hm : o.length ≤ maxLen) : Calls Tryd.prog 9 #[.agg #[.int .i64 k, .string ⟨o.toArray⟩, .int .i64 n]] w (SePost (ntP k o n) w) := by
  obtain ⟨W, hW⟩ : ∃ W, w.alloc (.cells #[.int .i64 k, .string ⟨o.toArray⟩, .int .i64 n] 25) = W := ⟨_, rfl⟩
  have hb0 : Below w.heap.size w W := by rw [← hW]; exact (Below.refl _ w).alloc (Nat.le_refl _) _
  have hg : W.heap[w.heap.size]? = some (.cells #[.int .i64 k, .string ⟨o.toArray⟩, .int .i64 n] 25 (0, 0)) := by rw [← hW]; exact heap_alloc_new w _
  have p0 := obj_cell hg 0 _ rfl
  have p1 := obj_cell hg 1 _ rfl
  have p2 := obj_cell hg 2 _ rfl
  have hz : w.heap.size < W.heap.size := obj_lt hg
  have HB0 := Lib.hid hb0
  clear hb0 hg
  unfold maxLen at hm
  have HK := Lib.hid fun w' => cisk_any k w'
  rcases nt_ways k o n with ⟨q1, hv⟩ | ⟨q1, q2, hv⟩ | ⟨q1, q2, q3, hv⟩ | ⟨q1, q2, q3, q4, hv⟩ | ⟨q1, q2, q3, q4, hv⟩
  iterate 4
    · rw [hv]
      rw [q1] at HK
      clear hv q1
      go_enter Tryd.func9, Tryd.ntmps9
      go_wp2_with fail
      refine (HK.out _).mono ?_
      rintro en w1 ⟨rfl, hw1⟩
      obtain rfl := hw1.symm
      go_wp2
      go_ret2
      exact ⟨rfl, HB0.out⟩
  rw [hv]
  rw [q1] at HK
  have ho : o.length ≤ 4096 := by omega
  have HN1 := Lib.hid fun w' => cnum_any 10 k w'
  have HN2 := Lib.hid fun w' => cnum_any 2 n w'
  have hg1 : ∀ x ∈ ([(10, npL k), (2, npL n)] : List TB), goodTB x ∧ x.2.length ≤ 4096 := fun x hx => nt_good1 k o n ho x (by simp only [List.mem_cons, List.not_mem_nil, or_false] at hx ⊢; rcases hx with h | h; exact .inl h; exact .inr (.inr h))
  have HP1 := Lib.hid fun w' v h => cput_any [(10, npL k), (2, npL n)] v w' hg1 (by simp) (by simp) h
  have HP2 := Lib.hid fun w' => cput_nt k o n ho w' _ rfl
  clear hg1
  unfold ntL
  obtain ⟨A, hA⟩ : ∃ q, npL k = q := ⟨_, rfl⟩
  obtain ⟨C, hC⟩ : ∃ q, npL n = q := ⟨_, rfl⟩
  rw [hA] at HN1 HP1 HP2 ⊢
  rw [hC] at HN2 HP1 HP2 ⊢
  have HR := Lib.hid fun w' => rpl_nt A o C w' _ rfl
  clear hv q1 hA hC ho
  by_cases he : o = []
  · have hem := emp_eq he
    rw [if_pos he, List.nil_append]
    have e1 : ([(10, A), (2, C)] : List TB).flatMap (fun x => putL x.1 x.2) = putL 10 A ++ putL 2 C := by simp
    rw [e1] at HP1
    obtain ⟨X, hX⟩ : ∃ q, putL 10 A ++ putL 2 C = q := ⟨_, rfl⟩
    rw [hX] at HP1 ⊢
    clear e1 hX he HP2
    go_enter Tryd.func9, Tryd.ntmps9
    go_wp2_with fail
    refine (HK.out _).mono ?_
    rintro en w1 ⟨rfl, hw1⟩
    obtain rfl := hw1.symm
    go_wp2_with fail
    go_region_held3 (fun w' => w'.cell? ⟨w.heap.size, 0, none⟩ = some (.int .i64 k) ∧ w'.cell? ⟨w.heap.size, 1, none⟩ = some (.string ⟨o.toArray⟩) ∧ w'.cell? ⟨w.heap.size, 2, none⟩ = some (.int .i64 n)) (first | exact ⟨hp0, hp1, hp2⟩ | exact ⟨p0, p1, p2⟩ | exact ⟨ip0 _, ip1 _, ip2 _⟩ | go_keep)
      (first | (go_at_call 20; (with_reducible refine (HN1.out _).mono ?_); rintro en wz ⟨rfl, hb5⟩; have hbW : Below W.heap.size W wz := (by first | exact hbW.trans (hb5.mono hbW.size) | exact (Below.refl _ W).drew.trans hb5); have hp0 := (hbW.cell (p := ⟨w.heap.size, 0, none⟩) hz).trans p0; have hp1 := (hbW.cell (p := ⟨w.heap.size, 1, none⟩) hz).trans p1; have hp2 := (hbW.cell (p := ⟨w.heap.size, 2, none⟩) hz).trans p2; have ip0 : ∀ ob, (wz.alloc ob).cell? ⟨w.heap.size, 0, none⟩ = some (.int .i64 k) := (fun ob => (((Below.refl wz.heap.size wz).alloc (Nat.le_refl _) ob).cell (p := ⟨w.heap.size, 0, none⟩) (Nat.lt_of_lt_of_le hz hbW.size)).trans hp0); have ip1 : ∀ ob, (wz.alloc ob).cell? ⟨w.heap.size, 1, none⟩ = some (.string ⟨o.toArray⟩) := (fun ob => (((Below.refl wz.heap.size wz).alloc (Nat.le_refl _) ob).cell (p := ⟨w.heap.size, 1, none⟩) (Nat.lt_of_lt_of_le hz hbW.size)).trans hp1); have ip2 : ∀ ob, (wz.alloc ob).cell? ⟨w.heap.size, 2, none⟩ = some (.int .i64 n) := (fun ob => (((Below.refl wz.heap.size wz).alloc (Nat.le_refl _) ob).cell (p := ⟨w.heap.size, 2, none⟩) (Nat.lt_of_lt_of_le hz hbW.size)).trans hp2); clear hb5) | (go_at_call 20; (with_reducible refine (HN2.out _).mono ?_); rintro en wz ⟨rfl, hb5⟩; have hbW : Below W.heap.size W wz := (by first | exact hbW.trans (hb5.mono hbW.size) | exact (Below.refl _ W).drew.trans hb5); have hp0 := (hbW.cell (p := ⟨w.heap.size, 0, none⟩) hz).trans p0; have hp1 := (hbW.cell (p := ⟨w.heap.size, 1, none⟩) hz).trans p1; have hp2 := (hbW.cell (p := ⟨w.heap.size, 2, none⟩) hz).trans p2; have ip0 : ∀ ob, (wz.alloc ob).cell? ⟨w.heap.size, 0, none⟩ = some (.int .i64 k) := (fun ob => (((Below.refl wz.heap.size wz).alloc (Nat.le_refl _) ob).cell (p := ⟨w.heap.size, 0, none⟩) (Nat.lt_of_lt_of_le hz hbW.size)).trans hp0); have ip1 : ∀ ob, (wz.alloc ob).cell? ⟨w.heap.size, 1, none⟩ = some (.string ⟨o.toArray⟩) := (fun ob => (((Below.refl wz.heap.size wz).alloc (Nat.le_refl _) ob).cell (p := ⟨w.heap.size, 1, none⟩) (Nat.lt_of_lt_of_le hz hbW.size)).trans hp1); have ip2 : ∀ ob, (wz.alloc ob).cell? ⟨w.heap.size, 2, none⟩ = some (.int .i64 n) := (fun ob => (((Below.refl wz.heap.size wz).alloc (Nat.le_refl _) ob).cell (p := ⟨w.heap.size, 2, none⟩) (Nat.lt_of_lt_of_le hz hbW.size)).trans hp2); clear hb5))
    go_wp2_with fail
    refine (HR.out _).mono ?_
    rintro en w6 ⟨v, rfl, hr, hb6⟩
    have HRo := Lib.hid hr
    have hbY := HB0.out.trans ((hbW.trans (hb6.mono hbW.size)).mono HB0.out.size)
    have HY := Lib.hid hbY
    clear hr hb6 hbY hbW
    go_wp2_with fail
    refine (HP1.out _ v HRo.out).mono ?_
    rintro en w7 ⟨rfl, hb7⟩
    have hbZ := HY.out.trans (hb7.mono HY.out.size)
    clear hb7
    go_wp2
    go_ret2
    exact ⟨rfl, hbZ⟩
  · have hem := emp_ne he
    rw [if_neg he]
    obtain ⟨X, hX⟩ : ∃ q, putL 10 A ++ (putL 4 o ++ putL 2 C) = q := ⟨_, rfl⟩
    rw [hX] at HP2 ⊢
    clear hX he HP1 HR
    go_enter Tryd.func9, Tryd.ntmps9
    go_wp2_with fail
    refine (HK.out _).mono ?_
    rintro en w1 ⟨rfl, hw1⟩
    obtain rfl := hw1.symm
    go_wp2_with fail
    go_region_held3 (fun w' => w'.cell? ⟨w.heap.size, 0, none⟩ = some (.int .i64 k) ∧ w'.cell? ⟨w.heap.size, 1, none⟩ = some (.string ⟨o.toArray⟩) ∧ w'.cell? ⟨w.heap.size, 2, none⟩ = some (.int .i64 n)) (first | exact ⟨hp0, hp1, hp2⟩ | exact ⟨p0, p1, p2⟩ | exact ⟨ip0 _, ip1 _, ip2 _⟩ | go_keep)
      (first | (go_at_call 20; (with_reducible refine (HN1.out _).mono ?_); rintro en wz ⟨rfl, hb5⟩; have hbW : Below W.heap.size W wz := (by first | exact hbW.trans (hb5.mono hbW.size) | exact (Below.refl _ W).drew.trans hb5); have hp0 := (hbW.cell (p := ⟨w.heap.size, 0, none⟩) hz).trans p0; have hp1 := (hbW.cell (p := ⟨w.heap.size, 1, none⟩) hz).trans p1; have hp2 := (hbW.cell (p := ⟨w.heap.size, 2, none⟩) hz).trans p2; have ip0 : ∀ ob, (wz.alloc ob).cell? ⟨w.heap.size, 0, none⟩ = some (.int .i64 k) := (fun ob => (((Below.refl wz.heap.size wz).alloc (Nat.le_refl _) ob).cell (p := ⟨w.heap.size, 0, none⟩) (Nat.lt_of_lt_of_le hz hbW.size)).trans hp0); have ip1 : ∀ ob, (wz.alloc ob).cell? ⟨w.heap.size, 1, none⟩ = some (.string ⟨o.toArray⟩) := (fun ob => (((Below.refl wz.heap.size wz).alloc (Nat.le_refl _) ob).cell (p := ⟨w.heap.size, 1, none⟩) (Nat.lt_of_lt_of_le hz hbW.size)).trans hp1); have ip2 : ∀ ob, (wz.alloc ob).cell? ⟨w.heap.size, 2, none⟩ = some (.int .i64 n) := (fun ob => (((Below.refl wz.heap.size wz).alloc (Nat.le_refl _) ob).cell (p := ⟨w.heap.size, 2, none⟩) (Nat.lt_of_lt_of_le hz hbW.size)).trans hp2); clear hb5) | (go_at_call 20; (with_reducible refine (HN2.out _).mono ?_); rintro en wz ⟨rfl, hb5⟩; have hbW : Below W.heap.size W wz := (by first | exact hbW.trans (hb5.mono hbW.size) | exact (Below.refl _ W).drew.trans hb5); have hp0 := (hbW.cell (p := ⟨w.heap.size, 0, none⟩) hz).trans p0; have hp1 := (hbW.cell (p := ⟨w.heap.size, 1, none⟩) hz).trans p1; have hp2 := (hbW.cell (p := ⟨w.heap.size, 2, none⟩) hz).trans p2; have ip0 : ∀ ob, (wz.alloc ob).cell? ⟨w.heap.size, 0, none⟩ = some (.int .i64 k) := (fun ob => (((Below.refl wz.heap.size wz).alloc (Nat.le_refl _) ob).cell (p := ⟨w.heap.size, 0, none⟩) (Nat.lt_of_lt_of_le hz hbW.size)).trans hp0); have ip1 : ∀ ob, (wz.alloc ob).cell? ⟨w.heap.size, 1, none⟩ = some (.string ⟨o.toArray⟩) := (fun ob => (((Below.refl wz.heap.size wz).alloc (Nat.le_refl _) ob).cell (p := ⟨w.heap.size, 1, none⟩) (Nat.lt_of_lt_of_le hz hbW.size)).trans hp1); have ip2 : ∀ ob, (wz.alloc ob).cell? ⟨w.heap.size, 2, none⟩ = some (.int .i64 n) := (fun ob => (((Below.refl wz.heap.size wz).alloc (Nat.le_refl _) ob).cell (p := ⟨w.heap.size, 2, none⟩) (Nat.lt_of_lt_of_le hz hbW.size)).trans hp2); clear hb5))
    go_wp2_with fail
    refine (HP2.out _).mono ?_
    rintro en w7 ⟨rfl, hb7⟩
    have hbZ := HB0.out.trans ((hbW.trans (hb7.mono hbW.size)).mono HB0.out.size)
    clear hb7
    go_wp2
    go_ret2
    exact ⟨rfl, hbZ⟩
end Go.Proofs.YtlnfbjgadcifkaaDoor
