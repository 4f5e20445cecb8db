/- The code's Read and the document's Read tell what the plain function rd tells, for every text that is no longer than a text may be. -/
import Derived.Test.YtlnfbjgadcifkaaDoorBerI
namespace Go.Proofs.YtlnfbjgadcifkaaDoor
open Go.RowKit Go.Proofs.BerM Go.Proofs.BerK

/-- A tag, its bytes, how many bytes in all, the error. -/
def rd (l : List UInt8) : Nat × List UInt8 × Nat × Nat :=
  if (hd l).2.2.2 ≠ 0 then (0, [], 0, (hd l).2.2.2) else
  if l.length - (hd l).2.2.1 < (hd l).2.1 then (0, [], 0, 4) else
  ((hd l).1, (l.drop (hd l).2.2.1).take (hd l).2.1, (hd l).2.2.1 + (hd l).2.1, 0)

theorem rl_bd (l : List UInt8) (n m : Nat) (h : rl l = (n, m, 0)) (h0 : 0 < l.length) : n ≤ 65536 ∧ 1 ≤ m ∧ m ≤ 5 ∧ m ≤ l.length := by
  rw [rl] at h
  repeat' split at h
  all_goals (simp only [Prod.mk.injEq] at h; omega)

theorem hd_bd (l : List UInt8) (t n m : Nat) (h : hd l = (t, n, m, 0)) : n ≤ 65536 ∧ 2 ≤ m ∧ m ≤ 6 ∧ m ≤ l.length ∧ t = (l.getD 0 0).toNat ∧ tagB (t : Int) = true := by
  rw [hd] at h
  split at h
  · simp at h
  · split at h
    · simp at h
    · split at h
      · simp at h
      · split at h
        · rename_i h4; simp only [Prod.mk.injEq] at h; exact absurd h.2.2.2 h4
        · rename_i h1 h2 h3 h4
          simp only [Prod.mk.injEq] at h
          have := rl_bd (l.drop 1) _ _ (show rl (l.drop 1) = ((rl (l.drop 1)).1, (rl (l.drop 1)).2.1, 0) by
            apply Prod.ext; rfl; apply Prod.ext; rfl; simpa using h4) (by simp; omega)
          simp only [List.length_drop] at this
          refine ⟨by omega, by omega, by omega, by omega, h.1.symm, ?_⟩
          rw [← h.1]; simpa using h2

theorem ext_eq (s : ByteArray) (i j : Nat) : s.extract i j = ⟨((s.data.toList.drop i).take (j - i)).toArray⟩ := by
  apply ByteArray.ext
  rw [← Array.toList_inj, ext_data]

theorem ret_rd {t t' n n' e e' : Nat} {b b' : List UInt8} (h : (t, b, n, e) = (t', b', n', e')) : Ending.returned (.tuple #[.agg #[.int .i64 (t : Int), .string ⟨b.toArray⟩], .int .i64 (n : Int), .int .i64 (e : Int)]) = .returned (.tuple #[.agg #[.int .i64 (t' : Int), .string ⟨b'.toArray⟩], .int .i64 (n' : Int), .int .i64 (e' : Int)]) := by cases h; rfl

set_option maxHeartbeats 800000 in
set_option maxRecDepth 100000 in
theorem rd_err (s : ByteArray) (w : World) (hm : s.size ≤ maxLen) (h : (hd s.data.toList).2.2.2 ≠ 0) (t sz e : Nat) (b : List UInt8) (hr : rd s.data.toList = (t, b, sz, e)) :
    Calls Tryd.prog 46 #[.string s] w fun en w' => en = .returned (.tuple #[.agg #[.int .i64 t, .string ⟨b.toArray⟩], .int .i64 sz, .int .i64 e]) ∧ Below w.heap.size w w' := by
  obtain ⟨t1, n1, m1, e1, he⟩ : ∃ t1 n1 m1 e1, hd s.data.toList = (t1, n1, m1, e1) := ⟨_, _, _, _, rfl⟩
  have HC := Lib.hid fun w => hd_any s w hm t1 n1 m1 e1 he
  rw [he] at h
  rw [rd, he, if_pos h] at hr
  have HV := Lib.hid hr
  have h1 : ((e1 : Int) != 0) = true := by rw [bne_iff_ne]; simp at h; omega
  clear he h hr
  go_enter Tryd.func46, Tryd.ntmps46
  go_wp2_with fail
  refine (HC.out _).mono ?_
  rintro e w' ⟨rfl, rfl⟩
  go_wp2
  refine bodyPost_ret (v := .tuple #[.agg #[.int .i64 (0 : Nat), .string ⟨([] : List UInt8).toArray⟩], .int .i64 (0 : Nat), .int .i64 (e1 : Nat)]) (by simp [results, Tryd.results46, go_sem, *]) rfl ⟨ret_rd HV.out, ?_⟩
  exact ((Below.refl _ _).alloc (Nat.le_refl _) _)

set_option maxHeartbeats 800000 in
set_option maxRecDepth 100000 in
theorem rd_cut (s : ByteArray) (w : World) (hm : s.size ≤ maxLen) (t1 n1 m1 : Nat) (he : hd s.data.toList = (t1, n1, m1, 0)) (h : s.size - m1 < n1) (t sz e : Nat) (b : List UInt8) (hr : rd s.data.toList = (t, b, sz, e)) :
    Calls Tryd.prog 46 #[.string s] w fun en w' => en = .returned (.tuple #[.agg #[.int .i64 t, .string ⟨b.toArray⟩], .int .i64 sz, .int .i64 e]) ∧ Below w.heap.size w w' := by
  have HC := Lib.hid fun w => hd_any s w hm t1 n1 m1 0 he
  have hbd := hd_bd _ _ _ _ he
  rw [len_list] at hbd
  rw [rd, he, if_neg (by simp), if_pos (by rw [len_list]; exact h)] at hr
  have HV := Lib.hid hr
  obtain ⟨h1, h2, h3, h4, _, _⟩ := hbd
  unfold maxLen at hm
  clear he hr
  go_enter Tryd.func46, Tryd.ntmps46
  go_wp2_with fail
  refine (HC.out _).mono ?_
  rintro e w' ⟨rfl, rfl⟩
  go_wp2
  refine bodyPost_ret (v := .tuple #[.agg #[.int .i64 (0 : Nat), .string ⟨([] : List UInt8).toArray⟩], .int .i64 (0 : Nat), .int .i64 (4 : Nat)]) (by simp [results, Tryd.results46, go_sem, *]) rfl ⟨ret_rd HV.out, ?_⟩
  exact ((Below.refl _ _).alloc (Nat.le_refl _) _)

set_option maxHeartbeats 800000 in
set_option maxRecDepth 100000 in
theorem rd_ok (s : ByteArray) (w : World) (hm : s.size ≤ maxLen) (t1 n1 m1 : Nat) (he : hd s.data.toList = (t1, n1, m1, 0)) (h : ¬ s.size - m1 < n1) (t sz e : Nat) (b : List UInt8) (hr : rd s.data.toList = (t, b, sz, e)) :
    Calls Tryd.prog 46 #[.string s] w fun en w' => en = .returned (.tuple #[.agg #[.int .i64 t, .string ⟨b.toArray⟩], .int .i64 sz, .int .i64 e]) ∧ Below w.heap.size w w' := by
  have HC := Lib.hid fun w => hd_any s w hm t1 n1 m1 0 he
  have hbd := hd_bd _ _ _ _ he
  rw [len_list] at hbd
  rw [rd, he, if_neg (by simp), if_neg (by rw [len_list]; exact h)] at hr
  have HV := Lib.hid hr
  have HX := Lib.hid (ext_eq s m1 (m1 + n1))
  obtain ⟨h1, h2, h3, h4, _, _⟩ := hbd
  unfold maxLen at hm
  have hsl := fun w : World => run_slice_string (P := Tryd.prog) w 9 s .i64 .i64 (m1 : Int) ((m1 : Int) + (n1 : Int)) Tryd.underlying9 (by omega) (by omega) (by omega)
  clear he hr
  go_enter Tryd.func46, Tryd.ntmps46
  go_wp2_with fail
  refine (HC.out _).mono ?_
  rintro e w' ⟨rfl, rfl⟩
  go_wp2
  rw [HX.out, Nat.add_sub_cancel_left]
  refine bodyPost_ret (v := .tuple #[.agg #[.int .i64 (t1 : Nat), .string ⟨((s.data.toList.drop m1).take n1).toArray⟩], .int .i64 (m1 + n1 : Nat), .int .i64 (0 : Nat)]) (by simp [results, Tryd.results46, go_sem, *]) rfl ⟨ret_rd HV.out, ?_⟩
  exact ((Below.refl _ _).alloc (Nat.le_refl _) _)

theorem rd_any (s : ByteArray) (w : World) (hm : s.size ≤ maxLen) (t sz e : Nat) (b : List UInt8) (hr : rd s.data.toList = (t, b, sz, e)) :
    Calls Tryd.prog 46 #[.string s] w fun en w' => en = .returned (.tuple #[.agg #[.int .i64 t, .string ⟨b.toArray⟩], .int .i64 sz, .int .i64 e]) ∧ Below w.heap.size w w' := by
  by_cases h : (hd s.data.toList).2.2.2 ≠ 0
  · exact rd_err s w hm h t sz e b hr
  · obtain ⟨t1, n1, m1, e1, he⟩ : ∃ t1 n1 m1 e1, hd s.data.toList = (t1, n1, m1, e1) := ⟨_, _, _, _, rfl⟩
    rw [he] at h
    obtain rfl : e1 = 0 := by simpa using h
    by_cases h2 : s.size - m1 < n1
    · exact rd_cut s w hm t1 n1 m1 he h2 t sz e b hr
    · exact rd_ok s w hm t1 n1 m1 he h2 t sz e b hr

set_option maxHeartbeats 800000 in
set_option maxRecDepth 100000 in
theorem rrd_err (s : ByteArray) (w : World) (hm : s.size ≤ maxLen) (h : (hd s.data.toList).2.2.2 ≠ 0) (t sz e : Nat) (b : List UInt8) (hr : rd s.data.toList = (t, b, sz, e)) :
    Calls Tryd.prog 32 #[.string s] w fun en w' => en = .returned (.tuple #[.agg #[.int .i64 t, .string ⟨b.toArray⟩], .int .i64 sz, .int .i64 e]) ∧ Below w.heap.size w w' := by
  obtain ⟨t1, n1, m1, e1, he⟩ : ∃ t1 n1 m1 e1, hd s.data.toList = (t1, n1, m1, e1) := ⟨_, _, _, _, rfl⟩
  have HC := Lib.hid fun w => rhd_any s w hm t1 n1 m1 e1 he
  rw [he] at h
  rw [rd, he, if_pos h] at hr
  have HV := Lib.hid hr
  have h1 : ((e1 : Int) != 0) = true := by rw [bne_iff_ne]; simp at h; omega
  clear he h hr
  go_enter Tryd.func32, Tryd.ntmps32
  go_wp2_with fail
  refine (HC.out _).mono ?_
  rintro e w1 ⟨rfl, hb1⟩
  obtain ⟨hc, hf⟩ := bcell hb1
  have hz : w.heap.size + 1 ≤ w1.heap.size := by have := hb1.size; simpa using this
  go_wp2
  refine bodyPost_ret (v := .tuple #[.agg #[.int .i64 (0 : Nat), .string ⟨([] : List UInt8).toArray⟩], .int .i64 (0 : Nat), .int .i64 (e1 : Nat)]) (by simp [results, Tryd.results32, go_sem, *]) rfl ⟨ret_rd HV.out, ?_⟩
  exact (((((Below.refl _ _).alloc (Nat.le_refl _) _).trans (hb1.mono (by simp))).setCell (by simp) _).setCell (by simp) _)

set_option maxHeartbeats 800000 in
set_option maxRecDepth 100000 in
theorem rrd_cut (s : ByteArray) (w : World) (hm : s.size ≤ maxLen) (t1 n1 m1 : Nat) (he : hd s.data.toList = (t1, n1, m1, 0)) (h : s.size - m1 < n1) (t sz e : Nat) (b : List UInt8) (hr : rd s.data.toList = (t, b, sz, e)) :
    Calls Tryd.prog 32 #[.string s] w fun en w' => en = .returned (.tuple #[.agg #[.int .i64 t, .string ⟨b.toArray⟩], .int .i64 sz, .int .i64 e]) ∧ Below w.heap.size w w' := by
  have HC := Lib.hid fun w => rhd_any s w hm t1 n1 m1 0 he
  have hbd := hd_bd _ _ _ _ he
  rw [len_list] at hbd
  rw [rd, he, if_neg (by simp), if_pos (by rw [len_list]; exact h)] at hr
  have HV := Lib.hid hr
  obtain ⟨h1, h2, h3, h4, _, _⟩ := hbd
  unfold maxLen at hm
  clear he hr
  go_enter Tryd.func32, Tryd.ntmps32
  go_wp2_with fail
  refine (HC.out _).mono ?_
  rintro e w1 ⟨rfl, hb1⟩
  obtain ⟨hc, hf⟩ := bcell hb1
  have hz : w.heap.size + 1 ≤ w1.heap.size := by have := hb1.size; simpa using this
  go_wp2
  refine bodyPost_ret (v := .tuple #[.agg #[.int .i64 (0 : Nat), .string ⟨([] : List UInt8).toArray⟩], .int .i64 (0 : Nat), .int .i64 (4 : Nat)]) (by simp [results, Tryd.results32, go_sem, *]) rfl ⟨ret_rd HV.out, ?_⟩
  exact (((((Below.refl _ _).alloc (Nat.le_refl _) _).trans (hb1.mono (by simp))).setCell (by simp) _).setCell (by simp) _)

set_option maxHeartbeats 800000 in
set_option maxRecDepth 100000 in
theorem rrd_ok (s : ByteArray) (w : World) (hm : s.size ≤ maxLen) (t1 n1 m1 : Nat) (he : hd s.data.toList = (t1, n1, m1, 0)) (h : ¬ s.size - m1 < n1) (t sz e : Nat) (b : List UInt8) (hr : rd s.data.toList = (t, b, sz, e)) :
    Calls Tryd.prog 32 #[.string s] w fun en w' => en = .returned (.tuple #[.agg #[.int .i64 t, .string ⟨b.toArray⟩], .int .i64 sz, .int .i64 e]) ∧ Below w.heap.size w w' := by
  have HC := Lib.hid fun w => rhd_any s w hm t1 n1 m1 0 he
  have hbd := hd_bd _ _ _ _ he
  rw [len_list] at hbd
  rw [rd, he, if_neg (by simp), if_neg (by rw [len_list]; exact h)] at hr
  have HV := Lib.hid hr
  have HX := Lib.hid (ext_eq s m1 (m1 + n1))
  obtain ⟨h1, h2, h3, h4, _, _⟩ := hbd
  unfold maxLen at hm
  have hsl := fun w : World => run_slice_string (P := Tryd.prog) w 9 s .i64 .i64 (m1 : Int) ((m1 : Int) + (n1 : Int)) Tryd.underlying9 (by omega) (by omega) (by omega)
  clear he hr
  go_enter Tryd.func32, Tryd.ntmps32
  go_wp2_with fail
  refine (HC.out _).mono ?_
  rintro e w1 ⟨rfl, hb1⟩
  obtain ⟨hc, hf⟩ := bcell hb1
  have hz : w.heap.size + 1 ≤ w1.heap.size := by have := hb1.size; simpa using this
  go_wp2
  rw [HX.out, Nat.add_sub_cancel_left]
  refine bodyPost_ret (v := .tuple #[.agg #[.int .i64 (t1 : Nat), .string ⟨((s.data.toList.drop m1).take n1).toArray⟩], .int .i64 (m1 + n1 : Nat), .int .i64 (0 : Nat)]) (by simp [results, Tryd.results32, go_sem, *]) rfl ⟨ret_rd HV.out, ?_⟩
  exact (((((Below.refl _ _).alloc (Nat.le_refl _) _).trans (hb1.mono (by simp))).setCell (by simp) _).setCell (by simp) _)

theorem rrd_any (s : ByteArray) (w : World) (hm : s.size ≤ maxLen) (t sz e : Nat) (b : List UInt8) (hr : rd s.data.toList = (t, b, sz, e)) :
    Calls Tryd.prog 32 #[.string s] w fun en w' => en = .returned (.tuple #[.agg #[.int .i64 t, .string ⟨b.toArray⟩], .int .i64 sz, .int .i64 e]) ∧ Below w.heap.size w w' := by
  by_cases h : (hd s.data.toList).2.2.2 ≠ 0
  · exact rrd_err s w hm h t sz e b hr
  · obtain ⟨t1, n1, m1, e1, he⟩ : ∃ t1 n1 m1 e1, hd s.data.toList = (t1, n1, m1, e1) := ⟨_, _, _, _, rfl⟩
    rw [he] at h
    obtain rfl : e1 = 0 := by simpa using h
    by_cases h2 : s.size - m1 < n1
    · exact rrd_cut s w hm t1 n1 m1 he h2 t sz e b hr
    · exact rrd_ok s w hm t1 n1 m1 he h2 t sz e b hr

end Go.Proofs.YtlnfbjgadcifkaaDoor
