/- Plain facts on controls as bytes: what is put, what is read, and that each comes back. -/
import Derived.Test.YtlnfbjgadcifkaaDoorTreeF
import Derived.Test.YtlnfbjgadcifkaaDoorNumP
import Derived.Test.YtlnfbjgadcifkaaDoorNumE
namespace Go.Proofs.YtlnfbjgadcifkaaDoor
open Go.RowKit Go.Proofs.BerM Go.Proofs.BerK Go.Proofs.MemK Go.Proofs.NumM

/-- A truth's byte. -/
def bB (b : Bool) : List UInt8 := if b then [255] else [0]
theorem boolB_is (b : Bool) : boolB b = ⟨(bB b).toArray⟩ := by cases b <;> rfl
theorem rb_bB (b : Bool) : rb (bB b) = (b, 0) := by cases b <;> decide

/-- Parts that stand one behind the other are read as these parts. -/
theorem pa_seq (L : List TB) (ts : List Nat) (h : ∀ x ∈ L, goodTB x) (h2 : L.length ≤ 1024) (hs : (L.flatMap fun x => putL x.1 x.2).length ≤ 65536) :
    pa (putL 48 (L.flatMap fun x => putL x.1 x.2)) ts = if L.length ≠ ts.length then ([], 5) else if L.map Prod.fst = ts then (L.map Prod.snd, 0) else ([], 6) := by
  have hr := rd_put' (48, L.flatMap fun x => putL x.1 x.2) ⟨(by show tagB (48 : Int) = true; decide), hs⟩
  have ha := al_cat L h h2
  unfold pa
  simp only at hr
  rw [show ((48 : Nat) : Int) = 48 from rfl] at hr
  rw [hr]
  simp only [ne_eq, not_true_eq_false, if_false, Nat.lt_irrefl, ha]

theorem rd_seq (L : List TB) (hs : (L.flatMap fun x => putL x.1 x.2).length ≤ 65536) :
    rd (putL 48 (L.flatMap fun x => putL x.1 x.2)) = (48, L.flatMap fun x => putL x.1 x.2, (putL 48 (L.flatMap fun x => putL x.1 x.2)).length, 0) := by
  have hr := rd_put' (48, L.flatMap fun x => putL x.1 x.2) ⟨(by show tagB (48 : Int) = true; decide), hs⟩
  exact hr

theorem npL_le (n : Int) : (npL n).length ≤ 4 := by
  unfold npL
  split
  · rw [nbL_len]; exact (szN_bd n).2
  · simp
theorem bB_len (b : Bool) : (bB b).length = 1 := by cases b <;> rfl
theorem beF_le (n : Nat) (h : n ≤ 65536) : (beF n).length ≤ 3 := beF_len_le 3 n (by omega)
theorem lenB_le (n : Nat) (h : n ≤ 65536) : (lenB n).length ≤ 4 := by
  unfold lenB
  split
  · simp
  · have := beF_le n h
    simp; omega
theorem putL_le (t : Int) (l : List UInt8) : (putL t l).length ≤ l.length + 5 := by
  unfold putL
  split
  · rename_i h
    have := lenB_le l.length h.2
    simp; omega
  · simp

/-- A search that goes on, as bytes. -/
def peL (t : Int) (c r : Bool) : List UInt8 := putL 48 (putL 2 (npL t) ++ (putL 1 (bB c) ++ putL 1 (bB r)))
/-- The same, or the error. -/
def peP (t : Int) (c r : Bool) : List UInt8 × Nat := if 1 ≤ t ∧ t ≤ 15 then (peL t c r, 0) else ([], 2)
/-- What is read of bytes: whether they are a search that goes on, and which. -/
def peR (s : List UInt8) : (Int × Bool × Bool) × Nat :=
  if (pa s [2, 1, 1]).2 ≠ 0 then ((0, false, false), 5) else
  if peP (nr ((pa s [2, 1, 1]).1.getD 0 [])).1 (rb ((pa s [2, 1, 1]).1.getD 1 [])).1 (rb ((pa s [2, 1, 1]).1.getD 2 [])).1 = (s, 0) then
    (((nr ((pa s [2, 1, 1]).1.getD 0 [])).1, (rb ((pa s [2, 1, 1]).1.getD 1 [])).1, (rb ((pa s [2, 1, 1]).1.getD 2 [])).1), 0)
  else ((0, false, false), 5)

theorem pe_parts (t : Int) (c r : Bool) : putL 2 (npL t) ++ (putL 1 (bB c) ++ putL 1 (bB r)) = ([(2, npL t), (1, bB c), (1, bB r)] : List TB).flatMap fun x => putL x.1 x.2 := by
  simp
theorem pe_len (t : Int) (c r : Bool) : (putL 2 (npL t) ++ (putL 1 (bB c) ++ putL 1 (bB r))).length ≤ 65536 := by
  have h1 := putL_le 2 (npL t)
  have h2 := putL_le 1 (bB c)
  have h3 := putL_le 1 (bB r)
  have h4 := npL_le t
  rw [bB_len] at h2 h3
  simp only [List.length_append]
  omega
theorem pe_back (t : Int) (c r : Bool) (s : List UInt8) (h : peP t c r = (s, 0)) : peR s = ((t, c, r), 0) := by
  have h0 := h
  unfold peP at h0
  split at h0
  · rename_i ht
    simp only [Prod.mk.injEq, and_true] at h0
    have hp : pa s [2, 1, 1] = ([npL t, bB c, bB r], 0) := by
      rw [← h0, peL, pe_parts, pa_seq]
      · rw [if_neg (by simp), if_pos (by simp)]; rfl
      · intro x hx
        have h4 := npL_le t
        simp only [List.mem_cons, List.not_mem_nil, or_false] at hx
        rcases hx with rfl | rfl | rfl
        · exact ⟨(by show tagB (2 : Int) = true; decide), by show (npL t).length ≤ _; omega⟩
        · exact ⟨(by show tagB (1 : Int) = true; decide), by show (bB c).length ≤ _; rw [bB_len]; omega⟩
        · exact ⟨(by show tagB (1 : Int) = true; decide), by show (bB r).length ≤ _; rw [bB_len]; omega⟩
      · simp
      · rw [← pe_parts]; exact pe_len t c r
    unfold peR
    rw [hp]
    simp only [List.getD_cons_zero, List.getD_cons_succ, rb_bB, nr_put t (by omega) (by omega), ne_eq, not_true_eq_false, if_false, h, if_true]
  · simp at h0
theorem pe_or (s : List UInt8) : peR s = ((0, false, false), 5) ∨ ∃ t c r, peR s = ((t, c, r), 0) ∧ peP t c r = (s, 0) := by
  unfold peR
  split
  · exact .inl rfl
  · split
    · rename_i h; exact .inr ⟨_, _, _, rfl, h⟩
    · exact .inl rfl
theorem pe_none (s : List UInt8) (h : ∀ t c r, peP t c r ≠ (s, 0)) : peR s = ((0, false, false), 5) := by
  rcases pe_or s with h1 | ⟨t, c, r, _, h2⟩
  · exact h1
  · exact absurd h2 (h t c r)

/-- Whether a number is a change's kind. -/
def isK (k : Int) : Bool := decide (k = 1) || decide (k = 2) || decide (k = 4) || decide (k = 8)
theorem isK_iff (k : Int) : isK k = true ↔ k = 1 ∨ k = 2 ∨ k = 4 ∨ k = 8 := by simp [isK, or_assoc]
/-- A notice of a change, as bytes. -/
def ntL (k : Int) (o : List UInt8) (n : Int) : List UInt8 := putL 48 (putL 10 (npL k) ++ ((if o = [] then [] else putL 4 o) ++ putL 2 (npL n)))
def ntP (k : Int) (o : List UInt8) (n : Int) : List UInt8 × Nat :=
  if isK k = false then ([], 1) else if 4096 < o.length then ([], 3) else if n < 0 ∨ 2147483647 < n then ([], 2) else (ntL k o n, 0)
/-- The bodies of a notice's parts. -/
def ntB (s : List UInt8) : Option (List UInt8 × List UInt8 × List UInt8) :=
  if (pa s [10, 4, 2]).2 = 0 then some ((pa s [10, 4, 2]).1.getD 0 [], (pa s [10, 4, 2]).1.getD 1 [], (pa s [10, 4, 2]).1.getD 2 []) else
  if (pa s [10, 2]).2 = 0 then some ((pa s [10, 2]).1.getD 0 [], [], (pa s [10, 2]).1.getD 1 []) else none
def ntR (s : List UInt8) : (Int × List UInt8 × Int) × Nat :=
  match ntB s with
  | none => ((0, [], 0), 5)
  | some (a, o, b) => if ntP (nr a).1 o (nr b).1 = (s, 0) then (((nr a).1, o, (nr b).1), 0) else ((0, [], 0), 5)

/-- A notice's parts. -/
def ntTB (k : Int) (o : List UInt8) (n : Int) : List TB := if o = [] then [(10, npL k), (2, npL n)] else [(10, npL k), (4, o), (2, npL n)]
theorem nt_parts (k : Int) (o : List UInt8) (n : Int) : putL 10 (npL k) ++ ((if o = [] then [] else putL 4 o) ++ putL 2 (npL n)) = (ntTB k o n).flatMap fun x => putL x.1 x.2 := by
  unfold ntTB
  split <;> simp
theorem nt_len (k : Int) (o : List UInt8) (n : Int) (ho : o.length ≤ 4096) : (putL 10 (npL k) ++ ((if o = [] then [] else putL 4 o) ++ putL 2 (npL n))).length ≤ 5000 := by
  have h1 := putL_le 10 (npL k)
  have h2 := putL_le 4 o
  have h3 := putL_le 2 (npL n)
  have h4 := npL_le k
  have h5 := npL_le n
  simp only [List.length_append]
  split
  · simp; omega
  · omega
theorem nt_good (k : Int) (o : List UInt8) (n : Int) (ho : o.length ≤ 4096) : ∀ x ∈ ntTB k o n, goodTB x := by
  have h4 := npL_le k
  have h5 := npL_le n
  intro x hx
  unfold ntTB at hx
  split at hx
  · simp only [List.mem_cons, List.not_mem_nil, or_false] at hx
    rcases hx with rfl | rfl
    · exact ⟨(by show tagB (10 : Int) = true; decide), by show (npL k).length ≤ _; omega⟩
    · exact ⟨(by show tagB (2 : Int) = true; decide), by show (npL n).length ≤ _; omega⟩
  · simp only [List.mem_cons, List.not_mem_nil, or_false] at hx
    rcases hx with rfl | rfl | rfl
    · exact ⟨(by show tagB (10 : Int) = true; decide), by show (npL k).length ≤ _; omega⟩
    · exact ⟨(by show tagB (4 : Int) = true; decide), by show o.length ≤ _; omega⟩
    · exact ⟨(by show tagB (2 : Int) = true; decide), by show (npL n).length ≤ _; omega⟩
theorem nt_tlen (k : Int) (o : List UInt8) (n : Int) : (ntTB k o n).length ≤ 3 := by unfold ntTB; split <;> simp
/-- A notice that may be put. -/
theorem nt_ok {k : Int} {o : List UInt8} {n : Int} {s : List UInt8} (h : ntP k o n = (s, 0)) : isK k = true ∧ o.length ≤ 4096 ∧ 0 ≤ n ∧ n ≤ 2147483647 ∧ s = ntL k o n := by
  unfold ntP at h
  split at h
  · simp at h
  · split at h
    · simp at h
    · split at h
      · simp at h
      · rename_i h1 h2 h3
        simp only [Prod.mk.injEq, and_true] at h
        exact ⟨by simpa using h1, by omega, by omega, by omega, h.symm⟩
theorem nt_rd {k : Int} {o : List UInt8} {n : Int} {s : List UInt8} (h : ntP k o n = (s, 0)) :
    ∃ b, rd s = (48, b, s.length, 0) ∧ al b = (ntTB k o n, 0) := by
  obtain ⟨h1, h2, h3, h4, rfl⟩ := nt_ok h
  have hl := nt_len k o n h2
  rw [nt_parts] at hl
  refine ⟨_, ?_, al_cat _ (nt_good k o n h2) (by have := nt_tlen k o n; omega)⟩
  unfold ntL
  rw [nt_parts]
  exact rd_seq _ (by omega)
theorem nt_back (k : Int) (o : List UInt8) (n : Int) (s : List UInt8) (h : ntP k o n = (s, 0)) : ntR s = ((k, o, n), 0) := by
  obtain ⟨h1, h2, h3, h4, h5⟩ := nt_ok h
  have hk := (isK_iff k).1 h1
  have hl := nt_len k o n h2
  rw [nt_parts] at hl
  have hp : ∀ ts, pa s ts = if (ntTB k o n).length ≠ ts.length then ([], 5) else if (ntTB k o n).map Prod.fst = ts then ((ntTB k o n).map Prod.snd, 0) else ([], 6) := by
    intro ts
    rw [h5, ntL, nt_parts]
    exact pa_seq _ ts (nt_good k o n h2) (by have := nt_tlen k o n; omega) (by omega)
  have hb : ntB s = some (npL k, o, npL n) := by
    unfold ntB
    rw [hp, hp]
    unfold ntTB
    by_cases ho : o = []
    · subst ho; simp
    · simp [ho]
  unfold ntR
  rw [hb]
  simp only [nr_put k (by omega) (by omega), nr_put n (by omega) (by omega), h, if_true]
theorem nt_or (s : List UInt8) : ntR s = ((0, [], 0), 5) ∨ ∃ k o n, ntR s = ((k, o, n), 0) ∧ ntP k o n = (s, 0) := by
  unfold ntR
  split
  · exact .inl rfl
  · split
    · rename_i h; exact .inr ⟨_, _, _, rfl, h⟩
    · exact .inl rfl
theorem nt_none (s : List UInt8) (h : ∀ k o n, ntP k o n ≠ (s, 0)) : ntR s = ((0, [], 0), 5) := by
  rcases nt_or s with h1 | ⟨k, o, n, _, h2⟩
  · exact h1
  · exact absurd h2 (h k o n)
end Go.Proofs.YtlnfbjgadcifkaaDoor
