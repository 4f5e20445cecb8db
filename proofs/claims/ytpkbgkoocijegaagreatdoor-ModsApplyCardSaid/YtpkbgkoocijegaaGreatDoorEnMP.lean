/- Plain facts on attributes made clean: each type once, rising, each of its values once. Plain facts on the document's put: attributes made clean, one at a time. -/
import Derived.Test.YtpkbgkoocijegaaGreatDoorScPG
set_option linter.unusedVariables false
set_option linter.unusedSimpArgs false
set_option maxHeartbeats 25600000
set_option maxRecDepth 100000
namespace Go.Proofs.YtpkbgkoocijegaaGreatDoor
open Go Go.Sort
def onS1 (acc : List (List UInt8)) (x : List UInt8) : List (List UInt8) := if inL acc x = true then acc else acc ++ [x]
def onL (l : List (List UInt8)) : List (List UInt8) := l.foldl onS1 []
theorem inL_mem {l : List (List UInt8)} {x : List UInt8} : inL l x = true ↔ x ∈ l := by unfold inL; simp
theorem on_snoc (l : List (List UInt8)) (x : List UInt8) : onL (l ++ [x]) = onS1 (onL l) x := by simp [onL]
theorem on_app (a b : List (List UInt8)) : onL (a ++ b) = b.foldl onS1 (onL a) := by simp [onL]
theorem onS1_mem (acc : List (List UInt8)) (x y : List UInt8) : y ∈ onS1 acc x ↔ y ∈ acc \/ y = x := by
 unfold onS1
 split
 ·rename_i h
  rw [inL_mem] at h
  constructor
  ·exact .inl
  ·rintro (h2 | rfl)
   ·exact h2
   ·exact h
 ·simp
theorem onS1_nodup {acc : List (List UInt8)} (h : acc.Nodup) (x : List UInt8) : (onS1 acc x).Nodup := by
 unfold onS1
 split
 ·exact h
 ·rename_i hx
  rw [inL_mem] at hx
  rw [List.nodup_append]
  refine ⟨h, by simp, fun a ha b hb e => ?_⟩
  rw [List.mem_singleton] at hb
  subst hb e
  exact hx ha
theorem fold_facts (b acc : List (List UInt8)) (h : acc.Nodup) : (b.foldl onS1 acc).Nodup /\ ∀ y, y ∈ b.foldl onS1 acc ↔ y ∈ acc \/ y ∈ b := by
 induction b generalizing acc with
 | nil => exact ⟨h, fun y => by simp⟩
 | cons x b ih =>
  obtain ⟨h1, h2⟩ := ih (onS1 acc x) (onS1_nodup h x)
  refine ⟨h1, fun y => ?_⟩
  rw [List.foldl_cons, h2, onS1_mem, List.mem_cons, or_assoc]
theorem on_nodup (l : List (List UInt8)) : (onL l).Nodup := (fold_facts l [] List.nodup_nil).1
theorem on_mem {l : List (List UInt8)} {y : List UInt8} : y ∈ onL l ↔ y ∈ l := by
 have := (fold_facts l [] List.nodup_nil).2 y
 simpa [onL] using this
theorem on_self {l : List (List UInt8)} (h : l.Nodup) : onL l = l := by
 have gen : ∀ (b acc : List (List UInt8)), (acc ++ b).Nodup -> b.foldl onS1 acc = acc ++ b := by
  intro b
  induction b with
  | nil => intro acc _; simp
  | cons x b ih =>
   intro acc h
   have hx : x ∉ acc := by
    rw [List.nodup_append] at h
    exact fun hm => h.2.2 x hm x (by simp) rfl
   have e : onS1 acc x = acc ++ [x] := by
    unfold onS1
    rw [if_neg]
    rw [inL_mem]; exact hx
   rw [List.foldl_cons, e, ih (acc ++ [x]) (by simpa using h)]
   simp
 simpa [onL] using gen l [] (by simpa using h)
theorem on_on (l : List (List UInt8)) : onL (onL l) = onL l := on_self (on_nodup l)
theorem on_nil {l : List (List UInt8)} : onL l = [] ↔ l = [] := by
 constructor
 ·intro h
  cases l with
  | nil => rfl
  | cons x l =>
   have : x ∈ onL (x :: l) := on_mem.2 (by simp)
   rw [h] at this
   simp at this
 ·rintro rfl; rfl
def vaL (A : List Atr) (n : List UInt8) : List (List UInt8) := (A.filter fun a => lowL a.1 == n).flatMap (·.2)
def clNs (A : List Atr) : List (List UInt8) := risL (onL ((A.filter fun a => !a.2.isEmpty).map fun a => lowL a.1))
def clA (A : List Atr) : List Atr := (clNs A).map fun n => (n, onL (vaL A n))
def IsCl (A : List Atr) (L : List Atr) : Prop := L.Pairwise (fun p q => p.1 < q.1) /\ ∀ p, p ∈ L ↔ p.2 = onL (vaL A p.1) /\ p.2 ≠ []
theorem va_ne {A : List Atr} {n : List UInt8} : vaL A n ≠ [] ↔ ∃ a ∈ A, a.2 ≠ [] /\ lowL a.1 = n := by
 unfold vaL
 constructor
 ·intro h
  obtain ⟨x, hx⟩ := List.exists_mem_of_ne_nil _ h
  obtain ⟨a, ha, hxa⟩ := List.mem_flatMap.1 hx
  obtain ⟨ha1, ha2⟩ := List.mem_filter.1 ha
  exact ⟨a, ha1, fun e => by rw [e] at hxa; simp at hxa, by simpa using ha2⟩
 ·rintro ⟨a, ha, hne, hn⟩ e
  obtain ⟨x, hx⟩ := List.exists_mem_of_ne_nil _ hne
  have : x ∈ (A.filter fun a => lowL a.1 == n).flatMap (·.2) := List.mem_flatMap.2 ⟨a, List.mem_filter.2 ⟨ha, by simpa using hn⟩, hx⟩
  rw [e] at this; simp at this
theorem ris_mem {L : List (List UInt8)} {x : List UInt8} : x ∈ risL L ↔ x ∈ L := (List.mergeSort_perm L _).mem_iff
theorem ris_rising {L : List (List UInt8)} (h : L.Nodup) : (risL L).Pairwise (· < ·) := by
 have tr : ∀ a b c : List UInt8, leB a b = true -> leB b c = true -> leB a c = true := fun a b c h1 h2 => by simp only [leB, decide_eq_true_eq] at *; exact List.le_trans h1 h2
 have tot : ∀ a b : List UInt8, (leB a b || leB b a) = true := fun a b => by simp only [leB, Bool.or_eq_true, decide_eq_true_eq]; exact List.le_total a b
 have h1 : (risL L).Pairwise (fun a b => leB a b = true) := List.pairwise_mergeSort tr tot L
 have h2 : (risL L).Nodup := ((List.mergeSort_perm L _).nodup_iff).2 h
 refine (h1.and h2).imp fun {a b} hab => ?_
 obtain ⟨h3, h4⟩ := hab
 simp only [leB, decide_eq_true_eq] at h3
 rcases Decidable.em (a < b) with h5 | h5
 ·exact h5
 ·exact absurd (List.le_antisymm h3 (List.not_lt.1 h5)) h4
theorem cln_mem {A : List Atr} {n : List UInt8} : n ∈ clNs A ↔ vaL A n ≠ [] := by
 unfold clNs
 rw [ris_mem, on_mem, va_ne]
 simp only [List.mem_map, List.mem_filter]
 constructor
 ·rintro ⟨a, ⟨ha, hne⟩, rfl⟩
  exact ⟨a, ha, by simpa using hne, rfl⟩
 ·rintro ⟨a, ha, hne, rfl⟩
  exact ⟨a, ⟨ha, by simpa using hne⟩, rfl⟩
theorem cl_is (A : List Atr) : IsCl A (clA A) := by
 refine ⟨?_, fun p => ?_⟩
 ·unfold clA
  rw [List.pairwise_map]
  exact ris_rising (on_nodup _)
 ·unfold clA
  rw [List.mem_map]
  constructor
  ·rintro ⟨n, hn, rfl⟩
   exact ⟨rfl, fun e => cln_mem.1 hn (on_nil.1 e)⟩
  ·rintro ⟨h1, h2⟩
   refine ⟨p.1, cln_mem.2 (fun e => h2 (by rw [h1, e]; rfl)), ?_⟩
   rw [<- h1]
theorem cl_uniq {A : List Atr} {L L' : List Atr} (h : IsCl A L) (h' : IsCl A L') : L = L' := by
 have nd : ∀ {L : List Atr}, IsCl A L -> L.Nodup := fun h => h.1.imp fun hlt e => by subst e; exact absurd hlt (List.lt_irrefl _)
 refine List.Perm.eq_of_pairwise (le := fun p q => p.1 < q.1) (fun a b _ _ h1 h2 => absurd (List.lt_trans h1 h2) (List.lt_irrefl _)) h.1 h'.1 ?_
 exact (List.perm_ext_iff_of_nodup (nd h) (nd h')).2 fun p => (h.2 p).trans (h'.2 p).symm
theorem cl_of {A L : List Atr} (h : IsCl A L) : L = clA A := cl_uniq h (cl_is A)
theorem cl_low {A : List Atr} {p : Atr} (h : p ∈ clA A) : lowL p.1 = p.1 := by
 obtain ⟨h1, h2⟩ := (cl_is A).2 p |>.1 h
 have : vaL A p.1 ≠ [] := fun e => h2 (by rw [h1, e]; rfl)
 obtain ⟨a, _, _, e⟩ := va_ne.1 this
 rw [<- e, lowL_lowL]
theorem va_cl (A : List Atr) (n : List UInt8) : vaL (clA A) n = onL (vaL A n) := by
 by_cases hn : vaL A n = []
 ·rw [hn]
  have : vaL (clA A) n = [] := by
   by_cases e : vaL (clA A) n = []
   ·exact e
   ·obtain ⟨p, hp, hne, hl⟩ := va_ne.1 e
    rw [cl_low hp] at hl
    have := ((cl_is A).2 p |>.1 hp).1
    rw [hl, hn] at this
    exact absurd this hne
  rw [this]; rfl
 ·have hm : (n, onL (vaL A n)) ∈ clA A := (cl_is A).2 _ |>.2 ⟨rfl, fun e => hn (on_nil.1 e)⟩
  unfold vaL at *
  have hf : (clA A).filter (fun a => lowL a.1 == n) = [(n, onL ((A.filter fun a => lowL a.1 == n).flatMap (·.2)))] := by
   have hsub : ∀ p ∈ (clA A).filter (fun a => lowL a.1 == n), p = (n, onL ((A.filter fun a => lowL a.1 == n).flatMap (·.2))) := fun p hp => by
    obtain ⟨h1, h2⟩ := List.mem_filter.1 hp
    have h3 : p.1 = n := by rw [<- cl_low h1]; simpa using h2
    have h4 := ((cl_is A).2 p |>.1 h1).1
    rw [h3] at h4
    unfold vaL at h4
    exact Prod.ext h3 h4
   have hmem : (n, onL ((A.filter fun a => lowL a.1 == n).flatMap (·.2))) ∈ (clA A).filter (fun a => lowL a.1 == n) := List.mem_filter.2 ⟨hm, by
    have := cl_low hm
    simpa using this⟩
   have hnd : ((clA A).filter (fun a => lowL a.1 == n)).Nodup := by
    have : (clA A).Nodup := (cl_is A).1.imp fun hlt e => by subst e; exact absurd hlt (List.lt_irrefl _)
    exact this.filter _
   generalize (clA A).filter (fun a => lowL a.1 == n) = F at *
   match F with
   | [] => simp at hmem
   | [q] => rw [hsub q (by simp)]
   | q :: r :: F =>
    have h1 := hsub q (by simp)
    have h2 := hsub r (by simp)
    rw [List.nodup_cons] at hnd
    exact absurd (by rw [h1, h2]; simp) hnd.1
  rw [hf]
  simp
def geL (A : List Atr) (s : List UInt8) : List (List UInt8) := onL (vaL A (lowL s))
theorem va_app (A B : List Atr) (n : List UInt8) : vaL (A ++ B) n = vaL A n ++ vaL B n := by unfold vaL; rw [List.filter_append, List.flatMap_append]
def woL (A : List Atr) (s : List UInt8) : List Atr := (clA A).filter fun a => !(a.1 == lowL s)
theorem ge_without (A : List Atr) (s : List UInt8) : geL (woL A s) s = [] := by
 unfold geL
 rw [on_nil]
 by_cases e : vaL (woL A s) (lowL s) = []
 ·exact e
 ·obtain ⟨p, hp, _, hl⟩ := va_ne.1 e
  obtain ⟨h1, h2⟩ := List.mem_filter.1 hp
  rw [cl_low h1] at hl
  simp [hl] at h2
def putK (L : List Atr) (t : List UInt8) : Nat := (L.takeWhile fun p => ltB p.1 t).length
def putV (L : List Atr) (t : List UInt8) : List (List UInt8) := if h : putK L t < L.length then (if L[putK L t].1 = t then L[putK L t].2 else []) else []
def putR (L : List Atr) (t : List UInt8) : List Atr := if h : putK L t < L.length then (if L[putK L t].1 = t then L.drop (putK L t + 1) else L.drop (putK L t)) else []
def putL (L : List Atr) (t : List UInt8) (vs : List (List UInt8)) : List Atr :=
 L.take (putK L t) ++ ((if vs.foldl onS1 (putV L t) = [] then [] else [(t, vs.foldl onS1 (putV L t))]) ++ putR L t)
theorem putK_le (L : List Atr) (t : List UInt8) : putK L t <= L.length := tw_le _ _
theorem ltB_iff {a b : List UInt8} : ltB a b = true ↔ a < b := by unfold ltB; simp
theorem putK_lt {L : List Atr} {t : List UInt8} (j : Nat) (h : j < putK L t) (hj : j < L.length) : L[j].1 < t := ltB_iff.1 (tw_lt (fun p : Atr => ltB p.1 t) L j h hj)
theorem putK_at {L : List Atr} {t : List UInt8} (h : putK L t < L.length) : ¬ L[putK L t].1 < t := by
 intro hlt
 have h1 := tw_at (fun p : Atr => ltB p.1 t) L h
 have h2 := ltB_iff.2 hlt
 simp only [putK] at h2
 exact Bool.false_ne_true (h1.symm.trans h2)
def Rising (L : List Atr) : Prop := L.Pairwise (fun p q => p.1 < q.1)
theorem rising_lt {L : List Atr} (h : Rising L) (i j : Nat) (hi : i < L.length) (hj : j < L.length) (hij : i < j) : L[i].1 < L[j].1 := List.pairwise_iff_getElem.1 h i j hi hj hij
theorem list_tri (a b : List UInt8) (h : ¬ a < b) (hne : a ≠ b) : b < a := by
 rcases Decidable.em (b < a) with h2 | h2
 ·exact h2
 ·exact absurd (List.le_antisymm (List.not_lt.1 h2) (List.not_lt.1 h)) hne
theorem put_mem {L : List Atr} (hr : Rising L) (t : List UInt8) (vs : List (List UInt8)) (p : Atr) :
  p ∈ putL L t vs ↔ (p ∈ L /\ p.1 ≠ t) \/ (p = (t, vs.foldl onS1 (putV L t)) /\ p.2 ≠ []) := by
 have hmid : p ∈ (if vs.foldl onS1 (putV L t) = [] then [] else [(t, vs.foldl onS1 (putV L t))]) ↔ (p = (t, vs.foldl onS1 (putV L t)) /\ p.2 ≠ []) := by
  split
  ·rename_i h
   simp only [List.not_mem_nil, false_iff, not_and]
   rintro rfl
   simp [h]
  ·rename_i h
   simp only [List.mem_singleton]
   constructor
   ·rintro rfl
    exact ⟨rfl, h⟩
   ·exact fun h => h.1
 have htk : p ∈ L.take (putK L t) ↔ p ∈ L /\ p.1 < t := by
  rw [List.mem_take_iff_getElem, List.mem_iff_getElem]
  constructor
  ·rintro ⟨j, hj, rfl⟩
   have h1 : j < L.length := by omega
   exact ⟨⟨j, h1, rfl⟩, putK_lt j (by omega) h1⟩
  ·rintro ⟨⟨j, hj, rfl⟩, hlt⟩
   refine ⟨j, ?_, rfl⟩
   rcases Nat.lt_or_ge j (putK L t) with h | h
   ·omega
   ·exfalso
    have hk : putK L t < L.length := by omega
    rcases Nat.lt_or_ge (putK L t) j with h2 | h2
    ·exact putK_at hk (List.lt_trans (rising_lt hr _ _ hk hj h2) hlt)
    ·have : j = putK L t := by omega
     subst this
     exact putK_at hk hlt
 have hrest : p ∈ putR L t ↔ p ∈ L /\ t < p.1 := by
  unfold putR
  have hgt : ∀ j (hj : j < L.length), putK L t <= j -> L[j].1 ≠ t -> t < L[j].1 := by
   intro j hj hkj hne
   refine list_tri _ _ ?_ hne
   rcases Nat.lt_or_ge (putK L t) j with h2 | h2
   ·have hk : putK L t < L.length := by omega
    exact fun h => putK_at hk (List.lt_trans (rising_lt hr _ _ hk hj h2) h)
   ·have : j = putK L t := by omega
    subst this
    exact putK_at hj
  split
  ·rename_i hk
   split
   ·rename_i he
    rw [List.mem_drop_iff_getElem, List.mem_iff_getElem]
    constructor
    ·rintro ⟨j, hj, rfl⟩
     refine ⟨⟨_, _, rfl⟩, ?_⟩
     have := rising_lt hr (putK L t) (putK L t + 1 + j) hk (by omega) (by omega)
     rw [he] at this
     exact this
    ·rintro ⟨⟨j, hj, rfl⟩, hlt⟩
     have : putK L t < j := by
      rcases Nat.lt_trichotomy j (putK L t) with h | h | h
      ·exact absurd (List.lt_trans hlt (putK_lt j h hj)) (List.lt_irrefl _)
      ·subst h; rw [he] at hlt; exact absurd hlt (List.lt_irrefl _)
      ·exact h
     exact ⟨j - (putK L t + 1), by omega, by congr 1; omega⟩
   ·rename_i he
    rw [List.mem_drop_iff_getElem, List.mem_iff_getElem]
    constructor
    ·rintro ⟨j, hj, rfl⟩
     refine ⟨⟨_, _, rfl⟩, hgt _ (by omega) (by omega) ?_⟩
     intro e
     cases j with
     | zero => exact he e
     | succ j =>
      have h1 := rising_lt hr (putK L t) (putK L t + (j + 1)) hk (by omega) (by omega)
      rw [e] at h1
      exact putK_at hk h1
    ·rintro ⟨⟨j, hj, rfl⟩, hlt⟩
     have : putK L t <= j := by
      rcases Nat.lt_or_ge j (putK L t) with h | h
      ·exact absurd (List.lt_trans hlt (putK_lt j h hj)) (List.lt_irrefl _)
      ·exact h
     exact ⟨j - putK L t, by omega, by congr 1; omega⟩
  ·rename_i hk
   simp only [List.not_mem_nil, false_iff, not_and]
   intro hp hlt
   obtain ⟨j, hj, rfl⟩ := List.mem_iff_getElem.1 hp
   exact absurd (List.lt_trans hlt (putK_lt j (by have := putK_le L t; omega) hj)) (List.lt_irrefl _)
 unfold putL
 rw [List.mem_append, List.mem_append, hmid, htk, hrest]
 constructor
 ·rintro (⟨h1, h2⟩ | h | ⟨h1, h2⟩)
  ·exact .inl ⟨h1, fun e => by rw [e] at h2; exact absurd h2 (List.lt_irrefl _)⟩
  ·exact .inr h
  ·exact .inl ⟨h1, fun e => by rw [e] at h2; exact absurd h2 (List.lt_irrefl _)⟩
 ·rintro (⟨h1, h2⟩ | h)
  ·rcases Decidable.em (p.1 < t) with h3 | h3
   ·exact .inl ⟨h1, h3⟩
   ·exact .inr (.inr ⟨h1, list_tri _ _ h3 h2⟩)
  ·exact .inr (.inl h)
theorem put_take_lt {L : List Atr} {t : List UInt8} {p : Atr} (h : p ∈ L.take (putK L t)) : p.1 < t := by
 rw [List.mem_take_iff_getElem] at h
 obtain ⟨j, hj, rfl⟩ := h
 exact putK_lt j (by omega) (by omega)
theorem put_rest_gt {L : List Atr} (hr : Rising L) {t : List UInt8} {p : Atr} (h : p ∈ putR L t) : t < p.1 := by
 unfold putR at h
 split at h
 ·rename_i hk
  split at h
  ·rename_i he
   obtain ⟨j, hj, rfl⟩ := List.mem_drop_iff_getElem.1 h
   have := rising_lt hr (putK L t) (putK L t + 1 + j) hk (by omega) (by omega)
   rw [he] at this
   exact this
  ·rename_i he
   obtain ⟨j, hj, rfl⟩ := List.mem_drop_iff_getElem.1 h
   have h0 := list_tri _ _ (putK_at hk) he
   cases j with
   | zero => exact h0
   | succ j => exact List.lt_trans h0 (rising_lt hr (putK L t) (putK L t + (j + 1)) hk (by omega) (by omega))
 ·simp at h
theorem put_rising {L : List Atr} (hr : Rising L) (t : List UInt8) (vs : List (List UInt8)) : Rising (putL L t vs) := by
 have hR : Rising (putR L t) := by
  unfold putR
  split
  ·split
   ·exact List.Pairwise.sublist (List.drop_sublist _ _) hr
   ·exact List.Pairwise.sublist (List.drop_sublist _ _) hr
  ·exact List.Pairwise.nil
 have hT : Rising (L.take (putK L t)) := List.Pairwise.sublist (List.take_sublist _ _) hr
 unfold putL Rising
 rw [List.pairwise_append]
 refine ⟨hT, ?_, ?_⟩
 ·split
  ·exact hR
  ·rw [List.singleton_append, List.pairwise_cons]
   exact ⟨fun q hq => put_rest_gt hr hq, hR⟩
 ·intro p hp q hq
  have h1 := put_take_lt hp
  rcases List.mem_append.1 hq with h | h
  ·split at h
   ·simp at h
   ·rw [List.mem_singleton] at h; subst h; exact h1
  ·exact List.lt_trans h1 (put_rest_gt hr h)
theorem put_val {A : List Atr} (t : List UInt8) : putV (clA A) t = onL (vaL A t) := by
 have hcl := cl_is A
 unfold putV
 split
 ·rename_i hk
  split
  ·rename_i he
   have := ((hcl.2 _).1 (List.getElem_mem hk)).1
   rw [he] at this
   exact this
  ·rename_i he
   refine (on_nil.2 ?_).symm
   by_cases e : vaL A t = []
   ·exact e
   ·exfalso
    have hm : (t, onL (vaL A t)) ∈ clA A := (hcl.2 _).2 ⟨rfl, fun h => e (on_nil.1 h)⟩
    obtain ⟨j, hj, ej⟩ := List.mem_iff_getElem.1 hm
    have ej1 : (clA A)[j].1 = t := by rw [ej]
    rcases Nat.lt_trichotomy j (putK (clA A) t) with h | h | h
    ·have := putK_lt j h hj
     rw [ej1] at this
     exact absurd this (List.lt_irrefl _)
    ·subst h; exact he ej1
    ·have h1 := rising_lt hcl.1 _ _ hk hj h
     rw [ej1] at h1
     exact putK_at hk h1
 ·rename_i hk
  refine (on_nil.2 ?_).symm
  by_cases e : vaL A t = []
  ·exact e
  ·exfalso
   have hm : (t, onL (vaL A t)) ∈ clA A := (hcl.2 _).2 ⟨rfl, fun h => e (on_nil.1 h)⟩
   obtain ⟨j, hj, ej⟩ := List.mem_iff_getElem.1 hm
   have ej1 : (clA A)[j].1 = t := by rw [ej]
   have hlt : j < putK (clA A) t := by omega
   have := putK_lt j hlt hj
   rw [ej1] at this
   exact absurd this (List.lt_irrefl _)
theorem put_cl (A : List Atr) (s : List UInt8) (vs : List (List UInt8)) : putL (clA A) (lowL s) vs = clA (A ++ [(s, vs)]) := by
 have hcl := cl_is A
 refine cl_of ⟨put_rising hcl.1 _ _, fun p => ?_⟩
 rw [put_mem hcl.1, put_val, <- on_app, hcl.2]
 rw [va_app]
 by_cases e : p.1 = lowL s
 ·have e1 : vaL [(s, vs)] p.1 = vs := by unfold vaL; simp [e]
  rw [e1]
  constructor
  ·rintro (⟨_, h⟩ | ⟨h, h2⟩)
   ·exact absurd e h
   ·exact ⟨by rw [h], h2⟩
  ·rintro ⟨h1, h2⟩
   refine .inr ⟨Prod.ext e ?_, h2⟩
   rw [h1, e]
 ·have e1 : vaL [(s, vs)] p.1 = [] := by
   unfold vaL
   have : (lowL s == p.1) = false := by simpa using fun h => e h.symm
   simp [this]
  rw [e1, List.append_nil]
  constructor
  ·rintro (⟨h, _⟩ | ⟨h, _⟩)
   ·exact h
   ·exact absurd (by rw [h]) e
  ·intro h
   exact .inl ⟨h, e⟩
theorem cl_nil : clA [] = [] := by unfold clA clNs onL risL; simp
theorem cl_step {A : List Atr} (i : Nat) (hi : i < A.length) : clA (A.take (i + 1)) = putL (clA (A.take i)) (lowL A[i].1) A[i].2 := by
 rw [put_cl, List.take_succ_eq_append_getElem hi]
end Go.Proofs.YtpkbgkoocijegaaGreatDoor
