/- The code's of: the classes that values name. The code's slices.Contains of truths; fits, plainly. The code's fits: whether attributes are such as the classes that they name have. -/
import Derived.Test.YtjbdldbjefmnjaaGreatDoorSnNP
import Derived.Test.YtjbdldbjefmnjaaGreatDoorSnEF
namespace Go.Proofs.YtjbdldbjefmnjaaGreatDoor
set_option linter.unusedSimpArgs false
set_option linter.unusedVariables false
open Go Go.RowKit Go.Proofs.BerK Go.Proofs.MemK Go.Proofs.UtfK

theorem scC_congr {C : List Cl} {s t : List UInt8} (h : lowL s = lowL t) : scC C s = scC C t := by unfold scC; rw [h]
/-- Classes to be read behind their cells. -/
def ClsR (w : World) (L : List Cl) (Lq : List (List UInt8 × Value × Value)) : Prop :=
  Lq.length = L.length ∧ ∀ i (h1 : i < L.length) (h2 : i < Lq.length), Lq[i].1 = L[i].1 ∧ TxR w Lq[i].2.1 L[i].2.1 ∧ TxR w Lq[i].2.2 L[i].2.2 ∧ SlOk Lq[i].2.1 ∧ SlOk Lq[i].2.2
theorem clsR_nil (w : World) : ClsR w [] [] := ⟨rfl, fun i h => by simp at h⟩
theorem clsR_snoc {w : World} {L : List Cl} {Lq : List (List UInt8 × Value × Value)} (h : ClsR w L Lq) (c : Cl) (mu ma : Value) (h1 : TxR w mu c.2.1) (h2 : TxR w ma c.2.2) (h3 : SlOk mu) (h4 : SlOk ma) : ClsR w (L ++ [c]) (Lq ++ [(c.1, mu, ma)]) := by
  refine ⟨by simp [h.1], fun i i1 i2 => ?_⟩
  by_cases hi : i < L.length
  · rw [List.getElem_append_left hi, List.getElem_append_left (by rw [h.1]; exact hi)]
    exact h.2 i hi _
  · have : i = L.length := by simp at i1; omega
    subst this
    have e : Lq.length = L.length := h.1
    simp only [List.getElem_append_right (Nat.le_refl L.length), Nat.sub_self, List.getElem_cons_zero]
    rw [List.getElem_append_right (by omega)]
    simp [e, h1, h2, h3, h4]
/-- Do all values name a class? -/
def ofOk (C : List Cl) (vs : List (List UInt8)) : Bool := vs.all fun s => (scC C s).isSome
def OfIs (C : List Cl) (vs : List (List UInt8)) (L : List Cl) : Prop := ∀ c, c ∈ L ↔ ∃ s ∈ vs, scC C s = some c
def OfPost (C : List Cl) (vs : List (List UInt8)) (w : World) (en : Ending) (w' : World) : Prop :=
  (ofOk C vs = false → en = .returned (.tuple #[.slice none 0 0, .bool false])) ∧ (ofOk C vs = true → ∃ v L, en = .returned (.tuple #[v, .bool true]) ∧ ClAt w' v L ∧ OfIs C vs L ∧ L.length ≤ vs.length) ∧ Below w.heap.size w w'
theorem ofPost_bad {C : List Cl} {vs : List (List UInt8)} {w w' : World} (h : ofOk C vs = false) (hb : Below w.heap.size w w') : OfPost C vs w (.returned (.tuple #[.slice none 0 0, .bool false])) w' :=
  ⟨fun _ => rfl, (fun h2 => by rw [h] at h2; cases h2), hb⟩
theorem ofPost_ok {C : List Cl} {vs : List (List UInt8)} {w w' : World} {v : Value} {L : List Cl} (h : ofOk C vs = true) (hc : ClAt w' v L) (hi : OfIs C vs L) (hl : L.length ≤ vs.length) (hb : Below w.heap.size w w') : OfPost C vs w (.returned (.tuple #[v, .bool true])) w' :=
  ⟨(fun h2 => by rw [h] at h2; cases h2), fun _ => ⟨v, L, rfl, hc, hi, hl⟩, hb⟩
theorem of_bad {C : List Cl} {vs : List (List UInt8)} (k : Nat) (hk : k < vs.length) (h : scC C vs[k] = none) : ofOk C vs = false := by
  unfold ofOk
  rw [List.all_eq_false]
  exact ⟨vs[k], List.getElem_mem hk, by rw [h]; simp⟩
theorem of_good {C : List Cl} {vs : List (List UInt8)} (h : ∀ k (hk : k < vs.length), (scC C vs[k]).isSome = true) : ofOk C vs = true := by
  unfold ofOk
  rw [List.all_eq_true]
  intro x hx
  obtain ⟨j, hj, rfl⟩ := List.getElem_of_mem hx
  exact h j hj
theorem ofIs_hit {C : List Cl} {vs : List (List UInt8)} {L : List Cl} {k : Nat} (hk : k < vs.length) (h : OfIs C (vs.take k) L) {c : Cl} (hc : scC C vs[k] = some c) {i : Nat} (hi : ixL (L.map (·.1)) c.1 = some i) : OfIs C (vs.take (k + 1)) L := by
  obtain ⟨hil, hie⟩ := ix_some hi
  have hil' : i < L.length := by simpa using hil
  have hie' : L[i].1 = c.1 := by simpa using hie
  obtain ⟨s, hs, hsc⟩ := (h L[i]).1 (List.getElem_mem hil')
  have h1 := scC_name hsc
  have h2 := scC_name hc
  have e : scC C s = scC C vs[k] := scC_congr (by rw [← h1, hie', h2])
  have hcL : L[i] = c := by rw [hsc, hc] at e; injection e
  intro d
  rw [List.take_succ_eq_append_getElem hk]
  constructor
  · intro hd
    obtain ⟨s, hs, hsc⟩ := (h d).1 hd
    exact ⟨s, List.mem_append_left _ hs, hsc⟩
  · rintro ⟨s, hs, hsc⟩
    rcases List.mem_append.1 hs with hs | hs
    · exact (h d).2 ⟨s, hs, hsc⟩
    · rw [List.mem_singleton] at hs
      subst hs
      rw [hc] at hsc
      injection hsc with hsc
      subst hsc
      rw [← hcL]
      exact List.getElem_mem hil'
theorem ofIs_new {C : List Cl} {vs : List (List UInt8)} {L : List Cl} {k : Nat} (hk : k < vs.length) (h : OfIs C (vs.take k) L) {c : Cl} (hc : scC C vs[k] = some c) : OfIs C (vs.take (k + 1)) (L ++ [c]) := by
  intro d
  rw [List.take_succ_eq_append_getElem hk, List.mem_append, List.mem_singleton, h d]
  constructor
  · rintro (⟨s, hs, hsc⟩ | rfl)
    · exact ⟨s, List.mem_append_left _ hs, hsc⟩
    · exact ⟨_, List.mem_append_right _ (List.mem_singleton.2 rfl), hc⟩
  · rintro ⟨s, hs, hsc⟩
    rcases List.mem_append.1 hs with hs | hs
    · exact .inl ⟨s, hs, hsc⟩
    · rw [List.mem_singleton] at hs
      subst hs
      rw [hc] at hsc
      injection hsc with hsc
      exact .inr hsc.symm
end Go.Proofs.YtjbdldbjefmnjaaGreatDoor
namespace Go.Proofs.YtjbdldbjefmnjaaGreatDoor
set_option linter.unusedSimpArgs false
set_option linter.unusedVariables false
open Go Go.RowKit Go.Proofs.BerK Go.Proofs.MemK Go.Proofs.UtfK

def bls (al : List Bool) : List Value := al.map Value.bool
theorem bls_at (al : List Bool) (i : Nat) (h : i < al.length) : (bls al)[i]? = some (.bool al[i]) := by simp [bls, h]
theorem bls_set (al : List Bool) (i : Nat) (b : Bool) : (bls al).set i (.bool b) = bls (al.set i b) := by simp [bls, List.map_set]
theorem Tryz.sninfo4 : (Tryz.prog.info? 4).map (fun i => (i.zero, i.size, i.bytes)) = some (some (.bool false), 1, 1) := by kernel_rfl
/-- Which attributes are allowed, as far as told by S. -/
def okA (N : List (List UInt8)) (own : Nat) (S : List (List UInt8)) (al : List Bool) : Prop := al.length = N.length ∧ ∀ i (h1 : i < al.length) (h2 : i < N.length), al[i] = (decide (i = own) || inL S N[i])
theorem inL_app (S T : List (List UInt8)) (x : List UInt8) : inL (S ++ T) x = (inL S x || inL T x) := by unfold inL; rw [List.any_append]
theorem inL_one (m x : List UInt8) : inL [m] x = (m == x) := by simp [inL]
theorem okA_start (N : List (List UInt8)) (own : Nat) (h : own < N.length) : okA N own [] ((List.replicate N.length false).set own true) := by
  refine ⟨by simp, fun i h1 h2 => ?_⟩
  by_cases e : i = own
  · subst e; simp
  · rw [List.getElem_set_ne (fun h => e h.symm)]; simp [e, inL]
theorem okA_hit {N : List (List UInt8)} {own : Nat} {S : List (List UInt8)} {al : List Bool} (hn : N.Nodup) (h : okA N own S al) {m : List UInt8} {i : Nat} (hi : ixL N m = some i) : okA N own (S ++ [m]) (al.set i true) := by
  obtain ⟨hil, hie⟩ := ix_some hi
  refine ⟨by simpa using h.1, fun j h1 h2 => ?_⟩
  rw [inL_app, inL_one]
  by_cases e : j = i
  · subst e
    rw [List.getElem_set_self, hie]; simp
  · rw [List.getElem_set_ne (fun h => e h.symm), h.2 j (by simpa using h1) h2]
    have : (m == N[j]) = false := by
      rw [beq_eq_false_iff_ne]
      intro e2
      rw [← hie] at e2
      exact e ((List.getElem_inj hn).1 e2).symm
    rw [this, Bool.or_false]
theorem okA_miss {N : List (List UInt8)} {own : Nat} {S : List (List UInt8)} {al : List Bool} (h : okA N own S al) {m : List UInt8} (hi : ixL N m = none) : okA N own (S ++ [m]) al := by
  refine ⟨h.1, fun j h1 h2 => ?_⟩
  rw [inL_app, inL_one, h.2 j h1 h2]
  have : (m == N[j]) = false := by
    rw [beq_eq_false_iff_ne]
    intro e2
    exact ix_none hi (e2 ▸ List.getElem_mem h2)
  rw [this, Bool.or_false]
/-- What classes allow. -/
def alS (L : List Cl) : List (List UInt8) := L.flatMap fun c => c.2.1 ++ c.2.2
theorem alS_take (L : List Cl) (k : Nat) (h : k < L.length) : alS (L.take (k + 1)) = alS (L.take k) ++ L[k].2.1 ++ L[k].2.2 := by
  unfold alS
  rw [List.take_succ_eq_append_getElem h, List.flatMap_append]; simp
def fitB (C : List Cl) (N : List (List UInt8)) (A : List Atr) : Bool :=
  match ixL N objL with
  | none => false
  | some own => match A[own]? with
    | none => false
    | some a => ofOk C a.2 && ((a.2.filterMap (scC C)).all fun c => c.2.1.all (inL N)) && (N.all fun x => x == objL || inL (alS (a.2.filterMap (scC C))) x)
theorem fit_none {C : List Cl} {N : List (List UInt8)} {A : List Atr} (h : ixL N objL = none) : fitB C N A = false := by unfold fitB; rw [h]
theorem fit_of {C : List Cl} {N : List (List UInt8)} {A : List Atr} {own : Nat} (h : ixL N objL = some own) (ho : own < A.length) (hf : ofOk C A[own].2 = false) : fitB C N A = false := by
  unfold fitB; rw [h]; simp [ho, hf]
theorem fit_must {C : List Cl} {N : List (List UInt8)} {A : List Atr} {own : Nat} (h : ixL N objL = some own) (ho : own < A.length) {L : List Cl} (hL : OfIs C A[own].2 L) {c : Cl} (hc : c ∈ L) {m : List UInt8} (hm : m ∈ c.2.1) (hx : ixL N m = none) : fitB C N A = false := by
  unfold fitB; rw [h]; simp only [ho, List.getElem?_eq_getElem]
  have : ((A[own].2.filterMap (scC C)).all fun c => c.2.1.all (inL N)) = false := by
    rw [List.all_eq_false]
    obtain ⟨s, hs, hsc⟩ := (hL c).1 hc
    refine ⟨c, List.mem_filterMap.2 ⟨s, hs, hsc⟩, ?_⟩
    rw [Bool.not_eq_true, List.all_eq_false]
    exact ⟨m, hm, by rw [ix_out hx]; simp⟩
  rw [this, Bool.and_false, Bool.false_and]
theorem alS_mem {C : List Cl} {vs : List (List UInt8)} {L : List Cl} (hL : OfIs C vs L) (x : List UInt8) : inL (alS L) x = inL (alS (vs.filterMap (scC C))) x := by
  rw [Bool.eq_iff_iff]
  unfold inL alS
  simp only [List.any_eq_true, List.mem_flatMap, List.mem_filterMap]
  constructor
  · rintro ⟨y, ⟨c, hc, hy⟩, e⟩
    obtain ⟨s, hs, hsc⟩ := (hL c).1 hc
    exact ⟨y, ⟨c, ⟨s, hs, hsc⟩, hy⟩, e⟩
  · rintro ⟨y, ⟨c, ⟨s, hs, hsc⟩, hy⟩, e⟩
    exact ⟨y, ⟨c, (hL c).2 ⟨s, hs, hsc⟩, hy⟩, e⟩
theorem fit_all {C : List Cl} {N : List (List UInt8)} {A : List Atr} {own : Nat} (h : ixL N objL = some own) (ho : own < A.length) (hf : ofOk C A[own].2 = true) {L : List Cl} (hL : OfIs C A[own].2 L) (hm : ∀ c ∈ L, ∀ m ∈ c.2.1, inL N m = true) (hn : N.Nodup) {al : List Bool} (ha : okA N own (alS L) al) : fitB C N A = !al.contains false := by
  obtain ⟨hol, hoe⟩ := ix_some h
  unfold fitB; rw [h]; simp only [ho, List.getElem?_eq_getElem]
  have h1 : ((A[own].2.filterMap (scC C)).all fun c => c.2.1.all (inL N)) = true := by
    rw [List.all_eq_true]
    intro c hc
    obtain ⟨s, hs, hsc⟩ := List.mem_filterMap.1 hc
    rw [List.all_eq_true]
    exact fun m hm' => hm c ((hL c).2 ⟨s, hs, hsc⟩) m hm'
  rw [hf, h1, Bool.true_and, Bool.true_and]
  rw [Bool.eq_iff_iff, List.all_eq_true, Bool.not_eq_true', List.contains_eq_mem, decide_eq_false_iff_not]
  have key : ∀ i (h1 : i < al.length) (h2 : i < N.length), al[i] = (N[i] == objL || inL (alS (A[own].2.filterMap (scC C))) N[i]) := by
    intro i h1 h2
    rw [ha.2 i h1 h2, alS_mem hL]
    congr 1
    by_cases e : i = own
    · subst e; rw [hoe]; simp
    · have : (N[i] == objL) = false := by
        rw [beq_eq_false_iff_ne]
        intro e2
        rw [← hoe] at e2
        exact e ((List.getElem_inj hn).1 e2)
      rw [this]; simp [e]
  constructor
  · intro hx hm
    obtain ⟨i, hi, e⟩ := List.getElem_of_mem hm
    have h2 : i < N.length := by rw [← ha.1]; exact hi
    rw [key i hi h2, hx _ (List.getElem_mem h2)] at e
    cases e
  · intro hx x hm
    obtain ⟨i, hi, rfl⟩ := List.getElem_of_mem hm
    have h2 : i < al.length := by rw [ha.1]; exact hi
    rw [← key i h2 hi]
    cases hq : al[i]
    · exact absurd (hq ▸ List.getElem_mem h2) hx
    · rfl
end Go.Proofs.YtjbdldbjefmnjaaGreatDoor
namespace Go.Proofs.YtjbdldbjefmnjaaGreatDoor
set_option linter.unusedSimpArgs false
set_option linter.unusedVariables false
open Go Go.RowKit Go.Proofs.BerK Go.Proofs.MemK Go.Proofs.UtfK

theorem scC_mem {C : List Cl} {s : List UInt8} {c : Cl} (hlow : LowC C) (h : scC C s = some c) : c ∈ C := by
  unfold scC at h
  obtain ⟨u, hu, rfl⟩ := Option.map_eq_some_iff.1 h
  have := hlow u (List.mem_of_find?_eq_some hu)
  have e : (lowL u.1, u.2.1.map lowL, u.2.2.map lowL) = u := this
  rw [e]
  exact List.mem_of_find?_eq_some hu
end Go.Proofs.YtjbdldbjefmnjaaGreatDoor
