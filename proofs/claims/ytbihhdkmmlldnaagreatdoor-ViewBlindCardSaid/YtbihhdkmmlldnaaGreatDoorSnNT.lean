/- The code's norms: the values of attributes as they count. The code's namesOf and hasTwice: the places of types' names; whether two values are the same. The code's hasTwice, hasTooMany, and whether an attribute has no values. The code's of: the classes that values name. The code's slices.Contains of truths; fits, plainly. The code's fits: whether attributes are such as the classes that they name have. The code's Check: whether an entry may be. -/
import Derived.Test.YtbihhdkmmlldnaaGreatDoorSnAL
import Derived.Test.YtbihhdkmmlldnaaGreatDoorRuAD
import Derived.Test.YtbihhdkmmlldnaaGreatDoorScAD
namespace Go.Proofs.YtbihhdkmmlldnaaGreatDoor
set_option linter.unusedSimpArgs false
set_option linter.unusedVariables false
open Go Go.RowKit Go.Proofs.BerK Go.Proofs.MemK Go.Proofs.UtfK

/-- Rows of texts in memory, to be read. -/
def GrAt (w : World) (v : Value) (G : List (List (List UInt8))) : Prop :=
  ∃ a c, v = .slice a G.length c ∧ ∀ i (hi : i < G.length), ∃ g o vl, a = some ⟨g, o, none⟩ ∧ g < w.heap.size ∧ w.cell? ⟨g, o + i, none⟩ = some vl ∧ TxR w vl G[i]
theorem grAt_below {w w' : World} {v : Value} {G : List (List (List UInt8))} (h : GrAt w v G) (hb : Below w.heap.size w w') : GrAt w' v G := by
  obtain ⟨a, c, rfl, h⟩ := h
  refine ⟨a, c, rfl, fun i hi => ?_⟩
  obtain ⟨g, o, vl, h1, h2, h3, h4⟩ := h i hi
  exact ⟨g, o, vl, h1, Nat.lt_of_lt_of_le h2 hb.size, (hb.cell (p := ⟨g, _, none⟩) h2).trans h3, txR_below h4 hb⟩
theorem txR_chg {S : Nat → Prop} {w w' : World} {v : Value} {l : List (List UInt8)} (h : TxR w v l) (hc : Chg S w w') (hs : ∀ g o n c, v = .slice (some ⟨g, o, none⟩) n c → ¬ S g) : TxR w' v l := by
  obtain ⟨a, c, rfl, h⟩ := h
  refine ⟨a, c, rfl, fun i hi => ?_⟩
  obtain ⟨g, o, rfl, h2, h3⟩ := h i hi
  exact ⟨g, o, rfl, Nat.lt_of_lt_of_le h2 hc.size, (World.cell?_of_block (w := w) (a := ⟨g, o + i, none⟩) (hc.block g h2 (hs g o _ _ rfl))).trans h3⟩
/-- The values of an attribute of a type as they count. -/
def nmV (t : Ty) (a : Atr) : List (List UInt8) := a.2.map fun s => (ruN t.2.1 s).1
def nmG (TL : List Ty) (A : List Atr) : List (List (List UInt8)) := List.zipWith nmV TL A
def nmOk (TL : List Ty) (A : List Atr) : Bool := (List.zipWith (fun t a => a.2.all fun s => (ruN t.2.1 s).2) TL A).all id
theorem nmOk_bad {TL : List Ty} {A : List Atr} (k : Nat) (h1 : k < TL.length) (h2 : k < A.length) (j : Nat) (hj : j < A[k].2.length) (h : (ruN TL[k].2.1 A[k].2[j]).2 = false) : nmOk TL A = false := by
  unfold nmOk
  rw [List.all_eq_false]
  refine ⟨(A[k].2.all fun s => (ruN TL[k].2.1 s).2), ?_, ?_⟩
  · rw [List.mem_iff_getElem]
    exact ⟨k, by simp; omega, by simp⟩
  · simp only [id, Bool.not_eq_true]
    rw [List.all_eq_false]
    exact ⟨A[k].2[j], List.getElem_mem hj, by rw [h]; simp⟩
theorem nmOk_good {TL : List Ty} {A : List Atr} (h : ∀ k (h1 : k < TL.length) (h2 : k < A.length) j (hj : j < A[k].2.length), (ruN TL[k].2.1 A[k].2[j]).2 = true) : nmOk TL A = true := by
  unfold nmOk
  rw [List.all_eq_true]
  intro x hx
  obtain ⟨k, hk, rfl⟩ := List.getElem_of_mem hx
  simp only [List.getElem_zipWith, id]
  rw [List.all_eq_true]
  intro s hs
  obtain ⟨j, hj, rfl⟩ := List.getElem_of_mem hs
  exact h k (by simp at hk; omega) (by simp at hk; omega) j hj
def NmsPost (TL : List Ty) (A : List Atr) (w : World) (en : Ending) (w' : World) : Prop :=
  (nmOk TL A = false → en = .returned (.tuple #[.slice none 0 0, .bool false])) ∧ (nmOk TL A = true → ∃ v, en = .returned (.tuple #[v, .bool true]) ∧ GrAt w' v (nmG TL A)) ∧ Below w.heap.size w w'
theorem nmsPost_bad {TL : List Ty} {A : List Atr} {w w' : World} (h : nmOk TL A = false) (hb : Below w.heap.size w w') : NmsPost TL A w (.returned (.tuple #[.slice none 0 0, .bool false])) w' :=
  ⟨fun _ => rfl, (fun h2 => by rw [h] at h2; cases h2), hb⟩
theorem nmsPost_ok {TL : List Ty} {A : List Atr} {w w' : World} {v : Value} (h : nmOk TL A = true) (ht : GrAt w' v (nmG TL A)) (hb : Below w.heap.size w w') : NmsPost TL A w (.returned (.tuple #[v, .bool true])) w' :=
  ⟨(fun h2 => by rw [h] at h2; cases h2), fun _ => ⟨v, rfl, ht⟩, hb⟩
theorem Tryz.sninfo48 : (Tryz.prog.info? 48).map (fun i => (i.zero, i.size, i.bytes)) = some (some (.slice none 0 0), 1, 24) := by kernel_rfl
theorem made_gr (n : Nat) (W : World) (hn : n ≤ 1000000) : (Instr.makeSlice 123 (.int .i64 (n : Int)) (.int .i64 (n : Int))).run Tryz.prog W = .ok (.slice (some ⟨W.heap.size, 0, none⟩) n n) (W.alloc (.cells (List.replicate n (Value.slice none 0 0)).toArray 48)) := by
  obtain ⟨i0, hi, hz0, hz1, hz2⟩ := info_parts Tryz.sninfo48
  have h := run_make (P := Tryz.prog) W 123 48 i0 (.slice none 0 0) Tryz.underlying123 hi hz0 .i64 .i64 (n : Int) (n : Int) (by omega) (by omega) (by rw [hz2]; omega) (by omega)
  have e : madeCells (Value.slice none 0 0).cells ((n : Int).toNat * i0.size) = (List.replicate n (Value.slice none 0 0)).toArray := by
    apply Array.ext'
    rw [hz1, show (n : Int).toNat * 1 = n by omega]
    exact (toList_madeCells_one _ n).trans (by simp)
  rw [e] at h
  simpa using h
/-- Rows that are done: each lies in a block of its own, apart from the outer one. -/
def DoneR (w : World) (B : Nat) (vs : List Value) (G : List (List (List UInt8))) (k : Nat) : Prop :=
  ∀ i (h1 : i < vs.length) (h2 : i < G.length), i < k → TxR w vs[i] G[i] ∧ ∀ g o n c, vs[i] = .slice (some ⟨g, o, none⟩) n c → g ≠ B
theorem doneR_chg {w w' : World} {B : Nat} {vs : List Value} {G : List (List (List UInt8))} {k : Nat} (h : DoneR w B vs G k) (hc : Chg (fun j => j = B) w w') : DoneR w' B vs G k := fun i h1 h2 hi =>
  ⟨txR_chg (h i h1 h2 hi).1 hc (fun g o n c e => (h i h1 h2 hi).2 g o n c e), (h i h1 h2 hi).2⟩
theorem doneR_set {w : World} {B : Nat} {vs : List Value} {G : List (List (List UInt8))} {k : Nat} (h : DoneR w B vs G k) (hk : k < vs.length) (hk2 : k < G.length) (v : Value) (hv : TxR w v G[k]) (hb : ∀ g o n c, v = .slice (some ⟨g, o, none⟩) n c → g ≠ B) : DoneR w B (vs.set k v) G (k + 1) := by
  intro i h1 h2 hi
  by_cases e : i = k
  · subst e
    rw [List.getElem_set_self]
    exact ⟨hv, hb⟩
  · rw [List.getElem_set_ne (fun h => e h.symm)]
    exact h i (by simpa using h1) h2 (by omega)
theorem doneR_keep {w : World} {B : Nat} {vs : List Value} {G : List (List (List UInt8))} {k : Nat} (h : DoneR w B vs G k) (v : Value) : DoneR w B (vs.set k v) G k := by
  intro i h1 h2 hi
  rw [List.getElem_set_ne (by omega)]
  exact h i (by simpa using h1) h2 hi
end Go.Proofs.YtbihhdkmmlldnaaGreatDoor
namespace Go.Proofs.YtbihhdkmmlldnaaGreatDoor
set_option linter.unusedSimpArgs false
set_option linter.unusedVariables false
open Go Go.RowKit Go.Proofs.BerK Go.Proofs.MemK Go.Proofs.UtfK

theorem nmAt_form {w : World} {mv : Value} {N : List (List UInt8)} (h : NmAt w mv N) : ∃ q, mv = .map q := by
  rcases h with ⟨h, _⟩ | ⟨b, D, h, _⟩
  · exact ⟨_, h⟩
  · exact ⟨_, h⟩
def NmsV (N : List (List UInt8)) (w : World) (en : Ending) (w' : World) : Prop :=
  (¬ N.Nodup → en = .returned (.tuple #[.agg #[.map none], .bool false])) ∧ (N.Nodup → ∃ mv, en = .returned (.tuple #[.agg #[mv], .bool true]) ∧ NmAt w' mv N) ∧ Below w.heap.size w w'
theorem nmsV_bad {N : List (List UInt8)} {w w' : World} (h : ¬ N.Nodup) (hb : Below w.heap.size w w') : NmsV N w (.returned (.tuple #[.agg #[.map none], .bool false])) w' := ⟨fun _ => rfl, fun h2 => absurd h2 h, hb⟩
theorem nmsV_ok {N : List (List UInt8)} {w w' : World} {mv : Value} (h : N.Nodup) (hm : NmAt w' mv N) (hb : Below w.heap.size w w') : NmsV N w (.returned (.tuple #[.agg #[mv], .bool true])) w' := ⟨fun h2 => absurd h h2, fun _ => ⟨mv, rfl, hm⟩, hb⟩
end Go.Proofs.YtbihhdkmmlldnaaGreatDoor
namespace Go.Proofs.YtbihhdkmmlldnaaGreatDoor
set_option linter.unusedSimpArgs false
set_option linter.unusedVariables false
open Go Go.RowKit Go.Proofs.BerK Go.Proofs.MemK Go.Proofs.UtfK

def dupL (l : List (List UInt8)) : Bool := !decide l.Nodup
theorem dup_yes {l : List (List UInt8)} (h : ¬ l.Nodup) : dupL l = true := by unfold dupL; rw [decide_eq_false h]; rfl
theorem dup_no {l : List (List UInt8)} (h : l.Nodup) : dupL l = false := by unfold dupL; rw [decide_eq_true h]; rfl
def IxB (b : Bool) (g : Nat) (w : World) (en : Ending) (w' : World) : Prop := ∃ n : Int, en = .returned (.int .i64 n) ∧ decide (0 ≤ n) = b ∧ Below g w w'
/-! ### attributes without values -/
/-! ### too many values -/
def tmB (TL : List Ty) (G : List (List (List UInt8))) : Bool := (List.zipWith (fun t g => t.2.2 && decide (1 < g.length)) TL G).any id
theorem tm_at {TL : List Ty} {G : List (List (List UInt8))} (k : Nat) (h1 : k < TL.length) (h2 : k < G.length) (h : (TL[k].2.2 && decide (1 < G[k].length)) = true) : tmB TL G = true := by
  unfold tmB
  rw [List.any_eq_true]
  exact ⟨_, List.mem_iff_getElem.2 ⟨k, by simp; omega, rfl⟩, by simpa using h⟩
theorem tm_no {TL : List Ty} {G : List (List (List UInt8))} (h : ∀ k (h1 : k < TL.length) (h2 : k < G.length), (TL[k].2.2 && decide (1 < G[k].length)) = false) : tmB TL G = false := by
  unfold tmB
  rw [List.any_eq_false]
  intro x hx
  obtain ⟨k, hk, rfl⟩ := List.getElem_of_mem hx
  have := h k (by simp at hk; omega) (by simp at hk; omega)
  simp only [List.getElem_zipWith, id]
  rw [this]; simp
end Go.Proofs.YtbihhdkmmlldnaaGreatDoor
namespace Go.Proofs.YtbihhdkmmlldnaaGreatDoor
set_option linter.unusedSimpArgs false
set_option linter.unusedVariables false
open Go Go.RowKit Go.Proofs.BerK Go.Proofs.MemK Go.Proofs.UtfK

theorem scC_congr {C : List Cl} {s t : List UInt8} (h : lowL s = lowL t) : scC C s = scC C t := by unfold scC; rw [h]
/-- Classes to be read behind their cells. -/
def ClsR (w : World) (L : List Cl) (Lq : List (List UInt8 × Value × Value)) : Prop :=
  Lq.length = L.length ∧ ∀ i (h1 : i < L.length) (h2 : i < Lq.length), Lq[i].1 = L[i].1 ∧ TxR w Lq[i].2.1 L[i].2.1 ∧ TxR w Lq[i].2.2 L[i].2.2 ∧ SlOk Lq[i].2.1 ∧ SlOk Lq[i].2.2
theorem clsR_nil (w : World) : ClsR w [] [] := ⟨rfl, fun i h => by simp at h⟩
theorem clsR_snoc {w : World} {L : List Cl} {Lq : List (List UInt8 × Value × Value)} (h : ClsR w L Lq) (c : Cl) (mu ma : Value) (h1 : TxR w mu c.2.1) (h2 : TxR w ma c.2.2) (h3 : SlOk mu) (h4 : SlOk ma) : ClsR w (L ++ [c]) (Lq ++ [(c.1, mu, ma)]) := by
  refine ⟨by simp [h.1], fun i i1 i2 => ?_⟩
  by_cases hi : i < L.length
  · rw [List.getElem_append_left hi, List.getElem_append_left (by rw [h.1]; exact hi)]
    exact h.2 i hi _
  · have : i = L.length := by simp at i1; omega
    subst this
    have e : Lq.length = L.length := h.1
    simp only [List.getElem_append_right (Nat.le_refl L.length), Nat.sub_self, List.getElem_cons_zero]
    rw [List.getElem_append_right (by omega)]
    simp [e, h1, h2, h3, h4]
/-- Do all values name a class? -/
def ofOk (C : List Cl) (vs : List (List UInt8)) : Bool := vs.all fun s => (scC C s).isSome
def OfIs (C : List Cl) (vs : List (List UInt8)) (L : List Cl) : Prop := ∀ c, c ∈ L ↔ ∃ s ∈ vs, scC C s = some c
def OfPost (C : List Cl) (vs : List (List UInt8)) (w : World) (en : Ending) (w' : World) : Prop :=
  (ofOk C vs = false → en = .returned (.tuple #[.slice none 0 0, .bool false])) ∧ (ofOk C vs = true → ∃ v L, en = .returned (.tuple #[v, .bool true]) ∧ ClAt w' v L ∧ OfIs C vs L ∧ L.length ≤ vs.length) ∧ Below w.heap.size w w'
theorem ofPost_bad {C : List Cl} {vs : List (List UInt8)} {w w' : World} (h : ofOk C vs = false) (hb : Below w.heap.size w w') : OfPost C vs w (.returned (.tuple #[.slice none 0 0, .bool false])) w' :=
  ⟨fun _ => rfl, (fun h2 => by rw [h] at h2; cases h2), hb⟩
theorem ofPost_ok {C : List Cl} {vs : List (List UInt8)} {w w' : World} {v : Value} {L : List Cl} (h : ofOk C vs = true) (hc : ClAt w' v L) (hi : OfIs C vs L) (hl : L.length ≤ vs.length) (hb : Below w.heap.size w w') : OfPost C vs w (.returned (.tuple #[v, .bool true])) w' :=
  ⟨(fun h2 => by rw [h] at h2; cases h2), fun _ => ⟨v, L, rfl, hc, hi, hl⟩, hb⟩
theorem of_bad {C : List Cl} {vs : List (List UInt8)} (k : Nat) (hk : k < vs.length) (h : scC C vs[k] = none) : ofOk C vs = false := by
  unfold ofOk
  rw [List.all_eq_false]
  exact ⟨vs[k], List.getElem_mem hk, by rw [h]; simp⟩
theorem of_good {C : List Cl} {vs : List (List UInt8)} (h : ∀ k (hk : k < vs.length), (scC C vs[k]).isSome = true) : ofOk C vs = true := by
  unfold ofOk
  rw [List.all_eq_true]
  intro x hx
  obtain ⟨j, hj, rfl⟩ := List.getElem_of_mem hx
  exact h j hj
theorem ofIs_hit {C : List Cl} {vs : List (List UInt8)} {L : List Cl} {k : Nat} (hk : k < vs.length) (h : OfIs C (vs.take k) L) {c : Cl} (hc : scC C vs[k] = some c) {i : Nat} (hi : ixL (L.map (·.1)) c.1 = some i) : OfIs C (vs.take (k + 1)) L := by
  obtain ⟨hil, hie⟩ := ix_some hi
  have hil' : i < L.length := by simpa using hil
  have hie' : L[i].1 = c.1 := by simpa using hie
  obtain ⟨s, hs, hsc⟩ := (h L[i]).1 (List.getElem_mem hil')
  have h1 := scC_name hsc
  have h2 := scC_name hc
  have e : scC C s = scC C vs[k] := scC_congr (by rw [← h1, hie', h2])
  have hcL : L[i] = c := by rw [hsc, hc] at e; injection e
  intro d
  rw [List.take_succ_eq_append_getElem hk]
  constructor
  · intro hd
    obtain ⟨s, hs, hsc⟩ := (h d).1 hd
    exact ⟨s, List.mem_append_left _ hs, hsc⟩
  · rintro ⟨s, hs, hsc⟩
    rcases List.mem_append.1 hs with hs | hs
    · exact (h d).2 ⟨s, hs, hsc⟩
    · rw [List.mem_singleton] at hs
      subst hs
      rw [hc] at hsc
      injection hsc with hsc
      subst hsc
      rw [← hcL]
      exact List.getElem_mem hil'
theorem ofIs_new {C : List Cl} {vs : List (List UInt8)} {L : List Cl} {k : Nat} (hk : k < vs.length) (h : OfIs C (vs.take k) L) {c : Cl} (hc : scC C vs[k] = some c) : OfIs C (vs.take (k + 1)) (L ++ [c]) := by
  intro d
  rw [List.take_succ_eq_append_getElem hk, List.mem_append, List.mem_singleton, h d]
  constructor
  · rintro (⟨s, hs, hsc⟩ | rfl)
    · exact ⟨s, List.mem_append_left _ hs, hsc⟩
    · exact ⟨_, List.mem_append_right _ (List.mem_singleton.2 rfl), hc⟩
  · rintro ⟨s, hs, hsc⟩
    rcases List.mem_append.1 hs with hs | hs
    · exact .inl ⟨s, hs, hsc⟩
    · rw [List.mem_singleton] at hs
      subst hs
      rw [hc] at hsc
      injection hsc with hsc
      exact .inr hsc.symm
end Go.Proofs.YtbihhdkmmlldnaaGreatDoor
namespace Go.Proofs.YtbihhdkmmlldnaaGreatDoor
set_option linter.unusedSimpArgs false
set_option linter.unusedVariables false
open Go Go.RowKit Go.Proofs.BerK Go.Proofs.MemK Go.Proofs.UtfK

def bls (al : List Bool) : List Value := al.map Value.bool
theorem bls_at (al : List Bool) (i : Nat) (h : i < al.length) : (bls al)[i]? = some (.bool al[i]) := by simp [bls, h]
theorem bls_set (al : List Bool) (i : Nat) (b : Bool) : (bls al).set i (.bool b) = bls (al.set i b) := by simp [bls, List.map_set]
theorem Tryz.sninfo4 : (Tryz.prog.info? 4).map (fun i => (i.zero, i.size, i.bytes)) = some (some (.bool false), 1, 1) := by kernel_rfl
/-- Which attributes are allowed, as far as told by S. -/
def okA (N : List (List UInt8)) (own : Nat) (S : List (List UInt8)) (al : List Bool) : Prop := al.length = N.length ∧ ∀ i (h1 : i < al.length) (h2 : i < N.length), al[i] = (decide (i = own) || inL S N[i])
theorem inL_app (S T : List (List UInt8)) (x : List UInt8) : inL (S ++ T) x = (inL S x || inL T x) := by unfold inL; rw [List.any_append]
theorem inL_one (m x : List UInt8) : inL [m] x = (m == x) := by simp [inL]
theorem okA_start (N : List (List UInt8)) (own : Nat) (h : own < N.length) : okA N own [] ((List.replicate N.length false).set own true) := by
  refine ⟨by simp, fun i h1 h2 => ?_⟩
  by_cases e : i = own
  · subst e; simp
  · rw [List.getElem_set_ne (fun h => e h.symm)]; simp [e, inL]
theorem okA_hit {N : List (List UInt8)} {own : Nat} {S : List (List UInt8)} {al : List Bool} (hn : N.Nodup) (h : okA N own S al) {m : List UInt8} {i : Nat} (hi : ixL N m = some i) : okA N own (S ++ [m]) (al.set i true) := by
  obtain ⟨hil, hie⟩ := ix_some hi
  refine ⟨by simpa using h.1, fun j h1 h2 => ?_⟩
  rw [inL_app, inL_one]
  by_cases e : j = i
  · subst e
    rw [List.getElem_set_self, hie]; simp
  · rw [List.getElem_set_ne (fun h => e h.symm), h.2 j (by simpa using h1) h2]
    have : (m == N[j]) = false := by
      rw [beq_eq_false_iff_ne]
      intro e2
      rw [← hie] at e2
      exact e ((List.getElem_inj hn).1 e2).symm
    rw [this, Bool.or_false]
theorem okA_miss {N : List (List UInt8)} {own : Nat} {S : List (List UInt8)} {al : List Bool} (h : okA N own S al) {m : List UInt8} (hi : ixL N m = none) : okA N own (S ++ [m]) al := by
  refine ⟨h.1, fun j h1 h2 => ?_⟩
  rw [inL_app, inL_one, h.2 j h1 h2]
  have : (m == N[j]) = false := by
    rw [beq_eq_false_iff_ne]
    intro e2
    exact ix_none hi (e2 ▸ List.getElem_mem h2)
  rw [this, Bool.or_false]
/-- What classes allow. -/
def alS (L : List Cl) : List (List UInt8) := L.flatMap fun c => c.2.1 ++ c.2.2
theorem alS_take (L : List Cl) (k : Nat) (h : k < L.length) : alS (L.take (k + 1)) = alS (L.take k) ++ L[k].2.1 ++ L[k].2.2 := by
  unfold alS
  rw [List.take_succ_eq_append_getElem h, List.flatMap_append]; simp
def fitB (C : List Cl) (N : List (List UInt8)) (A : List Atr) : Bool :=
  match ixL N objL with
  | none => false
  | some own => match A[own]? with
    | none => false
    | some a => ofOk C a.2 && ((a.2.filterMap (scC C)).all fun c => c.2.1.all (inL N)) && (N.all fun x => x == objL || inL (alS (a.2.filterMap (scC C))) x)
theorem fit_none {C : List Cl} {N : List (List UInt8)} {A : List Atr} (h : ixL N objL = none) : fitB C N A = false := by unfold fitB; rw [h]
theorem fit_of {C : List Cl} {N : List (List UInt8)} {A : List Atr} {own : Nat} (h : ixL N objL = some own) (ho : own < A.length) (hf : ofOk C A[own].2 = false) : fitB C N A = false := by
  unfold fitB; rw [h]; simp [ho, hf]
theorem fit_must {C : List Cl} {N : List (List UInt8)} {A : List Atr} {own : Nat} (h : ixL N objL = some own) (ho : own < A.length) {L : List Cl} (hL : OfIs C A[own].2 L) {c : Cl} (hc : c ∈ L) {m : List UInt8} (hm : m ∈ c.2.1) (hx : ixL N m = none) : fitB C N A = false := by
  unfold fitB; rw [h]; simp only [ho, List.getElem?_eq_getElem]
  have : ((A[own].2.filterMap (scC C)).all fun c => c.2.1.all (inL N)) = false := by
    rw [List.all_eq_false]
    obtain ⟨s, hs, hsc⟩ := (hL c).1 hc
    refine ⟨c, List.mem_filterMap.2 ⟨s, hs, hsc⟩, ?_⟩
    rw [Bool.not_eq_true, List.all_eq_false]
    exact ⟨m, hm, by rw [ix_out hx]; simp⟩
  rw [this, Bool.and_false, Bool.false_and]
theorem alS_mem {C : List Cl} {vs : List (List UInt8)} {L : List Cl} (hL : OfIs C vs L) (x : List UInt8) : inL (alS L) x = inL (alS (vs.filterMap (scC C))) x := by
  rw [Bool.eq_iff_iff]
  unfold inL alS
  simp only [List.any_eq_true, List.mem_flatMap, List.mem_filterMap]
  constructor
  · rintro ⟨y, ⟨c, hc, hy⟩, e⟩
    obtain ⟨s, hs, hsc⟩ := (hL c).1 hc
    exact ⟨y, ⟨c, ⟨s, hs, hsc⟩, hy⟩, e⟩
  · rintro ⟨y, ⟨c, ⟨s, hs, hsc⟩, hy⟩, e⟩
    exact ⟨y, ⟨c, (hL c).2 ⟨s, hs, hsc⟩, hy⟩, e⟩
theorem fit_all {C : List Cl} {N : List (List UInt8)} {A : List Atr} {own : Nat} (h : ixL N objL = some own) (ho : own < A.length) (hf : ofOk C A[own].2 = true) {L : List Cl} (hL : OfIs C A[own].2 L) (hm : ∀ c ∈ L, ∀ m ∈ c.2.1, inL N m = true) (hn : N.Nodup) {al : List Bool} (ha : okA N own (alS L) al) : fitB C N A = !al.contains false := by
  obtain ⟨hol, hoe⟩ := ix_some h
  unfold fitB; rw [h]; simp only [ho, List.getElem?_eq_getElem]
  have h1 : ((A[own].2.filterMap (scC C)).all fun c => c.2.1.all (inL N)) = true := by
    rw [List.all_eq_true]
    intro c hc
    obtain ⟨s, hs, hsc⟩ := List.mem_filterMap.1 hc
    rw [List.all_eq_true]
    exact fun m hm' => hm c ((hL c).2 ⟨s, hs, hsc⟩) m hm'
  rw [hf, h1, Bool.true_and, Bool.true_and]
  rw [Bool.eq_iff_iff, List.all_eq_true, Bool.not_eq_true', List.contains_eq_mem, decide_eq_false_iff_not]
  have key : ∀ i (h1 : i < al.length) (h2 : i < N.length), al[i] = (N[i] == objL || inL (alS (A[own].2.filterMap (scC C))) N[i]) := by
    intro i h1 h2
    rw [ha.2 i h1 h2, alS_mem hL]
    congr 1
    by_cases e : i = own
    · subst e; rw [hoe]; simp
    · have : (N[i] == objL) = false := by
        rw [beq_eq_false_iff_ne]
        intro e2
        rw [← hoe] at e2
        exact e ((List.getElem_inj hn).1 e2)
      rw [this]; simp [e]
  constructor
  · intro hx hm
    obtain ⟨i, hi, e⟩ := List.getElem_of_mem hm
    have h2 : i < N.length := by rw [← ha.1]; exact hi
    rw [key i hi h2, hx _ (List.getElem_mem h2)] at e
    cases e
  · intro hx x hm
    obtain ⟨i, hi, rfl⟩ := List.getElem_of_mem hm
    have h2 : i < al.length := by rw [ha.1]; exact hi
    rw [← key i h2 hi]
    cases hq : al[i]
    · exact absurd (hq ▸ List.getElem_mem h2) hx
    · rfl
end Go.Proofs.YtbihhdkmmlldnaaGreatDoor
namespace Go.Proofs.YtbihhdkmmlldnaaGreatDoor
set_option linter.unusedSimpArgs false
set_option linter.unusedVariables false
open Go Go.RowKit Go.Proofs.BerK Go.Proofs.MemK Go.Proofs.UtfK

theorem scC_mem {C : List Cl} {s : List UInt8} {c : Cl} (hlow : LowC C) (h : scC C s = some c) : c ∈ C := by
  unfold scC at h
  obtain ⟨u, hu, rfl⟩ := Option.map_eq_some_iff.1 h
  have := hlow u (List.mem_of_find?_eq_some hu)
  have e : (lowL u.1, u.2.1.map lowL, u.2.2.map lowL) = u := this
  rw [e]
  exact List.mem_of_find?_eq_some hu
end Go.Proofs.YtbihhdkmmlldnaaGreatDoor
namespace Go.Proofs.YtbihhdkmmlldnaaGreatDoor
set_option linter.unusedSimpArgs false
set_option linter.unusedVariables false
open Go Go.RowKit Go.Proofs.BerK Go.Proofs.MemK Go.Proofs.UtfK

/-- May an entry be? The code. -/
def chkS (T : List Ty) (C : List Cl) (A : List Atr) : Nat :=
  if tyAll T A = false then 17 else if (A.any fun a => a.2.length == 0) = true then 19 else if nmOk (A.map (tyG T)) A = false then 21 else
  if ¬ ((A.map (tyG T)).map (·.1)).Nodup then 20 else if (nmG (A.map (tyG T)) A).any dupL = true then 20 else
  if tmB (A.map (tyG T)) (nmG (A.map (tyG T)) A) = true then 19 else if fitB C ((A.map (tyG T)).map (·.1)) A = false then 65 else 0
theorem tyG_name {T : List Ty} {A : List Atr} (h : tyAll T A = true) : (A.map (tyG T)).map (·.1) = A.map fun a => lowL a.1 := by
  rw [List.map_map]
  apply List.map_congr_left
  intro a ha
  have := List.all_eq_true.1 h a ha
  obtain ⟨t, ht⟩ := Option.isSome_iff_exists.1 this
  simp only [Function.comp, tyG, ht, Option.getD_some]
  exact scT_name ht
theorem nmG_mem {TL : List Ty} {A : List Atr} {l : List (List UInt8)} (h : l ∈ nmG TL A) : ∃ t, ∃ a ∈ A, l = nmV t a := by
  unfold nmG at h
  obtain ⟨i, hi, rfl⟩ := List.getElem_of_mem h
  simp at hi
  exact ⟨TL[i], A[i], List.getElem_mem _, by simp⟩
end Go.Proofs.YtbihhdkmmlldnaaGreatDoor
