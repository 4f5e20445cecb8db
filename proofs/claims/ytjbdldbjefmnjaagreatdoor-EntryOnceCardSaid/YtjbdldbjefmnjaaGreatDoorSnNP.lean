/- The code's norms: the values of attributes as they count. The code's namesOf and hasTwice: the places of types' names; whether two values are the same. The code's hasTwice, hasTooMany, and whether an attribute has no values. -/
import Derived.Test.YtjbdldbjefmnjaaGreatDoorSnJK
import Derived.Test.YtjbdldbjefmnjaaGreatDoorRuAD
namespace Go.Proofs.YtjbdldbjefmnjaaGreatDoor
set_option linter.unusedSimpArgs false
set_option linter.unusedVariables false
open Go Go.RowKit Go.Proofs.BerK Go.Proofs.MemK Go.Proofs.UtfK

/-- Rows of texts in memory, to be read. -/
def GrAt (w : World) (v : Value) (G : List (List (List UInt8))) : Prop :=
  ∃ a c, v = .slice a G.length c ∧ ∀ i (hi : i < G.length), ∃ g o vl, a = some ⟨g, o, none⟩ ∧ g < w.heap.size ∧ w.cell? ⟨g, o + i, none⟩ = some vl ∧ TxR w vl G[i]
theorem grAt_below {w w' : World} {v : Value} {G : List (List (List UInt8))} (h : GrAt w v G) (hb : Below w.heap.size w w') : GrAt w' v G := by
  obtain ⟨a, c, rfl, h⟩ := h
  refine ⟨a, c, rfl, fun i hi => ?_⟩
  obtain ⟨g, o, vl, h1, h2, h3, h4⟩ := h i hi
  exact ⟨g, o, vl, h1, Nat.lt_of_lt_of_le h2 hb.size, (hb.cell (p := ⟨g, _, none⟩) h2).trans h3, txR_below h4 hb⟩
theorem txR_chg {S : Nat → Prop} {w w' : World} {v : Value} {l : List (List UInt8)} (h : TxR w v l) (hc : Chg S w w') (hs : ∀ g o n c, v = .slice (some ⟨g, o, none⟩) n c → ¬ S g) : TxR w' v l := by
  obtain ⟨a, c, rfl, h⟩ := h
  refine ⟨a, c, rfl, fun i hi => ?_⟩
  obtain ⟨g, o, rfl, h2, h3⟩ := h i hi
  exact ⟨g, o, rfl, Nat.lt_of_lt_of_le h2 hc.size, (World.cell?_of_block (w := w) (a := ⟨g, o + i, none⟩) (hc.block g h2 (hs g o _ _ rfl))).trans h3⟩
/-- The values of an attribute of a type as they count. -/
def nmV (t : Ty) (a : Atr) : List (List UInt8) := a.2.map fun s => (ruN t.2.1 s).1
def nmG (TL : List Ty) (A : List Atr) : List (List (List UInt8)) := List.zipWith nmV TL A
def nmOk (TL : List Ty) (A : List Atr) : Bool := (List.zipWith (fun t a => a.2.all fun s => (ruN t.2.1 s).2) TL A).all id
theorem nmOk_bad {TL : List Ty} {A : List Atr} (k : Nat) (h1 : k < TL.length) (h2 : k < A.length) (j : Nat) (hj : j < A[k].2.length) (h : (ruN TL[k].2.1 A[k].2[j]).2 = false) : nmOk TL A = false := by
  unfold nmOk
  rw [List.all_eq_false]
  refine ⟨(A[k].2.all fun s => (ruN TL[k].2.1 s).2), ?_, ?_⟩
  · rw [List.mem_iff_getElem]
    exact ⟨k, by simp; omega, by simp⟩
  · simp only [id, Bool.not_eq_true]
    rw [List.all_eq_false]
    exact ⟨A[k].2[j], List.getElem_mem hj, by rw [h]; simp⟩
theorem nmOk_good {TL : List Ty} {A : List Atr} (h : ∀ k (h1 : k < TL.length) (h2 : k < A.length) j (hj : j < A[k].2.length), (ruN TL[k].2.1 A[k].2[j]).2 = true) : nmOk TL A = true := by
  unfold nmOk
  rw [List.all_eq_true]
  intro x hx
  obtain ⟨k, hk, rfl⟩ := List.getElem_of_mem hx
  simp only [List.getElem_zipWith, id]
  rw [List.all_eq_true]
  intro s hs
  obtain ⟨j, hj, rfl⟩ := List.getElem_of_mem hs
  exact h k (by simp at hk; omega) (by simp at hk; omega) j hj
def NmsPost (TL : List Ty) (A : List Atr) (w : World) (en : Ending) (w' : World) : Prop :=
  (nmOk TL A = false → en = .returned (.tuple #[.slice none 0 0, .bool false])) ∧ (nmOk TL A = true → ∃ v, en = .returned (.tuple #[v, .bool true]) ∧ GrAt w' v (nmG TL A)) ∧ Below w.heap.size w w'
theorem nmsPost_bad {TL : List Ty} {A : List Atr} {w w' : World} (h : nmOk TL A = false) (hb : Below w.heap.size w w') : NmsPost TL A w (.returned (.tuple #[.slice none 0 0, .bool false])) w' :=
  ⟨fun _ => rfl, (fun h2 => by rw [h] at h2; cases h2), hb⟩
theorem nmsPost_ok {TL : List Ty} {A : List Atr} {w w' : World} {v : Value} (h : nmOk TL A = true) (ht : GrAt w' v (nmG TL A)) (hb : Below w.heap.size w w') : NmsPost TL A w (.returned (.tuple #[v, .bool true])) w' :=
  ⟨(fun h2 => by rw [h] at h2; cases h2), fun _ => ⟨v, rfl, ht⟩, hb⟩
theorem Tryz.sninfo25 : (Tryz.prog.info? 25).map (fun i => (i.zero, i.size, i.bytes)) = some (some (.slice none 0 0), 1, 24) := by kernel_rfl
theorem made_gr (n : Nat) (W : World) (hn : n ≤ 1000000) : (Instr.makeSlice 124 (.int .i64 (n : Int)) (.int .i64 (n : Int))).run Tryz.prog W = .ok (.slice (some ⟨W.heap.size, 0, none⟩) n n) (W.alloc (.cells (List.replicate n (Value.slice none 0 0)).toArray 25)) := by
  obtain ⟨i0, hi, hz0, hz1, hz2⟩ := info_parts Tryz.sninfo25
  have h := run_make (P := Tryz.prog) W 124 25 i0 (.slice none 0 0) Tryz.underlying124 hi hz0 .i64 .i64 (n : Int) (n : Int) (by omega) (by omega) (by rw [hz2]; omega) (by omega)
  have e : madeCells (Value.slice none 0 0).cells ((n : Int).toNat * i0.size) = (List.replicate n (Value.slice none 0 0)).toArray := by
    apply Array.ext'
    rw [hz1, show (n : Int).toNat * 1 = n by omega]
    exact (toList_madeCells_one _ n).trans (by simp)
  rw [e] at h
  simpa using h
/-- Rows that are done: each lies in a block of its own, apart from the outer one. -/
def DoneR (w : World) (B : Nat) (vs : List Value) (G : List (List (List UInt8))) (k : Nat) : Prop :=
  ∀ i (h1 : i < vs.length) (h2 : i < G.length), i < k → TxR w vs[i] G[i] ∧ ∀ g o n c, vs[i] = .slice (some ⟨g, o, none⟩) n c → g ≠ B
theorem doneR_chg {w w' : World} {B : Nat} {vs : List Value} {G : List (List (List UInt8))} {k : Nat} (h : DoneR w B vs G k) (hc : Chg (fun j => j = B) w w') : DoneR w' B vs G k := fun i h1 h2 hi =>
  ⟨txR_chg (h i h1 h2 hi).1 hc (fun g o n c e => (h i h1 h2 hi).2 g o n c e), (h i h1 h2 hi).2⟩
theorem doneR_set {w : World} {B : Nat} {vs : List Value} {G : List (List (List UInt8))} {k : Nat} (h : DoneR w B vs G k) (hk : k < vs.length) (hk2 : k < G.length) (v : Value) (hv : TxR w v G[k]) (hb : ∀ g o n c, v = .slice (some ⟨g, o, none⟩) n c → g ≠ B) : DoneR w B (vs.set k v) G (k + 1) := by
  intro i h1 h2 hi
  by_cases e : i = k
  · subst e
    rw [List.getElem_set_self]
    exact ⟨hv, hb⟩
  · rw [List.getElem_set_ne (fun h => e h.symm)]
    exact h i (by simpa using h1) h2 (by omega)
theorem doneR_keep {w : World} {B : Nat} {vs : List Value} {G : List (List (List UInt8))} {k : Nat} (h : DoneR w B vs G k) (v : Value) : DoneR w B (vs.set k v) G k := by
  intro i h1 h2 hi
  rw [List.getElem_set_ne (by omega)]
  exact h i (by simpa using h1) h2 hi
end Go.Proofs.YtjbdldbjefmnjaaGreatDoor
namespace Go.Proofs.YtjbdldbjefmnjaaGreatDoor
set_option linter.unusedSimpArgs false
set_option linter.unusedVariables false
open Go Go.RowKit Go.Proofs.BerK Go.Proofs.MemK Go.Proofs.UtfK

theorem nmAt_form {w : World} {mv : Value} {N : List (List UInt8)} (h : NmAt w mv N) : ∃ q, mv = .map q := by
  rcases h with ⟨h, _⟩ | ⟨b, D, h, _⟩
  · exact ⟨_, h⟩
  · exact ⟨_, h⟩
def NmsV (N : List (List UInt8)) (w : World) (en : Ending) (w' : World) : Prop :=
  (¬ N.Nodup → en = .returned (.tuple #[.agg #[.map none], .bool false])) ∧ (N.Nodup → ∃ mv, en = .returned (.tuple #[.agg #[mv], .bool true]) ∧ NmAt w' mv N) ∧ Below w.heap.size w w'
theorem nmsV_bad {N : List (List UInt8)} {w w' : World} (h : ¬ N.Nodup) (hb : Below w.heap.size w w') : NmsV N w (.returned (.tuple #[.agg #[.map none], .bool false])) w' := ⟨fun _ => rfl, fun h2 => absurd h2 h, hb⟩
theorem nmsV_ok {N : List (List UInt8)} {w w' : World} {mv : Value} (h : N.Nodup) (hm : NmAt w' mv N) (hb : Below w.heap.size w w') : NmsV N w (.returned (.tuple #[.agg #[mv], .bool true])) w' := ⟨fun h2 => absurd h h2, fun _ => ⟨mv, rfl, hm⟩, hb⟩
end Go.Proofs.YtjbdldbjefmnjaaGreatDoor
namespace Go.Proofs.YtjbdldbjefmnjaaGreatDoor
set_option linter.unusedSimpArgs false
set_option linter.unusedVariables false
open Go Go.RowKit Go.Proofs.BerK Go.Proofs.MemK Go.Proofs.UtfK

def dupL (l : List (List UInt8)) : Bool := !decide l.Nodup
theorem dup_yes {l : List (List UInt8)} (h : ¬ l.Nodup) : dupL l = true := by unfold dupL; rw [decide_eq_false h]; rfl
theorem dup_no {l : List (List UInt8)} (h : l.Nodup) : dupL l = false := by unfold dupL; rw [decide_eq_true h]; rfl
def IxB (b : Bool) (g : Nat) (w : World) (en : Ending) (w' : World) : Prop := ∃ n : Int, en = .returned (.int .i64 n) ∧ decide (0 ≤ n) = b ∧ Below g w w'
/-! ### attributes without values -/
/-! ### too many values -/
def tmB (TL : List Ty) (G : List (List (List UInt8))) : Bool := (List.zipWith (fun t g => t.2.2 && decide (1 < g.length)) TL G).any id
theorem tm_at {TL : List Ty} {G : List (List (List UInt8))} (k : Nat) (h1 : k < TL.length) (h2 : k < G.length) (h : (TL[k].2.2 && decide (1 < G[k].length)) = true) : tmB TL G = true := by
  unfold tmB
  rw [List.any_eq_true]
  exact ⟨_, List.mem_iff_getElem.2 ⟨k, by simp; omega, rfl⟩, by simpa using h⟩
theorem tm_no {TL : List Ty} {G : List (List (List UInt8))} (h : ∀ k (h1 : k < TL.length) (h2 : k < G.length), (TL[k].2.2 && decide (1 < G[k].length)) = false) : tmB TL G = false := by
  unfold tmB
  rw [List.any_eq_false]
  intro x hx
  obtain ⟨k, hk, rfl⟩ := List.getElem_of_mem hx
  have := h k (by simp at hk; omega) (by simp at hk; omega)
  simp only [List.getElem_zipWith, id]
  rw [this]; simp
end Go.Proofs.YtjbdldbjefmnjaaGreatDoor
