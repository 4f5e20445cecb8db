/- The code's slices.Clone of texts; Type and Class of a schema. The code's slices.Clone of texts; Type and Class of a schema. The code's typesOf: the types of attributes. -/
import Derived.Test.YtjbdldbjefmnjaaGreatDoorSnGI
import Derived.Test.YtjbdldbjefmnjaaGreatDoorSnCD
import Derived.Test.YtjbdldbjefmnjaaGreatDoorGenB
import Derived.WalkSpells
import Derived.Deep.RegionHeld3
import Derived.Test.YtjbdldbjefmnjaaGreatDoorSnEF
import Derived.Test.YtjbdldbjefmnjaaGreatDoorScCD
namespace Go.Proofs.YtjbdldbjefmnjaaGreatDoor
set_option linter.unusedSimpArgs false
set_option linter.unusedVariables false
open Go Go.RowKit Go.Proofs.BerK Go.Proofs.MemK Go.Proofs.UtfK

/-- Texts in a row of the call's own. -/
def ClonePost (l : List (List UInt8)) (w : World) (en : Ending) (w' : World) : Prop :=
  ∃ a c, en = .returned (.slice a l.length c) ∧ w'.ownsRow w.heap.size 9 1 (.slice a l.length c) l.length (sc l) ∧ Below w.heap.size w w'
theorem owns_empty (w : World) (e : TypeId) : (w.alloc (.cells #[] e)).ownsRow w.heap.size e 1 (.slice (some ⟨w.heap.size, 0, none⟩) 0 0) 0 [] :=
  ⟨rfl, .inr ⟨w.heap.size, 0, #[], rfl, Nat.le_refl _, heap_alloc_new w _, Nat.le_refl _, Nat.zero_le _, rfl, rfl⟩⟩
/-! ### Type -/
theorem getD_bind {α : Type} (T : List α) (i : Nat) (h : i < T.length) : (some i).bind (fun i => T[i]?) = some T[i] := by simp [h]
end Go.Proofs.YtjbdldbjefmnjaaGreatDoor
namespace Go.Proofs.YtjbdldbjefmnjaaGreatDoor
set_option linter.unusedSimpArgs false
set_option linter.unusedVariables false
open Go Go.RowKit Go.Proofs.BerK Go.Proofs.MemK Go.Proofs.UtfK

/-! ### Class -/
def SClV0 : Value := .tuple #[.agg #[.string ⟨#[]⟩, .slice none 0 0, .slice none 0 0], .bool false]
end Go.Proofs.YtjbdldbjefmnjaaGreatDoor
namespace Go.Proofs.YtjbdldbjefmnjaaGreatDoor
set_option linter.unusedSimpArgs false
set_option linter.unusedVariables false
open Go Go.RowKit Go.Proofs.BerK Go.Proofs.MemK Go.Proofs.UtfK

/-- Attributes in memory, to be read. -/
def AtAt (w : World) (v : Value) (A : List Atr) : Prop :=
  ∃ a c, v = .slice a A.length c ∧ ∀ i (hi : i < A.length), ∃ g o vl, a = some ⟨g, o, none⟩ ∧ g < w.heap.size ∧ w.cell? ⟨g, o + i * 2, none⟩ = some (.string ⟨A[i].1.toArray⟩) ∧ w.cell? ⟨g, o + i * 2 + 1, none⟩ = some vl ∧ TxR w vl A[i].2
theorem atAt_below {w w' : World} {v : Value} {A : List Atr} (h : AtAt w v A) (hb : Below w.heap.size w w') : AtAt w' v A := by
  obtain ⟨a, c, rfl, h⟩ := h
  refine ⟨a, c, rfl, fun i hi => ?_⟩
  obtain ⟨g, o, vl, h1, h2, h3, h4, h5⟩ := h i hi
  exact ⟨g, o, vl, h1, Nat.lt_of_lt_of_le h2 hb.size, (hb.cell (p := ⟨g, _, none⟩) h2).trans h3, (hb.cell (p := ⟨g, _, none⟩) h2).trans h4, txR_below h5 hb⟩
def noTy : Ty := ([], 0, false)
theorem tycs_set : ∀ (R : List Ty) (i : Nat) (h : i < R.length) (t : Ty), (((tycs R).set (i * 3) (.string ⟨t.1.toArray⟩)).set (i * 3 + 1) (.int .i64 t.2.1)).set (i * 3 + 2) (.bool t.2.2) = tycs (R.set i t) := by
  intro R
  induction R with
  | nil => intro i h; simp at h
  | cons r R ih =>
    intro i h t
    have e : ∀ r : Ty, ∀ R, tycs (r :: R) = .string ⟨r.1.toArray⟩ :: .int .i64 r.2.1 :: .bool r.2.2 :: tycs R := fun _ _ => rfl
    cases i with
    | zero => rfl
    | succ i =>
      rw [e, List.set_cons_succ, e, show (i + 1) * 3 = i * 3 + 1 + 1 + 1 by omega]
      simp only [List.set_cons_succ]
      rw [← ih i (by simpa using h) t]
theorem made_three (n : Nat) : madeCells #[Value.string ByteArray.empty, Value.int .i64 0, Value.bool false] (n * 3) = (tycs (List.replicate n noTy)).toArray := by
  apply Array.ext'
  unfold madeCells
  rw [Array.toList_map, Array.toList_range]
  show _ = tycs (List.replicate n noTy)
  induction n with
  | zero => rfl
  | succ n ih =>
    have e : ∀ r : Ty, ∀ R, tycs (R ++ [r]) = tycs R ++ [.string ⟨r.1.toArray⟩, .int .i64 r.2.1, .bool r.2.2] := fun r R => by rw [tycs_append]; rfl
    rw [List.replicate_succ', e, ← ih, show (n + 1) * 3 = n * 3 + 1 + 1 + 1 by omega, List.range_succ, List.range_succ, List.range_succ]
    simp only [List.map_append, List.map_cons, List.map_nil, List.append_assoc, List.cons_append, List.nil_append]
    congr 1
    have h0 : (n * 3) % 3 = 0 := by omega
    have h1 : (n * 3 + 1) % 3 = 1 := by omega
    have h2 : (n * 3 + 1 + 1) % 3 = 2 := by omega
    show [(#[Value.string ByteArray.empty, Value.int .i64 0, Value.bool false] : Array Value)[(n * 3) % 3]!, (#[Value.string ByteArray.empty, Value.int .i64 0, Value.bool false] : Array Value)[(n * 3 + 1) % 3]!, (#[Value.string ByteArray.empty, Value.int .i64 0, Value.bool false] : Array Value)[(n * 3 + 1 + 1) % 3]!] = _
    rw [h0, h1, h2]
    rfl
theorem take_set' {α : Type} (R : List α) (j : Nat) (h : j < R.length) (q : α) : (R.set j q).take (j + 1) = R.take j ++ [q] := by
  rw [List.take_succ_eq_append_getElem (by simpa using h), List.take_set, List.set_eq_of_length_le (by rw [List.length_take]; omega)]
  simp
/-- The type of an attribute. -/
def tyG (T : List Ty) (a : Atr) : Ty := (scT T a.1).getD noTy
def tyAll (T : List Ty) (A : List Atr) : Bool := A.all fun a => (scT T a.1).isSome
def TysPost (T : List Ty) (A : List Atr) (w : World) (en : Ending) (w' : World) : Prop :=
  (tyAll T A = false → en = .returned (.tuple #[.slice none 0 0, .bool false])) ∧ (tyAll T A = true → ∃ a c, en = .returned (.tuple #[.slice a A.length c, .bool true]) ∧ TyAt w' (.slice a A.length c) (A.map (tyG T))) ∧ Below w.heap.size w w'
theorem tysPost_bad {T : List Ty} {A : List Atr} {w w' : World} (h : tyAll T A = false) (hb : Below w.heap.size w w') : TysPost T A w (.returned (.tuple #[.slice none 0 0, .bool false])) w' :=
  ⟨fun _ => rfl, (fun h2 => by rw [h] at h2; cases h2), hb⟩
theorem tysPost_ok {T : List Ty} {A : List Atr} {w w' : World} {a : Option Addr} {c n : Nat} (h : tyAll T A = true) (hn : A.length = n) (ht : TyAt w' (.slice a n c) (A.map (tyG T))) (hb : Below w.heap.size w w') : TysPost T A w (.returned (.tuple #[.slice a n c, .bool true])) w' := by
  subst hn
  exact ⟨(fun h2 => by rw [h] at h2; cases h2), fun _ => ⟨a, c, rfl, ht⟩, hb⟩
theorem tyAt_blk {w : World} {g : Nat} {R : List Ty} {e : TypeId} {c : Nat} (h : w.heap[g]? = some (.cells (tycs R).toArray e (0, 0))) : TyAt w (.slice (some ⟨g, 0, none⟩) R.length c) R := by
  refine ⟨_, _, rfl, fun i hi => ⟨g, 0, rfl, obj_lt h, ?_⟩⟩
  obtain ⟨h1, h2, h3⟩ := tycs_at R i hi
  rw [Nat.zero_add]
  exact ⟨obj_cell h _ _ (by simpa using h1), obj_cell h _ _ (by simpa using h2), obj_cell h _ _ (by simpa using h3)⟩
end Go.Proofs.YtjbdldbjefmnjaaGreatDoor
