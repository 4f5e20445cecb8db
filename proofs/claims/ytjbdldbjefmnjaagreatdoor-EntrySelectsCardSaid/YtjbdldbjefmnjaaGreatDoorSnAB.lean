/- Whether names and rules may be: the code's isLetter, isName, isRule, and the predicates of the tables. A table of names in memory: the place of a name, and a name put behind those that are there. -/
import Derived.Test.YtjbdldbjefmnjaaGreatDoorPlnA
import Derived.Test.YtjbdldbjefmnjaaGreatDoorDqA
import Derived.Test.YtjbdldbjefmnjaaGreatDoorFoldCE
import Derived.Test.YtjbdldbjefmnjaaGreatDoorChecked
import Derived.Test.YtjbdldbjefmnjaaGreatDoorGenB
import Derived.Maps.OwnOps
import Derived.WalkSpells
import Derived.StillTailTactics
import Derived.Maps.OwnSet
import Derived.Maps.Views
import Derived.StringKeys
namespace Go.Proofs.YtjbdldbjefmnjaaGreatDoor
set_option linter.unusedSimpArgs false
set_option linter.unusedVariables false
open Go Go.RowKit Go.Proofs.BerK Go.Proofs.MemK Go.Proofs.UtfK

/-! ### the predicates -/
def BB (b : Bool) (w : World) (en : Ending) (w' : World) : Prop := en = .returned (.bool b) ∧ Below w.heap.size w w'
theorem bB_mk {a b : Bool} {w w' : World} (h : b = a) (hb : Below w.heap.size w w') : BB b w (.returned (.bool a)) w' := by subst h; exact ⟨rfl, hb⟩
end Go.Proofs.YtjbdldbjefmnjaaGreatDoor
namespace Go.Proofs.YtjbdldbjefmnjaaGreatDoor
set_option linter.unusedSimpArgs false
set_option linter.unusedVariables false
open Go Go.RowKit Go.Proofs.BerK Go.Proofs.MemK Go.Maps Go.WideMaps

theorem snlaw : Keyed Tryz.prog 9 := string_keyed Tryz.underlying9
theorem snzero (w : World) : (zeroValue 3).run Tryz.prog w = .ok (.int .i64 0) w := by kernel_rfl
theorem snkey (s : List UInt8) (h : s.length ≤ 140737488355328) : keyOf Tryz.prog 9 (.string ⟨s.toArray⟩) = some (.string s) :=
  keyOf_string_mk Tryz.underlying9 (s := ⟨s.toArray⟩) (by show s.length ≤ maxLen; unfold maxLen; omega)
theorem snIsKey {s : List UInt8} : WideAt.IsKeyLit (.string s) := by simp [WideAt.IsKeyLit]
/-- A datum is the map of names to their places. -/
def NmIs (D : DataW Unit) (N : List (List UInt8)) : Prop :=
  (∀ s : List UInt8, Maps.has D (.string s) = (ixL N s).isSome) ∧ (∀ s : List UInt8, D.atKey (.string s) (.lit (.int .i64 0)) = .lit (.int .i64 (((ixL N s).getD 0 : Nat) : Int))) ∧ Maps.size D = N.length
/-- The map of a table of names. -/
def NmAt (w : World) (mv : Value) (N : List (List UInt8)) : Prop :=
  (mv = .map none ∧ N = []) ∨ ∃ b D, mv = .map (some b) ∧ w.ownsMap Tryz.prog 9 (plainElem (H := Unit) Tryz.prog 3) b N.length D ∧ NmIs D N
theorem nmAt_nil (w : World) : NmAt w (.map none) [] := .inl ⟨rfl, rfl⟩
theorem ownsMap_chg {S : Nat → Prop} {w w' : World} {b n : Nat} {D : DataW Unit} (h : w.ownsMap Tryz.prog 9 (plainElem Tryz.prog 3) b n D) (hc : Chg S w w') (hs : ¬ S b) : w'.ownsMap Tryz.prog 9 (plainElem Tryz.prog 3) b n D := by
  have hlt := h.lt
  obtain ⟨es, clock, hb, F, hs', hD⟩ := h
  exact ⟨es, clock, (hc.block b hlt hs).trans hb, F, hs', hD⟩
theorem nmAt_chg {S : Nat → Prop} {w w' : World} {mv : Value} {N : List (List UInt8)} (h : NmAt w mv N) (hc : Chg S w w') (hs : ∀ b, mv = .map (some b) → ¬ S b) : NmAt w' mv N := by
  rcases h with h | ⟨b, D, rfl, h, hD⟩
  · exact .inl h
  · exact .inr ⟨b, D, rfl, ownsMap_chg h hc (hs b rfl), hD⟩
theorem nmAt_below {w w' : World} {mv : Value} {N : List (List UInt8)} (h : NmAt w mv N) (hb : Below w.heap.size w w') : NmAt w' mv N :=
  nmAt_chg h (Chg.ofBelow (S := fun _ => False) hb) (fun _ _ h => h)
theorem nmAt_lt {w : World} {b : Nat} {N : List (List UInt8)} (h : NmAt w (.map (some b)) N) : b < w.heap.size := by
  rcases h with ⟨h, _⟩ | ⟨b', D, h, hm, _⟩
  · cases h
  · injection h with h; injection h with h; subst h; exact hm.lt
/-- The block of a map is no row. -/
theorem nmAt_ne {w : World} {b g : Nat} {N : List (List UInt8)} {cs : Array Value} {t : TypeId} {m : Nat × Nat} (h : NmAt w (.map (some b)) N) (hg : w.heap[g]? = some (.cells cs t m)) : b ≠ g := by
  rcases h with ⟨h, _⟩ | ⟨b', D, h, hm, _⟩
  · cases h
  · injection h with h; injection h with h; subst h
    obtain ⟨es, clock, hb, _⟩ := hm
    rintro rfl
    rw [hb] at hg; cases hg
theorem lit_int_inj {a b : Int} (h : (DataW.lit (.int .i64 a) : DataW Unit) = .lit (.int .i64 b)) : a = b := by cases h; rfl
/-- What the place of a name is told as. -/
def plV (o : Option Nat) : Value := match o with
  | none => .tuple #[.int .i64 0, .bool false]
  | some i => .tuple #[.int .i64 (i : Nat), .bool true]
def PlPost (o : Option Nat) (w : World) (en : Ending) (w' : World) : Prop := en = .returned (plV o) ∧ w = w'
theorem nm_look {w : World} {mv : Value} {N : List (List UInt8)} (h : NmAt w mv N) (s : List UInt8) (hs : s.length ≤ 140737488355328) :
    (Instr.lookup 61 mv (.string ⟨s.toArray⟩) true).run Tryz.prog w = .ok (plV (ixL N s)) w := by
  rcases h with ⟨rfl, rfl⟩ | ⟨b, D, rfl, h, h1, h2, _⟩
  · exact Maps.look_nil true snlaw Tryz.underlying61 (snzero w) (snkey s hs)
  · obtain ⟨v, ps, hrun, hv⟩ := h.look_ok snlaw Tryz.underlying61 (snzero w) (plainElem_int Tryz.underlying3 (by decide)) (snkey s hs)
    rw [hrun]
    obtain ⟨c, rfl, hc, _⟩ := plainElem_int_inv Tryz.underlying3 hv
    have e : c = (((ixL N s).getD 0 : Nat) : Int) := by
      have e1 := congrArg Prod.fst hc
      have e2 := (h2 s).symm.trans e1
      exact (lit_int_inj e2).symm
    rw [e, h1]
    cases hq : ixL N s with
    | none => rfl
    | some i => rfl
/-! ### a name more -/
theorem nmIs_put {D : DataW Unit} {N : List (List UInt8)} {s : List UInt8} (hT : Tidy D) (h : NmIs D N) (hn : ixL N s = none) : NmIs (D.put (.string s) (.lit (.int .i64 (N.length : Nat)))) (N ++ [s]) := by
  obtain ⟨h1, h2, h3⟩ := h
  have hh : Maps.has D (.string s) = false := by rw [h1, hn]; rfl
  refine ⟨fun k => ?_, fun k => ?_, ?_⟩
  · rw [ix_snoc]
    by_cases e : k = s
    · subst e
      rw [has_put_same hT.isMap snIsKey, hn]
      simp
    · have e2 : (s == k) = false := by simpa using fun h => e h.symm
      rw [has_put_other (fun q => e (by injection q)), h1, e2]
      simp
  · rw [ix_snoc]
    by_cases e : k = s
    · subst e
      rw [atKey_put_same hT.isMap snIsKey, hn]
      simp
    · have e2 : (s == k) = false := by simpa using fun h => e h.symm
      rw [atKey_put_other (fun q => e (by injection q)), h2, e2]
      simp
  · rw [size_put hT, hh, h3]; simp
/-- What putting a name behind those that are there leaves. -/
def AddPost (cs : Array Value) (t : TypeId) (g o : Nat) (mv : Value) (N : List (List UInt8)) (s : List UInt8) (w : World) (en : Ending) (w' : World) : Prop :=
  (∀ i, ixL N s = some i → en = .returned (.bool false) ∧ w = w') ∧
  (ixL N s = none → ∃ b, en = .returned (.bool true) ∧ w'.heap[g]? = some (.cells (cs.setIfInBounds o (.map (some b))) t (0, 0)) ∧ NmAt w' (.map (some b)) (N ++ [s]) ∧ (mv = .map (some b) ∨ (mv = .map none ∧ w.heap.size ≤ b)) ∧ Chg (fun k => k = g ∨ mv = .map (some k)) w w')
theorem nmIs_nil : NmIs (.map []) [] := ⟨fun s => rfl, fun s => rfl, rfl⟩
theorem sn_setcell {w : World} {g o b : Nat} {cs : Array Value} {t : TypeId} {v : Value} (hg : w.heap[g]? = some (.cells cs t (0, 0))) : (w.setCell ⟨g, o, none⟩ v).heap[g]? = some (.cells (cs.setIfInBounds o v) t (0, 0)) := obj_set hg o v
end Go.Proofs.YtjbdldbjefmnjaaGreatDoor
