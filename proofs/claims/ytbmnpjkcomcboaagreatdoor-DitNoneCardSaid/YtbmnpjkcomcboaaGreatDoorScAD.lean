/- The document's in, lower, names and twice, for all texts. Types and classes in memory; the document's type of a name. The document's class of a name. Whether types and classes may be: the document's check. -/
import Derived.Test.YtbmnpjkcomcboaaGreatDoorPlnA
import Derived.Test.YtbmnpjkcomcboaaGreatDoorGenA
import Derived.Test.YtbmnpjkcomcboaaGreatDoorDqC
import Derived.Test.YtbmnpjkcomcboaaGreatDoorDqA
import Derived.Test.YtbmnpjkcomcboaaGreatDoorGenB
import Derived.WideShapes
namespace Go.Proofs.YtbmnpjkcomcboaaGreatDoor
set_option linter.unusedSimpArgs false
set_option linter.unusedVariables false
open Go Go.RowKit Go.Proofs.BerK Go.Proofs.MemK Go.Proofs.UtfK

theorem Tryz.scinfo9 : (Tryz.prog.info? 9).map (fun i => (i.zero, i.size, i.bytes)) = some (some (.string ByteArray.empty), 1, 16) := by kernel_rfl
end Go.Proofs.YtbmnpjkcomcboaaGreatDoor
namespace Go.Proofs.YtbmnpjkcomcboaaGreatDoor
set_option linter.unusedSimpArgs false
set_option linter.unusedVariables false
open Go Go.RowKit Go.Proofs.BerK Go.Proofs.MemK Go.Proofs.UtfK

def TyAt (w : World) (v : Value) (T : List Ty) : Prop :=
  ∃ a c, v = .slice a T.length c ∧ ∀ i (hi : i < T.length), ∃ g o, a = some ⟨g, o, none⟩ ∧ g < w.heap.size ∧ w.cell? ⟨g, o + i * 3, none⟩ = some (.string ⟨T[i].1.toArray⟩) ∧ w.cell? ⟨g, o + i * 3 + 1, none⟩ = some (.int .i64 T[i].2.1) ∧ w.cell? ⟨g, o + i * 3 + 2, none⟩ = some (.bool T[i].2.2)
theorem tyAt_below {w w' : World} {v : Value} {T : List Ty} (h : TyAt w v T) (hb : Below w.heap.size w w') : TyAt w' v T := by
  obtain ⟨a, c, rfl, h⟩ := h
  refine ⟨a, c, rfl, fun i hi => ?_⟩
  obtain ⟨g, o, h1, h2, h3, h4, h5⟩ := h i hi
  exact ⟨g, o, h1, Nat.lt_of_lt_of_le h2 hb.size, (hb.cell (p := ⟨g, _, none⟩) h2).trans h3, (hb.cell (p := ⟨g, _, none⟩) h2).trans h4, (hb.cell (p := ⟨g, _, none⟩) h2).trans h5⟩
def SlOk (v : Value) : Prop := v = .slice none 0 0 ∨ ∃ ad n c, v = .slice (some ad) n c
theorem rd_txR {w : World} {v : Value} {l : List (List UInt8)} (h : TxR w v l) (hk : SlOk v) : RdRow w 1 v l.length (sc l) := by
  obtain ⟨a, c, rfl, h⟩ := h
  refine ⟨by simp [sc], ?_⟩
  rcases hk with hk | ⟨ad, n, c', hk⟩
  · injection hk with h1 h2 h3
    exact .inl ⟨by rw [h1, h2, h3], h2⟩
  · injection hk with h1 h2 h3
    subst h1
    refine .inr ⟨ad, c, rfl, fun j u hj => ?_⟩
    have hjl : j < l.length := by
      have := (List.getElem?_eq_some_iff.1 hj).1
      simpa [sc] using this
    obtain ⟨g, o, e, _, h3⟩ := h j hjl
    injection e with e
    subst e
    rw [WideShapes.add_plain, h3, ← hj]
    simp [sc, hjl]
def ClAt (w : World) (v : Value) (C : List Cl) : Prop :=
  ∃ a c, v = .slice a C.length c ∧ ∀ i (hi : i < C.length), ∃ g o mu ma, a = some ⟨g, o, none⟩ ∧ g < w.heap.size ∧ w.cell? ⟨g, o + i * 3, none⟩ = some (.string ⟨C[i].1.toArray⟩) ∧ w.cell? ⟨g, o + i * 3 + 1, none⟩ = some mu ∧ w.cell? ⟨g, o + i * 3 + 2, none⟩ = some ma ∧ TxR w mu C[i].2.1 ∧ TxR w ma C[i].2.2 ∧ SlOk mu ∧ SlOk ma
theorem clAt_below {w w' : World} {v : Value} {C : List Cl} (h : ClAt w v C) (hb : Below w.heap.size w w') : ClAt w' v C := by
  obtain ⟨a, c, rfl, h⟩ := h
  refine ⟨a, c, rfl, fun i hi => ?_⟩
  obtain ⟨g, o, mu, ma, h1, h2, h3, h4, h5, h6, h7, h8⟩ := h i hi
  exact ⟨g, o, mu, ma, h1, Nat.lt_of_lt_of_le h2 hb.size, (hb.cell (p := ⟨g, _, none⟩) h2).trans h3, (hb.cell (p := ⟨g, _, none⟩) h2).trans h4, (hb.cell (p := ⟨g, _, none⟩) h2).trans h5, txR_below h6 hb, txR_below h7 hb, h8⟩
theorem obj2s {w : World} {g : Nat} {a b : Value} {t : TypeId} (h : w.heap[g]? = some (.cells #[a, b] t (0, 0))) : w.cell? ⟨g, 0, none⟩ = some a ∧ w.cell? ⟨g, 1, none⟩ = some b :=
  ⟨obj_cell h 0 a rfl, obj_cell h 1 b rfl⟩
theorem box3s {w w1 : World} {a b c : Value} {t : TypeId} (hb : Below (w.alloc (.cells #[a, b, c] t)).heap.size (w.alloc (.cells #[a, b, c] t)) w1) : w1.heap[w.heap.size]? = some (.cells #[a, b, c] t (0, 0)) ∧ Below w.heap.size w w1 :=
  ⟨obj_below (heap_alloc_new w _) hb (by simp), ((Below.refl _ w).alloc (Nat.le_refl _) _).trans (hb.mono (by simp))⟩
def TyV (o : Option Ty) : Value := match o with
  | none => .tuple #[.agg #[.string ⟨#[]⟩, .int .i64 0, .bool false], .bool false]
  | some t => .tuple #[.agg #[.string ⟨t.1.toArray⟩, .int .i64 t.2.1, .bool t.2.2], .bool true]
def TyPost (o : Option Ty) (w : World) (en : Ending) (w' : World) : Prop := en = .returned (TyV o) ∧ Below w.heap.size w w'
end Go.Proofs.YtbmnpjkcomcboaaGreatDoor
namespace Go.Proofs.YtbmnpjkcomcboaaGreatDoor
set_option linter.unusedSimpArgs false
set_option linter.unusedVariables false
open Go Go.RowKit Go.Proofs.BerK Go.Proofs.MemK Go.Proofs.UtfK

end Go.Proofs.YtbmnpjkcomcboaaGreatDoor
namespace Go.Proofs.YtbmnpjkcomcboaaGreatDoor
set_option linter.unusedSimpArgs false
set_option linter.unusedVariables false
open Go Go.RowKit Go.Proofs.BerK Go.Proofs.MemK Go.Proofs.UtfK

def ScI (n : Int) (w : World) (en : Ending) (w' : World) : Prop := en = .returned (.int .i64 n) ∧ Below w.heap.size w w'
theorem scI_mk {n m : Int} {w w' : World} (h : n = m) (hb : Below w.heap.size w w') : ScI n w (.returned (.int .i64 m)) w' := by subst h; exact ⟨rfl, hb⟩
end Go.Proofs.YtbmnpjkcomcboaaGreatDoor
