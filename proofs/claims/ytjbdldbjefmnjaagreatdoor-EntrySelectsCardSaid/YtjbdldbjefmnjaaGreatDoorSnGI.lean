/- The code's hasTypes: is there a type for all that classes ask for? The code's New: a schema of types and classes. The plain schema: its types and classes, and the code's Plain. -/
import Derived.Test.YtjbdldbjefmnjaaGreatDoorSnCD
import Derived.Test.YtjbdldbjefmnjaaGreatDoorSnAB
import Derived.Test.YtjbdldbjefmnjaaGreatDoorSnEF
namespace Go.Proofs.YtjbdldbjefmnjaaGreatDoor
set_option linter.unusedSimpArgs false
set_option linter.unusedVariables false
open Go Go.RowKit Go.Proofs.BerK Go.Proofs.MemK Go.Proofs.UtfK

theorem plV_some (i : Nat) : plV (some i) = .tuple #[.int .i64 (i : Nat), .bool true] := rfl
theorem plV_none : plV none = .tuple #[.int .i64 0, .bool false] := rfl
def IxP (b : Bool) (w : World) (en : Ending) (w' : World) : Prop := ∃ n : Int, en = .returned (.int .i64 n) ∧ decide (0 ≤ n) = b ∧ w = w'
def objL : List UInt8 := [111, 98, 106, 101, 99, 116, 99, 108, 97, 115, 115]
def misC (N : List (List UInt8)) (c : Cl) : Bool := (c.2.1.any fun s => !inL N s) || (c.2.2.any fun s => !inL N s)
def hasTyB (N : List (List UInt8)) (C : List Cl) : Bool := !(C.any (misC N)) && inL N objL
end Go.Proofs.YtjbdldbjefmnjaaGreatDoor
namespace Go.Proofs.YtjbdldbjefmnjaaGreatDoor
set_option linter.unusedSimpArgs false
set_option linter.unusedVariables false
open Go Go.RowKit Go.Proofs.BerK Go.Proofs.MemK Go.Proofs.UtfK

/-- May types and classes be a schema? The error's number. -/
def scNw (T : List Ty) (C : List Cl) : Nat :=
  if 1024 < T.length ∨ 1024 < C.length then 3 else if scChk T C ≠ 0 then scChk T C else if hasTyB ((T.map lowTy).map (·.1)) (C.map lowCl) = true then 0 else 8
theorem scChk_fill (T : List Ty) (C : List Cl) : scChk T C = if scFT T ≠ 0 then scFT T else scFC C := by
  have h : ∀ l, nmsL l = 0 ∨ nmsL l = 13 := fun l => by unfold nmsL; split; exact .inl rfl; exact .inr rfl
  unfold scChk scFT scFC
  rcases h (T.map Prod.fst) with h1 | h1 <;> rcases h (C.map Prod.fst) with h2 | h2 <;> simp only [h1, h2] <;> simp <;> (repeat' split) <;> simp_all
theorem scFT_vals (T : List Ty) : scFT T = 0 ∨ scFT T = 13 ∨ scFT T = 1 ∨ scFT T = 9 := by
  unfold scFT; repeat' split
  all_goals simp
theorem scFC_vals (C : List Cl) : scFC C = 0 ∨ scFC C = 13 ∨ scFC C = 9 := by
  unfold scFC; repeat' split
  all_goals simp
theorem tyAt_chg {S : Nat → Prop} {w w' : World} {v : Value} {T : List Ty} (h : TyAt w v T) (hc : Chg S w w') (hs : ∀ g o n c, v = .slice (some ⟨g, o, none⟩) n c → ¬ S g) : TyAt w' v T := by
  obtain ⟨a, c, rfl, h⟩ := h
  refine ⟨a, c, rfl, fun i hi => ?_⟩
  obtain ⟨g, o, rfl, h2, h3, h4, h5⟩ := h i hi
  have hb : ¬ S g := hs g o _ _ rfl
  have hbl := hc.block g h2 hb
  exact ⟨g, o, rfl, Nat.lt_of_lt_of_le h2 hc.size, (World.cell?_of_block (w := w) (a := ⟨g, _, none⟩) hbl).trans h3, (World.cell?_of_block (w := w) (a := ⟨g, _, none⟩) hbl).trans h4, (World.cell?_of_block (w := w) (a := ⟨g, _, none⟩) hbl).trans h5⟩
end Go.Proofs.YtjbdldbjefmnjaaGreatDoor
namespace Go.Proofs.YtjbdldbjefmnjaaGreatDoor
set_option linter.unusedSimpArgs false
set_option linter.unusedVariables false
open Go Go.RowKit Go.Proofs.BerK Go.Proofs.MemK Go.Proofs.UtfK

/-- The plain types. -/
def plT : List Ty := [([99, 110], 1, false), ([115, 110], 1, false), ([111, 117], 1, false), ([100, 99], 1, false), ([111], 1, false), ([100, 101, 115, 99, 114, 105, 112, 116, 105, 111, 110], 1, false), ([109, 97, 105, 108], 1, false), ([111, 98, 106, 101, 99, 116, 99, 108, 97, 115, 115], 1, false), ([117, 115, 101, 114, 112, 97, 115, 115, 119, 111, 114, 100], 4, true), ([117, 105, 100], 1, true), ([117, 105, 100, 110, 117, 109, 98, 101, 114], 3, true), ([109, 101, 109, 98, 101, 114], 5, false), ([115, 101, 114, 105, 97, 108, 110, 117, 109, 98, 101, 114], 2, false)]
/-- The plain classes. -/
def plC : List Cl := [([116, 111, 112], [], []), ([112, 101, 114, 115, 111, 110], [[99, 110], [115, 110]], [[100, 101, 115, 99, 114, 105, 112, 116, 105, 111, 110], [117, 115, 101, 114, 112, 97, 115, 115, 119, 111, 114, 100], [109, 97, 105, 108], [117, 105, 100], [117, 105, 100, 110, 117, 109, 98, 101, 114], [115, 101, 114, 105, 97, 108, 110, 117, 109, 98, 101, 114], [109, 101, 109, 98, 101, 114]]), ([111, 114, 103, 97, 110, 105, 122, 97, 116, 105, 111, 110, 97, 108, 117, 110, 105, 116], [[111, 117]], [[100, 101, 115, 99, 114, 105, 112, 116, 105, 111, 110], [109, 101, 109, 98, 101, 114]]), ([100, 111, 109, 97, 105, 110], [[100, 99]], [[100, 101, 115, 99, 114, 105, 112, 116, 105, 111, 110], [111]]), ([103, 114, 111, 117, 112], [[99, 110]], [[109, 101, 109, 98, 101, 114], [100, 101, 115, 99, 114, 105, 112, 116, 105, 111, 110]])]
theorem plT_low : plT.map lowTy = plT := by decide +kernel
theorem plC_low : plC.map lowCl = plC := by decide +kernel
theorem pl_new : scNw plT plC = 0 := by decide +kernel
theorem tyAt_new (w : World) (T : List Ty) (e : TypeId) : TyAt (w.alloc (.cells (tycs T).toArray e)) (.slice (some ⟨w.heap.size, 0, none⟩) T.length T.length) T := by
  refine ⟨_, _, rfl, fun i hi => ⟨w.heap.size, 0, rfl, by simp, ?_⟩⟩
  obtain ⟨h1, h2, h3⟩ := tycs_at T i hi
  rw [Nat.zero_add]
  refine ⟨?_, ?_, ?_⟩
  · rw [World.cell?_alloc_mark w _ e (0, 0)]; simpa using h1
  · rw [World.cell?_alloc_mark w _ e (0, 0)]; simpa using h2
  · rw [World.cell?_alloc_mark w _ e (0, 0)]; simpa using h3
def PlTPost (w : World) (en : Ending) (w' : World) : Prop := ∃ v, en = .returned v ∧ TyAt w' v plT ∧ Below w.heap.size w w'
def PlCPost (w : World) (en : Ending) (w' : World) : Prop := ∃ v, en = .returned v ∧ ClAt w' v plC ∧ Below w.heap.size w w'
/-- Rows of texts laid one behind the other. -/
def allocs (e : TypeId) (w : World) : List (List (List UInt8)) → World
  | [] => w
  | l :: r => allocs e (w.alloc (.cells (sc l).toArray e)) r
theorem allocs_size (e : TypeId) (ls : List (List (List UInt8))) : ∀ w : World, (allocs e w ls).heap.size = w.heap.size + ls.length := by
  induction ls with
  | nil => intro w; rfl
  | cons l r ih => intro w; rw [allocs, ih]; simp; omega
theorem allocs_below (e : TypeId) (ls : List (List (List UInt8))) : ∀ w : World, Below w.heap.size w (allocs e w ls) := by
  induction ls with
  | nil => intro w; exact Below.refl _ _
  | cons l r ih => intro w; exact ((Below.refl _ w).alloc (Nat.le_refl _) _).trans ((ih _).mono (by simp))
theorem allocs_at (e : TypeId) (ls : List (List (List UInt8))) : ∀ (w : World) (i : Nat) (h : i < ls.length), TxR (allocs e w ls) (.slice (some ⟨w.heap.size + i, 0, none⟩) ls[i].length ls[i].length) ls[i] := by
  induction ls with
  | nil => intro w i h; simp at h
  | cons l r ih =>
    intro w i h
    cases i with
    | zero => exact txR_below (txR_new w l e) (allocs_below e r _)
    | succ i =>
      have := ih (w.alloc (.cells (sc l).toArray e)) i (by simpa using h)
      rw [World.size_alloc, show w.heap.size + 1 + i = w.heap.size + (i + 1) by omega] at this
      exact this
theorem clAt_lit (w : World) (C : List Cl) (L : List (List UInt8 × Value × Value)) (e : TypeId) (hl : L.length = C.length) (h : ∀ i (h1 : i < C.length) (h2 : i < L.length), L[i].1 = C[i].1 ∧ TxR w L[i].2.1 C[i].2.1 ∧ TxR w L[i].2.2 C[i].2.2 ∧ SlOk L[i].2.1 ∧ SlOk L[i].2.2) :
    ClAt (w.alloc (.cells (clcs L).toArray e)) (.slice (some ⟨w.heap.size, 0, none⟩) C.length C.length) C := by
  refine ⟨_, _, rfl, fun i hi => ?_⟩
  obtain ⟨h0, t1, t2, s1, s2⟩ := h i hi (by omega)
  obtain ⟨a1, a2, a3⟩ := clcs_at L i (by omega)
  have hb : Below w.heap.size w (w.alloc (.cells (clcs L).toArray e)) := (Below.refl _ w).alloc (Nat.le_refl _) _
  refine ⟨w.heap.size, 0, L[i].2.1, L[i].2.2, rfl, by simp, ?_, ?_, ?_, txR_below t1 hb, txR_below t2 hb, s1, s2⟩
  · rw [Nat.zero_add, World.cell?_alloc_mark w _ e (0, 0)]; rw [h0] at a1; simpa using a1
  · rw [Nat.zero_add, World.cell?_alloc_mark w _ e (0, 0)]; simpa using a2
  · rw [Nat.zero_add, World.cell?_alloc_mark w _ e (0, 0)]; simpa using a3
def plLs : List (List (List UInt8)) := (plC.drop 1).flatMap fun c => [c.2.1, c.2.2]
def slN (b n : Nat) : Value := .slice (some ⟨b, 0, none⟩) n n
def plRow (b : Nat) : List (List UInt8 × Value × Value) :=
  [([116, 111, 112], .slice none 0 0, .slice none 0 0), ([112, 101, 114, 115, 111, 110], slN b 2, slN (b + 1) 7), ([111, 114, 103, 97, 110, 105, 122, 97, 116, 105, 111, 110, 97, 108, 117, 110, 105, 116], slN (b + 2) 1, slN (b + 3) 2),
   ([100, 111, 109, 97, 105, 110], slN (b + 4) 1, slN (b + 5) 2), ([103, 114, 111, 117, 112], slN (b + 6) 1, slN (b + 7) 2)]
end Go.Proofs.YtjbdldbjefmnjaaGreatDoor
