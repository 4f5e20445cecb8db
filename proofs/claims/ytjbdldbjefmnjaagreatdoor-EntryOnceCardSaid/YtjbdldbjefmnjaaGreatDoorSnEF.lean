/- The code's lists made small. The code's table of classes, filled. -/
import Derived.Test.YtjbdldbjefmnjaaGreatDoorSnCD
import Derived.Deep.CutRange
import Derived.Deep.RegionWith
import Derived.Deep.LoopGhost
namespace Go.Proofs.YtjbdldbjefmnjaaGreatDoor
set_option linter.unusedSimpArgs false
set_option linter.unusedVariables false
open Go Go.RowKit Go.Proofs.BerK Go.Proofs.MemK Go.Proofs.UtfK

/-- Texts in a row that is new. -/
def LwS (l : List (List UInt8)) (w : World) (en : Ending) (w' : World) : Prop :=
  ∃ g c, en = .returned (.slice (some ⟨g, 0, none⟩) l.length c) ∧ w'.ownsRow w.heap.size 9 1 (.slice (some ⟨g, 0, none⟩) l.length c) l.length (sc l) ∧ Below w.heap.size w w' ∧ w.heap.size ≤ g
/-- Classes as cells: each with the values of its two lists. -/
def clc (c : List UInt8 × Value × Value) : List Value := [.string ⟨c.1.toArray⟩, c.2.1, c.2.2]
def clcs (L : List (List UInt8 × Value × Value)) : List Value := L.flatMap clc
theorem clcs_append (a b : List (List UInt8 × Value × Value)) : clcs (a ++ b) = clcs a ++ clcs b := by simp [clcs]
theorem clcs_at : ∀ (L : List (List UInt8 × Value × Value)) (i : Nat) (h : i < L.length), (clcs L)[i * 3]? = some (.string ⟨L[i].1.toArray⟩) ∧ (clcs L)[i * 3 + 1]? = some L[i].2.1 ∧ (clcs L)[i * 3 + 2]? = some L[i].2.2 := by
  intro L
  induction L with
  | nil => intro i h; simp at h
  | cons c L ih =>
    intro i h
    have e : clcs (c :: L) = .string ⟨c.1.toArray⟩ :: c.2.1 :: c.2.2 :: clcs L := rfl
    cases i with
    | zero => rw [e]; exact ⟨rfl, rfl, rfl⟩
    | succ i =>
      have := ih i (by simpa using h)
      rw [e, show (i + 1) * 3 = i * 3 + 1 + 1 + 1 by omega]
      simpa using this
/-- A row of texts is this block. -/
def StrBlk (w : World) (j : Nat) : Prop := ∃ cur, w.heap[j]? = some (.cells cur 9 (0, 0))
theorem strBlk_row {w : World} {B : Nat} {v : Value} {n : Nat} {xs : List Value} (h : w.ownsRow B 9 1 v n xs) : ∀ j, v.ownBlock = some j → B ≤ j ∧ StrBlk w j := by
  intro j hj
  rcases h.2 with ⟨rfl, _⟩ | ⟨g, cap, cur, rfl, hb, hg, _⟩
  · cases hj
  · injection hj with hj
    have hj : g = j := hj
    subst hj
    exact ⟨hb, cur, hg⟩
/-- A class lies behind its cells. -/
def ClOne (w : World) (B : Nat) (c : Cl) (q : List UInt8 × Value × Value) : Prop :=
  q.1 = c.1 ∧ ∃ g1 c1 g2 c2, q.2.1 = .slice (some ⟨g1, 0, none⟩) c.2.1.length c1 ∧ q.2.2 = .slice (some ⟨g2, 0, none⟩) c.2.2.length c2 ∧ w.ownsRow B 9 1 q.2.1 c.2.1.length (sc c.2.1) ∧ w.ownsRow B 9 1 q.2.2 c.2.2.length (sc c.2.2)
theorem clOne_chg {S : Nat → Prop} {w w' : World} {B : Nat} {c : Cl} {q : List UInt8 × Value × Value} (h : ClOne w B c q) (hc : Chg S w w') (hs : ∀ g, B ≤ g → StrBlk w g → ¬ S g) : ClOne w' B c q := by
  obtain ⟨h0, g1, c1, g2, c2, e1, e2, t1, t2⟩ := h
  exact ⟨h0, g1, c1, g2, c2, e1, e2, ownsRow_chg t1 hc (fun j hj => hs j (strBlk_row t1 j hj).1 (strBlk_row t1 j hj).2), ownsRow_chg t2 hc (fun j hj => hs j (strBlk_row t2 j hj).1 (strBlk_row t2 j hj).2)⟩
/-- Classes lie behind their cells. -/
def ClAll (w : World) (B : Nat) (C : List Cl) (L : List (List UInt8 × Value × Value)) : Prop := L.length = C.length ∧ ∀ i (h1 : i < C.length) (h2 : i < L.length), ClOne w B C[i] L[i]
theorem clAll_nil (w : World) (B : Nat) : ClAll w B [] [] := ⟨rfl, fun i h => by simp at h⟩
theorem clAll_chg {S : Nat → Prop} {w w' : World} {B : Nat} {C : List Cl} {L : List (List UInt8 × Value × Value)} (h : ClAll w B C L) (hc : Chg S w w') (hs : ∀ g, B ≤ g → StrBlk w g → ¬ S g) : ClAll w' B C L :=
  ⟨h.1, fun i h1 h2 => clOne_chg (h.2 i h1 h2) hc hs⟩
theorem clAll_snoc {w : World} {B : Nat} {C : List Cl} {L : List (List UInt8 × Value × Value)} {c : Cl} {q : List UInt8 × Value × Value} (h : ClAll w B C L) (h1 : ClOne w B c q) : ClAll w B (C ++ [c]) (L ++ [q]) := by
  refine ⟨by simp [h.1], fun i i1 i2 => ?_⟩
  by_cases hi : i < C.length
  · rw [List.getElem_append_left hi, List.getElem_append_left (by rw [h.1]; exact hi)]
    exact h.2 i hi _
  · have : i = C.length := by simp at i1; omega
    subst this
    have e : L.length = C.length := h.1
    simp only [List.getElem_append_right (Nat.le_refl C.length), Nat.sub_self, List.getElem_cons_zero]
    rw [List.getElem_append_right (by omega)]
    simp [e, h1]
theorem strBlk_ne_map {w : World} {b j : Nat} {N : List (List UInt8)} (hm : NmAt w (.map (some b)) N) (h : StrBlk w j) : j ≠ b := by
  obtain ⟨cur, h⟩ := h
  exact fun e => nmAt_ne hm h e.symm
theorem strBlk_ne_cells {w : World} {g j : Nat} {cs : Array Value} {t : TypeId} (hg : w.heap[g]? = some (.cells cs t (0, 0))) (ht : t ≠ 9) (h : StrBlk w j) : j ≠ g := by
  rintro rfl
  obtain ⟨cur, h⟩ := h
  rw [h] at hg
  injection hg with hg
  injection hg with _ hg _
  exact ht hg.symm
/-- The error of a table of classes. -/
def scFC (C : List Cl) : Nat := if nmsL (C.map Prod.fst) ≠ 0 then 13 else if twcL (C.map Prod.fst) = true then 9 else 0
theorem lowCl_names (T : List Cl) : (T.map lowCl).map (·.1) = T.map (fun t => lowL t.1) := by rw [List.map_map]; rfl
end Go.Proofs.YtjbdldbjefmnjaaGreatDoor
namespace Go.Proofs.YtjbdldbjefmnjaaGreatDoor
set_option linter.unusedSimpArgs false
set_option linter.unusedVariables false
open Go Go.RowKit Go.Proofs.BerK Go.Proofs.MemK Go.Proofs.UtfK

theorem snchg_set3 (g : Nat) (w : World) (a b c : Value) : Chg (fun k => k = g) w (((w.setCell ⟨g, 0, none⟩ a).setCell ⟨g, 1, none⟩ b).setCell ⟨g, 2, none⟩ c) :=
  (((Chg.refl (fun k => k = g) w).setCell (p := ⟨g, 0, none⟩) (fun _ => rfl) _).setCell (p := ⟨g, 1, none⟩) (fun _ => rfl) _).setCell (p := ⟨g, 2, none⟩) (fun _ => rfl) _
end Go.Proofs.YtjbdldbjefmnjaaGreatDoor
