/- A name that a call lays anew: its rows in memory, each for itself. -/
import Derived.Test.YtlopmppiihhnnaaGreatDoorDnFG
import Derived.Test.YtlopmppiihhnnaaGreatDoorDnWY
namespace Go.Proofs.YtlopmppiihhnnaaGreatDoor
set_option linter.unusedSimpArgs false
set_option linter.unusedVariables false
open Go Go.RowKit Go.Proofs.BerK Go.Proofs.MemK Go.Proofs.UtfK

/-- Pairs as cells. -/
def avc (r : List Av) : List Value := r.flatMap fun p => [.string ⟨p.1.toArray⟩, .string ⟨p.2.toArray⟩]
theorem avc_cons (p : Av) (r : List Av) : avc (p :: r) = .string ⟨p.1.toArray⟩ :: .string ⟨p.2.toArray⟩ :: avc r := rfl
theorem avc_len (r : List Av) : (avc r).length = 2 * r.length := by
  induction r with
  | nil => rfl
  | cons p r ih => rw [avc_cons, List.length_cons, List.length_cons, List.length_cons, ih]; omega
theorem avc_at (r : List Av) (j : Nat) (h : j < r.length) : (avc r)[j * 2]? = some (.string ⟨r[j].1.toArray⟩) ∧ (avc r)[j * 2 + 1]? = some (.string ⟨r[j].2.toArray⟩) := by
  induction r generalizing j with
  | nil => simp at h
  | cons p r ih =>
    cases j with
    | zero => simp [avc_cons]
    | succ j =>
      have := ih j (by simpa using h)
      rw [avc_cons, show (j + 1) * 2 = j * 2 + 2 by omega, show j * 2 + 2 + 1 = j * 2 + 1 + 2 by omega]
      simpa using this
theorem avc_set (r : List Av) (j : Nat) (h : j < r.length) (p : Av) : ((avc r).set (j * 2) (.string ⟨p.1.toArray⟩)).set (j * 2 + 1) (.string ⟨p.2.toArray⟩) = avc (r.set j p) := by
  induction r generalizing j with
  | nil => simp at h
  | cons q r ih =>
    cases j with
    | zero => simp [avc_cons]
    | succ j =>
      have := ih j (by simpa using h)
      rw [avc_cons, show (j + 1) * 2 = j * 2 + 2 by omega, show j * 2 + 2 + 1 = j * 2 + 1 + 2 by omega, List.set_cons_succ, List.set_cons_succ, List.set_cons_succ, List.set_cons_succ, List.set_cons_succ, avc_cons, this]
theorem avc_arr (r : List Av) (j : Nat) (h : j < r.length) (p : Av) : ((avc r).toArray.setIfInBounds (j * 2) (.string ⟨p.1.toArray⟩)).setIfInBounds (j * 2 + 1) (.string ⟨p.2.toArray⟩) = (avc (r.set j p)).toArray := by
  rw [← avc_set r j h p]; simp
def rowV (g n : Nat) : Value := .slice (some ⟨g, 0, none⟩) n n
def ovc (gs : List Nat) (D : List (List Av)) : List Value := List.zipWith (fun g r => rowV g r.length) gs D
theorem ovc_len (gs : List Nat) (D : List (List Av)) (h : gs.length = D.length) : (ovc gs D).length = D.length := by simp [ovc, h]
theorem ovc_at (gs : List Nat) (D : List (List Av)) (i : Nat) (h : i < gs.length) (h' : i < D.length) : (ovc gs D)[i]? = some (rowV gs[i] D[i].length) := by
  rw [ovc, List.getElem?_zipWith, List.getElem?_eq_getElem h, List.getElem?_eq_getElem h']
theorem ovc_snoc (gs : List Nat) (D : List (List Av)) (g : Nat) (r : List Av) (h : gs.length = D.length) : ovc (gs ++ [g]) (D ++ [r]) = ovc gs D ++ [rowV g r.length] := by
  unfold ovc
  rw [List.zipWith_append h]; rfl
theorem ovc_set (gs : List Nat) (D : List (List Av)) (k : Nat) (r : List Av) (hk : k < D.length) (hr : r.length = D[k].length) : ovc gs (D.set k r) = ovc gs D := by
  unfold ovc
  apply List.ext_getElem?
  intro i
  simp only [List.getElem?_zipWith]
  by_cases hi : i = k
  · subst hi
    cases gs[i]? with
    | none => rfl
    | some g => simp [hk, hr]
  · rw [List.getElem?_set_ne (fun e => hi e.symm)]

/-- A name's rows: the outer one in block g, m of its cells not yet laid, the others in the blocks gs. -/
structure DnBlk (w : World) (B : Nat) (g : Nat) (gs : List Nat) (D : List (List Av)) (m : Nat) (e1 e2 : TypeId) : Prop where
  base : B ≤ g
  len : gs.length = D.length
  outer : w.heap[g]? = some (.cells (ovc gs D ++ List.replicate m (Value.slice none 0 0)).toArray e2 (0, 0))
  rows : ∀ i (h : i < gs.length) (h' : i < D.length), B ≤ gs[i] ∧ gs[i] ≠ g ∧ w.heap[gs[i]]? = some (.cells (avc D[i]).toArray e1 (0, 0))
  nodup : gs.Nodup
theorem blk_below {w w' : World} {B g : Nat} {gs : List Nat} {D : List (List Av)} {m : Nat} {e1 e2 : TypeId} (h : DnBlk w B g gs D m e1 e2) (hb : Below w.heap.size w w') : DnBlk w' B g gs D m e1 e2 :=
  ⟨h.base, h.len, obj_below h.outer hb (obj_lt h.outer), fun i hi hi' => ⟨(h.rows i hi hi').1, (h.rows i hi hi').2.1, obj_below (h.rows i hi hi').2.2 hb (obj_lt (h.rows i hi hi').2.2)⟩, h.nodup⟩
theorem blk_heap {w w' : World} {B g : Nat} {gs : List Nat} {D : List (List Av)} {m : Nat} {e1 e2 : TypeId} (h : DnBlk w B g gs D m e1 e2) (hh : w'.heap = w.heap) : DnBlk w' B g gs D m e1 e2 :=
  ⟨h.base, h.len, by rw [hh]; exact h.outer, fun i hi hi' => by rw [hh]; exact h.rows i hi hi', h.nodup⟩
/-- A row more. -/
theorem blk_row {w : World} {B g : Nat} {gs : List Nat} {D : List (List Av)} {m : Nat} {e1 e2 : TypeId} (h : DnBlk w B g gs D (m + 1) e1 e2) (hB : B ≤ w.heap.size) (r : List Av) (M : Array Value) (hM : M = (avc r).toArray) :
    DnBlk ((w.alloc (.cells M e1)).setCell ⟨g, D.length, none⟩ (rowV w.heap.size r.length)) B g (gs ++ [w.heap.size]) (D ++ [r]) m e1 e2 := by
  subst hM
  have hg := obj_lt h.outer
  refine ⟨h.base, by simp [h.len], ?_, ?_, ?_⟩
  · have h1 := obj_set (obj_alloc h.outer (.cells (avc r).toArray e1)) D.length (rowV w.heap.size r.length)
    rw [h1]
    congr 2
    rw [ovc_snoc gs D _ _ h.len]
    apply Array.ext'
    simp only [Array.toList_setIfInBounds, List.toList_toArray]
    have hl := ovc_len gs D h.len
    rw [List.set_append_right _ _ (by omega), hl, Nat.sub_self, List.replicate_succ, List.set_cons_zero, List.append_assoc]
    rfl
  · intro i hi hi'
    by_cases hlt : i < D.length
    · have hlt' : i < gs.length := by rw [h.len]; exact hlt
      obtain ⟨a, b, c⟩ := h.rows i hlt' hlt
      rw [List.getElem_append_left hlt', List.getElem_append_left hlt]
      exact ⟨a, b, obj_set_other (obj_alloc c _) (p := ⟨g, D.length, none⟩) b _⟩
    · have hi2 : i = D.length := by simp at hi'; omega
      subst hi2
      have e1' : (gs ++ [w.heap.size])[D.length]'hi = w.heap.size := by simp [← h.len]
      have e2' : (D ++ [r])[D.length]'hi' = r := by simp
      rw [e1', e2']
      exact ⟨hB, by omega, obj_set_other (heap_alloc_new w _) (p := ⟨g, D.length, none⟩) (by show w.heap.size ≠ g; omega) _⟩
  · rw [List.nodup_append]
    refine ⟨h.nodup, by simp, ?_⟩
    intro a ha b hb
    obtain rfl := List.mem_singleton.1 hb
    obtain ⟨i, hi, rfl⟩ := List.mem_iff_getElem.1 ha
    have := obj_lt (h.rows i hi (by rw [← h.len]; exact hi)).2.2
    omega
/-- A pair is stored. -/
theorem blk_set {w : World} {B g : Nat} {gs : List Nat} {D : List (List Av)} {m : Nat} {e1 e2 : TypeId} (h : DnBlk w B g gs D m e1 e2) (k : Nat) (hk : k < gs.length) (hk' : k < D.length) (j : Nat) (hj : j < D[k].length) (p : Av) :
    DnBlk ((w.setCell ⟨gs[k], j * 2, none⟩ (.string ⟨p.1.toArray⟩)).setCell ⟨gs[k], j * 2 + 1, none⟩ (.string ⟨p.2.toArray⟩)) B g gs (D.set k (D[k].set j p)) m e1 e2 := by
  obtain ⟨a, b, c⟩ := h.rows k hk hk'
  refine ⟨h.base, by simp [h.len], ?_, ?_, h.nodup⟩
  · rw [ovc_set gs D k _ hk' (by simp)]
    exact obj_set_other (obj_set_other h.outer (p := ⟨gs[k], j * 2, none⟩) (fun e => b e.symm) _) (p := ⟨gs[k], j * 2 + 1, none⟩) (fun e => b e.symm) _
  · intro i hi hi'
    have hi2 : i < D.length := by simpa using hi'
    obtain ⟨a', b', c'⟩ := h.rows i hi hi2
    refine ⟨a', b', ?_⟩
    by_cases hik : i = k
    · subst hik
      have e : (D.set i (D[i].set j p))[i]'hi' = D[i].set j p := by simp
      rw [e, ← avc_arr D[i] j hj p]
      exact obj_set (obj_set c' (j * 2) _) (j * 2 + 1) _
    · have e : (D.set k (D[k].set j p))[i]'hi' = D[i] := List.getElem_set_ne (fun e => hik e.symm) _
      have hne : gs[i] ≠ gs[k] := fun e => hik ((List.getElem_inj h.nodup).1 e)
      rw [e]
      exact obj_set_other (obj_set_other c' (p := ⟨gs[k], j * 2, none⟩) hne _) (p := ⟨gs[k], j * 2 + 1, none⟩) hne _
theorem avAt_blk {w : World} {g : Nat} {r : List Av} {e : TypeId} (h : w.heap[g]? = some (.cells (avc r).toArray e (0, 0))) : AvAt w (rowV g r.length) r := by
  refine ⟨_, _, rfl, Nat.le_refl _, fun i hi => ⟨g, 0, rfl, obj_lt h, ?_, ?_⟩⟩
  · rw [Nat.zero_add]; exact obj_cell h (i * 2) _ (by simpa using (avc_at r i hi).1)
  · rw [Nat.zero_add]; exact obj_cell h (i * 2 + 1) _ (by simpa using (avc_at r i hi).2)
theorem dnAt_blk {w : World} {B g : Nat} {gs : List Nat} {D : List (List Av)} {e1 e2 : TypeId} (h : DnBlk w B g gs D 0 e1 e2) : DnAt w (rowV g D.length) D := by
  refine ⟨_, _, rfl, Nat.le_refl _, fun i hi => ?_⟩
  have hi' : i < gs.length := by rw [h.len]; exact hi
  refine ⟨g, 0, rowV gs[i] D[i].length, rfl, obj_lt h.outer, ?_, avAt_blk (h.rows i hi' hi).2.2⟩
  rw [Nat.zero_add]
  exact obj_cell h.outer i _ (by simpa using ovc_at gs D i hi' hi)
end Go.Proofs.YtlopmppiihhnnaaGreatDoor
