/- Attributes in a row that is owned; their cells. -/
import Derived.Test.YtjbdldbjefmnjaaGreatDoorEnMP
import Derived.Test.YtjbdldbjefmnjaaGreatDoorEnCE
import Derived.Test.YtjbdldbjefmnjaaGreatDoorSnUW
namespace Go.Proofs.YtjbdldbjefmnjaaGreatDoor
set_option linter.unusedSimpArgs false
set_option linter.unusedVariables false
open Go Go.RowKit Go.Proofs.BerK Go.Proofs.MemK Go.Proofs.UtfK

/-- Names and lists in memory are these attributes. -/
def AtOk (w : World) (Lq : List (List UInt8 × Value)) (L : List Atr) : Prop := Lq.length = L.length ∧ ∀ i (h1 : i < Lq.length) (h2 : i < L.length), Lq[i].1 = L[i].1 ∧ ∃ B, w.ownsRow B 9 1 Lq[i].2 L[i].2.length (sc L[i].2)
theorem atOk_below {w w' : World} {Lq : List (List UInt8 × Value)} {L : List Atr} (h : AtOk w Lq L) (hb : Below w.heap.size w w') : AtOk w' Lq L :=
  ⟨h.1, fun i h1 h2 => ⟨(h.2 i h1 h2).1, by obtain ⟨_, B, hB⟩ := h.2 i h1 h2; exact ⟨B, ownsRow_below hB hb⟩⟩⟩
theorem atOk_nil (w : World) : AtOk w [] [] := ⟨rfl, fun i h1 => by simp at h1⟩
theorem atOk_take {w : World} {Lq : List (List UInt8 × Value)} {L : List Atr} (h : AtOk w Lq L) (k : Nat) : AtOk w (Lq.take k) (L.take k) := by
  refine ⟨by rw [List.length_take, List.length_take, h.1], fun i h1 h2 => ?_⟩
  rw [List.length_take] at h1 h2
  rw [List.getElem_take, List.getElem_take]
  exact h.2 i (by omega) (by omega)
theorem atOk_drop {w : World} {Lq : List (List UInt8 × Value)} {L : List Atr} (h : AtOk w Lq L) (k : Nat) : AtOk w (Lq.drop k) (L.drop k) := by
  refine ⟨by rw [List.length_drop, List.length_drop, h.1], fun i h1 h2 => ?_⟩
  rw [List.length_drop] at h1 h2
  rw [List.getElem_drop, List.getElem_drop]
  exact h.2 (k + i) (by omega) (by omega)
theorem atOk_app {w : World} {Lq Mq : List (List UInt8 × Value)} {L M : List Atr} (h : AtOk w Lq L) (h2 : AtOk w Mq M) : AtOk w (Lq ++ Mq) (L ++ M) := by
  have hl := h.1
  refine ⟨by rw [List.length_append, List.length_append, h.1, h2.1], fun i i1 i2 => ?_⟩
  rw [List.length_append] at i1 i2
  rw [List.getElem_append, List.getElem_append]
  by_cases hi : i < Lq.length
  · rw [dif_pos hi, dif_pos (by omega)]
    exact h.2 i hi (by omega)
  · rw [dif_neg hi, dif_neg (by omega)]
    have := h2.2 (i - Lq.length) (by omega) (by omega)
    simp only [hl] at this ⊢
    exact this
theorem atOk_one {w : World} {B : Nat} {t : List UInt8} {V : List (List UInt8)} {v : Value} (h : w.ownsRow B 9 1 v V.length (sc V)) : AtOk w [(t, v)] [(t, V)] := by
  refine ⟨rfl, fun i h1 h2 => ?_⟩
  have : i = 0 := by simp at h1; exact h1
  subst this
  exact ⟨rfl, B, h⟩
theorem slOk_one {v : Value} (h : SlOk v) : v.oneCell' = true := by
  rcases h with rfl | ⟨ad, n, c, rfl⟩ <;> rfl
theorem slOk_owns {w : World} {B : Nat} {e : TypeId} {size : Nat} {v : Value} {n : Nat} {xs : List Value} (h : w.ownsRow B e size v n xs) : SlOk v := by
  rcases h.2 with ⟨rfl, rfl⟩ | ⟨g, cap, cur, rfl, _⟩
  · exact .inl rfl
  · exact .inr ⟨_, _, _, rfl⟩
theorem atcs_len (L : List (List UInt8 × Value)) : (atcs L).length = L.length * 2 := by
  induction L with
  | nil => rfl
  | cons c L ih =>
    have e : atcs (c :: L) = .string ⟨c.1.toArray⟩ :: c.2 :: atcs L := rfl
    rw [e]; simp only [List.length_cons, ih]; omega
theorem atcs_app (L M : List (List UInt8 × Value)) : atcs (L ++ M) = atcs L ++ atcs M := by simp [atcs]
theorem atcs_take (L : List (List UInt8 × Value)) (k : Nat) : atcs (L.take k) = (atcs L).take (k * 2) := by
  induction L generalizing k with
  | nil => simp [atcs]
  | cons c L ih =>
    have e : ∀ L, atcs (c :: L) = .string ⟨c.1.toArray⟩ :: c.2 :: atcs L := fun _ => rfl
    cases k with
    | zero => simp [atcs]
    | succ k =>
      rw [List.take_succ_cons, e, e, ih, show (k + 1) * 2 = k * 2 + 1 + 1 by omega, List.take_succ_cons, List.take_succ_cons]
theorem atcs_drop (L : List (List UInt8 × Value)) (k : Nat) : atcs (L.drop k) = (atcs L).drop (k * 2) := by
  induction L generalizing k with
  | nil => simp [atcs]
  | cons c L ih =>
    have e : ∀ L, atcs (c :: L) = .string ⟨c.1.toArray⟩ :: c.2 :: atcs L := fun _ => rfl
    cases k with
    | zero => simp
    | succ k =>
      rw [List.drop_succ_cons, e, ih, show (k + 1) * 2 = k * 2 + 1 + 1 by omega, List.drop_succ_cons, List.drop_succ_cons]
theorem atcs_ones {w : World} {Lq : List (List UInt8 × Value)} {L : List Atr} (h : AtOk w Lq L) : ∀ u ∈ atcs Lq, u.oneCell' = true := by
  intro u hu
  unfold atcs at hu
  obtain ⟨q, hq, hu⟩ := List.mem_flatMap.1 hu
  obtain ⟨i, hi, rfl⟩ := List.mem_iff_getElem.1 hq
  have hl := h.1
  simp only [List.mem_cons, List.not_mem_nil, or_false] at hu
  rcases hu with rfl | rfl
  · rfl
  · obtain ⟨_, B, hB⟩ := h.2 i hi (by omega)
    exact slOk_one (slOk_owns hB)
/-- Attributes in a row of somebody's own. -/
def PaAt (w : World) (v : Value) (L : List Atr) : Prop := ∃ Lq B, AtOk w Lq L ∧ w.ownsRow B 37 2 v L.length (atcs Lq)
theorem paAt_below {w w' : World} {v : Value} {L : List Atr} (h : PaAt w v L) (hb : Below w.heap.size w w') : PaAt w' v L := by
  obtain ⟨Lq, B, h1, h2⟩ := h
  exact ⟨Lq, B, atOk_below h1 hb, ownsRow_below h2 hb⟩
theorem paAt_nil (w : World) : PaAt w (.slice none 0 0) [] := ⟨[], 0, atOk_nil w, World.ownsRow_nil _ _ _ _⟩
theorem paAt_ea {w : World} {v : Value} {L : List Atr} (h : PaAt w v L) : EaAt w v L := by
  obtain ⟨Lq, B, hq, h⟩ := h
  refine ⟨slOk_owns h, ?_⟩
  have hl := hq.1
  rcases h.2 with ⟨rfl, h0⟩ | ⟨g, cap, cur, rfl, _, hg, _⟩
  · exact ⟨none, 0, by rw [h0], fun i hi => by omega⟩
  · refine ⟨_, cap, rfl, fun i hi => ?_⟩
    obtain ⟨h1, h2⟩ := atcs_at Lq i (by omega)
    obtain ⟨x1, BB, xo⟩ := hq.2 i (by omega) hi
    have x2 := txR_owns xo
    have x3 := slOk_owns xo
    refine ⟨g, 0, Lq[i].2, rfl, (Array.getElem?_eq_some_iff.1 hg).1, ?_, ?_, x2, x3⟩
    · rw [Nat.zero_add, ← x1]; exact (h.cellAt _ (by omega)).trans h1
    · rw [Nat.zero_add]; exact (h.cellAt _ (by omega)).trans h2
/-- What putting leaves. -/
def PaPost10 (L : List Atr) (w : World) (en : Ending) (w' : World) : Prop := ∃ v, en = .returned v ∧ PaAt w' v L ∧ Below w.heap.size w w'
theorem rd_zero2 (w : World) (ad : Addr) (c : Nat) (Lq : List (List UInt8 × Value)) (h : Lq = []) : RdRow w 2 (.slice (some ad) 0 c) 0 (atcs Lq) := by
  subst h
  exact ⟨rfl, .inr ⟨ad, c, rfl, fun j u hj => by simp [atcs] at hj⟩⟩
theorem rd_take2 {w : World} {B : Nat} {g n cap : Nat} {Lq : List (List UInt8 × Value)} (h : w.ownsRow B 37 2 (.slice (some ⟨g, 0, none⟩) n cap) n (atcs Lq)) (k : Nat) (hk : k ≤ n) : RdRow w 2 (.slice (some ⟨g, 0, none⟩) k cap) k (atcs (Lq.take k)) := by
  rw [atcs_take]; exact rdRow_take h k hk
theorem rd_drop2 {w : World} {B : Nat} {g n cap : Nat} {Lq : List (List UInt8 × Value)} (h : w.ownsRow B 37 2 (.slice (some ⟨g, 0, none⟩) n cap) n (atcs Lq)) (k c : Nat) (hk : k ≤ n) : RdRow w 2 (.slice (some ⟨g, k * 2, none⟩) (n - k) c) (n - k) (atcs (Lq.drop k)) := by
  rw [atcs_drop]; exact rdRow_drop h k c hk
/-! ### the values that are put behind those that are there -/
theorem fo_step {X V : List (List UInt8)} (i : Nat) (hi : i < V.length) : (V.take (i + 1)).foldl onS1 X = onS1 ((V.take i).foldl onS1 X) V[i] := by
  rw [List.take_succ_eq_append_getElem hi, List.foldl_append]; rfl
theorem fo_len (X V : List (List UInt8)) : (V.foldl onS1 X).length ≤ X.length + V.length := by
  induction V generalizing X with
  | nil => simp
  | cons x V ih =>
    have h1 := ih (onS1 X x)
    have h2 : (onS1 X x).length ≤ X.length + 1 := by unfold onS1; split <;> simp
    simp only [List.foldl_cons, List.length_cons]
    omega
theorem inL_step {F : List (List UInt8)} {y : List UInt8} (j : Nat) (hj : j < F.length) : inL (F.take (j + 1)) y = (inL (F.take j) y || F[j] == y) := by
  rw [List.take_succ_eq_append_getElem hj, Bool.eq_iff_iff, inL_mem, Bool.or_eq_true, inL_mem, beq_iff_eq, List.mem_append, List.mem_singleton]
  constructor
  · rintro (h | h)
    · exact .inl h
    · exact .inr h.symm
  · rintro (h | h)
    · exact .inl h
    · exact .inr h.symm
end Go.Proofs.YtjbdldbjefmnjaaGreatDoor
