/- A range over a text, over any program: how its runes lie over its bytes; the bytes of a text laid as a row; what keeps them while the range goes on. -/
import Derived.Test.YtlopmppiihhnnaaGreatDoorMem
import Derived.Lib.OthersKept
import Derived.Lib.SpaceUEq
import Derived.WalkSmall
namespace Go.Proofs.UtfK
open Go Go.RowKit Go.Proofs.BerK

theorem get_lt (s : ByteArray) (i : Nat) (h : i < s.size) : s.get! i = s[i]'h := by
  simp [ByteArray.get!, getElem!_pos, h]
  rfl
theorem at_list (s : ByteArray) (i : Nat) (h : i < s.size) (h2 : i < s.data.toList.length) : s.data.toList[i]'h2 = s[i]'h := rfl
theorem len_list (s : ByteArray) : s.data.toList.length = s.size := Array.length_toList
/-- A rune that is no single byte: all of its bytes are great ones. -/
theorem dec_mid (s : ByteArray) (pos : Nat) (h : pos < s.size) (ha : 128 ≤ s[pos].toNat) :
    ∃ mid, s.data.toList.take (pos + (Utf8.decode s pos).2) = s.data.toList.take pos ++ mid ∧ s.data.toList.drop pos = mid ++ s.data.toList.drop (pos + (Utf8.decode s pos).2) ∧ (∀ b ∈ mid, 128 ≤ b.toNat) ∧
      1 ≤ (Utf8.decode s pos).2 ∧ pos + (Utf8.decode s pos).2 ≤ s.size ∧ 128 ≤ (Utf8.decode s pos).1 := by
  obtain ⟨r1, w1⟩ := decode_high s pos h ha
  have hc := Lib.decodeN_conts (s.size - pos) (s.get! pos).toNat (s.get! (pos + 1)).toNat (s.get! (pos + 2)).toNat (s.get! (pos + 3)).toNat
  rw [← Lib.decode_at] at hc
  obtain ⟨c2, c3, c4, c5⟩ := hc
  generalize (Utf8.decode s pos).2 = K at *
  have hl := len_list s
  have hK : pos + K ≤ s.size := by
    have : K = 1 ∨ K = 2 ∨ K = 3 ∨ K = 4 := by omega
    rcases this with rfl | rfl | rfl | rfl
    · omega
    · have := c2 (by omega); omega
    · have := c3 (by omega); omega
    · have := c4 (by omega); omega
  refine ⟨(s.data.toList.drop pos).take K, ?_, ?_, ?_, w1, hK, r1⟩
  · rw [List.take_add]
  · rw [← List.drop_drop, List.take_append_drop]
  · intro b hb
    obtain ⟨j, hj, rfl⟩ := List.mem_iff_getElem.1 hb
    have hjK : j < K := by simp at hj; omega
    rw [List.getElem_take, List.getElem_drop, at_list s (pos + j) (by omega)]
    have : j = 0 ∨ j = 1 ∨ j = 2 ∨ j = 3 := by omega
    rcases this with rfl | rfl | rfl | rfl
    · simpa using ha
    · have := c2 (by omega); rw [get_lt s (pos + 1) (by omega)] at this; omega
    · have := c3 (by omega); rw [get_lt s (pos + 2) (by omega)] at this; omega
    · have := c4 (by omega); rw [get_lt s (pos + 3) (by omega)] at this; omega

theorem below_iter {B : Nat} {a w : World} (h : Below B a w) {k : Nat} (hk : B ≤ k) (s : ByteArray) (pos : Nat) : Below B a (w.iterAt k s pos) := Lib.below_iterAt h hk s pos

/-- A step of the range leaves a row of the call's own as it was: the range's own block holds no cells. -/
theorem own_iter {w : World} {B e size n : Nat} {v : Value} {xs : List Value} {k : Nat} {s : ByteArray} {pos : Nat} (h : w.ownsRow B e size v n xs) (hk : w.heap[k]? = some (.stringIter s pos)) (pos' : Nat) : (w.iterAt k s pos').ownsRow B e size v n xs := by
  refine ⟨h.1, ?_⟩
  rcases h.2 with h0 | ⟨g, cap, cur, hv, hb, hg, rest⟩
  · exact .inl h0
  · refine .inr ⟨g, cap, cur, hv, hb, ?_, rest⟩
    rw [Lib.iterAt_other _ _ _ _ _ (fun e => by subst e; rw [hk] at hg; cases hg)]
    exact hg
theorem own_not_iter {w : World} {B e size n : Nat} {v : Value} {xs : List Value} {k : Nat} {s : ByteArray} {pos : Nat} (h : w.ownsRow B e size v n xs) (hk : w.heap[k]? = some (.stringIter s pos)) : ¬ some k = v.ownBlock := by
  rcases h.2 with ⟨rfl, _⟩ | ⟨g, cap, cur, rfl, hb, hg, rest⟩
  · simp [Value.ownBlock]
  · intro e
    simp only [Value.ownBlock, Option.some.injEq] at e
    subst e
    rw [hk] at hg
    cases hg

/-! ### '[]byte(s)' -/
/-- Bytes lie from a block's head on, and may be written. -/
def BRow (w : World) (g : Nat) (l : List UInt8) : Prop :=
  g < w.heap.size ∧ (∀ j (h : j < l.length), w.cell? ⟨g, j, none⟩ = some (.int .u8 (l[j].toNat : Nat))) ∧ ∀ j, j < l.length → w.frozen? ⟨g, j, none⟩ = false
theorem brow_heap {w w' : World} {g : Nat} {l : List UInt8} (h : BRow w g l) (hs : w.heap.size ≤ w'.heap.size) (hg : w'.heap[g]? = w.heap[g]?) : BRow w' g l := by
  refine ⟨Nat.lt_of_lt_of_le h.1 hs, fun j hj => ?_, fun j hj => ?_⟩
  · have := h.2.1 j hj
    unfold World.cell? at this ⊢
    rw [hg]; exact this
  · have := h.2.2 j hj
    unfold World.frozen? at this ⊢
    rw [hg]; exact this
theorem brow_iter {w : World} {g : Nat} {l : List UInt8} (h : BRow w g l) {k : Nat} (hk : g ≠ k) (s : ByteArray) (pos : Nat) : BRow (w.iterAt k s pos) g l :=
  brow_heap h (by rw [Lib.iterAt_size]; exact Nat.le_refl _) (Lib.iterAt_other w k g s pos hk)
theorem brow_alloc {w : World} {g : Nat} {l : List UInt8} (h : BRow w g l) (o : Obj) : BRow (w.alloc o) g l :=
  brow_heap h (by simp) (Below.heap_alloc w o g h.1)
theorem brow_below {w w' : World} {g B : Nat} {l : List UInt8} (h : BRow w g l) (hb : Below B w w') (hg : g < B) : BRow w' g l :=
  brow_heap h hb.size (hb.block g hg)
theorem brow_set {w : World} {g : Nat} {l : List UInt8} (h : BRow w g l) (i : Nat) (b : UInt8) : BRow (w.setCell ⟨g, i, none⟩ (.int .u8 (b.toNat : Nat))) g (l.set i b) := by
  refine ⟨by simpa using h.1, fun j hj => ?_, fun j hj => ?_⟩
  · have hj' : j < l.length := by simpa using hj
    have hc := h.2.1 j hj'
    by_cases e : i = j
    · subst e
      rw [World.cell?_setCell_same _ _ _ hc]
      simp
    · rw [World.cell?_setCell_other w _ _ _ (by intro hh; injection hh; contradiction), hc, List.getElem_set_ne e]
  · rw [World.frozen?_setCell]; exact h.2.2 j (by simpa using hj)
/-- The row that '[]byte(s)' lays. -/
def brow (w : World) (s : ByteArray) (e : TypeId) : Obj := .cells (bytesRow s (grownCap w s.size 0 e)) e ((bytesRow s (grownCap w s.size 0 e)).size, (bytesRow s (grownCap w s.size 0 e)).size + 1)
theorem brow_size (w : World) (s : ByteArray) (e : TypeId) : s.size ≤ (bytesRow s (grownCap w s.size 0 e)).size := by
  simp [bytesRow]
theorem brow_new (w w' : World) (s : ByteArray) (e : TypeId) (hw : w'.heap.size = w.heap.size) : BRow (w'.alloc (brow w s e)) w.heap.size s.data.toList := by
  have hz := brow_size w s e
  have hl := len_list s
  refine ⟨by simp [hw], fun j hj => ?_, fun j hj => ?_⟩
  · rw [← hw, brow, World.cell?_alloc_mark, bytesRow_at s _ j (by simpa using hj)]
    rfl
  · rw [← hw, brow, World.frozen?_alloc_mark]
    simp; omega
theorem conv_brow {P : Program} {w : World} {src dst e : TypeId} {g n cap : Nat} {l : List UInt8} (hs : P.underlying src = some (.slice e)) (he : P.underlying e = some (.int .u8)) (hd : P.underlying dst = some .string)
    (h : BRow w g l) (hn : n = l.length) : (convert src dst (.slice (some ⟨g, 0, none⟩) n cap)).run P w = .ok (.string ⟨l.toArray⟩) w := by
  subst hn
  exact run_convert_bytes_back (P := P) w src dst e ⟨g, 0, none⟩ cap l hs he hd (fun j hj => by
    rw [show (⟨g, 0, none⟩ : Addr).add j = ⟨g, j, none⟩ by simp [Addr.add]; exact fun e => e.symm]; exact h.2.1 j hj)
end Go.Proofs.UtfK
