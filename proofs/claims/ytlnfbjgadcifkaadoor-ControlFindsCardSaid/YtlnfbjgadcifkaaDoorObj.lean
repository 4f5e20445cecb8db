/- Objects of a program's own in memory, over any program: what has changed, bytes from anywhere in a block on, and what keeps them. -/
import Derived.Test.YtlnfbjgadcifkaaDoorMem
import Derived.Laws.CopyOwn
import Derived.Deep.MidRow
import Derived.Maps.AppendAt
import Derived.Laws.AppendOwnNone
namespace Go.Proofs.MemK
open Go Go.RowKit Go.Proofs.BerK Go.Lib

/-! ### What has changed -/
/-- All is as it was, but for the blocks of S and new ones. -/
structure Chg (S : Nat → Prop) (w w' : World) : Prop where
  os : w'.os = w.os
  tape : w'.tape = w.tape
  output : w'.output = w.output
  size : w.heap.size ≤ w'.heap.size
  block : ∀ k, k < w.heap.size → ¬ S k → w'.heap[k]? = w.heap[k]?
theorem Chg.refl (S : Nat → Prop) (w : World) : Chg S w w := ⟨rfl, rfl, rfl, Nat.le_refl _, fun _ _ _ => rfl⟩
theorem Chg.trans {S T : Nat → Prop} {a b c : World} (h : Chg S a b) (k : Chg T b c) (hs : ∀ i, i < a.heap.size → T i → S i) : Chg S a c :=
  ⟨k.os.trans h.os, k.tape.trans h.tape, k.output.trans h.output, Nat.le_trans h.size k.size,
    fun i hi hn => (k.block i (Nat.lt_of_lt_of_le hi h.size) (fun ht => hn (hs i hi ht))).trans (h.block i hi hn)⟩
theorem Chg.mono {S T : Nat → Prop} {a b : World} (h : Chg S a b) (hs : ∀ i, i < a.heap.size → S i → T i) : Chg T a b :=
  ⟨h.os, h.tape, h.output, h.size, fun i hi hn => h.block i hi (fun k => hn (hs i hi k))⟩
theorem Chg.alloc {S : Nat → Prop} {a w : World} (h : Chg S a w) (o : Obj) : Chg S a (w.alloc o) :=
  h.trans (T := S) ⟨rfl, rfl, rfl, by simp, fun k hk _ => Below.heap_alloc _ _ _ hk⟩ (fun _ _ => id)
theorem Chg.setCell {S : Nat → Prop} {a w : World} (h : Chg S a w) {p : Addr} (hp : p.block < a.heap.size → S p.block) (u : Value) : Chg S a (w.setCell p u) :=
  h.trans (T := fun k => k = p.block) ⟨rfl, rfl, rfl, by simp [World.setCell], fun k _ hn => Below.heap_setCell _ _ _ _ hn⟩ (fun i hi e => by subst e; exact hp hi)
theorem Chg.drew {S : Nat → Prop} {a w : World} (h : Chg S a w) : Chg S a w.drew := ⟨h.os, h.tape, h.output, h.size, h.block⟩
theorem Chg.drewN {S : Nat → Prop} {a w : World} (h : Chg S a w) (n : Nat) : Chg S a (w.drewN n) := ⟨h.os, h.tape, h.output, h.size, h.block⟩
theorem Chg.ofBelow {S : Nat → Prop} {w w' : World} (h : Below w.heap.size w w') : Chg S w w' := ⟨h.os, h.tape, h.output, h.size, fun k hk _ => h.block k hk⟩
theorem Chg.below {S : Nat → Prop} {a b c : World} (h : Chg S a b) (k : Below a.heap.size b c) : Chg S a c :=
  ⟨k.os.trans h.os, k.tape.trans h.tape, k.output.trans h.output, Nat.le_trans h.size k.size, fun i hi hn => (k.block i hi).trans (h.block i hi hn)⟩
theorem Chg.ofGrown {w w' : World} {row : Option Nat} (h : w.grownBy w' row) : Chg (fun k => some k = row) w w' := ⟨h.os, h.tape, h.output, h.size, fun k hk hn => h.block k hk hn⟩
theorem Chg.toBelow {S : Nat → Prop} {B : Nat} {w w' : World} (h : Chg S w w') (hB : B ≤ w.heap.size) (hs : ∀ k, k < w.heap.size → S k → B ≤ k) : Below B w w' :=
  ⟨h.os, h.tape, h.output, h.size, fun k hk => h.block k (by omega) (fun hk' => by have := hs k (by omega) hk'; omega)⟩
theorem ownsRow_chg {S : Nat → Prop} {w w' : World} {B : Nat} {e : TypeId} {size : Nat} {v : Value} {n : Nat} {xs : List Value} (h : w.ownsRow B e size v n xs) (hc : Chg S w w') (hs : ∀ k, v.ownBlock = some k → ¬ S k) : w'.ownsRow B e size v n xs := by
  refine ⟨h.1, ?_⟩
  rcases h.2 with hn | ⟨g, cap, cur, rfl, hbg, hg, rest⟩
  · exact .inl hn
  · exact .inr ⟨g, cap, cur, rfl, hbg, by rw [hc.block g (Array.getElem?_eq_some_iff.1 hg).1 (hs g rfl)]; exact hg, rest⟩

/-! ### An object: a block of cells, none of it frozen -/
theorem obj_cell {w : World} {g : Nat} {cs : Array Value} {t : TypeId} (h : w.heap[g]? = some (.cells cs t (0, 0))) (i : Nat) (v : Value) (hv : cs[i]? = some v) : w.cell? ⟨g, i, none⟩ = some v := by
  rw [cell_of_row w g i cs t (0, 0) h]; exact hv
theorem obj4 {w : World} {g : Nat} {a b c d : Value} {t : TypeId} (h : w.heap[g]? = some (.cells #[a, b, c, d] t (0, 0))) : w.cell? ⟨g, 0, none⟩ = some a ∧ w.cell? ⟨g, 1, none⟩ = some b ∧ w.cell? ⟨g, 2, none⟩ = some c ∧ w.cell? ⟨g, 3, none⟩ = some d :=
  ⟨obj_cell h 0 a rfl, obj_cell h 1 b rfl, obj_cell h 2 c rfl, obj_cell h 3 d rfl⟩
theorem obj3 {w : World} {g : Nat} {a b c : Value} {t : TypeId} (h : w.heap[g]? = some (.cells #[a, b, c] t (0, 0))) : w.cell? ⟨g, 0, none⟩ = some a ∧ w.cell? ⟨g, 1, none⟩ = some b ∧ w.cell? ⟨g, 2, none⟩ = some c :=
  ⟨obj_cell h 0 a rfl, obj_cell h 1 b rfl, obj_cell h 2 c rfl⟩
theorem obj_free {w : World} {g : Nat} {cs : Array Value} {t : TypeId} (h : w.heap[g]? = some (.cells cs t (0, 0))) (i : Nat) : w.frozen? ⟨g, i, none⟩ = false := by
  simp [World.frozen?, h]
theorem obj_lt {w : World} {g : Nat} {o : Obj} (h : w.heap[g]? = some o) : g < w.heap.size := (Array.getElem?_eq_some_iff.1 h).1
theorem obj_set {w : World} {g : Nat} {cs : Array Value} {t : TypeId} (h : w.heap[g]? = some (.cells cs t (0, 0))) (i : Nat) (v : Value) : (w.setCell ⟨g, i, none⟩ v).heap[g]? = some (.cells (cs.setIfInBounds i v) t (0, 0)) :=
  heap_setCell_same w g i cs t v h
theorem obj_set_other {w : World} {g : Nat} {o : Obj} (h : w.heap[g]? = some o) {p : Addr} (hp : g ≠ p.block) (v : Value) : (w.setCell p v).heap[g]? = some o := by
  rw [Below.heap_setCell w p v g hp]; exact h
theorem obj_alloc {w : World} {g : Nat} {o : Obj} (h : w.heap[g]? = some o) (x : Obj) : (w.alloc x).heap[g]? = some o := by
  rw [Below.heap_alloc w x g (obj_lt h)]; exact h
theorem obj_chg {S : Nat → Prop} {w w' : World} {g : Nat} {o : Obj} (h : w.heap[g]? = some o) (hc : Chg S w w') (hs : ¬ S g) : w'.heap[g]? = some o := by
  rw [hc.block g (obj_lt h) hs]; exact h
theorem obj_below {w w' : World} {B g : Nat} {o : Obj} (h : w.heap[g]? = some o) (hc : Below B w w') (hs : g < B) : w'.heap[g]? = some o := by
  rw [hc.block g hs]; exact h

/-- A whole struct of three cells is stored. -/
theorem obj_set3 {w : World} {g : Nat} {a b c : Value} {t : TypeId} (h : w.heap[g]? = some (.cells #[a, b, c] t (0, 0))) (a' b' c' : Value) :
    (((w.setCell ⟨g, 0, none⟩ a').setCell ⟨g, 1, none⟩ b').setCell ⟨g, 2, none⟩ c').heap[g]? = some (.cells #[a', b', c'] t (0, 0)) :=
  obj_set (obj_set (obj_set h 0 a') 1 b') 2 c'
theorem obj_set3_other {w : World} {g k : Nat} {o : Obj} (h : w.heap[k]? = some o) (hk : k ≠ g) (a' b' c' : Value) :
    (((w.setCell ⟨g, 0, none⟩ a').setCell ⟨g, 1, none⟩ b').setCell ⟨g, 2, none⟩ c').heap[k]? = some o :=
  obj_set_other (obj_set_other (obj_set_other h (p := ⟨g, 0, none⟩) hk _) (p := ⟨g, 1, none⟩) hk _) (p := ⟨g, 2, none⟩) hk _
theorem below_set3 {B : Nat} {a w : World} (h : Below B a w) {g : Nat} (hg : B ≤ g) (x y z : Value) : Below B a (((w.setCell ⟨g, 0, none⟩ x).setCell ⟨g, 1, none⟩ y).setCell ⟨g, 2, none⟩ z) :=
  ((h.setCell (p := ⟨g, 0, none⟩) hg x).setCell (p := ⟨g, 1, none⟩) hg y).setCell (p := ⟨g, 2, none⟩) hg z
/-- Two structs laid one behind the other, behind a call that leaves both. -/
theorem six {w w1 : World} {a b c a' b' c' : Value} {t : TypeId} (hb : Below ((w.alloc (.cells #[a, b, c] t)).alloc (.cells #[a', b', c'] t)).heap.size ((w.alloc (.cells #[a, b, c] t)).alloc (.cells #[a', b', c'] t)) w1) :
    w1.heap[w.heap.size]? = some (.cells #[a, b, c] t (0, 0)) ∧ w1.heap[w.heap.size + 1]? = some (.cells #[a', b', c'] t (0, 0)) := by
  constructor
  · exact obj_below (obj_alloc (heap_alloc_new w _) _) hb (by simp; omega)
  · have := heap_alloc_new (w.alloc (.cells #[a, b, c] t)) (.cells #[a', b', c'] t)
    rw [World.size_alloc] at this
    exact obj_below this hb (by simp)

/-! ### Bytes from anywhere in a block on -/
/-- Bytes lie in a block from B on, from anywhere in it, with room behind. -/
def Mid (w : World) (B : Nat) (e : TypeId) (v : Value) (l : List UInt8) : Prop :=
  (v = .slice none 0 0 ∧ l = []) ∨
  ∃ g o cap cur, v = .slice (some ⟨g, o, none⟩) l.length cap ∧ B ≤ g ∧ w.heap[g]? = some (.cells cur e (0, 0)) ∧ l.length ≤ cap ∧ o + cap ≤ cur.size ∧ cap ≤ maxLen ∧ (cur.toList.drop o).take l.length = bc l
theorem mid_nil (w : World) (B : Nat) (e : TypeId) : Mid w B e (.slice none 0 0) [] := .inl ⟨rfl, rfl⟩
theorem mid_slice {w : World} {B : Nat} {e : TypeId} {v : Value} {l : List UInt8} (h : Mid w B e v l) : ∃ a c, v = .slice a l.length c := by
  rcases h with ⟨rfl, rfl⟩ | ⟨g, o, cap, cur, rfl, _⟩
  · exact ⟨none, 0, rfl⟩
  · exact ⟨_, _, rfl⟩
theorem mid_block {w : World} {B : Nat} {e : TypeId} {v : Value} {l : List UInt8} (h : Mid w B e v l) : ∀ k, v.ownBlock = some k → B ≤ k ∧ k < w.heap.size := by
  intro k hk
  rcases h with ⟨rfl, rfl⟩ | ⟨g, o, cap, cur, rfl, hB, hg, _⟩
  · simp [Value.ownBlock] at hk
  · simp [Value.ownBlock] at hk
    subst hk
    exact ⟨hB, obj_lt hg⟩
theorem mid_chg {S : Nat → Prop} {w w' : World} {B : Nat} {e : TypeId} {v : Value} {l : List UInt8} (h : Mid w B e v l) (hc : Chg S w w') (hs : ∀ k, v.ownBlock = some k → ¬ S k) : Mid w' B e v l := by
  rcases h with h | ⟨g, o, cap, cur, rfl, hB, hg, rest⟩
  · exact .inl h
  · exact .inr ⟨g, o, cap, cur, rfl, hB, obj_chg hg hc (hs g rfl), rest⟩
theorem mid_heap {w w' : World} {B : Nat} {e : TypeId} {v : Value} {l : List UInt8} (h : Mid w B e v l) (hh : w'.heap = w.heap) : Mid w' B e v l := by
  unfold Mid at h ⊢
  rw [hh]; exact h
theorem mid_owns {w : World} {B : Nat} {e : TypeId} {v : Value} {l : List UInt8} (h : w.ownsRow B e 1 v l.length (bc l)) : Mid w B e v l := by
  rcases h.2 with ⟨rfl, h0⟩ | ⟨g, cap, cur, rfl, hB, hg, hn, hm, hs, ht⟩
  · exact .inl ⟨rfl, List.eq_nil_of_length_eq_zero h0⟩
  · exact .inr ⟨g, 0, cap, cur, rfl, hB, hg, hn, by omega, hm, by simpa using ht⟩
theorem bc_at (l : List UInt8) (j : Nat) (h : j < l.length) : (bc l)[j]? = some (.int .u8 l[j].toNat) := by simp [bc, h]
/-- Each byte where it lies. -/
theorem mid_at {w : World} {B : Nat} {e : TypeId} {g o cap : Nat} {n : Nat} {l : List UInt8} (h : Mid w B e (.slice (some ⟨g, o, none⟩) n cap) l) (j : Nat) (hj : j < l.length) : w.cell? ⟨g, o + j, none⟩ = some (.int .u8 l[j].toNat) := by
  rcases h with ⟨h, _⟩ | ⟨g', o', cap', cur, h, hB, hg, hn, hs, hm, ht⟩
  · cases h
  · cases h
    rw [cell_of_row w g (o + j) cur e (0, 0) hg, ← bc_at l j hj, ← ht, List.getElem?_take, if_pos hj, List.getElem?_drop]
    simp
theorem mid_len {w : World} {B : Nat} {e : TypeId} {a : Option Addr} {cap n : Nat} {l : List UInt8} (h : Mid w B e (.slice a n cap) l) : n = l.length ∧ n ≤ cap := by
  rcases h with ⟨h, rfl⟩ | ⟨g', o', cap', cur, h, hB, hg, hn, hs, hm, ht⟩
  · cases h; simp
  · cases h; exact ⟨rfl, hn⟩
theorem mid_form {w : World} {B : Nat} {e : TypeId} {v : Value} {l : List UInt8} (h : Mid w B e v l) (h0 : 0 < l.length) : ∃ g o cap, v = .slice (some ⟨g, o, none⟩) l.length cap ∧ l.length ≤ cap ∧ g < w.heap.size := by
  rcases h with ⟨_, rfl⟩ | ⟨g, o, cap, cur, rfl, hB, hg, hn, rest⟩
  · simp at h0
  · exact ⟨g, o, cap, rfl, hn, obj_lt hg⟩
/-- The first k bytes. -/
theorem mid_take {w : World} {B : Nat} {e : TypeId} {g o cap n : Nat} {l : List UInt8} (h : Mid w B e (.slice (some ⟨g, o, none⟩) n cap) l) (k : Nat) (hk : k ≤ n) : Mid w B e (.slice (some ⟨g, o, none⟩) k cap) (l.take k) := by
  rcases h with ⟨h, _⟩ | ⟨g', o', cap', cur, h, hB, hg, hn, hs, hm, ht⟩
  · cases h
  · cases h
    have hl : (l.take k).length = k := by simp; omega
    refine .inr ⟨g, o, cap, cur, by rw [hl], hB, hg, by omega, hs, hm, ?_⟩
    rw [hl, show bc (l.take k) = (bc l).take k by simp [bc, List.map_take], ← ht, List.take_take, Nat.min_eq_left hk]
/-- All but the first k bytes. -/
theorem mid_drop {w : World} {B : Nat} {e : TypeId} {g o cap n : Nat} {l : List UInt8} (h : Mid w B e (.slice (some ⟨g, o, none⟩) n cap) l) (k : Nat) (hk : k ≤ n) : Mid w B e (.slice (some ⟨g, o + k, none⟩) (n - k) (cap - k)) (l.drop k) := by
  rcases h with ⟨h, _⟩ | ⟨g', o', cap', cur, h, hB, hg, hn, hs, hm, ht⟩
  · cases h
  · cases h
    have hl : (l.drop k).length = l.length - k := by simp
    refine .inr ⟨g, o + k, cap - k, cur, by rw [hl], hB, hg, by omega, by omega, by omega, ?_⟩
    rw [hl, show bc (l.drop k) = (bc l).drop k by simp [bc, List.map_drop], ← ht, List.drop_take, List.drop_drop]
theorem mid_drop_all {w : World} {B : Nat} {e : TypeId} {g o cap n : Nat} {l : List UInt8} (h : Mid w B e (.slice (some ⟨g, o, none⟩) n cap) l) (k : Nat) (hk : k ≤ n) (hc : cap = k) : Mid w B e (.slice (some ⟨g, o, none⟩) (n - k) (cap - k)) (l.drop k) := by
  rcases h with ⟨h, _⟩ | ⟨g', o', cap', cur, h, hB, hg, hn, hs, hm, ht⟩
  · cases h
  · cases h
    obtain rfl : k = l.length := by omega
    refine .inr ⟨g, o, cap - l.length, cur, by simp, hB, hg, by simp, by omega, by omega, ?_⟩
    simp [bc]
/-- 'string(b)'. -/
theorem conv_mid {P : Program} {w : World} {B src dst e : TypeId} {v : Value} {l : List UInt8} (hs : P.underlying src = some (.slice e)) (he : P.underlying e = some (.int .u8)) (hd : P.underlying dst = some .string)
    (h : Mid w B e v l) : (convert src dst v).run P w = .ok (.string ⟨l.toArray⟩) w := by
  rcases h with ⟨rfl, rfl⟩ | ⟨g, o, cap, cur, rfl, h2⟩
  · exact run_convert_bytes_nil (P := P) (w := w) src e hs he 0 0 dst hd
  · exact run_convert_bytes_back (P := P) w src dst e ⟨g, o, none⟩ cap l hs he hd (fun j hj => by
      rw [Addr.add_mid]
      exact mid_at (B := B) (.inr ⟨g, o, cap, cur, rfl, h2⟩) j hj)

theorem owned_block {w : World} {B : Nat} {e : TypeId} {g n : Nat} {xs : List Value} (h : w.ownsRow B e 1 (.slice (some ⟨g, 0, none⟩) n n) n xs) : w.heap[g]? = some (.cells xs.toArray e (0, 0)) := by
  rcases h.2 with ⟨h1, _⟩ | ⟨g', cap, cur, h1, hB, hg, hn, hm, hs, ht⟩
  · cases h1
  · cases h1
    rw [hg, ← ht, List.take_of_length_le (by simp; omega)]
theorem owned_block' {w : World} {B : Nat} {e : TypeId} {g n : Nat} {xs : List Value} (h : w.ownsRow B e 1 (.slice (some ⟨g, 0, none⟩) n n) n xs) : ∃ ys : List Value, ys.length = n ∧ w.heap[g]? = some (.cells ys.toArray e (0, 0)) :=
  ⟨xs, by simpa using h.1, owned_block h⟩
theorem below_of_grown {w w' : World} (h : w.grownBy w' none) : Below w.heap.size w w' := ⟨h.os, h.tape, h.output, h.size, fun k hk => h.block k hk (by simp)⟩
theorem mid_cells {w : World} {B : Nat} {e : TypeId} {g o cap n : Nat} {l : List UInt8} (h : Mid w B e (.slice (some ⟨g, o, none⟩) n cap) l) : ∀ j v, (bc l)[j]? = some v → w.cell? ⟨g, o + j, none⟩ = some v := fun j v hj => by
  have hjl : j < l.length := by have := (List.getElem?_eq_some_iff.1 hj).1; simpa [bc] using this
  rw [mid_at h j hjl, ← hj, bc_at l j hjl]
theorem bc_one_cell (l : List UInt8) : ∀ v ∈ bc l, v.oneCell' = true := by
  intro v hv
  obtain ⟨b, _, rfl⟩ := List.mem_map.1 hv
  rfl
theorem splice_all {α : Type} (L cs : List α) (h : cs.length = L.length) : splice L 0 cs = cs := by
  unfold splice
  rw [List.take_zero, List.nil_append, Nat.zero_add, List.drop_of_length_le (by omega), List.append_nil]
theorem mid_block_new {w : World} {B g : Nat} {e : TypeId} {l : List UInt8} (h : w.heap[g]? = some (.cells (bc l).toArray e (0, 0))) (hB : B ≤ g) (hm : l.length ≤ maxLen) : Mid w B e (.slice (some ⟨g, 0, none⟩) l.length l.length) l :=
  .inr ⟨g, 0, l.length, _, rfl, hB, h, Nat.le_refl _, by simp [bc_length], hm, by rw [List.drop_zero, List.take_of_length_le (by simp [bc_length])]⟩

/-! ### A text behind bytes -/
theorem strCells_bc (s : ByteArray) : strCells s = bc s.data.toList := by simp [strCells, bc]
theorem run_append_room_mid {P : Program} {w : World} (t u ty e : TypeId) (i : TypeInfo) (ht : P.underlying t = some (.slice e)) (hu : P.underlying u = some .string) (hi : P.info? e = some i) (hs1 : i.size = 1)
    (g o sLen sCap : Nat) (cur : Array Value) (hg : w.heap[g]? = some (.cells cur e (0, 0))) (s : ByteArray)
    (hroom : sLen + s.size ≤ sCap) (hfit : o + sLen + s.size ≤ cur.size) :
    (Builtin.append_ #[t, u] ty #[.slice (some ⟨g, o, none⟩) sLen sCap, .string s]).run P w =
      .ok (.slice (some ⟨g, o, none⟩) (sLen + s.size) sCap) (w.setRow g (cur.toList.take (o + sLen) ++ strCells s ++ cur.toList.drop (o + sLen + s.size)).toArray) := by
  have hf := run_firstCells_string (P := P) w 1 s
  have hst := run_storeCells_at P g (o + sLen) e (strCells s) 0 cur w hg (by simpa [strCells_length] using hfit) (strCells_oneCell s)
  simp only [Nat.add_zero, strCells_length] at hst
  simp [Builtin.append_, run_underlying ht, run_underlying hu, sizeOf, typeInfo, hi, hs1, Builtin.lenOf, hroom, hf, Addr.add_mid, hst]
theorem run_append_mid {P : Program} {w : World} (B : Nat) (t u ty e : TypeId) (i : TypeInfo) (ht : P.underlying t = some (.slice e)) (hu : P.underlying u = some .string) (hi : P.info? e = some i) (hz : i.zero = some (.int .u8 0))
    (hsize : i.size = 1) (hby : i.bytes = 1) (v : Value) (l : List UInt8) (hown : Mid w B e v l) (s : ByteArray)
    (h63 : l.length + s.size ≤ maxLen) (hbytes : l.length + s.size ≤ 140737488355328) (hB : B ≤ w.heap.size) :
    ∃ v' w', (Builtin.append_ #[t, u] ty #[v, .string s]).run P w = .ok v' w' ∧ Mid w' B e v' (l ++ s.data.toList) ∧ w.grownBy w' v.ownBlock ∧ (v'.ownBlock = v.ownBlock ∨ v'.ownBlock = some w.heap.size) := by
  have hsl : s.data.toList.length = s.size := Array.length_toList
  rcases hown with ⟨rfl, rfl⟩ | ⟨g, o, cap, cur, rfl, hBg, hg, hn, hs, hm, htk⟩
  · obtain ⟨v', w', hr, ho, hgr, hnil⟩ := run_append_own_string (P := P) w B t u ty e i ht hu hi hz hsize hby (.slice none 0 0) 0 [] (World.ownsRow_nil w B e 1) s (by simpa using h63) (by simpa using hbytes) hB
    refine ⟨v', w', hr, mid_owns (by simpa [strCells_bc, hsl] using ho), hgr, ?_⟩
    by_cases h0 : s.size = 0
    · rw [hnil.2 ⟨rfl, h0⟩]; exact .inl rfl
    · have hgrw := run_append_nil_string (P := P) w t u ty e i (.int .u8 0) ht hu hi hz s (by omega) (by have := h63; simp only [maxLen, List.length_nil] at this; omega) (by rw [hby]; simp at hbytes; omega)
      rw [hgrw] at hr
      injection hr with hr1 hr2
      exact .inr (by rw [← hr1]; rfl)
  · by_cases hroom : l.length + s.size ≤ cap
    · have hr := run_append_room_mid (P := P) (w := w) t u ty e i ht hu hi hsize g o l.length cap cur hg s hroom (by omega)
      refine ⟨_, _, hr, .inr ⟨g, o, cap, _, by rw [List.length_append, hsl], hBg, setRow_heap w g cur _ e _ hg, by rw [List.length_append, hsl]; exact hroom, ?_, hm, ?_⟩, ⟨rfl, rfl, rfl, by simp, fun k _ hk => setRow_other w g k _ (fun e => hk (by simp [Value.ownBlock, e]))⟩, .inl rfl⟩
      · simp only [List.size_toArray, List.length_append, List.length_take, List.length_drop, Array.length_toList, strCells_length]
        omega
      · have hlo : (cur.toList.take (o + l.length)).drop o = bc l := by rw [List.drop_take, Nat.add_sub_cancel_left]; exact htk
        have hlen : (cur.toList.take (o + l.length)).length = o + l.length := by simp; omega
        rw [List.append_assoc, List.drop_append_of_le_length (by omega), hlo, List.length_append, hsl, bc_append, ← List.append_assoc, strCells_bc]
        rw [show l.length + s.size = (bc l ++ bc s.data.toList).length by rw [List.length_append, bc_length, bc_length, hsl]]
        exact List.take_left
    · have holds : ∀ j u, (bc l)[j]? = some u → w.cell? ((⟨g, o, none⟩ : Addr).add j) = some u := fun j u hj => by
        have hjl : j < l.length := by have := (List.getElem?_eq_some_iff.1 hj).1; simpa [bc] using this
        rw [Addr.add_mid, mid_at (B := B) (e := e) (n := l.length) (cap := cap) (l := l) (.inr ⟨g, o, cap, cur, rfl, hBg, hg, hn, hs, hm, htk⟩) j hjl, ← hj, bc_at l j hjl]
      have hsmall : l.length + s.size ≤ 9223372036854775807 := by simp only [maxLen] at h63; omega
      have hr := run_append_grow_string (P := P) w t u ty e i (.int .u8 0) ht hu hi hz ⟨g, o, none⟩ l.length cap (bc l) (by rw [hsize, bc_length, Nat.mul_one]) holds s (by omega) (by omega) (by rw [hby]; exact growslice_fits (by omega) (by omega))
      have hge := grownCap_ge w (l.length + s.size) cap e
      have hcm : grownCap w (l.length + s.size) cap e ≤ maxLen := grownCap_le_maxLen w (l.length + s.size) cap e h63
      refine ⟨_, _, hr, .inr ⟨w.heap.size, 0, _, _, by rw [List.length_append, hsl], hB, heap_alloc_new w.drew _, by rw [List.length_append, hsl]; exact hge, ?_, hcm, ?_⟩, ⟨rfl, rfl, rfl, by simp, fun k hk _ => Below.heap_alloc w.drew _ k hk⟩, .inr rfl⟩
      · have hz1 : (Value.int IntKind.u8 0).cells.size = 1 := rfl
        simp only [Array.size_append, List.size_toArray, size_zeroCells, hz1, bc_length, strCells_length]
        omega
      · simp only [Array.toList_append, List.drop_zero, List.append_assoc]
        rw [← List.append_assoc, strCells_bc, ← bc_append, show (l ++ s.data.toList).length = (bc (l ++ s.data.toList)).length by rw [bc_length]]
        exact List.take_left
/-- 'append(b, s...)' of a text's bytes, b lying anywhere in a block. -/
theorem wpList_append_mid {P : Program} {w : World} {ops : Array Oper} {rest : List Oper} {o : Oper} {a : Act} {Q : Exit → Act → World → Prop} (hgd : o.guard = none) (sl x : Operand) (t u : TypeId)
    (ho : o.op = .call { callee := .builtin .append, args := #[sl, x], argTypes := #[t, u] })
    (B : Nat) (e : TypeId) (i : TypeInfo) (ht : P.underlying t = some (.slice e)) (hu : P.underlying u = some .string) (hi : P.info? e = some i) (hz : i.zero = some (.int .u8 0))
    (hsize : i.size = 1) (hby : i.bytes = 1)
    (v : Value) (l : List UInt8) (hs : a.eval sl = v) (hown : Mid w B e v l) (s : ByteArray) (hx : a.eval x = .string s)
    (h63 : l.length + s.size ≤ maxLen) (hbytes : l.length + s.size ≤ 140737488355328) (hB : B ≤ w.heap.size)
    (h : ∀ v' w', Mid w' B e v' (l ++ s.data.toList) → w.grownBy w' v.ownBlock → (v'.ownBlock = v.ownBlock ∨ v'.ownBlock = some w.heap.size) → wpList P ops Q rest (a.put o.dst v') w') : wpList P ops Q (o :: rest) a w := by
  refine wpList_plain hgd fun K hK => ?_
  obtain ⟨v', w', hr, h1, h2, h3⟩ := run_append_mid (P := P) (w := w) B t u o.type e i ht hu hi hz hsize hby v l hown s h63 hbytes hB
  unfold Oper.wp
  simp [execOp, ho, resolve, invoke, builtin, hs, hx, hr, Result.andThen]
  exact hK _ _ (h v' w' h1 h2 h3)

/-! ### Rows of the call's own, and where they lie -/
/-- 'append(out, x)' of one element, its block just laid; where the new row lies. -/
theorem wpList_pushc {P : Program} {w : World} {ops : Array Oper} {rest : List Oper} {o : Oper} {a : Act} {Q : Exit → Act → World → Prop} (hgd : o.guard = none) (s x : Operand) (t e : TypeId)
    (ho : o.op = .call { callee := .builtin .append, args := #[s, x], argTypes := #[t, t] })
    (base size bytes : Nat) (z : Value) (h5 : (P.info? e).map (fun i => (i.zero, i.size, i.bytes)) = some (some z, size, bytes)) (ht : P.underlying t = some (.slice e)) (hzs : z.cells.size = size) (hsz : 0 < size)
    (us : List Value) (hul : us.length = 1 * size) (hu : ∀ u ∈ us, u.oneCell' = true)
    (v : Value) (n : Nat) (xs : List Value) (hs : a.eval s = v) (g : Nat) (hx : a.eval x = .slice (some ⟨g, 0, none⟩) 1 1) (hg : g = w.heap.size) (hown : w.ownsRow base e size v n xs)
    (h63 : n + 1 ≤ maxLen) (hbytes : (n + 1) * bytes ≤ 140737488355328) (hbase : base ≤ w.heap.size)
    (h : ∀ v' w', w'.ownsRow base e size v' (n + 1) (xs ++ us) → Chg (fun k => some k = v.ownBlock) w w' → (v'.ownBlock = v.ownBlock ∨ ∃ k, v'.ownBlock = some k ∧ w.heap.size ≤ k) → wpList P ops Q rest (a.put o.dst v') w') :
    wpList P ops Q (o :: rest) a (w.alloc (.cells us.toArray e)) := by
  subst hg
  obtain ⟨i, hi, hz0, hz1, hz2⟩ := info_parts h5
  refine wpList_append_own_at (w.alloc (.cells us.toArray e)) hgd s x t ho base e i z size bytes ht hi hz0 hz1 hz2 hzs hsz v n xs hs (hown.alloc _) ⟨w.heap.size, 0, none⟩ 1 1 us hx hul (cell_new w us e) hu h63 hbytes (by simp; omega) ?_
  intro v' w' h1 h2 _ h4
  refine h v' w' h1 (((Chg.refl _ w).alloc _).trans (Chg.ofGrown h2) (fun _ _ h => h)) ?_
  rcases h4 with h4 | h4
  · exact .inl h4
  · exact .inr ⟨_, h4, by simp⟩
/-- 'append(out, x...)' of a row of the call's own; where the new row lies. -/
theorem wpList_appendc {P : Program} {w : World} {ops : Array Oper} {rest : List Oper} {o : Oper} {a : Act} {Q : Exit → Act → World → Prop} (hgd : o.guard = none) (s x : Operand) (t e : TypeId)
    (ho : o.op = .call { callee := .builtin .append, args := #[s, x], argTypes := #[t, t] })
    (base size bytes : Nat) (z : Value) (h5 : (P.info? e).map (fun i => (i.zero, i.size, i.bytes)) = some (some z, size, bytes)) (ht : P.underlying t = some (.slice e)) (hzs : z.cells.size = size) (hsz : 0 < size)
    (v : Value) (n : Nat) (xs : List Value) (hs : a.eval s = v) (hown : w.ownsRow base e size v n xs)
    (vx : Value) (b2 m : Nat) (us : List Value) (hx : a.eval x = vx) (hown2 : w.ownsRow b2 e size vx m us) (hu : ∀ u ∈ us, u.oneCell' = true)
    (h63 : n + m ≤ maxLen) (hbytes : (n + m) * bytes ≤ 140737488355328) (hbase : base ≤ w.heap.size)
    (h : ∀ v' w', w'.ownsRow base e size v' (n + m) (xs ++ us) → Chg (fun k => some k = v.ownBlock) w w' → (v'.ownBlock = v.ownBlock ∨ ∃ k, v'.ownBlock = some k ∧ w.heap.size ≤ k) → wpList P ops Q rest (a.put o.dst v') w') :
    wpList P ops Q (o :: rest) a w := by
  obtain ⟨i, hi, hz0, hz1, hz2⟩ := info_parts h5
  have hcopy := hown2
  rcases hcopy.2 with ⟨rfl, rfl⟩ | ⟨g, cap, cur, rfl, _, hg, _⟩
  · obtain rfl : us = [] := List.eq_nil_of_length_eq_zero (by have := hcopy.1; omega)
    refine wpList_append_own_none hgd s x t ho base e i size ht hi v n xs hs hown hx ?_
    exact h v w (by simpa using hown) (Chg.refl _ _) (.inl rfl)
  · refine wpList_append_own_at w hgd s x t ho base e i z size bytes ht hi hz0 hz1 hz2 hzs hsz v n xs hs hown ⟨g, 0, none⟩ m cap us hx hcopy.1 (hcopy.cells (g := g) rfl) hu h63 hbytes hbase ?_
    intro v' w' h1 h2 _ h4
    refine h v' w' h1 (Chg.ofGrown h2) ?_
    rcases h4 with h4 | h4
    · exact .inl h4
    · exact .inr ⟨_, h4, Nat.le_refl _⟩
theorem sc_one_cell (l : List (List UInt8)) : ∀ v ∈ sc l, v.oneCell' = true := by
  intro v hv
  obtain ⟨b, _, rfl⟩ := List.mem_map.1 hv
  rfl
theorem sc_append (a b : List (List UInt8)) : sc (a ++ b) = sc a ++ sc b := by simp [sc]
theorem sc_length (a : List (List UInt8)) : (sc a).length = a.length := by simp [sc]
/-- How many elements a slice has. -/
def sliceLen : Value → Nat
  | .slice _ n _ => n
  | _ => 0
end Go.Proofs.MemK
