/- Rows of texts, numbers and bytes in memory, over any program: rows of the call's own, rows that are only read, and what keeps them. -/
import Derived.Test.YtlnfbjgadcifkaaDoorKit
import Derived.Laws.BytesArg
import Derived.Laws.OwnMore
import Derived.Deep.QuietTactic
namespace Go.Proofs.MemK
open Go Go.RowKit Go.Proofs.BerK

theorem ownsRow_below {w w' : World} {base : Nat} {e : TypeId} {size : Nat} {v : Value} {n : Nat} {xs : List Value} (h : w.ownsRow base e size v n xs) (hb : Below w.heap.size w w') : w'.ownsRow base e size v n xs := by
  refine ⟨h.1, ?_⟩
  rcases h.2 with hn | ⟨g, cap, cur, rfl, hbg, hg, rest⟩
  · exact .inl hn
  · exact .inr ⟨g, cap, cur, rfl, hbg, by rw [hb.block g (Array.getElem?_eq_some_iff.1 hg).1]; exact hg, rest⟩
theorem ownsRow_slice {w : World} {base : Nat} {e : TypeId} {size : Nat} {v : Value} {n : Nat} {xs : List Value} (h : w.ownsRow base e size v n xs) : ∃ a c, v = .slice a n c := by
  rcases h.2 with ⟨rfl, rfl⟩ | ⟨g, cap, cur, rfl, _⟩
  · exact ⟨none, 0, rfl⟩
  · exact ⟨_, cap, rfl⟩

/-- 'append(out, x)' of one element, its block just laid, the block's number spelt as one likes. -/
theorem wpList_pushg {P : Program} {w : World} {ops : Array Oper} {rest : List Oper} {o : Oper} {a : Act} {Q : Exit → Act → World → Prop} (hgd : o.guard = none) (s x : Operand) (t e : TypeId)
    (ho : o.op = .call { callee := .builtin .append, args := #[s, x], argTypes := #[t, t] })
    (base size bytes : Nat) (z : Value) (h5 : (P.info? e).map (fun i => (i.zero, i.size, i.bytes)) = some (some z, size, bytes)) (ht : P.underlying t = some (.slice e)) (hzs : z.cells.size = size) (hsz : 0 < size)
    (us : List Value) (hul : us.length = 1 * size) (hu : ∀ u ∈ us, u.oneCell' = true)
    (v : Value) (n : Nat) (xs : List Value) (hs : a.eval s = v) (g : Nat) (hx : a.eval x = .slice (some ⟨g, 0, none⟩) 1 1) (hg : g = w.heap.size) (hown : w.ownsRow base e size v n xs)
    (h63 : n + 1 ≤ maxLen) (hbytes : (n + 1) * bytes ≤ 140737488355328) (hbase : base ≤ w.heap.size)
    (h : ∀ v' w', w'.ownsRow base e size v' (n + 1) (xs ++ us) → Below base w w' → wpList P ops Q rest (a.put o.dst v') w') :
    wpList P ops Q (o :: rest) a (w.alloc (.cells us.toArray e)) :=
  wpList_push hgd s x t e ho base size bytes z h5 ht hzs hsz us hul hu v n xs hs (hg ▸ hx) hown h63 hbytes hbase h

theorem ownsRow_base {w : World} {B B' : Nat} {e : TypeId} {size : Nat} {v : Value} {n : Nat} {xs : List Value} (h : w.ownsRow B e size v n xs) (hB : B' ≤ B) : w.ownsRow B' e size v n xs :=
  ⟨h.1, h.2.imp id fun ⟨g, cap, cur, a, b, c⟩ => ⟨g, cap, cur, a, Nat.le_trans hB b, c⟩⟩

theorem drop_at {α : Type} (L : List α) (i : Nat) (h : i < L.length) : L.drop i = L[i] :: L.drop (i + 1) := by
  rw [List.drop_eq_getElem_cons h]

/-- Texts lie in memory, one behind the other. -/
def StrAt (w : World) (v : Value) (l : List (List UInt8)) : Prop :=
  (l = [] ∧ ∃ a c, v = .slice a 0 c) ∨ (0 < l.length ∧ ∃ g o c, v = .slice (some ⟨g, o, none⟩) l.length c ∧ g < w.heap.size ∧ ∀ i (hi : i < l.length), w.cell? ⟨g, o + i, none⟩ = some (.string ⟨l[i].toArray⟩))
theorem strAt_below {w w' : World} {v : Value} {l : List (List UInt8)} (h : StrAt w v l) (hb : Below w.heap.size w w') : StrAt w' v l := by
  rcases h with h | ⟨h0, g, o, c, hv, hg, hq⟩
  · exact .inl h
  · exact .inr ⟨h0, g, o, c, hv, Nat.lt_of_lt_of_le hg hb.size, fun i hi => (hb.cell (p := ⟨g, o + i, none⟩) hg).trans (hq i hi)⟩

/-- 'string(b)', b a row of bytes of the call's own, an empty one too. -/
theorem conv_own' {P : Program} {w : World} {base src dst e : TypeId} {v : Value} {n : Nat} {l : List UInt8} (hs : P.underlying src = some (.slice e)) (he : P.underlying e = some (.int .u8)) (hd : P.underlying dst = some .string)
    (h : w.ownsRow base e 1 v n (bc l)) : (convert src dst v).run P w = .ok (.string ⟨l.toArray⟩) w := by
  have hn : l.length = n := by have := h.1; simpa [bc] using this
  rcases h.2 with ⟨rfl, rfl⟩ | ⟨g, cap, cur, rfl, _, _, _, _, _, _⟩
  · obtain rfl := List.eq_nil_of_length_eq_zero hn
    exact run_convert_bytes_nil (P := P) (w := w) src e hs he 0 0 dst hd
  · have hc := h.cells (g := g) rfl
    have := run_convert_bytes_back (P := P) w src dst e ⟨g, 0, none⟩ cap l hs he hd (fun j hj => hc j _ (by simp [bc, hj]))
    rw [hn] at this
    exact this

theorem flat_take (l : List (List UInt8)) (i : Nat) (h : i < l.length) : (l.take (i + 1)).flatten = (l.take i).flatten ++ l[i] := by
  rw [List.take_succ_eq_append_getElem h, List.flatten_append]; simp
theorem flat_take_le (l : List (List UInt8)) (i : Nat) : (l.take i).flatten.length ≤ l.flatten.length := by
  have : l.flatten = (l.take i).flatten ++ (l.drop i).flatten := by rw [← List.flatten_append, List.take_append_drop]
  rw [this, List.length_append]; omega

/-- Numbers lie in memory, one behind the other. -/
def IntAt (w : World) (v : Value) (ts : List Nat) : Prop :=
  ∃ a c, v = .slice a ts.length c ∧ ∀ i (hi : i < ts.length), ∃ g, a = some ⟨g, 0, none⟩ ∧ g < w.heap.size ∧ w.cell? ⟨g, i, none⟩ = some (.int .i64 (ts[i] : Nat))
/-- Texts as cells. -/
def sc (l : List (List UInt8)) : List Value := l.map fun x => .string ⟨x.toArray⟩
/-- The first k of texts, and empty ones behind them. -/
def preS (l : List (List UInt8)) (k : Nat) : List (List UInt8) := l.take k ++ List.replicate (l.length - k) []
theorem preS_0 (l : List (List UInt8)) : sc (preS l 0) = (madeCells #[Value.string ByteArray.empty] l.length).toList := by
  rw [toList_madeCells_one]
  simp [preS, sc]
  exact .inr rfl
theorem preS_all (l : List (List UInt8)) : preS l l.length = l := by simp [preS]
theorem preS_len (l : List (List UInt8)) (k : Nat) (h : k ≤ l.length) : (sc (preS l k)).length = l.length := by simp [preS, sc]; omega
theorem preS_set (l : List (List UInt8)) (k : Nat) (h : k < l.length) : (sc (preS l k)).set k (.string ⟨l[k].toArray⟩) = sc (preS l (k + 1)) := by
  have e : l.length - k = (l.length - (k + 1)) + 1 := by omega
  have hk : (l.take k).length = k := by simp; omega
  unfold sc
  rw [← List.map_set (f := fun x : List UInt8 => Value.string ⟨x.toArray⟩)]
  congr 1
  unfold preS
  rw [e, List.replicate_succ, List.set_append_right _ _ (by omega), List.take_succ_eq_append_getElem h, hk, Nat.sub_self, List.set_cons_zero, List.append_assoc]
  rfl
theorem preS_at (l : List (List UInt8)) (k : Nat) (h : k < l.length) : (sc (preS l k))[k]? = some (.string ⟨([] : List UInt8).toArray⟩) := by
  have hk : (l.take k).length = k := by simp; omega
  simp only [sc, List.getElem?_map, preS]
  rw [List.getElem?_append_right (by omega), hk, Nat.sub_self, show l.length - k = (l.length - (k + 1)) + 1 by omega, List.replicate_succ]
  rfl
theorem ownsRow_heap {w w' : World} {base : Nat} {e : TypeId} {size : Nat} {v : Value} {n : Nat} {xs : List Value} (h : w.ownsRow base e size v n xs) (hh : w'.heap = w.heap) : w'.ownsRow base e size v n xs := by
  unfold World.ownsRow at h ⊢
  rw [hh]; exact h

theorem below_dn {B : Nat} {a w : World} (h : Below B a w) (n : Nat) : Below B a (w.drewN n) := ⟨h.os, h.tape, h.output, h.size, h.block⟩

/-- Texts lie in memory from a block's beginning, one behind the other. -/
def StrU (w : World) (v : Value) (l : List (List UInt8)) : Prop :=
  ∃ a c, v = .slice a l.length c ∧ ∀ i (hi : i < l.length), ∃ g, a = some ⟨g, 0, none⟩ ∧ g < w.heap.size ∧ w.cell? ⟨g, i, none⟩ = some (.string ⟨l[i].toArray⟩)
theorem strU_owns {w : World} {B e : Nat} {v : Value} {l : List (List UInt8)} (h : w.ownsRow B e 1 v l.length (sc l)) : StrU w v l := by
  rcases h.2 with ⟨rfl, h0⟩ | ⟨g, cap, cur, rfl, _, hg, _⟩
  · exact ⟨none, 0, by rw [h0], fun i hi => by omega⟩
  · refine ⟨_, cap, rfl, fun i hi => ⟨g, rfl, (Array.getElem?_eq_some_iff.1 hg).1, ?_⟩⟩
    rw [h.cellAt i (by omega)]
    simp [sc, hi]
theorem strU_below {w w' : World} {v : Value} {l : List (List UInt8)} (h : StrU w v l) (hb : Below w.heap.size w w') : StrU w' v l := by
  obtain ⟨a, c, rfl, h⟩ := h
  refine ⟨a, c, rfl, fun i hi => ?_⟩
  obtain ⟨g, rfl, hg, hc⟩ := h i hi
  exact ⟨g, rfl, Nat.lt_of_lt_of_le hg hb.size, (hb.cell (p := ⟨g, i, none⟩) hg).trans hc⟩

/-- What reads memory alone hands back. -/
def DrewPost (b : Bool) (w : World) (en : Ending) (w' : World) : Prop := en = .returned (.bool b) ∧ ∃ n, w' = w.drewN n

theorem strAt_new (w : World) (l : List (List UInt8)) (e : TypeId) (h : 0 < l.length) : StrAt (w.alloc (.cells (sc l).toArray e)) (.slice (some ⟨w.heap.size, 0, none⟩) l.length l.length) l := by
  refine .inr ⟨h, w.heap.size, 0, l.length, rfl, by simp, fun i hi => ?_⟩
  rw [World.cell?_alloc_mark w _ e (0, 0)]
  simp [sc, hi]
theorem strU_new (w : World) (l : List (List UInt8)) (e : TypeId) : StrU (w.alloc (.cells (sc l).toArray e)) (.slice (some ⟨w.heap.size, 0, none⟩) l.length l.length) l := by
  refine ⟨_, _, rfl, fun i hi => ⟨w.heap.size, rfl, by simp, ?_⟩⟩
  rw [World.cell?_alloc_mark w _ e (0, 0)]
  simp [sc, hi]
theorem intAt_new (w : World) (l : List Nat) (e : TypeId) : IntAt (w.alloc (.cells (l.map fun n => Value.int .i64 (n : Nat)).toArray e)) (.slice (some ⟨w.heap.size, 0, none⟩) l.length l.length) l := by
  refine ⟨_, _, rfl, fun i hi => ⟨w.heap.size, rfl, by simp, ?_⟩⟩
  rw [World.cell?_alloc_mark w _ e (0, 0)]
  simp [hi]

theorem flat_le (l : List (List UInt8)) (k : Nat) (h : ∀ x ∈ l, x.length ≤ k) : l.flatten.length ≤ l.length * k := by
  induction l with
  | nil => simp
  | cons x l ih =>
    have h1 := h x (by simp)
    have h2 := ih fun y hy => h y (by simp [hy])
    rw [List.flatten_cons, List.length_append, List.length_cons, Nat.add_mul]
    omega
theorem mem_take_snoc {α : Type} {p : α → Prop} {l : List α} {i : Nat} (h : i < l.length) (h1 : ∀ x ∈ l.take i, p x) (h2 : p l[i]) : ∀ x ∈ l.take (i + 1), p x := by
  rw [List.take_succ_eq_append_getElem h]
  intro x hx
  rcases List.mem_append.1 hx with hx | hx
  · exact h1 x hx
  · obtain rfl := List.mem_singleton.1 hx; exact h2

/-- Bytes lie in memory, one behind the other. -/
def ByteAt (w : World) (v : Value) (bs : List UInt8) : Prop :=
  ∃ a c, v = .slice a bs.length c ∧ ∀ i (hi : i < bs.length), ∃ g o, a = some ⟨g, o, none⟩ ∧ g < w.heap.size ∧ w.cell? ⟨g, o + i, none⟩ = some (.int .u8 (bs[i].toNat : Nat))
/-- Numbers as cells. -/
def ic (ts : List Nat) : List Value := ts.map fun n => Value.int .i64 (n : Nat)
theorem intAt_owns {w : World} {B e : Nat} {v : Value} {ts : List Nat} (h : w.ownsRow B e 1 v ts.length (ic ts)) : IntAt w v ts := by
  rcases h.2 with ⟨rfl, h0⟩ | ⟨g, cap, cur, rfl, _, hg, _⟩
  · exact ⟨none, 0, by rw [h0], fun i hi => by omega⟩
  · refine ⟨_, cap, rfl, fun i hi => ⟨g, rfl, (Array.getElem?_eq_some_iff.1 hg).1, ?_⟩⟩
    rw [h.cellAt i (by omega)]
    simp [ic, hi]
theorem intAt_below {w w' : World} {v : Value} {ts : List Nat} (h : IntAt w v ts) (hb : Below w.heap.size w w') : IntAt w' v ts := by
  obtain ⟨a, c, rfl, h⟩ := h
  refine ⟨a, c, rfl, fun i hi => ?_⟩
  obtain ⟨g, rfl, hg, hc⟩ := h i hi
  exact ⟨g, rfl, Nat.lt_of_lt_of_le hg hb.size, (hb.cell (p := ⟨g, i, none⟩) hg).trans hc⟩
theorem ic_take (bs : List UInt8) (j : Nat) (h : j < bs.length) : ic ((bs.map UInt8.toNat).take (j + 1)) = ic ((bs.map UInt8.toNat).take j) ++ [.int .i64 (bs[j].toNat : Nat)] := by
  rw [List.take_succ_eq_append_getElem (by simpa using h), List.getElem_map]
  simp only [ic, List.map_append, List.map_cons, List.map_nil]
end Go.Proofs.MemK
