/- Rows that are only read, as what is appended: over any program. -/
import Derived.Test.YtlnfbjgadcifkaaDoorObj
namespace Go.Proofs.MemK
set_option linter.unusedVariables false
set_option linter.unusedSimpArgs false
open Go Go.RowKit Go.Proofs.BerK

/-- A row lies in memory, to be read: its cells from an address on. -/
def RdRow (w : World) (size : Nat) (v : Value) (m : Nat) (us : List Value) : Prop :=
  us.length = m * size ∧ ((v = .slice none 0 0 ∧ m = 0) ∨ ∃ ad c, v = .slice (some ad) m c ∧ ∀ j u, us[j]? = some u → w.cell? (ad.add j) = some u)
theorem rdRow_owns {w : World} {B : Nat} {e : TypeId} {size : Nat} {v : Value} {n : Nat} {xs : List Value} (h : w.ownsRow B e size v n xs) : RdRow w size v n xs := by
  refine ⟨h.1, ?_⟩
  rcases h.2 with ⟨rfl, rfl⟩ | ⟨g, cap, cur, rfl, _, hg, _⟩
  · exact .inl ⟨rfl, rfl⟩
  · exact .inr ⟨_, cap, rfl, h.cells (g := g) rfl⟩
theorem rdRow_below {w w' : World} {size : Nat} {v : Value} {m : Nat} {us : List Value} (h : RdRow w size v m us) (hb : Below w.heap.size w w') : RdRow w' size v m us := by
  refine ⟨h.1, ?_⟩
  rcases h.2 with h2 | ⟨ad, c, rfl, h2⟩
  · exact .inl h2
  · refine .inr ⟨ad, c, rfl, fun j u hj => ?_⟩
    have := h2 j u hj
    exact (hb.cell (p := ad.add j) (World.block_lt_of_cell? w _ this)).trans this
theorem rdRow_nil (w : World) (size : Nat) : RdRow w size (.slice none 0 0) 0 [] := ⟨by simp, .inl ⟨rfl, rfl⟩⟩
theorem rdRow_take {w : World} {B : Nat} {e : TypeId} {size : Nat} {g n cap : Nat} {xs : List Value} (h : w.ownsRow B e size (.slice (some ⟨g, 0, none⟩) n cap) n xs) (k : Nat) (hk : k ≤ n) : RdRow w size (.slice (some ⟨g, 0, none⟩) k cap) k (xs.take (k * size)) := by
  have hl := h.1
  have : k * size ≤ n * size := Nat.mul_le_mul_right _ hk
  refine ⟨by rw [List.length_take]; omega, .inr ⟨_, _, rfl, fun j u hj => ?_⟩⟩
  rw [List.getElem?_take] at hj
  split at hj
  · exact h.cells (g := g) rfl j u hj
  · cases hj
theorem rdRow_drop {w : World} {B : Nat} {e : TypeId} {size : Nat} {g n cap : Nat} {xs : List Value} (h : w.ownsRow B e size (.slice (some ⟨g, 0, none⟩) n cap) n xs) (k c : Nat) (hk : k ≤ n) : RdRow w size (.slice (some ⟨g, k * size, none⟩) (n - k) c) (n - k) (xs.drop (k * size)) := by
  have hl := h.1
  refine ⟨by rw [List.length_drop, hl, Nat.sub_mul], .inr ⟨_, _, rfl, fun j u hj => ?_⟩⟩
  rw [List.getElem?_drop] at hj
  have := h.cells (g := g) rfl _ u hj
  rw [show (⟨g, k * size, none⟩ : Addr).add j = (⟨g, 0, none⟩ : Addr).add (k * size + j) by
    unfold Addr.add
    by_cases h0 : j = 0
    · by_cases h1 : k * size = 0 <;> simp [h0, h1]
    · simp [h0]]
  exact this
/-- 'append(out, x...)' of a row that is only read; where the new row lies. -/
theorem wpList_appendr {P : Program} {w : World} {ops : Array Oper} {rest : List Oper} {o : Oper} {a : Act} {Q : Exit → Act → World → Prop} (hgd : o.guard = none) (s x : Operand) (t e : TypeId)
    (ho : o.op = .call { callee := .builtin .append, args := #[s, x], argTypes := #[t, t] })
    (base size bytes : Nat) (z : Value) (h5 : (P.info? e).map (fun i => (i.zero, i.size, i.bytes)) = some (some z, size, bytes)) (ht : P.underlying t = some (.slice e)) (hzs : z.cells.size = size) (hsz : 0 < size)
    (v : Value) (n : Nat) (xs : List Value) (hs : a.eval s = v) (hown : w.ownsRow base e size v n xs)
    (vx : Value) (m : Nat) (us : List Value) (hx : a.eval x = vx) (hrd : RdRow w size vx m us) (hu : ∀ u ∈ us, u.oneCell' = true)
    (h63 : n + m ≤ maxLen) (hbytes : (n + m) * bytes ≤ 140737488355328) (hbase : base ≤ w.heap.size)
    (h : ∀ v' w', w'.ownsRow base e size v' (n + m) (xs ++ us) → Chg (fun k => some k = v.ownBlock) w w' → (v'.ownBlock = v.ownBlock ∨ ∃ k, v'.ownBlock = some k ∧ w.heap.size ≤ k) → wpList P ops Q rest (a.put o.dst v') w') :
    wpList P ops Q (o :: rest) a w := by
  obtain ⟨i, hi, hz0, hz1, hz2⟩ := info_parts h5
  rcases hrd.2 with ⟨rfl, rfl⟩ | ⟨ad, c, rfl, hc⟩
  · obtain rfl : us = [] := List.eq_nil_of_length_eq_zero (by have := hrd.1; omega)
    refine wpList_append_own_none hgd s x t ho base e i size ht hi v n xs hs hown hx ?_
    exact h v w (by simpa using hown) (Chg.refl _ _) (.inl rfl)
  · refine wpList_append_own_at w hgd s x t ho base e i z size bytes ht hi hz0 hz1 hz2 hzs hsz v n xs hs hown ad m c us hx hrd.1 hc hu h63 hbytes hbase ?_
    intro v' w' h1 h2 _ h4
    refine h v' w' h1 (Chg.ofGrown h2) ?_
    rcases h4 with h4 | h4
    · exact .inl h4
    · exact .inr ⟨_, h4, Nat.le_refl _⟩
/-- The call's own row, changed: what lies below is as it was. -/
theorem below_chg {B : Nat} {e : TypeId} {size n : Nat} {v : Value} {xs : List Value} {w0 w w' : World} (hb : Below B w0 w) (hs : B ≤ w.heap.size) (h : w.ownsRow B e size v n xs) (hc : Chg (fun k => some k = v.ownBlock) w w') : Below B w0 w' :=
  hb.trans (hc.toBelow hs (fun k _ hk => (h.lt k hk.symm).1))
end Go.Proofs.MemK
