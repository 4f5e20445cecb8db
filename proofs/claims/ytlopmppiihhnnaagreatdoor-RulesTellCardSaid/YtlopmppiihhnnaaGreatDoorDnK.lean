/- More laws over any program: several elements, or a text's bytes, put behind a row of the call's own. -/
import Derived.Test.YtlopmppiihhnnaaGreatDoorObj
import Derived.Lib.AppendStr
import Derived.Deep.RegionLaw
namespace Go.Proofs.MemK
open Go Go.RowKit Go.Proofs.BerK

/-- 'append(out, x, y, ..)' of m elements, their block just laid. -/
theorem wpList_pushm {P : Program} {w : World} {ops : Array Oper} {rest : List Oper} {o : Oper} {a : Act} {Q : Exit → Act → World → Prop} (hgd : o.guard = none) (s x : Operand) (t e : TypeId)
    (ho : o.op = .call { callee := .builtin .append, args := #[s, x], argTypes := #[t, t] })
    (base size bytes : Nat) (z : Value) (h5 : (P.info? e).map (fun i => (i.zero, i.size, i.bytes)) = some (some z, size, bytes)) (ht : P.underlying t = some (.slice e)) (hzs : z.cells.size = size) (hsz : 0 < size)
    (m : Nat) (us : List Value) (hul : us.length = m * size) (hu : ∀ u ∈ us, u.oneCell' = true)
    (v : Value) (n : Nat) (xs : List Value) (hs : a.eval s = v) (g : Nat) (hx : a.eval x = .slice (some ⟨g, 0, none⟩) m m) (hg : g = w.heap.size) (hown : w.ownsRow base e size v n xs)
    (h63 : n + m ≤ maxLen) (hbytes : (n + m) * bytes ≤ 140737488355328) (hbase : base ≤ w.heap.size)
    (h : ∀ v' w', w'.ownsRow base e size v' (n + m) (xs ++ us) → Below base w w' → wpList P ops Q rest (a.put o.dst v') w') :
    wpList P ops Q (o :: rest) a (w.alloc (.cells us.toArray e)) := by
  subst hg
  obtain ⟨i, hi, hz0, hz1, hz2⟩ := info_parts h5
  refine wpList_append_own (w.alloc (.cells us.toArray e)) hgd s x t ho base e i z size bytes ht hi hz0 hz1 hz2 hzs hsz v n xs hs (hown.alloc _) ⟨w.heap.size, 0, none⟩ m m us hx hul (cell_new w us e) hu h63 hbytes (by simp; omega) ?_
  intro v' w' h1 h2 _
  exact h v' w' h1 (below_push (hown.alloc _) (Nat.le_refl _) (by simp; omega) h2 ((Below.refl _ _).alloc hbase _))

/-- 'append(out, s...)' of a text. -/
theorem wpList_apps {P : Program} {w : World} {ops : Array Oper} {rest : List Oper} {o : Oper} {a : Act} {Q : Exit → Act → World → Prop} (hgd : o.guard = none) (sl x : Operand) (t u e : TypeId)
    (ho : o.op = .call { callee := .builtin .append, args := #[sl, x], argTypes := #[t, u] })
    (base : Nat) (h5 : (P.info? e).map (fun i => (i.zero, i.size, i.bytes)) = some (some (.int .u8 0), 1, 1)) (ht : P.underlying t = some (.slice e)) (hu : P.underlying u = some .string)
    (v : Value) (X : List UInt8) (hs : a.eval sl = v) (hown : w.ownsRow base e 1 v X.length (bc X)) (s : ByteArray) (hx : a.eval x = .string s)
    (hroom : X.length + s.size ≤ 140737488355328) (hbase : base ≤ w.heap.size)
    (h : ∀ v' w', w'.ownsRow base e 1 v' (X ++ s.data.toList).length (bc (X ++ s.data.toList)) → Below base w w' → wpList P ops Q rest (a.put o.dst v') w') :
    wpList P ops Q (o :: rest) a w := by
  obtain ⟨i, hi, hz0, hz1, hz2⟩ := info_parts h5
  refine Lib.wpList_append_own_string w hgd sl x t u ho base e i ht hu hi hz0 hz1 hz2 v X.length (bc X) hs hown s hx (by unfold maxLen; omega) hroom hbase ?_
  intro v' w' h1 h2 _
  refine h v' w' ?_ (below_push hown (Nat.le_refl _) hbase h2 (Below.refl _ _))
  rw [Lib.strCells] at h1
  have e : (X ++ s.data.toList).length = X.length + s.size := by rw [List.length_append, Array.length_toList]; rfl
  rw [e, bc_append]
  exact h1
/-- 'append(out, x, y, ..)' in a region that draws its order. -/
theorem step_pushm {P : Program} {ops : Array Oper} {o : Oper} {a : Act} {w1 : World} {K : Act → World → Prop} {Q : Exit → Act → World → Prop} {E : Prop}
    (hgd : o.guard = none) (s x : Operand) (t e : TypeId) (ho : o.op = Op.call { callee := Callee.builtin Builtin.append, args := #[s, x], argTypes := #[t, t] })
    (base size bytes : Nat) (z : Value) (h5 : (P.info? e).map (fun i => (i.zero, i.size, i.bytes)) = some (some z, size, bytes)) (ht : P.underlying t = some (.slice e)) (hzs : z.cells.size = size) (hsz : 0 < size)
    (w : World) (m : Nat) (us : List Value) (hw1 : w1 = w.alloc (.cells us.toArray e)) (hul : us.length = m * size) (hu : ∀ u ∈ us, u.oneCell' = true)
    (v : Value) (n : Nat) (xs : List Value) (hs : a.eval s = v) (g : Nat) (hx : a.eval x = .slice (some ⟨g, 0, none⟩) m m) (hg : g = w.heap.size) (hown : w.ownsRow base e size v n xs)
    (h63 : n + m ≤ maxLen) (hbytes : (n + m) * bytes ≤ 140737488355328) (hbase : base ≤ w.heap.size)
    (h : ∀ v' w', w'.ownsRow base e size v' (n + m) (xs ++ us) → Below base w w' → K (a.put o.dst v') w') :
    if Region.wanted o (yielded ops a.tmps) = true then Oper.wp P o a w1 K Q else E := by
  have hw : Region.wanted o (yielded ops a.tmps) = true := by simp [Region.wanted, hgd]
  rw [if_pos hw]
  subst hg hw1
  obtain ⟨i, hi, hz0, hz1, hz2⟩ := info_parts h5
  refine wp_append_own (w.alloc (.cells us.toArray e)) s x t ho base e i z size bytes ht hi hz0 hz1 hz2 hzs hsz v n xs hs (hown.alloc _) ⟨w.heap.size, 0, none⟩ m m us hx hul (cell_new w us e) hu h63 hbytes (by simp; omega) ?_
  intro v' w' h1 h2 _
  exact h v' w' h1 (below_push (hown.alloc _) (Nat.le_refl _) (by simp; omega) h2 ((Below.refl _ _).alloc hbase _))

/-- 'append(out, s...)' of a text in a region that draws its order. -/
theorem step_apps {P : Program} {ops : Array Oper} {o : Oper} {a : Act} {w : World} {K : Act → World → Prop} {Q : Exit → Act → World → Prop} {E : Prop}
    (hgd : o.guard = none) (sl x : Operand) (t u e : TypeId) (ho : o.op = Op.call { callee := Callee.builtin Builtin.append, args := #[sl, x], argTypes := #[t, u] })
    (base : Nat) (h5 : (P.info? e).map (fun i => (i.zero, i.size, i.bytes)) = some (some (.int .u8 0), 1, 1)) (ht : P.underlying t = some (.slice e)) (hu : P.underlying u = some .string)
    (v : Value) (X : List UInt8) (hs : a.eval sl = v) (hown : w.ownsRow base e 1 v X.length (bc X)) (s : ByteArray) (hx : a.eval x = .string s)
    (hroom : X.length + s.size ≤ 140737488355328) (hbase : base ≤ w.heap.size)
    (h : ∀ v' w', w'.ownsRow base e 1 v' (X ++ s.data.toList).length (bc (X ++ s.data.toList)) → Below base w w' → Chg (fun k => some k = v.ownBlock) w w' → K (a.put o.dst v') w') :
    if Region.wanted o (yielded ops a.tmps) = true then Oper.wp P o a w K Q else E := by
  have hw : Region.wanted o (yielded ops a.tmps) = true := by simp [Region.wanted, hgd]
  rw [if_pos hw]
  obtain ⟨i, hi, hz0, hz1, hz2⟩ := info_parts h5
  obtain ⟨v', w', hr, h2, h3, h4⟩ := Lib.run_append_own_string (P := P) w base t u o.type e i ht hu hi hz0 hz1 hz2 v X.length (bc X) hown s (by unfold maxLen; omega) hroom hbase
  unfold Oper.wp execOp
  simp only [ho, resolve, invoke, builtin, Sem.run_bind, Sem.run_pure, Result.andThen_ok, List.map_toArray, List.map_cons, List.map_nil, hs, hx, hr]
  refine h v' w' ?_ (below_push hown (Nat.le_refl _) hbase h3 (Below.refl _ _)) (Chg.ofGrown h3)
  rw [Lib.strCells] at h2
  have e : (X ++ s.data.toList).length = X.length + s.size := by rw [List.length_append, Array.length_toList]; rfl
  rw [e, bc_append]
  exact h2
end Go.Proofs.MemK
