/- The code's slices.IndexFunc and slices.ContainsFunc over types and classes. The code's table of types, filled. -/
import Derived.Test.YtjbdldbjefmnjaaGreatDoorSnAB
import Derived.Test.YtjbdldbjefmnjaaGreatDoorScAB
import Derived.Test.YtjbdldbjefmnjaaGreatDoorGenB
namespace Go.Proofs.YtjbdldbjefmnjaaGreatDoor
set_option linter.unusedSimpArgs false
set_option linter.unusedVariables false
open Go Go.RowKit Go.Proofs.BerK Go.Proofs.MemK Go.Proofs.UtfK

theorem any_at {α : Type} {l : List α} {q : α → Bool} (i : Nat) (hi : i < l.length) (h : q l[i] = true) : l.any q = true := by
  rw [List.any_eq_true]; exact ⟨l[i], List.getElem_mem hi, h⟩
theorem any_no {α : Type} {l : List α} {q : α → Bool} (h : ∀ i (hi : i < l.length), q l[i] = false) : l.any q = false := by
  rw [List.any_eq_false]
  intro x hx
  obtain ⟨j, hj, rfl⟩ := List.getElem_of_mem hx
  simp [h j hj]
theorem slOk_form {v : Value} (h : SlOk v) : ∃ a n c, v = .slice a n c := by
  rcases h with rfl | ⟨ad, n, c, rfl⟩
  · exact ⟨_, _, _, rfl⟩
  · exact ⟨_, _, _, rfl⟩
/-- What an index is handed back as: none below 0. -/
def IxPost (b : Bool) (w : World) (en : Ending) (w' : World) : Prop := ∃ n : Int, en = .returned (.int .i64 n) ∧ decide (0 ≤ n) = b ∧ Below w.heap.size w w'
end Go.Proofs.YtjbdldbjefmnjaaGreatDoor
namespace Go.Proofs.MemK
open Go Go.RowKit Go.Proofs.BerK
/-- 'append(out, x)' of one element in a region that draws its order, its block just laid; where the new row lies. -/
theorem step_pushc {P : Program} {ops : Array Oper} {o : Oper} {a : Act} {w1 : World} {K : Act → World → Prop} {Q : Exit → Act → World → Prop} {E : Prop}
    (hgd : o.guard = none) (s x : Operand) (t e : TypeId) (ho : o.op = Op.call { callee := Callee.builtin Builtin.append, args := #[s, x], argTypes := #[t, t] })
    (base size bytes : Nat) (z : Value) (h5 : (P.info? e).map (fun i => (i.zero, i.size, i.bytes)) = some (some z, size, bytes)) (ht : P.underlying t = some (.slice e)) (hzs : z.cells.size = size) (hsz : 0 < size)
    (w : World) (us : List Value) (hw1 : w1 = w.alloc (.cells us.toArray e)) (hul : us.length = 1 * size) (hu : ∀ u ∈ us, u.oneCell' = true)
    (v : Value) (n : Nat) (xs : List Value) (hs : a.eval s = v) (g : Nat) (hx : a.eval x = .slice (some ⟨g, 0, none⟩) 1 1) (hg : g = w.heap.size) (hown : w.ownsRow base e size v n xs)
    (h63 : n + 1 ≤ maxLen) (hbytes : (n + 1) * bytes ≤ 140737488355328) (hbase : base ≤ w.heap.size)
    (h : ∀ v' w', w'.ownsRow base e size v' (n + 1) (xs ++ us) → Chg (fun k => some k = v.ownBlock) w w' → (v'.ownBlock = v.ownBlock ∨ ∃ k, v'.ownBlock = some k ∧ w.heap.size ≤ k) → K (a.put o.dst v') w') :
    if Region.wanted o (yielded ops a.tmps) = true then Oper.wp P o a w1 K Q else E := by
  have hw : Region.wanted o (yielded ops a.tmps) = true := by simp [Region.wanted, hgd]
  rw [if_pos hw]
  subst hg hw1
  obtain ⟨i, hi, hz0, hz1, hz2⟩ := info_parts h5
  obtain ⟨v', w', hr, h2, h3, _, h4⟩ := run_append_own_at (P := P) (w.alloc (.cells us.toArray e)) base t o.type e i z size bytes ht hi hz0 hz1 hz2 hzs hsz v n xs (hown.alloc _) ⟨w.heap.size, 0, none⟩ 1 1 us hul (cell_new w us e) hu h63 hbytes (by simp; omega)
  unfold Oper.wp execOp
  simp only [ho, resolve, invoke, builtin, Sem.run_bind, Sem.run_pure, Result.andThen_ok, List.map_toArray, List.map_cons, List.map_nil, hs, hx, hr]
  refine h v' w' h2 (((Chg.refl _ w).alloc _).trans (Chg.ofGrown h3) (fun _ _ h => h)) ?_
  rcases h4 with h4 | h4
  · exact .inl h4
  · exact .inr ⟨_, h4, by simp⟩
end Go.Proofs.MemK
namespace Go.Proofs.YtjbdldbjefmnjaaGreatDoor
set_option linter.unusedSimpArgs false
set_option linter.unusedVariables false
open Go Go.RowKit Go.Proofs.BerK Go.Proofs.MemK Go.Proofs.UtfK

theorem Tryz.sninfo9 : (Tryz.prog.info? 9).map (fun i => (i.zero, i.size, i.bytes)) = some (some (.string ByteArray.empty), 1, 16) := by kernel_rfl
/-- Types as cells. -/
def tyc (t : Ty) : List Value := [.string ⟨t.1.toArray⟩, .int .i64 t.2.1, .bool t.2.2]
def tycs (T : List Ty) : List Value := T.flatMap tyc
theorem tycs_append (a b : List Ty) : tycs (a ++ b) = tycs a ++ tycs b := by simp [tycs]
theorem tycs_len (T : List Ty) : (tycs T).length = T.length * 3 := by
  induction T with
  | nil => rfl
  | cons t T ih => rw [tycs, List.flatMap_cons, List.length_append]; show 3 + (tycs T).length = _; rw [ih, List.length_cons]; omega
theorem tycs_at : ∀ (T : List Ty) (i : Nat) (h : i < T.length), (tycs T)[i * 3]? = some (.string ⟨T[i].1.toArray⟩) ∧ (tycs T)[i * 3 + 1]? = some (.int .i64 T[i].2.1) ∧ (tycs T)[i * 3 + 2]? = some (.bool T[i].2.2) := by
  intro T
  induction T with
  | nil => intro i h; simp at h
  | cons t T ih =>
    intro i h
    have e : tycs (t :: T) = .string ⟨t.1.toArray⟩ :: .int .i64 t.2.1 :: .bool t.2.2 :: tycs T := rfl
    cases i with
    | zero => rw [e]; exact ⟨rfl, rfl, rfl⟩
    | succ i =>
      have := ih i (by simpa using h)
      rw [e, show (i + 1) * 3 = i * 3 + 1 + 1 + 1 by omega]
      simpa using this
/-- The error of a table of types. -/
def scFT (T : List Ty) : Nat := if nmsL (T.map Prod.fst) ≠ 0 then 13 else if (T.all fun t => okRule t.2.1) = false then 1 else if twcL (T.map Prod.fst) = true then 9 else 0
theorem nms_any {α : Type} (T : List (List UInt8 × α)) : (T.any fun t => !tyL t.1) = decide (nmsL (T.map Prod.fst) ≠ 0) := by
  unfold nmsL
  by_cases h : (T.map Prod.fst).all tyL = true
  · rw [if_pos h]
    rw [List.all_map, List.all_eq_true] at h
    simp only [ne_eq, not_true_eq_false, decide_false]
    rw [List.any_eq_false]
    intro x hx
    have := h x hx
    simpa using this
  · rw [if_neg h]
    simp only [ne_eq, Nat.reduceEqDiff, not_false_eq_true, decide_true]
    rw [List.any_eq_true]
    rw [List.all_map] at h
    obtain ⟨x, hx, hq⟩ := List.all_eq_false.1 ((Bool.not_eq_true _).mp h)
    exact ⟨x, hx, by simpa using hq⟩
theorem rule_any (T : List Ty) : (T.any fun t => !okRule t.2.1) = !(T.all fun t => okRule t.2.1) := by
  rw [List.not_all_eq_any_not]
theorem twc_nodup {α : Type} (T : List (List UInt8 × α)) : twcL (T.map Prod.fst) = !decide ((T.map (fun t => lowL t.1)).Nodup) := by
  unfold twcL; rw [List.map_map]; rfl
theorem lowTy_names (T : List Ty) : (T.map lowTy).map (·.1) = T.map (fun t => lowL t.1) := by rw [List.map_map]; rfl
theorem nodup_snoc {N : List (List UInt8)} {s : List UInt8} (h : N.Nodup) (hs : ixL N s = none) : (N ++ [s]).Nodup := by
  rw [List.nodup_append]
  refine ⟨h, by simp, fun a ha b hb e => ?_⟩
  rw [List.mem_singleton] at hb
  subst hb e
  exact ix_none hs ha
theorem nodup_take_not {N : List (List UInt8)} {k : Nat} {s : List UInt8} (hk : k < N.length) (hs : N[k] = s) {i : Nat} (hi : ixL (N.take k) s = some i) : ¬ N.Nodup := by
  intro h
  obtain ⟨hl, he⟩ := ix_some hi
  have hik : i < k := by have := hl; simp at this; omega
  have := (List.pairwise_iff_getElem.1 h) i k (by omega) hk hik
  rw [List.getElem_take] at he
  exact this (he.trans hs.symm)
theorem row_ne_map {w : World} {B b : Nat} {e : TypeId} {size : Nat} {v : Value} {n : Nat} {xs : List Value} {N : List (List UInt8)} (h : w.ownsRow B e size v n xs) (hm : NmAt w (.map (some b)) N) : ∀ j, v.ownBlock = some j → j ≠ b := by
  intro j hj
  rcases h.2 with ⟨rfl, _⟩ | ⟨g, cap, cur, rfl, _, hg, _⟩
  · cases hj
  · injection hj with hj
    have hj : g = j := hj
    subst hj
    exact fun e => nmAt_ne hm hg e.symm
end Go.Proofs.YtjbdldbjefmnjaaGreatDoor
