/- Whether names and rules may be: the code's isLetter, isName, isRule, and the predicates of the tables. A table of names in memory: the place of a name, and a name put behind those that are there. The code's slices.IndexFunc and slices.ContainsFunc over types and classes. The code's table of types, filled. The code's lists made small. The code's table of classes, filled. The code's hasTypes: is there a type for all that classes ask for? The code's New: a schema of types and classes. The plain schema: its types and classes, and the code's Plain. The code's slices.Clone of texts; Type and Class of a schema. The code's slices.Clone of texts; Type and Class of a schema. The code's typesOf: the types of attributes. -/
import Derived.Test.YtbihhdkmmlldnaaGreatDoorPlnA
import Derived.Test.YtbihhdkmmlldnaaGreatDoorDqA
import Derived.Test.YtbihhdkmmlldnaaGreatDoorFoldAE
import Derived.Test.YtbihhdkmmlldnaaGreatDoorChecked
import Derived.Test.YtbihhdkmmlldnaaGreatDoorGenB
import Derived.Maps.OwnOps
import Derived.WalkSpells
import Derived.StillTailTactics
import Derived.Maps.OwnSet
import Derived.Maps.Views
import Derived.StringKeys
import Derived.Test.YtbihhdkmmlldnaaGreatDoorScAD
import Derived.Deep.CutRange
import Derived.Deep.RegionWith
import Derived.Deep.LoopGhost
import Derived.Deep.RegionHeld3
namespace Go.Proofs.YtbihhdkmmlldnaaGreatDoor
set_option linter.unusedSimpArgs false
set_option linter.unusedVariables false
open Go Go.RowKit Go.Proofs.BerK Go.Proofs.MemK Go.Proofs.UtfK

/-! ### the predicates -/
def BB (b : Bool) (w : World) (en : Ending) (w' : World) : Prop := en = .returned (.bool b) ∧ Below w.heap.size w w'
theorem bB_mk {a b : Bool} {w w' : World} (h : b = a) (hb : Below w.heap.size w w') : BB b w (.returned (.bool a)) w' := by subst h; exact ⟨rfl, hb⟩
end Go.Proofs.YtbihhdkmmlldnaaGreatDoor
namespace Go.Proofs.YtbihhdkmmlldnaaGreatDoor
set_option linter.unusedSimpArgs false
set_option linter.unusedVariables false
open Go Go.RowKit Go.Proofs.BerK Go.Proofs.MemK Go.Maps Go.WideMaps

theorem snlaw : Keyed Tryz.prog 9 := string_keyed Tryz.underlying9
theorem snzero (w : World) : (zeroValue 3).run Tryz.prog w = .ok (.int .i64 0) w := by kernel_rfl
theorem snkey (s : List UInt8) (h : s.length ≤ 140737488355328) : keyOf Tryz.prog 9 (.string ⟨s.toArray⟩) = some (.string s) :=
  keyOf_string_mk Tryz.underlying9 (s := ⟨s.toArray⟩) (by show s.length ≤ maxLen; unfold maxLen; omega)
theorem snIsKey {s : List UInt8} : WideAt.IsKeyLit (.string s) := by simp [WideAt.IsKeyLit]
/-- A datum is the map of names to their places. -/
def NmIs (D : DataW Unit) (N : List (List UInt8)) : Prop :=
  (∀ s : List UInt8, Maps.has D (.string s) = (ixL N s).isSome) ∧ (∀ s : List UInt8, D.atKey (.string s) (.lit (.int .i64 0)) = .lit (.int .i64 (((ixL N s).getD 0 : Nat) : Int))) ∧ Maps.size D = N.length
/-- The map of a table of names. -/
def NmAt (w : World) (mv : Value) (N : List (List UInt8)) : Prop :=
  (mv = .map none ∧ N = []) ∨ ∃ b D, mv = .map (some b) ∧ w.ownsMap Tryz.prog 9 (plainElem (H := Unit) Tryz.prog 3) b N.length D ∧ NmIs D N
theorem nmAt_nil (w : World) : NmAt w (.map none) [] := .inl ⟨rfl, rfl⟩
theorem ownsMap_chg {S : Nat → Prop} {w w' : World} {b n : Nat} {D : DataW Unit} (h : w.ownsMap Tryz.prog 9 (plainElem Tryz.prog 3) b n D) (hc : Chg S w w') (hs : ¬ S b) : w'.ownsMap Tryz.prog 9 (plainElem Tryz.prog 3) b n D := by
  have hlt := h.lt
  obtain ⟨es, clock, hb, F, hs', hD⟩ := h
  exact ⟨es, clock, (hc.block b hlt hs).trans hb, F, hs', hD⟩
theorem nmAt_chg {S : Nat → Prop} {w w' : World} {mv : Value} {N : List (List UInt8)} (h : NmAt w mv N) (hc : Chg S w w') (hs : ∀ b, mv = .map (some b) → ¬ S b) : NmAt w' mv N := by
  rcases h with h | ⟨b, D, rfl, h, hD⟩
  · exact .inl h
  · exact .inr ⟨b, D, rfl, ownsMap_chg h hc (hs b rfl), hD⟩
theorem nmAt_below {w w' : World} {mv : Value} {N : List (List UInt8)} (h : NmAt w mv N) (hb : Below w.heap.size w w') : NmAt w' mv N :=
  nmAt_chg h (Chg.ofBelow (S := fun _ => False) hb) (fun _ _ h => h)
theorem nmAt_lt {w : World} {b : Nat} {N : List (List UInt8)} (h : NmAt w (.map (some b)) N) : b < w.heap.size := by
  rcases h with ⟨h, _⟩ | ⟨b', D, h, hm, _⟩
  · cases h
  · injection h with h; injection h with h; subst h; exact hm.lt
/-- The block of a map is no row. -/
theorem nmAt_ne {w : World} {b g : Nat} {N : List (List UInt8)} {cs : Array Value} {t : TypeId} {m : Nat × Nat} (h : NmAt w (.map (some b)) N) (hg : w.heap[g]? = some (.cells cs t m)) : b ≠ g := by
  rcases h with ⟨h, _⟩ | ⟨b', D, h, hm, _⟩
  · cases h
  · injection h with h; injection h with h; subst h
    obtain ⟨es, clock, hb, _⟩ := hm
    rintro rfl
    rw [hb] at hg; cases hg
theorem lit_int_inj {a b : Int} (h : (DataW.lit (.int .i64 a) : DataW Unit) = .lit (.int .i64 b)) : a = b := by cases h; rfl
/-- What the place of a name is told as. -/
def plV (o : Option Nat) : Value := match o with
  | none => .tuple #[.int .i64 0, .bool false]
  | some i => .tuple #[.int .i64 (i : Nat), .bool true]
def PlPost (o : Option Nat) (w : World) (en : Ending) (w' : World) : Prop := en = .returned (plV o) ∧ w = w'
theorem nm_look {w : World} {mv : Value} {N : List (List UInt8)} (h : NmAt w mv N) (s : List UInt8) (hs : s.length ≤ 140737488355328) :
    (Instr.lookup 99 mv (.string ⟨s.toArray⟩) true).run Tryz.prog w = .ok (plV (ixL N s)) w := by
  rcases h with ⟨rfl, rfl⟩ | ⟨b, D, rfl, h, h1, h2, _⟩
  · exact Maps.look_nil true snlaw Tryz.underlying99 (snzero w) (snkey s hs)
  · obtain ⟨v, ps, hrun, hv⟩ := h.look_ok snlaw Tryz.underlying99 (snzero w) (plainElem_int Tryz.underlying3 (by decide)) (snkey s hs)
    rw [hrun]
    obtain ⟨c, rfl, hc, _⟩ := plainElem_int_inv Tryz.underlying3 hv
    have e : c = (((ixL N s).getD 0 : Nat) : Int) := by
      have e1 := congrArg Prod.fst hc
      have e2 := (h2 s).symm.trans e1
      exact (lit_int_inj e2).symm
    rw [e, h1]
    cases hq : ixL N s with
    | none => rfl
    | some i => rfl
/-! ### a name more -/
theorem nmIs_put {D : DataW Unit} {N : List (List UInt8)} {s : List UInt8} (hT : Tidy D) (h : NmIs D N) (hn : ixL N s = none) : NmIs (D.put (.string s) (.lit (.int .i64 (N.length : Nat)))) (N ++ [s]) := by
  obtain ⟨h1, h2, h3⟩ := h
  have hh : Maps.has D (.string s) = false := by rw [h1, hn]; rfl
  refine ⟨fun k => ?_, fun k => ?_, ?_⟩
  · rw [ix_snoc]
    by_cases e : k = s
    · subst e
      rw [has_put_same hT.isMap snIsKey, hn]
      simp
    · have e2 : (s == k) = false := by simpa using fun h => e h.symm
      rw [has_put_other (fun q => e (by injection q)), h1, e2]
      simp
  · rw [ix_snoc]
    by_cases e : k = s
    · subst e
      rw [atKey_put_same hT.isMap snIsKey, hn]
      simp
    · have e2 : (s == k) = false := by simpa using fun h => e h.symm
      rw [atKey_put_other (fun q => e (by injection q)), h2, e2]
      simp
  · rw [size_put hT, hh, h3]; simp
/-- What putting a name behind those that are there leaves. -/
def AddPost (cs : Array Value) (t : TypeId) (g o : Nat) (mv : Value) (N : List (List UInt8)) (s : List UInt8) (w : World) (en : Ending) (w' : World) : Prop :=
  (∀ i, ixL N s = some i → en = .returned (.bool false) ∧ w = w') ∧
  (ixL N s = none → ∃ b, en = .returned (.bool true) ∧ w'.heap[g]? = some (.cells (cs.setIfInBounds o (.map (some b))) t (0, 0)) ∧ NmAt w' (.map (some b)) (N ++ [s]) ∧ (mv = .map (some b) ∨ (mv = .map none ∧ w.heap.size ≤ b)) ∧ Chg (fun k => k = g ∨ mv = .map (some k)) w w')
theorem nmIs_nil : NmIs (.map []) [] := ⟨fun s => rfl, fun s => rfl, rfl⟩
theorem sn_setcell {w : World} {g o b : Nat} {cs : Array Value} {t : TypeId} {v : Value} (hg : w.heap[g]? = some (.cells cs t (0, 0))) : (w.setCell ⟨g, o, none⟩ v).heap[g]? = some (.cells (cs.setIfInBounds o v) t (0, 0)) := obj_set hg o v
end Go.Proofs.YtbihhdkmmlldnaaGreatDoor
namespace Go.Proofs.YtbihhdkmmlldnaaGreatDoor
set_option linter.unusedSimpArgs false
set_option linter.unusedVariables false
open Go Go.RowKit Go.Proofs.BerK Go.Proofs.MemK Go.Proofs.UtfK

theorem any_at {α : Type} {l : List α} {q : α → Bool} (i : Nat) (hi : i < l.length) (h : q l[i] = true) : l.any q = true := by
  rw [List.any_eq_true]; exact ⟨l[i], List.getElem_mem hi, h⟩
theorem any_no {α : Type} {l : List α} {q : α → Bool} (h : ∀ i (hi : i < l.length), q l[i] = false) : l.any q = false := by
  rw [List.any_eq_false]
  intro x hx
  obtain ⟨j, hj, rfl⟩ := List.getElem_of_mem hx
  simp [h j hj]
theorem slOk_form {v : Value} (h : SlOk v) : ∃ a n c, v = .slice a n c := by
  rcases h with rfl | ⟨ad, n, c, rfl⟩
  · exact ⟨_, _, _, rfl⟩
  · exact ⟨_, _, _, rfl⟩
/-- What an index is handed back as: none below 0. -/
def IxPost (b : Bool) (w : World) (en : Ending) (w' : World) : Prop := ∃ n : Int, en = .returned (.int .i64 n) ∧ decide (0 ≤ n) = b ∧ Below w.heap.size w w'
end Go.Proofs.YtbihhdkmmlldnaaGreatDoor
namespace Go.Proofs.MemK
open Go Go.RowKit Go.Proofs.BerK
/-- 'append(out, x)' of one element in a region that draws its order, its block just laid; where the new row lies. -/
theorem step_pushc {P : Program} {ops : Array Oper} {o : Oper} {a : Act} {w1 : World} {K : Act → World → Prop} {Q : Exit → Act → World → Prop} {E : Prop}
    (hgd : o.guard = none) (s x : Operand) (t e : TypeId) (ho : o.op = Op.call { callee := Callee.builtin Builtin.append, args := #[s, x], argTypes := #[t, t] })
    (base size bytes : Nat) (z : Value) (h5 : (P.info? e).map (fun i => (i.zero, i.size, i.bytes)) = some (some z, size, bytes)) (ht : P.underlying t = some (.slice e)) (hzs : z.cells.size = size) (hsz : 0 < size)
    (w : World) (us : List Value) (hw1 : w1 = w.alloc (.cells us.toArray e)) (hul : us.length = 1 * size) (hu : ∀ u ∈ us, u.oneCell' = true)
    (v : Value) (n : Nat) (xs : List Value) (hs : a.eval s = v) (g : Nat) (hx : a.eval x = .slice (some ⟨g, 0, none⟩) 1 1) (hg : g = w.heap.size) (hown : w.ownsRow base e size v n xs)
    (h63 : n + 1 ≤ maxLen) (hbytes : (n + 1) * bytes ≤ 140737488355328) (hbase : base ≤ w.heap.size)
    (h : ∀ v' w', w'.ownsRow base e size v' (n + 1) (xs ++ us) → Chg (fun k => some k = v.ownBlock) w w' → (v'.ownBlock = v.ownBlock ∨ ∃ k, v'.ownBlock = some k ∧ w.heap.size ≤ k) → K (a.put o.dst v') w') :
    if Region.wanted o (yielded ops a.tmps) = true then Oper.wp P o a w1 K Q else E := by
  have hw : Region.wanted o (yielded ops a.tmps) = true := by simp [Region.wanted, hgd]
  rw [if_pos hw]
  subst hg hw1
  obtain ⟨i, hi, hz0, hz1, hz2⟩ := info_parts h5
  obtain ⟨v', w', hr, h2, h3, _, h4⟩ := run_append_own_at (P := P) (w.alloc (.cells us.toArray e)) base t o.type e i z size bytes ht hi hz0 hz1 hz2 hzs hsz v n xs (hown.alloc _) ⟨w.heap.size, 0, none⟩ 1 1 us hul (cell_new w us e) hu h63 hbytes (by simp; omega)
  unfold Oper.wp execOp
  simp only [ho, resolve, invoke, builtin, Sem.run_bind, Sem.run_pure, Result.andThen_ok, List.map_toArray, List.map_cons, List.map_nil, hs, hx, hr]
  refine h v' w' h2 (((Chg.refl _ w).alloc _).trans (Chg.ofGrown h3) (fun _ _ h => h)) ?_
  rcases h4 with h4 | h4
  · exact .inl h4
  · exact .inr ⟨_, h4, by simp⟩
end Go.Proofs.MemK
namespace Go.Proofs.YtbihhdkmmlldnaaGreatDoor
set_option linter.unusedSimpArgs false
set_option linter.unusedVariables false
open Go Go.RowKit Go.Proofs.BerK Go.Proofs.MemK Go.Proofs.UtfK

theorem Tryz.sninfo9 : (Tryz.prog.info? 9).map (fun i => (i.zero, i.size, i.bytes)) = some (some (.string ByteArray.empty), 1, 16) := by kernel_rfl
/-- Types as cells. -/
def tyc (t : Ty) : List Value := [.string ⟨t.1.toArray⟩, .int .i64 t.2.1, .bool t.2.2]
def tycs (T : List Ty) : List Value := T.flatMap tyc
theorem tycs_append (a b : List Ty) : tycs (a ++ b) = tycs a ++ tycs b := by simp [tycs]
theorem tycs_len (T : List Ty) : (tycs T).length = T.length * 3 := by
  induction T with
  | nil => rfl
  | cons t T ih => rw [tycs, List.flatMap_cons, List.length_append]; show 3 + (tycs T).length = _; rw [ih, List.length_cons]; omega
theorem tycs_at : ∀ (T : List Ty) (i : Nat) (h : i < T.length), (tycs T)[i * 3]? = some (.string ⟨T[i].1.toArray⟩) ∧ (tycs T)[i * 3 + 1]? = some (.int .i64 T[i].2.1) ∧ (tycs T)[i * 3 + 2]? = some (.bool T[i].2.2) := by
  intro T
  induction T with
  | nil => intro i h; simp at h
  | cons t T ih =>
    intro i h
    have e : tycs (t :: T) = .string ⟨t.1.toArray⟩ :: .int .i64 t.2.1 :: .bool t.2.2 :: tycs T := rfl
    cases i with
    | zero => rw [e]; exact ⟨rfl, rfl, rfl⟩
    | succ i =>
      have := ih i (by simpa using h)
      rw [e, show (i + 1) * 3 = i * 3 + 1 + 1 + 1 by omega]
      simpa using this
/-- The error of a table of types. -/
def scFT (T : List Ty) : Nat := if nmsL (T.map Prod.fst) ≠ 0 then 13 else if (T.all fun t => okRule t.2.1) = false then 1 else if twcL (T.map Prod.fst) = true then 9 else 0
theorem nms_any {α : Type} (T : List (List UInt8 × α)) : (T.any fun t => !tyL t.1) = decide (nmsL (T.map Prod.fst) ≠ 0) := by
  unfold nmsL
  by_cases h : (T.map Prod.fst).all tyL = true
  · rw [if_pos h]
    rw [List.all_map, List.all_eq_true] at h
    simp only [ne_eq, not_true_eq_false, decide_false]
    rw [List.any_eq_false]
    intro x hx
    have := h x hx
    simpa using this
  · rw [if_neg h]
    simp only [ne_eq, Nat.reduceEqDiff, not_false_eq_true, decide_true]
    rw [List.any_eq_true]
    rw [List.all_map] at h
    obtain ⟨x, hx, hq⟩ := List.all_eq_false.1 ((Bool.not_eq_true _).mp h)
    exact ⟨x, hx, by simpa using hq⟩
theorem rule_any (T : List Ty) : (T.any fun t => !okRule t.2.1) = !(T.all fun t => okRule t.2.1) := by
  rw [List.not_all_eq_any_not]
theorem twc_nodup {α : Type} (T : List (List UInt8 × α)) : twcL (T.map Prod.fst) = !decide ((T.map (fun t => lowL t.1)).Nodup) := by
  unfold twcL; rw [List.map_map]; rfl
theorem lowTy_names (T : List Ty) : (T.map lowTy).map (·.1) = T.map (fun t => lowL t.1) := by rw [List.map_map]; rfl
theorem nodup_snoc {N : List (List UInt8)} {s : List UInt8} (h : N.Nodup) (hs : ixL N s = none) : (N ++ [s]).Nodup := by
  rw [List.nodup_append]
  refine ⟨h, by simp, fun a ha b hb e => ?_⟩
  rw [List.mem_singleton] at hb
  subst hb e
  exact ix_none hs ha
theorem nodup_take_not {N : List (List UInt8)} {k : Nat} {s : List UInt8} (hk : k < N.length) (hs : N[k] = s) {i : Nat} (hi : ixL (N.take k) s = some i) : ¬ N.Nodup := by
  intro h
  obtain ⟨hl, he⟩ := ix_some hi
  have hik : i < k := by have := hl; simp at this; omega
  have := (List.pairwise_iff_getElem.1 h) i k (by omega) hk hik
  rw [List.getElem_take] at he
  exact this (he.trans hs.symm)
theorem row_ne_map {w : World} {B b : Nat} {e : TypeId} {size : Nat} {v : Value} {n : Nat} {xs : List Value} {N : List (List UInt8)} (h : w.ownsRow B e size v n xs) (hm : NmAt w (.map (some b)) N) : ∀ j, v.ownBlock = some j → j ≠ b := by
  intro j hj
  rcases h.2 with ⟨rfl, _⟩ | ⟨g, cap, cur, rfl, _, hg, _⟩
  · cases hj
  · injection hj with hj
    have hj : g = j := hj
    subst hj
    exact fun e => nmAt_ne hm hg e.symm
end Go.Proofs.YtbihhdkmmlldnaaGreatDoor
namespace Go.Proofs.YtbihhdkmmlldnaaGreatDoor
set_option linter.unusedSimpArgs false
set_option linter.unusedVariables false
open Go Go.RowKit Go.Proofs.BerK Go.Proofs.MemK Go.Proofs.UtfK

/-- Texts in a row that is new. -/
def LwS (l : List (List UInt8)) (w : World) (en : Ending) (w' : World) : Prop :=
  ∃ g c, en = .returned (.slice (some ⟨g, 0, none⟩) l.length c) ∧ w'.ownsRow w.heap.size 9 1 (.slice (some ⟨g, 0, none⟩) l.length c) l.length (sc l) ∧ Below w.heap.size w w' ∧ w.heap.size ≤ g
/-- Classes as cells: each with the values of its two lists. -/
def clc (c : List UInt8 × Value × Value) : List Value := [.string ⟨c.1.toArray⟩, c.2.1, c.2.2]
def clcs (L : List (List UInt8 × Value × Value)) : List Value := L.flatMap clc
theorem clcs_append (a b : List (List UInt8 × Value × Value)) : clcs (a ++ b) = clcs a ++ clcs b := by simp [clcs]
theorem clcs_at : ∀ (L : List (List UInt8 × Value × Value)) (i : Nat) (h : i < L.length), (clcs L)[i * 3]? = some (.string ⟨L[i].1.toArray⟩) ∧ (clcs L)[i * 3 + 1]? = some L[i].2.1 ∧ (clcs L)[i * 3 + 2]? = some L[i].2.2 := by
  intro L
  induction L with
  | nil => intro i h; simp at h
  | cons c L ih =>
    intro i h
    have e : clcs (c :: L) = .string ⟨c.1.toArray⟩ :: c.2.1 :: c.2.2 :: clcs L := rfl
    cases i with
    | zero => rw [e]; exact ⟨rfl, rfl, rfl⟩
    | succ i =>
      have := ih i (by simpa using h)
      rw [e, show (i + 1) * 3 = i * 3 + 1 + 1 + 1 by omega]
      simpa using this
/-- A row of texts is this block. -/
def StrBlk (w : World) (j : Nat) : Prop := ∃ cur, w.heap[j]? = some (.cells cur 9 (0, 0))
theorem strBlk_row {w : World} {B : Nat} {v : Value} {n : Nat} {xs : List Value} (h : w.ownsRow B 9 1 v n xs) : ∀ j, v.ownBlock = some j → B ≤ j ∧ StrBlk w j := by
  intro j hj
  rcases h.2 with ⟨rfl, _⟩ | ⟨g, cap, cur, rfl, hb, hg, _⟩
  · cases hj
  · injection hj with hj
    have hj : g = j := hj
    subst hj
    exact ⟨hb, cur, hg⟩
/-- A class lies behind its cells. -/
def ClOne (w : World) (B : Nat) (c : Cl) (q : List UInt8 × Value × Value) : Prop :=
  q.1 = c.1 ∧ ∃ g1 c1 g2 c2, q.2.1 = .slice (some ⟨g1, 0, none⟩) c.2.1.length c1 ∧ q.2.2 = .slice (some ⟨g2, 0, none⟩) c.2.2.length c2 ∧ w.ownsRow B 9 1 q.2.1 c.2.1.length (sc c.2.1) ∧ w.ownsRow B 9 1 q.2.2 c.2.2.length (sc c.2.2)
theorem clOne_chg {S : Nat → Prop} {w w' : World} {B : Nat} {c : Cl} {q : List UInt8 × Value × Value} (h : ClOne w B c q) (hc : Chg S w w') (hs : ∀ g, B ≤ g → StrBlk w g → ¬ S g) : ClOne w' B c q := by
  obtain ⟨h0, g1, c1, g2, c2, e1, e2, t1, t2⟩ := h
  exact ⟨h0, g1, c1, g2, c2, e1, e2, ownsRow_chg t1 hc (fun j hj => hs j (strBlk_row t1 j hj).1 (strBlk_row t1 j hj).2), ownsRow_chg t2 hc (fun j hj => hs j (strBlk_row t2 j hj).1 (strBlk_row t2 j hj).2)⟩
/-- Classes lie behind their cells. -/
def ClAll (w : World) (B : Nat) (C : List Cl) (L : List (List UInt8 × Value × Value)) : Prop := L.length = C.length ∧ ∀ i (h1 : i < C.length) (h2 : i < L.length), ClOne w B C[i] L[i]
theorem clAll_nil (w : World) (B : Nat) : ClAll w B [] [] := ⟨rfl, fun i h => by simp at h⟩
theorem clAll_chg {S : Nat → Prop} {w w' : World} {B : Nat} {C : List Cl} {L : List (List UInt8 × Value × Value)} (h : ClAll w B C L) (hc : Chg S w w') (hs : ∀ g, B ≤ g → StrBlk w g → ¬ S g) : ClAll w' B C L :=
  ⟨h.1, fun i h1 h2 => clOne_chg (h.2 i h1 h2) hc hs⟩
theorem clAll_snoc {w : World} {B : Nat} {C : List Cl} {L : List (List UInt8 × Value × Value)} {c : Cl} {q : List UInt8 × Value × Value} (h : ClAll w B C L) (h1 : ClOne w B c q) : ClAll w B (C ++ [c]) (L ++ [q]) := by
  refine ⟨by simp [h.1], fun i i1 i2 => ?_⟩
  by_cases hi : i < C.length
  · rw [List.getElem_append_left hi, List.getElem_append_left (by rw [h.1]; exact hi)]
    exact h.2 i hi _
  · have : i = C.length := by simp at i1; omega
    subst this
    have e : L.length = C.length := h.1
    simp only [List.getElem_append_right (Nat.le_refl C.length), Nat.sub_self, List.getElem_cons_zero]
    rw [List.getElem_append_right (by omega)]
    simp [e, h1]
theorem strBlk_ne_map {w : World} {b j : Nat} {N : List (List UInt8)} (hm : NmAt w (.map (some b)) N) (h : StrBlk w j) : j ≠ b := by
  obtain ⟨cur, h⟩ := h
  exact fun e => nmAt_ne hm h e.symm
theorem strBlk_ne_cells {w : World} {g j : Nat} {cs : Array Value} {t : TypeId} (hg : w.heap[g]? = some (.cells cs t (0, 0))) (ht : t ≠ 9) (h : StrBlk w j) : j ≠ g := by
  rintro rfl
  obtain ⟨cur, h⟩ := h
  rw [h] at hg
  injection hg with hg
  injection hg with _ hg _
  exact ht hg.symm
/-- The error of a table of classes. -/
def scFC (C : List Cl) : Nat := if nmsL (C.map Prod.fst) ≠ 0 then 13 else if twcL (C.map Prod.fst) = true then 9 else 0
theorem lowCl_names (T : List Cl) : (T.map lowCl).map (·.1) = T.map (fun t => lowL t.1) := by rw [List.map_map]; rfl
end Go.Proofs.YtbihhdkmmlldnaaGreatDoor
namespace Go.Proofs.YtbihhdkmmlldnaaGreatDoor
set_option linter.unusedSimpArgs false
set_option linter.unusedVariables false
open Go Go.RowKit Go.Proofs.BerK Go.Proofs.MemK Go.Proofs.UtfK

theorem snchg_set3 (g : Nat) (w : World) (a b c : Value) : Chg (fun k => k = g) w (((w.setCell ⟨g, 0, none⟩ a).setCell ⟨g, 1, none⟩ b).setCell ⟨g, 2, none⟩ c) :=
  (((Chg.refl (fun k => k = g) w).setCell (p := ⟨g, 0, none⟩) (fun _ => rfl) _).setCell (p := ⟨g, 1, none⟩) (fun _ => rfl) _).setCell (p := ⟨g, 2, none⟩) (fun _ => rfl) _
end Go.Proofs.YtbihhdkmmlldnaaGreatDoor
namespace Go.Proofs.YtbihhdkmmlldnaaGreatDoor
set_option linter.unusedSimpArgs false
set_option linter.unusedVariables false
open Go Go.RowKit Go.Proofs.BerK Go.Proofs.MemK Go.Proofs.UtfK

theorem plV_some (i : Nat) : plV (some i) = .tuple #[.int .i64 (i : Nat), .bool true] := rfl
theorem plV_none : plV none = .tuple #[.int .i64 0, .bool false] := rfl
def IxP (b : Bool) (w : World) (en : Ending) (w' : World) : Prop := ∃ n : Int, en = .returned (.int .i64 n) ∧ decide (0 ≤ n) = b ∧ w = w'
def objL : List UInt8 := [111, 98, 106, 101, 99, 116, 99, 108, 97, 115, 115]
def misC (N : List (List UInt8)) (c : Cl) : Bool := (c.2.1.any fun s => !inL N s) || (c.2.2.any fun s => !inL N s)
def hasTyB (N : List (List UInt8)) (C : List Cl) : Bool := !(C.any (misC N)) && inL N objL
end Go.Proofs.YtbihhdkmmlldnaaGreatDoor
namespace Go.Proofs.YtbihhdkmmlldnaaGreatDoor
set_option linter.unusedSimpArgs false
set_option linter.unusedVariables false
open Go Go.RowKit Go.Proofs.BerK Go.Proofs.MemK Go.Proofs.UtfK

/-- May types and classes be a schema? The error's number. -/
def scNw (T : List Ty) (C : List Cl) : Nat :=
  if 1024 < T.length ∨ 1024 < C.length then 3 else if scChk T C ≠ 0 then scChk T C else if hasTyB ((T.map lowTy).map (·.1)) (C.map lowCl) = true then 0 else 8
theorem scChk_fill (T : List Ty) (C : List Cl) : scChk T C = if scFT T ≠ 0 then scFT T else scFC C := by
  have h : ∀ l, nmsL l = 0 ∨ nmsL l = 13 := fun l => by unfold nmsL; split; exact .inl rfl; exact .inr rfl
  unfold scChk scFT scFC
  rcases h (T.map Prod.fst) with h1 | h1 <;> rcases h (C.map Prod.fst) with h2 | h2 <;> simp only [h1, h2] <;> simp <;> (repeat' split) <;> simp_all
theorem scFT_vals (T : List Ty) : scFT T = 0 ∨ scFT T = 13 ∨ scFT T = 1 ∨ scFT T = 9 := by
  unfold scFT; repeat' split
  all_goals simp
theorem scFC_vals (C : List Cl) : scFC C = 0 ∨ scFC C = 13 ∨ scFC C = 9 := by
  unfold scFC; repeat' split
  all_goals simp
theorem tyAt_chg {S : Nat → Prop} {w w' : World} {v : Value} {T : List Ty} (h : TyAt w v T) (hc : Chg S w w') (hs : ∀ g o n c, v = .slice (some ⟨g, o, none⟩) n c → ¬ S g) : TyAt w' v T := by
  obtain ⟨a, c, rfl, h⟩ := h
  refine ⟨a, c, rfl, fun i hi => ?_⟩
  obtain ⟨g, o, rfl, h2, h3, h4, h5⟩ := h i hi
  have hb : ¬ S g := hs g o _ _ rfl
  have hbl := hc.block g h2 hb
  exact ⟨g, o, rfl, Nat.lt_of_lt_of_le h2 hc.size, (World.cell?_of_block (w := w) (a := ⟨g, _, none⟩) hbl).trans h3, (World.cell?_of_block (w := w) (a := ⟨g, _, none⟩) hbl).trans h4, (World.cell?_of_block (w := w) (a := ⟨g, _, none⟩) hbl).trans h5⟩
end Go.Proofs.YtbihhdkmmlldnaaGreatDoor
namespace Go.Proofs.YtbihhdkmmlldnaaGreatDoor
set_option linter.unusedSimpArgs false
set_option linter.unusedVariables false
open Go Go.RowKit Go.Proofs.BerK Go.Proofs.MemK Go.Proofs.UtfK

/-- The plain types. -/
def plT : List Ty := [([99, 110], 1, false), ([115, 110], 1, false), ([111, 117], 1, false), ([100, 99], 1, false), ([111], 1, false), ([100, 101, 115, 99, 114, 105, 112, 116, 105, 111, 110], 1, false), ([109, 97, 105, 108], 1, false), ([111, 98, 106, 101, 99, 116, 99, 108, 97, 115, 115], 1, false), ([117, 115, 101, 114, 112, 97, 115, 115, 119, 111, 114, 100], 4, true), ([117, 105, 100], 1, true), ([117, 105, 100, 110, 117, 109, 98, 101, 114], 3, true), ([109, 101, 109, 98, 101, 114], 5, false), ([115, 101, 114, 105, 97, 108, 110, 117, 109, 98, 101, 114], 2, false)]
/-- The plain classes. -/
def plC : List Cl := [([116, 111, 112], [], []), ([112, 101, 114, 115, 111, 110], [[99, 110], [115, 110]], [[100, 101, 115, 99, 114, 105, 112, 116, 105, 111, 110], [117, 115, 101, 114, 112, 97, 115, 115, 119, 111, 114, 100], [109, 97, 105, 108], [117, 105, 100], [117, 105, 100, 110, 117, 109, 98, 101, 114], [115, 101, 114, 105, 97, 108, 110, 117, 109, 98, 101, 114], [109, 101, 109, 98, 101, 114]]), ([111, 114, 103, 97, 110, 105, 122, 97, 116, 105, 111, 110, 97, 108, 117, 110, 105, 116], [[111, 117]], [[100, 101, 115, 99, 114, 105, 112, 116, 105, 111, 110], [109, 101, 109, 98, 101, 114]]), ([100, 111, 109, 97, 105, 110], [[100, 99]], [[100, 101, 115, 99, 114, 105, 112, 116, 105, 111, 110], [111]]), ([103, 114, 111, 117, 112], [[99, 110]], [[109, 101, 109, 98, 101, 114], [100, 101, 115, 99, 114, 105, 112, 116, 105, 111, 110]])]
theorem plT_low : plT.map lowTy = plT := by decide +kernel
theorem plC_low : plC.map lowCl = plC := by decide +kernel
theorem pl_new : scNw plT plC = 0 := by decide +kernel
theorem tyAt_new (w : World) (T : List Ty) (e : TypeId) : TyAt (w.alloc (.cells (tycs T).toArray e)) (.slice (some ⟨w.heap.size, 0, none⟩) T.length T.length) T := by
  refine ⟨_, _, rfl, fun i hi => ⟨w.heap.size, 0, rfl, by simp, ?_⟩⟩
  obtain ⟨h1, h2, h3⟩ := tycs_at T i hi
  rw [Nat.zero_add]
  refine ⟨?_, ?_, ?_⟩
  · rw [World.cell?_alloc_mark w _ e (0, 0)]; simpa using h1
  · rw [World.cell?_alloc_mark w _ e (0, 0)]; simpa using h2
  · rw [World.cell?_alloc_mark w _ e (0, 0)]; simpa using h3
def PlTPost (w : World) (en : Ending) (w' : World) : Prop := ∃ v, en = .returned v ∧ TyAt w' v plT ∧ Below w.heap.size w w'
def PlCPost (w : World) (en : Ending) (w' : World) : Prop := ∃ v, en = .returned v ∧ ClAt w' v plC ∧ Below w.heap.size w w'
/-- Rows of texts laid one behind the other. -/
def allocs (e : TypeId) (w : World) : List (List (List UInt8)) → World
  | [] => w
  | l :: r => allocs e (w.alloc (.cells (sc l).toArray e)) r
theorem allocs_size (e : TypeId) (ls : List (List (List UInt8))) : ∀ w : World, (allocs e w ls).heap.size = w.heap.size + ls.length := by
  induction ls with
  | nil => intro w; rfl
  | cons l r ih => intro w; rw [allocs, ih]; simp; omega
theorem allocs_below (e : TypeId) (ls : List (List (List UInt8))) : ∀ w : World, Below w.heap.size w (allocs e w ls) := by
  induction ls with
  | nil => intro w; exact Below.refl _ _
  | cons l r ih => intro w; exact ((Below.refl _ w).alloc (Nat.le_refl _) _).trans ((ih _).mono (by simp))
theorem allocs_at (e : TypeId) (ls : List (List (List UInt8))) : ∀ (w : World) (i : Nat) (h : i < ls.length), TxR (allocs e w ls) (.slice (some ⟨w.heap.size + i, 0, none⟩) ls[i].length ls[i].length) ls[i] := by
  induction ls with
  | nil => intro w i h; simp at h
  | cons l r ih =>
    intro w i h
    cases i with
    | zero => exact txR_below (txR_new w l e) (allocs_below e r _)
    | succ i =>
      have := ih (w.alloc (.cells (sc l).toArray e)) i (by simpa using h)
      rw [World.size_alloc, show w.heap.size + 1 + i = w.heap.size + (i + 1) by omega] at this
      exact this
theorem clAt_lit (w : World) (C : List Cl) (L : List (List UInt8 × Value × Value)) (e : TypeId) (hl : L.length = C.length) (h : ∀ i (h1 : i < C.length) (h2 : i < L.length), L[i].1 = C[i].1 ∧ TxR w L[i].2.1 C[i].2.1 ∧ TxR w L[i].2.2 C[i].2.2 ∧ SlOk L[i].2.1 ∧ SlOk L[i].2.2) :
    ClAt (w.alloc (.cells (clcs L).toArray e)) (.slice (some ⟨w.heap.size, 0, none⟩) C.length C.length) C := by
  refine ⟨_, _, rfl, fun i hi => ?_⟩
  obtain ⟨h0, t1, t2, s1, s2⟩ := h i hi (by omega)
  obtain ⟨a1, a2, a3⟩ := clcs_at L i (by omega)
  have hb : Below w.heap.size w (w.alloc (.cells (clcs L).toArray e)) := (Below.refl _ w).alloc (Nat.le_refl _) _
  refine ⟨w.heap.size, 0, L[i].2.1, L[i].2.2, rfl, by simp, ?_, ?_, ?_, txR_below t1 hb, txR_below t2 hb, s1, s2⟩
  · rw [Nat.zero_add, World.cell?_alloc_mark w _ e (0, 0)]; rw [h0] at a1; simpa using a1
  · rw [Nat.zero_add, World.cell?_alloc_mark w _ e (0, 0)]; simpa using a2
  · rw [Nat.zero_add, World.cell?_alloc_mark w _ e (0, 0)]; simpa using a3
def plLs : List (List (List UInt8)) := (plC.drop 1).flatMap fun c => [c.2.1, c.2.2]
def slN (b n : Nat) : Value := .slice (some ⟨b, 0, none⟩) n n
def plRow (b : Nat) : List (List UInt8 × Value × Value) :=
  [([116, 111, 112], .slice none 0 0, .slice none 0 0), ([112, 101, 114, 115, 111, 110], slN b 2, slN (b + 1) 7), ([111, 114, 103, 97, 110, 105, 122, 97, 116, 105, 111, 110, 97, 108, 117, 110, 105, 116], slN (b + 2) 1, slN (b + 3) 2),
   ([100, 111, 109, 97, 105, 110], slN (b + 4) 1, slN (b + 5) 2), ([103, 114, 111, 117, 112], slN (b + 6) 1, slN (b + 7) 2)]
end Go.Proofs.YtbihhdkmmlldnaaGreatDoor
namespace Go.Proofs.YtbihhdkmmlldnaaGreatDoor
set_option linter.unusedSimpArgs false
set_option linter.unusedVariables false
open Go Go.RowKit Go.Proofs.BerK Go.Proofs.MemK Go.Proofs.UtfK

/-- Texts in a row of the call's own. -/
def ClonePost (l : List (List UInt8)) (w : World) (en : Ending) (w' : World) : Prop :=
  ∃ a c, en = .returned (.slice a l.length c) ∧ w'.ownsRow w.heap.size 9 1 (.slice a l.length c) l.length (sc l) ∧ Below w.heap.size w w'
theorem owns_empty (w : World) (e : TypeId) : (w.alloc (.cells #[] e)).ownsRow w.heap.size e 1 (.slice (some ⟨w.heap.size, 0, none⟩) 0 0) 0 [] :=
  ⟨rfl, .inr ⟨w.heap.size, 0, #[], rfl, Nat.le_refl _, heap_alloc_new w _, Nat.le_refl _, Nat.zero_le _, rfl, rfl⟩⟩
/-! ### Type -/
theorem getD_bind {α : Type} (T : List α) (i : Nat) (h : i < T.length) : (some i).bind (fun i => T[i]?) = some T[i] := by simp [h]
end Go.Proofs.YtbihhdkmmlldnaaGreatDoor
namespace Go.Proofs.YtbihhdkmmlldnaaGreatDoor
set_option linter.unusedSimpArgs false
set_option linter.unusedVariables false
open Go Go.RowKit Go.Proofs.BerK Go.Proofs.MemK Go.Proofs.UtfK

/-! ### Class -/
def SClV0 : Value := .tuple #[.agg #[.string ⟨#[]⟩, .slice none 0 0, .slice none 0 0], .bool false]
end Go.Proofs.YtbihhdkmmlldnaaGreatDoor
namespace Go.Proofs.YtbihhdkmmlldnaaGreatDoor
set_option linter.unusedSimpArgs false
set_option linter.unusedVariables false
open Go Go.RowKit Go.Proofs.BerK Go.Proofs.MemK Go.Proofs.UtfK

/-- Attributes in memory, to be read. -/
def AtAt (w : World) (v : Value) (A : List Atr) : Prop :=
  ∃ a c, v = .slice a A.length c ∧ ∀ i (hi : i < A.length), ∃ g o vl, a = some ⟨g, o, none⟩ ∧ g < w.heap.size ∧ w.cell? ⟨g, o + i * 2, none⟩ = some (.string ⟨A[i].1.toArray⟩) ∧ w.cell? ⟨g, o + i * 2 + 1, none⟩ = some vl ∧ TxR w vl A[i].2
theorem atAt_below {w w' : World} {v : Value} {A : List Atr} (h : AtAt w v A) (hb : Below w.heap.size w w') : AtAt w' v A := by
  obtain ⟨a, c, rfl, h⟩ := h
  refine ⟨a, c, rfl, fun i hi => ?_⟩
  obtain ⟨g, o, vl, h1, h2, h3, h4, h5⟩ := h i hi
  exact ⟨g, o, vl, h1, Nat.lt_of_lt_of_le h2 hb.size, (hb.cell (p := ⟨g, _, none⟩) h2).trans h3, (hb.cell (p := ⟨g, _, none⟩) h2).trans h4, txR_below h5 hb⟩
def noTy : Ty := ([], 0, false)
theorem tycs_set : ∀ (R : List Ty) (i : Nat) (h : i < R.length) (t : Ty), (((tycs R).set (i * 3) (.string ⟨t.1.toArray⟩)).set (i * 3 + 1) (.int .i64 t.2.1)).set (i * 3 + 2) (.bool t.2.2) = tycs (R.set i t) := by
  intro R
  induction R with
  | nil => intro i h; simp at h
  | cons r R ih =>
    intro i h t
    have e : ∀ r : Ty, ∀ R, tycs (r :: R) = .string ⟨r.1.toArray⟩ :: .int .i64 r.2.1 :: .bool r.2.2 :: tycs R := fun _ _ => rfl
    cases i with
    | zero => rfl
    | succ i =>
      rw [e, List.set_cons_succ, e, show (i + 1) * 3 = i * 3 + 1 + 1 + 1 by omega]
      simp only [List.set_cons_succ]
      rw [← ih i (by simpa using h) t]
theorem made_three (n : Nat) : madeCells #[Value.string ByteArray.empty, Value.int .i64 0, Value.bool false] (n * 3) = (tycs (List.replicate n noTy)).toArray := by
  apply Array.ext'
  unfold madeCells
  rw [Array.toList_map, Array.toList_range]
  show _ = tycs (List.replicate n noTy)
  induction n with
  | zero => rfl
  | succ n ih =>
    have e : ∀ r : Ty, ∀ R, tycs (R ++ [r]) = tycs R ++ [.string ⟨r.1.toArray⟩, .int .i64 r.2.1, .bool r.2.2] := fun r R => by rw [tycs_append]; rfl
    rw [List.replicate_succ', e, ← ih, show (n + 1) * 3 = n * 3 + 1 + 1 + 1 by omega, List.range_succ, List.range_succ, List.range_succ]
    simp only [List.map_append, List.map_cons, List.map_nil, List.append_assoc, List.cons_append, List.nil_append]
    congr 1
    have h0 : (n * 3) % 3 = 0 := by omega
    have h1 : (n * 3 + 1) % 3 = 1 := by omega
    have h2 : (n * 3 + 1 + 1) % 3 = 2 := by omega
    show [(#[Value.string ByteArray.empty, Value.int .i64 0, Value.bool false] : Array Value)[(n * 3) % 3]!, (#[Value.string ByteArray.empty, Value.int .i64 0, Value.bool false] : Array Value)[(n * 3 + 1) % 3]!, (#[Value.string ByteArray.empty, Value.int .i64 0, Value.bool false] : Array Value)[(n * 3 + 1 + 1) % 3]!] = _
    rw [h0, h1, h2]
    rfl
theorem take_set' {α : Type} (R : List α) (j : Nat) (h : j < R.length) (q : α) : (R.set j q).take (j + 1) = R.take j ++ [q] := by
  rw [List.take_succ_eq_append_getElem (by simpa using h), List.take_set, List.set_eq_of_length_le (by rw [List.length_take]; omega)]
  simp
/-- The type of an attribute. -/
def tyG (T : List Ty) (a : Atr) : Ty := (scT T a.1).getD noTy
def tyAll (T : List Ty) (A : List Atr) : Bool := A.all fun a => (scT T a.1).isSome
def TysPost (T : List Ty) (A : List Atr) (w : World) (en : Ending) (w' : World) : Prop :=
  (tyAll T A = false → en = .returned (.tuple #[.slice none 0 0, .bool false])) ∧ (tyAll T A = true → ∃ a c, en = .returned (.tuple #[.slice a A.length c, .bool true]) ∧ TyAt w' (.slice a A.length c) (A.map (tyG T))) ∧ Below w.heap.size w w'
theorem tysPost_bad {T : List Ty} {A : List Atr} {w w' : World} (h : tyAll T A = false) (hb : Below w.heap.size w w') : TysPost T A w (.returned (.tuple #[.slice none 0 0, .bool false])) w' :=
  ⟨fun _ => rfl, (fun h2 => by rw [h] at h2; cases h2), hb⟩
theorem tysPost_ok {T : List Ty} {A : List Atr} {w w' : World} {a : Option Addr} {c n : Nat} (h : tyAll T A = true) (hn : A.length = n) (ht : TyAt w' (.slice a n c) (A.map (tyG T))) (hb : Below w.heap.size w w') : TysPost T A w (.returned (.tuple #[.slice a n c, .bool true])) w' := by
  subst hn
  exact ⟨(fun h2 => by rw [h] at h2; cases h2), fun _ => ⟨a, c, rfl, ht⟩, hb⟩
theorem tyAt_blk {w : World} {g : Nat} {R : List Ty} {e : TypeId} {c : Nat} (h : w.heap[g]? = some (.cells (tycs R).toArray e (0, 0))) : TyAt w (.slice (some ⟨g, 0, none⟩) R.length c) R := by
  refine ⟨_, _, rfl, fun i hi => ⟨g, 0, rfl, obj_lt h, ?_⟩⟩
  obtain ⟨h1, h2, h3⟩ := tycs_at R i hi
  rw [Nat.zero_add]
  exact ⟨obj_cell h _ _ (by simpa using h1), obj_cell h _ _ (by simpa using h2), obj_cell h _ _ (by simpa using h3)⟩
end Go.Proofs.YtbihhdkmmlldnaaGreatDoor
