/- A region that draws its order, by what each operation's slot holds: no branching over the orders. -/
import Derived.Test.YtpkbgkoocijegaaGreatDoorGenA
import Derived.Deep.RegionHeld3
set_option linter.unusedVariables false
set_option linter.unusedSimpArgs false
set_option maxHeartbeats 25600000
set_option maxRecDepth 100000
namespace Go.Proofs.RegK
open Go Go.RowKit Go.Proofs.BerK Go.Proofs.MemK
structure RegSt (ops : Array Oper) (A : Nat -> Bool) (G : Nat -> Value -> World -> Prop) (a0 : Act) (w0 : World) (listed : Array Bool) (a : Act) (w : World) : Prop where
 sz : listed.size = ops.size
 out : ∀ j, A j = false -> listed.getD j false = false
 defers : a.defers = a0.defers
 tsz : a.tmps.size = a0.tmps.size
 below : Below w0.heap.size w0 w
 same : ∀ s, (∀ j o, ops[j]? = some o -> listed.getD j false = true -> o.dst ≠ some s) -> a.tmps.getD s undef = a0.tmps.getD s undef
 good : ∀ j o d, ops[j]? = some o -> listed.getD j false = true -> o.dst = some d -> G j (a.tmps.getD d undef) w
def unl : Nat -> Array Bool -> Nat
 | 0, _ => 0
 | n + 1, l => unl n l + if l.getD n false = true then 0 else 1
theorem getD_self {l : Array Bool} {i : Nat} (h : i < l.size) (d : Bool) : (l.setIfInBounds i true).getD i d = true := by simp [Array.getD, h]
theorem unl_other {l : Array Bool} {i : Nat} : ∀ n, n <= i -> unl n (l.setIfInBounds i true) = unl n l
 | 0, _ => rfl
 | n + 1, h => by
  unfold unl
  rw [unl_other n (by omega), getD_set_ne false (by omega)]
theorem unl_set {l : Array Bool} {i : Nat} (hs : i < l.size) (h : l.getD i false = false) : ∀ n, i < n -> unl n (l.setIfInBounds i true) + 1 = unl n l
 | 0, hi => by omega
 | n + 1, hi => by
  unfold unl
  by_cases e : i = n
  ·subst e
   rw [unl_other i (Nat.le_refl _), getD_self hs, h]
   simp
  ·have := unl_set hs h n (by omega)
   rw [getD_set_ne false e]
   omega
theorem unl_none {l : Array Bool} : ∀ n, (∀ j, j < n -> l.getD j false = false) -> unl n l = n
 | 0, _ => rfl
 | n + 1, h => by
  unfold unl
  rw [unl_none n (fun j hj => h j (by omega)), h n (by omega)]; simp
theorem unl_pos {l : Array Bool} {j : Nat} (h : l.getD j false = false) : ∀ n, j < n -> 0 < unl n l
 | 0, hj => by omega
 | n + 1, hj => by
  unfold unl
  by_cases e : j = n
  ·subst e; rw [h]; simp
  ·have := unl_pos h n (by omega); omega
theorem unl_least {l : Array Bool} {j : Nat} (h : l.getD j false = false) : ∃ i, i <= j /\ l.getD i false = false /\ ∀ k, k < i -> l.getD k false = true := by
 induction j using Nat.strongRecOn with
 | _ j ih =>
  by_cases hk : ∃ k, k < j /\ l.getD k false = false
  ·obtain ⟨k, hk, h2⟩ := hk
   obtain ⟨i, h3, h4, h5⟩ := ih k hk h2
   exact ⟨i, by omega, h4, h5⟩
  ·refine ⟨j, Nat.le_refl _, h, fun k hkj => ?_⟩
   cases e : l.getD k false with
   | true => rfl
   | false => exact absurd ⟨k, hkj, e⟩ hk
theorem getD_bool {l : Array Bool} {j : Nat} (hj : j < l.size) (d : Bool) : l.getD j d = l.getD j false := by simp [Array.getD, hj]
theorem tmp_set_self {t : Array Value} {d : Nat} (h : d < t.size) (v : Value) : (t.setIfInBounds d v).getD d undef = v := by simp [Array.getD, h]
theorem tmp_set_other {t : Array Value} {d s : Nat} (h : d ≠ s) (v : Value) : (t.setIfInBounds d v).getD s undef = t.getD s undef := by
 simp [Array.getElem?_setIfInBounds_ne h]
section
variable {P : Program} {md : Region.Mode} {ops : Array Oper} {Q : Exit -> Act -> World -> Prop} {A : Nat -> Bool} {G : Nat -> Value -> World -> Prop} {a0 : Act} {w0 : World}
theorem regSt_step (hmono : ∀ j v w w', G j v w -> Below w0.heap.size w0 w -> Below w.heap.size w w' -> G j v w')
  (hdst : ∀ i j oi oj d, ops[i]? = some oi -> ops[j]? = some oj -> A i = true -> A j = true -> oi.dst = some d -> oj.dst = some d -> i = j)
  {i : Nat} {o : Oper} (ho : ops[i]? = some o) (hA : A i = true) (hin : ∀ d, o.dst = some d -> d < a0.tmps.size) {listed : Array Bool} {a : Act} {w w' : World} {v : Value}
  (h : RegSt ops A G a0 w0 listed a w) (hi : i < ops.size) (hG : G i v w') (hb : Below w.heap.size w w') : RegSt ops A G a0 w0 (listed.setIfInBounds i true) (a.put o.dst v) w' := by
 have hls : i < listed.size := by rw [h.sz]; exact hi
 have hAl : ∀ j, listed.getD j false = true -> A j = true := fun j hj => by
  cases e : A j with
  | true => rfl
  | false => rw [h.out j e] at hj; cases hj
 refine ⟨by rw [Array.size_setIfInBounds]; exact h.sz, fun j hj => ?_, ?_, ?_, h.below.trans (hb.mono h.below.size), fun s hs => ?_, fun j oj d hoj hj hd => ?_⟩
 ·have : i ≠ j := fun e => by rw [e, hj] at hA; cases hA
  rw [getD_set_ne false this]; exact h.out j hj
 ·unfold Act.put; split <;> exact h.defers
 ·unfold Act.put; split
  ·show (a.tmps.setIfInBounds _ _).size = _
   rw [Array.size_setIfInBounds]; exact h.tsz
  ·exact h.tsz
 ·have h1 : a.tmps.getD s undef = a0.tmps.getD s undef := h.same s (fun j oj hoj hj => hs j oj hoj (getD_set_true hj))
  have h2 := hs i o ho (getD_self hls false)
  unfold Act.put
  split
  ·rename_i d hd
   show (a.tmps.setIfInBounds d v).getD s undef = _
   rw [tmp_set_other (fun e => h2 (by rw [hd, e]))]; exact h1
  ·exact h1
 ·by_cases e : i = j
  ·subst e
   rw [ho] at hoj
   injection hoj with hoj
   subst hoj
   unfold Act.put
   rw [hd]
   show G i ((a.tmps.setIfInBounds d v).getD d undef) w'
   rw [tmp_set_self (by rw [h.tsz]; exact hin d hd)]; exact hG
  ·rw [getD_set_ne false e] at hj
   have h1 := hmono j _ w w' (h.good j oj d hoj hj hd) h.below hb
   unfold Act.put
   split
   ·rename_i d' hd'
    show G j ((a.tmps.setIfInBounds d' v).getD d undef) w'
    rw [tmp_set_other (fun e2 => e (hdst i j o oj d ho hoj hA (hAl j hj) (by rw [hd', e2]) hd))]; exact h1
   ·exact h1
theorem reg_until (fr : Nat -> Bool) (hmono : ∀ j v w w', G j v w -> Below w0.heap.size w0 w -> Below w.heap.size w w' -> G j v w')
  (hacyc : ∀ i o, ops[i]? = some o -> ∀ e ∈ o.after, Region.binds md e = true -> e.on < i)
  (hwait : ∀ i o, ops[i]? = some o -> A i = false -> ∀ j, j < ops.size -> A j = true -> fr j = false -> ∃ e ∈ o.after, Region.binds md e = true /\ e.on = j)
  (hdst : ∀ i j oi oj d, ops[i]? = some oi -> ops[j]? = some oj -> A i = true -> A j = true -> oi.dst = some d -> oj.dst = some d -> i = j)
  (hin : ∀ i o d, ops[i]? = some o -> A i = true -> o.dst = some d -> d < a0.tmps.size)
  (hop : ∀ i o, ops[i]? = some o -> A i = true -> ∀ listed a w, RegSt ops A G a0 w0 listed a w -> (∀ e ∈ o.after, Region.binds md e = true -> listed.getD e.on false = true) ->
   Region.wanted o (yielded ops a.tmps) = true /\ ∀ K : Act -> World -> Prop, (∀ v w', G i v w' -> Below w.heap.size w w' -> K (a.put o.dst v) w') -> Oper.wp P o a w K Q)
  (hrest : ∀ fuel listed a w, RegSt ops A G a0 w0 listed a w -> (∀ j, j < ops.size -> A j = true -> fr j = false -> listed.getD j false = true) -> unl ops.size listed <= fuel -> wpAnyH P md ops Q (fun _ => True) fuel listed a w) :
  ∀ fuel listed a w, RegSt ops A G a0 w0 listed a w -> unl ops.size listed <= fuel -> wpAnyH P md ops Q (fun _ => True) fuel listed a w := by
 intro fuel
 induction fuel with
 | zero =>
  intro listed a w h hf
  refine hrest 0 listed a w h (fun j hj _ _ => ?_) hf
  cases e : listed.getD j false with
  | true => rfl
  | false => have := unl_pos e ops.size hj; omega
 | succ fuel ih =>
  intro listed a w h hf
  by_cases hall : ∀ j, j < ops.size -> A j = true -> fr j = false -> listed.getD j false = true
  ·exact hrest (fuel + 1) listed a w h hall hf
  ·have hex : ∃ j, j < ops.size /\ A j = true /\ fr j = false /\ listed.getD j false = false := by
    apply Classical.byContradiction
    intro hn
    refine hall (fun j hj hA hf2 => ?_)
    cases e : listed.getD j false with
    | true => rfl
    | false => exact absurd ⟨j, hj, hA, hf2, e⟩ hn
   obtain ⟨j, hj, hAj, hfj, hlj⟩ := hex
   refine ⟨fun hr => ?_, fun i hi => ?_⟩
   ·exfalso
    obtain ⟨i, h1, h2, h3⟩ := unl_least hlj
    have his : i < ops.size := by omega
    have : i ∈ Region.ready md ops listed := mem_ready.2 ⟨by rw [getD_bool (by rw [h.sz]; exact his)]; exact h2, ops[i], by simp [his], fun e he hb => h3 _ (hacyc i _ (by simp [his]) e he hb)⟩
    rw [hr] at this
    cases this
   ·obtain ⟨hl, o, ho, hdeps⟩ := mem_ready.1 hi
    have his : i < ops.size := (Array.getElem?_eq_some_iff.1 ho).1
    rw [getD_bool (by rw [h.sz]; exact his)] at hl
    cases hAi : A i with
    | false =>
     obtain ⟨e, he, hb, e2⟩ := hwait i o ho hAi j hj hAj hfj
     have := hdeps e he hb
     rw [e2, hlj] at this
     cases this
    | true =>
     obtain ⟨hw, hK⟩ := hop i o ho hAi listed a w h hdeps
     refine wpOp_step ho (fun K' hK' => ?_)
     rw [if_pos hw]
     refine hK K' (fun v w' hG hb => hK' _ _ ⟨trivial, ih _ _ _ (regSt_step hmono hdst ho hAi (fun d hd => hin i o d ho hAi hd) h his hG hb) ?_⟩)
     have := unl_set (l := listed) (i := i) (by rw [h.sz]; exact his) hl ops.size his
     omega
theorem regSt_start : RegSt ops A G a0 w0 (Array.replicate ops.size false) a0 w0 := by
 have hz : ∀ j, (Array.replicate ops.size false).getD j false = false := fun j => by
  simp only [Array.getD_eq_getD_getElem?, Array.getElem?_replicate]
  split <;> rfl
 refine ⟨by simp, fun j _ => hz j, rfl, rfl, Below.refl _ _, fun s _ => rfl, fun j o d _ hj => ?_⟩
 rw [hz] at hj; cases hj
theorem unl_start : unl ops.size (Array.replicate ops.size false) = ops.size := unl_none _ (fun j _ => by
  simp only [Array.getD_eq_getD_getElem?, Array.getElem?_replicate]
  split <;> rfl)
theorem regSt_listed {listed : Array Bool} {a : Act} {w : World} (h : RegSt ops A G a0 w0 listed a w) (hall : ∀ j, j < ops.size -> A j = true -> listed.getD j false = true) : listed = ((List.range ops.size).map A).toArray := by
 refine Array.ext (by rw [h.sz]; simp) (fun j h1 h2 => ?_)
 have hj : j < ops.size := by rw [<- h.sz]; exact h1
 rw [show (((List.range ops.size).map A).toArray[j]'h2) = A j by simp]
 have e : listed[j] = listed.getD j false := by simp [Array.getD, h1]
 rw [e]
 cases hA : A j with
 | true => exact hall j hj hA
 | false => exact h.out j hA
theorem puts_get (t : Act) : ∀ (D : List Nat) (b : Act) (s : Nat), (∀ d ∈ D, d < b.tmps.size) -> b.tmps.size = t.tmps.size -> b.tmps.getD s undef = t.tmps.getD s undef \/ s ∈ D ->
  (D.foldl (fun b d => b.put (some d) (t.tmps.getD d undef)) b).tmps.getD s undef = t.tmps.getD s undef /\ (D.foldl (fun b d => b.put (some d) (t.tmps.getD d undef)) b).tmps.size = t.tmps.size /\ (D.foldl (fun b d => b.put (some d) (t.tmps.getD d undef)) b).defers = b.defers := by
 intro D
 induction D with
 | nil =>
  intro b s _ hs h
  exact ⟨h.resolve_right (by simp), hs, rfl⟩
 | cons d D ih =>
  intro b s hd hs h
  rw [List.foldl_cons]
  have hds := hd d (by simp)
  have hsz : (b.put (some d) (t.tmps.getD d undef)).tmps.size = b.tmps.size := by simp [Act.put]
  refine ih (b.put (some d) (t.tmps.getD d undef)) s (fun x hx => by rw [hsz]; exact hd x (List.mem_cons_of_mem _ hx)) (by rw [hsz]; exact hs) ?_
  by_cases e : d = s
  ·left
   subst e
   show (b.tmps.setIfInBounds d _).getD d undef = _
   rw [tmp_set_self hds]
  ·rcases h with h | h
   ·left
    show (b.tmps.setIfInBounds d _).getD s undef = _
    rw [tmp_set_other e]; exact h
   ·right
    rcases List.mem_cons.1 h with h | h
    ·exact absurd h.symm e
    ·exact h
theorem regSt_act {listed : Array Bool} {a : Act} {w : World} (h : RegSt ops A G a0 w0 listed a w) (D : List Nat) (hD : ∀ j o s, ops[j]? = some o -> A j = true -> o.dst = some s -> s ∈ D) (hb : ∀ d ∈ D, d < a0.tmps.size) : a = D.foldl (fun b d => b.put (some d) (a.tmps.getD d undef)) a0 := by
 have key : ∀ s, a.tmps.getD s undef = a0.tmps.getD s undef \/ s ∈ D := fun s => by
  by_cases hs : s ∈ D
  ·exact .inr hs
  ·left
   refine h.same s (fun j o ho hj hd => hs (hD j o s ho ?_ hd))
   cases e : A j with
   | true => rfl
   | false => rw [h.out j e] at hj; cases hj
 have hp := fun s => puts_get a D a0 s hb h.tsz.symm ((key s).imp Eq.symm id)
 obtain ⟨t, df⟩ := a
 have h2 := (hp 0).2
 generalize hq : D.foldl (fun b d => b.put (some d) (({ tmps := t, defers := df } : Act).tmps.getD d undef)) a0 = q at *
 obtain ⟨qt, qd⟩ := q
 have e1 : qd = df := h2.2.trans h.defers.symm
 have e2 : t = qt := by
  refine Array.ext h2.1.symm (fun s h3 h4 => ?_)
  have := (hp s).1
  simp only [Array.getD_eq_getD_getElem?, Array.getElem?_eq_getElem h3, Array.getElem?_eq_getElem h4, Option.getD_some] at this
  exact this.symm
 rw [e1, e2]
def regChk (md : Region.Mode) (ops : Array Oper) (A fr : Nat -> Bool) (n : Nat) (D : List Nat) : Bool :=
 D.all (fun d => decide (d < n)) && (List.range ops.size).all fun i => match ops[i]? with
  | none => true
  | some o => (o.after.all fun e => !Region.binds md e || decide (e.on < i)) && (A i || (List.range ops.size).all fun j => !A j || fr j || o.after.any fun e => Region.binds md e && e.on == j) &&
   (match o.dst with
    | none => true
    | some d => !A i || (D.contains d && (List.range ops.size).all fun j => !A j || decide (i = j) || (match ops[j]? with | none => true | some oj => oj.dst != some d)))
theorem regChk_at {fr : Nat -> Bool} {D : List Nat} {n : Nat} (h : regChk md ops A fr n D = true) : (∀ d ∈ D, d < n) /\ ∀ i o, ops[i]? = some o -> (∀ e ∈ o.after, Region.binds md e = true -> e.on < i) /\ (A i = false -> ∀ j, j < ops.size -> A j = true -> fr j = false -> ∃ e ∈ o.after, Region.binds md e = true /\ e.on = j) /\
  ∀ d, o.dst = some d -> A i = true -> d ∈ D /\ ∀ j oj, ops[j]? = some oj -> A j = true -> oj.dst = some d -> i = j := by
 unfold regChk at h
 rw [Bool.and_eq_true, List.all_eq_true, List.all_eq_true] at h
 obtain ⟨h0, h1⟩ := h
 refine ⟨fun d hd => by simpa using h0 d hd, fun i o ho => ?_⟩
 have his : i < ops.size := (Array.getElem?_eq_some_iff.1 ho).1
 have h2 := h1 i (List.mem_range.2 his)
 rw [ho] at h2
 simp only [Bool.and_eq_true] at h2
 obtain ⟨⟨h3, h4⟩, h5⟩ := h2
 refine ⟨fun e he hb => ?_, fun hA j hj hAj hfj => ?_, fun d hd hA => ?_⟩
 ·have h6 := Array.all_eq_true'.1 h3 e he
  rw [hb] at h6
  simpa using h6
 ·rw [hA, Bool.false_or, List.all_eq_true] at h4
  have h6 := h4 j (List.mem_range.2 hj)
  rw [hAj, hfj, Bool.not_true, Bool.false_or, Bool.false_or] at h6
  obtain ⟨e, he, h7⟩ := Array.any_eq_true'.1 h6
  rw [Bool.and_eq_true] at h7
  exact ⟨e, he, h7.1, by simpa using h7.2⟩
 ·rw [hd] at h5
  simp only [hA, Bool.not_true, Bool.false_or, Bool.and_eq_true] at h5
  refine ⟨by simpa using h5.1, fun j oj hoj hAj hdj => ?_⟩
  have h6 := List.all_eq_true.1 h5.2 j (List.mem_range.2 (Array.getElem?_eq_some_iff.1 hoj).1)
  rw [hoj, hAj] at h6
  simpa [hdj] using h6
theorem regSt_lit {listed : Array Bool} {a : Act} {w : World} (h : RegSt ops A G a0 w0 listed a w) (f : Nat) (hf : listed.getD f false = false) (hall : ∀ j, j < ops.size -> A j = true -> decide (j = f) = false -> listed.getD j false = true) : listed = (((List.range ops.size).map A).toArray).setIfInBounds f false := by
 refine Array.ext (by rw [h.sz]; simp) (fun j h1 h2 => ?_)
 have hj : j < ops.size := by rw [<- h.sz]; exact h1
 have e : listed[j] = listed.getD j false := by simp [Array.getD, h1]
 rw [e]
 by_cases hjf : j = f
 ·subst hjf
  rw [hf]; simp
 ·rw [show ((((List.range ops.size).map A).toArray).setIfInBounds f false)[j]'h2 = A j by
   simp only [List.setIfInBounds_toArray, List.getElem_toArray]
   rw [List.getElem_set_ne (fun e => hjf e.symm)]
   simp]
  cases hA : A j with
  | true => exact hall j hj hA (by simpa using hjf)
  | false => exact h.out j hA
theorem reg_go (A : Nat -> Bool) (f : Nat) (D : List Nat) (G : Nat -> Value -> World -> Prop) (LIT : Array Bool) (r : Nat) (hlit : ((List.range ops.size).map A).toArray = LIT) (hr : unl ops.size LIT = r) (hr1 : f < ops.size -> unl ops.size (LIT.setIfInBounds f false) = r + 1) (hAf : f < ops.size -> A f = true)
  (hsel : Region.noSelect ops = true) (hfr : f < ops.size -> Region.free md ops (LIT.setIfInBounds f false) f = true) (hrd : f < ops.size -> (Region.ready md ops (LIT.setIfInBounds f false)).contains f = true)
  (hchk : regChk md ops A (fun j => decide (j = f)) a0.tmps.size D = true) (hmono : ∀ j v w w', G j v w -> Below w0.heap.size w0 w -> Below w.heap.size w w' -> G j v w')
  (hQ : ∀ c a d v w, Q (.panic c) (Act.put a d v) w -> Q (.panic c) a w)
  (hop : ∀ i (hi : i < ops.size), A i = true -> ∀ a w, Below w0.heap.size w0 w -> (∀ s, D.contains s = false -> a.tmps.getD s undef = a0.tmps.getD s undef) ->
   (∀ j d (hj : j < ops.size), (ops[i].after.any fun e => Region.binds md e && e.on == j) = true -> ops[j].dst = some d -> G j (a.tmps.getD d undef) w) ->
   Region.wanted ops[i] (yielded ops a.tmps) = true /\ ∀ K : Act -> World -> Prop, (∀ v w', G i v w' -> Below w.heap.size w w' -> K (a.put ops[i].dst v) w') -> Oper.wp P ops[i] a w K Q)
  (hyf : ∀ (hf : f < ops.size) a w, (∀ j d (hj : j < ops.size), (ops[f].after.any fun e => Region.binds md e && e.on == j) = true -> ops[j].dst = some d -> G j (a.tmps.getD d undef) w) -> ∃ v, YieldsIf P ops (fun _ => True) ops[f] v a /\ G f v w)
  (hrest : ∀ fuel a w, Below w0.heap.size w0 w -> a = D.foldl (fun b d => b.put (some d) (a.tmps.getD d undef)) a0 -> (∀ j d (hj : j < ops.size), A j = true -> ops[j].dst = some d -> G j (a.tmps.getD d undef) w) ->
   wpAnyH P md ops Q (fun _ => True) (fuel + r) LIT a w) :
  wpAnyH P md ops Q (fun _ => True) ops.size (Array.replicate ops.size false) a0 w0 := by
 obtain ⟨hD, hall⟩ := regChk_at hchk
 have hdst : ∀ i j oi oj d, ops[i]? = some oi -> ops[j]? = some oj -> A i = true -> A j = true -> oi.dst = some d -> oj.dst = some d -> i = j := fun i j oi oj d hi hj hAi hAj hdi hdj => ((hall i oi hi).2.2 d hdi hAi).2 j oj hj hAj hdj
 have hin : ∀ i o d, ops[i]? = some o -> A i = true -> o.dst = some d -> d < a0.tmps.size := fun i o d ho hA hd => hD d ((hall i o ho).2.2 d hd hA).1
 have hgood : ∀ {listed a w}, RegSt ops A G a0 w0 listed a w -> (∀ j, j < ops.size -> A j = true -> listed.getD j false = true) -> ∀ fuel, unl ops.size listed <= fuel -> wpAnyH P md ops Q (fun _ => True) fuel listed a w := by
  intro listed a w h hl fuel hf
  have e := regSt_listed h hl
  rw [e, hlit] at hf ⊢
  rw [hr] at hf
  obtain ⟨f, rfl⟩ : ∃ f, fuel = f + r := ⟨fuel - r, by omega⟩
  refine hrest f a w h.below (regSt_act h D (fun j o s ho hA hd => ((hall j o ho).2.2 s hd hA).1) hD) (fun j d hj hA hd => h.good j ops[j] d (by simp [hj]) (hl j hj hA) hd)
 refine reg_until (A := A) (G := G) (a0 := a0) (w0 := w0) (fun j => decide (j = f)) hmono (fun i o ho => (hall i o ho).1) (fun i o ho => (hall i o ho).2.1) hdst hin ?_ ?_ _ _ _ _ regSt_start (by rw [unl_start]; exact Nat.le_refl _)
 ·intro i o ho hA listed a w h hdeps
  have his : i < ops.size := (Array.getElem?_eq_some_iff.1 ho).1
  obtain rfl : ops[i] = o := (Array.getElem?_eq_some_iff.1 ho).2
  refine hop i his hA a w h.below (fun s hs => h.same s (fun j oj hoj hj hd => ?_)) (fun j d hj hany hd => ?_)
  ·have hAj : A j = true := by
    cases e : A j with
    | true => rfl
    | false => rw [h.out j e] at hj; cases hj
   have := ((hall j oj hoj).2.2 s hd hAj).1
   have h2 : D.contains s = true := by simpa using this
   rw [hs] at h2; cases h2
  ·obtain ⟨e, he, h7⟩ := Array.any_eq_true'.1 hany
   rw [Bool.and_eq_true] at h7
   have h8 : e.on = j := by simpa using h7.2
   exact h.good j ops[j] d (by simp [hj]) (by rw [<- h8]; exact hdeps e he h7.1) hd
 ·intro fuel listed a w h hl hf
  by_cases hfs : f < ops.size
  ·cases hlf : listed.getD f false with
   | true =>
    refine hgood h (fun j hj hA => ?_) fuel hf
    by_cases e : j = f
    ·rw [e]; exact hlf
    ·exact hl j hj hA (by simpa using e)
   | false =>
    have e := regSt_lit h f hlf hl
    rw [hlit] at e
    have hf2 := hf
    rw [e, hr1 hfs] at hf2
    obtain ⟨fu, rfl⟩ : ∃ fu, fuel = fu + 1 := ⟨fuel - 1, by omega⟩
    have hready : f ∈ Region.ready md ops listed := by
     have := hrd hfs
     rw [<- e] at this
     simpa using this
    have hdp := (mem_ready.1 hready).2
    obtain ⟨o, ho, hdeps⟩ := hdp
    obtain rfl : ops[f] = o := (Array.getElem?_eq_some_iff.1 ho).2
    obtain ⟨v, hy, hG⟩ := hyf hfs a w (fun j d hj hany hd => by
     obtain ⟨e, he, h7⟩ := Array.any_eq_true'.1 hany
     rw [Bool.and_eq_true] at h7
     have h8 : e.on = j := by simpa using h7.2
     exact h.good j ops[j] d (by simp [hj]) (by rw [<- h8]; exact hdeps e he h7.1) hd)
    refine wpAnyH_first ho (Region.noSelect_spec hsel) (fun c a w => hQ c a _ _ w) fu listed a w (Region.free_spec ho (by rw [e]; exact hfr hfs)) hready hy trivial ?_
    have hst := regSt_step hmono hdst ho (hAf hfs) (fun d hd => hin f _ d ho (hAf hfs) hd) h hfs hG (Below.refl _ _)
    refine hgood hst (fun j hj hA => ?_) fu ?_
    ·by_cases e2 : j = f
     ·rw [e2]; exact getD_self (by rw [h.sz]; exact hfs) false
     ·rw [getD_set_ne false (fun h => e2 h.symm)]; exact hl j hj hA (by simpa using e2)
    ·have := unl_set (l := listed) (i := f) (by rw [h.sz]; exact hfs) hlf ops.size hfs
     omega
  ·exact hgood h (fun j hj hA => hl j hj hA (by simp; omega)) fuel hf
end
end Go.Proofs.RegK
