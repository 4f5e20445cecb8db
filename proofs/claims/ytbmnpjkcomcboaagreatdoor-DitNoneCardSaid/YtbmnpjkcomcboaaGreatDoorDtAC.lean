/- A map from texts to values of any form, in memory. A tree of entries in memory, and what its changes leave alone. A tree's small functions: has, Len, New; the closures over what stands right below a name. -/
import Derived.Test.YtbmnpjkcomcboaaGreatDoorSnAL
import Derived.Test.YtbmnpjkcomcboaaGreatDoorEnAB
import Derived.Maps.RangeWalk
import Derived.Test.YtbmnpjkcomcboaaGreatDoorDtPN
import Derived.Test.YtbmnpjkcomcboaaGreatDoorDqG
import Derived.Test.YtbmnpjkcomcboaaGreatDoorGenB
import Derived.Test.YtbmnpjkcomcboaaGreatDoorEnQT
import Derived.Test.YtbmnpjkcomcboaaGreatDoorEnJN
import Derived.Carry
namespace Go.Proofs.YtbmnpjkcomcboaaGreatDoor
set_option linter.unusedSimpArgs false
set_option linter.unusedVariables false
open Go Go.RowKit Go.Proofs.BerK Go.Proofs.MemK Go.Maps Go.WideMaps

theorem mv_lenSorted {H : Type} {P : Program} {k : TypeId} {R : Value → Option (DataW H × List MemPlace)} {w : World} {b n : Nat} {D : DataW H} (h : w.ownsMap P k R b n D) : w.ownsMap P k R b (Maps.size D) D := by
  obtain ⟨es, clock, hb, F, hs, rfl⟩ := h
  exact ⟨es, clock, hb, F, by simp [Maps.size, length_sorted], rfl⟩
def anyE : Value → Option (DataW Value × List MemPlace) := fun v => some (.held v, [])
def MvIs (D : DataW Value) (f : List UInt8 → Option Value) : Prop :=
  (∀ s : List UInt8, Maps.has D (.string s) = (f s).isSome) ∧ (∀ (s : List UInt8) (v : Value), f s = some v → ∀ z, D.atKey (.string s) z = .held v) ∧ ∀ kl, Maps.has D kl = true → ∃ s : List UInt8, kl = .string s
def MvAt (w : World) (b : Nat) (f : List UInt8 → Option Value) (n : Nat) : Prop :=
  ∃ D : DataW Value, w.ownsMap Tryz.prog 9 anyE b n D ∧ MvIs D f ∧ Maps.size D = n
theorem mvAt_new (w : World) : MvAt (w.alloc (.map #[] 0)) w.heap.size (fun _ => none) 0 := ⟨_, World.ownsMap_made _ _ _ _, ⟨fun _ => rfl, ⟨fun _ _ h => (by cases h), fun _ h => (by cases h)⟩⟩, rfl⟩
theorem mvAt_lt {w : World} {b n : Nat} {f : List UInt8 → Option Value} (h : MvAt w b f n) : b < w.heap.size := by obtain ⟨D, h, _⟩ := h; exact h.lt
theorem mvAt_block {w w' : World} {b n : Nat} {f : List UInt8 → Option Value} (h : MvAt w b f n) (hb : w'.heap[b]? = w.heap[b]?) : MvAt w' b f n := by
  obtain ⟨D, ⟨es, clock, hq, F, hs', hD⟩, hN⟩ := h
  exact ⟨D, ⟨es, clock, hb.trans hq, F, hs', hD⟩, hN⟩
theorem mvAt_chg {S : Nat → Prop} {w w' : World} {b n : Nat} {f : List UInt8 → Option Value} (h : MvAt w b f n) (hc : Chg S w w') (hs : ¬ S b) : MvAt w' b f n := mvAt_block h (hc.block b (mvAt_lt h) hs)
theorem mvAt_map {w : World} {b n : Nat} {f : List UInt8 → Option Value} (h : MvAt w b f n) : ∃ es c, w.heap[b]? = some (.map es c) := by
  obtain ⟨D, ⟨es, clock, hq, _⟩, _⟩ := h
  exact ⟨es, clock, hq⟩
theorem held_inj {a b : Value} (h : (DataW.held a : DataW Value) = .held b) : a = b := by cases h; rfl
theorem mv_at {D : DataW Value} {f : List UInt8 → Option Value} (h : MvIs D f) (s : List UInt8) (z : Value) : D.atKey (.string s) (.held z) = .held ((f s).getD z) := by
  cases hq : f s with
  | some v => rw [h.2.1 s v hq]; rfl
  | none =>
    have := h.1 s
    rw [hq] at this
    rw [atKey_of_not_has this]; rfl
theorem mv_look {w : World} {b n : Nat} {f : List UInt8 → Option Value} (h : MvAt w b f n) {t e : TypeId} (ht : Tryz.prog.underlying t = some (.map 9 e)) {z : Value} (hz : (zeroValue e).run Tryz.prog w = .ok z w) (s : List UInt8) (hs : s.length ≤ 140737488355328) :
    (Instr.lookup t (.map (some b)) (.string ⟨s.toArray⟩) true).run Tryz.prog w = .ok (.tuple #[(f s).getD z, .bool (f s).isSome]) w := by
  obtain ⟨D, hm, hD, _⟩ := h
  obtain ⟨v, ps, hrun, hv⟩ := hm.look_ok snlaw ht hz (show anyE z = some (.held z, []) from rfl) (snkey s hs)
  rw [hrun]
  have e1 : (DataW.held v : DataW Value) = D.atKey (.string s) (.held z) := congrArg Prod.fst (Option.some.inj hv)
  rw [mv_at hD] at e1
  rw [held_inj e1, hD.1]
theorem mv_look1 {w : World} {b n : Nat} {f : List UInt8 → Option Value} (h : MvAt w b f n) {t e : TypeId} (ht : Tryz.prog.underlying t = some (.map 9 e)) {z : Value} (hz : (zeroValue e).run Tryz.prog w = .ok z w) (s : List UInt8) (hs : s.length ≤ 140737488355328) :
    (Instr.lookup t (.map (some b)) (.string ⟨s.toArray⟩) false).run Tryz.prog w = .ok ((f s).getD z) w := by
  obtain ⟨D, hm, hD, _⟩ := h
  obtain ⟨v, ps, hrun, hv⟩ := hm.lookup snlaw ht hz (show anyE z = some (.held z, []) from rfl) (snkey s hs)
  rw [hrun]
  have e1 : (DataW.held v : DataW Value) = D.atKey (.string s) (.held z) := congrArg Prod.fst (Option.some.inj hv)
  rw [mv_at hD] at e1
  rw [held_inj e1]
def upF (f : List UInt8 → Option Value) (s : List UInt8) (o : Option Value) : List UInt8 → Option Value := fun t => if t = s then o else f t
theorem mvIs_put {D : DataW Value} {f : List UInt8 → Option Value} (hT : Tidy D) (h : MvIs D f) (s : List UInt8) (v : Value) : MvIs (D.put (.string s) (.held v)) (upF f s (some v)) := by
  refine ⟨fun t => ?_, fun t u hu z => ?_, fun kl hk => ?_⟩
  · unfold upF
    by_cases e : t = s
    · subst e; rw [has_put_same hT.isMap snIsKey, if_pos rfl]; rfl
    · rw [has_put_other (fun q => e (by injection q)), if_neg e, h.1]
  · unfold upF at hu
    by_cases e : t = s
    · subst e
      rw [if_pos rfl] at hu
      rw [atKey_put_same hT.isMap snIsKey, Option.some.inj hu]
    · rw [if_neg e] at hu
      rw [atKey_put_other (fun q => e (by injection q)), h.2.1 t u hu]
  · by_cases e : kl = .string s
    · exact ⟨s, e⟩
    · rw [has_put_other e] at hk
      exact h.2.2 kl hk
theorem mvIs_del {D : DataW Value} {f : List UInt8 → Option Value} (h : MvIs D f) (s : List UInt8) : MvIs (D.del (.string s)) (upF f s none) := by
  refine ⟨fun t => ?_, fun t u hu z => ?_, fun kl hk => ?_⟩
  · unfold upF
    by_cases e : t = s
    · subst e; rw [has_del_same, if_pos rfl]; rfl
    · rw [has_del_other (fun q => e (by injection q)), if_neg e, h.1]
  · unfold upF at hu
    by_cases e : t = s
    · rw [if_pos e] at hu; cases hu
    · rw [if_neg e] at hu
      rw [atKey_del_other (fun q => e (by injection q)), h.2.1 t u hu]
  · by_cases e : kl = .string s
    · exact ⟨s, e⟩
    · rw [has_del_other e] at hk
      exact h.2.2 kl hk
def NPut (f : List UInt8 → Option Value) (s : List UInt8) (n n' : Nat) : Prop := n' = if (f s).isSome then n else n + 1
def NDel (f : List UInt8 → Option Value) (s : List UInt8) (n n' : Nat) : Prop := n' = n - if (f s).isSome then 1 else 0
theorem wpList_mvPut {w : World} {ops : Array Oper} {rest : List Oper} {o : Oper} {a : Act} {Q : Exit → Act → World → Prop}
    (hg : o.guard = none) (m x v : Operand) (t e : TypeId) (hop : o.op = Op.mapUpdate t m x v) (ht : Tryz.prog.underlying t = some (.map 9 e)) (b n : Nat) (f : List UInt8 → Option Value)
    (hm : a.eval m = .map (some b)) (h : MvAt w b f n) (hn : n < maxLen) (s : List UInt8) (val : Value) (hx : a.eval x = .string ⟨s.toArray⟩) (hv : a.eval v = val) (hs : s.length ≤ 140737488355328)
    (hK : ∀ w' n', MvAt w' b (upF f s (some val)) n' → NPut f s n n' → w.mapTurned w' b → wpList Tryz.prog ops Q rest (a.put o.dst undef) w') :
    wpList Tryz.prog ops Q (o :: rest) a w := by
  obtain ⟨D, hown, hD, hsz⟩ := h
  refine wpList_mapUpdate_in w hg m x v t hop 9 e snlaw ht anyE b n D hm hown hn _ val (.string s) hx hv (snkey s hs) (.held val) [] rfl ?_
  intro w' h1 h2
  refine hK w' _ ⟨_, ?_, mvIs_put (hown.tidy snlaw) hD s val, ?_⟩ rfl h2
  · have h3 := mv_lenSorted h1
    rw [size_put (hown.tidy snlaw), hD.1, hsz] at h3
    exact h3
  · rw [size_put (hown.tidy snlaw), hD.1, hsz]
theorem step_mvPut {w : World} {ops : Array Oper} {o : Oper} {a : Act} {K : Act → World → Prop} {Q : Exit → Act → World → Prop} {E : Prop}
    (hg : o.guard = none) (m x v : Operand) (t e : TypeId) (hop : o.op = Op.mapUpdate t m x v) (ht : Tryz.prog.underlying t = some (.map 9 e)) (b n : Nat) (f : List UInt8 → Option Value)
    (hm : a.eval m = .map (some b)) (h : MvAt w b f n) (hn : n < maxLen) (s : List UInt8) (val : Value) (hx : a.eval x = .string ⟨s.toArray⟩) (hv : a.eval v = val) (hs : s.length ≤ 140737488355328)
    (hK : ∀ w' n', MvAt w' b (upF f s (some val)) n' → NPut f s n n' → w.mapTurned w' b → K (a.put o.dst undef) w') :
    if Region.wanted o (yielded ops a.tmps) = true then Oper.wp Tryz.prog o a w K Q else E := by
  have hw : Region.wanted o (yielded ops a.tmps) = true := by simp [Region.wanted, hg]
  rw [if_pos hw]
  obtain ⟨D, hown, hD, hsz⟩ := h
  obtain ⟨w', hrun, h1, h2⟩ := hown.store (k := 9) (e := e) snlaw ht hn (snkey s hs) (show anyE val = some (.held val, []) from rfl)
  unfold Oper.wp
  simp [execOp, hop, hm, hx, hv, hrun, Result.andThen]
  refine hK w' _ ⟨_, ?_, mvIs_put (hown.tidy snlaw) hD s val, ?_⟩ rfl h2
  · have h3 := mv_lenSorted h1
    rw [size_put (hown.tidy snlaw), hD.1, hsz] at h3
    exact h3
  · rw [size_put (hown.tidy snlaw), hD.1, hsz]
theorem wpList_mvDel {w : World} {ops : Array Oper} {rest : List Oper} {o : Oper} {a : Act} {Q : Exit → Act → World → Prop}
    (hg : o.guard = none) (m x : Operand) (t e : TypeId) (hop : o.op = Op.call { callee := Callee.builtin Builtin.delete, args := #[m, x], argTypes := #[t, 9] }) (ht : Tryz.prog.underlying t = some (.map 9 e)) (b n : Nat) (f : List UInt8 → Option Value)
    (hm : a.eval m = .map (some b)) (h : MvAt w b f n) (s : List UInt8) (hx : a.eval x = .string ⟨s.toArray⟩) (hs : s.length ≤ 140737488355328)
    (hK : ∀ w' n', MvAt w' b (upF f s none) n' → NDel f s n n' → w.mapTurned w' b → wpList Tryz.prog ops Q rest (a.put o.dst (.tuple #[])) w') :
    wpList Tryz.prog ops Q (o :: rest) a w := by
  obtain ⟨D, hown, hD, hsz⟩ := h
  refine wpList_delete_own w hg m x t 9 hop e snlaw ht anyE b n D hm hown _ (.string s) hx (snkey s hs) ?_
  intro w' h1 h2
  have h4 := size_del (k := .string s) (hown.tidy snlaw)
  rw [hD.1, hsz] at h4
  have h5 : Maps.size (D.del (.string s)) = n - if (f s).isSome then 1 else 0 := by omega
  refine hK w' _ ⟨_, ?_, mvIs_del hD s, h5⟩ rfl h2
  rw [← h5]; exact mv_lenSorted h1
theorem mv_len {w : World} {b n : Nat} {f : List UInt8 → Option Value} (h : MvAt w b f n) {t e : TypeId} (ht : Tryz.prog.underlying t = some (.map 9 e)) (ty : TypeId) : (Builtin.len_ #[t] ty #[.map (some b)]).run Tryz.prog w = .ok (.int .i64 (n : Nat)) w := by
  obtain ⟨D, hown, hD, hsz⟩ := h
  rw [hown.len ht ty, hsz]
theorem chg_turned {w w' : World} {b : Nat} (h : w.mapTurned w' b) : Chg (fun k => k = b) w w' := by
  have g := h.grown
  exact ⟨g.os, g.tape, g.output, g.size, fun k hk hn => g.block k hk (fun e => hn (by injection e))⟩
theorem count_le : ∀ (KS : List (List UInt8)) (es : List (Lit × DataW Value)), es.Pairwise (fun p q => p.1 ≠ q.1) → (∀ p ∈ es, ∃ s ∈ KS, p.1 = .string s) → es.length ≤ KS.length
  | [], es, _, h => by
    cases es with
    | nil => simp
    | cons p es => obtain ⟨s, hs, _⟩ := h p (by simp); simp at hs
  | a :: KS, es, hp, h => by
    have h1 := length_strike (k := .string a) es hp
    have h2 := count_le KS (es.filter fun p => !p.1.sameKey (.string a)) (hp.filter _) (fun p hpm => by
      obtain ⟨m1, m2⟩ := List.mem_filter.1 hpm
      obtain ⟨s, hs, e⟩ := h p m1
      rcases List.mem_cons.1 hs with rfl | hs
      · rw [e] at m2
        simp [Lit.sameKey] at m2
      · exact ⟨s, hs, e⟩)
    rw [List.length_cons]
    split at h1 <;> omega
theorem mv_size_le {w : World} {b n : Nat} {f : List UInt8 → Option Value} (h : MvAt w b f n) (KS : List (List UInt8)) (hk : ∀ s, (f s).isSome = true → s ∈ KS) : n ≤ KS.length := by
  obtain ⟨D, hown, hD, rfl⟩ := h
  obtain ⟨es, rfl, hp⟩ := hown.tidy snlaw
  rw [size_eq]
  refine count_le KS es hp (fun p hpm => ?_)
  have hh : Maps.has (.map es) p.1 = true := by
    obtain ⟨s, e⟩ | hne : (∃ s : List UInt8, p.1 = .string s) ∨ ¬ ∃ s : List UInt8, p.1 = .string s := Classical.em _
    · rw [has_eq, List.any_eq_true]
      exact ⟨p, hpm, by rw [e]; simp [Lit.sameKey]⟩
    · rw [has_eq, List.any_eq_true]
      obtain ⟨es2, e2, _, hkl⟩ := hown.entries snlaw
      injection e2 with e2
      subst e2
      exact ⟨p, hpm, WideAt.sameKey_self (hkl p hpm)⟩
  obtain ⟨s, e⟩ := hD.2.2 _ hh
  refine ⟨s, hk s ?_, e⟩
  rw [← hD.1, ← e]; exact hh
end Go.Proofs.YtbmnpjkcomcboaaGreatDoor
namespace Go.Proofs.YtbmnpjkcomcboaaGreatDoor
set_option linter.unusedSimpArgs false
set_option linter.unusedVariables false
open Go Go.RowKit Go.Proofs.BerK Go.Proofs.MemK Go.Maps Go.WideMaps

def Off (S : Nat → Prop) (w : World) (P : World → Prop) : Prop := ∀ w', Chg S w w' → P w'
theorem Off.now {S : Nat → Prop} {w : World} {P : World → Prop} (h : Off S w P) : P w := h w (Chg.refl _ _)
theorem Off.step {S S' : Nat → Prop} {w w1 : World} {P : World → Prop} (h : Off S w P) (hc : Chg S w w1) (hs : ∀ k, S' k → S k ∨ w.heap.size ≤ k) : Off S' w1 P := fun w2 h2 =>
  h w2 (hc.trans h2 (fun i hi ht => by
    rcases hs i ht with k | k
    · exact k
    · omega))
theorem Off.keep {S : Nat → Prop} {w w1 : World} {P : World → Prop} (h : Off S w P) (hc : Chg S w w1) : Off S w1 P := h.step hc (fun k hk => .inl hk)
theorem Off.below {S : Nat → Prop} {w w1 : World} {P : World → Prop} (h : Off S w P) (hc : Below w.heap.size w w1) : Off S w1 P := h.keep (Chg.ofBelow hc)
theorem Off.and {S : Nat → Prop} {w : World} {P Q : World → Prop} (h : Off S w P) (h2 : Off S w Q) : Off S w (fun w => P w ∧ Q w) := fun w' hc => ⟨h w' hc, h2 w' hc⟩
theorem Off.imp {S : Nat → Prop} {w : World} {P Q : World → Prop} (h : Off S w P) (h2 : ∀ w, P w → Q w) : Off S w Q := fun w' hc => h2 w' (h w' hc)
theorem off_ahead {S : Nat → Prop} {w0 w : World} {P : World → Prop} (h : ∀ w', Below w0.heap.size w0 w' → P w') (hb : Below w0.heap.size w0 w) (hs : ∀ k, S k → w0.heap.size ≤ k) : Off S w P := fun w' hc =>
  h w' (hb.trans (hc.toBelow hb.size (fun k _ hk => hs k hk)))
def isTr (w : World) (k : Nat) : Prop := (∃ es c, w.heap[k]? = some (.map es c)) ∨ ∃ cs m, w.heap[k]? = some (.cells cs 86 m)
theorem isTr_row {w : World} {B : Nat} {e : TypeId} {size n : Nat} {v : Value} {xs : List Value} (h : w.ownsRow B e size v n xs) (he : e ≠ 86) (k : Nat) (hk : v.ownBlock = some k) : ¬ isTr w k := by
  rcases h.2 with ⟨rfl, _⟩ | ⟨g, cap, cur, rfl, hB, hg, _⟩
  · simp [Value.ownBlock] at hk
  · simp [Value.ownBlock] at hk
    subst hk
    rintro (⟨es, c, h2⟩ | ⟨cs, m, h2⟩)
    · rw [hg] at h2; cases h2
    · rw [hg] at h2
      injection h2 with h2
      injection h2 with h3 h4 h5
      exact he h4
theorem off_row {S : Nat → Prop} {w : World} {B : Nat} {e : TypeId} {size n : Nat} {v : Value} {xs : List Value} (hs : ∀ k, S k → isTr w k) (h : w.ownsRow B e size v n xs) (he : e ≠ 86) : Off S w (fun w => w.ownsRow B e size v n xs) :=
  fun w' hc => ownsRow_chg h hc (fun k hk hS => isTr_row h he k hk (hs k hS))
theorem off_pa {S : Nat → Prop} {w : World} {v : Value} {A : List Atr} (hs : ∀ k, S k → isTr w k) (h : PaAt w v A) : Off S w (fun w => PaAt w v A) := fun w' hc => by
  obtain ⟨Lq, B, ⟨h1, h2⟩, h3⟩ := h
  refine ⟨Lq, B, ⟨h1, fun i i1 i2 => ?_⟩, off_row hs h3 (by decide) w' hc⟩
  obtain ⟨e, B2, hB⟩ := h2 i i1 i2
  exact ⟨e, B2, off_row hs hB (by decide) w' hc⟩

def EntIs (w : World) (f : List UInt8 → Option Value) (L : List Ent) : Prop :=
  ∀ s, (lkE L s = none → f s = none) ∧ ∀ e, lkE L s = some e → ∃ v, f s = some (.agg #[.string ⟨e.1.toArray⟩, v]) ∧ PaAt w v e.2
def kidF (KF : List UInt8 → List Av) (F : List UInt8 → Value) : List UInt8 → Option Value := fun p => if KF p = [] then none else some (F p)
def KidIs (w : World) (B : Nat) (F : List UInt8 → Value) (KF : List UInt8 → List Av) : Prop :=
  ∀ p, (KF p = [] → F p = .slice none 0 0) ∧ w.ownsRow B 86 2 (F p) (KF p).length (avc (KF p)) ∧ ∀ q, p ≠ q → Apart (F p) (F q)
def trS (eb bb : Nat) (F : List UInt8 → Value) : Nat → Prop := fun k => k = eb ∨ k = bb ∨ ∃ p, (F p).ownBlock = some k
def TrAt (w : World) (B g : Nat) (sv : Value) (S : Nat → Prop) (L : List Ent) : Prop :=
  ∃ eb bb fe F nb, S = trS eb bb F ∧ w.heap[g]? = some (.cells #[sv, .map (some eb), .map (some bb)] 69 (0, 0)) ∧ (B ≤ eb ∧ B ≤ bb ∧ eb ≠ bb ∧ B ≤ w.heap.size) ∧
    MvAt w eb fe L.length ∧ EntIs w fe L ∧ MvAt w bb (kidF (kidN L) F) nb ∧ KidIs w B F (kidN L)
theorem trAt_isTr {w : World} {B g : Nat} {sv : Value} {S : Nat → Prop} {L : List Ent} (h : TrAt w B g sv S L) : ∀ k, S k → isTr w k ∧ B ≤ k ∧ k < w.heap.size ∧ k ≠ g := by
  obtain ⟨eb, bb, fe, F, nb, rfl, hg, ⟨hB1, hB2, _, _⟩, h1, _, h2, h3⟩ := h
  intro k hk
  rcases hk with rfl | rfl | ⟨p, hp⟩
  · obtain ⟨es, c, hm⟩ := mvAt_map h1
    refine ⟨.inl ⟨es, c, hm⟩, hB1, mvAt_lt h1, ?_⟩
    rintro rfl
    rw [hg] at hm; cases hm
  · obtain ⟨es, c, hm⟩ := mvAt_map h2
    refine ⟨.inl ⟨es, c, hm⟩, hB2, mvAt_lt h2, ?_⟩
    rintro rfl
    rw [hg] at hm; cases hm
  · have hr := (h3 p).2.1
    obtain ⟨q1, q2⟩ := hr.lt k hp
    rcases hr.2 with ⟨e, _⟩ | ⟨g', cap, cur, e, hB, hg', _⟩
    · rw [e] at hp; simp [Value.ownBlock] at hp
    · rw [e] at hp
      simp [Value.ownBlock] at hp
      subst hp
      refine ⟨.inr ⟨_, _, hg'⟩, q1, q2, ?_⟩
      rintro rfl
      rw [hg] at hg'
      injection hg' with hg'
      injection hg' with _ h5 _
      exact absurd h5 (by decide)
theorem trAt_chg {S' : Nat → Prop} {w w' : World} {B g : Nat} {sv : Value} {S : Nat → Prop} {L : List Ent} (h : TrAt w B g sv S L) (hc : Chg S' w w') (h1 : ∀ k, S' k → k < w.heap.size → ¬ S k ∧ k ≠ g) (h2 : ∀ v A, PaAt w v A → PaAt w' v A) : TrAt w' B g sv S L := by
  have hlt := fun k hk => (trAt_isTr h k hk).2.2.1
  obtain ⟨eb, bb, fe, F, nb, rfl, hg, ⟨hB1, hB2, hne, hB3⟩, k1, k2, k3, k4⟩ := h
  have hn : ∀ k, trS eb bb F k → ¬ S' k := fun k hk hS => (h1 k hS (hlt k hk)).1 hk
  refine ⟨eb, bb, fe, F, nb, rfl, obj_chg hg hc (fun hS => (h1 g hS (obj_lt hg)).2 rfl), ⟨hB1, hB2, hne, Nat.le_trans hB3 hc.size⟩, mvAt_chg k1 hc (hn _ (.inl rfl)), ?_, mvAt_chg k3 hc (hn _ (.inr (.inl rfl))), ?_⟩
  · intro s
    refine ⟨(k2 s).1, fun e he => ?_⟩
    obtain ⟨v, q1, q2⟩ := (k2 s).2 e he
    exact ⟨v, q1, h2 _ _ q2⟩
  · intro p
    obtain ⟨q1, q2, q3⟩ := k4 p
    exact ⟨q1, ownsRow_chg q2 hc (fun k hk => hn k (.inr (.inr ⟨p, hk⟩))), q3⟩
theorem trAt_below {w w' : World} {B g : Nat} {sv : Value} {S : Nat → Prop} {L : List Ent} (h : TrAt w B g sv S L) (hc : Below w.heap.size w w') : TrAt w' B g sv S L :=
  trAt_chg h (Chg.ofBelow (S := fun _ => False) hc) (fun _ h => h.elim) (fun v A hp => paAt_below hp hc)
theorem trAt_g {w : World} {B g : Nat} {sv : Value} {S : Nat → Prop} {L : List Ent} (h : TrAt w B g sv S L) : ∃ eb bb, w.heap[g]? = some (.cells #[sv, .map (some eb), .map (some bb)] 69 (0, 0)) := by
  obtain ⟨eb, bb, fe, F, nb, _, hg, _⟩ := h
  exact ⟨eb, bb, hg⟩
theorem trAt_lt {w : World} {B g : Nat} {sv : Value} {S : Nat → Prop} {L : List Ent} (h : TrAt w B g sv S L) : g < w.heap.size := by
  obtain ⟨eb, bb, hg⟩ := trAt_g h
  exact obj_lt hg
theorem ent_none {w : World} {f : List UInt8 → Option Value} {L : List Ent} (h : EntIs w f L) (s : List UInt8) : (f s).isSome = hasE L s := by
  rw [← lkE_has]
  cases hq : lkE L s with
  | none => rw [(h s).1 hq]; rfl
  | some e =>
    obtain ⟨v, h1, _⟩ := (h s).2 e hq
    rw [h1]; rfl
def TrPost (c : Nat) (B g : Nat) (sv : Value) (S : Nat → Prop) (L : List Ent) (w : World) (en : Ending) (w' : World) : Prop :=
  en = .returned (.int .i64 (c : Nat)) ∧ ∃ S', TrAt w' B g sv S' L ∧ Chg S w w' ∧ ∀ k, S' k → S k ∨ w.heap.size ≤ k
theorem trPost_same {c d : Nat} {B g : Nat} {sv : Value} {S : Nat → Prop} {L : List Ent} {w w' : World} (hcd : c = d) (h : TrAt w B g sv S L) (hb : Below w.heap.size w w') : TrPost c B g sv S L w (.returned (.int .i64 (d : Nat))) w' := by
  subst hcd
  exact ⟨rfl, S, trAt_below h hb, Chg.ofBelow hb, fun k hk => .inl hk⟩
end Go.Proofs.YtbmnpjkcomcboaaGreatDoor
namespace Go.Proofs.YtbmnpjkcomcboaaGreatDoor
set_option linter.unusedSimpArgs false
set_option linter.unusedVariables false
open Go Go.RowKit Go.Proofs.BerK Go.Proofs.MemK Go.Proofs.UtfK Go.Maps Go.WideMaps

theorem dtzE (w : World) : (zeroValue 39).run Tryz.prog w = .ok (.agg #[.string ⟨#[]⟩, .slice none 0 0]) w := by kernel_rfl
theorem dtzK (w : World) : (zeroValue 83).run Tryz.prog w = .ok (.slice none 0 0) w := by kernel_rfl
theorem ent_shape {w : World} {f : List UInt8 → Option Value} {L : List Ent} (h : EntIs w f L) (s : List UInt8) : ∃ (d : List UInt8) (a : Option Addr) (n c : Nat), (f s).getD (.agg #[.string ⟨#[]⟩, .slice none 0 0]) = .agg #[.string ⟨d.toArray⟩, .slice a n c] := by
  cases hq : lkE L s with
  | none => rw [(h s).1 hq]; exact ⟨[], none, 0, 0, rfl⟩
  | some e =>
    obtain ⟨v, h1, h2⟩ := (h s).2 e hq
    obtain ⟨Lq, B, h3, h4⟩ := h2
    obtain ⟨a, c, rfl⟩ := ownsRow_slice h4
    rw [h1]
    exact ⟨e.1, a, _, c, rfl⟩
set_option maxHeartbeats 1600000 in
set_option maxRecDepth 100000 in
theorem dthas_any (B g : Nat) (sv : Value) (S : Nat → Prop) (L : List Ent) (s : List UInt8) (w : World) (h : TrAt w B g sv S L) (hs : s.length ≤ 140737488355328) :
    Calls Tryz.prog 38 #[.pointer (some ⟨g, 0, none⟩), .string ⟨s.toArray⟩] w (BB (hasE L s) w) := by
  obtain ⟨eb, bb, fe, F, nb, rfl, hg, _, h1, h2, _⟩ := h
  obtain ⟨c0, c1, c2⟩ := obj3 hg
  have hrun := mv_look h1 Tryz.underlying66 (dtzE w) s hs
  obtain ⟨d, a, n, c, hd⟩ := ent_shape h2 s
  rw [hd, ent_none h2] at hrun
  obtain ⟨b, hb⟩ : ∃ b, hasE L s = b := ⟨_, rfl⟩
  rw [hb] at hrun ⊢
  clear h1 h2 hd hb hg c0 c2
  go_enter Tryz.func38, Tryz.ntmps38
  go_wp2
  go_ret
  exact bB_mk rfl ((Below.refl _ _).alloc (Nat.le_refl _) _)
def LenPost (n : Nat) (w : World) (en : Ending) (w' : World) : Prop := en = .returned (.int .i64 (n : Nat)) ∧ w = w'
set_option maxHeartbeats 1600000 in
theorem dtlen_any (B g : Nat) (sv : Value) (S : Nat → Prop) (L : List Ent) (w : World) (h : TrAt w B g sv S L) :
    Calls Tryz.prog 26 #[.pointer (some ⟨g, 0, none⟩)] w (LenPost L.length w) := by
  obtain ⟨eb, bb, fe, F, nb, rfl, hg, _, h1, h2, _⟩ := h
  obtain ⟨c0, c1, c2⟩ := obj3 hg
  have hrun := mv_len h1 Tryz.underlying66 3
  obtain ⟨n, hn⟩ : ∃ n, L.length = n := ⟨_, rfl⟩
  rw [hn] at hrun ⊢
  clear h1 h2 hg c0 c2 hn
  go_enter Tryz.func26, Tryz.ntmps26
  go_wp2
  go_ret
  exact ⟨rfl, rfl⟩
set_option maxHeartbeats 1600000 in
theorem dtlen_nil (w : World) : Calls Tryz.prog 26 #[.pointer none] w (LenPost 0 w) := by
  go_enter Tryz.func26, Tryz.ntmps26
  go_wp2
  go_ret
  exact ⟨rfl, rfl⟩
theorem trAt_new (w : World) (sv : Value) : TrAt (((w.alloc (.map #[] 0)).alloc (.map #[] 0)).alloc (.cells #[sv, .map (some w.heap.size), .map (some (w.heap.size + 1))] 69)) w.heap.size (w.heap.size + 2) sv (trS w.heap.size (w.heap.size + 1) (fun _ => .slice none 0 0)) [] := by
  have m1 := mvAt_new w
  have m2 := mvAt_new (w.alloc (.map #[] 0))
  rw [World.size_alloc] at m2
  have b1 : Below (w.alloc (.map #[] 0)).heap.size (w.alloc (.map #[] 0)) ((w.alloc (.map #[] 0)).alloc (.map #[] 0)) := (Below.refl _ _).alloc (Nat.le_refl _) _
  have b2 : Below ((w.alloc (.map #[] 0)).alloc (.map #[] 0)).heap.size ((w.alloc (.map #[] 0)).alloc (.map #[] 0)) (((w.alloc (.map #[] 0)).alloc (.map #[] 0)).alloc (.cells #[sv, .map (some w.heap.size), .map (some (w.heap.size + 1))] 69)) := (Below.refl _ _).alloc (Nat.le_refl _) _
  refine ⟨w.heap.size, w.heap.size + 1, fun _ => none, fun _ => .slice none 0 0, 0, rfl, ?_, ⟨Nat.le_refl _, by omega, by omega, by simp; omega⟩, ?_, fun s => ⟨fun _ => rfl, fun e he => by simp [lkE] at he⟩, ?_, fun p => ⟨fun _ => rfl, World.ownsRow_nil _ _ _ _, fun q _ => apart_nil _⟩⟩
  · have := heap_alloc_new ((w.alloc (.map #[] 0)).alloc (.map #[] 0)) (.cells #[sv, .map (some w.heap.size), .map (some (w.heap.size + 1))] 69)
    rw [World.size_alloc, World.size_alloc] at this
    exact this
  · exact mvAt_block (mvAt_block m1 (b1.block _ (by simp))) (b2.block _ (by simp; omega))
  · exact mvAt_block m2 (b2.block _ (by simp))
def NewPost (sv : Value) (w : World) (en : Ending) (w' : World) : Prop := ∃ g S, en = .returned (.pointer (some ⟨g, 0, none⟩)) ∧ TrAt w' w.heap.size g sv S [] ∧ (∀ k, S k → w.heap.size ≤ k) ∧ w.heap.size ≤ g ∧ Below w.heap.size w w' ∧ ∀ k, S k → ∃ es c, w'.heap[k]? = some (.map es c)
set_option maxHeartbeats 1600000 in
theorem dtnew_any (o : Option Addr) (w : World) : Calls Tryz.prog 9 #[.pointer o] w (NewPost (.pointer o) w) := by
  have HT := Lib.hid (trAt_new w (.pointer o))
  have hmm := @run_makeMap Tryz.prog
  go_enter Tryz.func9, Tryz.ntmps9
  go_wp2
  go_ret
  have h := HT.out
  refine ⟨_, _, rfl, h, fun k hk => ?_, by omega, (((Below.refl _ _).alloc (Nat.le_refl _) _).alloc (by simp) _).alloc (by simp; omega) _, fun k hk => ?_⟩
  · exact (trAt_isTr h k hk).2.1
  · rcases hk with rfl | rfl | ⟨p, hp⟩
    · obtain ⟨eb, bb, fe, F, nb, hS, _⟩ := h
      have b1 : Below (w.alloc (.map #[] 0)).heap.size (w.alloc (.map #[] 0)) ((w.alloc (.map #[] 0)).alloc (.map #[] 0)) := (Below.refl _ _).alloc (Nat.le_refl _) _
      have b2 : Below ((w.alloc (.map #[] 0)).alloc (.map #[] 0)).heap.size ((w.alloc (.map #[] 0)).alloc (.map #[] 0)) (((w.alloc (.map #[] 0)).alloc (.map #[] 0)).alloc (.cells #[.pointer o, .map (some w.heap.size), .map (some (w.heap.size + 1))] 69)) := (Below.refl _ _).alloc (Nat.le_refl _) _
      refine ⟨#[], 0, ?_⟩
      rw [b2.block _ (by simp; omega), b1.block _ (by simp)]
      exact heap_alloc_new w _
    · have b2 : Below ((w.alloc (.map #[] 0)).alloc (.map #[] 0)).heap.size ((w.alloc (.map #[] 0)).alloc (.map #[] 0)) (((w.alloc (.map #[] 0)).alloc (.map #[] 0)).alloc (.cells #[.pointer o, .map (some w.heap.size), .map (some (w.heap.size + 1))] 69)) := (Below.refl _ _).alloc (Nat.le_refl _) _
      refine ⟨#[], 0, ?_⟩
      rw [b2.block _ (by simp)]
      have := heap_alloc_new (w.alloc (.map #[] 0)) (.map #[] 0)
      rw [World.size_alloc] at this
      exact this
    · simp [Value.ownBlock] at hp
def CmpPost (a b : List UInt8) (w : World) (en : Ending) (w' : World) : Prop := ∃ n : Int, en = .returned (.int .i64 n) ∧ (n < 0 ↔ ltB a b = true) ∧ Below w.heap.size w w'
theorem dtcmp_any (l m t : List UInt8) (w : World) : Calls Tryz.prog 65 #[.agg #[.string ⟨l.toArray⟩, .string ⟨m.toArray⟩], .string ⟨t.toArray⟩] w (CmpPost l t w) := by
  have hcon := fun W' => Any.strings_Compare Tryz.strCmp ⟨l.toArray⟩ ⟨t.toArray⟩ W'
  change ∀ W', Calls Tryz.prog 66 #[.string ⟨l.toArray⟩, .string ⟨t.toArray⟩] W' (fun e w' => e = .returned (.int .i64 (Lib.compareBytes l t)) ∧ w' = W') at hcon
  have hlt := cb_lt l t
  generalize Lib.compareBytes l t = r at hcon hlt
  have HC := Lib.hid hcon
  have HL := Lib.hid hlt
  clear hcon hlt
  go_enter Tryz.func65, Tryz.ntmps65
  go_wp2_with (go_at_call 66; refine (HC.out _).mono ?_; rintro e w' ⟨rfl, rfl⟩)
  go_ret
  exact ⟨r, rfl, HL.out.trans ltB_iff2.symm, (Below.refl _ _).alloc (Nat.le_refl _) _⟩
def BinLo (K : List Av) (t : List UInt8) (i : Nat) : Prop := ∀ j (hj : j < K.length), j < i → ltB K[j].1 t = true
def BinHi (K : List Av) (t : List UInt8) (i : Nat) : Prop := ∀ j (hj : j < K.length), i ≤ j → ltB K[j].1 t = false
theorem bin_low {K : List Av} (hup : K.Pairwise (fun a b => ltB a.1 b.1 = true)) {t : List UInt8} {h : Nat} (hh : h < K.length) (hlt : ltB K[h].1 t = true) : BinLo K t (h + 1) := by
  intro j hj hjh
  by_cases e : j = h
  · subst e; exact hlt
  · exact ltB_trans (List.pairwise_iff_getElem.1 hup j h hj hh (by omega)) hlt
theorem bin_high {K : List Av} (hup : K.Pairwise (fun a b => ltB a.1 b.1 = true)) {t : List UInt8} {h : Nat} (hh : h < K.length) (hlt : ltB K[h].1 t = false) : BinHi K t h := by
  intro j hj hjh
  by_cases e : h = j
  · subst e; exact hlt
  · cases hq : ltB K[j].1 t
    · rfl
    · have := ltB_trans (List.pairwise_iff_getElem.1 hup h j hh hj (by omega)) hq
      rw [hlt] at this; cases this
def BinPost (K : List Av) (t : List UInt8) (w : World) (en : Ending) (w' : World) : Prop := ∃ (i : Nat) (b : Bool), en = .returned (.tuple #[.int .i64 (i : Nat), .bool b]) ∧ i ≤ K.length ∧ BinLo K t i ∧ BinHi K t i ∧ Below w.heap.size w w'
set_option maxHeartbeats 3200000 in
set_option maxRecDepth 100000 in
theorem dtbin_any (K : List Av) (t : List UInt8) (v : Value) (B : Nat) (w : World) (hr : w.ownsRow B 86 2 v K.length (avc K)) (hup : K.Pairwise (fun a b => ltB a.1 b.1 = true)) (hl : K.length ≤ 1000000) :
    Calls Tryz.prog 64 #[v, .string ⟨t.toArray⟩, .func (.func 65) #[] #[]] w (BinPost K t w) := by
  obtain ⟨va, vc, rfl⟩ := ownsRow_slice hr
  have HR := Lib.hid hr
  have HU := Lib.hid hup
  obtain ⟨n, hn⟩ : ∃ n, K.length = n := ⟨_, rfl⟩
  have HL := Lib.hid hn
  rw [hn] at hl ⊢
  clear hr hup hn
  have hcells : ∀ wr, Below w.heap.size w wr → ∀ i (hi : i < K.length), ∃ g, va = some ⟨g, 0, none⟩ ∧ wr.cell? ⟨g, i * 2, none⟩ = some (.string ⟨K[i].1.toArray⟩) ∧ wr.cell? ⟨g, i * 2 + 1, none⟩ = some (.string ⟨K[i].2.toArray⟩) := by
    intro wr hb i hi
    have hr := HR.out
    rcases hr.2 with ⟨e, h0⟩ | ⟨g, cap, cur, e, _, hg, _⟩
    · omega
    · injection e with e1 e2 e3
      subst e1
      obtain ⟨h1, h2⟩ := avc_at K i hi
      have hgl := obj_lt hg
      exact ⟨g, rfl, (hb.cell (p := ⟨g, i * 2, none⟩) hgl).trans ((hr.cellAt _ (by omega)).trans h1), (hb.cell (p := ⟨g, i * 2 + 1, none⟩) hgl).trans ((hr.cellAt _ (by omega)).trans h2)⟩
  have HCe := Lib.hid hcells
  clear hcells
  go_enter Tryz.func64, Tryz.ntmps64
  go_wp2
  go_loopw [9, 10] (fun vi vj wr => ∃ i j : Nat, vi = .int .i64 (i : Nat) ∧ vj = .int .i64 (j : Nat) ∧ i ≤ j ∧ j ≤ n ∧ BinLo K t i ∧ BinHi K t j ∧ Below w.heap.size w wr) (fun vi vj _ => (intOf vj).toNat - (intOf vi).toNat)
  case atStart => exact ⟨0, n, rfl, rfl, by omega, Nat.le_refl _, fun j hj h => by omega, fun j hj h => by have := HL.out; omega, Below.refl _ _⟩
  case round =>
    obtain ⟨i, j, rfl, rfl, hij, hjn, hlo, hhi, hb⟩ := hrel
    by_cases hlt : i < j
    · have hkl : (i : Int) < (j : Int) := by omega
      have hh1 : i ≤ (i + j) / 2 ∧ (i + j) / 2 < j := by omega
      have hhK : (i + j) / 2 < K.length := by rw [HL.out]; omega
      have hhn : ((i : Int) + (j : Int)) / 2 < (n : Int) := by omega
      obtain ⟨g, rfl, c0, c1⟩ := HCe.out wr hb ((i + j) / 2) hhK
      have hup1 := bin_low HU.out (t := t) hhK
      have hup2 := bin_high HU.out (t := t) hhK
      obtain ⟨⟨l, m⟩, hkl1⟩ : ∃ c, K[(i + j) / 2] = c := ⟨_, rfl⟩
      rw [hkl1] at c0 c1 hup1 hup2
      dsimp only at c0 c1 hup1 hup2
      have HC := Lib.hid (dtcmp_any l m t wr)
      have H := Lib.hid (And.intro hlo (And.intro hhi (And.intro hb (And.intro hup1 (And.intro hup2 hh1)))))
      clear hlo hhi hb hkl1 hup1 hup2
      go_wp2_with fail
      refine HC.out.mono ?_
      rintro e w5 ⟨q, rfl, hq, hb5⟩
      have H5 := Lib.hid (And.intro hq (H.out.2.2.1.trans (hb5.mono H.out.2.2.1.size)))
      clear hb5 hq c0 c1
      by_cases hq0 : q < 0
      · have HN := Lib.hid (H.out.2.2.2.1 (H5.out.1.1 hq0))
        go_wp2
        exact ⟨⟨(i + j) / 2 + 1, j, by go_num, rfl, by omega, hjn, HN.out, H.out.2.1, H5.out.2⟩, by simp [intOf]; omega⟩
      · have HN := Lib.hid (H.out.2.2.2.2.1 (by
          cases hx : ltB l t
          · rfl
          · exact absurd (H5.out.1.2 hx) hq0))
        go_wp2
        exact ⟨⟨i, (i + j) / 2, rfl, by go_num, by omega, by omega, H.out.1, HN.out, H5.out.2⟩, by simp [intOf]; omega⟩
    · obtain rfl : i = j := by omega
      by_cases hin : i < n
      · have hil : (i : Int) < (n : Int) := by omega
        have hiK : i < K.length := by rw [HL.out]; exact hin
        obtain ⟨g, rfl, c0, c1⟩ := HCe.out wr hb i hiK
        obtain ⟨⟨l, m⟩, hkl1⟩ : ∃ c, K[i] = c := ⟨_, rfl⟩
        rw [hkl1] at c0 c1
        dsimp only at c0 c1
        have HC := Lib.hid (dtcmp_any l m t wr)
        have H := Lib.hid (And.intro hlo (And.intro hhi hb))
        clear hlo hhi hb hkl1
        go_wp2_with fail
        refine HC.out.mono ?_
        rintro e w5 ⟨q, rfl, hq, hb5⟩
        have H5 := Lib.hid (H.out.2.2.trans (hb5.mono H.out.2.2.size))
        clear hb5 hq c0 c1
        obtain ⟨b, hb⟩ : ∃ b, (q == 0) = b := ⟨_, rfl⟩
        cases b
        · go_wp2
          go_ret2
          exact ⟨i, _, rfl, by rw [HL.out]; omega, H.out.1, H.out.2.1, H5.out⟩
        · go_wp2
          go_ret2
          exact ⟨i, _, rfl, by rw [HL.out]; omega, H.out.1, H.out.2.1, H5.out⟩
      · have hil : ¬ (i : Int) < (n : Int) := by omega
        have H := Lib.hid (And.intro hlo (And.intro hhi hb))
        clear hlo hhi hb
        go_wp2
        go_ret2
        exact ⟨i, _, rfl, by rw [HL.out]; omega, H.out.1, H.out.2.1, H.out.2.2⟩
end Go.Proofs.YtbmnpjkcomcboaaGreatDoor
