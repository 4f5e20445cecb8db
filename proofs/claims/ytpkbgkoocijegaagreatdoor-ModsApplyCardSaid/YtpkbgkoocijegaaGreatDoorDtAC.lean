/- A map from texts to values of any form, in memory. A tree of entries in memory, and what its changes leave alone. A tree's small functions: has, Len, New; the closures over what stands right below a name. -/
import Derived.Test.YtpkbgkoocijegaaGreatDoorSnAL
import Derived.Test.YtpkbgkoocijegaaGreatDoorEnAB
import Derived.Maps.RangeWalk
import Derived.Test.YtpkbgkoocijegaaGreatDoorDtPN
import Derived.Test.YtpkbgkoocijegaaGreatDoorDqG
import Derived.Test.YtpkbgkoocijegaaGreatDoorGenB
import Derived.Test.YtpkbgkoocijegaaGreatDoorEnQT
import Derived.Test.YtpkbgkoocijegaaGreatDoorEnJN
import Derived.Carry
set_option linter.unusedVariables false
set_option linter.unusedSimpArgs false
set_option maxHeartbeats 25600000
set_option maxRecDepth 100000
namespace Go.Proofs.YtpkbgkoocijegaaGreatDoor
open Go Go.RowKit Go.Proofs.BerK Go.Proofs.MemK Go.Maps Go.WideMaps
theorem mv_lenSorted {H : Type} {P : Program} {k : TypeId} {R : Value -> Option (DataW H × List MemPlace)} {w : World} {b n : Nat} {D : DataW H} (h : w.ownsMap P k R b n D) : w.ownsMap P k R b (Maps.size D) D := by
 obtain ⟨es, clock, hb, F, hs, rfl⟩ := h
 exact ⟨es, clock, hb, F, by simp [Maps.size, length_sorted], rfl⟩
def anyE : Value -> Option (DataW Value × List MemPlace) := fun v => some (.held v, [])
def MvIs (D : DataW Value) (f : List UInt8 -> Option Value) : Prop :=
 (∀ s : List UInt8, Maps.has D (.string s) = (f s).isSome) /\ (∀ (s : List UInt8) (v : Value), f s = some v -> ∀ z, D.atKey (.string s) z = .held v) /\ ∀ kl, Maps.has D kl = true -> ∃ s : List UInt8, kl = .string s
def MvAt (w : World) (b : Nat) (f : List UInt8 -> Option Value) (n : Nat) : Prop :=
 ∃ D : DataW Value, w.ownsMap Tryz.prog 9 anyE b n D /\ MvIs D f /\ Maps.size D = n
theorem mvAt_new (w : World) : MvAt (w.alloc (.map #[] 0)) w.heap.size (fun _ => none) 0 := ⟨_, World.ownsMap_made _ _ _ _, ⟨fun _ => rfl, ⟨fun _ _ h => (by cases h), fun _ h => (by cases h)⟩⟩, rfl⟩
theorem mvAt_lt {w : World} {b n : Nat} {f : List UInt8 -> Option Value} (h : MvAt w b f n) : b < w.heap.size := by obtain ⟨D, h, _⟩ := h; exact h.lt
theorem mvAt_block {w w' : World} {b n : Nat} {f : List UInt8 -> Option Value} (h : MvAt w b f n) (hb : w'.heap[b]? = w.heap[b]?) : MvAt w' b f n := by
 obtain ⟨D, ⟨es, clock, hq, F, hs', hD⟩, hN⟩ := h
 exact ⟨D, ⟨es, clock, hb.trans hq, F, hs', hD⟩, hN⟩
theorem mvAt_chg {S : Nat -> Prop} {w w' : World} {b n : Nat} {f : List UInt8 -> Option Value} (h : MvAt w b f n) (hc : Chg S w w') (hs : ¬ S b) : MvAt w' b f n := mvAt_block h (hc.block b (mvAt_lt h) hs)
theorem held_inj {a b : Value} (h : (DataW.held a : DataW Value) = .held b) : a = b := by cases h; rfl
theorem mv_at {D : DataW Value} {f : List UInt8 -> Option Value} (h : MvIs D f) (s : List UInt8) (z : Value) : D.atKey (.string s) (.held z) = .held ((f s).getD z) := by
 cases hq : f s with
 | some v => rw [h.2.1 s v hq]; rfl
 | none =>
  have := h.1 s
  rw [hq] at this
  rw [atKey_of_not_has this]; rfl
theorem mv_look {w : World} {b n : Nat} {f : List UInt8 -> Option Value} (h : MvAt w b f n) {t e : TypeId} (ht : Tryz.prog.underlying t = some (.map 9 e)) {z : Value} (hz : (zeroValue e).run Tryz.prog w = .ok z w) (s : List UInt8) (hs : s.length <= 140737488355328) :
  (Instr.lookup t (.map (some b)) (.string ⟨s.toArray⟩) true).run Tryz.prog w = .ok (.tuple #[(f s).getD z, .bool (f s).isSome]) w := by
 obtain ⟨D, hm, hD, _⟩ := h
 obtain ⟨v, ps, hrun, hv⟩ := hm.look_ok snlaw ht hz (show anyE z = some (.held z, []) from rfl) (snkey s hs)
 rw [hrun]
 have e1 : (DataW.held v : DataW Value) = D.atKey (.string s) (.held z) := congrArg Prod.fst (Option.some.inj hv)
 rw [mv_at hD] at e1
 rw [held_inj e1, hD.1]
theorem mv_look1 {w : World} {b n : Nat} {f : List UInt8 -> Option Value} (h : MvAt w b f n) {t e : TypeId} (ht : Tryz.prog.underlying t = some (.map 9 e)) {z : Value} (hz : (zeroValue e).run Tryz.prog w = .ok z w) (s : List UInt8) (hs : s.length <= 140737488355328) :
  (Instr.lookup t (.map (some b)) (.string ⟨s.toArray⟩) false).run Tryz.prog w = .ok ((f s).getD z) w := by
 obtain ⟨D, hm, hD, _⟩ := h
 obtain ⟨v, ps, hrun, hv⟩ := hm.lookup snlaw ht hz (show anyE z = some (.held z, []) from rfl) (snkey s hs)
 rw [hrun]
 have e1 : (DataW.held v : DataW Value) = D.atKey (.string s) (.held z) := congrArg Prod.fst (Option.some.inj hv)
 rw [mv_at hD] at e1
 rw [held_inj e1]
def upF (f : List UInt8 -> Option Value) (s : List UInt8) (o : Option Value) : List UInt8 -> Option Value := fun t => if t = s then o else f t
theorem mvIs_put {D : DataW Value} {f : List UInt8 -> Option Value} (hT : Tidy D) (h : MvIs D f) (s : List UInt8) (v : Value) : MvIs (D.put (.string s) (.held v)) (upF f s (some v)) := by
 refine ⟨fun t => ?_, fun t u hu z => ?_, fun kl hk => ?_⟩
 ·unfold upF
  by_cases e : t = s
  ·subst e; rw [has_put_same hT.isMap snIsKey, if_pos rfl]; rfl
  ·rw [has_put_other (fun q => e (by injection q)), if_neg e, h.1]
 ·unfold upF at hu
  by_cases e : t = s
  ·subst e
   rw [if_pos rfl] at hu
   rw [atKey_put_same hT.isMap snIsKey, Option.some.inj hu]
  ·rw [if_neg e] at hu
   rw [atKey_put_other (fun q => e (by injection q)), h.2.1 t u hu]
 ·by_cases e : kl = .string s
  ·exact ⟨s, e⟩
  ·rw [has_put_other e] at hk
   exact h.2.2 kl hk
def NPut (f : List UInt8 -> Option Value) (s : List UInt8) (n n' : Nat) : Prop := n' = if (f s).isSome then n else n + 1
theorem wpList_mvPut {w : World} {ops : Array Oper} {rest : List Oper} {o : Oper} {a : Act} {Q : Exit -> Act -> World -> Prop}
  (hg : o.guard = none) (m x v : Operand) (t e : TypeId) (hop : o.op = Op.mapUpdate t m x v) (ht : Tryz.prog.underlying t = some (.map 9 e)) (b n : Nat) (f : List UInt8 -> Option Value)
  (hm : a.eval m = .map (some b)) (h : MvAt w b f n) (hn : n < maxLen) (s : List UInt8) (val : Value) (hx : a.eval x = .string ⟨s.toArray⟩) (hv : a.eval v = val) (hs : s.length <= 140737488355328)
  (hK : ∀ w' n', MvAt w' b (upF f s (some val)) n' -> NPut f s n n' -> w.mapTurned w' b -> wpList Tryz.prog ops Q rest (a.put o.dst undef) w') :
  wpList Tryz.prog ops Q (o :: rest) a w := by
 obtain ⟨D, hown, hD, hsz⟩ := h
 refine wpList_mapUpdate_in w hg m x v t hop 9 e snlaw ht anyE b n D hm hown hn _ val (.string s) hx hv (snkey s hs) (.held val) [] rfl ?_
 intro w' h1 h2
 refine hK w' _ ⟨_, ?_, mvIs_put (hown.tidy snlaw) hD s val, ?_⟩ rfl h2
 ·have h3 := mv_lenSorted h1
  rw [size_put (hown.tidy snlaw), hD.1, hsz] at h3
  exact h3
 ·rw [size_put (hown.tidy snlaw), hD.1, hsz]
theorem chg_turned {w w' : World} {b : Nat} (h : w.mapTurned w' b) : Chg (fun k => k = b) w w' := by
 have g := h.grown
 exact ⟨g.os, g.tape, g.output, g.size, fun k hk hn => g.block k hk (fun e => hn (by injection e))⟩
def Off (S : Nat -> Prop) (w : World) (P : World -> Prop) : Prop := ∀ w', Chg S w w' -> P w'
theorem Off.step {S S' : Nat -> Prop} {w w1 : World} {P : World -> Prop} (h : Off S w P) (hc : Chg S w w1) (hs : ∀ k, S' k -> S k \/ w.heap.size <= k) : Off S' w1 P := fun w2 h2 =>
 h w2 (hc.trans h2 (fun i hi ht => by
  rcases hs i ht with k | k
  ·exact k
  ·omega))
theorem Off.keep {S : Nat -> Prop} {w w1 : World} {P : World -> Prop} (h : Off S w P) (hc : Chg S w w1) : Off S w1 P := h.step hc (fun k hk => .inl hk)
theorem Off.below {S : Nat -> Prop} {w w1 : World} {P : World -> Prop} (h : Off S w P) (hc : Below w.heap.size w w1) : Off S w1 P := h.keep (Chg.ofBelow hc)
theorem Off.and {S : Nat -> Prop} {w : World} {P Q : World -> Prop} (h : Off S w P) (h2 : Off S w Q) : Off S w (fun w => P w /\ Q w) := fun w' hc => ⟨h w' hc, h2 w' hc⟩
theorem Off.imp {S : Nat -> Prop} {w : World} {P Q : World -> Prop} (h : Off S w P) (h2 : ∀ w, P w -> Q w) : Off S w Q := fun w' hc => h2 w' (h w' hc)
end Go.Proofs.YtpkbgkoocijegaaGreatDoor
