/- Rows of rows of the call's own, over any program. -/
import Derived.Test.YtlopmppiihhnnaaGreatDoorDnK
namespace Go.Proofs.MemK
open Go Go.RowKit Go.Proofs.BerK

/-- Two values do not lie in one block. -/
def Apart (u v : Value) : Prop := ∀ k, u.ownBlock = some k → v.ownBlock ≠ some k
theorem Apart.symm {u v : Value} (h : Apart u v) : Apart v u := fun k h1 h2 => h k h2 h1
theorem apart_nil (u : Value) : Apart u (.slice none 0 0) := fun k _ h => by cases h
theorem apart_nil' (u : Value) : Apart (.slice none 0 0) u := fun k h _ => by cases h
/-- A row that lies where it lay, or anew, is apart from what was there. -/
theorem apart_new {w : World} {B : Nat} {e size n : Nat} {u v v' : Value} {xs : List Value} (h : Apart u v) (hu : w.ownsRow B e size u n xs) (hv : v'.ownBlock = v.ownBlock ∨ ∃ k, v'.ownBlock = some k ∧ w.heap.size ≤ k) : Apart u v' := by
  intro k h1 h2
  rcases hv with hv | ⟨q, hv, hq⟩
  · rw [hv] at h2; exact h k h1 h2
  · rw [hv] at h2; injection h2 with h2
    have := (hu.lt k h1).2
    omega
/-- Rows of texts, and a row of them. -/
def GridV (w : World) (B : Nat) (e2 e : TypeId) (v : Value) (vs : List Value) (ps : List (List (List UInt8))) : Prop :=
  vs.length = ps.length ∧ w.ownsRow B e2 1 v ps.length vs ∧ ∀ i (h : i < ps.length) (h' : i < vs.length), w.ownsRow B e 1 vs[i] ps[i].length (sc ps[i]) ∧ Apart vs[i] v
theorem gridV_nil (w : World) (B : Nat) (e2 e : TypeId) : GridV w B e2 e (.slice none 0 0) [] [] := ⟨rfl, World.ownsRow_nil _ _ _ _, fun i h => by simp at h⟩
theorem gridV_chg {S : Nat → Prop} {w w' : World} {B : Nat} {e2 e : TypeId} {v : Value} {vs : List Value} {ps : List (List (List UInt8))} (h : GridV w B e2 e v vs ps) (hc : Chg S w w')
    (hs : ∀ k, S k → v.ownBlock ≠ some k ∧ ∀ u ∈ vs, u.ownBlock ≠ some k) : GridV w' B e2 e v vs ps :=
  ⟨h.1, ownsRow_chg h.2.1 hc (fun k hk hS => (hs k hS).1 hk), fun i hi hi' => ⟨ownsRow_chg (h.2.2 i hi hi').1 hc (fun k hk hS => (hs k hS).2 _ (List.getElem_mem hi') hk), (h.2.2 i hi hi').2⟩⟩
theorem gridV_snoc {w w' : World} {B : Nat} {e2 e : TypeId} {v v' u : Value} {vs : List Value} {ps : List (List (List UInt8))} {p : List (List UInt8)} (h : GridV w B e2 e v vs ps) (hu : w.ownsRow B e 1 u p.length (sc p)) (hap : Apart u v)
    (hown : w'.ownsRow B e2 1 v' (ps.length + 1) (vs ++ [u])) (hc : Chg (fun k => some k = v.ownBlock) w w') (hv : v'.ownBlock = v.ownBlock ∨ ∃ k, v'.ownBlock = some k ∧ w.heap.size ≤ k) : GridV w' B e2 e v' (vs ++ [u]) (ps ++ [p]) := by
  refine ⟨by simp [h.1], by rw [List.length_append]; exact hown, fun i hi hi' => ?_⟩
  by_cases hlt : i < ps.length
  · have hlt' : i < vs.length := by rw [h.1]; exact hlt
    obtain ⟨h1, h2⟩ := h.2.2 i hlt hlt'
    rw [List.getElem_append_left hlt, List.getElem_append_left hlt']
    exact ⟨ownsRow_chg h1 hc (fun k hk hS => h2 k hk hS.symm), apart_new h2 h1 hv⟩
  · have hi2 : i = ps.length := by simp at hi; omega
    subst hi2
    have e1 : (ps ++ [p])[ps.length]'hi = p := by simp
    have e2 : (vs ++ [u])[ps.length]'hi' = u := by simp [← h.1]
    rw [e1, e2]
    exact ⟨ownsRow_chg hu hc (fun k hk hS => hap k hk hS.symm), apart_new hap hu hv⟩
theorem gridV_below {w w' : World} {B : Nat} {e2 e : TypeId} {v : Value} {vs : List Value} {ps : List (List (List UInt8))} (h : GridV w B e2 e v vs ps) (hb : Below w.heap.size w w') : GridV w' B e2 e v vs ps :=
  ⟨h.1, ownsRow_below h.2.1 hb, fun i hi hi' => ⟨ownsRow_below (h.2.2 i hi hi').1 hb, (h.2.2 i hi hi').2⟩⟩
end Go.Proofs.MemK
