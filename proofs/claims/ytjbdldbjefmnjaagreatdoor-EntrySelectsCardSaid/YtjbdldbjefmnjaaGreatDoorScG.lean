/- The document's names of all types, rising. -/
import Derived.Test.YtjbdldbjefmnjaaGreatDoorScP
import Derived.Test.YtjbdldbjefmnjaaGreatDoorScAB
namespace Go.Proofs.YtjbdldbjefmnjaaGreatDoor
set_option linter.unusedSimpArgs false
set_option linter.unusedVariables false
open Go Go.RowKit Go.Proofs.BerK Go.Proofs.MemK Go.Proofs.UtfK

theorem tw_lt {α : Type} (p : α → Bool) : ∀ (l : List α) (k : Nat) (h : k < (l.takeWhile p).length) (hk : k < l.length), p l[k] = true := by
  intro l
  induction l with
  | nil => intro k h hk; simp at hk
  | cons x l ih =>
    intro k h hk
    cases hx : p x
    · simp [List.takeWhile, hx] at h
    · cases k with
      | zero => simpa using hx
      | succ k =>
        simp only [List.takeWhile, hx, List.length_cons] at h
        simpa using ih k (by omega) (by simpa using hk)
theorem tw_le {α : Type} (p : α → Bool) (l : List α) : (l.takeWhile p).length ≤ l.length := by
  induction l with
  | nil => simp
  | cons x l ih => cases hx : p x <;> simp [List.takeWhile, hx]; exact ih
theorem tw_at {α : Type} (p : α → Bool) : ∀ (l : List α) (hk : (l.takeWhile p).length < l.length), p l[(l.takeWhile p).length] = false := by
  intro l
  induction l with
  | nil => intro h; simp at h
  | cons x l ih =>
    intro hk
    cases hx : p x
    · simp [List.takeWhile, hx]
    · have h2 : (l.takeWhile p).length < l.length := by simpa [List.takeWhile, hx] using hk
      have := ih h2
      simp only [List.takeWhile, hx, List.length_cons, List.getElem_cons_succ]
      exact this
theorem ins_k (l : List (List UInt8)) (s : List UInt8) : insN l s = l.take (l.takeWhile (fun x => ltB x s)).length ++ s :: l.drop (l.takeWhile (fun x => ltB x s)).length :=
  ins_at _ (tw_le _ _) (fun j hj h => tw_lt _ l j h hj) (fun h => tw_at _ l h)
theorem lt9_t {a b : List UInt8} (h : ltB a b = true) : Op.bytesLess a b = true := by rw [less_ltB]; exact h
theorem lt9_f {a b : List UInt8} (h : ltB a b = false) : Op.bytesLess a b = false := by rw [less_ltB]; exact h
theorem chg_nil9c {w w' : World} {n c : Nat} (h : Chg (fun k => some k = (Value.slice none n c).ownBlock) w w') : Below w.heap.size w w' := h.toBelow (Nat.le_refl _) (fun k _ hk => by cases hk)
theorem rd_take9 {w : World} {B : Nat} {e : TypeId} {g n cap : Nat} {O : List (List UInt8)} (h : w.ownsRow B e 1 (.slice (some ⟨g, 0, none⟩) n cap) n (sc O)) (k : Nat) (hk : k ≤ n) : RdRow w 1 (.slice (some ⟨g, 0, none⟩) k cap) k (sc (O.take k)) := by
  have := rdRow_take h k hk
  rw [Nat.mul_one] at this
  unfold sc at this ⊢
  rw [List.map_take]; exact this
theorem rd_drop9 {w : World} {B : Nat} {e : TypeId} {g n cap : Nat} {O : List (List UInt8)} (h : w.ownsRow B e 1 (.slice (some ⟨g, 0, none⟩) n cap) n (sc O)) (k c : Nat) (hk : k ≤ n) : RdRow w 1 (.slice (some ⟨g, k, none⟩) (n - k) c) (n - k) (sc (O.drop k)) := by
  have := rdRow_drop h k c hk
  rw [Nat.mul_one] at this
  unfold sc at this ⊢
  rw [List.map_drop]; exact this
theorem rd_all9 {w : World} {ad : Addr} {O : List (List UInt8)} (c k m : Nat) (hk : k = O.length) (hm : m = 0) : RdRow w 1 (.slice (some ad) m c) (O.length - k) (sc (O.drop k)) := by
  subst hk hm
  rw [List.drop_length, Nat.sub_self]
  exact ⟨by simp [sc], .inr ⟨_, _, rfl, fun j u hj => by simp [sc] at hj⟩⟩
def NamPost (L : List (List UInt8)) (w : World) (en : Ending) (w' : World) : Prop := ∃ a c, en = .returned (.slice a L.length c) ∧ TxR w' (.slice a L.length c) L ∧ Below w.heap.size w w'
end Go.Proofs.YtjbdldbjefmnjaaGreatDoor
