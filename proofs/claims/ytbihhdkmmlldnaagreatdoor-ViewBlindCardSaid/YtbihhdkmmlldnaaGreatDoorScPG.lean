/- Plain facts: names put one by one among rising ones; an entry as the document checks it. The document's names of all types, rising. -/
import Derived.Test.YtbihhdkmmlldnaaGreatDoorSnNT
import Derived.Test.YtbihhdkmmlldnaaGreatDoorSnUW
import Derived.Test.YtbihhdkmmlldnaaGreatDoorScAD
namespace Go.Proofs.YtbihhdkmmlldnaaGreatDoor
set_option linter.unusedSimpArgs false
set_option linter.unusedVariables false
open Go Go.Sort

/-- A name put among rising ones. -/
def insN (l : List (List UInt8)) (s : List UInt8) : List (List UInt8) := l.takeWhile (fun x => ltB x s) ++ s :: l.dropWhile (fun x => ltB x s)
/-- Names put one by one. -/
def namL (L : List (List UInt8)) : List (List UInt8) := L.foldl insN []
theorem ins_at {l : List (List UInt8)} {s : List UInt8} (k : Nat) (hk : k ≤ l.length) (h : ∀ j (hj : j < l.length), j < k → ltB l[j] s = true) (hs : ∀ hj : k < l.length, ltB l[k] s = false) : insN l s = l.take k ++ s :: l.drop k := by
  unfold insN
  induction l generalizing k with
  | nil => simp
  | cons x l ih =>
    cases k with
    | zero =>
      have := hs (by simp)
      simp only [List.getElem_cons_zero] at this
      simp [List.takeWhile, List.dropWhile, this]
    | succ k =>
      have h0 := h 0 (by simp) (by omega)
      simp only [List.getElem_cons_zero] at h0
      have := ih k (by simpa using hk) (fun j hj hjk => by have h2 := h (j + 1) (by simpa using hj) (by omega); rwa [List.getElem_cons_succ] at h2) (fun hj => by have h2 := hs (by simpa using hj); rwa [List.getElem_cons_succ] at h2)
      simp only [List.takeWhile, List.dropWhile, h0, List.take_succ_cons, List.drop_succ_cons, List.cons_append]
      rw [this]
theorem insN_perm (l : List (List UInt8)) (s : List UInt8) : (insN l s).Perm (s :: l) := by
  unfold insN
  refine List.perm_middle.trans ?_
  rw [List.takeWhile_append_dropWhile]
theorem insN_length (l : List (List UInt8)) (s : List UInt8) : (insN l s).length = l.length + 1 := by
  have := (insN_perm l s).length_eq
  simpa using this
theorem insN_rising (l : List (List UInt8)) (s : List UInt8) (h : l.Pairwise (fun a b => leB a b = true)) : (insN l s).Pairwise (fun a b => leB a b = true) := by
  induction l with
  | nil => simp [insN]
  | cons x l ih =>
    obtain ⟨h1, h2⟩ := List.pairwise_cons.1 h
    cases hx : ltB x s
    · have e : insN (x :: l) s = s :: x :: l := by simp [insN, List.takeWhile, List.dropWhile, hx]
      rw [e]
      have hsx : leB s x = true := by
        unfold ltB at hx
        simp only [leB, decide_eq_true_eq, decide_eq_false_iff_not] at hx ⊢
        exact List.not_lt.1 hx
      refine List.pairwise_cons.2 ⟨fun y hy => ?_, h⟩
      rcases List.mem_cons.1 hy with rfl | hy
      · exact hsx
      · have := h1 y hy
        simp only [leB, decide_eq_true_eq] at *
        exact List.le_trans hsx this
    · have e : insN (x :: l) s = x :: insN l s := by simp [insN, List.takeWhile, List.dropWhile, hx]
      rw [e]
      refine List.pairwise_cons.2 ⟨fun y hy => ?_, ih h2⟩
      rcases List.mem_cons.1 ((insN_perm l s).subset hy) with rfl | hy
      · unfold ltB at hx
        simp only [leB, decide_eq_true_eq] at hx ⊢
        exact List.le_of_lt hx
      · exact h1 y hy
theorem namL_snoc (L : List (List UInt8)) (s : List UInt8) : namL (L ++ [s]) = insN (namL L) s := by simp [namL]
theorem namL_facts (L : List (List UInt8)) : (namL L).Perm L ∧ (namL L).Pairwise (fun a b => leB a b = true) := by
  have gen : ∀ (L acc : List (List UInt8)), acc.Pairwise (fun a b => leB a b = true) → (L.foldl insN acc).Perm (acc ++ L) ∧ (L.foldl insN acc).Pairwise (fun a b => leB a b = true) := by
    intro L
    induction L with
    | nil => intro acc h; exact ⟨by simp, h⟩
    | cons s L ih =>
      intro acc h
      obtain ⟨h1, h2⟩ := ih (insN acc s) (insN_rising acc s h)
      refine ⟨h1.trans ?_, h2⟩
      refine ((insN_perm acc s).append_right L).trans ?_
      exact List.perm_middle.symm
  simpa [namL] using gen L [] List.Pairwise.nil
theorem namL_length (L : List (List UInt8)) : (namL L).length = L.length := (namL_facts L).1.length_eq
/-- Names put one by one are the names, rising. -/
theorem namL_ris (L : List (List UInt8)) : namL L = risL L := by
  obtain ⟨h1, h2⟩ := namL_facts L
  have h3 : (namL L).mergeSort leB = namL L := List.mergeSort_of_pairwise h2
  unfold risL
  rw [← h3]
  exact mergeSort_of_perm h1
/-! ### An entry, as the document checks it -/
/-- Values of a type, and whether something is wrong with them: the document. -/
def valS (T : List Ty) (A : List Atr) : Nat :=
  if tyAll T A = false then 17 else if (A.any fun a => a.2.length == 0) = true then 19 else if nmOk (A.map (tyG T)) A = false then 21 else 0
/-- Is something there twice? The document. -/
def onS (TL : List Ty) (A : List Atr) : Nat :=
  if ¬ (TL.map (·.1)).Nodup then 20 else if (nmG TL A).any dupL = true then 20 else if tmB TL (nmG TL A) = true then 19 else 0
theorem chkS_parts (T : List Ty) (C : List Cl) (A : List Atr) : chkS T C A = if valS T A ≠ 0 then valS T A else if onS (A.map (tyG T)) A ≠ 0 then onS (A.map (tyG T)) A else if fitB C ((A.map (tyG T)).map (·.1)) A = false then 65 else 0 := by
  unfold chkS valS onS
  repeat' split
  all_goals simp_all
end Go.Proofs.YtbihhdkmmlldnaaGreatDoor
namespace Go.Proofs.YtbihhdkmmlldnaaGreatDoor
set_option linter.unusedSimpArgs false
set_option linter.unusedVariables false
open Go Go.RowKit Go.Proofs.BerK Go.Proofs.MemK Go.Proofs.UtfK

theorem tw_lt {α : Type} (p : α → Bool) : ∀ (l : List α) (k : Nat) (h : k < (l.takeWhile p).length) (hk : k < l.length), p l[k] = true := by
  intro l
  induction l with
  | nil => intro k h hk; simp at hk
  | cons x l ih =>
    intro k h hk
    cases hx : p x
    · simp [List.takeWhile, hx] at h
    · cases k with
      | zero => simpa using hx
      | succ k =>
        simp only [List.takeWhile, hx, List.length_cons] at h
        simpa using ih k (by omega) (by simpa using hk)
theorem tw_le {α : Type} (p : α → Bool) (l : List α) : (l.takeWhile p).length ≤ l.length := by
  induction l with
  | nil => simp
  | cons x l ih => cases hx : p x <;> simp [List.takeWhile, hx]; exact ih
theorem tw_at {α : Type} (p : α → Bool) : ∀ (l : List α) (hk : (l.takeWhile p).length < l.length), p l[(l.takeWhile p).length] = false := by
  intro l
  induction l with
  | nil => intro h; simp at h
  | cons x l ih =>
    intro hk
    cases hx : p x
    · simp [List.takeWhile, hx]
    · have h2 : (l.takeWhile p).length < l.length := by simpa [List.takeWhile, hx] using hk
      have := ih h2
      simp only [List.takeWhile, hx, List.length_cons, List.getElem_cons_succ]
      exact this
theorem ins_k (l : List (List UInt8)) (s : List UInt8) : insN l s = l.take (l.takeWhile (fun x => ltB x s)).length ++ s :: l.drop (l.takeWhile (fun x => ltB x s)).length :=
  ins_at _ (tw_le _ _) (fun j hj h => tw_lt _ l j h hj) (fun h => tw_at _ l h)
theorem lt9_t {a b : List UInt8} (h : ltB a b = true) : Op.bytesLess a b = true := by rw [less_ltB]; exact h
theorem lt9_f {a b : List UInt8} (h : ltB a b = false) : Op.bytesLess a b = false := by rw [less_ltB]; exact h
theorem chg_nil9c {w w' : World} {n c : Nat} (h : Chg (fun k => some k = (Value.slice none n c).ownBlock) w w') : Below w.heap.size w w' := h.toBelow (Nat.le_refl _) (fun k _ hk => by cases hk)
theorem rd_take9 {w : World} {B : Nat} {e : TypeId} {g n cap : Nat} {O : List (List UInt8)} (h : w.ownsRow B e 1 (.slice (some ⟨g, 0, none⟩) n cap) n (sc O)) (k : Nat) (hk : k ≤ n) : RdRow w 1 (.slice (some ⟨g, 0, none⟩) k cap) k (sc (O.take k)) := by
  have := rdRow_take h k hk
  rw [Nat.mul_one] at this
  unfold sc at this ⊢
  rw [List.map_take]; exact this
theorem rd_drop9 {w : World} {B : Nat} {e : TypeId} {g n cap : Nat} {O : List (List UInt8)} (h : w.ownsRow B e 1 (.slice (some ⟨g, 0, none⟩) n cap) n (sc O)) (k c : Nat) (hk : k ≤ n) : RdRow w 1 (.slice (some ⟨g, k, none⟩) (n - k) c) (n - k) (sc (O.drop k)) := by
  have := rdRow_drop h k c hk
  rw [Nat.mul_one] at this
  unfold sc at this ⊢
  rw [List.map_drop]; exact this
theorem rd_all9 {w : World} {ad : Addr} {O : List (List UInt8)} (c k m : Nat) (hk : k = O.length) (hm : m = 0) : RdRow w 1 (.slice (some ad) m c) (O.length - k) (sc (O.drop k)) := by
  subst hk hm
  rw [List.drop_length, Nat.sub_self]
  exact ⟨by simp [sc], .inr ⟨_, _, rfl, fun j u hj => by simp [sc] at hj⟩⟩
def NamPost (L : List (List UInt8)) (w : World) (en : Ending) (w' : World) : Prop := ∃ a c, en = .returned (.slice a L.length c) ∧ TxR w' (.slice a L.length c) L ∧ Below w.heap.size w w'
end Go.Proofs.YtbihhdkmmlldnaaGreatDoor
