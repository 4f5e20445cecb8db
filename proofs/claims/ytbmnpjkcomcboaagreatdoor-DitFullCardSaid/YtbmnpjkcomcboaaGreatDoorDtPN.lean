/- Plain facts on trees of names: paths from the root, in order; all below one, each with all below it ahead of the next one. Plain facts on trees of entries: which there are, in order, behind one that is put, and behind one that is gone. Plain facts on trees of entries: an entry put, an entry gone; what stands right below a name; the codes. -/
import Derived.Test.YtbmnpjkcomcboaaGreatDoorPlnA
import Derived.Test.YtbmnpjkcomcboaaGreatDoorPlMN
import Derived.Test.YtbmnpjkcomcboaaGreatDoorPlEF
import Derived.Test.YtbmnpjkcomcboaaGreatDoorEnMP
import Derived.Test.YtbmnpjkcomcboaaGreatDoorSnNT
import Derived.Test.YtbmnpjkcomcboaaGreatDoorEnCE
namespace Go.Proofs.YtbmnpjkcomcboaaGreatDoor
set_option linter.unusedSimpArgs false
set_option linter.unusedVariables false
open Go

abbrev Pa := List (List UInt8)
def ltP : Pa → Pa → Bool
  | [], [] => false
  | [], _ :: _ => true
  | _ :: _, [] => false
  | p :: x, q :: y => if p = q then ltP x y else ltB p q
theorem ltP_irrefl : ∀ x : Pa, ltP x x = false
  | [] => rfl
  | p :: x => by rw [ltP, if_pos rfl]; exact ltP_irrefl x
theorem ltP_trans : ∀ {x y z : Pa}, ltP x y = true → ltP y z = true → ltP x z = true
  | [], [], _, h, _ => by simp [ltP] at h
  | [], _ :: _, [], _, h => by simp [ltP] at h
  | [], _ :: _, _ :: _, _, _ => rfl
  | _ :: _, [], _, h, _ => by simp [ltP] at h
  | _ :: _, _ :: _, [], _, h => by simp [ltP] at h
  | p :: x, q :: y, r :: z, h, k => by
    rw [ltP] at h k ⊢
    by_cases h1 : p = q
    · subst h1
      rw [if_pos rfl] at h
      by_cases h2 : p = r
      · rw [if_pos h2] at k ⊢; exact ltP_trans h k
      · rw [if_neg h2] at k ⊢; exact k
    · rw [if_neg h1] at h
      by_cases h2 : q = r
      · subst h2
        rw [if_neg h1]; exact h
      · rw [if_neg h2] at k
        have hb := ltB_trans h k
        have h3 : p ≠ r := by rintro rfl; rw [ltB_irrefl] at hb; cases hb
        rw [if_neg h3]; exact hb
theorem ltP_total : ∀ (x y : Pa), x ≠ y → ltP x y = true ∨ ltP y x = true
  | [], [], h => absurd rfl h
  | [], _ :: _, _ => .inl rfl
  | _ :: _, [], _ => .inr rfl
  | p :: x, q :: y, h => by
    by_cases h1 : p = q
    · subst h1
      rw [ltP, ltP, if_pos rfl, if_pos rfl]
      exact ltP_total x y (fun e => h (by rw [e]))
    · rw [ltP, ltP, if_neg h1, if_neg (Ne.symm h1)]
      exact ltB_total p q h1
theorem ltP_asymm {x y : Pa} (h : ltP x y = true) : ltP y x = false := by
  cases h2 : ltP y x
  · rfl
  · have := ltP_trans h h2
    rw [ltP_irrefl] at this; cases this
theorem ltP_app (q : Pa) : ∀ (x y : Pa), ltP (q ++ x) (q ++ y) = ltP x y := by
  intro x y
  induction q with
  | nil => rfl
  | cons p q ih => rw [List.cons_append, List.cons_append, ltP, if_pos rfl]; exact ih
theorem ltP_pre (q : Pa) (a : List UInt8) (r : Pa) : ltP q (q ++ a :: r) = true := by
  have := ltP_app q [] (a :: r)
  rw [List.append_nil] at this
  rw [this]; rfl
theorem ltP_sib (q : Pa) (a b : List UInt8) : ltP (q ++ [a]) (q ++ [b]) = ltB a b := by
  rw [ltP_app, ltP]
  split
  · rename_i h; subst h; rw [ltB_irrefl]; rfl
  · rfl
theorem ltP_under (q : Pa) {a b : List UInt8} (h : ltB a b = true) (u v : Pa) : ltP (q ++ [a] ++ u) (q ++ [b] ++ v) = true := by
  rw [List.append_assoc, List.append_assoc, ltP_app]
  show ltP (a :: u) (b :: v) = true
  have hne : a ≠ b := by rintro rfl; rw [ltB_irrefl] at h; cases h
  rw [ltP, if_neg hne]; exact h

theorem eq_of_rising : ∀ {A B : List Pa}, A.Pairwise (fun x y => ltP x y = true) → B.Pairwise (fun x y => ltP x y = true) → (∀ x, x ∈ A ↔ x ∈ B) → A = B
  | [], [], _, _, _ => rfl
  | [], b :: B, _, _, h => by have := (h b).2 (by simp); simp at this
  | a :: A, [], _, _, h => by have := (h a).1 (by simp); simp at this
  | a :: A, b :: B, h1, h2, h => by
    obtain ⟨p1, p2⟩ := List.pairwise_cons.1 h1
    obtain ⟨q1, q2⟩ := List.pairwise_cons.1 h2
    have e : a = b := by
      rcases List.mem_cons.1 ((h a).1 (by simp)) with e | e
      · exact e
      · rcases List.mem_cons.1 ((h b).2 (by simp)) with e2 | e2
        · exact e2.symm
        · have := ltP_trans (p1 _ e2) (q1 _ e)
          rw [ltP_irrefl] at this; cases this
    subst e
    rw [eq_of_rising p2 q2 (fun x => ?_)]
    constructor
    · intro hx
      rcases List.mem_cons.1 ((h x).1 (List.mem_cons_of_mem _ hx)) with e | e
      · subst e
        have := p1 _ hx; rw [ltP_irrefl] at this; cases this
      · exact e
    · intro hx
      rcases List.mem_cons.1 ((h x).2 (List.mem_cons_of_mem _ hx)) with e | e
      · subst e
        have := q1 _ hx; rw [ltP_irrefl] at this; cases this
      · exact e

def kidsP (P : List Pa) (q : Pa) : List Pa := P.filter fun x => decide (x ≠ [] ∧ x.dropLast = q)
def walkP : Nat → List Pa → Pa → List Pa
  | 0, _, _ => []
  | n + 1, P, q => (kidsP P q).flatMap fun x => x :: walkP n P x
theorem kids_iff {P : List Pa} {q x : Pa} : x ∈ kidsP P q ↔ x ∈ P ∧ ∃ a, x = q ++ [a] := by
  unfold kidsP
  rw [List.mem_filter, decide_eq_true_eq]
  constructor
  · rintro ⟨h1, h2, h3⟩
    exact ⟨h1, x.getLast h2, by rw [← h3, List.dropLast_concat_getLast]⟩
  · rintro ⟨h1, a, rfl⟩
    exact ⟨h1, by simp, by simp⟩
structure TreeP (P : List Pa) : Prop where
  up : P.Pairwise (fun x y => ltP x y = true)
  ne : ∀ x ∈ P, x ≠ []
  above : ∀ x ∈ P, x.dropLast = [] ∨ x.dropLast ∈ P
  deep : ∀ x ∈ P, x.length ≤ 32
theorem TreeP.closed {P : List Pa} (h : TreeP P) : ∀ (n : Nat) (x : Pa) (u : Pa), u.length ≤ n → x ++ u ∈ P → x ≠ [] → x ∈ P := by
  intro n
  induction n with
  | zero =>
    intro x u hu hx hne
    obtain rfl : u = [] := List.eq_nil_of_length_eq_zero (by omega)
    simpa using hx
  | succ n ih =>
    intro x u hu hx hne
    by_cases h0 : u = []
    · subst h0; simpa using hx
    · have hd : (x ++ u).dropLast = x ++ u.dropLast := by rw [List.dropLast_append_of_ne_nil h0]
      have := h.above _ hx
      rw [hd] at this
      rcases this with h1 | h1
      · simp at h1; exact absurd h1.1 hne
      · exact ih x u.dropLast (by rw [List.length_dropLast]; omega) h1 hne
theorem walk_mem {P : List Pa} (h : TreeP P) : ∀ (n : Nat) (q x : Pa), 32 ≤ q.length + n → (x ∈ walkP n P q ↔ x ∈ P ∧ ∃ a r, x = q ++ a :: r) := by
  intro n
  induction n with
  | zero =>
    intro q x hn
    rw [walkP]
    constructor
    · intro h; simp at h
    · rintro ⟨h1, a, r, rfl⟩
      have := h.deep _ h1
      simp at this; omega
  | succ n ih =>
    intro q x hn
    rw [walkP, List.mem_flatMap]
    constructor
    · rintro ⟨c, hc, hx⟩
      obtain ⟨hcP, a, rfl⟩ := kids_iff.1 hc
      rcases List.mem_cons.1 hx with rfl | hx
      · exact ⟨hcP, a, [], rfl⟩
      · obtain ⟨h1, b, r, rfl⟩ := (ih _ _ (by simp; omega)).1 hx
        exact ⟨h1, a, b :: r, by simp⟩
    · rintro ⟨h1, a, r, rfl⟩
      have hc : q ++ [a] ∈ P := h.closed r.length (q ++ [a]) r (Nat.le_refl _) (by simpa using h1) (by simp)
      refine ⟨q ++ [a], kids_iff.2 ⟨hc, a, rfl⟩, ?_⟩
      cases r with
      | nil => simp
      | cons b r => exact List.mem_cons_of_mem _ ((ih _ _ (by simp; omega)).2 ⟨h1, b, r, by simp⟩)
theorem walk_form {P : List Pa} : ∀ (n : Nat) (q x : Pa), x ∈ walkP n P q → ∃ a r, x = q ++ a :: r := by
  intro n
  induction n with
  | zero => intro q x h; simp [walkP] at h
  | succ n ih =>
    intro q x h
    rw [walkP, List.mem_flatMap] at h
    obtain ⟨c, hc, hx⟩ := h
    obtain ⟨_, a, rfl⟩ := kids_iff.1 hc
    rcases List.mem_cons.1 hx with rfl | hx
    · exact ⟨a, [], rfl⟩
    · obtain ⟨b, r, rfl⟩ := ih _ _ hx
      exact ⟨a, b :: r, by simp⟩
theorem walk_up {P : List Pa} (h : TreeP P) : ∀ (n : Nat) (q : Pa), (walkP n P q).Pairwise (fun x y => ltP x y = true) := by
  intro n
  induction n with
  | zero => intro q; exact .nil
  | succ n ih =>
    intro q
    rw [walkP, List.flatMap, List.pairwise_flatten]
    constructor
    · intro l hl
      obtain ⟨c, hc, rfl⟩ := List.mem_map.1 hl
      refine List.pairwise_cons.2 ⟨fun y hy => ?_, ih c⟩
      obtain ⟨a, r, rfl⟩ := walk_form _ _ _ hy
      exact ltP_pre _ _ _
    · rw [List.pairwise_map]
      refine List.Pairwise.imp_of_mem ?_ (h.up.filter _)
      intro c d hc hd hcd x hx y hy
      obtain ⟨_, a, rfl⟩ := kids_iff.1 hc
      obtain ⟨_, b, rfl⟩ := kids_iff.1 hd
      rw [ltP_sib] at hcd
      have ex : ∃ u, x = q ++ [a] ++ u := by
        rcases List.mem_cons.1 hx with rfl | hx
        · exact ⟨[], by simp⟩
        · obtain ⟨a2, r, rfl⟩ := walk_form _ _ _ hx; exact ⟨_, rfl⟩
      have ey : ∃ v, y = q ++ [b] ++ v := by
        rcases List.mem_cons.1 hy with rfl | hy
        · exact ⟨[], by simp⟩
        · obtain ⟨a2, r, rfl⟩ := walk_form _ _ _ hy; exact ⟨_, rfl⟩
      obtain ⟨u, rfl⟩ := ex
      obtain ⟨v, rfl⟩ := ey
      exact ltP_under q hcd u v
def belP (q x : Pa) : Bool := q.isPrefixOf x && decide (x ≠ q)
theorem bel_iff {q x : Pa} : belP q x = true ↔ ∃ a r, x = q ++ a :: r := by
  unfold belP
  rw [Bool.and_eq_true, List.isPrefixOf_iff_prefix, decide_eq_true_eq]
  constructor
  · rintro ⟨⟨u, rfl⟩, h2⟩
    cases u with
    | nil => simp at h2
    | cons a r => exact ⟨a, r, rfl⟩
  · rintro ⟨a, r, rfl⟩
    exact ⟨⟨_, rfl⟩, by simp⟩
theorem walk_is {P : List Pa} (h : TreeP P) (n : Nat) (q : Pa) (hn : 32 ≤ q.length + n) : walkP n P q = P.filter (belP q) := by
  refine eq_of_rising (walk_up h n q) (h.up.filter _) (fun x => ?_)
  rw [walk_mem h n q x hn, List.mem_filter, bel_iff]
end Go.Proofs.YtbmnpjkcomcboaaGreatDoor
namespace Go.Proofs.YtbmnpjkcomcboaaGreatDoor
set_option linter.unusedSimpArgs false
set_option linter.unusedVariables false
open Go Go.RowKit Go.Proofs.BerK Go.Proofs.MemK Go.Proofs.UtfK

abbrev Ent := List UInt8 × List Atr
def paL (s : List UInt8) : Pa := ((psO s).getD []).reverse
theorem pa_some {s : List UInt8} {D : List (List Av)} (h : nrD s = some D) : paL s = (D.map ptL).reverse := by
  unfold paL psO; rw [h]; rfl
theorem nr_nil : nrD [] = some [] := by have := nr_nm gd_nil; rwa [nm_nil] at this
theorem pa_nil : paL [] = [] := by rw [pa_some nr_nil]; rfl
theorem pt_inj {r q : List Av} (h1 : GD [r]) (h2 : GD [q]) (h : ptL r = ptL q) : r = q := by
  have := nm_inj h1 h2 (by rw [nm_one, nm_one, h])
  simpa using this
theorem pts_inj : ∀ {D E : List (List Av)}, GD D → GD E → D.map ptL = E.map ptL → D = E
  | [], [], _, _, _ => rfl
  | [], _ :: _, _, _, h => by simp at h
  | _ :: _, [], _, _, h => by simp at h
  | r :: D, q :: E, h1, h2, h => by
    rw [List.map_cons, List.map_cons, List.cons.injEq] at h
    obtain ⟨a1, a2⟩ := gd_cons h1
    obtain ⟨b1, b2⟩ := gd_cons h2
    rw [pt_inj a1 b1 h.1, pts_inj a2 b2 h.2]
theorem pa_inj {s t : List UInt8} {D E : List (List Av)} (h1 : nrD s = some D) (h2 : nrD t = some E) (h : paL s = paL t) : s = t := by
  rw [pa_some h1, pa_some h2] at h
  have h := List.reverse_inj.1 h
  have := pts_inj (nr_some h1).2 (nr_some h2).2 h
  rw [(nr_some h1).1, (nr_some h2).1, this]
def Nm (s : List UInt8) : Prop := ∃ r D, nrD s = some (r :: D)
theorem nm_some {s : List UInt8} (h : Nm s) : ∃ D, nrD s = some D := by obtain ⟨r, D, h⟩ := h; exact ⟨_, h⟩
theorem nm_nil_not : ¬ Nm [] := by rintro ⟨r, D, h⟩; rw [nr_nil] at h; cases h
theorem nm_par {s : List UInt8} (h : Nm s) : ∃ p l, parL s = (p, true) ∧ leafL s = (l, true) ∧ paL s = paL p ++ [l] ∧ ∃ D, nrD p = some D := by
  obtain ⟨r, D, h⟩ := h
  have hg := (gd_cons (nr_some h).2).2
  refine ⟨nmL D, ptL r, par_cons h, leaf_cons h, ?_, D, nr_nm hg⟩
  rw [pa_some h, pa_some (nr_nm hg)]; simp
theorem nm_pa_ne {s : List UInt8} (h : Nm s) : paL s ≠ [] := by
  obtain ⟨p, l, _, _, e, _⟩ := nm_par h
  rw [e]; simp
theorem nm_deep {s : List UInt8} (h : Nm s) : (paL s).length ≤ 32 := by
  obtain ⟨D, h⟩ := nm_some h
  rw [pa_some h]; simpa using (nr_some h).2.1
theorem und_pa {s b : List UInt8} {D E : List (List Av)} (h1 : nrD s = some D) (h2 : nrD b = some E) : undL s b = true ↔ ∃ u, paL s = paL b ++ u := by
  constructor
  · intro h
    obtain ⟨P, E', a1, a2⟩ := und_some h
    rw [h2] at a2
    obtain rfl := Option.some.inj a2
    exact ⟨(P.map ptL).reverse, by rw [pa_some a1, pa_some h2]; simp⟩
  · rintro ⟨u, hu⟩
    rw [pa_some h1, pa_some h2] at hu
    have hu : D.map ptL = u.reverse ++ E.map ptL := by
      have := congrArg List.reverse hu
      simpa using this
    have hl : E.length ≤ D.length := by have := congrArg List.length hu; simp at this; omega
    have e : D = D.take (D.length - E.length) ++ D.drop (D.length - E.length) := (List.take_append_drop _ _).symm
    have hd : (D.drop (D.length - E.length)).map ptL = E.map ptL := by
      rw [List.map_drop, hu]
      have : (u.reverse : List (List UInt8)).length = D.length - E.length := by have := congrArg List.length hu; simp at this ⊢; omega
      rw [← this, List.drop_left]
    have hg := (nr_some h1).2
    rw [e] at hg
    have hE := pts_inj (gd_sub hg).2 (nr_some h2).2 hd
    rw [hE] at e
    rw [e] at h1
    exact und_of h1 h2
theorem und_nil {s : List UInt8} {D : List (List Av)} (h : nrD s = some D) : undL s [] = true := (und_pa h nr_nil).2 ⟨paL s, by rw [pa_nil]; rfl⟩
theorem und_self {s : List UInt8} {D : List (List Av)} (h : nrD s = some D) : undL s s = true := (und_pa h h).2 ⟨[], by simp⟩
def bfN (a b : List UInt8) : Bool := ltP (paL a) (paL b)
structure TrL (L : List Ent) : Prop where
  up : L.Pairwise (fun a b => bfN a.1 b.1 = true)
  nm : ∀ e ∈ L, Nm e.1
  above : ∀ e ∈ L, (parL e.1).1 = [] ∨ ∃ x ∈ L, x.1 = (parL e.1).1
theorem trL_nil : TrL [] := ⟨.nil, by simp, by simp⟩
theorem TrL.tree {L : List Ent} (h : TrL L) : TreeP (L.map fun e => paL e.1) := by
  refine ⟨?_, ?_, ?_, ?_⟩
  · rw [List.pairwise_map]; exact h.up
  · intro x hx
    obtain ⟨e, he, rfl⟩ := List.mem_map.1 hx
    exact nm_pa_ne (h.nm e he)
  · intro x hx
    obtain ⟨e, he, rfl⟩ := List.mem_map.1 hx
    obtain ⟨p, l, h1, h2, h3, _⟩ := nm_par (h.nm e he)
    have ha := h.above e he
    rw [h1] at ha
    rw [h3, List.dropLast_concat]
    rcases ha with ha | ⟨x, hx, ha⟩
    · left; simp only at ha; rw [ha, pa_nil]
    · right
      simp only at ha
      exact List.mem_map.2 ⟨x, hx, by rw [ha]⟩
  · intro x hx
    obtain ⟨e, he, rfl⟩ := List.mem_map.1 hx
    exact nm_deep (h.nm e he)
def isKid (p : List UInt8) (e : Ent) : Bool := decide (parL e.1 = (p, true))
def kidE (e : Ent) : List UInt8 × List UInt8 := ((leafL e.1).1, e.1)
def kidN (L : List Ent) (p : List UInt8) : List (List UInt8 × List UInt8) := (L.filter (isKid p)).map kidE
def walkN : Nat → List Ent → List UInt8 → List (List UInt8)
  | 0, _, _ => []
  | n + 1, L, p => (kidN L p).flatMap fun c => c.2 :: walkN n L c.2
theorem walkN_succ (n : Nat) (L : List Ent) (p : List UInt8) : walkN (n + 1) L p = (kidN L p).flatMap fun c => c.2 :: walkN n L c.2 := rfl
theorem kid_pa {L : List Ent} (h : ∀ e ∈ L, Nm e.1) {p : List UInt8} {D : List (List Av)} (hp : nrD p = some D) : (kidN L p).map (fun c => paL c.2) = kidsP (L.map fun e => paL e.1) (paL p) := by
  unfold kidN kidsP
  rw [List.map_map, List.filter_map]
  show (L.filter (isKid p)).map (fun e => paL e.1) = _
  congr 1
  refine List.filter_congr fun e he => ?_
  obtain ⟨q, l, h1, h2, h3, E, h4⟩ := nm_par (h e he)
  unfold isKid
  simp only [Function.comp]
  rw [Bool.eq_iff_iff, decide_eq_true_eq, decide_eq_true_eq, h1, h3, List.dropLast_concat]
  constructor
  · intro h5
    obtain ⟨rfl, _⟩ := Prod.mk.inj h5
    exact ⟨by simp, rfl⟩
  · rintro ⟨_, h5⟩
    rw [pa_inj h4 hp h5]
theorem walk_pa {L : List Ent} (h : ∀ e ∈ L, Nm e.1) : ∀ (n : Nat) (p : List UInt8) (D : List (List Av)), nrD p = some D → (walkN n L p).map paL = walkP n (L.map fun e => paL e.1) (paL p) := by
  intro n
  induction n with
  | zero => intro p D hp; rfl
  | succ n ih =>
    intro p D hp
    rw [walkN_succ, walkP, ← kid_pa h hp, List.map_flatMap, List.flatMap_map]
    unfold List.flatMap
    congr 1
    refine List.map_congr_left fun c hc => ?_
    obtain ⟨e, he, rfl⟩ := List.mem_map.1 hc
    have he := (List.mem_filter.1 he).1
    obtain ⟨E, hE⟩ := nm_some (h e he)
    show paL e.1 :: (walkN n L e.1).map paL = _
    rw [ih e.1 E hE]; rfl
theorem walkN_mem {L : List Ent} : ∀ (n : Nat) (p s : List UInt8), s ∈ walkN n L p → ∃ e ∈ L, e.1 = s := by
  intro n
  induction n with
  | zero => intro p s h; simp [walkN] at h
  | succ n ih =>
    intro p s h
    rw [walkN_succ, List.mem_flatMap] at h
    obtain ⟨c, hc, hs⟩ := h
    obtain ⟨e, he, rfl⟩ := List.mem_map.1 hc
    rcases List.mem_cons.1 hs with rfl | hs
    · exact ⟨e, (List.mem_filter.1 he).1, rfl⟩
    · exact ih _ _ hs
theorem map_inj_on {α β : Type} {f : α → β} : ∀ {A B : List α}, (∀ x ∈ A, ∀ y ∈ B, f x = f y → x = y) → A.map f = B.map f → A = B
  | [], [], _, _ => rfl
  | [], _ :: _, _, h => by simp at h
  | _ :: _, [], _, h => by simp at h
  | a :: A, b :: B, hi, h => by
    rw [List.map_cons, List.map_cons, List.cons.injEq] at h
    rw [hi a (by simp) b (by simp) h.1, map_inj_on (fun x hx y hy => hi x (List.mem_cons_of_mem _ hx) y (List.mem_cons_of_mem _ hy)) h.2]
def sunL (s p : List UInt8) : Bool := undL s p && decide (s ≠ p)
theorem sun_pa {s p : List UInt8} {D E : List (List Av)} (h1 : nrD s = some D) (h2 : nrD p = some E) : sunL s p = belP (paL p) (paL s) := by
  rw [Bool.eq_iff_iff, bel_iff]
  unfold sunL
  rw [Bool.and_eq_true, und_pa h1 h2, decide_eq_true_eq]
  constructor
  · rintro ⟨⟨u, hu⟩, hne⟩
    cases u with
    | nil => exact absurd (pa_inj h1 h2 (by simpa using hu)) hne
    | cons a r => exact ⟨a, r, hu⟩
  · rintro ⟨a, r, h⟩
    refine ⟨⟨_, h⟩, ?_⟩
    rintro rfl
    have := congrArg List.length h
    simp at this
theorem walkN_is {L : List Ent} (h : TrL L) (n : Nat) (p : List UInt8) {D : List (List Av)} (hp : nrD p = some D) (hn : 32 ≤ (paL p).length + n) : walkN n L p = (L.map (·.1)).filter (fun s => sunL s p) := by
  refine map_inj_on (f := paL) (fun x hx y hy he => ?_) ?_
  · obtain ⟨e, he1, rfl⟩ := walkN_mem _ _ _ hx
    obtain ⟨e2, he2, rfl⟩ := List.mem_map.1 (List.mem_filter.1 hy).1
    obtain ⟨E1, hE1⟩ := nm_some (h.nm e he1)
    obtain ⟨E2, hE2⟩ := nm_some (h.nm e2 he2)
    exact pa_inj hE1 hE2 he
  · rw [walk_pa h.nm n p D hp, walk_is h.tree n _ hn]
    rw [List.filter_map, List.filter_map, List.map_map]
    congr 1
    refine List.filter_congr fun e he => ?_
    obtain ⟨E, hE⟩ := nm_some (h.nm e he)
    simp only [Function.comp]
    exact (sun_pa hE hp).symm
def belN (L : List Ent) (p : List UInt8) : List (List UInt8) := (L.map (·.1)).filter (fun s => undL s p)
theorem bel_root {L : List Ent} (h : TrL L) : belN L [] = L.map (·.1) ∧ walkN 32 L [] = L.map (·.1) := by
  refine ⟨?_, ?_⟩
  · unfold belN
    rw [List.filter_eq_self]
    intro s hs
    obtain ⟨e, he, rfl⟩ := List.mem_map.1 hs
    obtain ⟨E, hE⟩ := nm_some (h.nm e he)
    exact und_nil hE
  · rw [walkN_is h 32 [] nr_nil (by rw [pa_nil]; simp), List.filter_eq_self]
    intro s hs
    obtain ⟨e, he, rfl⟩ := List.mem_map.1 hs
    obtain ⟨E, hE⟩ := nm_some (h.nm e he)
    unfold sunL
    rw [und_nil hE]
    have hne : e.1 ≠ [] := fun e2 => nm_nil_not (e2 ▸ h.nm e he)
    simp [hne]
theorem trL_names {L : List Ent} (h : TrL L) : (L.map (·.1)).Pairwise (fun a b => bfN a b = true) := by rw [List.pairwise_map]; exact h.up
theorem bel_at {L : List Ent} (h : TrL L) {e : Ent} (he : e ∈ L) (n : Nat) (hn : 32 ≤ (paL e.1).length + n) : belN L e.1 = e.1 :: walkN n L e.1 := by
  obtain ⟨E, hE⟩ := nm_some (h.nm e he)
  have inj : ∀ x ∈ L.map (·.1), ∀ y ∈ L.map (·.1), paL x = paL y → x = y := by
    intro x hx y hy hxy
    obtain ⟨e1, h1, rfl⟩ := List.mem_map.1 hx
    obtain ⟨e2, h2, rfl⟩ := List.mem_map.1 hy
    obtain ⟨E1, hE1⟩ := nm_some (h.nm e1 h1)
    obtain ⟨E2, hE2⟩ := nm_some (h.nm e2 h2)
    exact pa_inj hE1 hE2 hxy
  rw [walkN_is h n e.1 hE hn]
  refine map_inj_on (f := paL) (fun x hx y hy he2 => ?_) (eq_of_rising ?_ ?_ fun x => ?_)
  · refine inj x (List.mem_filter.1 hx).1 y ?_ he2
    rcases List.mem_cons.1 hy with rfl | hy
    · exact List.mem_map.2 ⟨e, he, rfl⟩
    · exact (List.mem_filter.1 hy).1
  · rw [List.pairwise_map]; exact (trL_names h).filter _
  · rw [List.map_cons]
    refine List.pairwise_cons.2 ⟨fun y hy => ?_, by rw [List.pairwise_map]; exact (trL_names h).filter _⟩
    obtain ⟨s, hs, rfl⟩ := List.mem_map.1 hy
    obtain ⟨h1, h2⟩ := List.mem_filter.1 hs
    obtain ⟨e1, h1', rfl⟩ := List.mem_map.1 h1
    obtain ⟨E1, hE1⟩ := nm_some (h.nm e1 h1')
    rw [sun_pa hE1 hE, bel_iff] at h2
    obtain ⟨a, r, h2⟩ := h2
    rw [h2]; exact ltP_pre _ _ _
  · rw [List.map_cons, List.mem_cons, List.mem_map, List.mem_map]
    constructor
    · rintro ⟨s, hs, rfl⟩
      obtain ⟨h1, h2⟩ := List.mem_filter.1 hs
      by_cases e2 : s = e.1
      · left; rw [e2]
      · right; exact ⟨s, List.mem_filter.2 ⟨h1, by unfold sunL; rw [h2]; simp [e2]⟩, rfl⟩
    · rintro (rfl | ⟨s, hs, rfl⟩)
      · exact ⟨e.1, List.mem_filter.2 ⟨List.mem_map.2 ⟨e, he, rfl⟩, und_self hE⟩, rfl⟩
      · obtain ⟨h1, h2⟩ := List.mem_filter.1 hs
        unfold sunL at h2
        rw [Bool.and_eq_true] at h2
        exact ⟨s, List.mem_filter.2 ⟨h1, h2.1⟩, rfl⟩
end Go.Proofs.YtbmnpjkcomcboaaGreatDoor
namespace Go.Proofs.YtbmnpjkcomcboaaGreatDoor
set_option linter.unusedSimpArgs false
set_option linter.unusedVariables false
open Go Go.RowKit Go.Proofs.BerK Go.Proofs.MemK Go.Proofs.UtfK

theorem bf_asymm {a b : List UInt8} (h : bfN a b = true) : bfN b a = false := ltP_asymm h
theorem bf_irrefl (a : List UInt8) : bfN a a = false := ltP_irrefl _
theorem bf_trans {a b c : List UInt8} (h : bfN a b = true) (k : bfN b c = true) : bfN a c = true := ltP_trans h k
theorem bf_total {a b : List UInt8} (h1 : Nm a) (h2 : Nm b) (h : a ≠ b) : bfN a b = true ∨ bfN b a = true := by
  obtain ⟨D, hD⟩ := nm_some h1
  obtain ⟨E, hE⟩ := nm_some h2
  exact ltP_total _ _ (fun e => h (pa_inj hD hE e))
def putE (e : Ent) : List Ent → List Ent
  | [] => [e]
  | x :: L => if x.1 = e.1 ∨ bfN e.1 x.1 = true then e :: (x :: L).filter (fun y => decide (y.1 ≠ e.1)) else x :: putE e L
theorem put_new (e : Ent) : ∀ (L : List Ent), (∀ x ∈ L, x.1 ≠ e.1) → L.Pairwise (fun a b => bfN a.1 b.1 = true) → ∃ L1 L2, L = L1 ++ L2 ∧ putE e L = L1 ++ e :: L2 ∧ (∀ x ∈ L1, bfN e.1 x.1 = false) ∧ ∀ x ∈ L2, bfN e.1 x.1 = true
  | [], _, _ => ⟨[], [], rfl, rfl, by simp, by simp⟩
  | x :: L, hn, hp => by
    obtain ⟨p1, p2⟩ := List.pairwise_cons.1 hp
    rw [putE]
    by_cases h : bfN e.1 x.1 = true
    · rw [if_pos (.inr h)]
      refine ⟨[], x :: L, rfl, ?_, by simp, ?_⟩
      · rw [List.nil_append]
        congr 1
        rw [List.filter_eq_self]
        intro y hy
        exact decide_eq_true (hn y hy)
      · intro y hy
        rcases List.mem_cons.1 hy with rfl | hy
        · exact h
        · exact bf_trans h (p1 y hy)
    · have h1 : ¬ (x.1 = e.1 ∨ bfN e.1 x.1 = true) := by
        rintro (h2 | h2)
        · exact hn x (by simp) h2
        · exact h h2
      rw [if_neg h1]
      obtain ⟨L1, L2, q1, q2, q3, q4⟩ := put_new e L (fun y hy => hn y (List.mem_cons_of_mem _ hy)) p2
      refine ⟨x :: L1, L2, by rw [q1]; rfl, by rw [q2]; rfl, ?_, q4⟩
      intro y hy
      rcases List.mem_cons.1 hy with rfl | hy
      · simpa using h
      · exact q3 y hy
theorem put_old (e : Ent) : ∀ (L : List Ent), (∃ x ∈ L, x.1 = e.1) → L.Pairwise (fun a b => bfN a.1 b.1 = true) → ∃ L1 x L2, L = L1 ++ x :: L2 ∧ x.1 = e.1 ∧ putE e L = L1 ++ e :: L2
  | [], h, _ => by obtain ⟨x, hx, _⟩ := h; simp at hx
  | x :: L, hx, hp => by
    obtain ⟨p1, p2⟩ := List.pairwise_cons.1 hp
    rw [putE]
    by_cases h : x.1 = e.1
    · rw [if_pos (.inl h)]
      refine ⟨[], x, L, rfl, h, ?_⟩
      rw [List.nil_append]
      congr 1
      rw [List.filter_cons_of_neg (by simp [h]), List.filter_eq_self]
      intro y hy
      refine decide_eq_true fun e2 => ?_
      have := p1 y hy
      rw [h, e2, bf_irrefl] at this; cases this
    · obtain ⟨y, hy, hye⟩ := hx
      have hy : y ∈ L := by
        rcases List.mem_cons.1 hy with rfl | hy
        · exact absurd hye h
        · exact hy
      have h1 : ¬ (x.1 = e.1 ∨ bfN e.1 x.1 = true) := by
        rintro (h2 | h2)
        · exact h h2
        · have := bf_trans (p1 y hy) (hye ▸ h2)
          rw [bf_irrefl] at this; cases this
      rw [if_neg h1]
      obtain ⟨L1, z, L2, q1, q2, q3⟩ := put_old e L ⟨y, hy, hye⟩ p2
      exact ⟨x :: L1, z, L2, by rw [q1]; rfl, q2, by rw [q3]; rfl⟩
theorem kid_app (A B : List Ent) (p : List UInt8) : kidN (A ++ B) p = kidN A p ++ kidN B p := by unfold kidN; rw [List.filter_append, List.map_append]
theorem kid_cons (e : Ent) (B : List Ent) (p : List UInt8) : kidN (e :: B) p = (if parL e.1 = (p, true) then [kidE e] else []) ++ kidN B p := by
  unfold kidN
  by_cases h : parL e.1 = (p, true)
  · rw [List.filter_cons_of_pos (by unfold isKid; simp [h]), if_pos h]; rfl
  · rw [List.filter_cons_of_neg (by unfold isKid; simp [h]), if_neg h]; rfl
theorem kid_mem {L : List Ent} {p : List UInt8} {c : List UInt8 × List UInt8} (h : c ∈ kidN L p) : ∃ e ∈ L, c = kidE e ∧ parL e.1 = (p, true) := by
  obtain ⟨e, he, rfl⟩ := List.mem_map.1 h
  obtain ⟨h1, h2⟩ := List.mem_filter.1 he
  exact ⟨e, h1, rfl, of_decide_eq_true h2⟩
theorem bf_sib {a b : Ent} (h1 : Nm a.1) (h2 : Nm b.1) {p : List UInt8} (k1 : parL a.1 = (p, true)) (k2 : parL b.1 = (p, true)) : bfN a.1 b.1 = ltB (kidE a).1 (kidE b).1 := by
  obtain ⟨p1, l1, a1, a2, a3, _⟩ := nm_par h1
  obtain ⟨p2, l2, b1, b2, b3, _⟩ := nm_par h2
  rw [k1] at a1
  rw [k2] at b1
  obtain ⟨rfl, _⟩ := Prod.mk.inj a1
  obtain ⟨rfl, _⟩ := Prod.mk.inj b1
  unfold bfN kidE
  rw [a3, b3, ltP_sib, a2, b2]
theorem kid_up {L : List Ent} (hn : ∀ e ∈ L, Nm e.1) (h : L.Pairwise (fun a b => bfN a.1 b.1 = true)) (p : List UInt8) : (kidN L p).Pairwise (fun a b => ltB a.1 b.1 = true) := by
  unfold kidN
  rw [List.pairwise_map]
  refine List.Pairwise.imp_of_mem ?_ (h.filter _)
  intro a b ha hb hab
  obtain ⟨a1, a2⟩ := List.mem_filter.1 ha
  obtain ⟨b1, b2⟩ := List.mem_filter.1 hb
  rw [← bf_sib (hn a a1) (hn b b1) (of_decide_eq_true a2) (of_decide_eq_true b2)]
  exact hab
theorem kid_new {e : Ent} {L : List Ent} (hL : TrL L) (he : Nm e.1) (hn : ∀ x ∈ L, x.1 ≠ e.1) {p : List UInt8} (hp : parL e.1 = (p, true)) (i : Nat) (hi : i ≤ (kidN L p).length)
    (h1 : ∀ j (hj : j < (kidN L p).length), j < i → ltB (kidN L p)[j].1 (kidE e).1 = true) (h2 : ∀ j (hj : j < (kidN L p).length), i ≤ j → ltB (kidN L p)[j].1 (kidE e).1 = false) :
    kidN (putE e L) p = (kidN L p).take i ++ kidE e :: (kidN L p).drop i := by
  obtain ⟨L1, L2, q1, q2, q3, q4⟩ := put_new e L hn hL.up
  have n1 : ∀ x ∈ L1, Nm x.1 := fun x hx => hL.nm x (by rw [q1]; simp [hx])
  have n2 : ∀ x ∈ L2, Nm x.1 := fun x hx => hL.nm x (by rw [q1]; simp [hx])
  have e0 : kidN L p = kidN L1 p ++ kidN L2 p := by rw [q1, kid_app]
  have hlow : ∀ c ∈ kidN L1 p, ltB c.1 (kidE e).1 = true := fun c hc => by
    obtain ⟨x, hx, rfl, hxp⟩ := kid_mem hc
    rw [← bf_sib (n1 x hx) he hxp hp]
    rcases bf_total (n1 x hx) he (hn x (by rw [q1]; simp [hx])) with h | h
    · exact h
    · rw [q3 x hx] at h; cases h
  have hhigh : ∀ c ∈ kidN L2 p, ltB c.1 (kidE e).1 = false := fun c hc => by
    obtain ⟨x, hx, rfl, hxp⟩ := kid_mem hc
    rw [← bf_sib (n2 x hx) he hxp hp]
    exact bf_asymm (q4 x hx)
  have hk : i = (kidN L1 p).length := by
    rcases Nat.lt_trichotomy i (kidN L1 p).length with h | h | h
    · have hj : i < (kidN L p).length := by rw [e0, List.length_append]; omega
      have a1 := h2 i hj (Nat.le_refl _)
      have a2 := hlow ((kidN L p)[i]) (by simp only [e0, List.getElem_append_left h]; exact List.getElem_mem h)
      rw [a1] at a2; cases a2
    · exact h
    · have hj : (kidN L1 p).length < (kidN L p).length := by omega
      have a1 := h1 _ hj h
      have a2 := hhigh ((kidN L p)[(kidN L1 p).length]) (by
        have : (kidN L2 p) ≠ [] := fun e2 => by rw [e0, e2] at hj; simp at hj
        simp only [e0]
        rw [List.getElem_append_right (Nat.le_refl _)]
        exact List.getElem_mem _)
      rw [a1] at a2; cases a2
  subst hk
  rw [q2, kid_app, kid_cons, if_pos hp, e0, List.take_left, List.drop_left]; rfl
theorem kid_new_other {e : Ent} {L : List Ent} (hL : TrL L) (hn : ∀ x ∈ L, x.1 ≠ e.1) {p : List UInt8} (hp : parL e.1 ≠ (p, true)) : kidN (putE e L) p = kidN L p := by
  obtain ⟨L1, L2, q1, q2, _⟩ := put_new e L hn hL.up
  rw [q2, kid_app, kid_cons, if_neg hp, q1, kid_app]; rfl
theorem kid_old {e : Ent} {L : List Ent} (hL : TrL L) (hx : ∃ x ∈ L, x.1 = e.1) (p : List UInt8) : kidN (putE e L) p = kidN L p := by
  obtain ⟨L1, x, L2, q1, q2, q3⟩ := put_old e L hx hL.up
  have hk : kidE e = kidE x := by unfold kidE; rw [q2]
  rw [q3, q1, kid_app, kid_app, kid_cons, kid_cons, q2, hk]
def hasE (L : List Ent) (s : List UInt8) : Bool := L.any fun e => e.1 == s
def lkE (L : List Ent) (s : List UInt8) : Option Ent := L.find? fun e => e.1 == s
theorem hasE_iff {L : List Ent} {s : List UInt8} : hasE L s = true ↔ ∃ x ∈ L, x.1 = s := by unfold hasE; simp
theorem hasE_no {L : List Ent} {s : List UInt8} (h : hasE L s = false) : ∀ x ∈ L, x.1 ≠ s := fun x hx e => by
  have := hasE_iff.2 ⟨x, hx, e⟩
  rw [h] at this; cases this
theorem lkE_has (L : List Ent) (s : List UInt8) : (lkE L s).isSome = hasE L s := by unfold lkE hasE; rw [Bool.eq_iff_iff, List.find?_isSome]; simp
theorem lkE_some {L : List Ent} {s : List UInt8} {e : Ent} (h : lkE L s = some e) : e ∈ L ∧ e.1 = s := by
  unfold lkE at h
  exact ⟨List.mem_of_find?_eq_some h, by simpa using List.find?_some h⟩
theorem names_nodup {L : List Ent} (h : L.Pairwise (fun a b => bfN a.1 b.1 = true)) : (L.map (·.1)).Nodup := by
  unfold List.Nodup
  rw [List.pairwise_map]
  refine h.imp fun {a b} hab e => ?_
  rw [e, bf_irrefl] at hab; cases hab
theorem lkE_mem {L : List Ent} (h : L.Pairwise (fun a b => bfN a.1 b.1 = true)) {e : Ent} (he : e ∈ L) : lkE L e.1 = some e := by
  induction L with
  | nil => simp at he
  | cons x L ih =>
    obtain ⟨p1, p2⟩ := List.pairwise_cons.1 h
    unfold lkE
    rw [List.find?_cons]
    by_cases hx : x.1 = e.1
    · have : x = e := by
        rcases List.mem_cons.1 he with rfl | he
        · rfl
        · have := p1 e he
          rw [hx, bf_irrefl] at this; cases this
      subst this
      simp
    · have : (x.1 == e.1) = false := by simpa using hx
      rw [this]
      have he : e ∈ L := by
        rcases List.mem_cons.1 he with rfl | he
        · exact absurd rfl hx
        · exact he
      exact ih p2 he
theorem pute_mem {e : Ent} {L : List Ent} (h : L.Pairwise (fun a b => bfN a.1 b.1 = true)) (y : Ent) : y ∈ putE e L ↔ y = e ∨ (y ∈ L ∧ y.1 ≠ e.1) := by
  cases hh : hasE L e.1 with
  | false =>
    have hn := hasE_no hh
    obtain ⟨L1, L2, q1, q2, _⟩ := put_new e L hn h
    rw [q2]
    have : y ∈ L ↔ y ∈ L1 ∨ y ∈ L2 := by rw [q1, List.mem_append]
    rw [List.mem_append, List.mem_cons, this]
    constructor
    · rintro (k | rfl | k)
      · exact .inr ⟨.inl k, hn y (by rw [q1]; simp [k])⟩
      · exact .inl rfl
      · exact .inr ⟨.inr k, hn y (by rw [q1]; simp [k])⟩
    · rintro (rfl | ⟨k | k, _⟩)
      · exact .inr (.inl rfl)
      · exact .inl k
      · exact .inr (.inr k)
  | true =>
    obtain ⟨L1, x, L2, q1, q2, q3⟩ := put_old e L (hasE_iff.1 hh) h
    have hnd := names_nodup h
    rw [q1, List.map_append, List.map_cons] at hnd
    have hn : ∀ z, z ∈ L1 ∨ z ∈ L2 → z.1 ≠ x.1 := by
      intro z hz e2
      rw [List.nodup_append] at hnd
      obtain ⟨d1, d2, d3⟩ := hnd
      rcases hz with hz | hz
      · exact d3 z.1 (List.mem_map.2 ⟨z, hz, rfl⟩) x.1 (by simp) e2
      · exact (List.nodup_cons.1 d2).1 (List.mem_map.2 ⟨z, hz, e2⟩)
    rw [q3, q1]
    simp only [List.mem_append, List.mem_cons]
    constructor
    · rintro (k | rfl | k)
      · exact .inr ⟨.inl k, q2 ▸ hn y (.inl k)⟩
      · exact .inl rfl
      · exact .inr ⟨.inr (.inr k), q2 ▸ hn y (.inr k)⟩
    · rintro (rfl | ⟨k | rfl | k, hne⟩)
      · exact .inr (.inl rfl)
      · exact .inl k
      · exact absurd q2 hne
      · exact .inr (.inr k)
theorem put_up {e : Ent} {L : List Ent} (h : L.Pairwise (fun a b => bfN a.1 b.1 = true)) (hn : ∀ x ∈ L, Nm x.1) (he : Nm e.1) : (putE e L).Pairwise (fun a b => bfN a.1 b.1 = true) := by
  cases hh : hasE L e.1 with
  | false =>
    have hno := hasE_no hh
    obtain ⟨L1, L2, q1, q2, q3, q4⟩ := put_new e L hno h
    rw [q2]
    rw [q1] at h
    obtain ⟨p1, p2, p3⟩ := List.pairwise_append.1 h
    refine List.pairwise_append.2 ⟨p1, List.pairwise_cons.2 ⟨q4, p2⟩, fun a ha b hb => ?_⟩
    rcases List.mem_cons.1 hb with rfl | hb
    · rcases bf_total (hn a (by rw [q1]; simp [ha])) he (hno a (by rw [q1]; simp [ha])) with k | k
      · exact k
      · rw [q3 a ha] at k; cases k
    · exact p3 a ha b hb
  | true =>
    obtain ⟨L1, x, L2, q1, q2, q3⟩ := put_old e L (hasE_iff.1 hh) h
    rw [q3]
    rw [q1] at h
    obtain ⟨p1, p2, p3⟩ := List.pairwise_append.1 h
    obtain ⟨r1, r2⟩ := List.pairwise_cons.1 p2
    refine List.pairwise_append.2 ⟨p1, List.pairwise_cons.2 ⟨fun y hy => q2 ▸ r1 y hy, r2⟩, fun a ha b hb => ?_⟩
    rcases List.mem_cons.1 hb with rfl | hb
    · exact q2 ▸ p3 a ha x (by simp)
    · exact p3 a ha b (List.mem_cons_of_mem _ hb)
theorem trL_put {e : Ent} {L : List Ent} (h : TrL L) (he : Nm e.1) (ha : (parL e.1).1 = [] ∨ hasE L (parL e.1).1 = true) : TrL (putE e L) := by
  refine ⟨put_up h.up h.nm he, fun y hy => ?_, fun y hy => ?_⟩
  · rcases (pute_mem h.up y).1 hy with rfl | ⟨hy, _⟩
    · exact he
    · exact h.nm y hy
  · have gen : ∀ q, (∃ x ∈ L, x.1 = q) → ∃ x ∈ putE e L, x.1 = q := by
      rintro q ⟨x, hx, rfl⟩
      by_cases h2 : x.1 = e.1
      · exact ⟨e, (pute_mem h.up e).2 (.inl rfl), h2.symm⟩
      · exact ⟨x, (pute_mem h.up x).2 (.inr ⟨hx, h2⟩), rfl⟩
    rcases (pute_mem h.up y).1 hy with rfl | ⟨hy, _⟩
    · rcases ha with ha | ha
      · exact .inl ha
      · exact .inr (gen _ (hasE_iff.1 ha))
    · rcases h.above y hy with k | k
      · exact .inl k
      · exact .inr (gen _ k)
theorem put_len {e : Ent} {L : List Ent} (h : L.Pairwise (fun a b => bfN a.1 b.1 = true)) : (putE e L).length = if hasE L e.1 = true then L.length else L.length + 1 := by
  cases hh : hasE L e.1 with
  | false =>
    obtain ⟨L1, L2, q1, q2, _⟩ := put_new e L (hasE_no hh) h
    rw [q2, q1]; simp; omega
  | true =>
    obtain ⟨L1, x, L2, q1, q2, q3⟩ := put_old e L (hasE_iff.1 hh) h
    rw [q3, q1]; simp
theorem lk_put {e : Ent} {L : List Ent} (h : L.Pairwise (fun a b => bfN a.1 b.1 = true)) (hn : ∀ x ∈ L, Nm x.1) (he : Nm e.1) (s : List UInt8) : lkE (putE e L) s = if s = e.1 then some e else lkE L s := by
  have hu := put_up h hn he
  by_cases h1 : s = e.1
  · rw [if_pos h1, h1]
    exact lkE_mem hu ((pute_mem h e).2 (.inl rfl))
  · rw [if_neg h1]
    cases h2 : lkE L s with
    | some x =>
      obtain ⟨a1, a2⟩ := lkE_some h2
      rw [← a2]
      exact lkE_mem hu ((pute_mem h x).2 (.inr ⟨a1, fun e2 => h1 (by rw [← a2, e2])⟩))
    | none =>
      cases h3 : lkE (putE e L) s with
      | none => rfl
      | some x =>
        obtain ⟨a1, a2⟩ := lkE_some h3
        rcases (pute_mem h x).1 a1 with rfl | ⟨k, _⟩
        · exact absurd a2.symm h1
        · have := lkE_mem h k
          rw [a2, h2] at this; cases this
def dropE (L : List Ent) (s : List UInt8) : List Ent := L.filter fun e => decide (e.1 ≠ s)
theorem kid_drop (L : List Ent) (s p : List UInt8) : kidN (dropE L s) p = (kidN L p).filter fun c => decide (c.2 ≠ s) := by
  unfold kidN dropE
  rw [List.filter_map, List.filter_filter, List.filter_filter]
  congr 1
  refine List.filter_congr fun e _ => ?_
  simp only [Function.comp, kidE]
  exact Bool.and_comm _ _
theorem kid_drop_other (L : List Ent) {s p : List UInt8} (h : parL s ≠ (p, true)) : kidN (dropE L s) p = kidN L p := by
  rw [kid_drop, List.filter_eq_self]
  intro c hc
  obtain ⟨e, he, rfl, hp⟩ := kid_mem hc
  refine decide_eq_true fun e2 => h ?_
  rw [← e2]; exact hp
theorem trL_drop {L : List Ent} (h : TrL L) {s : List UInt8} (hk : kidN L s = []) : TrL (dropE L s) := by
  refine ⟨h.up.filter _, fun e he => h.nm e (List.mem_filter.1 he).1, fun e he => ?_⟩
  obtain ⟨h1, h2⟩ := List.mem_filter.1 he
  rcases h.above e h1 with k | ⟨x, hx, k⟩
  · exact .inl k
  · refine .inr ⟨x, List.mem_filter.2 ⟨hx, decide_eq_true fun e2 => ?_⟩, k⟩
    obtain ⟨p, l, a1, _⟩ := nm_par (h.nm e h1)
    rw [a1] at k
    have : kidE e ∈ kidN L s := List.mem_map.2 ⟨e, List.mem_filter.2 ⟨h1, decide_eq_true (by rw [a1, ← e2, k])⟩, rfl⟩
    rw [hk] at this; simp at this
theorem drop_len {L : List Ent} (h : L.Pairwise (fun a b => bfN a.1 b.1 = true)) {s : List UInt8} (hs : hasE L s = true) : (dropE L s).length + 1 = L.length := by
  induction L with
  | nil => simp [hasE] at hs
  | cons x L ih =>
    obtain ⟨p1, p2⟩ := List.pairwise_cons.1 h
    unfold dropE
    by_cases hx : x.1 = s
    · rw [List.filter_cons_of_neg (by simp [hx]), List.filter_eq_self.2]
      · rfl
      · intro y hy
        refine decide_eq_true fun e => ?_
        have := p1 y hy
        rw [hx, e, bf_irrefl] at this; cases this
    · rw [List.filter_cons_of_pos (by simp [hx]), List.length_cons, List.length_cons]
      have : hasE L s = true := by
        obtain ⟨y, hy, he⟩ := hasE_iff.1 hs
        rcases List.mem_cons.1 hy with rfl | hy
        · exact absurd he hx
        · exact hasE_iff.2 ⟨y, hy, he⟩
      have := ih p2 this
      unfold dropE at this
      omega
theorem lk_drop (L : List Ent) (s t : List UInt8) : lkE (dropE L s) t = if t = s then none else lkE L t := by
  unfold lkE dropE
  rw [List.find?_filter]
  by_cases h : t = s
  · rw [if_pos h, List.find?_eq_none]
    intro x _
    subst h
    simp
  · rw [if_neg h]
    congr 1
    funext x
    by_cases hx : x.1 = t
    · simp [hx, h]
    · simp [hx]
def nmgL (A : List Atr) (r : List Av) : Bool := r.all fun p => match scT plT p.1 with
  | none => false
  | some t => (geL A p.1).any (sameQ t.2.1 p.2)
def nmgS (A : List Atr) (s : List UInt8) : Bool := match nrD s with
  | some (r :: _) => nmgL A r
  | _ => false
def chkE (e : Ent) : Nat := if chkS plT plC e.2 ≠ 0 then chkS plT plC e.2 else if nmgS e.2 e.1 = false then 64 else 0
def clE (e : Ent) : Ent := (e.1, clA e.2)
def addC (L : List Ent) (e : Ent) : Nat :=
  if (parL e.1).2 = false then 34 else if hasE L e.1 = true then 68 else if (parL e.1).1 ≠ [] ∧ hasE L (parL e.1).1 = false then 32 else
  if chkE e ≠ 0 then chkE e else if 1024 ≤ L.length then 80 else 0
def addL (L : List Ent) (e : Ent) : List Ent := if addC L e = 0 then putE (clE e) L else L
def delC (L : List Ent) (s : List UInt8) : Nat := if hasE L s = false then 32 else if kidN L s ≠ [] then 66 else 0
def delL (L : List Ent) (s : List UInt8) : List Ent := if delC L s = 0 then dropE L s else L
def repC (L : List Ent) (e : Ent) : Nat := if hasE L e.1 = false then 32 else chkE e
def repL (L : List Ent) (e : Ent) : List Ent := if repC L e = 0 then putE (clE e) L else L
theorem par_nm {s : List UInt8} (h : (parL s).2 = true) : Nm s := by
  rcases nr_ways s with h1 | h1
  · rw [par_none h1] at h; cases h
  · exact h1
theorem add_facts {L : List Ent} {e : Ent} (h : addC L e = 0) : Nm e.1 ∧ hasE L e.1 = false ∧ ((parL e.1).1 = [] ∨ hasE L (parL e.1).1 = true) ∧ L.length < 1024 := by
  unfold addC at h
  split at h
  · cases h
  · rename_i h1
    split at h
    · cases h
    · rename_i h2
      split at h
      · cases h
      · rename_i h3
        split at h
        · rename_i h4; exact absurd h h4
        · split at h
          · cases h
          · rename_i h5
            refine ⟨par_nm (by simpa using h1), by simpa using h2, ?_, by omega⟩
            by_cases h6 : (parL e.1).1 = []
            · exact .inl h6
            · right
              cases h7 : hasE L (parL e.1).1
              · exact absurd ⟨h6, h7⟩ h3
              · rfl
theorem trL_add {L : List Ent} (h : TrL L) (e : Ent) : TrL (addL L e) := by
  unfold addL
  split
  · rename_i h0
    obtain ⟨a1, a2, a3, _⟩ := add_facts h0
    exact trL_put h a1 a3
  · exact h
theorem add_len {L : List Ent} (h : TrL L) (hl : L.length ≤ 1024) (e : Ent) : (addL L e).length ≤ 1024 := by
  unfold addL
  split
  · rename_i h0
    obtain ⟨a1, a2, a3, a4⟩ := add_facts h0
    rw [put_len h.up]
    split <;> omega
  · exact hl
theorem trL_del {L : List Ent} (h : TrL L) (s : List UInt8) : TrL (delL L s) := by
  unfold delL
  split
  · rename_i h0
    refine trL_drop h ?_
    unfold delC at h0
    split at h0
    · cases h0
    · split at h0
      · cases h0
      · rename_i h2; simpa using h2
  · exact h
theorem del_len {L : List Ent} (hl : L.length ≤ 1024) (s : List UInt8) : (delL L s).length ≤ 1024 := by
  unfold delL
  split
  · exact Nat.le_trans (List.length_filter_le _ _) hl
  · exact hl
theorem rep_facts {L : List Ent} {e : Ent} (h : repC L e = 0) : hasE L e.1 = true := by
  unfold repC at h
  split at h
  · cases h
  · rename_i h1; simpa using h1
theorem trL_rep {L : List Ent} (h : TrL L) (e : Ent) : TrL (repL L e) := by
  unfold repL
  split
  · rename_i h0
    obtain ⟨x, hx, he⟩ := hasE_iff.1 (rep_facts h0)
    have hn := h.nm x hx
    rw [he] at hn
    refine trL_put h hn ?_
    rcases h.above x hx with k | ⟨y, hy, k⟩
    · rw [he] at k; exact .inl k
    · rw [he] at k; exact .inr (hasE_iff.2 ⟨y, hy, k⟩)
  · exact h
theorem rep_len {L : List Ent} (h : TrL L) (hl : L.length ≤ 1024) (e : Ent) : (repL L e).length ≤ 1024 := by
  unfold repL
  split
  · rename_i h0
    rw [put_len h.up, if_pos (show hasE L (clE e).1 = true from rep_facts (e := e) h0)]; exact hl
  · exact hl
end Go.Proofs.YtbmnpjkcomcboaaGreatDoor
