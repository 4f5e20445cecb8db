/- Plain facts on messages out of a row of bytes: what is told does not hang on the pieces in which bytes come. -/
import Derived.Test.YtgihggaokamonaaTreeM
namespace Go.Proofs.Ytgihggaokamonaa
open Go.RowKit Go.Proofs.BerM Go.Proofs.BerK Go.Proofs.MemK

/-! ### Bytes behind change nothing of what is told -/
theorem getD_app {l s : List UInt8} (h : 0 < l.length) : (l ++ s).getD 0 0 = l.getD 0 0 := by
  cases l with
  | nil => simp at h
  | cons a l => rfl
theorem rl_app (l s : List UInt8) (h0 : 0 < l.length) (h : (rl l).2.2 ≠ 4) : rl (l ++ s) = rl l := by
  have hg := getD_app (s := s) h0
  unfold rl at h ⊢
  rw [hg]
  generalize (l.getD 0 0).toNat = c at h ⊢
  split
  · rfl
  · rename_i h1
    rw [if_neg h1] at h
    split
    · rfl
    · rename_i h2
      rw [if_neg h2] at h
      by_cases h3 : l.length - 1 < c - 128
      · rw [if_pos h3] at h; exact absurd rfl h
      · have e : ((l ++ s).drop 1).take (c - 128) = (l.drop 1).take (c - 128) := by
          rw [List.drop_append_of_le_length (by omega), List.take_append_of_le_length (by rw [List.length_drop]; omega)]
        rw [if_neg h3, if_neg (by rw [List.length_append]; omega), e]
theorem hd_app (l s : List UInt8) (h : (hd l).2.2.2 ≠ 4) : hd (l ++ s) = hd l := by
  by_cases h0 : l.length = 0
  · exfalso; apply h; rw [hd, if_pos h0]
  · have hg := getD_app (s := s) (show 0 < l.length by omega)
    unfold hd at h ⊢
    rw [if_neg h0] at h ⊢
    rw [if_neg (show ¬ (l ++ s).length = 0 by rw [List.length_append]; omega), hg]
    split
    · rfl
    · rename_i h1
      rw [if_neg h1] at h
      by_cases h2 : l.length = 1
      · rw [if_pos h2] at h; exact absurd rfl h
      · rw [if_neg h2] at h
        have e : (l ++ s).drop 1 = l.drop 1 ++ s := List.drop_append_of_le_length (by omega)
        have hr : rl (l.drop 1 ++ s) = rl (l.drop 1) := by
          apply rl_app _ _ (by rw [List.length_drop]; omega)
          intro h4
          rw [if_pos (by rw [h4]; decide)] at h
          exact h h4
        rw [if_neg h2, if_neg (show ¬ (l ++ s).length = 1 by rw [List.length_append]; omega), e, hr]
theorem rd_app (l s : List UInt8) (t sz : Nat) (b : List UInt8) (h : rd l = (t, b, sz, 0)) : rd (l ++ s) = (t, b, sz, 0) := by
  have hp := put_rd l t sz b h
  have hg := (rd_good l t sz b h).1
  have hr := rd_put (t : Int) b (l.drop sz ++ s) hg.1 hg.2
  rw [hp.1, ← List.append_assoc, List.take_append_drop] at hr
  rw [hr, List.length_take, Nat.min_eq_left hp.2.2.1]; rfl
theorem hd_of_rd (l : List UInt8) (t sz : Nat) (b : List UInt8) (h : rd l = (t, b, sz, 0)) : (hd l).2.2.2 = 0 := by
  rw [rd] at h
  split at h
  · rename_i h1; simp only [Prod.mk.injEq] at h; exact absurd h.2.2.2 h1
  · rename_i h1; simpa using h1

/-! ### Messages -/
/-- The error that what is left tells. -/
def tf (most : Nat) (l : List UInt8) : Nat :=
  if l.length = 0 then 0 else
  if l.getD 0 0 ≠ 48 then 6 else
  if (hd l).2.2.2 = 0 then (if most < (hd l).2.1 then 3 else 0) else
  if (hd l).2.2.2 = 4 then 0 else (hd l).2.2.2
theorem tf_hd (most : Nat) (l s : List UInt8) (h0 : 0 < l.length) (h : (hd l).2.2.2 ≠ 4) : tf most (l ++ s) = tf most l := by
  unfold tf
  rw [hd_app l s h, getD_app h0, if_neg (show ¬ (l ++ s).length = 0 by rw [List.length_append]; omega), if_neg (show ¬ l.length = 0 by omega)]
theorem tf_app (most : Nat) (l s : List UInt8) (h : tf most l ≠ 0) : tf most (l ++ s) = tf most l := by
  have h0 : 0 < l.length := by
    rcases Nat.eq_zero_or_pos l.length with h0 | h0
    · exact absurd (by rw [tf, if_pos h0]) h
    · exact h0
  by_cases h4 : (hd l).2.2.2 = 4
  · have hb : l.getD 0 0 ≠ 48 := by
      intro hb
      apply h
      rw [tf, if_neg (by omega), if_neg (by simpa using hb), if_neg (by omega), if_pos h4]
    unfold tf
    rw [if_neg (show ¬ (l ++ s).length = 0 by rw [List.length_append]; omega), getD_app h0, if_pos hb, if_neg (show ¬ l.length = 0 by omega), if_pos hb]
  · exact tf_hd most l s h0 h4

/-- What is left, with the error. -/
abbrev FS := List UInt8 × Nat
/-- Bytes come. -/
def fFeed (most : Nat) (x : FS) (s : List UInt8) : FS := if x.2 ≠ 0 then x else (x.1 ++ s, tf most (x.1 ++ s))
/-- A message; false: there is none. -/
def fNext (most : Nat) (x : FS) : FS × List UInt8 × Bool :=
  if x.2 ≠ 0 then (x, [], false) else
  if (rd x.1).2.2.2 ≠ 0 then (x, [], false) else
  ((x.1.drop (rd x.1).2.2.1, tf most (x.1.drop (rd x.1).2.2.1)), x.1.take (rd x.1).2.2.1, true)
/-- What is left has told its error. -/
def toldF (most : Nat) (x : FS) : Prop := x.2 ≠ 0 ∨ tf most x.1 = 0
theorem told_feed (most : Nat) (x : FS) (s : List UInt8) : toldF most (fFeed most x s) := by
  unfold fFeed toldF
  split
  · rename_i h; exact .inl h
  · by_cases h : tf most (x.1 ++ s) = 0
    · exact .inr h
    · exact .inl h
theorem told_next (most : Nat) (x : FS) (h : toldF most x) : toldF most (fNext most x).1 := by
  unfold fNext
  split
  · exact h
  · split
    · exact h
    · unfold toldF
      by_cases h : tf most (x.1.drop (rd x.1).2.2.1) = 0
      · exact .inr h
      · exact .inl h

/-- All that is told, with what is left and the error. -/
def drF (most : Nat) : Nat → FS → List (List UInt8) × FS
  | 0, x => ([], x)
  | f + 1, x => if (fNext most x).2.2 = false then ([], x) else ((fNext most x).2.1 :: (drF most f (fNext most x).1).1, (drF most f (fNext most x).1).2)
/-- All messages at the beginning of bytes, with what is left and the error. -/
def dr (most : Nat) (x : FS) : List (List UInt8) × FS := drF most x.1.length x

theorem next_yes {most : Nat} {l : List UInt8} {t sz : Nat} {b : List UInt8} (h : rd l = (t, b, sz, 0)) : fNext most (l, 0) = ((l.drop sz, tf most (l.drop sz)), l.take sz, true) := by
  unfold fNext
  rw [if_neg (by simp), h, if_neg (by simp)]
theorem next_no {most : Nat} {x : FS} (h : x.2 ≠ 0 ∨ (rd x.1).2.2.2 ≠ 0) : fNext most x = (x, [], false) := by
  unfold fNext
  by_cases h1 : x.2 ≠ 0
  · rw [if_pos h1]
  · have h2 : (rd x.1).2.2.2 ≠ 0 := by
      rcases h with h | h
      · exact absurd h h1
      · exact h
    rw [if_neg h1, if_pos h2]
theorem drF_no {most f : Nat} {x : FS} (h : x.2 ≠ 0 ∨ (rd x.1).2.2.2 ≠ 0) : drF most f x = ([], x) := by
  cases f with
  | zero => rfl
  | succ f => rw [drF, next_no h, if_pos rfl]
theorem rd_nil : rd [] = (0, [], 0, 4) := by simp [rd, hd]
/-- More rounds than bytes change nothing. -/
theorem drF_fuel (most : Nat) : ∀ (f : Nat) (x : FS), x.1.length ≤ f → drF most f x = dr most x := by
  intro f
  induction f using Nat.strongRecOn with
  | _ f ih =>
    intro x hf
    unfold dr
    by_cases h : x.2 ≠ 0 ∨ (rd x.1).2.2.2 ≠ 0
    · rw [drF_no h, drF_no h]
    · obtain ⟨l, e⟩ := x
      have he : e = 0 := by
        by_cases he : e = 0
        · exact he
        · exact absurd (.inl he) h
      have hr0 : (rd l).2.2.2 = 0 := by
        by_cases hr : (rd l).2.2.2 = 0
        · exact hr
        · exact absurd (.inr hr) h
      subst he
      obtain ⟨t, b, sz, e, hr⟩ : ∃ t b sz e, rd l = (t, b, sz, e) := ⟨_, _, _, _, rfl⟩
      rw [hr] at hr0
      obtain rfl : e = 0 := hr0
      obtain ⟨hz1, hz2⟩ := rd_bd _ _ _ _ hr
      simp only at hf ⊢
      obtain ⟨g, rfl⟩ : ∃ g, f = g + 1 := ⟨f - 1, by omega⟩
      obtain ⟨k, hk⟩ : ∃ k, l.length = k + 1 := ⟨l.length - 1, by omega⟩
      rw [hk, drF, drF, next_yes hr]
      simp only [Bool.true_eq_false, if_false]
      have h1 := ih g (by omega) (l.drop sz, tf most (l.drop sz)) (by simp; omega)
      have h2 := ih k (by omega) (l.drop sz, tf most (l.drop sz)) (by simp; omega)
      rw [h1, h2]
theorem dr_no {most : Nat} {x : FS} (h : x.2 ≠ 0 ∨ (rd x.1).2.2.2 ≠ 0) : dr most x = ([], x) := drF_no h
theorem dr_yes {most : Nat} {l : List UInt8} {t sz : Nat} {b : List UInt8} (h : rd l = (t, b, sz, 0)) :
    dr most (l, 0) = (l.take sz :: (dr most (l.drop sz, tf most (l.drop sz))).1, (dr most (l.drop sz, tf most (l.drop sz))).2) := by
  obtain ⟨hz1, hz2⟩ := rd_bd _ _ _ _ h
  obtain ⟨k, hk⟩ : ∃ k, l.length = k + 1 := ⟨l.length - 1, by omega⟩
  have h1 := drF_fuel most k (l.drop sz, tf most (l.drop sz)) (by simp; omega)
  rw [dr, hk, drF, next_yes h]
  simp only [Bool.true_eq_false, if_false]
  rw [h1]
/-- One piece more: what was told stays, and what is left goes on with it. -/
theorem dr_app (most : Nat) (s : List UInt8) : ∀ (n : Nat) (l : List UInt8), l.length ≤ n →
    (dr most (l ++ s, tf most (l ++ s))).1 = (dr most (l, tf most l)).1 ++ (dr most (fFeed most (dr most (l, tf most l)).2 s)).1 ∧
    (dr most (l ++ s, tf most (l ++ s))).2.2 = (dr most (fFeed most (dr most (l, tf most l)).2 s)).2.2 := by
  intro n
  induction n with
  | zero =>
    intro l hl
    obtain rfl := List.eq_nil_of_length_eq_zero (Nat.le_zero.1 hl)
    have h0 : dr most ([], tf most []) = ([], [], 0) := dr_no (.inr (by rw [rd_nil]; simp))
    rw [h0]
    simp [fFeed]
  | succ n ih =>
    intro l hl
    by_cases he : tf most l = 0
    · obtain ⟨t, b, sz, e, hr⟩ : ∃ t b sz e, rd l = (t, b, sz, e) := ⟨_, _, _, _, rfl⟩
      by_cases h0 : e = 0
      · subst h0
        obtain ⟨hz1, hz2⟩ := rd_bd _ _ _ _ hr
        have he2 : tf most (l ++ s) = 0 := by
          rw [tf_hd most l s (by omega) (by rw [hd_of_rd l t sz b hr]; decide)]; exact he
        have ha := rd_app l s t sz b hr
        rw [he, he2, dr_yes ha, dr_yes hr, List.drop_append_of_le_length hz2, List.take_append_of_le_length hz2]
        obtain ⟨i1, i2⟩ := ih (l.drop sz) (by simp; omega)
        simp only
        rw [i1, i2]
        simp
      · have hn : dr most (l, tf most l) = ([], l, 0) := by
          rw [he]; exact dr_no (.inr (by rw [hr]; exact h0))
        rw [hn]
        simp [fFeed]
    · have hn : dr most (l, tf most l) = ([], l, tf most l) := dr_no (.inl he)
      have ha := tf_app most l s he
      rw [hn, ha, dr_no (.inl he)]
      simp only [fFeed]
      rw [if_pos he, dr_no (.inl he)]
      simp
theorem dr_pieces (most : Nat) (l s : List UInt8) (x : FS) (hx : dr most (l, tf most l) = (([] : List (List UInt8)) ++ (dr most (l, tf most l)).1, x)) :
    (dr most (l ++ s, tf most (l ++ s))).1 = (dr most (l, tf most l)).1 ++ (dr most (fFeed most x s)).1 ∧ (dr most (l ++ s, tf most (l ++ s))).2.2 = (dr most (fFeed most x s)).2.2 := by
  have h := dr_app most s l.length l (Nat.le_refl _)
  have : (dr most (l, tf most l)).2 = x := by rw [hx]
  rw [this] at h
  exact h
end Go.Proofs.Ytgihggaokamonaa
