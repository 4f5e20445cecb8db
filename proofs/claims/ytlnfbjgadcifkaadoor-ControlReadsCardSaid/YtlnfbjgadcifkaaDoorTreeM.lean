/- Plain facts on bytes within bytes: how many levels there are, and the first error. -/
import Derived.Test.YtlnfbjgadcifkaaDoorBerP
namespace Go.Proofs.YtlnfbjgadcifkaaDoor
open Go.RowKit Go.Proofs.BerM Go.Proofs.BerK Go.Proofs.MemK

/-- A tag with its body. -/
abbrev TB := Nat × List UInt8
/-- The parts of a tag with its body; the error. -/
def pt (x : TB) : List TB × Nat := if x.1 / 32 % 2 = 0 then ([], 0) else al x.2
/-- The deepest of a row, each one measured by g; the error of the first one that has one. -/
def dpL (g : TB → Nat × Nat) : List TB → Nat → Nat × Nat
  | [], d => (d, 0)
  | x :: L, d => if (g x).2 ≠ 0 then (0, (g x).2) else dpL g L (max d (g x).1)
/-- The levels of one, at most so many; the error. -/
def dp1 : Nat → TB → Nat × Nat
  | 0 => fun _ => (0, 7)
  | m + 1 => fun x =>
    if (pt x).2 ≠ 0 then (0, (pt x).2) else
    if (dpL (dp1 m) (pt x).1 0).2 ≠ 0 then (0, (dpL (dp1 m) (pt x).1 0).2) else
    ((dpL (dp1 m) (pt x).1 0).1 + 1, 0)
/-- The first error of a row of bytes, each one asked by g. -/
def ckL (g : List UInt8 → Nat) : List TB → Nat
  | [] => 0
  | x :: L => if g (putL x.1 x.2) ≠ 0 then g (putL x.1 x.2) else ckL g L
/-- What is wrong with bytes that may have so many levels. -/
def ck : Nat → List UInt8 → Nat
  | 0 => fun _ => 7
  | m + 1 => fun l =>
    if (rd l).2.2.2 ≠ 0 then (rd l).2.2.2 else
    if (rd l).2.2.1 < l.length then 5 else
    if (rd l).1 / 32 % 2 = 0 then 0 else
    if (al (rd l).2.1).2 ≠ 0 then (al (rd l).2.1).2 else
    ckL (ck m) (al (rd l).2.1).1
/-- The levels of bytes, at most so many; the error. -/
def ms (m : Nat) (l : List UInt8) : Nat × Nat :=
  if m = 0 then (0, 7) else
  if (rd l).2.2.2 ≠ 0 then (0, (rd l).2.2.2) else
  if (rd l).2.2.1 < l.length then (0, 5) else
  dp1 m ((rd l).1, (rd l).2.1)

theorem dp1_succ (m : Nat) (x : TB) : dp1 (m + 1) x =
    if (pt x).2 ≠ 0 then (0, (pt x).2) else
    if (dpL (dp1 m) (pt x).1 0).2 ≠ 0 then (0, (dpL (dp1 m) (pt x).1 0).2) else
    ((dpL (dp1 m) (pt x).1 0).1 + 1, 0) := rfl
theorem ck_succ (m : Nat) (l : List UInt8) : ck (m + 1) l =
    if (rd l).2.2.2 ≠ 0 then (rd l).2.2.2 else
    if (rd l).2.2.1 < l.length then 5 else
    if (rd l).1 / 32 % 2 = 0 then 0 else
    if (al (rd l).2.1).2 ≠ 0 then (al (rd l).2.1).2 else
    ckL (ck m) (al (rd l).2.1).1 := rfl

/-- A tag that may be, with a body that may be. -/
def goodTB (x : TB) : Prop := tagB (x.1 : Int) = true ∧ x.2.length ≤ 65536

theorem rd_good (l : List UInt8) (t sz : Nat) (b : List UInt8) (h : rd l = (t, b, sz, 0)) : goodTB (t, b) ∧ b.length ≤ l.length := by
  rw [rd] at h
  split at h
  · rename_i h1; simp only [Prod.mk.injEq] at h; exact absurd h.2.2.2 h1
  · split at h
    · simp at h
    · rename_i h1 h2
      simp only [Prod.mk.injEq] at h
      have hb := hd_bd l (hd l).1 (hd l).2.1 (hd l).2.2.1 (by apply Prod.ext; rfl; apply Prod.ext; rfl; apply Prod.ext; rfl; simpa using h1)
      obtain ⟨hb1, hb2, hb3, hb4, hb5, hb6⟩ := hb
      rw [← h.1, ← h.2.1]
      refine ⟨⟨hb6, ?_⟩, ?_⟩ <;> simp only [List.length_take, List.length_drop] <;> omega
theorem good_t {x : TB} (h : goodTB x) : x.1 ≤ 254 := by have := tagB_bd h.1; omega

theorem alF_good (f : Nat) : ∀ (l : List UInt8) (acc : List TB), (∀ x ∈ acc, goodTB x) → acc.length ≤ 1024 → (∀ x ∈ (alF f l acc).1, goodTB x) ∧ (alF f l acc).1.length ≤ 1024 := by
  induction f with
  | zero => intro l acc h h2; exact ⟨h, h2⟩
  | succ f ih =>
    intro l acc h h2
    rw [alF]
    split
    · exact ⟨h, h2⟩
    · split
      · simp
      · split
        · simp
        · rename_i h1 h3 h4
          obtain ⟨t, b, sz, e, hr⟩ : ∃ t b sz e, rd l = (t, b, sz, e) := ⟨_, _, _, _, rfl⟩
          rw [hr] at h3 ⊢
          obtain rfl : e = 0 := by simpa using h3
          have hg := rd_good l t sz b hr
          refine ih _ _ ?_ (by simp; omega)
          intro x hx
          rcases List.mem_append.1 hx with hx | hx
          · exact h x hx
          · obtain rfl := List.mem_singleton.1 hx
            exact hg.1
theorem al_good (l : List UInt8) : (∀ x ∈ (al l).1, goodTB x) ∧ (al l).1.length ≤ 1024 := alF_good _ _ _ (by simp) (by simp)
theorem pt_good (x : TB) : (∀ y ∈ (pt x).1, goodTB y) ∧ (pt x).1.length ≤ 1024 := by
  unfold pt; split
  · simp
  · exact al_good _

/-! ### The first error is the same -/
theorem dpL_ckL (g : TB → Nat × Nat) (c : List UInt8 → Nat) : ∀ (L : List TB) (d : Nat), (∀ x ∈ L, (g x).2 = c (putL x.1 x.2)) → (dpL g L d).2 = ckL c L := by
  intro L
  induction L with
  | nil => intro d _; rfl
  | cons x L ih =>
    intro d h
    have hx := h x (by simp)
    rw [dpL, ckL, hx]
    split
    · rfl
    · exact ih _ fun y hy => h y (by simp [hy])
theorem rd_put' (x : TB) (h : goodTB x) : rd (putL x.1 x.2) = (x.1, x.2, (putL x.1 x.2).length, 0) := by
  have := rd_put x.1 x.2 [] h.1 h.2
  rw [List.append_nil] at this
  rw [this]; rfl
theorem dp1_ck (m : Nat) : ∀ x : TB, goodTB x → (dp1 m x).2 = ck m (putL x.1 x.2) := by
  induction m with
  | zero => intro x _; rfl
  | succ m ih =>
    intro x h
    rw [dp1_succ, ck_succ, rd_put' x h]
    simp only [ne_eq, not_true_eq_false, if_false, Nat.lt_irrefl]
    have hg := pt_good x
    have key := dpL_ckL (dp1 m) (ck m) (pt x).1 0 fun y hy => ih y (hg.1 y hy)
    by_cases h32 : x.1 / 32 % 2 = 0
    · have hp : pt x = ([], 0) := by rw [pt, if_pos h32]
      rw [if_pos h32, hp]; rfl
    · have hp : pt x = al x.2 := by rw [pt, if_neg h32]
      rw [if_neg h32]
      rw [hp] at key ⊢
      by_cases he : (al x.2).2 = 0
      · rw [if_neg (show ¬ ¬ (al x.2).2 = 0 by omega), if_neg (show ¬ ¬ (al x.2).2 = 0 by omega), ← key]
        by_cases h0 : (dpL (dp1 m) (al x.2).1 0).2 = 0
        · rw [if_neg (show ¬ ¬ (dpL (dp1 m) (al x.2).1 0).2 = 0 by omega), h0]
        · rw [if_pos h0]
      · rw [if_pos he, if_pos he]
theorem ms_ck (m : Nat) (l : List UInt8) : (ms m l).2 = ck m l := by
  cases m with
  | zero => rfl
  | succ m =>
    obtain ⟨t, b, sz, e, hr⟩ : ∃ t b sz e, rd l = (t, b, sz, e) := ⟨_, _, _, _, rfl⟩
    rw [ms, ck_succ, hr, if_neg (by omega)]
    by_cases he : e = 0
    · subst he
      simp only [ne_eq, not_true_eq_false, if_false]
      by_cases hs : sz < l.length
      · rw [if_pos hs, if_pos hs]
      · rw [if_neg hs, if_neg hs]
        have hg := (rd_good l t sz b hr).1
        have h1 := dp1_ck (m + 1) (t, b) hg
        rw [ck_succ, rd_put' _ hg] at h1
        simpa using h1
    · rw [if_pos he, if_pos he]

/-! ### How many levels there are -/
theorem dpL_ok (g : TB → Nat × Nat) : ∀ (L : List TB) (a r : Nat), dpL g L a = (r, 0) → a ≤ r ∧ (∀ x ∈ L, (g x).2 = 0 ∧ (g x).1 ≤ r) ∧ (r = a ∨ ∃ x ∈ L, (g x).1 = r) := by
  intro L
  induction L with
  | nil => intro a r h; simp only [dpL, Prod.mk.injEq] at h; simp [h.1]
  | cons x L ih =>
    intro a r h
    rw [dpL] at h
    split at h
    · rename_i h1; simp only [Prod.mk.injEq] at h; exact absurd h.2 h1
    · rename_i h1
      obtain ⟨h2, h3, h4⟩ := ih _ _ h
      refine ⟨by omega, ?_, ?_⟩
      · intro y hy
        rcases List.mem_cons.1 hy with rfl | hy
        · exact ⟨by omega, by omega⟩
        · exact h3 y hy
      · rcases h4 with h4 | ⟨y, hy, h4⟩
        · by_cases hm : a ≤ (g x).1
          · exact .inr ⟨x, by simp, by omega⟩
          · exact .inl (by omega)
        · exact .inr ⟨y, by simp [hy], h4⟩
theorem dpL_congr (g g' : TB → Nat × Nat) : ∀ (L : List TB) (a : Nat), (∀ x ∈ L, g x = g' x) → dpL g L a = dpL g' L a := by
  intro L
  induction L with
  | nil => intro a _; rfl
  | cons x L ih =>
    intro a h
    rw [dpL, dpL, h x (by simp), ih _ fun y hy => h y (by simp [hy])]
theorem dp1_zero_err (m : Nat) (x : TB) (h : (dp1 m x).2 ≠ 0) : (dp1 m x).1 = 0 := by
  cases m with
  | zero => rfl
  | succ m =>
    rw [dp1_succ] at h ⊢
    split
    · rfl
    · split
      · rfl
      · rename_i h1 h2; rw [if_neg h1, if_neg h2] at h; exact absurd rfl h
theorem pair_of {a : Nat × Nat} {d e : Nat} (h1 : a.1 = d) (h2 : a.2 = e) : a = (d, e) := by cases a; simp_all
theorem dp1_mono (m : Nat) : ∀ (x : TB) (d : Nat), dp1 m x = (d, 0) → 1 ≤ d ∧ d ≤ m ∧ ∀ m', d ≤ m' → dp1 m' x = (d, 0) := by
  induction m with
  | zero => intro x d h; simp [dp1] at h
  | succ m ih =>
    intro x d h
    rw [dp1_succ] at h
    split at h
    · rename_i h1; simp only [Prod.mk.injEq] at h; exact absurd h.2 h1
    · split at h
      · rename_i h1; simp only [Prod.mk.injEq] at h; exact absurd h.2 h1
      · rename_i h1 h2
        simp only [Prod.mk.injEq] at h
        obtain ⟨r, hr⟩ : ∃ r, dpL (dp1 m) (pt x).1 0 = (r, 0) := ⟨_, pair_of rfl (by omega)⟩
        rw [hr] at h
        obtain ⟨k1, k2, k3⟩ := dpL_ok _ _ _ _ hr
        have hrm : r ≤ m := by
          rcases k3 with rfl | ⟨y, hy, hy2⟩
          · omega
          · have := ih y r (pair_of hy2 (k2 y hy).1); omega
        refine ⟨by omega, by omega, ?_⟩
        intro m' hm'
        obtain ⟨m2, rfl⟩ : ∃ m2, m' = m2 + 1 := ⟨m' - 1, by omega⟩
        have hc : dpL (dp1 m2) (pt x).1 0 = (r, 0) := by
          rw [← hr]
          apply dpL_congr
          intro y hy
          have hy1 := k2 y hy
          have h5 := ih y (dp1 m y).1 (pair_of rfl hy1.1)
          rw [h5.2.2 m2 (by omega)]
          exact (pair_of rfl hy1.1).symm
        rw [dp1_succ, if_neg h1, hc, if_neg (by simp)]
        simp only [Prod.mk.injEq]; omega
theorem ms_mono (m : Nat) (l : List UInt8) (d : Nat) (h : ms m l = (d, 0)) : 1 ≤ d ∧ d ≤ m ∧ ∀ m', d ≤ m' → ms m' l = (d, 0) := by
  rw [ms] at h
  split at h
  · simp at h
  · split at h
    · rename_i h1; simp only [Prod.mk.injEq] at h; exact absurd h.2 h1
    · split at h
      · simp at h
      · rename_i h0 h1 h2
        have := dp1_mono m _ d h
        refine ⟨this.1, this.2.1, fun m' hm' => ?_⟩
        rw [ms, if_neg (by omega), if_neg h1, if_neg h2]
        exact this.2.2 m' hm'
theorem ms_zero_err (m : Nat) (l : List UInt8) (h : (ms m l).2 ≠ 0) : (ms m l).1 = 0 := by
  rw [ms] at h ⊢
  split
  · rfl
  · split
    · rfl
    · split
      · rfl
      · rename_i h0 h1 h2; rw [if_neg h0, if_neg h1, if_neg h2] at h; exact dp1_zero_err _ _ h
/-- The levels of bytes; 0, if there are none. -/
def dpth (l : List UInt8) : Nat := (ms 64 l).1
/-- The least number of levels that is enough is how many there are. -/
theorem ck_dpth (l : List UInt8) (m : Nat) (h : m ≤ 64) : ck m l = 0 ↔ 1 ≤ dpth l ∧ dpth l ≤ m := by
  rw [← ms_ck]
  unfold dpth
  constructor
  · intro hz
    have h1 := ms_mono m l (ms m l).1 (pair_of rfl hz)
    have h2 := h1.2.2 64 (by omega)
    rw [h2]; exact ⟨h1.1, h1.2.1⟩
  · rintro ⟨h1, h2⟩
    by_cases he : (ms 64 l).2 = 0
    · have h3 := ms_mono 64 l (ms 64 l).1 (pair_of rfl he)
      rw [h3.2.2 m h2]
    · have := ms_zero_err 64 l he
      omega
theorem dpth_le (l : List UInt8) : dpth l ≤ 64 := by
  unfold dpth
  by_cases he : (ms 64 l).2 = 0
  · exact (ms_mono 64 l (ms 64 l).1 (pair_of rfl he)).2.1
  · have := ms_zero_err 64 l he
    omega

/-! ### Bytes in a row -/
theorem dpth_pos (l : List UInt8) (h : dpth l ≠ 0) : ∃ t b, rd l = (t, b, l.length, 0) ∧ dp1 64 (t, b) = (dpth l, 0) ∧ l = putL t b ∧ goodTB (t, b) := by
  have he : (ms 64 l).2 = 0 := by
    by_cases he : (ms 64 l).2 = 0
    · exact he
    · exact absurd (ms_zero_err 64 l he) h
  have h1 : ms 64 l = (dpth l, 0) := pair_of rfl he
  obtain ⟨t, b, sz, e, hr⟩ : ∃ t b sz e, rd l = (t, b, sz, e) := ⟨_, _, _, _, rfl⟩
  rw [ms, hr, if_neg (by omega)] at h1
  split at h1
  · rename_i h2; simp only [Prod.mk.injEq] at h1; exact absurd h1.2 h2
  · split at h1
    · simp at h1
    · rename_i h2 h3
      obtain rfl : e = 0 := by simpa using h2
      have h4 := put_rd l t sz b hr
      obtain rfl : sz = l.length := by have := h4.2.2.1; simp only at h3; omega
      refine ⟨t, b, hr, h1, ?_, (rd_good _ _ _ _ hr).1⟩
      rw [h4.1, List.take_length]
theorem alF_cat : ∀ (f : Nat) (L : List TB) (acc : List TB), (∀ x ∈ L, goodTB x) → acc.length + L.length ≤ 1024 → (L.flatMap fun x => putL x.1 x.2).length ≤ f → alF f (L.flatMap fun x => putL x.1 x.2) acc = (acc ++ L, 0) := by
  intro f L
  induction L generalizing f with
  | nil => intro acc _ _ _; rw [List.append_nil]; exact alF_done _ _ _ rfl
  | cons x L ih =>
    intro acc h h2 h3
    have hx := h x (by simp)
    have hr := rd_put x.1 x.2 (L.flatMap fun x => putL x.1 x.2) hx.1 hx.2
    have h0 := rd_bd _ _ _ _ hr
    rw [List.flatMap_cons] at h3 ⊢
    have hq : (putL x.1 x.2).length ≥ 2 := h0.1
    simp only [List.length_append, List.length_cons] at h3 h2
    obtain ⟨g, rfl⟩ : ∃ g, f = g + 1 := ⟨f - 1, by omega⟩
    rw [alF_step g _ acc (by simp; omega) _ _ _ hr (by omega), List.drop_left' rfl]
    have : ((x.1 : Int).toNat, x.2) = x := rfl
    rw [this, ih g (acc ++ [x]) (fun y hy => h y (by simp [hy])) (by simp; omega) (by omega)]
    simp
theorem al_cat (L : List TB) (h : ∀ x ∈ L, goodTB x) (h2 : L.length ≤ 1024) : al (L.flatMap fun x => putL x.1 x.2) = (L, 0) := by
  rw [al, alF_cat _ L [] h (by simpa using h2) (Nat.le_refl _)]; rfl
/-- The deepest of texts. -/
def deepL (l : List (List UInt8)) : Nat := l.foldl (fun d x => max d (dpth x)) 0
theorem tbs_of : ∀ l : List (List UInt8), (∀ x ∈ l, dpth x ≠ 0) → ∃ L : List TB, L.length = l.length ∧ (∀ x ∈ L, goodTB x) ∧ (L.flatMap fun x => putL x.1 x.2) = l.flatten ∧ ∀ a, (∀ x ∈ l, dpth x ≤ 63) → dpL (dp1 63) L a = (l.foldl (fun d x => max d (dpth x)) a, 0) := by
  intro l
  induction l with
  | nil => intro _; exact ⟨[], rfl, by simp, rfl, fun a _ => rfl⟩
  | cons s l ih =>
    intro h
    obtain ⟨L, h1, h2, h3, h4⟩ := ih fun x hx => h x (by simp [hx])
    obtain ⟨t, b, k1, k2, k3, k4⟩ := dpth_pos s (h s (by simp))
    refine ⟨(t, b) :: L, by simp [h1], ?_, ?_, ?_⟩
    · intro x hx
      rcases List.mem_cons.1 hx with rfl | hx
      · exact k4
      · exact h2 x hx
    · rw [List.flatMap_cons, h3, List.flatten_cons]
      rw [← k3]
    · intro a ha
      have h63 := ha s (by simp)
      have hd := (dp1_mono 64 _ _ k2).2.2 63 h63
      rw [dpL, hd, if_neg (by simp), h4 _ fun x hx => ha x (by simp [hx])]
      rfl
theorem foldl_max_ge : ∀ (l : List (List UInt8)) (a : Nat), a ≤ l.foldl (fun d x => max d (dpth x)) a ∧ ∀ x ∈ l, dpth x ≤ l.foldl (fun d x => max d (dpth x)) a := by
  intro l
  induction l with
  | nil => intro a; simp
  | cons s l ih =>
    intro a
    obtain ⟨h1, h2⟩ := ih (max a (dpth s))
    rw [List.foldl_cons]
    refine ⟨by omega, fun x hx => ?_⟩
    rcases List.mem_cons.1 hx with rfl | hx
    · omega
    · exact h2 x hx
/-- Bytes in a row are one deeper than the deepest part. -/
theorem dpth_seq (l : List (List UInt8)) (h : ∀ x ∈ l, dpth x ≠ 0) (hn : l.length ≤ 1024) (hs : l.flatten.length ≤ 65536) (hd : deepL l ≤ 63) : dpth (putL 48 l.flatten) = deepL l + 1 := by
  obtain ⟨L, h1, h2, h3, h4⟩ := tbs_of l h
  have h5 : dpL (dp1 63) L 0 = (deepL l, 0) := h4 0 fun x hx => Nat.le_trans ((foldl_max_ge l 0).2 x hx) hd
  have hg : goodTB (48, l.flatten) := ⟨by show tagB 48 = true; decide, hs⟩
  have hr := rd_put' (48, l.flatten) hg
  have hp : pt (48, l.flatten) = (L, 0) := by
    rw [pt, if_neg (show ¬ (48 : Nat) / 32 % 2 = 0 by decide), ← h3]
    exact al_cat L h2 (by omega)
  unfold dpth
  rw [ms, show putL (48 : Int) l.flatten = putL ((48, l.flatten) : TB).1 ((48, l.flatten) : TB).2 from rfl, hr, if_neg (by omega), if_neg (by simp), if_neg (by simp)]
  rw [show (64 : Nat) = 63 + 1 from rfl, dp1_succ, hp, h5]
  simp
end Go.Proofs.YtlnfbjgadcifkaaDoor
