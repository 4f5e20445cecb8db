/- Plain facts on texts that count as the same: small letters, blanks, numbers' texts and their order. Names as texts, plainly: over lists of bytes, of no program. Names read, plainly. Plain facts on values that count as the same: which are equal, which is no greater, which has which parts. Plain facts on types, classes and entries: which there are, and whether an entry may be by them. Plain facts on tables of types and classes: the place of a name. -/
import Derived.WalkKit
import Derived.Lib.IndexMore
import Derived.Lib.IndexLaws
import Derived.Lib.Strings
namespace Go.Proofs.YtbihhdkmmlldnaaGreatDoor

/-! ### Small letters -/
/-- A small letter for a great one. -/
def low1 (c : UInt8) : UInt8 := if 65 ≤ c.toNat ∧ c.toNat ≤ 90 then UInt8.ofNat (c.toNat + 32) else c
def lowL (l : List UInt8) : List UInt8 := l.map low1
theorem low1_toNat (c : UInt8) : (low1 c).toNat = if 65 ≤ c.toNat ∧ c.toNat ≤ 90 then c.toNat + 32 else c.toNat := by
  unfold low1
  split
  · rename_i h
    rw [UInt8.toNat_ofNat']; omega
  · rfl
theorem low1_low1 (c : UInt8) : low1 (low1 c) = low1 c := by
  apply UInt8.toNat_inj.1
  rw [low1_toNat (low1 c), low1_toNat c]
  by_cases h : 65 ≤ c.toNat ∧ c.toNat ≤ 90
  · rw [if_pos h, if_neg (by omega)]
  · rw [if_neg h, if_neg h]
theorem low1_blank (c : UInt8) : (low1 c = 32) ↔ (c = 32) := by
  constructor
  · intro h
    have h1 := congrArg UInt8.toNat h
    rw [low1_toNat] at h1
    apply UInt8.toNat_inj.1
    show c.toNat = 32
    have : (32 : UInt8).toNat = 32 := rfl
    split at h1 <;> omega
  · rintro rfl; rfl
theorem lowL_lowL (l : List UInt8) : lowL (lowL l) = lowL l := by
  simp [lowL, low1_low1]
theorem lowL_length (l : List UInt8) : (lowL l).length = l.length := by simp [lowL]

/-! ### Blanks -/
/-- Does something begin with a byte that is no blank? -/
def hdn : List UInt8 → Bool
  | [] => false
  | c :: _ => c != 32
/-- Without the blanks at both ends, one in place of some; ne: is there something ahead? -/
def bl : Bool → List UInt8 → List UInt8
  | _, [] => []
  | ne, c :: r => if c ≠ 32 then c :: bl true r else if ne = true ∧ hdn r = true then 32 :: bl ne r else bl ne r
def blL (l : List UInt8) : List UInt8 := bl false l
/-- There is nothing to be left out. -/
def okB : Bool → List UInt8 → Prop
  | _, [] => True
  | ne, c :: r => if c ≠ 32 then okB true r else ne = true ∧ hdn r = true ∧ okB true r
theorem bl_hdn (ne : Bool) (l : List UInt8) (h : hdn l = true) : hdn (bl ne l) = true := by
  cases l with
  | nil => simp [hdn] at h
  | cons c r =>
    have hc : c ≠ 32 := by simpa [hdn] using h
    rw [bl, if_pos hc]; simpa [hdn] using hc
theorem bl_ok (l : List UInt8) : ∀ ne, okB ne (bl ne l) := by
  induction l with
  | nil => intro ne; trivial
  | cons c r ih =>
    intro ne
    rw [bl]
    split
    · rename_i hc
      rw [okB, if_pos hc]; exact ih true
    · split
      · rename_i hc h
        obtain ⟨rfl, h2⟩ := h
        rw [okB, if_neg (by simp)]
        exact ⟨rfl, bl_hdn _ _ h2, ih true⟩
      · exact ih ne
theorem ok_bl (l : List UInt8) : ∀ ne, okB ne l → bl ne l = l := by
  induction l with
  | nil => intro ne _; rfl
  | cons c r ih =>
    intro ne h
    rw [okB] at h
    rw [bl]
    split
    · rename_i hc
      rw [if_pos hc] at h
      rw [ih true h]
    · rename_i hc
      rw [if_neg hc] at h
      obtain ⟨rfl, h2, h3⟩ := h
      rw [if_pos ⟨rfl, h2⟩, ih true h3]
      simp only [ne_eq, Decidable.not_not] at hc
      rw [hc]
theorem blL_blL (l : List UInt8) : blL (blL l) = blL l := ok_bl _ _ (bl_ok _ _)
theorem bl_length (l : List UInt8) : ∀ ne, (bl ne l).length ≤ l.length := by
  induction l with
  | nil => intro ne; simp [bl]
  | cons c r ih =>
    intro ne
    rw [bl]
    split
    · have := ih true; simp; omega
    · split
      · have := ih ne; simp; omega
      · have := ih ne; simp; omega
theorem blL_length (l : List UInt8) : (blL l).length ≤ l.length := bl_length l false
theorem hdn_low (l : List UInt8) : hdn (lowL l) = hdn l := by
  cases l with
  | nil => rfl
  | cons c r =>
    show (low1 c != 32) = (c != 32)
    rw [Bool.eq_iff_iff, bne_iff_ne, bne_iff_ne]
    exact not_congr (low1_blank c)
theorem low_bl (l : List UInt8) : ∀ ne, lowL (bl ne l) = bl ne (lowL l) := by
  induction l with
  | nil => intro ne; rfl
  | cons c r ih =>
    intro ne
    have hcons : lowL (c :: r) = low1 c :: lowL r := rfl
    rw [hcons, bl, bl, hdn_low]
    by_cases hc : c = 32
    · subst hc
      have h32 : low1 32 = 32 := rfl
      rw [h32]
      simp only [ne_eq, not_true_eq_false, if_false]
      split
      · rw [← ih ne]; rfl
      · exact ih ne
    · rw [if_pos hc, if_pos (fun h => hc ((low1_blank c).1 h)), ← ih true]; rfl
/-- Both. -/
def foldL (l : List UInt8) : List UInt8 := lowL (blL l)
theorem foldL_foldL (l : List UInt8) : foldL (foldL l) = foldL l := by
  unfold foldL
  rw [show blL (lowL (blL l)) = lowL (blL (blL l)) from (low_bl _ _).symm, blL_blL, lowL_lowL]
theorem foldL_length (l : List UInt8) : (foldL l).length ≤ l.length := by
  unfold foldL
  rw [lowL_length]; exact blL_length l

/-! ### Numbers' texts -/
def digB (c : UInt8) : Bool := decide (48 ≤ c.toNat) && decide (c.toNat ≤ 57)
/-- Without zeros ahead. -/
def strip : List UInt8 → List UInt8
  | [] => []
  | [c] => [c]
  | c :: d :: r => if c = 48 then strip (d :: r) else c :: d :: r
/-- The digits behind a minus, if there is one. -/
def digs (l : List UInt8) : List UInt8 := if l.head? = some 45 then l.drop 1 else l
/-- May it be a number? -/
def intOk (l : List UInt8) : Bool := decide (1 ≤ (digs l).length) && decide ((digs l).length ≤ 32) && (digs l).all digB
/-- A number's text; false: it is none. -/
def intL (l : List UInt8) : List UInt8 × Bool :=
  if intOk l = false then ([], false) else
  if strip (digs l) = [48] then ([48], true) else
  ((if l.head? = some 45 then [45] else []) ++ strip (digs l), true)
/-- Digits without zeros ahead. -/
def canD (z : List UInt8) : Prop := z.length ≤ 32 ∧ z.all digB = true ∧ ((∃ c, z = [c]) ∨ ∃ c d r, z = c :: d :: r ∧ c ≠ 48)
theorem strip_can (l : List UInt8) (h0 : 1 ≤ l.length) (h1 : l.length ≤ 32) (h2 : l.all digB = true) : canD (strip l) := by
  induction l with
  | nil => simp at h0
  | cons c r ih =>
    cases r with
    | nil => exact ⟨h1, h2, .inl ⟨c, rfl⟩⟩
    | cons d r =>
      rw [strip]
      split
      · exact ih (by simp) (by simp at h1 ⊢; omega) (by simp at h2 ⊢; exact h2.2)
      · rename_i hc
        exact ⟨h1, h2, .inr ⟨c, d, r, rfl, hc⟩⟩
theorem can_strip (z : List UInt8) (h : canD z) : strip z = z := by
  rcases h.2.2 with ⟨c, rfl⟩ | ⟨c, d, r, rfl, hc⟩
  · rfl
  · rw [strip, if_neg hc]
theorem can_pos (z : List UInt8) (h : canD z) : 1 ≤ z.length := by
  rcases h.2.2 with ⟨c, rfl⟩ | ⟨c, d, r, rfl, _⟩ <;> simp
theorem can_head (z : List UInt8) (h : canD z) : z.head? ≠ some 45 := by
  intro hh
  have hd : ∀ c, z.head? = some c → digB c = true := by
    intro c hc
    cases z with
    | nil => simp at hc
    | cons a r => simp at hc; subst hc; have := h.2.1; simp at this; exact this.1
  have := hd 45 hh
  simp [digB] at this
/-- Digits as they count, with a sign. -/
def sgn (n : Bool) (z : List UInt8) : List UInt8 := (if n = true then [45] else []) ++ z
/-- A number's own text. -/
def Canon (n : Bool) (z : List UInt8) : Prop := canD z ∧ (z = [48] → n = false)
theorem digs_sgn (n : Bool) (z : List UInt8) (h : canD z) : digs (sgn n z) = z := by
  unfold digs sgn
  cases n with
  | true => simp
  | false => simp [can_head z h]
theorem head_sgn (n : Bool) (z : List UInt8) (h : canD z) : ((sgn n z).head? = some 45) ↔ n = true := by
  unfold sgn
  cases n with
  | true => simp
  | false => simp [can_head z h]
theorem int_canon {n : Bool} {z : List UInt8} (h : Canon n z) : intL (sgn n z) = (sgn n z, true) := by
  have hd := digs_sgn n z h.1
  have hok : intOk (sgn n z) = true := by
    unfold intOk
    rw [hd]
    have := can_pos z h.1
    simp [h.1.2.1, h.1.1, this]
  unfold intL
  rw [hok, if_neg (by simp), hd, can_strip z h.1]
  by_cases hz : z = [48]
  · rw [if_pos hz, h.2 hz, hz]; rfl
  · rw [if_neg hz]
    have hh := head_sgn n z h.1
    cases n with
    | true => rw [if_pos (hh.2 rfl)]; rfl
    | false => rw [if_neg (fun hx => by have := hh.1 hx; simp at this)]; rfl
theorem canon_int {l a : List UInt8} (h : intL l = (a, true)) : ∃ n z, Canon n z ∧ a = sgn n z := by
  unfold intL at h
  by_cases hok : intOk l = false
  · rw [if_pos hok] at h; simp at h
  · rw [if_neg hok] at h
    have hok' : intOk l = true := by simpa using hok
    unfold intOk at hok'
    simp only [Bool.and_eq_true, decide_eq_true_eq] at hok'
    have hc := strip_can (digs l) hok'.1.1 hok'.1.2 hok'.2
    by_cases hz : strip (digs l) = [48]
    · rw [if_pos hz] at h
      simp only [Prod.mk.injEq, and_true] at h
      subst h
      exact ⟨false, [48], ⟨by rw [← hz]; exact hc, fun _ => rfl⟩, rfl⟩
    · rw [if_neg hz] at h
      simp only [Prod.mk.injEq, and_true] at h
      subst h
      refine ⟨decide (l.head? = some 45), strip (digs l), ⟨hc, fun hx => absurd hx hz⟩, ?_⟩
      unfold sgn
      by_cases hh : l.head? = some 45 <;> simp [hh]
theorem int_int {l a : List UInt8} (h : intL l = (a, true)) : intL a = (a, true) := by
  obtain ⟨n, z, hc, rfl⟩ := canon_int h
  exact int_canon hc

/-! ### Which is less -/
/-- Byte by byte. -/
def ltB (a b : List UInt8) : Bool := decide (a < b)
/-- Of digits without a sign. -/
def szB (a b : List UInt8) : Bool := decide (a.length < b.length) || (decide (a.length = b.length) && ltB a b)
/-- Of signs with digits. -/
def lsC (n : Bool) (x : List UInt8) (m : Bool) (y : List UInt8) : Bool := if n = true ∧ m = true then szB y x else if n = true ∨ m = true then n else szB x y
/-- Of any texts. -/
def lessL (a b : List UInt8) : Bool :=
  if intL a = (a, true) ∧ intL b = (b, true) then lsC (decide (a.head? = some 45)) (digs a) (decide (b.head? = some 45)) (digs b) else ltB a b
theorem less_canon {n m : Bool} {x y : List UInt8} (h1 : Canon n x) (h2 : Canon m y) : lessL (sgn n x) (sgn m y) = lsC n x m y := by
  unfold lessL
  rw [if_pos ⟨int_canon h1, int_canon h2⟩, digs_sgn n x h1.1, digs_sgn m y h2.1]
  have e1 : decide ((sgn n x).head? = some 45) = n := by
    have := head_sgn n x h1.1
    cases n with
    | true => simpa using this
    | false => simpa using this
  have e2 : decide ((sgn m y).head? = some 45) = m := by
    have := head_sgn m y h2.1
    cases m with
    | true => simpa using this
    | false => simpa using this
  rw [e1, e2]
theorem ltB_irrefl (a : List UInt8) : ltB a a = false := by
  unfold ltB
  simp [List.lt_irrefl]
theorem ltB_trans {a b c : List UInt8} (h1 : ltB a b = true) (h2 : ltB b c = true) : ltB a c = true := by
  unfold ltB at *
  simp only [decide_eq_true_eq] at *
  exact List.lt_trans h1 h2
theorem ltB_total (a b : List UInt8) (h : a ≠ b) : ltB a b = true ∨ ltB b a = true := by
  unfold ltB
  simp only [decide_eq_true_eq]
  rcases Decidable.em (a < b) with h1 | h1
  · exact .inl h1
  · right
    have h2 : b ≤ a := List.not_lt.1 h1
    rcases Decidable.em (b < a) with h3 | h3
    · exact h3
    · exact absurd (List.le_antisymm (List.not_lt.1 h3) h2) h
theorem szB_irrefl (a : List UInt8) : szB a a = false := by
  unfold szB
  simp [ltB_irrefl]
theorem szB_iff (a b : List UInt8) : szB a b = true ↔ a.length < b.length ∨ (a.length = b.length ∧ ltB a b = true) := by
  unfold szB
  simp
theorem szB_trans {a b c : List UInt8} (h1 : szB a b = true) (h2 : szB b c = true) : szB a c = true := by
  rw [szB_iff] at *
  rcases h1 with h1 | ⟨h1, h3⟩
  · rcases h2 with h2 | ⟨h2, h4⟩
    · exact .inl (by omega)
    · exact .inl (by omega)
  · rcases h2 with h2 | ⟨h2, h4⟩
    · exact .inl (by omega)
    · exact .inr ⟨by omega, ltB_trans h3 h4⟩
theorem szB_total (a b : List UInt8) (h : a ≠ b) : szB a b = true ∨ szB b a = true := by
  rw [szB_iff, szB_iff]
  rcases Nat.lt_trichotomy a.length b.length with h1 | h1 | h1
  · exact .inl (.inl h1)
  · rcases ltB_total a b h with h2 | h2
    · exact .inl (.inr ⟨h1, h2⟩)
    · exact .inr (.inr ⟨h1.symm, h2⟩)
  · exact .inr (.inl h1)
theorem lsC_trans {n m k : Bool} {x y z : List UInt8} (h1 : lsC n x m y = true) (h2 : lsC m y k z = true) : lsC n x k z = true := by
  unfold lsC at *
  cases n <;> cases m <;> cases k <;> simp_all
  · exact szB_trans h1 h2
  · exact szB_trans h2 h1
theorem lsC_irrefl (n : Bool) (x : List UInt8) : lsC n x n x = false := by
  unfold lsC
  cases n <;> simp [szB_irrefl]
theorem lsC_total {n m : Bool} {x y : List UInt8} (h : ¬ (n = m ∧ x = y)) : lsC n x m y = true ∨ lsC m y n x = true := by
  unfold lsC
  cases n <;> cases m <;> simp_all
  · exact szB_total x y h
  · exact (szB_total x y h).symm
theorem sgn_inj {n m : Bool} {x y : List UInt8} (h1 : Canon n x) (h2 : Canon m y) (h : sgn n x = sgn m y) : n = m ∧ x = y := by
  have e1 := digs_sgn n x h1.1
  have e2 := digs_sgn m y h2.1
  have e3 := head_sgn n x h1.1
  have e4 := head_sgn m y h2.1
  rw [h] at e1 e3
  refine ⟨?_, e1.symm.trans e2⟩
  have := e3.symm.trans e4
  cases n <;> cases m <;> simp_all
/-- One is less, or the other, or they are the same, and that goes on. -/
theorem less_order {l1 l2 l3 a b c : List UInt8} (h1 : intL l1 = (a, true)) (h2 : intL l2 = (b, true)) (h3 : intL l3 = (c, true)) :
    ¬ (lessL a b = true ∧ lessL b a = true) ∧ ((lessL a b = true ∨ lessL b a = true) ↔ a ≠ b) ∧ (lessL a b = true → lessL b c = true → lessL a c = true) := by
  obtain ⟨n, x, hc1, rfl⟩ := canon_int h1
  obtain ⟨m, y, hc2, rfl⟩ := canon_int h2
  obtain ⟨k, z, hc3, rfl⟩ := canon_int h3
  rw [less_canon hc1 hc2, less_canon hc2 hc1, less_canon hc2 hc3, less_canon hc1 hc3]
  refine ⟨?_, ⟨?_, ?_⟩, lsC_trans⟩
  · rintro ⟨g1, g2⟩
    have := lsC_trans g1 g2
    rw [lsC_irrefl] at this; cases this
  · rintro g hab
    obtain ⟨rfl, rfl⟩ := sgn_inj hc1 hc2 hab
    rw [lsC_irrefl] at g; simp at g
  · intro hab
    apply lsC_total
    rintro ⟨rfl, rfl⟩
    exact hab rfl
end Go.Proofs.YtbihhdkmmlldnaaGreatDoor
namespace Go.Proofs.YtbihhdkmmlldnaaGreatDoor

/-! ### Bytes -/
def letN (c : Nat) : Bool := decide (65 ≤ c) && decide (c ≤ 90) || decide (97 ≤ c) && decide (c ≤ 122)
def tcN (c : Nat) : Bool := letN c || decide (48 ≤ c) && decide (c ≤ 57) || decide (c = 45)
def bareN (c : Nat) : Bool := decide (c < 32) || decide (c = 127)
def spN (c : Nat) : Bool := decide (c = 44) || decide (c = 43) || decide (c = 34) || decide (c = 92) || decide (c = 60) || decide (c = 62) || decide (c = 59) || decide (c = 61)
def mkN (first last : Bool) (c : Nat) : Bool := if c = 32 then first || last else if c = 35 then first else spN c
def mayN (c : Nat) : Bool := spN c || decide (c = 32) || decide (c = 35)
def hxD (n : Nat) : UInt8 := if n < 10 then UInt8.ofNat (48 + n) else UInt8.ofNat (87 + n)
def hxN (c : Nat) : Nat := if 48 ≤ c ∧ c ≤ 57 then c - 48 else if 97 ≤ c ∧ c ≤ 102 then c - 87 else if 65 ≤ c ∧ c ≤ 70 then c - 55 else 16

/-! ### A type, a value's text -/
def hdP (p : Nat → Bool) : List UInt8 → Bool | [] => false | c :: _ => p c.toNat
def tyL (s : List UInt8) : Bool := hdP letN s && decide (s.length ≤ 64) && s.all fun c => tcN c.toNat
def e1L (first last : Bool) (c : UInt8) : List UInt8 := if bareN c.toNat = true then [92, hxD (c.toNat / 16), hxD (c.toNat % 16)] else if mkN first last c.toNat = true then [92, c] else [c]
def egL : Bool → List UInt8 → List UInt8 | _, [] => [] | f, c :: r => e1L f r.isEmpty c ++ egL false r
def esL (s : List UInt8) : List UInt8 := egL true s

/-! ### Names -/
abbrev Av := List UInt8 × List UInt8
def jnL (sep : UInt8) : Bool → List (List UInt8) → List UInt8 | _, [] => [] | f, x :: r => (if f = true then [] else [sep]) ++ (x ++ jnL sep false r)
def avL (p : Av) : List UInt8 := p.1 ++ 61 :: esL p.2
def ptL (r : List Av) : List UInt8 := jnL 43 true (r.map avL)
def nmL (d : List (List Av)) : List UInt8 := jnL 44 true (d.map ptL)
def twL (seen : List Av) (p : Av) : Bool := seen.any fun q => lowL q.1 == lowL p.1
def avOk (p : Av) : Bool := tyL p.1 && decide (p.2 ≠ []) && decide (p.2.length ≤ 256)
def pgL : List Av → List Av → Bool | _, [] => true | seen, p :: r => avOk p && !twL seen p && pgL (seen ++ [p]) r
def prL (r : List Av) : Bool := decide (1 ≤ r.length) && decide (r.length ≤ 8) && pgL [] r
def ckD (d : List (List Av)) : Nat := if 32 < d.length then 3 else if d.all prL = true then 0 else 5
def puD (d : List (List Av)) : List UInt8 × Nat := if ckD d ≠ 0 then ([], ckD d) else if 4096 < (nmL d).length then ([], 3) else (nmL d, 0)
end Go.Proofs.YtbihhdkmmlldnaaGreatDoor
namespace Go.Proofs.YtbihhdkmmlldnaaGreatDoor

/-- The text up to the first byte that parts, the other texts of its part, and the other parts. -/
def splG : List UInt8 → List UInt8 × List (List UInt8) × List (List (List UInt8))
  | [] => ([], [], [])
  | c :: r =>
    if c = 92 then
      match r with
      | [] => ([c], [], [])
      | d :: r' => let x := splG r'; (c :: d :: x.1, x.2)
    else let x := splG r
      if c = 43 then ([], x.1 :: x.2.1, x.2.2) else if c = 44 then ([], [], (x.1 :: x.2.1) :: x.2.2) else (c :: x.1, x.2)
def splT (part : List (List UInt8)) (cur : List UInt8) (x : List UInt8 × List (List UInt8) × List (List (List UInt8))) : List (List (List UInt8)) := (part ++ (cur ++ x.1) :: x.2.1) :: x.2.2
def splL (s : List UInt8) : List (List (List UInt8)) := splT [] [] (splG s)
theorem splG_slash (r : List UInt8) : splG (92 :: r) = ((92 :: r).take 2 ++ (splG ((92 :: r).drop 2)).1, (splG ((92 :: r).drop 2)).2) := by
  cases r with
  | nil => simp [splG]
  | cons d r' => rw [splG]; simp
theorem splG_plus (r : List UInt8) : splG (43 :: r) = ([], (splG r).1 :: (splG r).2.1, (splG r).2.2) := by
  conv => lhs; unfold splG
  cases r <;> simp
theorem splG_comma (r : List UInt8) : splG (44 :: r) = ([], [], ((splG r).1 :: (splG r).2.1) :: (splG r).2.2) := by
  conv => lhs; unfold splG
  cases r <;> simp
theorem splG_else (c : UInt8) (r : List UInt8) (h1 : c ≠ 92) (h2 : c ≠ 43) (h3 : c ≠ 44) : splG (c :: r) = (c :: (splG r).1, (splG r).2) := by
  conv => lhs; unfold splG
  cases r <;> simp [h1, h2, h3]

/-- The byte behind a backslash, and how many bytes say so. -/
def rmL : List UInt8 → Option (UInt8 × Nat)
  | [] => none
  | c :: r => if mayN c.toNat = true then some (c, 1) else match r with
    | [] => none
    | d :: _ => if hxN c.toNat < 16 ∧ hxN d.toNat < 16 then some (UInt8.ofNat (16 * hxN c.toNat + hxN d.toNat), 2) else none
theorem rmL_may (c : UInt8) (r : List UInt8) (h : mayN c.toNat = true) : rmL (c :: r) = some (c, 1) := by
  cases r <;> simp [rmL, h]
theorem rmL_one (c : UInt8) (h : ¬ mayN c.toNat = true) : rmL [c] = none := by simp [rmL, h]
theorem rmL_two (c d : UInt8) (r : List UInt8) (h : ¬ mayN c.toNat = true) : rmL (c :: d :: r) = if hxN c.toNat < 16 ∧ hxN d.toNat < 16 then some (UInt8.ofNat (16 * hxN c.toNat + hxN d.toNat), 2) else none := by simp [rmL, h]
/-- The value of a text without blanks ahead. -/
def rvG (first : Bool) : List UInt8 → Option (List UInt8)
  | [] => some []
  | c :: r =>
    if c = 32 then (rvG false r).map fun v => if v = [] then [] else 32 :: v
    else if c = 92 then
      match r with
      | [] => none
      | d :: r1 => if mayN d.toNat = true then (rvG false r1).map (d :: ·) else
        match r1 with
        | [] => none
        | e :: r2 => if hxN d.toNat < 16 ∧ hxN e.toNat < 16 then (rvG false r2).map (UInt8.ofNat (16 * hxN d.toNat + hxN e.toNat) :: ·) else none
    else if bareN c.toNat = true ∨ (c ≠ 61 ∧ mkN first false c.toNat = true) then none
    else (rvG false r).map (c :: ·)
def tlB (s : List UInt8) : List UInt8 := s.dropWhile (· == 32)
def trB (s : List UInt8) : List UInt8 := (s.reverse.dropWhile (· == 32)).reverse
def rvL (s : List UInt8) : Option (List UInt8) := rvG true (tlB s)
def cut1 (c : UInt8) (s : List UInt8) : List UInt8 := s.takeWhile (· != c)
def cut2 (c : UInt8) (s : List UInt8) : List UInt8 := (s.dropWhile (· != c)).drop 1
def rpJ (b : Bool) (T : List UInt8) (o : Option (List UInt8)) : Option Av :=
  if b = true then match o with
    | none => none
    | some v => if v = [] then none else some (T, v)
  else none
/-- The pair of a text. -/
def rpL (s : List UInt8) : Option Av := rpJ (tyL (tlB (trB (cut1 61 s)))) (tlB (trB (cut1 61 s))) (rvL (cut2 61 s))
def rpsL : List (List UInt8) → Option (List Av)
  | [] => some []
  | t :: r => match rpL t with | none => none | some p => (rpsL r).map (p :: ·)
def rpp : List (List (List UInt8)) → Option (List (List Av))
  | [] => some []
  | t :: r => match rpsL t with | none => none | some p => (rpp r).map (p :: ·)
def lgD (d : List (List Av)) : Bool := decide (32 < d.length) || d.any fun r => decide (8 < r.length)
/-- The name of a text, and the error's number. -/
def rdD (s : List UInt8) : List (List Av) × Nat :=
  if 4096 < s.length then ([], 3) else if s = [] then ([], 0) else
  match rpp (splL s) with
  | none => ([], 5)
  | some d => if lgD d = true then ([], 3) else if ckD d ≠ 0 then ([], ckD d) else (d, 0)

/-! ### As they count -/
def insA (p : Av) : List Av → List Av
  | [] => [p]
  | q :: r => if q.1 < p.1 then q :: insA p r else p :: q :: r
end Go.Proofs.YtbihhdkmmlldnaaGreatDoor
namespace Go.Proofs.YtbihhdkmmlldnaaGreatDoor
set_option linter.unusedSimpArgs false
set_option linter.unusedVariables false
open Go

/-- A truth of three. -/
def tv (b : Bool) : Int := if b = true then 1 else 0
/-- Two values as they count, false: none. -/
def eqP (p q : List UInt8 × Bool) : Int := if p.2 = true ∧ q.2 = true then tv (p.1 == q.1) else 2
def lsR (r : Int) (x y : List UInt8) : Bool := if r = 3 then lessL x y else ltB x y
def ordP (r : Int) (p q : List UInt8 × Bool) : Int := if p.2 = true ∧ q.2 = true ∧ r ≠ 5 then tv (p.1 == q.1 || lsR r p.1 q.1) else 2
/-- Each one behind the other. -/
def midL : List (List UInt8) → List UInt8 → Bool
  | [], _ => true
  | m :: ms, s => (Lib.cut s m).2.2 && midL ms (Lib.cut s m).2.1
def asked (h : List UInt8) (ms : List (List UInt8)) (t : List UInt8) : Bool := !(h.isEmpty && ms.isEmpty && t.isEmpty) && decide (ms.length ≤ 16) && ms.all (fun m => !m.isEmpty)
def restL (s h t : List UInt8) : List UInt8 := (s.drop h.length).take (s.length - h.length - t.length)
def edgeL (s h t : List UInt8) : Bool := Lib.hasPrefix s h && Lib.hasSuffix (s.drop h.length) t
def hasL (s h : List UInt8) (ms : List (List UInt8)) (t : List UInt8) : Bool := edgeL s h t && midL ms (restL s h t)
def lwR (r : Int) (x : List UInt8) : List UInt8 := if r = 1 then lowL x else x
def subP (r : Int) (p : List UInt8 × Bool) (h : List UInt8) (ms : List (List UInt8)) (t : List UInt8) : Int :=
  if p.2 = true ∧ asked h ms t = true ∧ (r = 1 ∨ r = 2) then tv (hasL p.1 (lwR r h) (ms.map (lwR r)) (lwR r t)) else 2

theorem low_fold (l : List UInt8) : blL (lowL l) = foldL l := (low_bl l false).symm

/-! ### Equal and no greater -/
theorem eqP_same (x : List UInt8) : eqP (x, true) (x, true) = 1 := by simp [eqP, tv]
theorem eqP_comm (p q : List UInt8 × Bool) : eqP p q = eqP q p := by
  unfold eqP
  rw [Bool.beq_comm]
  by_cases h : p.2 = true ∧ q.2 = true
  · rw [if_pos h, if_pos h.symm]
  · rw [if_neg h, if_neg (fun k => h k.symm)]
theorem eqP_one (x y : List UInt8) : eqP (x, true) (y, true) = tv (x == y) := by simp [eqP]
theorem ordP_one (r : Int) (x y : List UInt8) (h : r ≠ 5) : ordP r (x, true) (y, true) = tv (x == y || lsR r x y) := by simp [ordP, h]
theorem ls_ways (r : Int) (x y : List UInt8) (h : r = 3 → (∃ l, intL l = (x, true)) ∧ ∃ l, intL l = (y, true)) :
    (x = y ∧ lsR r x y = false) ∨ (x ≠ y ∧ lsR r x y = true ∧ lsR r y x = false) ∨ (x ≠ y ∧ lsR r x y = false ∧ lsR r y x = true) := by
  unfold lsR
  by_cases hr : r = 3
  · rw [if_pos hr, if_pos hr]
    obtain ⟨⟨l1, h1⟩, l2, h2⟩ := h hr
    obtain ⟨g1, g2, _⟩ := less_order h1 h2 h2
    by_cases hxy : x = y
    · refine .inl ⟨hxy, ?_⟩
      cases hq : lessL x y
      · rfl
      · exact absurd hxy (g2.1 (.inl hq))
    · rcases g2.2 hxy with hq | hq
      · refine .inr (.inl ⟨hxy, hq, ?_⟩)
        cases hq2 : lessL y x
        · rfl
        · exact absurd ⟨hq, hq2⟩ g1
      · refine .inr (.inr ⟨hxy, ?_, hq⟩)
        cases hq2 : lessL x y
        · rfl
        · exact absurd ⟨hq2, hq⟩ g1
  · rw [if_neg hr, if_neg hr]
    by_cases hxy : x = y
    · exact .inl ⟨hxy, by rw [hxy]; exact ltB_irrefl y⟩
    · have ha : ∀ a b : List UInt8, ltB a b = true → ltB b a = false := by
        intro a b hab
        cases hq : ltB b a
        · rfl
        · have := ltB_trans hab hq
          rw [ltB_irrefl] at this; cases this
      rcases ltB_total x y hxy with hq | hq
      · exact .inr (.inl ⟨hxy, hq, ha _ _ hq⟩)
      · exact .inr (.inr ⟨hxy, ha _ _ hq, hq⟩)
/-- By bytes: no greater is not less the other way round. -/
theorem le_ltB (x y : List UInt8) : (x == y || ltB x y) = !(ltB y x) := by
  have := ls_ways 0 x y (fun h => by simp at h)
  simp only [lsR, if_neg (show ¬ ((0 : Int) = 3) by decide)] at this
  rcases this with ⟨rfl, h⟩ | ⟨h1, h2, h3⟩ | ⟨h1, h2, h3⟩
  · simp [h]
  · rw [h2, h3]; simp
  · rw [h2, h3]; simp [h1]

/-! ### Parts -/
theorem edge_iff (x h t : List UInt8) : edgeL x h t = true ↔ h.length + t.length ≤ x.length ∧ x.take h.length = h ∧ x.drop (x.length - t.length) = t := by
  unfold edgeL Lib.hasPrefix Lib.hasSuffix
  rw [Bool.and_eq_true, List.isPrefixOf_iff_prefix, List.isSuffixOf_iff_suffix]
  constructor
  · rintro ⟨⟨a, rfl⟩, b, hb⟩
    rw [List.drop_left] at hb
    subst hb
    refine ⟨by simp, by simp, ?_⟩
    rw [show (h ++ (b ++ t)).length - t.length = (h ++ b).length by simp; omega, ← List.append_assoc, List.drop_left]
  · rintro ⟨h1, h2, h3⟩
    refine ⟨?_, ?_⟩
    · rw [← h2]; exact List.take_prefix _ _
    · refine ⟨(x.drop h.length).take (x.length - t.length - h.length), ?_⟩
      have e : t = (x.drop h.length).drop (x.length - t.length - h.length) := by
        rw [List.drop_drop, show h.length + (x.length - t.length - h.length) = x.length - t.length by omega, h3]
      conv => lhs; rhs; rw [e]
      rw [List.take_append_drop]
theorem rest_len (x h t : List UInt8) : (restL x h t).length ≤ x.length := by
  unfold restL
  rw [List.length_take, List.length_drop]; omega
theorem cut_self (t : List UInt8) : Lib.cut t t = ([], [], true) := by
  unfold Lib.cut
  rw [Lib.index_self]; simp
theorem low_fix {t s : List UInt8} (h : t = foldL s) : lowL t = t := by
  rw [h]; unfold foldL; exact lowL_lowL _
theorem low_app (a b : List UInt8) : lowL (a ++ b) = lowL a ++ lowL b := by simp [lowL]
theorem low_take (a : List UInt8) (k : Nat) : lowL (a.take k) = (lowL a).take k := by simp [lowL]
theorem low_drop (a : List UInt8) (k : Nat) : lowL (a.drop k) = (lowL a).drop k := by simp [lowL]
theorem sub_one (x h : List UInt8) (ms : List (List UInt8)) (t : List UInt8) (ha : asked h ms t = true) : subP 1 (x, true) h ms t = tv (hasL x (lowL h) (ms.map lowL) (lowL t)) := by
  unfold subP
  rw [if_pos ⟨rfl, ha, .inl rfl⟩]
  simp [lwR]; rfl
theorem self_ends {t s : List UInt8} (h : t = foldL s) (hn : t ≠ []) (k : Nat) : subP 1 (t, true) (t.take k) [] (t.drop k) = 1 := by
  rw [sub_one _ _ _ _ ?_, low_take, low_drop, low_fix h]
  · have : hasL t (t.take k) [] (t.drop k) = true := by
      unfold hasL
      rw [Bool.and_eq_true]
      refine ⟨?_, rfl⟩
      rw [edge_iff]
      have hl : (t.take k).length + (t.drop k).length = t.length := by rw [← List.length_append, List.take_append_drop]
      refine ⟨by omega, ?_, ?_⟩
      · rw [List.length_take, List.take_eq_take_iff]; omega
      · rw [show t.length - (t.drop k).length = (t.take k).length by omega, List.length_take]
        rcases Nat.le_total k t.length with hk | hk
        · rw [Nat.min_eq_left hk]
        · rw [Nat.min_eq_right hk, List.drop_of_length_le hk, List.drop_of_length_le (Nat.le_refl _)]
    rw [show List.map lowL [] = [] from rfl, this]; rfl
  · unfold asked
    have : ¬ (t.take k = [] ∧ t.drop k = []) := by
      rintro ⟨a, b⟩
      apply hn
      rw [← List.take_append_drop k t, a, b]; rfl
    simp only [List.isEmpty_nil, Bool.and_true, List.all_nil, List.length_nil, Nat.zero_le, decide_true, Bool.not_eq_true', Bool.and_eq_false_iff]
    rcases Decidable.em (t.take k = []) with a | a
    · right
      have b : t.drop k ≠ [] := fun b => this ⟨a, b⟩
      simpa using b
    · left; simpa using a
theorem self_mid {t s : List UInt8} (h : t = foldL s) (hn : t ≠ []) : subP 1 (t, true) [] [t] [] = 1 := by
  rw [sub_one _ _ _ _ (by unfold asked; cases t <;> simp_all), show List.map lowL [t] = [lowL t] from rfl, low_fix h]
  have : hasL t [] [t] [] = true := by
    unfold hasL
    rw [Bool.and_eq_true]
    refine ⟨by rw [edge_iff]; simp, ?_⟩
    have : restL t [] [] = t := by simp [restL]
    rw [this, midL, cut_self]; rfl
  rw [show lowL [] = [] from rfl, this]; rfl
theorem self_more {t s : List UInt8} (h : t = foldL s) : subP 1 (t, true) (t ++ [120]) [] [] = 0 := by
  rw [sub_one _ _ _ _ (by unfold asked; simp), low_app, low_fix h]
  have : hasL t (t ++ lowL [120]) [] (lowL []) = false := by
    unfold hasL
    rw [Bool.and_eq_false_iff]
    left
    cases he : edgeL t (t ++ lowL [120]) (lowL [])
    · rfl
    · rw [edge_iff] at he
      have := he.1
      simp [lowL] at this
      omega
  rw [show List.map lowL [] = [] from rfl, this]; rfl
end Go.Proofs.YtbihhdkmmlldnaaGreatDoor
namespace Go.Proofs.YtbihhdkmmlldnaaGreatDoor
set_option linter.unusedSimpArgs false
set_option linter.unusedVariables false
open Go

/-- A type: its name, its rule, and whether there is one value at most. -/
abbrev Ty := List UInt8 × Int × Bool
/-- A class: its name, and which attributes must and may be there. -/
abbrev Cl := List UInt8 × List (List UInt8) × List (List UInt8)
/-- An attribute: its type and its values. -/
abbrev Atr := List UInt8 × List (List UInt8)
/-- The type, and the class, of a name. -/
def scT (T : List Ty) (s : List UInt8) : Option Ty := (T.find? (fun t => lowL t.1 == lowL s)).map (fun t => (lowL t.1, t.2))
def scC (C : List Cl) (s : List UInt8) : Option Cl := (C.find? (fun t => lowL t.1 == lowL s)).map (fun t => (lowL t.1, t.2.1.map lowL, t.2.2.map lowL))
theorem find_at {α : Type} (p : α → Bool) (l : List α) (i : Nat) (hi : i < l.length) (h : ∀ j (hj : j < l.length), j < i → p l[j] = false) (hp : p l[i] = true) : l.find? p = some l[i] := by
  induction l generalizing i with
  | nil => simp at hi
  | cons a r ih =>
    cases i with
    | zero => simp at hp; simp [List.find?, hp]
    | succ i =>
      have h0 := h 0 (by simp) (by omega)
      simp at h0
      simp only [List.find?, h0, List.getElem_cons_succ] at hp ⊢
      exact ih i (by simpa using hi) (fun j hj hji => h (j + 1) (by simpa using hj) (by omega)) hp
theorem find_no {α : Type} (p : α → Bool) (l : List α) (h : ∀ j (hj : j < l.length), p l[j] = false) : l.find? p = none := by
  rw [List.find?_eq_none]
  intro x hx
  obtain ⟨j, hj, rfl⟩ := List.getElem_of_mem hx
  simp [h j hj]
theorem scT_at {T : List Ty} {s : List UInt8} (i : Nat) (hi : i < T.length) (h : ∀ j (hj : j < T.length), j < i → (lowL T[j].1 == lowL s) = false) (hp : (lowL T[i].1 == lowL s) = true) : scT T s = some (lowL T[i].1, T[i].2) := by
  unfold scT; rw [find_at _ T i hi h hp]; rfl
theorem scT_no {T : List Ty} {s : List UInt8} (h : ∀ j (hj : j < T.length), (lowL T[j].1 == lowL s) = false) : scT T s = none := by
  unfold scT; rw [find_no _ T h]; rfl
theorem scC_at {C : List Cl} {s : List UInt8} (i : Nat) (hi : i < C.length) (h : ∀ j (hj : j < C.length), j < i → (lowL C[j].1 == lowL s) = false) (hp : (lowL C[i].1 == lowL s) = true) : scC C s = some (lowL C[i].1, C[i].2.1.map lowL, C[i].2.2.map lowL) := by
  unfold scC; rw [find_at _ C i hi h hp]; rfl
theorem scC_no {C : List Cl} {s : List UInt8} (h : ∀ j (hj : j < C.length), (lowL C[j].1 == lowL s) = false) : scC C s = none := by
  unfold scC; rw [find_no _ C h]; rfl
/-- Is a text in a list? -/
def inL (l : List (List UInt8)) (s : List UInt8) : Bool := l.any (· == s)
theorem in_at {l : List (List UInt8)} {s : List UInt8} (i : Nat) (hi : i < l.length) (hp : (l[i] == s) = true) : inL l s = true := by
  unfold inL; rw [List.any_eq_true]; exact ⟨l[i], List.getElem_mem hi, hp⟩
theorem in_no {l : List (List UInt8)} {s : List UInt8} (h : ∀ j (hj : j < l.length), (l[j] == s) = false) : inL l s = false := by
  unfold inL; rw [List.any_eq_false]
  intro x hx
  obtain ⟨j, hj, rfl⟩ := List.getElem_of_mem hx
  simp [h j hj]
/-- May names be? -/
def nmsL (l : List (List UInt8)) : Nat := if l.all tyL = true then 0 else 13
theorem nms_bad {l : List (List UInt8)} (i : Nat) (hi : i < l.length) (h : tyL l[i] = false) : nmsL l = 13 := by
  unfold nmsL
  rw [if_neg]
  rw [List.all_eq_true]
  intro ha
  have := ha _ (List.getElem_mem hi)
  rw [h] at this; cases this
theorem nms_ok {l : List (List UInt8)} (h : ∀ j (hj : j < l.length), tyL l[j] = true) : nmsL l = 0 := by
  unfold nmsL
  rw [if_pos]
  rw [List.all_eq_true]
  intro x hx
  obtain ⟨j, hj, rfl⟩ := List.getElem_of_mem hx
  exact h j hj
/-- Is a name there twice? -/
def twcL (l : List (List UInt8)) : Bool := !decide (l.map lowL).Nodup
theorem twc_yes {l : List (List UInt8)} (i k : Nat) (hi : i < l.length) (hk : k < i) (h : (lowL l[i] == lowL (l[k]'(by omega))) = true) : twcL l = true := by
  unfold twcL
  simp only [Bool.not_eq_true', decide_eq_false_iff_not]
  intro hn
  have := (List.pairwise_iff_getElem.1 hn) k i (by simp; omega) (by simpa using hi) hk
  simp at h this
  exact this h.symm
theorem twc_no {l : List (List UInt8)} (h : ∀ i (hi : i < l.length) k (hk : k < i), (lowL l[i] == lowL (l[k]'(by omega))) = false) : twcL l = false := by
  unfold twcL
  simp only [Bool.not_eq_false', decide_eq_true_eq]
  show List.Pairwise (· ≠ ·) _
  rw [List.pairwise_iff_getElem]
  intro i j hi hj hij
  have hj' : j < l.length := by simpa using hj
  have := h j hj' i hij
  simp at this ⊢
  exact fun e => this e.symm
/-- May values be compared by a rule? -/
def okRule (r : Int) : Bool := decide (1 ≤ r) && decide (r ≤ 5)
/-- May types and classes be? The error's number. -/
def scChk (T : List Ty) (C : List Cl) : Nat :=
  if nmsL (T.map Prod.fst) ≠ 0 then nmsL (T.map Prod.fst) else if (T.all fun t => okRule t.2.1) = false then 1 else if twcL (T.map Prod.fst) = true then 9 else
  if nmsL (C.map Prod.fst) ≠ 0 then nmsL (C.map Prod.fst) else if twcL (C.map Prod.fst) = true then 9 else 0
theorem rule_bad {T : List Ty} (i : Nat) (hi : i < T.length) (h : okRule T[i].2.1 = false) : (T.all fun t => okRule t.2.1) = false := by
  rw [List.all_eq_false]
  exact ⟨T[i], List.getElem_mem hi, by simp [h]⟩
theorem rule_ok {T : List Ty} (h : ∀ j (hj : j < T.length), okRule T[j].2.1 = true) : (T.all fun t => okRule t.2.1) = true := by
  rw [List.all_eq_true]
  intro x hx
  obtain ⟨j, hj, rfl⟩ := List.getElem_of_mem hx
  exact h j hj
end Go.Proofs.YtbihhdkmmlldnaaGreatDoor
namespace Go.Proofs.YtbihhdkmmlldnaaGreatDoor
set_option linter.unusedSimpArgs false
set_option linter.unusedVariables false
open Go

/-- The place of a name. -/
def ixL (N : List (List UInt8)) (s : List UInt8) : Option Nat := N.findIdx? (· == s)
theorem ix_snoc (N : List (List UInt8)) (s k : List UInt8) : ixL (N ++ [s]) k = (ixL N k).or (if s == k then some N.length else none) := by
  unfold ixL
  rw [List.findIdx?_append]
  congr 1
  by_cases h : (s == k) = true
  · simp [List.findIdx?_cons, h]
  · simp [List.findIdx?_cons, h]
theorem ix_some {N : List (List UInt8)} {s : List UInt8} {i : Nat} (h : ixL N s = some i) : ∃ hi : i < N.length, N[i] = s := by
  unfold ixL at h
  rw [List.findIdx?_eq_some_iff_getElem] at h
  obtain ⟨hi, h1, _⟩ := h
  exact ⟨hi, by simpa using h1⟩
theorem ix_lt {N : List (List UInt8)} {s : List UInt8} {i : Nat} (h : ixL N s = some i) : i < N.length := (ix_some h).1
theorem ix_none {N : List (List UInt8)} {s : List UInt8} (h : ixL N s = none) : s ∉ N := by
  unfold ixL at h
  rw [List.findIdx?_eq_none_iff] at h
  intro hm
  simpa using h s hm
theorem ix_none_iff {N : List (List UInt8)} {s : List UInt8} : ixL N s = none ↔ s ∉ N := by
  refine ⟨ix_none, fun h => ?_⟩
  unfold ixL
  rw [List.findIdx?_eq_none_iff]
  intro x hx
  simp
  rintro rfl
  exact h hx
theorem ix_isSome {N : List (List UInt8)} {s : List UInt8} : (ixL N s).isSome = inL N s := by
  rw [Bool.eq_iff_iff]
  unfold inL
  rw [List.any_eq_true]
  constructor
  · intro h
    obtain ⟨i, hi⟩ := Option.isSome_iff_exists.1 h
    obtain ⟨hl, h1⟩ := ix_some hi
    exact ⟨s, h1 ▸ List.getElem_mem hl, by simp⟩
  · rintro ⟨x, hx, he⟩
    have : x = s := by simpa using he
    subst this
    cases h : ixL N x
    · exact absurd hx (ix_none h)
    · rfl
theorem ix_in {N : List (List UInt8)} {s : List UInt8} {i : Nat} (h : ixL N s = some i) : inL N s = true := by rw [← ix_isSome, h]; rfl
theorem ix_out {N : List (List UInt8)} {s : List UInt8} (h : ixL N s = none) : inL N s = false := by rw [← ix_isSome, h]; rfl
theorem ix_map {α : Type} (f : α → List UInt8) (T : List α) (s : List UInt8) : ixL (T.map f) s = T.findIdx? (fun t => f t == s) := by
  unfold ixL
  rw [List.findIdx?_map]
  rfl
theorem find_ix {α : Type} (f : α → List UInt8) (T : List α) (s : List UInt8) : T.find? (fun t => f t == s) = (ixL (T.map f) s).bind (fun i => T[i]?) := by
  rw [ix_map]
  exact List.find?_eq_bind_findIdx?_getElem?
/-- Types and classes as the schema keeps them. -/
def lowTy (t : Ty) : Ty := (lowL t.1, t.2)
def lowCl (c : Cl) : Cl := (lowL c.1, c.2.1.map lowL, c.2.2.map lowL)
theorem scT_low (T : List Ty) (s : List UInt8) : scT (T.map lowTy) s = scT T s := by
  unfold scT
  rw [List.find?_map]
  cases h : T.find? ((fun t => lowL t.1 == lowL s) ∘ lowTy) with
  | none =>
    have : T.find? (fun t => lowL t.1 == lowL s) = none := by
      rw [← h]; congr 1; funext t; simp [lowTy, lowL_lowL]
    rw [this]; rfl
  | some t =>
    have : T.find? (fun t => lowL t.1 == lowL s) = some t := by
      rw [← h]; congr 1; funext t; simp [lowTy, lowL_lowL]
    rw [this]; simp [lowTy, lowL_lowL]
theorem scC_low (C : List Cl) (s : List UInt8) : scC (C.map lowCl) s = scC C s := by
  unfold scC
  rw [List.find?_map]
  cases h : C.find? ((fun t => lowL t.1 == lowL s) ∘ lowCl) with
  | none =>
    have : C.find? (fun t => lowL t.1 == lowL s) = none := by
      rw [← h]; congr 1; funext t; simp [lowCl, lowL_lowL]
    rw [this]; rfl
  | some t =>
    have : C.find? (fun t => lowL t.1 == lowL s) = some t := by
      rw [← h]; congr 1; funext t; simp [lowCl, lowL_lowL]
    rw [this]; simp [lowCl, lowL_lowL, List.map_map, Function.comp_def]
theorem scT_ix (T : List Ty) (s : List UInt8) : scT T s = (ixL ((T.map lowTy).map (·.1)) (lowL s)).bind (fun i => (T.map lowTy)[i]?) := by
  rw [← find_ix, List.find?_map]
  unfold scT
  rfl
theorem scC_ix (C : List Cl) (s : List UInt8) : scC C s = (ixL ((C.map lowCl).map (·.1)) (lowL s)).bind (fun i => (C.map lowCl)[i]?) := by
  rw [← find_ix, List.find?_map]
  unfold scC
  rfl
/-- What is low. -/
def LowT (T : List Ty) : Prop := ∀ t ∈ T, lowTy t = t
def LowC (C : List Cl) : Prop := ∀ c ∈ C, lowCl c = c
theorem lowTy_low (t : Ty) : lowTy (lowTy t) = lowTy t := by simp [lowTy, lowL_lowL]
theorem lowCl_low (c : Cl) : lowCl (lowCl c) = lowCl c := by simp [lowCl, lowL_lowL, List.map_map, Function.comp_def]
theorem lowT_map (T : List Ty) : LowT (T.map lowTy) := by
  intro t ht
  obtain ⟨u, _, rfl⟩ := List.mem_map.1 ht
  exact lowTy_low u
theorem lowC_map (C : List Cl) : LowC (C.map lowCl) := by
  intro t ht
  obtain ⟨u, _, rfl⟩ := List.mem_map.1 ht
  exact lowCl_low u
theorem LowT.id {T : List Ty} (h : LowT T) : T.map lowTy = T := by
  rw [List.map_congr_left h]; simp
theorem LowC.id {C : List Cl} (h : LowC C) : C.map lowCl = C := by
  rw [List.map_congr_left h]; simp
theorem scT_ixl {T : List Ty} (h : LowT T) (s : List UInt8) : scT T s = (ixL (T.map (·.1)) (lowL s)).bind (fun i => T[i]?) := by
  rw [scT_ix, h.id]
theorem scC_ixl {C : List Cl} (h : LowC C) (s : List UInt8) : scC C s = (ixL (C.map (·.1)) (lowL s)).bind (fun i => C[i]?) := by
  rw [scC_ix, h.id]
theorem scT_name {T : List Ty} {s : List UInt8} {t : Ty} (h : scT T s = some t) : t.1 = lowL s := by
  unfold scT at h
  obtain ⟨u, hu, rfl⟩ := Option.map_eq_some_iff.1 h
  have := List.find?_some hu
  simpa using this
theorem scC_name {C : List Cl} {s : List UInt8} {t : Cl} (h : scC C s = some t) : t.1 = lowL s := by
  unfold scC at h
  obtain ⟨u, hu, rfl⟩ := Option.map_eq_some_iff.1 h
  have := List.find?_some hu
  simpa using this
end Go.Proofs.YtbihhdkmmlldnaaGreatDoor
