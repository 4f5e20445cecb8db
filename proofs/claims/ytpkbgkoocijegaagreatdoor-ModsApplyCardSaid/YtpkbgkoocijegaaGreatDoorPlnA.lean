/- Plain facts on texts that count as the same: small letters, blanks, numbers' texts and their order. Names as texts, plainly: over lists of bytes, of no program. Names read, plainly. Plain facts on values that count as the same: which are equal, which is no greater, which has which parts. Plain facts on types, classes and entries: which there are, and whether an entry may be by them. Plain facts on tables of types and classes: the place of a name. -/
import Derived.WalkKit
import Derived.Lib.IndexMore
import Derived.Lib.IndexLaws
import Derived.Lib.Strings
set_option linter.unusedVariables false
set_option linter.unusedSimpArgs false
set_option maxHeartbeats 25600000
set_option maxRecDepth 100000
namespace Go.Proofs.YtpkbgkoocijegaaGreatDoor
def low1 (c : UInt8) : UInt8 := if 65 <= c.toNat /\ c.toNat <= 90 then UInt8.ofNat (c.toNat + 32) else c
def lowL (l : List UInt8) : List UInt8 := l.map low1
theorem low1_toNat (c : UInt8) : (low1 c).toNat = if 65 <= c.toNat /\ c.toNat <= 90 then c.toNat + 32 else c.toNat := by
 unfold low1
 split
 ·rename_i h
  rw [UInt8.toNat_ofNat']; omega
 ·rfl
theorem low1_low1 (c : UInt8) : low1 (low1 c) = low1 c := by
 apply UInt8.toNat_inj.1
 rw [low1_toNat (low1 c), low1_toNat c]
 by_cases h : 65 <= c.toNat /\ c.toNat <= 90
 ·rw [if_pos h, if_neg (by omega)]
 ·rw [if_neg h, if_neg h]
theorem low1_blank (c : UInt8) : (low1 c = 32) ↔ (c = 32) := by
 constructor
 ·intro h
  have h1 := congrArg UInt8.toNat h
  rw [low1_toNat] at h1
  apply UInt8.toNat_inj.1
  show c.toNat = 32
  have : (32 : UInt8).toNat = 32 := rfl
  split at h1 <;> omega
 ·rintro rfl; rfl
theorem lowL_lowL (l : List UInt8) : lowL (lowL l) = lowL l := by
 simp [lowL, low1_low1]
theorem lowL_length (l : List UInt8) : (lowL l).length = l.length := by simp [lowL]
def hdn : List UInt8 -> Bool
 | [] => false
 | c :: _ => c != 32
def bl : Bool -> List UInt8 -> List UInt8
 | _, [] => []
 | ne, c :: r => if c ≠ 32 then c :: bl true r else if ne = true /\ hdn r = true then 32 :: bl ne r else bl ne r
def blL (l : List UInt8) : List UInt8 := bl false l
theorem bl_length (l : List UInt8) : ∀ ne, (bl ne l).length <= l.length := by
 induction l with
 | nil => intro ne; simp [bl]
 | cons c r ih =>
  intro ne
  rw [bl]
  split
  ·have := ih true; simp; omega
  ·split
   ·have := ih ne; simp; omega
   ·have := ih ne; simp; omega
theorem blL_length (l : List UInt8) : (blL l).length <= l.length := bl_length l false
theorem hdn_low (l : List UInt8) : hdn (lowL l) = hdn l := by
 cases l with
 | nil => rfl
 | cons c r =>
  show (low1 c != 32) = (c != 32)
  rw [Bool.eq_iff_iff, bne_iff_ne, bne_iff_ne]
  exact not_congr (low1_blank c)
theorem low_bl (l : List UInt8) : ∀ ne, lowL (bl ne l) = bl ne (lowL l) := by
 induction l with
 | nil => intro ne; rfl
 | cons c r ih =>
  intro ne
  have hcons : lowL (c :: r) = low1 c :: lowL r := rfl
  rw [hcons, bl, bl, hdn_low]
  by_cases hc : c = 32
  ·subst hc
   have h32 : low1 32 = 32 := rfl
   rw [h32]
   simp only [ne_eq, not_true_eq_false, if_false]
   split
   ·rw [<- ih ne]; rfl
   ·exact ih ne
  ·rw [if_pos hc, if_pos (fun h => hc ((low1_blank c).1 h)), <- ih true]; rfl
def foldL (l : List UInt8) : List UInt8 := lowL (blL l)
def digB (c : UInt8) : Bool := decide (48 <= c.toNat) && decide (c.toNat <= 57)
def strip : List UInt8 -> List UInt8
 | [] => []
 | [c] => [c]
 | c :: d :: r => if c = 48 then strip (d :: r) else c :: d :: r
def digs (l : List UInt8) : List UInt8 := if l.head? = some 45 then l.drop 1 else l
def intOk (l : List UInt8) : Bool := decide (1 <= (digs l).length) && decide ((digs l).length <= 32) && (digs l).all digB
def intL (l : List UInt8) : List UInt8 × Bool :=
 if intOk l = false then ([], false) else
 if strip (digs l) = [48] then ([48], true) else
 ((if l.head? = some 45 then [45] else []) ++ strip (digs l), true)
def ltB (a b : List UInt8) : Bool := decide (a < b)
theorem ltB_irrefl (a : List UInt8) : ltB a a = false := by
 unfold ltB
 simp [List.lt_irrefl]
theorem ltB_trans {a b c : List UInt8} (h1 : ltB a b = true) (h2 : ltB b c = true) : ltB a c = true := by
 unfold ltB at *
 simp only [decide_eq_true_eq] at *
 exact List.lt_trans h1 h2
def letN (c : Nat) : Bool := decide (65 <= c) && decide (c <= 90) || decide (97 <= c) && decide (c <= 122)
def tcN (c : Nat) : Bool := letN c || decide (48 <= c) && decide (c <= 57) || decide (c = 45)
def bareN (c : Nat) : Bool := decide (c < 32) || decide (c = 127)
def spN (c : Nat) : Bool := decide (c = 44) || decide (c = 43) || decide (c = 34) || decide (c = 92) || decide (c = 60) || decide (c = 62) || decide (c = 59) || decide (c = 61)
def mkN (first last : Bool) (c : Nat) : Bool := if c = 32 then first || last else if c = 35 then first else spN c
def mayN (c : Nat) : Bool := spN c || decide (c = 32) || decide (c = 35)
def hxD (n : Nat) : UInt8 := if n < 10 then UInt8.ofNat (48 + n) else UInt8.ofNat (87 + n)
def hxN (c : Nat) : Nat := if 48 <= c /\ c <= 57 then c - 48 else if 97 <= c /\ c <= 102 then c - 87 else if 65 <= c /\ c <= 70 then c - 55 else 16
def hdP (p : Nat -> Bool) : List UInt8 -> Bool | [] => false | c :: _ => p c.toNat
def tyL (s : List UInt8) : Bool := hdP letN s && decide (s.length <= 64) && s.all fun c => tcN c.toNat
def e1L (first last : Bool) (c : UInt8) : List UInt8 := if bareN c.toNat = true then [92, hxD (c.toNat / 16), hxD (c.toNat % 16)] else if mkN first last c.toNat = true then [92, c] else [c]
def egL : Bool -> List UInt8 -> List UInt8 | _, [] => [] | f, c :: r => e1L f r.isEmpty c ++ egL false r
def esL (s : List UInt8) : List UInt8 := egL true s
abbrev Av := List UInt8 × List UInt8
def jnL (sep : UInt8) : Bool -> List (List UInt8) -> List UInt8 | _, [] => [] | f, x :: r => (if f = true then [] else [sep]) ++ (x ++ jnL sep false r)
def avL (p : Av) : List UInt8 := p.1 ++ 61 :: esL p.2
def ptL (r : List Av) : List UInt8 := jnL 43 true (r.map avL)
def nmL (d : List (List Av)) : List UInt8 := jnL 44 true (d.map ptL)
def twL (seen : List Av) (p : Av) : Bool := seen.any fun q => lowL q.1 == lowL p.1
def avOk (p : Av) : Bool := tyL p.1 && decide (p.2 ≠ []) && decide (p.2.length <= 256)
def pgL : List Av -> List Av -> Bool | _, [] => true | seen, p :: r => avOk p && !twL seen p && pgL (seen ++ [p]) r
def prL (r : List Av) : Bool := decide (1 <= r.length) && decide (r.length <= 8) && pgL [] r
def ckD (d : List (List Av)) : Nat := if 32 < d.length then 3 else if d.all prL = true then 0 else 5
def puD (d : List (List Av)) : List UInt8 × Nat := if ckD d ≠ 0 then ([], ckD d) else if 4096 < (nmL d).length then ([], 3) else (nmL d, 0)
def splG : List UInt8 -> List UInt8 × List (List UInt8) × List (List (List UInt8))
 | [] => ([], [], [])
 | c :: r =>
  if c = 92 then
   match r with
   | [] => ([c], [], [])
   | d :: r' => let x := splG r'; (c :: d :: x.1, x.2)
  else let x := splG r
   if c = 43 then ([], x.1 :: x.2.1, x.2.2) else if c = 44 then ([], [], (x.1 :: x.2.1) :: x.2.2) else (c :: x.1, x.2)
def splT (part : List (List UInt8)) (cur : List UInt8) (x : List UInt8 × List (List UInt8) × List (List (List UInt8))) : List (List (List UInt8)) := (part ++ (cur ++ x.1) :: x.2.1) :: x.2.2
def splL (s : List UInt8) : List (List (List UInt8)) := splT [] [] (splG s)
theorem splG_slash (r : List UInt8) : splG (92 :: r) = ((92 :: r).take 2 ++ (splG ((92 :: r).drop 2)).1, (splG ((92 :: r).drop 2)).2) := by
 cases r with
 | nil => simp [splG]
 | cons d r' => rw [splG]; simp
theorem splG_plus (r : List UInt8) : splG (43 :: r) = ([], (splG r).1 :: (splG r).2.1, (splG r).2.2) := by
 conv => lhs; unfold splG
 cases r <;> simp
theorem splG_comma (r : List UInt8) : splG (44 :: r) = ([], [], ((splG r).1 :: (splG r).2.1) :: (splG r).2.2) := by
 conv => lhs; unfold splG
 cases r <;> simp
theorem splG_else (c : UInt8) (r : List UInt8) (h1 : c ≠ 92) (h2 : c ≠ 43) (h3 : c ≠ 44) : splG (c :: r) = (c :: (splG r).1, (splG r).2) := by
 conv => lhs; unfold splG
 cases r <;> simp [h1, h2, h3]
def rmL : List UInt8 -> Option (UInt8 × Nat)
 | [] => none
 | c :: r => if mayN c.toNat = true then some (c, 1) else match r with
  | [] => none
  | d :: _ => if hxN c.toNat < 16 /\ hxN d.toNat < 16 then some (UInt8.ofNat (16 * hxN c.toNat + hxN d.toNat), 2) else none
theorem rmL_may (c : UInt8) (r : List UInt8) (h : mayN c.toNat = true) : rmL (c :: r) = some (c, 1) := by
 cases r <;> simp [rmL, h]
theorem rmL_one (c : UInt8) (h : ¬ mayN c.toNat = true) : rmL [c] = none := by simp [rmL, h]
theorem rmL_two (c d : UInt8) (r : List UInt8) (h : ¬ mayN c.toNat = true) : rmL (c :: d :: r) = if hxN c.toNat < 16 /\ hxN d.toNat < 16 then some (UInt8.ofNat (16 * hxN c.toNat + hxN d.toNat), 2) else none := by simp [rmL, h]
def rvG (first : Bool) : List UInt8 -> Option (List UInt8)
 | [] => some []
 | c :: r =>
  if c = 32 then (rvG false r).map fun v => if v = [] then [] else 32 :: v
  else if c = 92 then
   match r with
   | [] => none
   | d :: r1 => if mayN d.toNat = true then (rvG false r1).map (d :: ·) else
    match r1 with
    | [] => none
    | e :: r2 => if hxN d.toNat < 16 /\ hxN e.toNat < 16 then (rvG false r2).map (UInt8.ofNat (16 * hxN d.toNat + hxN e.toNat) :: ·) else none
  else if bareN c.toNat = true \/ (c ≠ 61 /\ mkN first false c.toNat = true) then none
  else (rvG false r).map (c :: ·)
def tlB (s : List UInt8) : List UInt8 := s.dropWhile (· == 32)
def trB (s : List UInt8) : List UInt8 := (s.reverse.dropWhile (· == 32)).reverse
def rvL (s : List UInt8) : Option (List UInt8) := rvG true (tlB s)
def cut1 (c : UInt8) (s : List UInt8) : List UInt8 := s.takeWhile (· != c)
def cut2 (c : UInt8) (s : List UInt8) : List UInt8 := (s.dropWhile (· != c)).drop 1
def rpJ (b : Bool) (T : List UInt8) (o : Option (List UInt8)) : Option Av :=
 if b = true then match o with
  | none => none
  | some v => if v = [] then none else some (T, v)
 else none
def rpL (s : List UInt8) : Option Av := rpJ (tyL (tlB (trB (cut1 61 s)))) (tlB (trB (cut1 61 s))) (rvL (cut2 61 s))
def rpsL : List (List UInt8) -> Option (List Av)
 | [] => some []
 | t :: r => match rpL t with | none => none | some p => (rpsL r).map (p :: ·)
def rpp : List (List (List UInt8)) -> Option (List (List Av))
 | [] => some []
 | t :: r => match rpsL t with | none => none | some p => (rpp r).map (p :: ·)
def lgD (d : List (List Av)) : Bool := decide (32 < d.length) || d.any fun r => decide (8 < r.length)
def rdD (s : List UInt8) : List (List Av) × Nat :=
 if 4096 < s.length then ([], 3) else if s = [] then ([], 0) else
 match rpp (splL s) with
 | none => ([], 5)
 | some d => if lgD d = true then ([], 3) else if ckD d ≠ 0 then ([], ckD d) else (d, 0)
def insA (p : Av) : List Av -> List Av
 | [] => [p]
 | q :: r => if q.1 < p.1 then q :: insA p r else p :: q :: r
end Go.Proofs.YtpkbgkoocijegaaGreatDoor
namespace Go.Proofs.YtpkbgkoocijegaaGreatDoor
open Go
def tv (b : Bool) : Int := if b = true then 1 else 0
def eqP (p q : List UInt8 × Bool) : Int := if p.2 = true /\ q.2 = true then tv (p.1 == q.1) else 2
def asked (h : List UInt8) (ms : List (List UInt8)) (t : List UInt8) : Bool := !(h.isEmpty && ms.isEmpty && t.isEmpty) && decide (ms.length <= 16) && ms.all (fun m => !m.isEmpty)
theorem low_fold (l : List UInt8) : blL (lowL l) = foldL l := (low_bl l false).symm
theorem eqP_one (x y : List UInt8) : eqP (x, true) (y, true) = tv (x == y) := by simp [eqP]
abbrev Ty := List UInt8 × Int × Bool
abbrev Cl := List UInt8 × List (List UInt8) × List (List UInt8)
abbrev Atr := List UInt8 × List (List UInt8)
def scT (T : List Ty) (s : List UInt8) : Option Ty := (T.find? (fun t => lowL t.1 == lowL s)).map (fun t => (lowL t.1, t.2))
theorem find_at {α : Type} (p : α -> Bool) (l : List α) (i : Nat) (hi : i < l.length) (h : ∀ j (hj : j < l.length), j < i -> p l[j] = false) (hp : p l[i] = true) : l.find? p = some l[i] := by
 induction l generalizing i with
 | nil => simp at hi
 | cons a r ih =>
  cases i with
  | zero => simp at hp; simp [List.find?, hp]
  | succ i =>
   have h0 := h 0 (by simp) (by omega)
   simp at h0
   simp only [List.find?, h0, List.getElem_cons_succ] at hp ⊢
   exact ih i (by simpa using hi) (fun j hj hji => h (j + 1) (by simpa using hj) (by omega)) hp
theorem find_no {α : Type} (p : α -> Bool) (l : List α) (h : ∀ j (hj : j < l.length), p l[j] = false) : l.find? p = none := by
 rw [List.find?_eq_none]
 intro x hx
 obtain ⟨j, hj, rfl⟩ := List.getElem_of_mem hx
 simp [h j hj]
theorem scT_at {T : List Ty} {s : List UInt8} (i : Nat) (hi : i < T.length) (h : ∀ j (hj : j < T.length), j < i -> (lowL T[j].1 == lowL s) = false) (hp : (lowL T[i].1 == lowL s) = true) : scT T s = some (lowL T[i].1, T[i].2) := by
 unfold scT; rw [find_at _ T i hi h hp]; rfl
theorem scT_no {T : List Ty} {s : List UInt8} (h : ∀ j (hj : j < T.length), (lowL T[j].1 == lowL s) = false) : scT T s = none := by
 unfold scT; rw [find_no _ T h]; rfl
def inL (l : List (List UInt8)) (s : List UInt8) : Bool := l.any (· == s)
def nmsL (l : List (List UInt8)) : Nat := if l.all tyL = true then 0 else 13
def twcL (l : List (List UInt8)) : Bool := !decide (l.map lowL).Nodup
def okRule (r : Int) : Bool := decide (1 <= r) && decide (r <= 5)
def scChk (T : List Ty) (C : List Cl) : Nat :=
 if nmsL (T.map Prod.fst) ≠ 0 then nmsL (T.map Prod.fst) else if (T.all fun t => okRule t.2.1) = false then 1 else if twcL (T.map Prod.fst) = true then 9 else
 if nmsL (C.map Prod.fst) ≠ 0 then nmsL (C.map Prod.fst) else if twcL (C.map Prod.fst) = true then 9 else 0
def ixL (N : List (List UInt8)) (s : List UInt8) : Option Nat := N.findIdx? (· == s)
theorem ix_snoc (N : List (List UInt8)) (s k : List UInt8) : ixL (N ++ [s]) k = (ixL N k).or (if s == k then some N.length else none) := by
 unfold ixL
 rw [List.findIdx?_append]
 congr 1
 by_cases h : (s == k) = true
 ·simp [List.findIdx?_cons, h]
 ·simp [List.findIdx?_cons, h]
theorem ix_some {N : List (List UInt8)} {s : List UInt8} {i : Nat} (h : ixL N s = some i) : ∃ hi : i < N.length, N[i] = s := by
 unfold ixL at h
 rw [List.findIdx?_eq_some_iff_getElem] at h
 obtain ⟨hi, h1, _⟩ := h
 exact ⟨hi, by simpa using h1⟩
theorem ix_none {N : List (List UInt8)} {s : List UInt8} (h : ixL N s = none) : s ∉ N := by
 unfold ixL at h
 rw [List.findIdx?_eq_none_iff] at h
 intro hm
 simpa using h s hm
theorem ix_isSome {N : List (List UInt8)} {s : List UInt8} : (ixL N s).isSome = inL N s := by
 rw [Bool.eq_iff_iff]
 unfold inL
 rw [List.any_eq_true]
 constructor
 ·intro h
  obtain ⟨i, hi⟩ := Option.isSome_iff_exists.1 h
  obtain ⟨hl, h1⟩ := ix_some hi
  exact ⟨s, h1 ▸ List.getElem_mem hl, by simp⟩
 ·rintro ⟨x, hx, he⟩
  have : x = s := by simpa using he
  subst this
  cases h : ixL N x
  ·exact absurd hx (ix_none h)
  ·rfl
theorem ix_in {N : List (List UInt8)} {s : List UInt8} {i : Nat} (h : ixL N s = some i) : inL N s = true := by rw [<- ix_isSome, h]; rfl
theorem ix_out {N : List (List UInt8)} {s : List UInt8} (h : ixL N s = none) : inL N s = false := by rw [<- ix_isSome, h]; rfl
theorem ix_map {α : Type} (f : α -> List UInt8) (T : List α) (s : List UInt8) : ixL (T.map f) s = T.findIdx? (fun t => f t == s) := by
 unfold ixL
 rw [List.findIdx?_map]
 rfl
theorem find_ix {α : Type} (f : α -> List UInt8) (T : List α) (s : List UInt8) : T.find? (fun t => f t == s) = (ixL (T.map f) s).bind (fun i => T[i]?) := by
 rw [ix_map]
 exact List.find?_eq_bind_findIdx?_getElem?
def lowTy (t : Ty) : Ty := (lowL t.1, t.2)
def lowCl (c : Cl) : Cl := (lowL c.1, c.2.1.map lowL, c.2.2.map lowL)
theorem scT_ix (T : List Ty) (s : List UInt8) : scT T s = (ixL ((T.map lowTy).map (·.1)) (lowL s)).bind (fun i => (T.map lowTy)[i]?) := by
 rw [<- find_ix, List.find?_map]
 unfold scT
 rfl
def LowT (T : List Ty) : Prop := ∀ t ∈ T, lowTy t = t
def LowC (C : List Cl) : Prop := ∀ c ∈ C, lowCl c = c
theorem lowTy_low (t : Ty) : lowTy (lowTy t) = lowTy t := by simp [lowTy, lowL_lowL]
theorem lowT_map (T : List Ty) : LowT (T.map lowTy) := by
 intro t ht
 obtain ⟨u, _, rfl⟩ := List.mem_map.1 ht
 exact lowTy_low u
theorem LowT.id {T : List Ty} (h : LowT T) : T.map lowTy = T := by
 rw [List.map_congr_left h]; simp
theorem LowC.id {C : List Cl} (h : LowC C) : C.map lowCl = C := by
 rw [List.map_congr_left h]; simp
theorem scT_ixl {T : List Ty} (h : LowT T) (s : List UInt8) : scT T s = (ixL (T.map (·.1)) (lowL s)).bind (fun i => T[i]?) := by
 rw [scT_ix, h.id]
theorem scT_name {T : List Ty} {s : List UInt8} {t : Ty} (h : scT T s = some t) : t.1 = lowL s := by
 unfold scT at h
 obtain ⟨u, hu, rfl⟩ := Option.map_eq_some_iff.1 h
 have := List.find?_some hu
 simpa using this
end Go.Proofs.YtpkbgkoocijegaaGreatDoor
