/- Names read, plainly. -/
import Derived.Test.YtlopmppiihhnnaaGreatDoorDnM
namespace Go.Proofs.YtlopmppiihhnnaaGreatDoor

/-- The text up to the first byte that parts, the other texts of its part, and the other parts. -/
def splG : List UInt8 → List UInt8 × List (List UInt8) × List (List (List UInt8))
  | [] => ([], [], [])
  | c :: r =>
    if c = 92 then
      match r with
      | [] => ([c], [], [])
      | d :: r' => let x := splG r'; (c :: d :: x.1, x.2)
    else let x := splG r
      if c = 43 then ([], x.1 :: x.2.1, x.2.2) else if c = 44 then ([], [], (x.1 :: x.2.1) :: x.2.2) else (c :: x.1, x.2)
def splT (part : List (List UInt8)) (cur : List UInt8) (x : List UInt8 × List (List UInt8) × List (List (List UInt8))) : List (List (List UInt8)) := (part ++ (cur ++ x.1) :: x.2.1) :: x.2.2
def splL (s : List UInt8) : List (List (List UInt8)) := splT [] [] (splG s)
theorem splG_slash (r : List UInt8) : splG (92 :: r) = ((92 :: r).take 2 ++ (splG ((92 :: r).drop 2)).1, (splG ((92 :: r).drop 2)).2) := by
  cases r with
  | nil => simp [splG]
  | cons d r' => rw [splG]; simp
theorem splG_plus (r : List UInt8) : splG (43 :: r) = ([], (splG r).1 :: (splG r).2.1, (splG r).2.2) := by
  conv => lhs; unfold splG
  cases r <;> simp
theorem splG_comma (r : List UInt8) : splG (44 :: r) = ([], [], ((splG r).1 :: (splG r).2.1) :: (splG r).2.2) := by
  conv => lhs; unfold splG
  cases r <;> simp
theorem splG_else (c : UInt8) (r : List UInt8) (h1 : c ≠ 92) (h2 : c ≠ 43) (h3 : c ≠ 44) : splG (c :: r) = (c :: (splG r).1, (splG r).2) := by
  conv => lhs; unfold splG
  cases r <;> simp [h1, h2, h3]

/-- The byte behind a backslash, and how many bytes say so. -/
def rmL : List UInt8 → Option (UInt8 × Nat)
  | [] => none
  | c :: r => if mayN c.toNat = true then some (c, 1) else match r with
    | [] => none
    | d :: _ => if hxN c.toNat < 16 ∧ hxN d.toNat < 16 then some (UInt8.ofNat (16 * hxN c.toNat + hxN d.toNat), 2) else none
theorem rmL_may (c : UInt8) (r : List UInt8) (h : mayN c.toNat = true) : rmL (c :: r) = some (c, 1) := by
  cases r <;> simp [rmL, h]
theorem rmL_one (c : UInt8) (h : ¬ mayN c.toNat = true) : rmL [c] = none := by simp [rmL, h]
theorem rmL_two (c d : UInt8) (r : List UInt8) (h : ¬ mayN c.toNat = true) : rmL (c :: d :: r) = if hxN c.toNat < 16 ∧ hxN d.toNat < 16 then some (UInt8.ofNat (16 * hxN c.toNat + hxN d.toNat), 2) else none := by simp [rmL, h]
/-- The value of a text without blanks ahead. -/
def rvG (first : Bool) : List UInt8 → Option (List UInt8)
  | [] => some []
  | c :: r =>
    if c = 32 then (rvG false r).map fun v => if v = [] then [] else 32 :: v
    else if c = 92 then
      match r with
      | [] => none
      | d :: r1 => if mayN d.toNat = true then (rvG false r1).map (d :: ·) else
        match r1 with
        | [] => none
        | e :: r2 => if hxN d.toNat < 16 ∧ hxN e.toNat < 16 then (rvG false r2).map (UInt8.ofNat (16 * hxN d.toNat + hxN e.toNat) :: ·) else none
    else if bareN c.toNat = true ∨ (c ≠ 61 ∧ mkN first false c.toNat = true) then none
    else (rvG false r).map (c :: ·)
def tlB (s : List UInt8) : List UInt8 := s.dropWhile (· == 32)
def trB (s : List UInt8) : List UInt8 := (s.reverse.dropWhile (· == 32)).reverse
def rvL (s : List UInt8) : Option (List UInt8) := rvG true (tlB s)
def cut1 (c : UInt8) (s : List UInt8) : List UInt8 := s.takeWhile (· != c)
def cut2 (c : UInt8) (s : List UInt8) : List UInt8 := (s.dropWhile (· != c)).drop 1
def rpJ (b : Bool) (T : List UInt8) (o : Option (List UInt8)) : Option Av :=
  if b = true then match o with
    | none => none
    | some v => if v = [] then none else some (T, v)
  else none
/-- The pair of a text. -/
def rpL (s : List UInt8) : Option Av := rpJ (tyL (tlB (trB (cut1 61 s)))) (tlB (trB (cut1 61 s))) (rvL (cut2 61 s))
def rpsL : List (List UInt8) → Option (List Av)
  | [] => some []
  | t :: r => match rpL t with | none => none | some p => (rpsL r).map (p :: ·)
def rpp : List (List (List UInt8)) → Option (List (List Av))
  | [] => some []
  | t :: r => match rpsL t with | none => none | some p => (rpp r).map (p :: ·)
def lgD (d : List (List Av)) : Bool := decide (32 < d.length) || d.any fun r => decide (8 < r.length)
/-- The name of a text, and the error's number. -/
def rdD (s : List UInt8) : List (List Av) × Nat :=
  if 4096 < s.length then ([], 3) else if s = [] then ([], 0) else
  match rpp (splL s) with
  | none => ([], 5)
  | some d => if lgD d = true then ([], 3) else if ckD d ≠ 0 then ([], ckD d) else (d, 0)

/-! ### As they count -/
def insA (p : Av) : List Av → List Av
  | [] => [p]
  | q :: r => if q.1 < p.1 then q :: insA p r else p :: q :: r
end Go.Proofs.YtlopmppiihhnnaaGreatDoor
