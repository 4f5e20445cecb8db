/- Names as texts, plainly: over lists of bytes, of no program. -/
import Derived.Test.YtlopmppiihhnnaaGreatDoorFoldM
namespace Go.Proofs.YtlopmppiihhnnaaGreatDoor

/-! ### Bytes -/
def letN (c : Nat) : Bool := decide (65 ≤ c) && decide (c ≤ 90) || decide (97 ≤ c) && decide (c ≤ 122)
def tcN (c : Nat) : Bool := letN c || decide (48 ≤ c) && decide (c ≤ 57) || decide (c = 45)
def bareN (c : Nat) : Bool := decide (c < 32) || decide (c = 127)
def spN (c : Nat) : Bool := decide (c = 44) || decide (c = 43) || decide (c = 34) || decide (c = 92) || decide (c = 60) || decide (c = 62) || decide (c = 59) || decide (c = 61)
def mkN (first last : Bool) (c : Nat) : Bool := if c = 32 then first || last else if c = 35 then first else spN c
def mayN (c : Nat) : Bool := spN c || decide (c = 32) || decide (c = 35)
def hxD (n : Nat) : UInt8 := if n < 10 then UInt8.ofNat (48 + n) else UInt8.ofNat (87 + n)
def hxN (c : Nat) : Nat := if 48 ≤ c ∧ c ≤ 57 then c - 48 else if 97 ≤ c ∧ c ≤ 102 then c - 87 else if 65 ≤ c ∧ c ≤ 70 then c - 55 else 16

/-! ### A type, a value's text -/
def hdP (p : Nat → Bool) : List UInt8 → Bool | [] => false | c :: _ => p c.toNat
def tyL (s : List UInt8) : Bool := hdP letN s && decide (s.length ≤ 64) && s.all fun c => tcN c.toNat
def e1L (first last : Bool) (c : UInt8) : List UInt8 := if bareN c.toNat = true then [92, hxD (c.toNat / 16), hxD (c.toNat % 16)] else if mkN first last c.toNat = true then [92, c] else [c]
def egL : Bool → List UInt8 → List UInt8 | _, [] => [] | f, c :: r => e1L f r.isEmpty c ++ egL false r
def esL (s : List UInt8) : List UInt8 := egL true s

/-! ### Names -/
abbrev Av := List UInt8 × List UInt8
def jnL (sep : UInt8) : Bool → List (List UInt8) → List UInt8 | _, [] => [] | f, x :: r => (if f = true then [] else [sep]) ++ (x ++ jnL sep false r)
def avL (p : Av) : List UInt8 := p.1 ++ 61 :: esL p.2
def ptL (r : List Av) : List UInt8 := jnL 43 true (r.map avL)
def nmL (d : List (List Av)) : List UInt8 := jnL 44 true (d.map ptL)
def twL (seen : List Av) (p : Av) : Bool := seen.any fun q => lowL q.1 == lowL p.1
def avOk (p : Av) : Bool := tyL p.1 && decide (p.2 ≠ []) && decide (p.2.length ≤ 256)
def pgL : List Av → List Av → Bool | _, [] => true | seen, p :: r => avOk p && !twL seen p && pgL (seen ++ [p]) r
def prL (r : List Av) : Bool := decide (1 ≤ r.length) && decide (r.length ≤ 8) && pgL [] r
def ckD (d : List (List Av)) : Nat := if 32 < d.length then 3 else if d.all prL = true then 0 else 5
def puD (d : List (List Av)) : List UInt8 × Nat := if ckD d ≠ 0 then ([], ckD d) else if 4096 < (nmL d).length then ([], 3) else (nmL d, 0)
end Go.Proofs.YtlopmppiihhnnaaGreatDoor
