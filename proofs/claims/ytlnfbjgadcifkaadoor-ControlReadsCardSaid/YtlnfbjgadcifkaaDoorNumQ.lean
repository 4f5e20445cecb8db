/- The walks of the three laws of layer 2: each returns true and leaves what was in memory as it was. -/
import Derived.Test.YtlnfbjgadcifkaaDoorNumE
namespace Go.Proofs.YtlnfbjgadcifkaaDoor
open Go.RowKit Go.Proofs.NumM Go.Proofs.BerK

theorem toList_mkN (l : List UInt8) : (ByteArray.mk l.toArray).toList = l := by rw [ByteArray.toList_eq]

theorem nput_c (n : Int) (L : List UInt8) (E : Int) (h1 : npL n = L) (h2 : npE n = E) (w : World) :
    Calls Tryd.prog 39 #[.int .i64 n] w fun e w' => e = .returned (.tuple #[.string ⟨L.toArray⟩, .int .i64 E]) ∧ Below w.heap.size w w' := by
  subst h1; subst h2; exact nput_any n w
theorem rnput_c (n : Int) (L : List UInt8) (E : Int) (h1 : npL n = L) (h2 : npE n = E) (w : World) :
    Calls Tryd.prog 43 #[.int .i64 n] w fun e w' => e = .returned (.tuple #[.string ⟨L.toArray⟩, .int .i64 E]) ∧ Below w.heap.size w w' := by
  subst h1; subst h2; exact rnput_any n w
theorem nread_c (s : ByteArray) (k : Int) (e : Nat) (h : nr s.data.toList = (k, e)) (w : World) :
    Calls Tryd.prog 29 #[.string s] w fun en w' => en = .returned (.tuple #[.int .i64 k, .int .i64 (e : Int)]) ∧ w = w' := by
  have := nread_any s w; rw [nrV, h] at this; exact this
theorem rnread_c (s : ByteArray) (k : Int) (e : Nat) (h : nr s.data.toList = (k, e)) (w : World) :
    Calls Tryd.prog 34 #[.string s] w fun en w' => en = .returned (.tuple #[.int .i64 k, .int .i64 (e : Int)]) ∧ w = w' := by
  have := rnread_any s w; rw [nrV, h] at this; exact this
theorem readBool_c (s : ByteArray) (k : Bool) (e : Nat) (h : rb s.data.toList = (k, e)) (w : World) :
    Calls Tryd.prog 30 #[.string s] w fun en w' => en = .returned (.tuple #[.bool k, .int .i64 (e : Int)]) ∧ w = w' := by
  have := readBool_any s w; rw [rbV, h] at this; exact this
/-! ### NumTells -/
end Go.Proofs.YtlnfbjgadcifkaaDoor
