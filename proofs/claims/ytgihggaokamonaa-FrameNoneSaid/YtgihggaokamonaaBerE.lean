/- The code's Put and the document's Put hand back the same bytes and the same error, for every tag and every text that is no longer than a text may be. -/
import Derived.Test.YtgihggaokamonaaBerD
import Derived.Deep.RegionWith
namespace Go.Proofs.Ytgihggaokamonaa
open Go.RowKit Go.Proofs.BerM Go.Proofs.BerK

/-- The bytes of a tag and a body; none where there is an error. -/
def putL (t : Int) (l : List UInt8) : List UInt8 := if tagB t = true ∧ l.length ≤ 65536 then UInt8.ofNat t.toNat :: (lenB l.length ++ l) else []
/-- The error of a tag and a body. -/
def putE (t : Int) (l : List UInt8) : Int := if tagB t = false then 6 else if 65536 < l.length then 3 else 0
theorem putL_ok {t : Int} {l : List UInt8} (h : tagB t = true) (h2 : l.length ≤ 65536) : putL t l = UInt8.ofNat t.toNat :: (lenB l.length ++ l) := by simp [putL, h, h2]
theorem putE_ok {t : Int} {l : List UInt8} (h : tagB t = true) (h2 : l.length ≤ 65536) : putE t l = 0 := by simp [putE, h]; omega
theorem tagB_bd {t : Int} (h : tagB t = true) : 0 ≤ t ∧ t ≤ 254 := by simp [tagB] at h; exact ⟨h.1.1, h.1.2⟩

theorem cat3 (x : UInt8) (l : List UInt8) (s : ByteArray) : ByteArray.mk #[x] ++ ByteArray.mk l.toArray ++ s = ByteArray.mk (x :: (l ++ s.data.toList)).toArray := by
  apply ByteArray.ext
  simp [ByteArray.data_append]
/-- Put's answer. -/
def putV (t : Int) (l : List UInt8) : Value := .tuple #[.string ⟨(putL t l).toArray⟩, .int .i64 (putE t l)]
theorem ret_put {t : Int} {l a : List UInt8} {b : Int} (h1 : putL t l = a) (h2 : putE t l = b) : Ending.returned (.tuple #[.string ⟨a.toArray⟩, .int .i64 b]) = .returned (putV t l) := by rw [putV, h1, h2]

theorem length_any (n : Nat) (w : World) (h4 : n < 4294967296) :
    Calls Try.prog 24 #[.int .i64 n] w fun e w' => e = .returned (.string ⟨(lenB n).toArray⟩) ∧ Below w.heap.size w w' := by
  by_cases h : n < 128
  · exact length_small n w h
  · exact length_big n w (by omega) h4

end Go.Proofs.Ytgihggaokamonaa
