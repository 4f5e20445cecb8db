/- The code puts a length's bytes behind a row of bytes of its own, for every number of 32 bits. -/
import Derived.Test.YtgihggaokamonaaBerC
namespace Go.Proofs.Ytgihggaokamonaa
open Go.RowKit Go.Proofs.BerM Go.Proofs.BerK

theorem Try.info5 : (Try.prog.info? 5).map (fun i => (i.zero, i.size, i.bytes)) = some (some (.int .u8 0), 1, 1) := by kernel_rfl

/-- What stands in the row while j bytes of a length are still to come. -/
def pre (l : List UInt8) (n K j : Nat) : List UInt8 := l ++ UInt8.ofNat (128 + K) :: (beF n).take (K - j)

end Go.Proofs.Ytgihggaokamonaa
