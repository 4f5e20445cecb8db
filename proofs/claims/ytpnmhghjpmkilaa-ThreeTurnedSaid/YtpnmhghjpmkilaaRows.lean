/-
  No cell of these rows narrows 'for every input' (looked for: loops, veiled, ifaces, maps, wideKeys, modest, calm, conditions, laid).
  DERIVED. THE GIVEN ROWS OF THIS SEAT. 2 by the template 'for every input the law returns true; each argument reads behind the call as it read before'; 0 by the template 'total and deterministic' (their statements: YtpnmhghjpmkilaaTotals.lean).
  GIVEN WITH THE SEED: the statements are not yours to turn. If you find one false, say at which input.
  Laid BY PROGRAM, IN A SANDBOX (cutbox-rows.mjs): the forced cells as the released guide's own fill.sh prints them over the translation 38d5856b381a1a8d… (all of the seat's roots in one cut). By AI agents, Wed Nov 11 2026. No macro, syntax, notation, axiom, sorry.
-/
import Derived.Test.YtpnmhghjpmkilaaChecked
import GoSem.Claim
import GoSem.ClaimJoined
import GoSem.ClaimMapViews
import Derived.JoinedTies
import Derived.KernelRfl
namespace Go.Proofs.Ytpnmhghjpmkilaa
/- THE CELL 'sum', in the pinned program and in every row, IS THE sha256 OF THE DUMP (.gsa) THAT YtpnmhghjpmkilaaProg.lean LOADS. Nothing in Lean hashes anything: it is a label: what it is worth is what the hold of that sum in a sandbox is worth. -/
noncomputable def Try.pinned : Pinned := { name := "ytpnmhghjpmkilaa", sum := "38d5856b381a1a8d8d1e4ad277cfeefad6afe9573ec52b4b68acd0650370fb50", checked := Try.checked }
namespace Rows
def none {H : Type} : Left H := { results := [], args := [] }

/-- 'bothylaw14.ThreeTells': WHATEVER THE INPUT: true; the input reads as it did. -/
def threeTellsSpec : ChangeSpec := { name := "threeTells", fn := fun _ => fun
  | [d] => { results := [.lit (.bool true)], args := [d] }
  | _ => none }
def threeTellsRow : OpenClaim := { program := "ytpnmhghjpmkilaa", sum := "38d5856b381a1a8d8d1e4ad277cfeefad6afe9573ec52b4b68acd0650370fb50", func := "bothy/bothylaw14.ThreeTells", spec := "threeTells", unfollowed := true, recurses := true, apart := false }
def ThreeTellsSaid : Prop := threeTellsRow.holds Try.pinned (OpenSpec.ofChange threeTellsSpec)

/-- ITS FALSE NEIGHBOUR: 'it returns false'. Refute it at one input. -/
def threeTellsWrong : ChangeSpec := { name := "threeTells", fn := fun _ => fun
  | [d] => { results := [.lit (.bool false)], args := [d] }
  | _ => none }
def ThreeTellsWrongFalsely : Prop := threeTellsRow.holds Try.pinned (OpenSpec.ofChange threeTellsWrong)

/-- 'bothylaw14.ThreeTurned': WHATEVER THE INPUT: true; the input reads as it did. -/
def threeTurnedSpec : ChangeSpec := { name := "threeTurned", fn := fun _ => fun
  | [d1, d2] => { results := [.lit (.bool true)], args := [d1, d2] }
  | _ => none }
def threeTurnedRow : OpenClaim := { program := "ytpnmhghjpmkilaa", sum := "38d5856b381a1a8d8d1e4ad277cfeefad6afe9573ec52b4b68acd0650370fb50", func := "bothy/bothylaw14.ThreeTurned", spec := "threeTurned", unfollowed := true, recurses := true, apart := false }
def ThreeTurnedSaid : Prop := threeTurnedRow.holds Try.pinned (OpenSpec.ofChange threeTurnedSpec)

/-- ITS FALSE NEIGHBOUR: 'it returns false'. Refute it at one input. -/
def threeTurnedWrong : ChangeSpec := { name := "threeTurned", fn := fun _ => fun
  | [d1, d2] => { results := [.lit (.bool false)], args := [d1, d2] }
  | _ => none }
def ThreeTurnedWrongFalsely : Prop := threeTurnedRow.holds Try.pinned (OpenSpec.ofChange threeTurnedWrong)

/- THE SECOND FORM. 'bulk': how many values and letters a reading holds, each counted each time it is reached (what is shared counts as often as it is met; a slice's spare places count too). A statement '..UptoSaid' is the law's where the arguments, and the package variables that the reading takes, are together of bulk at most 1048576: NARROWER than '..Said'. Prove '..Said' where nothing that the law and all that it calls make is longer than what came in: it says more and counts as full. Else prove '..UptoSaid'. A law counts once. -/
mutual
def uptoBulk {H : Type} : DataW H → Nat
  | .lit (.string bytes) => bytes.length + 1
  | .lit _ => 1
  | .nil => 1
  | .ptr d => uptoBulk d + 1
  | .slice elems spare => uptoBulkAll elems + uptoBulkAll spare + 1
  | .agg parts => uptoBulkAll parts + 1
  | .iface _ d => uptoBulk d + 1
  | .map entries => uptoBulkEntries entries + 1
  | .held _ => 1
def uptoBulkAll {H : Type} : List (DataW H) → Nat
  | [] => 0
  | d :: r => uptoBulk d + uptoBulkAll r
def uptoBulkEntries {H : Type} : List (Lit × DataW H) → Nat
  | [] => 0
  | x :: r => uptoBulkEntry x + uptoBulkEntries r
def uptoBulkEntry {H : Type} : Lit × DataW H → Nat
  | (.string bytes, d) => bytes.length + uptoBulk d + 1
  | (_, d) => uptoBulk d + 1
 end
def uptoSmall : (H : Type) → List (DataW H) → Bool := fun _ ds => decide (uptoBulkAll ds ≤ 1048576)
def OpenSpec.upto (s : _root_.Go.ChangeSpec) : _root_.Go.OpenSpec := { _root_.Go.OpenSpec.ofChange s with cond := some uptoSmall }

/-- 'bothylaw14.ThreeTells', WHERE WHAT IT READS IS OF BULK AT MOST 1048576: true; the input reads as it did. -/
def threeTellsUptoRow : OpenClaim := { program := "ytpnmhghjpmkilaa", sum := "38d5856b381a1a8d8d1e4ad277cfeefad6afe9573ec52b4b68acd0650370fb50", func := "bothy/bothylaw14.ThreeTells", spec := "threeTells", unfollowed := true, recurses := true, apart := false, narrowed := true }
def ThreeTellsUptoSaid : Prop := threeTellsUptoRow.holds Try.pinned (OpenSpec.upto threeTellsSpec)

/-- 'bothylaw14.ThreeTurned', WHERE WHAT IT READS IS OF BULK AT MOST 1048576: true; the input reads as it did. -/
def threeTurnedUptoRow : OpenClaim := { program := "ytpnmhghjpmkilaa", sum := "38d5856b381a1a8d8d1e4ad277cfeefad6afe9573ec52b4b68acd0650370fb50", func := "bothy/bothylaw14.ThreeTurned", spec := "threeTurned", unfollowed := true, recurses := true, apart := false, narrowed := true }
def ThreeTurnedUptoSaid : Prop := threeTurnedUptoRow.holds Try.pinned (OpenSpec.upto threeTurnedSpec)

end Rows
end Go.Proofs.Ytpnmhghjpmkilaa
