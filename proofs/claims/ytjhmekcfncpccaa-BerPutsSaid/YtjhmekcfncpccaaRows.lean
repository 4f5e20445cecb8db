/-
  No cell of these rows narrows 'for every input' (looked for: loops, veiled, ifaces, maps, wideKeys, modest, calm, conditions, laid).
  DERIVED. THE GIVEN ROWS OF THIS SEAT. 4 by the template 'for every input the law returns true; each argument reads behind the call as it read before'; 0 by the template 'total and deterministic' (their statements: YtjhmekcfncpccaaTotals.lean).
  GIVEN WITH THE SEED: the statements are not yours to turn. If you find one false, say at which input.
  Laid BY PROGRAM, IN A SANDBOX (cutbox-rows.mjs): the forced cells as the released guide's own fill.sh prints them over the translation 2a18aa14b5297abe… (all of the seat's roots in one cut). By AI agents, Wed Nov 11 2026. No macro, syntax, notation, axiom, sorry.
-/
import Derived.Test.YtjhmekcfncpccaaChecked
import GoSem.Claim
import GoSem.ClaimJoined
import GoSem.ClaimMapViews
import Derived.JoinedTies
import Derived.KernelRfl
namespace Go.Proofs.Ytjhmekcfncpccaa
/- THE CELL 'sum', in the pinned program and in every row, IS THE sha256 OF THE DUMP (.gsa) THAT YtjhmekcfncpccaaProg.lean LOADS. Nothing in Lean hashes anything: it is a label: what it is worth is what the hold of that sum in a sandbox is worth. -/
noncomputable def Try.pinned : Pinned := { name := "ytjhmekcfncpccaa", sum := "2a18aa14b5297abe0b5842ee2b69cd8e0207a2805b94d3b5a066dc2fb19ab534", checked := Try.checked }
namespace Rows
def none {H : Type} : Left H := { results := [], args := [] }

/-- 'bothylaw01.BerPuts': WHATEVER THE INPUT: true; the input reads as it did. -/
def berPutsSpec : ChangeSpec := { name := "berPuts", fn := fun _ => fun
  | [d1, d2] => { results := [.lit (.bool true)], args := [d1, d2] }
  | _ => none }
def berPutsRow : OpenClaim := { program := "ytjhmekcfncpccaa", sum := "2a18aa14b5297abe0b5842ee2b69cd8e0207a2805b94d3b5a066dc2fb19ab534", func := "bothy/bothylaw01.BerPuts", spec := "berPuts", apart := false }
def BerPutsSaid : Prop := berPutsRow.holds Try.pinned (OpenSpec.ofChange berPutsSpec)

/-- ITS FALSE NEIGHBOUR: 'it returns false'. Refute it at one input. -/
def berPutsWrong : ChangeSpec := { name := "berPuts", fn := fun _ => fun
  | [d1, d2] => { results := [.lit (.bool false)], args := [d1, d2] }
  | _ => none }
def BerPutsWrongFalsely : Prop := berPutsRow.holds Try.pinned (OpenSpec.ofChange berPutsWrong)

/-- 'bothylaw01.BerReads': WHATEVER THE INPUT: true; the input reads as it did. -/
def berReadsSpec : ChangeSpec := { name := "berReads", fn := fun _ => fun
  | [d] => { results := [.lit (.bool true)], args := [d] }
  | _ => none }
def berReadsRow : OpenClaim := { program := "ytjhmekcfncpccaa", sum := "2a18aa14b5297abe0b5842ee2b69cd8e0207a2805b94d3b5a066dc2fb19ab534", func := "bothy/bothylaw01.BerReads", spec := "berReads", apart := false }
def BerReadsSaid : Prop := berReadsRow.holds Try.pinned (OpenSpec.ofChange berReadsSpec)

/-- ITS FALSE NEIGHBOUR: 'it returns false'. Refute it at one input. -/
def berReadsWrong : ChangeSpec := { name := "berReads", fn := fun _ => fun
  | [d] => { results := [.lit (.bool false)], args := [d] }
  | _ => none }
def BerReadsWrongFalsely : Prop := berReadsRow.holds Try.pinned (OpenSpec.ofChange berReadsWrong)

/-- 'bothylaw01.BerBack': WHATEVER THE INPUT: true; the input reads as it did. -/
def berBackSpec : ChangeSpec := { name := "berBack", fn := fun _ => fun
  | [d1, d2, d3] => { results := [.lit (.bool true)], args := [d1, d2, d3] }
  | _ => none }
def berBackRow : OpenClaim := { program := "ytjhmekcfncpccaa", sum := "2a18aa14b5297abe0b5842ee2b69cd8e0207a2805b94d3b5a066dc2fb19ab534", func := "bothy/bothylaw01.BerBack", spec := "berBack", apart := false }
def BerBackSaid : Prop := berBackRow.holds Try.pinned (OpenSpec.ofChange berBackSpec)

/-- ITS FALSE NEIGHBOUR: 'it returns false'. Refute it at one input. -/
def berBackWrong : ChangeSpec := { name := "berBack", fn := fun _ => fun
  | [d1, d2, d3] => { results := [.lit (.bool false)], args := [d1, d2, d3] }
  | _ => none }
def BerBackWrongFalsely : Prop := berBackRow.holds Try.pinned (OpenSpec.ofChange berBackWrong)

/-- 'bothylaw01.BerLength': WHATEVER THE INPUT: true; the input reads as it did. -/
def berLengthSpec : ChangeSpec := { name := "berLength", fn := fun _ => fun
  | [d1, d2, d3] => { results := [.lit (.bool true)], args := [d1, d2, d3] }
  | _ => none }
def berLengthRow : OpenClaim := { program := "ytjhmekcfncpccaa", sum := "2a18aa14b5297abe0b5842ee2b69cd8e0207a2805b94d3b5a066dc2fb19ab534", func := "bothy/bothylaw01.BerLength", spec := "berLength", apart := false }
def BerLengthSaid : Prop := berLengthRow.holds Try.pinned (OpenSpec.ofChange berLengthSpec)

/-- ITS FALSE NEIGHBOUR: 'it returns false'. Refute it at one input. -/
def berLengthWrong : ChangeSpec := { name := "berLength", fn := fun _ => fun
  | [d1, d2, d3] => { results := [.lit (.bool false)], args := [d1, d2, d3] }
  | _ => none }
def BerLengthWrongFalsely : Prop := berLengthRow.holds Try.pinned (OpenSpec.ofChange berLengthWrong)

/- THE SECOND FORM. 'bulk': how many values and letters a reading holds, each counted each time it is reached (what is shared counts as often as it is met; a slice's spare places count too). A statement '..UptoSaid' is the law's where the arguments, and the package variables that the reading takes, are together of bulk at most 1048576: NARROWER than '..Said'. Prove '..Said' where nothing that the law and all that it calls make is longer than what came in: it says more and counts as full. Else prove '..UptoSaid'. A law counts once. -/
mutual
def uptoBulk {H : Type} : DataW H → Nat
  | .lit (.string bytes) => bytes.length + 1
  | .lit _ => 1
  | .nil => 1
  | .ptr d => uptoBulk d + 1
  | .slice elems spare => uptoBulkAll elems + uptoBulkAll spare + 1
  | .agg parts => uptoBulkAll parts + 1
  | .iface _ d => uptoBulk d + 1
  | .map entries => uptoBulkEntries entries + 1
  | .held _ => 1
def uptoBulkAll {H : Type} : List (DataW H) → Nat
  | [] => 0
  | d :: r => uptoBulk d + uptoBulkAll r
def uptoBulkEntries {H : Type} : List (Lit × DataW H) → Nat
  | [] => 0
  | x :: r => uptoBulkEntry x + uptoBulkEntries r
def uptoBulkEntry {H : Type} : Lit × DataW H → Nat
  | (.string bytes, d) => bytes.length + uptoBulk d + 1
  | (_, d) => uptoBulk d + 1
 end
def uptoSmall : (H : Type) → List (DataW H) → Bool := fun _ ds => decide (uptoBulkAll ds ≤ 1048576)
def OpenSpec.upto (s : _root_.Go.ChangeSpec) : _root_.Go.OpenSpec := { _root_.Go.OpenSpec.ofChange s with cond := some uptoSmall }

/-- 'bothylaw01.BerPuts', WHERE WHAT IT READS IS OF BULK AT MOST 1048576: true; the input reads as it did. -/
def berPutsUptoRow : OpenClaim := { program := "ytjhmekcfncpccaa", sum := "2a18aa14b5297abe0b5842ee2b69cd8e0207a2805b94d3b5a066dc2fb19ab534", func := "bothy/bothylaw01.BerPuts", spec := "berPuts", apart := false, narrowed := true }
def BerPutsUptoSaid : Prop := berPutsUptoRow.holds Try.pinned (OpenSpec.upto berPutsSpec)

/-- 'bothylaw01.BerReads', WHERE WHAT IT READS IS OF BULK AT MOST 1048576: true; the input reads as it did. -/
def berReadsUptoRow : OpenClaim := { program := "ytjhmekcfncpccaa", sum := "2a18aa14b5297abe0b5842ee2b69cd8e0207a2805b94d3b5a066dc2fb19ab534", func := "bothy/bothylaw01.BerReads", spec := "berReads", apart := false, narrowed := true }
def BerReadsUptoSaid : Prop := berReadsUptoRow.holds Try.pinned (OpenSpec.upto berReadsSpec)

/-- 'bothylaw01.BerBack', WHERE WHAT IT READS IS OF BULK AT MOST 1048576: true; the input reads as it did. -/
def berBackUptoRow : OpenClaim := { program := "ytjhmekcfncpccaa", sum := "2a18aa14b5297abe0b5842ee2b69cd8e0207a2805b94d3b5a066dc2fb19ab534", func := "bothy/bothylaw01.BerBack", spec := "berBack", apart := false, narrowed := true }
def BerBackUptoSaid : Prop := berBackUptoRow.holds Try.pinned (OpenSpec.upto berBackSpec)

/-- 'bothylaw01.BerLength', WHERE WHAT IT READS IS OF BULK AT MOST 1048576: true; the input reads as it did. -/
def berLengthUptoRow : OpenClaim := { program := "ytjhmekcfncpccaa", sum := "2a18aa14b5297abe0b5842ee2b69cd8e0207a2805b94d3b5a066dc2fb19ab534", func := "bothy/bothylaw01.BerLength", spec := "berLength", apart := false, narrowed := true }
def BerLengthUptoSaid : Prop := berLengthUptoRow.holds Try.pinned (OpenSpec.upto berLengthSpec)

end Rows
end Go.Proofs.Ytjhmekcfncpccaa
