/-
  DERIVED. GIVEN WITH THE SEED: THE CARDS: each row of YtlopmppiihhnnaaGreatDoorRows.lean that lists a variable, with what it lists TIED to the program's text (the seventh form; the later family's looks); each row that meets fmt, with fmt's text TOLD by the authors' own Lean function (tested against real Go, not proved from fmt's source: count such statements apart). THE CARD IS WHAT COUNTS. Prove the row's statement (the work); the ties are given (YtlopmppiihhnnaaGreatDoorTie.lean); close each card by the builder's one call (the guide's Derived/Test/ToyasCard.lean, 'card_holds'). Laid BY PROGRAM, IN A SANDBOX (cutbox-door.mjs). By AI agents, Wed Nov 11 2026. No macro, syntax, notation, axiom, sorry.
-/
import Derived.Test.YtlopmppiihhnnaaGreatDoorRows
import GoSem.ClaimSeven
namespace Go.Proofs.YtlopmppiihhnnaaGreatDoor
namespace Rows

/-- THE TIED CARD OF 'bothylaw08.RulesTell'. -/
def rulesTellCard : Claim7 := { stood := { row := rulesTellRow, standIns := [], harness := (true, "55b889a3d37536ad2bbecf32ce86b6a408611550e76021ee8219ba76a637f477"), looks := true }, kinds := [], alts := [], laidByText := true, laidKinds := [.data, .data, .data, .data, .sentinel, .sentinel, .pinned], laidTests := true, laidLooks := .later }
def RulesTellCardSaid : Prop := Claim7.holds Tryz.pinned (.plain (OpenSpec.ofChange rulesTellSpec)) rulesTellCard

/-- THE TIED CARD OF 'bothylaw08.RulesClass'. -/
def rulesClassCard : Claim7 := { stood := { row := rulesClassRow, standIns := [], harness := (true, "55b889a3d37536ad2bbecf32ce86b6a408611550e76021ee8219ba76a637f477"), looks := true }, kinds := [], alts := [], laidByText := true, laidKinds := [.data, .data, .data, .data, .sentinel, .sentinel, .pinned], laidTests := true, laidLooks := .later }
def RulesClassCardSaid : Prop := Claim7.holds Tryz.pinned (.plain (OpenSpec.ofChange rulesClassSpec)) rulesClassCard

/-- THE TIED CARD OF 'bothylaw08.RulesSelf'. -/
def rulesSelfCard : Claim7 := { stood := { row := rulesSelfRow, standIns := [], harness := (true, "55b889a3d37536ad2bbecf32ce86b6a408611550e76021ee8219ba76a637f477"), looks := true }, kinds := [], alts := [], laidByText := true, laidKinds := [.data, .data, .data, .data, .sentinel, .sentinel, .pinned], laidTests := true, laidLooks := .later }
def RulesSelfCardSaid : Prop := Claim7.holds Tryz.pinned (.plain (OpenSpec.ofChange rulesSelfSpec)) rulesSelfCard

/-- THE SECOND FORM's CARD OF 'bothylaw08.RulesTell'. -/
def rulesTellUptoCard : Claim7 := { stood := { row := rulesTellUptoRow, standIns := [], harness := (true, "55b889a3d37536ad2bbecf32ce86b6a408611550e76021ee8219ba76a637f477"), looks := true }, kinds := [], alts := [], laidByText := true, laidKinds := [.data, .data, .data, .data, .sentinel, .sentinel, .pinned], laidTests := true, laidLooks := .later }
def RulesTellUptoCardSaid : Prop := Claim7.holds Tryz.pinned (.plain (OpenSpec.upto rulesTellSpec)) rulesTellUptoCard

/-- THE SECOND FORM's CARD OF 'bothylaw08.RulesClass'. -/
def rulesClassUptoCard : Claim7 := { stood := { row := rulesClassUptoRow, standIns := [], harness := (true, "55b889a3d37536ad2bbecf32ce86b6a408611550e76021ee8219ba76a637f477"), looks := true }, kinds := [], alts := [], laidByText := true, laidKinds := [.data, .data, .data, .data, .sentinel, .sentinel, .pinned], laidTests := true, laidLooks := .later }
def RulesClassUptoCardSaid : Prop := Claim7.holds Tryz.pinned (.plain (OpenSpec.upto rulesClassSpec)) rulesClassUptoCard

/-- THE SECOND FORM's CARD OF 'bothylaw08.RulesSelf'. -/
def rulesSelfUptoCard : Claim7 := { stood := { row := rulesSelfUptoRow, standIns := [], harness := (true, "55b889a3d37536ad2bbecf32ce86b6a408611550e76021ee8219ba76a637f477"), looks := true }, kinds := [], alts := [], laidByText := true, laidKinds := [.data, .data, .data, .data, .sentinel, .sentinel, .pinned], laidTests := true, laidLooks := .later }
def RulesSelfUptoCardSaid : Prop := Claim7.holds Tryz.pinned (.plain (OpenSpec.upto rulesSelfSpec)) rulesSelfUptoCard
end Rows
end Go.Proofs.YtlopmppiihhnnaaGreatDoor
