/-
  DERIVED. GIVEN WITH THE SEED: THE CARDS: each row of YtmejiiebeknbjaaDoorRows.lean that lists a variable, with what it lists TIED to the program's text (the seventh form; the later family's looks); each row that meets fmt, with fmt's text TOLD by the authors' own Lean function (tested against real Go, not proved from fmt's source: count such statements apart). THE CARD IS WHAT COUNTS. Prove the row's statement (the work); the ties are given (YtmejiiebeknbjaaDoorTie.lean); close each card by the builder's one call (the guide's Derived/Test/ToyasCard.lean, 'card_holds'). Laid BY PROGRAM, IN A SANDBOX (cutbox-door.mjs). By AI agents, Wed Nov 11 2026. No macro, syntax, notation, axiom, sorry.
-/
import Derived.Test.YtmejiiebeknbjaaDoorRows
import GoSem.ClaimSeven
namespace Go.Proofs.YtmejiiebeknbjaaDoor
namespace Rows

/-- THE TIED CARD OF 'saturatelaw10.CostNodes'. -/
def costNodesCard : Claim7 := { stood := { row := costNodesRow, standIns := [], harness := (true, "4b7efee8e9d18f2a4bdc328888eac5701d7eb2fd148ec4f13a3e25e9ec1c7e4d"), looks := false }, kinds := [], alts := [], laidByText := true, laidKinds := [.data, .data, .data], laidTests := true, laidLooks := .later }
def CostNodesCardSaid : Prop := Claim7.holds Tryd.pinned (.plain (OpenSpec.ofChange costNodesSpec)) costNodesCard

/-- THE TIED CARD OF 'saturatelaw10.CostTrees'. -/
def costTreesCard : Claim7 := { stood := { row := costTreesRow, standIns := [], harness := (true, "4b7efee8e9d18f2a4bdc328888eac5701d7eb2fd148ec4f13a3e25e9ec1c7e4d"), looks := false }, kinds := [], alts := [], laidByText := true, laidKinds := [.data, .data, .data], laidTests := true, laidLooks := .later }
def CostTreesCardSaid : Prop := Claim7.holds Tryd.pinned (.plain (OpenSpec.ofChange costTreesSpec)) costTreesCard

/-- THE TIED CARD OF 'saturatelaw10.CostDags'. -/
def costDagsCard : Claim7 := { stood := { row := costDagsRow, standIns := [], harness := (true, "4b7efee8e9d18f2a4bdc328888eac5701d7eb2fd148ec4f13a3e25e9ec1c7e4d"), looks := false }, kinds := [], alts := [], laidByText := true, laidKinds := [.data, .data, .data], laidTests := true, laidLooks := .later }
def CostDagsCardSaid : Prop := Claim7.holds Tryd.pinned (.plain (OpenSpec.ofChange costDagsSpec)) costDagsCard

/-- THE TIED CARD OF 'saturatelaw10.CostShared'. -/
def costSharedCard : Claim7 := { stood := { row := costSharedRow, standIns := [], harness := (true, "4b7efee8e9d18f2a4bdc328888eac5701d7eb2fd148ec4f13a3e25e9ec1c7e4d"), looks := false }, kinds := [], alts := [], laidByText := true, laidKinds := [.data, .data, .data], laidTests := true, laidLooks := .later }
def CostSharedCardSaid : Prop := Claim7.holds Tryd.pinned (.plain (OpenSpec.ofChange costSharedSpec)) costSharedCard

/-- THE TIED CARD OF 'saturatelaw10.CostOrder'. -/
def costOrderCard : Claim7 := { stood := { row := costOrderRow, standIns := [], harness := (true, "4b7efee8e9d18f2a4bdc328888eac5701d7eb2fd148ec4f13a3e25e9ec1c7e4d"), looks := false }, kinds := [], alts := [], laidByText := true, laidKinds := [.data, .data, .data], laidTests := true, laidLooks := .later }
def CostOrderCardSaid : Prop := Claim7.holds Tryd.pinned (.plain (OpenSpec.ofChange costOrderSpec)) costOrderCard

/-- THE TIED CARD OF 'saturatelaw10.CostGrows'. -/
def costGrowsCard : Claim7 := { stood := { row := costGrowsRow, standIns := [], harness := (true, "4b7efee8e9d18f2a4bdc328888eac5701d7eb2fd148ec4f13a3e25e9ec1c7e4d"), looks := false }, kinds := [], alts := [], laidByText := true, laidKinds := [.data, .data, .data], laidTests := true, laidLooks := .later }
def CostGrowsCardSaid : Prop := Claim7.holds Tryd.pinned (.plain (OpenSpec.ofChange costGrowsSpec)) costGrowsCard

/-- THE SECOND FORM's CARD OF 'saturatelaw10.CostNodes'. -/
def costNodesUptoCard : Claim7 := { stood := { row := costNodesUptoRow, standIns := [], harness := (true, "4b7efee8e9d18f2a4bdc328888eac5701d7eb2fd148ec4f13a3e25e9ec1c7e4d"), looks := false }, kinds := [], alts := [], laidByText := true, laidKinds := [.data, .data, .data], laidTests := true, laidLooks := .later }
def CostNodesUptoCardSaid : Prop := Claim7.holds Tryd.pinned (.plain (OpenSpec.upto costNodesSpec)) costNodesUptoCard

/-- THE SECOND FORM's CARD OF 'saturatelaw10.CostTrees'. -/
def costTreesUptoCard : Claim7 := { stood := { row := costTreesUptoRow, standIns := [], harness := (true, "4b7efee8e9d18f2a4bdc328888eac5701d7eb2fd148ec4f13a3e25e9ec1c7e4d"), looks := false }, kinds := [], alts := [], laidByText := true, laidKinds := [.data, .data, .data], laidTests := true, laidLooks := .later }
def CostTreesUptoCardSaid : Prop := Claim7.holds Tryd.pinned (.plain (OpenSpec.upto costTreesSpec)) costTreesUptoCard

/-- THE SECOND FORM's CARD OF 'saturatelaw10.CostDags'. -/
def costDagsUptoCard : Claim7 := { stood := { row := costDagsUptoRow, standIns := [], harness := (true, "4b7efee8e9d18f2a4bdc328888eac5701d7eb2fd148ec4f13a3e25e9ec1c7e4d"), looks := false }, kinds := [], alts := [], laidByText := true, laidKinds := [.data, .data, .data], laidTests := true, laidLooks := .later }
def CostDagsUptoCardSaid : Prop := Claim7.holds Tryd.pinned (.plain (OpenSpec.upto costDagsSpec)) costDagsUptoCard

/-- THE SECOND FORM's CARD OF 'saturatelaw10.CostShared'. -/
def costSharedUptoCard : Claim7 := { stood := { row := costSharedUptoRow, standIns := [], harness := (true, "4b7efee8e9d18f2a4bdc328888eac5701d7eb2fd148ec4f13a3e25e9ec1c7e4d"), looks := false }, kinds := [], alts := [], laidByText := true, laidKinds := [.data, .data, .data], laidTests := true, laidLooks := .later }
def CostSharedUptoCardSaid : Prop := Claim7.holds Tryd.pinned (.plain (OpenSpec.upto costSharedSpec)) costSharedUptoCard

/-- THE SECOND FORM's CARD OF 'saturatelaw10.CostOrder'. -/
def costOrderUptoCard : Claim7 := { stood := { row := costOrderUptoRow, standIns := [], harness := (true, "4b7efee8e9d18f2a4bdc328888eac5701d7eb2fd148ec4f13a3e25e9ec1c7e4d"), looks := false }, kinds := [], alts := [], laidByText := true, laidKinds := [.data, .data, .data], laidTests := true, laidLooks := .later }
def CostOrderUptoCardSaid : Prop := Claim7.holds Tryd.pinned (.plain (OpenSpec.upto costOrderSpec)) costOrderUptoCard

/-- THE SECOND FORM's CARD OF 'saturatelaw10.CostGrows'. -/
def costGrowsUptoCard : Claim7 := { stood := { row := costGrowsUptoRow, standIns := [], harness := (true, "4b7efee8e9d18f2a4bdc328888eac5701d7eb2fd148ec4f13a3e25e9ec1c7e4d"), looks := false }, kinds := [], alts := [], laidByText := true, laidKinds := [.data, .data, .data], laidTests := true, laidLooks := .later }
def CostGrowsUptoCardSaid : Prop := Claim7.holds Tryd.pinned (.plain (OpenSpec.upto costGrowsSpec)) costGrowsUptoCard
end Rows
end Go.Proofs.YtmejiiebeknbjaaDoor
