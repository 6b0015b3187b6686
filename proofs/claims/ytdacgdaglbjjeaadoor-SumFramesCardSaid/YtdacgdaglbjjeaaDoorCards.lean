/-
  DERIVED. GIVEN WITH THE SEED: THE CARDS: each row of YtdacgdaglbjjeaaDoorRows.lean that lists a variable, with what it lists TIED to the program's text (the seventh form; the later family's looks); each row that meets fmt, with fmt's text TOLD by the authors' own Lean function (tested against real Go, not proved from fmt's source: count such statements apart). THE CARD IS WHAT COUNTS. Prove the row's statement (the work); the ties are given (YtdacgdaglbjjeaaDoorTie.lean); close each card by the builder's one call (the guide's Derived/Test/ToyasCard.lean, 'card_holds'). Laid BY PROGRAM, IN A SANDBOX (cutbox-door.mjs). By AI agents, Wed Nov 11 2026. No macro, syntax, notation, axiom, sorry.
-/
import Derived.Test.YtdacgdaglbjjeaaDoorRows
import GoSem.ClaimSeven
namespace Go.Proofs.YtdacgdaglbjjeaaDoor
namespace Rows

/-- THE TIED CARD OF 'escapementlaw2.SumKnown'. -/
def sumKnownCard : Claim7 := { stood := { row := sumKnownRow, standIns := [], harness := (true, "17009b6aae522637fe94e7c9128b7f1bd6010013822c07e225aafc9b6da35078"), looks := false }, kinds := [], alts := [], laidByText := true, laidKinds := [.data], laidTests := true, laidLooks := .later }
def SumKnownCardSaid : Prop := Claim7.holds Tryd.pinned (.plain (OpenSpec.ofChange sumKnownSpec)) sumKnownCard

/-- THE TIED CARD OF 'escapementlaw2.SumFrames'. -/
def sumFramesCard : Claim7 := { stood := { row := sumFramesRow, standIns := [], harness := (true, "17009b6aae522637fe94e7c9128b7f1bd6010013822c07e225aafc9b6da35078"), looks := false }, kinds := [], alts := [], laidByText := true, laidKinds := [.data], laidTests := true, laidLooks := .later }
def SumFramesCardSaid : Prop := Claim7.holds Tryd.pinned (.plain (OpenSpec.ofChange sumFramesSpec)) sumFramesCard

/-- THE TIED CARD OF 'escapementlaw2.SumAll'. -/
def sumAllCard : Claim7 := { stood := { row := sumAllRow, standIns := [], harness := (true, "17009b6aae522637fe94e7c9128b7f1bd6010013822c07e225aafc9b6da35078"), looks := false }, kinds := [], alts := [], laidByText := true, laidKinds := [.data], laidTests := true, laidLooks := .later }
def SumAllCardSaid : Prop := Claim7.holds Tryd.pinned (.plain (OpenSpec.ofChange sumAllSpec)) sumAllCard

/-- THE TIED CARD OF 'escapementlaw2.SumSpoilt'. -/
def sumSpoiltCard : Claim7 := { stood := { row := sumSpoiltRow, standIns := [], harness := (true, "17009b6aae522637fe94e7c9128b7f1bd6010013822c07e225aafc9b6da35078"), looks := false }, kinds := [], alts := [], laidByText := true, laidKinds := [.data], laidTests := true, laidLooks := .later }
def SumSpoiltCardSaid : Prop := Claim7.holds Tryd.pinned (.plain (OpenSpec.ofChange sumSpoiltSpec)) sumSpoiltCard

/-- THE TIED CARD OF 'escapementlaw2.SumApart'. -/
def sumApartCard : Claim7 := { stood := { row := sumApartRow, standIns := [], harness := (true, "17009b6aae522637fe94e7c9128b7f1bd6010013822c07e225aafc9b6da35078"), looks := false }, kinds := [], alts := [], laidByText := true, laidKinds := [.data], laidTests := true, laidLooks := .later }
def SumApartCardSaid : Prop := Claim7.holds Tryd.pinned (.plain (OpenSpec.ofChange sumApartSpec)) sumApartCard

/-- THE TIED CARD OF 'escapementlaw2.SumOrder'. -/
def sumOrderCard : Claim7 := { stood := { row := sumOrderRow, standIns := [], harness := (true, "17009b6aae522637fe94e7c9128b7f1bd6010013822c07e225aafc9b6da35078"), looks := false }, kinds := [], alts := [], laidByText := true, laidKinds := [.data], laidTests := true, laidLooks := .later }
def SumOrderCardSaid : Prop := Claim7.holds Tryd.pinned (.plain (OpenSpec.ofChange sumOrderSpec)) sumOrderCard

/-- THE TIED CARD OF 'escapementlaw2.SumCut'. -/
def sumCutCard : Claim7 := { stood := { row := sumCutRow, standIns := [], harness := (true, "17009b6aae522637fe94e7c9128b7f1bd6010013822c07e225aafc9b6da35078"), looks := false }, kinds := [], alts := [], laidByText := true, laidKinds := [.data], laidTests := true, laidLooks := .later }
def SumCutCardSaid : Prop := Claim7.holds Tryd.pinned (.plain (OpenSpec.ofChange sumCutSpec)) sumCutCard

/-- THE SECOND FORM's CARD OF 'escapementlaw2.SumKnown'. -/
def sumKnownUptoCard : Claim7 := { stood := { row := sumKnownUptoRow, standIns := [], harness := (true, "17009b6aae522637fe94e7c9128b7f1bd6010013822c07e225aafc9b6da35078"), looks := false }, kinds := [], alts := [], laidByText := true, laidKinds := [.data], laidTests := true, laidLooks := .later }
def SumKnownUptoCardSaid : Prop := Claim7.holds Tryd.pinned (.plain (OpenSpec.upto sumKnownSpec)) sumKnownUptoCard

/-- THE SECOND FORM's CARD OF 'escapementlaw2.SumFrames'. -/
def sumFramesUptoCard : Claim7 := { stood := { row := sumFramesUptoRow, standIns := [], harness := (true, "17009b6aae522637fe94e7c9128b7f1bd6010013822c07e225aafc9b6da35078"), looks := false }, kinds := [], alts := [], laidByText := true, laidKinds := [.data], laidTests := true, laidLooks := .later }
def SumFramesUptoCardSaid : Prop := Claim7.holds Tryd.pinned (.plain (OpenSpec.upto sumFramesSpec)) sumFramesUptoCard

/-- THE SECOND FORM's CARD OF 'escapementlaw2.SumAll'. -/
def sumAllUptoCard : Claim7 := { stood := { row := sumAllUptoRow, standIns := [], harness := (true, "17009b6aae522637fe94e7c9128b7f1bd6010013822c07e225aafc9b6da35078"), looks := false }, kinds := [], alts := [], laidByText := true, laidKinds := [.data], laidTests := true, laidLooks := .later }
def SumAllUptoCardSaid : Prop := Claim7.holds Tryd.pinned (.plain (OpenSpec.upto sumAllSpec)) sumAllUptoCard

/-- THE SECOND FORM's CARD OF 'escapementlaw2.SumSpoilt'. -/
def sumSpoiltUptoCard : Claim7 := { stood := { row := sumSpoiltUptoRow, standIns := [], harness := (true, "17009b6aae522637fe94e7c9128b7f1bd6010013822c07e225aafc9b6da35078"), looks := false }, kinds := [], alts := [], laidByText := true, laidKinds := [.data], laidTests := true, laidLooks := .later }
def SumSpoiltUptoCardSaid : Prop := Claim7.holds Tryd.pinned (.plain (OpenSpec.upto sumSpoiltSpec)) sumSpoiltUptoCard

/-- THE SECOND FORM's CARD OF 'escapementlaw2.SumApart'. -/
def sumApartUptoCard : Claim7 := { stood := { row := sumApartUptoRow, standIns := [], harness := (true, "17009b6aae522637fe94e7c9128b7f1bd6010013822c07e225aafc9b6da35078"), looks := false }, kinds := [], alts := [], laidByText := true, laidKinds := [.data], laidTests := true, laidLooks := .later }
def SumApartUptoCardSaid : Prop := Claim7.holds Tryd.pinned (.plain (OpenSpec.upto sumApartSpec)) sumApartUptoCard

/-- THE SECOND FORM's CARD OF 'escapementlaw2.SumOrder'. -/
def sumOrderUptoCard : Claim7 := { stood := { row := sumOrderUptoRow, standIns := [], harness := (true, "17009b6aae522637fe94e7c9128b7f1bd6010013822c07e225aafc9b6da35078"), looks := false }, kinds := [], alts := [], laidByText := true, laidKinds := [.data], laidTests := true, laidLooks := .later }
def SumOrderUptoCardSaid : Prop := Claim7.holds Tryd.pinned (.plain (OpenSpec.upto sumOrderSpec)) sumOrderUptoCard

/-- THE SECOND FORM's CARD OF 'escapementlaw2.SumCut'. -/
def sumCutUptoCard : Claim7 := { stood := { row := sumCutUptoRow, standIns := [], harness := (true, "17009b6aae522637fe94e7c9128b7f1bd6010013822c07e225aafc9b6da35078"), looks := false }, kinds := [], alts := [], laidByText := true, laidKinds := [.data], laidTests := true, laidLooks := .later }
def SumCutUptoCardSaid : Prop := Claim7.holds Tryd.pinned (.plain (OpenSpec.upto sumCutSpec)) sumCutUptoCard
end Rows
end Go.Proofs.YtdacgdaglbjjeaaDoor
