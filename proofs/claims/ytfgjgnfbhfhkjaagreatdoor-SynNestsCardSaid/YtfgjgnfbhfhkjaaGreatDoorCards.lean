/-
  DERIVED. GIVEN WITH THE SEED: THE CARDS: each row of YtfgjgnfbhfhkjaaGreatDoorRows.lean that lists a variable, with what it lists TIED to the program's text (the seventh form; the later family's looks); each row that meets fmt, with fmt's text TOLD by the authors' own Lean function (tested against real Go, not proved from fmt's source: count such statements apart). THE CARD IS WHAT COUNTS. Prove the row's statement (the work); the ties are given (YtfgjgnfbhfhkjaaGreatDoorTie.lean); close each card by the builder's one call (the guide's Derived/Test/ToyasCard.lean, 'card_holds'). Laid BY PROGRAM, IN A SANDBOX (cutbox-door.mjs). By AI agents, Wed Nov 11 2026. No macro, syntax, notation, axiom, sorry.
-/
import Derived.Test.YtfgjgnfbhfhkjaaGreatDoorRows
import GoSem.ClaimSeven
namespace Go.Proofs.YtfgjgnfbhfhkjaaGreatDoor
namespace Rows

/-- THE TIED CARD OF 'escapementlaw5.SynKnown'. -/
def synKnownCard : Claim7 := { stood := { row := synKnownRow, standIns := [], harness := (true, "59e3bf8b332321ba00eb5a57991912d2beb9cdebe419b9676169d617a24f112f"), looks := true }, kinds := [], alts := [], laidByText := true, laidKinds := [.data, .data, .data, .sentinel, .sentinel], laidTests := true, laidLooks := .later }
def SynKnownCardSaid : Prop := Claim7.holds Tryz.pinned (.plain (OpenSpec.ofChange synKnownSpec)) synKnownCard

/-- THE TIED CARD OF 'escapementlaw5.SynBack'. -/
def synBackCard : Claim7 := { stood := { row := synBackRow, standIns := [], harness := (true, "59e3bf8b332321ba00eb5a57991912d2beb9cdebe419b9676169d617a24f112f"), looks := true }, kinds := [], alts := [], laidByText := true, laidKinds := [.data, .data, .data, .sentinel, .sentinel], laidTests := true, laidLooks := .later }
def SynBackCardSaid : Prop := Claim7.holds Tryz.pinned (.plain (OpenSpec.ofChange synBackSpec)) synBackCard

/-- THE TIED CARD OF 'escapementlaw5.SynSame'. -/
def synSameCard : Claim7 := { stood := { row := synSameRow, standIns := [], harness := (true, "59e3bf8b332321ba00eb5a57991912d2beb9cdebe419b9676169d617a24f112f"), looks := true }, kinds := [], alts := [], laidByText := true, laidKinds := [.data, .data, .data, .sentinel, .sentinel], laidTests := true, laidLooks := .later }
def SynSameCardSaid : Prop := Claim7.holds Tryz.pinned (.plain (OpenSpec.ofChange synSameSpec)) synSameCard

/-- THE TIED CARD OF 'escapementlaw5.SynRanks'. -/
def synRanksCard : Claim7 := { stood := { row := synRanksRow, standIns := [], harness := (true, "59e3bf8b332321ba00eb5a57991912d2beb9cdebe419b9676169d617a24f112f"), looks := true }, kinds := [], alts := [], laidByText := true, laidKinds := [.data, .data, .data, .sentinel, .sentinel], laidTests := true, laidLooks := .later }
def SynRanksCardSaid : Prop := Claim7.holds Tryz.pinned (.plain (OpenSpec.ofChange synRanksSpec)) synRanksCard

/-- THE TIED CARD OF 'escapementlaw5.SynNests'. -/
def synNestsCard : Claim7 := { stood := { row := synNestsRow, standIns := [], harness := (true, "59e3bf8b332321ba00eb5a57991912d2beb9cdebe419b9676169d617a24f112f"), looks := true }, kinds := [], alts := [], laidByText := true, laidKinds := [.data, .data, .data, .sentinel, .sentinel], laidTests := true, laidLooks := .later }
def SynNestsCardSaid : Prop := Claim7.holds Tryz.pinned (.plain (OpenSpec.ofChange synNestsSpec)) synNestsCard

/-- THE TIED CARD OF 'escapementlaw5.SynBrackets'. -/
def synBracketsCard : Claim7 := { stood := { row := synBracketsRow, standIns := [], harness := (true, "59e3bf8b332321ba00eb5a57991912d2beb9cdebe419b9676169d617a24f112f"), looks := true }, kinds := [], alts := [], laidByText := true, laidKinds := [.data, .data, .data, .sentinel, .sentinel], laidTests := true, laidLooks := .later }
def SynBracketsCardSaid : Prop := Claim7.holds Tryz.pinned (.plain (OpenSpec.ofChange synBracketsSpec)) synBracketsCard

/-- THE TIED CARD OF 'escapementlaw5.SynMany'. -/
def synManyCard : Claim7 := { stood := { row := synManyRow, standIns := [], harness := (true, "59e3bf8b332321ba00eb5a57991912d2beb9cdebe419b9676169d617a24f112f"), looks := true }, kinds := [], alts := [], laidByText := true, laidKinds := [.data, .data, .data, .sentinel, .sentinel], laidTests := true, laidLooks := .later }
def SynManyCardSaid : Prop := Claim7.holds Tryz.pinned (.plain (OpenSpec.ofChange synManySpec)) synManyCard

/-- THE SECOND FORM's CARD OF 'escapementlaw5.SynKnown'. -/
def synKnownUptoCard : Claim7 := { stood := { row := synKnownUptoRow, standIns := [], harness := (true, "59e3bf8b332321ba00eb5a57991912d2beb9cdebe419b9676169d617a24f112f"), looks := true }, kinds := [], alts := [], laidByText := true, laidKinds := [.data, .data, .data, .sentinel, .sentinel], laidTests := true, laidLooks := .later }
def SynKnownUptoCardSaid : Prop := Claim7.holds Tryz.pinned (.plain (OpenSpec.upto synKnownSpec)) synKnownUptoCard

/-- THE SECOND FORM's CARD OF 'escapementlaw5.SynBack'. -/
def synBackUptoCard : Claim7 := { stood := { row := synBackUptoRow, standIns := [], harness := (true, "59e3bf8b332321ba00eb5a57991912d2beb9cdebe419b9676169d617a24f112f"), looks := true }, kinds := [], alts := [], laidByText := true, laidKinds := [.data, .data, .data, .sentinel, .sentinel], laidTests := true, laidLooks := .later }
def SynBackUptoCardSaid : Prop := Claim7.holds Tryz.pinned (.plain (OpenSpec.upto synBackSpec)) synBackUptoCard

/-- THE SECOND FORM's CARD OF 'escapementlaw5.SynSame'. -/
def synSameUptoCard : Claim7 := { stood := { row := synSameUptoRow, standIns := [], harness := (true, "59e3bf8b332321ba00eb5a57991912d2beb9cdebe419b9676169d617a24f112f"), looks := true }, kinds := [], alts := [], laidByText := true, laidKinds := [.data, .data, .data, .sentinel, .sentinel], laidTests := true, laidLooks := .later }
def SynSameUptoCardSaid : Prop := Claim7.holds Tryz.pinned (.plain (OpenSpec.upto synSameSpec)) synSameUptoCard

/-- THE SECOND FORM's CARD OF 'escapementlaw5.SynRanks'. -/
def synRanksUptoCard : Claim7 := { stood := { row := synRanksUptoRow, standIns := [], harness := (true, "59e3bf8b332321ba00eb5a57991912d2beb9cdebe419b9676169d617a24f112f"), looks := true }, kinds := [], alts := [], laidByText := true, laidKinds := [.data, .data, .data, .sentinel, .sentinel], laidTests := true, laidLooks := .later }
def SynRanksUptoCardSaid : Prop := Claim7.holds Tryz.pinned (.plain (OpenSpec.upto synRanksSpec)) synRanksUptoCard

/-- THE SECOND FORM's CARD OF 'escapementlaw5.SynNests'. -/
def synNestsUptoCard : Claim7 := { stood := { row := synNestsUptoRow, standIns := [], harness := (true, "59e3bf8b332321ba00eb5a57991912d2beb9cdebe419b9676169d617a24f112f"), looks := true }, kinds := [], alts := [], laidByText := true, laidKinds := [.data, .data, .data, .sentinel, .sentinel], laidTests := true, laidLooks := .later }
def SynNestsUptoCardSaid : Prop := Claim7.holds Tryz.pinned (.plain (OpenSpec.upto synNestsSpec)) synNestsUptoCard

/-- THE SECOND FORM's CARD OF 'escapementlaw5.SynBrackets'. -/
def synBracketsUptoCard : Claim7 := { stood := { row := synBracketsUptoRow, standIns := [], harness := (true, "59e3bf8b332321ba00eb5a57991912d2beb9cdebe419b9676169d617a24f112f"), looks := true }, kinds := [], alts := [], laidByText := true, laidKinds := [.data, .data, .data, .sentinel, .sentinel], laidTests := true, laidLooks := .later }
def SynBracketsUptoCardSaid : Prop := Claim7.holds Tryz.pinned (.plain (OpenSpec.upto synBracketsSpec)) synBracketsUptoCard

/-- THE SECOND FORM's CARD OF 'escapementlaw5.SynMany'. -/
def synManyUptoCard : Claim7 := { stood := { row := synManyUptoRow, standIns := [], harness := (true, "59e3bf8b332321ba00eb5a57991912d2beb9cdebe419b9676169d617a24f112f"), looks := true }, kinds := [], alts := [], laidByText := true, laidKinds := [.data, .data, .data, .sentinel, .sentinel], laidTests := true, laidLooks := .later }
def SynManyUptoCardSaid : Prop := Claim7.holds Tryz.pinned (.plain (OpenSpec.upto synManySpec)) synManyUptoCard
end Rows
end Go.Proofs.YtfgjgnfbhfhkjaaGreatDoor
