/-
  DERIVED. GIVEN WITH THE SEED: THE CARDS: each row of YtjlnihennlkmpaaGreatDoorRows.lean that lists a variable, with what it lists TIED to the program's text (the seventh form; the later family's looks); each row that meets fmt, with fmt's text TOLD by the authors' own Lean function (tested against real Go, not proved from fmt's source: count such statements apart). THE CARD IS WHAT COUNTS. Prove the row's statement (the work); the ties are given (YtjlnihennlkmpaaGreatDoorTie.lean); close each card by the builder's one call (the guide's Derived/Test/ToyasCard.lean, 'card_holds'). Laid BY PROGRAM, IN A SANDBOX (cutbox-door.mjs). By AI agents, Wed Nov 11 2026. No macro, syntax, notation, axiom, sorry.
-/
import Derived.Test.YtjlnihennlkmpaaGreatDoorRows
import GoSem.ClaimSeven
namespace Go.Proofs.YtjlnihennlkmpaaGreatDoor
namespace Rows

/-- THE TIED CARD OF 'escapementlaw5.SynBack'. -/
def synBackCard : Claim7 := { stood := { row := synBackRow, standIns := [], harness := (true, "1b9457158a24758ad170a727cce36513e0d690c1e935031c8d1623bedbe4e5f0"), looks := true }, kinds := [], alts := [], laidByText := true, laidKinds := [.data, .data, .data, .sentinel, .sentinel], laidTests := true, laidLooks := .later }
def SynBackCardSaid : Prop := Claim7.holds Tryz.pinned (.plain (OpenSpec.ofChange synBackSpec)) synBackCard

/-- THE TIED CARD OF 'escapementlaw5.SynSame'. -/
def synSameCard : Claim7 := { stood := { row := synSameRow, standIns := [], harness := (true, "1b9457158a24758ad170a727cce36513e0d690c1e935031c8d1623bedbe4e5f0"), looks := true }, kinds := [], alts := [], laidByText := true, laidKinds := [.data, .data, .data, .sentinel, .sentinel], laidTests := true, laidLooks := .later }
def SynSameCardSaid : Prop := Claim7.holds Tryz.pinned (.plain (OpenSpec.ofChange synSameSpec)) synSameCard

/-- THE TIED CARD OF 'escapementlaw5.SynBrackets'. -/
def synBracketsCard : Claim7 := { stood := { row := synBracketsRow, standIns := [], harness := (true, "1b9457158a24758ad170a727cce36513e0d690c1e935031c8d1623bedbe4e5f0"), looks := true }, kinds := [], alts := [], laidByText := true, laidKinds := [.data, .data, .data, .sentinel, .sentinel], laidTests := true, laidLooks := .later }
def SynBracketsCardSaid : Prop := Claim7.holds Tryz.pinned (.plain (OpenSpec.ofChange synBracketsSpec)) synBracketsCard

/-- THE SECOND FORM's CARD OF 'escapementlaw5.SynBack'. -/
def synBackUptoCard : Claim7 := { stood := { row := synBackUptoRow, standIns := [], harness := (true, "1b9457158a24758ad170a727cce36513e0d690c1e935031c8d1623bedbe4e5f0"), looks := true }, kinds := [], alts := [], laidByText := true, laidKinds := [.data, .data, .data, .sentinel, .sentinel], laidTests := true, laidLooks := .later }
def SynBackUptoCardSaid : Prop := Claim7.holds Tryz.pinned (.plain (OpenSpec.upto synBackSpec)) synBackUptoCard

/-- THE SECOND FORM's CARD OF 'escapementlaw5.SynSame'. -/
def synSameUptoCard : Claim7 := { stood := { row := synSameUptoRow, standIns := [], harness := (true, "1b9457158a24758ad170a727cce36513e0d690c1e935031c8d1623bedbe4e5f0"), looks := true }, kinds := [], alts := [], laidByText := true, laidKinds := [.data, .data, .data, .sentinel, .sentinel], laidTests := true, laidLooks := .later }
def SynSameUptoCardSaid : Prop := Claim7.holds Tryz.pinned (.plain (OpenSpec.upto synSameSpec)) synSameUptoCard

/-- THE SECOND FORM's CARD OF 'escapementlaw5.SynBrackets'. -/
def synBracketsUptoCard : Claim7 := { stood := { row := synBracketsUptoRow, standIns := [], harness := (true, "1b9457158a24758ad170a727cce36513e0d690c1e935031c8d1623bedbe4e5f0"), looks := true }, kinds := [], alts := [], laidByText := true, laidKinds := [.data, .data, .data, .sentinel, .sentinel], laidTests := true, laidLooks := .later }
def SynBracketsUptoCardSaid : Prop := Claim7.holds Tryz.pinned (.plain (OpenSpec.upto synBracketsSpec)) synBracketsUptoCard
end Rows
end Go.Proofs.YtjlnihennlkmpaaGreatDoor
