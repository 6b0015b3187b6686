/-
  DERIVED. GIVEN WITH THE SEED: THE CARDS: each row of YtglplhkbnkbjbaaDoorRows.lean that lists a variable, with what it lists TIED to the program's text (the seventh form; the later family's looks); each row that meets fmt, with fmt's text TOLD by the authors' own Lean function (tested against real Go, not proved from fmt's source: count such statements apart). THE CARD IS WHAT COUNTS. Prove the row's statement (the work); the ties are given (YtglplhkbnkbjbaaDoorTie.lean); close each card by the builder's one call (the guide's Derived/Test/ToyasCard.lean, 'card_holds'). Laid BY PROGRAM, IN A SANDBOX (cutbox-door.mjs). By AI agents, Wed Nov 11 2026. No macro, syntax, notation, axiom, sorry.
-/
import Derived.Test.YtglplhkbnkbjbaaDoorRows
import GoSem.ClaimSeven
namespace Go.Proofs.YtglplhkbnkbjbaaDoor
namespace Rows

/-- THE TIED CARD OF 'escapementlaw16.ValidKnown'. -/
def validKnownCard : Claim7 := { stood := { row := validKnownRow, standIns := [], harness := (true, "ff6744caf4233ea2bbf63f808fae8edf6559c41c68fca4c5535a039aa38ae1a4"), looks := false }, kinds := [], alts := [], laidByText := true, laidKinds := [.data], laidTests := true, laidLooks := .later }
def ValidKnownCardSaid : Prop := Claim7.holds Tryd.pinned (.plain (OpenSpec.ofChange validKnownSpec)) validKnownCard

/-- THE TIED CARD OF 'escapementlaw16.ValidSays'. -/
def validSaysCard : Claim7 := { stood := { row := validSaysRow, standIns := [], harness := (true, "ff6744caf4233ea2bbf63f808fae8edf6559c41c68fca4c5535a039aa38ae1a4"), looks := false }, kinds := [], alts := [], laidByText := true, laidKinds := [.data], laidTests := true, laidLooks := .later }
def ValidSaysCardSaid : Prop := Claim7.holds Tryd.pinned (.plain (OpenSpec.ofChange validSaysSpec)) validSaysCard

/-- THE TIED CARD OF 'escapementlaw16.ValidWays'. -/
def validWaysCard : Claim7 := { stood := { row := validWaysRow, standIns := [], harness := (true, "ff6744caf4233ea2bbf63f808fae8edf6559c41c68fca4c5535a039aa38ae1a4"), looks := false }, kinds := [], alts := [], laidByText := true, laidKinds := [.data], laidTests := true, laidLooks := .later }
def ValidWaysCardSaid : Prop := Claim7.holds Tryd.pinned (.plain (OpenSpec.ofChange validWaysSpec)) validWaysCard

/-- THE TIED CARD OF 'escapementlaw16.ValidBounds'. -/
def validBoundsCard : Claim7 := { stood := { row := validBoundsRow, standIns := [], harness := (true, "ff6744caf4233ea2bbf63f808fae8edf6559c41c68fca4c5535a039aa38ae1a4"), looks := false }, kinds := [], alts := [], laidByText := true, laidKinds := [.data], laidTests := true, laidLooks := .later }
def ValidBoundsCardSaid : Prop := Claim7.holds Tryd.pinned (.plain (OpenSpec.ofChange validBoundsSpec)) validBoundsCard

/-- THE TIED CARD OF 'escapementlaw16.ValidJumps'. -/
def validJumpsCard : Claim7 := { stood := { row := validJumpsRow, standIns := [], harness := (true, "ff6744caf4233ea2bbf63f808fae8edf6559c41c68fca4c5535a039aa38ae1a4"), looks := false }, kinds := [], alts := [], laidByText := true, laidKinds := [.data], laidTests := true, laidLooks := .later }
def ValidJumpsCardSaid : Prop := Claim7.holds Tryd.pinned (.plain (OpenSpec.ofChange validJumpsSpec)) validJumpsCard

/-- THE SECOND FORM's CARD OF 'escapementlaw16.ValidKnown'. -/
def validKnownUptoCard : Claim7 := { stood := { row := validKnownUptoRow, standIns := [], harness := (true, "ff6744caf4233ea2bbf63f808fae8edf6559c41c68fca4c5535a039aa38ae1a4"), looks := false }, kinds := [], alts := [], laidByText := true, laidKinds := [.data], laidTests := true, laidLooks := .later }
def ValidKnownUptoCardSaid : Prop := Claim7.holds Tryd.pinned (.plain (OpenSpec.upto validKnownSpec)) validKnownUptoCard

/-- THE SECOND FORM's CARD OF 'escapementlaw16.ValidSays'. -/
def validSaysUptoCard : Claim7 := { stood := { row := validSaysUptoRow, standIns := [], harness := (true, "ff6744caf4233ea2bbf63f808fae8edf6559c41c68fca4c5535a039aa38ae1a4"), looks := false }, kinds := [], alts := [], laidByText := true, laidKinds := [.data], laidTests := true, laidLooks := .later }
def ValidSaysUptoCardSaid : Prop := Claim7.holds Tryd.pinned (.plain (OpenSpec.upto validSaysSpec)) validSaysUptoCard

/-- THE SECOND FORM's CARD OF 'escapementlaw16.ValidWays'. -/
def validWaysUptoCard : Claim7 := { stood := { row := validWaysUptoRow, standIns := [], harness := (true, "ff6744caf4233ea2bbf63f808fae8edf6559c41c68fca4c5535a039aa38ae1a4"), looks := false }, kinds := [], alts := [], laidByText := true, laidKinds := [.data], laidTests := true, laidLooks := .later }
def ValidWaysUptoCardSaid : Prop := Claim7.holds Tryd.pinned (.plain (OpenSpec.upto validWaysSpec)) validWaysUptoCard

/-- THE SECOND FORM's CARD OF 'escapementlaw16.ValidBounds'. -/
def validBoundsUptoCard : Claim7 := { stood := { row := validBoundsUptoRow, standIns := [], harness := (true, "ff6744caf4233ea2bbf63f808fae8edf6559c41c68fca4c5535a039aa38ae1a4"), looks := false }, kinds := [], alts := [], laidByText := true, laidKinds := [.data], laidTests := true, laidLooks := .later }
def ValidBoundsUptoCardSaid : Prop := Claim7.holds Tryd.pinned (.plain (OpenSpec.upto validBoundsSpec)) validBoundsUptoCard

/-- THE SECOND FORM's CARD OF 'escapementlaw16.ValidJumps'. -/
def validJumpsUptoCard : Claim7 := { stood := { row := validJumpsUptoRow, standIns := [], harness := (true, "ff6744caf4233ea2bbf63f808fae8edf6559c41c68fca4c5535a039aa38ae1a4"), looks := false }, kinds := [], alts := [], laidByText := true, laidKinds := [.data], laidTests := true, laidLooks := .later }
def ValidJumpsUptoCardSaid : Prop := Claim7.holds Tryd.pinned (.plain (OpenSpec.upto validJumpsSpec)) validJumpsUptoCard
end Rows
end Go.Proofs.YtglplhkbnkbjbaaDoor
