/-
  No cell of these rows narrows 'for every input' (looked for: loops, veiled, ifaces, maps, wideKeys, modest, calm, conditions, laid).
  DERIVED. THE GIVEN ROWS OF THIS SEAT. 7 by the template 'for every input the law returns true; each argument reads behind the call as it read before'; 0 by the template 'total and deterministic' (their statements: YtejljfoacbpliaaTotals.lean).
  GIVEN WITH THE SEED: the statements are not yours to turn. If you find one false, say at which input.
  Laid BY PROGRAM, IN A SANDBOX (cutbox-rows.mjs): the forced cells as the released guide's own fill.sh prints them over the translation 50f0079a5bf081e2… (all of the seat's roots in one cut). By AI agents, Wed Nov 11 2026. No macro, syntax, notation, axiom, sorry.
-/
import Derived.Test.YtejljfoacbpliaaChecked
import GoSem.Claim
import GoSem.ClaimJoined
import GoSem.ClaimMapViews
import Derived.JoinedTies
import Derived.KernelRfl
namespace Go.Proofs.Ytejljfoacbpliaa
/- THE CELL 'sum', in the pinned program and in every row, IS THE sha256 OF THE DUMP (.gsa) THAT YtejljfoacbpliaaProg.lean LOADS. Nothing in Lean hashes anything: it is a label: what it is worth is what the hold of that sum in a sandbox is worth. -/
noncomputable def Try.pinned : Pinned := { name := "ytejljfoacbpliaa", sum := "50f0079a5bf081e25021336bcbf0d4c6730d004b5145e8f41c6cac8b4eaae233", checked := Try.checked }
namespace Rows
def none {H : Type} : Left H := { results := [], args := [] }

/-- 'escapementlaw7.TypSays': WHATEVER THE INPUT: true; the input reads as it did. -/
def typSaysSpec : ChangeSpec := { name := "typSays", fn := fun _ => fun
  | [d] => { results := [.lit (.bool true)], args := [d] }
  | _ => none }
def typSaysRow : OpenClaim := { program := "ytejljfoacbpliaa", sum := "50f0079a5bf081e25021336bcbf0d4c6730d004b5145e8f41c6cac8b4eaae233", func := "escapement/escapementlaw7.TypSays", spec := "typSays", recurses := true, apart := false }
def TypSaysSaid : Prop := typSaysRow.holds Try.pinned (OpenSpec.ofChange typSaysSpec)

/-- ITS FALSE NEIGHBOUR: 'it returns false'. Refute it at one input. -/
def typSaysWrong : ChangeSpec := { name := "typSays", fn := fun _ => fun
  | [d] => { results := [.lit (.bool false)], args := [d] }
  | _ => none }
def TypSaysWrongFalsely : Prop := typSaysRow.holds Try.pinned (OpenSpec.ofChange typSaysWrong)

/-- 'escapementlaw8.ClkSays': WHATEVER THE INPUT: true; the input reads as it did. -/
def clkSaysSpec : ChangeSpec := { name := "clkSays", fn := fun _ => fun
  | [d] => { results := [.lit (.bool true)], args := [d] }
  | _ => none }
def clkSaysRow : OpenClaim := { program := "ytejljfoacbpliaa", sum := "50f0079a5bf081e25021336bcbf0d4c6730d004b5145e8f41c6cac8b4eaae233", func := "escapement/escapementlaw8.ClkSays", spec := "clkSays", unfollowed := true, recurses := true, apart := false }
def ClkSaysSaid : Prop := clkSaysRow.holds Try.pinned (OpenSpec.ofChange clkSaysSpec)

/-- ITS FALSE NEIGHBOUR: 'it returns false'. Refute it at one input. -/
def clkSaysWrong : ChangeSpec := { name := "clkSays", fn := fun _ => fun
  | [d] => { results := [.lit (.bool false)], args := [d] }
  | _ => none }
def ClkSaysWrongFalsely : Prop := clkSaysRow.holds Try.pinned (OpenSpec.ofChange clkSaysWrong)

/-- 'escapementlaw9.IniSays': WHATEVER THE INPUT: true; the input reads as it did. -/
def iniSaysSpec : ChangeSpec := { name := "iniSays", fn := fun _ => fun
  | [d] => { results := [.lit (.bool true)], args := [d] }
  | _ => none }
def iniSaysRow : OpenClaim := { program := "ytejljfoacbpliaa", sum := "50f0079a5bf081e25021336bcbf0d4c6730d004b5145e8f41c6cac8b4eaae233", func := "escapement/escapementlaw9.IniSays", spec := "iniSays", unfollowed := true, recurses := true, apart := false }
def IniSaysSaid : Prop := iniSaysRow.holds Try.pinned (OpenSpec.ofChange iniSaysSpec)

/-- ITS FALSE NEIGHBOUR: 'it returns false'. Refute it at one input. -/
def iniSaysWrong : ChangeSpec := { name := "iniSays", fn := fun _ => fun
  | [d] => { results := [.lit (.bool false)], args := [d] }
  | _ => none }
def IniSaysWrongFalsely : Prop := iniSaysRow.holds Try.pinned (OpenSpec.ofChange iniSaysWrong)

/-- 'escapementlaw9.IniTurned': WHATEVER THE INPUT: true; the input reads as it did. -/
def iniTurnedSpec : ChangeSpec := { name := "iniTurned", fn := fun _ => fun
  | [d] => { results := [.lit (.bool true)], args := [d] }
  | _ => none }
def iniTurnedRow : OpenClaim := { program := "ytejljfoacbpliaa", sum := "50f0079a5bf081e25021336bcbf0d4c6730d004b5145e8f41c6cac8b4eaae233", func := "escapement/escapementlaw9.IniTurned", spec := "iniTurned", unfollowed := true, recurses := true, apart := false }
def IniTurnedSaid : Prop := iniTurnedRow.holds Try.pinned (OpenSpec.ofChange iniTurnedSpec)

/-- ITS FALSE NEIGHBOUR: 'it returns false'. Refute it at one input. -/
def iniTurnedWrong : ChangeSpec := { name := "iniTurned", fn := fun _ => fun
  | [d] => { results := [.lit (.bool false)], args := [d] }
  | _ => none }
def IniTurnedWrongFalsely : Prop := iniTurnedRow.holds Try.pinned (OpenSpec.ofChange iniTurnedWrong)

/-- 'escapementlaw10.CauKnown': WHATEVER THE INPUT: true; the input reads as it did. -/
def cauKnownSpec : ChangeSpec := { name := "cauKnown", fn := fun _ => fun
  | [] => { results := [.lit (.bool true)], args := [] }
  | _ => none }
def cauKnownRow : OpenClaim := { program := "ytejljfoacbpliaa", sum := "50f0079a5bf081e25021336bcbf0d4c6730d004b5145e8f41c6cac8b4eaae233", func := "escapement/escapementlaw10.CauKnown", spec := "cauKnown", unfollowed := true, recurses := true, apart := false }
def CauKnownSaid : Prop := cauKnownRow.holds Try.pinned (OpenSpec.ofChange cauKnownSpec)

/-- ITS FALSE NEIGHBOUR: 'it returns false'. Refute it at one input. -/
def cauKnownWrong : ChangeSpec := { name := "cauKnown", fn := fun _ => fun
  | [] => { results := [.lit (.bool false)], args := [] }
  | _ => none }
def CauKnownWrongFalsely : Prop := cauKnownRow.holds Try.pinned (OpenSpec.ofChange cauKnownWrong)

/-- 'escapementlaw10.CauOrders': WHATEVER THE INPUT: true; the input reads as it did. -/
def cauOrdersSpec : ChangeSpec := { name := "cauOrders", fn := fun _ => fun
  | [d] => { results := [.lit (.bool true)], args := [d] }
  | _ => none }
def cauOrdersRow : OpenClaim := { program := "ytejljfoacbpliaa", sum := "50f0079a5bf081e25021336bcbf0d4c6730d004b5145e8f41c6cac8b4eaae233", func := "escapement/escapementlaw10.CauOrders", spec := "cauOrders", unfollowed := true, recurses := true, apart := false }
def CauOrdersSaid : Prop := cauOrdersRow.holds Try.pinned (OpenSpec.ofChange cauOrdersSpec)

/-- ITS FALSE NEIGHBOUR: 'it returns false'. Refute it at one input. -/
def cauOrdersWrong : ChangeSpec := { name := "cauOrders", fn := fun _ => fun
  | [d] => { results := [.lit (.bool false)], args := [d] }
  | _ => none }
def CauOrdersWrongFalsely : Prop := cauOrdersRow.holds Try.pinned (OpenSpec.ofChange cauOrdersWrong)

/-- 'escapementlaw10.CauRings': WHATEVER THE INPUT: true; the input reads as it did. -/
def cauRingsSpec : ChangeSpec := { name := "cauRings", fn := fun _ => fun
  | [d1, d2, d3] => { results := [.lit (.bool true)], args := [d1, d2, d3] }
  | _ => none }
def cauRingsRow : OpenClaim := { program := "ytejljfoacbpliaa", sum := "50f0079a5bf081e25021336bcbf0d4c6730d004b5145e8f41c6cac8b4eaae233", func := "escapement/escapementlaw10.CauRings", spec := "cauRings", unfollowed := true, recurses := true, apart := false }
def CauRingsSaid : Prop := cauRingsRow.holds Try.pinned (OpenSpec.ofChange cauRingsSpec)

/-- ITS FALSE NEIGHBOUR: 'it returns false'. Refute it at one input. -/
def cauRingsWrong : ChangeSpec := { name := "cauRings", fn := fun _ => fun
  | [d1, d2, d3] => { results := [.lit (.bool false)], args := [d1, d2, d3] }
  | _ => none }
def CauRingsWrongFalsely : Prop := cauRingsRow.holds Try.pinned (OpenSpec.ofChange cauRingsWrong)

/- THE SECOND FORM. 'bulk': how many values and letters a reading holds, each counted each time it is reached (what is shared counts as often as it is met; a slice's spare places count too). A statement '..UptoSaid' is the law's where the arguments, and the package variables that the reading takes, are together of bulk at most 1048576: NARROWER than '..Said'. Prove '..Said' where nothing that the law and all that it calls make is longer than what came in: it says more and counts as full. Else prove '..UptoSaid'. A law counts once. -/
mutual
def uptoBulk {H : Type} : DataW H → Nat
  | .lit (.string bytes) => bytes.length + 1
  | .lit _ => 1
  | .nil => 1
  | .ptr d => uptoBulk d + 1
  | .slice elems spare => uptoBulkAll elems + uptoBulkAll spare + 1
  | .agg parts => uptoBulkAll parts + 1
  | .iface _ d => uptoBulk d + 1
  | .map entries => uptoBulkEntries entries + 1
  | .held _ => 1
def uptoBulkAll {H : Type} : List (DataW H) → Nat
  | [] => 0
  | d :: r => uptoBulk d + uptoBulkAll r
def uptoBulkEntries {H : Type} : List (Lit × DataW H) → Nat
  | [] => 0
  | x :: r => uptoBulkEntry x + uptoBulkEntries r
def uptoBulkEntry {H : Type} : Lit × DataW H → Nat
  | (.string bytes, d) => bytes.length + uptoBulk d + 1
  | (_, d) => uptoBulk d + 1
 end
def uptoSmall : (H : Type) → List (DataW H) → Bool := fun _ ds => decide (uptoBulkAll ds ≤ 1048576)
def OpenSpec.upto (s : _root_.Go.ChangeSpec) : _root_.Go.OpenSpec := { _root_.Go.OpenSpec.ofChange s with cond := some uptoSmall }

/-- 'escapementlaw7.TypSays', WHERE WHAT IT READS IS OF BULK AT MOST 1048576: true; the input reads as it did. -/
def typSaysUptoRow : OpenClaim := { program := "ytejljfoacbpliaa", sum := "50f0079a5bf081e25021336bcbf0d4c6730d004b5145e8f41c6cac8b4eaae233", func := "escapement/escapementlaw7.TypSays", spec := "typSays", recurses := true, apart := false, narrowed := true }
def TypSaysUptoSaid : Prop := typSaysUptoRow.holds Try.pinned (OpenSpec.upto typSaysSpec)

/-- 'escapementlaw8.ClkSays', WHERE WHAT IT READS IS OF BULK AT MOST 1048576: true; the input reads as it did. -/
def clkSaysUptoRow : OpenClaim := { program := "ytejljfoacbpliaa", sum := "50f0079a5bf081e25021336bcbf0d4c6730d004b5145e8f41c6cac8b4eaae233", func := "escapement/escapementlaw8.ClkSays", spec := "clkSays", unfollowed := true, recurses := true, apart := false, narrowed := true }
def ClkSaysUptoSaid : Prop := clkSaysUptoRow.holds Try.pinned (OpenSpec.upto clkSaysSpec)

/-- 'escapementlaw9.IniSays', WHERE WHAT IT READS IS OF BULK AT MOST 1048576: true; the input reads as it did. -/
def iniSaysUptoRow : OpenClaim := { program := "ytejljfoacbpliaa", sum := "50f0079a5bf081e25021336bcbf0d4c6730d004b5145e8f41c6cac8b4eaae233", func := "escapement/escapementlaw9.IniSays", spec := "iniSays", unfollowed := true, recurses := true, apart := false, narrowed := true }
def IniSaysUptoSaid : Prop := iniSaysUptoRow.holds Try.pinned (OpenSpec.upto iniSaysSpec)

/-- 'escapementlaw9.IniTurned', WHERE WHAT IT READS IS OF BULK AT MOST 1048576: true; the input reads as it did. -/
def iniTurnedUptoRow : OpenClaim := { program := "ytejljfoacbpliaa", sum := "50f0079a5bf081e25021336bcbf0d4c6730d004b5145e8f41c6cac8b4eaae233", func := "escapement/escapementlaw9.IniTurned", spec := "iniTurned", unfollowed := true, recurses := true, apart := false, narrowed := true }
def IniTurnedUptoSaid : Prop := iniTurnedUptoRow.holds Try.pinned (OpenSpec.upto iniTurnedSpec)

/-- 'escapementlaw10.CauKnown', WHERE WHAT IT READS IS OF BULK AT MOST 1048576: true; the input reads as it did. -/
def cauKnownUptoRow : OpenClaim := { program := "ytejljfoacbpliaa", sum := "50f0079a5bf081e25021336bcbf0d4c6730d004b5145e8f41c6cac8b4eaae233", func := "escapement/escapementlaw10.CauKnown", spec := "cauKnown", unfollowed := true, recurses := true, apart := false, narrowed := true }
def CauKnownUptoSaid : Prop := cauKnownUptoRow.holds Try.pinned (OpenSpec.upto cauKnownSpec)

/-- 'escapementlaw10.CauOrders', WHERE WHAT IT READS IS OF BULK AT MOST 1048576: true; the input reads as it did. -/
def cauOrdersUptoRow : OpenClaim := { program := "ytejljfoacbpliaa", sum := "50f0079a5bf081e25021336bcbf0d4c6730d004b5145e8f41c6cac8b4eaae233", func := "escapement/escapementlaw10.CauOrders", spec := "cauOrders", unfollowed := true, recurses := true, apart := false, narrowed := true }
def CauOrdersUptoSaid : Prop := cauOrdersUptoRow.holds Try.pinned (OpenSpec.upto cauOrdersSpec)

/-- 'escapementlaw10.CauRings', WHERE WHAT IT READS IS OF BULK AT MOST 1048576: true; the input reads as it did. -/
def cauRingsUptoRow : OpenClaim := { program := "ytejljfoacbpliaa", sum := "50f0079a5bf081e25021336bcbf0d4c6730d004b5145e8f41c6cac8b4eaae233", func := "escapement/escapementlaw10.CauRings", spec := "cauRings", unfollowed := true, recurses := true, apart := false, narrowed := true }
def CauRingsUptoSaid : Prop := cauRingsUptoRow.holds Try.pinned (OpenSpec.upto cauRingsSpec)

end Rows
end Go.Proofs.Ytejljfoacbpliaa
