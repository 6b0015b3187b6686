/-
  No cell of these rows narrows 'for every input' (looked for: loops, veiled, ifaces, maps, wideKeys, modest, calm, conditions, laid).
  DERIVED. THE GIVEN ROWS OF THIS SEAT. 8 by the template 'for every input the law returns true; each argument reads behind the call as it read before'; 0 by the template 'total and deterministic' (their statements: YtbgngmnpepnflaaTotals.lean).
  GIVEN WITH THE SEED: the statements are not yours to turn. If you find one false, say at which input.
  Laid BY PROGRAM, IN A SANDBOX (cutbox-rows.mjs): the forced cells as the released guide's own fill.sh prints them over the translation 4b09c849dcf0f705… (all of the seat's roots in one cut). By AI agents, Wed Nov 11 2026. No macro, syntax, notation, axiom, sorry.
-/
import Derived.Test.YtbgngmnpepnflaaChecked
import GoSem.Claim
import GoSem.ClaimJoined
import GoSem.ClaimMapViews
import Derived.JoinedTies
import Derived.KernelRfl
namespace Go.Proofs.Ytbgngmnpepnflaa
/- THE CELL 'sum', in the pinned program and in every row, IS THE sha256 OF THE DUMP (.gsa) THAT YtbgngmnpepnflaaProg.lean LOADS. Nothing in Lean hashes anything: it is a label: what it is worth is what the hold of that sum in a sandbox is worth. -/
noncomputable def Try.pinned : Pinned := { name := "ytbgngmnpepnflaa", sum := "4b09c849dcf0f705ab49fbc22fa6749987e7a3e2f0eb7b01baaf46b8b6b684ac", checked := Try.checked }
namespace Rows
def none {H : Type} : Left H := { results := [], args := [] }

/-- 'escapementlaw6.NamesKnown': WHATEVER THE INPUT: true; the input reads as it did. -/
def namesKnownSpec : ChangeSpec := { name := "namesKnown", fn := fun _ => fun
  | [] => { results := [.lit (.bool true)], args := [] }
  | _ => none }
def namesKnownRow : OpenClaim := { program := "ytbgngmnpepnflaa", sum := "4b09c849dcf0f705ab49fbc22fa6749987e7a3e2f0eb7b01baaf46b8b6b684ac", func := "escapement/escapementlaw6.NamesKnown", spec := "namesKnown", recurses := true, apart := false }
def NamesKnownSaid : Prop := namesKnownRow.holds Try.pinned (OpenSpec.ofChange namesKnownSpec)

/-- ITS FALSE NEIGHBOUR: 'it returns false'. Refute it at one input. -/
def namesKnownWrong : ChangeSpec := { name := "namesKnown", fn := fun _ => fun
  | [] => { results := [.lit (.bool false)], args := [] }
  | _ => none }
def NamesKnownWrongFalsely : Prop := namesKnownRow.holds Try.pinned (OpenSpec.ofChange namesKnownWrong)

/-- 'escapementlaw6.NamesTwice': WHATEVER THE INPUT: true; the input reads as it did. -/
def namesTwiceSpec : ChangeSpec := { name := "namesTwice", fn := fun _ => fun
  | [d1, d2, d3] => { results := [.lit (.bool true)], args := [d1, d2, d3] }
  | _ => none }
def namesTwiceRow : OpenClaim := { program := "ytbgngmnpepnflaa", sum := "4b09c849dcf0f705ab49fbc22fa6749987e7a3e2f0eb7b01baaf46b8b6b684ac", func := "escapement/escapementlaw6.NamesTwice", spec := "namesTwice", recurses := true, apart := false }
def NamesTwiceSaid : Prop := namesTwiceRow.holds Try.pinned (OpenSpec.ofChange namesTwiceSpec)

/-- ITS FALSE NEIGHBOUR: 'it returns false'. Refute it at one input. -/
def namesTwiceWrong : ChangeSpec := { name := "namesTwice", fn := fun _ => fun
  | [d1, d2, d3] => { results := [.lit (.bool false)], args := [d1, d2, d3] }
  | _ => none }
def NamesTwiceWrongFalsely : Prop := namesTwiceRow.holds Try.pinned (OpenSpec.ofChange namesTwiceWrong)

/-- 'escapementlaw6.NamesAhead': WHATEVER THE INPUT: true; the input reads as it did. -/
def namesAheadSpec : ChangeSpec := { name := "namesAhead", fn := fun _ => fun
  | [d1, d2, d3] => { results := [.lit (.bool true)], args := [d1, d2, d3] }
  | _ => none }
def namesAheadRow : OpenClaim := { program := "ytbgngmnpepnflaa", sum := "4b09c849dcf0f705ab49fbc22fa6749987e7a3e2f0eb7b01baaf46b8b6b684ac", func := "escapement/escapementlaw6.NamesAhead", spec := "namesAhead", recurses := true, apart := false }
def NamesAheadSaid : Prop := namesAheadRow.holds Try.pinned (OpenSpec.ofChange namesAheadSpec)

/-- ITS FALSE NEIGHBOUR: 'it returns false'. Refute it at one input. -/
def namesAheadWrong : ChangeSpec := { name := "namesAhead", fn := fun _ => fun
  | [d1, d2, d3] => { results := [.lit (.bool false)], args := [d1, d2, d3] }
  | _ => none }
def NamesAheadWrongFalsely : Prop := namesAheadRow.holds Try.pinned (OpenSpec.ofChange namesAheadWrong)

/-- 'escapementlaw7.TypKnown': WHATEVER THE INPUT: true; the input reads as it did. -/
def typKnownSpec : ChangeSpec := { name := "typKnown", fn := fun _ => fun
  | [] => { results := [.lit (.bool true)], args := [] }
  | _ => none }
def typKnownRow : OpenClaim := { program := "ytbgngmnpepnflaa", sum := "4b09c849dcf0f705ab49fbc22fa6749987e7a3e2f0eb7b01baaf46b8b6b684ac", func := "escapement/escapementlaw7.TypKnown", spec := "typKnown", recurses := true, apart := false }
def TypKnownSaid : Prop := typKnownRow.holds Try.pinned (OpenSpec.ofChange typKnownSpec)

/-- ITS FALSE NEIGHBOUR: 'it returns false'. Refute it at one input. -/
def typKnownWrong : ChangeSpec := { name := "typKnown", fn := fun _ => fun
  | [] => { results := [.lit (.bool false)], args := [] }
  | _ => none }
def TypKnownWrongFalsely : Prop := typKnownRow.holds Try.pinned (OpenSpec.ofChange typKnownWrong)

/-- 'escapementlaw7.TypSays': WHATEVER THE INPUT: true; the input reads as it did. -/
def typSaysSpec : ChangeSpec := { name := "typSays", fn := fun _ => fun
  | [d] => { results := [.lit (.bool true)], args := [d] }
  | _ => none }
def typSaysRow : OpenClaim := { program := "ytbgngmnpepnflaa", sum := "4b09c849dcf0f705ab49fbc22fa6749987e7a3e2f0eb7b01baaf46b8b6b684ac", func := "escapement/escapementlaw7.TypSays", spec := "typSays", recurses := true, apart := false }
def TypSaysSaid : Prop := typSaysRow.holds Try.pinned (OpenSpec.ofChange typSaysSpec)

/-- ITS FALSE NEIGHBOUR: 'it returns false'. Refute it at one input. -/
def typSaysWrong : ChangeSpec := { name := "typSays", fn := fun _ => fun
  | [d] => { results := [.lit (.bool false)], args := [d] }
  | _ => none }
def TypSaysWrongFalsely : Prop := typSaysRow.holds Try.pinned (OpenSpec.ofChange typSaysWrong)

/-- 'escapementlaw7.TypOps': WHATEVER THE INPUT: true; the input reads as it did. -/
def typOpsSpec : ChangeSpec := { name := "typOps", fn := fun _ => fun
  | [d1, d2, d3] => { results := [.lit (.bool true)], args := [d1, d2, d3] }
  | _ => none }
def typOpsRow : OpenClaim := { program := "ytbgngmnpepnflaa", sum := "4b09c849dcf0f705ab49fbc22fa6749987e7a3e2f0eb7b01baaf46b8b6b684ac", func := "escapement/escapementlaw7.TypOps", spec := "typOps", recurses := true, apart := false }
def TypOpsSaid : Prop := typOpsRow.holds Try.pinned (OpenSpec.ofChange typOpsSpec)

/-- ITS FALSE NEIGHBOUR: 'it returns false'. Refute it at one input. -/
def typOpsWrong : ChangeSpec := { name := "typOps", fn := fun _ => fun
  | [d1, d2, d3] => { results := [.lit (.bool false)], args := [d1, d2, d3] }
  | _ => none }
def TypOpsWrongFalsely : Prop := typOpsRow.holds Try.pinned (OpenSpec.ofChange typOpsWrong)

/-- 'escapementlaw7.TypCalls': WHATEVER THE INPUT: true; the input reads as it did. -/
def typCallsSpec : ChangeSpec := { name := "typCalls", fn := fun _ => fun
  | [d1, d2, d3, d4, d5, d6] => { results := [.lit (.bool true)], args := [d1, d2, d3, d4, d5, d6] }
  | _ => none }
def typCallsRow : OpenClaim := { program := "ytbgngmnpepnflaa", sum := "4b09c849dcf0f705ab49fbc22fa6749987e7a3e2f0eb7b01baaf46b8b6b684ac", func := "escapement/escapementlaw7.TypCalls", spec := "typCalls", recurses := true, apart := false }
def TypCallsSaid : Prop := typCallsRow.holds Try.pinned (OpenSpec.ofChange typCallsSpec)

/-- ITS FALSE NEIGHBOUR: 'it returns false'. Refute it at one input. -/
def typCallsWrong : ChangeSpec := { name := "typCalls", fn := fun _ => fun
  | [d1, d2, d3, d4, d5, d6] => { results := [.lit (.bool false)], args := [d1, d2, d3, d4, d5, d6] }
  | _ => none }
def TypCallsWrongFalsely : Prop := typCallsRow.holds Try.pinned (OpenSpec.ofChange typCallsWrong)

/-- 'escapementlaw7.TypIfs': WHATEVER THE INPUT: true; the input reads as it did. -/
def typIfsSpec : ChangeSpec := { name := "typIfs", fn := fun _ => fun
  | [d1, d2, d3, d4] => { results := [.lit (.bool true)], args := [d1, d2, d3, d4] }
  | _ => none }
def typIfsRow : OpenClaim := { program := "ytbgngmnpepnflaa", sum := "4b09c849dcf0f705ab49fbc22fa6749987e7a3e2f0eb7b01baaf46b8b6b684ac", func := "escapement/escapementlaw7.TypIfs", spec := "typIfs", recurses := true, apart := false }
def TypIfsSaid : Prop := typIfsRow.holds Try.pinned (OpenSpec.ofChange typIfsSpec)

/-- ITS FALSE NEIGHBOUR: 'it returns false'. Refute it at one input. -/
def typIfsWrong : ChangeSpec := { name := "typIfs", fn := fun _ => fun
  | [d1, d2, d3, d4] => { results := [.lit (.bool false)], args := [d1, d2, d3, d4] }
  | _ => none }
def TypIfsWrongFalsely : Prop := typIfsRow.holds Try.pinned (OpenSpec.ofChange typIfsWrong)

/- THE SECOND FORM. 'bulk': how many values and letters a reading holds, each counted each time it is reached (what is shared counts as often as it is met; a slice's spare places count too). A statement '..UptoSaid' is the law's where the arguments, and the package variables that the reading takes, are together of bulk at most 1048576: NARROWER than '..Said'. Prove '..Said' where nothing that the law and all that it calls make is longer than what came in: it says more and counts as full. Else prove '..UptoSaid'. A law counts once. -/
mutual
def uptoBulk {H : Type} : DataW H → Nat
  | .lit (.string bytes) => bytes.length + 1
  | .lit _ => 1
  | .nil => 1
  | .ptr d => uptoBulk d + 1
  | .slice elems spare => uptoBulkAll elems + uptoBulkAll spare + 1
  | .agg parts => uptoBulkAll parts + 1
  | .iface _ d => uptoBulk d + 1
  | .map entries => uptoBulkEntries entries + 1
  | .held _ => 1
def uptoBulkAll {H : Type} : List (DataW H) → Nat
  | [] => 0
  | d :: r => uptoBulk d + uptoBulkAll r
def uptoBulkEntries {H : Type} : List (Lit × DataW H) → Nat
  | [] => 0
  | x :: r => uptoBulkEntry x + uptoBulkEntries r
def uptoBulkEntry {H : Type} : Lit × DataW H → Nat
  | (.string bytes, d) => bytes.length + uptoBulk d + 1
  | (_, d) => uptoBulk d + 1
 end
def uptoSmall : (H : Type) → List (DataW H) → Bool := fun _ ds => decide (uptoBulkAll ds ≤ 1048576)
def OpenSpec.upto (s : _root_.Go.ChangeSpec) : _root_.Go.OpenSpec := { _root_.Go.OpenSpec.ofChange s with cond := some uptoSmall }

/-- 'escapementlaw6.NamesKnown', WHERE WHAT IT READS IS OF BULK AT MOST 1048576: true; the input reads as it did. -/
def namesKnownUptoRow : OpenClaim := { program := "ytbgngmnpepnflaa", sum := "4b09c849dcf0f705ab49fbc22fa6749987e7a3e2f0eb7b01baaf46b8b6b684ac", func := "escapement/escapementlaw6.NamesKnown", spec := "namesKnown", recurses := true, apart := false, narrowed := true }
def NamesKnownUptoSaid : Prop := namesKnownUptoRow.holds Try.pinned (OpenSpec.upto namesKnownSpec)

/-- 'escapementlaw6.NamesTwice', WHERE WHAT IT READS IS OF BULK AT MOST 1048576: true; the input reads as it did. -/
def namesTwiceUptoRow : OpenClaim := { program := "ytbgngmnpepnflaa", sum := "4b09c849dcf0f705ab49fbc22fa6749987e7a3e2f0eb7b01baaf46b8b6b684ac", func := "escapement/escapementlaw6.NamesTwice", spec := "namesTwice", recurses := true, apart := false, narrowed := true }
def NamesTwiceUptoSaid : Prop := namesTwiceUptoRow.holds Try.pinned (OpenSpec.upto namesTwiceSpec)

/-- 'escapementlaw6.NamesAhead', WHERE WHAT IT READS IS OF BULK AT MOST 1048576: true; the input reads as it did. -/
def namesAheadUptoRow : OpenClaim := { program := "ytbgngmnpepnflaa", sum := "4b09c849dcf0f705ab49fbc22fa6749987e7a3e2f0eb7b01baaf46b8b6b684ac", func := "escapement/escapementlaw6.NamesAhead", spec := "namesAhead", recurses := true, apart := false, narrowed := true }
def NamesAheadUptoSaid : Prop := namesAheadUptoRow.holds Try.pinned (OpenSpec.upto namesAheadSpec)

/-- 'escapementlaw7.TypKnown', WHERE WHAT IT READS IS OF BULK AT MOST 1048576: true; the input reads as it did. -/
def typKnownUptoRow : OpenClaim := { program := "ytbgngmnpepnflaa", sum := "4b09c849dcf0f705ab49fbc22fa6749987e7a3e2f0eb7b01baaf46b8b6b684ac", func := "escapement/escapementlaw7.TypKnown", spec := "typKnown", recurses := true, apart := false, narrowed := true }
def TypKnownUptoSaid : Prop := typKnownUptoRow.holds Try.pinned (OpenSpec.upto typKnownSpec)

/-- 'escapementlaw7.TypSays', WHERE WHAT IT READS IS OF BULK AT MOST 1048576: true; the input reads as it did. -/
def typSaysUptoRow : OpenClaim := { program := "ytbgngmnpepnflaa", sum := "4b09c849dcf0f705ab49fbc22fa6749987e7a3e2f0eb7b01baaf46b8b6b684ac", func := "escapement/escapementlaw7.TypSays", spec := "typSays", recurses := true, apart := false, narrowed := true }
def TypSaysUptoSaid : Prop := typSaysUptoRow.holds Try.pinned (OpenSpec.upto typSaysSpec)

/-- 'escapementlaw7.TypOps', WHERE WHAT IT READS IS OF BULK AT MOST 1048576: true; the input reads as it did. -/
def typOpsUptoRow : OpenClaim := { program := "ytbgngmnpepnflaa", sum := "4b09c849dcf0f705ab49fbc22fa6749987e7a3e2f0eb7b01baaf46b8b6b684ac", func := "escapement/escapementlaw7.TypOps", spec := "typOps", recurses := true, apart := false, narrowed := true }
def TypOpsUptoSaid : Prop := typOpsUptoRow.holds Try.pinned (OpenSpec.upto typOpsSpec)

/-- 'escapementlaw7.TypCalls', WHERE WHAT IT READS IS OF BULK AT MOST 1048576: true; the input reads as it did. -/
def typCallsUptoRow : OpenClaim := { program := "ytbgngmnpepnflaa", sum := "4b09c849dcf0f705ab49fbc22fa6749987e7a3e2f0eb7b01baaf46b8b6b684ac", func := "escapement/escapementlaw7.TypCalls", spec := "typCalls", recurses := true, apart := false, narrowed := true }
def TypCallsUptoSaid : Prop := typCallsUptoRow.holds Try.pinned (OpenSpec.upto typCallsSpec)

/-- 'escapementlaw7.TypIfs', WHERE WHAT IT READS IS OF BULK AT MOST 1048576: true; the input reads as it did. -/
def typIfsUptoRow : OpenClaim := { program := "ytbgngmnpepnflaa", sum := "4b09c849dcf0f705ab49fbc22fa6749987e7a3e2f0eb7b01baaf46b8b6b684ac", func := "escapement/escapementlaw7.TypIfs", spec := "typIfs", recurses := true, apart := false, narrowed := true }
def TypIfsUptoSaid : Prop := typIfsUptoRow.holds Try.pinned (OpenSpec.upto typIfsSpec)

end Rows
end Go.Proofs.Ytbgngmnpepnflaa
