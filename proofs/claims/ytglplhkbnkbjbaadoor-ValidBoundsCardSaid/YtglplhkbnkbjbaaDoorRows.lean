/-
  NARROWER THAN 'FOR EVERY INPUT', by the rows' own cells (each row's printed sentence says how): ValidKnown: laid · ValidSays: laid · ValidWays: laid · ValidBounds: laid · ValidJumps: laid.
  DERIVED. THE GIVEN ROWS OF THIS SEAT. 5 by the template 'for every input the law returns true; each argument reads behind the call as it read before'; 0 by the template 'total and deterministic' (their statements: YtglplhkbnkbjbaaDoorTotals.lean).
  GIVEN WITH THE SEED: the statements are not yours to turn. If you find one false, say at which input.
  Laid BY PROGRAM, IN A SANDBOX (cutbox-rows.mjs): the forced cells as the released guide's own fill.sh prints them over the translation eace9a315050d9c9… (all of the seat's roots in one cut). By AI agents, Wed Nov 11 2026. No macro, syntax, notation, axiom, sorry.
-/
import Derived.Test.YtglplhkbnkbjbaaDoorChecked
import GoSem.Claim
import GoSem.ClaimJoined
import GoSem.ClaimMapViews
import Derived.JoinedTies
import Derived.KernelRfl
namespace Go.Proofs.YtglplhkbnkbjbaaDoor
/- THE CELL 'sum', in the pinned program and in every row, IS THE sha256 OF THE DUMP (.gsa) THAT YtglplhkbnkbjbaaDoorProg.lean LOADS. Nothing in Lean hashes anything: it is a label: what it is worth is what the hold of that sum in a sandbox is worth. -/
noncomputable def Tryd.pinned : Pinned := { name := "ytglplhkbnkbjbaadoor", sum := "eace9a315050d9c9e843f8a734be64b907b2c1652913be2ea70438d819a9fad6", checked := Tryd.checked }
namespace Rows
def none {H : Type} : Left H := { results := [], args := [] }

/- WHAT THE LISTED PACKAGE-LEVEL VARIABLES READ AS WHEN THE CALL BEGINS. Each datum BY PROGRAM (the guide's laid-datum.mjs) off the statement by which the dump's own 'gosem.cut.vars' lays the variable. In a bare row this is a premise. The card (YtglplhkbnkbjbaaDoorCards.lean) ties it to the program's text. -/
def laid_escapement_valid_roles {H : Type} : DataW H := .agg [.agg [.lit (.int .i64 1), .lit (.int .i64 3), .lit (.int .i64 0)], .agg [.lit (.int .i64 1), .lit (.int .i64 2), .lit (.int .i64 0)], .agg [.lit (.int .i64 1), .lit (.int .i64 4), .lit (.int .i64 0)], .agg [.lit (.int .i64 4), .lit (.int .i64 2), .lit (.int .i64 0)], .agg [.lit (.int .i64 1), .lit (.int .i64 5), .lit (.int .i64 0)], .agg [.lit (.int .i64 6), .lit (.int .i64 2), .lit (.int .i64 0)], .agg [.lit (.int .i64 1), .lit (.int .i64 2), .lit (.int .i64 0)], .agg [.lit (.int .i64 1), .lit (.int .i64 2), .lit (.int .i64 0)], .agg [.lit (.int .i64 1), .lit (.int .i64 2), .lit (.int .i64 2)], .agg [.lit (.int .i64 1), .lit (.int .i64 2), .lit (.int .i64 2)], .agg [.lit (.int .i64 1), .lit (.int .i64 2), .lit (.int .i64 2)], .agg [.lit (.int .i64 1), .lit (.int .i64 2), .lit (.int .i64 2)], .agg [.lit (.int .i64 1), .lit (.int .i64 2), .lit (.int .i64 2)], .agg [.lit (.int .i64 1), .lit (.int .i64 2), .lit (.int .i64 2)], .agg [.lit (.int .i64 1), .lit (.int .i64 2), .lit (.int .i64 2)], .agg [.lit (.int .i64 1), .lit (.int .i64 2), .lit (.int .i64 2)], .agg [.lit (.int .i64 1), .lit (.int .i64 2), .lit (.int .i64 2)], .agg [.lit (.int .i64 1), .lit (.int .i64 2), .lit (.int .i64 2)], .agg [.lit (.int .i64 1), .lit (.int .i64 2), .lit (.int .i64 2)], .agg [.lit (.int .i64 7), .lit (.int .i64 2), .lit (.int .i64 0)], .agg [.lit (.int .i64 7), .lit (.int .i64 0), .lit (.int .i64 0)]]

/-- 'escapementlaw16.ValidKnown': WHATEVER THE INPUT: true; the input reads as it did. -/
def validKnownSpec : ChangeSpec := { name := "validKnown", fn := fun _ => fun
  | [] => { results := [.lit (.bool true)], args := [] }
  | _ => none }
def validKnownRow : OpenClaim := { program := "ytglplhkbnkbjbaadoor", sum := "eace9a315050d9c9e843f8a734be64b907b2c1652913be2ea70438d819a9fad6", func := "escapement/escapementlaw16.ValidKnown", spec := "validKnown", unfollowed := true, recurses := true, named := ["escapement/valid.roles"], apart := false, laid := [("escapement/valid.roles", laid_escapement_valid_roles)] }
def ValidKnownSaid : Prop := validKnownRow.holds Tryd.pinned (OpenSpec.ofChange validKnownSpec)

/-- ITS FALSE NEIGHBOUR: 'it returns false'. Refute it at one input. -/
def validKnownWrong : ChangeSpec := { name := "validKnown", fn := fun _ => fun
  | [] => { results := [.lit (.bool false)], args := [] }
  | _ => none }
def ValidKnownWrongFalsely : Prop := validKnownRow.holds Tryd.pinned (OpenSpec.ofChange validKnownWrong)

/-- 'escapementlaw16.ValidSays': WHATEVER THE INPUT: true; the input reads as it did. -/
def validSaysSpec : ChangeSpec := { name := "validSays", fn := fun _ => fun
  | [d] => { results := [.lit (.bool true)], args := [d] }
  | _ => none }
def validSaysRow : OpenClaim := { program := "ytglplhkbnkbjbaadoor", sum := "eace9a315050d9c9e843f8a734be64b907b2c1652913be2ea70438d819a9fad6", func := "escapement/escapementlaw16.ValidSays", spec := "validSays", unfollowed := true, recurses := true, named := ["escapement/valid.roles"], apart := false, laid := [("escapement/valid.roles", laid_escapement_valid_roles)] }
def ValidSaysSaid : Prop := validSaysRow.holds Tryd.pinned (OpenSpec.ofChange validSaysSpec)

/-- ITS FALSE NEIGHBOUR: 'it returns false'. Refute it at one input. -/
def validSaysWrong : ChangeSpec := { name := "validSays", fn := fun _ => fun
  | [d] => { results := [.lit (.bool false)], args := [d] }
  | _ => none }
def ValidSaysWrongFalsely : Prop := validSaysRow.holds Tryd.pinned (OpenSpec.ofChange validSaysWrong)

/-- 'escapementlaw16.ValidWays': WHATEVER THE INPUT: true; the input reads as it did. -/
def validWaysSpec : ChangeSpec := { name := "validWays", fn := fun _ => fun
  | [d1, d2, d3] => { results := [.lit (.bool true)], args := [d1, d2, d3] }
  | _ => none }
def validWaysRow : OpenClaim := { program := "ytglplhkbnkbjbaadoor", sum := "eace9a315050d9c9e843f8a734be64b907b2c1652913be2ea70438d819a9fad6", func := "escapement/escapementlaw16.ValidWays", spec := "validWays", unfollowed := true, recurses := true, named := ["escapement/valid.roles"], apart := false, laid := [("escapement/valid.roles", laid_escapement_valid_roles)] }
def ValidWaysSaid : Prop := validWaysRow.holds Tryd.pinned (OpenSpec.ofChange validWaysSpec)

/-- ITS FALSE NEIGHBOUR: 'it returns false'. Refute it at one input. -/
def validWaysWrong : ChangeSpec := { name := "validWays", fn := fun _ => fun
  | [d1, d2, d3] => { results := [.lit (.bool false)], args := [d1, d2, d3] }
  | _ => none }
def ValidWaysWrongFalsely : Prop := validWaysRow.holds Tryd.pinned (OpenSpec.ofChange validWaysWrong)

/-- 'escapementlaw16.ValidBounds': WHATEVER THE INPUT: true; the input reads as it did. -/
def validBoundsSpec : ChangeSpec := { name := "validBounds", fn := fun _ => fun
  | [d1, d2, d3] => { results := [.lit (.bool true)], args := [d1, d2, d3] }
  | _ => none }
def validBoundsRow : OpenClaim := { program := "ytglplhkbnkbjbaadoor", sum := "eace9a315050d9c9e843f8a734be64b907b2c1652913be2ea70438d819a9fad6", func := "escapement/escapementlaw16.ValidBounds", spec := "validBounds", unfollowed := true, recurses := true, named := ["escapement/valid.roles"], apart := false, laid := [("escapement/valid.roles", laid_escapement_valid_roles)] }
def ValidBoundsSaid : Prop := validBoundsRow.holds Tryd.pinned (OpenSpec.ofChange validBoundsSpec)

/-- ITS FALSE NEIGHBOUR: 'it returns false'. Refute it at one input. -/
def validBoundsWrong : ChangeSpec := { name := "validBounds", fn := fun _ => fun
  | [d1, d2, d3] => { results := [.lit (.bool false)], args := [d1, d2, d3] }
  | _ => none }
def ValidBoundsWrongFalsely : Prop := validBoundsRow.holds Tryd.pinned (OpenSpec.ofChange validBoundsWrong)

/-- 'escapementlaw16.ValidJumps': WHATEVER THE INPUT: true; the input reads as it did. -/
def validJumpsSpec : ChangeSpec := { name := "validJumps", fn := fun _ => fun
  | [d1, d2, d3, d4] => { results := [.lit (.bool true)], args := [d1, d2, d3, d4] }
  | _ => none }
def validJumpsRow : OpenClaim := { program := "ytglplhkbnkbjbaadoor", sum := "eace9a315050d9c9e843f8a734be64b907b2c1652913be2ea70438d819a9fad6", func := "escapement/escapementlaw16.ValidJumps", spec := "validJumps", unfollowed := true, recurses := true, named := ["escapement/valid.roles"], apart := false, laid := [("escapement/valid.roles", laid_escapement_valid_roles)] }
def ValidJumpsSaid : Prop := validJumpsRow.holds Tryd.pinned (OpenSpec.ofChange validJumpsSpec)

/-- ITS FALSE NEIGHBOUR: 'it returns false'. Refute it at one input. -/
def validJumpsWrong : ChangeSpec := { name := "validJumps", fn := fun _ => fun
  | [d1, d2, d3, d4] => { results := [.lit (.bool false)], args := [d1, d2, d3, d4] }
  | _ => none }
def ValidJumpsWrongFalsely : Prop := validJumpsRow.holds Tryd.pinned (OpenSpec.ofChange validJumpsWrong)

/- THE SECOND FORM. 'bulk': how many values and letters a reading holds, each counted each time it is reached (what is shared counts as often as it is met; a slice's spare places count too). A statement '..UptoSaid' is the law's where the arguments, and the package variables that the reading takes, are together of bulk at most 1048576: NARROWER than '..Said'. Prove '..Said' where nothing that the law and all that it calls make is longer than what came in: it says more and counts as full. Else prove '..UptoSaid'. A law counts once. -/
mutual
def uptoBulk {H : Type} : DataW H → Nat
  | .lit (.string bytes) => bytes.length + 1
  | .lit _ => 1
  | .nil => 1
  | .ptr d => uptoBulk d + 1
  | .slice elems spare => uptoBulkAll elems + uptoBulkAll spare + 1
  | .agg parts => uptoBulkAll parts + 1
  | .iface _ d => uptoBulk d + 1
  | .map entries => uptoBulkEntries entries + 1
  | .held _ => 1
def uptoBulkAll {H : Type} : List (DataW H) → Nat
  | [] => 0
  | d :: r => uptoBulk d + uptoBulkAll r
def uptoBulkEntries {H : Type} : List (Lit × DataW H) → Nat
  | [] => 0
  | x :: r => uptoBulkEntry x + uptoBulkEntries r
def uptoBulkEntry {H : Type} : Lit × DataW H → Nat
  | (.string bytes, d) => bytes.length + uptoBulk d + 1
  | (_, d) => uptoBulk d + 1
 end
def uptoSmall : (H : Type) → List (DataW H) → Bool := fun _ ds => decide (uptoBulkAll ds ≤ 1048576)
def OpenSpec.upto (s : _root_.Go.ChangeSpec) : _root_.Go.OpenSpec := { _root_.Go.OpenSpec.ofChange s with cond := some uptoSmall }

/-- 'escapementlaw16.ValidKnown', WHERE WHAT IT READS IS OF BULK AT MOST 1048576: true; the input reads as it did. -/
def validKnownUptoRow : OpenClaim := { program := "ytglplhkbnkbjbaadoor", sum := "eace9a315050d9c9e843f8a734be64b907b2c1652913be2ea70438d819a9fad6", func := "escapement/escapementlaw16.ValidKnown", spec := "validKnown", unfollowed := true, recurses := true, named := ["escapement/valid.roles"], apart := false, laid := [("escapement/valid.roles", laid_escapement_valid_roles)], narrowed := true }
def ValidKnownUptoSaid : Prop := validKnownUptoRow.holds Tryd.pinned (OpenSpec.upto validKnownSpec)

/-- 'escapementlaw16.ValidSays', WHERE WHAT IT READS IS OF BULK AT MOST 1048576: true; the input reads as it did. -/
def validSaysUptoRow : OpenClaim := { program := "ytglplhkbnkbjbaadoor", sum := "eace9a315050d9c9e843f8a734be64b907b2c1652913be2ea70438d819a9fad6", func := "escapement/escapementlaw16.ValidSays", spec := "validSays", unfollowed := true, recurses := true, named := ["escapement/valid.roles"], apart := false, laid := [("escapement/valid.roles", laid_escapement_valid_roles)], narrowed := true }
def ValidSaysUptoSaid : Prop := validSaysUptoRow.holds Tryd.pinned (OpenSpec.upto validSaysSpec)

/-- 'escapementlaw16.ValidWays', WHERE WHAT IT READS IS OF BULK AT MOST 1048576: true; the input reads as it did. -/
def validWaysUptoRow : OpenClaim := { program := "ytglplhkbnkbjbaadoor", sum := "eace9a315050d9c9e843f8a734be64b907b2c1652913be2ea70438d819a9fad6", func := "escapement/escapementlaw16.ValidWays", spec := "validWays", unfollowed := true, recurses := true, named := ["escapement/valid.roles"], apart := false, laid := [("escapement/valid.roles", laid_escapement_valid_roles)], narrowed := true }
def ValidWaysUptoSaid : Prop := validWaysUptoRow.holds Tryd.pinned (OpenSpec.upto validWaysSpec)

/-- 'escapementlaw16.ValidBounds', WHERE WHAT IT READS IS OF BULK AT MOST 1048576: true; the input reads as it did. -/
def validBoundsUptoRow : OpenClaim := { program := "ytglplhkbnkbjbaadoor", sum := "eace9a315050d9c9e843f8a734be64b907b2c1652913be2ea70438d819a9fad6", func := "escapement/escapementlaw16.ValidBounds", spec := "validBounds", unfollowed := true, recurses := true, named := ["escapement/valid.roles"], apart := false, laid := [("escapement/valid.roles", laid_escapement_valid_roles)], narrowed := true }
def ValidBoundsUptoSaid : Prop := validBoundsUptoRow.holds Tryd.pinned (OpenSpec.upto validBoundsSpec)

/-- 'escapementlaw16.ValidJumps', WHERE WHAT IT READS IS OF BULK AT MOST 1048576: true; the input reads as it did. -/
def validJumpsUptoRow : OpenClaim := { program := "ytglplhkbnkbjbaadoor", sum := "eace9a315050d9c9e843f8a734be64b907b2c1652913be2ea70438d819a9fad6", func := "escapement/escapementlaw16.ValidJumps", spec := "validJumps", unfollowed := true, recurses := true, named := ["escapement/valid.roles"], apart := false, laid := [("escapement/valid.roles", laid_escapement_valid_roles)], narrowed := true }
def ValidJumpsUptoSaid : Prop := validJumpsUptoRow.holds Tryd.pinned (OpenSpec.upto validJumpsSpec)

end Rows
end Go.Proofs.YtglplhkbnkbjbaaDoor
