/-
  Texts that the statements stand on, part 1.
-/
import Derived.WalkKit
import Derived.Lib.VarintMem
import Derived.Lib.Hide
import Derived.Laws.CopyOwn
import Derived.Deep.Draws
import Derived.Laws.BytesArg
import Derived.ProofKit
import Derived.SliceStrings
import Derived.Lib.Varint
import Derived.Lib.VarintDec
import Derived.Deep.MidRow
import Derived.Test.YtglplhkbnkbjbaaDoorRows
import Derived.OpenShut
import Derived.Deep.Slices
import Derived.Deep.Fields
import Derived.ChangeSame
import Derived.Laws.Rows
import Derived.Great.BuildSlice
import Derived.Deep.DeepCutAuto
import Derived.Deep.CutBlock
import Derived.OwnWalk
import Derived.StillTailTactics
import Derived.Lib.LaidTab
import Derived.LaidSub
import Derived.Below
import Derived.Orders
import Derived.ArgAppend
import Derived.Laws.BitsAllLaws
import Derived.Lib.Strings
import Derived.Deep.QuietTactic
import Derived.BigQuiet
import Derived.Deep.RegionHeld3
import Derived.BigRegion
import Derived.Laws.BitsLemmas
set_option linter.unusedVariables false
set_option linter.unusedSimpArgs false
namespace Go.Proofs.YtglplhkbnkbjbaaDoor
open Go Go.RowKit
/-- The slice address a holds the bytes l, in a block that is there. -/
def Txt (w : World) (a : Option Addr) (l : List UInt8) : Prop :=
  l ≠ [] → ∃ b o, a = some ⟨b, o, none⟩ ∧ b < w.heap.size ∧ ∀ i (h : i < l.length), w.cell? ⟨b, o + i, none⟩ = some (.int .u8 (l[i].toNat : Int))
theorem Txt.nil (w : World) (a : Option Addr) : Txt w a [] := fun h => absurd rfl h
theorem Txt.below {w w' : World} {a : Option Addr} {l : List UInt8} (h : Txt w a l) (hb : Below w.heap.size w w') : Txt w' a l := fun hne => by
  obtain ⟨b, o, rfl, hlt, hc⟩ := h hne
  exact ⟨b, o, rfl, Nat.lt_of_lt_of_le hlt hb.size, fun i hi => (hb.cell (p := ⟨b, o + i, none⟩) hlt).trans (hc i hi)⟩
theorem Txt.keep {w w' : World} {a : Option Addr} {l : List UInt8} (h : Txt w a l) (hs : w.heap.size ≤ w'.heap.size) (hk : ∀ b o, a = some ⟨b, o, none⟩ → w'.heap[b]? = w.heap[b]?) : Txt w' a l := fun hne => by
  obtain ⟨b, o, rfl, hlt, hc⟩ := h hne
  exact ⟨b, o, rfl, Nat.lt_of_lt_of_le hlt hs, fun i hi => (World.cell?_of_block (w := w) (a := ⟨b, o + i, none⟩) (hk b o rfl)).trans (hc i hi)⟩
theorem Txt.cells {w : World} {b o : Nat} {l : List UInt8} (h : Txt w (some ⟨b, o, none⟩) l) : ∀ j u, (Lib.byteCells l)[j]? = some u → w.cell? (Addr.add ⟨b, o, none⟩ j) = some u := by
  intro j u hu
  have hj : j < l.length := by
    have := (List.getElem?_eq_some_iff.1 hu).1
    simpa [Lib.byteCells] using this
  obtain ⟨b', o', e, _, hc⟩ := h (by rintro rfl; simp at hj)
  simp only [Option.some.injEq, Addr.mk.injEq, and_true] at e
  obtain ⟨rfl, rfl⟩ := e
  rw [Addr.add_lit, hc j hj, ← hu]
  simp [Lib.byteCells, hj]
theorem Txt.drewN {w : World} {a : Option Addr} {l : List UInt8} (h : Txt w a l) (n : Nat) : Txt (w.drewN n) a l := h
end Go.Proofs.YtglplhkbnkbjbaaDoor

namespace Go.Proofs.YtglplhkbnkbjbaaDoor
open Go Go.RowKit
/-- The slice address a holds l's values, in a block that is there. -/
def Row {α : Type} (f : α → Value) (w : World) (a : Option Addr) (l : List α) : Prop :=
  l ≠ [] → ∃ b o, a = some ⟨b, o, none⟩ ∧ b < w.heap.size ∧ ∀ i (h : i < l.length), w.cell? ⟨b, o + i, none⟩ = some (f l[i])
theorem Row.nil {α : Type} (f : α → Value) (w : World) (a : Option Addr) : Row f w a [] := fun h => absurd rfl h
theorem Row.below {α : Type} {f : α → Value} {w w' : World} {a : Option Addr} {l : List α} (h : Row f w a l) (hb : Below w.heap.size w w') : Row f w' a l := fun hne => by
  obtain ⟨b, o, rfl, hlt, hc⟩ := h hne
  exact ⟨b, o, rfl, Nat.lt_of_lt_of_le hlt hb.size, fun i hi => (hb.cell (p := ⟨b, o + i, none⟩) hlt).trans (hc i hi)⟩
theorem row_some {α : Type} {f : α → Value} {d : α} {w : World} {x : Addr} {len cap : Nat} {zs : List α} (hl : len ≤ cap) (hz : zs.length = cap) (hcell : ∀ i, i < zs.length → w.cell? (x.add i) = some (f (zs.getD i d))) :
    (zs.take len).length = len ∧ Row f w (some x) (zs.take len) := by
  refine ⟨by rw [List.length_take]; omega, fun hne => ?_⟩
  have h0 : 0 < zs.length := by
    rcases Nat.eq_zero_or_pos zs.length with h | h
    · rw [List.eq_nil_of_length_eq_zero h] at hne; simp at hne
    · exact h
  obtain ⟨b, o, spot⟩ := x
  have hc := hcell 0 h0
  have hspot : spot = none := by simpa [Addr.add] using World.cell?_spot hc
  subst hspot
  have hb := World.block_lt_of_cell? w _ hc
  refine ⟨b, o, rfl, by simpa [Addr.add] using hb, fun i hi => ?_⟩
  have hi' : i < zs.length := by rw [List.length_take] at hi; omega
  have h := hcell i hi'
  rw [Addr.add_lit] at h
  rw [h, List.getElem_take]
  simp [List.getD, List.getElem?_eq_getElem hi']
theorem i64_wf {n : Int} (h : (Lit.int .i64 n).wf = true) : -9223372036854775808 ≤ n ∧ n ≤ 9223372036854775807 := by
  have h1 : IntKind.i64.min = -9223372036854775808 := rfl
  have h2 : IntKind.i64.max = 9223372036854775807 := rfl
  simp only [Lit.wf, Bool.and_eq_true, decide_eq_true_eq] at h
  omega
end Go.Proofs.YtglplhkbnkbjbaaDoor

namespace Go.Proofs.YtglplhkbnkbjbaaDoor
open Go
/-- What a reader holds: the bytes that are left, and whether it is bad. -/
abbrev St := List UInt8 × Bool
end Go.Proofs.YtglplhkbnkbjbaaDoor

namespace Go.Proofs.YtglplhkbnkbjbaaDoor
open Go
/-- A number as k bytes, the lowest first. -/
def low : Nat → Nat → List UInt8
  | 0, _ => []
  | k + 1, v => (v % 256).toUInt8 :: low k (v / 256)
/-- Back. -/
def up : List UInt8 → Nat
  | [] => 0
  | c :: r => c.toNat + 256 * up r
end Go.Proofs.YtglplhkbnkbjbaaDoor

namespace Go.Proofs.YtglplhkbnkbjbaaDoor
open Go
/-- One bit leaves a sum. -/
def crcBit (c : Nat) : Nat := cond (Nat.beq (c % 2) 1) (Nat.xor (c / 2) 3988292384) (c / 2)
def crcBits : Nat → Nat → Nat
  | 0, c => c
  | k + 1, c => crcBits k (crcBit c)
/-- Further bytes are summed. -/
def crcOn (c : Nat) (l : List UInt8) : Nat := l.foldl (fun c b => crcBits 8 (c ^^^ b.toNat)) c
def crc (l : List UInt8) : Nat := crcOn 4294967295 l ^^^ 4294967295
end Go.Proofs.YtglplhkbnkbjbaaDoor

namespace Go.Proofs.YtglplhkbnkbjbaaDoor
open Go
/-- An instruction's numbers. -/
structure In4 where
  op : Int
  a : Int
  b : Int
  c : Int
/-- A program of the machine: kinds of inputs, outputs, slots, memories; constants; instructions. -/
structure Pg where
  ins : List Int
  outs : List Int
  slots : List Int
  mems : List Int
  consts : List Int
  code : List In4
def i64' (v : Int) : Prop := -9223372036854775808 ≤ v ∧ v ≤ 9223372036854775807
def In4.ok (x : In4) : Prop := i64' x.op ∧ i64' x.a ∧ i64' x.b ∧ i64' x.c
structure Pg.ok (p : Pg) : Prop where
  ins : ∀ v ∈ p.ins, i64' v
  outs : ∀ v ∈ p.outs, i64' v
  slots : ∀ v ∈ p.slots, i64' v
  mems : ∀ v ∈ p.mems, i64' v
  consts : ∀ v ∈ p.consts, i64' v
  code : ∀ x ∈ p.code, x.ok
def encI (v : Int) : List UInt8 := Lib.uvarint (Lib.zigzag v)
def encs : List Int → List UInt8
  | [] => []
  | v :: r => encI v ++ encs r
def encL (l : List Int) : List UInt8 := Lib.uvarint l.length ++ encs l
def encX (x : In4) : List UInt8 := encI x.op ++ (encI x.a ++ (encI x.b ++ encI x.c))
def encC : List In4 → List UInt8
  | [] => []
  | x :: r => encX x ++ encC r
def body (p : Pg) : List UInt8 := encL p.ins ++ (encL p.outs ++ (encL p.slots ++ (encL p.mems ++ (encL p.consts ++ (Lib.uvarint p.code.length ++ encC p.code)))))
def magic : List UInt8 := [83, 84, 69, 80]
def enc (p : Pg) : List UInt8 := (magic ++ body p) ++ low 4 (crc (magic ++ body p))
/-- How long a program's rows may be here. -/
def Pg.few (p : Pg) : Prop := p.ins.length < 18446744073709551616 ∧ p.outs.length < 18446744073709551616 ∧ p.slots.length < 18446744073709551616 ∧ p.mems.length < 18446744073709551616 ∧ p.consts.length < 18446744073709551616 ∧ p.code.length < 18446744073709551616
def Pg.sum (p : Pg) : Nat := p.ins.length + p.outs.length + p.slots.length + p.mems.length + p.consts.length + 4 * p.code.length
end Go.Proofs.YtglplhkbnkbjbaaDoor

namespace Go.Proofs.YtglplhkbnkbjbaaDoor
open Go
def inB (n : Int) (l : Nat) : Bool := decide (0 ≤ n) && decide (n < (l : Int))
/-- The slots that an instruction reads. -/
def rdsI (x : In4) : List Int :=
  if x.op = 1 ∨ x.op = 3 ∨ x.op = 5 ∨ x.op = 6 ∨ x.op = 7 ∨ x.op = 19 then [x.b]
  else if 8 ≤ x.op ∧ x.op ≤ 18 then [x.b, x.c] else []
/-- The slot that it writes; -1: none. -/
def wrI (x : In4) : Int := if x.op = 3 ∨ x.op = 5 ∨ 19 ≤ x.op then -1 else x.a
def atI (l : List Int) (n : Int) : Int := l.getD n.toNat 0
/-- What an instruction names besides slots is there. -/
def nameB (p : Pg) (pc : Nat) (x : In4) : Bool :=
  if x.op = 0 then inB x.b p.consts.length
  else if x.op = 2 then inB x.b p.mems.length
  else if x.op = 3 then inB x.a p.mems.length
  else if x.op = 4 then inB x.b p.ins.length
  else if x.op = 5 then inB x.a p.outs.length
  else if x.op = 19 ∨ x.op = 20 then decide ((pc : Int) < x.a) && decide (x.a ≤ (p.code.length : Int))
  else true
def writesB (x : In4) : Bool := !(x.op == 3) && (!(x.op == 5) && decide (x.op < 19))
/-- Rule 2. -/
def namedP (p : Pg) (pc : Nat) (x : In4) : Bool :=
  (decide (0 ≤ x.op) && decide (x.op ≤ 20)) && ((rdsI x).all (fun r => inB r p.slots.length) && ((!writesB x || inB x.a p.slots.length) && nameB p pc x))
/-- Rule 3. -/
def fitsP (p : Pg) (x : In4) : Bool :=
  if x.op = 0 then (atI p.slots x.a == 2) || ((atI p.consts x.b == 0) || (atI p.consts x.b == 1))
  else if x.op = 1 then atI p.slots x.a == atI p.slots x.b
  else if x.op = 2 then atI p.slots x.a == atI p.mems x.b
  else if x.op = 3 then atI p.mems x.a == atI p.slots x.b
  else if x.op = 4 then atI p.slots x.a == atI p.ins x.b
  else if x.op = 5 then atI p.outs x.a == atI p.slots x.b
  else if x.op = 6 then (atI p.slots x.a == 1) && (atI p.slots x.b == 1)
  else if x.op = 7 then (atI p.slots x.a == 2) && (atI p.slots x.b == 2)
  else if 8 ≤ x.op ∧ x.op ≤ 12 then (atI p.slots x.a == 2) && ((atI p.slots x.b == 2) && (atI p.slots x.c == 2))
  else if x.op = 13 then (atI p.slots x.a == 1) && (atI p.slots x.b == atI p.slots x.c)
  else if x.op = 14 ∨ x.op = 15 then (atI p.slots x.a == 1) && ((atI p.slots x.b == 2) && (atI p.slots x.c == 2))
  else if 16 ≤ x.op ∧ x.op ≤ 18 then (atI p.slots x.a == 1) && ((atI p.slots x.b == 1) && (atI p.slots x.c == 1))
  else if x.op = 19 then atI p.slots x.b == 1
  else true
def bothP : Option (List Bool) → List Bool → List Bool
  | none, b => b
  | some a, b => List.zipWith (fun x y => x && y) a b
abbrev Done := List (Option (List Bool))
def putD (D : Done) (k : Nat) (d : List Bool) : Done := D.set k (some (bothP (D.getD k none) d))
def wroteV (p : Pg) (x : In4) (l : List Bool) : List Bool :=
  let d := if 0 ≤ wrI x then l.set (wrI x).toNat true else l
  if x.op = 5 then d.set (p.slots.length + x.a.toNat) true else d
def stepV (p : Pg) (x : In4) (pc : Nat) (D : Done) (l : List Bool) : Done :=
  let D1 := if x.op = 20 then D else putD D (pc + 1) (wroteV p x l)
  if x.op = 19 ∨ x.op = 20 then putD D1 x.a.toNat (wroteV p x l) else D1
/-- The first instruction that breaks a rule. -/
def firstV (f : Nat → In4 → Bool) : List In4 → Nat → Option Nat
  | [], _ => none
  | x :: r, pc => if f pc x then firstV f r (pc + 1) else some pc
def flowV (p : Pg) : List In4 → Nat → Done → Done ⊕ Nat
  | [], _, D => .inl D
  | x :: r, pc, D => match D.getD pc none with
    | none => flowV p r (pc + 1) D
    | some l => if (rdsI x).all (fun k => l.getD k.toNat false) then flowV p r (pc + 1) (stepV p x pc D l) else .inr pc
def outsV (p : Pg) (D : Done) : Bool := match D.getD p.code.length none with
  | none => true
  | some l => ((l.drop p.slots.length).take p.outs.length).all id
def kindOk (k : Int) : Bool := (k == 1) || (k == 2)
def bigP (p : Pg) : Bool := decide (1024 < p.slots.length) || (decide (1024 < p.mems.length) || (decide (1024 < p.consts.length) || (decide (64 < p.ins.length) || (decide (64 < p.outs.length) || decide (8192 < p.code.length)))))
def done0 (p : Pg) : Done := some (List.replicate (p.slots.length + p.outs.length) false) :: List.replicate p.code.length none
/-- Where, which rule (0: none). -/
def checkP (p : Pg) : Int × Int :=
  if bigP p then (-1, 1)
  else if !(((p.ins ++ p.outs) ++ p.slots) ++ p.mems).all kindOk then (-1, 1)
  else match firstV (namedP p) p.code 0 with
    | some k => ((k : Int), 2)
    | none => match firstV (fun _ => fitsP p) p.code 0 with
      | some k => ((k : Int), 3)
      | none => match flowV p p.code 0 (done0 p) with
        | .inr k => ((k : Int), 4)
        | .inl D => if outsV p D then (0, 0) else ((p.code.length : Int), 5)
/-- The operators of a program's instructions. -/
theorem op_cases {n : Int} (h0 : 0 ≤ n) (h1 : n ≤ 20) : n = 0 ∨ n = 1 ∨ n = 2 ∨ n = 3 ∨ n = 4 ∨ n = 5 ∨ n = 6 ∨ n = 7 ∨ n = 8 ∨ n = 9 ∨ n = 10 ∨ n = 11 ∨ n = 12 ∨ n = 13 ∨ n = 14 ∨ n = 15 ∨ n = 16 ∨ n = 17 ∨ n = 18 ∨ n = 19 ∨ n = 20 := by omega
theorem inB_nat {n : Int} {l : Nat} (h : inB n l = true) : ∃ k : Nat, n = (k : Int) ∧ k < l := by
  unfold inB at h
  simp only [Bool.and_eq_true, decide_eq_true_eq] at h
  exact ⟨n.toNat, by omega, by omega⟩
theorem flow_put_length (D : Done) (k : Nat) (d : List Bool) : (putD D k d).length = D.length := by unfold putD; rw [List.length_set]
theorem stepV_length (p : Pg) (x : In4) (pc : Nat) (D : Done) (l : List Bool) : (stepV p x pc D l).length = D.length := by
  unfold stepV
  dsimp only
  split <;> split <;> simp [flow_put_length]
theorem wroteV_length (p : Pg) (x : In4) (l : List Bool) : (wroteV p x l).length = l.length := by
  unfold wroteV
  dsimp only
  split <;> split <;> simp
theorem bothP_length {a : Option (List Bool)} {b : List Bool} (h : ∀ l, a = some l → l.length = b.length) : (bothP a b).length = b.length := by
  cases a with
  | none => rfl
  | some l => unfold bothP; rw [List.length_zipWith, h l rfl]; omega
/-- All rows of the flow have the same length. -/
def FlatD (D : Done) (n : Nat) : Prop := ∀ (k : Nat) (l : List Bool), D.getD k none = some l → l.length = n
theorem FlatD.put {D : Done} {n : Nat} (h : FlatD D n) {d : List Bool} (hd : d.length = n) (k : Nat) : FlatD (putD D k d) n := by
  intro j l hj
  unfold putD at hj
  by_cases hjk : j = k
  · subst hjk
    by_cases hlt : j < D.length
    · rw [List.getD_eq_getElem?_getD, List.getElem?_set_self hlt] at hj
      simp only [Option.getD_some, Option.some.injEq] at hj
      rw [← hj, bothP_length fun l hl => (h j l hl).trans hd.symm, hd]
    · rw [List.getD_eq_getElem?_getD, List.getElem?_eq_none (by rw [List.length_set]; omega)] at hj
      exact absurd hj (by simp)
  · rw [List.getD_eq_getElem?_getD, List.getElem?_set_ne (fun e => hjk e.symm), ← List.getD_eq_getElem?_getD] at hj
    exact h j l hj
theorem FlatD.step {p : Pg} {x : In4} {pc : Nat} {D : Done} {n : Nat} (h : FlatD D n) {l : List Bool} (hl : l.length = n) : FlatD (stepV p x pc D l) n := by
  have hw : (wroteV p x l).length = n := (wroteV_length p x l).trans hl
  unfold stepV
  dsimp only
  split <;> split <;> first | exact h | exact h.put hw _ | exact (h.put hw _).put hw _
end Go.Proofs.YtglplhkbnkbjbaaDoor

namespace Go.Proofs.YtglplhkbnkbjbaaDoor
open Go Go.RowKit
def in4C (x : In4) : List Value := [.int .i64 x.op, .int .i64 x.a, .int .i64 x.b, .int .i64 x.c]
/-- A row of instructions. -/
def InRow (w : World) (a : Option Addr) (l : List In4) : Prop := l ≠ [] → ∃ b o, a = some ⟨b, o, none⟩ ∧ b < w.heap.size ∧ ∀ i (h : i < l.length), w.rangeAt b (o + i * 4) (in4C l[i])
theorem rangeAt_pg {w W : World} {g o : Nat} {vs : List Value} (h : w.rangeAt g o vs) (hb : Below w.heap.size w W) (hg : g < w.heap.size) : W.rangeAt g o vs := fun j v hv => (hb.cell (p := ⟨g, o + j, none⟩) hg).trans (h j v hv)
theorem InRow.below {w w' : World} {a : Option Addr} {l : List In4} (h : InRow w a l) (hb : Below w.heap.size w w') : InRow w' a l := fun hne => by
  obtain ⟨b, o, rfl, hlt, hc⟩ := h hne
  exact ⟨b, o, rfl, Nat.lt_of_lt_of_le hlt hb.size, fun i hi => rangeAt_pg (hc i hi) hb hlt⟩
/-- A program's rows in memory. -/
structure PgIn (w : World) (p : Pg) (x0 x1 x2 x3 x4 x5 : Option Addr) : Prop where
  ins : Row (Value.int .i64) w x0 p.ins
  outs : Row (Value.int .i64) w x1 p.outs
  slots : Row (Value.int .i64) w x2 p.slots
  mems : Row (Value.int .i64) w x3 p.mems
  consts : Row (Value.int .i64) w x4 p.consts
  code : InRow w x5 p.code
theorem PgIn.below {w w' : World} {p : Pg} {x0 x1 x2 x3 x4 x5 : Option Addr} (h : PgIn w p x0 x1 x2 x3 x4 x5) (hb : Below w.heap.size w w') : PgIn w' p x0 x1 x2 x3 x4 x5 :=
  ⟨h.ins.below hb, h.outs.below hb, h.slots.below hb, h.mems.below hb, h.consts.below hb, h.code.below hb⟩
def pgV (p : Pg) (x0 x1 x2 x3 x4 x5 : Option Addr) (c0 c1 c2 c3 c4 c5 : Nat) : Value := .agg #[.slice x0 p.ins.length c0, .slice x1 p.outs.length c1, .slice x2 p.slots.length c2, .slice x3 p.mems.length c3, .slice x4 p.consts.length c4, .slice x5 p.code.length c5]
theorem results_cell_tmp14 {P : Program} {fn : Func} {q p : Tmp} {ty : TypeId} (h : fn.results = #[.cell p ty, .tmp q]) (tmps : Array Value) (w : World) (g : Nat) (t : TypeId) (cs : Array Value) (fr : Nat × Nat) (d : TypeDesc)
    (hp : tmps.getD p undef = .pointer (some ⟨g, 0, none⟩)) (hg : w.heap[g]? = some (.cells cs t fr))
    (hu : P.underlying ty = some d) (hd : (match d with | .struct _ | .array _ _ => true | _ => false) = true) (hi : (P.info? ty).map (·.size) = some cs.size) :
    (results fn tmps).run P w = .ok (.tuple #[.agg cs, tmps.getD q undef]) w := by
  have hp' : tmps[p]?.getD undef = .pointer (some ⟨g, 0, none⟩) := by simpa using hp
  simp [results, h, hp', asAddr, run_loadVar_row w g t ty cs fr d hg hu hd hi]
theorem own_keep14 {w w' : World} {base gp : Nat} {e : TypeId} {size n : Nat} {v : Value} {xs : List Value} (h : w.ownsRow base e size v n xs) (hg : w.grownBy w' (some gp)) (hgp : gp < base) : w'.ownsRow base e size v n xs := h.kept hg (by
  cases hob : v.ownBlock with
  | none => exact .inl rfl
  | some b => exact .inr (fun e => by have := (h.lt b hob).1; injection e with e; omega))
theorem wrap_in14 (n : Int) (h : -9223372036854775808 ≤ n ∧ n ≤ 9223372036854775807) : wrap64 n = n := by unfold wrap64; omega
def intsC (l : List Int) : List Value := l.map (Value.int .i64)
/-- A row of the call's own that holds these numbers. -/
def OwnI (E : TypeId) (w : World) (b : Nat) (v : Value) (l : List Int) : Prop := w.ownsRow b E 1 v l.length (intsC l)
theorem OwnI.form {E : TypeId} {w : World} {b : Nat} {v : Value} {l : List Int} (h : OwnI E w b v l) : ∃ x c, v = .slice x l.length c ∧ l.length ≤ c ∧ c ≤ maxLen ∧ Row (Value.int .i64) w x l := by
  unfold OwnI at h
  have h' := h
  rcases h.2 with ⟨rfl, h0⟩ | ⟨g, cap, cur, rfl, hbg, hg, hn, hc, hcs, htk⟩
  · obtain rfl : l = [] := List.eq_nil_of_length_eq_zero h0
    exact ⟨none, 0, rfl, Nat.le_refl _, by unfold maxLen; omega, Row.nil _ _ _⟩
  · refine ⟨_, cap, rfl, hn, hc, fun hne => ⟨g, 0, rfl, (Array.getElem?_eq_some_iff.1 hg).1, fun i hi => ?_⟩⟩
    have := h'.cells (g := g) rfl i (.int .i64 l[i]) (by simp [intsC, List.getElem?_eq_getElem hi])
    rw [Addr.add_lit] at this
    exact this
theorem newrow14 (w : World) (T : TypeId) (z cs : Array Value) : Below w.heap.size w ((w.alloc (.cells z T)).setRow w.heap.size cs) ∧ ((w.alloc (.cells z T)).setRow w.heap.size cs).heap[w.heap.size]? = some (.cells cs T (0, 0)) :=
  ⟨below_setRow ((Below.refl _ _).alloc (Nat.le_refl _) _) (Nat.le_refl _) _, setRow_heap _ _ _ _ _ _ (heap_alloc_new w _)⟩
end Go.Proofs.YtglplhkbnkbjbaaDoor

namespace Go.Proofs.YtglplhkbnkbjbaaDoor
open Go Go.RowKit
theorem below_drewN {B : Nat} {a w : World} (h : Below B a w) (n : Nat) : Below B a (w.drewN n) := ⟨h.os, h.tape, h.output, h.size, h.block⟩
/-- A row of the call's own stays its own. -/
theorem own_below {w w' : World} {base : Nat} {e : TypeId} {s : Nat} {v : Value} {n : Nat} {xs : List Value} (h : w.ownsRow base e s v n xs) (hb : Below w.heap.size w w') : w'.ownsRow base e s v n xs := by
  refine ⟨h.1, ?_⟩
  rcases h.2 with h | ⟨g, cap, cur, e, hg, hgc, h5⟩
  · exact .inl h
  · exact .inr ⟨g, cap, cur, e, hg, (hb.block g (Array.getElem?_eq_some_iff.1 hgc).1).trans hgc, h5⟩
end Go.Proofs.YtglplhkbnkbjbaaDoor

namespace Go.Proofs.YtglplhkbnkbjbaaDoor
open Go Go.RowKit Go.ChangeShapes Go.WideShapes Go.Deep
section
variable {H : Type} {enc : TypeId × Value → H} {P : Program} {w : World} {base : Nat} {spare : Nat → Bool} {held : Bool}
set_option maxRecDepth 100000 in
/-- The fields of a struct of one cell each: what each reads as. -/
theorem open_fields14 {t : TypeId} {fs : Array Field} {fuel : Nat} {cs : List Value} {x : DataW H × List MemPlace} (hs : P.underlying t = some (.struct fs)) (hone : oneCellFields P fs = true) (hC : P.cellsOf t = fs.size) (h : DataW.trod enc P w base spare held fuel t cs = some x) :
    cs.length = fs.size ∧ ∃ n, ∀ (j : Nat) (f : Field), fs[j]? = some f → ∃ c y, cs[j]? = some c ∧ DataW.trod enc P w base spare held n f.type [c] = some y := by
  obtain ⟨ys, n, _, _, hlen, hyl, hf⟩ := DataW.trod_struct hs h
  refine ⟨hlen.trans hC, n, fun j f hj => ?_⟩
  obtain ⟨ho, hk⟩ := hone_of hone j f hj
  have hjl : j < fs.size := (Array.getElem?_eq_some_iff.1 hj).1
  have h1 := hf j f hj
  rw [ho, hk] at h1
  have hc : cs[j]? = some (cs[j]'(by rw [hlen, hC]; exact hjl)) := List.getElem?_eq_getElem _
  have h2 : (cs.drop j).take 1 = [cs[j]'(by rw [hlen, hC]; exact hjl)] := by
    rw [List.drop_eq_getElem_cons (by rw [hlen, hC]; exact hjl)]
    rfl
  rw [h2] at h1
  exact ⟨_, _, hc, h1.trans (List.getElem?_eq_getElem (by rw [hyl]; exact hjl))⟩
set_option maxRecDepth 100000 in
theorem open_kinds14 {t e : TypeId} (ht : P.underlying t = some (.slice e)) (he : P.underlying e = some (.int .i64)) (hc : P.cellsOf e = 1) {fuel : Nat} {c : Value} {x : DataW H × List MemPlace} (h : DataW.trod enc P w 0 (fun _ => true) held fuel t [c] = some x) :
    ∃ (a : Option Addr) (cp : Nat) (l : List Int), c = .slice a l.length cp ∧ l.length ≤ cp ∧ cp ≤ maxLen ∧ Row (Value.int .i64) w a l ∧ ∀ v ∈ l, i64' v := by
  rcases open_ints ht he hc h with ⟨hcs, _⟩ | ⟨a, len, cap, zs, hcs, _, hl, hm, hz, _, hcell, hwz⟩
  · injection hcs with hcs _
    exact ⟨none, 0, [], hcs, Nat.le_refl _, Nat.zero_le _, Row.nil _ _ _, fun _ h => by cases h⟩
  · injection hcs with hcs _
    have hr := row_some (f := Value.int .i64) hl (by simpa using hz) hcell
    exact ⟨some a, cap, zs.take len, by rw [hr.1]; exact hcs, by rw [hr.1]; exact hl, hm, hr.2, fun v hv => i64_wf (hwz v (List.mem_of_mem_take hv))⟩
end
section
variable {H : Type} {enc : TypeId × Value → H} {w : World} {held : Bool}
set_option maxRecDepth 100000 in
/-- An instruction's cells. -/
theorem open_cells_in4 {fuel : Nat} {cs : List Value} {x : DataW H × List MemPlace} (h : DataW.trod enc Tryd.prog w 0 (fun _ => true) held fuel 34 cs = some x) : ∃ y : In4, y.ok ∧ cs = in4C y := by
  obtain ⟨hl, n, hf⟩ := open_fields14 Tryd.underlying34 (by kernel_rfl) (by kernel_rfl) h
  obtain ⟨c0, y0, e0, t0⟩ := hf 0 _ rfl
  obtain ⟨c1, y1, e1, t1⟩ := hf 1 _ rfl
  obtain ⟨c2, y2, e2, t2⟩ := hf 2 _ rfl
  obtain ⟨c3, y3, e3, t3⟩ := hf 3 _ rfl
  obtain ⟨v0, h0, _, k0⟩ := DataW.trod_int Tryd.underlying3 t0
  obtain ⟨v1, h1, _, k1⟩ := DataW.trod_int Tryd.underlying3 t1
  obtain ⟨v2, h2, _, k2⟩ := DataW.trod_int Tryd.underlying3 t2
  obtain ⟨v3, h3, _, k3⟩ := DataW.trod_int Tryd.underlying3 t3
  injection h0 with h0 _
  injection h1 with h1 _
  injection h2 with h2 _
  injection h3 with h3 _
  subst h0 h1 h2 h3
  refine ⟨⟨v0, v1, v2, v3⟩, ⟨i64_wf k0, i64_wf k1, i64_wf k2, i64_wf k3⟩, ?_⟩
  match cs, hl, e0, e1, e2, e3 with
  | [a, b, c, d], _, e0, e1, e2, e3 =>
    simp only [List.getElem?_cons_zero, List.getElem?_cons_succ, Option.some.injEq] at e0 e1 e2 e3
    subst e0 e1 e2 e3
    rfl
set_option maxRecDepth 100000 in
theorem open_code14 {fuel : Nat} {c : Value} {x : DataW H × List MemPlace} (h : DataW.trod enc Tryd.prog w 0 (fun _ => true) held fuel 30 [c] = some x) :
    ∃ (a : Option Addr) (cp : Nat) (l : List In4), c = .slice a l.length cp ∧ l.length ≤ cp ∧ cp ≤ maxLen ∧ InRow w a l ∧ ∀ v ∈ l, v.ok := by
  rcases open_slice Tryd.underlying30 h with ⟨hcs, _⟩ | ⟨a, len, cap, m, n, D, Pl, hcs, hb, hl, hm, hmm, hx, hi⟩
  · injection hcs with hcs _
    exact ⟨none, 0, [], hcs, Nat.le_refl _, Nat.zero_le _, fun h => absurd rfl h, fun _ h => by cases h⟩
  · injection hcs with hcs _
    have hC : Tryd.prog.cellsOf 34 = 4 := by kernel_rfl
    rw [hC] at hi
    have hcap : m = cap := by simpa using hmm
    have hall : ∀ i, i < len → ∃ y : In4, y.ok ∧ ∀ j v, (in4C y)[j]? = some v → w.cell? (a.add (i * 4 + j)) = some v := fun i hil => by
      obtain ⟨cs', hc, ht⟩ := hi i (by omega)
      obtain ⟨y, hy, he⟩ := open_cells_in4 ht
      obtain ⟨_, hcl, hat⟩ := World.cells?_some hc
      refine ⟨y, hy, fun j v hv => ?_⟩
      have hj : j < 4 := (List.getElem?_eq_some_iff.1 hv).1
      rw [← add_add, hat j hj, he]
      exact hv
    obtain ⟨f, hf⟩ : ∃ f : Nat → In4, ∀ i, i < len → (f i).ok ∧ ∀ j v, (in4C (f i))[j]? = some v → w.cell? (a.add (i * 4 + j)) = some v :=
      ⟨fun i => if h : i < len then (hall i h).choose else ⟨0, 0, 0, 0⟩, fun i h => by simp only [dif_pos h]; exact (hall i h).choose_spec⟩
    refine ⟨some a, cap, (List.range len).map f, by simpa using hcs, by simpa using hl, hm, fun hne => ?_, fun v hv => ?_⟩
    · have h0 : 0 < len := by
        rcases Nat.eq_zero_or_pos len with h | h
        · subst h; exact absurd rfl hne
        · exact h
      have hc0 := (hf 0 h0).2 0 _ rfl
      obtain ⟨b, o, spot⟩ := a
      have hspot : spot = none := by simpa [Addr.add] using World.cell?_spot hc0
      subst hspot
      refine ⟨b, o, rfl, by simpa [Addr.add] using World.block_lt_of_cell? w _ hc0, fun i hil j v hv => ?_⟩
      rw [List.length_map, List.length_range] at hil
      have := (hf i hil).2 j v (by simpa using hv)
      rw [Addr.add_lit] at this
      rw [Nat.add_assoc]
      exact this
    · obtain ⟨i, hi, rfl⟩ := List.mem_map.1 hv
      exact (hf i (List.mem_range.1 hi)).1
set_option maxRecDepth 100000 in
theorem open_prog14 {r : Reach} {b0 : Nat} {v : Value} {d : DataW H} {p : List MemPlace} (hv : Value.okWide Tryd.prog w r b0 32 v) (h : DataW.Trod enc Tryd.prog w 0 (fun _ => true) held 32 v d p) :
    ∃ (pg : Pg) (x0 x1 x2 x3 x4 x5 : Option Addr) (c0 c1 c2 c3 c4 c5 : Nat), v = pgV pg x0 x1 x2 x3 x4 x5 c0 c1 c2 c3 c4 c5 ∧ pg.ok ∧ PgIn w pg x0 x1 x2 x3 x4 x5 := by
  obtain ⟨cs, rfl, _⟩ := okWide_struct Tryd.underlying32 hv
  obtain ⟨fuel, hf⟩ := h
  obtain ⟨hl, n, hf⟩ := open_fields14 Tryd.underlying32 (by kernel_rfl) (by kernel_rfl) hf
  obtain ⟨v0, y0, e0, t0⟩ := hf 0 _ rfl
  obtain ⟨v1, y1, e1, t1⟩ := hf 1 _ rfl
  obtain ⟨v2, y2, e2, t2⟩ := hf 2 _ rfl
  obtain ⟨v3, y3, e3, t3⟩ := hf 3 _ rfl
  obtain ⟨v4, y4, e4, t4⟩ := hf 4 _ rfl
  obtain ⟨v5, y5, e5, t5⟩ := hf 5 _ rfl
  obtain ⟨x0, c0, l0, rfl, _, _, r0, k0⟩ := open_kinds14 Tryd.underlying24 Tryd.underlying23 (by kernel_rfl) t0
  obtain ⟨x1, c1, l1, rfl, _, _, r1, k1⟩ := open_kinds14 Tryd.underlying24 Tryd.underlying23 (by kernel_rfl) t1
  obtain ⟨x2, c2, l2, rfl, _, _, r2, k2⟩ := open_kinds14 Tryd.underlying24 Tryd.underlying23 (by kernel_rfl) t2
  obtain ⟨x3, c3, l3, rfl, _, _, r3, k3⟩ := open_kinds14 Tryd.underlying24 Tryd.underlying23 (by kernel_rfl) t3
  obtain ⟨x4, c4, l4, rfl, _, _, r4, k4⟩ := open_kinds14 Tryd.underlying29 Tryd.underlying2 (by kernel_rfl) t4
  obtain ⟨x5, c5, l5, rfl, _, _, r5, k5⟩ := open_code14 t5
  refine ⟨⟨l0, l1, l2, l3, l4, l5⟩, x0, x1, x2, x3, x4, x5, c0, c1, c2, c3, c4, c5, ?_, ⟨k0, k1, k2, k3, k4, k5⟩, ⟨r0, r1, r2, r3, r4, r5⟩⟩
  obtain ⟨l⟩ := cs
  have hl : l.length = 6 := hl
  match l, hl, e0, e1, e2, e3, e4, e5 with
  | [a, b, c, d, e, f], _, e0, e1, e2, e3, e4, e5 =>
    have e0 : a = _ := Option.some.inj e0
    have e1 : b = _ := Option.some.inj e1
    have e2 : c = _ := Option.some.inj e2
    have e3 : d = _ := Option.some.inj e3
    have e4 : e = _ := Option.some.inj e4
    have e5 : f = _ := Option.some.inj e5
    rw [e0, e1, e2, e3, e4, e5]
    rfl
end
end Go.Proofs.YtglplhkbnkbjbaaDoor

namespace Go.Proofs.YtglplhkbnkbjbaaDoor
open Go
theorem wpList_wanted {P : Program} {ops : Array Oper} {Q : Exit → Act → World → Prop} {a : Act} {w : World} {rest : List Oper} {o : Oper} (hw : Region.wanted o (yielded ops a.tmps) = true)
    (h : ∀ K : Act → World → Prop, (∀ a w, wpList P ops Q rest a w → K a w) → o.wp P a w K Q) : wpList P ops Q (o :: rest) a w :=
  wpList_step fun K hK => by rw [if_pos hw]; exact h K hK
theorem wanted_of {o : Oper} {ops : Array Oper} {t : Array Value} (k : Nat) (v : Bool) (hg : o.guard = some (k, v)) (hy : yielded ops t k = some v) : Region.wanted o (yielded ops t) = true := by
  unfold Region.wanted
  simp [hg, hy]
theorem wpList_load_row_g {P : Program} {ops : Array Oper} {rest : List Oper} {o : Oper} {a : Act} {w : World} {Q : Exit → Act → World → Prop} (k : Nat) (v : Bool) (hgd : o.guard = some (k, v)) (hy : yielded ops a.tmps k = some v) (ty : TypeId) (x : Operand) (ho : o.op = .load ty x)
    (g : Nat) (hx : a.eval x = .pointer (some ⟨g, 0, none⟩)) (t : TypeId) (cs : Array Value) (fr : Nat × Nat) (d : TypeDesc) (hg : w.heap[g]? = some (.cells cs t fr))
    (hu : P.underlying ty = some d) (hd : (match d with | .struct _ | .array _ _ => true | _ => false) = true) (hi : (P.info? ty).map (·.size) = some cs.size)
    (h : wpList P ops Q rest (a.put o.dst (.agg cs)) w) : wpList P ops Q (o :: rest) a w :=
  wpList_wanted (wanted_of k v hgd hy) fun _ hK => wp_load_row ty x ho g hx t cs fr d hg hu hd hi (hK _ _ h)
end Go.Proofs.YtglplhkbnkbjbaaDoor

namespace Go.Proofs.YtglplhkbnkbjbaaDoor
open Go Go.RowKit
set_option maxRecDepth 100000
theorem vIn_any (n : Int) (l : Nat) (w : World) : Calls Tryd.prog 32 #[.int .i64 n, .int .i64 (l : Int)] w fun e w' => e = .returned (.bool (inB n l)) ∧ w' = w := by
  unfold inB
  by_cases h0 : 0 ≤ n
  · have d0 : decide (0 ≤ n) = true := by simpa using h0
    by_cases h1 : n < (l : Int)
    · have d1 : decide (n < (l : Int)) = true := by simpa using h1
      rw [d0, d1]
      go_enter Tryd.func32, Tryd.ntmps32
      go_wp2_with fail
      go_ret
      exact ⟨by first | rfl | simp, rfl⟩
    · have d1 : decide (n < (l : Int)) = false := by simpa using h1
      rw [d0, d1]
      go_enter Tryd.func32, Tryd.ntmps32
      go_wp2_with fail
      go_ret
      exact ⟨by first | rfl | simp, rfl⟩
  · have d0 : decide (0 ≤ n) = false := by simpa using h0
    rw [d0, Bool.false_and]
    go_enter Tryd.func32, Tryd.ntmps32
    go_wp2_with fail
    go_ret
    exact ⟨by first | rfl | simp, rfl⟩
theorem vWrites_any (x : In4) (h0 : 0 ≤ x.op) (h1 : x.op ≤ 20) (w : World) : Calls Tryd.prog 21 #[.agg #[.int .i64 x.op, .int .i64 x.a, .int .i64 x.b, .int .i64 x.c]] w fun e w' => e = .returned (.int .i64 (wrI x)) ∧ Below w.heap.size w w' := by
  obtain ⟨op, a, b, c⟩ := x
  dsimp only at h0 h1 ⊢
  rcases op_cases h0 h1 with h | h | h | h | h | h | h | h | h | h | h | h | h | h | h | h | h | h | h | h | h <;> subst h <;> clear h0 h1 <;> as_aux_lemma =>
    go_enter Tryd.func21, Tryd.ntmps21
    go_wp2_with fail
    go_ret
    exact ⟨by first | rfl | simp [wrI], (Below.refl _ _).alloc (Nat.le_refl _) _⟩
theorem vbs1 (v : Int) (W : World) : (Instr.buildSlice 48 1 #[(0, .int .i64 v)]).run Tryd.prog W = .ok (.slice (some ⟨W.heap.size, 0, none⟩) 1 1) (W.alloc (.cells #[.int .i64 v] 3)) := by kernel_rfl
theorem vbs2 (u v : Int) (W : World) : (Instr.buildSlice 48 2 #[(0, .int .i64 u), (1, .int .i64 v)]).run Tryd.prog W = .ok (.slice (some ⟨W.heap.size, 0, none⟩) 2 2) (W.alloc (.cells #[.int .i64 u, .int .i64 v] 3)) := by kernel_rfl
/-- A call that gives a row of numbers. -/
def GivesI (w : World) (l : List Int) (e : Ending) (w' : World) : Prop := ∃ (a : Option Addr) (c : Nat), e = .returned (.slice a l.length c) ∧ Row (Value.int .i64) w' a l ∧ Below w.heap.size w w'
theorem row_new1 (w : World) (v : Int) (T : TypeId) : Row (Value.int .i64) (w.alloc (.cells #[.int .i64 v] T)) (some ⟨w.heap.size, 0, none⟩) [v] := fun _ => ⟨_, 0, rfl, by simp, fun i hi => by
  obtain rfl : i = 0 := by simp at hi; omega
  exact cell_of_row _ w.heap.size 0 _ _ _ (heap_alloc_new w _)⟩
theorem row_new2 (w : World) (u v : Int) (T : TypeId) : Row (Value.int .i64) (w.alloc (.cells #[.int .i64 u, .int .i64 v] T)) (some ⟨w.heap.size, 0, none⟩) [u, v] := fun _ => ⟨_, 0, rfl, by simp, fun i hi => by
  have : i = 0 ∨ i = 1 := by simp at hi; omega
  rcases this with rfl | rfl
  · exact cell_of_row _ w.heap.size 0 _ _ _ (heap_alloc_new w _)
  · exact cell_of_row _ w.heap.size 1 _ _ _ (heap_alloc_new w _)⟩
set_option maxHeartbeats 4000000 in
theorem vReads_any (x : In4) (h0 : 0 ≤ x.op) (h1 : x.op ≤ 20) (w : World) : Calls Tryd.prog 20 #[.agg #[.int .i64 x.op, .int .i64 x.a, .int .i64 x.b, .int .i64 x.c]] w (GivesI w (rdsI x)) := by
  obtain ⟨op, a, b, c⟩ := x
  dsimp only at h0 h1 ⊢
  obtain ⟨W0, hW0⟩ : ∃ W0, W0 = w.alloc (.cells #[.int .i64 op, .int .i64 a, .int .i64 b, .int .i64 c] 34) := ⟨_, rfl⟩
  have hb0 : Below w.heap.size w W0 := by rw [hW0]; exact (Below.refl _ _).alloc (Nat.le_refl _) _
  have b1 := vbs1 b W0
  have b2 := vbs2 b c W0
  have hbk := heap_alloc_new w (.cells #[.int .i64 op, .int .i64 a, .int .i64 b, .int .i64 c] 34)
  rw [← hW0] at hbk
  obtain ⟨g, hg⟩ : ∃ g, g = w.heap.size := ⟨_, rfl⟩
  rw [← hg] at hbk
  have q0 := cell_of_row W0 g 0 _ _ _ hbk
  have q2 := cell_of_row W0 g 2 _ _ _ hbk
  have q3 := cell_of_row W0 g 3 _ _ _ hbk
  have HW0 := Lib.hid hW0
  have HG := Lib.hid hg
  have HB0 := Lib.hid hb0
  clear hW0 hbk hg hb0
  rcases op_cases h0 h1 with h | h | h | h | h | h | h | h | h | h | h | h | h | h | h | h | h | h | h | h | h <;> subst h <;> clear h0 h1 <;> as_aux_lemma =>
    go_enter Tryd.func20, Tryd.ntmps20
    go_upto_region 1 with fail
    rw [← HW0.out, ← HG.out]
    go_wp2_with fail
    go_ret
    first | exact ⟨_, _, rfl, row_new1 W0 b _, HB0.out.alloc HB0.out.size _⟩ | exact ⟨_, _, rfl, row_new2 W0 b c _, HB0.out.alloc HB0.out.size _⟩ | exact ⟨none, 0, rfl, Row.nil _ _ _, HB0.out⟩
end Go.Proofs.YtglplhkbnkbjbaaDoor

namespace Go.Proofs.YtglplhkbnkbjbaaDoor
open Go Go.RowKit
theorem run_append_nilc {P : Program} (w : World) (base : Nat) (t ty e : TypeId) (i : TypeInfo) (size : Nat) (ht : P.underlying t = some (.slice e)) (hi : P.info? e = some i)
    (v : Value) (n : Nat) (xs : List Value) (hown : w.ownsRow base e size v n xs) (c : Nat) : (Builtin.append_ #[t, t] ty #[v, .slice none 0 c]).run P w = .ok v w := by
  rcases hown.2 with ⟨rfl, rfl⟩ | ⟨g, cap, cur, rfl, _, _, hnc, _⟩
  · simp [Builtin.append_, run_underlying ht, sizeOf, typeInfo, hi, Builtin.lenOf, Builtin.firstCells]
  · simp [Builtin.append_, run_underlying ht, sizeOf, typeInfo, hi, Builtin.lenOf, Builtin.firstCells, hnc, storeCells]
/-- '[]byte{}': a row of the call's own that holds nothing. -/
theorem own_empty (w : World) (base : Nat) (e : TypeId) (hb : base ≤ w.heap.size) : (w.alloc (.cells #[] e)).ownsRow base e 1 (.slice (some ⟨w.heap.size, 0, none⟩) 0 0) 0 [] :=
  World.ownsRow_made w #[] 0 hb (Nat.zero_le _) rfl
end Go.Proofs.YtglplhkbnkbjbaaDoor

namespace Go.Proofs.YtglplhkbnkbjbaaDoor
open Go Go.RowKit
set_option maxRecDepth 100000
theorem run_append_zero {P : Program} (w : World) (t ty e : TypeId) (i : TypeInfo) (ht : P.underlying t = some (.slice e)) (hi : P.info? e = some i) (g : Addr) (a : Option Addr) (c : Nat) :
    (Builtin.append_ #[t, t] ty #[.slice (some g) 0 0, .slice a 0 c]).run P w = .ok (.slice (some g) 0 0) w := by
  cases a with
  | none => simp [Builtin.append_, run_underlying ht, sizeOf, typeInfo, hi, Builtin.lenOf, Builtin.firstCells, storeCells]
  | some ad => simp [Builtin.append_, run_underlying ht, sizeOf, typeInfo, hi, Builtin.lenOf, Builtin.firstCells, storeCells, loadCells, loadCellsFrom]
theorem run_append_rows {P : Program} (w : World) (base : Nat) (t ty e : TypeId) (i : TypeInfo) (z : Value) (bytes : Nat) (ht : P.underlying t = some (.slice e)) (hi : P.info? e = some i) (hz : i.zero = some z) (hsize : i.size = 1) (hby : i.bytes = bytes) (hzc : z.cells.size = 1)
    {α : Type} (f : α → Value) (hone : ∀ x, (f x).oneCell' = true) (v : Value) (n : Nat) (xs : List Value) (hown : w.ownsRow base e 1 v n xs) (a : Option Addr) (c : Nat) (l : List α) (hr : Row f w a l) (hlen : n + l.length ≤ maxLen) (hb : (n + l.length) * bytes ≤ 140737488355328) (hbase : base ≤ w.heap.size) :
    ∃ v' w', (Builtin.append_ #[t, t] ty #[v, .slice a l.length c]).run P w = .ok v' w' ∧ w'.ownsRow base e 1 v' (n + l.length) (xs ++ l.map f) ∧ w.grownBy w' v.ownBlock := by
  have own : ∀ ad : Addr, (∀ j u, (l.map f)[j]? = some u → w.cell? (ad.add j) = some u) → ∃ v' w', (Builtin.append_ #[t, t] ty #[v, .slice (some ad) l.length c]).run P w = .ok v' w' ∧ w'.ownsRow base e 1 v' (n + l.length) (xs ++ l.map f) ∧ w.grownBy w' v.ownBlock := by
    intro ad hc
    obtain ⟨v', w', h1, h2, h3, _⟩ := run_append_own (P := P) w base t ty e i z 1 bytes ht hi hz hsize hby hzc (by decide) v n xs hown ad l.length c (l.map f) (by simp) hc (fun u hu => by obtain ⟨x, _, rfl⟩ := List.mem_map.1 hu; exact hone x) hlen hb hbase
    exact ⟨v', w', h1, h2, h3⟩
  cases l with
  | nil =>
    cases a with
    | none => exact ⟨v, w, run_append_nilc w base t ty e i 1 ht hi v n xs hown c, by simpa using hown, World.grownBy.refl w _⟩
    | some ad => exact own ad (fun j u hj => by simp at hj)
  | cons x r =>
    obtain ⟨b, o, rfl, _, hc⟩ := hr (by simp)
    refine own _ (fun j u hj => ?_)
    obtain ⟨hjl, he⟩ := List.getElem?_eq_some_iff.1 hj
    rw [List.length_map] at hjl
    rw [List.getElem_map] at he
    rw [Addr.add_lit, hc j hjl, he]
theorem wpList_append_rows {P : Program} (w : World) {ops : Array Oper} {rest : List Oper} {o : Oper} {act : Act} {Q : Exit → Act → World → Prop} (hgd : o.guard = none) (s x : Operand) (t : TypeId)
    (ho : o.op = .call { callee := .builtin .append, args := #[s, x], argTypes := #[t, t] })
    (base : Nat) (e : TypeId) (i : TypeInfo) (z : Value) (bytes : Nat) (ht : P.underlying t = some (.slice e)) (hi : P.info? e = some i) (hz : i.zero = some z) (hsize : i.size = 1) (hby : i.bytes = bytes) (hzc : z.cells.size = 1)
    {α : Type} (f : α → Value) (hone : ∀ x, (f x).oneCell' = true) (v : Value) (n : Nat) (xs : List Value) (hs : act.eval s = v) (hown : w.ownsRow base e 1 v n xs) (a : Option Addr) (c : Nat) (l : List α) (hx : act.eval x = .slice a l.length c) (hr : Row f w a l) (hlen : n + l.length ≤ maxLen) (hb : (n + l.length) * bytes ≤ 140737488355328) (hbase : base ≤ w.heap.size)
    (h : ∀ v' w', w'.ownsRow base e 1 v' (n + l.length) (xs ++ l.map f) → w.grownBy w' v.ownBlock → wpList P ops Q rest (act.put o.dst v') w') : wpList P ops Q (o :: rest) act w := by
  refine wpList_plain hgd fun K hK => ?_
  obtain ⟨v', w', hr', h2, h3⟩ := run_append_rows (P := P) w base t o.type e i z bytes ht hi hz hsize hby hzc f hone v n xs hown a c l hr hlen hb hbase
  unfold Oper.wp execOp
  simp only [ho, resolve, invoke, builtin, Sem.run_bind, Sem.run_pure, Result.andThen_ok, List.map_toArray, List.map_cons, List.map_nil, hs, hx, hr']
  exact hK _ _ (h v' w' h2 h3)
theorem wpList_append_zero {P : Program} (w : World) {ops : Array Oper} {rest : List Oper} {o : Oper} {act : Act} {Q : Exit → Act → World → Prop} (hgd : o.guard = none) (s x : Operand) (t : TypeId)
    (ho : o.op = .call { callee := .builtin .append, args := #[s, x], argTypes := #[t, t] })
    (e : TypeId) (i : TypeInfo) (ht : P.underlying t = some (.slice e)) (hi : P.info? e = some i) (g : Addr) (hs : act.eval s = .slice (some g) 0 0) (a : Option Addr) (c : Nat) (hx : act.eval x = .slice a 0 c)
    (h : wpList P ops Q rest (act.put o.dst (.slice (some g) 0 0)) w) : wpList P ops Q (o :: rest) act w := by
  refine wpList_plain hgd fun K hK => ?_
  have hr' := run_append_zero (P := P) w t o.type e i ht hi g a c
  unfold Oper.wp execOp
  simp only [ho, resolve, invoke, builtin, Sem.run_bind, Sem.run_pure, Result.andThen_ok, List.map_toArray, List.map_cons, List.map_nil, hs, hx, hr']
  exact hK _ _ h
/-- The same at a step of a region that draws its order. -/
theorem step_append_rows {P : Program} {w : World} {ops : Array Oper} {o : Oper} {act : Act} {K : Act → World → Prop} {Q : Exit → Act → World → Prop} {E : Prop} (hgd : o.guard = none) (s x : Operand) (t : TypeId)
    (ho : o.op = .call { callee := .builtin .append, args := #[s, x], argTypes := #[t, t] })
    (base : Nat) (e : TypeId) (i : TypeInfo) (z : Value) (bytes : Nat) (ht : P.underlying t = some (.slice e)) (hi : P.info? e = some i) (hz : i.zero = some z) (hsize : i.size = 1) (hby : i.bytes = bytes) (hzc : z.cells.size = 1)
    {α : Type} (f : α → Value) (hone : ∀ x, (f x).oneCell' = true) (v : Value) (n : Nat) (xs : List Value) (hs : act.eval s = v) (hown : w.ownsRow base e 1 v n xs) (a : Option Addr) (c : Nat) (l : List α) (hx : act.eval x = .slice a l.length c) (hr : Row f w a l) (hlen : n + l.length ≤ maxLen) (hb : (n + l.length) * bytes ≤ 140737488355328) (hbase : base ≤ w.heap.size)
    (h : ∀ v' w', w'.ownsRow base e 1 v' (n + l.length) (xs ++ l.map f) → w.grownBy w' v.ownBlock → K (act.put o.dst v') w') : if Region.wanted o (yielded ops act.tmps) = true then Oper.wp P o act w K Q else E := by
  have hw : Region.wanted o (yielded ops act.tmps) = true := by simp [Region.wanted, hgd]
  rw [if_pos hw]
  obtain ⟨v', w', hr', h2, h3⟩ := run_append_rows (P := P) w base t o.type e i z bytes ht hi hz hsize hby hzc f hone v n xs hown a c l hr hlen hb hbase
  unfold Oper.wp execOp
  simp only [ho, resolve, invoke, builtin, Sem.run_bind, Sem.run_pure, Result.andThen_ok, List.map_toArray, List.map_cons, List.map_nil, hs, hx, hr']
  exact h v' w' h2 h3
/-- Below, behind an append to an own row. -/
theorem below_own {w0 w w' : World} {base : Nat} {e : TypeId} {v : Value} {n : Nat} {xs : List Value} (hb : Below base w0 w) (hown : w.ownsRow base e 1 v n xs) (hg : w.grownBy w' v.ownBlock) (hB : base ≤ w.heap.size) : Below base w0 w' :=
  hb.grown hg hB (fun k hk => (hown.lt k hk).1)
end Go.Proofs.YtglplhkbnkbjbaaDoor

namespace Go.Proofs.YtglplhkbnkbjbaaDoor
open Go Go.RowKit
set_option maxRecDepth 100000
/-- A call that gives a row of truths, of its own making. -/
def GivesBs (w : World) (l : List Bool) (e : Ending) (w' : World) : Prop := ∃ (b o c : Nat), e = .returned (.slice (some ⟨b, o, none⟩) l.length c) ∧ Row Value.bool w' (some ⟨b, o, none⟩) l ∧ l.length ≤ c ∧ c ≤ maxLen ∧ w.heap.size ≤ b ∧ Below w.heap.size w w'
theorem info_bool : (Tryd.prog.info? 4).map (fun i => (i.zero, i.size, i.bytes)) = some (some (.bool false), 1, 1) := by kernel_rfl
theorem own_bs {w : World} {base : Nat} {v : Value} {l : List Bool} (hl : l ≠ []) (h : w.ownsRow base 4 1 v l.length (l.map Value.bool)) : ∃ g c, v = .slice (some ⟨g, 0, none⟩) l.length c ∧ Row Value.bool w (some ⟨g, 0, none⟩) l ∧ l.length ≤ c ∧ c ≤ maxLen ∧ base ≤ g := by
  rcases h.2 with ⟨_, h0⟩ | ⟨g, cap, cur, rfl, hbg, hg, hn, hc, _, _⟩
  · exact absurd (List.eq_nil_of_length_eq_zero h0) hl
  · refine ⟨g, cap, rfl, fun _ => ⟨g, 0, rfl, (Array.getElem?_eq_some_iff.1 hg).1, fun i hi => ?_⟩, hn, hc, hbg⟩
    have := h.cellAt i (by omega)
    rw [Nat.zero_add, this, List.getElem?_map, List.getElem?_eq_getElem hi]
    rfl
theorem vnil_eq (W : World) : (binOp .eql 47 (.slice none 0 0) (.slice none 0 0)).run Tryd.prog W = .ok (.bool true) W := by first | kernel_rfl | simp [go_sem, binOp]
theorem vsome_eq (a : Addr) (n c : Nat) (W : World) : (binOp .eql 47 (.slice (some a) n c) (.slice none 0 0)).run Tryd.prog W = .ok (.bool false) W := by first | kernel_rfl | simp [go_sem, binOp]
theorem vBoth_nil (b : List Bool) (y : Option Addr) (cy : Nat) (w : World) (hb : Row Value.bool w y b) (hs : b.length ≤ 100000) : Calls Tryd.prog 22 #[.slice none 0 0, .slice y b.length cy] w (GivesBs w b) := by
  obtain ⟨i0, hi, hz0, hz1, hz2⟩ := info_parts info_bool
  have HIN := Lib.hid (And.intro hi (And.intro hz0 (And.intro hz1 hz2)))
  have be : (Instr.buildSlice 47 0 #[]).run Tryd.prog w = .ok (.slice (some ⟨w.heap.size, 0, none⟩) 0 0) (w.alloc (.cells #[] 4)) := by kernel_rfl
  have hnl := vnil_eq w
  have HR := Lib.hid (hb.below ((Below.refl w.heap.size w).alloc (Nat.le_refl _) (.cells #[] 4)))
  have HS := Lib.hid hs
  clear hi hz0 hz1 hz2 hb hs
  cases b with
  | nil =>
    go_enter Tryd.func22, Tryd.ntmps22
    go_wp2_with (at_builtin; refine wpList_append_zero _ rfl (.tmp 9) (.tmp 10) 47 rfl 4 i0 Tryd.underlying47 HIN.out.1 ⟨w.heap.size, 0, none⟩ rfl y cy rfl ?_)
    go_ret
    exact ⟨w.heap.size, 0, 0, rfl, Row.nil _ _ _, Nat.le_refl _, Nat.zero_le _, Nat.le_refl _, (Below.refl _ _).alloc (Nat.le_refl _) _⟩
  | cons x r =>
    obtain ⟨B, hB⟩ : ∃ B, B = x :: r := ⟨_, rfl⟩
    rw [← hB] at HR HS ⊢
    have HNE : Hid (B ≠ []) := Lib.hid (by rw [hB]; simp)
    clear hB
    go_enter Tryd.func22, Tryd.ntmps22
    go_wp2_with (at_builtin; refine wpList_append_rows _ rfl (.tmp 9) (.tmp 10) 47 rfl w.heap.size 4 i0 (.bool false) 1 Tryd.underlying47 HIN.out.1 HIN.out.2.1 HIN.out.2.2.1 HIN.out.2.2.2 rfl Value.bool (fun _ => rfl) _ 0 [] rfl (own_empty w _ _ (Nat.le_refl _)) y cy B rfl HR.out ?c1 ?c2 ?c3 ?_)
    case c1 => have := HS.out; unfold maxLen; omega
    case c2 => have := HS.out; omega
    case c3 => simp
    intro v5 w5 hown hgr
    have hbl : Below w.heap.size w w5 := ((Below.refl _ _).alloc (Nat.le_refl _) _).grown hgr (by simp) (by intro k hk; simp [Value.ownBlock] at hk; omega)
    obtain ⟨g, c, rfl, hrow, hc1, hc2, hg⟩ := own_bs HNE.out (by simpa using hown)
    have HE := Lib.hid (And.intro hrow (And.intro hc1 (And.intro hc2 (And.intro hg hbl))))
    clear hown hgr hbl hrow hc1 hc2 hg be
    go_wp2_with fail
    go_ret
    exact ⟨g, 0, c, rfl, HE.out.1, HE.out.2.1, HE.out.2.2.1, HE.out.2.2.2.1, HE.out.2.2.2.2⟩
theorem run_make_bools (n : Nat) (hn : n ≤ 140737488355328) (k1 k2 : Int) (h1 : k1 = (n : Int)) (h2 : k2 = (n : Int)) (W : World) :
    (Instr.makeSlice 47 (.int .i64 k1) (.int .i64 k2)).run Tryd.prog W = .ok (.slice (some ⟨W.heap.size, 0, none⟩) n n) (W.alloc (.cells (List.replicate n (Value.bool false)).toArray 4)) := by
  obtain ⟨i0, hi, hz0, hz1, hz2⟩ := info_parts info_bool
  subst h1 h2
  have h := run_make (P := Tryd.prog) W 47 4 i0 (.bool false) Tryd.underlying47 hi hz0 .i64 .i64 (n : Int) (n : Int) (by omega) (by omega) (by rw [hz2]; omega) (by omega)
  rw [h, hz1]
  have e : madeCells #[.bool false] n = (List.replicate n (Value.bool false)).toArray := by
    apply Array.ext
    · simp [madeCells]
    · intro i h1 h2
      simp [madeCells, Nat.mod_one]
  rw [← e]
  simp [Value.cells]
/-- What a round of both's loop has laid. -/
def mixB (a b : List Bool) (k : Nat) : List Bool := (List.zipWith (fun x y => x && y) a b).take k ++ List.replicate (a.length - k) false
theorem mixB_length {a b : List Bool} (h : a.length = b.length) {k : Nat} (hk : k ≤ a.length) : (mixB a b k).length = a.length := by
  unfold mixB
  rw [List.length_append, List.length_take, List.length_zipWith, List.length_replicate]
  omega
theorem mixB_set {a b : List Bool} (h : a.length = b.length) {k : Nat} (hk : k < a.length) : (mixB a b k).set k (a[k] && b[k]'(by omega)) = mixB a b (k + 1) := by
  have hz : (List.zipWith (fun x y => x && y) a b).length = a.length := by rw [List.length_zipWith]; omega
  unfold mixB
  have hl : ((List.zipWith (fun x y => x && y) a b).take k).length = k := by rw [List.length_take]; omega
  have hr : List.replicate (a.length - k) false = false :: List.replicate (a.length - (k + 1)) false := by
    rw [show a.length - k = (a.length - (k + 1)) + 1 by omega, List.replicate_succ]
  rw [hr, List.set_append_right _ _ (by omega), hl, Nat.sub_self, List.set_cons_zero, List.take_add_one, List.getElem?_eq_getElem (by omega), List.getElem_zipWith, List.append_assoc]
  rfl
theorem mixB_end {a b : List Bool} (h : a.length = b.length) : mixB a b a.length = bothP (some a) b := by
  unfold mixB bothP
  rw [Nat.sub_self, List.take_of_length_le (by rw [List.length_zipWith]; omega)]
  simp
set_option maxHeartbeats 4000000 in
theorem vBoth_some (a b : List Bool) (x : Addr) (y : Option Addr) (cx cy : Nat) (w : World) (ha : Row Value.bool w (some x) a) (hb : Row Value.bool w y b) (hl : a.length = b.length) (hs : a.length ≤ 100000) :
    Calls Tryd.prog 22 #[.slice (some x) a.length cx, .slice y b.length cy] w (GivesBs w (bothP (some a) b)) := by
  obtain ⟨W0, hW0⟩ : ∃ W, W = w.alloc (.cells (List.replicate a.length (Value.bool false)).toArray 4) := ⟨_, rfl⟩
  have hm := run_make_bools a.length (by omega) (a.length : Int) (a.length : Int) rfl rfl w
  have hsm := vsome_eq x a.length cx w
  have hb0 : Below w.heap.size w W0 := by rw [hW0]; exact (Below.refl _ _).alloc (Nat.le_refl _) _
  have own0 : W0.ownsRow w.heap.size 4 1 (.slice (some ⟨w.heap.size, 0, none⟩) a.length a.length) a.length ((mixB a b 0).map Value.bool) := by
    have h : (w.alloc (.cells (List.replicate a.length (Value.bool false)).toArray 4)).ownsRow w.heap.size 4 1 (.slice (some ⟨w.heap.size, 0, none⟩) a.length a.length) a.length (List.replicate a.length (Value.bool false)) :=
      ⟨by simp, .inr ⟨w.heap.size, a.length, _, rfl, Nat.le_refl _, heap_alloc_new w _, Nat.le_refl _, by unfold maxLen; omega, by simp, by rw [Nat.mul_one]; exact List.take_of_length_le (by simp)⟩⟩
    rw [← hW0] at h
    have e : (mixB a b 0).map Value.bool = List.replicate a.length (Value.bool false) := by unfold mixB; simp
    rw [e]
    exact h
  obtain ⟨g, hg⟩ : ∃ g, g = w.heap.size := ⟨_, rfl⟩
  rw [← hg] at own0
  rw [← hW0, ← hg] at hm
  have HA := Lib.hid ha
  have HB := Lib.hid hb
  have HL := Lib.hid hl
  have HS := Lib.hid hs
  have HW0 := Lib.hid hW0
  have HG := Lib.hid hg
  have HB0 := Lib.hid hb0
  have HO := Lib.hid own0
  clear ha hb hl hs hW0 hg hb0 own0
  go_enter Tryd.func22, Tryd.ntmps22
  go_wp2_with fail
  clear hm hsm
  go_loopw [6] (fun v wx => ∃ k : Nat, v = .int .i64 (k : Int) ∧ k ≤ a.length ∧ Below w.heap.size w wx ∧ wx.ownsRow g 4 1 (.slice (some ⟨g, 0, none⟩) a.length a.length) a.length ((mixB a b k).map Value.bool))
    (fun v _ => a.length - (intOf v).toNat)
  case atStart => exact ⟨0, rfl, Nat.zero_le _, HB0.out, HO.out⟩
  case round =>
    obtain ⟨k, rfl, hk, hbw, hown⟩ := hrel
    have HK := Lib.hid hk
    have HBW := Lib.hid hbw
    have HOW := Lib.hid hown
    clear hk hbw hown
    by_cases hka : k < a.length
    · have d1 : decide ((k : Int) < (a.length : Int)) = true := by simp; omega
      have hkb : k < b.length := by have := HL.out; omega
      obtain ⟨bx, ox, hxe, hltx, hcx⟩ := HA.out.below HBW.out (by intro h; rw [h] at hka; simp at hka)
      obtain ⟨by_, oy, hye, hlty, hcy⟩ := HB.out.below HBW.out (by intro h; rw [h] at hkb; simp at hkb)
      have zx := hcx k hka
      have zy := hcy k hkb
      have hxe : x = ⟨bx, ox, none⟩ := Option.some.inj hxe
      have zc : ∃ u, wr.cell? ⟨g, k, none⟩ = some (.bool u) := by
        rw [HOW.out.cellAt k (by omega), List.getElem?_map, List.getElem?_eq_getElem (by rw [mixB_length HL.out (by omega)]; exact hka)]
        exact ⟨_, rfl⟩
      obtain ⟨u, zc⟩ := zc
      have zf := HOW.out.frozenAt k
      have hst := HOW.out.stored k (.bool (a[k]'hka && b[k]'hkb))
      have hmx : ((mixB a b k).map Value.bool).set k (.bool (a[k]'hka && b[k]'hkb)) = (mixB a b (k + 1)).map Value.bool := by rw [← mixB_set HL.out hka, List.map_set]
      rw [hmx] at hst
      obtain ⟨va, hva⟩ : ∃ v, v = a[k]'hka := ⟨_, rfl⟩
      obtain ⟨vb, hvb⟩ : ∃ v, v = b[k]'hkb := ⟨_, rfl⟩
      rw [← hva] at zx hst
      rw [← hvb] at zy hst
      subst hxe
      subst hye
      have m1 : (0 : Int) ≤ (k : Int) := by omega
      have n1 : (k : Int) < (a.length : Int) := by omega
      have n2 : (k : Int) < (b.length : Int) := by omega
      have HST := Lib.hid hst
      have HKA := Lib.hid hka
      clear hcx hcy hltx hlty hmx hva hvb hst hkb
      cases va with
      | true =>
        rw [Bool.true_and] at HST
        go_wp2_with fail
        rw [wrap_in14 _ (by have := HS.out; omega)]
        refine ⟨⟨k + 1, by go_num, by omega, HBW.out.grown HST.out.2 HBW.out.size (fun j hj => by injection hj with hj; have := HG.out; omega), HST.out.1⟩, ?_⟩
        have := HKA.out
        simp [intOf]; omega
      | false =>
        rw [Bool.false_and] at HST
        go_wp2_with fail
        rw [wrap_in14 _ (by have := HS.out; omega)]
        refine ⟨⟨k + 1, by go_num, by omega, HBW.out.grown HST.out.2 HBW.out.size (fun j hj => by injection hj with hj; have := HG.out; omega), HST.out.1⟩, ?_⟩
        have := HKA.out
        simp [intOf]; omega
    · obtain rfl : k = a.length := by have := HK.out; omega
      have d1 : decide ((a.length : Int) < (a.length : Int)) = false := by simp
      go_wp2_with fail
      go_ret
      have hB : (bothP (some a) b).length = a.length := by rw [← mixB_end HL.out, mixB_length HL.out (Nat.le_refl _)]
      have hown := HOW.out
      rw [mixB_end HL.out] at hown
      by_cases h0 : bothP (some a) b = []
      · have ha0 : a.length = 0 := by rw [← hB, h0]; rfl
        exact ⟨g, 0, a.length, by rw [hB]; rfl, by rw [h0]; exact Row.nil _ _ _, by rw [hB]; exact Nat.le_refl _, by rw [ha0]; exact Nat.zero_le _, by rw [HG.out]; exact Nat.le_refl _, HBW.out⟩
      · rw [← hB] at hown
        obtain ⟨g', c, he, hr, hc1, hc2, hg⟩ := own_bs h0 hown
        simp only [Value.slice.injEq, Option.some.injEq, Addr.mk.injEq, and_true, true_and] at he
        obtain ⟨rfl, rfl⟩ := he
        exact ⟨g, 0, _, by rw [hB]; rfl, hr, hc1, hc2, by rw [HG.out]; exact Nat.le_refl _, HBW.out⟩
end Go.Proofs.YtglplhkbnkbjbaaDoor

namespace Go.Proofs.YtglplhkbnkbjbaaDoor
open Go Go.RowKit
set_option maxRecDepth 100000
/-- A cell of the flow: nil, or a row of truths that lies elsewhere. -/
def DCell (w : World) (g : Nat) (v : Value) : Option (List Bool) → Prop
  | none => v = .slice none 0 0
  | some l => ∃ b o c, v = .slice (some ⟨b, o, none⟩) l.length c ∧ Row Value.bool w (some ⟨b, o, none⟩) l ∧ b ≠ g
theorem DCell.below {w w' : World} {g : Nat} {v : Value} {d : Option (List Bool)} (h : DCell w g v d) (hb : Below w.heap.size w w') : DCell w' g v d := by
  cases d with
  | none => exact h
  | some l =>
    obtain ⟨b, o, c, e, hr, hg⟩ := h
    exact ⟨b, o, c, e, hr.below hb, hg⟩
theorem DCell.other {w : World} {g : Nat} {v : Value} {d : Option (List Bool)} (h : DCell w g v d) (k : Nat) (u : Value) : DCell (w.setCell ⟨g, k, none⟩ u) g v d := by
  cases d with
  | none => exact h
  | some l =>
    obtain ⟨b, o, c, e, hr, hg⟩ := h
    refine ⟨b, o, c, e, fun hne => ?_, hg⟩
    obtain ⟨b', o', he, hlt, hc⟩ := hr hne
    have he := Option.some.inj he
    injection he with he1 he2
    subst he1 he2
    refine ⟨b, o, rfl, by simpa using hlt, fun i hi => ?_⟩
    have hh : (w.setCell ⟨g, k, none⟩ u).heap[b]? = w.heap[b]? := heap_setCell_other w ⟨g, k, none⟩ b u (fun e => hg e)
    rw [← hc i hi]
    unfold World.cell?
    simp only [hh]
/-- The flow in memory. -/
structure DoneIn (w : World) (g : Nat) (D : Done) : Prop where
  heap : ∃ vs : List Value, w.heap[g]? = some (.cells vs.toArray 47 (0, 0)) ∧ vs.length = D.length ∧ ∀ k (h : k < D.length) v, vs[k]? = some v → DCell w g v (D[k]'h)
theorem DoneIn.below {w w' : World} {g : Nat} {D : Done} (h : DoneIn w g D) (hb : Below w.heap.size w w') : DoneIn w' g D := by
  obtain ⟨vs, hg, hl, hc⟩ := h.heap
  exact ⟨vs, (hb.block g (Array.getElem?_eq_some_iff.1 hg).1).trans hg, hl, fun k hk v hv => (hc k hk v hv).below hb⟩
theorem DoneIn.lt {w : World} {g : Nat} {D : Done} (h : DoneIn w g D) : g < w.heap.size := by
  obtain ⟨vs, hg, _⟩ := h.heap
  exact (Array.getElem?_eq_some_iff.1 hg).1
theorem DoneIn.cell {w : World} {g : Nat} {D : Done} (h : DoneIn w g D) (k : Nat) (hk : k < D.length) : ∃ v, w.cell? ⟨g, k, none⟩ = some v ∧ w.frozen? ⟨g, k, none⟩ = false ∧ DCell w g v (D[k]'hk) := by
  obtain ⟨vs, hg, hl, hc⟩ := h.heap
  have hv : vs[k]? = some (vs[k]'(by omega)) := List.getElem?_eq_getElem _
  refine ⟨_, ?_, frozen_of_row w g k _ _ hg, hc k hk _ hv⟩
  rw [cell_of_row w g k _ _ _ hg]
  simp
theorem DoneIn.set {w : World} {g : Nat} {D : Done} (h : DoneIn w g D) (k : Nat) {u : Value} {l : List Bool} (hu : DCell w g u (some l)) : DoneIn (w.setCell ⟨g, k, none⟩ u) g (D.set k (some l)) := by
  obtain ⟨vs, hg, hl, hc⟩ := h.heap
  refine ⟨vs.set k u, ?_, by rw [List.length_set, List.length_set, hl], fun j hj v hv => ?_⟩
  · have := heap_setCell_same w g k vs.toArray 47 u hg
    rw [this]
    simp
  · by_cases hjk : j = k
    · subst hjk
      rw [List.length_set] at hj
      rw [List.getElem?_set_self (by omega)] at hv
      injection hv with hv
      subst hv
      rw [List.getElem_set_self]
      exact hu.other _ _
    · rw [List.getElem?_set_ne (fun e => hjk e.symm)] at hv
      rw [List.getElem_set_ne (fun e => hjk e.symm)]
      exact (hc j (by simpa using hj) v hv).other _ _
/-- Storing into the flow's own row turns nothing else. -/
theorem set_grown16 (w : World) (g k : Nat) (u : Value) : w.grownBy (w.setCell ⟨g, k, none⟩ u) (some g) :=
  ⟨rfl, rfl, rfl, by simp, fun j _ hj => heap_setCell_other w ⟨g, k, none⟩ j u (fun e => hj (by simp [e]))⟩
theorem firstV_step (f : Nat → In4 → Bool) (l : List In4) (k : Nat) (h : k < l.length) : firstV f (l.drop k) k = if f k (l[k]'h) = true then firstV f (l.drop (k + 1)) (k + 1) else some k := by
  rw [List.drop_eq_getElem_cons h]
  rfl
theorem firstV_end (f : Nat → In4 → Bool) (l : List In4) : firstV f (l.drop l.length) l.length = none := by
  rw [List.drop_length]
  rfl
theorem firstV_none {f : Nat → In4 → Bool} : ∀ (l : List In4) (s : Nat), firstV f l s = none → ∀ k (h : k < l.length), f (s + k) (l[k]'h) = true
  | [], _, _, k, h => absurd h (Nat.not_lt_zero _)
  | x :: r, s, hn, k, h => by
    unfold firstV at hn
    by_cases hx : f s x = true
    · rw [if_pos hx] at hn
      cases k with
      | zero => exact hx
      | succ k =>
        have := firstV_none r (s + 1) hn k (by simpa using h)
        rw [show s + (k + 1) = s + 1 + k by omega]
        exact this
    · rw [if_neg hx] at hn
      cases hn
theorem flowV_step (p : Pg) (l : List In4) (k : Nat) (h : k < l.length) (D : Done) : flowV p (l.drop k) k D = match D.getD k none with
    | none => flowV p (l.drop (k + 1)) (k + 1) D
    | some d => if (rdsI (l[k]'h)).all (fun j => d.getD j.toNat false) = true then flowV p (l.drop (k + 1)) (k + 1) (stepV p (l[k]'h) k D d) else .inr k := by
  rw [List.drop_eq_getElem_cons h]
  rfl
theorem flowV_end (p : Pg) (l : List In4) (D : Done) : flowV p (l.drop l.length) l.length D = .inl D := by
  rw [List.drop_length]
  rfl
theorem info_bools : (Tryd.prog.info? 47).map (fun i => (i.zero, i.size, i.bytes)) = some (some (.slice none 0 0), 1, 24) := by kernel_rfl
theorem run_make_dones (n : Nat) (hn : n ≤ 100000) (k1 k2 : Int) (h1 : k1 = (n : Int)) (h2 : k2 = (n : Int)) (W : World) :
    (Instr.makeSlice 46 (.int .i64 k1) (.int .i64 k2)).run Tryd.prog W = .ok (.slice (some ⟨W.heap.size, 0, none⟩) n n) (W.alloc (.cells (List.replicate n (Value.slice none 0 0)).toArray 47)) := by
  obtain ⟨i0, hi, hz0, hz1, hz2⟩ := info_parts info_bools
  subst h1 h2
  have h := run_make (P := Tryd.prog) W 46 47 i0 (.slice none 0 0) Tryd.underlying46 hi hz0 .i64 .i64 (n : Int) (n : Int) (by omega) (by omega) (by rw [hz2]; omega) (by omega)
  rw [h, hz1]
  have e : madeCells #[.slice none 0 0] n = (List.replicate n (Value.slice none 0 0)).toArray := by
    apply Array.ext
    · simp [madeCells]
    · intro i h1 h2
      simp [madeCells, Nat.mod_one]
  rw [← e]
  simp [Value.cells]
/-- The flow as it begins: nothing is reached. -/
theorem done_new (w : World) (n : Nat) : DoneIn (w.alloc (.cells (List.replicate n (Value.slice none 0 0)).toArray 47)) w.heap.size (List.replicate n none) :=
  ⟨List.replicate n (Value.slice none 0 0), heap_alloc_new w _, by simp, fun k hk v hv => by
    rw [List.getElem_replicate]
    rw [List.length_replicate] at hk
    rw [List.getElem?_replicate, if_pos hk] at hv
    injection hv with hv
    exact hv.symm⟩
/-- A row of falses, of its own making. -/
theorem bools_new (w : World) (n : Nat) : Row Value.bool (w.alloc (.cells (List.replicate n (Value.bool false)).toArray 4)) (some ⟨w.heap.size, 0, none⟩) (List.replicate n false) := fun _ => ⟨_, 0, rfl, by simp, fun i hi => by
  rw [List.length_replicate] at hi
  rw [cell_of_row _ w.heap.size (0 + i) _ _ _ (heap_alloc_new w _)]
  simp [hi]⟩
end Go.Proofs.YtglplhkbnkbjbaaDoor

namespace Go.Proofs.YtglplhkbnkbjbaaDoor
open Go Go.RowKit
/-- What each operand names: 1 a slot that is written, 2 a slot that is read, 3 a constant, 4 a memory, 5 an input, 6 an output, 7 a target. -/
def rolesT : List (List Int) := [[1, 3, 0], [1, 2, 0], [1, 4, 0], [4, 2, 0], [1, 5, 0], [6, 2, 0], [1, 2, 0], [1, 2, 0], [1, 2, 2], [1, 2, 2], [1, 2, 2], [1, 2, 2], [1, 2, 2], [1, 2, 2], [1, 2, 2], [1, 2, 2], [1, 2, 2], [1, 2, 2], [1, 2, 2], [7, 2, 0], [7, 0, 0]]
def roleO (op : Int) (k : Nat) : Int := (rolesT.getD op.toNat []).getD k 0
def opnd (x : In4) : Nat → Int
  | 0 => x.a
  | 1 => x.b
  | _ => x.c
/-- The kinds of what a role names. -/
def kindsO (p : Pg) (r : Int) : Option (List Int) :=
  if r = 1 ∨ r = 2 then some p.slots else if r = 4 then some p.mems else if r = 5 then some p.ins else if r = 6 then some p.outs else none
def placesO (p : Pg) (pc : Nat) (r : Int) : Int × Int :=
  if r = 3 then (0, (p.consts.length : Int)) else if r = 7 then ((pc : Int) + 1, (p.code.length : Int) + 1) else (0, (((kindsO p r).getD []).length : Int))
def placed1 (p : Pg) (pc : Nat) (x : In4) (k : Nat) : Bool :=
  !(!(roleO x.op k == 0) && (decide (opnd x k < (placesO p pc (roleO x.op k)).1) || decide ((placesO p pc (roleO x.op k)).2 ≤ opnd x k)))
def placedL (p : Pg) (pc : Nat) (x : In4) : Bool := !(decide (x.op < 0) || decide (21 ≤ x.op)) && (placed1 p pc x 0 && (placed1 p pc x 1 && placed1 p pc x 2))
/-- The kinds of what an instruction names. -/
def kindL (p : Pg) (x : In4) (k : Nat) : Int := match kindsO p (roleO x.op k) with
  | some l => atI l (opnd x k)
  | none => 0
def fitsL (p : Pg) (x : In4) : Bool :=
  if x.op = 0 then (kindL p x 0 == 2) || ((atI p.consts x.b == 0) || (atI p.consts x.b == 1))
  else if 1 ≤ x.op ∧ x.op ≤ 5 then kindL p x 0 == kindL p x 1
  else if x.op = 6 then (kindL p x 0 == 1) && ((kindL p x 1 == 1) && (kindL p x 2 == 0))
  else if x.op = 7 then (kindL p x 0 == 2) && ((kindL p x 1 == 2) && (kindL p x 2 == 0))
  else if 8 ≤ x.op ∧ x.op ≤ 12 then (kindL p x 0 == 2) && ((kindL p x 1 == 2) && (kindL p x 2 == 2))
  else if x.op = 13 then (kindL p x 0 == 1) && (kindL p x 1 == kindL p x 2)
  else if x.op = 14 ∨ x.op = 15 then (kindL p x 0 == 1) && ((kindL p x 1 == 2) && (kindL p x 2 == 2))
  else if 16 ≤ x.op ∧ x.op ≤ 18 then (kindL p x 0 == 1) && ((kindL p x 1 == 1) && (kindL p x 2 == 1))
  else if x.op = 19 then kindL p x 1 == 1
  else true
def read1 (x : In4) (l : List Bool) (k : Nat) : Bool := !((roleO x.op k == 2) && !l.getD (opnd x k).toNat false)
def readL (x : In4) (l : List Bool) : Bool := read1 x l 0 && (read1 x l 1 && read1 x l 2)
theorem op_range {p : Pg} {pc : Nat} {x : In4} (h : namedP p pc x = true) : 0 ≤ x.op ∧ x.op ≤ 20 := by
  unfold namedP at h
  simp only [Bool.and_eq_true, decide_eq_true_eq] at h
  exact h.1
set_option maxHeartbeats 2000000 in
theorem placed_named (p : Pg) (pc : Nat) (x : In4) : placedL p pc x = namedP p pc x := by
  obtain ⟨op, a, b, c⟩ := x
  by_cases h : 0 ≤ op ∧ op ≤ 20
  · rcases op_cases h.1 h.2 with h | h | h | h | h | h | h | h | h | h | h | h | h | h | h | h | h | h | h | h | h <;> subst h <;>
      (rw [Bool.eq_iff_iff]; simp [placedL, namedP, placed1, roleO, rolesT, placesO, kindsO, opnd, rdsI, writesB, nameB, inB]; try omega)
  · rw [Bool.eq_iff_iff]
    simp only [placedL, namedP, Bool.and_eq_true, Bool.not_eq_true', Bool.or_eq_false_iff, decide_eq_true_eq, decide_eq_false_iff_not]
    constructor
    · intro hh; exact absurd ⟨by omega, by omega⟩ h
    · intro hh; exact absurd hh.1 h
set_option maxHeartbeats 2000000 in
theorem fits_same (p : Pg) (pc : Nat) (x : In4) (h : namedP p pc x = true) : fitsL p x = fitsP p x := by
  have h := op_range h
  obtain ⟨op, a, b, c⟩ := x
  rcases op_cases h.1 h.2 with h | h | h | h | h | h | h | h | h | h | h | h | h | h | h | h | h | h | h | h | h <;> simp only at h <;> subst h <;>
    simp [fitsL, fitsP, kindL, roleO, rolesT, kindsO, opnd]
set_option maxHeartbeats 2000000 in
theorem read_same (p : Pg) (pc : Nat) (x : In4) (h : namedP p pc x = true) (l : List Bool) : readL x l = (rdsI x).all (fun k => l.getD k.toNat false) := by
  have h := op_range h
  obtain ⟨op, a, b, c⟩ := x
  rcases op_cases h.1 h.2 with h | h | h | h | h | h | h | h | h | h | h | h | h | h | h | h | h | h | h | h | h <;> simp only at h <;> subst h <;>
    simp [readL, read1, roleO, rolesT, opnd, rdsI]
/-- What a named instruction's slots are. -/
theorem read_bound {p : Pg} {pc : Nat} {x : In4} (h : namedP p pc x = true) (k : Nat) (hk : k < 3) (hr : roleO x.op k = 2) : ∃ j : Nat, opnd x k = (j : Int) ∧ j < p.slots.length := by
  rw [← placed_named] at h
  have hp : placed1 p pc x k = true := by
    unfold placedL at h
    simp only [Bool.and_eq_true] at h
    rcases k with _ | _ | _ | k
    · exact h.2.1
    · exact h.2.2.1
    · exact h.2.2.2
    · omega
  unfold placed1 at hp
  rw [hr] at hp
  simp [placesO, kindsO] at hp
  exact ⟨(opnd x k).toNat, by omega, by omega⟩
/-- The way on, as package valid goes it. -/
def stepL (p : Pg) (x : In4) (pc : Nat) (D : Done) (l : List Bool) : Done :=
  let r := roleO x.op 0
  let l2 := if r = 1 then l.set x.a.toNat true else if r = 6 then l.set (p.slots.length + x.a.toNat) true else l
  let D1 := if r = 7 then putD D x.a.toNat l2 else D
  if x.op = 20 then D1 else putD D1 (pc + 1) l2
theorem put_comm (D : Done) (i j : Nat) (l : List Bool) : putD (putD D i l) j l = putD (putD D j l) i l := by
  by_cases h : i = j
  · rw [h]
  · have e1 : (D.set i (some (bothP (D[i]?.getD none) l)))[j]? = D[j]? := List.getElem?_set_ne h
    have e2 : (D.set j (some (bothP (D[j]?.getD none) l)))[i]? = D[i]? := List.getElem?_set_ne (fun e => h e.symm)
    simp only [putD, List.getD_eq_getElem?_getD, e1, e2]
    exact List.set_comm _ _ h
set_option maxHeartbeats 2000000 in
theorem step_same (p : Pg) (x : In4) (pc : Nat) (D : Done) (l : List Bool) (h : namedP p pc x = true) : stepL p x pc D l = stepV p x pc D l := by
  have hn := h
  have h := op_range h
  obtain ⟨op, a, b, c⟩ := x
  have ha : op ≠ 19 → op ≠ 20 → 0 ≤ a := by
    intro h1 h2
    rw [← placed_named] at hn
    unfold placedL at hn
    simp only [Bool.and_eq_true] at hn
    have h3 := hn.2.1
    rcases op_cases h.1 h.2 with h | h | h | h | h | h | h | h | h | h | h | h | h | h | h | h | h | h | h | h | h <;> simp only at h <;> subst h <;>
      simp [placed1, roleO, rolesT, placesO, kindsO, opnd] at h3 <;> omega
  rcases op_cases h.1 h.2 with h | h | h | h | h | h | h | h | h | h | h | h | h | h | h | h | h | h | h | h | h <;> simp only at h <;> subst h <;>
    (first | (have ha := ha (by decide) (by decide); simp [stepL, stepV, roleO, rolesT, wroteV, wrI, ha]; done) | (simp [stepL, stepV, roleO, rolesT, wroteV, wrI]; try exact put_comm _ _ _ _))
end Go.Proofs.YtglplhkbnkbjbaaDoor

namespace Go.Proofs.YtglplhkbnkbjbaaDoor
open Go Go.RowKit Go.ChangeShapes
abbrev LAID : List (String × DataW Unit) := [("escapement/valid.roles", Rows.laid_escapement_valid_roles)]
theorem roles_number : Tryd.prog.globalNamed "escapement/valid.roles" = some 0 := by kernel_rfl
theorem roles_type : (Tryd.prog.globals[0]?).map (·.type) = some 58 := by kernel_rfl
theorem cells_role3 : Tryd.prog.cellsOf 57 = 3 := by kernel_rfl
theorem cells_role : Tryd.prog.cellsOf 56 = 1 := by kernel_rfl
def roleD (l : List Int) : DataW Unit := .agg (l.map fun z => .lit (.int .i64 z))
set_option maxRecDepth 100000 in
theorem roles_same : (Rows.laid_escapement_valid_roles : DataW Unit) = .agg (rolesT.map roleD) := by
  unfold Rows.laid_escapement_valid_roles
  rfl
/-- Package valid's table. -/
def VTab (w : World) : Prop := ∀ op k : Nat, op < 21 → k < 3 → w.cell? ⟨0, op * 3 + k, none⟩ = some (.int .i64 (roleO (op : Int) k))
theorem rolesT_len : rolesT.length = 21 := by decide
theorem rolesT_three : ∀ op, op < 21 → (rolesT.getD op []).length = 3 := by decide
set_option maxRecDepth 100000 in
theorem tab_of {W : World} (h : laidMet Tryd.prog LAID W) : VTab W := by
  have h2 : laidMet Tryd.prog [("escapement/valid.roles", Rows.laid_escapement_valid_roles)] W := h
  rw [roles_same] at h2
  obtain ⟨ps, ⟨g', t', cs, fuel, p, q, hg', ht', hvar, hd, _, _⟩, _⟩ := h2
  obtain rfl := Option.some.inj (roles_number.symm.trans hg')
  obtain rfl := Option.some.inj (roles_type.symm.trans ht')
  obtain ⟨xs, m, _, hx, hl, hxl, hf⟩ := DataW.trod_array Tryd.underlying58 hd
  have hxs : xs.map (·.1) = rolesT.map roleD := by
    have := congrArg Prod.fst hx
    simpa using this.symm
  intro op k hop hk
  have h3 := hf op hop
  rw [cells_role3] at h3
  have hkx : op < xs.length := by omega
  rw [List.getElem?_eq_getElem hkx] at h3
  have h4 : (xs.map (·.1))[op]? = some (xs[op]'hkx).1 := by simp [List.getElem?_eq_getElem hkx]
  rw [hxs, List.getElem?_map, List.getElem?_eq_getElem (by rw [rolesT_len]; exact hop)] at h4
  have h5 : (xs[op]'hkx).1 = roleD (rolesT.getD op []) := by
    rw [List.getD_eq_getElem?_getD, List.getElem?_eq_getElem (by rw [rolesT_len]; exact hop)]
    exact (Option.some.inj h4).symm
  obtain ⟨ys, m2, _, hy, hl2, hyl, hf2⟩ := DataW.trod_array Tryd.underlying57 h3
  have hys : ys.map (·.1) = (rolesT.getD op []).map fun z => .lit (.int .i64 z) := by
    have h6 := congrArg Prod.fst hy
    rw [h5] at h6
    simpa [roleD] using h6.symm
  have h7 := hf2 k hk
  rw [cells_role] at h7
  have hky : k < ys.length := by omega
  rw [List.getElem?_eq_getElem hky] at h7
  obtain ⟨z, hz, hzz, _⟩ := DataW.trod_int Tryd.underlying56 h7
  have h8 : (ys.map (·.1))[k]? = some (ys[k]'hky).1 := by simp [List.getElem?_eq_getElem hky]
  have h3l := rolesT_three op hop
  rw [hys, List.getElem?_map, List.getElem?_eq_getElem (by omega)] at h8
  have h9 : z = roleO (op : Int) k := by
    have := (Option.some.inj h8)
    rw [hzz] at this
    simp only [DataW.lit.injEq, Lit.int.injEq, true_and] at this
    rw [← this]
    unfold roleO
    rw [Int.toNat_natCast, List.getD_eq_getElem?_getD (i := k), List.getElem?_eq_getElem (by omega)]
    rfl
  rw [World.var?_cell roles_number hvar (op * 3 + k)]
  have h10 := congrArg (fun l => l[0]?) hz
  simp only [List.getElem?_cons_zero] at h10
  rw [List.getElem?_take, if_pos (by decide), List.getElem?_drop, List.getElem?_take, if_pos (by omega), List.getElem?_drop] at h10
  rw [h9] at h10
  rw [← h10]
  simp
theorem VTab.lt {w : World} (h : VTab w) : 0 < w.heap.size := World.block_lt_of_cell? w ⟨0, 0 * 3 + 0, none⟩ (h 0 0 (by decide) (by decide))
theorem VTab.below {w w' : World} (h : VTab w) (hb : Below w.heap.size w w') : VTab w' := fun op k h1 h2 => (hb.cell (p := ⟨0, op * 3 + k, none⟩) h.lt).trans (h op k h1 h2)
/-- Of an instruction's number. -/
theorem VTab.at_ {w : World} (h : VTab w) {op : Int} (h0 : 0 ≤ op) (h1 : op ≤ 20) (k : Nat) (hk : k < 3) : w.cell? ⟨0, op.toNat * 3 + k, none⟩ = some (.int .i64 (roleO op k)) := by
  have := h op.toNat k (by omega) hk
  rw [this]
  rw [show ((op.toNat : Nat) : Int) = op by omega]
theorem VTab.keep {w w' : World} {B : Nat} (h : VTab w) (hb : Below B w w') (hB : 0 < B) : VTab w' := fun op k h1 h2 => by
  have := hb.block _ hB
  have e : w'.cell? ⟨0, op * 3 + k, none⟩ = w.cell? ⟨0, op * 3 + k, none⟩ := by
    unfold World.cell?
    simp only [this]
  rw [e]
  exact h op k h1 h2
end Go.Proofs.YtglplhkbnkbjbaaDoor

namespace Go.Proofs.YtglplhkbnkbjbaaDoor
open Go Go.RowKit
section
variable {P : Program} {Q : Exit → Act → World → Prop} {md : Region.Mode}
/-- One operation, run where its predecessors' words hold. -/
def Step (P : Program) (md : Region.Mode) (Q : Exit → Act → World → Prop) (lo l : List Oper) (Sp : Nat → Value → World → Prop) (B : Nat) (w0 : World) (a0 : Act) (i : Nat) (o : Oper) : Prop :=
  ∀ (a : Act) (W : World), Below B w0 W → B ≤ W.heap.size → (∀ j, (∀ x ∈ lo, x.dst ≠ some j) → a.tmps.getD j undef = a0.tmps.getD j undef) →
    (∀ e ∈ o.after.toList, Region.binds md e = true → ∀ x, l[e.on]? = some x → ∀ d, x.dst = some d → d < a.tmps.size ∧ Sp e.on (a.tmps.getD d undef) W) →
    wpOp P l.toArray Q i (fun a' W' => ∃ v, a' = a.put o.dst v ∧ Sp i v W' ∧ Below W.heap.size W W') a W
def Steps (P : Program) (md : Region.Mode) (Q : Exit → Act → World → Prop) (lo l : List Oper) (Sp : Nat → Value → World → Prop) (B : Nat) (w0 : World) (a0 : Act) : Nat → List Oper → Prop
  | _, [] => True
  | i, o :: r => Step P md Q lo l Sp B w0 a0 i o ∧ Steps P md Q lo l Sp B w0 a0 (i + 1) r
variable {lo l : List Oper} {Sp : Nat → Value → World → Prop} {B : Nat} {w0 : World} {a0 : Act}
theorem Steps.cons {i : Nat} {o : Oper} {r : List Oper} (h : Step P md Q lo l Sp B w0 a0 i o) (hr : Steps P md Q lo l Sp B w0 a0 (i + 1) r) : Steps P md Q lo l Sp B w0 a0 i (o :: r) := ⟨h, hr⟩
theorem Steps.nil {i : Nat} : Steps P md Q lo l Sp B w0 a0 i [] := trivial
theorem Steps.at_ : ∀ (r : List Oper) (i : Nat), Steps P md Q lo l Sp B w0 a0 i r → ∀ (k : Nat) (o : Oper), r[k]? = some o → Step P md Q lo l Sp B w0 a0 (i + k) o
  | [], _, _, k, o, h => by simp at h
  | x :: r, i, hs, 0, o, h => by
    simp only [List.getElem?_cons_zero, Option.some.injEq] at h
    subst h
    exact hs.1
  | x :: r, i, hs, k + 1, o, h => by
    have := Steps.at_ r (i + 1) hs.2 k o (by simpa using h)
    rwa [show i + 1 + k = i + (k + 1) by omega] at this
/-- Those of its predecessors that bind stand ahead of each operation. -/
def aheadOps (md : Region.Mode) (l : List Oper) : Bool := (List.range l.length).all fun i => match l[i]? with
  | some o => o.after.toList.all fun e => !Region.binds md e || decide (e.on < i)
  | none => true
theorem aheadOps_spec {md : Region.Mode} (h : aheadOps md l = true) {i : Nat} {o : Oper} (hi : l[i]? = some o) {e : _} (he : e ∈ o.after.toList) (hb : Region.binds md e = true) : e.on < i := by
  have hlt : i < l.length := (List.getElem?_eq_some_iff.1 hi).1
  unfold aheadOps at h
  rw [List.all_eq_true] at h
  have h1 := h i (List.mem_range.2 hlt)
  simp only [hi] at h1
  rw [List.all_eq_true] at h1
  have h2 := h1 e he
  rw [hb] at h2
  simpa using h2
structure Inv (lo l : List Oper) (Sp : Nat → Value → World → Prop) (B : Nat) (w0 : World) (a0 : Act) (listed : Array Bool) (a : Act) (W : World) : Prop where
  size : listed.size = l.length
  below : Below B w0 W
  base : B ≤ W.heap.size
  defers : a.defers = a0.defers
  tmps : a.tmps.size = a0.tmps.size
  old : ∀ j, (∀ x ∈ lo, x.dst ≠ some j) → a.tmps.getD j undef = a0.tmps.getD j undef
  new : ∀ i x d, l[i]? = some x → listed.getD i false = true → x.dst = some d → Sp i (a.tmps.getD d undef) W
theorem put_same {a : Act} {d : Tmp} {v : Value} (h : d < a.tmps.size) : (a.put (some d) v).tmps.getD d undef = v := by
  simp [Act.put, h]
theorem put_other {a : Act} {o : Option Tmp} {d : Tmp} {v : Value} (h : o ≠ some d) : (a.put o v).tmps.getD d undef = a.tmps.getD d undef := by
  cases o with
  | none => rfl
  | some e =>
    have hne : e ≠ d := fun e' => h (by rw [e'])
    show (a.tmps.setIfInBounds e v).getD d undef = _
    simp only [Array.getD, Array.size_setIfInBounds]
    split
    · exact Array.getElem_setIfInBounds_ne (by assumption) hne
    · rfl
theorem put_size {a : Act} {o : Option Tmp} {v : Value} : (a.put o v).tmps.size = a.tmps.size := by
  cases o <;> simp [Act.put]
theorem put_defers {a : Act} {o : Option Tmp} {v : Value} : (a.put o v).defers = a.defers := by
  cases o <;> rfl
/-- No slot is written twice. -/
def single (l : List Oper) : Bool := (List.range l.length).all fun i => (List.range l.length).all fun j => i == j || match l[i]?, l[j]? with
  | some x, some y => x.dst.isNone || !(x.dst == y.dst)
  | _, _ => true
theorem single_spec (h : single l = true) {i j : Nat} {x y : Oper} {d : Tmp} (hi : l[i]? = some x) (hj : l[j]? = some y) (hx : x.dst = some d) (hy : y.dst = some d) : i = j := by
  have hil : i < l.length := (List.getElem?_eq_some_iff.1 hi).1
  have hjl : j < l.length := (List.getElem?_eq_some_iff.1 hj).1
  unfold single at h
  rw [List.all_eq_true] at h
  have h1 := h i (List.mem_range.2 hil)
  rw [List.all_eq_true] at h1
  have h2 := h1 j (List.mem_range.2 hjl)
  simp only [hi, hj, hx, hy, Bool.or_eq_true, beq_iff_eq] at h2
  rcases h2 with h2 | h2
  · exact h2
  · simp at h2
def within (l : List Oper) (n : Nat) : Bool := l.all fun o => match o.dst with
  | some d => decide (d < n)
  | none => true
theorem within_spec {n : Nat} (h : within l n = true) {o : Oper} (ho : o ∈ l) {d : Tmp} (hd : o.dst = some d) : d < n := by
  unfold within at h
  rw [List.all_eq_true] at h
  have := h o ho
  simpa [hd] using this
theorem Inv.step (hst : ∀ i v W W', Sp i v W → Below W.heap.size W W' → Sp i v W') (h1 : single l = true) (h2 : within l a0.tmps.size = true)
    {listed : Array Bool} {a : Act} {W : World} (h : Inv lo l Sp B w0 a0 listed a W) {i : Nat} {o : Oper} (hi : l[i]? = some o) (hlo : o ∈ lo) {v : Value} {W' : World} (hv : Sp i v W') (hb : Below W.heap.size W W') :
    Inv lo l Sp B w0 a0 (listed.setIfInBounds i true) (a.put o.dst v) W' := by
  refine ⟨by simpa using h.size, h.below.trans (hb.mono h.base), Nat.le_trans h.base hb.size, put_defers.trans h.defers, put_size.trans h.tmps, fun j hj => ?_, fun k x d hk hl hd => ?_⟩
  · rw [put_other (hj o hlo), h.old j hj]
  · by_cases hki : k = i
    · subst hki
      rw [hi] at hk
      injection hk with hk
      subst hk
      rw [hd, put_same (by rw [h.tmps]; exact within_spec h2 (List.mem_of_getElem? hi) hd)]
      exact hv
    · rw [put_other (fun e => hki (single_spec h1 hk hi hd e))]
      rw [getD_set_ne _ (Ne.symm hki)] at hl
      exact hst _ _ _ _ (h.new k x d hk hl hd) hb
theorem count_set {listed : Array Bool} {i : Nat} (h : listed.getD i true = false) : (listed.setIfInBounds i true).toList.count false + 1 = listed.toList.count false := by
  have hlt : i < listed.size := by
    rcases Nat.lt_or_ge i listed.size with h' | h'
    · exact h'
    · simp [Array.getD, Nat.not_lt.2 h'] at h
  have hv : listed.toList[i]'(by simpa using hlt) = false := by
    have : listed[i] = false := by simpa [Array.getD, hlt] using h
    simpa using this
  rw [Array.toList_setIfInBounds, List.count_set (by simpa using hlt), hv]
  have hpos : 0 < listed.toList.count false := List.count_pos_iff.2 (by rw [← hv]; exact List.getElem_mem _)
  simp only [beq_self_eq_true, if_true]
  have e : (true == false) = false := rfl
  rw [e]
  simp only [Bool.false_eq_true, if_false]
  omega
theorem wpAny_steps (hst : ∀ i v W W', Sp i v W → Below W.heap.size W W' → Sp i v W') (h1 : single l = true) (h2 : within l a0.tmps.size = true) (h3 : aheadOps md l = true) (hs : Steps P md Q l l Sp B w0 a0 0 l)
    (hdone : ∀ a W, Inv l l Sp B w0 a0 (Array.replicate l.length true) a W → Q .normal a W) :
    ∀ (fuel : Nat) (listed : Array Bool) (a : Act) (W : World), Inv l l Sp B w0 a0 listed a W → listed.toList.count false ≤ fuel → wpAny P md l.toArray Q fuel listed a W := by
  have empty : ∀ (listed : Array Bool), listed.size = l.length → Region.ready md l.toArray listed = [] → listed = Array.replicate l.length true := by
    intro listed hsz hr
    have all : ∀ n i, i < n → i < l.length → listed.getD i false = true := by
      intro n
      induction n with
      | zero => intro i hi; omega
      | succ n ih =>
        intro i hi hil
        by_cases hin : i < n
        · exact ih i hin hil
        · cases hb : listed.getD i false with
          | true => rfl
          | false =>
            have hlt : i < listed.size := by omega
            have hmem : i ∈ Region.ready md l.toArray listed := by
              rw [mem_ready]
              refine ⟨by simpa [Array.getD, hlt] using hb, l[i], by simp [hil], fun e he hbe => ?_⟩
              have hlt' := aheadOps_spec h3 (i := i) (o := l[i]) (by simp [hil]) (Array.mem_toList_iff.2 he) hbe
              exact ih e.on (by omega) (by omega)
            rw [hr] at hmem
            cases hmem
    apply Array.ext
    · simp [hsz]
    · intro i hi1 hi2
      have := all (i + 1) i (Nat.lt_succ_self _) (by omega)
      simpa [Array.getD, hi1] using this
  intro fuel
  induction fuel with
  | zero =>
    intro listed a W hI hc
    have hall : ∀ b ∈ listed.toList, b = true := by
      intro b hb
      cases b with
      | true => rfl
      | false => have := List.count_pos_iff.2 hb; omega
    have hr : Region.ready md l.toArray listed = [] := by
      cases hr : Region.ready md l.toArray listed with
      | nil => rfl
      | cons j js =>
        have hj : j ∈ Region.ready md l.toArray listed := by rw [hr]; exact List.mem_cons_self ..
        rw [mem_ready] at hj
        have hlt : j < listed.size := by
          rcases Nat.lt_or_ge j listed.size with h' | h'
          · exact h'
          · have := hj.1; simp [Array.getD, Nat.not_lt.2 h'] at this
        have hb := hall (listed[j]) (by simp)
        have hf := hj.1
        simp [Array.getD, hlt, hb] at hf
    refine ⟨hr, hdone a W ?_⟩
    rw [← empty listed hI.size hr]
    exact hI
  | succ fuel ih =>
    intro listed a W hI hc
    refine ⟨fun hr => hdone a W (by rw [← empty listed hI.size hr]; exact hI), fun i hi => ?_⟩
    rw [mem_ready] at hi
    obtain ⟨hf, o, ho, hpre⟩ := hi
    have hio : l[i]? = some o := by simpa using ho
    have hst' := Steps.at_ l 0 hs i o hio
    rw [Nat.zero_add] at hst'
    refine wpOp_mono ?_ (hst' a W hI.below hI.base hI.old (fun e he hb x hx d hd => ⟨by rw [hI.tmps]; exact within_spec h2 (List.mem_of_getElem? hx) hd, hI.new e.on x d hx (hpre e (Array.mem_toList_iff.1 he) hb) hd⟩))
    rintro a' W' ⟨v, rfl, hv, hb⟩
    have := count_set hf
    exact ih _ _ _ (hI.step hst h1 h2 hio (List.mem_of_getElem? hio) hv hb) (by omega)
/-- THE REGION. -/
theorem wp_region_steps {id : Nat} {a0 : Act} {w : World} (Sp : Nat → Value → World → Prop) (B : Nat) (w0 : World) (hm : P.follows .mixedOrders = true) (hB : Below B w0 w) (hBw : B ≤ w.heap.size)
    (hst : ∀ i v W W', Sp i v W → Below W.heap.size W W' → Sp i v W') (h1 : single l = true) (h2 : within l a0.tmps.size = true) (h3 : aheadOps .any l = true) (hs : Steps P .any Q l l Sp B w0 a0 0 l)
    (hdone : ∀ a W, Inv l l Sp B w0 a0 (Array.replicate l.length true) a W → Q .normal a W) : (Code.region id l.toArray true).wp P Q a0 w := by
  refine wp_region_any hm ?_
  have hsz : l.toArray.size = l.length := by simp
  refine wpAny_steps hst h1 h2 h3 hs hdone _ _ _ _ ⟨by simp, hB.drew, hBw, rfl, rfl, fun _ _ => rfl, fun i x d _ hl _ => ?_⟩ ?_
  · have : (Array.replicate l.toArray.size false).getD i false = false := by
      simp [Array.getD]
    rw [this] at hl
    cases hl
  · simp
/-- Whoever stands ahead of one of these, and of those, and so on. -/
def reaches (md : Region.Mode) (l : List Oper) : Nat → List Nat → List Nat
  | 0, S => S
  | k + 1, S => reaches md l k (S ++ S.flatMap fun i => match l[i]? with
    | some o => (o.after.toList.filter fun e => Region.binds md e).map (·.on)
    | none => [])
theorem reaches_good (md : Region.Mode) (l : List Oper) (good : Nat → Prop) (h : ∀ i, good i → ∀ o, l[i]? = some o → ∀ e ∈ o.after.toList, Region.binds md e = true → good e.on) :
    ∀ (k : Nat) (S : List Nat), (∀ i ∈ S, good i) → ∀ i ∈ reaches md l k S, good i
  | 0, _, hS => hS
  | k + 1, S, hS => reaches_good md l good h k _ fun i hi => by
    rcases List.mem_append.1 hi with hi | hi
    · exact hS i hi
    · obtain ⟨j, hj, hm⟩ := List.mem_flatMap.1 hi
      cases ho : l[j]? with
      | none => rw [ho] at hm; cases hm
      | some o =>
        rw [ho] at hm
        obtain ⟨e, he, rfl⟩ := List.mem_map.1 hm
        obtain ⟨he1, he2⟩ := List.mem_filter.1 he
        exact h j (hS j hj) o ho e he1 he2
/-- The last operation comes behind all others. -/
def covers (md : Region.Mode) (l : List Oper) : Bool := (List.range l.length).all fun i => (reaches md l l.length [l.length - 1]).contains i
theorem wpAny_steps_then (hst : ∀ i v W W', Sp i v W → Below W.heap.size W W' → Sp i v W') (h1 : single l = true) (h2 : within l a0.tmps.size = true) (h3 : aheadOps md l = true) (h4 : covers md l = true) (l0 : List Oper) (o0 : Oper) (hl : l = l0 ++ [o0]) (hs : Steps P md Q l0 l Sp B w0 a0 0 l0)
    (hlast : ∀ a W, Inv l0 l Sp B w0 a0 ((Array.replicate l.length true).setIfInBounds l0.length false) a W → wpOp P l.toArray Q l0.length (fun a' W' => Q .normal a' W') a W) :
    ∀ (fuel : Nat) (listed : Array Bool) (a : Act) (W : World), Inv l0 l Sp B w0 a0 listed a W → listed.getD l0.length true = false →
      (∀ i, listed.getD i false = true → ∀ o, l[i]? = some o → ∀ e ∈ o.after.toList, Region.binds md e = true → listed.getD e.on false = true) → listed.toList.count false ≤ fuel → wpAny P md l.toArray Q fuel listed a W := by
  have hlen : l.length = l0.length + 1 := by rw [hl]; simp
  have hol : l[l0.length]? = some o0 := by rw [hl]; simp
  -- there is always one that may come up
  have some_ready : ∀ (listed : Array Bool), listed.size = l.length → listed.getD l0.length true = false → Region.ready md l.toArray listed ≠ [] := by
    intro listed hsz hlast0 hr
    have all : ∀ n i, i < n → i < l.length → listed.getD i false = true := by
      intro n
      induction n with
      | zero => intro i hi; omega
      | succ n ih =>
        intro i hi hil
        by_cases hin : i < n
        · exact ih i hin hil
        · cases hb : listed.getD i false with
          | true => rfl
          | false =>
            have hlt : i < listed.size := by omega
            have hmem : i ∈ Region.ready md l.toArray listed := by
              rw [mem_ready]
              refine ⟨by simpa [Array.getD, hlt] using hb, l[i], by simp [hil], fun e he hbe => ?_⟩
              have hlt' := aheadOps_spec h3 (i := i) (o := l[i]) (by simp [hil]) (Array.mem_toList_iff.2 he) hbe
              exact ih e.on (by omega) (by omega)
            rw [hr] at hmem
            cases hmem
    have hlt : l0.length < listed.size := by omega
    have := all (l0.length + 1) l0.length (Nat.lt_succ_self _) (by omega)
    simp [Array.getD, hlt] at this hlast0
    rw [this] at hlast0
    cases hlast0
  intro fuel
  induction fuel with
  | zero =>
    intro listed a W hI hlast0 _ hc
    exfalso
    have hlt : l0.length < listed.size := by rw [hI.size]; omega
    have hv : listed[l0.length] = false := by simpa [Array.getD, hlt] using hlast0
    have hpos : 0 < listed.toList.count false := List.count_pos_iff.2 (by rw [← hv]; simp)
    omega
  | succ fuel ih =>
    intro listed a W hI hlast0 hcl hc
    refine ⟨fun hr => absurd hr (some_ready listed hI.size hlast0), fun i hi => ?_⟩
    rw [mem_ready] at hi
    obtain ⟨hf, o, ho, hpre⟩ := hi
    have hio : l[i]? = some o := by simpa using ho
    have hil : i < l.length := (List.getElem?_eq_some_iff.1 hio).1
    by_cases hi0 : i < l0.length
    · have hio0 : l0[i]? = some o := by
        rw [hl, List.getElem?_append_left hi0] at hio
        exact hio
      have hst' := Steps.at_ l0 0 hs i o hio0
      rw [Nat.zero_add] at hst'
      refine wpOp_mono ?_ (hst' a W hI.below hI.base hI.old (fun e he hb x hx d hd => ⟨by rw [hI.tmps]; exact within_spec h2 (List.mem_of_getElem? hx) hd, hI.new e.on x d hx (hpre e (Array.mem_toList_iff.1 he) hb) hd⟩))
      rintro a' W' ⟨v, rfl, hv, hb⟩
      have := count_set hf
      refine ih _ _ _ (hI.step hst h1 h2 hio (List.mem_of_getElem? hio0) hv hb) ?_ ?_ (by omega)
      · simp only [Array.getD, Array.size_setIfInBounds]
        have hlt : l0.length < listed.size := by rw [hI.size]; omega
        simp only [hlt, dite_true]
        rw [Array.getInternal_eq_getElem, Array.getElem_setIfInBounds_ne (by assumption) (by omega)]
        simpa [Array.getD, hlt] using hlast0
      · intro j hj x hx e he hb'
        have mono : ∀ k, listed.getD k false = true → (listed.setIfInBounds i true).getD k false = true := by
          intro k hk
          by_cases hki : k = i
          · subst hki
            have hlt : k < listed.size := by rw [hI.size]; omega
            simp [Array.getD, hlt]
          · rw [getD_set_ne _ (Ne.symm hki)]
            exact hk
        by_cases hji : j = i
        · subst hji
          rw [hio] at hx
          injection hx with hx
          subst hx
          exact mono _ (hpre e (Array.mem_toList_iff.1 he) hb')
        · rw [getD_set_ne _ (Ne.symm hji)] at hj
          exact mono _ (hcl j hj x hx e he hb')
    · obtain rfl : i = l0.length := by omega
      rw [hol] at hio
      injection hio with hio
      subst hio
      have good := reaches_good md l (fun i => i = l0.length ∨ listed.getD i false = true) (fun j hj x hx e he hb => by
        rcases hj with rfl | hj
        · rw [hol] at hx
          injection hx with hx
          subst hx
          exact .inr (hpre e (Array.mem_toList_iff.1 he) hb)
        · exact .inr (hcl j hj x hx e he hb)) l.length [l.length - 1] (fun j hj => by
          rw [List.mem_singleton] at hj
          exact .inl (by omega))
      have hall : ∀ j, j < l.length → j = l0.length ∨ listed.getD j false = true := by
        intro j hj
        unfold covers at h4
        rw [List.all_eq_true] at h4
        exact good j (List.contains_iff_mem.1 (h4 j (List.mem_range.2 hj)))
      have hlisted : listed = (Array.replicate l.length true).setIfInBounds l0.length false := by
        apply Array.ext
        · simp [hI.size]
        · intro j hj1 hj2
          by_cases hj : j = l0.length
          · subst hj
            have : listed[l0.length] = false := by simpa [Array.getD, hj1] using hlast0
            simp [this]
          · rw [Array.getElem_setIfInBounds_ne (by simpa using (by rw [← hI.size]; exact hj1)) (by omega)]
            rcases hall j (by rw [← hI.size]; exact hj1) with h | h
            · exact absurd h hj
            · simpa [Array.getD, hj1] using h
      have hrep : (listed.setIfInBounds l0.length true) = Array.replicate l.length true := by
        rw [hlisted]
        apply Array.ext
        · simp
        · intro j hj1 hj2
          by_cases hj : j = l0.length
          · subst hj; simp
          · rw [Array.getElem_setIfInBounds_ne (by simpa using hj2) (by omega), Array.getElem_setIfInBounds_ne (by simpa using hj2) (by omega)]
      have hready : Region.ready md l.toArray (Array.replicate l.length true) = [] := by
        cases hr : Region.ready md l.toArray (Array.replicate l.length true) with
        | nil => rfl
        | cons j js =>
          have hj : j ∈ Region.ready md l.toArray (Array.replicate l.length true) := by rw [hr]; exact List.mem_cons_self ..
          rw [mem_ready] at hj
          have hlt : j < l.length := by
            rcases Nat.lt_or_ge j l.length with h' | h'
            · exact h'
            · have := hj.1; simp [Array.getD, Nat.not_lt.2 h'] at this
          have := hj.1
          simp [Array.getD, hlt] at this
      have hop := hlast a W (by rw [← hlisted]; exact hI)
      refine wpOp_mono ?_ hop
      intro a' W' hQ
      rw [hrep]
      cases fuel with
      | zero => exact ⟨hready, hQ⟩
      | succ f => exact ⟨fun _ => hQ, fun i hi => by rw [hready] at hi; cases hi⟩
/-- THE REGION WHOSE LAST OPERATION MAY DO WHAT IT WANTS. -/
theorem wp_region_steps_then {id : Nat} {a0 : Act} {w : World} (Sp : Nat → Value → World → Prop) (B : Nat) (w0 : World) (hm : P.follows .mixedOrders = true) (hB : Below B w0 w) (hBw : B ≤ w.heap.size)
    (hst : ∀ i v W W', Sp i v W → Below W.heap.size W W' → Sp i v W') (h1 : single l = true) (h2 : within l a0.tmps.size = true) (h3 : aheadOps .any l = true) (h4 : covers .any l = true) (o0 : Oper) (ho0 : l.getLast? = some o0) (hs : Steps P .any Q l.dropLast l Sp B w0 a0 0 l.dropLast)
    (hlast : ∀ a W, Inv l.dropLast l Sp B w0 a0 ((Array.replicate l.length true).setIfInBounds (l.length - 1) false) a W → wpOp P l.toArray Q (l.length - 1) (fun a' W' => Q .normal a' W') a W) : (Code.region id l.toArray true).wp P Q a0 w := by
  refine wp_region_any hm ?_
  obtain ⟨l0, hl0⟩ : ∃ l0, l0 = l.dropLast := ⟨_, rfl⟩
  have hl : l = l0 ++ [o0] := by
    rw [hl0]
    obtain ⟨ys, h⟩ := List.getLast?_eq_some_iff.1 ho0
    conv => lhs; rw [h]
    rw [h, List.dropLast_concat]
  rw [← hl0] at hs hlast
  have hln : l.length - 1 = l0.length := by rw [hl]; simp
  rw [hln] at hlast
  have hlen : l.length = l0.length + 1 := by rw [hl]; simp
  have hfalse : ∀ i, (Array.replicate l.toArray.size false).getD i false = false := by
    intro i
    simp [Array.getD]
  refine wpAny_steps_then hst h1 h2 h3 h4 l0 o0 hl hs hlast _ _ _ _ ⟨by simp, hB.drew, hBw, rfl, rfl, fun _ _ => rfl, fun i x d _ hl _ => ?_⟩ ?_ ?_ ?_
  · rw [hfalse] at hl
    cases hl
  · have hlt : l0.length < (Array.replicate l.toArray.size false).size := by simp; omega
    simp [Array.getD, hlen]
  · intro i hi
    rw [hfalse] at hi
    cases hi
  · simp
end
end Go.Proofs.YtglplhkbnkbjbaaDoor

namespace Go.Proofs.YtglplhkbnkbjbaaDoor
open Go Go.RowKit
section
variable {P : Program} {Q : Exit → Act → World → Prop} {md : Region.Mode} {lo l : List Oper} {Sp : Nat → Value → World → Prop} {B : Nat} {w0 : World} {a0 : Act}
/-- What an operation finds. -/
structure Pre (md : Region.Mode) (lo l : List Oper) (Sp : Nat → Value → World → Prop) (B : Nat) (w0 : World) (a0 : Act) (o : Oper) (a : Act) (W : World) : Prop where
  below : Below B w0 W
  base : B ≤ W.heap.size
  old : ∀ j, (lo.all fun x => !(x.dst == some j)) = true → a.tmps.getD j undef = a0.tmps.getD j undef
  pre : ∀ e ∈ o.after.toList, Region.binds md e = true → ∀ x, l[e.on]? = some x → ∀ d, x.dst = some d → d < a.tmps.size ∧ Sp e.on (a.tmps.getD d undef) W
/-- The word of the k-th predecessor. -/
theorem Pre.at_ {o : Oper} {a : Act} {W : World} (h : Pre md lo l Sp B w0 a0 o a W) (k : Nat) {n : Nat} {x : Oper} {d : Tmp} (he : o.after.toList[k]?.map (fun e => (e.on, Region.binds md e)) = some (n, true)) (hx : l[n]? = some x) (hd : x.dst = some d) :
    d < a.tmps.size ∧ Sp n (a.tmps.getD d undef) W := by
  obtain ⟨e, he1, he2⟩ := Option.map_eq_some_iff.1 he
  injection he2 with h1 h2
  subst h1
  exact h.pre e (List.mem_of_getElem? he1) h2 x hx d hd
theorem Pre.on_ {o : Oper} {a : Act} {W : World} (h : Pre md lo l Sp B w0 a0 o a W) (n : Nat) {x : Oper} {d : Tmp} (he : (o.after.toList.any fun e => e.on == n && Region.binds md e) = true) (hx : l[n]? = some x) (hd : x.dst = some d) :
    d < a.tmps.size ∧ Sp n (a.tmps.getD d undef) W := by
  obtain ⟨e, he1, he2⟩ := List.any_eq_true.1 he
  rw [Bool.and_eq_true, beq_iff_eq] at he2
  obtain ⟨rfl, h2⟩ := he2
  exact h.pre e he1 h2 x hx d hd
theorem Step.of {i : Nat} {o : Oper} (h : ∀ a W, Pre md lo l Sp B w0 a0 o a W → wpOp P l.toArray Q i (fun a' W' => ∃ v, a' = a.put o.dst v ∧ Sp i v W' ∧ Below W.heap.size W W') a W) : Step P md Q lo l Sp B w0 a0 i o :=
  fun a W h1 h2 h3 h4 => h a W ⟨h1, h2, fun j hj => h3 j (fun x hx hd => by
    have := (List.all_eq_true.1 hj) x hx
    simp [hd] at this), h4⟩
theorem wpOp_of {i : Nat} {o : Oper} {a : Act} {W : World} {K : Act → World → Prop} (hi : l[i]? = some o) (hw : Region.wanted o (yielded l.toArray a.tmps) = true) (h : o.wp P a W K Q) : wpOp P l.toArray Q i K a W := by
  have hi' : l.toArray[i]? = some o := by simpa using hi
  unfold wpOp
  simp only [hi', hw, if_true]
  exact .inl h
theorem wanted_none {o : Oper} {f : Nat → Option Bool} (h : o.guard = none) : Region.wanted o f = true := by simp [Region.wanted, h]
/-- An operation that yields at once. -/
theorem step_value {i : Nat} {o : Oper} (hi : l[i]? = some o) (h : ∀ a W, Pre md lo l Sp B w0 a0 o a W → Region.wanted o (yielded l.toArray a.tmps) = true ∧ ∃ v W', (execOp a.eval o).run P W = .ok (.value v) W' ∧ Sp i v W' ∧ Below W.heap.size W W') :
    Step P md Q lo l Sp B w0 a0 i o := Step.of fun a W hp => by
  obtain ⟨hw, v, W', hr, hs, hb⟩ := h a W hp
  refine wpOp_of hi hw ?_
  unfold Oper.wp
  rw [hr]
  exact ⟨v, rfl, hs, hb⟩
/-- A call of a Go function. -/
theorem step_enter {i : Nat} {o : Oper} (hi : l[i]? = some o) (h : ∀ a W, Pre md lo l Sp B w0 a0 o a W → Region.wanted o (yielded l.toArray a.tmps) = true ∧ ∃ f args, (execOp a.eval o).run P W = .ok (.enter f args) W ∧ Calls P f args W fun e W' => ∃ v, e = .returned v ∧ Sp i v W' ∧ Below W.heap.size W W') :
    Step P md Q lo l Sp B w0 a0 i o := Step.of fun a W hp => by
  obtain ⟨hw, f, args, hr, hc⟩ := h a W hp
  refine wpOp_of hi hw ?_
  unfold Oper.wp
  rw [hr, Oper.upon_enter]
  refine hc.mono ?_
  rintro e W' ⟨v, rfl, hs, hb⟩
  exact ⟨v, rfl, hs, hb⟩
theorem run_move {o : Oper} {ρ : Operand → Value} {x : Operand} {W : World} (ho : o.op = .move x ∨ o.op = .assign x) : (execOp ρ o).run P W = .ok (.value (ρ x)) W := by
  rcases ho with ho | ho <;> simp [execOp, ho]
theorem run_enter2 {o : Oper} {ρ : Operand → Value} {f : FuncId} {x y : Operand} {ts : Array TypeId} {W : World} (ho : o.op = .call { callee := .value (.func f), args := #[x, y], argTypes := ts }) (hf : ρ (.func f) = .func (.func f) #[] #[]) (hcf : ∀ (args : Array Value) (w : World), (callFunc f args).run P w = .ok (.enter f args) w) :
    (execOp ρ o).run P W = .ok (.enter f #[ρ x, ρ y]) W := by
  simp [execOp, ho, resolve, hf, invoke, Deferred.ofValue, hcf]
theorem run_enter1 {o : Oper} {ρ : Operand → Value} {f : FuncId} {x : Operand} {ts : Array TypeId} {W : World} (ho : o.op = .call { callee := .value (.func f), args := #[x], argTypes := ts }) (hf : ρ (.func f) = .func (.func f) #[] #[]) (hcf : ∀ (args : Array Value) (w : World), (callFunc f args).run P w = .ok (.enter f args) w) :
    (execOp ρ o).run P W = .ok (.enter f #[ρ x]) W := by
  simp [execOp, ho, resolve, hf, invoke, Deferred.ofValue, hcf]
def wIs (c : Value) (v : Value) (_ : World) : Prop := v = c
def Stable (f : Value → World → Prop) : Prop := ∀ v W W', f v W → Below W.heap.size W W' → f v W'
theorem stable_is (c : Value) : Stable (wIs c) := fun _ _ _ h _ => h
/-- The words of a region, one an operation. -/
def words (ws : List (Value → World → Prop)) (i : Nat) : Value → World → Prop := (ws[i]?).getD (fun _ _ => True)
theorem words_stable {ws : List (Value → World → Prop)} (h : ∀ f ∈ ws, Stable f) : ∀ i v W W', words ws i v W → Below W.heap.size W W' → words ws i v W' := by
  intro i v W W' hv hb
  unfold words at *
  cases hi : ws[i]? with
  | none => simp
  | some f =>
    rw [hi] at hv
    exact h f (List.mem_of_getElem? hi) v W W' hv hb
end
end Go.Proofs.YtglplhkbnkbjbaaDoor

namespace Go.Proofs.YtglplhkbnkbjbaaDoor
open Go Go.RowKit
section
variable {P : Program} {Q : Exit → Act → World → Prop} {md : Region.Mode} {lo l : List Oper} {Sp : Nat → Value → World → Prop} {B : Nat} {w0 : World} {a0 : Act}
/-- A whole row read. -/
theorem run_ldrow {W : World} {o : Oper} {ρ : Operand → Value} {ty : TypeId} {x : Operand} {g : Nat} {t : TypeId} {cs : Array Value} {fr : Nat × Nat} {d : TypeDesc} (ho : o.op = .load ty x) (hx : ρ x = .pointer (some ⟨g, 0, none⟩)) (hg : W.heap[g]? = some (.cells cs t fr))
    (hu : P.underlying ty = some d) (hd : (match d with | .struct _ | .array _ _ => true | _ => false) = true) (hi : (P.info? ty).map (·.size) = some cs.size) : (execOp ρ o).run P W = .ok (.value (.agg cs)) W := by
  unfold execOp
  simp only [ho, hx, Instr.loadAt, Instr.sureAddr, Sem.run_bind, Sem.run_pure, Result.andThen_ok, run_loadVar_row W g t ty cs fr d hg hu hd hi]
end
end Go.Proofs.YtglplhkbnkbjbaaDoor

namespace Go.Proofs.YtglplhkbnkbjbaaDoor
open Go Go.RowKit
section
variable {P : Program} {W : World} {o : Oper} {ρ : Operand → Value}
theorem run_bin {op : BinOp} {t t2 : TypeId} {x y : Operand} {v : Value} (ho : o.op = .binOp op t x y t2) (hg : (eqGuard op t x y (ρ x) (ρ y)).run P W = .ok () W) (h : (binOp op t (ρ x) (ρ y)).run P W = .ok v W) : (execOp ρ o).run P W = .ok (.value v) W := by
  simp [execOp, ho, hg, h, Result.andThen]
end
theorem put_getD (a : Act) (s j : Nat) (v : Value) : (a.put (some s) v).tmps.getD j undef = if s = j ∧ j < a.tmps.size then v else a.tmps.getD j undef := by
  by_cases h : s = j
  · subst h
    by_cases hs : s < a.tmps.size
    · rw [put_same hs, if_pos ⟨rfl, hs⟩]
    · rw [if_neg (fun h => hs h.2)]
      simp [Act.put, Array.getD, hs]
  · rw [put_other (by intro e; injection e with e; exact h e), if_neg (fun e => h e.1)]
theorem puts_size (f : Nat → Value) : ∀ (S : List Nat) (a : Act), (S.foldl (fun x j => x.put (some j) (f j)) a).tmps.size = a.tmps.size
  | [], _ => rfl
  | s :: S, a => by rw [List.foldl_cons, puts_size f S, put_size]
theorem puts_defers (f : Nat → Value) : ∀ (S : List Nat) (a : Act), (S.foldl (fun x j => x.put (some j) (f j)) a).defers = a.defers
  | [], _ => rfl
  | s :: S, a => by rw [List.foldl_cons, puts_defers f S, put_defers]
theorem puts_getD (f : Nat → Value) (j : Nat) : ∀ (S : List Nat) (a : Act), (S.foldl (fun x j => x.put (some j) (f j)) a).tmps.getD j undef = if j ∈ S ∧ j < a.tmps.size then f j else a.tmps.getD j undef
  | [], _ => by simp
  | s :: S, a => by
    rw [List.foldl_cons, puts_getD f j S, put_size, put_getD]
    by_cases h1 : j < a.tmps.size
    · by_cases h2 : j ∈ S
      · simp [h1, h2]
      · by_cases h3 : s = j
        · subst h3
          simp [h1, h2]
        · simp [h1, h2, h3, Ne.symm h3]
    · simp [h1]
/-- The frame of slots behind a region: what stood before, and what the region wrote. -/
theorem puts_of {l : List Oper} {a0 a : Act} (htm : a.tmps.size = a0.tmps.size) (hdf : a.defers = a0.defers) (hold : ∀ j, (∀ x ∈ l, x.dst ≠ some j) → a.tmps.getD j undef = a0.tmps.getD j undef) (S : List Nat) (hS : l.filterMap (·.dst) = S) :
    ∃ f : Nat → Value, (∀ j, a.tmps.getD j undef = f j) ∧ a = S.foldl (fun x j => x.put (some j) (f j)) a0 := by
  refine ⟨fun j => a.tmps.getD j undef, fun _ => rfl, ?_⟩
  have ext : ∀ b : Act, a.tmps.size = b.tmps.size → a.defers = b.defers → (∀ j, a.tmps.getD j undef = b.tmps.getD j undef) → a = b := by
    intro b h1 h2 h3
    obtain ⟨ta, da⟩ := a
    obtain ⟨tb, db⟩ := b
    simp only at h1 h2 h3
    subst h2
    congr 1
    apply Array.ext
    · exact h1
    · intro i hi hi2
      have := h3 i
      simpa [Array.getD, hi, hi2] using this
  refine ext _ (by rw [puts_size, htm]) (by rw [puts_defers, hdf]) fun j => ?_
  rw [puts_getD]
  split
  · rfl
  · rename_i hn
    by_cases hj : j ∈ S
    · have hlt : ¬ j < a0.tmps.size := fun hlt => hn ⟨hj, hlt⟩
      simp [Array.getD, hlt, htm]
    · exact hold j fun x hx hd => hj (by rw [← hS]; exact List.mem_filterMap.2 ⟨x, hx, hd⟩)
end Go.Proofs.YtglplhkbnkbjbaaDoor

namespace Go.Proofs.YtglplhkbnkbjbaaDoor
open Go
section
variable {P : Program} {W : World}
/-- An operation that only reads, in a region that draws its order. -/
theorem wpStill_val {ops : Array Oper} {w : World} {Q : Act → Prop} {a : Act} {o : Oper} {rest : List Oper} (hgd : o.guard = none) {v : Value} (h : (execOp a.eval o).run P w = .ok (.value v) w) (hn : wpStill P ops w Q rest (a.put o.dst v)) : wpStill P ops w Q (o :: rest) a := by
  refine wpStill_step fun K hK => ?_
  have hw : Region.wanted o (yielded ops a.tmps) = true := by simp [Region.wanted, hgd]
  rw [if_pos hw]
  unfold Oper.still
  rw [h]
  exact ⟨rfl, hK _ hn⟩
/-- An operation by itself. -/
theorem wpList_val {ops : Array Oper} {rest : List Oper} {o : Oper} {a : Act} {w w' : World} {Q : Exit → Act → World → Prop} (hgd : o.guard = none) {v : Value} (h : (execOp a.eval o).run P w = .ok (.value v) w') (hn : wpList P ops Q rest (a.put o.dst v) w') : wpList P ops Q (o :: rest) a w :=
  wpList_plain hgd fun _ hK => by
    unfold Oper.wp
    rw [h]
    exact hK _ _ hn
theorem guard_ints {op : BinOp} {t : TypeId} {x y : Operand} {k1 k2 : IntKind} {a b : Int} : (eqGuard op t x y (.int k1 a) (.int k2 b)).run P W = .ok () W := by
  unfold eqGuard
  cases op <;> simp
theorem run_ints {o : Oper} {ρ : Operand → Value} {op : BinOp} {t t2 : TypeId} {x y : Operand} {k1 k2 : IntKind} {a b : Int} {v : Value} (ho : o.op = .binOp op t x y t2) (hx : ρ x = .int k1 a) (hy : ρ y = .int k2 b) (h : (binOp op t (.int k1 a) (.int k2 b)).run P W = .ok v W) : (execOp ρ o).run P W = .ok (.value v) W :=
  run_bin ho (by rw [hx, hy]; exact guard_ints) (by rw [hx, hy]; exact h)
theorem bin_quo64 {t : TypeId} (x : Nat) (hx : x < 9223372036854775808) : (binOp .quo t (.int .i64 (x : Int)) (.int .i64 64)).run P W = .ok (.int .i64 ((x / 64 : Nat) : Int)) W := by
  have e : (x : Int).tdiv 64 = ((x / 64 : Nat) : Int) := by
    rw [Int.tdiv_eq_ediv_of_nonneg (by omega)]
    omega
  simp [go_sem, e]
  rw [IntKind.wrap_i64]
  omega
theorem bin_rem64 {t : TypeId} (x : Nat) (hx : x < 9223372036854775808) : (binOp .rem t (.int .i64 (x : Int)) (.int .i64 64)).run P W = .ok (.int .i64 ((x % 64 : Nat) : Int)) W := by
  have e : (x : Int).tmod 64 = ((x % 64 : Nat) : Int) := by
    rw [Int.tmod_eq_emod_of_nonneg (by omega)]
    omega
  simp [go_sem, e]
theorem bin_shl64 {t : TypeId} (j : Nat) (hj : j < 64) : (binOp .shl t (.int .u64 1) (.int .i64 (j : Int))).run P W = .ok (.int .u64 ((2 ^ j : Nat) : Int)) W := by
  have h1 : min ((j : Int).toNat) 64 = j := by omega
  have h2 : (2 : Nat) ^ j < 2 ^ 64 := Nat.pow_lt_pow_right (by decide) hj
  have h3 : IntKind.u64.wrap (1 * 2 ^ j) = ((2 ^ j : Nat) : Int) := by
    have h4 : (1 * 2 ^ j : Int) = ((2 ^ j : Nat) : Int) := by simp
    rw [h4, IntKind.wrap_u64]
    obtain ⟨z, hz⟩ : ∃ z : Nat, z = 2 ^ j := ⟨_, rfl⟩
    rw [← hz] at h2 ⊢
    omega
  show (Op.shift .shl .u64 1 .i64 (j : Int)).run P W = _
  unfold Op.shift
  rw [if_neg (by omega)]
  simp only [show IntKind.u64.bits = 64 from rfl, h1, h3]
  rfl
theorem bin_shr64 {t : TypeId} (x j : Nat) (hj : j < 64) : (binOp .shr t (.int .u64 (x : Int)) (.int .i64 (j : Int))).run P W = .ok (.int .u64 ((x >>> j : Nat) : Int)) W := by
  have h1 : min ((j : Int).toNat) 64 = j := by omega
  have h3 : Int.fdiv (x : Int) (2 ^ j) = ((x >>> j : Nat) : Int) := by
    rw [Nat.shiftRight_eq_div_pow, Int.fdiv_eq_ediv_of_nonneg _ (by exact Int.pow_nonneg (by decide))]
    simp
  show (Op.shift .shr .u64 (x : Int) .i64 (j : Int)).run P W = _
  unfold Op.shift
  rw [if_neg (by omega)]
  simp only [show IntKind.u64.bits = 64 from rfl, h1, h3]
  rfl
theorem bin_or64 {t : TypeId} (a b : Nat) (ha : a < 18446744073709551616) (hb : b < 18446744073709551616) : (binOp .or t (.int .u64 (a : Int)) (.int .u64 (b : Int))).run P W = .ok (.int .u64 ((a ||| b : Nat) : Int)) W := by
  have e := u64_or_nat a b ha hb
  simp [go_sem, e]
theorem bin_and64 {t : TypeId} (a b : Nat) (ha : a < 18446744073709551616) (hb : b < 18446744073709551616) : (binOp .and t (.int .u64 (a : Int)) (.int .u64 (b : Int))).run P W = .ok (.int .u64 ((a &&& b : Nat) : Int)) W := by
  have e := u64_and_nat a b ha hb
  simp [go_sem, e]
theorem bin_add64 {t : TypeId} (a b : Nat) (h : a + b < 9223372036854775808) : (binOp .add t (.int .i64 (a : Int)) (.int .i64 (b : Int))).run P W = .ok (.int .i64 ((a + b : Nat) : Int)) W := by
  have e : IntKind.i64.wrap ((a : Int) + (b : Int)) = ((a + b : Nat) : Int) := by rw [IntKind.wrap_i64]; omega
  simp [go_sem, e]
theorem bin_eqI {t : TypeId} {k : IntKind} (a b : Int) : (binOp .eql t (.int k a) (.int k b)).run P W = .ok (.bool (a == b)) W := by
  simp [go_sem]
theorem bit_eq (x j : Nat) : (((x >>> j &&& 1 : Nat) : Int) == 1) = x.testBit j := by
  rw [Nat.testBit, Nat.and_comm]
  have : 1 &&& x >>> j = 0 ∨ 1 &&& x >>> j = 1 := by rw [Nat.and_comm, Nat.and_one_is_mod]; omega
  rcases this with h | h <;> rw [h] <;> rfl
theorem run_mk15 {o : Oper} {ρ : Operand → Value} {t : TypeId} {x y : Operand} {a b v : Value} {W W' : World} (ho : o.op = .makeSlice t x y) (hx : ρ x = a) (hy : ρ y = b) (h : (Instr.makeSlice t a b).run P W = .ok v W') : (execOp ρ o).run P W = .ok (.value v) W' := by
  simp [execOp, ho, hx, hy, h, Result.andThen]
theorem grownV_trans {a b c : World} {r : Option Nat} (h : a.grownBy b r) (k : b.grownBy c r) : a.grownBy c r :=
  ⟨k.os.trans h.os, k.tape.trans h.tape, k.output.trans h.output, Nat.le_trans h.size k.size, fun i hi hr => (k.block i (Nat.lt_of_lt_of_le hi h.size) hr).trans (h.block i hi hr)⟩
theorem grownV_set {a w : World} {r : Option Nat} (h : a.grownBy w r) (p : Addr) (v : Value) (hp : some p.block = r ∨ a.heap.size ≤ p.block) : a.grownBy (w.setCell p v) r :=
  ⟨h.os, h.tape, h.output, by simpa using h.size, fun i hi hr => by
    rw [heap_setCell_other w p i v (by rintro rfl; rcases hp with hp | hp <;> first | exact hr hp | omega)]
    exact h.block i hi hr⟩
theorem grownV_drew {a w : World} {r : Option Nat} (h : a.grownBy w r) : a.grownBy w.drew r := ⟨h.os, h.tape, h.output, h.size, h.block⟩
end
end Go.Proofs.YtglplhkbnkbjbaaDoor

namespace Go.Proofs.YtglplhkbnkbjbaaDoor
open Go Go.RowKit
/-- A reader's type, and where its bytes may lie. A number alone: anywhere. -/
structure RT where
  ty : TypeId
  ok : Nat → Prop
instance (n : Nat) : OfNat RT n := ⟨⟨n, fun _ => True⟩⟩
/-- Block g, of type T, is a reader that holds s. -/
def Rd (T : RT) (w : World) (g : Nat) (s : St) : Prop :=
  ∃ a c, w.heap[g]? = some (.cells #[.slice a s.1.length c, .bool s.2] T.ty (0, 0)) ∧ Txt w a s.1 ∧ s.1.length ≤ c ∧ c ≤ maxLen ∧ ∀ b o, a = some ⟨b, o, none⟩ → b ≠ g ∧ T.ok b
theorem Rd.lt {T : RT} {w : World} {g : Nat} {s : St} (h : Rd T w g s) : g < w.heap.size := by
  obtain ⟨a, c, hg, _⟩ := h
  exact (Array.getElem?_eq_some_iff.1 hg).1
/-- A reader is kept where its block and the others are. -/
theorem Rd.below {T : RT} {w w' : World} {g : Nat} {s : St} (h : Rd T w g s) (hb : Below w.heap.size w w') : Rd T w' g s := by
  have hlt := h.lt
  obtain ⟨a, c, hg, ht, hc, hm, hne⟩ := h
  exact ⟨a, c, (hb.block g hlt).trans hg, ht.below hb, hc, hm, hne⟩
theorem Txt.grown {w w' : World} {a : Option Addr} {l : List UInt8} {g : Nat} (h : Txt w a l) (hg : w.grownBy w' (some g)) (hne : ∀ b o, a = some ⟨b, o, none⟩ → b ≠ g) : Txt w' a l := fun hl => by
  obtain ⟨b, o, rfl, hlt, hc⟩ := h hl
  exact ⟨b, o, rfl, Nat.lt_of_lt_of_le hlt hg.size, fun i hi => (World.cell?_of_block (w := w) (a := ⟨b, o + i, none⟩) (hg.block b hlt (fun e => hne b o rfl (by injection e)))).trans (hc i hi)⟩
/-- Another reader is kept. -/
theorem Rd.other {T T' : RT} {w w' : World} {g h : Nat} {s s' : St} (hh : Rd T w h s) (hg : Rd T' w g s') (hne : h ≠ g) (hgr : w.grownBy w' (some g)) : Rd T w' h s := by
  have hlt := hh.lt
  obtain ⟨a, c, hb, ht, hlc, hcm, hn⟩ := hh
  obtain ⟨a', c', hb', _⟩ := hg
  refine ⟨a, c, (hgr.block h hlt (fun e => hne (by injection e))).trans hb, fun hl => ?_, hlc, hcm, hn⟩
  obtain ⟨b, o, rfl, hbl, hc⟩ := ht hl
  have hbg : b ≠ g := by
    rintro rfl
    have h0 := hc 0 (by have := List.length_pos_iff.2 hl; omega)
    rw [cell_of_row w b _ _ T'.ty (0, 0) hb'] at h0
    match o + 0, h0 with
    | 0, h0 => simp at h0
    | 1, h0 => simp at h0
    | n + 2, h0 => simp at h0
  exact ⟨b, o, rfl, Nat.lt_of_lt_of_le hbl hgr.size, fun i hi => (World.cell?_of_block (w := w) (a := ⟨b, o + i, none⟩) (hgr.block b hbl (fun e => hbg (by injection e)))).trans (hc i hi)⟩
theorem Rd.drew {T : RT} {w : World} {g : Nat} {s : St} (h : Rd T w g s) : Rd T w.drew g s := h
theorem Rd.drewN {T : RT} {w : World} {g : Nat} {s : St} (h : Rd T w g s) (n : Nat) : Rd T (w.drewN n) g s := h
end Go.Proofs.YtglplhkbnkbjbaaDoor

namespace Go.Proofs.YtglplhkbnkbjbaaDoor
open Go Go.RowKit
/-- Block g holds the bytes L. -/
def Blk (w : World) (g : Nat) (L : List UInt8) : Prop := w.heap[g]? = some (.cells (Lib.byteCells L).toArray 5 (0, 0))
theorem Blk.lt {w : World} {g : Nat} {L : List UInt8} (h : Blk w g L) : g < w.heap.size := (Array.getElem?_eq_some_iff.1 h).1
theorem Blk.put {w : World} {g : Nat} {L : List UInt8} (h : Blk w g L) (M : List UInt8) : Blk (w.setRow g (Lib.byteCells M).toArray) g M := setRow_heap w g _ _ _ _ h
theorem Blk.cell {w : World} {g : Nat} {L : List UInt8} (h : Blk w g L) (i : Nat) (hi : i < L.length) : w.cell? ⟨g, i, none⟩ = some (.int .u8 (L[i].toNat : Int)) := by
  have h' : w.heap[g]? = some (.cells (Lib.byteCells L).toArray 5 (0, 0)) := h
  simp [World.cell?, h', Lib.byteCells, hi]
theorem Blk.frozen {w : World} {g : Nat} {L : List UInt8} (h : Blk w g L) (i : Nat) : w.frozen? ⟨g, i, none⟩ = false := by
  have h' : w.heap[g]? = some (.cells (Lib.byteCells L).toArray 5 (0, 0)) := h
  simp [World.frozen?, h']
theorem Blk.set {w : World} {g : Nat} {L : List UInt8} (h : Blk w g L) (i : Nat) (x : UInt8) : w.setCell ⟨g, i, none⟩ (.int .u8 (x.toNat : Int)) = w.setRow g (Lib.byteCells (L.set i x)).toArray := by
  rw [setCell_eq_setRow w g i _ _ _ _ h]
  congr 1
  simp [Lib.byteCells, List.map_set]
end Go.Proofs.YtglplhkbnkbjbaaDoor

namespace Go.Proofs.YtglplhkbnkbjbaaDoor
open Go Go.RowKit
/-- The instructions' names, and how many operands. -/
def names14 : List (List UInt8) := [[99, 111, 110, 115, 116], [109, 111, 118, 101], [108, 111, 97, 100], [107, 101, 101, 112], [105, 110], [111, 117, 116], [110, 111, 116], [110, 101, 103], [97, 100, 100], [115, 117, 98], [109, 117, 108], [100, 105, 118], [109, 111, 100], [101, 113], [108, 116], [108, 101], [97, 110, 100], [111, 114], [120, 111, 114], [117, 110, 108, 101, 115, 115], [106, 117, 109, 112]]
def nameO (op : Int) : List UInt8 := if op < 0 then [] else names14.getD op.toNat []
theorem nameO_in {op : Int} (h0 : 0 ≤ op) (h1 : op < 21) : nameO op ≠ [] := by
  obtain ⟨k, rfl⟩ : ∃ k : Nat, op = (k : Int) := ⟨op.toNat, by omega⟩
  have hk : k < 21 := by omega
  unfold nameO
  rw [if_neg (by omega), Int.toNat_natCast]
  have : ∀ k : Nat, k < 21 → names14.getD k [] ≠ [] := by decide
  exact this k hk
theorem nameO_out {op : Int} (h : op < 0 ∨ 21 ≤ op) : nameO op = [] := by
  unfold nameO
  by_cases h0 : op < 0
  · rw [if_pos h0]
  · rw [if_neg h0]
    have h2 : names14.length = 21 := by decide
    rw [List.getD_eq_getElem?_getD, List.getElem?_eq_none (by omega)]; rfl
def strs14 : Array Value := #[.string ⟨#[99, 111, 110, 115, 116]⟩, .string ⟨#[109, 111, 118, 101]⟩, .string ⟨#[108, 111, 97, 100]⟩, .string ⟨#[107, 101, 101, 112]⟩, .string ⟨#[105, 110]⟩, .string ⟨#[111, 117, 116]⟩, .string ⟨#[110, 111, 116]⟩, .string ⟨#[110, 101, 103]⟩, .string ⟨#[97, 100, 100]⟩, .string ⟨#[115, 117, 98]⟩, .string ⟨#[109, 117, 108]⟩, .string ⟨#[100, 105, 118]⟩, .string ⟨#[109, 111, 100]⟩, .string ⟨#[101, 113]⟩, .string ⟨#[108, 116]⟩, .string ⟨#[108, 101]⟩, .string ⟨#[97, 110, 100]⟩, .string ⟨#[111, 114]⟩, .string ⟨#[120, 111, 114]⟩, .string ⟨#[117, 110, 108, 101, 115, 115]⟩, .string ⟨#[106, 117, 109, 112]⟩]
def cnts14 : Array Value := #[.int .i64 2, .int .i64 2, .int .i64 2, .int .i64 2, .int .i64 2, .int .i64 2, .int .i64 2, .int .i64 2, .int .i64 3, .int .i64 3, .int .i64 3, .int .i64 3, .int .i64 3, .int .i64 3, .int .i64 3, .int .i64 3, .int .i64 3, .int .i64 3, .int .i64 3, .int .i64 2, .int .i64 1]
theorem strs14_at (k : Nat) (h : k < 21) : strs14[k]? = some (.string ⟨(nameO (k : Int)).toArray⟩) := by
  have e : ∀ k : Nat, k < 21 → nameO (k : Int) = names14.getD k [] := fun k _ => by unfold nameO; rw [if_neg (by omega), Int.toNat_natCast]
  rw [e k h]
  have hs : strs14 = (names14.map fun l => Value.string ⟨l.toArray⟩).toArray := rfl
  rw [hs, List.getElem?_toArray, List.getElem?_map, List.getD_eq_getElem?_getD, List.getElem?_eq_getElem (show k < names14.length from h)]
  rfl
/-- Two rows of the call's own: the names, the counts. -/
def GivesRows (w : World) (e : Ending) (w' : World) : Prop := ∃ g1 g2, e = .returned (.tuple #[.slice (some ⟨g1, 0, none⟩) 21 21, .slice (some ⟨g2, 0, none⟩) 21 21]) ∧ w'.heap[g1]? = some (.cells strs14 9 (0, 0)) ∧ w'.heap[g2]? = some (.cells cnts14 3 (0, 0)) ∧ Below w.heap.size w w'
set_option maxHeartbeats 4000000 in
set_option maxRecDepth 100000 in
theorem rrows_any (w : World) : Calls Tryd.prog 37 #[] w (GivesRows w) := by
  have b1 : ∀ W : World, (Instr.buildSlice 76 21 #[(0, .string ⟨#[99, 111, 110, 115, 116]⟩), (1, .string ⟨#[109, 111, 118, 101]⟩), (2, .string ⟨#[108, 111, 97, 100]⟩), (3, .string ⟨#[107, 101, 101, 112]⟩), (4, .string ⟨#[105, 110]⟩), (5, .string ⟨#[111, 117, 116]⟩), (6, .string ⟨#[110, 111, 116]⟩), (7, .string ⟨#[110, 101, 103]⟩), (8, .string ⟨#[97, 100, 100]⟩), (9, .string ⟨#[115, 117, 98]⟩), (10, .string ⟨#[109, 117, 108]⟩), (11, .string ⟨#[100, 105, 118]⟩), (12, .string ⟨#[109, 111, 100]⟩), (13, .string ⟨#[101, 113]⟩), (14, .string ⟨#[108, 116]⟩), (15, .string ⟨#[108, 101]⟩), (16, .string ⟨#[97, 110, 100]⟩), (17, .string ⟨#[111, 114]⟩), (18, .string ⟨#[120, 111, 114]⟩), (19, .string ⟨#[117, 110, 108, 101, 115, 115]⟩), (20, .string ⟨#[106, 117, 109, 112]⟩)]).run Tryd.prog W = .ok (.slice (some ⟨W.heap.size, 0, none⟩) 21 21) (W.alloc (.cells strs14 9)) := fun W => by kernel_rfl
  have b2 : ∀ W : World, (Instr.buildSlice 48 21 #[(0, .int .i64 2), (1, .int .i64 2), (2, .int .i64 2), (3, .int .i64 2), (4, .int .i64 2), (5, .int .i64 2), (6, .int .i64 2), (7, .int .i64 2), (8, .int .i64 3), (9, .int .i64 3), (10, .int .i64 3), (11, .int .i64 3), (12, .int .i64 3), (13, .int .i64 3), (14, .int .i64 3), (15, .int .i64 3), (16, .int .i64 3), (17, .int .i64 3), (18, .int .i64 3), (19, .int .i64 2), (20, .int .i64 1)]).run Tryd.prog W = .ok (.slice (some ⟨W.heap.size, 0, none⟩) 21 21) (W.alloc (.cells cnts14 3)) := fun W => by kernel_rfl
  go_enter Tryd.func37, Tryd.ntmps37
  go_wp2_with fail
  go_ret2
  have hb1 : Below w.heap.size w (w.alloc (.cells strs14 9)) := (Below.refl _ _).alloc (Nat.le_refl _) _
  have h1 := heap_alloc_new w (.cells strs14 9)
  have hs1 : (w.alloc (.cells strs14 9)).heap.size = w.heap.size + 1 := by simp
  have h2 := heap_alloc_new (w.alloc (.cells strs14 9)) (.cells cnts14 3)
  have hb2 : Below (w.alloc (.cells strs14 9)).heap.size (w.alloc (.cells strs14 9)) ((w.alloc (.cells strs14 9)).alloc (.cells cnts14 3)) := (Below.refl _ _).alloc (Nat.le_refl _) _
  rw [hs1] at h2
  exact ⟨w.heap.size, w.heap.size + 1, rfl, (hb2.block _ (by omega)).trans h1, h2, hb1.trans (hb2.mono hb1.size)⟩
theorem rName_any (op : Int) (h : i64' op) (w : World) : Calls Tryd.prog 31 #[.int .i64 op] w fun e w' => e = .returned (.string ⟨(nameO op).toArray⟩) ∧ Below w.heap.size w w' := by
  have kr := rrows_any w
  by_cases h0 : op < 0
  · have d0 : decide (op < 0) = true := by simpa using h0
    rw [nameO_out (.inl h0)]
    go_enter Tryd.func31, Tryd.ntmps31
    go_wp2_with fail
    (with_reducible refine kr.mono ?_)
    rintro e w1 ⟨g1, g2, rfl, hg1, hg2, hb⟩
    clear kr
    go_wp2_with fail
    go_ret
    exact ⟨rfl, hb⟩
  · have d0 : decide (op < 0) = false := by simpa using h0
    obtain ⟨k, rfl⟩ : ∃ k : Nat, op = (k : Int) := ⟨op.toNat, by omega⟩
    by_cases hk : k < 21
    · have hn := strs14_at k hk
      obtain ⟨S, hS⟩ : ∃ S, S = (⟨(nameO (k : Int)).toArray⟩ : ByteArray) := ⟨_, rfl⟩
      rw [← hS] at hn ⊢
      have HN := Lib.hid hn
      clear hS hn h0
      go_enter Tryd.func31, Tryd.ntmps31
      go_wp2_with fail
      (with_reducible refine kr.mono ?_)
      rintro e w1 ⟨g1, g2, rfl, hg1, hg2, hb⟩
      have q0 := (cell_of_row w1 g1 k _ _ _ hg1).trans HN.out
      clear kr hg1 hg2
      go_wp2_with fail
      go_ret
      exact ⟨rfl, hb⟩
    · rw [nameO_out (.inr (by omega))]
      go_enter Tryd.func31, Tryd.ntmps31
      go_wp2_with fail
      (with_reducible refine kr.mono ?_)
      rintro e w1 ⟨g1, g2, rfl, hg1, hg2, hb⟩
      clear kr hg1 hg2
      go_wp2_with fail
      go_ret
      exact ⟨rfl, hb⟩
end Go.Proofs.YtglplhkbnkbjbaaDoor

namespace Go.Proofs.YtglplhkbnkbjbaaDoor
open Go Go.RowKit
theorem rdsI_len (x : In4) : (rdsI x).length ≤ 2 := by
  unfold rdsI
  split
  · simp
  · split <;> simp
theorem in4_one (a b c d : Int) : (#[.int .i64 a, .int .i64 b, .int .i64 c, .int .i64 d] : Array Value).all (·.oneCell') = true := by simp [Value.oneCell']
theorem size_in4v : (Tryd.prog.info? 34).map (·.size) = some 4 := by kernel_rfl
theorem size_progv : (Tryd.prog.info? 32).map (·.size) = some 6 := by kernel_rfl
set_option maxHeartbeats 8000000 in
set_option maxRecDepth 100000 in
theorem vNamed_any (p : Pg) (x0 x1 x2 x3 x4 x5 : Option Addr) (c0 c1 c2 c3 c4 c5 : Nat) (pc : Nat) (hpc : pc < p.code.length) (w : World) (ok_p : p.ok) (in_p : PgIn w p x0 x1 x2 x3 x4 x5) :
    Calls Tryd.prog 18 #[pgV p x0 x1 x2 x3 x4 x5 c0 c1 c2 c3 c4 c5, .int .i64 (pc : Int)] w fun e w' => e = .returned (.bool (namedP p pc (p.code[pc]'hpc))) ∧ Below w.heap.size w w' := by
  obtain ⟨x, hx⟩ : ∃ x, x = p.code[pc]'hpc := ⟨_, rfl⟩
  have okx : x.ok := by rw [hx]; exact ok_p.code _ (List.getElem_mem _)
  rw [← hx]
  obtain ⟨W0, hW0⟩ : ∃ W0, W0 = w.alloc (.cells #[.slice x0 p.ins.length c0, .slice x1 p.outs.length c1, .slice x2 p.slots.length c2, .slice x3 p.mems.length c3, .slice x4 p.consts.length c4, .slice x5 p.code.length c5] 32) := ⟨_, rfl⟩
  have hb0 : Below w.heap.size w W0 := by rw [hW0]; exact (Below.refl _ _).alloc (Nat.le_refl _) _
  obtain ⟨B1, hB1⟩ : ∃ B, B = w.heap.size := ⟨_, rfl⟩
  have k1 := heap_alloc_new w (.cells #[.slice x0 p.ins.length c0, .slice x1 p.outs.length c1, .slice x2 p.slots.length c2, .slice x3 p.mems.length c3, .slice x4 p.consts.length c4, .slice x5 p.code.length c5] 32)
  rw [← hB1, ← hW0] at k1
  obtain ⟨gc, oc, hxc, hgc, hrc⟩ := (in_p.below hb0).code (by intro h; rw [h] at hpc; simp at hpc)
  have hr := hrc pc hpc
  rw [← hx] at hr
  obtain ⟨op, a, b, c⟩ := x
  subst hxc
  obtain ⟨B5, hB5⟩ : ∃ B, B = W0.heap.size := ⟨_, rfl⟩
  have n14 := newrow14 W0 34 #[.int .i64 0, .int .i64 0, .int .i64 0, .int .i64 0] #[.int .i64 op, .int .i64 a, .int .i64 b, .int .i64 c]
  have kz := heap_alloc_new W0 (.cells #[.int .i64 0, .int .i64 0, .int .i64 0, .int .i64 0] 34)
  rw [← hB5] at n14 kz
  obtain ⟨W1, hW1⟩ : ∃ W1, W1 = (W0.alloc (.cells #[.int .i64 0, .int .i64 0, .int .i64 0, .int .i64 0] 34)).setRow B5 #[.int .i64 op, .int .i64 a, .int .i64 b, .int .i64 c] := ⟨_, rfl⟩
  rw [← hW1] at n14
  have k5 := n14.2
  have k1' := (n14.1.block B1 (by rw [hB5]; exact (Array.getElem?_eq_some_iff.1 k1).1)).trans k1
  have hb1 : Below W0.heap.size W0 W1 := by rw [← hB5]; exact n14.1
  have kn := rName_any op okx.1 W1
  have HW0 := Lib.hid hW0
  have HBB1 := Lib.hid hB1
  have HBB5 := Lib.hid hB5
  have HW1 := Lib.hid hW1
  have HB1 := Lib.hid (hb0.trans (hb1.mono hb0.size))
  have HR := Lib.hid hr
  have HKZ := Lib.hid kz
  have HK1 := Lib.hid k1'
  have HK5 := Lib.hid k5
  have HSI := Lib.hid size_in4v
  have HSP := Lib.hid size_progv
  have HPC := Lib.hid hpc
  have p5 := cell_of_row W0 B1 5 _ _ _ k1
  have q0 := cell_of_row W1 B5 0 _ _ _ k5
  have m1 : (0 : Int) ≤ (pc : Int) := by omega
  have m2 : (pc : Int) < (p.code.length : Int) := by omega
  clear hx okx ok_p in_p hb0 hb1 hW0 hB1 hB5 hW1 k1 k1' k5 kz n14 hr hrc hgc hpc
  unfold pgV
  by_cases hop : 0 ≤ op ∧ op ≤ 20
  · have hne : nameO op ≠ [] := nameO_in hop.1 (by omega)
    have hne2 : ((⟨(nameO op).toArray⟩ : ByteArray).toList == (⟨#[]⟩ : ByteArray).toList) = false := by rw [Lib.toList_data, Lib.toList_data]; simpa using hne
    have hne3 : (nameO op).isEmpty = false := by simpa using hne
    obtain ⟨S, hS⟩ : ∃ S, S = (⟨(nameO op).toArray⟩ : ByteArray) := ⟨_, rfl⟩
    have hne4 : S.toList.isEmpty = false := by rw [hS, Lib.toList_data]; exact hne3
    rw [← hS] at kn hne2
    have HOP := Lib.hid hop
    clear hS hne hne3 hop
    go_enter Tryd.func18, Tryd.ntmps18
    go_upto_region 1 with fail
    rw [← HW0.out, ← HBB1.out]
    go_upto_region 2 with (first | (refine wpList_load_mid rfl 34 (.tmp 11) rfl gc (oc + pc * 4) rfl (in4C ⟨op, a, b, c⟩) _ ?_ Tryd.underlying34 rfl HSI.out ?_; (exact HR.out)) | (rw [← HBB5.out]; refine wpList_store_row rfl 34 (.tmp 5) (.tmp 12) rfl B5 #[.int .i64 op, .int .i64 a, .int .i64 b, .int .i64 c] rfl rfl 34 _ HKZ.out HSI.out rfl (in4_one _ _ _ _) ?_))
    rw [← HW1.out]
    go_wp2_with fail
    (with_reducible refine kn.mono ?_)
    rintro e w1 ⟨rfl, hb⟩
    clear kn
    have HBw1 := Lib.hid hb
    have k51 := (hb.block B5 (Array.getElem?_eq_some_iff.1 HK5.out).1).trans HK5.out
    have HK51 := Lib.hid k51
    have kr := vReads_any ⟨op, a, b, c⟩ HOP.out.1 HOP.out.2 w1
    dsimp only at kr
    obtain ⟨R, hR⟩ : ∃ R, R = rdsI ⟨op, a, b, c⟩ := ⟨_, rfl⟩
    rw [← hR] at kr
    have HRD := Lib.hid hR
    clear hb k51 hR
    go_wp2_with (refine wpList_load_row rfl 34 (.tmp 5) rfl B5 rfl 34 #[.int .i64 op, .int .i64 a, .int .i64 b, .int .i64 c] (0, 0) _ HK51.out Tryd.underlying34 rfl HSI.out ?_)
    (with_reducible refine kr.mono ?_)
    rintro e w2 ⟨ar, cr, rfl, hrow, hb⟩
    clear kr
    have HBw2 := Lib.hid (HBw1.out.trans (hb.mono HBw1.out.size))
    have HROW := Lib.hid hrow
    clear hb hrow
    go_wp2_with fail
    go_loopw [7] (fun v wx => ∃ k : Nat, v = .int .i64 (k : Int) ∧ k ≤ R.length ∧ Below W1.heap.size W1 wx ∧ Row (Value.int .i64) wx ar R ∧ (R.take k).all (fun r => inB r p.slots.length) = true)
      (fun v _ => R.length - (intOf v).toNat)
    case atStart => exact ⟨0, rfl, Nat.zero_le _, HBw2.out, HROW.out, rfl⟩
    case round =>
      obtain ⟨k, rfl, hk, hbw, hrow, hall⟩ := hrel
      have HK := Lib.hid hk
      have HBW := Lib.hid hbw
      have HBR := Lib.hid (HB1.out.trans (hbw.mono HB1.out.size))
      have HRW := Lib.hid hrow
      have HALL := Lib.hid hall
      have k1r := (hbw.block B1 (Array.getElem?_eq_some_iff.1 HK1.out).1).trans HK1.out
      have k5r := (hbw.block B5 (Array.getElem?_eq_some_iff.1 HK5.out).1).trans HK5.out
      have r0 := cell_of_row wr B1 0 _ _ _ k1r
      have r1 := cell_of_row wr B1 1 _ _ _ k1r
      have r2 := cell_of_row wr B1 2 _ _ _ k1r
      have r3 := cell_of_row wr B1 3 _ _ _ k1r
      have r4 := cell_of_row wr B1 4 _ _ _ k1r
      have r5 := cell_of_row wr B1 5 _ _ _ k1r
      have s0 := cell_of_row wr B5 0 _ _ _ k5r
      have s1 := cell_of_row wr B5 1 _ _ _ k5r
      have s2 := cell_of_row wr B5 2 _ _ _ k5r
      clear hk hbw hrow hall k1r k5r
      by_cases hka : k < R.length
      · have d1 : decide ((k : Int) < (R.length : Int)) = true := by simp; omega
        obtain ⟨br, or_, har, hlr, hcr⟩ := HRW.out (by intro h; rw [h] at hka; simp at hka)
        have zr := hcr k hka
        obtain ⟨v, hv⟩ : ∃ v, v = R[k]'hka := ⟨_, rfl⟩
        rw [← hv] at zr
        have HV : Hid (R[k]? = some v) := Lib.hid (by rw [hv]; exact List.getElem?_eq_getElem hka)
        have HVM : Hid (v ∈ R) := Lib.hid (by rw [hv]; exact List.getElem_mem _)
        subst har
        have m3 : (0 : Int) ≤ (k : Int) := by omega
        have m4 : (k : Int) < (R.length : Int) := by omega
        have ki := vIn_any v p.slots.length
        have HKA := Lib.hid hka
        clear hcr hlr hv
        obtain ⟨tb, htb⟩ : ∃ t, t = inB v p.slots.length := ⟨_, rfl⟩
        rw [← htb] at ki
        have HTB := Lib.hid htb
        clear htb
        cases tb with
        | true =>
          go_upto_region 8 with fail
          go_quiet ((go_at_call 32; exact Calls.quiet_of_same (ki _)))
          go_wp2_with fail
          have h2 : R.length ≤ 2 := by rw [HRD.out]; exact rdsI_len _
          rw [wrap_in14 _ (by have := HKA.out; omega)]
          refine ⟨⟨k + 1, by go_num, HKA.out, below_drewN HBW.out _, HRW.out.below (below_drewN (Below.refl _ _) _), ?_⟩, ?_⟩
          · rw [List.take_add_one, List.all_append, HALL.out, HV.out]
            simp [HTB.out.symm]
          · have := HKA.out
            simp [intOf]; omega
        | false =>
          go_upto_region 8 with fail
          go_quiet ((go_at_call 32; exact Calls.quiet_of_same (ki _)))
          go_wp2_with fail
          have hN : namedP p pc ⟨op, a, b, c⟩ = false := by
            have hf : (rdsI ⟨op, a, b, c⟩).all (fun r => inB r p.slots.length) = false := by
              rw [List.all_eq_false]
              exact ⟨v, by rw [← HRD.out]; exact HVM.out, by rw [← HTB.out]; simp⟩
            unfold namedP
            rw [hf, Bool.false_and, Bool.and_false]
          rw [hN]
          go_ret
          exact ⟨rfl, below_drewN HBR.out _⟩
      · obtain rfl : k = R.length := by have := HK.out; omega
        have d1 : decide ((R.length : Int) < (R.length : Int)) = false := by simp
        have hall := HALL.out
        rw [List.take_length, HRD.out] at hall
        have hN : namedP p pc ⟨op, a, b, c⟩ = ((!writesB ⟨op, a, b, c⟩ || inB a p.slots.length) && nameB p pc ⟨op, a, b, c⟩) := by
          unfold namedP
          rw [hall]
          have h := HOP.out
          simp [h.1, h.2]
        obtain ⟨h0, h1⟩ := HOP.out
        clear hall hka HOP HRD
        rcases op_cases h0 h1 with h | h | h | h | h | h | h | h | h | h | h | h | h | h | h | h | h | h | h | h | h <;> subst h <;> clear h0 h1
        · as_aux_lemma =>
            have hN2 : namedP p pc ⟨0, a, b, c⟩ = (inB a p.slots.length && inB b p.consts.length) := by rw [hN]; simp [writesB, nameB]
            clear hN
            have ki := vIn_any a p.slots.length wr
            have ki2 := vIn_any b p.consts.length wr
            obtain ⟨ta, hta⟩ : ∃ t, t = inB a p.slots.length := ⟨_, rfl⟩
            rw [← hta] at ki hN2
            clear hta
            have HN2 := Lib.hid hN2
            clear hN2
            go_wp2_with fail
            (with_reducible refine ki.mono ?_)
            rintro e wz ⟨rfl, rfl⟩
            clear ki
            cases ta with
            | false =>
              go_wp2_with fail
              go_ret
              exact ⟨by rw [HN2.out]; first | rfl | (simp only [Bool.true_and, Bool.false_and, Bool.and_true]; rfl) | (simp; done), HBR.out⟩
            | true =>
              go_wp2_with fail
              (with_reducible refine ki2.mono ?_)
              rintro e wz ⟨rfl, rfl⟩
              clear ki2
              go_wp2_with fail
              go_ret
              exact ⟨by rw [HN2.out]; first | rfl | (simp only [Bool.true_and, Bool.false_and, Bool.and_true]; rfl) | (simp; done), HBR.out⟩
        · as_aux_lemma =>
            have hN2 : namedP p pc ⟨1, a, b, c⟩ = (inB a p.slots.length && true) := by rw [hN]; simp [writesB, nameB]
            clear hN
            have ki := vIn_any a p.slots.length wr
            obtain ⟨ta, hta⟩ : ∃ t, t = inB a p.slots.length := ⟨_, rfl⟩
            rw [← hta] at ki hN2
            clear hta
            have HN2 := Lib.hid hN2
            clear hN2
            go_wp2_with fail
            (with_reducible refine ki.mono ?_)
            rintro e wz ⟨rfl, rfl⟩
            clear ki
            cases ta with
            | false =>
              go_wp2_with fail
              go_ret
              exact ⟨by rw [HN2.out]; first | rfl | (simp only [Bool.true_and, Bool.false_and, Bool.and_true]; rfl) | (simp; done), HBR.out⟩
            | true =>
              go_wp2_with fail
              go_ret
              exact ⟨by rw [HN2.out]; first | rfl | (simp only [Bool.true_and, Bool.false_and, Bool.and_true]; rfl) | (simp; done), HBR.out⟩
        · as_aux_lemma =>
            have hN2 : namedP p pc ⟨2, a, b, c⟩ = (inB a p.slots.length && inB b p.mems.length) := by rw [hN]; simp [writesB, nameB]
            clear hN
            have ki := vIn_any a p.slots.length wr
            have ki2 := vIn_any b p.mems.length wr
            obtain ⟨ta, hta⟩ : ∃ t, t = inB a p.slots.length := ⟨_, rfl⟩
            rw [← hta] at ki hN2
            clear hta
            have HN2 := Lib.hid hN2
            clear hN2
            go_wp2_with fail
            (with_reducible refine ki.mono ?_)
            rintro e wz ⟨rfl, rfl⟩
            clear ki
            cases ta with
            | false =>
              go_wp2_with fail
              go_ret
              exact ⟨by rw [HN2.out]; first | rfl | (simp only [Bool.true_and, Bool.false_and, Bool.and_true]; rfl) | (simp; done), HBR.out⟩
            | true =>
              go_wp2_with fail
              (with_reducible refine ki2.mono ?_)
              rintro e wz ⟨rfl, rfl⟩
              clear ki2
              go_wp2_with fail
              go_ret
              exact ⟨by rw [HN2.out]; first | rfl | (simp only [Bool.true_and, Bool.false_and, Bool.and_true]; rfl) | (simp; done), HBR.out⟩
        · as_aux_lemma =>
            have hN2 : namedP p pc ⟨3, a, b, c⟩ = inB a p.mems.length := by rw [hN]; simp [writesB, nameB]
            clear hN
            have HN2 := Lib.hid hN2
            clear hN2
            have ki2 := vIn_any a p.mems.length wr
            go_wp2_with fail
            (with_reducible refine ki2.mono ?_)
            rintro e wz ⟨rfl, rfl⟩
            clear ki2
            go_wp2_with fail
            go_ret
            exact ⟨by rw [HN2.out]; first | rfl | (simp only [Bool.true_and, Bool.false_and, Bool.and_true]; rfl) | (simp; done), HBR.out⟩
        · as_aux_lemma =>
            have hN2 : namedP p pc ⟨4, a, b, c⟩ = (inB a p.slots.length && inB b p.ins.length) := by rw [hN]; simp [writesB, nameB]
            clear hN
            have ki := vIn_any a p.slots.length wr
            have ki2 := vIn_any b p.ins.length wr
            obtain ⟨ta, hta⟩ : ∃ t, t = inB a p.slots.length := ⟨_, rfl⟩
            rw [← hta] at ki hN2
            clear hta
            have HN2 := Lib.hid hN2
            clear hN2
            go_wp2_with fail
            (with_reducible refine ki.mono ?_)
            rintro e wz ⟨rfl, rfl⟩
            clear ki
            cases ta with
            | false =>
              go_wp2_with fail
              go_ret
              exact ⟨by rw [HN2.out]; first | rfl | (simp only [Bool.true_and, Bool.false_and, Bool.and_true]; rfl) | (simp; done), HBR.out⟩
            | true =>
              go_wp2_with fail
              (with_reducible refine ki2.mono ?_)
              rintro e wz ⟨rfl, rfl⟩
              clear ki2
              go_wp2_with fail
              go_ret
              exact ⟨by rw [HN2.out]; first | rfl | (simp only [Bool.true_and, Bool.false_and, Bool.and_true]; rfl) | (simp; done), HBR.out⟩
        · as_aux_lemma =>
            have hN2 : namedP p pc ⟨5, a, b, c⟩ = inB a p.outs.length := by rw [hN]; simp [writesB, nameB]
            clear hN
            have HN2 := Lib.hid hN2
            clear hN2
            have ki2 := vIn_any a p.outs.length wr
            go_wp2_with fail
            (with_reducible refine ki2.mono ?_)
            rintro e wz ⟨rfl, rfl⟩
            clear ki2
            go_wp2_with fail
            go_ret
            exact ⟨by rw [HN2.out]; first | rfl | (simp only [Bool.true_and, Bool.false_and, Bool.and_true]; rfl) | (simp; done), HBR.out⟩
        · as_aux_lemma =>
            have hN2 : namedP p pc ⟨6, a, b, c⟩ = (inB a p.slots.length && true) := by rw [hN]; simp [writesB, nameB]
            clear hN
            have ki := vIn_any a p.slots.length wr
            obtain ⟨ta, hta⟩ : ∃ t, t = inB a p.slots.length := ⟨_, rfl⟩
            rw [← hta] at ki hN2
            clear hta
            have HN2 := Lib.hid hN2
            clear hN2
            go_wp2_with fail
            (with_reducible refine ki.mono ?_)
            rintro e wz ⟨rfl, rfl⟩
            clear ki
            cases ta with
            | false =>
              go_wp2_with fail
              go_ret
              exact ⟨by rw [HN2.out]; first | rfl | (simp only [Bool.true_and, Bool.false_and, Bool.and_true]; rfl) | (simp; done), HBR.out⟩
            | true =>
              go_wp2_with fail
              go_ret
              exact ⟨by rw [HN2.out]; first | rfl | (simp only [Bool.true_and, Bool.false_and, Bool.and_true]; rfl) | (simp; done), HBR.out⟩
        · as_aux_lemma =>
            have hN2 : namedP p pc ⟨7, a, b, c⟩ = (inB a p.slots.length && true) := by rw [hN]; simp [writesB, nameB]
            clear hN
            have ki := vIn_any a p.slots.length wr
            obtain ⟨ta, hta⟩ : ∃ t, t = inB a p.slots.length := ⟨_, rfl⟩
            rw [← hta] at ki hN2
            clear hta
            have HN2 := Lib.hid hN2
            clear hN2
            go_wp2_with fail
            (with_reducible refine ki.mono ?_)
            rintro e wz ⟨rfl, rfl⟩
            clear ki
            cases ta with
            | false =>
              go_wp2_with fail
              go_ret
              exact ⟨by rw [HN2.out]; first | rfl | (simp only [Bool.true_and, Bool.false_and, Bool.and_true]; rfl) | (simp; done), HBR.out⟩
            | true =>
              go_wp2_with fail
              go_ret
              exact ⟨by rw [HN2.out]; first | rfl | (simp only [Bool.true_and, Bool.false_and, Bool.and_true]; rfl) | (simp; done), HBR.out⟩
        · as_aux_lemma =>
            have hN2 : namedP p pc ⟨8, a, b, c⟩ = (inB a p.slots.length && true) := by rw [hN]; simp [writesB, nameB]
            clear hN
            have ki := vIn_any a p.slots.length wr
            obtain ⟨ta, hta⟩ : ∃ t, t = inB a p.slots.length := ⟨_, rfl⟩
            rw [← hta] at ki hN2
            clear hta
            have HN2 := Lib.hid hN2
            clear hN2
            go_wp2_with fail
            (with_reducible refine ki.mono ?_)
            rintro e wz ⟨rfl, rfl⟩
            clear ki
            cases ta with
            | false =>
              go_wp2_with fail
              go_ret
              exact ⟨by rw [HN2.out]; first | rfl | (simp only [Bool.true_and, Bool.false_and, Bool.and_true]; rfl) | (simp; done), HBR.out⟩
            | true =>
              go_wp2_with fail
              go_ret
              exact ⟨by rw [HN2.out]; first | rfl | (simp only [Bool.true_and, Bool.false_and, Bool.and_true]; rfl) | (simp; done), HBR.out⟩
        · as_aux_lemma =>
            have hN2 : namedP p pc ⟨9, a, b, c⟩ = (inB a p.slots.length && true) := by rw [hN]; simp [writesB, nameB]
            clear hN
            have ki := vIn_any a p.slots.length wr
            obtain ⟨ta, hta⟩ : ∃ t, t = inB a p.slots.length := ⟨_, rfl⟩
            rw [← hta] at ki hN2
            clear hta
            have HN2 := Lib.hid hN2
            clear hN2
            go_wp2_with fail
            (with_reducible refine ki.mono ?_)
            rintro e wz ⟨rfl, rfl⟩
            clear ki
            cases ta with
            | false =>
              go_wp2_with fail
              go_ret
              exact ⟨by rw [HN2.out]; first | rfl | (simp only [Bool.true_and, Bool.false_and, Bool.and_true]; rfl) | (simp; done), HBR.out⟩
            | true =>
              go_wp2_with fail
              go_ret
              exact ⟨by rw [HN2.out]; first | rfl | (simp only [Bool.true_and, Bool.false_and, Bool.and_true]; rfl) | (simp; done), HBR.out⟩
        · as_aux_lemma =>
            have hN2 : namedP p pc ⟨10, a, b, c⟩ = (inB a p.slots.length && true) := by rw [hN]; simp [writesB, nameB]
            clear hN
            have ki := vIn_any a p.slots.length wr
            obtain ⟨ta, hta⟩ : ∃ t, t = inB a p.slots.length := ⟨_, rfl⟩
            rw [← hta] at ki hN2
            clear hta
            have HN2 := Lib.hid hN2
            clear hN2
            go_wp2_with fail
            (with_reducible refine ki.mono ?_)
            rintro e wz ⟨rfl, rfl⟩
            clear ki
            cases ta with
            | false =>
              go_wp2_with fail
              go_ret
              exact ⟨by rw [HN2.out]; first | rfl | (simp only [Bool.true_and, Bool.false_and, Bool.and_true]; rfl) | (simp; done), HBR.out⟩
            | true =>
              go_wp2_with fail
              go_ret
              exact ⟨by rw [HN2.out]; first | rfl | (simp only [Bool.true_and, Bool.false_and, Bool.and_true]; rfl) | (simp; done), HBR.out⟩
        · as_aux_lemma =>
            have hN2 : namedP p pc ⟨11, a, b, c⟩ = (inB a p.slots.length && true) := by rw [hN]; simp [writesB, nameB]
            clear hN
            have ki := vIn_any a p.slots.length wr
            obtain ⟨ta, hta⟩ : ∃ t, t = inB a p.slots.length := ⟨_, rfl⟩
            rw [← hta] at ki hN2
            clear hta
            have HN2 := Lib.hid hN2
            clear hN2
            go_wp2_with fail
            (with_reducible refine ki.mono ?_)
            rintro e wz ⟨rfl, rfl⟩
            clear ki
            cases ta with
            | false =>
              go_wp2_with fail
              go_ret
              exact ⟨by rw [HN2.out]; first | rfl | (simp only [Bool.true_and, Bool.false_and, Bool.and_true]; rfl) | (simp; done), HBR.out⟩
            | true =>
              go_wp2_with fail
              go_ret
              exact ⟨by rw [HN2.out]; first | rfl | (simp only [Bool.true_and, Bool.false_and, Bool.and_true]; rfl) | (simp; done), HBR.out⟩
        · as_aux_lemma =>
            have hN2 : namedP p pc ⟨12, a, b, c⟩ = (inB a p.slots.length && true) := by rw [hN]; simp [writesB, nameB]
            clear hN
            have ki := vIn_any a p.slots.length wr
            obtain ⟨ta, hta⟩ : ∃ t, t = inB a p.slots.length := ⟨_, rfl⟩
            rw [← hta] at ki hN2
            clear hta
            have HN2 := Lib.hid hN2
            clear hN2
            go_wp2_with fail
            (with_reducible refine ki.mono ?_)
            rintro e wz ⟨rfl, rfl⟩
            clear ki
            cases ta with
            | false =>
              go_wp2_with fail
              go_ret
              exact ⟨by rw [HN2.out]; first | rfl | (simp only [Bool.true_and, Bool.false_and, Bool.and_true]; rfl) | (simp; done), HBR.out⟩
            | true =>
              go_wp2_with fail
              go_ret
              exact ⟨by rw [HN2.out]; first | rfl | (simp only [Bool.true_and, Bool.false_and, Bool.and_true]; rfl) | (simp; done), HBR.out⟩
        · as_aux_lemma =>
            have hN2 : namedP p pc ⟨13, a, b, c⟩ = (inB a p.slots.length && true) := by rw [hN]; simp [writesB, nameB]
            clear hN
            have ki := vIn_any a p.slots.length wr
            obtain ⟨ta, hta⟩ : ∃ t, t = inB a p.slots.length := ⟨_, rfl⟩
            rw [← hta] at ki hN2
            clear hta
            have HN2 := Lib.hid hN2
            clear hN2
            go_wp2_with fail
            (with_reducible refine ki.mono ?_)
            rintro e wz ⟨rfl, rfl⟩
            clear ki
            cases ta with
            | false =>
              go_wp2_with fail
              go_ret
              exact ⟨by rw [HN2.out]; first | rfl | (simp only [Bool.true_and, Bool.false_and, Bool.and_true]; rfl) | (simp; done), HBR.out⟩
            | true =>
              go_wp2_with fail
              go_ret
              exact ⟨by rw [HN2.out]; first | rfl | (simp only [Bool.true_and, Bool.false_and, Bool.and_true]; rfl) | (simp; done), HBR.out⟩
        · as_aux_lemma =>
            have hN2 : namedP p pc ⟨14, a, b, c⟩ = (inB a p.slots.length && true) := by rw [hN]; simp [writesB, nameB]
            clear hN
            have ki := vIn_any a p.slots.length wr
            obtain ⟨ta, hta⟩ : ∃ t, t = inB a p.slots.length := ⟨_, rfl⟩
            rw [← hta] at ki hN2
            clear hta
            have HN2 := Lib.hid hN2
            clear hN2
            go_wp2_with fail
            (with_reducible refine ki.mono ?_)
            rintro e wz ⟨rfl, rfl⟩
            clear ki
            cases ta with
            | false =>
              go_wp2_with fail
              go_ret
              exact ⟨by rw [HN2.out]; first | rfl | (simp only [Bool.true_and, Bool.false_and, Bool.and_true]; rfl) | (simp; done), HBR.out⟩
            | true =>
              go_wp2_with fail
              go_ret
              exact ⟨by rw [HN2.out]; first | rfl | (simp only [Bool.true_and, Bool.false_and, Bool.and_true]; rfl) | (simp; done), HBR.out⟩
        · as_aux_lemma =>
            have hN2 : namedP p pc ⟨15, a, b, c⟩ = (inB a p.slots.length && true) := by rw [hN]; simp [writesB, nameB]
            clear hN
            have ki := vIn_any a p.slots.length wr
            obtain ⟨ta, hta⟩ : ∃ t, t = inB a p.slots.length := ⟨_, rfl⟩
            rw [← hta] at ki hN2
            clear hta
            have HN2 := Lib.hid hN2
            clear hN2
            go_wp2_with fail
            (with_reducible refine ki.mono ?_)
            rintro e wz ⟨rfl, rfl⟩
            clear ki
            cases ta with
            | false =>
              go_wp2_with fail
              go_ret
              exact ⟨by rw [HN2.out]; first | rfl | (simp only [Bool.true_and, Bool.false_and, Bool.and_true]; rfl) | (simp; done), HBR.out⟩
            | true =>
              go_wp2_with fail
              go_ret
              exact ⟨by rw [HN2.out]; first | rfl | (simp only [Bool.true_and, Bool.false_and, Bool.and_true]; rfl) | (simp; done), HBR.out⟩
        · as_aux_lemma =>
            have hN2 : namedP p pc ⟨16, a, b, c⟩ = (inB a p.slots.length && true) := by rw [hN]; simp [writesB, nameB]
            clear hN
            have ki := vIn_any a p.slots.length wr
            obtain ⟨ta, hta⟩ : ∃ t, t = inB a p.slots.length := ⟨_, rfl⟩
            rw [← hta] at ki hN2
            clear hta
            have HN2 := Lib.hid hN2
            clear hN2
            go_wp2_with fail
            (with_reducible refine ki.mono ?_)
            rintro e wz ⟨rfl, rfl⟩
            clear ki
            cases ta with
            | false =>
              go_wp2_with fail
              go_ret
              exact ⟨by rw [HN2.out]; first | rfl | (simp only [Bool.true_and, Bool.false_and, Bool.and_true]; rfl) | (simp; done), HBR.out⟩
            | true =>
              go_wp2_with fail
              go_ret
              exact ⟨by rw [HN2.out]; first | rfl | (simp only [Bool.true_and, Bool.false_and, Bool.and_true]; rfl) | (simp; done), HBR.out⟩
        · as_aux_lemma =>
            have hN2 : namedP p pc ⟨17, a, b, c⟩ = (inB a p.slots.length && true) := by rw [hN]; simp [writesB, nameB]
            clear hN
            have ki := vIn_any a p.slots.length wr
            obtain ⟨ta, hta⟩ : ∃ t, t = inB a p.slots.length := ⟨_, rfl⟩
            rw [← hta] at ki hN2
            clear hta
            have HN2 := Lib.hid hN2
            clear hN2
            go_wp2_with fail
            (with_reducible refine ki.mono ?_)
            rintro e wz ⟨rfl, rfl⟩
            clear ki
            cases ta with
            | false =>
              go_wp2_with fail
              go_ret
              exact ⟨by rw [HN2.out]; first | rfl | (simp only [Bool.true_and, Bool.false_and, Bool.and_true]; rfl) | (simp; done), HBR.out⟩
            | true =>
              go_wp2_with fail
              go_ret
              exact ⟨by rw [HN2.out]; first | rfl | (simp only [Bool.true_and, Bool.false_and, Bool.and_true]; rfl) | (simp; done), HBR.out⟩
        · as_aux_lemma =>
            have hN2 : namedP p pc ⟨18, a, b, c⟩ = (inB a p.slots.length && true) := by rw [hN]; simp [writesB, nameB]
            clear hN
            have ki := vIn_any a p.slots.length wr
            obtain ⟨ta, hta⟩ : ∃ t, t = inB a p.slots.length := ⟨_, rfl⟩
            rw [← hta] at ki hN2
            clear hta
            have HN2 := Lib.hid hN2
            clear hN2
            go_wp2_with fail
            (with_reducible refine ki.mono ?_)
            rintro e wz ⟨rfl, rfl⟩
            clear ki
            cases ta with
            | false =>
              go_wp2_with fail
              go_ret
              exact ⟨by rw [HN2.out]; first | rfl | (simp only [Bool.true_and, Bool.false_and, Bool.and_true]; rfl) | (simp; done), HBR.out⟩
            | true =>
              go_wp2_with fail
              go_ret
              exact ⟨by rw [HN2.out]; first | rfl | (simp only [Bool.true_and, Bool.false_and, Bool.and_true]; rfl) | (simp; done), HBR.out⟩
        · as_aux_lemma =>
            have hN2 : namedP p pc ⟨19, a, b, c⟩ = (decide ((pc : Int) < a) && decide (a ≤ (p.code.length : Int))) := by rw [hN]; simp [writesB, nameB]
            clear hN
            have HN2 := Lib.hid hN2
            clear hN2
            by_cases g1 : (pc : Int) < a
            · have e1 : decide ((pc : Int) < a) = true := by simpa using g1
              by_cases g2 : a ≤ (p.code.length : Int)
              · have e2 : decide (a ≤ (p.code.length : Int)) = true := by simpa using g2
                go_wp2_with fail
                go_ret
                exact ⟨by rw [HN2.out, e1, e2]; first | rfl | (simp only [Bool.true_and, Bool.false_and, Bool.and_true]; rfl) | (simp; done), HBR.out⟩
              · have e2 : decide (a ≤ (p.code.length : Int)) = false := by simpa using g2
                go_wp2_with fail
                go_ret
                exact ⟨by rw [HN2.out, e1, e2]; first | rfl | (simp only [Bool.true_and, Bool.false_and, Bool.and_true]; rfl) | (simp; done), HBR.out⟩
            · have e1 : decide ((pc : Int) < a) = false := by simpa using g1
              go_wp2_with fail
              go_ret
              exact ⟨by rw [HN2.out, e1]; first | rfl | (simp only [Bool.true_and, Bool.false_and, Bool.and_true]; rfl) | (simp; done), HBR.out⟩
        · as_aux_lemma =>
            have hN2 : namedP p pc ⟨20, a, b, c⟩ = (decide ((pc : Int) < a) && decide (a ≤ (p.code.length : Int))) := by rw [hN]; simp [writesB, nameB]
            clear hN
            have HN2 := Lib.hid hN2
            clear hN2
            by_cases g1 : (pc : Int) < a
            · have e1 : decide ((pc : Int) < a) = true := by simpa using g1
              by_cases g2 : a ≤ (p.code.length : Int)
              · have e2 : decide (a ≤ (p.code.length : Int)) = true := by simpa using g2
                go_wp2_with fail
                go_ret
                exact ⟨by rw [HN2.out, e1, e2]; first | rfl | (simp only [Bool.true_and, Bool.false_and, Bool.and_true]; rfl) | (simp; done), HBR.out⟩
              · have e2 : decide (a ≤ (p.code.length : Int)) = false := by simpa using g2
                go_wp2_with fail
                go_ret
                exact ⟨by rw [HN2.out, e1, e2]; first | rfl | (simp only [Bool.true_and, Bool.false_and, Bool.and_true]; rfl) | (simp; done), HBR.out⟩
            · have e1 : decide ((pc : Int) < a) = false := by simpa using g1
              go_wp2_with fail
              go_ret
              exact ⟨by rw [HN2.out, e1]; first | rfl | (simp only [Bool.true_and, Bool.false_and, Bool.and_true]; rfl) | (simp; done), HBR.out⟩
  · have hno : nameO op = [] := nameO_out (by omega)
    have hN : namedP p pc ⟨op, a, b, c⟩ = false := by
      unfold namedP
      have : (decide (0 ≤ op) && decide (op ≤ 20)) = false := by
        rw [Bool.and_eq_false_iff, decide_eq_false_iff_not, decide_eq_false_iff_not]
        omega
      dsimp only
      rw [this, Bool.false_and]
    rw [hno] at kn
    rw [hN]
    clear hN hno hop
    go_enter Tryd.func18, Tryd.ntmps18
    go_upto_region 1 with fail
    rw [← HW0.out, ← HBB1.out]
    go_upto_region 2 with (first | (refine wpList_load_mid rfl 34 (.tmp 11) rfl gc (oc + pc * 4) rfl (in4C ⟨op, a, b, c⟩) _ ?_ Tryd.underlying34 rfl HSI.out ?_; (exact HR.out)) | (rw [← HBB5.out]; refine wpList_store_row rfl 34 (.tmp 5) (.tmp 12) rfl B5 #[.int .i64 op, .int .i64 a, .int .i64 b, .int .i64 c] rfl rfl 34 _ HKZ.out HSI.out rfl (in4_one _ _ _ _) ?_))
    rw [← HW1.out]
    go_wp2_with fail
    (with_reducible refine kn.mono ?_)
    rintro e w1 ⟨rfl, hb⟩
    clear kn
    go_wp2_with fail
    go_ret
    exact ⟨rfl, HB1.out.trans (hb.mono HB1.out.size)⟩
end Go.Proofs.YtglplhkbnkbjbaaDoor

namespace Go.Proofs.YtglplhkbnkbjbaaDoor
open Go
theorem chk_empty : checkP ⟨[], [], [], [], [], []⟩ = (0, 0) := by decide +kernel
theorem chk_out : checkP ⟨[], [2], [], [], [], []⟩ = (0, 5) := by decide +kernel
theorem chk_a : checkP ⟨[], [], [3], [], [], []⟩ = (-1, 1) := by decide +kernel
theorem chk_b : checkP ⟨[], [], [], [], [], [⟨20, 0, 0, 0⟩]⟩ = (0, 2) := by decide +kernel
theorem chk_c : checkP ⟨[], [], [1, 2], [], [5], [⟨0, 0, 0, 0⟩]⟩ = (0, 3) := by decide +kernel
theorem chk_d : checkP ⟨[], [], [1, 2], [], [], [⟨1, 1, 1, 0⟩]⟩ = (0, 4) := by decide +kernel
theorem chk_e : checkP ⟨[1, 2], [2], [1, 2], [], [], [⟨4, 0, 0, 0⟩, ⟨19, 4, 0, 0⟩, ⟨4, 1, 1, 0⟩, ⟨20, 5, 0, 0⟩, ⟨4, 1, 1, 0⟩, ⟨5, 0, 1, 0⟩]⟩ = (0, 0) := by decide +kernel
theorem chk_f : checkP ⟨[1, 2], [2], [1, 2], [], [], [⟨4, 0, 0, 0⟩, ⟨19, 3, 0, 0⟩, ⟨4, 1, 1, 0⟩, ⟨5, 0, 1, 0⟩]⟩ = (3, 4) := by decide +kernel
def wayX (b : Bool) : In4 := if b then ⟨4, 1, 1, 0⟩ else ⟨4, 0, 0, 0⟩
def wayP (left right over : Bool) : Pg := ⟨[1, 2], [2], [1, 2], [], [], [⟨4, 0, 0, 0⟩, if over then ⟨20, 4, 0, 0⟩ else ⟨19, 4, 0, 0⟩, wayX left, ⟨20, 5, 0, 0⟩, wayX right, ⟨5, 0, 1, 0⟩]⟩
theorem chk_ways : ∀ left right over : Bool, checkP (wayP left right over) = if right && (left || over) then (0, 0) else (5, 4) := by decide +kernel
/-- So many slots, memories, inputs, instructions. -/
def boundP (slots ins n : Nat) : Pg := ⟨List.replicate ins 2, [], List.replicate slots 2, List.replicate slots 2, [0], (List.range n).map fun i : Nat => ⟨20, (i : Int) + 1, 0, 0⟩⟩
theorem bound_big {slots ins n : Nat} (h : 1024 < slots ∨ 64 < ins ∨ 8192 < n) : checkP (boundP slots ins n) = (-1, 1) := by
  unfold checkP
  rw [if_pos]
  unfold bigP boundP
  simp only [List.length_replicate, List.length_map, List.length_range, List.length_nil, Bool.or_eq_true, decide_eq_true_eq]
  omega
theorem flow_free (p : Pg) : ∀ (l : List In4) (pc : Nat) (D : Done), (∀ x ∈ l, rdsI x = []) → ∃ D', flowV p l pc D = .inl D'
  | [], _, D, _ => ⟨D, rfl⟩
  | x :: r, pc, D, h => by
    unfold flowV
    cases D.getD pc none with
    | none => exact flow_free p r (pc + 1) D fun y hy => h y (List.mem_cons_of_mem _ hy)
    | some l =>
      dsimp only
      rw [h x (List.mem_cons_self ..), List.all_nil, if_pos rfl]
      exact flow_free p r (pc + 1) _ fun y hy => h y (List.mem_cons_of_mem _ hy)
theorem outs_free {p : Pg} (h : p.outs = []) (D : Done) : outsV p D = true := by
  unfold outsV
  cases D.getD p.code.length none with
  | none => rfl
  | some l => simp [h]
theorem first_all {f : Nat → In4 → Bool} : ∀ (l : List In4) (s : Nat), (∀ k (h : k < l.length), f (s + k) (l[k]'h) = true) → firstV f l s = none
  | [], _, _ => rfl
  | x :: r, s, h => by
    unfold firstV
    have h0 := h 0 (by simp)
    rw [List.getElem_cons_zero, Nat.add_zero] at h0
    rw [if_pos h0]
    refine first_all r (s + 1) fun k hk => ?_
    have := h (k + 1) (by simpa using hk)
    rw [List.getElem_cons_succ] at this
    rw [show s + 1 + k = s + (k + 1) by omega]
    exact this
theorem bound_ok {slots ins n : Nat} (h1 : slots ≤ 1024) (h2 : ins ≤ 64) (h3 : n ≤ 8192) : checkP (boundP slots ins n) = (0, 0) := by
  have hb : bigP (boundP slots ins n) = false := by
    unfold bigP boundP
    simp only [List.length_replicate, List.length_map, List.length_range, List.length_nil, List.length_cons, Bool.or_eq_false_iff, decide_eq_false_iff_not]
    omega
  have hk : ((((boundP slots ins n).ins ++ (boundP slots ins n).outs) ++ (boundP slots ins n).slots) ++ (boundP slots ins n).mems).all kindOk = true := by
    unfold boundP
    rw [List.all_eq_true]
    intro x hx
    simp only [List.append_nil, List.mem_append, List.mem_replicate] at hx
    have : x = 2 := by
      rcases hx with (h | h) | h <;> exact h.2
    rw [this]
    rfl
  have hc : (boundP slots ins n).code.length = n := by unfold boundP; simp
  have hn : firstV (namedP (boundP slots ins n)) (boundP slots ins n).code 0 = none := first_all _ _ fun k hk => by
    rw [hc] at hk
    have e : (boundP slots ins n).code[k]'(by rw [hc]; exact hk) = ⟨20, (k : Int) + 1, 0, 0⟩ := by unfold boundP; simp
    rw [e, Nat.zero_add]
    unfold namedP
    have e1 : nameB (boundP slots ins n) k ⟨20, (k : Int) + 1, 0, 0⟩ = true := by
      unfold nameB
      simp [hc]
      omega
    rw [e1]
    simp [rdsI, writesB]
  have hf : firstV (fun _ => fitsP (boundP slots ins n)) (boundP slots ins n).code 0 = none := first_all _ _ fun k hk => by
    rw [hc] at hk
    have e : (boundP slots ins n).code[k]'(by rw [hc]; exact hk) = ⟨20, (k : Int) + 1, 0, 0⟩ := by unfold boundP; simp
    rw [e]
    simp [fitsP]
  obtain ⟨D, hD⟩ := flow_free (boundP slots ins n) (boundP slots ins n).code 0 (done0 (boundP slots ins n)) fun x hx => by
    unfold boundP at hx
    simp only [List.mem_map] at hx
    obtain ⟨i, _, rfl⟩ := hx
    simp [rdsI]
  unfold checkP
  rw [hb, hk, hn, hf, hD]
  dsimp only
  rw [outs_free (by unfold boundP; rfl)]
  rfl
theorem first_at {f : Nat → In4 → Bool} : ∀ (l : List In4) (s j : Nat) (hj : j < l.length), (∀ k (h : k < j), f (s + k) (l[k]'(by omega)) = true) → f (s + j) (l[j]'hj) = false → firstV f l s = some (s + j)
  | [], _, _, h, _, _ => absurd h (Nat.not_lt_zero _)
  | x :: r, s, 0, _, _, hf => by
    unfold firstV
    rw [List.getElem_cons_zero, Nat.add_zero] at hf
    rw [hf, if_neg (by simp)]
    rfl
  | x :: r, s, j + 1, hj, h, hf => by
    unfold firstV
    have h0 := h 0 (by omega)
    rw [List.getElem_cons_zero, Nat.add_zero] at h0
    rw [List.getElem_cons_succ] at hf
    have hh : ∀ k (hk : k < j), f (s + 1 + k) (r[k]'(by simp at hj; omega)) = true := fun k hk => by
      have := h (k + 1) (by omega)
      rw [List.getElem_cons_succ] at this
      rw [show s + 1 + k = s + (k + 1) by omega]
      exact this
    have := first_at r (s + 1) j (by simpa using hj) hh (by rw [show s + 1 + j = s + (j + 1) by omega]; exact hf)
    rw [if_pos h0, this, show s + 1 + j = s + (j + 1) by omega]
/-- The flow, by what holds ahead of each instruction. -/
theorem flow_inv (p : Pg) (Inv : Nat → Done → Prop) : ∀ (l : List In4) (pc : Nat) (D : Done),
    (∀ k (h : k < l.length) D d, Inv (pc + k) D → D.getD (pc + k) none = some d → (rdsI (l[k]'h)).all (fun j => d.getD j.toNat false) = true ∧ Inv (pc + k + 1) (stepV p (l[k]'h) (pc + k) D d)) →
    (∀ k D, Inv (pc + k) D → D.getD (pc + k) none = none → Inv (pc + k + 1) D) → Inv pc D → ∃ D', flowV p l pc D = .inl D' ∧ Inv (pc + l.length) D'
  | [], _, D, _, _, h => ⟨D, rfl, h⟩
  | x :: r, pc, D, hs, hn, h => by
    have next : ∀ D2, Inv (pc + 1) D2 → ∃ D', flowV p r (pc + 1) D2 = .inl D' ∧ Inv (pc + (x :: r).length) D' := fun D2 h2 => by
      obtain ⟨D', e, h'⟩ := flow_inv p Inv r (pc + 1) D2 (fun k hk D d hi hd => by
        have := hs (k + 1) (by simpa using hk) D d (by rw [show pc + (k + 1) = pc + 1 + k by omega]; exact hi) (by rw [show pc + (k + 1) = pc + 1 + k by omega]; exact hd)
        rw [List.getElem_cons_succ, show pc + (k + 1) = pc + 1 + k by omega] at this
        exact this) (fun k D hi hd => by
        have := hn (k + 1) D (by rw [show pc + (k + 1) = pc + 1 + k by omega]; exact hi) (by rw [show pc + (k + 1) = pc + 1 + k by omega]; exact hd)
        rw [show pc + (k + 1) = pc + 1 + k by omega] at this
        exact this) h2
      refine ⟨D', e, ?_⟩
      rw [List.length_cons, show pc + (r.length + 1) = pc + 1 + r.length by omega]
      exact h'
    unfold flowV
    cases hd : D.getD pc none with
    | none => exact next D (hn 0 D h hd)
    | some d =>
      obtain ⟨h1, h2⟩ := hs 0 (by simp) D d h hd
      rw [List.getElem_cons_zero] at h1
      rw [List.getElem_cons_zero, Nat.add_zero] at h2
      dsimp only
      rw [h1, if_pos rfl]
      exact next _ h2
/-- One instruction leads elsewhere; the others lay a constant. -/
def jumpP (n i : Nat) (tq : Int) (u : Bool) : Pg := ⟨[], [], [1], [], [0], (List.replicate (n + 1) (⟨0, 0, 0, 0⟩ : In4)).set (i + 1) ⟨if u then 19 else 20, tq, 0, 0⟩⟩
def InvJ (D : Done) : Prop := FlatD D 1 ∧ ∀ j l, 1 ≤ j → D.getD j none = some l → l = [true]
theorem InvJ.put {D : Done} (h : InvJ D) (k : Nat) (hk : 1 ≤ k) : InvJ (putD D k [true]) := by
  refine ⟨h.1.put rfl k, fun j l hj hl => ?_⟩
  unfold putD at hl
  by_cases hjk : j = k
  · subst hjk
    by_cases hlt : j < D.length
    · rw [List.getD_eq_getElem?_getD, List.getElem?_set_self hlt] at hl
      simp only [Option.getD_some, Option.some.injEq] at hl
      rw [← hl]
      cases hd : D.getD j none with
      | none => rfl
      | some d => rw [h.2 j d hj hd]; rfl
    · rw [List.getD_eq_getElem?_getD, List.getElem?_eq_none (by rw [List.length_set]; omega)] at hl
      exact absurd hl (by simp)
  · rw [List.getD_eq_getElem?_getD, List.getElem?_set_ne (fun e => hjk e.symm), ← List.getD_eq_getElem?_getD] at hl
    exact h.2 j l hj hl
theorem jump_at (n i : Nat) (tq : Int) (u : Bool) (k : Nat) (h : k < (jumpP n i tq u).code.length) : (jumpP n i tq u).code[k]'h = if k = i + 1 then ⟨if u then 19 else 20, tq, 0, 0⟩ else ⟨0, 0, 0, 0⟩ := by
  unfold jumpP at h ⊢
  simp only at h ⊢
  rw [List.getElem_set]
  by_cases hk : i + 1 = k
  · subst hk
    simp
  · have hk' : ¬ k = i + 1 := fun e => hk e.symm
    simp [hk, hk']
theorem jump_len (n i : Nat) (tq : Int) (u : Bool) : (jumpP n i tq u).code.length = n + 1 := by unfold jumpP; simp
theorem jump_named0 (n i : Nat) (tq : Int) (u : Bool) (k : Nat) : namedP (jumpP n i tq u) k ⟨0, 0, 0, 0⟩ = true := by
  unfold namedP
  simp [rdsI, writesB, nameB, jumpP, inB]
theorem jump_named (n i : Nat) (tq : Int) (u : Bool) (k : Nat) : namedP (jumpP n i tq u) k ⟨if u then 19 else 20, tq, 0, 0⟩ = (decide ((k : Int) < tq) && decide (tq ≤ ((n + 1 : Nat) : Int))) := by
  unfold namedP
  have e : nameB (jumpP n i tq u) k ⟨if u then 19 else 20, tq, 0, 0⟩ = (decide ((k : Int) < tq) && decide (tq ≤ ((n + 1 : Nat) : Int))) := by
    unfold nameB
    rw [jump_len]
    cases u <;> simp
  rw [e]
  cases u <;> simp [rdsI, writesB, jumpP, inB]
theorem chk_jump {n i : Nat} {tq : Int} {u : Bool} (hn : n ≤ 40) (hi : i < n) : checkP (jumpP n i tq u) = if (i : Int) + 1 < tq ∧ tq ≤ (n : Int) + 1 then (0, 0) else ((i : Int) + 1, 2) := by
  have hb : bigP (jumpP n i tq u) = false := by
    unfold bigP
    rw [jump_len]
    unfold jumpP
    simp
    omega
  have hk : ((((jumpP n i tq u).ins ++ (jumpP n i tq u).outs) ++ (jumpP n i tq u).slots) ++ (jumpP n i tq u).mems).all kindOk = true := rfl
  have hcond : (decide (((i + 1 : Nat) : Int) < tq) && decide (tq ≤ ((n + 1 : Nat) : Int))) = decide ((i : Int) + 1 < tq ∧ tq ≤ (n : Int) + 1) := by
    rw [Bool.decide_and]
    rfl
  unfold checkP
  rw [hb, hk]
  by_cases hc : (i : Int) + 1 < tq ∧ tq ≤ (n : Int) + 1
  · rw [if_pos hc]
    rw [decide_eq_true hc] at hcond
    have h1 : firstV (namedP (jumpP n i tq u)) (jumpP n i tq u).code 0 = none := first_all _ _ fun k h => by
      rw [jump_at, Nat.zero_add]
      split
      · rename_i e; rw [e, jump_named]; exact hcond
      · exact jump_named0 ..
    have h2 : firstV (fun _ => fitsP (jumpP n i tq u)) (jumpP n i tq u).code 0 = none := first_all _ _ fun k h => by
      rw [jump_at]
      split
      · cases u <;> simp [fitsP, jumpP, atI]
      · simp [fitsP, jumpP, atI]
    obtain ⟨D, hD, _⟩ := flow_inv (jumpP n i tq u) (fun _ D => InvJ D) (jumpP n i tq u).code 0 (done0 (jumpP n i tq u)) (fun k h D d hi hd => by
      rw [Nat.zero_add] at hd ⊢
      have hl := hi.1 k d hd
      have hT : InvJ D → InvJ (putD D (k + 1) [true]) := fun h => h.put (k + 1) (by omega)
      rw [jump_at]
      split
      · rename_i e
        have hdt := hi.2 k d (by omega) hd
        subst hdt
        refine ⟨by cases u <;> simp [rdsI], ?_⟩
        have hw : wroteV (jumpP n i tq u) ⟨if u then 19 else 20, tq, 0, 0⟩ [true] = [true] := by unfold wroteV wrI; cases u <;> simp
        unfold stepV
        dsimp only
        rw [hw]
        have ht : 1 ≤ tq.toNat := by omega
        cases u with
        | true => exact (hT hi).put _ ht
        | false => exact hi.put _ ht
      · refine ⟨by simp [rdsI], ?_⟩
        have hw : wroteV (jumpP n i tq u) ⟨0, 0, 0, 0⟩ d = [true] := by
          obtain ⟨y, rfl⟩ : ∃ y, d = [y] := by
            match d, hl with
            | [y], _ => exact ⟨y, rfl⟩
          simp [wroteV, wrI]
        unfold stepV
        dsimp only
        rw [hw]
        simpa using hT hi) (fun k D h _ => h) ⟨fun j l hj => by
          unfold done0 at hj
          cases j with
          | zero => rw [List.getD_cons_zero] at hj; injection hj with hj; rw [← hj, List.length_replicate]; rfl
          | succ j =>
            rw [List.getD_cons_succ, List.getD_eq_getElem?_getD, List.getElem?_replicate] at hj
            split at hj <;> simp at hj, fun j l h1 hj => by
          unfold done0 at hj
          cases j with
          | zero => omega
          | succ j =>
            rw [List.getD_cons_succ, List.getD_eq_getElem?_getD, List.getElem?_replicate] at hj
            split at hj <;> simp at hj⟩
    rw [h1, h2, hD]
    dsimp only
    rw [outs_free rfl]
    rfl
  · rw [if_neg hc]
    rw [decide_eq_false hc] at hcond
    have h1 : firstV (namedP (jumpP n i tq u)) (jumpP n i tq u).code 0 = some (0 + (i + 1)) := first_at _ 0 (i + 1) (by rw [jump_len]; omega) (fun k h => by
      rw [jump_at, if_neg (by omega)]
      exact jump_named0 ..) (by rw [jump_at, if_pos rfl, Nat.zero_add, jump_named]; exact hcond)
    rw [h1]
    simp
end Go.Proofs.YtglplhkbnkbjbaaDoor

namespace Go.Proofs.YtglplhkbnkbjbaaDoor
open Go Go.RowKit
/-- What Check of package valid tells of a program: where, which rule; whether there is none. -/
def GivesVC (w : World) (p : Pg) (e : Ending) (w' : World) : Prop := e = .returned (.tuple #[.agg #[.int .i64 (checkP p).1, .int .i64 (checkP p).2], .bool (decide ((checkP p).2 = 0))]) ∧ Below w.heap.size w w'
structure ValidC (T : World → Prop) : Prop where
  keep : ∀ w w', T w → Below w.heap.size w w' → T w'
  check : ∀ (p : Pg) (x0 x1 x2 x3 x4 x5 : Option Addr) (c0 c1 c2 c3 c4 c5 : Nat) (w : World), T w → p.ok → p.sum ≤ 100000 → PgIn w p x0 x1 x2 x3 x4 x5 → Calls Tryd.prog 9 #[pgV p x0 x1 x2 x3 x4 x5 c0 c1 c2 c3 c4 c5] w (GivesVC w p)
def noPg16 : Pg := ⟨[], [], [], [], [], []⟩
def outPg16 : Pg := ⟨[], [2], [], [], [], []⟩
theorem noPg16_ok : noPg16.ok := ⟨fun _ h => (by cases h), fun _ h => (by cases h), fun _ h => (by cases h), fun _ h => (by cases h), fun _ h => (by cases h), fun _ h => (by cases h)⟩
theorem outPg16_ok : outPg16.ok := ⟨fun _ h => (by cases h), fun v h => (by simp [outPg16] at h; subst h; exact ⟨by decide, by decide⟩), fun _ h => (by cases h), fun _ h => (by cases h), fun _ h => (by cases h), fun _ h => (by cases h)⟩
theorem noPg16_in {w : World} : PgIn w noPg16 none none none none none none := ⟨Row.nil _ _ _, Row.nil _ _ _, Row.nil _ _ _, Row.nil _ _ _, Row.nil _ _ _, fun h => absurd rfl h⟩
theorem outPg16_in {w : World} {g : Nat} (h : w.heap[g]? = some (.cells #[.int .i64 2] 23 (0, 0))) : PgIn w outPg16 none (some ⟨g, 0, none⟩) none none none none :=
  ⟨Row.nil _ _ _, fun _ => ⟨g, 0, rfl, (Array.getElem?_eq_some_iff.1 h).1, fun i hi => by
    have : i < 1 := hi
    obtain rfl : i = 0 := by omega
    exact cell_of_row w g 0 _ _ _ h⟩, Row.nil _ _ _, Row.nil _ _ _, Row.nil _ _ _, fun h => absurd rfl h⟩
theorem size_fault16 : (Tryd.prog.info? 26).map (·.size) = some 2 := by kernel_rfl
theorem fault_one16 (a b : Int) : (#[.int .i64 a, .int .i64 b] : Array Value).all (·.oneCell') = true := by simp [Value.oneCell']
/-- More than is asked of. -/
def greatP (p : Pg) : Bool := decide (70 < p.ins.length) || (decide (70 < p.outs.length) || (decide (200 < p.slots.length) || (decide (100 < p.mems.length) || (decide (100 < p.consts.length) || decide (400 < p.code.length)))))
theorem great_no {p : Pg} (h : greatP p = false) : p.sum ≤ 2140 := by
  unfold greatP at h
  simp only [Bool.or_eq_false_iff, decide_eq_false_iff_not] at h
  unfold Pg.sum
  omega
set_option maxHeartbeats 4000000 in
set_option maxRecDepth 100000 in
theorem great16_any (p : Pg) (x0 x1 x2 x3 x4 x5 : Option Addr) (c0 c1 c2 c3 c4 c5 : Nat) (w : World) : Calls Tryd.prog 10 #[pgV p x0 x1 x2 x3 x4 x5 c0 c1 c2 c3 c4 c5] w fun e w' => e = .returned (.bool (greatP p)) ∧ Below w.heap.size w w' := by
  obtain ⟨W0, hW0⟩ : ∃ W0, W0 = w.alloc (.cells #[.slice x0 p.ins.length c0, .slice x1 p.outs.length c1, .slice x2 p.slots.length c2, .slice x3 p.mems.length c3, .slice x4 p.consts.length c4, .slice x5 p.code.length c5] 32) := ⟨_, rfl⟩
  have hb0 : Below w.heap.size w W0 := by rw [hW0]; exact (Below.refl _ _).alloc (Nat.le_refl _) _
  have hbk : W0.heap[w.heap.size]? = some (.cells #[.slice x0 p.ins.length c0, .slice x1 p.outs.length c1, .slice x2 p.slots.length c2, .slice x3 p.mems.length c3, .slice x4 p.consts.length c4, .slice x5 p.code.length c5] 32 (0, 0)) := by rw [hW0]; exact heap_alloc_new w _
  obtain ⟨B, hB⟩ : ∃ B, B = w.heap.size := ⟨_, rfl⟩
  rw [← hB] at hbk
  have HB0 := Lib.hid hb0
  have HW0 := Lib.hid hW0
  have HBB := Lib.hid hB
  have q0 := cell_of_row W0 B 0 _ _ _ hbk
  have q1 := cell_of_row W0 B 1 _ _ _ hbk
  have q2 := cell_of_row W0 B 2 _ _ _ hbk
  have q3 := cell_of_row W0 B 3 _ _ _ hbk
  have q4 := cell_of_row W0 B 4 _ _ _ hbk
  have q5 := cell_of_row W0 B 5 _ _ _ hbk
  have hg : greatP p = (decide (70 < p.ins.length) || (decide (70 < p.outs.length) || (decide (200 < p.slots.length) || (decide (100 < p.mems.length) || (decide (100 < p.consts.length) || decide (400 < p.code.length)))))) := rfl

  obtain ⟨n0, h0⟩ : ∃ n, n = p.ins.length := ⟨_, rfl⟩
  obtain ⟨n1, h1⟩ : ∃ n, n = p.outs.length := ⟨_, rfl⟩
  obtain ⟨n2, h2⟩ : ∃ n, n = p.slots.length := ⟨_, rfl⟩
  obtain ⟨n3, h3⟩ : ∃ n, n = p.mems.length := ⟨_, rfl⟩
  obtain ⟨n4, h4⟩ : ∃ n, n = p.consts.length := ⟨_, rfl⟩
  obtain ⟨n5, h5⟩ : ∃ n, n = p.code.length := ⟨_, rfl⟩
  unfold pgV
  rw [← h0] at q0 hW0 HW0 hg ⊢
  rw [← h1] at q1 hW0 HW0 hg ⊢
  rw [← h2] at q2 hW0 HW0 hg ⊢
  rw [← h3] at q3 hW0 HW0 hg ⊢
  rw [← h4] at q4 hW0 HW0 hg ⊢
  rw [← h5] at q5 hW0 HW0 hg ⊢
  have HG := Lib.hid hg
  clear hbk hb0 hW0 hB hg h0 h1 h2 h3 h4 h5
  by_cases g0 : 70 < n0
  · have HR : Hid (greatP p = true) := Lib.hid (by rw [HG.out]; simp [g0])
    go_enter Tryd.func10, Tryd.ntmps10
    go_upto_region 1 with fail
    rw [← HW0.out, ← HBB.out]
    go_wp2_with fail
    go_ret
    exact ⟨by rw [HR.out]; first | rfl | (refine congrArg (fun b => Ending.returned (Value.bool b)) ?_; simp; omega), HB0.out⟩
  · skip
    by_cases g1 : 70 < n1
    · have HR : Hid (greatP p = true) := Lib.hid (by rw [HG.out]; simp [g0, g1])
      go_enter Tryd.func10, Tryd.ntmps10
      go_upto_region 1 with fail
      rw [← HW0.out, ← HBB.out]
      go_wp2_with fail
      go_ret
      exact ⟨by rw [HR.out]; first | rfl | (refine congrArg (fun b => Ending.returned (Value.bool b)) ?_; simp; omega), HB0.out⟩
    · skip
      by_cases g2 : 200 < n2
      · have HR : Hid (greatP p = true) := Lib.hid (by rw [HG.out]; simp [g0, g1, g2])
        go_enter Tryd.func10, Tryd.ntmps10
        go_upto_region 1 with fail
        rw [← HW0.out, ← HBB.out]
        go_wp2_with fail
        go_ret
        exact ⟨by rw [HR.out]; first | rfl | (refine congrArg (fun b => Ending.returned (Value.bool b)) ?_; simp; omega), HB0.out⟩
      · skip
        by_cases g3 : 100 < n3
        · have HR : Hid (greatP p = true) := Lib.hid (by rw [HG.out]; simp [g0, g1, g2, g3])
          go_enter Tryd.func10, Tryd.ntmps10
          go_upto_region 1 with fail
          rw [← HW0.out, ← HBB.out]
          go_wp2_with fail
          go_ret
          exact ⟨by rw [HR.out]; first | rfl | (refine congrArg (fun b => Ending.returned (Value.bool b)) ?_; simp; omega), HB0.out⟩
        · skip
          by_cases g4 : 100 < n4
          · have HR : Hid (greatP p = true) := Lib.hid (by rw [HG.out]; simp [g0, g1, g2, g3, g4])
            go_enter Tryd.func10, Tryd.ntmps10
            go_upto_region 1 with fail
            rw [← HW0.out, ← HBB.out]
            go_wp2_with fail
            go_ret
            exact ⟨by rw [HR.out]; first | rfl | (refine congrArg (fun b => Ending.returned (Value.bool b)) ?_; simp; omega), HB0.out⟩
          · skip
            by_cases g5 : 400 < n5
            · have HR : Hid (greatP p = true) := Lib.hid (by rw [HG.out]; simp [g0, g1, g2, g3, g4, g5])
              go_enter Tryd.func10, Tryd.ntmps10
              go_upto_region 1 with fail
              rw [← HW0.out, ← HBB.out]
              go_wp2_with fail
              go_ret
              exact ⟨by rw [HR.out]; first | rfl | (refine congrArg (fun b => Ending.returned (Value.bool b)) ?_; simp; omega), HB0.out⟩
            · skip
              have HR : Hid (greatP p = false) := Lib.hid (by rw [HG.out]; simp; omega)
              go_enter Tryd.func10, Tryd.ntmps10
              go_upto_region 1 with fail
              rw [← HW0.out, ← HBB.out]
              go_wp2_with fail
              go_ret
              exact ⟨by rw [HR.out]; first | rfl | (refine congrArg (fun b => Ending.returned (Value.bool b)) ?_; simp; omega), HB0.out⟩
set_option maxHeartbeats 4000000 in
set_option maxRecDepth 100000 in
theorem awake16_any {T : World → Prop} (K : ValidC T) (w : World) (hT : T w) : Calls Tryd.prog 8 #[] w fun e w' => e = .returned (.bool true) ∧ Below w.heap.size w w' := by
  have HK := Lib.hid K
  have HT := Lib.hid hT
  have k1 := K.check noPg16 none none none none none none 0 0 0 0 0 0 w hT noPg16_ok (by decide) noPg16_in
  unfold GivesVC at k1
  rw [show checkP noPg16 = (0, 0) from chk_empty] at k1
  have HSF := Lib.hid size_fault16
  have bz : ∀ W : World, (Instr.build 32 #[]).run Tryd.prog W = .ok (.agg #[.slice none 0 0, .slice none 0 0, .slice none 0 0, .slice none 0 0, .slice none 0 0, .slice none 0 0]) W := fun W => by kernel_rfl
  have hpz : pgV noPg16 none none none none none none 0 0 0 0 0 0 = .agg #[.slice none 0 0, .slice none 0 0, .slice none 0 0, .slice none 0 0, .slice none 0 0, .slice none 0 0] := rfl
  rw [hpz] at k1
  clear hT hpz
  go_enter Tryd.func8, Tryd.ntmps8
  go_wp2_with fail
  (with_reducible refine k1.mono ?_)
  rintro e w1 ⟨rfl, hb1⟩
  clear k1 bz
  obtain ⟨W1, hW1⟩ : ∃ W, W = ((w1.alloc (.cells #[.int .i64 0, .int .i64 0] 26)).setRow w1.heap.size #[.int .i64 0, .int .i64 0]) := ⟨_, rfl⟩
  obtain ⟨hnb, hnr⟩ := newrow14 w1 26 #[.int .i64 0, .int .i64 0] #[.int .i64 0, .int .i64 0]
  rw [← hW1] at hnb hnr
  have HAL := Lib.hid (heap_alloc_new w1 (.cells #[.int .i64 0, .int .i64 0] 26))
  obtain ⟨g1, hg1⟩ : ∃ g, g = w1.heap.size := ⟨_, rfl⟩
  rw [← hg1] at hnr
  have HB1 := Lib.hid (hb1.trans (hnb.mono hb1.size))
  have HNR := Lib.hid hnr
  have HW1 := Lib.hid hW1
  have HG1 := Lib.hid hg1
  have HT1 := Lib.hid (HK.out.keep _ _ HT.out HB1.out)
  clear hb1 hnb hnr hW1 hg1
  go_upto_region 2 with (refine wpList_store_row rfl 26 (.tmp 1) (.tmp 8) rfl w1.heap.size #[.int .i64 0, .int .i64 0] rfl rfl 26 #[.int .i64 0, .int .i64 0] ?_ HSF.out rfl (fault_one16 _ _) ?_; (exact HAL.out))
  rw [← HW1.out, ← HG1.out]
  have bs : ∀ W : World, (Instr.buildSlice 24 1 #[(0, .int .i64 2)]).run Tryd.prog W = .ok (.slice (some ⟨W.heap.size, 0, none⟩) 1 1) (W.alloc (.cells #[.int .i64 2] 23)) := fun W => by kernel_rfl
  obtain ⟨W2, hW2⟩ : ∃ W, W = W1.alloc (.cells #[.int .i64 2] 23) := ⟨_, rfl⟩
  obtain ⟨g2, hg2⟩ : ∃ g, g = W1.heap.size := ⟨_, rfl⟩
  have h2 : W2.heap[g2]? = some (.cells #[.int .i64 2] 23 (0, 0)) := by rw [hW2, hg2]; exact heap_alloc_new W1 _
  have hb2 : Below W1.heap.size W1 W2 := by rw [hW2]; exact (Below.refl _ _).alloc (Nat.le_refl _) _
  have HB2 := Lib.hid (HB1.out.trans (hb2.mono HB1.out.size))
  have HNR2 := Lib.hid ((hb2.block g1 (Array.getElem?_eq_some_iff.1 HNR.out).1).trans HNR.out)
  have k2 := K.check outPg16 none (some ⟨g2, 0, none⟩) none none none none 0 1 0 0 0 0 W2 (HK.out.keep _ _ HT.out HB2.out) outPg16_ok (by decide) (outPg16_in h2)
  unfold GivesVC at k2
  rw [show checkP outPg16 = (0, 5) from chk_out, show decide ((0, (5 : Int)).2 = 0) = false from rfl] at k2
  have bz2 : ∀ W : World, (Instr.build 32 #[(1, .slice (some ⟨g2, 0, none⟩) 1 1)]).run Tryd.prog W = .ok (.agg #[.slice none 0 0, .slice (some ⟨g2, 0, none⟩) 1 1, .slice none 0 0, .slice none 0 0, .slice none 0 0, .slice none 0 0]) W := fun W => by kernel_rfl
  have hpz : pgV outPg16 none (some ⟨g2, 0, none⟩) none none none none 0 1 0 0 0 0 = .agg #[.slice none 0 0, .slice (some ⟨g2, 0, none⟩) 1 1, .slice none 0 0, .slice none 0 0, .slice none 0 0, .slice none 0 0] := rfl
  rw [hpz] at k2
  rw [hW2] at k2
  rw [hg2] at k2 bz2
  clear hpz h2 hb2 K hg2 hW2
  go_wp2_with fail
  (with_reducible refine k2.mono ?_)
  rintro e w3 ⟨rfl, hb3⟩
  clear k2 bs bz2
  obtain ⟨W3, hW3⟩ : ∃ W, W = ((w3.alloc (.cells #[.int .i64 0, .int .i64 0] 26)).setRow w3.heap.size #[.int .i64 0, .int .i64 5]) := ⟨_, rfl⟩
  obtain ⟨hnb, hnr⟩ := newrow14 w3 26 #[.int .i64 0, .int .i64 0] #[.int .i64 0, .int .i64 5]
  rw [← hW3] at hnb hnr
  have HAL3 := Lib.hid (heap_alloc_new w3 (.cells #[.int .i64 0, .int .i64 0] 26))
  obtain ⟨g3, hg3⟩ : ∃ g, g = w3.heap.size := ⟨_, rfl⟩
  rw [← hg3] at hnr
  have hb13 : Below W1.heap.size W1 W3 := (((Below.refl W1.heap.size W1).alloc (Nat.le_refl _) _).trans (hb3.mono (by simp))).trans (hnb.mono (Nat.le_trans (by simp) hb3.size))
  have HB3 := Lib.hid (HB1.out.trans (hb13.mono HB1.out.size))
  have HN1 := Lib.hid ((hb13.block g1 (Array.getElem?_eq_some_iff.1 HNR.out).1).trans HNR.out)
  have HN3 := Lib.hid hnr
  have HW3 := Lib.hid hW3
  have HG3 := Lib.hid hg3
  have q1 : ∀ W : World, (binOp .eql 26 (.agg #[.int .i64 0, .int .i64 0]) (.agg #[.int .i64 0, .int .i64 0])).run Tryd.prog W = .ok (.bool true) W := fun W => by kernel_rfl
  have q2 : ∀ W : World, (binOp .eql 26 (.agg #[.int .i64 0, .int .i64 5]) (.agg #[.int .i64 0, .int .i64 5])).run Tryd.prog W = .ok (.bool true) W := fun W => by kernel_rfl
  have z1 : ∀ W : World, (Instr.build 26 #[]).run Tryd.prog W = .ok (.agg #[.int .i64 0, .int .i64 0]) W := fun W => by kernel_rfl
  have z2 : ∀ W : World, (Instr.build 26 #[(0, .int .i64 0), (1, .int .i64 5)]).run Tryd.prog W = .ok (.agg #[.int .i64 0, .int .i64 5]) W := fun W => by kernel_rfl
  clear hb3 hnb hnr hb13 hW3 hg3
  go_upto_region 3 with (refine wpList_store_row rfl 26 (.tmp 3) (.tmp 14) rfl w3.heap.size #[.int .i64 0, .int .i64 5] rfl rfl 26 #[.int .i64 0, .int .i64 0] ?_ HSF.out rfl (fault_one16 _ _) ?_; (exact HAL3.out))
  rw [← HW3.out, ← HG3.out]
  go_wp2_with (first | (refine wpList_load_row_g 1 true rfl rfl 26 (.tmp 1) rfl g1 rfl 26 #[.int .i64 0, .int .i64 0] (0, 0) _ ?_ Tryd.underlying26 rfl HSF.out ?_; (exact HN1.out)) | (refine wpList_load_row_g 10 true rfl rfl 26 (.tmp 3) rfl g3 rfl 26 #[.int .i64 0, .int .i64 5] (0, 0) _ ?_ Tryd.underlying26 rfl HSF.out ?_; (exact HN3.out)))
  go_ret
  exact ⟨rfl, HB3.out⟩
end Go.Proofs.YtglplhkbnkbjbaaDoor

namespace Go.Proofs.YtglplhkbnkbjbaaDoor
open Go Go.RowKit
set_option maxRecDepth 100000
theorem size_ops3 : (Tryd.prog.info? 53).map (·.size) = some 3 := by kernel_rfl
theorem ops3_one (a b c : Int) : (#[.int .i64 a, .int .i64 b, .int .i64 c] : Array Value).all (·.oneCell') = true := by simp [Value.oneCell']
def opsV (x : In4) : Value := .agg #[.int .i64 x.a, .int .i64 x.b, .int .i64 x.c]
def inV (x : In4) : Value := .agg #[.int .i64 x.op, .int .i64 x.a, .int .i64 x.b, .int .i64 x.c]
theorem ops_index (x : In4) (k : Nat) (hk : k < 3) (W : World) : (Instr.index 53 (opsV x) (.int .i64 (k : Int))).run Tryd.prog W = .ok (.int .i64 (opnd x k)) W := by
  unfold opsV
  rcases k with _ | _ | _ | k
  · kernel_rfl
  · kernel_rfl
  · kernel_rfl
  · omega
set_option maxHeartbeats 4000000 in
theorem operands_any (x : In4) (w : World) : Calls Tryd.prog 24 #[inV x] w fun e w' => e = .returned (opsV x) ∧ Below w.heap.size w w' := by
  obtain ⟨op, a, b, c⟩ := x
  unfold inV opsV
  obtain ⟨W0, hW0⟩ : ∃ W0, W0 = w.alloc (.cells #[.int .i64 op, .int .i64 a, .int .i64 b, .int .i64 c] 34) := ⟨_, rfl⟩
  have hb0 : Below w.heap.size w W0 := by rw [hW0]; exact (Below.refl _ _).alloc (Nat.le_refl _) _
  have k0 := heap_alloc_new w (.cells #[.int .i64 op, .int .i64 a, .int .i64 b, .int .i64 c] 34)
  rw [← hW0] at k0
  obtain ⟨B, hB⟩ : ∃ B, B = w.heap.size := ⟨_, rfl⟩
  rw [← hB] at k0
  obtain ⟨W1, hW1⟩ : ∃ W1, W1 = W0.alloc (.cells #[.int .i64 0, .int .i64 0, .int .i64 0] 53) := ⟨_, rfl⟩
  have hb1 : Below W0.heap.size W0 W1 := by rw [hW1]; exact (Below.refl _ _).alloc (Nat.le_refl _) _
  have k1 := heap_alloc_new W0 (.cells #[.int .i64 0, .int .i64 0, .int .i64 0] 53)
  rw [← hW1] at k1
  obtain ⟨R, hR⟩ : ∃ R, R = w.heap.size + 1 := ⟨_, rfl⟩
  have hRW : W0.heap.size = R := by rw [hW0, hR]; simp
  rw [hRW] at k1
  have k0' := (hb1.block B (Array.getElem?_eq_some_iff.1 k0).1).trans k0
  have hRge : w.heap.size ≤ R := by rw [← hRW]; exact hb0.size
  have HB01 := Lib.hid (hb0.trans (hb1.mono hb0.size))
  have HW0 := Lib.hid hW0
  have HW1 := Lib.hid hW1
  have HB := Lib.hid hB
  have HR := Lib.hid hR
  have HRge := Lib.hid hRge
  have HSO := Lib.hid size_ops3
  have q1 := cell_of_row W1 B 1 _ _ _ k0'
  have q2 := cell_of_row W1 B 2 _ _ _ k0'
  have q3 := cell_of_row W1 B 3 _ _ _ k0'
  have HK := Lib.hid k1
  have bz : ∀ W : World, (Instr.build 53 #[(0, .int .i64 a), (1, .int .i64 b), (2, .int .i64 c)]).run Tryd.prog W = .ok (.agg #[.int .i64 a, .int .i64 b, .int .i64 c]) W := fun W => by kernel_rfl
  clear k0 k0' k1 hb0 hb1 hW0 hW1 hB hR hRge hRW
  go_enter Tryd.func24, Tryd.ntmps24
  go_upto_region 1 with fail
  rw [← HW0.out, ← HR.out, ← HB.out, ← HW1.out]
  go_wp2_with (refine wpList_store_row rfl 53 (.tmp 2) (.tmp 9) rfl R #[.int .i64 a, .int .i64 b, .int .i64 c] rfl rfl 53 #[.int .i64 0, .int .i64 0, .int .i64 0] ?_ HSO.out rfl (ops3_one _ _ _) ?_; (exact HK.out))
  refine bodyPost_ret (v := .agg #[.int .i64 a, .int .i64 b, .int .i64 c]) (results_cell_row (p := 2) (ty := 53) rfl _ _ R 53 _ (0, 0) _ rfl (setRow_heap _ R _ _ _ _ HK.out) Tryd.underlying53 rfl HSO.out) rfl ?_
  exact ⟨rfl, below_setRow HB01.out HRge.out _⟩
/-- The rows of a program as values. -/
def rowV (p : Pg) (x0 x1 x2 x3 : Option Addr) (c0 c1 c2 c3 : Nat) (r : Int) : Value :=
  if r = 1 ∨ r = 2 then .slice x2 p.slots.length c2 else if r = 4 then .slice x3 p.mems.length c3 else if r = 5 then .slice x0 p.ins.length c0 else if r = 6 then .slice x1 p.outs.length c1 else .slice none 0 0
theorem role_cases {r : Int} (h0 : 0 ≤ r) (h1 : r ≤ 7) : r = 0 ∨ r = 1 ∨ r = 2 ∨ r = 3 ∨ r = 4 ∨ r = 5 ∨ r = 6 ∨ r = 7 := by omega
set_option maxHeartbeats 4000000 in
theorem kinds_any (p : Pg) (x0 x1 x2 x3 x4 x5 : Option Addr) (c0 c1 c2 c3 c4 c5 : Nat) (r : Int) (h0 : 0 ≤ r) (h1 : r ≤ 7) (w : World) : Calls Tryd.prog 26 #[pgV p x0 x1 x2 x3 x4 x5 c0 c1 c2 c3 c4 c5, .int .i64 r] w fun e w' => e = .returned (rowV p x0 x1 x2 x3 c0 c1 c2 c3 r) ∧ Below w.heap.size w w' := by
  obtain ⟨W0, hW0⟩ : ∃ W0, W0 = w.alloc (.cells #[.slice x0 p.ins.length c0, .slice x1 p.outs.length c1, .slice x2 p.slots.length c2, .slice x3 p.mems.length c3, .slice x4 p.consts.length c4, .slice x5 p.code.length c5] 32) := ⟨_, rfl⟩
  have hb0 : Below w.heap.size w W0 := by rw [hW0]; exact (Below.refl _ _).alloc (Nat.le_refl _) _
  have hbk : W0.heap[w.heap.size]? = some (.cells #[.slice x0 p.ins.length c0, .slice x1 p.outs.length c1, .slice x2 p.slots.length c2, .slice x3 p.mems.length c3, .slice x4 p.consts.length c4, .slice x5 p.code.length c5] 32 (0, 0)) := by rw [hW0]; exact heap_alloc_new w _
  obtain ⟨B, hB⟩ : ∃ B, B = w.heap.size := ⟨_, rfl⟩
  rw [← hB] at hbk
  have HB0 := Lib.hid hb0
  have HW0 := Lib.hid hW0
  have HBB := Lib.hid hB
  have q0 := cell_of_row W0 B 0 _ _ _ hbk
  have q1 := cell_of_row W0 B 1 _ _ _ hbk
  have q2 := cell_of_row W0 B 2 _ _ _ hbk
  have q3 := cell_of_row W0 B 3 _ _ _ hbk
  clear hbk hb0 hW0 hB
  unfold pgV rowV
  rcases role_cases h0 h1 with h | h | h | h | h | h | h | h
  all_goals
    subst h
    clear h0 h1
    go_enter Tryd.func26, Tryd.ntmps26
    go_upto_region 1 with fail
    rw [← HW0.out, ← HBB.out]
    go_wp2_with fail
    go_ret
    exact ⟨rfl, HB0.out⟩
end Go.Proofs.YtglplhkbnkbjbaaDoor

namespace Go.Proofs.YtglplhkbnkbjbaaDoor
open Go Go.RowKit
set_option maxRecDepth 100000
theorem wrapI_in (n : Int) (h : -9223372036854775808 ≤ n ∧ n ≤ 9223372036854775807) : IntKind.i64.wrap n = n := by rw [IntKind.wrap_i64]; omega
set_option maxHeartbeats 8000000 in
theorem places_any (p : Pg) (x0 x1 x2 x3 x4 x5 : Option Addr) (c0 c1 c2 c3 c4 c5 : Nat) (hp : p.sum ≤ 100000) (pc : Nat) (hpc : pc ≤ 100000) (r : Int) (h0 : 0 ≤ r) (h1 : r ≤ 7) (w : World) : Calls Tryd.prog 25 #[pgV p x0 x1 x2 x3 x4 x5 c0 c1 c2 c3 c4 c5, .int .i64 (pc : Int), .int .i64 r] w fun e w' => e = .returned (.tuple #[.int .i64 (placesO p pc r).1, .int .i64 (placesO p pc r).2]) ∧ Below w.heap.size w w' := by
  obtain ⟨W0, hW0⟩ : ∃ W0, W0 = w.alloc (.cells #[.slice x0 p.ins.length c0, .slice x1 p.outs.length c1, .slice x2 p.slots.length c2, .slice x3 p.mems.length c3, .slice x4 p.consts.length c4, .slice x5 p.code.length c5] 32) := ⟨_, rfl⟩
  have hb0 : Below w.heap.size w W0 := by rw [hW0]; exact (Below.refl _ _).alloc (Nat.le_refl _) _
  have hbk : W0.heap[w.heap.size]? = some (.cells #[.slice x0 p.ins.length c0, .slice x1 p.outs.length c1, .slice x2 p.slots.length c2, .slice x3 p.mems.length c3, .slice x4 p.consts.length c4, .slice x5 p.code.length c5] 32 (0, 0)) := by rw [hW0]; exact heap_alloc_new w _
  obtain ⟨B, hB⟩ : ∃ B, B = w.heap.size := ⟨_, rfl⟩
  rw [← hB] at hbk
  have HB0 := Lib.hid hb0
  have HW0 := Lib.hid hW0
  have HBB := Lib.hid hB
  have HX := Lib.hid hbk
  have HSP := Lib.hid size_progv
  have kk := fun (q : Int) (q0 : 0 ≤ q) (q1 : q ≤ 7) => kinds_any p x0 x1 x2 x3 x4 x5 c0 c1 c2 c3 c4 c5 q q0 q1 W0
  have q4 := cell_of_row W0 B 4 _ _ _ hbk
  have q5 := cell_of_row W0 B 5 _ _ _ hbk
  have hs : p.consts.length ≤ 100000 ∧ p.code.length ≤ 100000 := by unfold Pg.sum at hp; omega
  unfold pgV at kk ⊢
  obtain ⟨n0, hn0⟩ : ∃ n, n = p.ins.length := ⟨_, rfl⟩
  obtain ⟨n1, hn1⟩ : ∃ n, n = p.outs.length := ⟨_, rfl⟩
  obtain ⟨n2, hn2⟩ : ∃ n, n = p.slots.length := ⟨_, rfl⟩
  obtain ⟨n3, hn3⟩ : ∃ n, n = p.mems.length := ⟨_, rfl⟩
  obtain ⟨n4, hn4⟩ : ∃ n, n = p.consts.length := ⟨_, rfl⟩
  obtain ⟨n5, hn5⟩ : ∃ n, n = p.code.length := ⟨_, rfl⟩
  have e1 : placesO p pc 1 = (0, (n2 : Int)) := by rw [hn2]; simp [placesO, kindsO, rowV]
  have e2 : placesO p pc 2 = (0, (n2 : Int)) := by rw [hn2]; simp [placesO, kindsO, rowV]
  have e4 : placesO p pc 4 = (0, (n3 : Int)) := by rw [hn3]; simp [placesO, kindsO, rowV]
  have e5 : placesO p pc 5 = (0, (n0 : Int)) := by rw [hn0]; simp [placesO, kindsO, rowV]
  have e6 : placesO p pc 6 = (0, (n1 : Int)) := by rw [hn1]; simp [placesO, kindsO, rowV]
  have e0 : placesO p pc 0 = (0, 0) := by simp [placesO, kindsO]
  have e3 : placesO p pc 3 = (0, (n4 : Int)) := by rw [hn4]; simp [placesO]
  have e7 : placesO p pc 7 = ((pc : Int) + 1, (n5 : Int) + 1) := by rw [hn5]; simp [placesO]
  have r0 : rowV p x0 x1 x2 x3 c0 c1 c2 c3 0 = .slice none 0 0 := by simp [rowV]
  have r1 : rowV p x0 x1 x2 x3 c0 c1 c2 c3 1 = .slice x2 n2 c2 := by rw [hn2]; simp [placesO, kindsO, rowV]
  have r2 : rowV p x0 x1 x2 x3 c0 c1 c2 c3 2 = .slice x2 n2 c2 := by rw [hn2]; simp [placesO, kindsO, rowV]
  have r4 : rowV p x0 x1 x2 x3 c0 c1 c2 c3 4 = .slice x3 n3 c3 := by rw [hn3]; simp [placesO, kindsO, rowV]
  have r5 : rowV p x0 x1 x2 x3 c0 c1 c2 c3 5 = .slice x0 n0 c0 := by rw [hn0]; simp [placesO, kindsO, rowV]
  have r6 : rowV p x0 x1 x2 x3 c0 c1 c2 c3 6 = .slice x1 n1 c1 := by rw [hn1]; simp [placesO, kindsO, rowV]
  rw [← hn0, ← hn1, ← hn2, ← hn3, ← hn4, ← hn5] at HW0 HX kk ⊢
  rw [← hn4] at q4
  rw [← hn5] at q5
  rw [← hn4, ← hn5] at hs
  have hr1 : -9223372036854775808 ≤ (pc : Int) + 1 ∧ (pc : Int) + 1 ≤ 9223372036854775807 := by omega
  have hr2 : -9223372036854775808 ≤ (n5 : Int) + 1 ∧ (n5 : Int) + 1 ≤ 9223372036854775807 := by omega
  have hw1 : wrap64 ((pc : Int) + 1) = (pc : Int) + 1 := wrap_in14 _ hr1
  have hw2 : wrap64 ((n5 : Int) + 1) = (n5 : Int) + 1 := wrap_in14 _ hr2
  have hw3 : IntKind.i64.wrap ((pc : Int) + 1) = (pc : Int) + 1 := wrapI_in _ hr1
  have hw4 : IntKind.i64.wrap ((n5 : Int) + 1) = (n5 : Int) + 1 := wrapI_in _ hr2
  clear hr1 hr2
  have W1 := Lib.hid hw1
  have W2 := Lib.hid hw2
  have W3 := Lib.hid hw3
  have W4 := Lib.hid hw4
  have KK := Lib.hid kk
  clear hn0 hn1 hn2 hn3 hn4 hn5 hbk hb0 hW0 hB hs hp hpc hw1 hw2 hw3 hw4 kk
  rcases role_cases h0 h1 with h | h | h | h | h | h | h | h
  · subst h
    rw [e0]
    clear h0 h1
    have kc := KK.out 0 (by decide) (by decide)
    rw [r0] at kc
    clear e0 e1 e2 e3 e4 e5 e6 e7 r0 r1 r2 r4 r5 r6 q4 q5
    go_enter Tryd.func25, Tryd.ntmps25
    go_upto_region 1 with fail
    rw [← HW0.out, ← HBB.out]
    go_wp2_with (refine wpList_load_row rfl 32 (.tmp 3) rfl B rfl 32 #[.slice x0 n0 c0, .slice x1 n1 c1, .slice x2 n2 c2, .slice x3 n3 c3, .slice x4 n4 c4, .slice x5 n5 c5] (0, 0) _ ?_ Tryd.underlying32 rfl HSP.out ?_; (exact HX.out))
    (with_reducible refine kc.mono ?_)
    rintro e w2 ⟨rfl, hb2⟩
    have HB2 := Lib.hid (HB0.out.trans (hb2.mono HB0.out.size))
    clear kc hb2
    go_wp2_with fail
    go_ret2
    exact ⟨rfl, HB2.out⟩
  · subst h
    rw [e1]
    clear h0 h1
    have kc := KK.out 1 (by decide) (by decide)
    rw [r1] at kc
    clear e0 e1 e2 e3 e4 e5 e6 e7 r0 r1 r2 r4 r5 r6 q4 q5
    go_enter Tryd.func25, Tryd.ntmps25
    go_upto_region 1 with fail
    rw [← HW0.out, ← HBB.out]
    go_wp2_with (refine wpList_load_row rfl 32 (.tmp 3) rfl B rfl 32 #[.slice x0 n0 c0, .slice x1 n1 c1, .slice x2 n2 c2, .slice x3 n3 c3, .slice x4 n4 c4, .slice x5 n5 c5] (0, 0) _ ?_ Tryd.underlying32 rfl HSP.out ?_; (exact HX.out))
    (with_reducible refine kc.mono ?_)
    rintro e w2 ⟨rfl, hb2⟩
    have HB2 := Lib.hid (HB0.out.trans (hb2.mono HB0.out.size))
    clear kc hb2
    go_wp2_with fail
    go_ret2
    exact ⟨rfl, HB2.out⟩
  · subst h
    rw [e2]
    clear h0 h1
    have kc := KK.out 2 (by decide) (by decide)
    rw [r2] at kc
    clear e0 e1 e2 e3 e4 e5 e6 e7 r0 r1 r2 r4 r5 r6 q4 q5
    go_enter Tryd.func25, Tryd.ntmps25
    go_upto_region 1 with fail
    rw [← HW0.out, ← HBB.out]
    go_wp2_with (refine wpList_load_row rfl 32 (.tmp 3) rfl B rfl 32 #[.slice x0 n0 c0, .slice x1 n1 c1, .slice x2 n2 c2, .slice x3 n3 c3, .slice x4 n4 c4, .slice x5 n5 c5] (0, 0) _ ?_ Tryd.underlying32 rfl HSP.out ?_; (exact HX.out))
    (with_reducible refine kc.mono ?_)
    rintro e w2 ⟨rfl, hb2⟩
    have HB2 := Lib.hid (HB0.out.trans (hb2.mono HB0.out.size))
    clear kc hb2
    go_wp2_with fail
    go_ret2
    exact ⟨rfl, HB2.out⟩
  · subst h
    rw [e3]
    clear h0 h1
    clear e0 e1 e2 e3 e4 e5 e6 e7 r0 r1 r2 r4 r5 r6
    go_enter Tryd.func25, Tryd.ntmps25
    go_upto_region 1 with fail
    rw [← HW0.out, ← HBB.out]
    go_upto_region 3 with fail
    go_quiet (fail)
    go_wp2_with fail
    go_ret2
    refine ⟨?_, by first | exact HB0.out | exact HB0.out.drew | exact below_drewN HB0.out _⟩
    first | rfl | simp [W1.out, W2.out, W3.out, W4.out]
  · subst h
    rw [e4]
    clear h0 h1
    have kc := KK.out 4 (by decide) (by decide)
    rw [r4] at kc
    clear e0 e1 e2 e3 e4 e5 e6 e7 r0 r1 r2 r4 r5 r6 q4 q5
    go_enter Tryd.func25, Tryd.ntmps25
    go_upto_region 1 with fail
    rw [← HW0.out, ← HBB.out]
    go_wp2_with (refine wpList_load_row rfl 32 (.tmp 3) rfl B rfl 32 #[.slice x0 n0 c0, .slice x1 n1 c1, .slice x2 n2 c2, .slice x3 n3 c3, .slice x4 n4 c4, .slice x5 n5 c5] (0, 0) _ ?_ Tryd.underlying32 rfl HSP.out ?_; (exact HX.out))
    (with_reducible refine kc.mono ?_)
    rintro e w2 ⟨rfl, hb2⟩
    have HB2 := Lib.hid (HB0.out.trans (hb2.mono HB0.out.size))
    clear kc hb2
    go_wp2_with fail
    go_ret2
    exact ⟨rfl, HB2.out⟩
  · subst h
    rw [e5]
    clear h0 h1
    have kc := KK.out 5 (by decide) (by decide)
    rw [r5] at kc
    clear e0 e1 e2 e3 e4 e5 e6 e7 r0 r1 r2 r4 r5 r6 q4 q5
    go_enter Tryd.func25, Tryd.ntmps25
    go_upto_region 1 with fail
    rw [← HW0.out, ← HBB.out]
    go_wp2_with (refine wpList_load_row rfl 32 (.tmp 3) rfl B rfl 32 #[.slice x0 n0 c0, .slice x1 n1 c1, .slice x2 n2 c2, .slice x3 n3 c3, .slice x4 n4 c4, .slice x5 n5 c5] (0, 0) _ ?_ Tryd.underlying32 rfl HSP.out ?_; (exact HX.out))
    (with_reducible refine kc.mono ?_)
    rintro e w2 ⟨rfl, hb2⟩
    have HB2 := Lib.hid (HB0.out.trans (hb2.mono HB0.out.size))
    clear kc hb2
    go_wp2_with fail
    go_ret2
    exact ⟨rfl, HB2.out⟩
  · subst h
    rw [e6]
    clear h0 h1
    have kc := KK.out 6 (by decide) (by decide)
    rw [r6] at kc
    clear e0 e1 e2 e3 e4 e5 e6 e7 r0 r1 r2 r4 r5 r6 q4 q5
    go_enter Tryd.func25, Tryd.ntmps25
    go_upto_region 1 with fail
    rw [← HW0.out, ← HBB.out]
    go_wp2_with (refine wpList_load_row rfl 32 (.tmp 3) rfl B rfl 32 #[.slice x0 n0 c0, .slice x1 n1 c1, .slice x2 n2 c2, .slice x3 n3 c3, .slice x4 n4 c4, .slice x5 n5 c5] (0, 0) _ ?_ Tryd.underlying32 rfl HSP.out ?_; (exact HX.out))
    (with_reducible refine kc.mono ?_)
    rintro e w2 ⟨rfl, hb2⟩
    have HB2 := Lib.hid (HB0.out.trans (hb2.mono HB0.out.size))
    clear kc hb2
    go_wp2_with fail
    go_ret2
    exact ⟨rfl, HB2.out⟩
  · subst h
    rw [e7]
    clear h0 h1
    clear e0 e1 e2 e3 e4 e5 e6 e7 r0 r1 r2 r4 r5 r6
    go_enter Tryd.func25, Tryd.ntmps25
    go_upto_region 1 with fail
    rw [← HW0.out, ← HBB.out]
    go_upto_region 5 with fail
    go_quiet (fail)
    go_wp2_with fail
    go_ret2
    refine ⟨?_, by first | exact HB0.out | exact HB0.out.drew | exact below_drewN HB0.out _⟩
    first | rfl | simp [W1.out, W2.out, W3.out, W4.out]
end Go.Proofs.YtglplhkbnkbjbaaDoor

namespace Go.Proofs.YtglplhkbnkbjbaaDoor
open Go Go.RowKit
set_option maxRecDepth 100000
theorem areK1_any (k : Int) (w : World) : Calls Tryd.prog 34 #[.int .i64 k] w fun e w' => e = .returned (.bool (!kindOk k)) ∧ w' = w := by
  by_cases h1 : k = 1
  · subst h1
    go_enter Tryd.func34, Tryd.ntmps34
    go_wp2_with fail
    go_ret
    exact ⟨rfl, rfl⟩
  · by_cases h2 : k = 2
    · subst h2
      go_enter Tryd.func34, Tryd.ntmps34
      go_wp2_with fail
      go_ret
      exact ⟨rfl, rfl⟩
    · have e1 : (k == 1) = false := by simp [h1]
      have e2 : (k == 2) = false := by simp [h2]
      have e3 : (k != 1) = true := by simp [h1]
      have e4 : (k != 2) = true := by simp [h2]
      have hk : kindOk k = false := by unfold kindOk; rw [e1, e2]; rfl
      have HK := Lib.hid hk
      clear h1 h2 hk e1 e2
      go_enter Tryd.func34, Tryd.ntmps34
      go_wp2_with fail
      go_ret
      exact ⟨by rw [HK.out]; rfl, rfl⟩
theorem wrap_succV {i : Nat} (h : i < 1000000000) : wrap64 ((i : Int) + 1) = ((i + 1 : Nat) : Int) := by unfold wrap64; omega
set_option maxHeartbeats 4000000 in
theorem idxK_any (l : List Int) (w : World) (x : Option Addr) (c : Nat) (hfew : l.length ≤ 1000000) (hr : Row (Value.int .i64) w x l) : Calls Tryd.prog 38 #[.slice x l.length c, .func (.func 34) #[] #[]] w (fun e w' => ∃ k : Int, e = .returned (.int .i64 k) ∧ decide (0 ≤ k) = l.any (fun k => !kindOk k) ∧ w' = w) := by
  have HR := Lib.hid hr
  have HFEW := Lib.hid hfew
  clear hr hfew
  go_enter Tryd.func38, Tryd.ntmps38
  go_wp2_with fail
  go_loopw [8] (fun v8 wr => ∃ (i : Nat), v8 = .int .i64 (i : Int) ∧ i ≤ l.length ∧ wr = w ∧ (l.take i).any (fun k => !kindOk k) = false)
    (fun v8 _ => l.length - (intOf v8).toNat)
  case atStart => exact ⟨0, rfl, Nat.zero_le _, rfl, rfl⟩
  case round =>
    obtain ⟨i, rfl, hi, rfl, hq⟩ := hrel
    have HI := Lib.hid hi
    have HQ := Lib.hid hq
    clear hi hq
    by_cases hil : i < l.length
    · have d1 : decide ((i : Int) < (l.length : Int)) = true := by simp; omega
      have HIL := Lib.hid hil
      obtain ⟨b, o, rfl, hb, hc⟩ := HR.out (by intro h; rw [h] at hil; simp at hil)
      have hci := hc i hil
      have hnx : (l.take (i + 1)).any (fun k => !kindOk k) = !kindOk (l[i]'hil) := by
        rw [List.take_add_one, List.any_append, HQ.out, List.getElem?_eq_getElem hil]
        simp
      have hhit : (!kindOk (l[i]'hil)) = true → l.any (fun k => !kindOk k) = true := fun h => List.any_eq_true.2 ⟨_, List.getElem_mem hil, h⟩
      obtain ⟨r, hrr⟩ : ∃ r, r = l[i]'hil := ⟨_, rfl⟩
      rw [← hrr] at hci hnx hhit
      have i0 : (0 : Int) ≤ (i : Int) := by omega
      have i1 : (i : Int) < (l.length : Int) := by omega
      have kk := areK1_any r wr
      obtain ⟨q, hpq⟩ : ∃ q, q = !kindOk r := ⟨_, rfl⟩
      rw [← hpq] at kk hnx hhit
      have HNX := Lib.hid hnx
      have HHIT := Lib.hid hhit
      clear hil hc hb hrr hpq hnx hhit
      go_wp2_with fail
      (with_reducible refine kk.mono ?_)
      rintro e9 w4 ⟨rfl, rfl⟩
      clear kk
      cases q with
      | true =>
        have HH := Lib.hid (show l.any (fun k => !kindOk k) = true from HHIT.out rfl)
        clear HHIT
        go_wp2_with fail
        go_ret
        exact ⟨(i : Int), rfl, by rw [HH.out]; simp, rfl⟩
      | false =>
        go_wp2_with fail
        refine ⟨⟨i + 1, by rw [wrap_succV (by have := HIL.out; have := HFEW.out; omega)], HIL.out, trivial, HNX.out⟩, ?_⟩
        rw [wrap_succV (by have := HIL.out; have := HFEW.out; omega)]
        have := HIL.out
        simp only [intOf]; omega
    · have d1 : decide ((i : Int) < (l.length : Int)) = false := by simp; omega
      have HQ2 := Lib.hid (show l.any (fun k => !kindOk k) = false by have := HQ.out; rwa [List.take_of_length_le (by omega)] at this)
      obtain rfl : i = l.length := by have := HI.out; omega
      clear hil
      go_wp2_with fail
      go_ret
      exact ⟨-1, rfl, by rw [HQ2.out]; decide, rfl⟩
set_option maxHeartbeats 4000000 in
theorem conK_any (l : List Int) (w : World) (x : Option Addr) (c : Nat) (hfew : l.length ≤ 1000000) (hr : Row (Value.int .i64) w x l) : Calls Tryd.prog 33 #[.slice x l.length c, .func (.func 34) #[] #[]] w (fun e w' => e = .returned (.bool (l.any (fun k => !kindOk k))) ∧ w' = w) := by
  have ki := idxK_any l w x c hfew hr
  obtain ⟨q, hq⟩ : ∃ q, q = l.any (fun k => !kindOk k) := ⟨_, rfl⟩
  rw [← hq] at ki ⊢
  clear hfew hr hq
  go_enter Tryd.func33, Tryd.ntmps33
  go_wp2_with fail
  (with_reducible refine ki.mono ?_)
  rintro e9 w4 ⟨k, rfl, hk, rfl⟩
  clear ki
  go_wp2_with fail
  go_ret
  exact ⟨rfl, rfl⟩
set_option maxHeartbeats 4000000 in
theorem areKinds_any (l : List Int) (w : World) (x : Option Addr) (c : Nat) (hfew : l.length ≤ 1000000) (hr : Row (Value.int .i64) w x l) : Calls Tryd.prog 23 #[.slice x l.length c] w (fun e w' => e = .returned (.bool (l.all kindOk)) ∧ w' = w) := by
  have ki := conK_any l w x c hfew hr
  have he : l.all kindOk = !l.any (fun k => !kindOk k) := by
    rw [List.not_any_eq_all_not]
    congr 1
    funext k
    simp
  obtain ⟨q, hq⟩ : ∃ q, q = l.any (fun k => !kindOk k) := ⟨_, rfl⟩
  rw [← hq] at ki he
  rw [he]
  clear hfew hr hq he
  go_enter Tryd.func23, Tryd.ntmps23
  go_wp2_with fail
  (with_reducible refine ki.mono ?_)
  rintro e9 w4 ⟨rfl, rfl⟩
  clear ki
  cases q <;> (go_wp2_with fail; go_ret; exact ⟨rfl, rfl⟩)
end Go.Proofs.YtglplhkbnkbjbaaDoor

namespace Go.Proofs.YtglplhkbnkbjbaaDoor
open Go Go.RowKit
set_option maxRecDepth 100000
section
variable {P : Program} {W : World} {o : Oper} {ρ : Operand → Value}
theorem run_idxarrG {t e : TypeId} {n sz : Nat} {x ix : Operand} {g k off : Nat} (ho : o.op = .indexAddr t x ix) (ht : P.underlying t = some (.array n e)) (hi : (P.info? e).map (·.size) = some sz)
    (hx : ρ x = .pointer (some ⟨g, off, none⟩)) (hk : ρ ix = .int .i64 (k : Int)) (hlt : k < n) : (execOp ρ o).run P W = .ok (.value (.pointer (some ⟨g, off + k * sz, none⟩))) W := by
  have he : P.elem t = e := by simp [Program.elem, ht]
  have hn : P.arrayLen t = n := by simp [Program.arrayLen, ht]
  have ht' : P.underlying t = some (.array (P.arrayLen t) (P.elem t)) := by rw [he, hn]; exact ht
  obtain ⟨i, hi1, hi2⟩ : ∃ i, P.info? e = some i ∧ i.size = sz := by
    cases h : P.info? e with
    | none => rw [h] at hi; cases hi
    | some i => rw [h] at hi; exact ⟨i, rfl, by simpa using hi⟩
  simp [execOp, ho, hx, hk, run_indexAt_array W t ⟨g, off, none⟩ .i64 (k : Int) ht', he, hn, sizeOf, typeInfo, hi1, hi2, hlt, Result.andThen, Addr.add]
theorem run_ext {x : Operand} {i : Nat} {vs : Array Value} {v : Value} (ho : o.op = .extract x i) (hx : ρ x = .tuple vs) (hv : vs[i]? = some v) : (execOp ρ o).run P W = .ok (.value v) W := by
  simp [execOp, ho, hx, hv, Result.andThen, Instr.extract, go_sem]
theorem run_enter3 {f : FuncId} {x y z : Operand} {ts : Array TypeId} (ho : o.op = .call { callee := .value (.func f), args := #[x, y, z], argTypes := ts }) (hf : ρ (.func f) = .func (.func f) #[] #[]) (hcf : ∀ (args : Array Value) (w : World), (callFunc f args).run P w = .ok (.enter f args) w) :
    (execOp ρ o).run P W = .ok (.enter f #[ρ x, ρ y, ρ z]) W := by
  simp [execOp, ho, resolve, hf, invoke, Deferred.ofValue, hcf]
end
theorem size_role3 : (Tryd.prog.info? 57).map (·.size) = some 3 := by kernel_rfl
theorem size_role1 : (Tryd.prog.info? 56).map (·.size) = some 1 := by kernel_rfl
theorem run_rolesA {W : World} {o : Oper} {ρ : Operand → Value} {x ix : Operand} {q : Nat} (ho : o.op = .indexAddr 58 x ix) (hx : ρ x = .pointer (some ⟨0, 0, none⟩)) (hk : ρ ix = .int .i64 (q : Int)) (hlt : q < 21) : (execOp ρ o).run Tryd.prog W = .ok (.value (.pointer (some ⟨0, q * 3, none⟩))) W := by
  have h := run_idxarrG (P := Tryd.prog) (W := W) ho Tryd.underlying58 size_role3 hx hk hlt
  rw [h, Nat.zero_add]
theorem run_rolesB {W : World} {o : Oper} {ρ : Operand → Value} {x ix : Operand} {off k : Nat} (ho : o.op = .indexAddr 57 x ix) (hx : ρ x = .pointer (some ⟨0, off, none⟩)) (hk : ρ ix = .int .i64 (k : Int)) (hlt : k < 3) : (execOp ρ o).run Tryd.prog W = .ok (.value (.pointer (some ⟨0, off + k, none⟩))) W := by
  have h := run_idxarrG (P := Tryd.prog) (W := W) ho Tryd.underlying57 size_role1 hx hk hlt
  rw [h, Nat.mul_one]
theorem role_range : ∀ (op k : Nat), op < 21 → k < 3 → 0 ≤ roleO (op : Int) k ∧ roleO (op : Int) k ≤ 7 := by
  intro op k h1 h2
  unfold roleO
  rw [Int.toNat_natCast]
  have : ∀ op, op < 21 → ∀ k, k < 3 → 0 ≤ (rolesT.getD op []).getD k 0 ∧ (rolesT.getD op []).getD k 0 ≤ 7 := by decide
  exact this op h1 k h2
end Go.Proofs.YtglplhkbnkbjbaaDoor

namespace Go.Proofs.YtglplhkbnkbjbaaDoor
open Go Go.RowKit
def u64s (us : List Nat) : List Value := us.map fun (u : Nat) => Value.int .u64 (u : Int)
/-- The words of a set, a bit a truth. -/
structure WordsOf (us : List Nat) (l : List Bool) : Prop where
  len : us.length = l.length / 64 + 1
  few : ∀ u ∈ us, u < 18446744073709551616
  bit : ∀ k, k < l.length → l.getD k false = (us.getD (k / 64) 0).testBit (k % 64)
def SWu (w : World) (b : Nat) (us : List Nat) : Prop := ∃ rest : List Value, w.heap[b]? = some (.cells (u64s us ++ rest).toArray 75 (0, 0))
/-- A set in memory. -/
def SW (w : World) (b : Nat) (l : List Bool) : Prop := ∃ us, SWu w b us ∧ WordsOf us l
theorem SWu.lt {w : World} {b : Nat} {us : List Nat} (h : SWu w b us) : b < w.heap.size := by obtain ⟨r, h⟩ := h; exact (Array.getElem?_eq_some_iff.1 h).1
theorem SWu.cell {w : World} {b : Nat} {us : List Nat} (h : SWu w b us) (i : Nat) (hi : i < us.length) : w.cell? ⟨b, i, none⟩ = some (.int .u64 ((us.getD i 0 : Nat) : Int)) := by
  obtain ⟨r, h⟩ := h
  rw [cell_of_row w b i _ _ _ h]
  simp [u64s]
  rw [List.getElem?_append_left (by simpa using hi)]
  simp [hi]
theorem SWu.frozen {w : World} {b : Nat} {us : List Nat} (h : SWu w b us) (i : Nat) : w.frozen? ⟨b, i, none⟩ = false := by
  obtain ⟨r, h⟩ := h
  exact frozen_of_row w b i _ _ h
theorem SWu.set {w : World} {b : Nat} {us : List Nat} (h : SWu w b us) (i : Nat) (hi : i < us.length) (x : Nat) : SWu (w.setCell ⟨b, i, none⟩ (.int .u64 (x : Int))) b (us.set i x) := by
  obtain ⟨r, h⟩ := h
  refine ⟨r, ?_⟩
  have := heap_setCell_same w b i _ _ (.int .u64 (x : Int)) h
  rw [this]
  congr 2
  simp [u64s, List.set_append, hi, List.map_set]
theorem SWu.same {w w' : World} {b : Nat} {us : List Nat} (h : SWu w b us) (e : w'.heap[b]? = w.heap[b]?) : SWu w' b us := by
  obtain ⟨r, h⟩ := h
  exact ⟨r, e.trans h⟩
theorem SW.same {w w' : World} {b : Nat} {l : List Bool} (h : SW w b l) (e : w'.heap[b]? = w.heap[b]?) : SW w' b l := by
  obtain ⟨us, h1, h2⟩ := h
  exact ⟨us, h1.same e, h2⟩
theorem SW.lt {w : World} {b : Nat} {l : List Bool} (h : SW w b l) : b < w.heap.size := by obtain ⟨us, h1, _⟩ := h; exact h1.lt
theorem SW.type {w : World} {b : Nat} {l : List Bool} (h : SW w b l) : ∃ cs, w.heap[b]? = some (.cells cs 75 (0, 0)) := by obtain ⟨us, ⟨r, h1⟩, _⟩ := h; exact ⟨_, h1⟩
theorem WordsOf.set {us : List Nat} {l : List Bool} (h : WordsOf us l) (k : Nat) (hk : k < l.length) : WordsOf (us.set (k / 64) (us.getD (k / 64) 0 ||| 2 ^ (k % 64))) (l.set k true) where
  len := by rw [List.length_set, List.length_set]; exact h.len
  few := fun u hu => by
    rcases List.mem_or_eq_of_mem_set hu with hu | rfl
    · exact h.few u hu
    · have hq : k / 64 < us.length := by rw [h.len]; omega
      have h1 : us.getD (k / 64) 0 < 2 ^ 64 := by
        rw [List.getD_eq_getElem?_getD, List.getElem?_eq_getElem hq]
        exact h.few _ (List.getElem_mem _)
      exact Nat.or_lt_two_pow h1 (Nat.pow_lt_pow_right (by decide) (by omega))
  bit := fun j hj => by
    rw [List.length_set] at hj
    have hq : k / 64 < us.length := by rw [h.len]; omega
    by_cases hjk : j = k
    · subst hjk
      rw [List.getD_eq_getElem?_getD, List.getElem?_set_self hj, List.getD_eq_getElem?_getD, List.getElem?_set_self hq]
      simp [Nat.testBit_two_pow_self]
    · rw [List.getD_eq_getElem?_getD, List.getElem?_set_ne (fun e => hjk e.symm), ← List.getD_eq_getElem?_getD, h.bit j hj]
      by_cases hd : j / 64 = k / 64
      · rw [hd, List.getD_eq_getElem?_getD, List.getD_eq_getElem?_getD, List.getElem?_set_self hq]
        have hm : k % 64 ≠ j % 64 := by omega
        simp [Nat.testBit_or, Nat.testBit_two_pow_of_ne hm]
      · rw [List.getD_eq_getElem?_getD, List.getD_eq_getElem?_getD, List.getElem?_set_ne (fun e => hd e.symm)]
theorem words_false (n : Nat) : WordsOf (List.replicate (n / 64 + 1) 0) (List.replicate n false) where
  len := by simp
  few := fun u hu => by rw [(List.mem_replicate.1 hu).2]; decide
  bit := fun k hk => by
    rw [List.length_replicate] at hk
    have : k / 64 < n / 64 + 1 := by omega
    simp [List.getD_eq_getElem?_getD, List.getElem?_replicate, hk, this]
set_option maxHeartbeats 4000000 in
set_option maxRecDepth 100000 in
theorem setAdd_any (w : World) (b m c k : Nat) (l : List Bool) (hs : SW w b l) (hm : m = l.length / 64 + 1) (hk : k < l.length) (hl : l.length ≤ 100000) :
    Calls Tryd.prog 36 #[.slice (some ⟨b, 0, none⟩) m c, .int .i64 (k : Int)] w fun e w' => e = .returned (.tuple #[]) ∧ SW w' b (l.set k true) ∧ w.grownBy w' (some b) := by
  obtain ⟨us, hu, hw⟩ := hs
  have hq : k / 64 < us.length := by rw [hw.len]; omega
  have hnew := hw.set k hk
  obtain ⟨q, hqd⟩ : ∃ q, q = k / 64 := ⟨_, rfl⟩
  obtain ⟨r, hrd⟩ : ∃ r, r = k % 64 := ⟨_, rfl⟩
  have f1 : ∀ (t : TypeId) (W : World), (binOp .quo t (.int .i64 (k : Int)) (.int .i64 64)).run Tryd.prog W = .ok (.int .i64 (q : Int)) W := fun t W => by rw [hqd]; exact bin_quo64 k (by omega)
  have f2 : ∀ (t : TypeId) (W : World), (binOp .rem t (.int .i64 (k : Int)) (.int .i64 64)).run Tryd.prog W = .ok (.int .i64 (r : Int)) W := fun t W => by rw [hrd]; exact bin_rem64 k (by omega)
  have hr64 : r < 64 := by omega
  rw [← hqd, ← hrd] at hnew
  rw [← hqd] at hq
  have i0 : (0 : Int) ≤ (q : Int) := by omega
  have i1 : (q : Int) < (m : Int) := by have := hw.len; omega
  have hcell := hu.cell q hq
  have hfr := hu.frozen q
  have hx : us.getD q 0 < 18446744073709551616 := by
    rw [List.getD_eq_getElem?_getD, List.getElem?_eq_getElem hq]
    exact hw.few _ (List.getElem_mem _)
  obtain ⟨x, hxd⟩ : ∃ x, x = us.getD q 0 := ⟨_, rfl⟩
  rw [← hxd] at hcell hx hnew
  obtain ⟨y, hyd⟩ : ∃ y, y = 2 ^ r := ⟨_, rfl⟩
  have hy : y < 18446744073709551616 := by rw [hyd]; exact Nat.pow_lt_pow_right (by decide) hr64
  have f3 : ∀ (t : TypeId) (W : World), (binOp .shl t (.int .u64 1) (.int .i64 (r : Int))).run Tryd.prog W = .ok (.int .u64 (y : Int)) W := fun t W => by rw [hyd]; exact bin_shl64 r hr64
  rw [← hyd] at hnew
  obtain ⟨z, hzd⟩ : ∃ z, z = x ||| y := ⟨_, rfl⟩
  have f4 : ∀ (t : TypeId) (W : World), (binOp .or t (.int .u64 (x : Int)) (.int .u64 (y : Int))).run Tryd.prog W = .ok (.int .u64 (z : Int)) W := fun t W => by rw [hzd]; exact bin_or64 x y hx hy
  rw [← hzd] at hnew
  have F1 := Lib.hid f1
  have F2 := Lib.hid f2
  have F3 := Lib.hid f3
  have F4 := Lib.hid f4
  have HN := Lib.hid hnew
  have HU := Lib.hid hu
  have HQ := Lib.hid hq
  clear hu hw hq hnew hm hqd hrd hxd hyd hzd f1 f2 f3 f4 hr64 hx hy hk hl
  go_enter Tryd.func36, Tryd.ntmps36
  go_wp2_with fail
  refine wp_region_still_tail 9 (by kernel_rfl) (by kernel_rfl) ?_
  simp only [List.take_succ_cons, List.take_zero, List.drop_succ_cons, List.drop_zero]
  iterate 2 still_step
  refine wpStill_val rfl (run_ints rfl rfl rfl (F1.out _ _)) ?_
  iterate 3 still_step
  refine wpStill_val rfl (run_ints rfl rfl rfl (F2.out _ _)) ?_
  refine wpStill_val rfl (run_ints rfl rfl rfl (F3.out _ _)) ?_
  refine wpStill_val rfl (run_ints rfl rfl rfl (F4.out _ _)) ?_
  refine wpStill_nil ?_
  change wpList _ _ _ _ _ w.drew
  have hc2 : w.drew.cell? ⟨b, q, none⟩ = some (Value.int .u64 (x : Int)) := hcell
  have hf2 : w.drew.frozen? ⟨b, q, none⟩ = false := hfr
  have hs2 : SWu (w.drew.setCell ⟨b, q, none⟩ (.int .u64 (z : Int))) b (us.set q z) := SWu.set (w := w.drew) HU.out q HQ.out z
  have hg2 : w.grownBy (w.drew.setCell ⟨b, q, none⟩ (.int .u64 (z : Int))) (some b) := grownV_set (grownV_drew (World.grownBy.refl w _)) _ _ (.inl rfl)
  have HS2 := Lib.hid hs2
  have HG2 := Lib.hid hg2
  clear hcell hfr hs2 hg2
  generalize w.drew = w4 at hc2 hf2 HS2 HG2 ⊢
  go_wp2_with fail
  (try simp only [Exit.inBlock, Exit.then])
  refine bodyPost_end (results_none rfl _ _ _) rfl ?_
  exact ⟨rfl, ⟨_, HS2.out, HN.out⟩, HG2.out⟩
set_option maxHeartbeats 4000000 in
set_option maxRecDepth 100000 in
theorem setHas_any (w : World) (b m c k : Nat) (l : List Bool) (hs : SW w b l) (hm : m = l.length / 64 + 1) (hk : k < l.length) (hl : l.length ≤ 100000) :
    Calls Tryd.prog 30 #[.slice (some ⟨b, 0, none⟩) m c, .int .i64 (k : Int)] w fun e w' => e = .returned (.bool (l.getD k false)) ∧ w' = w := by
  obtain ⟨us, hu, hw⟩ := hs
  have hq : k / 64 < us.length := by rw [hw.len]; omega
  obtain ⟨q, hqd⟩ : ∃ q, q = k / 64 := ⟨_, rfl⟩
  obtain ⟨r, hrd⟩ : ∃ r, r = k % 64 := ⟨_, rfl⟩
  have hbit := hw.bit k hk
  rw [← hqd, ← hrd] at hbit
  have f1 : ∀ (t : TypeId) (W : World), (binOp .quo t (.int .i64 (k : Int)) (.int .i64 64)).run Tryd.prog W = .ok (.int .i64 (q : Int)) W := fun t W => by rw [hqd]; exact bin_quo64 k (by omega)
  have f2 : ∀ (t : TypeId) (W : World), (binOp .rem t (.int .i64 (k : Int)) (.int .i64 64)).run Tryd.prog W = .ok (.int .i64 (r : Int)) W := fun t W => by rw [hrd]; exact bin_rem64 k (by omega)
  have hr64 : r < 64 := by omega
  rw [← hqd] at hq
  have i0 : (0 : Int) ≤ (q : Int) := by omega
  have i1 : (q : Int) < (m : Int) := by have := hw.len; omega
  have hcell := hu.cell q hq
  have hx : us.getD q 0 < 18446744073709551616 := by
    rw [List.getD_eq_getElem?_getD, List.getElem?_eq_getElem hq]
    exact hw.few _ (List.getElem_mem _)
  obtain ⟨x, hxd⟩ : ∃ x, x = us.getD q 0 := ⟨_, rfl⟩
  rw [← hxd] at hcell hx hbit
  obtain ⟨y, hyd⟩ : ∃ y, y = x >>> r := ⟨_, rfl⟩
  have hy : y < 18446744073709551616 := by rw [hyd]; exact Nat.lt_of_le_of_lt (Nat.shiftRight_le _ _) hx
  have f3 : ∀ (t : TypeId) (W : World), (binOp .shr t (.int .u64 (x : Int)) (.int .i64 (r : Int))).run Tryd.prog W = .ok (.int .u64 (y : Int)) W := fun t W => by rw [hyd]; exact bin_shr64 x r hr64
  obtain ⟨z, hzd⟩ : ∃ z, z = y &&& 1 := ⟨_, rfl⟩
  have f4 : ∀ (t : TypeId) (W : World), (binOp .and t (.int .u64 (y : Int)) (.int .u64 1)).run Tryd.prog W = .ok (.int .u64 (z : Int)) W := fun t W => by rw [hzd]; exact bin_and64 y 1 hy (by decide)
  have f5 : ∀ (t : TypeId) (W : World), (binOp .eql t (.int .u64 (z : Int)) (.int .u64 1)).run Tryd.prog W = .ok (.bool (l.getD k false)) W := fun t W => by
    rw [bin_eqI, hzd, hyd, hbit, ← bit_eq]
  have F1 := Lib.hid f1
  have F2 := Lib.hid f2
  have F3 := Lib.hid f3
  have F4 := Lib.hid f4
  have F5 := Lib.hid f5
  clear hu hw hq hm hqd hrd hxd hyd hzd f1 f2 f3 f4 f5 hr64 hx hy hk hl hbit
  go_enter Tryd.func30, Tryd.ntmps30
  go_wp2_with (first | refine wpList_val rfl (run_ints (op := .quo) rfl rfl rfl (F1.out _ _)) ?_ | refine wpList_val rfl (run_ints (op := .rem) rfl rfl rfl (F2.out _ _)) ?_ | refine wpList_val rfl (run_ints (op := .shr) rfl rfl rfl (F3.out _ _)) ?_ | refine wpList_val rfl (run_ints (op := .and) rfl rfl rfl (F4.out _ _)) ?_ | refine wpList_val rfl (run_ints (op := .eql) rfl rfl rfl (F5.out _ _)) ?_)
  go_ret
  exact ⟨rfl, rfl⟩
theorem info_u64 : (Tryd.prog.info? 75).map (fun i => (i.zero, i.size, i.bytes)) = some (some (.int .u64 0), 1, 8) := by kernel_rfl
theorem run_make_set (n : Nat) (hn : n ≤ 100000) (W : World) :
    (Instr.makeSlice 64 (.int .i64 (n : Int)) (.int .i64 (n : Int))).run Tryd.prog W = .ok (.slice (some ⟨W.heap.size, 0, none⟩) n n) (W.alloc (.cells (u64s (List.replicate n 0)).toArray 75)) := by
  obtain ⟨i0, hi, hz0, hz1, hz2⟩ := info_parts info_u64
  have h := run_make (P := Tryd.prog) W 64 75 i0 (.int .u64 0) Tryd.underlying64 hi hz0 .i64 .i64 (n : Int) (n : Int) (by omega) (by omega) (by rw [hz2]; omega) (by omega)
  rw [h, hz1]
  have e : madeCells #[.int .u64 0] n = (u64s (List.replicate n 0)).toArray := by
    apply Array.ext
    · simp [madeCells, u64s]
    · intro i h1 h2
      simp [madeCells, Nat.mod_one, u64s]
  rw [← e]
  simp [Value.cells]
set_option maxHeartbeats 4000000 in
set_option maxRecDepth 100000 in
theorem newSet_any (w : World) (n : Nat) (hn : n ≤ 100000) :
    Calls Tryd.prog 27 #[.int .i64 (n : Int)] w fun e w' => e = .returned (.slice (some ⟨w.heap.size, 0, none⟩) (n / 64 + 1) (n / 64 + 1)) ∧ SW w' w.heap.size (List.replicate n false) ∧ Below w.heap.size w w' := by
  obtain ⟨q, hqd⟩ : ∃ q, q = n / 64 := ⟨_, rfl⟩
  obtain ⟨m, hmd⟩ : ∃ m, m = q + 1 := ⟨_, rfl⟩
  have f1 : ∀ (t : TypeId) (W : World), (binOp .quo t (.int .i64 (n : Int)) (.int .i64 64)).run Tryd.prog W = .ok (.int .i64 (q : Int)) W := fun t W => by rw [hqd]; exact bin_quo64 n (by omega)
  have f2 : ∀ (t : TypeId) (W : World), (binOp .add t (.int .i64 (q : Int)) (.int .i64 1)).run Tryd.prog W = .ok (.int .i64 (m : Int)) W := fun t W => by rw [hmd]; exact bin_add64 q 1 (by omega)
  have f3 := run_make_set m (by omega) w
  have hs : SW (w.alloc (.cells (u64s (List.replicate m 0)).toArray 75)) w.heap.size (List.replicate n false) :=
    ⟨List.replicate m 0, ⟨[], by rw [heap_alloc_new w, List.append_nil]⟩, by rw [hmd, hqd]; exact words_false n⟩
  rw [← hqd, ← hmd]
  obtain ⟨W1, hW1⟩ : ∃ W1, W1 = w.alloc (.cells (u64s (List.replicate m 0)).toArray 75) := ⟨_, rfl⟩
  have hb : Below w.heap.size w W1 := by rw [hW1]; exact (Below.refl _ _).alloc (Nat.le_refl _) _
  rw [← hW1] at f3 hs
  have F1 := Lib.hid f1
  have F2 := Lib.hid f2
  have HS := Lib.hid hs
  have HB := Lib.hid hb
  have F3 : Hid (∀ {ops : Array Oper} {rest : List Oper} {o : Oper} {a : Act} {Q : Exit → Act → World → Prop} (x y : Operand), o.guard = none → o.op = .makeSlice 64 x y → a.eval x = .int .i64 (m : Int) → a.eval y = .int .i64 (m : Int) → wpList Tryd.prog ops Q rest (a.put o.dst (.slice (some ⟨w.heap.size, 0, none⟩) m m)) W1 → wpList Tryd.prog ops Q (o :: rest) a w) := Lib.hid fun x y hg ho hx hy h => wpList_val hg (run_mk15 ho hx hy f3) h
  clear f1 f2 f3 hs hb hmd hqd hW1 hn
  go_enter Tryd.func27, Tryd.ntmps27
  go_wp2_with (first | refine wpList_val rfl (run_ints (op := .quo) rfl rfl rfl (F1.out _ _)) ?_ | refine wpList_val rfl (run_ints (op := .add) rfl rfl rfl (F2.out _ _)) ?_ | refine F3.out (.tmp 5) (.tmp 5) rfl rfl rfl rfl ?_)
  go_ret
  exact ⟨rfl, HS.out, HB.out⟩
end Go.Proofs.YtglplhkbnkbjbaaDoor

namespace Go.Proofs.YtglplhkbnkbjbaaDoor
open Go Go.RowKit
set_option maxRecDepth 100000
def u64V (u : Nat) : Value := .int .u64 (u : Int)
theorem set_nil_eq (W : World) : (binOp .eql 64 (.slice none 0 0) (.slice none 0 0)).run Tryd.prog W = .ok (.bool true) W := by first | kernel_rfl | simp [go_sem, binOp]
theorem set_some_eq (a : Addr) (n c : Nat) (W : World) : (binOp .eql 64 (.slice (some a) n c) (.slice none 0 0)).run Tryd.prog W = .ok (.bool false) W := by first | kernel_rfl | simp [go_sem, binOp]
theorem SWu.row {w : World} {b : Nat} {us : List Nat} (h : SWu w b us) : Row u64V w (some ⟨b, 0, none⟩) us := fun _ => ⟨b, 0, rfl, h.lt, fun i hi => by
  rw [Nat.zero_add, h.cell i hi]
  simp [u64V, hi]⟩
theorem own_us {w : World} {base : Nat} {v : Value} {us : List Nat} (hl : us ≠ []) (h : w.ownsRow base 75 1 v us.length (us.map u64V)) : ∃ g c, v = .slice (some ⟨g, 0, none⟩) us.length c ∧ SWu w g us ∧ base ≤ g := by
  rcases h.2 with ⟨_, h0⟩ | ⟨g, cap, cur, rfl, hbg, hg, hn, hc, hcs, htk⟩
  · exact absurd (List.eq_nil_of_length_eq_zero h0) hl
  · refine ⟨g, cap, rfl, ⟨cur.toList.drop us.length, ?_⟩, hbg⟩
    rw [hg]
    congr 2
    apply Array.toList_inj.1
    have e : u64s us = cur.toList.take us.length := by
      rw [Nat.mul_one] at htk
      exact htk.symm
    rw [e, List.take_append_drop]
set_option maxHeartbeats 4000000 in
theorem clone_any (w : World) (b c m : Nat) (l : List Bool) (hs : SW w b l) (hm : m = l.length / 64 + 1) (hl : l.length ≤ 100000) :
    Calls Tryd.prog 39 #[.slice (some ⟨b, 0, none⟩) m c] w fun e w' => ∃ g c', e = .returned (.slice (some ⟨g, 0, none⟩) m c') ∧ SW w' g l ∧ w.heap.size ≤ g ∧ Below w.heap.size w w' := by
  obtain ⟨us, hu, hw⟩ := hs
  have hmu : m = us.length := by rw [hm, hw.len]
  have hne : us ≠ [] := by intro h; have := hw.len; rw [h] at this; simp at this
  have hlen : us.length ≤ 2000 := by rw [hw.len]; omega
  subst hmu
  obtain ⟨i0, hi, hz0, hz1, hz2⟩ := info_parts info_u64
  have HIN := Lib.hid (And.intro hi (And.intro hz0 (And.intro hz1 hz2)))
  have be : (Instr.buildSlice 64 0 #[]).run Tryd.prog w = .ok (.slice (some ⟨w.heap.size, 0, none⟩) 0 0) (w.alloc (.cells #[] 75)) := by kernel_rfl
  have hnl := set_some_eq ⟨b, 0, none⟩ us.length c w
  have HR := Lib.hid (hu.row.below ((Below.refl w.heap.size w).alloc (Nat.le_refl _) (.cells #[] 75)))
  have HS := Lib.hid hlen
  have HNE := Lib.hid hne
  have HW := Lib.hid hw
  clear hi hz0 hz1 hz2 hu hw hne hlen hm hl
  go_enter Tryd.func39, Tryd.ntmps39
  go_wp2_with (at_builtin; refine wpList_append_rows _ rfl (.tmp 5) (.tmp 6) 64 rfl w.heap.size 75 i0 (.int .u64 0) 8 Tryd.underlying64 HIN.out.1 HIN.out.2.1 HIN.out.2.2.1 HIN.out.2.2.2 rfl u64V (fun _ => rfl) _ 0 [] rfl (own_empty w _ _ (Nat.le_refl _)) (some ⟨b, 0, none⟩) c us rfl HR.out ?c1 ?c2 ?c3 ?_)
  case c1 => have := HS.out; unfold maxLen; omega
  case c2 => have := HS.out; omega
  case c3 => simp
  intro v5 w5 hown hgr
  have hbl : Below w.heap.size w w5 := ((Below.refl _ _).alloc (Nat.le_refl _) _).grown hgr (by simp) (by intro k hk; simp [Value.ownBlock] at hk; omega)
  obtain ⟨g, c', rfl, hrow, hg⟩ := own_us HNE.out (by simpa using hown)
  have HE := Lib.hid (And.intro hrow (And.intro hg hbl))
  clear hown hgr hbl hrow hg be
  go_wp2_with fail
  go_ret
  exact ⟨g, c', rfl, ⟨us, HE.out.1, HW.out⟩, HE.out.2.1, HE.out.2.2⟩
/-- A set's value. -/
def svV (m : Nat) : Option (Nat × Nat) → Value
  | none => .slice none 0 0
  | some x => .slice (some ⟨x.1, 0, none⟩) m x.2
/-- What a cell of the ways holds. -/
def WCell (w : World) (B m : Nat) : Option (List Bool) → Option (Nat × Nat) → Prop
  | none, none => True
  | some l, some x => SW w x.1 l ∧ B ≤ x.1 ∧ m = l.length / 64 + 1
  | _, _ => False
/-- The ways in memory, from an instruction on. -/
def WaysAt (w : World) (B g m : Nat) (D : Done) (k0 : Nat) (bs : List (Option (Nat × Nat))) : Prop :=
  w.heap[g]? = some (.cells (bs.map (svV m)).toArray 64 (0, 0)) ∧ bs.length = D.length ∧ B ≤ g ∧
  (∀ k, k0 ≤ k → k < D.length → WCell w B m (D.getD k none) (bs.getD k none)) ∧
  (∀ j k x y, k0 ≤ j → k0 ≤ k → bs.getD j none = some x → bs.getD k none = some y → x.1 = y.1 → j = k)
def WaysIn (w : World) (B g m : Nat) (D : Done) (k0 : Nat) : Prop := ∃ bs, WaysAt w B g m D k0 bs
theorem WaysAt.lt {w : World} {B g m : Nat} {D : Done} {k0 : Nat} {bs : List (Option (Nat × Nat))} (h : WaysAt w B g m D k0 bs) : g < w.heap.size := (Array.getElem?_eq_some_iff.1 h.1).1
theorem WaysAt.cell {w : World} {B g m : Nat} {D : Done} {k0 : Nat} {bs : List (Option (Nat × Nat))} (h : WaysAt w B g m D k0 bs) (k : Nat) (hk : k < D.length) : w.cell? ⟨g, k, none⟩ = some (svV m (bs.getD k none)) := by
  rw [cell_of_row w g k _ _ _ h.1]
  have : k < bs.length := by rw [h.2.1]; exact hk
  simp [this]
theorem WaysAt.frozen {w : World} {B g m : Nat} {D : Done} {k0 : Nat} {bs : List (Option (Nat × Nat))} (h : WaysAt w B g m D k0 bs) (k : Nat) : w.frozen? ⟨g, k, none⟩ = false := frozen_of_row w g k _ _ h.1
/-- No set lies in the row of the ways. -/
theorem WaysAt.ne {w : World} {B g m : Nat} {D : Done} {k0 : Nat} {bs : List (Option (Nat × Nat))} (h : WaysAt w B g m D k0 bs) {b : Nat} {l : List Bool} (hs : SW w b l) : b ≠ g := by
  rintro rfl
  obtain ⟨cs, hc⟩ := hs.type
  have := h.1.symm.trans hc
  simp at this
theorem WaysAt.sw {w : World} {B g m : Nat} {D : Done} {k0 : Nat} {bs : List (Option (Nat × Nat))} (h : WaysAt w B g m D k0 bs) {k : Nat} (h0 : k0 ≤ k) (hk : k < D.length) {l : List Bool} (hl : D.getD k none = some l) : ∃ x, bs.getD k none = some x ∧ SW w x.1 l ∧ B ≤ x.1 ∧ m = l.length / 64 + 1 := by
  have := h.2.2.2.1 k h0 hk
  rw [hl] at this
  cases hb : bs.getD k none with
  | none => rw [hb] at this; exact this.elim
  | some x => rw [hb] at this; exact ⟨x, rfl, this⟩
theorem WaysAt.no {w : World} {B g m : Nat} {D : Done} {k0 : Nat} {bs : List (Option (Nat × Nat))} (h : WaysAt w B g m D k0 bs) {k : Nat} (h0 : k0 ≤ k) (hk : k < D.length) (hl : D.getD k none = none) : bs.getD k none = none := by
  have := h.2.2.2.1 k h0 hk
  rw [hl] at this
  cases hb : bs.getD k none with
  | none => rfl
  | some x => rw [hb] at this; exact this.elim
theorem WCell.same {w w' : World} {B m : Nat} {d : Option (List Bool)} {x : Option (Nat × Nat)} (h : WCell w B m d x) (e : ∀ y, x = some y → w'.heap[y.1]? = w.heap[y.1]?) : WCell w' B m d x := by
  cases d <;> cases x
  · exact h
  · exact h.elim
  · exact h.elim
  · exact ⟨h.1.same (e _ rfl), h.2.1, h.2.2⟩
theorem getD_set_self {α : Type} (l : List α) (k : Nat) (x d : α) (h : k < l.length) : (l.set k x).getD k d = x := by
  rw [List.getD_eq_getElem?_getD, List.getElem?_set_self h]; rfl
theorem getD_set_ne {α : Type} (l : List α) (k j : Nat) (x d : α) (h : k ≠ j) : (l.set k x).getD j d = l.getD j d := by
  rw [List.getD_eq_getElem?_getD, List.getElem?_set_ne h, ← List.getD_eq_getElem?_getD]
/-- A set is turned. -/
theorem WaysAt.turn {w w' : World} {B g m : Nat} {D : Done} {k0 : Nat} {bs : List (Option (Nat × Nat))} (h : WaysAt w B g m D k0 bs) {k : Nat} (h0 : k0 ≤ k) (hk : k < D.length) {x : Nat × Nat} (hx : bs.getD k none = some x) {l l' : List Bool} (hl : SW w x.1 l) (hg : w.grownBy w' (some x.1)) (hs : SW w' x.1 l') (hB : B ≤ x.1) (hm : m = l'.length / 64 + 1) : WaysAt w' B g m (D.set k (some l')) k0 bs := by
  refine ⟨(hg.block g h.lt (fun e => h.ne hl (by simpa using e.symm))).trans h.1, by rw [List.length_set]; exact h.2.1, h.2.2.1, fun j hj hjD => ?_, h.2.2.2.2⟩
  rw [List.length_set] at hjD
  by_cases hjk : k = j
  · subst hjk
    rw [getD_set_self _ _ _ _ hk, hx]
    exact ⟨hs, hB, hm⟩
  · rw [getD_set_ne _ _ _ _ _ hjk]
    refine (h.2.2.2.1 j hj hjD).same fun y hy => ?_
    have hne : y.1 ≠ x.1 := fun e => hjk (h.2.2.2.2 k j x y h0 hj hx hy e.symm)
    have hc := h.2.2.2.1 j hj hjD
    rw [hy] at hc
    cases hd : D.getD j none with
    | none => rw [hd] at hc; exact hc.elim
    | some a => rw [hd] at hc; exact hg.block _ hc.1.lt (fun e => hne (by simpa using e))
/-- A new set is put at an instruction. -/
theorem WaysAt.put {w w1 : World} {B g m : Nat} {D : Done} {k0 : Nat} {bs : List (Option (Nat × Nat))} (h : WaysAt w B g m D k0 bs) {k : Nat} (hk : k < D.length) (hb : Below w.heap.size w w1) {x : Nat × Nat} {l : List Bool} (hs : SW w1 x.1 l) (hx : w.heap.size ≤ x.1) (hm : m = l.length / 64 + 1) : WaysAt (w1.setCell ⟨g, k, none⟩ (svV m (some x))) B g m (D.set k (some l)) k0 (bs.set k (some x)) := by
  have hg1 := (hb.block g h.lt).trans h.1
  have hgB := h.2.2.1
  have hlt := h.lt
  have hkb : k < bs.length := by rw [h.2.1]; exact hk
  have hold : ∀ j, j < w.heap.size → j ≠ g → (w1.setCell ⟨g, k, none⟩ (svV m (some x))).heap[j]? = w.heap[j]? := fun j hj hjg => (heap_setCell_other w1 _ j _ hjg).trans (hb.block j hj)
  have hbo : ∀ j y, k0 ≤ j → bs.getD j none = some y → y.1 < w.heap.size := fun j y hj hy => by
    by_cases hjD : j < D.length
    · have hc := h.2.2.2.1 j hj hjD
      rw [hy] at hc
      cases hd : D.getD j none with
      | none => rw [hd] at hc; exact hc.elim
      | some a => rw [hd] at hc; exact hc.1.lt
    · rw [List.getD_eq_getElem?_getD, List.getElem?_eq_none (by rw [h.2.1]; omega)] at hy
      exact absurd hy (by simp)
  refine ⟨?_, by rw [List.length_set, List.length_set]; exact h.2.1, hgB, fun j hj hjD => ?_, fun i j y z hi hj hy hz e => ?_⟩
  · rw [heap_setCell_same w1 g k _ _ _ hg1]
    simp
  · rw [List.length_set] at hjD
    by_cases hjk : k = j
    · subst hjk
      rw [getD_set_self _ _ _ _ hk, getD_set_self _ _ _ _ hkb]
      exact ⟨hs.same (heap_setCell_other w1 _ _ _ (by show x.1 ≠ g; omega)), by omega, hm⟩
    · rw [getD_set_ne _ _ _ _ _ hjk, getD_set_ne _ _ _ _ _ hjk]
      refine (h.2.2.2.1 j hj hjD).same fun y hy => hold _ (hbo j y hj hy) ?_
      have hc := h.2.2.2.1 j hj hjD
      rw [hy] at hc
      cases hd : D.getD j none with
      | none => rw [hd] at hc; exact hc.elim
      | some a => rw [hd] at hc; exact h.ne hc.1
  · by_cases hik : k = i <;> by_cases hjk : k = j
    · omega
    · subst hik
      rw [getD_set_self _ _ _ _ hkb] at hy
      rw [getD_set_ne _ _ _ _ _ hjk] at hz
      have := hbo j z hj hz
      have hy := Option.some.inj hy
      subst hy
      omega
    · subst hjk
      rw [getD_set_self _ _ _ _ hkb] at hz
      rw [getD_set_ne _ _ _ _ _ hik] at hy
      have := hbo i y hi hy
      have hz := Option.some.inj hz
      subst hz
      omega
    · rw [getD_set_ne _ _ _ _ _ hik] at hy
      rw [getD_set_ne _ _ _ _ _ hjk] at hz
      exact h.2.2.2.2 i j y z hi hj hy hz e
/-- Of what is behind, nothing is asked. -/
theorem WaysIn.on {w : World} {B g m : Nat} {D D' : Done} {k0 k1 : Nat} (h : WaysIn w B g m D k0) (hk : k0 ≤ k1) (hl : D'.length = D.length) (he : ∀ k, k1 ≤ k → D'.getD k none = D.getD k none) : WaysIn w B g m D' k1 := by
  obtain ⟨bs, h1, h2, h3, h4, h5⟩ := h
  exact ⟨bs, h1, h2.trans hl.symm, h3, fun k hk1 hkD => by rw [he k hk1]; exact h4 k (by omega) (by omega), fun i j x y hi hj => h5 i j x y (by omega) (by omega)⟩
/-- What meet and step keep: all that is below, and all that is neither a set nor a row of sets. -/
structure VK (B : Nat) (w w' : World) : Prop where
  os : w'.os = w.os
  tape : w'.tape = w.tape
  output : w'.output = w.output
  size : w.heap.size ≤ w'.heap.size
  block : ∀ j, j < w.heap.size → (j < B ∨ ∃ cs t fr, w.heap[j]? = some (.cells cs t fr) ∧ t ≠ 64 ∧ t ≠ 75) → w'.heap[j]? = w.heap[j]?
theorem VK.refl (B : Nat) (w : World) : VK B w w := ⟨rfl, rfl, rfl, Nat.le_refl _, fun _ _ _ => rfl⟩
theorem VK.trans {B : Nat} {w1 w2 w3 : World} (h : VK B w1 w2) (k : VK B w2 w3) : VK B w1 w3 :=
  ⟨k.os.trans h.os, k.tape.trans h.tape, k.output.trans h.output, Nat.le_trans h.size k.size, fun j hj hh => (k.block j (Nat.lt_of_lt_of_le hj h.size) (by
    rcases hh with hh | ⟨cs, t, fr, e, h1, h2⟩
    · exact .inl hh
    · exact .inr ⟨cs, t, fr, (h.block j hj (.inr ⟨cs, t, fr, e, h1, h2⟩)).trans e, h1, h2⟩)).trans (h.block j hj hh)⟩
theorem VK.ofBelow {B : Nat} {w w' : World} (h : Below w.heap.size w w') : VK B w w' := ⟨h.os, h.tape, h.output, h.size, fun j hj _ => h.block j hj⟩
theorem VK.grown {B b : Nat} {w w' : World} {cs : Array Value} {t : TypeId} {fr : Nat × Nat} (h : w.grownBy w' (some b)) (hB : B ≤ b) (ht : w.heap[b]? = some (.cells cs t fr)) (h2 : t = 64 ∨ t = 75) : VK B w w' :=
  ⟨h.os, h.tape, h.output, h.size, fun j hj hh => h.block j hj (fun e => by
    have e : j = b := by simpa using e
    subst e
    rcases hh with hh | ⟨cs', t', fr', e', h3, h4⟩
    · omega
    · rw [ht] at e'
      have e'' := Option.some.inj e'
      injection e'' with _ e1 _
      rcases h2 with h2 | h2
      · exact h3 (e1 ▸ h2)
      · exact h4 (e1 ▸ h2))⟩
theorem VK.below {B : Nat} {w w' : World} (h : VK B w w') (hB : B ≤ w.heap.size) : Below B w w' := ⟨h.os, h.tape, h.output, h.size, fun j hj => h.block j (by omega) (.inl hj)⟩
end Go.Proofs.YtglplhkbnkbjbaaDoor

namespace Go.Proofs.YtglplhkbnkbjbaaDoor
open Go Go.RowKit
set_option maxRecDepth 100000
/-- Two sets' words, one and the other. -/
theorem WordsOf.both {us vs : List Nat} {a l : List Bool} (h : WordsOf us a) (k : WordsOf vs l) (e : a.length = l.length) : WordsOf (List.zipWith (fun x y => x &&& y) us vs) (List.zipWith (fun x y => x && y) a l) where
  len := by rw [List.length_zipWith, List.length_zipWith, h.len, k.len, e]; omega
  few := fun u hu => by
    rw [← List.map_uncurry_zip_eq_zipWith] at hu
    obtain ⟨⟨x, y⟩, hm, rfl⟩ := List.mem_map.1 hu
    exact Nat.lt_of_le_of_lt Nat.and_le_left (h.few _ (List.of_mem_zip hm).1)
  bit := fun j hj => by
    rw [List.length_zipWith] at hj
    have hq : j / 64 < us.length := by rw [h.len]; omega
    have hq2 : j / 64 < vs.length := by rw [k.len]; omega
    have b1 := h.bit j (by omega)
    have b2 := k.bit j (by omega)
    simp only [List.getD_eq_getElem?_getD, List.getElem?_zipWith, List.getElem?_eq_getElem hq, List.getElem?_eq_getElem hq2, List.getElem?_eq_getElem (show j < a.length by omega), List.getElem?_eq_getElem (show j < l.length by omega), Option.getD_some] at b1 b2 ⊢
    rw [Nat.testBit_and, b1, b2]
theorem grownV_cell {w w' : World} {r : Option Nat} (h : w.grownBy w' r) {p : Addr} (hp : p.block < w.heap.size) (hr : some p.block ≠ r) : w'.cell? p = w.cell? p := by
  have hh := h.block p.block hp hr
  unfold World.cell?
  simp only [hh]
def andTo (us vs : List Nat) (i : Nat) : List Nat := (List.zipWith (fun x y => x &&& y) us vs).take i ++ us.drop i
theorem andTo_zero (us vs : List Nat) : andTo us vs 0 = us := by simp [andTo]
theorem andTo_len (us vs : List Nat) (h : us.length = vs.length) (i : Nat) : (andTo us vs i).length = us.length := by simp [andTo]; omega
theorem andTo_end (us vs : List Nat) (h : us.length = vs.length) : andTo us vs us.length = List.zipWith (fun x y => x &&& y) us vs := by
  unfold andTo
  rw [List.take_of_length_le (by rw [List.length_zipWith]; omega), List.drop_of_length_le (Nat.le_refl _), List.append_nil]
theorem andTo_at (us vs : List Nat) (h : us.length = vs.length) (i : Nat) (hi : i < us.length) : (andTo us vs i).getD i 0 = us.getD i 0 := by
  unfold andTo
  rw [List.getD_eq_getElem?_getD, List.getElem?_append_right (by simp; omega)]
  have : i - ((List.zipWith (fun x y => x &&& y) us vs).take i).length = 0 := by simp; omega
  rw [this, List.getElem?_drop, Nat.add_zero, List.getD_eq_getElem?_getD]
theorem andTo_next (us vs : List Nat) (h : us.length = vs.length) (i : Nat) (hi : i < us.length) : (andTo us vs i).set i (us.getD i 0 &&& vs.getD i 0) = andTo us vs (i + 1) := by
  unfold andTo
  have h1 : ((List.zipWith (fun x y => x &&& y) us vs).take i).length = i := by simp; omega
  rw [List.set_append_right _ _ (by omega), h1, Nat.sub_self, List.drop_eq_getElem_cons hi, List.set_cons_zero, List.take_succ_eq_append_getElem (by simp; omega), List.append_assoc]
  simp [List.getD_eq_getElem?_getD, List.getElem?_eq_getElem hi, List.getElem?_eq_getElem (show i < vs.length by omega)]
/-- What meet hands on: the set of the instruction that is left stays where it is. -/
def MeetOk (w : World) (B g m : Nat) (D : Done) (k0 pc : Nat) (x : Nat × Nat) : Prop := ∃ bs, WaysAt w B g m D k0 bs ∧ bs.getD pc none = some x
set_option maxHeartbeats 4000000 in
/-- No way came there yet. -/
theorem meet_new (w : World) (B g m n cw : Nat) (D : Done) (k0 pc k : Nat) (l : List Bool) (bs : List (Option (Nat × Nat))) (hW : WaysAt w B g m D k0 bs) (hn : n = D.length) (hp0 : k0 ≤ pc) (hp : pc < D.length) (hk0 : k0 ≤ k) (hk : k < D.length) (x : Nat × Nat) (hx : bs.getD pc none = some x) (hl : D.getD pc none = some l) (hll : l.length ≤ 100000) (hno : D.getD k none = none) (hB : B ≤ w.heap.size) :
    Calls Tryd.prog 35 #[.slice (some ⟨g, 0, none⟩) n cw, .int .i64 (k : Int), .slice (some ⟨x.1, 0, none⟩) m x.2] w fun e w' => e = .returned (.tuple #[]) ∧ MeetOk w' B g m (putD D k l) k0 pc x ∧ VK B w w' := by
  obtain ⟨x', hx', hsw, hxB, hm⟩ := hW.sw hp0 hp hl
  rw [hx] at hx'
  obtain rfl := Option.some.inj hx'
  have hc : w.cell? ⟨g, k, none⟩ = some (.slice none 0 0) := by
    have h := hW.cell k hk
    rw [hW.no hk0 hk hno] at h
    exact h
  have kc := clone_any w x.1 x.2 m l hsw hm hll
  have hkp : k ≠ pc := by rintro rfl; rw [hl] at hno; cases hno
  have HXP : Hid (∀ y, (bs.set k y).getD pc none = some x) := Lib.hid fun y => by rw [getD_set_ne _ _ _ _ _ hkp]; exact hx
  have i0 : (0 : Int) ≤ (k : Int) := by omega
  have i1 : (k : Int) < (n : Int) := by omega
  have HWA := Lib.hid hW
  have HK := Lib.hid hk
  have HM := Lib.hid hm
  have HE := Lib.hid (show putD D k l = D.set k (some l) by unfold putD; rw [hno]; rfl)
  have hz := set_nil_eq w
  have HB := Lib.hid hB
  clear hW hn hp hk hx hl hll hno hsw hm hp0 hk0 hB hxB hkp
  go_enter Tryd.func35, Tryd.ntmps35
  go_wp2_with fail
  (with_reducible refine kc.mono ?_)
  rintro e w1 ⟨b1, c1, rfl, hs1, hb1, hbl⟩
  have hc1 : w1.cell? ⟨g, k, none⟩ = some (.slice none 0 0) := (Below.cell hbl (p := ⟨g, k, none⟩) HWA.out.lt).trans hc
  have hf1 : w1.frozen? ⟨g, k, none⟩ = false := by
    have := (hbl.block g HWA.out.lt).trans HWA.out.1
    exact frozen_of_row w1 g k _ _ this
  have hput := HWA.out.put HK.out hbl (x := (b1, c1)) hs1 hb1 HM.out
  have hvk : VK B w (w1.setCell ⟨g, k, none⟩ (svV m (some (b1, c1)))) := (VK.ofBelow hbl).trans (VK.grown (grownV_set (World.grownBy.refl w1 (some g)) ⟨g, k, none⟩ _ (.inl rfl)) HWA.out.2.2.1 ((hbl.block g HWA.out.lt).trans HWA.out.1) (.inl rfl))
  have HPUT := Lib.hid (hput : WaysAt (w1.setCell ⟨g, k, none⟩ (.slice (some ⟨b1, 0, none⟩) m c1)) B g m (D.set k (some l)) k0 (bs.set k (some (b1, c1))))
  have HVK := Lib.hid (hvk : VK B w (w1.setCell ⟨g, k, none⟩ (.slice (some ⟨b1, 0, none⟩) m c1)))
  clear kc hs1 hb1 hbl hput hvk hc hz
  go_wp2_with fail
  (try simp only [Exit.inBlock, Exit.then])
  first | refine bodyPost_ret (results_none rfl _ _ _) rfl ?_ | refine bodyPost_end (results_none rfl _ _ _) rfl ?_
  refine ⟨rfl, ?_, HVK.out⟩
  rw [HE.out]
  exact ⟨_, HPUT.out, HXP.out _⟩
set_option maxHeartbeats 4000000 in
/-- Some way came there. -/
theorem meet_old (w : World) (B g m n cw : Nat) (D : Done) (k0 pc k : Nat) (l a : List Bool) (bs : List (Option (Nat × Nat))) (hW : WaysAt w B g m D k0 bs) (hn : n = D.length) (hp0 : k0 ≤ pc) (hp : pc < D.length) (hk0 : k0 ≤ k) (hk : k < D.length) (hne : k ≠ pc) (x : Nat × Nat) (hx : bs.getD pc none = some x) (hl : D.getD pc none = some l) (hll : l.length ≤ 100000) (ha : D.getD k none = some a) (hal : a.length = l.length) :
    Calls Tryd.prog 35 #[.slice (some ⟨g, 0, none⟩) n cw, .int .i64 (k : Int), .slice (some ⟨x.1, 0, none⟩) m x.2] w fun e w' => e = .returned (.tuple #[]) ∧ MeetOk w' B g m (putD D k l) k0 pc x ∧ VK B w w' := by
  obtain ⟨x', hx', hsw, hxB, hm⟩ := hW.sw hp0 hp hl
  rw [hx] at hx'
  obtain rfl := Option.some.inj hx'
  obtain ⟨y, hy, hsa, hyB, hma⟩ := hW.sw hk0 hk ha
  have hxy : y.1 ≠ x.1 := fun e => hne (hW.2.2.2.2 k pc y x hk0 hp0 hy hx e)
  obtain ⟨us, hu, hwu⟩ := hsa
  obtain ⟨vs, hv, hwv⟩ := hsw
  have huv : us.length = vs.length := by rw [hwu.len, hwv.len, hal]
  have hmu : m = us.length := by rw [hma, hwu.len]
  have hc : w.cell? ⟨g, k, none⟩ = some (.slice (some ⟨y.1, 0, none⟩) m y.2) := by
    have h := hW.cell k hk
    rw [hy] at h
    exact h
  have hyg : y.1 ≠ g := hW.ne ⟨us, hu, hwu⟩
  have hzip : WordsOf (List.zipWith (fun x y => x &&& y) us vs) (bothP (some a) l) := hwu.both hwv hal
  have hml : m = (bothP (some a) l).length / 64 + 1 := by rw [hm, bothP_length (fun q hq => by have := Option.some.inj hq; rw [← this, hal])]
  have HDN : Hid (∀ wr, SWu wr y.1 (List.zipWith (fun x y => x &&& y) us vs) → w.grownBy wr (some y.1) → MeetOk wr B g m (putD D k l) k0 pc x ∧ VK B w wr) := Lib.hid fun wr h1 h2 => by
    refine ⟨⟨bs, ?_, hx⟩, VK.grown h2 hyB (Classical.choose_spec hu) (.inr rfl)⟩
    have := hW.turn hk0 hk hy ⟨us, hu, hwu⟩ h2 ⟨_, h1, hzip⟩ hyB hml
    unfold putD
    rw [ha]
    exact this
  have i0 : (0 : Int) ≤ (k : Int) := by omega
  have i1 : (k : Int) < (n : Int) := by omega
  have HCK := Lib.hid hc
  have HGL := Lib.hid hW.lt
  have HU := Lib.hid hu
  have HV := Lib.hid hv
  have HXY := Lib.hid hxy
  have HYG := Lib.hid hyg
  have HUV := Lib.hid huv
  have HMU := Lib.hid hmu
  have HFU := Lib.hid hwu.few
  have HFV := Lib.hid hwv.few
  have hz := set_some_eq ⟨y.1, 0, none⟩ m y.2 w
  obtain ⟨b, cb⟩ := y
  obtain ⟨bx, cx⟩ := x
  have hlen : us.length ≤ 2000 := by rw [hwu.len, hal]; omega
  have HLN := Lib.hid hlen
  clear hW hn hp hk hx hl hll ha hal hm hma hml hu hv hwu hwv huv hmu hxy hyg hzip hp0 hk0 hy hxB hyB hne hlen
  simp only at hc hz HCK HU HV HXY HYG HDN ⊢
  go_enter Tryd.func35, Tryd.ntmps35
  go_wp2_with fail
  clear hc hz
  go_loopw [22] (fun v wr => ∃ i : Nat, v = .int .i64 (i : Int) ∧ i ≤ m ∧ SWu wr b (andTo us vs i) ∧ w.grownBy wr (some b))
    (fun v _ => m - (intOf v).toNat)
  case atStart => exact ⟨0, rfl, Nat.zero_le _, by rw [andTo_zero]; exact HU.out, World.grownBy.refl _ _⟩
  case round =>
    obtain ⟨i, rfl, hi, hs, hg⟩ := hrel
    have HS := Lib.hid hs
    have HG := Lib.hid hg
    have HI := Lib.hid hi
    by_cases him : i < m
    · have hiu : i < us.length := by have := HMU.out; omega
      have hiv : i < vs.length := by have := HUV.out; omega
      have hck : wr.cell? ⟨g, k, none⟩ = some (.slice (some ⟨b, 0, none⟩) m cb) := (grownV_cell hg (p := ⟨g, k, none⟩) HGL.out (fun e => HYG.out (by simpa using e.symm))).trans HCK.out
      have hcu : wr.cell? ⟨b, i, none⟩ = some (.int .u64 ((us.getD i 0 : Nat) : Int)) := by
        rw [hs.cell i (by rw [andTo_len _ _ HUV.out]; exact hiu), andTo_at _ _ HUV.out i hiu]
      have hcv : wr.cell? ⟨bx, i, none⟩ = some (.int .u64 ((vs.getD i 0 : Nat) : Int)) := (grownV_cell hg (p := ⟨bx, i, none⟩) HV.out.lt (fun e => HXY.out (by simpa using e.symm))).trans (HV.out.cell i hiv)
      have hfu := hs.frozen i
      have hx : us.getD i 0 < 18446744073709551616 := by
        rw [List.getD_eq_getElem?_getD, List.getElem?_eq_getElem hiu]
        exact HFU.out _ (List.getElem_mem _)
      have hy : vs.getD i 0 < 18446744073709551616 := by
        rw [List.getD_eq_getElem?_getD, List.getElem?_eq_getElem hiv]
        exact HFV.out _ (List.getElem_mem _)
      have hnext := andTo_next us vs HUV.out i hiu
      obtain ⟨X, hX⟩ : ∃ X, X = us.getD i 0 := ⟨_, rfl⟩
      obtain ⟨Y, hY⟩ : ∃ Y, Y = vs.getD i 0 := ⟨_, rfl⟩
      rw [← hX] at hcu hx hnext
      rw [← hY] at hcv hy hnext
      obtain ⟨Z, hZ⟩ : ∃ Z, Z = X &&& Y := ⟨_, rfl⟩
      have f1 : ∀ (t : TypeId) (W : World), (binOp .and t (.int .u64 (X : Int)) (.int .u64 (Y : Int))).run Tryd.prog W = .ok (.int .u64 (Z : Int)) W := fun t W => by rw [hZ]; exact bin_and64 X Y hx hy
      rw [← hZ] at hnext
      have F1 := Lib.hid f1
      have HNX := Lib.hid hnext
      have d1 : decide ((i : Int) < (m : Int)) = true := by simp; omega
      have j0 : (0 : Int) ≤ (i : Int) := by omega
      have j1 : (i : Int) < (m : Int) := by omega
      have HIU := Lib.hid hiu
      have HIM := Lib.hid him
      clear hs hg hi hiu hiv hX hY hZ hx hy hnext f1 him
      go_wp2_with fail
      refine wp_region_still_tail 12 (by kernel_rfl) (by kernel_rfl) ?_
      simp only [List.take_succ_cons, List.take_zero, List.drop_succ_cons, List.drop_zero]
      iterate 11 still_step
      refine wpStill_val rfl (run_ints rfl rfl rfl (F1.out _ _)) ?_
      refine wpStill_nil ?_
      change wpList _ _ _ _ _ wr.drew
      have hc2 : wr.drew.cell? ⟨b, i, none⟩ = some (Value.int .u64 (X : Int)) := hcu
      have hf2 : wr.drew.frozen? ⟨b, i, none⟩ = false := hfu
      have hs2 : SWu (wr.drew.setCell ⟨b, i, none⟩ (.int .u64 (Z : Int))) b (andTo us vs (i + 1)) := by
        have h := SWu.set (w := wr.drew) HS.out i (by rw [andTo_len _ _ HUV.out]; exact HIU.out) Z
        rwa [HNX.out] at h
      have hg2 : w.grownBy (wr.drew.setCell ⟨b, i, none⟩ (.int .u64 (Z : Int))) (some b) := grownV_set (grownV_drew HG.out) _ _ (.inl rfl)
      have HS2 := Lib.hid hs2
      have HG2 := Lib.hid hg2
      clear hck hcu hcv hfu hs2 hg2
      generalize wr.drew = w4 at hc2 hf2 HS2 HG2 ⊢
      go_wp2_with fail
      have hm1 := HIM.out
      have hm2 := HLN.out
      have hm3 := HMU.out
      have hwr : wrap64 ((i : Int) + 1) = ((i + 1 : Nat) : Int) := by unfold wrap64; omega
      refine ⟨⟨i + 1, by rw [hwr], by omega, HS2.out, HG2.out⟩, ?_⟩
      rw [hwr]
      simp only [intOf]
      omega
    · obtain rfl : i = m := by omega
      have HD : Hid (MeetOk wr B g i (putD D k l) k0 pc (bx, cx) ∧ VK B w wr) := Lib.hid (HDN.out wr (by
        have h := hs
        rw [HMU.out, andTo_end us vs HUV.out] at h
        exact h) hg)
      have d1 : decide ((i : Int) < (i : Int)) = false := by simp
      clear hs hg hi him
      go_wp2_with fail
      (try simp only [Exit.inBlock, Exit.then])
      first | refine bodyPost_ret (results_none rfl _ _ _) rfl ?_ | refine bodyPost_end (results_none rfl _ _ _) rfl ?_
      exact ⟨rfl, HD.out.1, HD.out.2⟩
/-- Whether some way came there or not. -/
theorem meet_any (w : World) (B g m n cw : Nat) (D : Done) (k0 pc k : Nat) (l : List Bool) (bs : List (Option (Nat × Nat))) (hW : WaysAt w B g m D k0 bs) (hn : n = D.length) (hp0 : k0 ≤ pc) (hp : pc < D.length) (hk0 : k0 ≤ k) (hk : k < D.length) (hne : k ≠ pc) (x : Nat × Nat) (hx : bs.getD pc none = some x) (hl : D.getD pc none = some l) (hll : l.length ≤ 100000) (hfl : FlatD D l.length) (hB : B ≤ w.heap.size) :
    Calls Tryd.prog 35 #[.slice (some ⟨g, 0, none⟩) n cw, .int .i64 (k : Int), .slice (some ⟨x.1, 0, none⟩) m x.2] w fun e w' => e = .returned (.tuple #[]) ∧ MeetOk w' B g m (putD D k l) k0 pc x ∧ VK B w w' := by
  cases ha : D.getD k none with
  | none => exact meet_new w B g m n cw D k0 pc k l bs hW hn hp0 hp hk0 hk x hx hl hll ha hB
  | some a => exact meet_old w B g m n cw D k0 pc k l a bs hW hn hp0 hp hk0 hk hne x hx hl hll ha (hfl k a ha)
end Go.Proofs.YtglplhkbnkbjbaaDoor

namespace Go.Proofs.YtglplhkbnkbjbaaDoor
open Go Go.RowKit
set_option maxRecDepth 100000
set_option maxHeartbeats 16000000 in
theorem isRead_any (x : In4) (b m cc : Nat) (l : List Bool) (w : World) (hT : VTab w) (hop : 0 ≤ x.op ∧ x.op ≤ 20) (hs : SW w b l) (hm : m = l.length / 64 + 1) (hl : l.length ≤ 100000) (hrd : ∀ k, k < 3 → roleO x.op k = 2 → ∃ j : Nat, opnd x k = (j : Int) ∧ j < l.length) :
    Calls Tryd.prog 28 #[inV x, .slice (some ⟨b, 0, none⟩) m cc] w fun e w' => e = .returned (.bool (readL x l)) ∧ Below w.heap.size w w' := by
  have ko0 := fun W => operands_any x W
  have hoi0 := fun (k : Nat) (hk : k < 3) (W : World) => ops_index x k hk W
  obtain ⟨X, hX⟩ : ∃ X, X = x := ⟨_, rfl⟩
  obtain ⟨ov, hov⟩ : ∃ v, v = opsV x := ⟨_, rfl⟩
  rw [← hov] at hoi0
  have ko : ∀ W, Calls Tryd.prog 24 #[inV x] W fun e w' => e = .returned ov ∧ Below W.heap.size W w' := by rw [hov]; exact ko0
  obtain ⟨op, a, b', c⟩ := x
  have hop1 : 0 ≤ op := hop.1
  have hop2 : op ≤ 20 := hop.2
  obtain ⟨q, rfl⟩ : ∃ q : Nat, op = (q : Int) := ⟨op.toNat, by omega⟩
  have HQ : Hid (q < 21) := Lib.hid (by omega)
  have hXop : X.op = (q : Int) := by rw [hX]
  rw [← hX] at hrd hoi0 ⊢
  have hres : readL X l = (read1 X l 0 && (read1 X l 1 && read1 X l 2)) := rfl
  rw [hres]
  have hin : inV X = .agg #[.int .i64 (q : Int), .int .i64 a, .int .i64 b', .int .i64 c] := by rw [hX]; rfl
  rw [← hX, hin] at ko
  rw [hin]
  obtain ⟨W0, hW0⟩ : ∃ W0, W0 = w.alloc (.cells #[.int .i64 (q : Int), .int .i64 a, .int .i64 b', .int .i64 c] 34) := ⟨_, rfl⟩
  have hb0 : Below w.heap.size w W0 := by rw [hW0]; exact (Below.refl _ _).alloc (Nat.le_refl _) _
  have k0 := heap_alloc_new w (.cells #[.int .i64 (q : Int), .int .i64 a, .int .i64 b', .int .i64 c] 34)
  rw [← hW0] at k0
  obtain ⟨R, hR⟩ : ∃ R, R = w.heap.size := ⟨_, rfl⟩
  rw [← hR] at k0
  have kr := ko W0
  have HB0 := Lib.hid hb0
  have HW0 := Lib.hid hW0
  have HRR := Lib.hid hR
  have HI := Lib.hid k0
  have HSI := Lib.hid size_in4v
  have HT := Lib.hid (hT.below hb0)
  have HS := Lib.hid (hs.same (hb0.block b hs.lt))
  have HM := Lib.hid hm
  have HL := Lib.hid hl
  have HRD := Lib.hid hrd
  have HOI := Lib.hid hoi0
  have HXO := Lib.hid hXop
  clear k0 hb0 hW0 hR hT hs hm hl hrd hoi0 ko ko0 hop hop1 hop2 hX hov hres hin hXop
  go_enter Tryd.func28, Tryd.ntmps28
  go_upto_region 1 with fail
  rw [← HW0.out, ← HRR.out]
  go_wp2_with (refine wpList_load_row rfl 34 (.tmp 2) rfl R rfl 34 #[.int .i64 (q : Int), .int .i64 a, .int .i64 b', .int .i64 c] (0, 0) _ ?_ Tryd.underlying34 rfl HSI.out ?_; (exact HI.out))
  (with_reducible refine kr.mono ?_)
  rintro e w2 ⟨rfl, hb2⟩
  have HB2 := Lib.hid hb2
  clear kr hb2
  go_wp2_with fail
  go_loopw [9] (fun v wr => ∃ k : Nat, v = .int .i64 (k : Int) ∧ k ≤ 3 ∧ Below W0.heap.size W0 wr ∧ ∀ j, j < k → read1 X l j = true)
    (fun v _ => 3 - (intOf v).toNat)
  case atStart => exact ⟨0, rfl, by omega, HB2.out, fun j hj => by omega⟩
  case round =>
    obtain ⟨k, rfl, hk, hb, hq⟩ := hrel
    have HB := Lib.hid hb
    have HPR := Lib.hid hq
    clear hb hq
    by_cases hk3 : k < 3
    · have HK3 := Lib.hid hk3
      have d1 : decide ((k : Int) < 3) = true := by simp; omega
      have hix := HOI.out k hk3
      obtain ⟨v, hv⟩ : ∃ v, v = opnd X k := ⟨_, rfl⟩
      rw [← hv] at hix
      have hro := (HT.out.below HB.out) q k HQ.out hk3
      have hrd := HRD.out k hk3
      rw [HXO.out] at hrd
      have hp1 : read1 X l k = !((roleO (q : Int) k == 2) && !l.getD v.toNat false) := by
        unfold read1
        rw [HXO.out, ← hv]
      rw [← hv] at hrd
      obtain ⟨r, hr⟩ : ∃ r, r = roleO (q : Int) k := ⟨_, rfl⟩
      rw [← hr] at hro hrd hp1
      have HIw := Lib.hid ((HB.out.block R (Array.getElem?_eq_some_iff.1 HI.out).1).trans HI.out)
      have z0 := cell_of_row wr R 0 _ _ _ HIw.out
      have hsw := HS.out.same (HB.out.block b HS.out.lt)
      have HNX : Hid (read1 X l k = true → ∀ j, j < k + 1 → read1 X l j = true) := Lib.hid fun h j hj => by
        by_cases hjk : j = k
        · rw [hjk]; exact h
        · exact HPR.out j (by omega)
      have HNO : Hid (read1 X l k = false → (read1 X l 0 && (read1 X l 1 && read1 X l 2)) = false) := Lib.hid fun h => by
        have hk : k = 0 ∨ k = 1 ∨ k = 2 := by omega
        rcases hk with rfl | rfl | rfl <;> rw [h] <;> simp
      have hwr := wrap_succV (i := k) (by omega)
      have HWR := Lib.hid hwr
      by_cases hr2 : r = 2
      · obtain ⟨j, hj, hjl⟩ := hrd hr2
        have kh := setHas_any wr b m cc j l hsw HM.out hjl HL.out
        obtain ⟨y, hy⟩ : ∃ y, y = l.getD j false := ⟨_, rfl⟩
        rw [← hy] at kh
        have hp2 : read1 X l k = y := by
          rw [hp1, hr2, hj, Int.toNat_natCast, ← hy]
          simp
        have HP2 := Lib.hid hp2
        subst hj
        subst hr2
        clear hk hk3 hv hr hrd hp1 hp2 hsw hy hjl hwr
        go_wp2_with (first | refine wpList_val rfl (run_rolesA rfl rfl rfl HQ.out) ?_ | refine wpList_val rfl (run_rolesB rfl rfl rfl HK3.out) ?_)
        (with_reducible refine kh.mono ?_)
        rintro e w4 ⟨rfl, rfl⟩
        clear kh
        cases y with
        | true =>
          go_wp2_with fail
          exact ⟨⟨k + 1, by rw [HWR.out], HK3.out, HB.out, HNX.out HP2.out⟩, by have := HK3.out; rw [HWR.out]; simp only [intOf]; omega⟩
        | false =>
          go_wp2_with fail
          go_ret
          exact ⟨by rw [HNO.out HP2.out]; rfl, HB0.out.trans (HB.out.mono HB0.out.size)⟩
      · have e1 : (r == 2) = false := by simp [hr2]
        have HP2 : Hid (read1 X l k = true) := Lib.hid (by rw [hp1, e1]; rfl)
        clear hk hk3 hv hr hrd hp1 hsw hr2 hwr
        go_wp2_with (first | refine wpList_val rfl (run_rolesA rfl rfl rfl HQ.out) ?_ | refine wpList_val rfl (run_rolesB rfl rfl rfl HK3.out) ?_)
        exact ⟨⟨k + 1, by rw [HWR.out], HK3.out, HB.out, HNX.out HP2.out⟩, by have := HK3.out; rw [HWR.out]; simp only [intOf]; omega⟩
    · obtain rfl : k = 3 := by omega
      have HALL : Hid ((read1 X l 0 && (read1 X l 1 && read1 X l 2)) = true) := Lib.hid (by rw [HPR.out 0 (by omega), HPR.out 1 (by omega), HPR.out 2 (by omega)]; rfl)
      clear hk hk3
      go_wp2_with fail
      go_ret
      exact ⟨by rw [HALL.out]; rfl, HB0.out.trans (HB.out.mono HB0.out.size)⟩
end Go.Proofs.YtglplhkbnkbjbaaDoor
