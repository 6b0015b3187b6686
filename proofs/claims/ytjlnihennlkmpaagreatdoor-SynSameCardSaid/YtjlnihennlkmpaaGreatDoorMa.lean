/-
  Texts that the statements stand on, part 1.
-/
import Derived.WalkKit
import Derived.Lib.VarintMem
import Derived.Lib.Hide
import Derived.Laws.CopyOwn
import Derived.Deep.Draws
import Derived.Laws.BytesArg
import Derived.ProofKit
import Derived.SliceStrings
import Derived.Shelf.Strings.Builder1
import Derived.Shelf.Small.Strs
import Derived.Shelf.Small.Wraps
import Derived.Shelf.Strings.BuilderF
import Derived.Shelf.Strings.BuilderK
import Derived.Shelf.Strconv.Itoa0
import Derived.Shelf.Strconv.Itoa1
import Derived.Shelf.LaysM
import Derived.Shelf.Strconv.Itoa2
import Derived.Shelf.Strconv.Itoa3
import Derived.Shelf.Strconv.Itoa4
import Derived.Shelf.Strconv.ParseIntEmpty
import Derived.Shelf.Strconv.Clone
import Derived.Shelf.Strconv.SyntaxError
import Derived.Shelf.LaysC
import Derived.Shelf.Strconv.ToError
import Derived.Shelf.Strconv.Lower
import Derived.Shelf.Strconv.ParseUint10
import Derived.Shelf.Strconv.ParseUint10Empty
import Derived.Shelf.Strconv.ParseUint10Any
import Derived.Shelf.Strconv.ParseInt10
import Derived.Shelf.Strconv.RangeError
import Derived.Shelf.Strconv.ToErrorRange
import Derived.Shelf.Strconv.ParseUintEmpty
import Derived.Shelf.Strconv.ParseUint10b64
import Derived.Shelf.Strconv.ParseUint10b32
import Derived.Shelf.Strconv.ParseUint10b16
import Derived.Shelf.Strconv.ParseUint10b8
import Derived.Shelf.Strconv.ParseUint10At
import Derived.Shelf.Strconv.ParseInt10At64
import Derived.Shelf.Strconv.ParseInt10At32
import Derived.Shelf.Strconv.ParseInt10At16
import Derived.Shelf.Strconv.ParseInt10At8
import Derived.Shelf.Strconv.ParseInt10All
import Derived.Shelf.Strconv.ParseIntPublic10
import Derived.Shelf.Strconv.ErrVarParseInt
import Derived.Shelf.Strings.Search1
import Derived.Shelf.Strings.Search2
import Derived.Shelf.Strings.Search3
import Derived.Shelf.Strings.Shaped
import Derived.Shelf.Strings.Prefix
import Derived.Shelf.Slices.Turned
import Derived.Test.YtjlnihennlkmpaaGreatDoorProg
import Derived.LoopTactic
import Derived.Test.YtjlnihennlkmpaaGreatDoorRows
import Derived.Laws.Rows
import Derived.Lib.SmallJoins
import Derived.Lib.IndexBytes
import Derived.OwnWalk
import Derived.Deep.MidRow
import Derived.StillTailTactics
import Derived.Below
import Derived.Orders
import Derived.ArgAppend
import Derived.Laws.BitsAllLaws
set_option linter.unusedVariables false
set_option linter.unusedSimpArgs false
namespace Go.Proofs.YtjlnihennlkmpaaGreatDoor
open Go Go.RowKit
/-- The slice address a holds the bytes l, in a block that is there. -/
def Txt (w : World) (a : Option Addr) (l : List UInt8) : Prop :=
  l ≠ [] → ∃ b o, a = some ⟨b, o, none⟩ ∧ b < w.heap.size ∧ ∀ i (h : i < l.length), w.cell? ⟨b, o + i, none⟩ = some (.int .u8 (l[i].toNat : Int))
theorem Txt.nil (w : World) (a : Option Addr) : Txt w a [] := fun h => absurd rfl h
theorem Txt.below {w w' : World} {a : Option Addr} {l : List UInt8} (h : Txt w a l) (hb : Below w.heap.size w w') : Txt w' a l := fun hne => by
  obtain ⟨b, o, rfl, hlt, hc⟩ := h hne
  exact ⟨b, o, rfl, Nat.lt_of_lt_of_le hlt hb.size, fun i hi => (hb.cell (p := ⟨b, o + i, none⟩) hlt).trans (hc i hi)⟩
theorem Txt.keep {w w' : World} {a : Option Addr} {l : List UInt8} (h : Txt w a l) (hs : w.heap.size ≤ w'.heap.size) (hk : ∀ b o, a = some ⟨b, o, none⟩ → w'.heap[b]? = w.heap[b]?) : Txt w' a l := fun hne => by
  obtain ⟨b, o, rfl, hlt, hc⟩ := h hne
  exact ⟨b, o, rfl, Nat.lt_of_lt_of_le hlt hs, fun i hi => (World.cell?_of_block (w := w) (a := ⟨b, o + i, none⟩) (hk b o rfl)).trans (hc i hi)⟩
theorem Txt.cells {w : World} {b o : Nat} {l : List UInt8} (h : Txt w (some ⟨b, o, none⟩) l) : ∀ j u, (Lib.byteCells l)[j]? = some u → w.cell? (Addr.add ⟨b, o, none⟩ j) = some u := by
  intro j u hu
  have hj : j < l.length := by
    have := (List.getElem?_eq_some_iff.1 hu).1
    simpa [Lib.byteCells] using this
  obtain ⟨b', o', e, _, hc⟩ := h (by rintro rfl; simp at hj)
  simp only [Option.some.injEq, Addr.mk.injEq, and_true] at e
  obtain ⟨rfl, rfl⟩ := e
  rw [Addr.add_lit, hc j hj, ← hu]
  simp [Lib.byteCells, hj]
theorem Txt.of_own {w : World} {base : Nat} {e : TypeId} {a : Option Addr} {c n : Nat} {l : List UInt8} (h : w.ownsRow base e 1 (.slice a n c) n (Lib.byteCells l)) : Txt w a l ∧ n = l.length := by
  have hn : n = l.length := by have := h.1; simpa [Lib.byteCells] using this.symm
  refine ⟨fun hne => ?_, hn⟩
  rcases h.2 with ⟨h1, h2⟩ | ⟨g, cap, cur, h1, _, hg, _, _, _, _⟩
  · exact absurd (List.eq_nil_of_length_eq_zero (by omega)) hne
  · injection h1 with h1 _ h3
    subst h1
    refine ⟨g, 0, rfl, (Array.getElem?_eq_some_iff.1 hg).1, fun i hi => ?_⟩
    have := h.cells (g := g) rfl i (.int .u8 (l[i].toNat : Int)) (by simp [Lib.byteCells, hi])
    rw [Addr.add_lit] at this
    exact this
theorem Txt.drewN {w : World} {a : Option Addr} {l : List UInt8} (h : Txt w a l) (n : Nat) : Txt (w.drewN n) a l := h
end Go.Proofs.YtjlnihennlkmpaaGreatDoor

namespace Go.Proofs.YtjlnihennlkmpaaGreatDoor
open Go Go.RowKit
/-- The slice address a holds l's values, in a block that is there. -/
def Row {α : Type} (f : α → Value) (w : World) (a : Option Addr) (l : List α) : Prop :=
  l ≠ [] → ∃ b o, a = some ⟨b, o, none⟩ ∧ b < w.heap.size ∧ ∀ i (h : i < l.length), w.cell? ⟨b, o + i, none⟩ = some (f l[i])
theorem Row.nil {α : Type} (f : α → Value) (w : World) (a : Option Addr) : Row f w a [] := fun h => absurd rfl h
theorem Row.below {α : Type} {f : α → Value} {w w' : World} {a : Option Addr} {l : List α} (h : Row f w a l) (hb : Below w.heap.size w w') : Row f w' a l := fun hne => by
  obtain ⟨b, o, rfl, hlt, hc⟩ := h hne
  exact ⟨b, o, rfl, Nat.lt_of_lt_of_le hlt hb.size, fun i hi => (hb.cell (p := ⟨b, o + i, none⟩) hlt).trans (hc i hi)⟩
end Go.Proofs.YtjlnihennlkmpaaGreatDoor

namespace Go.Proofs
open Go.Shelf
def Tryz.lays137_ren : Go.Shelf.Ren := ⟨fun | 137 => 45 | 217 => 67 | 266 => 83 | n => n, fun | 9 => 9 | 5 => 5 | 3 => 3 | n => n, fun | n => n⟩
theorem Tryz.lays137 : Go.Proofs.Lays.n137 Tryz.prog Tryz.lays137_ren := {
  mixed := by kernel_rfl
  f137 := Tryz.func45.trans (congrArg some (by kernel_rfl))
  f217 := Tryz.func67.trans (congrArg some (by kernel_rfl))
  f266 := Tryz.func83.trans (congrArg some (by kernel_rfl))
  t3 := Tryz.underlying3
  a3 := Tryz.isAgg3
  z3 := Tryz.sizeOf3
  v3 := Tryz.zeroValue3
  t5 := Tryz.underlying5
  a5 := Tryz.isAgg5
  z5 := Tryz.sizeOf5
  v5 := Tryz.zeroValue5
  t9 := Tryz.underlying9
  a9 := Tryz.isAgg9
  z9 := Tryz.sizeOf9
  v9 := Tryz.zeroValue9 }
open Go.RowKit in
theorem Tryz.strings_IndexByte (s : ByteArray) (c : Int) (w : World) :
    Calls Tryz.prog 45 #[.string s, .int .u8 c] w fun e w' => e = .returned (.int .i64 (Lib.indexByte s.data.toList c.toNat.toUInt8)) ∧ w' = w := Any.strings_IndexByte Tryz.lays137 s c w
def Tryz.laysM316_ren : Go.Shelf.Ren := ⟨fun | 316 => 102 | n => n, fun | 9 => 9 | 3 => 3 | 4 => 4 | 37 => 64 | 0 => 0 | 127 => 84 | 5 => 5 | n => n, fun | n => n⟩
theorem Tryz.laysM316 : Go.Proofs.LaysM.n316 Tryz.prog Tryz.laysM316_ren := {
  mixed := by kernel_rfl
  f316 := Tryz.func102.trans (congrArg some (by kernel_rfl))
  t0 := Tryz.underlying0
  a0 := Tryz.isAgg0
  z0 := Tryz.sizeOf0
  v0 := Tryz.zeroValue0
  t3 := Tryz.underlying3
  a3 := Tryz.isAgg3
  z3 := Tryz.sizeOf3
  v3 := Tryz.zeroValue3
  t4 := Tryz.underlying4
  a4 := Tryz.isAgg4
  z4 := Tryz.sizeOf4
  v4 := Tryz.zeroValue4
  t9 := Tryz.underlying9
  a9 := Tryz.isAgg9
  z9 := Tryz.sizeOf9
  v9 := Tryz.zeroValue9
  t37 := Tryz.underlying64
  a37 := Tryz.isAgg64
  z37 := Tryz.sizeOf64
  v37 := Tryz.zeroValue64
  t127 := Tryz.underlying84
  a127 := Tryz.isAgg84
  z127 := Tryz.sizeOf84
  v127 := Tryz.zeroValue84
  t5 := Tryz.underlying5
  a5 := Tryz.isAgg5
  z5 := Tryz.sizeOf5
  v5 := Tryz.zeroValue5
  i0 := by kernel_rfl
  i3 := by kernel_rfl
  i4 := by kernel_rfl
  i5 := by kernel_rfl
  i9 := by kernel_rfl
  i37 := by kernel_rfl
  i127 := by kernel_rfl }
open Go.RowKit in
theorem Tryz.stringslite_Clone (s : ByteArray) (w : World) (hlim : s.size ≤ 281474976710656) :
    Calls Tryz.prog 102 #[.string s] w fun e w' => e = .returned (.string s) ∧ Below w.heap.size w w' := Any.stringslite_Clone Tryz.laysM316 s w hlim
def Tryz.laysC174_ren : Go.Shelf.Ren := ⟨fun | 174 => 72 | 247 => 86 | 245 => 87 | 287 => 103 | 279 => 104 | 280 => 105 | 281 => 106 | 282 => 107 | 321 => 115 | 322 => 116 | 316 => 102 | 171 => 118 | 205 => 117 | 243 => 121 | 246 => 65 | 283 => 79 | 284 => 80 | 285 => 81 | 286 => 82 | 129 => 95 | 317 => 94 | 318 => 96 | 319 => 97 | 320 => 98 | 337 => 112 | 338 => 113 | n => n, fun | 9 => 9 | 3 => 3 | 2 => 2 | 75 => 106 | 85 => 113 | 4 => 4 | 167 => 142 | 5 => 5 | 53 => 120 | 175 => 143 | 46 => 140 | 168 => 145 | 37 => 64 | 0 => 0 | 210 => 155 | 21 => 21 | 127 => 84 | 145 => 162 | 143 => 160 | 171 => 119 | 173 => 123 | 212 => 136 | 51 => 137 | 20 => 20 | 213 => 138 | 232 => 158 | 233 => 159 | 80 => 50 | n => n, fun | 15 => 2 | 16 => 3 | 17 => 0 | 18 => 4 | 19 => 5 | n => n⟩
theorem Tryz.laysC174 : Go.Proofs.LaysC.n174 Tryz.prog Tryz.laysC174_ren := {
  mixed := by kernel_rfl
  f129 := Tryz.func95.trans (congrArg some (by kernel_rfl))
  f171 := Tryz.func118.trans (congrArg some (by kernel_rfl))
  f174 := Tryz.func72.trans (congrArg some (by kernel_rfl))
  f205 := Tryz.func117.trans (congrArg some (by kernel_rfl))
  f243 := Tryz.func121.trans (congrArg some (by kernel_rfl))
  f245 := Tryz.func87.trans (congrArg some (by kernel_rfl))
  f246 := Tryz.func65.trans (congrArg some (by kernel_rfl))
  f247 := Tryz.func86.trans (congrArg some (by kernel_rfl))
  f279 := Tryz.func104.trans (congrArg some (by kernel_rfl))
  f280 := Tryz.func105.trans (congrArg some (by kernel_rfl))
  f281 := Tryz.func106.trans (congrArg some (by kernel_rfl))
  f282 := Tryz.func107.trans (congrArg some (by kernel_rfl))
  f283 := Tryz.func79.trans (congrArg some (by kernel_rfl))
  f284 := Tryz.func80.trans (congrArg some (by kernel_rfl))
  f285 := Tryz.func81.trans (congrArg some (by kernel_rfl))
  f286 := Tryz.func82.trans (congrArg some (by kernel_rfl))
  f287 := Tryz.func103.trans (congrArg some (by kernel_rfl))
  f316 := Tryz.func102.trans (congrArg some (by kernel_rfl))
  f317 := Tryz.func94.trans (congrArg some (by kernel_rfl))
  f318 := Tryz.func96.trans (congrArg some (by kernel_rfl))
  f319 := Tryz.func97.trans (congrArg some (by kernel_rfl))
  f320 := Tryz.func98.trans (congrArg some (by kernel_rfl))
  f321 := Tryz.func115.trans (congrArg some (by kernel_rfl))
  f322 := Tryz.func116.trans (congrArg some (by kernel_rfl))
  f337 := Tryz.func112.trans (congrArg some (by kernel_rfl))
  f338 := Tryz.func113.trans (congrArg some (by kernel_rfl))
  t0 := Tryz.underlying0
  a0 := Tryz.isAgg0
  z0 := Tryz.sizeOf0
  v0 := Tryz.zeroValue0
  t2 := Tryz.underlying2
  a2 := Tryz.isAgg2
  z2 := Tryz.sizeOf2
  v2 := Tryz.zeroValue2
  t3 := Tryz.underlying3
  a3 := Tryz.isAgg3
  z3 := Tryz.sizeOf3
  v3 := Tryz.zeroValue3
  t4 := Tryz.underlying4
  a4 := Tryz.isAgg4
  z4 := Tryz.sizeOf4
  v4 := Tryz.zeroValue4
  t5 := Tryz.underlying5
  a5 := Tryz.isAgg5
  z5 := Tryz.sizeOf5
  v5 := Tryz.zeroValue5
  t9 := Tryz.underlying9
  a9 := Tryz.isAgg9
  z9 := Tryz.sizeOf9
  v9 := Tryz.zeroValue9
  t20 := Tryz.underlying20
  a20 := Tryz.isAgg20
  z20 := Tryz.sizeOf20
  v20 := Tryz.zeroValue20
  t21 := Tryz.underlying21
  a21 := Tryz.isAgg21
  z21 := Tryz.sizeOf21
  v21 := Tryz.zeroValue21
  t37 := Tryz.underlying64
  a37 := Tryz.isAgg64
  z37 := Tryz.sizeOf64
  v37 := Tryz.zeroValue64
  t46 := Tryz.underlying140
  a46 := Tryz.isAgg140
  z46 := Tryz.sizeOf140
  v46 := Tryz.zeroValue140
  t51 := Tryz.underlying137
  a51 := Tryz.isAgg137
  z51 := Tryz.sizeOf137
  v51 := Tryz.zeroValue137
  t53 := Tryz.underlying120
  a53 := Tryz.isAgg120
  z53 := Tryz.sizeOf120
  v53 := Tryz.zeroValue120
  t75 := Tryz.underlying106
  a75 := Tryz.isAgg106
  z75 := Tryz.sizeOf106
  v75 := Tryz.zeroValue106
  t85 := Tryz.underlying113
  a85 := Tryz.isAgg113
  z85 := Tryz.sizeOf113
  v85 := Tryz.zeroValue113
  t127 := Tryz.underlying84
  a127 := Tryz.isAgg84
  z127 := Tryz.sizeOf84
  v127 := Tryz.zeroValue84
  t143 := Tryz.underlying160
  a143 := Tryz.isAgg160
  z143 := Tryz.sizeOf160
  v143 := Tryz.zeroValue160
  t145 := Tryz.underlying162
  a145 := Tryz.isAgg162
  z145 := Tryz.sizeOf162
  v145 := Tryz.zeroValue162
  t167 := Tryz.underlying142
  a167 := Tryz.isAgg142
  z167 := Tryz.sizeOf142
  v167 := Tryz.zeroValue142
  t168 := Tryz.underlying145
  a168 := Tryz.isAgg145
  z168 := Tryz.sizeOf145
  v168 := Tryz.zeroValue145
  t171 := Tryz.underlying119
  a171 := Tryz.isAgg119
  z171 := Tryz.sizeOf119
  v171 := Tryz.zeroValue119
  t173 := Tryz.underlying123
  a173 := Tryz.isAgg123
  z173 := Tryz.sizeOf123
  v173 := Tryz.zeroValue123
  t175 := Tryz.underlying143
  a175 := Tryz.isAgg143
  z175 := Tryz.sizeOf143
  v175 := Tryz.zeroValue143
  t210 := Tryz.underlying155
  a210 := Tryz.isAgg155
  z210 := Tryz.sizeOf155
  v210 := Tryz.zeroValue155
  t212 := Tryz.underlying136
  a212 := Tryz.isAgg136
  z212 := Tryz.sizeOf136
  v212 := Tryz.zeroValue136
  t213 := Tryz.underlying138
  a213 := Tryz.isAgg138
  z213 := Tryz.sizeOf138
  t232 := Tryz.underlying158
  a232 := Tryz.isAgg158
  z232 := Tryz.sizeOf158
  v232 := Tryz.zeroValue158
  t233 := Tryz.underlying159
  a233 := Tryz.isAgg159
  z233 := Tryz.sizeOf159
  v233 := Tryz.zeroValue159
  g15 := by kernel_rfl
  g16 := by kernel_rfl
  g17 := by kernel_rfl
  g18 := by kernel_rfl
  g19 := by kernel_rfl
  t80 := Tryz.underlying50
  a80 := Tryz.isAgg50
  z80 := Tryz.sizeOf50
  v80 := Tryz.zeroValue50
  i0 := by kernel_rfl
  i2 := by kernel_rfl
  i3 := by kernel_rfl
  i4 := by kernel_rfl
  i5 := by kernel_rfl
  i9 := by kernel_rfl
  i20 := by kernel_rfl
  i21 := by kernel_rfl
  i37 := by kernel_rfl
  i46 := by kernel_rfl
  i51 := by kernel_rfl
  i53 := by kernel_rfl
  i75 := by kernel_rfl
  i80 := by kernel_rfl
  i85 := by kernel_rfl
  i127 := by kernel_rfl
  i143 := by kernel_rfl
  i145 := by kernel_rfl
  i167 := by kernel_rfl
  i168 := by kernel_rfl
  i171 := by kernel_rfl
  i173 := by kernel_rfl
  i175 := by kernel_rfl
  i210 := by kernel_rfl
  i212 := by kernel_rfl
  i232 := by kernel_rfl
  i233 := by kernel_rfl
  m15 := by kernel_rfl
  m16 := by kernel_rfl
  m17 := by kernel_rfl
  m18 := by kernel_rfl
  m19 := by kernel_rfl
  c0 := by kernel_rfl
  c2 := by kernel_rfl
  c3 := by kernel_rfl
  c4 := by kernel_rfl
  c5 := by kernel_rfl
  c9 := by kernel_rfl
  c20 := by kernel_rfl
  c21 := by kernel_rfl
  c37 := by kernel_rfl
  c46 := by kernel_rfl
  c51 := by kernel_rfl
  c53 := by kernel_rfl
  c75 := by kernel_rfl
  c80 := by kernel_rfl
  c85 := by kernel_rfl
  c127 := by kernel_rfl
  c143 := by kernel_rfl
  c145 := by kernel_rfl
  c167 := by kernel_rfl
  c168 := by kernel_rfl
  c171 := by kernel_rfl
  c173 := by kernel_rfl
  c175 := by kernel_rfl
  c210 := by kernel_rfl
  c212 := by kernel_rfl
  c213 := by kernel_rfl
  c232 := by kernel_rfl
  c233 := by kernel_rfl }
open Go.RowKit in
theorem Tryz.strconv_ParseInt_10_at64_ok (s : ByteArray) (hmax : s.size ≤ 9223372036854775806) (v : Int) (h : Lib.parseIntB 64 s.data.toList = .ok v) (w : World) :
    Calls Tryz.prog 72 #[.string s, .int .i64 10, .int .i64 64] w fun e w' => e = .returned (.tuple #[.int .i64 v, .nilIface]) ∧ (w' = w ∨ ∃ t, w' = Lib.bytesWorld w 5 t) := Any.strconv_ParseInt_10_at64_ok Tryz.laysC174 s hmax v h w
open Go.RowKit in
theorem Tryz.strconv_ParseInt_10_at64_range (s : ByteArray) (hlim : s.size ≤ 281474976710656) (h : Lib.parseIntB 64 s.data.toList = .range) (ev : Value) (w : World) (hv : w.cell? ⟨3, 0, none⟩ = some ev) (hev : ev = .nilIface ∨ ∃ te pe, ev = .iface te pe) :
    Calls Tryz.prog 72 #[.string s, .int .i64 10, .int .i64 64] w fun e w' => ∃ N, e = .returned (.tuple #[.int .i64 (Lib.intSat 64 s.data.toList), .iface 145 (.pointer (some ⟨N, 0, none⟩))]) ∧ w.heap.size ≤ N ∧ w'.heap[N]? = some (.cells #[.string ⟨#[80, 97, 114, 115, 101, 73, 110, 116]⟩, .string s, ev] 155 (0, 0)) ∧ Below w.heap.size w w' := Any.strconv_ParseInt_10_at64_range Tryz.laysC174 s hlim h ev w hv hev
def Tryz.lays143_ren : Go.Shelf.Ren := ⟨fun | 143 => 69 | 219 => 84 | 217 => 67 | 225 => 99 | 224 => 100 | 267 => 101 | 266 => 83 | 314 => 114 | n => n, fun | 9 => 9 | 3 => 3 | 4 => 4 | 5 => 5 | 46 => 140 | 146 => 151 | 51 => 137 | n => n, fun | 1 => 1 | n => n⟩
theorem Tryz.lays143 : Go.Proofs.Lays.n143 Tryz.prog Tryz.lays143_ren := {
  mixed := by kernel_rfl
  f143 := Tryz.func69.trans (congrArg some (by kernel_rfl))
  f217 := Tryz.func67.trans (congrArg some (by kernel_rfl))
  f219 := Tryz.func84.trans (congrArg some (by kernel_rfl))
  f224 := Tryz.func100.trans (congrArg some (by kernel_rfl))
  f225 := Tryz.func99.trans (congrArg some (by kernel_rfl))
  f266 := Tryz.func83.trans (congrArg some (by kernel_rfl))
  f267 := Tryz.func101.trans (congrArg some (by kernel_rfl))
  f314 := Tryz.func114.trans (congrArg some (by kernel_rfl))
  t3 := Tryz.underlying3
  a3 := Tryz.isAgg3
  z3 := Tryz.sizeOf3
  v3 := Tryz.zeroValue3
  t4 := Tryz.underlying4
  a4 := Tryz.isAgg4
  z4 := Tryz.sizeOf4
  v4 := Tryz.zeroValue4
  t5 := Tryz.underlying5
  a5 := Tryz.isAgg5
  z5 := Tryz.sizeOf5
  v5 := Tryz.zeroValue5
  t9 := Tryz.underlying9
  a9 := Tryz.isAgg9
  z9 := Tryz.sizeOf9
  v9 := Tryz.zeroValue9
  t46 := Tryz.underlying140
  a46 := Tryz.isAgg140
  z46 := Tryz.sizeOf140
  v46 := Tryz.zeroValue140
  t51 := Tryz.underlying137
  a51 := Tryz.isAgg137
  z51 := Tryz.sizeOf137
  v51 := Tryz.zeroValue137
  t146 := Tryz.underlying151
  a146 := Tryz.isAgg151
  z146 := Tryz.sizeOf151
  v146 := Tryz.zeroValue151
  g1 := by kernel_rfl }
open Go.RowKit Go.Lib in
theorem Tryz.strings_Index_one (s : ByteArray) (c : UInt8) (w : World) :
    Calls Tryz.prog 69 #[.string s, .string ⟨#[c]⟩] w fun e w' => e = .returned (.int .i64 (Lib.indexByte s.data.toList c)) ∧ w' = w := Any.strings_Index_one Tryz.lays143 s c w
def Tryz.lays99_ren : Go.Shelf.Ren := ⟨fun | 99 => 46 | 206 => 68 | n => n, fun | 9 => 9 | 4 => 4 | 3 => 3 | n => n, fun | n => n⟩
theorem Tryz.lays99 : Go.Proofs.Lays.n99 Tryz.prog Tryz.lays99_ren := {
  mixed := by kernel_rfl
  f99 := Tryz.func46.trans (congrArg some (by kernel_rfl))
  f206 := Tryz.func68.trans (congrArg some (by kernel_rfl))
  t3 := Tryz.underlying3
  a3 := Tryz.isAgg3
  z3 := Tryz.sizeOf3
  v3 := Tryz.zeroValue3
  t4 := Tryz.underlying4
  a4 := Tryz.isAgg4
  z4 := Tryz.sizeOf4
  v4 := Tryz.zeroValue4
  t9 := Tryz.underlying9
  a9 := Tryz.isAgg9
  z9 := Tryz.sizeOf9
  v9 := Tryz.zeroValue9 }
open Go.RowKit Go.Lib in
theorem Tryz.strings_HasPrefix (s p : ByteArray) (w : World) :
    Calls Tryz.prog 46 #[.string s, .string p] w fun e w' => e = .returned (.bool (Lib.hasPrefix s.data.toList p.data.toList)) ∧ w' = w := Any.strings_HasPrefix Tryz.lays99 s p w
end Go.Proofs

namespace Go.Proofs.YtjlnihennlkmpaaGreatDoor
open Go Go.RowKit
def isL (n : Nat) : Bool := decide (97 ≤ n) && decide (n ≤ 122)
def isD (n : Nat) : Bool := decide (48 ≤ n) && decide (n ≤ 57)
def isN (n : Nat) : Bool := isL n || isD n || n == 95
set_option maxRecDepth 100000 in
theorem isLetter_any (c : Nat) (w : World) : Calls Tryz.prog 48 #[.int .u8 (c : Int)] w fun e w' => e = .returned (.bool (isL c)) ∧ w' = w := by
  unfold isL
  by_cases h1 : 97 ≤ c
  · by_cases h2 : c ≤ 122
    · rw [decide_eq_true h1, decide_eq_true h2]
      have i1 : decide ((97 : Int) ≤ (c : Int)) = true := by simp; omega
      have i2 : decide ((c : Int) ≤ 122) = true := by simp; omega
      go_enter Tryz.func48, Tryz.ntmps48
      go_wp2
      go_ret
      exact ⟨rfl, rfl⟩
    · rw [decide_eq_true h1, decide_eq_false h2]
      have i1 : decide ((97 : Int) ≤ (c : Int)) = true := by simp; omega
      have i2 : decide ((c : Int) ≤ 122) = false := by simp; omega
      go_enter Tryz.func48, Tryz.ntmps48
      go_wp2
      go_ret
      exact ⟨rfl, rfl⟩
  · rw [decide_eq_false h1]
    have i1 : decide ((97 : Int) ≤ (c : Int)) = false := by simp; omega
    go_enter Tryz.func48, Tryz.ntmps48
    go_wp2
    go_ret
    exact ⟨rfl, rfl⟩
set_option maxRecDepth 100000 in
theorem isDigit_any (c : Nat) (w : World) : Calls Tryz.prog 52 #[.int .u8 (c : Int)] w fun e w' => e = .returned (.bool (isD c)) ∧ w' = w := by
  unfold isD
  by_cases h1 : 48 ≤ c
  · by_cases h2 : c ≤ 57
    · rw [decide_eq_true h1, decide_eq_true h2]
      have i1 : decide ((48 : Int) ≤ (c : Int)) = true := by simp; omega
      have i2 : decide ((c : Int) ≤ 57) = true := by simp; omega
      go_enter Tryz.func52, Tryz.ntmps52
      go_wp2
      go_ret
      exact ⟨rfl, rfl⟩
    · rw [decide_eq_true h1, decide_eq_false h2]
      have i1 : decide ((48 : Int) ≤ (c : Int)) = true := by simp; omega
      have i2 : decide ((c : Int) ≤ 57) = false := by simp; omega
      go_enter Tryz.func52, Tryz.ntmps52
      go_wp2
      go_ret
      exact ⟨rfl, rfl⟩
  · rw [decide_eq_false h1]
    have i1 : decide ((48 : Int) ≤ (c : Int)) = false := by simp; omega
    go_enter Tryz.func52, Tryz.ntmps52
    go_wp2
    go_ret
    exact ⟨rfl, rfl⟩
set_option maxRecDepth 100000 in
theorem isNamePart_any (c : Nat) (w : World) : Calls Tryz.prog 51 #[.int .u8 (c : Int)] w fun e w' => e = .returned (.bool (isN c)) ∧ w' = w := by
  have k1 := isLetter_any c w
  have k2 := isDigit_any c w
  unfold isN
  generalize isL c = b1 at *
  generalize isD c = b2 at *
  cases b1
  · cases b2
    · by_cases h : c = 95
      · subst h
        go_enter Tryz.func51, Tryz.ntmps51
        go_wp2_with fail
        refine k1.mono ?_
        rintro e w1 ⟨rfl, rfl⟩
        go_wp2_with fail
        refine k2.mono ?_
        rintro e w1 ⟨rfl, rfl⟩
        go_wp2_with fail
        go_ret
        exact ⟨rfl, rfl⟩
      · have i1 : ((c : Int) == 95) = false := by simp; omega
        have i2 : (c == 95) = false := by simpa using h
        rw [i2]
        go_enter Tryz.func51, Tryz.ntmps51
        go_wp2_with fail
        refine k1.mono ?_
        rintro e w1 ⟨rfl, rfl⟩
        go_wp2_with fail
        refine k2.mono ?_
        rintro e w1 ⟨rfl, rfl⟩
        go_wp2_with fail
        go_ret
        exact ⟨rfl, rfl⟩
    · go_enter Tryz.func51, Tryz.ntmps51
      go_wp2_with fail
      refine k1.mono ?_
      rintro e w1 ⟨rfl, rfl⟩
      go_wp2_with fail
      refine k2.mono ?_
      rintro e w1 ⟨rfl, rfl⟩
      go_wp2_with fail
      go_ret
      exact ⟨rfl, rfl⟩
  · go_enter Tryz.func51, Tryz.ntmps51
    go_wp2_with fail
    refine k1.mono ?_
    rintro e w1 ⟨rfl, rfl⟩
    go_wp2_with fail
    go_ret
    exact ⟨rfl, rfl⟩
end Go.Proofs.YtjlnihennlkmpaaGreatDoor

namespace Go.Proofs.YtjlnihennlkmpaaGreatDoor
open Go Go.RowKit
/-- How many bytes that fit a text begins with. -/
def runLen (p : Nat → Bool) (l : List UInt8) : Nat := (l.takeWhile fun c => p c.toNat).length
theorem runLen_le (p : Nat → Bool) (l : List UInt8) : runLen p l ≤ l.length := (List.takeWhile_sublist _).length_le
theorem runLen_in (p : Nat → Bool) : ∀ (l : List UInt8) (k : Nat) (hk : k < l.length), k < runLen p l → p l[k].toNat = true
  | c :: r, 0, _, h => by
    unfold runLen at h
    rw [List.takeWhile_cons] at h
    by_cases hp : p c.toNat = true
    · exact hp
    · rw [if_neg hp] at h; simp at h
  | c :: r, k + 1, hk, h => by
    unfold runLen at h
    rw [List.takeWhile_cons] at h
    by_cases hp : p c.toNat = true
    · rw [if_pos hp, List.length_cons] at h
      exact runLen_in p r k (by simpa using hk) (by unfold runLen; omega)
    · rw [if_neg hp] at h; simp at h
theorem runLen_out (p : Nat → Bool) : ∀ (l : List UInt8) (hk : runLen p l < l.length), p l[runLen p l].toNat = false
  | c :: r, hk => by
    by_cases hp : p c.toNat = true
    · have e : runLen p (c :: r) = runLen p r + 1 := by unfold runLen; rw [List.takeWhile_cons, if_pos hp, List.length_cons]
      have h := runLen_out p r (by rw [e] at hk; simpa using hk)
      simp only [e, List.getElem_cons_succ]
      exact h
    · have e : runLen p (c :: r) = 0 := by unfold runLen; rw [List.takeWhile_cons, if_neg hp]; rfl
      simp only [e, List.getElem_cons_zero]
      simpa using hp
set_option maxHeartbeats 1000000 in
set_option maxRecDepth 100000 in
theorem run_name (s : ByteArray) (w : World) (hs : s.size ≤ 140737488351232) :
    Calls Tryz.prog 50 #[.string s, .func (.func 51) #[] #[]] w fun e w' => e = .returned (.string (s.extract 0 (runLen isN s.data.toList))) ∧ w' = w := by
  have hle := runLen_le isN s.data.toList
  have hsz : s.data.toList.length = s.size := by simp
  rw [hsz] at hle
  obtain ⟨L, hL⟩ : ∃ L, L = runLen isN s.data.toList := ⟨_, rfl⟩
  have hin : ∀ k (h : k < s.size), k < L → isN s[k].toNat = true := fun k h hk => by
    rw [hL] at hk; exact runLen_in isN s.data.toList k (by rw [hsz]; exact h) hk
  have hout : ∀ h : L < s.size, isN s[L].toNat = false := fun h => by
    subst hL; exact runLen_out isN s.data.toList (by rw [hsz]; exact h)
  rw [← hL] at hle ⊢
  have HI := Lib.hid hin
  have HO := Lib.hid hout
  clear hin hout hL hsz
  go_enter Tryz.func50, Tryz.ntmps50
  go_wp2
  go_loop [5] (fun vi => ∃ k : Nat, vi = .int .i64 (k : Int) ∧ k ≤ L) (fun vi => L - (intOf vi).toNat)
  case atStart => exact ⟨0, rfl, Nat.zero_le _⟩
  case round =>
    obtain ⟨k, rfl, hk⟩ := hrel
    by_cases hlt : k < s.size
    · have hc := isNamePart_any s[k].toNat w
      by_cases hkL : k < L
      · rw [HI.out k hlt hkL] at hc
        have hd : decide ((k : Int) < (s.size : Int)) = true := by simp; omega
        go_wp2_with fail
        refine hc.mono ?_
        rintro e w1 ⟨rfl, rfl⟩
        go_wp2_with fail
        refine ⟨⟨k + 1, by go_num, by omega⟩, ?_⟩
        simp [intOf]; omega
      · obtain rfl : k = L := by omega
        rw [HO.out hlt] at hc
        have hd : decide ((k : Int) < (s.size : Int)) = true := by simp; omega
        go_wp2_with fail
        refine hc.mono ?_
        rintro e w1 ⟨rfl, rfl⟩
        go_wp2_with fail
        go_ret
        exact ⟨rfl, rfl⟩
    · obtain rfl : k = L := by omega
      have hd : decide ((k : Int) < (s.size : Int)) = false := by simp; omega
      go_wp2_with fail
      go_ret
      exact ⟨rfl, rfl⟩
set_option maxHeartbeats 1000000 in
set_option maxRecDepth 100000 in
theorem run_digit (s : ByteArray) (w : World) (hs : s.size ≤ 140737488351232) :
    Calls Tryz.prog 50 #[.string s, .func (.func 52) #[] #[]] w fun e w' => e = .returned (.string (s.extract 0 (runLen isD s.data.toList))) ∧ w' = w := by
  have hle := runLen_le isD s.data.toList
  have hsz : s.data.toList.length = s.size := by simp
  rw [hsz] at hle
  obtain ⟨L, hL⟩ : ∃ L, L = runLen isD s.data.toList := ⟨_, rfl⟩
  have hin : ∀ k (h : k < s.size), k < L → isD s[k].toNat = true := fun k h hk => by
    rw [hL] at hk; exact runLen_in isD s.data.toList k (by rw [hsz]; exact h) hk
  have hout : ∀ h : L < s.size, isD s[L].toNat = false := fun h => by
    subst hL; exact runLen_out isD s.data.toList (by rw [hsz]; exact h)
  rw [← hL] at hle ⊢
  have HI := Lib.hid hin
  have HO := Lib.hid hout
  clear hin hout hL hsz
  go_enter Tryz.func50, Tryz.ntmps50
  go_wp2
  go_loop [5] (fun vi => ∃ k : Nat, vi = .int .i64 (k : Int) ∧ k ≤ L) (fun vi => L - (intOf vi).toNat)
  case atStart => exact ⟨0, rfl, Nat.zero_le _⟩
  case round =>
    obtain ⟨k, rfl, hk⟩ := hrel
    by_cases hlt : k < s.size
    · have hc := isDigit_any s[k].toNat w
      by_cases hkL : k < L
      · rw [HI.out k hlt hkL] at hc
        have hd : decide ((k : Int) < (s.size : Int)) = true := by simp; omega
        go_wp2_with fail
        refine hc.mono ?_
        rintro e w1 ⟨rfl, rfl⟩
        go_wp2_with fail
        refine ⟨⟨k + 1, by go_num, by omega⟩, ?_⟩
        simp [intOf]; omega
      · obtain rfl : k = L := by omega
        rw [HO.out hlt] at hc
        have hd : decide ((k : Int) < (s.size : Int)) = true := by simp; omega
        go_wp2_with fail
        refine hc.mono ?_
        rintro e w1 ⟨rfl, rfl⟩
        go_wp2_with fail
        go_ret
        exact ⟨rfl, rfl⟩
    · obtain rfl : k = L := by omega
      have hd : decide ((k : Int) < (s.size : Int)) = false := by simp; omega
      go_wp2_with fail
      go_ret
      exact ⟨rfl, rfl⟩
end Go.Proofs.YtjlnihennlkmpaaGreatDoor

namespace Go.Proofs.YtjlnihennlkmpaaGreatDoor
open Go Go.RowKit
def KEPT : List (List UInt8) := [[110,111,100,101],[114,101,116,117,114,110,115],[118,97,114],[108,101,116],[116,101,108],[98,111,111,108],[105,110,116],[116,114,117,101],[102,97,108,115,101],[110,111,116],[97,110,100],[111,114],[120,111,114],[109,111,100],[105,102],[116,104,101,110],[101,108,115,101],[112,114,101],[102,98,121],[119,104,101,110],[109,101,114,103,101]]
def keptB (l : List UInt8) : Bool := KEPT.contains l
set_option maxHeartbeats 2000000 in
set_option maxRecDepth 100000 in
theorem Kept_any (s : ByteArray) (w : World) : Calls Tryz.prog 70 #[.string s] w fun e w' => e = .returned (.bool (keptB s.data.toList)) ∧ w' = w := by
  obtain ⟨b, hb⟩ : ∃ b, b = keptB s.data.toList := ⟨_, rfl⟩
  rw [← hb]
  have HB := Lib.hid hb
  clear hb
  go_enter Tryz.func70, Tryz.ntmps70
  go_wp2
  all_goals
    have hb := HB.out
    rw [← Lib.toList_data] at hb
    clear HB
    generalize s.toList = L at *
    first
    | (exfalso; simp_all; done)
    | (go_ret
       first
       | (refine ⟨congrArg (fun x => Ending.returned (Value.bool x)) (?_ : true = b), rfl⟩
          rw [hb]
          unfold keptB KEPT
          simp only [List.contains_cons, *, Bool.or_true, Bool.true_or])
       | (refine ⟨congrArg (fun x => Ending.returned (Value.bool x)) (?_ : false = b), rfl⟩
          rw [hb]
          unfold keptB KEPT
          simp only [List.contains_cons, List.contains_nil, *, Bool.or_self]))
end Go.Proofs.YtjlnihennlkmpaaGreatDoor

namespace Go.Proofs.YtjlnihennlkmpaaGreatDoor
open Go Go.RowKit
theorem info_byte : (Tryz.prog.info? 5).map (fun i => (i.zero, i.size, i.bytes)) = some (some (.int .u8 0), 1, 1) := by kernel_rfl
/-- A row of the call's own stays its own. -/
theorem own_below {w w' : World} {base : Nat} {e : TypeId} {s : Nat} {v : Value} {n : Nat} {xs : List Value} (h : w.ownsRow base e s v n xs) (hb : Below w.heap.size w w') : w'.ownsRow base e s v n xs := by
  refine ⟨h.1, ?_⟩
  rcases h.2 with h | ⟨g, cap, cur, e, hg, hgc, h5⟩
  · exact .inl h
  · exact .inr ⟨g, cap, cur, e, hg, (hb.block g (Array.getElem?_eq_some_iff.1 hgc).1).trans hgc, h5⟩
end Go.Proofs.YtjlnihennlkmpaaGreatDoor

namespace Go.Proofs.YtjlnihennlkmpaaGreatDoor
open Go Go.RowKit
/-- A word's value. -/
def wordV (k : Int) (s : ByteArray) (n a : Int) : Value := .agg #[.int .i64 k, .string s, .int .i64 n, .int .i64 a]
def noWord : Value := wordV 0 ByteArray.empty 0 0
theorem Clone_any (s : ByteArray) (w : World) (hs : s.size ≤ 281474976710656) : Calls Tryz.prog 85 #[.string s] w fun e w' => e = .returned (.string s) ∧ Below w.heap.size w w' := by
  have h := Tryz.stringslite_Clone s w hs
  go_enter Tryz.func85, Tryz.ntmps85
  go_wp2_with fail
  refine h.mono ?_
  rintro e w1 ⟨rfl, hb⟩
  go_wp2_with fail
  go_ret
  exact ⟨rfl, hb⟩
theorem word_one (k : Int) (s : ByteArray) (n a : Int) : (#[.int .i64 k, .string s, .int .i64 n, .int .i64 a] : Array Value).all (·.oneCell') = true := by simp [Value.oneCell']
theorem size_word : (Tryz.prog.info? 77).map (·.size) = some 4 := by kernel_rfl
set_option maxHeartbeats 1000000 in
set_option maxRecDepth 100000 in
theorem word_any (k n : Int) (s : ByteArray) (w : World) (hs : s.size ≤ 281474976710656) : Calls Tryz.prog 71 #[.int .i64 k, .string s, .int .i64 n] w fun e w' => e = .returned (wordV k s n 0) ∧ Below w.heap.size w w' := by
  have hc := fun W => Clone_any s W hs
  have HC := Lib.hid hc
  clear hc
  go_enter Tryz.func71, Tryz.ntmps71
  go_wp2_with fail
  refine (HC.out _).mono ?_
  rintro e w1 ⟨rfl, hb⟩
  have hblk := (hb.block w.heap.size (by simp)).trans (heap_alloc_new w _)
  have hbel : Below w.heap.size w w1 := ((Below.refl _ _).alloc (Nat.le_refl _) _).trans (hb.mono (by simp))
  clear hb
  have H1 := Lib.hid hblk
  have H2 := Lib.hid size_word
  clear hblk
  go_wp2_with (refine wpList_store_row rfl 77 (.tmp 6) (.tmp 11) rfl w.heap.size #[.int .i64 k, .string s, .int .i64 n, .int .i64 0] rfl rfl 77 _ H1.out H2.out rfl (word_one _ _ _ _) ?_)
  exact bodyPost_ret (v := wordV k s n 0) (results_cell_row (p := 6) (ty := 77) rfl _ _ w.heap.size 77 #[.int .i64 k, .string s, .int .i64 n, .int .i64 0] (0, 0) _ rfl (setRow_heap w1 w.heap.size _ _ _ _ H1.out) Tryz.underlying77 rfl H2.out) rfl ⟨rfl, below_setRow hbel (Nat.le_refl _) _⟩
end Go.Proofs.YtjlnihennlkmpaaGreatDoor

namespace Go.Proofs.YtjlnihennlkmpaaGreatDoor
open Go Go.RowKit
/-- A call hands back a word; older memory is as it was. -/
def GivesWord (w : World) (v : Value) (e : Ending) (w' : World) : Prop := e = .returned v ∧ Below w.heap.size w w'
def nameV (s : ByteArray) : Value := if 24 < s.size then noWord else if keptB s.data.toList = true then wordV 2 s 0 0 else wordV 1 s 0 0
set_option maxHeartbeats 2000000 in
set_option maxRecDepth 100000 in
theorem nameOf_any (s : ByteArray) (w : World) (hs : s.size ≤ 140737488351232) : Calls Tryz.prog 49 #[.string s] w (GivesWord w (nameV s)) := by
  have hz := heap_alloc_new w (.cells #[.int .i64 0, .string ⟨#[]⟩, .int .i64 0, .int .i64 0] 77)
  have hb0 : Below w.heap.size w (w.alloc (.cells #[.int .i64 0, .string ⟨#[]⟩, .int .i64 0, .int .i64 0] 77)) := (Below.refl _ _).alloc (Nat.le_refl _) _
  have H1 := Lib.hid hz
  have H2 := Lib.hid size_word
  have H3 := Lib.hid hb0
  clear hz hb0
  unfold nameV
  by_cases h1 : 24 < s.size
  · rw [if_pos h1]
    have d1 : decide ((24 : Int) < (s.size : Int)) = true := by simp; omega
    go_enter Tryz.func49, Tryz.ntmps49
    go_wp2_with (refine wpList_store_row rfl 77 (.tmp 2) (.tmp 7) rfl w.heap.size #[.int .i64 0, .string ⟨#[]⟩, .int .i64 0, .int .i64 0] rfl rfl 77 _ H1.out H2.out rfl (word_one _ _ _ _) ?_)
    exact bodyPost_ret (v := noWord) (results_cell_row (p := 2) (ty := 77) rfl _ _ w.heap.size 77 #[.int .i64 0, .string ⟨#[]⟩, .int .i64 0, .int .i64 0] (0, 0) _ rfl (setRow_heap _ w.heap.size _ _ _ _ H1.out) Tryz.underlying77 rfl H2.out) rfl ⟨rfl, below_setRow H3.out (Nat.le_refl _) _⟩
  · rw [if_neg h1]
    have d1 : decide ((24 : Int) < (s.size : Int)) = false := by simp; omega
    have hk := Kept_any s
    have hw := fun k W => word_any k 0 s W (by omega)
    obtain ⟨b, hb⟩ : ∃ b, b = keptB s.data.toList := ⟨_, rfl⟩
    rw [← hb] at hk ⊢
    have HW := Lib.hid hw
    have HK := Lib.hid hk
    clear hw hk hb
    cases b
    · rw [if_neg (by decide)]
      go_enter Tryz.func49, Tryz.ntmps49
      go_wp2_with fail
      refine (HK.out _).mono ?_
      rintro e w1 ⟨rfl, rfl⟩
      go_wp2_with fail
      refine (HW.out 1 _).mono ?_
      rintro e w2 ⟨rfl, hb2⟩
      have hblk := (hb2.block w.heap.size (by simp)).trans H1.out
      have hbel : Below w.heap.size w w2 := H3.out.trans (hb2.mono H3.out.size)
      have H4 := Lib.hid hblk
      have H5 := Lib.hid hbel
      clear hblk hbel hb2
      unfold wordV
      go_wp2_with (refine wpList_store_row rfl 77 (.tmp 2) (.tmp 14) rfl w.heap.size #[.int .i64 1, .string s, .int .i64 0, .int .i64 0] rfl rfl 77 _ H4.out H2.out rfl (word_one _ _ _ _) ?_)
      exact bodyPost_ret (v := wordV 1 s 0 0) (results_cell_row (p := 2) (ty := 77) rfl _ _ w.heap.size 77 #[.int .i64 1, .string s, .int .i64 0, .int .i64 0] (0, 0) _ rfl (setRow_heap w2 w.heap.size _ _ _ _ H4.out) Tryz.underlying77 rfl H2.out) rfl ⟨rfl, below_setRow H5.out (Nat.le_refl _) _⟩
    · rw [if_pos rfl]
      go_enter Tryz.func49, Tryz.ntmps49
      go_wp2_with fail
      refine (HK.out _).mono ?_
      rintro e w1 ⟨rfl, rfl⟩
      go_wp2_with fail
      refine (HW.out 2 _).mono ?_
      rintro e w2 ⟨rfl, hb2⟩
      have hblk := (hb2.block w.heap.size (by simp)).trans H1.out
      have hbel : Below w.heap.size w w2 := H3.out.trans (hb2.mono H3.out.size)
      have H4 := Lib.hid hblk
      have H5 := Lib.hid hbel
      clear hblk hbel hb2
      unfold wordV
      go_wp2_with (refine wpList_store_row rfl 77 (.tmp 2) (.tmp 12) rfl w.heap.size #[.int .i64 2, .string s, .int .i64 0, .int .i64 0] rfl rfl 77 _ H4.out H2.out rfl (word_one _ _ _ _) ?_)
      exact bodyPost_ret (v := wordV 2 s 0 0) (results_cell_row (p := 2) (ty := 77) rfl _ _ w.heap.size 77 #[.int .i64 2, .string s, .int .i64 0, .int .i64 0] (0, 0) _ rfl (setRow_heap w2 w.heap.size _ _ _ _ H4.out) Tryz.underlying77 rfl H2.out) rfl ⟨rfl, below_setRow H5.out (Nat.le_refl _) _⟩
end Go.Proofs.YtjlnihennlkmpaaGreatDoor

namespace Go.Proofs.YtjlnihennlkmpaaGreatDoor
open Go Go.RowKit
/-- The library's two errors are there. -/
structure Errs (w : World) : Prop where
  syn : ∃ te pe, w.cell? ⟨2, 0, none⟩ = some (.iface te pe)
  range : ∃ te pe, w.cell? ⟨3, 0, none⟩ = some (.iface te pe)
theorem Errs.below {w w' : World} {B : Nat} (h : Errs w) (hb : Below B w w') (hB : w.heap.size ≤ B) : Errs w' := by
  obtain ⟨⟨t1, p1, h1⟩, ⟨t2, p2, h2⟩⟩ := h
  exact ⟨⟨t1, p1, (hb.cell (p := ⟨2, 0, none⟩) (Nat.lt_of_lt_of_le (World.block_lt_of_cell? w _ h1) hB)).trans h1⟩, ⟨t2, p2, (hb.cell (p := ⟨3, 0, none⟩) (Nat.lt_of_lt_of_le (World.block_lt_of_cell? w _ h2) hB)).trans h2⟩⟩
def numV (s : ByteArray) : Value :=
  if 1 < s.size ∧ s.data.toList.headD 0 = 48 then noWord else
  match Lib.parseIntB 64 s.data.toList with
  | .ok v => wordV 3 s v 0
  | _ => noWord
/-- What ParseInt answers, in one: a number and no error, or an error. -/
theorem parse_any (s : ByteArray) (w : World) (hs : s.size ≤ 140737488351232) (hE : Errs w) :
    Calls Tryz.prog 72 #[.string s, .int .i64 10, .int .i64 64] w fun e w' => Below w.heap.size w w' ∧ ((∃ v, Lib.parseIntB 64 s.data.toList = .ok v ∧ e = .returned (.tuple #[.int .i64 v, .nilIface])) ∨ ((∀ v, Lib.parseIntB 64 s.data.toList ≠ .ok v) ∧ ∃ x N, e = .returned (.tuple #[.int .i64 x, .iface 145 (.pointer (some ⟨N, 0, none⟩))]))) := by
  obtain ⟨⟨t1, p1, h1⟩, ⟨t2, p2, h2⟩⟩ := hE
  cases hp : Lib.parseIntB 64 s.data.toList
  case ok v =>
    refine (Tryz.strconv_ParseInt_10_at64_ok s (by omega) v hp w).mono ?_
    rintro e w' ⟨rfl, hw⟩
    refine ⟨?_, .inl ⟨v, rfl, rfl⟩⟩
    rcases hw with rfl | ⟨t, rfl⟩
    · exact Below.refl _ _
    · exact Go.Joins.below_bytesWorld _ _ _ _ (Nat.le_refl _)
  case range =>
    refine (Tryz.strconv_ParseInt_10_at64_range s (by omega) hp _ w h2 (.inr ⟨_, _, rfl⟩)).mono ?_
    rintro e w' ⟨N, rfl, _, _, hb⟩
    exact ⟨hb, .inr ⟨fun v => by simp, _, N, rfl⟩⟩
  · refine (Any.strconv_ParseInt_10_at64_syntax Tryz.laysC174 s (by omega) hp _ w h1 (.inr ⟨_, _, rfl⟩)).mono ?_
    rintro e w' ⟨N, rfl, _, _, hb⟩
    exact ⟨hb, .inr ⟨fun v => by simp, _, N, rfl⟩⟩
set_option maxHeartbeats 2000000 in
set_option maxRecDepth 100000 in
theorem numberOf_any (s : ByteArray) (w : World) (hs : s.size ≤ 140737488351232) (hs0 : 0 < s.size) (hE : Errs w) : Calls Tryz.prog 53 #[.string s] w (GivesWord w (numV s)) := by
  have hz := heap_alloc_new w (.cells #[.int .i64 0, .string ⟨#[]⟩, .int .i64 0, .int .i64 0] 77)
  have hb0 : Below w.heap.size w (w.alloc (.cells #[.int .i64 0, .string ⟨#[]⟩, .int .i64 0, .int .i64 0] 77)) := (Below.refl _ _).alloc (Nat.le_refl _) _
  have hE0 := hE.below hb0 (Nat.le_refl _)
  have hhd : s.data.toList.headD 0 = s[0] := by
    have h : 0 < s.data.toList.length := by simpa using hs0
    rw [List.headD_eq_head?_getD, List.head?_eq_getElem?, List.getElem?_eq_getElem h]
    rfl
  have hp := parse_any s _ hs hE0
  have H1 := Lib.hid hz
  have H2 := Lib.hid size_word
  have H3 := Lib.hid hb0
  have HP := Lib.hid hp
  clear hz hb0 hE0 hp hE
  have hlt := s[0].toNat_lt
  by_cases h1 : 1 < s.size ∧ s.data.toList.headD 0 = 48
  · have hv : numV s = noWord := by unfold numV; rw [if_pos h1]
    rw [hv]
    obtain ⟨h1, h2⟩ := h1
    rw [hhd] at h2
    have d1 : decide ((1 : Int) < (s.size : Int)) = true := by simp; omega
    have d2 : ((s[0].toNat : Int) == 48) = true := by rw [h2]; rfl
    clear hv hhd h2
    go_enter Tryz.func53, Tryz.ntmps53
    go_wp2_with (refine wpList_store_row rfl 77 (.tmp 2) (.tmp 13) rfl w.heap.size #[.int .i64 0, .string ⟨#[]⟩, .int .i64 0, .int .i64 0] rfl rfl 77 _ H1.out H2.out rfl (word_one _ _ _ _) ?_)
    exact bodyPost_ret (v := noWord) (results_cell_row (p := 2) (ty := 77) rfl _ _ w.heap.size 77 #[.int .i64 0, .string ⟨#[]⟩, .int .i64 0, .int .i64 0] (0, 0) _ rfl (setRow_heap _ w.heap.size _ _ _ _ H1.out) Tryz.underlying77 rfl H2.out) rfl ⟨rfl, below_setRow H3.out (Nat.le_refl _) _⟩
  · have hg : (1 < s.size ∧ (s[0].toNat : Int) ≠ 48) ∨ ¬ 1 < s.size := by
      by_cases h : 1 < s.size
      · refine .inl ⟨h, fun e => h1 ⟨h, ?_⟩⟩
        rw [hhd]
        have e' : s[0].toNat = 48 := by omega
        exact UInt8.toNat_inj.1 e'
      · exact .inr h
    have hnv : numV s = match Lib.parseIntB 64 s.data.toList with | .ok v => wordV 3 s v 0 | _ => noWord := by unfold numV; rw [if_neg h1]
    have HNV := Lib.hid hnv
    clear hnv hhd h1
    rcases hg with ⟨h1, h2⟩ | h1
    · have d1 : decide ((1 : Int) < (s.size : Int)) = true := by simp; omega
      have d2 : ((s[0].toNat : Int) == 48) = false := by simpa using h2
      clear h2
      go_enter Tryz.func53, Tryz.ntmps53
      go_wp2_with fail
      refine HP.out.mono ?_
      rintro e w2 ⟨hb2, ⟨v, hv, rfl⟩ | ⟨hn, x, N, rfl⟩⟩
      · have hval : numV s = wordV 3 s v 0 := by rw [HNV.out, hv]
        have HVAL := Lib.hid hval
        have hblk := (hb2.block w.heap.size (by simp)).trans H1.out
        have hbel : Below w.heap.size w w2 := H3.out.trans (hb2.mono H3.out.size)
        have HV := word_any 3 v s w2 (by omega)
        have H4 := Lib.hid hblk
        have H5 := Lib.hid hbel
        clear hblk hbel hb2 hv hval
        go_wp2_with fail
        refine HV.mono ?_
        rintro e w3 ⟨rfl, hb3⟩
        have hblk := (hb3.block w.heap.size (by have := H5.out.size; have := (Array.getElem?_eq_some_iff.1 H4.out).1; omega)).trans H4.out
        have hbel : Below w.heap.size w w3 := H5.out.trans (hb3.mono H5.out.size)
        have H6 := Lib.hid hblk
        have H7 := Lib.hid hbel
        clear hblk hbel hb3 HV
        unfold wordV
        go_wp2_with (refine wpList_store_row rfl 77 (.tmp 2) (.tmp 24) rfl w.heap.size #[.int .i64 3, .string s, .int .i64 v, .int .i64 0] rfl rfl 77 _ H6.out H2.out rfl (word_one _ _ _ _) ?_)
        exact bodyPost_ret (v := wordV 3 s v 0) (results_cell_row (p := 2) (ty := 77) rfl _ _ w.heap.size 77 #[.int .i64 3, .string s, .int .i64 v, .int .i64 0] (0, 0) _ rfl (setRow_heap w3 w.heap.size _ _ _ _ H6.out) Tryz.underlying77 rfl H2.out) rfl ⟨by rw [HVAL.out], below_setRow H7.out (Nat.le_refl _) _⟩
      · have hval : numV s = noWord := by
          rw [HNV.out]
          cases hq : Lib.parseIntB 64 s.data.toList
          case ok v => exact absurd hq (hn v)
          all_goals rfl
        have HVAL := Lib.hid hval
        have hblk := (hb2.block w.heap.size (by simp)).trans H1.out
        have hbel : Below w.heap.size w w2 := H3.out.trans (hb2.mono H3.out.size)
        have H4 := Lib.hid hblk
        have H5 := Lib.hid hbel
        clear hblk hbel hb2 hn hval
        go_wp2_with (refine wpList_store_row rfl 77 (.tmp 2) (.tmp 21) rfl w.heap.size #[.int .i64 0, .string ⟨#[]⟩, .int .i64 0, .int .i64 0] rfl rfl 77 _ H4.out H2.out rfl (word_one _ _ _ _) ?_)
        exact bodyPost_ret (v := noWord) (results_cell_row (p := 2) (ty := 77) rfl _ _ w.heap.size 77 #[.int .i64 0, .string ⟨#[]⟩, .int .i64 0, .int .i64 0] (0, 0) _ rfl (setRow_heap w2 w.heap.size _ _ _ _ H4.out) Tryz.underlying77 rfl H2.out) rfl ⟨by rw [HVAL.out], below_setRow H5.out (Nat.le_refl _) _⟩
    · have d1 : decide ((1 : Int) < (s.size : Int)) = false := by simp; omega
      go_enter Tryz.func53, Tryz.ntmps53
      go_wp2_with fail
      refine HP.out.mono ?_
      rintro e w2 ⟨hb2, ⟨v, hv, rfl⟩ | ⟨hn, x, N, rfl⟩⟩
      · have hval : numV s = wordV 3 s v 0 := by rw [HNV.out, hv]
        have HVAL := Lib.hid hval
        have hblk := (hb2.block w.heap.size (by simp)).trans H1.out
        have hbel : Below w.heap.size w w2 := H3.out.trans (hb2.mono H3.out.size)
        have HV := word_any 3 v s w2 (by omega)
        have H4 := Lib.hid hblk
        have H5 := Lib.hid hbel
        clear hblk hbel hb2 hv hval
        go_wp2_with fail
        refine HV.mono ?_
        rintro e w3 ⟨rfl, hb3⟩
        have hblk := (hb3.block w.heap.size (by have := H5.out.size; have := (Array.getElem?_eq_some_iff.1 H4.out).1; omega)).trans H4.out
        have hbel : Below w.heap.size w w3 := H5.out.trans (hb3.mono H5.out.size)
        have H6 := Lib.hid hblk
        have H7 := Lib.hid hbel
        clear hblk hbel hb3 HV
        unfold wordV
        go_wp2_with (refine wpList_store_row rfl 77 (.tmp 2) (.tmp 24) rfl w.heap.size #[.int .i64 3, .string s, .int .i64 v, .int .i64 0] rfl rfl 77 _ H6.out H2.out rfl (word_one _ _ _ _) ?_)
        exact bodyPost_ret (v := wordV 3 s v 0) (results_cell_row (p := 2) (ty := 77) rfl _ _ w.heap.size 77 #[.int .i64 3, .string s, .int .i64 v, .int .i64 0] (0, 0) _ rfl (setRow_heap w3 w.heap.size _ _ _ _ H6.out) Tryz.underlying77 rfl H2.out) rfl ⟨by rw [HVAL.out], below_setRow H7.out (Nat.le_refl _) _⟩
      · have hval : numV s = noWord := by
          rw [HNV.out]
          cases hq : Lib.parseIntB 64 s.data.toList
          case ok v => exact absurd hq (hn v)
          all_goals rfl
        have HVAL := Lib.hid hval
        have hblk := (hb2.block w.heap.size (by simp)).trans H1.out
        have hbel : Below w.heap.size w w2 := H3.out.trans (hb2.mono H3.out.size)
        have H4 := Lib.hid hblk
        have H5 := Lib.hid hbel
        clear hblk hbel hb2 hn hval
        go_wp2_with (refine wpList_store_row rfl 77 (.tmp 2) (.tmp 21) rfl w.heap.size #[.int .i64 0, .string ⟨#[]⟩, .int .i64 0, .int .i64 0] rfl rfl 77 _ H4.out H2.out rfl (word_one _ _ _ _) ?_)
        exact bodyPost_ret (v := noWord) (results_cell_row (p := 2) (ty := 77) rfl _ _ w.heap.size 77 #[.int .i64 0, .string ⟨#[]⟩, .int .i64 0, .int .i64 0] (0, 0) _ rfl (setRow_heap w2 w.heap.size _ _ _ _ H4.out) Tryz.underlying77 rfl H2.out) rfl ⟨by rw [HVAL.out], below_setRow H5.out (Nat.le_refl _) _⟩
end Go.Proofs.YtjlnihennlkmpaaGreatDoor

namespace Go.Proofs.YtjlnihennlkmpaaGreatDoor
open Go Go.RowKit
def SIGNS : List UInt8 := [40, 41, 58, 59, 44, 61, 43, 45, 42, 47, 60, 62]
def TWO : List (List UInt8) := [[60, 61], [62, 61], [60, 62], [45, 62]]
def signV (s : ByteArray) : Value :=
  if 1 < s.size ∧ TWO.contains (s.extract 0 2).toList = true then wordV 4 (s.extract 0 2) 0 0
  else if SIGNS.contains (s.data.toList.headD 0) = true then wordV 4 (s.extract 0 1) 0 0 else noWord
theorem indexByte_ge (c : UInt8) : ∀ l : List UInt8, -1 ≤ Lib.indexByte l c
  | [] => by simp [Lib.indexByte]
  | b :: l => by
    have h := indexByte_ge c l
    unfold Lib.indexByte
    split
    · omega
    · split <;> omega
theorem indexByte_in (c : UInt8) : ∀ l : List UInt8, (0 ≤ Lib.indexByte l c) ↔ l.contains c = true
  | [] => by simp [Lib.indexByte]
  | b :: l => by
    have h := indexByte_in c l
    have g := indexByte_ge c l
    rw [List.contains_cons]
    unfold Lib.indexByte
    by_cases e : b = c
    · subst e; simp
    · have e1 : (b == c) = false := by simpa using e
      have e2 : (c == b) = false := by simpa using fun h => e h.symm
      rw [e1, e2, Bool.false_or]
      simp only [Bool.false_eq_true, if_false]
      by_cases i : Lib.indexByte l c = -1
      · rw [i] at h ⊢
        simp only [beq_self_eq_true, if_true]
        rw [← h]
      · have i1 : (Lib.indexByte l c == -1) = false := by simpa using i
        rw [i1, ← h]
        simp only [Bool.false_eq_true, if_false]
        omega
theorem head_get (s : ByteArray) (h : 0 < s.size) : s.data.toList.headD 0 = s[0] := by
  have h' : 0 < s.data.toList.length := by simpa using h
  rw [List.headD_eq_head?_getD, List.head?_eq_getElem?, List.getElem?_eq_getElem h']
  rfl
set_option maxHeartbeats 4000000 in
set_option maxRecDepth 100000 in
theorem firstSign_any (s : ByteArray) (w : World) (hs : s.size ≤ 140737488351232) (hs0 : 0 < s.size) : Calls Tryz.prog 54 #[.string s] w (GivesWord w (signV s)) := by
  have hz := heap_alloc_new w (.cells #[.int .i64 0, .string ⟨#[]⟩, .int .i64 0, .int .i64 0] 77)
  have hb0 : Below w.heap.size w (w.alloc (.cells #[.int .i64 0, .string ⟨#[]⟩, .int .i64 0, .int .i64 0] 77)) := (Below.refl _ _).alloc (Nat.le_refl _) _
  have hw1 := fun W => word_any 4 0 (s.extract 0 1) W (by rw [ByteArray.size_extract]; omega)
  have hw2 := fun W => word_any 4 0 (s.extract 0 2) W (by rw [ByteArray.size_extract]; omega)
  have hix := fun W => Tryz.strings_IndexByte ⟨#[40, 41, 58, 59, 44, 61, 43, 45, 42, 47, 60, 62]⟩ (s[0].toNat : Int) W
  have hiff := indexByte_in s[0] SIGNS
  have hge := indexByte_ge s[0] SIGNS
  have hhd := head_get s hs0
  have e8 : (s[0].toNat : Int).toNat.toUInt8 = s[0] := by simp
  rw [e8] at hix
  have esig : (⟨#[40, 41, 58, 59, 44, 61, 43, 45, 42, 47, 60, 62]⟩ : ByteArray).data.toList = SIGNS := rfl
  rw [esig] at hix
  have hv1 : ¬ (1 < s.size ∧ TWO.contains (s.extract 0 2).toList = true) → signV s = if (0 : Int) ≤ Lib.indexByte SIGNS s[0] then wordV 4 (s.extract 0 1) 0 0 else noWord := fun h => by
    unfold signV
    rw [if_neg h, hhd]
    by_cases g : (0 : Int) ≤ Lib.indexByte SIGNS s[0]
    · rw [if_pos g, if_pos (hiff.1 g)]
    · rw [if_neg g, if_neg (fun h => g (hiff.2 h))]
  have hv2 : (1 < s.size ∧ TWO.contains (s.extract 0 2).toList = true) → signV s = wordV 4 (s.extract 0 2) 0 0 := fun h => by unfold signV; rw [if_pos h]
  obtain ⟨z, hzz⟩ : ∃ z, z = Lib.indexByte SIGNS s[0] := ⟨_, rfl⟩
  rw [← hzz] at hix hge hv1
  have H1 := Lib.hid hz
  have H2 := Lib.hid size_word
  have H3 := Lib.hid hb0
  have HW1 := Lib.hid hw1
  have HW2 := Lib.hid hw2
  have HIX := Lib.hid hix
  have HV1 := Lib.hid hv1
  have HV2 := Lib.hid hv2
  clear hz hb0 hw1 hw2 hix hiff hhd e8 esig hv1 hv2 hzz
  by_cases h1 : 1 < s.size
  · have d1 : decide ((1 : Int) < (s.size : Int)) = true := by simp; omega
    have hsz2 : (s.extract 0 2).size ≤ 2 := by rw [ByteArray.size_extract]; omega

    by_cases m0 : ((s.extract 0 2).toList == [60, 61]) = true
    · have hval := HV2.out ⟨h1, by rw [show (s.extract 0 2).toList = [60, 61] from by simpa using m0]; rfl⟩
      have HVAL := Lib.hid hval
      clear hval
      go_enter Tryz.func54, Tryz.ntmps54
      go_wp2_with fail
      refine (HW2.out _).mono ?_
      rintro e w2 ⟨rfl, hb2⟩
      have hblk := (hb2.block w.heap.size (by simp)).trans H1.out
      have hbel : Below w.heap.size w w2 := H3.out.trans (hb2.mono H3.out.size)
      have H4 := Lib.hid hblk
      have H5 := Lib.hid hbel
      clear hblk hbel hb2
      unfold wordV
      go_wp2_with (refine wpList_store_row rfl 77 (.tmp 2) (.tmp 16) rfl w.heap.size #[.int .i64 4, .string (s.extract 0 2), .int .i64 0, .int .i64 0] rfl rfl 77 _ H4.out H2.out rfl (word_one _ _ _ _) ?_)
      exact bodyPost_ret (v := wordV 4 (s.extract 0 2) 0 0) (results_cell_row (p := 2) (ty := 77) rfl _ _ w.heap.size 77 #[.int .i64 4, .string (s.extract 0 2), .int .i64 0, .int .i64 0] (0, 0) _ rfl (setRow_heap w2 w.heap.size _ _ _ _ H4.out) Tryz.underlying77 rfl H2.out) rfl ⟨by rw [HVAL.out], below_setRow H5.out (Nat.le_refl _) _⟩
    have n0 : ((s.extract 0 2).toList == [60, 61]) = false := by simpa using m0
    clear m0
    by_cases m1 : ((s.extract 0 2).toList == [62, 61]) = true
    · have hval := HV2.out ⟨h1, by rw [show (s.extract 0 2).toList = [62, 61] from by simpa using m1]; rfl⟩
      have HVAL := Lib.hid hval
      clear hval
      go_enter Tryz.func54, Tryz.ntmps54
      go_wp2_with fail
      refine (HW2.out _).mono ?_
      rintro e w2 ⟨rfl, hb2⟩
      have hblk := (hb2.block w.heap.size (by simp)).trans H1.out
      have hbel : Below w.heap.size w w2 := H3.out.trans (hb2.mono H3.out.size)
      have H4 := Lib.hid hblk
      have H5 := Lib.hid hbel
      clear hblk hbel hb2
      unfold wordV
      go_wp2_with (refine wpList_store_row rfl 77 (.tmp 2) (.tmp 16) rfl w.heap.size #[.int .i64 4, .string (s.extract 0 2), .int .i64 0, .int .i64 0] rfl rfl 77 _ H4.out H2.out rfl (word_one _ _ _ _) ?_)
      exact bodyPost_ret (v := wordV 4 (s.extract 0 2) 0 0) (results_cell_row (p := 2) (ty := 77) rfl _ _ w.heap.size 77 #[.int .i64 4, .string (s.extract 0 2), .int .i64 0, .int .i64 0] (0, 0) _ rfl (setRow_heap w2 w.heap.size _ _ _ _ H4.out) Tryz.underlying77 rfl H2.out) rfl ⟨by rw [HVAL.out], below_setRow H5.out (Nat.le_refl _) _⟩
    have n1 : ((s.extract 0 2).toList == [62, 61]) = false := by simpa using m1
    clear m1
    by_cases m2 : ((s.extract 0 2).toList == [60, 62]) = true
    · have hval := HV2.out ⟨h1, by rw [show (s.extract 0 2).toList = [60, 62] from by simpa using m2]; rfl⟩
      have HVAL := Lib.hid hval
      clear hval
      go_enter Tryz.func54, Tryz.ntmps54
      go_wp2_with fail
      refine (HW2.out _).mono ?_
      rintro e w2 ⟨rfl, hb2⟩
      have hblk := (hb2.block w.heap.size (by simp)).trans H1.out
      have hbel : Below w.heap.size w w2 := H3.out.trans (hb2.mono H3.out.size)
      have H4 := Lib.hid hblk
      have H5 := Lib.hid hbel
      clear hblk hbel hb2
      unfold wordV
      go_wp2_with (refine wpList_store_row rfl 77 (.tmp 2) (.tmp 16) rfl w.heap.size #[.int .i64 4, .string (s.extract 0 2), .int .i64 0, .int .i64 0] rfl rfl 77 _ H4.out H2.out rfl (word_one _ _ _ _) ?_)
      exact bodyPost_ret (v := wordV 4 (s.extract 0 2) 0 0) (results_cell_row (p := 2) (ty := 77) rfl _ _ w.heap.size 77 #[.int .i64 4, .string (s.extract 0 2), .int .i64 0, .int .i64 0] (0, 0) _ rfl (setRow_heap w2 w.heap.size _ _ _ _ H4.out) Tryz.underlying77 rfl H2.out) rfl ⟨by rw [HVAL.out], below_setRow H5.out (Nat.le_refl _) _⟩
    have n2 : ((s.extract 0 2).toList == [60, 62]) = false := by simpa using m2
    clear m2
    by_cases m3 : ((s.extract 0 2).toList == [45, 62]) = true
    · have hval := HV2.out ⟨h1, by rw [show (s.extract 0 2).toList = [45, 62] from by simpa using m3]; rfl⟩
      have HVAL := Lib.hid hval
      clear hval
      go_enter Tryz.func54, Tryz.ntmps54
      go_wp2_with fail
      refine (HW2.out _).mono ?_
      rintro e w2 ⟨rfl, hb2⟩
      have hblk := (hb2.block w.heap.size (by simp)).trans H1.out
      have hbel : Below w.heap.size w w2 := H3.out.trans (hb2.mono H3.out.size)
      have H4 := Lib.hid hblk
      have H5 := Lib.hid hbel
      clear hblk hbel hb2
      unfold wordV
      go_wp2_with (refine wpList_store_row rfl 77 (.tmp 2) (.tmp 16) rfl w.heap.size #[.int .i64 4, .string (s.extract 0 2), .int .i64 0, .int .i64 0] rfl rfl 77 _ H4.out H2.out rfl (word_one _ _ _ _) ?_)
      exact bodyPost_ret (v := wordV 4 (s.extract 0 2) 0 0) (results_cell_row (p := 2) (ty := 77) rfl _ _ w.heap.size 77 #[.int .i64 4, .string (s.extract 0 2), .int .i64 0, .int .i64 0] (0, 0) _ rfl (setRow_heap w2 w.heap.size _ _ _ _ H4.out) Tryz.underlying77 rfl H2.out) rfl ⟨by rw [HVAL.out], below_setRow H5.out (Nat.le_refl _) _⟩
    have n3 : ((s.extract 0 2).toList == [45, 62]) = false := by simpa using m3
    clear m3
    have hval := HV1.out (by rintro ⟨_, h⟩; unfold TWO at h; simp only [List.contains_cons, List.contains_nil, n0, n1, n2, n3, Bool.or_self, Bool.false_eq_true] at h)
    by_cases hz0 : (0 : Int) ≤ z
    · rw [if_pos hz0] at hval
      have HVAL := Lib.hid hval
      have d9 : decide ((0 : Int) ≤ z) = true := by simpa using hz0
      clear hval
      go_enter Tryz.func54, Tryz.ntmps54
      go_wp2_with fail
      refine (HIX.out _).mono ?_
      rintro e w1 ⟨rfl, rfl⟩
      go_wp2_with fail
      refine (HW1.out _).mono ?_
      rintro e w2 ⟨rfl, hb2⟩
      have hblk := (hb2.block w.heap.size (by simp)).trans H1.out
      have hbel : Below w.heap.size w w2 := H3.out.trans (hb2.mono H3.out.size)
      have H4 := Lib.hid hblk
      have H5 := Lib.hid hbel
      clear hblk hbel hb2
      unfold wordV
      go_wp2_with (refine wpList_store_row rfl 77 (.tmp 2) (.tmp 23) rfl w.heap.size #[.int .i64 4, .string (s.extract 0 1), .int .i64 0, .int .i64 0] rfl rfl 77 _ H4.out H2.out rfl (word_one _ _ _ _) ?_)
      exact bodyPost_ret (v := wordV 4 (s.extract 0 1) 0 0) (results_cell_row (p := 2) (ty := 77) rfl _ _ w.heap.size 77 #[.int .i64 4, .string (s.extract 0 1), .int .i64 0, .int .i64 0] (0, 0) _ rfl (setRow_heap w2 w.heap.size _ _ _ _ H4.out) Tryz.underlying77 rfl H2.out) rfl ⟨by rw [HVAL.out], below_setRow H5.out (Nat.le_refl _) _⟩
    · rw [if_neg hz0] at hval
      have HVAL := Lib.hid hval
      have d9 : decide ((0 : Int) ≤ z) = false := by simpa using hz0
      clear hval
      go_enter Tryz.func54, Tryz.ntmps54
      go_wp2_with fail
      refine (HIX.out _).mono ?_
      rintro e w1 ⟨rfl, rfl⟩
      have H4 := H1
      have H5 := H3
      go_wp2_with (refine wpList_store_row rfl 77 (.tmp 2) (.tmp 24) rfl w.heap.size #[.int .i64 0, .string ⟨#[]⟩, .int .i64 0, .int .i64 0] rfl rfl 77 _ H4.out H2.out rfl (word_one _ _ _ _) ?_)
      exact bodyPost_ret (v := noWord) (results_cell_row (p := 2) (ty := 77) rfl _ _ w.heap.size 77 #[.int .i64 0, .string ⟨#[]⟩, .int .i64 0, .int .i64 0] (0, 0) _ rfl (setRow_heap _ w.heap.size _ _ _ _ H4.out) Tryz.underlying77 rfl H2.out) rfl ⟨by rw [HVAL.out], below_setRow H5.out (Nat.le_refl _) _⟩
  · have d1 : decide ((1 : Int) < (s.size : Int)) = false := by simp; omega
    have hval := HV1.out (fun h => h1 h.1)
    by_cases hz0 : (0 : Int) ≤ z
    · rw [if_pos hz0] at hval
      have HVAL := Lib.hid hval
      have d9 : decide ((0 : Int) ≤ z) = true := by simpa using hz0
      clear hval
      go_enter Tryz.func54, Tryz.ntmps54
      go_wp2_with fail
      refine (HIX.out _).mono ?_
      rintro e w1 ⟨rfl, rfl⟩
      go_wp2_with fail
      refine (HW1.out _).mono ?_
      rintro e w2 ⟨rfl, hb2⟩
      have hblk := (hb2.block w.heap.size (by simp)).trans H1.out
      have hbel : Below w.heap.size w w2 := H3.out.trans (hb2.mono H3.out.size)
      have H4 := Lib.hid hblk
      have H5 := Lib.hid hbel
      clear hblk hbel hb2
      unfold wordV
      go_wp2_with (refine wpList_store_row rfl 77 (.tmp 2) (.tmp 23) rfl w.heap.size #[.int .i64 4, .string (s.extract 0 1), .int .i64 0, .int .i64 0] rfl rfl 77 _ H4.out H2.out rfl (word_one _ _ _ _) ?_)
      exact bodyPost_ret (v := wordV 4 (s.extract 0 1) 0 0) (results_cell_row (p := 2) (ty := 77) rfl _ _ w.heap.size 77 #[.int .i64 4, .string (s.extract 0 1), .int .i64 0, .int .i64 0] (0, 0) _ rfl (setRow_heap w2 w.heap.size _ _ _ _ H4.out) Tryz.underlying77 rfl H2.out) rfl ⟨by rw [HVAL.out], below_setRow H5.out (Nat.le_refl _) _⟩
    · rw [if_neg hz0] at hval
      have HVAL := Lib.hid hval
      have d9 : decide ((0 : Int) ≤ z) = false := by simpa using hz0
      clear hval
      go_enter Tryz.func54, Tryz.ntmps54
      go_wp2_with fail
      refine (HIX.out _).mono ?_
      rintro e w1 ⟨rfl, rfl⟩
      have H4 := H1
      have H5 := H3
      go_wp2_with (refine wpList_store_row rfl 77 (.tmp 2) (.tmp 24) rfl w.heap.size #[.int .i64 0, .string ⟨#[]⟩, .int .i64 0, .int .i64 0] rfl rfl 77 _ H4.out H2.out rfl (word_one _ _ _ _) ?_)
      exact bodyPost_ret (v := noWord) (results_cell_row (p := 2) (ty := 77) rfl _ _ w.heap.size 77 #[.int .i64 0, .string ⟨#[]⟩, .int .i64 0, .int .i64 0] (0, 0) _ rfl (setRow_heap _ w.heap.size _ _ _ _ H4.out) Tryz.underlying77 rfl H2.out) rfl ⟨by rw [HVAL.out], below_setRow H5.out (Nat.le_refl _) _⟩
end Go.Proofs.YtjlnihennlkmpaaGreatDoor

namespace Go.Proofs.YtjlnihennlkmpaaGreatDoor
open Go Go.RowKit
def firstV (s : ByteArray) : Value :=
  if isL (s.data.toList.headD 0).toNat = true then nameV (s.extract 0 (runLen isN s.data.toList))
  else if isD (s.data.toList.headD 0).toNat = true then numV (s.extract 0 (runLen isD s.data.toList))
  else signV s
theorem runLen_pos (p : Nat → Bool) (l : List UInt8) (h : 0 < l.length) (hp : p (l.headD 0).toNat = true) : 0 < runLen p l := by
  cases l with
  | nil => simp at h
  | cons c r =>
    have hp2 : p c.toNat = true := hp
    unfold runLen; rw [List.takeWhile_cons, if_pos hp2, List.length_cons]; omega
set_option maxHeartbeats 2000000 in
set_option maxRecDepth 100000 in
theorem firstWord_any (s : ByteArray) (w : World) (hs : s.size ≤ 140737488351232) (hs0 : 0 < s.size) (hE : Errs w) : Calls Tryz.prog 28 #[.string s] w (GivesWord w (firstV s)) := by
  have hz := heap_alloc_new w (.cells #[.int .i64 0, .string ⟨#[]⟩, .int .i64 0, .int .i64 0] 77)
  have hb0 : Below w.heap.size w (w.alloc (.cells #[.int .i64 0, .string ⟨#[]⟩, .int .i64 0, .int .i64 0] 77)) := (Below.refl _ _).alloc (Nat.le_refl _) _
  have hE0 := hE.below hb0 (Nat.le_refl _)
  have hl := fun W => isLetter_any s[0].toNat W
  have hd := fun W => isDigit_any s[0].toNat W
  have hrn := fun W => run_name s W hs
  have hrd := fun W => run_digit s W hs
  have hhd := head_get s hs0
  have hlen : s.data.toList.length = s.size := by simp
  have hnm := fun W => nameOf_any (s.extract 0 (runLen isN s.data.toList)) W (by rw [ByteArray.size_extract]; omega)
  have hsg := fun W => firstSign_any s W hs hs0
  have hnu : isD s[0].toNat = true → ∀ W, Errs W → Calls Tryz.prog 53 #[.string (s.extract 0 (runLen isD s.data.toList))] W (GivesWord W (numV (s.extract 0 (runLen isD s.data.toList)))) := fun h W hE => by
    have hp := runLen_pos isD s.data.toList (by rw [hlen]; exact hs0) (by rw [hhd]; exact h)
    have hle := runLen_le isD s.data.toList
    exact numberOf_any _ W (by rw [ByteArray.size_extract]; omega) (by rw [ByteArray.size_extract]; omega) hE
  have hv : firstV s = if isL s[0].toNat = true then nameV (s.extract 0 (runLen isN s.data.toList)) else if isD s[0].toNat = true then numV (s.extract 0 (runLen isD s.data.toList)) else signV s := by unfold firstV; rw [hhd]
  have hword : ∀ v, (v = nameV (s.extract 0 (runLen isN s.data.toList)) ∨ v = numV (s.extract 0 (runLen isD s.data.toList)) ∨ v = signV s) → ∃ k t n a, v = wordV k t n a := by
    have hno : ∃ k t n a, noWord = wordV k t n a := ⟨_, _, _, _, rfl⟩
    rintro v (rfl | rfl | rfl)
    · unfold nameV; split
      · exact hno
      · split <;> exact ⟨_, _, _, _, rfl⟩
    · unfold numV; split
      · exact hno
      · split
        · exact ⟨_, _, _, _, rfl⟩
        · exact hno
    · unfold signV; split
      · exact ⟨_, _, _, _, rfl⟩
      · split
        · exact ⟨_, _, _, _, rfl⟩
        · exact hno
  obtain ⟨k1, t1, n1, a1, hw1⟩ := hword _ (.inl rfl)
  obtain ⟨k2, t2, n2, a2, hw2⟩ := hword _ (.inr (.inl rfl))
  obtain ⟨k3, t3, n3, a3, hw3⟩ := hword _ (.inr (.inr rfl))
  have hnil : ∀ k t n a, wordV k t n a = .agg #[.int .i64 k, .string t, .int .i64 n, .int .i64 a] := fun _ _ _ _ => rfl
  rw [hw1] at hnm
  rw [hw2] at hnu
  rw [hw3] at hsg
  rw [hw1, hw2, hw3] at hv
  generalize s.extract 0 (runLen isN s.data.toList) = sn at *
  generalize s.extract 0 (runLen isD s.data.toList) = sd at *
  have H1 := Lib.hid hz
  have H2 := Lib.hid size_word
  have H3 := Lib.hid hb0
  have HE := Lib.hid hE0
  have HL := Lib.hid hl
  have HD := Lib.hid hd
  have HRN := Lib.hid hrn
  have HRD := Lib.hid hrd
  have HNM := Lib.hid hnm
  have HSG := Lib.hid hsg
  clear hz hb0 hE0 hE hl hd hrn hrd hnm hsg hhd hlen hw1 hw2 hw3 hword hnil
  obtain ⟨bl, hbl⟩ : ∃ b, b = isL s[0].toNat := ⟨_, rfl⟩
  obtain ⟨bd, hbd⟩ : ∃ b, b = isD s[0].toNat := ⟨_, rfl⟩
  rw [← hbl] at HL hv
  rw [← hbd] at HD hv hnu
  clear hbl hbd
  cases bl
  · cases bd
    · have HV := Lib.hid (hv.trans (by rw [if_neg (by decide), if_neg (by decide)]) : firstV s = wordV k3 t3 n3 a3)
      clear hv hnu
      go_enter Tryz.func28, Tryz.ntmps28
      go_wp2_with fail
      refine (HL.out _).mono ?_
      rintro e w1 ⟨rfl, rfl⟩
      go_wp2_with fail
      refine (HD.out _).mono ?_
      rintro e w1 ⟨rfl, rfl⟩
      go_wp2_with fail
      refine (HSG.out _).mono ?_
      rintro e w2 ⟨rfl, hb2⟩
      have hblk := (hb2.block w.heap.size (by simp)).trans H1.out
      have hbel : Below w.heap.size w w2 := H3.out.trans (hb2.mono H3.out.size)
      have H4 := Lib.hid hblk
      have H5 := Lib.hid hbel
      clear hblk hbel hb2
      unfold wordV
      go_wp2_with (refine wpList_store_row rfl 77 (.tmp 2) (.tmp 19) rfl w.heap.size #[.int .i64 k3, .string t3, .int .i64 n3, .int .i64 a3] rfl rfl 77 _ H4.out H2.out rfl (word_one _ _ _ _) ?_)
      exact bodyPost_ret (v := wordV k3 t3 n3 a3) (results_cell_row (p := 2) (ty := 77) rfl _ _ w.heap.size 77 #[.int .i64 k3, .string t3, .int .i64 n3, .int .i64 a3] (0, 0) _ rfl (setRow_heap w2 w.heap.size _ _ _ _ H4.out) Tryz.underlying77 rfl H2.out) rfl ⟨by rw [HV.out], below_setRow H5.out (Nat.le_refl _) _⟩
    · have HV := Lib.hid (hv.trans (by rw [if_neg (by decide), if_pos rfl]) : firstV s = wordV k2 t2 n2 a2)
      have HNU := Lib.hid (hnu rfl)
      clear hv hnu
      go_enter Tryz.func28, Tryz.ntmps28
      go_wp2_with fail
      refine (HL.out _).mono ?_
      rintro e w1 ⟨rfl, rfl⟩
      go_wp2_with fail
      refine (HD.out _).mono ?_
      rintro e w1 ⟨rfl, rfl⟩
      go_wp2_with fail
      refine (HRD.out _).mono ?_
      rintro e w1 ⟨rfl, rfl⟩
      go_wp2_with fail
      refine (HNU.out _ HE.out).mono ?_
      rintro e w2 ⟨rfl, hb2⟩
      have hblk := (hb2.block w.heap.size (by simp)).trans H1.out
      have hbel : Below w.heap.size w w2 := H3.out.trans (hb2.mono H3.out.size)
      have H4 := Lib.hid hblk
      have H5 := Lib.hid hbel
      clear hblk hbel hb2
      unfold wordV
      go_wp2_with (refine wpList_store_row rfl 77 (.tmp 2) (.tmp 17) rfl w.heap.size #[.int .i64 k2, .string t2, .int .i64 n2, .int .i64 a2] rfl rfl 77 _ H4.out H2.out rfl (word_one _ _ _ _) ?_)
      exact bodyPost_ret (v := wordV k2 t2 n2 a2) (results_cell_row (p := 2) (ty := 77) rfl _ _ w.heap.size 77 #[.int .i64 k2, .string t2, .int .i64 n2, .int .i64 a2] (0, 0) _ rfl (setRow_heap w2 w.heap.size _ _ _ _ H4.out) Tryz.underlying77 rfl H2.out) rfl ⟨by rw [HV.out], below_setRow H5.out (Nat.le_refl _) _⟩
  · have HV := Lib.hid (hv.trans (by rw [if_pos rfl]) : firstV s = wordV k1 t1 n1 a1)
    clear hv hnu
    go_enter Tryz.func28, Tryz.ntmps28
    go_wp2_with fail
    refine (HL.out _).mono ?_
    rintro e w1 ⟨rfl, rfl⟩
    go_wp2_with fail
    refine (HRN.out _).mono ?_
    rintro e w1 ⟨rfl, rfl⟩
    go_wp2_with fail
    refine (HNM.out _).mono ?_
    rintro e w2 ⟨rfl, hb2⟩
    have hblk := (hb2.block w.heap.size (by simp)).trans H1.out
    have hbel : Below w.heap.size w w2 := H3.out.trans (hb2.mono H3.out.size)
    have H4 := Lib.hid hblk
    have H5 := Lib.hid hbel
    clear hblk hbel hb2
    unfold wordV
    go_wp2_with (refine wpList_store_row rfl 77 (.tmp 2) (.tmp 11) rfl w.heap.size #[.int .i64 k1, .string t1, .int .i64 n1, .int .i64 a1] rfl rfl 77 _ H4.out H2.out rfl (word_one _ _ _ _) ?_)
    exact bodyPost_ret (v := wordV k1 t1 n1 a1) (results_cell_row (p := 2) (ty := 77) rfl _ _ w.heap.size 77 #[.int .i64 k1, .string t1, .int .i64 n1, .int .i64 a1] (0, 0) _ rfl (setRow_heap w2 w.heap.size _ _ _ _ H4.out) Tryz.underlying77 rfl H2.out) rfl ⟨by rw [HV.out], below_setRow H5.out (Nat.le_refl _) _⟩
/-- How many bytes a text's first line has. -/
def lineN (l : List UInt8) : Nat := (l.takeWhile fun c => !(c == 10)).length
theorem lineN_le (l : List UInt8) : lineN l ≤ l.length := (List.takeWhile_sublist _).length_le
theorem lineN_index : ∀ l : List UInt8, (Lib.indexByte l 10 = -1 → lineN l = l.length) ∧ (0 ≤ Lib.indexByte l 10 → Lib.indexByte l 10 = (lineN l : Int))
  | [] => by simp [Lib.indexByte, lineN]
  | b :: l => by
    obtain ⟨h1, h2⟩ := lineN_index l
    have g := indexByte_ge 10 l
    unfold Lib.indexByte
    by_cases e : b = 10
    · subst e
      simp [lineN]
    · have e1 : (b == (10 : UInt8)) = false := by simpa using e
      have hl : lineN (b :: l) = lineN l + 1 := by unfold lineN; rw [List.takeWhile_cons, e1]; rfl
      rw [e1, hl]
      simp only [Bool.false_eq_true, if_false]
      by_cases i : Lib.indexByte l 10 = -1
      · rw [i]
        simp only [beq_self_eq_true, if_true]
        exact ⟨fun _ => by rw [h1 i, List.length_cons], fun h => by omega⟩
      · have i1 : (Lib.indexByte l 10 == -1) = false := by simpa using i
        rw [i1]
        simp only [Bool.false_eq_true, if_false]
        exact ⟨fun h => by omega, fun _ => by rw [h2 (by omega)]; omega⟩
set_option maxRecDepth 100000 in
theorem line_any (s : ByteArray) (w : World) (hs : s.size ≤ 140737488351232) : Calls Tryz.prog 47 #[.string s] w fun e w' => e = .returned (.int .i64 (lineN s.data.toList)) ∧ w' = w := by
  have hix := Tryz.strings_Index_one s 10 w
  obtain ⟨h1, h2⟩ := lineN_index s.data.toList
  have hge := indexByte_ge 10 s.data.toList
  have hlen : s.data.toList.length = s.size := by simp
  rw [hlen] at h1
  obtain ⟨z, hz⟩ : ∃ z, z = Lib.indexByte s.data.toList 10 := ⟨_, rfl⟩
  rw [← hz] at hix h1 h2 hge
  obtain ⟨L, hL⟩ : ∃ L, L = lineN s.data.toList := ⟨_, rfl⟩
  rw [← hL] at h1 h2 ⊢
  clear hz hL hlen
  by_cases h : z = -1
  · have e := h1 h
    subst e h
    clear h1 h2 hge
    go_enter Tryz.func47, Tryz.ntmps47
    go_wp2_with fail
    refine hix.mono ?_
    rintro e w1 ⟨rfl, rfl⟩
    go_wp2_with fail
    go_ret
    exact ⟨rfl, rfl⟩
  · have e := h2 (by omega)
    subst e
    clear h1 h2
    have d : decide ((0 : Int) ≤ (L : Int)) = true := by simp
    go_enter Tryz.func47, Tryz.ntmps47
    go_wp2_with fail
    refine hix.mono ?_
    rintro e w1 ⟨rfl, rfl⟩
    go_wp2_with fail
    go_ret
    exact ⟨rfl, rfl⟩
end Go.Proofs.YtjlnihennlkmpaaGreatDoor

namespace Go.Proofs.YtjlnihennlkmpaaGreatDoor
open Go Go.RowKit
def BLANKS : List UInt8 := [32, 9, 10, 13]
/-- How many bytes stand ahead of a text's first word; in a remark (true), or not. -/
def gapS : Bool → List UInt8 → Nat
  | _, [] => 0
  | true, c :: r => if c = 10 then 1 + gapS false r else 1 + gapS true r
  | false, c :: r => if BLANKS.contains c = true then 1 + gapS false r else if c = 45 ∧ r.head? = some 45 then 1 + gapS true r else 0
def gapL (l : List UInt8) : Nat := gapS false l
theorem gapS_le : ∀ (l : List UInt8) (b : Bool), gapS b l ≤ l.length
  | [], b => by cases b <;> simp [gapS]
  | c :: r, true => by
    have h1 := gapS_le r true
    have h2 := gapS_le r false
    rw [gapS, List.length_cons]
    split <;> omega
  | c :: r, false => by
    have h1 := gapS_le r true
    have h2 := gapS_le r false
    rw [gapS, List.length_cons]
    split
    · omega
    · split <;> omega
theorem gapL_le (l : List UInt8) : gapL l ≤ l.length := gapS_le l false
theorem lineN_cons (c : UInt8) (r : List UInt8) (h : c ≠ 10) : lineN (c :: r) = lineN r + 1 := by
  have e : (c == (10 : UInt8)) = false := by simpa using h
  unfold lineN; rw [List.takeWhile_cons, e]; rfl
theorem gapS_true : ∀ l : List UInt8, gapS true l = lineN l + gapS false (l.drop (lineN l))
  | [] => by simp [gapS, lineN]
  | c :: r => by
    by_cases h : c = 10
    · subst h
      have e : lineN (10 :: r) = 0 := by simp [lineN]
      rw [e, gapS, if_pos rfl, List.drop_zero, gapS, if_pos (by decide)]
      omega
    · rw [lineN_cons c r h, gapS, if_neg h, gapS_true r, List.drop_succ_cons]
      omega
theorem gapL_blank (c : UInt8) (r : List UInt8) (h : BLANKS.contains c = true) : gapL (c :: r) = 1 + gapL r := by
  unfold gapL; rw [gapS, if_pos h]
theorem gapL_remark (l : List UInt8) (h : Lib.hasPrefix l [45, 45] = true) : gapL l = lineN l + gapL (l.drop (lineN l)) ∧ 2 ≤ lineN l := by
  unfold Lib.hasPrefix at h
  cases l with
  | nil => simp at h
  | cons a t =>
    cases t with
    | nil => simp at h
    | cons b r =>
      simp only [List.isPrefixOf, Bool.and_eq_true, beq_iff_eq, and_true] at h
      obtain ⟨rfl, rfl⟩ := h
      have e1 := lineN_cons 45 (45 :: r) (by decide)
      have e2 := lineN_cons 45 r (by decide)
      refine ⟨?_, by omega⟩
      unfold gapL
      rw [e1, List.drop_succ_cons, gapS, if_neg (by decide), if_pos ⟨rfl, rfl⟩, gapS_true (45 :: r)]
      omega
theorem gapL_none (c : UInt8) (r : List UInt8) (h1 : ¬ BLANKS.contains c = true) (h2 : Lib.hasPrefix (c :: r) [45, 45] = false) : gapL (c :: r) = 0 := by
  unfold gapL
  rw [gapS, if_neg h1, if_neg]
  rintro ⟨rfl, h⟩
  cases r with
  | nil => simp at h
  | cons b r =>
    simp only [List.head?_cons, Option.some.injEq] at h
    subst h
    simp [Lib.hasPrefix, List.isPrefixOf] at h2
set_option maxHeartbeats 2000000 in
set_option maxRecDepth 100000 in
theorem gap_any (s : ByteArray) (w : World) (hs : s.size ≤ 140737488351232) : Calls Tryz.prog 27 #[.string s] w fun e w' => e = .returned (.int .i64 (gapL s.data.toList)) ∧ w' = w := by
  have hlen : s.data.toList.length = s.size := by simp
  have hix : ∀ (c : UInt8) W, Calls Tryz.prog 45 #[.string ⟨#[32, 9, 10, 13]⟩, .int .u8 (c.toNat : Int)] W fun e w' => e = .returned (.int .i64 (Lib.indexByte BLANKS c)) ∧ w' = W := fun c W => by
    have h := Tryz.strings_IndexByte ⟨#[32, 9, 10, 13]⟩ (c.toNat : Int) W
    rw [show (c.toNat : Int).toNat.toUInt8 = c by simp] at h
    exact h
  have hpx := fun (k : Nat) W => Tryz.strings_HasPrefix (s.extract k s.size) ⟨#[45, 45]⟩ W
  have hln := fun (k : Nat) W => line_any (s.extract k s.size) W (by rw [ByteArray.size_extract]; omega)
  have epr : (⟨#[45, 45]⟩ : ByteArray).data.toList = [45, 45] := rfl
  have ext : ∀ k, (s.extract k s.size).data.toList = s.data.toList.drop k := fun k => Lib.extract_to_end s k
  simp only [epr, ext] at hpx
  simp only [ext] at hln
  have hget : ∀ k (h : k < s.size), s.data.toList.drop k = s[k] :: s.data.toList.drop (k + 1) := fun k h => by
    rw [List.drop_eq_getElem_cons (by rw [hlen]; exact h)]; rfl
  have hlenL : ∀ k, k ≤ s.size → (s.data.toList.drop k).length = s.size - k := fun k h => by rw [List.length_drop, hlen]
  have hnil : s.data.toList.drop s.size = [] := List.drop_of_length_le (by rw [hlen]; exact Nat.le_refl _)
  have hdd : ∀ k m, (s.data.toList.drop k).drop m = s.data.toList.drop (k + m) := fun k m => List.drop_drop
  have h0 : s.data.toList.drop 0 = s.data.toList := rfl
  obtain ⟨D, hD⟩ : ∃ D : Nat → List UInt8, D = fun k => s.data.toList.drop k := ⟨_, rfl⟩
  have hDk : ∀ k, s.data.toList.drop k = D k := fun k => by rw [hD]
  rw [hDk] at h0 hnil
  simp only [hDk] at hpx hln hget hlenL hdd
  rw [← h0]
  obtain ⟨G, hG⟩ : ∃ G, G = gapL (D 0) := ⟨_, rfl⟩
  rw [← hG]
  have hb : ∀ k (h : k < s.size), BLANKS.contains s[k] = true → gapL (D k) = 1 + gapL (D (k + 1)) := fun k h hb => by rw [hget k h]; exact gapL_blank _ _ hb
  have hr : ∀ k, k < s.size → Lib.hasPrefix (D k) [45, 45] = true → gapL (D k) = lineN (D k) + gapL (D (k + lineN (D k))) ∧ 2 ≤ lineN (D k) ∧ k + lineN (D k) ≤ s.size := fun k h hp => by
    obtain ⟨a, b⟩ := gapL_remark _ hp
    rw [hdd] at a
    have c := lineN_le (D k)
    rw [hlenL k (by omega)] at c
    exact ⟨a, b, by omega⟩
  have hn : ∀ k (h : k < s.size), ¬ BLANKS.contains s[k] = true → Lib.hasPrefix (D k) [45, 45] = false → gapL (D k) = 0 := fun k h h1 h2 => by
    rw [hget k h] at h2 ⊢; exact gapL_none _ _ h1 h2
  have hend : gapL (D s.size) = 0 := by rw [hnil]; rfl
  have hiff := fun c => indexByte_in c BLANKS
  have HIX := Lib.hid hix
  have HPX := Lib.hid hpx
  have HLN := Lib.hid hln
  have HB := Lib.hid hb
  have HR := Lib.hid hr
  have HN := Lib.hid hn
  have HF := Lib.hid hiff
  have HG := Lib.hid hG
  have HEN := Lib.hid hend
  clear hix hpx hln hb hr hn hiff hG hend hlen epr ext hget hlenL hnil hdd h0 hDk hD
  go_enter Tryz.func27, Tryz.ntmps27
  go_wp2
  go_loop [3] (fun vi => ∃ k : Nat, vi = .int .i64 (k : Int) ∧ k ≤ s.size ∧ G = k + gapL (D k)) (fun vi => s.size - (intOf vi).toNat)
  case atStart => exact ⟨0, rfl, Nat.zero_le _, by rw [HG.out]; omega⟩
  case round =>
    obtain ⟨k, rfl, hk, hGk⟩ := hrel
    have HGK := Lib.hid hGk
    clear hGk
    by_cases hlt : k < s.size
    · have hd : decide ((k : Int) < (s.size : Int)) = true := by simp; omega
      have hi := HIX.out s[k] w
      have hf := HF.out s[k]
      obtain ⟨z, hz⟩ : ∃ z, z = Lib.indexByte BLANKS s[k] := ⟨_, rfl⟩
      rw [← hz] at hi hf
      clear hz
      by_cases hb : BLANKS.contains s[k] = true
      · have hz0 := hf.2 hb
        have hdz : decide ((0 : Int) ≤ z) = true := by simpa using hz0
        have hnext := HB.out k hlt hb
        have HX := Lib.hid hnext
        clear hf hb hz0 hnext
        go_wp2_with fail
        refine hi.mono ?_
        rintro e w1 ⟨rfl, rfl⟩
        go_wp2_with fail
        refine ⟨⟨k + 1, by go_num, by omega, by rw [HGK.out, HX.out]; omega⟩, ?_⟩
        simp [intOf]; omega
      · have hz0 : ¬ (0 : Int) ≤ z := fun h => hb (hf.1 h)
        have hdz : decide ((0 : Int) ≤ z) = false := by simpa using hz0
        have hp := HPX.out k w
        cases hq : Lib.hasPrefix (D k) [45, 45] with
        | true =>
          obtain ⟨r1, r2, r3⟩ := HR.out k hlt hq
          have hl := HLN.out k w
          rw [hq] at hp
          obtain ⟨L, hL⟩ : ∃ L, L = lineN (D k) := ⟨_, rfl⟩
          rw [← hL] at r1 r2 r3 hl
          have HX := Lib.hid r1
          clear hf hb hz0 hq r1 hL
          go_wp2_with fail
          refine hi.mono ?_
          rintro e w1 ⟨rfl, rfl⟩
          go_wp2_with fail
          refine hp.mono ?_
          rintro e w1 ⟨rfl, rfl⟩
          go_wp2_with fail
          refine hl.mono ?_
          rintro e w1 ⟨rfl, rfl⟩
          go_wp2_with fail
          refine ⟨⟨k + L, by go_num, by omega, by rw [HGK.out, HX.out]; omega⟩, ?_⟩
          simp [intOf]; omega
        | false =>
          have r := HN.out k hlt hb hq
          rw [hq] at hp
          have HX := Lib.hid r
          clear hf hb hz0 hq r
          go_wp2_with fail
          refine hi.mono ?_
          rintro e w1 ⟨rfl, rfl⟩
          go_wp2_with fail
          refine hp.mono ?_
          rintro e w1 ⟨rfl, rfl⟩
          go_wp2_with fail
          go_ret
          exact ⟨by rw [HGK.out, HX.out]; rfl, rfl⟩
    · have hd : decide ((k : Int) < (s.size : Int)) = false := by simp; omega
      have he : G = k := by rw [HGK.out, show k = s.size by omega, HEN.out]; omega
      have HX := Lib.hid he
      clear he
      go_wp2_with fail
      go_ret
      exact ⟨by rw [HX.out]; rfl, rfl⟩
end Go.Proofs.YtjlnihennlkmpaaGreatDoor

namespace Go.Proofs.YtjlnihennlkmpaaGreatDoor
open Go Go.RowKit
/-- The first word of a text: its kind (0: none), its length, its number. -/
def firstW (l : List UInt8) : Nat × Nat × Int :=
  if isL (l.headD 0).toNat = true then
    if 24 < runLen isN l then (0, 0, 0) else if keptB (l.take (runLen isN l)) = true then (2, runLen isN l, 0) else (1, runLen isN l, 0)
  else if isD (l.headD 0).toNat = true then
    if 1 < runLen isD l ∧ l.headD 0 = 48 then (0, 0, 0) else
    match Lib.parseIntB 64 (l.take (runLen isD l)) with
    | .ok v => (3, runLen isD l, v)
    | _ => (0, 0, 0)
  else if 1 < l.length ∧ TWO.contains (l.take 2) = true then (4, 2, 0)
  else if SIGNS.contains (l.headD 0) = true then (4, 1, 0) else (0, 0, 0)
theorem firstW_len (l : List UInt8) (hl : 0 < l.length) : (firstW l).2.1 ≤ l.length ∧ ((firstW l).1 ≠ 0 → 1 ≤ (firstW l).2.1) ∧ ((firstW l).1 = 0 → firstW l = (0, 0, 0)) := by
  have h1 := runLen_le isN l
  have h2 := runLen_le isD l
  unfold firstW
  by_cases a : isL (l.headD 0).toNat = true
  · have p := runLen_pos isN l hl (by unfold isN; rw [a]; rfl)
    rw [if_pos a]
    split
    · simp
    · split
      · exact ⟨h1, fun _ => p, fun h => by simp at h⟩
      · exact ⟨h1, fun _ => p, fun h => by simp at h⟩
  · rw [if_neg a]
    by_cases b : isD (l.headD 0).toNat = true
    · have p := runLen_pos isD l hl b
      rw [if_pos b]
      split
      · simp
      · split
        · exact ⟨h2, fun _ => p, fun h => by simp at h⟩
        · simp
    · rw [if_neg b]
      split
      · rename_i c
        exact ⟨by have := c.1; show 2 ≤ l.length; omega, fun _ => by decide, fun h => by simp at h⟩
      · split
        · exact ⟨by show 1 ≤ l.length; omega, fun _ => by decide, fun h => by simp at h⟩
        · simp
theorem bytes_inj {a b : ByteArray} (h : a.data.toList = b.data.toList) : a = b := by
  obtain ⟨⟨a⟩⟩ := a
  obtain ⟨⟨b⟩⟩ := b
  simp only at h
  rw [h]
theorem extract_nil (s : ByteArray) (a : Nat) : s.extract a a = ByteArray.empty := by
  apply bytes_inj
  rw [Lib.extract_data, Nat.sub_self]
  rfl
theorem firstV_eq (s : ByteArray) : firstV s = wordV (firstW s.data.toList).1 (s.extract 0 (firstW s.data.toList).2.1) (firstW s.data.toList).2.2 0 := by
  have hlen : s.data.toList.length = s.size := by simp
  have h1 := runLen_le isN s.data.toList
  have h2 := runLen_le isD s.data.toList
  rw [hlen] at h1 h2
  have sz : ∀ m, m ≤ s.size → (s.extract 0 m).size = m := fun m h => by rw [ByteArray.size_extract]; omega
  have dt : ∀ m, (s.extract 0 m).data.toList = s.data.toList.take m := fun m => by rw [Lib.extract_data]; simp
  have hno : noWord = wordV 0 (s.extract 0 0) 0 0 := by rw [extract_nil]; rfl
  have hd : ∀ m, 0 < m → (s.data.toList.take m).headD 0 = s.data.toList.headD 0 := fun m h => by
    cases m with
    | zero => omega
    | succ m => cases s.data.toList <;> rfl
  unfold firstV firstW
  by_cases a : isL (s.data.toList.headD 0).toNat = true
  · rw [if_pos a, if_pos a]
    unfold nameV
    rw [sz _ h1, dt]
    by_cases c : 24 < runLen isN s.data.toList
    · rw [if_pos c, if_pos c]; exact hno
    · rw [if_neg c, if_neg c]
      split <;> rfl
  · rw [if_neg a, if_neg a]
    by_cases b : isD (s.data.toList.headD 0).toNat = true
    · rw [if_pos b, if_pos b]
      unfold numV
      rw [sz _ h2, dt]
      by_cases c : 1 < runLen isD s.data.toList
      · rw [hd _ (by omega)]
        split
        · exact hno
        · cases Lib.parseIntB 64 (s.data.toList.take (runLen isD s.data.toList)) <;> first | rfl | exact hno
      · rw [if_neg (fun h => c h.1), if_neg (fun h => c h.1)]
        cases Lib.parseIntB 64 (s.data.toList.take (runLen isD s.data.toList)) <;> first | rfl | exact hno
    · rw [if_neg b, if_neg b]
      unfold signV
      rw [Lib.toList_data, dt, hlen]
      split
      · rfl
      · split
        · rfl
        · exact hno
/-- Cutting on from a place: the words, or the place of the first fault. -/
def cutF : Nat → List UInt8 → Nat → Except Nat (List (Nat × Nat × Int × Nat))
  | 0, _, at_ => .error at_
  | f + 1, l, at_ =>
    if l = [] then .ok [(0, 0, 0, at_)] else
    if (firstW l).1 = 0 then .error at_ else
    match cutF f ((l.drop (firstW l).2.1).drop (gapL (l.drop (firstW l).2.1))) (at_ + (firstW l).2.1 + gapL (l.drop (firstW l).2.1)) with
    | .error p => .error p
    | .ok t => .ok (((firstW l).1, (firstW l).2.1, (firstW l).2.2, at_) :: t)
def cut1 (l : List UInt8) : Except Nat (List (Nat × Nat × Int × Nat)) := cutF (l.length + 1) (l.drop (gapL l)) (gapL l)
/-- What Cut tells. -/
def cutAll (l : List UInt8) : Except (Nat × Nat) (List (Nat × Nat × Int × Nat)) :=
  if 16384 < l.length then .error (2, l.length) else
  match cut1 l with
  | .error p => .error (7, p)
  | .ok t => .ok t
/-- Words that were found stand ahead of what is found further on. -/
def ahead (d : List (Nat × Nat × Int × Nat)) : Except Nat (List (Nat × Nat × Int × Nat)) → Except Nat (List (Nat × Nat × Int × Nat))
  | .error p => .error p
  | .ok t => .ok (d ++ t)
theorem ahead_nil (r : Except Nat (List (Nat × Nat × Int × Nat))) : ahead [] r = r := by cases r <;> rfl
theorem cutF_end (f at_ : Nat) : cutF (f + 1) [] at_ = .ok [(0, 0, 0, at_)] := by rw [cutF, if_pos rfl]
theorem cutF_bad (f at_ : Nat) (l : List UInt8) (h : l ≠ []) (h0 : (firstW l).1 = 0) : cutF (f + 1) l at_ = .error at_ := by rw [cutF, if_neg h, if_pos h0]
theorem cutF_go (f at_ : Nat) (l : List UInt8) (d : List (Nat × Nat × Int × Nat)) (h : l ≠ []) (h0 : (firstW l).1 ≠ 0) :
    ahead d (cutF (f + 1) l at_) = ahead (d ++ [((firstW l).1, (firstW l).2.1, (firstW l).2.2, at_)]) (cutF f ((l.drop (firstW l).2.1).drop (gapL (l.drop (firstW l).2.1))) (at_ + (firstW l).2.1 + gapL (l.drop (firstW l).2.1))) := by
  rw [cutF, if_neg h, if_neg h0]
  cases cutF f ((l.drop (firstW l).2.1).drop (gapL (l.drop (firstW l).2.1))) (at_ + (firstW l).2.1 + gapL (l.drop (firstW l).2.1)) with
  | error p => rfl
  | ok t => simp [ahead]
/-- A word's cells. -/
def wordC (s : ByteArray) (x : Nat × Nat × Int × Nat) : List Value := [.int .i64 (x.1 : Int), .string (s.extract x.2.2.2 (x.2.2.2 + x.2.1)), .int .i64 x.2.2.1, .int .i64 (x.2.2.2 : Int)]
def wordsC (s : ByteArray) (l : List (Nat × Nat × Int × Nat)) : List Value := l.flatMap (wordC s)
theorem wordsC_snoc (s : ByteArray) (l : List (Nat × Nat × Int × Nat)) (x : Nat × Nat × Int × Nat) : wordsC s (l ++ [x]) = wordsC s l ++ wordC s x := by simp [wordsC]
theorem extract_sub (s : ByteArray) (a m : Nat) (h : a + m ≤ s.size) : (s.extract a s.size).extract 0 m = s.extract a (a + m) := by
  apply bytes_inj
  rw [Lib.extract_data, Lib.extract_data, Lib.extract_data]
  simp only [List.drop_zero, Nat.sub_zero, List.take_take]
  congr 1
  omega
end Go.Proofs.YtjlnihennlkmpaaGreatDoor

namespace Go.Proofs.YtjlnihennlkmpaaGreatDoor
open Go Go.RowKit
theorem info_word : (Tryz.prog.info? 77).map (fun i => (i.zero, i.size, i.bytes)) = some (some (.agg #[.int .i64 0, .string ⟨#[]⟩, .int .i64 0, .int .i64 0]), 4, 40) := by kernel_rfl
theorem size_fault : (Tryz.prog.info? 26).map (·.size) = some 2 := by kernel_rfl
theorem fault_one (a b : Int) : (#[.int .i64 a, .int .i64 b] : Array Value).all (·.oneCell') = true := by simp [Value.oneCell']
theorem results_tmp_cell {P : Program} {fn : Func} {q p : Tmp} {ty : TypeId} (h : fn.results = #[.tmp q, .cell p ty]) (tmps : Array Value) (w : World) (g : Nat) (t : TypeId) (cs : Array Value) (fr : Nat × Nat) (d : TypeDesc)
    (hp : tmps.getD p undef = .pointer (some ⟨g, 0, none⟩)) (hg : w.heap[g]? = some (.cells cs t fr))
    (hu : P.underlying ty = some d) (hd : (match d with | .struct _ | .array _ _ => true | _ => false) = true) (hi : (P.info? ty).map (·.size) = some cs.size) :
    (results fn tmps).run P w = .ok (.tuple #[tmps.getD q undef, .agg cs]) w := by
  have hp' : tmps[p]?.getD undef = .pointer (some ⟨g, 0, none⟩) := by simpa using hp
  simp [results, h, hp', asAddr, run_loadVar_row w g t ty cs fr d hg hu hd hi]
theorem own_weaken' {w : World} {base base' : Nat} {e : TypeId} {s : Nat} {v : Value} {n : Nat} {xs : List Value} (h : w.ownsRow base e s v n xs) (hb : base' ≤ base) : w.ownsRow base' e s v n xs := by
  refine ⟨h.1, ?_⟩
  rcases h.2 with h0 | ⟨g, cap, cur, h1, h2, h3⟩
  · exact .inl h0
  · exact .inr ⟨g, cap, cur, h1, Nat.le_trans hb h2, h3⟩
/-- A row of the call's own stays when a block ahead of it is stored whole. -/
theorem own_setRow {w : World} {base : Nat} {e : TypeId} {s : Nat} {v : Value} {n : Nat} {xs : List Value} (h : w.ownsRow base e s v n xs) {g : Nat} {cs : Array Value} (hg : g < base) : (w.setRow g cs).ownsRow base e s v n xs := by
  refine ⟨h.1, ?_⟩
  rcases h.2 with h0 | ⟨g', cap, cur, h1, h2, h3, h4⟩
  · exact .inl h0
  · exact .inr ⟨g', cap, cur, h1, h2, (setRow_other w g g' cs (by omega)).trans h3, h4⟩
/-- A call hands back the words of a text, or its first fault. -/
def GivesCut (s : ByteArray) (w : World) (e : Ending) (w' : World) : Prop :=
  Below w.heap.size w w' ∧ match cutAll s.data.toList with
  | .error (err, p) => e = .returned (.tuple #[.slice none 0 0, .agg #[.int .i64 (err : Int), .int .i64 (p : Int)]])
  | .ok l => ∃ v, e = .returned (.tuple #[v, .agg #[.int .i64 0, .int .i64 0]]) ∧ w'.ownsRow w.heap.size 77 4 v l.length (wordsC s l)
set_option maxHeartbeats 8000000 in
set_option maxRecDepth 100000 in
theorem Cut_any (s : ByteArray) (w : World) (hs : s.size ≤ 140737488351232) (hE : Errs w) : Calls Tryz.prog 15 #[.string s] w (GivesCut s w) := by
  have hlen : s.data.toList.length = s.size := by simp
  obtain ⟨i0, hi0, hz0, hz1, hz2⟩ := info_parts info_word
  have hblk := heap_alloc_new w (.cells #[.int .i64 0, .int .i64 0] 26)
  have hbel : Below w.heap.size w (w.alloc (.cells #[.int .i64 0, .int .i64 0] 26)) := (Below.refl _ _).alloc (Nat.le_refl _) _
  have B0 := Lib.hid hblk
  have B1 := Lib.hid hbel
  have HF := Lib.hid size_fault
  have HWs := Lib.hid size_word
  have HE := Lib.hid hE
  clear hblk hbel hE
  by_cases hbig : 16384 < s.size
  · have hc : cutAll s.data.toList = .error (2, s.size) := by unfold cutAll; rw [hlen, if_pos hbig]
    have HC := Lib.hid hc
    have d1 : decide ((16384 : Int) < (s.size : Int)) = true := by simp; omega
    clear hc hlen
    go_enter Tryz.func15, Tryz.ntmps15
    go_wp2_with (refine wpList_store_row rfl 26 (.tmp 3) (.tmp 12) rfl w.heap.size #[.int .i64 2, .int .i64 (s.size : Int)] rfl rfl 26 _ B0.out HF.out rfl (fault_one _ _) ?_)
    refine bodyPost_ret (v := .tuple #[.slice none 0 0, .agg #[.int .i64 2, .int .i64 (s.size : Int)]]) (results_tmp_cell (q := 2) (p := 3) (ty := 26) rfl _ _ w.heap.size 26 #[.int .i64 2, .int .i64 (s.size : Int)] (0, 0) _ rfl (setRow_heap _ w.heap.size _ _ _ _ B0.out) Tryz.underlying26 rfl HF.out) rfl ⟨below_setRow B1.out (Nat.le_refl _) _, ?_⟩
    rw [HC.out]
    rfl
  · have d1 : decide ((16384 : Int) < (s.size : Int)) = false := by simp; omega
    have hg := fun W => gap_any s W hs
    have hgle := gapL_le s.data.toList
    have hcut : cutAll s.data.toList = match cut1 s.data.toList with | .error p => .error (7, p) | .ok t => .ok t := by unfold cutAll; rw [hlen, if_neg hbig]; first | done | rfl
    have hc1 : cut1 s.data.toList = cutF (s.size + 1) (s.data.toList.drop (gapL s.data.toList)) (gapL s.data.toList) := by unfold cut1; rw [hlen]
    rw [hlen] at hgle
    obtain ⟨g0, hg0⟩ : ∃ g, g = gapL s.data.toList := ⟨_, rfl⟩
    rw [← hg0] at hg hgle hc1
    obtain ⟨R, hR⟩ : ∃ R, R = cut1 s.data.toList := ⟨_, rfl⟩
    rw [← hR] at hcut hc1
    have HG := Lib.hid hg
    have HCUT := Lib.hid hcut
    have HC1 := Lib.hid hc1
    have HLEN := Lib.hid hlen
    clear hg hcut hc1 hg0 hR hlen
    go_enter Tryz.func15, Tryz.ntmps15
    go_wp2_with fail
    refine (HG.out _).mono ?_
    rintro e w1 ⟨rfl, rfl⟩
    go_wp2_with fail
    generalize w.alloc (.cells #[.int .i64 0, .int .i64 0] 26) = w0 at B0 B1 ⊢
    go_loopw [4, 5] (fun vl va wr => ∃ (V : Value) (k : Nat) (d : List (Nat × Nat × Int × Nat)) (f : Nat), V = vl ∧ va = .int .i64 (k : Int) ∧ k ≤ s.size ∧ d.length ≤ k ∧ s.size < k + f ∧ R = ahead d (cutF f (s.data.toList.drop k) k) ∧ wr.ownsRow (w.heap.size + 1) 77 4 V d.length (wordsC s d) ∧ Below w.heap.size w wr ∧ wr.heap[w.heap.size]? = some (.cells #[.int .i64 0, .int .i64 0] 26 (0, 0)))
      (fun _ va _ => s.size - (intOf va).toNat)
    case atStart => exact ⟨_, g0, [], s.size + 1, rfl, rfl, hgle, Nat.zero_le _, by omega, by rw [ahead_nil]; exact HC1.out, ⟨rfl, .inl ⟨rfl, rfl⟩⟩, B1.out, B0.out⟩
    case round =>
      obtain ⟨V, k, d, f, hV, rfl, hk, hdk, hf, hRk, hown, hbel, hblk⟩ := hrel
      subst hV
      clear B0 B1 HC1
      by_cases hlt : k < s.size
      · have d2 : decide ((k : Int) < (s.size : Int)) = true := by simp; omega
        have hsub : (s.extract k s.size).data.toList = s.data.toList.drop k := Lib.extract_to_end s k
        have hssz : (s.extract k s.size).size = s.size - k := by rw [ByteArray.size_extract]; omega
        have hne : s.data.toList.drop k ≠ [] := by
          intro e
          have h := congrArg List.length e
          rw [List.length_drop, HLEN.out] at h
          simp at h; omega
        have hfw := fun W hE => firstWord_any (s.extract k s.size) W (by omega) (by omega) hE
        rw [firstV_eq, hsub] at hfw
        obtain ⟨q1, q2, q3⟩ := firstW_len (s.data.toList.drop k) (List.length_pos_iff.2 hne)
        rw [List.length_drop, HLEN.out] at q1
        obtain ⟨f', rfl⟩ : ∃ f', f = f' + 1 := ⟨f - 1, by omega⟩
        have hbad := cutF_bad f' k (s.data.toList.drop k) hne
        have hgo := cutF_go f' k (s.data.toList.drop k) d hne
        obtain ⟨x, hx⟩ : ∃ x, x = firstW (s.data.toList.drop k) := ⟨_, rfl⟩
        rw [← hx] at hfw q1 q2 q3 hbad hgo
        obtain ⟨xk, xm, xn⟩ := x
        simp only at hfw q1 q2 q3 hbad hgo
        rw [extract_sub s k xm (by omega)] at hfw
        simp only [List.drop_drop] at hgo
        have HX := Lib.hid hfw
        have HBAD := Lib.hid hbad
        have HGO := Lib.hid hgo
        have HRK := Lib.hid hRk
        have HO := Lib.hid hown
        have HB := Lib.hid hbel
        have HBK := Lib.hid hblk
        have hEr := HE.out.below hbel (Nat.le_refl _)
        clear hfw hbad hgo hRk hown hbel hblk hsub hssz hne hx
        unfold wordV at HX
        obtain ⟨tx, htx⟩ : ∃ t, t = s.extract k (k + xm) := ⟨_, rfl⟩
        have htxs : tx.size = xm := by rw [htx, ByteArray.size_extract]; omega
        rw [← htx] at HX
        by_cases hk0 : xk = 0
        · subst hk0
          have hR2 : R = .error k := by rw [HRK.out, HBAD.out rfl]; rfl
          have hcut : cutAll s.data.toList = .error (7, k) := by rw [HCUT.out, hR2]
          have HR2 := Lib.hid hcut
          have HT := Lib.hid htx
          have HTS := Lib.hid htxs
          clear hR2 hcut HRK HBAD HGO HCUT HLEN HG HE q1 q2 q3 htx htxs HO
          go_wp2_with fail
          refine (HX.out _ hEr).mono ?_
          rintro e w2 ⟨rfl, hb2⟩
          have hnew := heap_alloc_new w2 (.cells #[.int .i64 0, .string ⟨#[]⟩, .int .i64 0, .int .i64 0] 77)
          have hrow := setRow_heap _ w2.heap.size _ #[.int .i64 0, .string tx, .int .i64 xn, .int .i64 0] _ _ hnew
          have hbw : Below wr.heap.size wr ((w2.alloc (.cells #[.int .i64 0, .string ⟨#[]⟩, .int .i64 0, .int .i64 0] 77)).setRow w2.heap.size #[.int .i64 0, .string tx, .int .i64 xn, .int .i64 0]) := below_setRow (hb2.alloc hb2.size _) hb2.size _
          have c0 : ((w2.alloc (.cells #[.int .i64 0, .string ⟨#[]⟩, .int .i64 0, .int .i64 0] 77)).setRow w2.heap.size #[.int .i64 0, .string tx, .int .i64 xn, .int .i64 0]).cell? ⟨w2.heap.size, 0, none⟩ = some (.int .i64 0) := cell_of_row _ w2.heap.size 0 _ _ _ hrow
          have hbig2 : w.heap.size < wr.heap.size := (Array.getElem?_eq_some_iff.1 HBK.out).1
          have hfl := (hbw.block w.heap.size hbig2).trans HBK.out
          have hbelw := HB.out.trans (hbw.mono HB.out.size)
          have N1 := Lib.hid hnew
          have N2 := Lib.hid hfl
          have N3 := Lib.hid hbelw
          clear hnew hrow hbw hfl hbelw hb2 HX hEr
          go_wp2_with (first
            | (refine wpList_store_row rfl 77 (.tmp 6) (.tmp 22) rfl w2.heap.size #[.int .i64 0, .string tx, .int .i64 xn, .int .i64 0] rfl rfl 77 _ N1.out HWs.out rfl (word_one _ _ _ _) ?_)
            | (refine wpList_store_row rfl 26 (.tmp 3) (.tmp 27) rfl w.heap.size #[.int .i64 7, .int .i64 (k : Int)] rfl rfl 26 _ N2.out HF.out rfl (fault_one _ _) ?_))
          refine bodyPost_ret (v := .tuple #[.slice none 0 0, .agg #[.int .i64 7, .int .i64 (k : Int)]]) (results_tmp_cell (q := 2) (p := 3) (ty := 26) rfl _ _ w.heap.size 26 #[.int .i64 7, .int .i64 (k : Int)] (0, 0) _ rfl (setRow_heap _ w.heap.size _ _ _ _ N2.out) Tryz.underlying26 rfl HF.out) rfl ⟨below_setRow N3.out (Nat.le_refl _) _, ?_⟩
          rw [HR2.out]
          rfl
        · have q4 := q2 hk0
          have hgo := HGO.out hk0
          have hgap := fun W => gap_any (s.extract (k + xm) s.size) W (by rw [ByteArray.size_extract]; omega)
          rw [show (s.extract (k + xm) s.size).data.toList = s.data.toList.drop (k + xm) from Lib.extract_to_end s (k + xm)] at hgap
          have hgle := gapL_le (s.data.toList.drop (k + xm))
          rw [List.length_drop, HLEN.out] at hgle
          obtain ⟨g, hg⟩ : ∃ g, g = gapL (s.data.toList.drop (k + xm)) := ⟨_, rfl⟩
          rw [← hg] at hgap hgle hgo
          have hRn := HRK.out.trans hgo
          have hwc : wordsC s (d ++ [(xk, xm, xn, k)]) = wordsC s d ++ [.int .i64 (xk : Int), .string tx, .int .i64 xn, .int .i64 (k : Int)] := by rw [wordsC_snoc, htx]; rfl
          have hkx : ((xk : Int) == 0) = false := by simpa using hk0
          have HRN := Lib.hid hRn
          have HWC := Lib.hid hwc
          have HGP := Lib.hid hgap
          have HT := Lib.hid htx
          clear hgo hRn hwc hgap htx HRK HBAD HGO hg q2 q3
          go_wp2_with fail
          refine (HX.out _ hEr).mono ?_
          rintro e w2 ⟨rfl, hb2⟩
          have hnew := heap_alloc_new w2 (.cells #[.int .i64 0, .string ⟨#[]⟩, .int .i64 0, .int .i64 0] 77)
          have hrow := setRow_heap _ w2.heap.size _ #[.int .i64 (xk : Int), .string tx, .int .i64 xn, .int .i64 0] _ _ hnew
          have hbw : Below wr.heap.size wr ((w2.alloc (.cells #[.int .i64 0, .string ⟨#[]⟩, .int .i64 0, .int .i64 0] 77)).setRow w2.heap.size #[.int .i64 (xk : Int), .string tx, .int .i64 xn, .int .i64 0]) := below_setRow (hb2.alloc hb2.size _) hb2.size _
          have hbb := hb2.size
          have N1 := Lib.hid hnew
          have c0 := cell_of_row _ w2.heap.size 0 _ _ _ hrow
          have c3 := cell_of_row _ w2.heap.size 3 _ _ _ hrow
          have f3 := frozen_of_row _ w2.heap.size 3 _ _ hrow
          have hr4 := heap_setCell_same _ w2.heap.size 3 _ _ (.int .i64 (k : Int)) hrow
          obtain ⟨w4, hw4⟩ : ∃ w4, w4 = ((w2.alloc (.cells #[.int .i64 0, .string ⟨#[]⟩, .int .i64 0, .int .i64 0] 77)).setRow w2.heap.size #[.int .i64 (xk : Int), .string tx, .int .i64 xn, .int .i64 0]).setCell ⟨w2.heap.size, 3, none⟩ (.int .i64 (k : Int)) := ⟨_, rfl⟩
          have hr4' : w4.heap[w2.heap.size]? = some (.cells #[.int .i64 (xk : Int), .string tx, .int .i64 xn, .int .i64 (k : Int)] 77 (0, 0)) := by rw [hw4]; exact hr4
          have hbw4 : Below wr.heap.size wr w4 := by rw [hw4]; exact hbw.setCell hbb _
          have hlt4 : w2.heap.size < w4.heap.size := (Array.getElem?_eq_some_iff.1 hr4').1
          have hbw5 : Below wr.heap.size wr (w4.alloc (.cells #[.int .i64 (xk : Int), .string tx, .int .i64 xn, .int .i64 (k : Int)] 77)) := hbw4.alloc hbw4.size _
          have hown5 := own_below HO.out hbw5
          have hr5 : (w4.alloc (.cells #[.int .i64 (xk : Int), .string tx, .int .i64 xn, .int .i64 (k : Int)] 77)).heap[w2.heap.size]? = some (.cells #[.int .i64 (xk : Int), .string tx, .int .i64 xn, .int .i64 (k : Int)] 77 (0, 0)) := (Below.heap_alloc w4 _ _ hlt4).trans hr4'
          have hnews : ∀ j u, ([.int .i64 (xk : Int), .string tx, .int .i64 xn, .int .i64 (k : Int)] : List Value)[j]? = some u → (w4.alloc (.cells #[.int .i64 (xk : Int), .string tx, .int .i64 xn, .int .i64 (k : Int)] 77)).cell? (Addr.add ⟨w4.heap.size, 0, none⟩ j) = some u := fun j u hu => by
            rw [Addr.add_lit, Nat.zero_add, cell_of_row _ w4.heap.size j _ _ _ (heap_alloc_new w4 _), ← hu]
            simp
          have hone : ∀ u ∈ ([.int .i64 (xk : Int), .string tx, .int .i64 xn, .int .i64 (k : Int)] : List Value), u.oneCell' = true := fun u hu => by
            simp only [List.mem_cons, List.not_mem_nil, or_false] at hu
            rcases hu with rfl | rfl | rfl | rfl <;> rfl
          have h63 : d.length + 1 ≤ maxLen := by unfold maxLen; omega
          have hby : (d.length + 1) * 40 ≤ 140737488355328 := by omega
          have hsz1 : w.heap.size + 1 ≤ wr.heap.size := (Array.getElem?_eq_some_iff.1 HBK.out).1
          have hbase : w.heap.size + 1 ≤ (w4.alloc (.cells #[.int .i64 (xk : Int), .string tx, .int .i64 xn, .int .i64 (k : Int)] 77)).heap.size := Nat.le_trans hsz1 hbw5.size
          have hne : ∀ g', V.ownBlock = some g' → w.heap.size + 1 ≤ g' ∧ g' < wr.heap.size := fun g' h => HO.out.lt g' h
          have HW4 := Lib.hid hw4
          have N4 := Lib.hid hr4'
          have N5 := Lib.hid hown5
          have N6 := Lib.hid hr5
          have N7 := Lib.hid hnews
          have N8 := Lib.hid hbw5
          have N9 := Lib.hid hne
          clear hnew hb2 HX hEr hrow hbw hr4 hw4 hr4' hbw4 hown5 hr5 hnews hbw5 hlt4 hne HO
          go_wp2_with (first
            | (refine wpList_store_row rfl 77 (.tmp 6) (.tmp 22) rfl w2.heap.size #[.int .i64 (xk : Int), .string tx, .int .i64 xn, .int .i64 0] rfl rfl 77 _ N1.out HWs.out rfl (word_one _ _ _ _) ?_)
            | (rw [← HW4.out]
               refine wpList_load_row rfl 77 (.tmp 6) rfl w2.heap.size rfl 77 #[.int .i64 (xk : Int), .string tx, .int .i64 xn, .int .i64 (k : Int)] (0, 0) _ N4.out Tryz.underlying77 rfl HWs.out ?_)
            | (at_builtin
               refine wpList_append_own _ rfl (.tmp 30) (.tmp 32) 57 rfl (w.heap.size + 1) 77 i0 _ 4 40 Tryz.underlying57 hi0 hz0 hz1 hz2 rfl (by decide) V d.length (wordsC s d) rfl N5.out ⟨w4.heap.size, 0, none⟩ 1 1 [.int .i64 (xk : Int), .string tx, .int .i64 xn, .int .i64 (k : Int)] rfl rfl N7.out hone h63 hby hbase ?_
               intro v5 w5 hown5 hg5 _
               have c5 : w5.cell? ⟨w2.heap.size, 1, none⟩ = some (.string tx) := hg5.cell (cell_of_row _ w2.heap.size 1 _ _ _ N6.out) (fun e => by have := (N9.out _ e.symm).2; simp only at this; omega)
               have O5 := Lib.hid hown5
               have G5 := Lib.hid hg5
               clear hown5 hg5 c0 c3 f3))
          refine (HGP.out _).mono ?_
          rintro e w6 ⟨rfl, rfl⟩
          have hbel8 := HB.out.trans (N8.out.mono HB.out.size)
          have hbel6 : Below w.heap.size w w6 := hbel8.grown G5.out hbel8.size (fun g' h => by have := (N9.out g' h).1; omega)
          have hlt0 : w.heap.size < wr.heap.size := hsz1
          have hbk8 := (N8.out.block w.heap.size hlt0).trans HBK.out
          have hbk6 := (G5.out.block w.heap.size (Nat.lt_of_lt_of_le hlt0 N8.out.size) (fun e => by have := (N9.out _ e.symm).1; omega)).trans hbk8
          have hown6 : w6.ownsRow (w.heap.size + 1) 77 4 v5 (d ++ [(xk, xm, xn, k)]).length (wordsC s (d ++ [(xk, xm, xn, k)])) := by
            rw [HWC.out, List.length_append]
            exact O5.out
          have P1 := Lib.hid hbel6
          have P2 := Lib.hid hbk6
          have P3 := Lib.hid hown6
          clear hbel8 hbel6 hbk8 hbk6 hown6 c5 N4 N5 N6 N7 N8 N9 O5 G5 HB HBK N1 HW4
          go_wp2_with fail
          refine ⟨⟨v5, k + xm + g, d ++ [(xk, xm, xn, k)], f', rfl, by go_num, by omega, by simp; omega, by omega, ?_, P3.out, P1.out, P2.out⟩, ?_⟩
          · exact HRN.out
          · simp [intOf]; omega
      · obtain rfl : k = s.size := by omega
        have d2 : decide ((s.size : Int) < (s.size : Int)) = false := by simp
        have hnil : s.data.toList.drop s.size = [] := List.drop_of_length_le (by rw [HLEN.out]; exact Nat.le_refl _)
        obtain ⟨f', rfl⟩ : ∃ f', f = f' + 1 := ⟨f - 1, by omega⟩
        have hR2 : R = .ok (d ++ [(0, 0, 0, s.size)]) := by rw [hRk, hnil, cutF_end]; rfl
        have hcut : cutAll s.data.toList = .ok (d ++ [(0, 0, 0, s.size)]) := by rw [HCUT.out, hR2]
        have hwc : wordsC s (d ++ [(0, 0, 0, s.size)]) = wordsC s d ++ [.int .i64 0, .string ⟨#[]⟩, .int .i64 0, .int .i64 (s.size : Int)] := by
          rw [wordsC_snoc]
          unfold wordC
          rw [show s.extract s.size (s.size + 0) = ByteArray.empty from extract_nil s s.size]
          rfl
        have hb2 : Below wr.heap.size wr (wr.alloc (.cells #[.int .i64 0, .string ⟨#[]⟩, .int .i64 0, .int .i64 (s.size : Int)] 77)) := (Below.refl _ _).alloc (Nat.le_refl _) _
        have hown2 := own_below hown hb2
        have hnews : ∀ j u, ([.int .i64 0, .string ⟨#[]⟩, .int .i64 0, .int .i64 (s.size : Int)] : List Value)[j]? = some u → (wr.alloc (.cells #[.int .i64 0, .string ⟨#[]⟩, .int .i64 0, .int .i64 (s.size : Int)] 77)).cell? (Addr.add ⟨wr.heap.size, 0, none⟩ j) = some u := fun j u hu => by
          rw [Addr.add_lit, Nat.zero_add, cell_of_row _ wr.heap.size j _ _ _ (heap_alloc_new wr _), ← hu]
          simp
        have hone : ∀ u ∈ ([.int .i64 0, .string ⟨#[]⟩, .int .i64 0, .int .i64 (s.size : Int)] : List Value), u.oneCell' = true := fun u hu => by
          simp only [List.mem_cons, List.not_mem_nil, or_false] at hu
          rcases hu with rfl | rfl | rfl | rfl <;> rfl
        have h63 : d.length + 1 ≤ maxLen := by unfold maxLen; omega
        have hby : (d.length + 1) * 40 ≤ 140737488355328 := by omega
        have hsz1 : w.heap.size + 1 ≤ wr.heap.size := (Array.getElem?_eq_some_iff.1 hblk).1
        have hbase : w.heap.size + 1 ≤ (wr.alloc (.cells #[.int .i64 0, .string ⟨#[]⟩, .int .i64 0, .int .i64 (s.size : Int)] 77)).heap.size := Nat.le_trans hsz1 hb2.size
        have hbk2 := (hb2.block w.heap.size hsz1).trans hblk
        have hbel2 := hbel.trans (hb2.mono hbel.size)
        have HO := Lib.hid hown2
        have HC := Lib.hid hcut
        have HW := Lib.hid hwc
        have HN := Lib.hid hnews
        have HB := Lib.hid hbel2
        have HK := Lib.hid hbk2
        have HL := hown2.lt
        have HLT := Lib.hid HL
        clear hRk hR2 hcut hwc hb2 hown hown2 hnews hbel hbel2 hblk hbk2 HL hnil HCUT HLEN HG HE
        go_wp2_with (first
          | (at_builtin
             refine wpList_append_own _ rfl (.tmp 45) (.tmp 48) 57 rfl (w.heap.size + 1) 77 i0 _ 4 40 Tryz.underlying57 hi0 hz0 hz1 hz2 rfl (by decide) V d.length (wordsC s d) rfl HO.out ⟨wr.heap.size, 0, none⟩ 1 1 [.int .i64 0, .string ⟨#[]⟩, .int .i64 0, .int .i64 (s.size : Int)] rfl rfl HN.out hone h63 hby hbase ?_
             intro v5 w5 hown5 hg5 _
             have hbk5 := (hg5.block w.heap.size (Array.getElem?_eq_some_iff.1 HK.out).1 (fun e => by have := (HLT.out _ e.symm).1; omega)).trans HK.out
             have hbel5 : Below w.heap.size w w5 := HB.out.grown hg5 HB.out.size (fun g' h => by have := (HLT.out g' h).1; omega)
             have P1 := Lib.hid hown5
             have P2 := Lib.hid hbk5
             have P3 := Lib.hid hbel5
             clear hown5 hg5 hbk5 hbel5)
          | (refine wpList_store_row rfl 26 (.tmp 3) (.tmp 50) rfl w.heap.size #[.int .i64 0, .int .i64 0] rfl rfl 26 _ P2.out HF.out rfl (fault_one _ _) ?_))
        refine bodyPost_ret (v := .tuple #[v5, .agg #[.int .i64 0, .int .i64 0]]) (results_tmp_cell (q := 2) (p := 3) (ty := 26) rfl _ _ w.heap.size 26 #[.int .i64 0, .int .i64 0] (0, 0) _ rfl (setRow_heap _ w.heap.size _ _ _ _ P2.out) Tryz.underlying26 rfl HF.out) rfl ⟨below_setRow P3.out (Nat.le_refl _) _, ?_⟩
        rw [HC.out]
        refine ⟨v5, rfl, ?_⟩
        rw [HW.out, List.length_append]
        exact own_weaken' (own_setRow P1.out (Nat.lt_succ_self _)) (Nat.le_succ _)
end Go.Proofs.YtjlnihennlkmpaaGreatDoor

namespace Go.Proofs.YtjlnihennlkmpaaGreatDoor
open Go Go.RowKit
/-- A word: its kind, text, number, place. -/
structure Wd where
  kind : Nat
  text : ByteArray
  n : Int
  at_ : Nat
def Wd.cells (x : Wd) : List Value := [.int .i64 (x.kind : Int), .string x.text, .int .i64 x.n, .int .i64 (x.at_ : Int)]
def noWd : Wd := ⟨0, ⟨#[]⟩, 0, 0⟩
/-- What the parser holds beside its words: how many are taken, the first fault (0: none), names, parts. -/
structure St where
  i : Nat
  er : Nat
  ea : Nat
  names : Nat
  parts : Nat
def cur (L : List Wd) (st : St) : Wd := L.getD st.i noWd
def isS (L : List Wd) (s : ByteArray) (st : St) : Bool := (cur L st).text.data.toList == s.data.toList
theorem isS_eq (L : List Wd) (s : ByteArray) (st : St) : isS L s st = ((cur L st).text.toList == s.toList) := by unfold isS; rw [Lib.toList_data, Lib.toList_data]
def isNameS (L : List Wd) (st : St) : Bool := ((cur L st).kind : Int) == 1
def nextS (L : List Wd) (st : St) : St := if (cur L st).kind = 0 then st else { st with i := st.i + 1 }
def failS (L : List Wd) (err : Nat) (st : St) : St := if st.er = 0 then { st with i := L.length - 1, er := err, ea := (cur L st).at_ } else st
def takeS (L : List Wd) (s : ByteArray) (st : St) : Bool × St := if isS L s st = true then (true, nextS L st) else (false, st)
def needS (L : List Wd) (s : ByteArray) (st : St) : St := if isS L s st = true then nextS L st else failS L 7 st
def nameS (L : List Wd) (st : St) : ByteArray × St := if isNameS L st = true then ((cur L st).text, nextS L st) else ((cur L (failS L 7 st)).text, nextS L (failS L 7 st))
/-- The words' list ends in the only one of kind 0. -/
def Good (L : List Wd) : Prop := 0 < L.length ∧ ∀ i, i < L.length → (L.getD i noWd).kind ≠ 0 → i + 1 < L.length
def parC (gw c n : Nat) (st : St) : Array Value := #[.slice (some ⟨gw, st.i * 4, none⟩) (n - st.i) (c - st.i), .int .i64 (st.er : Int), .int .i64 (st.ea : Int), .int .i64 (st.names : Int), .int .i64 (st.parts : Int)]
/-- The words in memory. -/
def WordsAt (w : World) (gw : Nat) (L : List Wd) : Prop := ∀ i, i < L.length → ∀ j v, (L.getD i noWd).cells[j]? = some v → w.cell? ⟨gw, i * 4 + j, none⟩ = some v
/-- The parser in memory. -/
structure Par (L : List Wd) (w : World) (gp gw c : Nat) (st : St) : Prop where
  blk : w.heap[gp]? = some (.cells (parC gw c L.length st) 61 (0, 0))
  row : WordsAt w gw L
  lt : st.i < L.length
  ne : gw ≠ gp
  gwl : gw < w.heap.size
  cap : L.length ≤ c
  max_ : c ≤ maxLen
theorem Par.gpl {L : List Wd} {w : World} {gp gw c : Nat} {st : St} (h : Par L w gp gw c st) : gp < w.heap.size := (Array.getElem?_eq_some_iff.1 h.blk).1
theorem Par.cur_cell {L : List Wd} {w : World} {gp gw c : Nat} {st : St} (h : Par L w gp gw c st) :
    w.cell? ⟨gw, st.i * 4, none⟩ = some (.int .i64 ((cur L st).kind : Int)) ∧ w.cell? ⟨gw, st.i * 4 + 1, none⟩ = some (.string (cur L st).text) ∧ w.cell? ⟨gw, st.i * 4 + 2, none⟩ = some (.int .i64 (cur L st).n) ∧ w.cell? ⟨gw, st.i * 4 + 3, none⟩ = some (.int .i64 ((cur L st).at_ : Int)) :=
  ⟨h.row st.i h.lt 0 _ rfl, h.row st.i h.lt 1 _ rfl, h.row st.i h.lt 2 _ rfl, h.row st.i h.lt 3 _ rfl⟩
theorem Par.cell {L : List Wd} {w : World} {gp gw c : Nat} {st : St} (h : Par L w gp gw c st) (j : Nat) (v : Value) (hv : (parC gw c L.length st)[j]? = some v) : w.cell? ⟨gp, j, none⟩ = some v := by
  simp only [World.cell?, h.blk]
  exact hv
theorem Par.cells {L : List Wd} {w : World} {gp gw c : Nat} {st : St} (h : Par L w gp gw c st) :
    w.cell? ⟨gp, 0, none⟩ = some (.slice (some ⟨gw, st.i * 4, none⟩) (L.length - st.i) (c - st.i)) ∧ w.cell? ⟨gp, 1, none⟩ = some (.int .i64 (st.er : Int)) ∧ w.cell? ⟨gp, 2, none⟩ = some (.int .i64 (st.ea : Int)) ∧ w.cell? ⟨gp, 3, none⟩ = some (.int .i64 (st.names : Int)) ∧ w.cell? ⟨gp, 4, none⟩ = some (.int .i64 (st.parts : Int)) :=
  ⟨h.cell 0 _ rfl, h.cell 1 _ rfl, h.cell 2 _ rfl, h.cell 3 _ rfl, h.cell 4 _ rfl⟩
theorem Par.frozen {L : List Wd} {w : World} {gp gw c : Nat} {st : St} (h : Par L w gp gw c st) (j : Nat) : w.frozen? ⟨gp, j, none⟩ = false := frozen_of_row w gp j _ _ h.blk
/-- The parser stays where its block and its words' block stay. -/
theorem Par.keep {L : List Wd} {w w' : World} {gp gw c : Nat} {st : St} (h : Par L w gp gw c st) (hp : w'.heap[gp]? = w.heap[gp]?) (hw : w'.heap[gw]? = w.heap[gw]?) (hs : w.heap.size ≤ w'.heap.size) : Par L w' gp gw c st :=
  ⟨hp.trans h.blk, fun i hi j v hv => by
    have := h.row i hi j v hv
    simp only [World.cell?] at this ⊢
    rw [hw]; exact this, h.lt, h.ne, Nat.lt_of_lt_of_le h.gwl hs, h.cap, h.max_⟩
theorem Par.below {L : List Wd} {w w' : World} {gp gw c : Nat} {st : St} (h : Par L w gp gw c st) (hb : Below w.heap.size w w') : Par L w' gp gw c st :=
  h.keep (hb.block gp h.gpl) (hb.block gw h.gwl) hb.size
/-- The parser's block stored anew. -/
theorem Par.put {L : List Wd} {w w' : World} {gp gw c : Nat} {st st' : St} (h : Par L w gp gw c st) (hp : w'.heap[gp]? = some (.cells (parC gw c L.length st') 61 (0, 0))) (hw : w'.heap[gw]? = w.heap[gw]?) (hs : w.heap.size ≤ w'.heap.size) (hi : st'.i < L.length) : Par L w' gp gw c st' :=
  ⟨hp, fun i hi j v hv => by
    have := h.row i hi j v hv
    simp only [World.cell?] at this ⊢
    rw [hw]; exact this, hi, h.ne, Nat.lt_of_lt_of_le h.gwl hs, h.cap, h.max_⟩
/-- A step's outcome. -/
def Gives1 (L : List Wd) (gp gw c : Nat) (v : Value) (st' : St) (w : World) (e : Ending) (w' : World) : Prop := e = .returned v ∧ Par L w' gp gw c st' ∧ w.grownBy w' (some gp)
theorem gb_below {w w' : World} {r : Option Nat} (h : Below w.heap.size w w') : w.grownBy w' r := ⟨h.os, h.tape, h.output, h.size, fun k hk _ => h.block k hk⟩
theorem gb_trans {a b c : World} {r : Option Nat} (h : a.grownBy b r) (k : b.grownBy c r) : a.grownBy c r :=
  ⟨k.os.trans h.os, k.tape.trans h.tape, k.output.trans h.output, Nat.le_trans h.size k.size, fun j hj hr => (k.block j (Nat.lt_of_lt_of_le hj h.size) hr).trans (h.block j hj hr)⟩
theorem gb_set (w : World) (g i : Nat) (v : Value) : w.grownBy (w.setCell ⟨g, i, none⟩ v) (some g) :=
  ⟨rfl, rfl, rfl, by simp, fun k _ hr => heap_setCell_other w _ k v (by rintro rfl; exact hr rfl)⟩
theorem gb_refl (w : World) (r : Option Nat) : w.grownBy w r := ⟨rfl, rfl, rfl, Nat.le_refl _, fun _ _ _ => rfl⟩
theorem gb_drew {a w : World} {r : Option Nat} (h : a.grownBy w r) : a.grownBy w.drew r := ⟨h.os, h.tape, h.output, h.size, h.block⟩
set_option maxHeartbeats 1000000 in
set_option maxRecDepth 100000 in
theorem is_any (L : List Wd) (s : ByteArray) (w : World) (gp gw c : Nat) (st : St) (h : Par L w gp gw c st) : Calls Tryz.prog 30 #[.pointer (some ⟨gp, 0, none⟩), .string s] w fun e w' => e = .returned (.bool (isS L s st)) ∧ w' = w := by
  obtain ⟨p0, _, _, _, _⟩ := h.cells
  obtain ⟨_, k1, _, _⟩ := h.cur_cell
  have hm : 0 < L.length - st.i := by have := h.lt; omega
  rw [isS_eq]
  obtain ⟨m, hme⟩ : ∃ m, m = L.length - st.i := ⟨_, rfl⟩
  obtain ⟨d, hd⟩ : ∃ d, d = c - st.i := ⟨_, rfl⟩
  obtain ⟨q, hq⟩ : ∃ q, q = st.i * 4 := ⟨_, rfl⟩
  obtain ⟨t, ht⟩ : ∃ t, t = (cur L st).text := ⟨_, rfl⟩
  rw [← hme] at hm p0
  rw [← hd, ← hq] at p0
  rw [← hq, ← ht] at k1
  rw [← ht]
  clear hme hd hq ht h
  go_enter Tryz.func30, Tryz.ntmps30
  go_wp2
  go_ret
  exact ⟨rfl, rfl⟩
set_option maxHeartbeats 1000000 in
set_option maxRecDepth 100000 in
theorem isName_any (L : List Wd) (w : World) (gp gw c : Nat) (st : St) (h : Par L w gp gw c st) : Calls Tryz.prog 60 #[.pointer (some ⟨gp, 0, none⟩)] w fun e w' => e = .returned (.bool (isNameS L st)) ∧ w' = w := by
  obtain ⟨p0, _, _, _, _⟩ := h.cells
  obtain ⟨k0, _, _, _⟩ := h.cur_cell
  have hm : 0 < L.length - st.i := by have := h.lt; omega
  unfold isNameS
  obtain ⟨m, hme⟩ : ∃ m, m = L.length - st.i := ⟨_, rfl⟩
  obtain ⟨d, hd⟩ : ∃ d, d = c - st.i := ⟨_, rfl⟩
  obtain ⟨q, hq⟩ : ∃ q, q = st.i * 4 := ⟨_, rfl⟩
  obtain ⟨t, ht⟩ : ∃ t : Int, t = ((cur L st).kind : Int) := ⟨_, rfl⟩
  rw [← hme] at hm p0
  rw [← hd, ← hq] at p0
  rw [← hq, ← ht] at k0
  rw [← ht]
  clear hme hd hq ht h
  go_enter Tryz.func60, Tryz.ntmps60
  go_wp2
  go_ret
  exact ⟨rfl, rfl⟩
theorem size_word2 : (Tryz.prog.info? 77).map (·.size) = some 4 := by kernel_rfl
theorem word_one2 (k : Int) (s : ByteArray) (n a : Int) : (#[.int .i64 k, .string s, .int .i64 n, .int .i64 a] : Array Value).all (·.oneCell') = true := by simp [Value.oneCell']
set_option maxHeartbeats 2000000 in
set_option maxRecDepth 100000 in
theorem next_any (L : List Wd) (hG : Good L) (w : World) (gp gw c : Nat) (st : St) (h : Par L w gp gw c st) : Calls Tryz.prog 73 #[.pointer (some ⟨gp, 0, none⟩)] w (Gives1 L gp gw c (.agg (cur L st).cells.toArray) (nextS L st) w) := by
  obtain ⟨p0, _, _, _, _⟩ := h.cells
  have pf := h.frozen 0
  have hgp := h.gpl
  have hgw := h.gwl
  obtain ⟨k0, k1, k2, k3⟩ := h.cur_cell
  have hm : 0 < L.length - st.i := by have := h.lt; omega
  have hst : nextS L st = if (cur L st).kind = 0 then st else { st with i := st.i + 1 } := rfl
  have hlast := hG.2 st.i h.lt
  rw [show L.getD st.i noWd = cur L st from rfl] at hlast
  obtain ⟨S, hS⟩ : ∃ S, S = nextS L st := ⟨_, rfl⟩
  rw [← hS] at hst ⊢
  have HH := Lib.hid h
  have HST := Lib.hid hst
  obtain ⟨m, hme⟩ : ∃ m, m = L.length - st.i := ⟨_, rfl⟩
  obtain ⟨d, hd⟩ : ∃ d, d = c - st.i := ⟨_, rfl⟩
  obtain ⟨q, hq⟩ : ∃ q, q = st.i * 4 := ⟨_, rfl⟩
  obtain ⟨x, hx⟩ : ∃ x, x = cur L st := ⟨_, rfl⟩
  rw [← hme] at hm p0
  rw [← hd, ← hq] at p0
  rw [← hq, ← hx] at k0 k1 k2 k3
  rw [← hx] at hlast HST ⊢
  obtain ⟨xk, xt, xn, xa⟩ := x
  unfold Wd.cells
  simp only at hlast HST k0 k1 k2 k3 ⊢
  have HM := Lib.hid hme
  have HD := Lib.hid hd
  have HQ := Lib.hid hq
  have HSW := Lib.hid size_word2
  have hblk := Lib.hid (heap_alloc_new w (.cells #[.int .i64 0, .string ⟨#[]⟩, .int .i64 0, .int .i64 0] 77))
  clear hme hd hq hx hS hst h
  by_cases hk : xk = 0
  · subst hk
    have hs2 : S = st := HST.out.trans (if_pos rfl)
    have HS2 := Lib.hid hs2
    clear hs2 hlast
    go_enter Tryz.func73, Tryz.ntmps73
    go_wp2_with fail
    have hb : Below w.heap.size w ((w.alloc (.cells #[.int .i64 0, .string xt, .int .i64 xn, .int .i64 (xa : Int)] 77)).alloc (.cells #[.int .i64 0, .string xt, .int .i64 xn, .int .i64 (xa : Int)] 77)) := ((Below.refl _ _).alloc (Nat.le_refl _) _).alloc (by simp) _
    have hr : ((w.alloc (.cells #[.int .i64 0, .string xt, .int .i64 xn, .int .i64 (xa : Int)] 77)).alloc (.cells #[.int .i64 0, .string xt, .int .i64 xn, .int .i64 (xa : Int)] 77)).heap[w.heap.size]? = some (.cells #[.int .i64 0, .string xt, .int .i64 xn, .int .i64 (xa : Int)] 77 (0, 0)) := by
      rw [Below.heap_alloc _ _ _ (by simp)]; exact heap_alloc_new w _
    refine bodyPost_ret (v := .agg #[.int .i64 0, .string xt, .int .i64 xn, .int .i64 (xa : Int)]) (results_cell_row (p := 2) (ty := 77) rfl _ _ w.heap.size 77 _ (0, 0) _ rfl hr Tryz.underlying77 rfl HSW.out) rfl ⟨rfl, ?_, gb_below hb⟩
    rw [HS2.out]
    exact HH.out.below hb
  · have hlt := hlast hk
    have hs2 : S = { st with i := st.i + 1 } := HST.out.trans (if_neg hk)
    have HS2 := Lib.hid hs2
    have hkb : ((xk : Int) != 0) = true := by simp; omega
    have hd1 : d ≠ 1 := by have := HD.out; have := HH.out.cap; omega
    have hd2 : 1 < d := by have := HD.out; have := HH.out.cap; omega
    have hm2 : 1 < m := by have := HM.out; omega
    have hmd : m ≤ d := by have := HD.out; have := HM.out; have := HH.out.cap; omega
    clear hs2 hlast hk
    go_enter Tryz.func73, Tryz.ntmps73
    go_wp2_with fail
    have hset := heap_setCell_same w gp 0 _ _ (.slice (some ⟨gw, q + 4, none⟩) (m - 1) (d - 1)) HH.out.blk
    have hsw := heap_setCell_other w ⟨gp, 0, none⟩ gw (.slice (some ⟨gw, q + 4, none⟩) (m - 1) (d - 1)) HH.out.ne
    have hss : (w.setCell ⟨gp, 0, none⟩ (.slice (some ⟨gw, q + 4, none⟩) (m - 1) (d - 1))).heap.size = w.heap.size := by simp
    obtain ⟨w1, hw1⟩ : ∃ w1, w1 = w.setCell ⟨gp, 0, none⟩ (.slice (some ⟨gw, q + 4, none⟩) (m - 1) (d - 1)) := ⟨_, rfl⟩
    have hg1 : w.grownBy w1 (some gp) := by rw [hw1]; exact gb_set w gp 0 _
    rw [← hw1] at hset hsw hss ⊢
    rw [← hss]
    have hb : Below w1.heap.size w1 ((w1.alloc (.cells #[.int .i64 (xk : Int), .string xt, .int .i64 xn, .int .i64 (xa : Int)] 77)).alloc (.cells #[.int .i64 (xk : Int), .string xt, .int .i64 xn, .int .i64 (xa : Int)] 77)) := ((Below.refl _ _).alloc (Nat.le_refl _) _).alloc (by simp) _
    have hr : ((w1.alloc (.cells #[.int .i64 (xk : Int), .string xt, .int .i64 xn, .int .i64 (xa : Int)] 77)).alloc (.cells #[.int .i64 (xk : Int), .string xt, .int .i64 xn, .int .i64 (xa : Int)] 77)).heap[w1.heap.size]? = some (.cells #[.int .i64 (xk : Int), .string xt, .int .i64 xn, .int .i64 (xa : Int)] 77 (0, 0)) := by
      rw [Below.heap_alloc _ _ _ (by simp)]; exact heap_alloc_new w1 _
    refine bodyPost_ret (v := .agg #[.int .i64 (xk : Int), .string xt, .int .i64 xn, .int .i64 (xa : Int)]) (results_cell_row (p := 2) (ty := 77) rfl _ _ w1.heap.size 77 _ (0, 0) _ rfl hr Tryz.underlying77 rfl HSW.out) rfl ⟨rfl, ?_, gb_trans hg1 (gb_below hb)⟩
    refine Par.below (HH.out.put (w' := w1) (st' := S) ?_ hsw (by rw [hss]; exact Nat.le_refl _) (by rw [HS2.out]; exact hlt)) hb
    rw [hset, HS2.out]
    have e1 := HM.out
    have e2 := HD.out
    have e3 := HQ.out
    unfold parC
    simp only [Array.setIfInBounds, List.size_toArray, List.length_cons]
    rw [show m - 1 = L.length - (st.i + 1) by omega, show d - 1 = c - (st.i + 1) by omega, show q + 4 = (st.i + 1) * 4 by omega]
    rfl
end Go.Proofs.YtjlnihennlkmpaaGreatDoor

namespace Go.Proofs.YtjlnihennlkmpaaGreatDoor
open Go Go.RowKit
/-- A step that hands nothing back. -/
def GivesU (L : List Wd) (gp gw c : Nat) (st' : St) (w : World) (e : Ending) (w' : World) : Prop := e = .returned (.tuple #[]) ∧ Par L w' gp gw c st' ∧ w.grownBy w' (some gp)
theorem size_fault2 : (Tryz.prog.info? 26).map (·.size) = some 2 := by kernel_rfl
theorem slice_words (gw q m d k : Nat) (hk : k < m) (hmd : m ≤ d) (W : World) : (Instr.sliceAt 57 (.slice (some ⟨gw, q, none⟩) m d) (some (.int .i64 (k : Int))) none none).run Tryz.prog W = .ok (.slice (some ⟨gw, q + k * 4, none⟩) (m - k) (d - k)) W := by
  have he : Tryz.prog.elem 57 = 77 := by simp [Program.elem, Tryz.underlying57]
  have ht' : Tryz.prog.underlying 57 = some (.slice (Tryz.prog.elem 57)) := by rw [he]; exact Tryz.underlying57
  have hz : ∀ W, (sizeOf (Tryz.prog.elem 57)).run Tryz.prog W = .ok 4 W := fun W => by
    rw [he]
    cases hq : Tryz.prog.info? 77 with
    | none => have h := size_word2; simp [hq] at h
    | some i => have h := size_word2; simp [hq] at h; simp [sizeOf, typeInfo, hq, h]
  rw [run_sliceAt_slice W _ _ _ _ _ ht', run_slice_l W _ _ m d ht' .i64 (k : Int) (by omega) (by omega), hz]
  simp only [Result.andThen, sliced, Int.toNat_natCast]
  rw [if_neg (by omega)]
  simp [Addr.add_mid]
set_option maxHeartbeats 2000000 in
set_option maxRecDepth 100000 in
theorem fail_any (L : List Wd) (err : Nat) (w : World) (gp gw c : Nat) (st : St) (h : Par L w gp gw c st) : Calls Tryz.prog 31 #[.pointer (some ⟨gp, 0, none⟩), .int .i64 (err : Int)] w (GivesU L gp gw c (failS L err st) w) := by
  obtain ⟨p0, p1, p2, _, _⟩ := h.cells
  have f0 := h.frozen 0
  have f1 := h.frozen 1
  have f2 := h.frozen 2
  have hgp := h.gpl
  have hgw := h.gwl
  obtain ⟨_, _, _, k3⟩ := h.cur_cell
  have hm : 0 < L.length - st.i := by have := h.lt; omega
  have hst : failS L err st = if st.er = 0 then { st with i := L.length - 1, er := err, ea := (cur L st).at_ } else st := rfl
  obtain ⟨S, hS⟩ : ∃ S, S = failS L err st := ⟨_, rfl⟩
  rw [← hS] at hst ⊢
  have HH := Lib.hid h
  have HST := Lib.hid hst
  obtain ⟨m, hme⟩ : ∃ m, m = L.length - st.i := ⟨_, rfl⟩
  obtain ⟨d, hd⟩ : ∃ d, d = c - st.i := ⟨_, rfl⟩
  obtain ⟨q, hq⟩ : ∃ q, q = st.i * 4 := ⟨_, rfl⟩
  obtain ⟨xa, hx⟩ : ∃ x, x = (cur L st).at_ := ⟨_, rfl⟩
  obtain ⟨er, her⟩ : ∃ x, x = st.er := ⟨_, rfl⟩
  rw [← hme] at hm p0
  rw [← hd, ← hq] at p0
  rw [← hq, ← hx] at k3
  rw [← her] at p1
  have hmd : m ≤ d := by have := h.cap; omega
  have HM := Lib.hid hme
  have HD := Lib.hid hd
  have HQ := Lib.hid hq
  have HX := Lib.hid hx
  have HE := Lib.hid her
  clear hme hd hq hx hS hst h her
  by_cases he : er = 0
  · subst he
    have hs2 := HST.out.trans (if_pos HE.out.symm)
    rw [← HX.out] at hs2
    have HS2 := Lib.hid hs2
    clear hs2 HST
    go_enter Tryz.func31, Tryz.ntmps31
    go_wp2_with fail
    have hset1 := heap_setCell_same w gp 1 _ _ (.int .i64 (err : Int)) HH.out.blk
    have hset2 := heap_setCell_same _ gp 2 _ _ (.int .i64 (xa : Int)) hset1
    have hgw2 := (heap_setCell_other (w.setCell ⟨gp, 1, none⟩ (.int .i64 (err : Int))) ⟨gp, 2, none⟩ gw (.int .i64 (xa : Int)) HH.out.ne).trans (heap_setCell_other w ⟨gp, 1, none⟩ gw (.int .i64 (err : Int)) HH.out.ne)
    have hss : ((w.setCell ⟨gp, 1, none⟩ (.int .i64 (err : Int))).setCell ⟨gp, 2, none⟩ (.int .i64 (xa : Int))).heap.size = w.heap.size := by simp
    have hgr := gb_trans (gb_set w gp 1 (.int .i64 (err : Int))) (gb_set _ gp 2 (.int .i64 (xa : Int)))
    generalize (w.setCell ⟨gp, 1, none⟩ (.int .i64 (err : Int))).setCell ⟨gp, 2, none⟩ (.int .i64 (xa : Int)) = w1 at hset2 hgw2 hss hgr ⊢
    have c0 : w1.cell? ⟨gp, 0, none⟩ = some (.slice (some ⟨gw, q, none⟩) m d) := by
      rw [HM.out, HD.out, HQ.out]
      simp only [World.cell?, hset2]
      rfl
    have g0 := frozen_of_row w1 gp 0 _ _ hset2
    have ksl := slice_words gw q m d (m - 1) (by omega) hmd
    have kw : IntKind.i64.wrap ((m : Int) - 1) = ((m - 1 : Nat) : Int) := by
      rw [IntKind.wrap_i64]
      have := HM.out; have := HH.out.max_; have := HH.out.cap
      unfold maxLen at *
      omega
    have HW := Lib.hid hset2
    have HGW := Lib.hid hgw2
    have HSS := Lib.hid hss
    have HGR := Lib.hid hgr
    clear hset1 hset2 hgw2 hss hgr p0 p1 p2 f0 f1 f2 k3
    go_still_tail 12, (by kernel_rfl)
    change wpList _ _ _ _ _ w1.drew
    have c0' : w1.drew.cell? ⟨gp, 0, none⟩ = some (.slice (some ⟨gw, q, none⟩) m d) := c0
    have g0' : w1.drew.frozen? ⟨gp, 0, none⟩ = false := g0
    have HW' : Hid (w1.drew.heap[gp]? = _) := Lib.hid HW.out
    have HGR' := Lib.hid (gb_drew HGR.out)
    have HGW' : Hid (w1.drew.heap[gw]? = w.heap[gw]?) := Lib.hid HGW.out
    have HSS' : Hid (w1.drew.heap.size = w.heap.size) := Lib.hid HSS.out
    clear c0 g0 HW HGR HGW HSS
    generalize w1.drew = w2 at *
    go_wp2_with fail
    have hset3 := heap_setCell_same w2 gp 0 _ _ (.slice (some ⟨gw, q + (m - 1) * 4, none⟩) (m - (m - 1)) (d - (m - 1))) HW'.out
    have hgw3 := (heap_setCell_other w2 ⟨gp, 0, none⟩ gw (.slice (some ⟨gw, q + (m - 1) * 4, none⟩) (m - (m - 1)) (d - (m - 1))) HH.out.ne).trans HGW'.out
    have hss3 : (w2.setCell ⟨gp, 0, none⟩ (.slice (some ⟨gw, q + (m - 1) * 4, none⟩) (m - (m - 1)) (d - (m - 1)))).heap.size = w.heap.size := by simpa using HSS'.out
    go_end0
    refine ⟨rfl, HH.out.put (st' := S) ?_ hgw3 (by rw [hss3]; exact Nat.le_refl _) (by rw [HS2.out]; have := HH.out.lt; show L.length - 1 < L.length; omega), gb_trans HGR'.out (gb_set w2 gp 0 _)⟩
    rw [hset3, HS2.out]
    have e1 := HM.out
    have e2 := HD.out
    have e3 := HQ.out
    have e4 := HH.out.lt
    have e5 : q + (m - 1) * 4 = (L.length - 1) * 4 := by omega
    have e6 : m - (m - 1) = L.length - (L.length - 1) := by omega
    have e7 : d - (m - 1) = c - (L.length - 1) := by omega
    rw [e5, e6, e7]
    unfold parC
    rfl
  · have hs2 : S = st := HST.out.trans (if_neg (by rw [← HE.out]; exact he))
    have HS2 := Lib.hid hs2
    have hb : ((er : Int) != 0) = true := by simp; omega
    clear hs2 HST he
    go_enter Tryz.func31, Tryz.ntmps31
    go_wp2_with fail
    refine bodyPost_ret (v := .tuple #[]) (by simp [results, Tryz.results31, go_sem]) rfl ⟨rfl, ?_, gb_refl _ _⟩
    rw [HS2.out]
    exact HH.out
theorem fail7_any (L : List Wd) (w : World) (gp gw c : Nat) (st : St) (h : Par L w gp gw c st) : Calls Tryz.prog 31 #[.pointer (some ⟨gp, 0, none⟩), .int .i64 7] w (GivesU L gp gw c (failS L 7 st) w) := fail_any L 7 w gp gw c st h
theorem fail2_any (L : List Wd) (w : World) (gp gw c : Nat) (st : St) (h : Par L w gp gw c st) : Calls Tryz.prog 31 #[.pointer (some ⟨gp, 0, none⟩), .int .i64 2] w (GivesU L gp gw c (failS L 2 st) w) := fail_any L 2 w gp gw c st h
set_option maxRecDepth 100000 in
theorem take_any (L : List Wd) (hG : Good L) (s : ByteArray) (w : World) (gp gw c : Nat) (st : St) (h : Par L w gp gw c st) : Calls Tryz.prog 58 #[.pointer (some ⟨gp, 0, none⟩), .string s] w (Gives1 L gp gw c (.bool (takeS L s st).1) (takeS L s st).2 w) := by
  have ki := is_any L s w gp gw c st h
  have kn := next_any L hG w gp gw c st h
  have HH := Lib.hid h
  unfold takeS
  generalize isS L s st = b at *
  clear h
  cases b
  · go_enter Tryz.func58, Tryz.ntmps58
    go_wp2_with fail
    (with_reducible refine ki.mono ?_)
    rintro e w1 ⟨rfl, rfl⟩
    go_wp2_with fail
    go_ret
    exact ⟨rfl, HH.out, gb_refl _ _⟩
  · rw [if_pos rfl]
    obtain ⟨S, hS⟩ : ∃ S, S = nextS L st := ⟨_, rfl⟩
    rw [← hS] at kn ⊢
    clear hS
    go_enter Tryz.func58, Tryz.ntmps58
    go_wp2_with fail
    (with_reducible refine ki.mono ?_)
    rintro e w1 ⟨rfl, rfl⟩
    go_wp2_with fail
    (with_reducible refine kn.mono ?_)
    rintro e w2 ⟨rfl, hp, hg⟩
    have HP := Lib.hid hp
    have HG := Lib.hid hg
    clear hp hg
    go_wp2_with fail
    go_ret
    exact ⟨rfl, HP.out, HG.out⟩
set_option maxRecDepth 100000 in
theorem need_any (L : List Wd) (hG : Good L) (s : ByteArray) (w : World) (gp gw c : Nat) (st : St) (h : Par L w gp gw c st) : Calls Tryz.prog 55 #[.pointer (some ⟨gp, 0, none⟩), .string s] w (GivesU L gp gw c (needS L s st) w) := by
  have kt := take_any L hG s w gp gw c st h
  have kf := fun W (hp : Par L W gp gw c st) => fail7_any L W gp gw c st hp
  unfold takeS at kt
  unfold needS
  obtain ⟨b, hb⟩ : ∃ b, b = isS L s st := ⟨_, rfl⟩
  rw [← hb] at kt ⊢
  have KF := Lib.hid kf
  clear h hb kf
  cases b
  · rw [if_neg (by decide)] at kt ⊢
    obtain ⟨S, hS⟩ : ∃ S, S = failS L 7 st := ⟨_, rfl⟩
    rw [← hS] at KF ⊢
    clear hS
    go_enter Tryz.func55, Tryz.ntmps55
    go_wp2_with fail
    (with_reducible refine kt.mono ?_)
    rintro e w1 ⟨rfl, hp, hg⟩
    have kf1 := KF.out w1 hp
    have HG := Lib.hid hg
    clear hp hg kt
    go_wp2_with fail
    (with_reducible refine kf1.mono ?_)
    rintro e w2 ⟨rfl, hp2, hg2⟩
    have HP2 := Lib.hid hp2
    have HG2 := Lib.hid hg2
    clear hp2 hg2 kf1
    go_wp2_with fail
    go_end0
    exact ⟨rfl, HP2.out, gb_trans HG.out HG2.out⟩
  · rw [if_pos rfl] at kt ⊢
    obtain ⟨S, hS⟩ : ∃ S, S = nextS L st := ⟨_, rfl⟩
    rw [← hS] at kt ⊢
    clear hS
    go_enter Tryz.func55, Tryz.ntmps55
    go_wp2_with fail
    (with_reducible refine kt.mono ?_)
    rintro e w1 ⟨rfl, hp, hg⟩
    have HP := Lib.hid hp
    have HG := Lib.hid hg
    clear hp hg kt
    go_wp2_with fail
    go_end0
    exact ⟨rfl, HP.out, HG.out⟩
theorem field_text (k n a : Int) (s : ByteArray) (W : World) : (Instr.field 77 (.agg #[.int .i64 k, .string s, .int .i64 n, .int .i64 a]) 1).run Tryz.prog W = .ok (.string s) W := by kernel_rfl
theorem field_at (k n a : Int) (s : ByteArray) (W : World) : (Instr.field 77 (.agg #[.int .i64 k, .string s, .int .i64 n, .int .i64 a]) 3).run Tryz.prog W = .ok (.int .i64 a) W := by kernel_rfl
set_option maxRecDepth 100000 in
theorem name_any (L : List Wd) (hG : Good L) (w : World) (gp gw c : Nat) (st : St) (h : Par L w gp gw c st) : Calls Tryz.prog 56 #[.pointer (some ⟨gp, 0, none⟩)] w (Gives1 L gp gw c (.string (nameS L st).1) (nameS L st).2 w) := by
  have ki := isName_any L w gp gw c st h
  have kf := fail7_any L w gp gw c st h
  have kn := fun W st' (hp : Par L W gp gw c st') => next_any L hG W gp gw c st' hp
  have kn0 := next_any L hG w gp gw c st h
  have KN := Lib.hid kn
  unfold nameS
  obtain ⟨b, hb⟩ : ∃ b, b = isNameS L st := ⟨_, rfl⟩
  rw [← hb] at ki ⊢
  clear h hb kn
  cases b
  · rw [if_neg (by decide)]
    obtain ⟨S, hS⟩ : ∃ S, S = failS L 7 st := ⟨_, rfl⟩
    rw [← hS] at kf ⊢
    clear hS kn0
    obtain ⟨x, hx⟩ : ∃ x, x = cur L S := ⟨_, rfl⟩
    obtain ⟨T, hT⟩ : ∃ T, T = nextS L S := ⟨_, rfl⟩
    have kn1 := fun W hp => KN.out W S hp
    rw [← hx, ← hT] at kn1
    rw [← hx, ← hT]
    have KN1 := Lib.hid kn1
    clear hx hT kn1 KN
    obtain ⟨xk, xt, xn, xa⟩ := x
    unfold Wd.cells at KN1
    have kfi := field_text (xk : Int) xn (xa : Int) xt
    go_enter Tryz.func56, Tryz.ntmps56
    go_wp2_with fail
    (with_reducible refine ki.mono ?_)
    rintro e w1 ⟨rfl, rfl⟩
    go_wp2_with fail
    (with_reducible refine kf.mono ?_)
    rintro e w1 ⟨rfl, hp, hg⟩
    have kn2 := KN1.out w1 hp
    have HG := Lib.hid hg
    clear hp hg kf ki
    go_wp2_with fail
    (with_reducible refine kn2.mono ?_)
    rintro e w2 ⟨rfl, hp2, hg2⟩
    have HP2 := Lib.hid hp2
    have HG2 := Lib.hid hg2
    clear hp2 hg2 kn2
    go_wp2_with fail
    go_ret
    exact ⟨rfl, HP2.out, gb_trans HG.out HG2.out⟩
  · rw [if_pos rfl]
    obtain ⟨x, hx⟩ : ∃ x, x = cur L st := ⟨_, rfl⟩
    obtain ⟨T, hT⟩ : ∃ T, T = nextS L st := ⟨_, rfl⟩
    rw [← hx, ← hT] at kn0
    rw [← hx, ← hT]
    clear hx hT KN kf
    obtain ⟨xk, xt, xn, xa⟩ := x
    unfold Wd.cells at kn0
    have kfi := field_text (xk : Int) xn (xa : Int) xt
    go_enter Tryz.func56, Tryz.ntmps56
    go_wp2_with fail
    (with_reducible refine ki.mono ?_)
    rintro e w1 ⟨rfl, rfl⟩
    go_wp2_with fail
    (with_reducible refine kn0.mono ?_)
    rintro e w2 ⟨rfl, hp2, hg2⟩
    have HP2 := Lib.hid hp2
    have HG2 := Lib.hid hg2
    clear hp2 hg2 kn0
    go_wp2_with fail
    go_ret
    exact ⟨rfl, HP2.out, HG2.out⟩
end Go.Proofs.YtjlnihennlkmpaaGreatDoor

namespace Go.Proofs.YtjlnihennlkmpaaGreatDoor
open Go Go.RowKit
theorem Par.setParts {L : List Wd} {w : World} {gp gw c : Nat} {st : St} (h : Par L w gp gw c st) (n : Nat) : Par L (w.setCell ⟨gp, 4, none⟩ (.int .i64 (n : Int))) gp gw c { st with parts := n } :=
  h.put ((heap_setCell_same w gp 4 _ _ (.int .i64 (n : Int)) h.blk).trans rfl) (heap_setCell_other w ⟨gp, 4, none⟩ gw (.int .i64 (n : Int)) h.ne) (by simp) h.lt
theorem Par.setNames {L : List Wd} {w : World} {gp gw c : Nat} {st : St} (h : Par L w gp gw c st) (n : Nat) : Par L (w.setCell ⟨gp, 3, none⟩ (.int .i64 (n : Int))) gp gw c { st with names := n } :=
  h.put ((heap_setCell_same w gp 3 _ _ (.int .i64 (n : Int)) h.blk).trans rfl) (heap_setCell_other w ⟨gp, 3, none⟩ gw (.int .i64 (n : Int)) h.ne) (by simp) h.lt
theorem failS_lt {L : List Wd} {st : St} (err : Nat) (h : st.i < L.length) : (failS L err st).i < L.length := by
  unfold failS
  split
  · show L.length - 1 < L.length
    omega
  · exact h
theorem failS_parts (L : List Wd) (st : St) (err : Nat) : (failS L err st).parts = st.parts := by
  unfold failS; split <;> rfl
def askS (L : List Wd) (depth : Nat) (st : St) : St := if 30 < depth then failS L 2 st else st
set_option maxRecDepth 100000 in
theorem ask_any (L : List Wd) (depth : Nat) (w : World) (gp gw c : Nat) (st : St) (h : Par L w gp gw c st) : Calls Tryz.prog 127 #[.pointer (some ⟨gp, 0, none⟩), .int .i64 (depth : Int)] w (GivesU L gp gw c (askS L depth st) w) := by
  have kf := fail2_any L w gp gw c st h
  have HH := Lib.hid h
  unfold askS
  clear h
  by_cases hd : 30 < depth
  · have d1 : decide ((30 : Int) < (depth : Int)) = true := by simp; omega
    rw [if_pos hd]
    obtain ⟨S, hS⟩ : ∃ S, S = failS L 2 st := ⟨_, rfl⟩
    rw [← hS] at kf ⊢
    clear hS
    go_enter Tryz.func127, Tryz.ntmps127
    go_wp2_with fail
    (with_reducible refine kf.mono ?_)
    rintro e w1 ⟨rfl, hp, hg⟩
    have HP := Lib.hid hp
    have HG := Lib.hid hg
    clear hp hg
    go_wp2_with fail
    go_end0
    exact ⟨rfl, HP.out, HG.out⟩
  · have d1 : decide ((30 : Int) < (depth : Int)) = false := by simp; omega
    rw [if_neg hd]
    go_enter Tryz.func127, Tryz.ntmps127
    go_wp2_with fail
    go_end0
    exact ⟨rfl, HH.out, gb_refl _ _⟩
def partA (L : List Wd) (st : St) : St := if st.parts = 300 then failS L 2 st else st
def partB (L : List Wd) (st : St) : St := { partA L st with parts := (partA L st).parts + 1 }
def partS (L : List Wd) (st : St) : Wd × St := (cur L (partB L st), nextS L (partB L st))
theorem partA_parts (L : List Wd) (st : St) : (partA L st).parts = st.parts := by
  unfold partA; split
  · exact failS_parts L st 2
  · rfl
set_option maxHeartbeats 2000000 in
set_option maxRecDepth 100000 in
theorem part_any (L : List Wd) (hG : Good L) (w : World) (gp gw c : Nat) (st : St) (h : Par L w gp gw c st) (hp : st.parts < 1000000000) : Calls Tryz.prog 111 #[.pointer (some ⟨gp, 0, none⟩)] w (Gives1 L gp gw c (.agg (partS L st).1.cells.toArray) (partS L st).2 w) := by
  have hb1 : Below w.heap.size w (w.alloc (.cells #[.int .i64 0, .string ⟨#[]⟩, .int .i64 0, .int .i64 0] 77)) := (Below.refl _ _).alloc (Nat.le_refl _) _
  have hn1 := heap_alloc_new w (.cells #[.int .i64 0, .string ⟨#[]⟩, .int .i64 0, .int .i64 0] 77)
  have h1 := h.below hb1
  have hgp := h.gpl
  have HGW := Lib.hid h.gwl
  have hs1 : w.heap.size < (w.alloc (.cells #[.int .i64 0, .string ⟨#[]⟩, .int .i64 0, .int .i64 0] 77)).heap.size := by simp
  obtain ⟨_, _, _, _, p4⟩ := h1.cells
  have kf := fail2_any L _ gp gw c st h1
  have hA : partA L st = if st.parts = 300 then failS L 2 st else st := rfl
  have hAp := partA_parts L st
  have fin : ∀ W, Par L W gp gw c (partA L st) → w.grownBy W (some gp) → W.heap[w.heap.size]? = some (.cells #[.int .i64 0, .string ⟨#[]⟩, .int .i64 0, .int .i64 0] 77 (0, 0)) →
      W.cell? ⟨gp, 4, none⟩ = some (.int .i64 (st.parts : Int)) ∧ W.frozen? ⟨gp, 4, none⟩ = false ∧ Calls Tryz.prog 73 #[.pointer (some ⟨gp, 0, none⟩)] (W.setCell ⟨gp, 4, none⟩ (.int .i64 ((st.parts : Int) + 1))) fun e w' => e = .returned (.agg (partS L st).1.cells.toArray) ∧ Par L w' gp gw c (partS L st).2 ∧ w.grownBy w' (some gp) ∧ w'.heap[w.heap.size]? = some (.cells #[.int .i64 0, .string ⟨#[]⟩, .int .i64 0, .int .i64 0] 77 (0, 0)) := fun W hP hg hr => by
    obtain ⟨_, _, _, _, q4⟩ := hP.cells
    rw [hAp] at q4
    refine ⟨q4, hP.frozen 4, ?_⟩
    have hset := hP.setParts (st.parts + 1)
    have e1 : ((st.parts + 1 : Nat) : Int) = (st.parts : Int) + 1 := by omega
    rw [e1] at hset
    have e2 : ({ partA L st with parts := st.parts + 1 } : St) = partB L st := by unfold partB; rw [hAp]
    rw [e2] at hset
    refine (next_any L hG _ gp gw c (partB L st) hset).mono ?_
    rintro e w' ⟨he, hp', hg'⟩
    have hne : (w.heap.size : Nat) ≠ gp := by omega
    have hr2 : (W.setCell ⟨gp, 4, none⟩ (.int .i64 ((st.parts : Int) + 1))).heap[w.heap.size]? = some (.cells #[.int .i64 0, .string ⟨#[]⟩, .int .i64 0, .int .i64 0] 77 (0, 0)) := (heap_setCell_other W ⟨gp, 4, none⟩ w.heap.size _ hne).trans hr
    exact ⟨he, hp', gb_trans hg (gb_trans (gb_set W gp 4 _) hg'), (hg'.block _ (Array.getElem?_eq_some_iff.1 hr2).1 (by intro e; injection e with e; exact hne e)).trans hr2⟩
  have HFIN := Lib.hid fin
  have HSW := Lib.hid size_word2
  have HN1 := Lib.hid hn1
  have HB1 := Lib.hid hb1
  have HH1 := Lib.hid h1
  have HA := Lib.hid hA
  obtain ⟨x, hx⟩ : ∃ x, x = (partS L st).1 := ⟨_, rfl⟩
  obtain ⟨S, hS⟩ : ∃ S, S = (partS L st).2 := ⟨_, rfl⟩
  rw [← hx, ← hS] at HFIN ⊢
  clear hx hS fin hA hAp h hn1 hb1 h1
  obtain ⟨xk, xt, xn, xa⟩ := x
  unfold Wd.cells at HFIN ⊢
  simp only at HFIN ⊢
  obtain ⟨n, hn⟩ : ∃ n, n = st.parts := ⟨_, rfl⟩
  rw [← hn] at HFIN HA p4 hp
  have HNN := Lib.hid hn
  clear hn
  by_cases h300 : n = 300
  · have hb : ((n : Int) == 300) = true := by simp; omega
    have hA2 := HA.out
    rw [if_pos h300] at hA2
    rw [← hA2] at kf
    clear hA2 h300
    go_enter Tryz.func111, Tryz.ntmps111
    go_wp2_with fail
    (with_reducible refine kf.mono ?_)
    rintro e w1 ⟨rfl, hp1, hg1⟩
    have hr1 := (hg1.block w.heap.size hs1 (by intro e; injection e with e; omega)).trans HN1.out
    obtain ⟨q4, qf, kn⟩ := HFIN.out w1 hp1 (gb_trans (gb_below HB1.out) hg1) hr1
    have hgp1 := hp1.gpl
    clear hp1 hg1 hr1 p4 kf
    go_wp2_with fail
    (with_reducible refine kn.mono ?_)
    rintro e w2 ⟨rfl, hp2, hg2, hr2⟩
    have HP2 := Lib.hid hp2
    have HG2 := Lib.hid hg2
    have HR2 := Lib.hid hr2
    clear hp2 hg2 hr2 kn
    go_wp2_with (refine wpList_store_row rfl 77 (.tmp 2) (.tmp 18) rfl w.heap.size #[.int .i64 (xk : Int), .string xt, .int .i64 xn, .int .i64 (xa : Int)] rfl rfl 77 _ HR2.out HSW.out rfl (word_one2 _ _ _ _) ?_)
    have hset := setRow_heap w2 w.heap.size _ #[.int .i64 (xk : Int), .string xt, .int .i64 xn, .int .i64 (xa : Int)] _ _ HR2.out
    have hgg : w.grownBy (w2.setRow w.heap.size #[.int .i64 (xk : Int), .string xt, .int .i64 xn, .int .i64 (xa : Int)]) (some gp) := ⟨HG2.out.os, HG2.out.tape, HG2.out.output, by rw [setRow_size]; exact HG2.out.size, fun k hk hr => (setRow_other w2 w.heap.size k _ (by omega)).trans (HG2.out.block k hk hr)⟩
    refine bodyPost_ret (v := .agg #[.int .i64 (xk : Int), .string xt, .int .i64 xn, .int .i64 (xa : Int)]) (results_cell_row (p := 2) (ty := 77) rfl _ _ w.heap.size 77 _ (0, 0) _ rfl hset Tryz.underlying77 rfl HSW.out) rfl ⟨rfl, HP2.out.keep (setRow_other w2 w.heap.size gp _ (by omega)) (setRow_other w2 w.heap.size gw _ ?_) (by rw [setRow_size]; exact Nat.le_refl _), hgg⟩
    have := HH1.out.ne
    have := HGW.out
    omega
  · have hb : ((n : Int) == 300) = false := by simp; omega
    have hA2 := HA.out
    rw [if_neg h300] at hA2
    have hp1 := HH1.out
    rw [← hA2] at hp1
    obtain ⟨q4, qf, kn⟩ := HFIN.out _ hp1 (gb_below HB1.out) HN1.out
    clear hA2 h300 hp1 kf p4
    rw [World.setCell_alloc_past (hn := hgp)] at kn
    go_enter Tryz.func111, Tryz.ntmps111
    go_wp2_with fail
    (with_reducible refine kn.mono ?_)
    rintro e w2 ⟨rfl, hp2, hg2, hr2⟩
    have HP2 := Lib.hid hp2
    have HG2 := Lib.hid hg2
    have HR2 := Lib.hid hr2
    clear hp2 hg2 hr2 kn
    go_wp2_with (refine wpList_store_row rfl 77 (.tmp 2) (.tmp 18) rfl w.heap.size #[.int .i64 (xk : Int), .string xt, .int .i64 xn, .int .i64 (xa : Int)] rfl rfl 77 _ HR2.out HSW.out rfl (word_one2 _ _ _ _) ?_)
    have hset := setRow_heap w2 w.heap.size _ #[.int .i64 (xk : Int), .string xt, .int .i64 xn, .int .i64 (xa : Int)] _ _ HR2.out
    have hgg : w.grownBy (w2.setRow w.heap.size #[.int .i64 (xk : Int), .string xt, .int .i64 xn, .int .i64 (xa : Int)]) (some gp) := ⟨HG2.out.os, HG2.out.tape, HG2.out.output, by rw [setRow_size]; exact HG2.out.size, fun k hk hr => (setRow_other w2 w.heap.size k _ (by omega)).trans (HG2.out.block k hk hr)⟩
    refine bodyPost_ret (v := .agg #[.int .i64 (xk : Int), .string xt, .int .i64 xn, .int .i64 (xa : Int)]) (results_cell_row (p := 2) (ty := 77) rfl _ _ w.heap.size 77 _ (0, 0) _ rfl hset Tryz.underlying77 rfl HSW.out) rfl ⟨rfl, HP2.out.keep (setRow_other w2 w.heap.size gp _ (by omega)) (setRow_other w2 w.heap.size gw _ ?_) (by rw [setRow_size]; exact Nat.le_refl _), hgg⟩
    have := HH1.out.ne
    have := HGW.out
    omega
end Go.Proofs.YtjlnihennlkmpaaGreatDoor

namespace Go.Proofs
open Go.Shelf
def Tryz.lays110_ren : Go.Shelf.Ren := ⟨fun | 110 => 110 | 109 => 120 | n => n, fun | 31 => 104 | 9 => 9 | 4 => 4 | 3 => 3 | 0 => 0 | n => n, fun | n => n⟩
theorem Tryz.lays110 : Go.Proofs.Lays.n110 Tryz.prog Tryz.lays110_ren := {
  mixed := by kernel_rfl
  f109 := Tryz.func120.trans (congrArg some (by kernel_rfl))
  f110 := Tryz.func110.trans (congrArg some (by kernel_rfl))
  t0 := Tryz.underlying0
  a0 := Tryz.isAgg0
  z0 := Tryz.sizeOf0
  v0 := Tryz.zeroValue0
  t3 := Tryz.underlying3
  a3 := Tryz.isAgg3
  z3 := Tryz.sizeOf3
  v3 := Tryz.zeroValue3
  t4 := Tryz.underlying4
  a4 := Tryz.isAgg4
  z4 := Tryz.sizeOf4
  v4 := Tryz.zeroValue4
  t9 := Tryz.underlying9
  a9 := Tryz.isAgg9
  z9 := Tryz.sizeOf9
  v9 := Tryz.zeroValue9
  t31 := Tryz.underlying104
  a31 := Tryz.isAgg104
  z31 := Tryz.sizeOf104
  v31 := Tryz.zeroValue104 }
open Go.Lib in
theorem Tryz.slices_Contains_string (b off n c : Nat) (zs : List ByteArray) (x : ByteArray) (w : World) (hz : n ≤ zs.length) (hbig : n ≤ 9223372036854775807) (hc : ∀ j, j < zs.length → w.cell? ⟨b, off + j, none⟩ = some (.string (zs.getD j ByteArray.empty))) :
    Calls Tryz.prog 110 #[.slice (some ⟨b, off, none⟩) n c, .string x] w fun e w' => e = .returned (.bool (Lib.containsS (zs.take n) x)) ∧ w' = w := Any.slices_Contains_string Tryz.lays110 b off n c zs x w hz hbig hc
end Go.Proofs

namespace Go.Proofs.YtjlnihennlkmpaaGreatDoor
open Go Go.RowKit
theorem results_cell_tmp {P : Program} {fn : Func} {q p : Tmp} {ty : TypeId} (h : fn.results = #[.cell p ty, .tmp q]) (tmps : Array Value) (w : World) (g : Nat) (t : TypeId) (cs : Array Value) (fr : Nat × Nat) (d : TypeDesc)
    (hp : tmps.getD p undef = .pointer (some ⟨g, 0, none⟩)) (hg : w.heap[g]? = some (.cells cs t fr))
    (hu : P.underlying ty = some d) (hd : (match d with | .struct _ | .array _ _ => true | _ => false) = true) (hi : (P.info? ty).map (·.size) = some cs.size) :
    (results fn tmps).run P w = .ok (.tuple #[.agg cs, tmps.getD q undef]) w := by
  have hp' : tmps[p]?.getD undef = .pointer (some ⟨g, 0, none⟩) := by simpa using hp
  simp [results, h, hp', asAddr, run_loadVar_row w g t ty cs fr d hg hu hd hi]
/-- The texts that a list of strings in memory holds. -/
def StrsAt (w : World) (b o : Nat) (zs : List ByteArray) : Prop := ∀ j, j < zs.length → w.cell? ⟨b, o + j, none⟩ = some (.string (zs.getD j ByteArray.empty))
def hasS (L : List Wd) (ops : List ByteArray) (st : St) : Bool := ops.any fun o => o.data.toList == (cur L st).text.data.toList
theorem hasS_eq (L : List Wd) (ops : List ByteArray) (st : St) : hasS L ops st = Lib.containsS ops (cur L st).text := by
  unfold hasS
  rw [Bool.eq_iff_iff, Lib.containsS_iff, List.any_eq_true]
  constructor
  · rintro ⟨o, ho, he⟩
    rw [beq_iff_eq] at he
    rwa [← bytes_inj he]
  · intro h
    exact ⟨_, h, by simp⟩
def betweenS (L : List Wd) (ops : List ByteArray) (st : St) : Wd × Bool × St := if hasS L ops st = true then ((partS L st).1, true, (partS L st).2) else (noWd, false, st)
def GivesB (L : List Wd) (gp gw c : Nat) (x : Wd) (b : Bool) (st' : St) (w : World) (e : Ending) (w' : World) : Prop := e = .returned (.tuple #[.agg x.cells.toArray, .bool b]) ∧ Par L w' gp gw c st' ∧ w.grownBy w' (some gp)
set_option maxHeartbeats 2000000 in
set_option maxRecDepth 100000 in
theorem between_any (L : List Wd) (hG : Good L) (w : World) (gp gw c : Nat) (st : St) (h : Par L w gp gw c st) (hp : st.parts < 1000000000) (b o cp : Nat) (ops : List ByteArray) (hb : b < w.heap.size) (hs : StrsAt w b o ops) (hn : ops.length < 1000) :
    Calls Tryz.prog 91 #[.pointer (some ⟨gp, 0, none⟩), .slice (some ⟨b, o, none⟩) ops.length cp] w (GivesB L gp gw c (betweenS L ops st).1 (betweenS L ops st).2.1 (betweenS L ops st).2.2 w) := by
  have hb1 : Below w.heap.size w (w.alloc (.cells #[.int .i64 0, .string ⟨#[]⟩, .int .i64 0, .int .i64 0] 77)) := (Below.refl _ _).alloc (Nat.le_refl _) _
  have hn1 := heap_alloc_new w (.cells #[.int .i64 0, .string ⟨#[]⟩, .int .i64 0, .int .i64 0] 77)
  have h1 := h.below hb1
  have hgp := h.gpl
  have hgw := h.gwl
  have hs1 : w.heap.size < (w.alloc (.cells #[.int .i64 0, .string ⟨#[]⟩, .int .i64 0, .int .i64 0] 77)).heap.size := by simp
  obtain ⟨p0, _, _, _, _⟩ := h1.cells
  obtain ⟨_, k1, _, _⟩ := h1.cur_cell
  have hm : 0 < L.length - st.i := by have := h.lt; omega
  have kc := Tryz.slices_Contains_string b o ops.length cp ops (cur L st).text (w.alloc (.cells #[.int .i64 0, .string ⟨#[]⟩, .int .i64 0, .int .i64 0] 77)) (Nat.le_refl _) (by omega) (fun j hj => (hb1.cell (p := ⟨b, o + j, none⟩) hb).trans (hs j hj))
  rw [List.take_of_length_le (Nat.le_refl _)] at kc
  have kp := part_any L hG _ gp gw c st h1 hp
  unfold betweenS
  rw [hasS_eq]
  obtain ⟨B, hB⟩ : ∃ B, B = Lib.containsS ops (cur L st).text := ⟨_, rfl⟩
  rw [← hB] at kc ⊢
  obtain ⟨t, ht⟩ : ∃ t, t = (cur L st).text := ⟨_, rfl⟩
  obtain ⟨m, hme⟩ : ∃ m, m = L.length - st.i := ⟨_, rfl⟩
  obtain ⟨d, hd⟩ : ∃ d, d = c - st.i := ⟨_, rfl⟩
  obtain ⟨q, hq⟩ : ∃ q, q = st.i * 4 := ⟨_, rfl⟩
  obtain ⟨n, hnn⟩ : ∃ n, n = ops.length := ⟨_, rfl⟩
  rw [← ht] at kc
  rw [← hme] at hm p0
  rw [← hd, ← hq] at p0
  rw [← hq, ← ht] at k1
  rw [← hnn] at kc ⊢
  have HH1 := Lib.hid h1
  have HB1 := Lib.hid hb1
  have HN1 := Lib.hid hn1
  have HSW := Lib.hid size_word2
  clear hB ht hme hd hq h h1 hs hb hb1 hnn hn
  cases B
  · rw [if_neg (by decide)]
    clear kp
    go_enter Tryz.func91, Tryz.ntmps91
    go_wp2_with fail
    (with_reducible refine kc.mono ?_)
    rintro e w1 ⟨rfl, rfl⟩
    go_wp2_with fail
    refine bodyPost_ret (v := .tuple #[.agg #[.int .i64 0, .string ⟨#[]⟩, .int .i64 0, .int .i64 0], .bool false]) (results_cell_tmp (q := 5) (p := 4) (ty := 77) rfl _ _ w.heap.size 77 _ (0, 0) _ rfl HN1.out Tryz.underlying77 rfl HSW.out) rfl ⟨rfl, HH1.out, gb_below HB1.out⟩
  · rw [if_pos rfl]
    obtain ⟨x, hx⟩ : ∃ x, x = (partS L st).1 := ⟨_, rfl⟩
    obtain ⟨S, hS⟩ : ∃ S, S = (partS L st).2 := ⟨_, rfl⟩
    rw [← hx, ← hS] at kp ⊢
    clear hx hS
    obtain ⟨xk, xt, xn, xa⟩ := x
    unfold Wd.cells at kp
    simp only at kp ⊢
    go_enter Tryz.func91, Tryz.ntmps91
    go_wp2_with fail
    (with_reducible refine kc.mono ?_)
    rintro e w1 ⟨rfl, rfl⟩
    go_wp2_with fail
    (with_reducible refine kp.mono ?_)
    rintro e w2 ⟨rfl, hp2, hg2⟩
    have hr2 := (hg2.block w.heap.size hs1 (by intro e; injection e with e; omega)).trans HN1.out
    have HP2 := Lib.hid hp2
    have HG2 := Lib.hid (gb_trans (gb_below HB1.out) hg2)
    have HR2 := Lib.hid hr2
    clear hp2 hg2 hr2 kp kc
    go_wp2_with (refine wpList_store_row rfl 77 (.tmp 4) (.tmp 18) rfl w.heap.size #[.int .i64 (xk : Int), .string xt, .int .i64 xn, .int .i64 (xa : Int)] rfl rfl 77 _ HR2.out HSW.out rfl (word_one2 _ _ _ _) ?_)
    have hset := setRow_heap w2 w.heap.size _ #[.int .i64 (xk : Int), .string xt, .int .i64 xn, .int .i64 (xa : Int)] _ _ HR2.out
    have hgg : w.grownBy (w2.setRow w.heap.size #[.int .i64 (xk : Int), .string xt, .int .i64 xn, .int .i64 (xa : Int)]) (some gp) := ⟨HG2.out.os, HG2.out.tape, HG2.out.output, by rw [setRow_size]; exact HG2.out.size, fun k hk hr => (setRow_other w2 w.heap.size k _ (by omega)).trans (HG2.out.block k hk hr)⟩
    refine bodyPost_ret (v := .tuple #[.agg #[.int .i64 (xk : Int), .string xt, .int .i64 xn, .int .i64 (xa : Int)], .bool true]) (results_cell_tmp (q := 5) (p := 4) (ty := 77) rfl _ _ w.heap.size 77 _ (0, 0) _ rfl hset Tryz.underlying77 rfl HSW.out) rfl ⟨rfl, HP2.out.keep (setRow_other w2 w.heap.size gp _ (by omega)) (setRow_other w2 w.heap.size gw _ (by omega)) (by rw [setRow_size]; exact Nat.le_refl _), hgg⟩
end Go.Proofs.YtjlnihennlkmpaaGreatDoor

namespace Go.Proofs.YtjlnihennlkmpaaGreatDoor
open Go Go.RowKit
/-- An expression. -/
inductive Ex where
  | mk (op name : ByteArray) (n : Int) (at_ : Nat) (kids : List Ex) : Ex
mutual
/-- An expression's five cells, and what its kids' slice leads to: all blocks from B on. -/
def IsE (B : Nat) (w : World) (o m : ByteArray) (n a : Int) (x : Option Addr) (l c : Nat) : Ex → Prop
  | .mk op name n' at_ kids => o = op ∧ m = name ∧ n = n' ∧ a = (at_ : Int) ∧ l = kids.length ∧ (0 < l → ∃ g, x = some ⟨g, 0, none⟩ ∧ B ≤ g ∧ g < w.heap.size ∧ IsL B w g 0 kids)
/-- A row of them in block g, from number i on. -/
def IsL (B : Nat) (w : World) (g : Nat) (i : Nat) : List Ex → Prop
  | [] => True
  | e :: r => (∃ o m n a x l c, w.cell? ⟨g, i * 5, none⟩ = some (.string o) ∧ w.cell? ⟨g, i * 5 + 1, none⟩ = some (.string m) ∧ w.cell? ⟨g, i * 5 + 2, none⟩ = some (.int .i64 n) ∧ w.cell? ⟨g, i * 5 + 3, none⟩ = some (.int .i64 a) ∧ w.cell? ⟨g, i * 5 + 4, none⟩ = some (.slice x l c) ∧ IsE B w o m n a x l c e) ∧ IsL B w g (i + 1) r
end
mutual
theorem IsE.keep {B : Nat} {w w' : World} (hs : w.heap.size ≤ w'.heap.size) (hb : ∀ k, B ≤ k → k < w.heap.size → w'.heap[k]? = w.heap[k]?) {o m : ByteArray} {n a : Int} {x : Option Addr} {l c : Nat} : ∀ (e : Ex), IsE B w o m n a x l c e → IsE B w' o m n a x l c e
  | .mk op name n' at_ kids, h => by
    unfold IsE at h ⊢
    obtain ⟨h1, h2, h3, h4, h5, h6⟩ := h
    refine ⟨h1, h2, h3, h4, h5, fun hl => ?_⟩
    obtain ⟨g, e1, e2, e3, e4⟩ := h6 hl
    exact ⟨g, e1, e2, Nat.lt_of_lt_of_le e3 hs, IsL.keep hs hb e2 e3 kids 0 e4⟩
theorem IsL.keep {B : Nat} {w w' : World} (hs : w.heap.size ≤ w'.heap.size) (hb : ∀ k, B ≤ k → k < w.heap.size → w'.heap[k]? = w.heap[k]?) {g : Nat} (hB : B ≤ g) (hg : g < w.heap.size) : ∀ (l : List Ex) (i : Nat), IsL B w g i l → IsL B w' g i l
  | [], _, _ => by unfold IsL; trivial
  | e :: r, i, h => by
    unfold IsL at h ⊢
    obtain ⟨⟨o, m, n, a, x, l, c, c0, c1, c2, c3, c4, he⟩, hr⟩ := h
    have hc : ∀ j v, w.cell? ⟨g, j, none⟩ = some v → w'.cell? ⟨g, j, none⟩ = some v := fun j v h => by
      simp only [World.cell?] at h ⊢
      rw [hb g hB hg]; exact h
    exact ⟨⟨o, m, n, a, x, l, c, hc _ _ c0, hc _ _ c1, hc _ _ c2, hc _ _ c3, hc _ _ c4, IsE.keep hs hb e he⟩, IsL.keep hs hb hB hg r (i + 1) hr⟩
end
theorem IsE.grown {B gp : Nat} {w w' : World} (hg : w.grownBy w' (some gp)) (hB : gp < B) {o m : ByteArray} {n a : Int} {x : Option Addr} {l c : Nat} {e : Ex} (h : IsE B w o m n a x l c e) : IsE B w' o m n a x l c e :=
  h.keep hg.size (fun k hk hl => hg.block k hl (by intro e; injection e with e; omega)) e
theorem IsE.below {B : Nat} {w w' : World} (hb : Below w.heap.size w w') {o m : ByteArray} {n a : Int} {x : Option Addr} {l c : Nat} {e : Ex} (h : IsE B w o m n a x l c e) : IsE B w' o m n a x l c e :=
  h.keep hb.size (fun k _ hl => hb.block k hl) e
/-- An expression's value. -/
def exV (o m : ByteArray) (n a : Int) (x : Option Addr) (l c : Nat) : Value := .agg #[.string o, .string m, .int .i64 n, .int .i64 a, .slice x l c]
/-- A call hands back an expression. -/
def GivesE (B : Nat) (t : Ex) (w : World) (e : Ending) (w' : World) : Prop := ∃ o m n a x l c, e = .returned (exV o m n a x l c) ∧ IsE B w' o m n a x l c t ∧ Below w.heap.size w w'
theorem size_expr : (Tryz.prog.info? 54).map (·.size) = some 5 := by kernel_rfl
set_option maxHeartbeats 4000000 in
set_option maxRecDepth 100000 in
theorem two_any (B : Nat) (x : Wd) (e1 e2 : Ex) (w : World) (hB : B ≤ w.heap.size) (o1 m1 : ByteArray) (n1 a1 : Int) (x1 : Option Addr) (l1 c1 : Nat) (o2 m2 : ByteArray) (n2 a2 : Int) (x2 : Option Addr) (l2 c2 : Nat)
    (h1 : IsE B w o1 m1 n1 a1 x1 l1 c1 e1) (h2 : IsE B w o2 m2 n2 a2 x2 l2 c2 e2) :
    Calls Tryz.prog 92 #[.agg x.cells.toArray, exV o1 m1 n1 a1 x1 l1 c1, exV o2 m2 n2 a2 x2 l2 c2] w (GivesE B (.mk x.text ⟨#[]⟩ 0 x.at_ [e1, e2]) w) := by
  obtain ⟨xk, xt, xn, xa⟩ := x
  unfold Wd.cells exV
  simp only
  have H1 := Lib.hid h1
  have H2 := Lib.hid h2
  have HSE := Lib.hid size_expr
  clear h1 h2
  go_enter Tryz.func92, Tryz.ntmps92
  go_wp2_with fail
  obtain ⟨w3, hw3⟩ : ∃ w3, w3 = ((w.alloc (.cells #[.int .i64 (xk : Int), .string xt, .int .i64 xn, .int .i64 (xa : Int)] 77)).alloc (.cells #[.string o1, .string m1, .int .i64 n1, .int .i64 a1, .slice x1 l1 c1] 54)).alloc (.cells #[.string o2, .string m2, .int .i64 n2, .int .i64 a2, .slice x2 l2 c2] 54) := ⟨_, rfl⟩
  have hs3 : w3.heap.size = w.heap.size + 1 + 1 + 1 := by rw [hw3]; simp
  have hb3 : Below w.heap.size w w3 := by
    rw [hw3]
    exact (((Below.refl _ _).alloc (Nat.le_refl _) _).alloc (by simp) _).alloc (by simp; omega) _
  rw [← hw3]
  clear hw3
  obtain ⟨w4, hw4⟩ : ∃ w4, w4 = w3.alloc (.cells #[.string xt, .string ⟨#[]⟩, .int .i64 0, .int .i64 (xa : Int), .slice (some ⟨w.heap.size + 1 + 1 + 1 + 1, 0, none⟩) 2 2] 54) := ⟨_, rfl⟩
  have hs4 : w4.heap.size = w.heap.size + 1 + 1 + 1 + 1 := by rw [hw4]; simp [hs3]
  have hb4 : Below w.heap.size w w4 := by rw [hw4]; exact hb3.alloc hb3.size _
  have hr4 : w4.heap[w.heap.size + 1 + 1 + 1]? = some (.cells #[.string xt, .string ⟨#[]⟩, .int .i64 0, .int .i64 (xa : Int), .slice (some ⟨w.heap.size + 1 + 1 + 1 + 1, 0, none⟩) 2 2] 54 (0, 0)) := by rw [hw4, ← hs3]; exact heap_alloc_new w3 _
  rw [← hw4]
  clear hw4
  have hb5 : Below w.heap.size w (w4.alloc (.cells #[.string o1, .string m1, .int .i64 n1, .int .i64 a1, .slice x1 l1 c1, .string o2, .string m2, .int .i64 n2, .int .i64 a2, .slice x2 l2 c2] 54)) := hb4.alloc hb4.size _
  have hr5 : (w4.alloc (.cells #[.string o1, .string m1, .int .i64 n1, .int .i64 a1, .slice x1 l1 c1, .string o2, .string m2, .int .i64 n2, .int .i64 a2, .slice x2 l2 c2] 54)).heap[w.heap.size + 1 + 1 + 1]? = some (.cells #[.string xt, .string ⟨#[]⟩, .int .i64 0, .int .i64 (xa : Int), .slice (some ⟨w.heap.size + 1 + 1 + 1 + 1, 0, none⟩) 2 2] 54 (0, 0)) := by
    rw [Below.heap_alloc _ _ _ (by rw [hs4]; omega)]; exact hr4
  have hk5 : (w4.alloc (.cells #[.string o1, .string m1, .int .i64 n1, .int .i64 a1, .slice x1 l1 c1, .string o2, .string m2, .int .i64 n2, .int .i64 a2, .slice x2 l2 c2] 54)).heap[w.heap.size + 1 + 1 + 1 + 1]? = some (.cells #[.string o1, .string m1, .int .i64 n1, .int .i64 a1, .slice x1 l1 c1, .string o2, .string m2, .int .i64 n2, .int .i64 a2, .slice x2 l2 c2] 54 (0, 0)) := by rw [← hs4]; exact heap_alloc_new w4 _
  have hs5 : (w4.alloc (.cells #[.string o1, .string m1, .int .i64 n1, .int .i64 a1, .slice x1 l1 c1, .string o2, .string m2, .int .i64 n2, .int .i64 a2, .slice x2 l2 c2] 54)).heap.size = w.heap.size + 1 + 1 + 1 + 1 + 1 := by simp [hs4]
  generalize w4.alloc (.cells #[.string o1, .string m1, .int .i64 n1, .int .i64 a1, .slice x1 l1 c1, .string o2, .string m2, .int .i64 n2, .int .i64 a2, .slice x2 l2 c2] 54) = w5 at hb5 hr5 hk5 hs5 ⊢
  have hcell : ∀ (j : Nat) (v : Value), (#[.string o1, .string m1, .int .i64 n1, .int .i64 a1, .slice x1 l1 c1, .string o2, .string m2, .int .i64 n2, .int .i64 a2, .slice x2 l2 c2] : Array Value)[j]? = some v → w5.cell? ⟨w.heap.size + 1 + 1 + 1 + 1, j, none⟩ = some v := fun j v hv => by
    simp only [World.cell?, hk5]
    exact hv
  refine bodyPost_ret (v := .agg #[.string xt, .string ⟨#[]⟩, .int .i64 0, .int .i64 (xa : Int), .slice (some ⟨w.heap.size + 1 + 1 + 1 + 1, 0, none⟩) 2 2]) (results_cell_row (p := 6) (ty := 54) rfl _ _ (w.heap.size + 1 + 1 + 1) 54 _ (0, 0) _ rfl hr5 Tryz.underlying54 rfl HSE.out) rfl ⟨xt, ⟨#[]⟩, 0, (xa : Int), _, 2, 2, rfl, ?_, hb5⟩
  unfold IsE
  refine ⟨rfl, rfl, rfl, rfl, rfl, fun _ => ⟨_, rfl, by omega, by rw [hs5]; omega, ?_⟩⟩
  unfold IsL
  refine ⟨⟨o1, m1, n1, a1, x1, l1, c1, hcell 0 _ rfl, hcell 1 _ rfl, hcell 2 _ rfl, hcell 3 _ rfl, hcell 4 _ rfl, H1.out.below hb5⟩, ?_⟩
  unfold IsL
  refine ⟨⟨o2, m2, n2, a2, x2, l2, c2, hcell 5 _ rfl, hcell 6 _ rfl, hcell 7 _ rfl, hcell 8 _ rfl, hcell 9 _ rfl, H2.out.below hb5⟩, ?_⟩
  unfold IsL
  trivial
end Go.Proofs.YtjlnihennlkmpaaGreatDoor

namespace Go.Proofs.YtjlnihennlkmpaaGreatDoor
open Go Go.RowKit
def sBool : ByteArray := ⟨#[98, 111, 111, 108]⟩
def sInt : ByteArray := ⟨#[105, 110, 116]⟩
/-- kind, as a plain function: 1 a bool, 2 an int, 0 and a fault if neither stands there. -/
def kindS (L : List Wd) (st : St) : Nat × St := if isS L sBool st = true then (1, nextS L st) else if isS L sInt st = true then (2, nextS L st) else (0, failS L 7 st)
set_option maxRecDepth 100000 in
theorem kind_any (L : List Wd) (hG : Good L) (w : World) (gp gw c : Nat) (st : St) (h : Par L w gp gw c st) : Calls Tryz.prog 89 #[.pointer (some ⟨gp, 0, none⟩)] w (Gives1 L gp gw c (.int .i64 ((kindS L st).1 : Int)) (kindS L st).2 w) := by
  have kb : Calls Tryz.prog 58 #[.pointer (some ⟨gp, 0, none⟩), .string ⟨#[98, 111, 111, 108]⟩] w (Gives1 L gp gw c (.bool (takeS L sBool st).1) (takeS L sBool st).2 w) := take_any L hG sBool w gp gw c st h
  have ki : ∀ W, Par L W gp gw c st → Calls Tryz.prog 58 #[.pointer (some ⟨gp, 0, none⟩), .string ⟨#[105, 110, 116]⟩] W (Gives1 L gp gw c (.bool (takeS L sInt st).1) (takeS L sInt st).2 W) := fun W hp => take_any L hG sInt W gp gw c st hp
  have kf := fun W (hp : Par L W gp gw c st) => fail7_any L W gp gw c st hp
  unfold takeS at kb ki
  unfold kindS
  obtain ⟨b, hb⟩ : ∃ b, b = isS L sBool st := ⟨_, rfl⟩
  obtain ⟨i, hi⟩ : ∃ i, i = isS L sInt st := ⟨_, rfl⟩
  obtain ⟨N, hN⟩ : ∃ N, N = nextS L st := ⟨_, rfl⟩
  obtain ⟨F, hF⟩ : ∃ F, F = failS L 7 st := ⟨_, rfl⟩
  rw [← hb, ← hN] at kb
  rw [← hi, ← hN] at ki
  rw [← hF] at kf
  rw [← hb, ← hi, ← hN, ← hF]
  have KI := Lib.hid ki
  have KF := Lib.hid kf
  clear hb hi hN hF h ki kf
  cases b
  · rw [if_neg (by decide)] at kb ⊢
    cases i
    · rw [if_neg (by decide)] at KI ⊢
      go_enter Tryz.func89, Tryz.ntmps89
      go_wp2_with fail
      (with_reducible refine kb.mono ?_)
      rintro e w1 ⟨rfl, hp, hg⟩
      have ki1 := KI.out w1 hp
      have HG := Lib.hid hg
      clear hp hg kb
      go_wp2_with fail
      (with_reducible refine ki1.mono ?_)
      rintro e w2 ⟨rfl, hp2, hg2⟩
      have kf2 := KF.out w2 hp2
      have HG2 := Lib.hid (gb_trans HG.out hg2)
      clear hp2 hg2 ki1
      go_wp2_with fail
      (with_reducible refine kf2.mono ?_)
      rintro e w3 ⟨rfl, hp3, hg3⟩
      have HP3 := Lib.hid hp3
      have HG3 := Lib.hid hg3
      clear hp3 hg3 kf2
      go_wp2_with fail
      go_ret
      exact ⟨rfl, HP3.out, gb_trans HG2.out HG3.out⟩
    · rw [if_pos rfl] at KI ⊢
      go_enter Tryz.func89, Tryz.ntmps89
      go_wp2_with fail
      (with_reducible refine kb.mono ?_)
      rintro e w1 ⟨rfl, hp, hg⟩
      have ki1 := KI.out w1 hp
      have HG := Lib.hid hg
      clear hp hg kb
      go_wp2_with fail
      (with_reducible refine ki1.mono ?_)
      rintro e w2 ⟨rfl, hp2, hg2⟩
      have HP2 := Lib.hid hp2
      have HG2 := Lib.hid hg2
      clear hp2 hg2 ki1
      go_wp2_with fail
      go_ret
      exact ⟨rfl, HP2.out, gb_trans HG.out HG2.out⟩
  · rw [if_pos rfl] at kb ⊢
    go_enter Tryz.func89, Tryz.ntmps89
    go_wp2_with fail
    (with_reducible refine kb.mono ?_)
    rintro e w1 ⟨rfl, hp, hg⟩
    have HP := Lib.hid hp
    have HG := Lib.hid hg
    clear hp hg kb
    go_wp2_with fail
    go_ret
    exact ⟨rfl, HP.out, HG.out⟩
end Go.Proofs.YtjlnihennlkmpaaGreatDoor

namespace Go.Proofs.YtjlnihennlkmpaaGreatDoor
open Go Go.RowKit
def bs (l : List UInt8) : ByteArray := ⟨l.toArray⟩
def ex0 : Ex := .mk ⟨#[]⟩ ⟨#[]⟩ 0 0 []
/-- What the next depth reads. -/
structure Nx where
  expr : St → Ex × St
  un : St → Ex × St
  prim : St → Ex × St
  fby : St → Ex × St
def twoS (x : Wd) (a b : Ex) : Ex := .mk x.text ⟨#[]⟩ 0 x.at_ [a, b]
/-- Arguments behind the first: as long as a comma stands. -/
def argsS (L : List Wd) (f : St → Ex × St) : Nat → St → List Ex × St
  | 0, st => ([], st)
  | k + 1, st =>
    if isS L (bs [44]) st = true then
      ((f (nextS L st)).1 :: (argsS L f k (f (nextS L st)).2).1, (argsS L f k (f (nextS L st)).2).2)
    else ([], st)
def callS (L : List Wd) (nx : Nx) (st : St) : List Ex × St :=
  if isS L (bs [41]) st = true then ([], st)
  else ((nx.expr st).1 :: (argsS L nx.expr L.length (nx.expr st).2).1, (argsS L nx.expr L.length (nx.expr st).2).2)
def namedS (L : List Wd) (nx : Nx) (st : St) : Ex × St :=
  let p := partS L st
  if isS L (bs [40]) p.2 = true then
    let k := callS L nx (nextS L p.2)
    (.mk (bs [99, 97, 108, 108]) p.1.text 0 p.1.at_ k.1, needS L (bs [41]) k.2)
  else (.mk (bs [118, 97, 114]) p.1.text 0 p.1.at_ [], p.2)
def bracketedS (L : List Wd) (nx : Nx) (st : St) : Ex × St :=
  let e := nx.expr (nextS L st)
  (e.1, needS L (bs [41]) e.2)
def choiceS (L : List Wd) (nx : Nx) (st : St) : Ex × St :=
  let p := partS L st
  let a := nx.expr p.2
  let b := nx.expr (needS L (bs [116, 104, 101, 110]) a.2)
  let c := nx.expr (needS L (bs [101, 108, 115, 101]) b.2)
  (.mk (bs [105, 102]) ⟨#[]⟩ 0 p.1.at_ [a.1, b.1, c.1], c.2)
def mergeS (L : List Wd) (nx : Nx) (st : St) : Ex × St :=
  let p := partS L st
  let n := nameS L p.2
  let a := nx.prim n.2
  let b := nx.prim a.2
  (.mk (bs [109, 101, 114, 103, 101]) n.1 0 p.1.at_ [a.1, b.1], b.2)
/-- prim behind its ask. -/
def primB (L : List Wd) (nx : Nx) (st : St) : Ex × St :=
  let w := cur L st
  if w.kind = 3 then (.mk (bs [105, 110, 116]) ⟨#[]⟩ w.n w.at_ [], (partS L st).2)
  else if w.kind = 1 then namedS L nx st
  else if isS L (bs [116, 114, 117, 101]) st = true then (.mk (bs [98, 111, 111, 108]) ⟨#[]⟩ 1 w.at_ [], (partS L st).2)
  else if isS L (bs [102, 97, 108, 115, 101]) st = true then (.mk (bs [98, 111, 111, 108]) ⟨#[]⟩ 0 w.at_ [], (partS L st).2)
  else if isS L (bs [40]) st = true then bracketedS L nx st
  else if isS L (bs [105, 102]) st = true then choiceS L nx st
  else if isS L (bs [109, 101, 114, 103, 101]) st = true then mergeS L nx st
  else (ex0, failS L 7 st)
def primS (L : List Wd) (nx : Nx) (d : Nat) (st : St) : Ex × St := primB L nx (askS L d st)
def unS (L : List Wd) (nx : Nx) (d : Nat) (st : St) : Ex × St :=
  let s := askS L d st
  if isS L (bs [110, 111, 116]) s = true ∨ isS L (bs [112, 114, 101]) s = true then
    (.mk (partS L s).1.text ⟨#[]⟩ 0 (partS L s).1.at_ [(nx.un (partS L s).2).1], (nx.un (partS L s).2).2)
  else if isS L (bs [45]) s = true then
    (.mk (bs [110, 101, 103]) ⟨#[]⟩ 0 (partS L s).1.at_ [(nx.un (partS L s).2).1], (nx.un (partS L s).2).2)
  else primS L nx d s
/-- when's loop: e as it stands before. -/
def whenL (L : List Wd) : Nat → Ex → St → Ex × St
  | 0, e, st => (e, st)
  | k + 1, e, st =>
    let b := betweenS L [bs [119, 104, 101, 110]] st
    if b.2.1 = true then
      let t := takeS L (bs [110, 111, 116]) b.2.2
      let n := nameS L t.2
      whenL L k (.mk (bs [119, 104, 101, 110]) n.1 (if t.1 = true then 0 else 1) b.1.at_ [e]) n.2
    else (e, b.2.2)
def whenS (L : List Wd) (nx : Nx) (d : Nat) (st : St) : Ex × St :=
  whenL L L.length (unS L nx d st).1 (unS L nx d st).2
def fbyS (L : List Wd) (nx : Nx) (d : Nat) (st : St) : Ex × St :=
  let e := whenS L nx d st
  let b := betweenS L [bs [102, 98, 121]] e.2
  if b.2.1 = true then (twoS b.1 e.1 (nx.fby b.2.2).1, (nx.fby b.2.2).2) else (e.1, b.2.2)
/-- row's loop. -/
def rowL (L : List Wd) (one : St → Ex × St) (ops : List ByteArray) : Nat → Ex → St → Ex × St
  | 0, e, st => (e, st)
  | k + 1, e, st =>
    let b := betweenS L ops st
    if b.2.1 = true then rowL L one ops k (twoS b.1 e (one b.2.2).1) (one b.2.2).2 else (e, b.2.2)
def rowS (L : List Wd) (one : St → Ex × St) (ops : List ByteArray) (st : St) : Ex × St := rowL L one ops L.length (one st).1 (one st).2
def mulS (L : List Wd) (nx : Nx) (d : Nat) : St → Ex × St := rowS L (fbyS L nx d) [bs [42], bs [47], bs [109, 111, 100]]
def addS (L : List Wd) (nx : Nx) (d : Nat) : St → Ex × St := rowS L (mulS L nx d) [bs [43], bs [45]]
def cmpS (L : List Wd) (nx : Nx) (d : Nat) (st : St) : Ex × St :=
  let e := addS L nx d st
  let b := betweenS L [bs [61], bs [60, 62], bs [60], bs [60, 61], bs [62], bs [62, 61]] e.2
  if b.2.1 = true then (twoS b.1 e.1 (addS L nx d b.2.2).1, (addS L nx d b.2.2).2) else (e.1, b.2.2)
def andS (L : List Wd) (nx : Nx) (d : Nat) : St → Ex × St := rowS L (cmpS L nx d) [bs [97, 110, 100]]
def orS (L : List Wd) (nx : Nx) (d : Nat) : St → Ex × St := rowS L (andS L nx d) [bs [111, 114], bs [120, 111, 114]]
def arrowS (L : List Wd) (nx : Nx) (d : Nat) (st : St) : Ex × St :=
  let e := orS L nx d st
  let b := betweenS L [bs [45, 62]] e.2
  if b.2.1 = true then (twoS b.1 e.1 (nx.expr b.2.2).1, (nx.expr b.2.2).2) else (e.1, b.2.2)
/-- All four of depth 31 - k. -/
def nxAt (L : List Wd) : Nat → Nx
  | 0 => ⟨fun st => (ex0, st), fun st => (ex0, st), fun st => (ex0, st), fun st => (ex0, st)⟩
  | k + 1 => ⟨arrowS L (nxAt L k) (31 - k), unS L (nxAt L k) (31 - k), primS L (nxAt L k) (31 - k), fbyS L (nxAt L k) (31 - k)⟩
/-- expr of depth 1. -/
def exprS (L : List Wd) (st : St) : Ex × St := (nxAt L 31).expr st
end Go.Proofs.YtjlnihennlkmpaaGreatDoor

namespace Go.Proofs.YtjlnihennlkmpaaGreatDoor
open Go Go.RowKit
mutual
theorem IsE.mono {B B' : Nat} (hB : B' ≤ B) {w : World} {o m : ByteArray} {n a : Int} {x : Option Addr} {l c : Nat} : ∀ (e : Ex), IsE B w o m n a x l c e → IsE B' w o m n a x l c e
  | .mk op name n' at_ kids, h => by
    unfold IsE at h ⊢
    obtain ⟨h1, h2, h3, h4, h5, h6⟩ := h
    refine ⟨h1, h2, h3, h4, h5, fun hl => ?_⟩
    obtain ⟨g, e1, e2, e3, e4⟩ := h6 hl
    exact ⟨g, e1, Nat.le_trans hB e2, e3, IsL.mono hB kids 0 e4⟩
theorem IsL.mono {B B' : Nat} (hB : B' ≤ B) {w : World} {g : Nat} : ∀ (l : List Ex) (i : Nat), IsL B w g i l → IsL B' w g i l
  | [], _, _ => by unfold IsL; trivial
  | e :: r, i, h => by
    unfold IsL at h ⊢
    obtain ⟨⟨o, m, n, a, x, l, c, c0, c1, c2, c3, c4, he⟩, hr⟩ := h
    exact ⟨⟨o, m, n, a, x, l, c, c0, c1, c2, c3, c4, IsE.mono hB e he⟩, IsL.mono hB r (i + 1) hr⟩
end
/-- A sort's outcome: the tree t, all of it made since, and the parser left as S. -/
def GivesX (L : List Wd) (gp gw c : Nat) (t : Ex) (S : St) (w : World) (e : Ending) (w' : World) : Prop :=
  ∃ o m n a x l cc, e = .returned (exV o m n a x l cc) ∧ IsE w.heap.size w' o m n a x l cc t ∧ Par L w' gp gw c S ∧ w.grownBy w' (some gp)
theorem expr_one (o m : ByteArray) (n a : Int) (x : Option Addr) (l c : Nat) : (#[.string o, .string m, .int .i64 n, .int .i64 a, .slice x l c] : Array Value).all (·.oneCell') = true := by simp [Value.oneCell']
theorem gb_setRow {w W : World} {gp : Nat} (h : w.grownBy W (some gp)) (b : Nat) (hb : w.heap.size ≤ b) (zs : Array Value) : w.grownBy (W.setRow b zs) (some gp) :=
  ⟨h.os, h.tape, h.output, by rw [setRow_size]; exact h.size, fun k hk hr => (setRow_other W b k _ (by omega)).trans (h.block k hk hr)⟩
set_option maxHeartbeats 2000000 in
set_option maxRecDepth 100000 in
theorem bracketed_any (L : List Wd) (hG : Good L) (d : Nat) (hd : d < 1000) (w : World) (gp gw c : Nat) (st : St) (h : Par L w gp gw c st) (t : Ex) (S : St)
    (hx : ∀ W, Par L W gp gw c (nextS L st) → Calls Tryz.prog 76 #[.pointer (some ⟨gp, 0, none⟩), .int .i64 ((d : Int) + 1)] W (GivesX L gp gw c t S W)) :
    Calls Tryz.prog 130 #[.pointer (some ⟨gp, 0, none⟩), .int .i64 (d : Int)] w (GivesX L gp gw c t (needS L (bs [41]) S) w) := by
  have hb1 : Below w.heap.size w (w.alloc (.cells #[.string ⟨#[]⟩, .string ⟨#[]⟩, .int .i64 0, .int .i64 0, .slice none 0 0] 54)) := (Below.refl _ _).alloc (Nat.le_refl _) _
  have hn1 := heap_alloc_new w (.cells #[.string ⟨#[]⟩, .string ⟨#[]⟩, .int .i64 0, .int .i64 0, .slice none 0 0] 54)
  have h1 := h.below hb1
  have hgp := h.gpl
  have hgw := h.gwl
  have hs1 : (w.alloc (.cells #[.string ⟨#[]⟩, .string ⟨#[]⟩, .int .i64 0, .int .i64 0, .slice none 0 0] 54)).heap.size = w.heap.size + 1 := by simp
  have kn := next_any L hG _ gp gw c st h1
  have kd : ∀ W, Par L W gp gw c S → Calls Tryz.prog 55 #[.pointer (some ⟨gp, 0, none⟩), .string ⟨#[41]⟩] W (GivesU L gp gw c (needS L (bs [41]) S) W) := fun W hp => need_any L hG (bs [41]) W gp gw c S hp
  obtain ⟨R, hR⟩ : ∃ R, R = needS L (bs [41]) S := ⟨_, rfl⟩
  obtain ⟨y, hy⟩ : ∃ y, y = cur L st := ⟨_, rfl⟩
  rw [← hR] at kd ⊢
  rw [← hy] at kn
  have HX := Lib.hid hx
  have HB1 := Lib.hid hb1
  have HN1 := Lib.hid hn1
  have HS1 := Lib.hid hs1
  have HD := Lib.hid kd
  have HSE := Lib.hid size_expr
  clear hR hy hx hb1 hn1 kd h h1
  obtain ⟨yk, yt, yn, ya⟩ := y
  unfold Wd.cells at kn
  go_enter Tryz.func130, Tryz.ntmps130
  go_wp2_with fail
  (with_reducible refine kn.mono ?_)
  rintro e w2 ⟨rfl, hp2, hg2⟩
  have kx := HX.out w2 hp2
  have hr2 := (hg2.block w.heap.size (by omega) (by intro e; injection e with e; omega)).trans HN1.out
  have HR2 := Lib.hid hr2
  have hs2 : w.heap.size + 1 ≤ w2.heap.size := by rw [← hs1]; exact hg2.size
  have HG2 := Lib.hid (gb_trans (gb_below HB1.out) hg2)
  clear hp2 hg2 hr2 kn
  go_wp2_with fail
  (with_reducible refine kx.mono ?_)
  rintro e w3 ⟨o, m, n, a, x, l, cc, rfl, hi3, hp3, hg3⟩
  unfold exV
  have hs3 : w2.heap.size ≤ w3.heap.size := hg3.size
  have hb4 : Below w3.heap.size w3 (w3.alloc (.cells #[.string o, .string m, .int .i64 n, .int .i64 a, .slice x l cc] 54)) := (Below.refl _ _).alloc (Nat.le_refl _) _
  have hp4 := hp3.below hb4
  have hn4 := heap_alloc_new w3 (.cells #[.string o, .string m, .int .i64 n, .int .i64 a, .slice x l cc] 54)
  have hs4 : (w3.alloc (.cells #[.string o, .string m, .int .i64 n, .int .i64 a, .slice x l cc] 54)).heap.size = w3.heap.size + 1 := by simp
  have kd4 := HD.out _ hp4
  have HI3 := Lib.hid hi3
  have HB4 := Lib.hid hb4
  have HN4 := Lib.hid hn4
  have HG3 := Lib.hid (gb_trans HG2.out hg3)
  have HR3 := Lib.hid ((hg3.block w.heap.size (by omega) (by intro e; injection e with e; omega)).trans HR2.out)
  clear hi3 hp3 hg3 hb4 hp4 hn4 kx
  go_wp2_with fail
  (with_reducible refine kd4.mono ?_)
  rintro e w5 ⟨rfl, hp5, hg5⟩
  have hgr4 : w.grownBy (w3.alloc (.cells #[.string o, .string m, .int .i64 n, .int .i64 a, .slice x l cc] 54)) (some gp) := gb_trans HG3.out (gb_below HB4.out)
  have HL5 := Lib.hid ((hg5.block w3.heap.size (by omega) (by intro e; injection e with e; omega)).trans HN4.out)
  have hk : ∀ k, k < w3.heap.size → k ≠ gp → w5.heap[k]? = w3.heap[k]? := fun k hk hne => (hg5.block k (by omega) (by intro e; injection e with e; omega)).trans (HB4.out.block k hk)
  have HR5 := Lib.hid ((hk w.heap.size (by omega) (by omega)).trans HR3.out)
  have HK := Lib.hid hk
  have hs5 : w3.heap.size + 1 ≤ w5.heap.size := by rw [← hs4]; exact hg5.size
  have HP5 := Lib.hid hp5
  have HG5 := Lib.hid (gb_trans hgr4 hg5)
  clear hp5 hg5 hgr4 hk kd4
  go_wp2_with (first | (refine wpList_load_row rfl 54 (.tmp 5) rfl w3.heap.size rfl 54 #[.string o, .string m, .int .i64 n, .int .i64 a, .slice x l cc] (0, 0) _ HL5.out Tryz.underlying54 rfl HSE.out ?_) | (refine wpList_store_row rfl 54 (.tmp 4) (.tmp 14) rfl w.heap.size #[.string o, .string m, .int .i64 n, .int .i64 a, .slice x l cc] rfl rfl 54 _ HR5.out HSE.out rfl (expr_one _ _ _ _ _ _ _) ?_))
  have hset := setRow_heap w5 w.heap.size _ #[.string o, .string m, .int .i64 n, .int .i64 a, .slice x l cc] _ _ HR5.out
  refine bodyPost_ret (v := .agg #[.string o, .string m, .int .i64 n, .int .i64 a, .slice x l cc]) (results_cell_row (p := 4) (ty := 54) rfl _ _ w.heap.size 54 _ (0, 0) _ rfl hset Tryz.underlying54 rfl HSE.out) rfl ⟨o, m, n, a, x, l, cc, rfl, ?_, HP5.out.keep (setRow_other w5 w.heap.size gp _ (by omega)) (setRow_other w5 w.heap.size gw _ (by omega)) (by rw [setRow_size]; exact Nat.le_refl _), gb_setRow HG5.out _ (Nat.le_refl _) _⟩
  refine IsE.mono (B := w2.heap.size) (by omega) _ (HI3.out.keep (by rw [setRow_size]; omega) (fun k h2 h3 => (setRow_other w5 w.heap.size k _ (by omega)).trans (HK.out k h3 (by omega))))
end Go.Proofs.YtjlnihennlkmpaaGreatDoor

namespace Go.Proofs.YtjlnihennlkmpaaGreatDoor
open Go Go.RowKit
mutual
/-- As IsE, its blocks those of ok. -/
def IsP (ok : Nat → Prop) (w : World) (o m : ByteArray) (n a : Int) (x : Option Addr) (l c : Nat) : Ex → Prop
  | .mk op name n' at_ kids => o = op ∧ m = name ∧ n = n' ∧ a = (at_ : Int) ∧ l = kids.length ∧ (0 < l → ∃ g, x = some ⟨g, 0, none⟩ ∧ ok g ∧ g < w.heap.size ∧ IsQ ok w g 0 kids)
def IsQ (ok : Nat → Prop) (w : World) (g : Nat) (i : Nat) : List Ex → Prop
  | [] => True
  | e :: r => (∃ o m n a x l c, w.cell? ⟨g, i * 5, none⟩ = some (.string o) ∧ w.cell? ⟨g, i * 5 + 1, none⟩ = some (.string m) ∧ w.cell? ⟨g, i * 5 + 2, none⟩ = some (.int .i64 n) ∧ w.cell? ⟨g, i * 5 + 3, none⟩ = some (.int .i64 a) ∧ w.cell? ⟨g, i * 5 + 4, none⟩ = some (.slice x l c) ∧ IsP ok w o m n a x l c e) ∧ IsQ ok w g (i + 1) r
end
mutual
theorem IsP.keep {ok ok' : Nat → Prop} {w w' : World} (hs : w.heap.size ≤ w'.heap.size) (hb : ∀ k, ok k → k < w.heap.size → w'.heap[k]? = w.heap[k]?) (ho : ∀ k, ok k → k < w.heap.size → ok' k) {o m : ByteArray} {n a : Int} {x : Option Addr} {l c : Nat} : ∀ (e : Ex), IsP ok w o m n a x l c e → IsP ok' w' o m n a x l c e
  | .mk op name n' at_ kids, h => by
    unfold IsP at h ⊢
    obtain ⟨h1, h2, h3, h4, h5, h6⟩ := h
    refine ⟨h1, h2, h3, h4, h5, fun hl => ?_⟩
    obtain ⟨g, e1, e2, e3, e4⟩ := h6 hl
    exact ⟨g, e1, ho g e2 e3, Nat.lt_of_lt_of_le e3 hs, IsQ.keep hs hb ho e2 e3 kids 0 e4⟩
theorem IsQ.keep {ok ok' : Nat → Prop} {w w' : World} (hs : w.heap.size ≤ w'.heap.size) (hb : ∀ k, ok k → k < w.heap.size → w'.heap[k]? = w.heap[k]?) (ho : ∀ k, ok k → k < w.heap.size → ok' k) {g : Nat} (hB : ok g) (hg : g < w.heap.size) : ∀ (l : List Ex) (i : Nat), IsQ ok w g i l → IsQ ok' w' g i l
  | [], _, _ => by unfold IsQ; trivial
  | e :: r, i, h => by
    unfold IsQ at h ⊢
    obtain ⟨⟨o, m, n, a, x, l, c, c0, c1, c2, c3, c4, he⟩, hr⟩ := h
    have hc : ∀ j v, w.cell? ⟨g, j, none⟩ = some v → w'.cell? ⟨g, j, none⟩ = some v := fun j v h => by
      simp only [World.cell?] at h ⊢
      rw [hb g hB hg]; exact h
    exact ⟨⟨o, m, n, a, x, l, c, hc _ _ c0, hc _ _ c1, hc _ _ c2, hc _ _ c3, hc _ _ c4, IsP.keep hs hb ho e he⟩, IsQ.keep hs hb ho hB hg r (i + 1) hr⟩
end
mutual
theorem IsE.toP {B : Nat} {ok : Nat → Prop} {w : World} (ho : ∀ k, B ≤ k → k < w.heap.size → ok k) {o m : ByteArray} {n a : Int} {x : Option Addr} {l c : Nat} : ∀ (e : Ex), IsE B w o m n a x l c e → IsP ok w o m n a x l c e
  | .mk op name n' at_ kids, h => by
    unfold IsE at h
    unfold IsP
    obtain ⟨h1, h2, h3, h4, h5, h6⟩ := h
    refine ⟨h1, h2, h3, h4, h5, fun hl => ?_⟩
    obtain ⟨g, e1, e2, e3, e4⟩ := h6 hl
    exact ⟨g, e1, ho g e2 e3, e3, IsL.toQ ho kids 0 e4⟩
theorem IsL.toQ {B : Nat} {ok : Nat → Prop} {w : World} (ho : ∀ k, B ≤ k → k < w.heap.size → ok k) {g : Nat} : ∀ (l : List Ex) (i : Nat), IsL B w g i l → IsQ ok w g i l
  | [], _, _ => by unfold IsQ; trivial
  | e :: r, i, h => by
    unfold IsL at h
    unfold IsQ
    obtain ⟨⟨o, m, n, a, x, l, c, c0, c1, c2, c3, c4, he⟩, hr⟩ := h
    exact ⟨⟨o, m, n, a, x, l, c, c0, c1, c2, c3, c4, IsE.toP ho e he⟩, IsL.toQ ho r (i + 1) hr⟩
end
mutual
theorem IsP.toE {B : Nat} {ok : Nat → Prop} {w : World} (ho : ∀ k, ok k → B ≤ k) {o m : ByteArray} {n a : Int} {x : Option Addr} {l c : Nat} : ∀ (e : Ex), IsP ok w o m n a x l c e → IsE B w o m n a x l c e
  | .mk op name n' at_ kids, h => by
    unfold IsP at h
    unfold IsE
    obtain ⟨h1, h2, h3, h4, h5, h6⟩ := h
    refine ⟨h1, h2, h3, h4, h5, fun hl => ?_⟩
    obtain ⟨g, e1, e2, e3, e4⟩ := h6 hl
    exact ⟨g, e1, ho g e2, e3, IsQ.toL ho kids 0 e4⟩
theorem IsQ.toL {B : Nat} {ok : Nat → Prop} {w : World} (ho : ∀ k, ok k → B ≤ k) {g : Nat} : ∀ (l : List Ex) (i : Nat), IsQ ok w g i l → IsL B w g i l
  | [], _, _ => by unfold IsL; trivial
  | e :: r, i, h => by
    unfold IsQ at h
    unfold IsL
    obtain ⟨⟨o, m, n, a, x, l, c, c0, c1, c2, c3, c4, he⟩, hr⟩ := h
    exact ⟨⟨o, m, n, a, x, l, c, c0, c1, c2, c3, c4, IsP.toE ho e he⟩, IsQ.toL ho r (i + 1) hr⟩
end
theorem IsP.below {ok : Nat → Prop} {w w' : World} (hb : Below w.heap.size w w') {o m : ByteArray} {n a : Int} {x : Option Addr} {l c : Nat} {e : Ex} (h : IsP ok w o m n a x l c e) : IsP ok w' o m n a x l c e :=
  h.keep hb.size (fun k _ hl => hb.block k hl) (fun _ h _ => h) e
theorem IsP.grown {ok : Nat → Prop} {gp : Nat} {w w' : World} (hg : w.grownBy w' (some gp)) (hB : ¬ ok gp) {o m : ByteArray} {n a : Int} {x : Option Addr} {l c : Nat} {e : Ex} (h : IsP ok w o m n a x l c e) : IsP ok w' o m n a x l c e :=
  h.keep hg.size (fun k hk hl => hg.block k hl (by intro e; injection e with e; subst e; exact hB hk)) (fun _ h _ => h) e
def GivesP (ok : Nat → Prop) (t : Ex) (w : World) (e : Ending) (w' : World) : Prop := ∃ o m n a x l c, e = .returned (exV o m n a x l c) ∧ IsP ok w' o m n a x l c t ∧ Below w.heap.size w w'
set_option maxHeartbeats 4000000 in
set_option maxRecDepth 100000 in
theorem twoP_any (ok : Nat → Prop) (x : Wd) (e1 e2 : Ex) (w : World) (hB : ∀ k, w.heap.size ≤ k → ok k) (o1 m1 : ByteArray) (n1 a1 : Int) (x1 : Option Addr) (l1 c1 : Nat) (o2 m2 : ByteArray) (n2 a2 : Int) (x2 : Option Addr) (l2 c2 : Nat)
    (h1 : IsP ok w o1 m1 n1 a1 x1 l1 c1 e1) (h2 : IsP ok w o2 m2 n2 a2 x2 l2 c2 e2) :
    Calls Tryz.prog 92 #[.agg x.cells.toArray, exV o1 m1 n1 a1 x1 l1 c1, exV o2 m2 n2 a2 x2 l2 c2] w (GivesP ok (.mk x.text ⟨#[]⟩ 0 x.at_ [e1, e2]) w) := by
  obtain ⟨xk, xt, xn, xa⟩ := x
  unfold Wd.cells exV
  simp only
  have H1 := Lib.hid h1
  have H2 := Lib.hid h2
  have HSE := Lib.hid size_expr
  clear h1 h2
  go_enter Tryz.func92, Tryz.ntmps92
  go_wp2_with fail
  obtain ⟨w3, hw3⟩ : ∃ w3, w3 = ((w.alloc (.cells #[.int .i64 (xk : Int), .string xt, .int .i64 xn, .int .i64 (xa : Int)] 77)).alloc (.cells #[.string o1, .string m1, .int .i64 n1, .int .i64 a1, .slice x1 l1 c1] 54)).alloc (.cells #[.string o2, .string m2, .int .i64 n2, .int .i64 a2, .slice x2 l2 c2] 54) := ⟨_, rfl⟩
  have hs3 : w3.heap.size = w.heap.size + 1 + 1 + 1 := by rw [hw3]; simp
  have hb3 : Below w.heap.size w w3 := by
    rw [hw3]
    exact (((Below.refl _ _).alloc (Nat.le_refl _) _).alloc (by simp) _).alloc (by simp; omega) _
  rw [← hw3]
  clear hw3
  obtain ⟨w4, hw4⟩ : ∃ w4, w4 = w3.alloc (.cells #[.string xt, .string ⟨#[]⟩, .int .i64 0, .int .i64 (xa : Int), .slice (some ⟨w.heap.size + 1 + 1 + 1 + 1, 0, none⟩) 2 2] 54) := ⟨_, rfl⟩
  have hs4 : w4.heap.size = w.heap.size + 1 + 1 + 1 + 1 := by rw [hw4]; simp [hs3]
  have hb4 : Below w.heap.size w w4 := by rw [hw4]; exact hb3.alloc hb3.size _
  have hr4 : w4.heap[w.heap.size + 1 + 1 + 1]? = some (.cells #[.string xt, .string ⟨#[]⟩, .int .i64 0, .int .i64 (xa : Int), .slice (some ⟨w.heap.size + 1 + 1 + 1 + 1, 0, none⟩) 2 2] 54 (0, 0)) := by rw [hw4, ← hs3]; exact heap_alloc_new w3 _
  rw [← hw4]
  clear hw4
  have hb5 : Below w.heap.size w (w4.alloc (.cells #[.string o1, .string m1, .int .i64 n1, .int .i64 a1, .slice x1 l1 c1, .string o2, .string m2, .int .i64 n2, .int .i64 a2, .slice x2 l2 c2] 54)) := hb4.alloc hb4.size _
  have hr5 : (w4.alloc (.cells #[.string o1, .string m1, .int .i64 n1, .int .i64 a1, .slice x1 l1 c1, .string o2, .string m2, .int .i64 n2, .int .i64 a2, .slice x2 l2 c2] 54)).heap[w.heap.size + 1 + 1 + 1]? = some (.cells #[.string xt, .string ⟨#[]⟩, .int .i64 0, .int .i64 (xa : Int), .slice (some ⟨w.heap.size + 1 + 1 + 1 + 1, 0, none⟩) 2 2] 54 (0, 0)) := by
    rw [Below.heap_alloc _ _ _ (by rw [hs4]; omega)]; exact hr4
  have hk5 : (w4.alloc (.cells #[.string o1, .string m1, .int .i64 n1, .int .i64 a1, .slice x1 l1 c1, .string o2, .string m2, .int .i64 n2, .int .i64 a2, .slice x2 l2 c2] 54)).heap[w.heap.size + 1 + 1 + 1 + 1]? = some (.cells #[.string o1, .string m1, .int .i64 n1, .int .i64 a1, .slice x1 l1 c1, .string o2, .string m2, .int .i64 n2, .int .i64 a2, .slice x2 l2 c2] 54 (0, 0)) := by rw [← hs4]; exact heap_alloc_new w4 _
  have hs5 : (w4.alloc (.cells #[.string o1, .string m1, .int .i64 n1, .int .i64 a1, .slice x1 l1 c1, .string o2, .string m2, .int .i64 n2, .int .i64 a2, .slice x2 l2 c2] 54)).heap.size = w.heap.size + 1 + 1 + 1 + 1 + 1 := by simp [hs4]
  generalize w4.alloc (.cells #[.string o1, .string m1, .int .i64 n1, .int .i64 a1, .slice x1 l1 c1, .string o2, .string m2, .int .i64 n2, .int .i64 a2, .slice x2 l2 c2] 54) = w5 at hb5 hr5 hk5 hs5 ⊢
  have hcell : ∀ (j : Nat) (v : Value), (#[.string o1, .string m1, .int .i64 n1, .int .i64 a1, .slice x1 l1 c1, .string o2, .string m2, .int .i64 n2, .int .i64 a2, .slice x2 l2 c2] : Array Value)[j]? = some v → w5.cell? ⟨w.heap.size + 1 + 1 + 1 + 1, j, none⟩ = some v := fun j v hv => by
    simp only [World.cell?, hk5]
    exact hv
  refine bodyPost_ret (v := .agg #[.string xt, .string ⟨#[]⟩, .int .i64 0, .int .i64 (xa : Int), .slice (some ⟨w.heap.size + 1 + 1 + 1 + 1, 0, none⟩) 2 2]) (results_cell_row (p := 6) (ty := 54) rfl _ _ (w.heap.size + 1 + 1 + 1) 54 _ (0, 0) _ rfl hr5 Tryz.underlying54 rfl HSE.out) rfl ⟨xt, ⟨#[]⟩, 0, (xa : Int), _, 2, 2, rfl, ?_, hb5⟩
  unfold IsP
  refine ⟨rfl, rfl, rfl, rfl, rfl, fun _ => ⟨_, rfl, hB _ (by omega), by rw [hs5]; omega, ?_⟩⟩
  unfold IsQ
  refine ⟨⟨o1, m1, n1, a1, x1, l1, c1, hcell 0 _ rfl, hcell 1 _ rfl, hcell 2 _ rfl, hcell 3 _ rfl, hcell 4 _ rfl, H1.out.below hb5⟩, ?_⟩
  unfold IsQ
  refine ⟨⟨o2, m2, n2, a2, x2, l2, c2, hcell 5 _ rfl, hcell 6 _ rfl, hcell 7 _ rfl, hcell 8 _ rfl, hcell 9 _ rfl, H2.out.below hb5⟩, ?_⟩
  unfold IsQ
  trivial
end Go.Proofs.YtjlnihennlkmpaaGreatDoor

namespace Go.Proofs.YtjlnihennlkmpaaGreatDoor
open Go Go.RowKit
section
variable {P : Program} {Q : Exit → Act → World → Prop} {md : Region.Mode}
/-- One operation, run where its predecessors' words hold. -/
def Step (P : Program) (md : Region.Mode) (Q : Exit → Act → World → Prop) (lo l : List Oper) (Sp : Nat → Value → World → Prop) (B : Nat) (w0 : World) (a0 : Act) (i : Nat) (o : Oper) : Prop :=
  ∀ (a : Act) (W : World), Below B w0 W → B ≤ W.heap.size → (∀ j, (∀ x ∈ lo, x.dst ≠ some j) → a.tmps.getD j undef = a0.tmps.getD j undef) →
    (∀ e ∈ o.after.toList, Region.binds md e = true → ∀ x, l[e.on]? = some x → ∀ d, x.dst = some d → d < a.tmps.size ∧ Sp e.on (a.tmps.getD d undef) W) →
    wpOp P l.toArray Q i (fun a' W' => ∃ v, a' = a.put o.dst v ∧ Sp i v W' ∧ Below W.heap.size W W') a W
def Steps (P : Program) (md : Region.Mode) (Q : Exit → Act → World → Prop) (lo l : List Oper) (Sp : Nat → Value → World → Prop) (B : Nat) (w0 : World) (a0 : Act) : Nat → List Oper → Prop
  | _, [] => True
  | i, o :: r => Step P md Q lo l Sp B w0 a0 i o ∧ Steps P md Q lo l Sp B w0 a0 (i + 1) r
variable {lo l : List Oper} {Sp : Nat → Value → World → Prop} {B : Nat} {w0 : World} {a0 : Act}
theorem Steps.cons {i : Nat} {o : Oper} {r : List Oper} (h : Step P md Q lo l Sp B w0 a0 i o) (hr : Steps P md Q lo l Sp B w0 a0 (i + 1) r) : Steps P md Q lo l Sp B w0 a0 i (o :: r) := ⟨h, hr⟩
theorem Steps.nil {i : Nat} : Steps P md Q lo l Sp B w0 a0 i [] := trivial
theorem Steps.at_ : ∀ (r : List Oper) (i : Nat), Steps P md Q lo l Sp B w0 a0 i r → ∀ (k : Nat) (o : Oper), r[k]? = some o → Step P md Q lo l Sp B w0 a0 (i + k) o
  | [], _, _, k, o, h => by simp at h
  | x :: r, i, hs, 0, o, h => by
    simp only [List.getElem?_cons_zero, Option.some.injEq] at h
    subst h
    exact hs.1
  | x :: r, i, hs, k + 1, o, h => by
    have := Steps.at_ r (i + 1) hs.2 k o (by simpa using h)
    rwa [show i + 1 + k = i + (k + 1) by omega] at this
/-- Those of its predecessors that bind stand ahead of each operation. -/
def aheadOps (md : Region.Mode) (l : List Oper) : Bool := (List.range l.length).all fun i => match l[i]? with
  | some o => o.after.toList.all fun e => !Region.binds md e || decide (e.on < i)
  | none => true
theorem aheadOps_spec {md : Region.Mode} (h : aheadOps md l = true) {i : Nat} {o : Oper} (hi : l[i]? = some o) {e : _} (he : e ∈ o.after.toList) (hb : Region.binds md e = true) : e.on < i := by
  have hlt : i < l.length := (List.getElem?_eq_some_iff.1 hi).1
  unfold aheadOps at h
  rw [List.all_eq_true] at h
  have h1 := h i (List.mem_range.2 hlt)
  simp only [hi] at h1
  rw [List.all_eq_true] at h1
  have h2 := h1 e he
  rw [hb] at h2
  simpa using h2
structure Inv (lo l : List Oper) (Sp : Nat → Value → World → Prop) (B : Nat) (w0 : World) (a0 : Act) (listed : Array Bool) (a : Act) (W : World) : Prop where
  size : listed.size = l.length
  below : Below B w0 W
  base : B ≤ W.heap.size
  defers : a.defers = a0.defers
  tmps : a.tmps.size = a0.tmps.size
  old : ∀ j, (∀ x ∈ lo, x.dst ≠ some j) → a.tmps.getD j undef = a0.tmps.getD j undef
  new : ∀ i x d, l[i]? = some x → listed.getD i false = true → x.dst = some d → Sp i (a.tmps.getD d undef) W
theorem put_same {a : Act} {d : Tmp} {v : Value} (h : d < a.tmps.size) : (a.put (some d) v).tmps.getD d undef = v := by
  simp [Act.put, h]
theorem put_other {a : Act} {o : Option Tmp} {d : Tmp} {v : Value} (h : o ≠ some d) : (a.put o v).tmps.getD d undef = a.tmps.getD d undef := by
  cases o with
  | none => rfl
  | some e =>
    have hne : e ≠ d := fun e' => h (by rw [e'])
    show (a.tmps.setIfInBounds e v).getD d undef = _
    simp only [Array.getD, Array.size_setIfInBounds]
    split
    · exact Array.getElem_setIfInBounds_ne (by assumption) hne
    · rfl
theorem put_size {a : Act} {o : Option Tmp} {v : Value} : (a.put o v).tmps.size = a.tmps.size := by
  cases o <;> simp [Act.put]
theorem put_defers {a : Act} {o : Option Tmp} {v : Value} : (a.put o v).defers = a.defers := by
  cases o <;> rfl
/-- No slot is written twice. -/
def single (l : List Oper) : Bool := (List.range l.length).all fun i => (List.range l.length).all fun j => i == j || match l[i]?, l[j]? with
  | some x, some y => x.dst.isNone || !(x.dst == y.dst)
  | _, _ => true
theorem single_spec (h : single l = true) {i j : Nat} {x y : Oper} {d : Tmp} (hi : l[i]? = some x) (hj : l[j]? = some y) (hx : x.dst = some d) (hy : y.dst = some d) : i = j := by
  have hil : i < l.length := (List.getElem?_eq_some_iff.1 hi).1
  have hjl : j < l.length := (List.getElem?_eq_some_iff.1 hj).1
  unfold single at h
  rw [List.all_eq_true] at h
  have h1 := h i (List.mem_range.2 hil)
  rw [List.all_eq_true] at h1
  have h2 := h1 j (List.mem_range.2 hjl)
  simp only [hi, hj, hx, hy, Bool.or_eq_true, beq_iff_eq] at h2
  rcases h2 with h2 | h2
  · exact h2
  · simp at h2
def within (l : List Oper) (n : Nat) : Bool := l.all fun o => match o.dst with
  | some d => decide (d < n)
  | none => true
theorem within_spec {n : Nat} (h : within l n = true) {o : Oper} (ho : o ∈ l) {d : Tmp} (hd : o.dst = some d) : d < n := by
  unfold within at h
  rw [List.all_eq_true] at h
  have := h o ho
  simpa [hd] using this
theorem Inv.step (hst : ∀ i v W W', Sp i v W → Below W.heap.size W W' → Sp i v W') (h1 : single l = true) (h2 : within l a0.tmps.size = true)
    {listed : Array Bool} {a : Act} {W : World} (h : Inv lo l Sp B w0 a0 listed a W) {i : Nat} {o : Oper} (hi : l[i]? = some o) (hlo : o ∈ lo) {v : Value} {W' : World} (hv : Sp i v W') (hb : Below W.heap.size W W') :
    Inv lo l Sp B w0 a0 (listed.setIfInBounds i true) (a.put o.dst v) W' := by
  refine ⟨by simpa using h.size, h.below.trans (hb.mono h.base), Nat.le_trans h.base hb.size, put_defers.trans h.defers, put_size.trans h.tmps, fun j hj => ?_, fun k x d hk hl hd => ?_⟩
  · rw [put_other (hj o hlo), h.old j hj]
  · by_cases hki : k = i
    · subst hki
      rw [hi] at hk
      injection hk with hk
      subst hk
      rw [hd, put_same (by rw [h.tmps]; exact within_spec h2 (List.mem_of_getElem? hi) hd)]
      exact hv
    · rw [put_other (fun e => hki (single_spec h1 hk hi hd e))]
      rw [getD_set_ne _ (Ne.symm hki)] at hl
      exact hst _ _ _ _ (h.new k x d hk hl hd) hb
theorem count_set {listed : Array Bool} {i : Nat} (h : listed.getD i true = false) : (listed.setIfInBounds i true).toList.count false + 1 = listed.toList.count false := by
  have hlt : i < listed.size := by
    rcases Nat.lt_or_ge i listed.size with h' | h'
    · exact h'
    · simp [Array.getD, Nat.not_lt.2 h'] at h
  have hv : listed.toList[i]'(by simpa using hlt) = false := by
    have : listed[i] = false := by simpa [Array.getD, hlt] using h
    simpa using this
  rw [Array.toList_setIfInBounds, List.count_set (by simpa using hlt), hv]
  have hpos : 0 < listed.toList.count false := List.count_pos_iff.2 (by rw [← hv]; exact List.getElem_mem _)
  simp only [beq_self_eq_true, if_true]
  have e : (true == false) = false := rfl
  rw [e]
  simp only [Bool.false_eq_true, if_false]
  omega
/-- Whoever stands ahead of one of these, and of those, and so on. -/
def reaches (md : Region.Mode) (l : List Oper) : Nat → List Nat → List Nat
  | 0, S => S
  | k + 1, S => reaches md l k (S ++ S.flatMap fun i => match l[i]? with
    | some o => (o.after.toList.filter fun e => Region.binds md e).map (·.on)
    | none => [])
theorem reaches_good (md : Region.Mode) (l : List Oper) (good : Nat → Prop) (h : ∀ i, good i → ∀ o, l[i]? = some o → ∀ e ∈ o.after.toList, Region.binds md e = true → good e.on) :
    ∀ (k : Nat) (S : List Nat), (∀ i ∈ S, good i) → ∀ i ∈ reaches md l k S, good i
  | 0, _, hS => hS
  | k + 1, S, hS => reaches_good md l good h k _ fun i hi => by
    rcases List.mem_append.1 hi with hi | hi
    · exact hS i hi
    · obtain ⟨j, hj, hm⟩ := List.mem_flatMap.1 hi
      cases ho : l[j]? with
      | none => rw [ho] at hm; cases hm
      | some o =>
        rw [ho] at hm
        obtain ⟨e, he, rfl⟩ := List.mem_map.1 hm
        obtain ⟨he1, he2⟩ := List.mem_filter.1 he
        exact h j (hS j hj) o ho e he1 he2
/-- The last operation comes behind all others. -/
def covers (md : Region.Mode) (l : List Oper) : Bool := (List.range l.length).all fun i => (reaches md l l.length [l.length - 1]).contains i
theorem wpAny_steps_then (hst : ∀ i v W W', Sp i v W → Below W.heap.size W W' → Sp i v W') (h1 : single l = true) (h2 : within l a0.tmps.size = true) (h3 : aheadOps md l = true) (h4 : covers md l = true) (l0 : List Oper) (o0 : Oper) (hl : l = l0 ++ [o0]) (hs : Steps P md Q l0 l Sp B w0 a0 0 l0)
    (hlast : ∀ a W, Inv l0 l Sp B w0 a0 ((Array.replicate l.length true).setIfInBounds l0.length false) a W → wpOp P l.toArray Q l0.length (fun a' W' => Q .normal a' W') a W) :
    ∀ (fuel : Nat) (listed : Array Bool) (a : Act) (W : World), Inv l0 l Sp B w0 a0 listed a W → listed.getD l0.length true = false →
      (∀ i, listed.getD i false = true → ∀ o, l[i]? = some o → ∀ e ∈ o.after.toList, Region.binds md e = true → listed.getD e.on false = true) → listed.toList.count false ≤ fuel → wpAny P md l.toArray Q fuel listed a W := by
  have hlen : l.length = l0.length + 1 := by rw [hl]; simp
  have hol : l[l0.length]? = some o0 := by rw [hl]; simp
  -- there is always one that may come up
  have some_ready : ∀ (listed : Array Bool), listed.size = l.length → listed.getD l0.length true = false → Region.ready md l.toArray listed ≠ [] := by
    intro listed hsz hlast0 hr
    have all : ∀ n i, i < n → i < l.length → listed.getD i false = true := by
      intro n
      induction n with
      | zero => intro i hi; omega
      | succ n ih =>
        intro i hi hil
        by_cases hin : i < n
        · exact ih i hin hil
        · cases hb : listed.getD i false with
          | true => rfl
          | false =>
            have hlt : i < listed.size := by omega
            have hmem : i ∈ Region.ready md l.toArray listed := by
              rw [mem_ready]
              refine ⟨by simpa [Array.getD, hlt] using hb, l[i], by simp [hil], fun e he hbe => ?_⟩
              have hlt' := aheadOps_spec h3 (i := i) (o := l[i]) (by simp [hil]) (Array.mem_toList_iff.2 he) hbe
              exact ih e.on (by omega) (by omega)
            rw [hr] at hmem
            cases hmem
    have hlt : l0.length < listed.size := by omega
    have := all (l0.length + 1) l0.length (Nat.lt_succ_self _) (by omega)
    simp [Array.getD, hlt] at this hlast0
    rw [this] at hlast0
    cases hlast0
  intro fuel
  induction fuel with
  | zero =>
    intro listed a W hI hlast0 _ hc
    exfalso
    have hlt : l0.length < listed.size := by rw [hI.size]; omega
    have hv : listed[l0.length] = false := by simpa [Array.getD, hlt] using hlast0
    have hpos : 0 < listed.toList.count false := List.count_pos_iff.2 (by rw [← hv]; simp)
    omega
  | succ fuel ih =>
    intro listed a W hI hlast0 hcl hc
    refine ⟨fun hr => absurd hr (some_ready listed hI.size hlast0), fun i hi => ?_⟩
    rw [mem_ready] at hi
    obtain ⟨hf, o, ho, hpre⟩ := hi
    have hio : l[i]? = some o := by simpa using ho
    have hil : i < l.length := (List.getElem?_eq_some_iff.1 hio).1
    by_cases hi0 : i < l0.length
    · have hio0 : l0[i]? = some o := by
        rw [hl, List.getElem?_append_left hi0] at hio
        exact hio
      have hst' := Steps.at_ l0 0 hs i o hio0
      rw [Nat.zero_add] at hst'
      refine wpOp_mono ?_ (hst' a W hI.below hI.base hI.old (fun e he hb x hx d hd => ⟨by rw [hI.tmps]; exact within_spec h2 (List.mem_of_getElem? hx) hd, hI.new e.on x d hx (hpre e (Array.mem_toList_iff.1 he) hb) hd⟩))
      rintro a' W' ⟨v, rfl, hv, hb⟩
      have := count_set hf
      refine ih _ _ _ (hI.step hst h1 h2 hio (List.mem_of_getElem? hio0) hv hb) ?_ ?_ (by omega)
      · simp only [Array.getD, Array.size_setIfInBounds]
        have hlt : l0.length < listed.size := by rw [hI.size]; omega
        simp only [hlt, dite_true]
        rw [Array.getInternal_eq_getElem, Array.getElem_setIfInBounds_ne (by assumption) (by omega)]
        simpa [Array.getD, hlt] using hlast0
      · intro j hj x hx e he hb'
        have mono : ∀ k, listed.getD k false = true → (listed.setIfInBounds i true).getD k false = true := by
          intro k hk
          by_cases hki : k = i
          · subst hki
            have hlt : k < listed.size := by rw [hI.size]; omega
            simp [Array.getD, hlt]
          · rw [getD_set_ne _ (Ne.symm hki)]
            exact hk
        by_cases hji : j = i
        · subst hji
          rw [hio] at hx
          injection hx with hx
          subst hx
          exact mono _ (hpre e (Array.mem_toList_iff.1 he) hb')
        · rw [getD_set_ne _ (Ne.symm hji)] at hj
          exact mono _ (hcl j hj x hx e he hb')
    · obtain rfl : i = l0.length := by omega
      rw [hol] at hio
      injection hio with hio
      subst hio
      have good := reaches_good md l (fun i => i = l0.length ∨ listed.getD i false = true) (fun j hj x hx e he hb => by
        rcases hj with rfl | hj
        · rw [hol] at hx
          injection hx with hx
          subst hx
          exact .inr (hpre e (Array.mem_toList_iff.1 he) hb)
        · exact .inr (hcl j hj x hx e he hb)) l.length [l.length - 1] (fun j hj => by
          rw [List.mem_singleton] at hj
          exact .inl (by omega))
      have hall : ∀ j, j < l.length → j = l0.length ∨ listed.getD j false = true := by
        intro j hj
        unfold covers at h4
        rw [List.all_eq_true] at h4
        exact good j (List.contains_iff_mem.1 (h4 j (List.mem_range.2 hj)))
      have hlisted : listed = (Array.replicate l.length true).setIfInBounds l0.length false := by
        apply Array.ext
        · simp [hI.size]
        · intro j hj1 hj2
          by_cases hj : j = l0.length
          · subst hj
            have : listed[l0.length] = false := by simpa [Array.getD, hj1] using hlast0
            simp [this]
          · rw [Array.getElem_setIfInBounds_ne (by simpa using (by rw [← hI.size]; exact hj1)) (by omega)]
            rcases hall j (by rw [← hI.size]; exact hj1) with h | h
            · exact absurd h hj
            · simpa [Array.getD, hj1] using h
      have hrep : (listed.setIfInBounds l0.length true) = Array.replicate l.length true := by
        rw [hlisted]
        apply Array.ext
        · simp
        · intro j hj1 hj2
          by_cases hj : j = l0.length
          · subst hj; simp
          · rw [Array.getElem_setIfInBounds_ne (by simpa using hj2) (by omega), Array.getElem_setIfInBounds_ne (by simpa using hj2) (by omega)]
      have hready : Region.ready md l.toArray (Array.replicate l.length true) = [] := by
        cases hr : Region.ready md l.toArray (Array.replicate l.length true) with
        | nil => rfl
        | cons j js =>
          have hj : j ∈ Region.ready md l.toArray (Array.replicate l.length true) := by rw [hr]; exact List.mem_cons_self ..
          rw [mem_ready] at hj
          have hlt : j < l.length := by
            rcases Nat.lt_or_ge j l.length with h' | h'
            · exact h'
            · have := hj.1; simp [Array.getD, Nat.not_lt.2 h'] at this
          have := hj.1
          simp [Array.getD, hlt] at this
      have hop := hlast a W (by rw [← hlisted]; exact hI)
      refine wpOp_mono ?_ hop
      intro a' W' hQ
      rw [hrep]
      cases fuel with
      | zero => exact ⟨hready, hQ⟩
      | succ f => exact ⟨fun _ => hQ, fun i hi => by rw [hready] at hi; cases hi⟩
/-- THE REGION WHOSE LAST OPERATION MAY DO WHAT IT WANTS. -/
theorem wp_region_steps_then {id : Nat} {a0 : Act} {w : World} (Sp : Nat → Value → World → Prop) (B : Nat) (w0 : World) (hm : P.follows .mixedOrders = true) (hB : Below B w0 w) (hBw : B ≤ w.heap.size)
    (hst : ∀ i v W W', Sp i v W → Below W.heap.size W W' → Sp i v W') (h1 : single l = true) (h2 : within l a0.tmps.size = true) (h3 : aheadOps .any l = true) (h4 : covers .any l = true) (o0 : Oper) (ho0 : l.getLast? = some o0) (hs : Steps P .any Q l.dropLast l Sp B w0 a0 0 l.dropLast)
    (hlast : ∀ a W, Inv l.dropLast l Sp B w0 a0 ((Array.replicate l.length true).setIfInBounds (l.length - 1) false) a W → wpOp P l.toArray Q (l.length - 1) (fun a' W' => Q .normal a' W') a W) : (Code.region id l.toArray true).wp P Q a0 w := by
  refine wp_region_any hm ?_
  obtain ⟨l0, hl0⟩ : ∃ l0, l0 = l.dropLast := ⟨_, rfl⟩
  have hl : l = l0 ++ [o0] := by
    rw [hl0]
    obtain ⟨ys, h⟩ := List.getLast?_eq_some_iff.1 ho0
    conv => lhs; rw [h]
    rw [h, List.dropLast_concat]
  rw [← hl0] at hs hlast
  have hln : l.length - 1 = l0.length := by rw [hl]; simp
  rw [hln] at hlast
  have hlen : l.length = l0.length + 1 := by rw [hl]; simp
  have hfalse : ∀ i, (Array.replicate l.toArray.size false).getD i false = false := by
    intro i
    simp [Array.getD]
  refine wpAny_steps_then hst h1 h2 h3 h4 l0 o0 hl hs hlast _ _ _ _ ⟨by simp, hB.drew, hBw, rfl, rfl, fun _ _ => rfl, fun i x d _ hl _ => ?_⟩ ?_ ?_ ?_
  · rw [hfalse] at hl
    cases hl
  · have hlt : l0.length < (Array.replicate l.toArray.size false).size := by simp; omega
    simp [Array.getD, hlen]
  · intro i hi
    rw [hfalse] at hi
    cases hi
  · simp
end
end Go.Proofs.YtjlnihennlkmpaaGreatDoor

namespace Go.Proofs.YtjlnihennlkmpaaGreatDoor
open Go Go.RowKit
section
variable {P : Program} {Q : Exit → Act → World → Prop} {md : Region.Mode} {lo l : List Oper} {Sp : Nat → Value → World → Prop} {B : Nat} {w0 : World} {a0 : Act}
/-- What an operation finds. -/
structure Pre (md : Region.Mode) (lo l : List Oper) (Sp : Nat → Value → World → Prop) (B : Nat) (w0 : World) (a0 : Act) (o : Oper) (a : Act) (W : World) : Prop where
  below : Below B w0 W
  base : B ≤ W.heap.size
  old : ∀ j, (lo.all fun x => !(x.dst == some j)) = true → a.tmps.getD j undef = a0.tmps.getD j undef
  pre : ∀ e ∈ o.after.toList, Region.binds md e = true → ∀ x, l[e.on]? = some x → ∀ d, x.dst = some d → d < a.tmps.size ∧ Sp e.on (a.tmps.getD d undef) W
/-- The word of the k-th predecessor. -/
theorem Pre.at_ {o : Oper} {a : Act} {W : World} (h : Pre md lo l Sp B w0 a0 o a W) (k : Nat) {n : Nat} {x : Oper} {d : Tmp} (he : o.after.toList[k]?.map (fun e => (e.on, Region.binds md e)) = some (n, true)) (hx : l[n]? = some x) (hd : x.dst = some d) :
    d < a.tmps.size ∧ Sp n (a.tmps.getD d undef) W := by
  obtain ⟨e, he1, he2⟩ := Option.map_eq_some_iff.1 he
  injection he2 with h1 h2
  subst h1
  exact h.pre e (List.mem_of_getElem? he1) h2 x hx d hd
theorem Pre.on_ {o : Oper} {a : Act} {W : World} (h : Pre md lo l Sp B w0 a0 o a W) (n : Nat) {x : Oper} {d : Tmp} (he : (o.after.toList.any fun e => e.on == n && Region.binds md e) = true) (hx : l[n]? = some x) (hd : x.dst = some d) :
    d < a.tmps.size ∧ Sp n (a.tmps.getD d undef) W := by
  obtain ⟨e, he1, he2⟩ := List.any_eq_true.1 he
  rw [Bool.and_eq_true, beq_iff_eq] at he2
  obtain ⟨rfl, h2⟩ := he2
  exact h.pre e he1 h2 x hx d hd
theorem Step.of {i : Nat} {o : Oper} (h : ∀ a W, Pre md lo l Sp B w0 a0 o a W → wpOp P l.toArray Q i (fun a' W' => ∃ v, a' = a.put o.dst v ∧ Sp i v W' ∧ Below W.heap.size W W') a W) : Step P md Q lo l Sp B w0 a0 i o :=
  fun a W h1 h2 h3 h4 => h a W ⟨h1, h2, fun j hj => h3 j (fun x hx hd => by
    have := (List.all_eq_true.1 hj) x hx
    simp [hd] at this), h4⟩
theorem wpOp_of {i : Nat} {o : Oper} {a : Act} {W : World} {K : Act → World → Prop} (hi : l[i]? = some o) (hw : Region.wanted o (yielded l.toArray a.tmps) = true) (h : o.wp P a W K Q) : wpOp P l.toArray Q i K a W := by
  have hi' : l.toArray[i]? = some o := by simpa using hi
  unfold wpOp
  simp only [hi', hw, if_true]
  exact .inl h
theorem wanted_none {o : Oper} {f : Nat → Option Bool} (h : o.guard = none) : Region.wanted o f = true := by simp [Region.wanted, h]
/-- An operation that yields at once. -/
theorem step_value {i : Nat} {o : Oper} (hi : l[i]? = some o) (h : ∀ a W, Pre md lo l Sp B w0 a0 o a W → Region.wanted o (yielded l.toArray a.tmps) = true ∧ ∃ v W', (execOp a.eval o).run P W = .ok (.value v) W' ∧ Sp i v W' ∧ Below W.heap.size W W') :
    Step P md Q lo l Sp B w0 a0 i o := Step.of fun a W hp => by
  obtain ⟨hw, v, W', hr, hs, hb⟩ := h a W hp
  refine wpOp_of hi hw ?_
  unfold Oper.wp
  rw [hr]
  exact ⟨v, rfl, hs, hb⟩
/-- A call of a Go function. -/
theorem step_enter {i : Nat} {o : Oper} (hi : l[i]? = some o) (h : ∀ a W, Pre md lo l Sp B w0 a0 o a W → Region.wanted o (yielded l.toArray a.tmps) = true ∧ ∃ f args, (execOp a.eval o).run P W = .ok (.enter f args) W ∧ Calls P f args W fun e W' => ∃ v, e = .returned v ∧ Sp i v W' ∧ Below W.heap.size W W') :
    Step P md Q lo l Sp B w0 a0 i o := Step.of fun a W hp => by
  obtain ⟨hw, f, args, hr, hc⟩ := h a W hp
  refine wpOp_of hi hw ?_
  unfold Oper.wp
  rw [hr, Oper.upon_enter]
  refine hc.mono ?_
  rintro e W' ⟨v, rfl, hs, hb⟩
  exact ⟨v, rfl, hs, hb⟩
theorem run_move {o : Oper} {ρ : Operand → Value} {x : Operand} {W : World} (ho : o.op = .move x ∨ o.op = .assign x) : (execOp ρ o).run P W = .ok (.value (ρ x)) W := by
  rcases ho with ho | ho <;> simp [execOp, ho]
theorem run_enter2 {o : Oper} {ρ : Operand → Value} {f : FuncId} {x y : Operand} {ts : Array TypeId} {W : World} (ho : o.op = .call { callee := .value (.func f), args := #[x, y], argTypes := ts }) (hf : ρ (.func f) = .func (.func f) #[] #[]) (hcf : ∀ (args : Array Value) (w : World), (callFunc f args).run P w = .ok (.enter f args) w) :
    (execOp ρ o).run P W = .ok (.enter f #[ρ x, ρ y]) W := by
  simp [execOp, ho, resolve, hf, invoke, Deferred.ofValue, hcf]
theorem run_enter1 {o : Oper} {ρ : Operand → Value} {f : FuncId} {x : Operand} {ts : Array TypeId} {W : World} (ho : o.op = .call { callee := .value (.func f), args := #[x], argTypes := ts }) (hf : ρ (.func f) = .func (.func f) #[] #[]) (hcf : ∀ (args : Array Value) (w : World), (callFunc f args).run P w = .ok (.enter f args) w) :
    (execOp ρ o).run P W = .ok (.enter f #[ρ x]) W := by
  simp [execOp, ho, resolve, hf, invoke, Deferred.ofValue, hcf]
/-- A frame of slots, written out: what is not known of it is f. -/
theorem act_eta {a : Act} {n : Nat} (hs : a.tmps.size = n) (hd : a.defers = []) : ∃ f : Nat → Value, (∀ i, a.tmps.getD i undef = f i) ∧ a = { tmps := ((List.range n).map f).toArray, defers := [] } := by
  refine ⟨fun i => a.tmps.getD i undef, fun _ => rfl, ?_⟩
  obtain ⟨tmps, defers⟩ := a
  simp only at hs hd
  subst hd
  congr 1
  apply Array.ext
  · simp [hs]
  · intro i h1 h2
    simp [Array.getD, h1]
def wIs (c : Value) (v : Value) (_ : World) : Prop := v = c
def Stable (f : Value → World → Prop) : Prop := ∀ v W W', f v W → Below W.heap.size W W' → f v W'
theorem stable_is (c : Value) : Stable (wIs c) := fun _ _ _ h _ => h
/-- The words of a region, one an operation. -/
def words (ws : List (Value → World → Prop)) (i : Nat) : Value → World → Prop := (ws[i]?).getD (fun _ _ => True)
theorem words_stable {ws : List (Value → World → Prop)} (h : ∀ f ∈ ws, Stable f) : ∀ i v W W', words ws i v W → Below W.heap.size W W' → words ws i v W' := by
  intro i v W W' hv hb
  unfold words at *
  cases hi : ws[i]? with
  | none => simp
  | some f =>
    rw [hi] at hv
    exact h f (List.mem_of_getElem? hi) v W W' hv hb
theorem run_app {o : Oper} {ρ : Operand → Value} {s x : Operand} {t : TypeId} {v : Value} {W W' : World} (ho : o.op = .call { callee := .builtin .append, args := #[s, x], argTypes := #[t, t] }) (hr : (Builtin.append_ #[t, t] o.type #[ρ s, ρ x]).run P W = .ok v W') :
    (execOp ρ o).run P W = .ok (.value v) W' := by
  unfold execOp
  simp only [ho, resolve, invoke, builtin, Sem.run_bind, Sem.run_pure, Result.andThen_ok, List.map_toArray, List.map_cons, List.map_nil, hr]
end
end Go.Proofs.YtjlnihennlkmpaaGreatDoor

namespace Go.Proofs.YtjlnihennlkmpaaGreatDoor
open Go Go.RowKit
section
variable {P : Program} {Q : Exit → Act → World → Prop} {md : Region.Mode} {lo l : List Oper} {Sp : Nat → Value → World → Prop} {B : Nat} {w0 : World} {a0 : Act}
theorem run_bin3 {W : World} {o : Oper} {ρ : Operand → Value} {op : BinOp} {t t2 : TypeId} {x y : Operand} {v : Value} (ho : o.op = .binOp op t x y t2) (hg : (eqGuard op t x y (ρ x) (ρ y)).run P W = .ok () W) (h : (binOp op t (ρ x) (ρ y)).run P W = .ok v W) : (execOp ρ o).run P W = .ok (.value v) W := by
  simp [execOp, ho, hg, h, Result.andThen]
theorem wpOp_value {i : Nat} {o : Oper} {a : Act} {W W' : World} {K : Act → World → Prop} {v : Value} (hi : l[i]? = some o) (hw : Region.wanted o (yielded l.toArray a.tmps) = true) (hr : (execOp a.eval o).run P W = .ok (.value v) W') (h : K (a.put o.dst v) W') : wpOp P l.toArray Q i K a W := by
  refine wpOp_of hi hw ?_
  unfold Oper.wp
  rw [hr]
  exact h
/-- A whole row read. -/
theorem run_ldrow {W : World} {o : Oper} {ρ : Operand → Value} {ty : TypeId} {x : Operand} {g : Nat} {t : TypeId} {cs : Array Value} {fr : Nat × Nat} {d : TypeDesc} (ho : o.op = .load ty x) (hx : ρ x = .pointer (some ⟨g, 0, none⟩)) (hg : W.heap[g]? = some (.cells cs t fr))
    (hu : P.underlying ty = some d) (hd : (match d with | .struct _ | .array _ _ => true | _ => false) = true) (hi : (P.info? ty).map (·.size) = some cs.size) : (execOp ρ o).run P W = .ok (.value (.agg cs)) W := by
  unfold execOp
  simp only [ho, hx, Instr.loadAt, Instr.sureAddr, Sem.run_bind, Sem.run_pure, Result.andThen_ok, run_loadVar_row W g t ty cs fr d hg hu hd hi]
end
end Go.Proofs.YtjlnihennlkmpaaGreatDoor

namespace Go.Proofs.YtjlnihennlkmpaaGreatDoor
open Go Go.RowKit
section
variable {P : Program} {Q : Exit → Act → World → Prop} {md : Region.Mode} {lo l : List Oper} {Sp : Nat → Value → World → Prop} {Rel : World → World → Prop} {F : World → Prop} {kw : Nat} {w0 : World} {a0 : Act}
/-- What an operation finds. -/
structure PreG (md : Region.Mode) (lo l : List Oper) (Sp : Nat → Value → World → Prop) (Rel : World → World → Prop) (w0 : World) (a0 : Act) (o : Oper) (a : Act) (W : World) : Prop where
  rel : Rel w0 W
  old : ∀ j, (lo.all fun x => !(x.dst == some j)) = true → a.tmps.getD j undef = a0.tmps.getD j undef
  pre : ∀ e ∈ o.after.toList, Region.binds md e = true → ∀ x, l[e.on]? = some x → ∀ d, x.dst = some d → d < a.tmps.size ∧ Sp e.on (a.tmps.getD d undef) W
theorem PreG.on_ {o : Oper} {a : Act} {W : World} (h : PreG md lo l Sp Rel w0 a0 o a W) (n : Nat) {x : Oper} {d : Tmp} (he : (o.after.toList.any fun e => e.on == n && Region.binds md e) = true) (hx : l[n]? = some x) (hd : x.dst = some d) :
    d < a.tmps.size ∧ Sp n (a.tmps.getD d undef) W := by
  obtain ⟨e, he1, he2⟩ := List.any_eq_true.1 he
  rw [Bool.and_eq_true, beq_iff_eq] at he2
  obtain ⟨rfl, h2⟩ := he2
  exact h.pre e he1 h2 x hx d hd
def StepG (P : Program) (md : Region.Mode) (Q : Exit → Act → World → Prop) (lo l : List Oper) (Sp : Nat → Value → World → Prop) (Rel : World → World → Prop) (F : World → Prop) (kw : Nat) (w0 : World) (a0 : Act) (i : Nat) (o : Oper) : Prop :=
  ∀ (a : Act) (W : World), PreG md lo l Sp Rel w0 a0 o a W → (i = kw → F W) → wpOp P l.toArray Q i (fun a' W' => ∃ v, a' = a.put o.dst v ∧ Sp i v W' ∧ (i = kw → Rel W W') ∧ (i ≠ kw → Below W.heap.size W W')) a W
def StepsG (P : Program) (md : Region.Mode) (Q : Exit → Act → World → Prop) (lo l : List Oper) (Sp : Nat → Value → World → Prop) (Rel : World → World → Prop) (F : World → Prop) (kw : Nat) (w0 : World) (a0 : Act) : Nat → List Oper → Prop
  | _, [] => True
  | i, o :: r => StepG P md Q lo l Sp Rel F kw w0 a0 i o ∧ StepsG P md Q lo l Sp Rel F kw w0 a0 (i + 1) r
theorem StepsG.cons {i : Nat} {o : Oper} {r : List Oper} (h : StepG P md Q lo l Sp Rel F kw w0 a0 i o) (hr : StepsG P md Q lo l Sp Rel F kw w0 a0 (i + 1) r) : StepsG P md Q lo l Sp Rel F kw w0 a0 i (o :: r) := ⟨h, hr⟩
theorem StepsG.nil {i : Nat} : StepsG P md Q lo l Sp Rel F kw w0 a0 i [] := trivial
theorem StepsG.at_ : ∀ (r : List Oper) (i : Nat), StepsG P md Q lo l Sp Rel F kw w0 a0 i r → ∀ (k : Nat) (o : Oper), r[k]? = some o → StepG P md Q lo l Sp Rel F kw w0 a0 (i + k) o
  | [], _, _, k, o, h => by simp at h
  | x :: r, i, hs, 0, o, h => by
    simp only [List.getElem?_cons_zero, Option.some.injEq] at h
    subst h
    exact hs.1
  | x :: r, i, hs, k + 1, o, h => by
    have := StepsG.at_ r (i + 1) hs.2 k o (by simpa using h)
    rwa [show i + 1 + k = i + (k + 1) by omega] at this
structure InvG (lo l : List Oper) (Sp : Nat → Value → World → Prop) (Rel : World → World → Prop) (F : World → Prop) (kw : Nat) (w0 : World) (a0 : Act) (listed : Array Bool) (a : Act) (W : World) : Prop where
  size : listed.size = l.length
  rel : Rel w0 W
  fst : listed.getD kw false = false → F W
  defers : a.defers = a0.defers
  tmps : a.tmps.size = a0.tmps.size
  old : ∀ j, (∀ x ∈ lo, x.dst ≠ some j) → a.tmps.getD j undef = a0.tmps.getD j undef
  new : ∀ i x d, l[i]? = some x → listed.getD i false = true → x.dst = some d → Sp i (a.tmps.getD d undef) W
theorem InvG.step (hRt : ∀ a b c, Rel a b → Rel b c → Rel a c) (hRb : ∀ W W', Below W.heap.size W W' → Rel W W') (hF : ∀ W W', F W → Below W.heap.size W W' → F W')
    (hst : ∀ i v W W', Sp i v W → Below W.heap.size W W' → Sp i v W') (hsr : ∀ i v W W', i ≠ kw → Sp i v W → Rel W W' → Sp i v W') (h1 : single l = true) (h2 : within l a0.tmps.size = true) (hkw : kw < l.length)
    {listed : Array Bool} {a : Act} {W : World} (h : InvG lo l Sp Rel F kw w0 a0 listed a W) {i : Nat} {o : Oper} (hi : l[i]? = some o) (hlo : o ∈ lo) (hun : listed.getD i false = false) {v : Value} {W' : World} (hv : Sp i v W') (hr : i = kw → Rel W W') (hb : i ≠ kw → Below W.heap.size W W') :
    InvG lo l Sp Rel F kw w0 a0 (listed.setIfInBounds i true) (a.put o.dst v) W' := by
  have hrel : Rel W W' := by
    by_cases e : i = kw
    · exact hr e
    · exact hRb _ _ (hb e)
  refine ⟨by simpa using h.size, hRt _ _ _ h.rel hrel, fun hk => ?_, put_defers.trans h.defers, put_size.trans h.tmps, fun j hj => ?_, fun k x d hk hl hd => ?_⟩
  · by_cases e : i = kw
    · subst e
      have hlt : i < listed.size := by rw [h.size]; exact hkw
      simp [Array.getD, hlt] at hk
    · rw [getD_set_ne _ e] at hk
      exact hF _ _ (h.fst hk) (hb e)
  · rw [put_other (hj o hlo), h.old j hj]
  · by_cases hki : k = i
    · subst hki
      rw [hi] at hk
      injection hk with hk
      subst hk
      rw [hd, put_same (by rw [h.tmps]; exact within_spec h2 (List.mem_of_getElem? hi) hd)]
      exact hv
    · rw [put_other (fun e => hki (single_spec h1 hk hi hd e))]
      rw [getD_set_ne _ (Ne.symm hki)] at hl
      by_cases e : i = kw
      · exact hsr _ _ _ _ (by rw [← e]; exact hki) (h.new k x d hk hl hd) (hr e)
      · exact hst _ _ _ _ (h.new k x d hk hl hd) (hb e)
theorem wpAny_stepsG_then (hRt : ∀ a b c, Rel a b → Rel b c → Rel a c) (hRb : ∀ W W', Below W.heap.size W W' → Rel W W') (hF : ∀ W W', F W → Below W.heap.size W W' → F W')
    (hst : ∀ i v W W', Sp i v W → Below W.heap.size W W' → Sp i v W') (hsr : ∀ i v W W', i ≠ kw → Sp i v W → Rel W W' → Sp i v W') (h1 : single l = true) (h2 : within l a0.tmps.size = true) (h3 : aheadOps md l = true) (h4 : covers md l = true) (l0 : List Oper) (o0 : Oper) (hl : l = l0 ++ [o0]) (hkw : kw < l.length) (hs : StepsG P md Q l0 l Sp Rel F kw w0 a0 0 l0)
    (hlast : ∀ a W, InvG l0 l Sp Rel F kw w0 a0 ((Array.replicate l.length true).setIfInBounds l0.length false) a W → wpOp P l.toArray Q l0.length (fun a' W' => Q .normal a' W') a W) :
    ∀ (fuel : Nat) (listed : Array Bool) (a : Act) (W : World), InvG l0 l Sp Rel F kw w0 a0 listed a W → listed.getD l0.length true = false →
      (∀ i, listed.getD i false = true → ∀ o, l[i]? = some o → ∀ e ∈ o.after.toList, Region.binds md e = true → listed.getD e.on false = true) → listed.toList.count false ≤ fuel → wpAny P md l.toArray Q fuel listed a W := by
  have hlen : l.length = l0.length + 1 := by rw [hl]; simp
  have hol : l[l0.length]? = some o0 := by rw [hl]; simp
  -- there is always one that may come up
  have some_ready : ∀ (listed : Array Bool), listed.size = l.length → listed.getD l0.length true = false → Region.ready md l.toArray listed ≠ [] := by
    intro listed hsz hlast0 hr
    have all : ∀ n i, i < n → i < l.length → listed.getD i false = true := by
      intro n
      induction n with
      | zero => intro i hi; omega
      | succ n ih =>
        intro i hi hil
        by_cases hin : i < n
        · exact ih i hin hil
        · cases hb : listed.getD i false with
          | true => rfl
          | false =>
            have hlt : i < listed.size := by omega
            have hmem : i ∈ Region.ready md l.toArray listed := by
              rw [mem_ready]
              refine ⟨by simpa [Array.getD, hlt] using hb, l[i], by simp [hil], fun e he hbe => ?_⟩
              have hlt' := aheadOps_spec h3 (i := i) (o := l[i]) (by simp [hil]) (Array.mem_toList_iff.2 he) hbe
              exact ih e.on (by omega) (by omega)
            rw [hr] at hmem
            cases hmem
    have hlt : l0.length < listed.size := by omega
    have := all (l0.length + 1) l0.length (Nat.lt_succ_self _) (by omega)
    simp [Array.getD, hlt] at this hlast0
    rw [this] at hlast0
    cases hlast0
  intro fuel
  induction fuel with
  | zero =>
    intro listed a W hI hlast0 _ hc
    exfalso
    have hlt : l0.length < listed.size := by rw [hI.size]; omega
    have hv : listed[l0.length] = false := by simpa [Array.getD, hlt] using hlast0
    have hpos : 0 < listed.toList.count false := List.count_pos_iff.2 (by rw [← hv]; simp)
    omega
  | succ fuel ih =>
    intro listed a W hI hlast0 hcl hc
    refine ⟨fun hr => absurd hr (some_ready listed hI.size hlast0), fun i hi => ?_⟩
    rw [mem_ready] at hi
    obtain ⟨hf, o, ho, hpre⟩ := hi
    have hio : l[i]? = some o := by simpa using ho
    have hil : i < l.length := (List.getElem?_eq_some_iff.1 hio).1
    by_cases hi0 : i < l0.length
    · have hio0 : l0[i]? = some o := by
        rw [hl, List.getElem?_append_left hi0] at hio
        exact hio
      have hst' := StepsG.at_ l0 0 hs i o hio0
      rw [Nat.zero_add] at hst'
      have hun : listed.getD i false = false := by
        have hlt : i < listed.size := by rw [hI.size]; exact hil
        simpa [Array.getD, hlt] using hf
      refine wpOp_mono ?_ (hst' a W ⟨hI.rel, fun j hj => hI.old j (fun x hx hd => by
        have := (List.all_eq_true.1 hj) x hx
        simp [hd] at this), fun e he hb x hx d hd => ⟨by rw [hI.tmps]; exact within_spec h2 (List.mem_of_getElem? hx) hd, hI.new e.on x d hx (hpre e (Array.mem_toList_iff.1 he) hb) hd⟩⟩ (fun e => hI.fst (by rw [← e]; exact hun)))
      rintro a' W' ⟨v, rfl, hv, hr, hb⟩
      have := count_set hf
      refine ih _ _ _ (hI.step hRt hRb hF hst hsr h1 h2 hkw hio (List.mem_of_getElem? hio0) hun hv hr hb) ?_ ?_ (by omega)
      · simp only [Array.getD, Array.size_setIfInBounds]
        have hlt : l0.length < listed.size := by rw [hI.size]; omega
        simp only [hlt, dite_true]
        rw [Array.getInternal_eq_getElem, Array.getElem_setIfInBounds_ne (by assumption) (by omega)]
        simpa [Array.getD, hlt] using hlast0
      · intro j hj x hx e he hb'
        have mono : ∀ k, listed.getD k false = true → (listed.setIfInBounds i true).getD k false = true := by
          intro k hk
          by_cases hki : k = i
          · subst hki
            have hlt : k < listed.size := by rw [hI.size]; omega
            simp [Array.getD, hlt]
          · rw [getD_set_ne _ (Ne.symm hki)]
            exact hk
        by_cases hji : j = i
        · subst hji
          rw [hio] at hx
          injection hx with hx
          subst hx
          exact mono _ (hpre e (Array.mem_toList_iff.1 he) hb')
        · rw [getD_set_ne _ (Ne.symm hji)] at hj
          exact mono _ (hcl j hj x hx e he hb')
    · obtain rfl : i = l0.length := by omega
      rw [hol] at hio
      injection hio with hio
      subst hio
      have good := reaches_good md l (fun i => i = l0.length ∨ listed.getD i false = true) (fun j hj x hx e he hb => by
        rcases hj with rfl | hj
        · rw [hol] at hx
          injection hx with hx
          subst hx
          exact .inr (hpre e (Array.mem_toList_iff.1 he) hb)
        · exact .inr (hcl j hj x hx e he hb)) l.length [l.length - 1] (fun j hj => by
          rw [List.mem_singleton] at hj
          exact .inl (by omega))
      have hall : ∀ j, j < l.length → j = l0.length ∨ listed.getD j false = true := by
        intro j hj
        unfold covers at h4
        rw [List.all_eq_true] at h4
        exact good j (List.contains_iff_mem.1 (h4 j (List.mem_range.2 hj)))
      have hlisted : listed = (Array.replicate l.length true).setIfInBounds l0.length false := by
        apply Array.ext
        · simp [hI.size]
        · intro j hj1 hj2
          by_cases hj : j = l0.length
          · subst hj
            have : listed[l0.length] = false := by simpa [Array.getD, hj1] using hlast0
            simp [this]
          · rw [Array.getElem_setIfInBounds_ne (by simpa using (by rw [← hI.size]; exact hj1)) (by omega)]
            rcases hall j (by rw [← hI.size]; exact hj1) with h | h
            · exact absurd h hj
            · simpa [Array.getD, hj1] using h
      have hrep : (listed.setIfInBounds l0.length true) = Array.replicate l.length true := by
        rw [hlisted]
        apply Array.ext
        · simp
        · intro j hj1 hj2
          by_cases hj : j = l0.length
          · subst hj; simp
          · rw [Array.getElem_setIfInBounds_ne (by simpa using hj2) (by omega), Array.getElem_setIfInBounds_ne (by simpa using hj2) (by omega)]
      have hready : Region.ready md l.toArray (Array.replicate l.length true) = [] := by
        cases hr : Region.ready md l.toArray (Array.replicate l.length true) with
        | nil => rfl
        | cons j js =>
          have hj : j ∈ Region.ready md l.toArray (Array.replicate l.length true) := by rw [hr]; exact List.mem_cons_self ..
          rw [mem_ready] at hj
          have hlt : j < l.length := by
            rcases Nat.lt_or_ge j l.length with h' | h'
            · exact h'
            · have := hj.1; simp [Array.getD, Nat.not_lt.2 h'] at this
          have := hj.1
          simp [Array.getD, hlt] at this
      have hop := hlast a W (by rw [← hlisted]; exact hI)
      refine wpOp_mono ?_ hop
      intro a' W' hQ
      rw [hrep]
      cases fuel with
      | zero => exact ⟨hready, hQ⟩
      | succ f => exact ⟨fun _ => hQ, fun i hi => by rw [hready] at hi; cases hi⟩
/-- THE REGION WHOSE LAST OPERATION MAY DO WHAT IT WANTS. -/
theorem wp_region_stepsG_then {id : Nat} {a0 : Act} {w : World} (Sp : Nat → Value → World → Prop) (Rel : World → World → Prop) (F : World → Prop) (kw : Nat) (hm : P.follows .mixedOrders = true)
    (hRt : ∀ a b c, Rel a b → Rel b c → Rel a c) (hRb : ∀ W W', Below W.heap.size W W' → Rel W W') (hF : ∀ W W', F W → Below W.heap.size W W' → F W') (hF0 : F w)
    (hst : ∀ i v W W', Sp i v W → Below W.heap.size W W' → Sp i v W') (hsr : ∀ i v W W', i ≠ kw → Sp i v W → Rel W W' → Sp i v W') (h1 : single l = true) (h2 : within l a0.tmps.size = true) (h3 : aheadOps .any l = true) (h4 : covers .any l = true) (hkw : kw < l.length) (n : Nat) (o0 : Oper) (ho0 : l[n]? = some o0) (hln : l.length = n + 1) (hs : StepsG P .any Q (l.take n) l Sp Rel F kw w a0 0 (l.take n))
    (hlast : ∀ a W, InvG (l.take n) l Sp Rel F kw w a0 ((Array.replicate l.length true).setIfInBounds n false) a W → wpOp P l.toArray Q n (fun a' W' => Q .normal a' W') a W) : (Code.region id l.toArray true).wp P Q a0 w := by
  obtain ⟨l0, hl0⟩ : ∃ l0, l0 = l.take n := ⟨_, rfl⟩
  rw [← hl0] at hs hlast
  have hn : l0.length = n := by rw [hl0, List.length_take]; omega
  have hl : l = l0 ++ [o0] := by
    have e0 : l[n]'(by omega) = o0 := by rw [List.getElem?_eq_getElem (by omega)] at ho0; exact Option.some.inj ho0
    conv => lhs; rw [← List.take_append_drop n l]
    rw [← hl0, List.drop_eq_getElem_cons (by omega), List.drop_of_length_le (by omega), e0]
  clear hl0 ho0 hln
  subst hn
  refine wp_region_any hm ?_
  have hlen : l.length = l0.length + 1 := by rw [hl]; simp
  have hfalse : ∀ i, (Array.replicate l.toArray.size false).getD i false = false := by
    intro i
    simp [Array.getD]
  have hd : Below w.heap.size w w.drew := (Below.refl _ _).drew
  refine wpAny_stepsG_then hRt hRb hF hst hsr h1 h2 h3 h4 l0 o0 hl hkw hs hlast _ _ _ _ ⟨by simp, hRb _ _ hd, fun _ => hF _ _ hF0 hd, rfl, rfl, fun _ _ => rfl, fun i x d _ hl _ => ?_⟩ ?_ ?_ ?_
  · rw [hfalse] at hl
    cases hl
  · simp [Array.getD, hlen]
  · intro i hi
    rw [hfalse] at hi
    cases hi
  · simp
/-- An operation that yields at once, and is not kw. -/
theorem stepG_value {i : Nat} {o : Oper} (hne : i ≠ kw) (hi : l[i]? = some o) (h : ∀ a W, PreG md lo l Sp Rel w0 a0 o a W → Region.wanted o (yielded l.toArray a.tmps) = true ∧ ∃ v W', (execOp a.eval o).run P W = .ok (.value v) W' ∧ Sp i v W' ∧ Below W.heap.size W W') :
    StepG P md Q lo l Sp Rel F kw w0 a0 i o := fun a W hp _ => by
  obtain ⟨hw, v, W', hr, hs, hb⟩ := h a W hp
  exact wpOp_value hi hw hr ⟨v, rfl, hs, fun e => absurd e hne, fun _ => hb⟩
/-- A call that only makes memory. -/
theorem stepG_enter {i : Nat} {o : Oper} (hne : i ≠ kw) (hi : l[i]? = some o) (h : ∀ a W, PreG md lo l Sp Rel w0 a0 o a W → Region.wanted o (yielded l.toArray a.tmps) = true ∧ ∃ f args, (execOp a.eval o).run P W = .ok (.enter f args) W ∧ Calls P f args W fun e W' => ∃ v, e = .returned v ∧ Sp i v W' ∧ Below W.heap.size W W') :
    StepG P md Q lo l Sp Rel F kw w0 a0 i o := fun a W hp _ => by
  obtain ⟨hw, f, args, hr, hc⟩ := h a W hp
  refine wpOp_of hi hw ?_
  unfold Oper.wp
  rw [hr, Oper.upon_enter]
  refine hc.mono ?_
  rintro e W' ⟨v, rfl, hs, hb⟩
  exact ⟨v, rfl, hs, fun e => absurd e hne, fun _ => hb⟩
/-- THE CALL that turns the object. -/
theorem stepG_turn {o : Oper} (hi : l[kw]? = some o) (h : ∀ a W, PreG md lo l Sp Rel w0 a0 o a W → F W → Region.wanted o (yielded l.toArray a.tmps) = true ∧ ∃ f args, (execOp a.eval o).run P W = .ok (.enter f args) W ∧ Calls P f args W fun e W' => ∃ v, e = .returned v ∧ Sp kw v W' ∧ Rel W W') :
    StepG P md Q lo l Sp Rel F kw w0 a0 kw o := fun a W hp hF => by
  obtain ⟨hw, f, args, hr, hc⟩ := h a W hp (hF rfl)
  refine wpOp_of hi hw ?_
  unfold Oper.wp
  rw [hr, Oper.upon_enter]
  refine hc.mono ?_
  rintro e W' ⟨v, rfl, hs, hb⟩
  exact ⟨v, rfl, hs, fun _ => hb, fun e => absurd rfl e⟩
end
end Go.Proofs.YtjlnihennlkmpaaGreatDoor

namespace Go.Proofs.YtjlnihennlkmpaaGreatDoor
open Go Go.RowKit
/-- An expression's value, all of it from block B on. -/
def wEx (B : Nat) (t : Ex) (v : Value) (W : World) : Prop := ∃ o m n a x l cc, v = exV o m n a x l cc ∧ IsE B W o m n a x l cc t
theorem stable_ex (B : Nat) (t : Ex) : Stable (wEx B t) := fun _ _ _ ⟨o, m, n, a, x, l, cc, h1, h2⟩ hb => ⟨o, m, n, a, x, l, cc, h1, h2.below hb⟩
/-- A word that what turns the parser alone lets stand. -/
def StableR (gp : Nat) (f : Value → World → Prop) : Prop := ∀ v W W', f v W → W.grownBy W' (some gp) → f v W'
theorem stableR_ex (gp B : Nat) (hB : gp < B) (t : Ex) : StableR gp (wEx B t) := fun _ _ _ ⟨o, m, n, a, x, l, cc, h1, h2⟩ hb => ⟨o, m, n, a, x, l, cc, h1, h2.grown hb hB⟩
theorem run_enter3 {P : Program} {o : Oper} {ρ : Operand → Value} {f : FuncId} {x y z : Operand} {ts : Array TypeId} {W : World} (ho : o.op = .call { callee := .value (.func f), args := #[x, y, z], argTypes := ts }) (hf : ρ (.func f) = .func (.func f) #[] #[]) (hcf : ∀ (args : Array Value) (w : World), (callFunc f args).run P w = .ok (.enter f args) w) :
    (execOp ρ o).run P W = .ok (.enter f #[ρ x, ρ y, ρ z]) W := by
  simp [execOp, ho, resolve, hf, invoke, Deferred.ofValue, hcf]
theorem bin_add1 {P : Program} {W : World} {t : TypeId} (d : Nat) (hd : d < 1000) : (binOp .add t (.int .i64 (d : Int)) (.int .i64 1)).run P W = .ok (.int .i64 ((d : Int) + 1)) W := by
  simp [go_sem, IntKind.wrap_i64]
  omega
theorem gbt (gp : Nat) (a b c : World) (h : a.grownBy b (some gp)) (k : b.grownBy c (some gp)) : a.grownBy c (some gp) := gb_trans h k
theorem gbb (gp : Nat) (W W' : World) (h : Below W.heap.size W W') : W.grownBy W' (some gp) := gb_below h
end Go.Proofs.YtjlnihennlkmpaaGreatDoor

namespace Go.Proofs.YtjlnihennlkmpaaGreatDoor
open Go Go.RowKit
theorem run_bld {P : Program} {o : Oper} {ρ : Operand → Value} {t : TypeId} {parts : Array (Nat × Operand)} {v : Value} {W W' : World} (ho : o.op = .build t parts) (h : (Instr.build t (parts.map fun (i, x) => (i, ρ x))).run P W = .ok v W') : (execOp ρ o).run P W = .ok (.value v) W' := by
  simp only [execOp, ho]
  simp [h, Result.andThen]
theorem run_bsl {P : Program} {o : Oper} {ρ : Operand → Value} {t : TypeId} {n : Nat} {parts : Array (Nat × Operand)} {v : Value} {W W' : World} (ho : o.op = .buildSlice t n parts) (h : (Instr.buildSlice t n (parts.map fun (i, x) => (i, ρ x))).run P W = .ok v W') : (execOp ρ o).run P W = .ok (.value v) W' := by
  simp only [execOp, ho]
  simp [h, Result.andThen]
theorem run_bld3 {P : Program} {o : Oper} {ρ : Operand → Value} {t : TypeId} {i j k : Nat} {x y z : Operand} {v : Value} {W W' : World} (ho : o.op = .build t #[(i, x), (j, y), (k, z)]) (h : (Instr.build t #[(i, ρ x), (j, ρ y), (k, ρ z)]).run P W = .ok v W') : (execOp ρ o).run P W = .ok (.value v) W' := run_bld ho (by simpa using h)
theorem run_bsl1 {P : Program} {o : Oper} {ρ : Operand → Value} {t : TypeId} {i : Nat} {x : Operand} {v : Value} {W W' : World} (ho : o.op = .buildSlice t 1 #[(i, x)]) (h : (Instr.buildSlice t 1 #[(i, ρ x)]).run P W = .ok v W') : (execOp ρ o).run P W = .ok (.value v) W' := run_bsl ho (by simpa using h)
theorem gb_cell {w w' : World} {gp b j : Nat} (h : w.grownBy w' (some gp)) (hb : b < w.heap.size) (hne : b ≠ gp) : w'.cell? ⟨b, j, none⟩ = w.cell? ⟨b, j, none⟩ := by
  simp only [World.cell?, h.block b hb (by intro e; injection e with e; exact hne e)]
theorem build_one (s : ByteArray) (a : Int) (x : Option Addr) (l c : Nat) (W : World) : (Instr.build 54 #[(0, .string s), (3, .int .i64 a), (4, .slice x l c)]).run Tryz.prog W = .ok (.agg #[.string s, .string ⟨#[]⟩, .int .i64 0, .int .i64 a, .slice x l c]) W := by kernel_rfl
theorem slice_one (o m : ByteArray) (n a : Int) (x : Option Addr) (l c : Nat) (W : World) : (Instr.buildSlice 52 1 #[(0, .agg #[.string o, .string m, .int .i64 n, .int .i64 a, .slice x l c])]).run Tryz.prog W = .ok (.slice (some ⟨W.heap.size, 0, none⟩) 1 1) (W.alloc (.cells #[.string o, .string m, .int .i64 n, .int .i64 a, .slice x l c] 54)) := by kernel_rfl
theorem run_fa {P : Program} {o : Oper} {ρ : Operand → Value} {t : TypeId} {x : Operand} {k : Nat} {v : Value} {W W' : World} (ho : o.op = .fieldAddr t x k) (h : (Instr.fieldAt t (ρ x) k).run P W = .ok v W') : (execOp ρ o).run P W = .ok (.value v) W' := by
  simp only [execOp, ho]
  simp [h, Result.andThen]
theorem fa_word1 (g : Nat) (W : World) : (Instr.fieldAt 77 (.pointer (some ⟨g, 0, none⟩)) 1).run Tryz.prog W = .ok (.pointer (some ⟨g, 1, none⟩)) W := by kernel_rfl
theorem fa_word3 (g : Nat) (W : World) : (Instr.fieldAt 77 (.pointer (some ⟨g, 0, none⟩)) 3).run Tryz.prog W = .ok (.pointer (some ⟨g, 3, none⟩)) W := by kernel_rfl
theorem size_str : (Tryz.prog.info? 9).map (·.size) = some 1 := by kernel_rfl
theorem size_int : (Tryz.prog.info? 3).map (·.size) = some 1 := by kernel_rfl
theorem run_ldstr {o : Oper} {ρ : Operand → Value} {x : Operand} {a : Addr} {s : ByteArray} {W : World} (ho : o.op = .load 9 x) (hx : ρ x = .pointer (some a)) (hc : W.cell? a = some (.string s)) : (execOp ρ o).run Tryz.prog W = .ok (.value (.string s)) W := by
  cases hi : Tryz.prog.info? 9 with
  | none => have h := size_str; simp [hi] at h
  | some i =>
    have hs := size_str
    simp [hi] at hs
    simp [execOp, ho, hx, Instr.loadAt, hc, sizeOf, typeInfo, hi, hs, Result.andThen, go_sem, isAgg, run_underlying Tryz.underlying9]
theorem run_ldint {o : Oper} {ρ : Operand → Value} {x : Operand} {a : Addr} {s : Int} {W : World} (ho : o.op = .load 3 x) (hx : ρ x = .pointer (some a)) (hc : W.cell? a = some (.int .i64 s)) : (execOp ρ o).run Tryz.prog W = .ok (.value (.int .i64 s)) W := by
  cases hi : Tryz.prog.info? 3 with
  | none => have h := size_int; simp [hi] at h
  | some i =>
    have hs := size_int
    simp [hi] at hs
    simp [execOp, ho, hx, Instr.loadAt, hc, sizeOf, typeInfo, hi, hs, Result.andThen, go_sem, isAgg, run_underlying Tryz.underlying3]
/-- A slice of one expression, all of it from block B on. -/
def wSl (B : Nat) (t : Ex) (v : Value) (W : World) : Prop := ∃ g, v = .slice (some ⟨g, 0, none⟩) 1 1 ∧ B ≤ g ∧ g < W.heap.size ∧ IsL B W g 0 [t]
theorem stable_sl (B : Nat) (t : Ex) : Stable (wSl B t) := fun _ _ _ ⟨g, h1, h2, h3, h4⟩ hb => ⟨g, h1, h2, Nat.lt_of_lt_of_le h3 hb.size, h4.keep hb.size (fun k _ hl => hb.block k hl) h2 h3 _ _⟩
theorem stableR_sl (gp B : Nat) (hB : gp < B) (t : Ex) : StableR gp (wSl B t) := fun _ _ _ ⟨g, h1, h2, h3, h4⟩ hb => ⟨g, h1, h2, Nat.lt_of_lt_of_le h3 hb.size, h4.keep hb.size (fun k hk hl => hb.block k hl (by intro e; injection e with e; omega)) h2 h3 _ _⟩
theorem wSl_new {B : Nat} {t : Ex} {o m : ByteArray} {n a : Int} {x : Option Addr} {l c : Nat} {W : World} (hB : B ≤ W.heap.size) (h : IsE B W o m n a x l c t) : wSl B t (.slice (some ⟨W.heap.size, 0, none⟩) 1 1) (W.alloc (.cells #[.string o, .string m, .int .i64 n, .int .i64 a, .slice x l c] 54)) := by
  have hn := heap_alloc_new W (.cells #[.string o, .string m, .int .i64 n, .int .i64 a, .slice x l c] 54)
  have hcell : ∀ (j : Nat) (v : Value), (#[.string o, .string m, .int .i64 n, .int .i64 a, .slice x l c] : Array Value)[j]? = some v → (W.alloc (.cells #[.string o, .string m, .int .i64 n, .int .i64 a, .slice x l c] 54)).cell? ⟨W.heap.size, j, none⟩ = some v := fun j v hv => by
    simp only [World.cell?, hn]
    exact hv
  refine ⟨_, rfl, hB, by simp, ?_⟩
  unfold IsL
  refine ⟨⟨o, m, n, a, x, l, c, hcell 0 _ rfl, hcell 1 _ rfl, hcell 2 _ rfl, hcell 3 _ rfl, hcell 4 _ rfl, h.below ((Below.refl _ _).alloc (Nat.le_refl _) _)⟩, ?_⟩
  unfold IsL
  trivial
theorem wEx_one {B : Nat} {t : Ex} {W : World} {s : ByteArray} {a : Nat} {v : Value} (h : wSl B t v W) : ∃ x, v = .slice x 1 1 ∧ wEx B (.mk s ⟨#[]⟩ 0 a [t]) (.agg #[.string s, .string ⟨#[]⟩, .int .i64 0, .int .i64 (a : Int), .slice x 1 1]) W := by
  obtain ⟨g, h1, h2, h3, h4⟩ := h
  refine ⟨_, h1, _, _, _, _, _, _, _, rfl, ?_⟩
  unfold IsE
  exact ⟨rfl, rfl, rfl, rfl, rfl, fun _ => ⟨g, rfl, h2, h3, h4⟩⟩
end Go.Proofs.YtjlnihennlkmpaaGreatDoor

namespace Go.Proofs.YtjlnihennlkmpaaGreatDoor
open Go Go.RowKit
/-- The words' list ends in the only one of kind 0, whose text is empty. -/
structure GoodE (L : List Wd) : Prop where
  good : Good L
  empty : ∀ i, i < L.length → (L.getD i noWd).kind = 0 → (L.getD i noWd).text.data.toList = []
  few : L.length < 100000
theorem kind_of_is {L : List Wd} (hG : GoodE L) {st : St} (h : st.i < L.length) {s : ByteArray} (hs : s.data.toList ≠ []) (hi : isS L s st = true) : (cur L st).kind ≠ 0 := fun hk => by
  have := hG.empty st.i h hk
  unfold isS at hi
  rw [beq_iff_eq] at hi
  rw [show (cur L st).text.data.toList = [] from this] at hi
  exact hs hi.symm
theorem kind_of_has {L : List Wd} (hG : GoodE L) {st : St} (h : st.i < L.length) {ops : List ByteArray} (hs : ∀ o ∈ ops, o.data.toList ≠ []) (hi : hasS L ops st = true) : (cur L st).kind ≠ 0 := fun hk => by
  have := hG.empty st.i h hk
  rw [hasS_eq, Lib.containsS_iff] at hi
  exact hs _ hi this
theorem nextS_le (L : List Wd) (st : St) : st.i ≤ (nextS L st).i := by
  unfold nextS; split
  · exact Nat.le_refl _
  · show st.i ≤ st.i + 1; omega
theorem nextS_lt {L : List Wd} {st : St} (hk : (cur L st).kind ≠ 0) : (nextS L st).i = st.i + 1 := by
  unfold nextS; rw [if_neg hk]
theorem nextS_in {L : List Wd} (hG : Good L) {st : St} (h : st.i < L.length) : (nextS L st).i < L.length := by
  unfold nextS; split
  · exact h
  · rename_i hk; exact hG.2 st.i h hk
theorem nextS_parts (L : List Wd) (st : St) : (nextS L st).parts = st.parts := by unfold nextS; split <;> rfl
theorem nextS_names (L : List Wd) (st : St) : (nextS L st).names = st.names := by unfold nextS; split <;> rfl
theorem failS_le {L : List Wd} {st : St} (err : Nat) (h : st.i < L.length) : st.i ≤ (failS L err st).i := by
  unfold failS; split
  · show st.i ≤ L.length - 1; omega
  · exact Nat.le_refl _
theorem askS_le {L : List Wd} {st : St} (d : Nat) (h : st.i < L.length) : st.i ≤ (askS L d st).i := by
  unfold askS; split
  · exact failS_le 2 h
  · exact Nat.le_refl _
theorem askS_in {L : List Wd} {st : St} (d : Nat) (h : st.i < L.length) : (askS L d st).i < L.length := by
  unfold askS; split
  · exact failS_lt 2 h
  · exact h
theorem askS_parts (L : List Wd) (st : St) (d : Nat) : (askS L d st).parts = st.parts := by
  unfold askS; split
  · exact failS_parts L st 2
  · rfl
theorem takeS_le (L : List Wd) (s : ByteArray) (st : St) : st.i ≤ (takeS L s st).2.i := by
  unfold takeS; split
  · exact nextS_le L st
  · exact Nat.le_refl _
theorem takeS_parts (L : List Wd) (s : ByteArray) (st : St) : (takeS L s st).2.parts = st.parts := by
  unfold takeS; split
  · exact nextS_parts L st
  · rfl
theorem takeS_in {L : List Wd} (hG : Good L) (s : ByteArray) {st : St} (h : st.i < L.length) : (takeS L s st).2.i < L.length := by
  unfold takeS; split
  · exact nextS_in hG h
  · exact h
theorem needS_le {L : List Wd} (s : ByteArray) {st : St} (h : st.i < L.length) : st.i ≤ (needS L s st).i := by
  unfold needS; split
  · exact nextS_le L st
  · exact failS_le 7 h
theorem needS_in {L : List Wd} (hG : Good L) (s : ByteArray) {st : St} (h : st.i < L.length) : (needS L s st).i < L.length := by
  unfold needS; split
  · exact nextS_in hG h
  · exact failS_lt 7 h
theorem needS_parts (L : List Wd) (s : ByteArray) (st : St) : (needS L s st).parts = st.parts := by
  unfold needS; split
  · exact nextS_parts L st
  · exact failS_parts L st 7
theorem nameS_le {L : List Wd} {st : St} (h : st.i < L.length) : st.i ≤ (nameS L st).2.i := by
  unfold nameS; split
  · exact nextS_le L st
  · exact Nat.le_trans (failS_le 7 h) (nextS_le L _)
theorem nameS_in {L : List Wd} (hG : Good L) {st : St} (h : st.i < L.length) : (nameS L st).2.i < L.length := by
  unfold nameS; split
  · exact nextS_in hG h
  · exact nextS_in hG (failS_lt 7 h)
theorem nameS_parts (L : List Wd) (st : St) : (nameS L st).2.parts = st.parts := by
  unfold nameS; split
  · exact nextS_parts L st
  · exact (nextS_parts L _).trans (failS_parts L st 7)
theorem partB_i {L : List Wd} {st : St} : (partB L st).i = (partA L st).i := rfl
theorem partS_go {L : List Wd} (hG : GoodE L) {st : St} (h : st.i < L.length) (hk : (cur L st).kind ≠ 0) : st.i < (partS L st).2.i ∧ (partS L st).2.i < L.length ∧ (partS L st).2.parts = st.parts + 1 := by
  have hl := hG.good.2 st.i h hk
  have hp : (partS L st).2.parts = st.parts + 1 := by
    unfold partS
    rw [nextS_parts]
    show (partA L st).parts + 1 = _
    rw [partA_parts]
  have hb : (partB L st).i < L.length ∧ (st.i < (partB L st).i ∨ ((partB L st).i = st.i ∧ cur L (partB L st) = cur L st)) := by
    rw [partB_i]
    unfold partA
    split
    · unfold failS
      split
      · refine ⟨by show L.length - 1 < L.length; omega, .inl ?_⟩
        show st.i < L.length - 1; omega
      · refine ⟨h, .inr ⟨rfl, ?_⟩⟩
        unfold partB partA failS cur; rename_i h1 h2; simp [h1, h2]
    · refine ⟨h, .inr ⟨rfl, ?_⟩⟩
      unfold partB partA cur; rename_i h1; simp [h1]
  refine ⟨?_, nextS_in hG.good hb.1, hp⟩
  show st.i < (nextS L (partB L st)).i
  rcases hb.2 with h1 | ⟨h1, h2⟩
  · exact Nat.lt_of_lt_of_le h1 (nextS_le L _)
  · rw [nextS_lt (by rw [h2]; exact hk), h1]; exact Nat.lt_succ_self _
theorem between_go {L : List Wd} (hG : GoodE L) {ops : List ByteArray} (hs : ∀ o ∈ ops, o.data.toList ≠ []) {st : St} (h : st.i < L.length) : ((betweenS L ops st).2.1 = true → st.i < (betweenS L ops st).2.2.i ∧ (betweenS L ops st).2.2.parts = st.parts + 1) ∧ ((betweenS L ops st).2.1 = false → (betweenS L ops st).2.2 = st) ∧ (betweenS L ops st).2.2.i < L.length := by
  unfold betweenS
  split
  · rename_i hh
    have := partS_go hG h (kind_of_has hG h hs hh)
    exact ⟨fun _ => ⟨this.1, this.2.2⟩, fun h => by simp at h, this.2.1⟩
  · exact ⟨fun h => by simp at h, fun _ => rfl, h⟩
/-- Behind a fault only the end is left. -/
def Fin (L : List Wd) (S : St) : Prop := S.er ≠ 0 → S.i + 1 = L.length
theorem nextS_fin {L : List Wd} (hG : Good L) {S : St} (h : S.i < L.length) (hf : Fin L S) : Fin L (nextS L S) := by
  unfold nextS; split
  · exact hf
  · rename_i hk
    intro he
    have h1 := hf he
    have h2 := hG.2 S.i h hk
    omega
theorem failS_fin {L : List Wd} {S : St} (err : Nat) (h : S.i < L.length) (hf : Fin L S) : Fin L (failS L err S) := by
  unfold failS; split
  · intro _
    show L.length - 1 + 1 = L.length
    omega
  · exact hf
theorem askS_fin {L : List Wd} {S : St} (d : Nat) (h : S.i < L.length) (hf : Fin L S) : Fin L (askS L d S) := by
  unfold askS; split
  · exact failS_fin 2 h hf
  · exact hf
theorem takeS_fin {L : List Wd} (hG : Good L) (s : ByteArray) {S : St} (h : S.i < L.length) (hf : Fin L S) : Fin L (takeS L s S).2 := by
  unfold takeS; split
  · exact nextS_fin hG h hf
  · exact hf
theorem needS_fin {L : List Wd} (hG : Good L) (s : ByteArray) {S : St} (h : S.i < L.length) (hf : Fin L S) : Fin L (needS L s S) := by
  unfold needS; split
  · exact nextS_fin hG h hf
  · exact failS_fin 7 h hf
theorem nameS_fin {L : List Wd} (hG : Good L) {S : St} (h : S.i < L.length) (hf : Fin L S) : Fin L (nameS L S).2 := by
  unfold nameS; split
  · exact nextS_fin hG h hf
  · exact nextS_fin hG (failS_lt 7 h) (failS_fin 7 h hf)
theorem partS_fin {L : List Wd} (hG : Good L) {S : St} (h : S.i < L.length) (hf : Fin L S) : Fin L (partS L S).2 := by
  have h1 : Fin L (partB L S) ∧ (partB L S).i < L.length := by
    have : Fin L (partA L S) ∧ (partA L S).i < L.length := by
      unfold partA; split
      · exact ⟨failS_fin 2 h hf, failS_lt 2 h⟩
      · exact ⟨hf, h⟩
    exact this
  exact nextS_fin hG h1.2 h1.1
theorem betweenS_fin {L : List Wd} (hG : Good L) (ops : List ByteArray) {S : St} (h : S.i < L.length) (hf : Fin L S) : Fin L (betweenS L ops S).2.2 := by
  unfold betweenS; split
  · exact partS_fin hG h hf
  · exact hf
/-- What every step keeps. -/
def Ok (L : List Wd) (S : St) : Prop := S.parts ≤ S.i ∧ Fin L S
theorem between_ok {L : List Wd} (hG : GoodE L) {ops : List ByteArray} (hs : ∀ o ∈ ops, o.data.toList ≠ []) {S : St} (h : S.i < L.length) (ho : Ok L S) : Ok L (betweenS L ops S).2.2 ∧ S.i ≤ (betweenS L ops S).2.2.i := by
  have hg := between_go hG hs h
  have hp := ho.1
  cases hb : (betweenS L ops S).2.1 with
  | true =>
    have := hg.1 hb
    exact ⟨⟨by omega, betweenS_fin hG.good ops h ho.2⟩, by omega⟩
  | false => rw [hg.2.1 hb]; exact ⟨ho, Nat.le_refl _⟩
theorem nextS_ok {L : List Wd} (hG : Good L) {S : St} (h : S.i < L.length) (ho : Ok L S) : Ok L (nextS L S) := ⟨by rw [nextS_parts]; exact Nat.le_trans ho.1 (nextS_le L S), nextS_fin hG h ho.2⟩
theorem takeS_ok {L : List Wd} (hG : Good L) (s : ByteArray) {S : St} (h : S.i < L.length) (ho : Ok L S) : Ok L (takeS L s S).2 := ⟨by rw [takeS_parts]; exact Nat.le_trans ho.1 (takeS_le L s S), takeS_fin hG s h ho.2⟩
theorem needS_ok {L : List Wd} (hG : Good L) (s : ByteArray) {S : St} (h : S.i < L.length) (ho : Ok L S) : Ok L (needS L s S) := ⟨by rw [needS_parts]; exact Nat.le_trans ho.1 (needS_le s h), needS_fin hG s h ho.2⟩
theorem nameS_ok {L : List Wd} (hG : Good L) {S : St} (h : S.i < L.length) (ho : Ok L S) : Ok L (nameS L S).2 := ⟨by rw [nameS_parts]; exact Nat.le_trans ho.1 (nameS_le h), nameS_fin hG h ho.2⟩
theorem askS_ok {L : List Wd} {S : St} (d : Nat) (h : S.i < L.length) (ho : Ok L S) : Ok L (askS L d S) := ⟨by rw [askS_parts]; exact Nat.le_trans ho.1 (askS_le d h), askS_fin d h ho.2⟩
theorem failS_ok {L : List Wd} {S : St} (err : Nat) (h : S.i < L.length) (ho : Ok L S) : Ok L (failS L err S) := ⟨by rw [failS_parts]; exact Nat.le_trans ho.1 (failS_le err h), failS_fin err h ho.2⟩
theorem partS_ok {L : List Wd} (hG : GoodE L) {S : St} (h : S.i < L.length) (hk : (cur L S).kind ≠ 0) (ho : Ok L S) : Ok L (partS L S).2 ∧ S.i < (partS L S).2.i ∧ (partS L S).2.i < L.length := by
  have h1 := partS_go hG h hk
  have := ho.1
  exact ⟨⟨by omega, partS_fin hG.good h ho.2⟩, h1.1, h1.2.1⟩
end Go.Proofs.YtjlnihennlkmpaaGreatDoor

namespace Go.Proofs.YtjlnihennlkmpaaGreatDoor
open Go Go.RowKit
structure EInv (L : List Wd) (w : World) (gp gw c b : Nat) (wr : World) (e : Ex) (S : St) : Prop where
  par : Par L wr gp gw c S
  gb : w.grownBy wr (some gp)
  res : wr.heap[w.heap.size]? = some (.cells #[.string ⟨#[]⟩, .string ⟨#[]⟩, .int .i64 0, .int .i64 0, .slice none 0 0] 54 (0, 0))
  lo : w.heap.size < b
  row : ∃ o m n a x l cc, wr.heap[b]? = some (.cells #[.string o, .string m, .int .i64 n, .int .i64 a, .slice x l cc] 54 (0, 0)) ∧ IsP (fun k => w.heap.size < k ∧ k ≠ b) wr o m n a x l cc e
def leftOf (gp : Nat) (wr : World) : Nat := match wr.cell? ⟨gp, 0, none⟩ with | some (.slice _ n _) => n | _ => 0
theorem leftOf_par {L : List Wd} {w : World} {gp gw c : Nat} {st : St} (h : Par L w gp gw c st) : leftOf gp w = L.length - st.i := by
  unfold leftOf
  rw [h.cells.1]
/-- The cell made: the loop begins. -/
theorem EInv.start {L : List Wd} {w w1 w2 : World} {gp gw c : Nat} {S : St} {e : Ex} {o1 m1 : ByteArray} {n1 a1 : Int} {x1 : Option Addr} {l1 c1 : Nat} (hgp : gp < w.heap.size) (h1 : w.grownBy w1 (some gp)) (hs1 : w1.heap.size = w.heap.size + 1) (hr1 : w1.heap[w.heap.size]? = some (.cells #[.string ⟨#[]⟩, .string ⟨#[]⟩, .int .i64 0, .int .i64 0, .slice none 0 0] 54 (0, 0))) (hp : Par L w2 gp gw c S) (hg : w1.grownBy w2 (some gp)) (hi : IsE w1.heap.size w2 o1 m1 n1 a1 x1 l1 c1 e) :
    EInv L w gp gw c w2.heap.size (w2.alloc (.cells #[.string o1, .string m1, .int .i64 n1, .int .i64 a1, .slice x1 l1 c1] 54)) e S := by
  have hb : Below w2.heap.size w2 (w2.alloc (.cells #[.string o1, .string m1, .int .i64 n1, .int .i64 a1, .slice x1 l1 c1] 54)) := (Below.refl _ _).alloc (Nat.le_refl _) _
  have hs2 : w.heap.size + 1 ≤ w2.heap.size := by rw [← hs1]; exact hg.size
  refine ⟨hp.below hb, gb_trans h1 (gb_trans hg (gb_below hb)), ?_, by omega, o1, m1, n1, a1, x1, l1, c1, heap_alloc_new w2 _, ?_⟩
  · exact (hb.block w.heap.size (by omega)).trans ((hg.block w.heap.size (by omega) (by intro e; injection e with e; omega)).trans hr1)
  · exact (hi.toP (ok := fun k => w.heap.size < k ∧ k ≠ w2.heap.size) (fun k h1 h2 => ⟨by omega, by omega⟩)).below hb
/-- The loop has ended: the cell read, and handed back. -/
theorem EInv.stop {L : List Wd} {w wr w4 : World} {gp gw c b : Nat} {S S' : St} {e : Ex} (hgp : gp < w.heap.size) (hgw : gw < w.heap.size) (h : EInv L w gp gw c b wr e S) (hg : wr.grownBy w4 (some gp)) (hp : Par L w4 gp gw c S') :
    ∃ o1 m1 n1 a1 x1 l1 c1, w4.heap[b]? = some (.cells #[.string o1, .string m1, .int .i64 n1, .int .i64 a1, .slice x1 l1 c1] 54 (0, 0)) ∧ w4.heap[w.heap.size]? = some (.cells #[.string ⟨#[]⟩, .string ⟨#[]⟩, .int .i64 0, .int .i64 0, .slice none 0 0] 54 (0, 0)) ∧ GivesX L gp gw c e S' w (.returned (.agg #[.string o1, .string m1, .int .i64 n1, .int .i64 a1, .slice x1 l1 c1])) (w4.setRow w.heap.size #[.string o1, .string m1, .int .i64 n1, .int .i64 a1, .slice x1 l1 c1]) := by
  obtain ⟨o1, m1, n1, a1, x1, l1, c1, hr, hi⟩ := h.row
  have hlt : b < wr.heap.size := (Array.getElem?_eq_some_iff.1 hr).1
  have hlo := h.lo
  have hs4 := hg.size
  refine ⟨o1, m1, n1, a1, x1, l1, c1, (hg.block b hlt (by intro e; injection e with e; omega)).trans hr, (hg.block w.heap.size (by omega) (by intro e; injection e with e; omega)).trans h.res, o1, m1, n1, a1, x1, l1, c1, rfl, ?_, hp.keep (setRow_other w4 w.heap.size gp _ (by omega)) (setRow_other w4 w.heap.size gw _ (by omega)) (by rw [setRow_size]; exact Nat.le_refl _), gb_setRow (gb_trans h.gb hg) _ (Nat.le_refl _) _⟩
  refine IsP.toE (ok := fun k => w.heap.size < k ∧ k ≠ b) (fun k hk => by omega) _ (hi.keep (by rw [setRow_size]; exact hs4) (fun k hk hl => (setRow_other w4 w.heap.size k _ (by omega)).trans (hg.block k hl (by intro e; injection e with e; omega))) (fun _ h _ => h))
theorem gb_setCell {w W : World} {gp : Nat} (h : w.grownBy W (some gp)) (b i : Nat) (hb : w.heap.size ≤ b) (v : Value) : w.grownBy (W.setCell ⟨b, i, none⟩ v) (some gp) :=
  ⟨h.os, h.tape, h.output, by have := h.size; simpa using this, fun k hk hr => (heap_setCell_other W ⟨b, i, none⟩ k v (by show k ≠ b; omega)).trans (h.block k hk hr)⟩
/-- A round's end: the cell holds a tree with the old one for its only kid. -/
theorem EInv.again {L : List Wd} {w w6 wf : World} {gp gw c b k0 : Nat} {S : St} {e : Ex} {op nm : ByteArray} {n : Int} {at_ : Nat} {o1 m1 : ByteArray} {n1 a1 : Int} {x1 : Option Addr} {l1 c1 : Nat} (hgp : gp < w.heap.size) (hlo : w.heap.size < b) (hg : w.grownBy wf (some gp)) (hp : Par L wf gp gw c S)
    (hres : w6.heap[w.heap.size]? = some (.cells #[.string ⟨#[]⟩, .string ⟨#[]⟩, .int .i64 0, .int .i64 0, .slice none 0 0] 54 (0, 0))) (hk : ∀ k, k < w6.heap.size → k ≠ gp → k ≠ b → wf.heap[k]? = w6.heap[k]?) (hs : w6.heap.size ≤ wf.heap.size)
    (hr0 : w6.heap[k0]? = some (.cells #[.string o1, .string m1, .int .i64 n1, .int .i64 a1, .slice x1 l1 c1] 54 (0, 0))) (hk0 : w.heap.size < k0) (hkb : k0 ≠ b) (hi : IsP (fun k => w.heap.size < k ∧ k ≠ b) w6 o1 m1 n1 a1 x1 l1 c1 e)
    (hrow : wf.heap[b]? = some (.cells #[.string op, .string nm, .int .i64 n, .int .i64 (at_ : Int), .slice (some ⟨k0, 0, none⟩) 1 1] 54 (0, 0))) : EInv L w gp gw c b wf (.mk op nm n at_ [e]) S := by
  have hl0 : k0 < w6.heap.size := (Array.getElem?_eq_some_iff.1 hr0).1
  have hlr : w.heap.size < w6.heap.size := (Array.getElem?_eq_some_iff.1 hres).1
  have hrf := (hk k0 hl0 (by omega) hkb).trans hr0
  have hcell : ∀ (j : Nat) (v : Value), (#[.string o1, .string m1, .int .i64 n1, .int .i64 a1, .slice x1 l1 c1] : Array Value)[j]? = some v → wf.cell? ⟨k0, j, none⟩ = some v := fun j v hv => by
    simp only [World.cell?, hrf]
    exact hv
  refine ⟨hp, hg, (hk w.heap.size hlr (by omega) (by omega)).trans hres, hlo, _, _, _, _, _, _, _, hrow, ?_⟩
  unfold IsP
  refine ⟨rfl, rfl, rfl, rfl, rfl, fun _ => ⟨k0, rfl, ⟨hk0, hkb⟩, by omega, ?_⟩⟩
  unfold IsQ
  refine ⟨⟨o1, m1, n1, a1, x1, l1, c1, hcell 0 _ rfl, hcell 1 _ rfl, hcell 2 _ rfl, hcell 3 _ rfl, hcell 4 _ rfl, hi.keep hs (fun k h1 h2 => hk k h2 (by omega) h1.2) (fun _ h _ => h) e⟩, ?_⟩
  unfold IsQ
  trivial
end Go.Proofs.YtjlnihennlkmpaaGreatDoor

namespace Go.Proofs.YtjlnihennlkmpaaGreatDoor
open Go Go.RowKit
section
variable {P : Program} {W : World} {o : Oper} {ρ : Operand → Value}
end
theorem put_getD (a : Act) (s j : Nat) (v : Value) : (a.put (some s) v).tmps.getD j undef = if s = j ∧ j < a.tmps.size then v else a.tmps.getD j undef := by
  by_cases h : s = j
  · subst h
    by_cases hs : s < a.tmps.size
    · rw [put_same hs, if_pos ⟨rfl, hs⟩]
    · rw [if_neg (fun h => hs h.2)]
      simp [Act.put, Array.getD, hs]
  · rw [put_other (by intro e; injection e with e; exact h e), if_neg (fun e => h e.1)]
theorem puts_size (f : Nat → Value) : ∀ (S : List Nat) (a : Act), (S.foldl (fun x j => x.put (some j) (f j)) a).tmps.size = a.tmps.size
  | [], _ => rfl
  | s :: S, a => by rw [List.foldl_cons, puts_size f S, put_size]
theorem puts_defers (f : Nat → Value) : ∀ (S : List Nat) (a : Act), (S.foldl (fun x j => x.put (some j) (f j)) a).defers = a.defers
  | [], _ => rfl
  | s :: S, a => by rw [List.foldl_cons, puts_defers f S, put_defers]
theorem puts_getD (f : Nat → Value) (j : Nat) : ∀ (S : List Nat) (a : Act), (S.foldl (fun x j => x.put (some j) (f j)) a).tmps.getD j undef = if j ∈ S ∧ j < a.tmps.size then f j else a.tmps.getD j undef
  | [], _ => by simp
  | s :: S, a => by
    rw [List.foldl_cons, puts_getD f j S, put_size, put_getD]
    by_cases h1 : j < a.tmps.size
    · by_cases h2 : j ∈ S
      · simp [h1, h2]
      · by_cases h3 : s = j
        · subst h3
          simp [h1, h2]
        · simp [h1, h2, h3, Ne.symm h3]
    · simp [h1]
/-- The frame of slots behind a region: what stood before, and what the region wrote. -/
theorem puts_of {l : List Oper} {a0 a : Act} (htm : a.tmps.size = a0.tmps.size) (hdf : a.defers = a0.defers) (hold : ∀ j, (∀ x ∈ l, x.dst ≠ some j) → a.tmps.getD j undef = a0.tmps.getD j undef) (S : List Nat) (hS : l.filterMap (·.dst) = S) :
    ∃ f : Nat → Value, (∀ j, a.tmps.getD j undef = f j) ∧ a = S.foldl (fun x j => x.put (some j) (f j)) a0 := by
  refine ⟨fun j => a.tmps.getD j undef, fun _ => rfl, ?_⟩
  have ext : ∀ b : Act, a.tmps.size = b.tmps.size → a.defers = b.defers → (∀ j, a.tmps.getD j undef = b.tmps.getD j undef) → a = b := by
    intro b h1 h2 h3
    obtain ⟨ta, da⟩ := a
    obtain ⟨tb, db⟩ := b
    simp only at h1 h2 h3
    subst h2
    congr 1
    apply Array.ext
    · exact h1
    · intro i hi hi2
      have := h3 i
      simpa [Array.getD, hi, hi2] using this
  refine ext _ (by rw [puts_size, htm]) (by rw [puts_defers, hdf]) fun j => ?_
  rw [puts_getD]
  split
  · rfl
  · rename_i hn
    by_cases hj : j ∈ S
    · have hlt : ¬ j < a0.tmps.size := fun hlt => hn ⟨hj, hlt⟩
      simp [Array.getD, hlt, htm]
    · exact hold j fun x hx hd => hj (by rw [← hS]; exact List.mem_filterMap.2 ⟨x, hx, hd⟩)
theorem Inv.puts {l : List Oper} {Sp : Nat → Value → World → Prop} {B : Nat} {w0 W : World} {a0 a : Act} {listed : Array Bool} (h : Inv l l Sp B w0 a0 listed a W) (S : List Nat) (hS : l.filterMap (·.dst) = S) :
    ∃ f : Nat → Value, (∀ j, a.tmps.getD j undef = f j) ∧ a = S.foldl (fun x j => x.put (some j) (f j)) a0 := puts_of h.tmps h.defers h.old S hS
end Go.Proofs.YtjlnihennlkmpaaGreatDoor

namespace Go.Proofs.YtjlnihennlkmpaaGreatDoor
open Go Go.RowKit
theorem run_enterv {P : Program} {o : Oper} {ρ : Operand → Value} {f : FuncId} {x y : Operand} {v : Value} {ts : Array TypeId} {W : World} (ho : o.op = .call { callee := .value x, args := #[y], argTypes := ts }) (hf : ρ x = .func (.func f) #[v] #[]) (hcf : ∀ (args : Array Value) (w : World), (callFunc f args).run P w = .ok (.enter f args) w) :
    (execOp ρ o).run P W = .ok (.enter f #[v, ρ y]) W := by
  simp [execOp, ho, resolve, hf, invoke, Deferred.ofValue, hcf]
theorem InvG.puts {lo l : List Oper} {Sp : Nat → Value → World → Prop} {Rel : World → World → Prop} {F : World → Prop} {kw : Nat} {w0 W : World} {a0 a : Act} {listed : Array Bool} (h : InvG lo l Sp Rel F kw w0 a0 listed a W) (S : List Nat) (hS : lo.filterMap (·.dst) = S) :
    ∃ f : Nat → Value, (∀ j, a.tmps.getD j undef = f j) ∧ a = S.foldl (fun x j => x.put (some j) (f j)) a0 := puts_of h.tmps h.defers h.old S hS
def wEp (ok : Nat → Prop) (t : Ex) (v : Value) (W : World) : Prop := ∃ o m n a x l cc, v = exV o m n a x l cc ∧ IsP ok W o m n a x l cc t
theorem stable_ep (ok : Nat → Prop) (t : Ex) : Stable (wEp ok t) := fun _ _ _ ⟨o, m, n, a, x, l, cc, h1, h2⟩ hb => ⟨o, m, n, a, x, l, cc, h1, h2.below hb⟩
theorem stableR_ep (gp : Nat) (ok : Nat → Prop) (h : ¬ ok gp) (t : Ex) : StableR gp (wEp ok t) := fun _ _ _ ⟨o, m, n, a, x, l, cc, h1, h2⟩ hb => ⟨o, m, n, a, x, l, cc, h1, h2.grown hb h⟩
/-- The cell stored anew. -/
theorem EInv.put {L : List Wd} {w W : World} {gp gw c b : Nat} {S : St} {e : Ex} {o3 m3 : ByteArray} {n3 a3 : Int} {x3 : Option Addr} {l3 c3 : Nat} {old : Array Value} (hgp : gp < w.heap.size) (hgw : gw < w.heap.size) (hlo : w.heap.size < b) (hg : w.grownBy W (some gp)) (hp : Par L W gp gw c S) (hres : W.heap[w.heap.size]? = some (.cells #[.string ⟨#[]⟩, .string ⟨#[]⟩, .int .i64 0, .int .i64 0, .slice none 0 0] 54 (0, 0)))
    (hrow : W.heap[b]? = some (.cells old 54 (0, 0))) (hi : IsP (fun k => w.heap.size < k ∧ k ≠ b) W o3 m3 n3 a3 x3 l3 c3 e) : EInv L w gp gw c b (W.setRow b #[.string o3, .string m3, .int .i64 n3, .int .i64 a3, .slice x3 l3 c3]) e S :=
  ⟨hp.keep (setRow_other W b gp _ (by omega)) (setRow_other W b gw _ (by omega)) (by rw [setRow_size]; exact Nat.le_refl _), gb_setRow hg _ (by omega) _, (setRow_other W b w.heap.size _ (by omega)).trans hres, hlo, o3, m3, n3, a3, x3, l3, c3, setRow_heap W b _ _ _ _ hrow, hi.keep (by rw [setRow_size]; exact Nat.le_refl _) (fun k hk _ => setRow_other W b k _ hk.2) (fun _ h _ => h) e⟩
theorem StrsAt.grown {w w' : World} {gp b o : Nat} {zs : List ByteArray} (h : StrsAt w b o zs) (hg : w.grownBy w' (some gp)) (hb : b < w.heap.size) (hne : b ≠ gp) : StrsAt w' b o zs := fun j hj => (gb_cell hg hb hne).trans (h j hj)
theorem rowL_stop (L : List Wd) (hE : GoodE L) (one : St → Ex × St) (ops : List ByteArray) (hs : ∀ o ∈ ops, o.data.toList ≠ []) (f : Nat) (e : Ex) (S : St) (hlt : S.i < L.length) (h : (betweenS L ops S).2.1 = false) : rowL L one ops f e S = (e, (betweenS L ops S).2.2) := by
  cases f with
  | zero => unfold rowL; rw [((between_go hE hs hlt).2.1 h)]
  | succ f => unfold rowL; simp [h]
theorem rowL_go (L : List Wd) (one : St → Ex × St) (ops : List ByteArray) (f : Nat) (e : Ex) (S : St) (h : (betweenS L ops S).2.1 = true) : rowL L one ops (f + 1) e S = rowL L one ops f (twoS (betweenS L ops S).1 e (one (betweenS L ops S).2.2).1) (one (betweenS L ops S).2.2).2 := by
  conv => lhs; unfold rowL
  simp [h]
/-- What one of a row's sorts does to the state. -/
def Mono (L : List Wd) (one : St → Ex × St) : Prop := ∀ S, S.i < L.length → Ok L S → S.i ≤ (one S).2.i ∧ (one S).2.i < L.length ∧ Ok L (one S).2
end Go.Proofs.YtjlnihennlkmpaaGreatDoor

namespace Go.Proofs.YtjlnihennlkmpaaGreatDoor
open Go Go.RowKit
/-- From one state to a later one. -/
def Later (L : List Wd) (S S' : St) : Prop := S.i ≤ S'.i ∧ S'.i < L.length ∧ Ok L S'
theorem Later.trans {L : List Wd} {a b c : St} (h : Later L a b) (k : Later L b c) : Later L a c := ⟨Nat.le_trans h.1 k.1, k.2⟩
theorem Later.refl {L : List Wd} {S : St} (h : S.i < L.length) (ho : Ok L S) : Later L S S := ⟨Nat.le_refl _, h, ho⟩
structure MonoN (L : List Wd) (nx : Nx) : Prop where
  expr : Mono L nx.expr
  un : Mono L nx.un
  prim : Mono L nx.prim
  fby : Mono L nx.fby
section
variable {L : List Wd} (hE : GoodE L) {nx : Nx} (hN : MonoN L nx)
include hE
theorem l_next {S : St} (h : S.i < L.length) (ho : Ok L S) : Later L S (nextS L S) := ⟨nextS_le L S, nextS_in hE.good h, nextS_ok hE.good h ho⟩
theorem l_need (s : ByteArray) {S : St} (h : S.i < L.length) (ho : Ok L S) : Later L S (needS L s S) := ⟨needS_le s h, needS_in hE.good s h, needS_ok hE.good s h ho⟩
theorem l_take (s : ByteArray) {S : St} (h : S.i < L.length) (ho : Ok L S) : Later L S (takeS L s S).2 := ⟨takeS_le L s S, takeS_in hE.good s h, takeS_ok hE.good s h ho⟩
theorem l_name {S : St} (h : S.i < L.length) (ho : Ok L S) : Later L S (nameS L S).2 := ⟨nameS_le h, nameS_in hE.good h, nameS_ok hE.good h ho⟩
theorem l_part {S : St} (h : S.i < L.length) (hk : (cur L S).kind ≠ 0) (ho : Ok L S) : Later L S (partS L S).2 := by
  have := partS_ok hE h hk ho
  exact ⟨Nat.le_of_lt this.2.1, this.2.2, this.1⟩
theorem l_between {ops : List ByteArray} (hs : ∀ o ∈ ops, o.data.toList ≠ []) {S : St} (h : S.i < L.length) (ho : Ok L S) : Later L S (betweenS L ops S).2.2 := by
  have h1 := between_ok hE hs h ho
  exact ⟨h1.2, (between_go hE hs h).2.2, h1.1⟩
omit hE in
theorem l_ask (d : Nat) {S : St} (h : S.i < L.length) (ho : Ok L S) : Later L S (askS L d S) := ⟨askS_le d h, askS_in d h, askS_ok d h ho⟩
omit hE in
theorem l_fail (e : Nat) {S : St} (h : S.i < L.length) (ho : Ok L S) : Later L S (failS L e S) := ⟨failS_le e h, failS_lt e h, failS_ok e h ho⟩
theorem l_args {f : St → Ex × St} (hf : Mono L f) : ∀ (k : Nat) {S : St}, S.i < L.length → Ok L S → Later L S (argsS L f k S).2
  | 0, S, h, ho => Later.refl h ho
  | k + 1, S, h, ho => by
    unfold argsS
    split
    · have h1 := l_next hE h ho
      have h2 := hf _ h1.2.1 h1.2.2
      exact h1.trans (Later.trans h2 (l_args hf k h2.2.1 h2.2.2))
    · exact Later.refl h ho
theorem l_whenL : ∀ (k : Nat) (e : Ex) {S : St}, S.i < L.length → Ok L S → Later L S (whenL L k e S).2
  | 0, _, S, h, ho => Later.refl h ho
  | k + 1, e, S, h, ho => by
    unfold whenL
    have h1 := l_between hE (ops := [bs [119, 104, 101, 110]]) (by simp [bs]) h ho
    simp only
    split
    · have h2 := l_take hE (bs [110, 111, 116]) h1.2.1 h1.2.2
      have h3 := l_name hE h2.2.1 h2.2.2
      exact h1.trans (h2.trans (h3.trans (l_whenL k _ h3.2.1 h3.2.2)))
    · exact h1
theorem l_rowL {one : St → Ex × St} (hf : Mono L one) {ops : List ByteArray} (hs : ∀ o ∈ ops, o.data.toList ≠ []) : ∀ (k : Nat) (e : Ex) {S : St}, S.i < L.length → Ok L S → Later L S (rowL L one ops k e S).2
  | 0, _, S, h, ho => Later.refl h ho
  | k + 1, e, S, h, ho => by
    unfold rowL
    have h1 := l_between hE hs h ho
    simp only
    split
    · have h2 := hf _ h1.2.1 h1.2.2
      exact h1.trans (Later.trans h2 (l_rowL hf hs k _ h2.2.1 h2.2.2))
    · exact h1
theorem l_row {one : St → Ex × St} (hf : Mono L one) {ops : List ByteArray} (hs : ∀ o ∈ ops, o.data.toList ≠ []) {S T : St} (hT : Later L T (one S).2) : Later L T (rowS L one ops S).2 := by
  unfold rowS
  exact hT.trans (l_rowL hE hf hs _ _ hT.2.1 hT.2.2)
include hN
theorem l_named {S : St} (h : S.i < L.length) (hk : (cur L S).kind ≠ 0) (ho : Ok L S) : Later L S (namedS L nx S).2 := by
  have h1 := l_part hE h hk ho
  unfold namedS
  simp only
  split
  · have h2 := l_next hE h1.2.1 h1.2.2
    have h3 : Later L S (callS L nx (nextS L (partS L S).2)).2 := by
      unfold callS
      split
      · exact h1.trans h2
      · have h4 := hN.expr _ h2.2.1 h2.2.2
        exact h1.trans (h2.trans (Later.trans h4 (l_args hE hN.expr _ h4.2.1 h4.2.2)))
    exact h3.trans (l_need hE _ h3.2.1 h3.2.2)
  · exact h1
theorem l_primB {S : St} (h : S.i < L.length) (ho : Ok L S) : Later L S (primB L nx S).2 := by
  have part : ∀ {s : ByteArray}, s.data.toList ≠ [] → isS L s S = true → Later L S (partS L S).2 := fun hs hi => l_part hE h (kind_of_is hE h hs hi) ho
  unfold primB
  simp only
  split
  · rename_i hk; exact l_part hE h (by rw [hk]; decide) ho
  · split
    · rename_i hk; exact l_named hE hN h (by rw [hk]; decide) ho
    · split
      · rename_i hi; exact part (by simp [bs]) hi
      · split
        · rename_i hi; exact part (by simp [bs]) hi
        · split
          · unfold bracketedS
            simp only
            have h1 := l_next hE h ho
            have h2 := hN.expr _ h1.2.1 h1.2.2
            exact h1.trans (Later.trans h2 (l_need hE _ h2.2.1 h2.2.2))
          · split
            · rename_i hi
              unfold choiceS
              simp only
              have h1 := part (by simp [bs]) hi
              have h2 := hN.expr _ h1.2.1 h1.2.2
              have h3 := l_need hE (bs [116, 104, 101, 110]) h2.2.1 h2.2.2
              have h4 := hN.expr _ h3.2.1 h3.2.2
              have h5 := l_need hE (bs [101, 108, 115, 101]) h4.2.1 h4.2.2
              have h6 := hN.expr _ h5.2.1 h5.2.2
              exact h1.trans (Later.trans h2 (h3.trans (Later.trans h4 (h5.trans h6))))
            · split
              · rename_i hi
                unfold mergeS
                simp only
                have h1 := part (by simp [bs]) hi
                have h2 := l_name hE h1.2.1 h1.2.2
                have h3 := hN.prim _ h2.2.1 h2.2.2
                have h4 := hN.prim _ h3.2.1 h3.2.2
                exact h1.trans (h2.trans (Later.trans h3 h4))
              · exact l_fail 7 h ho
theorem l_prim (d : Nat) {S : St} (h : S.i < L.length) (ho : Ok L S) : Later L (askS L d S) (primS L nx d S).2 := by
  have h1 := l_ask d h ho
  exact l_primB hE hN h1.2.1 h1.2.2
theorem l_un (d : Nat) {S : St} (h : S.i < L.length) (ho : Ok L S) : Later L (askS L d S) (unS L nx d S).2 := by
  have h1 := l_ask d h ho
  unfold unS
  simp only
  split
  · rename_i hi
    have h2 := l_part hE h1.2.1 (by rcases hi with hi | hi <;> exact kind_of_is hE h1.2.1 (by simp [bs]) hi) h1.2.2
    exact h2.trans (hN.un _ h2.2.1 h2.2.2)
  · split
    · rename_i hi
      have h2 := l_part hE h1.2.1 (kind_of_is hE h1.2.1 (by simp [bs]) hi) h1.2.2
      exact h2.trans (hN.un _ h2.2.1 h2.2.2)
    · have h2 := l_ask d h1.2.1 h1.2.2
      exact h2.trans (l_prim hE hN d h1.2.1 h1.2.2)
theorem l_when (d : Nat) {S : St} (h : S.i < L.length) (ho : Ok L S) : Later L (askS L d S) (whenS L nx d S).2 := by
  have h1 := l_un hE hN d h ho
  exact h1.trans (l_whenL hE _ _ h1.2.1 h1.2.2)
theorem l_fby (d : Nat) {S : St} (h : S.i < L.length) (ho : Ok L S) : Later L (askS L d S) (fbyS L nx d S).2 := by
  have h1 := l_when hE hN d h ho
  have h2 := l_between hE (ops := [bs [102, 98, 121]]) (by simp [bs]) h1.2.1 h1.2.2
  unfold fbyS
  simp only
  split
  · exact h1.trans (h2.trans (hN.fby _ h2.2.1 h2.2.2))
  · exact h1.trans h2
omit hE hN in
theorem mono_of {one : St → Ex × St} (d : Nat) (h : ∀ S, S.i < L.length → Ok L S → Later L (askS L d S) (one S).2) : Mono L one := fun S hi ho => (l_ask d hi ho).trans (h S hi ho)
theorem l_mul (d : Nat) {S : St} (h : S.i < L.length) (ho : Ok L S) : Later L (askS L d S) (mulS L nx d S).2 := l_row hE (mono_of d fun _ a b => l_fby hE hN d a b) (by simp [bs]) (l_fby hE hN d h ho)
theorem l_add (d : Nat) {S : St} (h : S.i < L.length) (ho : Ok L S) : Later L (askS L d S) (addS L nx d S).2 := l_row hE (mono_of d fun _ a b => l_mul hE hN d a b) (by simp [bs]) (l_mul hE hN d h ho)
theorem l_cmp (d : Nat) {S : St} (h : S.i < L.length) (ho : Ok L S) : Later L (askS L d S) (cmpS L nx d S).2 := by
  have h1 := l_add hE hN d h ho
  have h2 := l_between hE (ops := [bs [61], bs [60, 62], bs [60], bs [60, 61], bs [62], bs [62, 61]]) (by simp [bs]) h1.2.1 h1.2.2
  unfold cmpS
  simp only
  split
  · exact h1.trans (h2.trans (mono_of d (fun _ a b => l_add hE hN d a b) _ h2.2.1 h2.2.2))
  · exact h1.trans h2
theorem l_and (d : Nat) {S : St} (h : S.i < L.length) (ho : Ok L S) : Later L (askS L d S) (andS L nx d S).2 := l_row hE (mono_of d fun _ a b => l_cmp hE hN d a b) (by simp [bs]) (l_cmp hE hN d h ho)
theorem l_or (d : Nat) {S : St} (h : S.i < L.length) (ho : Ok L S) : Later L (askS L d S) (orS L nx d S).2 := l_row hE (mono_of d fun _ a b => l_and hE hN d a b) (by simp [bs]) (l_and hE hN d h ho)
theorem l_arrow (d : Nat) {S : St} (h : S.i < L.length) (ho : Ok L S) : Later L (askS L d S) (arrowS L nx d S).2 := by
  have h1 := l_or hE hN d h ho
  have h2 := l_between hE (ops := [bs [45, 62]]) (by simp [bs]) h1.2.1 h1.2.2
  unfold arrowS
  simp only
  split
  · exact h1.trans (h2.trans (hN.expr _ h2.2.1 h2.2.2))
  · exact h1.trans h2
omit hN in
theorem mono_at : ∀ k, MonoN L (nxAt L k)
  | 0 => ⟨fun _ h ho => Later.refl h ho, fun _ h ho => Later.refl h ho, fun _ h ho => Later.refl h ho, fun _ h ho => Later.refl h ho⟩
  | k + 1 => ⟨mono_of (31 - k) fun _ a b => l_arrow hE (mono_at k) _ a b, mono_of (31 - k) fun _ a b => l_un hE (mono_at k) _ a b, mono_of (31 - k) fun _ a b => l_prim hE (mono_at k) _ a b, mono_of (31 - k) fun _ a b => l_fby hE (mono_at k) _ a b⟩
end
/-- Too deep: the end. -/
theorem ask_end {L : List Wd} {S : St} (h : S.i < L.length) (ho : Ok L S) : (askS L 31 S).i + 1 = L.length := by
  unfold askS
  rw [if_pos (by decide)]
  unfold failS
  split
  · show L.length - 1 + 1 = L.length
    omega
  · rename_i he; exact ho.2 he
theorem end_kind {L : List Wd} (hG : Good L) {S : St} (h : S.i + 1 = L.length) : (cur L S).kind = 0 := by
  cases Nat.decEq (cur L S).kind 0 with
  | isTrue h => exact h
  | isFalse hk => have := hG.2 S.i (by omega) hk; omega
theorem end_is {L : List Wd} (hE : GoodE L) {S : St} (h : S.i + 1 = L.length) {s : ByteArray} (hs : s.data.toList ≠ []) : isS L s S = false := by
  cases hi : isS L s S with
  | false => rfl
  | true => exact absurd (end_kind hE.good h) (kind_of_is hE (by omega) hs hi)
theorem end_between {L : List Wd} (hE : GoodE L) {S : St} (h : S.i + 1 = L.length) {ops : List ByteArray} (hs : ∀ o ∈ ops, o.data.toList ≠ []) : (betweenS L ops S).2.1 = false := by
  cases hi : hasS L ops S with
  | false => unfold betweenS; simp [hi]
  | true => exact absurd (end_kind hE.good h) (kind_of_has hE (by omega) hs hi)
theorem later_end {L : List Wd} {S S' : St} (h : S.i + 1 = L.length) (hl : Later L S S') : S'.i + 1 = L.length := by
  have := hl.1
  have := hl.2.1
  omega
end Go.Proofs.YtjlnihennlkmpaaGreatDoor
