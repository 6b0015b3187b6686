/-
  Texts that the statements stand on, part 5.
-/
import Derived.Test.YtjlnihennlkmpaaGreatDoorMd
import Derived.Shelf.Strings.Builder1
import Derived.Shelf.Small.Strs
import Derived.Shelf.Small.Wraps
import Derived.Shelf.Strings.BuilderF
import Derived.Shelf.Strings.BuilderK
import Derived.Shelf.Strconv.Itoa0
import Derived.Shelf.Strconv.Itoa1
import Derived.Shelf.LaysM
import Derived.Shelf.Strconv.Itoa2
import Derived.Shelf.Strconv.Itoa3
import Derived.Shelf.Strconv.Itoa4
import Derived.Shelf.Strconv.ParseIntEmpty
import Derived.Shelf.Strconv.Clone
import Derived.Shelf.Strconv.SyntaxError
import Derived.Shelf.LaysC
import Derived.Shelf.Strconv.ToError
import Derived.Shelf.Strconv.Lower
import Derived.Shelf.Strconv.ParseUint10
import Derived.Shelf.Strconv.ParseUint10Empty
import Derived.Shelf.Strconv.ParseUint10Any
import Derived.Shelf.Strconv.ParseInt10
import Derived.Shelf.Strconv.RangeError
import Derived.Shelf.Strconv.ToErrorRange
import Derived.Shelf.Strconv.ParseUintEmpty
import Derived.Shelf.Strconv.ParseUint10b64
import Derived.Shelf.Strconv.ParseUint10b32
import Derived.Shelf.Strconv.ParseUint10b16
import Derived.Shelf.Strconv.ParseUint10b8
import Derived.Shelf.Strconv.ParseUint10At
import Derived.Shelf.Strconv.ParseInt10At64
import Derived.Shelf.Strconv.ParseInt10At32
import Derived.Shelf.Strconv.ParseInt10At16
import Derived.Shelf.Strconv.ParseInt10At8
import Derived.Shelf.Strconv.ParseInt10All
import Derived.Shelf.Strconv.ParseIntPublic10
import Derived.Shelf.Strconv.ErrVarParseInt
import Derived.Shelf.Strings.Search1
import Derived.Shelf.Strings.Search2
import Derived.Shelf.Strings.Search3
import Derived.Shelf.Strings.Shaped
import Derived.Shelf.Strings.Prefix
import Derived.Shelf.Slices.Turned
import Derived.Test.YtjlnihennlkmpaaGreatDoorProg
import Derived.Lib.ParseIntBTie
import Derived.Test.YtjlnihennlkmpaaGreatDoorRows
import Derived.Lib.LaidTab
import Derived.Lib.AppendIntMem
import Derived.LaidSub
import Derived.LaidLaws
import Derived.Lib.ParseIntBCases
set_option linter.unusedVariables false
set_option linter.unusedSimpArgs false
namespace Go.Proofs.YtjlnihennlkmpaaGreatDoor
open Go Go.RowKit
/-- An equation as it is written. -/
def eqT (q : Qe) : List UInt8 := ([32, 32] ++ q.name.data.toList ++ [32, 61, 32]) ++ textE q.e ++ [59, 10]
def eqsT (qs : List Qe) : List UInt8 := qs.flatMap eqT
theorem eqsT_snoc (qs : List Qe) (q : Qe) : eqsT (qs ++ [q]) = eqsT qs ++ eqT q := by simp [eqsT]
def locsT (vs : List Vr) : List UInt8 := if vs.length = 0 then [] else [118, 97, 114, 32] ++ varsT vs ++ [59, 10]
/-- A node as it is written. -/
def nodeT (nd : Nd) : List UInt8 := ([110, 111, 100, 101, 32] ++ nd.name.data.toList ++ [40]) ++ varsT nd.ins ++ [41, 32, 114, 101, 116, 117, 114, 110, 115, 32, 40] ++ varsT nd.outs ++ [41, 59, 10] ++ locsT nd.locs ++ [108, 101, 116, 10] ++ eqsT nd.eqs ++ [116, 101, 108, 59, 10]
/-- Equations in memory, below block B. -/
def EqsV (w : World) (B : Nat) (x : Option Addr) (n : Nat) (qs : List Qe) : Prop := n = qs.length ∧ ∃ g, 0 < n → x = some ⟨g, 0, none⟩ ∧ g < B ∧ g < w.heap.size ∧ ∀ (i : Nat) (h : i < qs.length), ∃ o m n a x l c, (∀ (j : Nat) (u : Value), (rowQ (qs[i]).name o m n a x l c ((qs[i]).at_ : Int))[j]? = some u → w.cell? ⟨g, i * 7 + j, none⟩ = some u) ∧ IsP (fun k => k < B) w o m n a x l c (qs[i]).e
theorem rowsQ_nth {ok : Nat → Prop} {w : World} : ∀ (qs : List Qe) (xs : List Value), RowsQ ok w xs qs → ∀ (i : Nat) (h : i < qs.length), ∃ o m n a x l c, (∀ (j : Nat) (u : Value), (rowQ (qs[i]).name o m n a x l c ((qs[i]).at_ : Int))[j]? = some u → xs[i * 7 + j]? = some u) ∧ IsP ok w o m n a x l c (qs[i]).e
  | [], _, _, i, h => by simp at h
  | q :: r, xs, ⟨o, m, n, a, x, l, c, ys, h1, h2, h3⟩, 0, _ => by
    refine ⟨o, m, n, a, x, l, c, fun j u hu => ?_, h2⟩
    rw [h1, Nat.zero_mul, Nat.zero_add, List.getElem?_append_left (by have := (List.getElem?_eq_some_iff.1 hu).1; exact this)]
    exact hu
  | q :: r, xs, ⟨o, m, n, a, x, l, c, ys, h1, h2, h3⟩, i + 1, h => by
    obtain ⟨o', m', n', a', x', l', c', e1, e2⟩ := rowsQ_nth r ys h3 i (by simpa using h)
    refine ⟨o', m', n', a', x', l', c', fun j u hu => ?_, e2⟩
    have hl : (rowQ q.name o m n a x l c (q.at_ : Int)).length = 7 := rfl
    rw [h1, List.getElem?_append_right (by rw [hl]; omega), hl, show (i + 1) * 7 + j - 7 = i * 7 + j by omega]
    exact e1 j u (by simpa using hu)
theorem EqsV.of_own {w : World} {B : Nat} {v : Value} {qs : List Qe} {xs : List Value} (h : w.ownsRow 0 56 7 v qs.length xs) (hr : RowsQ (fun k => k < B) w xs qs) (hb : ∀ k, v.ownBlock = some k → k < B ∧ k < w.heap.size) : ∃ x c, v = .slice x qs.length c ∧ EqsV w B x qs.length qs := by
  rcases h.2 with ⟨rfl, h0⟩ | ⟨g, cap, cur, rfl, _⟩
  · exact ⟨none, 0, by rw [h0], rfl, 0, fun hl => by omega⟩
  · refine ⟨_, cap, rfl, rfl, g, fun hl => ⟨rfl, (hb g rfl).1, (hb g rfl).2, fun i hi => ?_⟩⟩
    obtain ⟨o, m, n, a, x, l, c, e1, e2⟩ := rowsQ_nth qs xs hr i hi
    refine ⟨o, m, n, a, x, l, c, fun j u hu => ?_, e2⟩
    have := h.cells rfl (i * 7 + j) u (e1 j u hu)
    rw [Addr.add_lit] at this
    simpa using this
theorem EqsV.low {w w' : World} {B n : Nat} {x : Option Addr} {qs : List Qe} (h : EqsV w B x n qs) (hb : Below B w w') : EqsV w' B x n qs := by
  obtain ⟨h1, g, h2⟩ := h
  refine ⟨h1, g, fun hl => ?_⟩
  obtain ⟨e1, e2, e3, e4⟩ := h2 hl
  refine ⟨e1, e2, Nat.lt_of_lt_of_le e3 hb.size, fun i hi => ?_⟩
  obtain ⟨o, m, n, a, x, l, c, f1, f2⟩ := e4 i hi
  refine ⟨o, m, n, a, x, l, c, fun j u hu => ?_, f2.low hb⟩
  have := f1 j u hu
  simp only [World.cell?, hb.block g e2] at this ⊢
  exact this
theorem EqsV.cells {w : World} {B n : Nat} {x : Option Addr} {qs : List Qe} (h : EqsV w B x n qs) {g : Nat} (hx : x = some ⟨g, 0, none⟩) (i : Nat) (hi : i < qs.length) : ∃ o m n a x l c, (∀ (j : Nat) (u : Value), (rowQ (qs[i]).name o m n a x l c ((qs[i]).at_ : Int))[j]? = some u → w.cell? ⟨g, i * 7 + j, none⟩ = some u) ∧ IsP (fun k => k < B) w o m n a x l c (qs[i]).e := by
  obtain ⟨h1, g2, h2⟩ := h
  obtain ⟨e1, _, _, e4⟩ := h2 (by omega)
  rw [hx] at e1
  injection e1 with e1
  injection e1 with e1
  subst e1
  exact e4 i hi
theorem sizeV_eq : (Tryz.prog.info? 56).map (·.size) = some 7 := by kernel_rfl
theorem idxV_eq (g n cap i : Nat) (hi : i < n) (W : World) : (Instr.indexAt 39 (.slice (some ⟨g, 0, none⟩) n cap) (.int .i64 (i : Int))).run Tryz.prog W = .ok (.pointer (some ⟨g, i * 7, none⟩)) W := by
  have he : Tryz.prog.elem 39 = 56 := by simp [Program.elem, Tryz.underlying39]
  have hz : ∀ W, (sizeOf (Tryz.prog.elem 39)).run Tryz.prog W = .ok 7 W := fun W => by
    rw [he]
    have h := sizeV_eq
    cases hq : Tryz.prog.info? 56 with
    | none => simp [hq] at h
    | some i => simp [hq] at h; simp [sizeOf, typeInfo, hq, h]
  rw [run_indexAt_slice (h := by rw [he]; exact Tryz.underlying39), if_pos (by omega), hz]
  simp [Result.andThen, Addr.add_lit]
theorem qrowV_one (q o m : ByteArray) (n a b : Int) (x : Option Addr) (l c : Nat) : (#[.string q, .string o, .string m, .int .i64 n, .int .i64 a, .slice x l c, .int .i64 b] : Array Value).all (·.oneCell') = true := by simp [Value.oneCell']
/-- A node's value in memory, below block B. -/
structure NodeV (w : World) (B : Nat) (xi xo xl xe : Option Addr) (ni no nl ne : Nat) (nd : Nd) : Prop where
  ins : VarsV w B xi ni nd.ins
  outs : VarsV w B xo no nd.outs
  locs : VarsV w B xl nl nd.locs
  eqs : EqsV w B xe ne nd.eqs
theorem NodeV.low {w w' : World} {B : Nat} {xi xo xl xe : Option Addr} {ni no nl ne : Nat} {nd : Nd} (h : NodeV w B xi xo xl xe ni no nl ne nd) (hb : Below B w w') : NodeV w' B xi xo xl xe ni no nl ne nd := ⟨h.ins.low hb, h.outs.low hb, h.locs.low hb, h.eqs.low hb⟩
end Go.Proofs.YtjlnihennlkmpaaGreatDoor

namespace Go.Proofs.YtjlnihennlkmpaaGreatDoor
open Go Go.RowKit
set_option maxHeartbeats 4000000 in
set_option maxRecDepth 100000 in
theorem writeNode_any (B b : Nat) (l : List UInt8) (w : World) (h : Bld B b l w) (nd : Nd) (na : Int) (xi xo xl xe : Option Addr) (ni no nl ne ci co cl ce : Nat) (hv : NodeV w B xi xo xl xe ni no nl ne nd) (hq : ∀ i (h : i < nd.eqs.length), Writes w B b (nd.eqs[i]).e) (hni : ni < 1000000000000) (hno : no < 1000000000000) (hnl : nl < 1000000000000) (hne : ne < 1000000000000)
    (hlen : l.length + (nodeT nd).length ≤ 140737488355328) :
    Calls Tryz.prog 17 #[.pointer (some ⟨b, 0, none⟩), .agg #[.string nd.name, .slice xi ni ci, .slice xo no co, .slice xl nl cl, .slice xe ne ce, .int .i64 na]] w (GivesW B b l (nodeT nd) w) := by
  obtain ⟨hlk, g, hg⟩ := id hv.eqs
  have hnl2 : nl = nd.locs.length := hv.locs.1
  obtain ⟨nm, hnm⟩ : ∃ s, s = nd.name := ⟨_, rfl⟩
  unfold nodeT at hlen ⊢
  rw [← hnm] at hlen ⊢
  obtain ⟨X0, hX0⟩ : ∃ X, X = [110, 111, 100, 101, 32] ++ nm.data.toList ++ [40] := ⟨_, rfl⟩
  obtain ⟨X1, hX1⟩ : ∃ X, X = varsT nd.ins := ⟨_, rfl⟩
  obtain ⟨X3, hX3⟩ : ∃ X, X = varsT nd.outs := ⟨_, rfl⟩
  obtain ⟨XL, hXL⟩ : ∃ X, X = varsT nd.locs := ⟨_, rfl⟩
  obtain ⟨X5, hX5⟩ : ∃ X, X = locsT nd.locs := ⟨_, rfl⟩
  obtain ⟨X7, hX7⟩ : ∃ X, X = eqsT nd.eqs := ⟨_, rfl⟩
  have hx5 : X5 = if nl = 0 then [] else [118, 97, 114, 32] ++ XL ++ [59, 10] := by rw [hX5, hXL, hnl2]; rfl
  rw [← hX0, ← hX1, ← hX3, ← hX5, ← hX7] at hlen ⊢
  have hb1 : Below w.heap.size w (w.alloc (.cells #[.string nm, .slice xi ni ci, .slice xo no co, .slice xl nl cl, .slice xe ne ce, .int .i64 na] 41)) := (Below.refl _ _).alloc (Nat.le_refl _) _
  have hn1 := heap_alloc_new w (.cells #[.string nm, .slice xi ni ci, .slice xo no co, .slice xl nl cl, .slice xe ne ce, .int .i64 na] 41)
  have hs1 : (w.alloc (.cells #[.string nm, .slice xi ni ci, .slice xo no co, .slice xl nl cl, .slice xe ne ce, .int .i64 na] 41)).heap.size = w.heap.size + 1 := by simp
  have h1 := h.below hb1
  have hsz := h.2
  have hlt := h.lt
  obtain ⟨w1, hww⟩ : ∃ w1, w1 = (w.alloc (.cells #[.string nm, .slice xi ni ci, .slice xo no co, .slice xl nl cl, .slice xe ne ce, .int .i64 na] 41)) := ⟨_, rfl⟩
  rw [← hww] at hb1 hn1 hs1 h1
  have HL := Lib.hid hn1
  have HB := Lib.hid (hb1.mono hsz)
  have HW := Lib.hid (Wrote.below (b := b) hb1)
  have HH := Lib.hid h1
  have HV := Lib.hid hv
  have HQ := Lib.hid hq
  have HW1 := Lib.hid hww
  have HS1 := Lib.hid hs1
  have HX1 := Lib.hid hX1.symm
  have HX3 := Lib.hid hX3.symm
  have HXL := Lib.hid hXL.symm
  have HX7 := Lib.hid hX7.symm
  have HLK := Lib.hid hlk
  have HGX : Hid (0 < ne → xe = some ⟨g, 0, none⟩) := Lib.hid (fun h => (hg h).1)
  have HI1 := Lib.hid hni
  have HI2 := Lib.hid hno
  have HI3 := Lib.hid hnl
  have HSQ := Lib.hid sizeV_eq
  have HJ0 : Hid (joined [⟨#[110, 111, 100, 101, 32]⟩, nm, ⟨#[40]⟩] = X0) := Lib.hid (by rw [hX0]; simp [joined])
  have HJ2 : Hid (joined [⟨#[41, 32, 114, 101, 116, 117, 114, 110, 115, 32, 40]⟩] = [41, 32, 114, 101, 116, 117, 114, 110, 115, 32, 40]) := Lib.hid (by simp [joined])
  have HJ4 : Hid (joined [⟨#[41, 59, 10]⟩] = [41, 59, 10]) := Lib.hid (by simp [joined])
  have HJ5 : Hid (joined [⟨#[118, 97, 114, 32]⟩] = [118, 97, 114, 32]) := Lib.hid (by simp [joined])
  have HJ6 : Hid (joined [⟨#[108, 101, 116, 10]⟩] = [108, 101, 116, 10]) := Lib.hid (by simp [joined])
  have HJ8 : Hid (joined [⟨#[116, 101, 108, 59, 10]⟩] = [116, 101, 108, 59, 10]) := Lib.hid (by simp [joined])
  have HJ9 : Hid (joined [⟨#[59, 10]⟩] = [59, 10]) := Lib.hid (by simp [joined])
  have c0 := cell_of_row w1 w.heap.size 0 _ _ _ HL.out
  have c1 := cell_of_row w1 w.heap.size 1 _ _ _ HL.out
  have c2 := cell_of_row w1 w.heap.size 2 _ _ _ HL.out
  have c3 := cell_of_row w1 w.heap.size 3 _ _ _ HL.out
  have c4 := cell_of_row w1 w.heap.size 4 _ _ _ HL.out
  rw [hww] at c0 c1 c2 c3 c4
  by_cases hl0 : nl = 0
  · have d5 : decide (0 < nl) = false := by simp; omega
    rw [if_pos hl0] at hx5
    subst hx5
    have HLN := Lib.hid hlen
    clear h hb1 hn1 hs1 h1 hww hv hq hX0 hX1 hX3 hXL hX5 hX7 hlk hg hlen hnl2 hni hno hnl hnm hl0
    go_enter Tryz.func17, Tryz.ntmps17
    have k1 := say_at B b l w1 HH.out [⟨#[110, 111, 100, 101, 32]⟩, nm, ⟨#[40]⟩] 3 (w.heap.size + 1) #[.string ⟨#[110, 111, 100, 101, 32]⟩, .string nm, .string ⟨#[40]⟩] X0 HS1.out rfl rfl HJ0.out (by decide) (by have := HLN.out; simp only [List.length_append] at this ⊢; omega)
    clear HH
    go_wp2_with fail
    rw [← HW1.out]
    (with_reducible refine k1.mono ?_)
    rintro e u1 ⟨rfl, hh, hb, hw⟩
    have hz_u1 := hw.size
    have HL' := Lib.hid ((hw.block w.heap.size (Array.getElem?_eq_some_iff.1 HL.out).1 (by omega) (fun cs fr e => by rw [HL.out] at e; injection e with e; injection e with _ e _; exact absurd e (by decide))).trans HL.out)
    have HB' := Lib.hid (HB.out.trans hb)
    have HW' := Lib.hid (HW.out.trans hw)
    have HH := Lib.hid hh
    clear hh hb hw k1 HL HB HW c0 c1 c2 c3 c4
    have HL := HL'
    have HB := HB'
    have HW := HW'
    clear HL' HB' HW'
    have c0 := cell_of_row u1 w.heap.size 0 _ _ _ HL.out
    have c1 := cell_of_row u1 w.heap.size 1 _ _ _ HL.out
    have c2 := cell_of_row u1 w.heap.size 2 _ _ _ HL.out
    have c3 := cell_of_row u1 w.heap.size 3 _ _ _ HL.out
    have c4 := cell_of_row u1 w.heap.size 4 _ _ _ HL.out
    have k1 := writeVars_any B b (l ++ X0) u1 HH.out nd.ins xi ni ci (HV.out.ins.low HB.out) HI1.out (by rw [HX1.out]; have := HLN.out; simp only [List.length_append] at this ⊢; omega)
    rw [HX1.out] at k1
    clear HH
    go_wp2_with fail
    (with_reducible refine k1.mono ?_)
    rintro e u2 ⟨rfl, hh, hb, hw⟩
    have hz_u2 := hw.size
    have HL' := Lib.hid ((hw.block w.heap.size (Array.getElem?_eq_some_iff.1 HL.out).1 (by omega) (fun cs fr e => by rw [HL.out] at e; injection e with e; injection e with _ e _; exact absurd e (by decide))).trans HL.out)
    have HB' := Lib.hid (HB.out.trans hb)
    have HW' := Lib.hid (HW.out.trans hw)
    have HH := Lib.hid hh
    clear hh hb hw k1 HL HB HW c0 c1 c2 c3 c4
    have HL := HL'
    have HB := HB'
    have HW := HW'
    clear HL' HB' HW'
    have c0 := cell_of_row u2 w.heap.size 0 _ _ _ HL.out
    have c1 := cell_of_row u2 w.heap.size 1 _ _ _ HL.out
    have c2 := cell_of_row u2 w.heap.size 2 _ _ _ HL.out
    have c3 := cell_of_row u2 w.heap.size 3 _ _ _ HL.out
    have c4 := cell_of_row u2 w.heap.size 4 _ _ _ HL.out
    have k1 := say_at B b (l ++ X0 ++ X1) u2 HH.out [⟨#[41, 32, 114, 101, 116, 117, 114, 110, 115, 32, 40]⟩] 1 u2.heap.size #[.string ⟨#[41, 32, 114, 101, 116, 117, 114, 110, 115, 32, 40]⟩] [41, 32, 114, 101, 116, 117, 114, 110, 115, 32, 40] rfl rfl rfl HJ2.out (by decide) (by have := HLN.out; simp only [List.length_append] at this ⊢; omega)
    clear HH
    go_wp2_with fail
    (with_reducible refine k1.mono ?_)
    rintro e u3 ⟨rfl, hh, hb, hw⟩
    have hz_u3 := hw.size
    have HL' := Lib.hid ((hw.block w.heap.size (Array.getElem?_eq_some_iff.1 HL.out).1 (by omega) (fun cs fr e => by rw [HL.out] at e; injection e with e; injection e with _ e _; exact absurd e (by decide))).trans HL.out)
    have HB' := Lib.hid (HB.out.trans hb)
    have HW' := Lib.hid (HW.out.trans hw)
    have HH := Lib.hid hh
    clear hh hb hw k1 HL HB HW c0 c1 c2 c3 c4
    have HL := HL'
    have HB := HB'
    have HW := HW'
    clear HL' HB' HW'
    have c0 := cell_of_row u3 w.heap.size 0 _ _ _ HL.out
    have c1 := cell_of_row u3 w.heap.size 1 _ _ _ HL.out
    have c2 := cell_of_row u3 w.heap.size 2 _ _ _ HL.out
    have c3 := cell_of_row u3 w.heap.size 3 _ _ _ HL.out
    have c4 := cell_of_row u3 w.heap.size 4 _ _ _ HL.out
    have k1 := writeVars_any B b (l ++ X0 ++ X1 ++ [41, 32, 114, 101, 116, 117, 114, 110, 115, 32, 40]) u3 HH.out nd.outs xo no co (HV.out.outs.low HB.out) HI2.out (by rw [HX3.out]; have := HLN.out; simp only [List.length_append] at this ⊢; omega)
    rw [HX3.out] at k1
    clear HH
    go_wp2_with fail
    (with_reducible refine k1.mono ?_)
    rintro e u4 ⟨rfl, hh, hb, hw⟩
    have hz_u4 := hw.size
    have HL' := Lib.hid ((hw.block w.heap.size (Array.getElem?_eq_some_iff.1 HL.out).1 (by omega) (fun cs fr e => by rw [HL.out] at e; injection e with e; injection e with _ e _; exact absurd e (by decide))).trans HL.out)
    have HB' := Lib.hid (HB.out.trans hb)
    have HW' := Lib.hid (HW.out.trans hw)
    have HH := Lib.hid hh
    clear hh hb hw k1 HL HB HW c0 c1 c2 c3 c4
    have HL := HL'
    have HB := HB'
    have HW := HW'
    clear HL' HB' HW'
    have c0 := cell_of_row u4 w.heap.size 0 _ _ _ HL.out
    have c1 := cell_of_row u4 w.heap.size 1 _ _ _ HL.out
    have c2 := cell_of_row u4 w.heap.size 2 _ _ _ HL.out
    have c3 := cell_of_row u4 w.heap.size 3 _ _ _ HL.out
    have c4 := cell_of_row u4 w.heap.size 4 _ _ _ HL.out
    have k1 := say_at B b (l ++ X0 ++ X1 ++ [41, 32, 114, 101, 116, 117, 114, 110, 115, 32, 40] ++ X3) u4 HH.out [⟨#[41, 59, 10]⟩] 1 u4.heap.size #[.string ⟨#[41, 59, 10]⟩] [41, 59, 10] rfl rfl rfl HJ4.out (by decide) (by have := HLN.out; simp only [List.length_append] at this ⊢; omega)
    clear HH
    go_wp2_with fail
    (with_reducible refine k1.mono ?_)
    rintro e u5 ⟨rfl, hh, hb, hw⟩
    have hz_u5 := hw.size
    have HL' := Lib.hid ((hw.block w.heap.size (Array.getElem?_eq_some_iff.1 HL.out).1 (by omega) (fun cs fr e => by rw [HL.out] at e; injection e with e; injection e with _ e _; exact absurd e (by decide))).trans HL.out)
    have HB' := Lib.hid (HB.out.trans hb)
    have HW' := Lib.hid (HW.out.trans hw)
    have HH := Lib.hid hh
    clear hh hb hw k1 HL HB HW c0 c1 c2 c3 c4
    have HL := HL'
    have HB := HB'
    have HW := HW'
    clear HL' HB' HW'
    have c0 := cell_of_row u5 w.heap.size 0 _ _ _ HL.out
    have c1 := cell_of_row u5 w.heap.size 1 _ _ _ HL.out
    have c2 := cell_of_row u5 w.heap.size 2 _ _ _ HL.out
    have c3 := cell_of_row u5 w.heap.size 3 _ _ _ HL.out
    have c4 := cell_of_row u5 w.heap.size 4 _ _ _ HL.out
    have k1 := say_at B b (l ++ X0 ++ X1 ++ [41, 32, 114, 101, 116, 117, 114, 110, 115, 32, 40] ++ X3 ++ [41, 59, 10]) u5 HH.out [⟨#[108, 101, 116, 10]⟩] 1 u5.heap.size #[.string ⟨#[108, 101, 116, 10]⟩] [108, 101, 116, 10] rfl rfl rfl HJ6.out (by decide) (by have := HLN.out; simp only [List.length_append] at this ⊢; omega)
    clear HH
    go_wp2_with fail
    (with_reducible refine k1.mono ?_)
    rintro e u9 ⟨rfl, hh, hb, hw⟩
    have hz_u9 := hw.size
    have HL' := Lib.hid ((hw.block w.heap.size (Array.getElem?_eq_some_iff.1 HL.out).1 (by omega) (fun cs fr e => by rw [HL.out] at e; injection e with e; injection e with _ e _; exact absurd e (by decide))).trans HL.out)
    have HB' := Lib.hid (HB.out.trans hb)
    have HW' := Lib.hid (HW.out.trans hw)
    have HH := Lib.hid hh
    clear hh hb hw k1 HL HB HW c0 c1 c2 c3 c4
    have HL := HL'
    have HB := HB'
    have HW := HW'
    clear HL' HB' HW'
    have c0 := cell_of_row u9 w.heap.size 0 _ _ _ HL.out
    have c1 := cell_of_row u9 w.heap.size 1 _ _ _ HL.out
    have c2 := cell_of_row u9 w.heap.size 2 _ _ _ HL.out
    have c3 := cell_of_row u9 w.heap.size 3 _ _ _ HL.out
    have c4 := cell_of_row u9 w.heap.size 4 _ _ _ HL.out
    have HW9 := HW
    have HB9 := HB
    have HH9 := HH
    have HCL := Lib.hid c4
    go_wp2_with fail
    clear HCL
    obtain ⟨CU, hCU⟩ : ∃ C, C = l ++ X0 ++ X1 ++ [41, 32, 114, 101, 116, 117, 114, 110, 115, 32, 40] ++ X3 ++ [41, 59, 10] ++ [108, 101, 116, 10] := ⟨_, rfl⟩
    rw [← hCU] at HH9
    have HLE : Hid (CU.length + (eqsT nd.eqs).length + 5 ≤ 140737488355328) := Lib.hid (by rw [hCU]; have := HLN.out; simp only [List.length_append, List.length_cons, List.length_nil] at this ⊢; rw [HX7.out]; omega)
    have HFI : Hid (CU ++ eqsT nd.eqs ++ [116, 101, 108, 59, 10] = l ++ (X0 ++ X1 ++ [41, 32, 114, 101, 116, 117, 114, 110, 115, 32, 40] ++ X3 ++ [41, 59, 10] ++ [] ++ [108, 101, 116, 10] ++ X7 ++ [116, 101, 108, 59, 10])) := Lib.hid (by rw [hCU, HX7.out]; simp [List.append_assoc])
    clear hCU HLN HW HB HH HL c0 c1 c2 c3 c4
    go_loopw [45] (fun iv wr => ∃ i : Nat, iv = .int .i64 (i : Int) ∧ i ≤ ne ∧ Bld B b (CU ++ eqsT (nd.eqs.take i)) wr ∧ Below B w wr ∧ Wrote b w wr)
      (fun iv _ => ne - (intOf iv).toNat)
    case atStart => exact ⟨0, rfl, Nat.zero_le _, by simpa [eqsT] using HH9.out, HB9.out, HW9.out⟩
    case round =>
      obtain ⟨i, rfl, hil, hbl, hbw, hwr⟩ := hrel
      by_cases hin : i < ne
      · have d2 : decide ((i : Int) < (ne : Int)) = true := by simp; omega
        have hgg := HGX.out (by omega)
        have hix : ∀ W, (Instr.indexAt 39 (.slice xe ne ce) (.int .i64 (i : Int))).run Tryz.prog W = .ok (.pointer (some ⟨g, i * 7, none⟩)) W := fun W => by rw [hgg]; exact idxV_eq g ne ce i hin W
        have hik : i < nd.eqs.length := by rw [← HLK.out]; exact hin
        obtain ⟨o, m, n, a, x, lk, c, hcc, hie⟩ := (HV.out.eqs.low hbw).cells hgg i hik
        have hwk := HQ.out i hik
        have hsn : eqsT (nd.eqs.take (i + 1)) = eqsT (nd.eqs.take i) ++ eqT nd.eqs[i] := by
          rw [List.take_succ_eq_append_getElem hik, eqsT_snoc]
        have hln : (CU ++ (eqsT (nd.eqs.take i) ++ eqT nd.eqs[i])).length ≤ 140737488355328 := by
          rw [← hsn]
          have h1 : eqsT nd.eqs = eqsT (nd.eqs.take (i + 1)) ++ eqsT (nd.eqs.drop (i + 1)) := by
            unfold eqsT
            rw [← List.flatMap_append, List.take_append_drop]
          have h2 := HLE.out
          rw [h1] at h2
          simp only [List.length_append] at h2 ⊢
          omega
        obtain ⟨t, ht⟩ : ∃ t, t = nd.eqs[i] := ⟨_, rfl⟩
        rw [← ht] at hwk hsn hln hie hcc
        obtain ⟨q, qe, qa⟩ := t
        simp only at hcc hie hwk
        have q0 := hcc 0 _ rfl
        have q1 := hcc 1 _ rfl
        have q2 := hcc 2 _ rfl
        have q3 := hcc 3 _ rfl
        have q4 := hcc 4 _ rfl
        have q5 := hcc 5 _ rfl
        have q6 := hcc 6 _ rfl
        rw [Nat.add_zero] at q0
        obtain ⟨R, hR⟩ : ∃ R, R = eqsT (nd.eqs.take i) := ⟨_, rfl⟩
        rw [← hR] at hsn hln hbl
        obtain ⟨X1, hX1⟩ : ∃ X, X = [32, 32] ++ q.data.toList ++ [32, 61, 32] := ⟨_, rfl⟩
        have hqt : eqT ⟨q, qe, qa⟩ = X1 ++ textE qe ++ [59, 10] := by rw [hX1]; rfl
        rw [hqt] at hsn hln
        have hj1 : joined [⟨#[32, 32]⟩, q, ⟨#[32, 61, 32]⟩] = X1 := by rw [hX1]; simp [joined]
        have hb3 : Below wr.heap.size wr (wr.alloc (.cells #[.string ⟨#[]⟩, .string ⟨#[]⟩, .string ⟨#[]⟩, .int .i64 0, .int .i64 0, .slice none 0 0, .int .i64 0] 56)) := (Below.refl _ _).alloc (Nat.le_refl _) _
        have hn3 := heap_alloc_new wr (.cells #[.string ⟨#[]⟩, .string ⟨#[]⟩, .string ⟨#[]⟩, .int .i64 0, .int .i64 0, .slice none 0 0, .int .i64 0] 56)
        have HN3 := Lib.hid hn3
        have HB3 := Lib.hid hb3
        have HSN := Lib.hid hsn
        have HLN := Lib.hid hln
        have HBL := Lib.hid hbl
        have HBW := Lib.hid hbw
        have HWR := Lib.hid hwr
        have HIE0 := Lib.hid hie
        have HWK := Lib.hid hwk
        have HJ1 := Lib.hid hj1
        have HJ := Lib.hid HJ9.out
        have HSZ : Hid (B ≤ wr.heap.size) := Lib.hid hbl.2
        have hbz := hbl.lt
        clear hb3 hn3 hsn hln hbl hbw hwr hX1 hqt hj1 hcc hgg hie hwk ht hR HGX HLK HV HQ HH9 HB9 HW9 HLE HFI HJ0 HJ2 HJ4 HJ5 HJ6 HJ8
        go_wp2_with (
             refine wpList_store_row rfl 56 (.tmp 5) (.tmp 48) rfl wr.heap.size #[.string q, .string o, .string m, .int .i64 n, .int .i64 a, .slice x lk c, .int .i64 qa] rfl rfl 56 _ HN3.out HSQ.out rfl (qrowV_one _ _ _ _ _ _ _ _ _) ?_
             have hset := setRow_heap _ wr.heap.size _ #[.string q, .string o, .string m, .int .i64 n, .int .i64 a, .slice x lk c, .int .i64 qa] _ _ HN3.out
             have hbs := below_setRow HB3.out (Nat.le_refl _) #[.string q, .string o, .string m, .int .i64 n, .int .i64 a, .slice x lk c, .int .i64 qa]
             generalize (wr.alloc (.cells #[.string ⟨#[]⟩, .string ⟨#[]⟩, .string ⟨#[]⟩, .int .i64 0, .int .i64 0, .slice none 0 0, .int .i64 0] 56)).setRow wr.heap.size #[.string q, .string o, .string m, .int .i64 n, .int .i64 a, .slice x lk c, .int .i64 qa] = w3 at hset hbs ⊢
             have HL := Lib.hid hset
             have HB := Lib.hid (HBW.out.trans (hbs.mono HSZ.out))
             have HW := Lib.hid (HWR.out.trans (Wrote.below hbs))
             have HH := Lib.hid (HBL.out.below hbs)
             have HIE := Lib.hid (HIE0.out.low (hbs.mono HSZ.out))
             have hz_3 : wr.heap.size + 1 ≤ w3.heap.size := (Array.getElem?_eq_some_iff.1 hset).1
             have c0 := cell_of_row w3 wr.heap.size 0 _ _ _ hset
             clear hset hbs HN3 HB3 HBW HWR HBL HIE0)
        have k1 := say_at B b (CU ++ R) w3 HH.out [⟨#[32, 32]⟩, q, ⟨#[32, 61, 32]⟩] 3 w3.heap.size #[.string ⟨#[32, 32]⟩, .string q, .string ⟨#[32, 61, 32]⟩] X1 rfl rfl rfl HJ1.out (by decide) (by have := HLN.out; simp only [List.length_append] at this ⊢; omega)
        clear HH
        (with_reducible refine k1.mono ?_)
        rintro e u4 ⟨rfl, hh, hb, hw⟩
        have hz_u4 := hw.size
        have HL' := Lib.hid ((hw.block wr.heap.size (Array.getElem?_eq_some_iff.1 HL.out).1 (by omega) (fun cs fr e => by rw [HL.out] at e; injection e with e; injection e with _ e _; exact absurd e (by decide))).trans HL.out)
        have HB' := Lib.hid (HB.out.trans hb)
        have HW' := Lib.hid (HW.out.trans hw)
        have HIE' := Lib.hid (HIE.out.low hb)
        have HH := Lib.hid hh
        clear hh hb hw k1 HL HB HW HIE c0
        have HL := HL'
        have HB := HB'
        have HW := HW'
        have HIE := HIE'
        clear HL' HB' HW' HIE'
        have c1 := cell_of_row u4 wr.heap.size 1 _ _ _ HL.out
        have c2 := cell_of_row u4 wr.heap.size 2 _ _ _ HL.out
        have c3 := cell_of_row u4 wr.heap.size 3 _ _ _ HL.out
        have c4 := cell_of_row u4 wr.heap.size 4 _ _ _ HL.out
        have c5 := cell_of_row u4 wr.heap.size 5 _ _ _ HL.out
        have kx := HWK.out u4 (CU ++ R ++ X1) o m n a x lk c HB.out HH.out HIE.out (by have := HLN.out; simp only [List.length_append] at this ⊢; omega)
        unfold exV at kx
        clear HH
        go_wp2_with fail
        (with_reducible refine kx.mono ?_)
        rintro e u5 ⟨rfl, hh, hb, hw⟩
        have hz_u5 := hw.size
        have HL' := Lib.hid ((hw.block wr.heap.size (Array.getElem?_eq_some_iff.1 HL.out).1 (by omega) (fun cs fr e => by rw [HL.out] at e; injection e with e; injection e with _ e _; exact absurd e (by decide))).trans HL.out)
        have HB' := Lib.hid (HB.out.trans hb)
        have HW' := Lib.hid (HW.out.trans hw)
        have HIE' := Lib.hid (HIE.out.low hb)
        have HH := Lib.hid hh
        clear hh hb hw kx HL HB HW HIE c1 c2 c3 c4 c5
        have HL := HL'
        have HB := HB'
        have HW := HW'
        have HIE := HIE'
        clear HL' HB' HW' HIE'

        have k2 := say_at B b (CU ++ R ++ X1 ++ textE qe) u5 HH.out [⟨#[59, 10]⟩] 1 u5.heap.size #[.string ⟨#[59, 10]⟩] [59, 10] rfl rfl rfl HJ.out (by decide) (by have := HLN.out; simp only [List.length_append, List.length_cons, List.length_nil] at this ⊢; omega)
        clear HH
        go_wp2_with fail
        (with_reducible refine k2.mono ?_)
        rintro e u6 ⟨rfl, hh, hb, hw⟩
        have hz_u6 := hw.size
        have HL' := Lib.hid ((hw.block wr.heap.size (Array.getElem?_eq_some_iff.1 HL.out).1 (by omega) (fun cs fr e => by rw [HL.out] at e; injection e with e; injection e with _ e _; exact absurd e (by decide))).trans HL.out)
        have HB' := Lib.hid (HB.out.trans hb)
        have HW' := Lib.hid (HW.out.trans hw)
        have HIE' := Lib.hid (HIE.out.low hb)
        have HH := Lib.hid hh
        clear hh hb hw k2 HL HB HW HIE 
        have HL := HL'
        have HB := HB'
        have HW := HW'
        have HIE := HIE'
        clear HL' HB' HW' HIE'

        go_wp2_with fail
        refine ⟨⟨i + 1, by go_num, by omega, ?_, HB.out, HW.out⟩, ?_⟩
        · have e := HH.out
          rw [HSN.out]
          simpa [List.append_assoc] using e
        · simp [intOf]; omega
      · obtain rfl : i = ne := by omega
        have d2 : decide ((i : Int) < (i : Int)) = false := by simp
        have ht : nd.eqs.take i = nd.eqs := List.take_of_length_le (by have := HLK.out; omega)
        rw [ht] at hbl
        have k9 := say_at B b (CU ++ eqsT nd.eqs) wr hbl [⟨#[116, 101, 108, 59, 10]⟩] 1 wr.heap.size #[.string ⟨#[116, 101, 108, 59, 10]⟩] [116, 101, 108, 59, 10] rfl rfl rfl HJ8.out (by decide) (by have := HLE.out; simp only [List.length_append, List.length_cons, List.length_nil] at this ⊢; omega)
        have HBW := Lib.hid hbw
        have HWR := Lib.hid hwr
        clear ht hbl hbw hwr HGX HLK HV HQ HH9 HB9 HW9 HLE
        go_wp2_with fail
        (with_reducible refine k9.mono ?_)
        rintro e w9 ⟨rfl, h3, h4, h5⟩
        have H3 := Lib.hid h3
        have H4 := Lib.hid (HBW.out.trans h4)
        have H5 := Lib.hid (HWR.out.trans h5)
        clear h3 h4 h5 k9
        go_wp2_with fail
        go_end0
        refine ⟨rfl, ?_, H4.out, H5.out⟩
        have := H3.out
        rw [HFI.out] at this
        exact this
  · have d5 : decide (0 < nl) = true := by simp; omega
    rw [if_neg hl0] at hx5
    subst hx5
    have HLN := Lib.hid hlen
    clear h hb1 hn1 hs1 h1 hww hv hq hX0 hX1 hX3 hXL hX5 hX7 hlk hg hlen hnl2 hni hno hnl hnm hl0
    go_enter Tryz.func17, Tryz.ntmps17
    have k1 := say_at B b l w1 HH.out [⟨#[110, 111, 100, 101, 32]⟩, nm, ⟨#[40]⟩] 3 (w.heap.size + 1) #[.string ⟨#[110, 111, 100, 101, 32]⟩, .string nm, .string ⟨#[40]⟩] X0 HS1.out rfl rfl HJ0.out (by decide) (by have := HLN.out; simp only [List.length_append] at this ⊢; omega)
    clear HH
    go_wp2_with fail
    rw [← HW1.out]
    (with_reducible refine k1.mono ?_)
    rintro e u1 ⟨rfl, hh, hb, hw⟩
    have hz_u1 := hw.size
    have HL' := Lib.hid ((hw.block w.heap.size (Array.getElem?_eq_some_iff.1 HL.out).1 (by omega) (fun cs fr e => by rw [HL.out] at e; injection e with e; injection e with _ e _; exact absurd e (by decide))).trans HL.out)
    have HB' := Lib.hid (HB.out.trans hb)
    have HW' := Lib.hid (HW.out.trans hw)
    have HH := Lib.hid hh
    clear hh hb hw k1 HL HB HW c0 c1 c2 c3 c4
    have HL := HL'
    have HB := HB'
    have HW := HW'
    clear HL' HB' HW'
    have c0 := cell_of_row u1 w.heap.size 0 _ _ _ HL.out
    have c1 := cell_of_row u1 w.heap.size 1 _ _ _ HL.out
    have c2 := cell_of_row u1 w.heap.size 2 _ _ _ HL.out
    have c3 := cell_of_row u1 w.heap.size 3 _ _ _ HL.out
    have c4 := cell_of_row u1 w.heap.size 4 _ _ _ HL.out
    have k1 := writeVars_any B b (l ++ X0) u1 HH.out nd.ins xi ni ci (HV.out.ins.low HB.out) HI1.out (by rw [HX1.out]; have := HLN.out; simp only [List.length_append] at this ⊢; omega)
    rw [HX1.out] at k1
    clear HH
    go_wp2_with fail
    (with_reducible refine k1.mono ?_)
    rintro e u2 ⟨rfl, hh, hb, hw⟩
    have hz_u2 := hw.size
    have HL' := Lib.hid ((hw.block w.heap.size (Array.getElem?_eq_some_iff.1 HL.out).1 (by omega) (fun cs fr e => by rw [HL.out] at e; injection e with e; injection e with _ e _; exact absurd e (by decide))).trans HL.out)
    have HB' := Lib.hid (HB.out.trans hb)
    have HW' := Lib.hid (HW.out.trans hw)
    have HH := Lib.hid hh
    clear hh hb hw k1 HL HB HW c0 c1 c2 c3 c4
    have HL := HL'
    have HB := HB'
    have HW := HW'
    clear HL' HB' HW'
    have c0 := cell_of_row u2 w.heap.size 0 _ _ _ HL.out
    have c1 := cell_of_row u2 w.heap.size 1 _ _ _ HL.out
    have c2 := cell_of_row u2 w.heap.size 2 _ _ _ HL.out
    have c3 := cell_of_row u2 w.heap.size 3 _ _ _ HL.out
    have c4 := cell_of_row u2 w.heap.size 4 _ _ _ HL.out
    have k1 := say_at B b (l ++ X0 ++ X1) u2 HH.out [⟨#[41, 32, 114, 101, 116, 117, 114, 110, 115, 32, 40]⟩] 1 u2.heap.size #[.string ⟨#[41, 32, 114, 101, 116, 117, 114, 110, 115, 32, 40]⟩] [41, 32, 114, 101, 116, 117, 114, 110, 115, 32, 40] rfl rfl rfl HJ2.out (by decide) (by have := HLN.out; simp only [List.length_append] at this ⊢; omega)
    clear HH
    go_wp2_with fail
    (with_reducible refine k1.mono ?_)
    rintro e u3 ⟨rfl, hh, hb, hw⟩
    have hz_u3 := hw.size
    have HL' := Lib.hid ((hw.block w.heap.size (Array.getElem?_eq_some_iff.1 HL.out).1 (by omega) (fun cs fr e => by rw [HL.out] at e; injection e with e; injection e with _ e _; exact absurd e (by decide))).trans HL.out)
    have HB' := Lib.hid (HB.out.trans hb)
    have HW' := Lib.hid (HW.out.trans hw)
    have HH := Lib.hid hh
    clear hh hb hw k1 HL HB HW c0 c1 c2 c3 c4
    have HL := HL'
    have HB := HB'
    have HW := HW'
    clear HL' HB' HW'
    have c0 := cell_of_row u3 w.heap.size 0 _ _ _ HL.out
    have c1 := cell_of_row u3 w.heap.size 1 _ _ _ HL.out
    have c2 := cell_of_row u3 w.heap.size 2 _ _ _ HL.out
    have c3 := cell_of_row u3 w.heap.size 3 _ _ _ HL.out
    have c4 := cell_of_row u3 w.heap.size 4 _ _ _ HL.out
    have k1 := writeVars_any B b (l ++ X0 ++ X1 ++ [41, 32, 114, 101, 116, 117, 114, 110, 115, 32, 40]) u3 HH.out nd.outs xo no co (HV.out.outs.low HB.out) HI2.out (by rw [HX3.out]; have := HLN.out; simp only [List.length_append] at this ⊢; omega)
    rw [HX3.out] at k1
    clear HH
    go_wp2_with fail
    (with_reducible refine k1.mono ?_)
    rintro e u4 ⟨rfl, hh, hb, hw⟩
    have hz_u4 := hw.size
    have HL' := Lib.hid ((hw.block w.heap.size (Array.getElem?_eq_some_iff.1 HL.out).1 (by omega) (fun cs fr e => by rw [HL.out] at e; injection e with e; injection e with _ e _; exact absurd e (by decide))).trans HL.out)
    have HB' := Lib.hid (HB.out.trans hb)
    have HW' := Lib.hid (HW.out.trans hw)
    have HH := Lib.hid hh
    clear hh hb hw k1 HL HB HW c0 c1 c2 c3 c4
    have HL := HL'
    have HB := HB'
    have HW := HW'
    clear HL' HB' HW'
    have c0 := cell_of_row u4 w.heap.size 0 _ _ _ HL.out
    have c1 := cell_of_row u4 w.heap.size 1 _ _ _ HL.out
    have c2 := cell_of_row u4 w.heap.size 2 _ _ _ HL.out
    have c3 := cell_of_row u4 w.heap.size 3 _ _ _ HL.out
    have c4 := cell_of_row u4 w.heap.size 4 _ _ _ HL.out
    have k1 := say_at B b (l ++ X0 ++ X1 ++ [41, 32, 114, 101, 116, 117, 114, 110, 115, 32, 40] ++ X3) u4 HH.out [⟨#[41, 59, 10]⟩] 1 u4.heap.size #[.string ⟨#[41, 59, 10]⟩] [41, 59, 10] rfl rfl rfl HJ4.out (by decide) (by have := HLN.out; simp only [List.length_append] at this ⊢; omega)
    clear HH
    go_wp2_with fail
    (with_reducible refine k1.mono ?_)
    rintro e u5 ⟨rfl, hh, hb, hw⟩
    have hz_u5 := hw.size
    have HL' := Lib.hid ((hw.block w.heap.size (Array.getElem?_eq_some_iff.1 HL.out).1 (by omega) (fun cs fr e => by rw [HL.out] at e; injection e with e; injection e with _ e _; exact absurd e (by decide))).trans HL.out)
    have HB' := Lib.hid (HB.out.trans hb)
    have HW' := Lib.hid (HW.out.trans hw)
    have HH := Lib.hid hh
    clear hh hb hw k1 HL HB HW c0 c1 c2 c3 c4
    have HL := HL'
    have HB := HB'
    have HW := HW'
    clear HL' HB' HW'
    have c0 := cell_of_row u5 w.heap.size 0 _ _ _ HL.out
    have c1 := cell_of_row u5 w.heap.size 1 _ _ _ HL.out
    have c2 := cell_of_row u5 w.heap.size 2 _ _ _ HL.out
    have c3 := cell_of_row u5 w.heap.size 3 _ _ _ HL.out
    have c4 := cell_of_row u5 w.heap.size 4 _ _ _ HL.out
    have k1 := say_at B b (l ++ X0 ++ X1 ++ [41, 32, 114, 101, 116, 117, 114, 110, 115, 32, 40] ++ X3 ++ [41, 59, 10]) u5 HH.out [⟨#[118, 97, 114, 32]⟩] 1 u5.heap.size #[.string ⟨#[118, 97, 114, 32]⟩] [118, 97, 114, 32] rfl rfl rfl HJ5.out (by decide) (by have := HLN.out; simp only [List.length_append] at this ⊢; omega)
    clear HH
    go_wp2_with fail
    (with_reducible refine k1.mono ?_)
    rintro e u6 ⟨rfl, hh, hb, hw⟩
    have hz_u6 := hw.size
    have HL' := Lib.hid ((hw.block w.heap.size (Array.getElem?_eq_some_iff.1 HL.out).1 (by omega) (fun cs fr e => by rw [HL.out] at e; injection e with e; injection e with _ e _; exact absurd e (by decide))).trans HL.out)
    have HB' := Lib.hid (HB.out.trans hb)
    have HW' := Lib.hid (HW.out.trans hw)
    have HH := Lib.hid hh
    clear hh hb hw k1 HL HB HW c0 c1 c2 c3 c4
    have HL := HL'
    have HB := HB'
    have HW := HW'
    clear HL' HB' HW'
    have c0 := cell_of_row u6 w.heap.size 0 _ _ _ HL.out
    have c1 := cell_of_row u6 w.heap.size 1 _ _ _ HL.out
    have c2 := cell_of_row u6 w.heap.size 2 _ _ _ HL.out
    have c3 := cell_of_row u6 w.heap.size 3 _ _ _ HL.out
    have c4 := cell_of_row u6 w.heap.size 4 _ _ _ HL.out
    have k1 := writeVars_any B b (l ++ X0 ++ X1 ++ [41, 32, 114, 101, 116, 117, 114, 110, 115, 32, 40] ++ X3 ++ [41, 59, 10] ++ [118, 97, 114, 32]) u6 HH.out nd.locs xl nl cl (HV.out.locs.low HB.out) HI3.out (by rw [HXL.out]; have := HLN.out; simp only [List.length_append] at this ⊢; omega)
    rw [HXL.out] at k1
    clear HH
    go_wp2_with fail
    (with_reducible refine k1.mono ?_)
    rintro e u7 ⟨rfl, hh, hb, hw⟩
    have hz_u7 := hw.size
    have HL' := Lib.hid ((hw.block w.heap.size (Array.getElem?_eq_some_iff.1 HL.out).1 (by omega) (fun cs fr e => by rw [HL.out] at e; injection e with e; injection e with _ e _; exact absurd e (by decide))).trans HL.out)
    have HB' := Lib.hid (HB.out.trans hb)
    have HW' := Lib.hid (HW.out.trans hw)
    have HH := Lib.hid hh
    clear hh hb hw k1 HL HB HW c0 c1 c2 c3 c4
    have HL := HL'
    have HB := HB'
    have HW := HW'
    clear HL' HB' HW'
    have c0 := cell_of_row u7 w.heap.size 0 _ _ _ HL.out
    have c1 := cell_of_row u7 w.heap.size 1 _ _ _ HL.out
    have c2 := cell_of_row u7 w.heap.size 2 _ _ _ HL.out
    have c3 := cell_of_row u7 w.heap.size 3 _ _ _ HL.out
    have c4 := cell_of_row u7 w.heap.size 4 _ _ _ HL.out
    have k1 := say_at B b (l ++ X0 ++ X1 ++ [41, 32, 114, 101, 116, 117, 114, 110, 115, 32, 40] ++ X3 ++ [41, 59, 10] ++ [118, 97, 114, 32] ++ XL) u7 HH.out [⟨#[59, 10]⟩] 1 u7.heap.size #[.string ⟨#[59, 10]⟩] [59, 10] rfl rfl rfl HJ9.out (by decide) (by have := HLN.out; simp only [List.length_append] at this ⊢; omega)
    clear HH
    go_wp2_with fail
    (with_reducible refine k1.mono ?_)
    rintro e u8 ⟨rfl, hh, hb, hw⟩
    have hz_u8 := hw.size
    have HL' := Lib.hid ((hw.block w.heap.size (Array.getElem?_eq_some_iff.1 HL.out).1 (by omega) (fun cs fr e => by rw [HL.out] at e; injection e with e; injection e with _ e _; exact absurd e (by decide))).trans HL.out)
    have HB' := Lib.hid (HB.out.trans hb)
    have HW' := Lib.hid (HW.out.trans hw)
    have HH := Lib.hid hh
    clear hh hb hw k1 HL HB HW c0 c1 c2 c3 c4
    have HL := HL'
    have HB := HB'
    have HW := HW'
    clear HL' HB' HW'
    have c0 := cell_of_row u8 w.heap.size 0 _ _ _ HL.out
    have c1 := cell_of_row u8 w.heap.size 1 _ _ _ HL.out
    have c2 := cell_of_row u8 w.heap.size 2 _ _ _ HL.out
    have c3 := cell_of_row u8 w.heap.size 3 _ _ _ HL.out
    have c4 := cell_of_row u8 w.heap.size 4 _ _ _ HL.out
    have k1 := say_at B b (l ++ X0 ++ X1 ++ [41, 32, 114, 101, 116, 117, 114, 110, 115, 32, 40] ++ X3 ++ [41, 59, 10] ++ [118, 97, 114, 32] ++ XL ++ [59, 10]) u8 HH.out [⟨#[108, 101, 116, 10]⟩] 1 u8.heap.size #[.string ⟨#[108, 101, 116, 10]⟩] [108, 101, 116, 10] rfl rfl rfl HJ6.out (by decide) (by have := HLN.out; simp only [List.length_append] at this ⊢; omega)
    clear HH
    go_wp2_with fail
    (with_reducible refine k1.mono ?_)
    rintro e u9 ⟨rfl, hh, hb, hw⟩
    have hz_u9 := hw.size
    have HL' := Lib.hid ((hw.block w.heap.size (Array.getElem?_eq_some_iff.1 HL.out).1 (by omega) (fun cs fr e => by rw [HL.out] at e; injection e with e; injection e with _ e _; exact absurd e (by decide))).trans HL.out)
    have HB' := Lib.hid (HB.out.trans hb)
    have HW' := Lib.hid (HW.out.trans hw)
    have HH := Lib.hid hh
    clear hh hb hw k1 HL HB HW c0 c1 c2 c3 c4
    have HL := HL'
    have HB := HB'
    have HW := HW'
    clear HL' HB' HW'
    have c0 := cell_of_row u9 w.heap.size 0 _ _ _ HL.out
    have c1 := cell_of_row u9 w.heap.size 1 _ _ _ HL.out
    have c2 := cell_of_row u9 w.heap.size 2 _ _ _ HL.out
    have c3 := cell_of_row u9 w.heap.size 3 _ _ _ HL.out
    have c4 := cell_of_row u9 w.heap.size 4 _ _ _ HL.out
    have HW9 := HW
    have HB9 := HB
    have HH9 := HH
    have HCL := Lib.hid c4
    go_wp2_with fail
    clear HCL
    obtain ⟨CU, hCU⟩ : ∃ C, C = l ++ X0 ++ X1 ++ [41, 32, 114, 101, 116, 117, 114, 110, 115, 32, 40] ++ X3 ++ [41, 59, 10] ++ [118, 97, 114, 32] ++ XL ++ [59, 10] ++ [108, 101, 116, 10] := ⟨_, rfl⟩
    rw [← hCU] at HH9
    have HLE : Hid (CU.length + (eqsT nd.eqs).length + 5 ≤ 140737488355328) := Lib.hid (by rw [hCU]; have := HLN.out; simp only [List.length_append, List.length_cons, List.length_nil] at this ⊢; rw [HX7.out]; omega)
    have HFI : Hid (CU ++ eqsT nd.eqs ++ [116, 101, 108, 59, 10] = l ++ (X0 ++ X1 ++ [41, 32, 114, 101, 116, 117, 114, 110, 115, 32, 40] ++ X3 ++ [41, 59, 10] ++ ([118, 97, 114, 32] ++ XL ++ [59, 10]) ++ [108, 101, 116, 10] ++ X7 ++ [116, 101, 108, 59, 10])) := Lib.hid (by rw [hCU, HX7.out]; simp [List.append_assoc])
    clear hCU HLN HW HB HH HL c0 c1 c2 c3 c4
    go_loopw [45] (fun iv wr => ∃ i : Nat, iv = .int .i64 (i : Int) ∧ i ≤ ne ∧ Bld B b (CU ++ eqsT (nd.eqs.take i)) wr ∧ Below B w wr ∧ Wrote b w wr)
      (fun iv _ => ne - (intOf iv).toNat)
    case atStart => exact ⟨0, rfl, Nat.zero_le _, by simpa [eqsT] using HH9.out, HB9.out, HW9.out⟩
    case round =>
      obtain ⟨i, rfl, hil, hbl, hbw, hwr⟩ := hrel
      by_cases hin : i < ne
      · have d2 : decide ((i : Int) < (ne : Int)) = true := by simp; omega
        have hgg := HGX.out (by omega)
        have hix : ∀ W, (Instr.indexAt 39 (.slice xe ne ce) (.int .i64 (i : Int))).run Tryz.prog W = .ok (.pointer (some ⟨g, i * 7, none⟩)) W := fun W => by rw [hgg]; exact idxV_eq g ne ce i hin W
        have hik : i < nd.eqs.length := by rw [← HLK.out]; exact hin
        obtain ⟨o, m, n, a, x, lk, c, hcc, hie⟩ := (HV.out.eqs.low hbw).cells hgg i hik
        have hwk := HQ.out i hik
        have hsn : eqsT (nd.eqs.take (i + 1)) = eqsT (nd.eqs.take i) ++ eqT nd.eqs[i] := by
          rw [List.take_succ_eq_append_getElem hik, eqsT_snoc]
        have hln : (CU ++ (eqsT (nd.eqs.take i) ++ eqT nd.eqs[i])).length ≤ 140737488355328 := by
          rw [← hsn]
          have h1 : eqsT nd.eqs = eqsT (nd.eqs.take (i + 1)) ++ eqsT (nd.eqs.drop (i + 1)) := by
            unfold eqsT
            rw [← List.flatMap_append, List.take_append_drop]
          have h2 := HLE.out
          rw [h1] at h2
          simp only [List.length_append] at h2 ⊢
          omega
        obtain ⟨t, ht⟩ : ∃ t, t = nd.eqs[i] := ⟨_, rfl⟩
        rw [← ht] at hwk hsn hln hie hcc
        obtain ⟨q, qe, qa⟩ := t
        simp only at hcc hie hwk
        have q0 := hcc 0 _ rfl
        have q1 := hcc 1 _ rfl
        have q2 := hcc 2 _ rfl
        have q3 := hcc 3 _ rfl
        have q4 := hcc 4 _ rfl
        have q5 := hcc 5 _ rfl
        have q6 := hcc 6 _ rfl
        rw [Nat.add_zero] at q0
        obtain ⟨R, hR⟩ : ∃ R, R = eqsT (nd.eqs.take i) := ⟨_, rfl⟩
        rw [← hR] at hsn hln hbl
        obtain ⟨X1, hX1⟩ : ∃ X, X = [32, 32] ++ q.data.toList ++ [32, 61, 32] := ⟨_, rfl⟩
        have hqt : eqT ⟨q, qe, qa⟩ = X1 ++ textE qe ++ [59, 10] := by rw [hX1]; rfl
        rw [hqt] at hsn hln
        have hj1 : joined [⟨#[32, 32]⟩, q, ⟨#[32, 61, 32]⟩] = X1 := by rw [hX1]; simp [joined]
        have hb3 : Below wr.heap.size wr (wr.alloc (.cells #[.string ⟨#[]⟩, .string ⟨#[]⟩, .string ⟨#[]⟩, .int .i64 0, .int .i64 0, .slice none 0 0, .int .i64 0] 56)) := (Below.refl _ _).alloc (Nat.le_refl _) _
        have hn3 := heap_alloc_new wr (.cells #[.string ⟨#[]⟩, .string ⟨#[]⟩, .string ⟨#[]⟩, .int .i64 0, .int .i64 0, .slice none 0 0, .int .i64 0] 56)
        have HN3 := Lib.hid hn3
        have HB3 := Lib.hid hb3
        have HSN := Lib.hid hsn
        have HLN := Lib.hid hln
        have HBL := Lib.hid hbl
        have HBW := Lib.hid hbw
        have HWR := Lib.hid hwr
        have HIE0 := Lib.hid hie
        have HWK := Lib.hid hwk
        have HJ1 := Lib.hid hj1
        have HJ := Lib.hid HJ9.out
        have HSZ : Hid (B ≤ wr.heap.size) := Lib.hid hbl.2
        have hbz := hbl.lt
        clear hb3 hn3 hsn hln hbl hbw hwr hX1 hqt hj1 hcc hgg hie hwk ht hR HGX HLK HV HQ HH9 HB9 HW9 HLE HFI HJ0 HJ2 HJ4 HJ5 HJ6 HJ8
        go_wp2_with (
             refine wpList_store_row rfl 56 (.tmp 5) (.tmp 48) rfl wr.heap.size #[.string q, .string o, .string m, .int .i64 n, .int .i64 a, .slice x lk c, .int .i64 qa] rfl rfl 56 _ HN3.out HSQ.out rfl (qrowV_one _ _ _ _ _ _ _ _ _) ?_
             have hset := setRow_heap _ wr.heap.size _ #[.string q, .string o, .string m, .int .i64 n, .int .i64 a, .slice x lk c, .int .i64 qa] _ _ HN3.out
             have hbs := below_setRow HB3.out (Nat.le_refl _) #[.string q, .string o, .string m, .int .i64 n, .int .i64 a, .slice x lk c, .int .i64 qa]
             generalize (wr.alloc (.cells #[.string ⟨#[]⟩, .string ⟨#[]⟩, .string ⟨#[]⟩, .int .i64 0, .int .i64 0, .slice none 0 0, .int .i64 0] 56)).setRow wr.heap.size #[.string q, .string o, .string m, .int .i64 n, .int .i64 a, .slice x lk c, .int .i64 qa] = w3 at hset hbs ⊢
             have HL := Lib.hid hset
             have HB := Lib.hid (HBW.out.trans (hbs.mono HSZ.out))
             have HW := Lib.hid (HWR.out.trans (Wrote.below hbs))
             have HH := Lib.hid (HBL.out.below hbs)
             have HIE := Lib.hid (HIE0.out.low (hbs.mono HSZ.out))
             have hz_3 : wr.heap.size + 1 ≤ w3.heap.size := (Array.getElem?_eq_some_iff.1 hset).1
             have c0 := cell_of_row w3 wr.heap.size 0 _ _ _ hset
             clear hset hbs HN3 HB3 HBW HWR HBL HIE0)
        have k1 := say_at B b (CU ++ R) w3 HH.out [⟨#[32, 32]⟩, q, ⟨#[32, 61, 32]⟩] 3 w3.heap.size #[.string ⟨#[32, 32]⟩, .string q, .string ⟨#[32, 61, 32]⟩] X1 rfl rfl rfl HJ1.out (by decide) (by have := HLN.out; simp only [List.length_append] at this ⊢; omega)
        clear HH
        (with_reducible refine k1.mono ?_)
        rintro e u4 ⟨rfl, hh, hb, hw⟩
        have hz_u4 := hw.size
        have HL' := Lib.hid ((hw.block wr.heap.size (Array.getElem?_eq_some_iff.1 HL.out).1 (by omega) (fun cs fr e => by rw [HL.out] at e; injection e with e; injection e with _ e _; exact absurd e (by decide))).trans HL.out)
        have HB' := Lib.hid (HB.out.trans hb)
        have HW' := Lib.hid (HW.out.trans hw)
        have HIE' := Lib.hid (HIE.out.low hb)
        have HH := Lib.hid hh
        clear hh hb hw k1 HL HB HW HIE c0
        have HL := HL'
        have HB := HB'
        have HW := HW'
        have HIE := HIE'
        clear HL' HB' HW' HIE'
        have c1 := cell_of_row u4 wr.heap.size 1 _ _ _ HL.out
        have c2 := cell_of_row u4 wr.heap.size 2 _ _ _ HL.out
        have c3 := cell_of_row u4 wr.heap.size 3 _ _ _ HL.out
        have c4 := cell_of_row u4 wr.heap.size 4 _ _ _ HL.out
        have c5 := cell_of_row u4 wr.heap.size 5 _ _ _ HL.out
        have kx := HWK.out u4 (CU ++ R ++ X1) o m n a x lk c HB.out HH.out HIE.out (by have := HLN.out; simp only [List.length_append] at this ⊢; omega)
        unfold exV at kx
        clear HH
        go_wp2_with fail
        (with_reducible refine kx.mono ?_)
        rintro e u5 ⟨rfl, hh, hb, hw⟩
        have hz_u5 := hw.size
        have HL' := Lib.hid ((hw.block wr.heap.size (Array.getElem?_eq_some_iff.1 HL.out).1 (by omega) (fun cs fr e => by rw [HL.out] at e; injection e with e; injection e with _ e _; exact absurd e (by decide))).trans HL.out)
        have HB' := Lib.hid (HB.out.trans hb)
        have HW' := Lib.hid (HW.out.trans hw)
        have HIE' := Lib.hid (HIE.out.low hb)
        have HH := Lib.hid hh
        clear hh hb hw kx HL HB HW HIE c1 c2 c3 c4 c5
        have HL := HL'
        have HB := HB'
        have HW := HW'
        have HIE := HIE'
        clear HL' HB' HW' HIE'

        have k2 := say_at B b (CU ++ R ++ X1 ++ textE qe) u5 HH.out [⟨#[59, 10]⟩] 1 u5.heap.size #[.string ⟨#[59, 10]⟩] [59, 10] rfl rfl rfl HJ.out (by decide) (by have := HLN.out; simp only [List.length_append, List.length_cons, List.length_nil] at this ⊢; omega)
        clear HH
        go_wp2_with fail
        (with_reducible refine k2.mono ?_)
        rintro e u6 ⟨rfl, hh, hb, hw⟩
        have hz_u6 := hw.size
        have HL' := Lib.hid ((hw.block wr.heap.size (Array.getElem?_eq_some_iff.1 HL.out).1 (by omega) (fun cs fr e => by rw [HL.out] at e; injection e with e; injection e with _ e _; exact absurd e (by decide))).trans HL.out)
        have HB' := Lib.hid (HB.out.trans hb)
        have HW' := Lib.hid (HW.out.trans hw)
        have HIE' := Lib.hid (HIE.out.low hb)
        have HH := Lib.hid hh
        clear hh hb hw k2 HL HB HW HIE 
        have HL := HL'
        have HB := HB'
        have HW := HW'
        have HIE := HIE'
        clear HL' HB' HW' HIE'

        go_wp2_with fail
        refine ⟨⟨i + 1, by go_num, by omega, ?_, HB.out, HW.out⟩, ?_⟩
        · have e := HH.out
          rw [HSN.out]
          simpa [List.append_assoc] using e
        · simp [intOf]; omega
      · obtain rfl : i = ne := by omega
        have d2 : decide ((i : Int) < (i : Int)) = false := by simp
        have ht : nd.eqs.take i = nd.eqs := List.take_of_length_le (by have := HLK.out; omega)
        rw [ht] at hbl
        have k9 := say_at B b (CU ++ eqsT nd.eqs) wr hbl [⟨#[116, 101, 108, 59, 10]⟩] 1 wr.heap.size #[.string ⟨#[116, 101, 108, 59, 10]⟩] [116, 101, 108, 59, 10] rfl rfl rfl HJ8.out (by decide) (by have := HLE.out; simp only [List.length_append, List.length_cons, List.length_nil] at this ⊢; omega)
        have HBW := Lib.hid hbw
        have HWR := Lib.hid hwr
        clear ht hbl hbw hwr HGX HLK HV HQ HH9 HB9 HW9 HLE
        go_wp2_with fail
        (with_reducible refine k9.mono ?_)
        rintro e w9 ⟨rfl, h3, h4, h5⟩
        have H3 := Lib.hid h3
        have H4 := Lib.hid (HBW.out.trans h4)
        have H5 := Lib.hid (HWR.out.trans h5)
        clear h3 h4 h5 k9
        go_wp2_with fail
        go_end0
        refine ⟨rfl, ?_, H4.out, H5.out⟩
        have := H3.out
        rw [HFI.out] at this
        exact this
end Go.Proofs.YtjlnihennlkmpaaGreatDoor

namespace Go.Proofs
open Go.Shelf
def Tryz.lays169_ren : Go.Shelf.Ren := ⟨fun | 169 => 18 | n => n, fun | 70 => 63 | 9 => 9 | 0 => 0 | 72 => 66 | 37 => 64 | 127 => 84 | 3 => 3 | 5 => 5 | n => n, fun | n => n⟩
theorem Tryz.lays169 : Go.Proofs.Lays.n169 Tryz.prog Tryz.lays169_ren := {
  mixed := by kernel_rfl
  f169 := Tryz.func18.trans (congrArg some (by kernel_rfl))
  t0 := Tryz.underlying0
  a0 := Tryz.isAgg0
  z0 := Tryz.sizeOf0
  v0 := Tryz.zeroValue0
  t3 := Tryz.underlying3
  a3 := Tryz.isAgg3
  z3 := Tryz.sizeOf3
  v3 := Tryz.zeroValue3
  t9 := Tryz.underlying9
  a9 := Tryz.isAgg9
  z9 := Tryz.sizeOf9
  v9 := Tryz.zeroValue9
  t37 := Tryz.underlying64
  a37 := Tryz.isAgg64
  z37 := Tryz.sizeOf64
  v37 := Tryz.zeroValue64
  t70 := Tryz.underlying63
  a70 := Tryz.isAgg63
  z70 := Tryz.sizeOf63
  v70 := Tryz.zeroValue63
  t72 := Tryz.underlying66
  a72 := Tryz.isAgg66
  z72 := Tryz.sizeOf66
  v72 := Tryz.zeroValue66
  t127 := Tryz.underlying84
  a127 := Tryz.isAgg84
  z127 := Tryz.sizeOf84
  v127 := Tryz.zeroValue84 }
theorem Tryz.Builder_Extra_169 : Builder.Extra Tryz.prog Tryz.lays169_ren := {
  sizeBuilder := by kernel_rfl
  liesBuilder := by kernel_rfl
  t5 := Tryz.underlying5
  a5 := Tryz.isAgg5
  z5 := Tryz.sizeOf5
  v5 := Tryz.zeroValue5
  infoByte := by kernel_rfl
  cellsByte := by kernel_rfl
  sizeByte := by kernel_rfl
  neB5 := by decide }
open Go.RowKit in
theorem Tryz.Builder_String_any (B b : Nat) (l : List UInt8) (w : World) (h : Lib.IsBuilder 66 5 B b (Lib.byteCells l) w) (hBw : B ≤ w.heap.size) :
    Calls Tryz.prog 18 #[.pointer (some ⟨b, 0, none⟩)] w fun e w' => e = .returned (.string ⟨l.toArray⟩) ∧ Below B w w' := Any.Builder_String_any Tryz.lays169 Tryz.Builder_Extra_169 B b l w h hBw
end Go.Proofs

namespace Go.Proofs.YtjlnihennlkmpaaGreatDoor
open Go Go.RowKit
/-- Nodes as they are written. -/
def showT (l : List Nd) : List UInt8 := l.flatMap nodeT
theorem showT_snoc (l : List Nd) (q : Nd) : showT (l ++ [q]) = showT l ++ nodeT q := by simp [showT]
/-- A node whose numbers fit. -/
structure FineN (nd : Nd) : Prop where
  ins : nd.ins.length < 1000000000000
  outs : nd.outs.length < 1000000000000
  locs : nd.locs.length < 1000000000000
  eqs : nd.eqs.length < 1000000000000
  ex : ∀ q ∈ nd.eqs, FineE q.e
/-- Nodes in memory, below block B. -/
def NodesV (w : World) (B : Nat) (x : Option Addr) (n : Nat) (l : List Nd) : Prop := n = l.length ∧ ∃ g, 0 < n → x = some ⟨g, 0, none⟩ ∧ g < B ∧ g < w.heap.size ∧ ∀ (i : Nat) (h : i < l.length), ∃ xi xo xl xe ni no nl ne ci co cl ce, (∀ (j : Nat) (u : Value), (rowN (l[i]).name (.slice xi ni ci) (.slice xo no co) (.slice xl nl cl) (.slice xe ne ce) ((l[i]).at_ : Int))[j]? = some u → w.cell? ⟨g, i * 6 + j, none⟩ = some u) ∧ NodeV w B xi xo xl xe ni no nl ne l[i]
theorem NodeV.of_np {w : World} {B : Nat} {vi vo vl ve : Value} {nd : Nd} (h : IsNP (fun k => k < B) w vi vo vl ve nd) : ∃ xi xo xl xe ni no nl ne ci co cl ce, vi = .slice xi ni ci ∧ vo = .slice xo no co ∧ vl = .slice xl nl cl ∧ ve = .slice xe ne ce ∧ NodeV w B xi xo xl xe ni no nl ne nd := by
  obtain ⟨xi, ci, e1, h1⟩ := VarsV.of_own h.ins (h.all _ (.inl rfl))
  obtain ⟨xo, co, e2, h2⟩ := VarsV.of_own h.outs (h.all _ (.inr (.inl rfl)))
  obtain ⟨xl, cl, e3, h3⟩ := VarsV.of_own h.locs (h.all _ (.inr (.inr (.inl rfl))))
  obtain ⟨xs, h4, h5⟩ := h.eqs
  obtain ⟨xe, ce, e4, h6⟩ := EqsV.of_own h4 h5 (h.all _ (.inr (.inr (.inr rfl))))
  exact ⟨xi, xo, xl, xe, _, _, _, _, ci, co, cl, ce, e1, e2, e3, e4, h1, h2, h3, h6⟩
theorem rowsN_nth {B : Nat} {w : World} : ∀ (l : List Nd) (xs : List Value), RowsN (fun k => k < B) w xs l → ∀ (i : Nat) (h : i < l.length), ∃ xi xo xl xe ni no nl ne ci co cl ce, (∀ (j : Nat) (u : Value), (rowN (l[i]).name (.slice xi ni ci) (.slice xo no co) (.slice xl nl cl) (.slice xe ne ce) ((l[i]).at_ : Int))[j]? = some u → xs[i * 6 + j]? = some u) ∧ NodeV w B xi xo xl xe ni no nl ne l[i]
  | [], _, _, i, h => by simp at h
  | q :: r, xs, ⟨vi, vo, vl, ve, ys, h1, h2, h3⟩, 0, _ => by
    obtain ⟨xi, xo, xl, xe, ni, no, nl, ne, ci, co, cl, ce, rfl, rfl, rfl, rfl, hv⟩ := NodeV.of_np h2
    refine ⟨xi, xo, xl, xe, ni, no, nl, ne, ci, co, cl, ce, fun j u hu => ?_, hv⟩
    rw [h1, Nat.zero_mul, Nat.zero_add, List.getElem?_append_left (by have := (List.getElem?_eq_some_iff.1 hu).1; exact this)]
    exact hu
  | q :: r, xs, ⟨vi, vo, vl, ve, ys, h1, h2, h3⟩, i + 1, h => by
    obtain ⟨xi, xo, xl, xe, ni, no, nl, ne, ci, co, cl, ce, e1, e2⟩ := rowsN_nth r ys h3 i (by simpa using h)
    refine ⟨xi, xo, xl, xe, ni, no, nl, ne, ci, co, cl, ce, fun j u hu => ?_, e2⟩
    have hl : (rowN q.name vi vo vl ve (q.at_ : Int)).length = 6 := rfl
    rw [h1, List.getElem?_append_right (by rw [hl]; omega), hl, show (i + 1) * 6 + j - 6 = i * 6 + j by omega]
    exact e1 j u (by simpa using hu)
theorem NodesV.of_own {w : World} {B : Nat} {v : Value} {l : List Nd} {xs : List Value} (h : w.ownsRow 0 41 6 v l.length xs) (hr : RowsN (fun k => k < B) w xs l) (hb : ∀ k, v.ownBlock = some k → k < B ∧ k < w.heap.size) : ∃ x c, v = .slice x l.length c ∧ NodesV w B x l.length l := by
  rcases h.2 with ⟨rfl, h0⟩ | ⟨g, cap, cur, rfl, _⟩
  · exact ⟨none, 0, by rw [h0], rfl, 0, fun hl => by omega⟩
  · refine ⟨_, cap, rfl, rfl, g, fun hl => ⟨rfl, (hb g rfl).1, (hb g rfl).2, fun i hi => ?_⟩⟩
    obtain ⟨xi, xo, xl, xe, ni, no, nl, ne, ci, co, cl, ce, e1, e2⟩ := rowsN_nth l xs hr i hi
    refine ⟨xi, xo, xl, xe, ni, no, nl, ne, ci, co, cl, ce, fun j u hu => ?_, e2⟩
    have := h.cells rfl (i * 6 + j) u (e1 j u hu)
    rw [Addr.add_lit] at this
    simpa using this
theorem NodesV.low {w w' : World} {B n : Nat} {x : Option Addr} {l : List Nd} (h : NodesV w B x n l) (hb : Below B w w') : NodesV w' B x n l := by
  obtain ⟨h1, g, h2⟩ := h
  refine ⟨h1, g, fun hl => ?_⟩
  obtain ⟨e1, e2, e3, e4⟩ := h2 hl
  refine ⟨e1, e2, Nat.lt_of_lt_of_le e3 hb.size, fun i hi => ?_⟩
  obtain ⟨xi, xo, xl, xe, ni, no, nl, ne, ci, co, cl, ce, f1, f2⟩ := e4 i hi
  refine ⟨xi, xo, xl, xe, ni, no, nl, ne, ci, co, cl, ce, fun j u hu => ?_, f2.low hb⟩
  have := f1 j u hu
  simp only [World.cell?, hb.block g e2] at this ⊢
  exact this
theorem NodesV.cells {w : World} {B n : Nat} {x : Option Addr} {l : List Nd} (h : NodesV w B x n l) {g : Nat} (hx : x = some ⟨g, 0, none⟩) (i : Nat) (hi : i < l.length) : ∃ xi xo xl xe ni no nl ne ci co cl ce, (∀ (j : Nat) (u : Value), (rowN (l[i]).name (.slice xi ni ci) (.slice xo no co) (.slice xl nl cl) (.slice xe ne ce) ((l[i]).at_ : Int))[j]? = some u → w.cell? ⟨g, i * 6 + j, none⟩ = some u) ∧ NodeV w B xi xo xl xe ni no nl ne l[i] := by
  obtain ⟨h1, g2, h2⟩ := h
  obtain ⟨e1, _, _, e4⟩ := h2 (by omega)
  rw [hx] at e1
  injection e1 with e1
  injection e1 with e1
  subst e1
  exact e4 i hi
/-- What Parse handed back, as Show, Same and others find it. -/
theorem NodesV.of_ownN {w : World} {b : Nat} {v : Value} {l : List Nd} (h : OwnN w b v l) : ∃ x c, v = .slice x l.length c ∧ NodesV w w.heap.size x l.length l := by
  obtain ⟨xs, h1, h2⟩ := h
  refine NodesV.of_own (own_weaken' h1 (Nat.zero_le _)) (h2.keep (Nat.le_refl _) (fun _ _ _ => rfl) (fun k _ hl => hl)) (fun k hk => ?_)
  have := (h1.lt k hk).2
  exact ⟨this, this⟩
theorem sizeV_node : (Tryz.prog.info? 41).map (·.size) = some 6 := by kernel_rfl
theorem idxV_node (g n cap i : Nat) (hi : i < n) (W : World) : (Instr.indexAt 23 (.slice (some ⟨g, 0, none⟩) n cap) (.int .i64 (i : Int))).run Tryz.prog W = .ok (.pointer (some ⟨g, i * 6, none⟩)) W := by
  have he : Tryz.prog.elem 23 = 41 := by simp [Program.elem, Tryz.underlying23]
  have hz : ∀ W, (sizeOf (Tryz.prog.elem 23)).run Tryz.prog W = .ok 6 W := fun W => by
    rw [he]
    have h := sizeV_node
    cases hq : Tryz.prog.info? 41 with
    | none => simp [hq] at h
    | some i => simp [hq] at h; simp [sizeOf, typeInfo, hq, h]
  rw [run_indexAt_slice (h := by rw [he]; exact Tryz.underlying23), if_pos (by omega), hz]
  simp [Result.andThen, Addr.add_lit]
theorem nrowV_one (q : ByteArray) (x1 x2 x3 x4 : Option Addr) (l1 l2 l3 l4 c1 c2 c3 c4 : Nat) (b : Int) : (#[.string q, .slice x1 l1 c1, .slice x2 l2 c2, .slice x3 l3 c3, .slice x4 l4 c4, .int .i64 b] : Array Value).all (·.oneCell') = true := by simp [Value.oneCell']
set_option maxHeartbeats 4000000 in
set_option maxRecDepth 100000 in
theorem Show_any (l : List Nd) (w : World) (x : Option Addr) (n c : Nat) (hv : NodesV w w.heap.size x n l) (hf : ∀ nd ∈ l, FineN nd) (hkn : n < 1000000000000) (htb : Lib.TabBelow Tryz.prog w.heap.size w "internal/strconv.uint64pow10" .u64 Lib.pow10Tab) (hlen : (showT l).length ≤ 140737488355328) :
    Calls Tryz.prog 8 #[.slice x n c] w fun e w' => e = .returned (.string ⟨(showT l).toArray⟩) ∧ Below w.heap.size w w' := by
  obtain ⟨hlk, g, hg⟩ := id hv
  have hb1 : Below w.heap.size w (w.alloc (.cells #[.pointer none, .slice none 0 0] 66)) := (Below.refl _ _).alloc (Nat.le_refl _) _
  have hfr := Lib.fresh_isBuilder 66 5 w
  have hbl : Bld w.heap.size w.heap.size [] (w.alloc (.cells #[.pointer none, .slice none 0 0] 66)) := ⟨hfr, by simp⟩
  have hqw : ∀ nd ∈ l, ∀ i (h : i < nd.eqs.length), Writes w w.heap.size w.heap.size (nd.eqs[i]).e := fun nd hn i h => writes_all w w.heap.size w.heap.size htb _ ((hf nd hn).ex _ (List.getElem_mem h))
  have ks := fun (W : World) (hb : Bld w.heap.size w.heap.size (showT l) W) => Tryz.Builder_String_any w.heap.size w.heap.size (showT l) W hb.1 hb.2
  have HB0 := Lib.hid hb1
  have HH0 := Lib.hid hbl
  have HQW := Lib.hid hqw
  have KS := Lib.hid ks
  have HV := Lib.hid hv
  have HF := Lib.hid hf
  have HLK := Lib.hid hlk
  have HGX : Hid (0 < n → x = some ⟨g, 0, none⟩) := Lib.hid (fun h => (hg h).1)
  have HLE := Lib.hid hlen
  have HSN6 := Lib.hid sizeV_node
  clear hv hf hlk hg htb hlen hb1 hfr hbl hqw ks
  go_enter Tryz.func8, Tryz.ntmps8
  go_wp2_with fail
  go_loopw [8] (fun iv wr => ∃ i : Nat, iv = .int .i64 (i : Int) ∧ i ≤ n ∧ Bld w.heap.size w.heap.size (showT (l.take i)) wr ∧ Below w.heap.size w wr)
    (fun iv _ => n - (intOf iv).toNat)
  case atStart => exact ⟨0, rfl, Nat.zero_le _, by simpa [showT] using HH0.out, HB0.out⟩
  case round =>
    obtain ⟨i, rfl, hil, hbl, hbw⟩ := hrel
    by_cases hin : i < n
    · have d2 : decide ((i : Int) < (n : Int)) = true := by simp; omega
      have hgg := HGX.out (by omega)
      have hix : ∀ W, (Instr.indexAt 23 (.slice x n c) (.int .i64 (i : Int))).run Tryz.prog W = .ok (.pointer (some ⟨g, i * 6, none⟩)) W := fun W => by rw [hgg]; exact idxV_node g n c i hin W
      have hik : i < l.length := by rw [← HLK.out]; exact hin
      obtain ⟨xi, xo, xl, xe, ni, no, nl, ne, ci, co, cl, ce, hcc, hnv⟩ := (HV.out.low hbw).cells hgg i hik
      have hsn : showT (l.take (i + 1)) = showT (l.take i) ++ nodeT l[i] := by
        rw [List.take_succ_eq_append_getElem hik, showT_snoc]
      have hln : (showT (l.take i) ++ nodeT l[i]).length ≤ 140737488355328 := by
        rw [← hsn]
        have h1 : showT l = showT (l.take (i + 1)) ++ showT (l.drop (i + 1)) := by
          unfold showT
          rw [← List.flatMap_append, List.take_append_drop]
        have h2 := HLE.out
        rw [h1] at h2
        simp only [List.length_append] at h2 ⊢
        omega
      have hfn := HF.out l[i] (List.getElem_mem hik)
      have hqq : ∀ k (h : k < (l[i]).eqs.length), Writes wr w.heap.size w.heap.size ((l[i]).eqs[k]).e := fun k h => (HQW.out l[i] (List.getElem_mem hik) k h).mono hbw
      obtain ⟨t, ht⟩ : ∃ t, t = l[i] := ⟨_, rfl⟩
      rw [← ht] at hsn hln hfn hcc hnv
      simp only [← ht] at hqq
      have q0 := hcc 0 _ rfl
      have q1 := hcc 1 _ rfl
      have q2 := hcc 2 _ rfl
      have q3 := hcc 3 _ rfl
      have q4 := hcc 4 _ rfl
      have q5 := hcc 5 _ rfl
      rw [Nat.add_zero] at q0
      have n1 : ni < 1000000000000 := by have := hnv.ins.1; have := hfn.ins; omega
      have n2 : no < 1000000000000 := by have := hnv.outs.1; have := hfn.outs; omega
      have n3 : nl < 1000000000000 := by have := hnv.locs.1; have := hfn.locs; omega
      have n4 : ne < 1000000000000 := by have := hnv.eqs.1; have := hfn.eqs; omega
      obtain ⟨P, hP⟩ : ∃ P, P = showT (l.take i) := ⟨_, rfl⟩
      rw [← hP] at hsn hln hbl
      have kn := fun (W : World) (hb : Bld w.heap.size w.heap.size P W) (hW : Below w.heap.size wr W) (hv : NodeV W w.heap.size xi xo xl xe ni no nl ne t) => writeNode_any w.heap.size w.heap.size P W hb t (t.at_ : Int) xi xo xl xe ni no nl ne ci co cl ce hv (fun k h => (hqq k h).mono hW) n1 n2 n3 n4 (by simpa using hln)
      obtain ⟨nm, hnm⟩ : ∃ s, s = t.name := ⟨_, rfl⟩
      obtain ⟨na, hna⟩ : ∃ s, s = t.at_ := ⟨_, rfl⟩
      rw [← hnm] at q0 kn
      rw [← hna] at q5 kn
      have hb3 : Below wr.heap.size wr (wr.alloc (.cells #[.string ⟨#[]⟩, .slice none 0 0, .slice none 0 0, .slice none 0 0, .slice none 0 0, .int .i64 0] 41)) := (Below.refl _ _).alloc (Nat.le_refl _) _
      have hn3 := heap_alloc_new wr (.cells #[.string ⟨#[]⟩, .slice none 0 0, .slice none 0 0, .slice none 0 0, .slice none 0 0, .int .i64 0] 41)
      have HN3 := Lib.hid hn3
      have HB3 := Lib.hid hb3
      have HSN := Lib.hid hsn
      have HBL := Lib.hid hbl
      have HBW := Lib.hid hbw
      have HNV := Lib.hid hnv
      have KN := Lib.hid kn
      have HSZ : Hid (w.heap.size ≤ wr.heap.size) := Lib.hid hbl.2
      have HBR := Lib.hid hbw
      clear hb3 hn3 hsn hln hbl hbw hcc hgg hnv hfn hqq kn ht hP hnm hna HGX HLK HV HQW HH0 HB0 HLE HF KS n1 n2 n3 n4
      go_wp2_with (first
        | (
         refine wpList_store_row rfl 41 (.tmp 5) (.tmp 11) rfl wr.heap.size #[.string nm, .slice xi ni ci, .slice xo no co, .slice xl nl cl, .slice xe ne ce, .int .i64 (na : Int)] rfl rfl 41 _ HN3.out HSN6.out rfl (nrowV_one _ _ _ _ _ _ _ _ _ _ _ _ _ _) ?_
         have hset := setRow_heap _ wr.heap.size _ #[.string nm, .slice xi ni ci, .slice xo no co, .slice xl nl cl, .slice xe ne ce, .int .i64 (na : Int)] _ _ HN3.out
         have hbs := below_setRow HB3.out (Nat.le_refl _) #[.string nm, .slice xi ni ci, .slice xo no co, .slice xl nl cl, .slice xe ne ce, .int .i64 (na : Int)]
         generalize (wr.alloc (.cells #[.string ⟨#[]⟩, .slice none 0 0, .slice none 0 0, .slice none 0 0, .slice none 0 0, .int .i64 0] 41)).setRow wr.heap.size #[.string nm, .slice xi ni ci, .slice xo no co, .slice xl nl cl, .slice xe ne ce, .int .i64 (na : Int)] = w3 at hset hbs ⊢
         have HL := Lib.hid hset
         have HWR3 := Lib.hid (hbs.mono HSZ.out)
         have HB := Lib.hid (HBW.out.trans (hbs.mono HSZ.out))
         have HH := Lib.hid (HBL.out.below hbs)
         have HNE := Lib.hid (HNV.out.low (hbs.mono HSZ.out))
         have hz_3 : wr.heap.size + 1 ≤ w3.heap.size := (Array.getElem?_eq_some_iff.1 hset).1
         clear hset hbs HN3 HB3 HBW HBL HNV)
        | (refine wpList_load_row rfl 41 (.tmp 5) rfl wr.heap.size rfl 41 #[.string nm, .slice xi ni ci, .slice xo no co, .slice xl nl cl, .slice xe ne ce, .int .i64 (na : Int)] (0, 0) _ HL.out Tryz.underlying41 rfl HSN6.out ?_))
      have k1 := KN.out w3 HH.out HWR3.out HNE.out
      (with_reducible refine k1.mono ?_)
      rintro e u4 ⟨rfl, hh, hb, hw⟩
      have H1 := Lib.hid hh
      have H2 := Lib.hid (HB.out.trans hb)
      clear hh hb hw k1 HB HH HL HNE
      go_wp2_with fail
      refine ⟨⟨i + 1, by go_num, by omega, by rw [HSN.out]; exact H1.out, H2.out⟩, ?_⟩
      simp [intOf]; omega
    · obtain rfl : i = n := by omega
      have d2 : decide ((i : Int) < (i : Int)) = false := by simp
      have ht : l.take i = l := List.take_of_length_le (by have := HLK.out; omega)
      rw [ht] at hbl
      have k9 := KS.out wr hbl
      have HBW := Lib.hid hbw
      clear ht hbl hbw HGX HLK HV HQW HH0 HB0 HLE HF KS
      go_wp2_with fail
      (with_reducible refine k9.mono ?_)
      rintro e w9 ⟨rfl, h3⟩
      have H3 := Lib.hid (HBW.out.trans h3)
      clear h3 k9
      go_wp2_with fail
      go_ret
      exact ⟨rfl, H3.out⟩
end Go.Proofs.YtjlnihennlkmpaaGreatDoor

namespace Go.Proofs.YtjlnihennlkmpaaGreatDoor
open Go Go.RowKit
/-- A number of int64. -/
def In64 (n : Int) : Prop := -9223372036854775808 ≤ n ∧ n ≤ 9223372036854775807
theorem in64_0 : In64 0 := ⟨by decide, by decide⟩
theorem in64_1 : In64 1 := ⟨by decide, by decide⟩
theorem firstW_n (l : List UInt8) : In64 (firstW l).2.2 := by
  unfold firstW
  split
  · split
    · exact in64_0
    · split <;> exact in64_0
  · split
    · split
      · exact in64_0
      · split
        · rename_i v h
          have := Lib.parseIntB_bounds h
          exact ⟨by simpa using this.1, by have := this.2; simp at this; show v ≤ 9223372036854775807; omega⟩
        · exact in64_0
    · split
      · exact in64_0
      · split <;> exact in64_0
theorem cutF_n : ∀ (f : Nat) (l : List UInt8) (a : Nat) (d : List (Nat × Nat × Int × Nat)), cutF f l a = .ok d → ∀ x ∈ d, In64 x.2.2.1
  | 0, l, a, d, h => by simp [cutF] at h
  | f + 1, l, a, d, h => by
    unfold cutF at h
    by_cases hl : l = []
    · rw [if_pos hl] at h
      injection h with h
      subst h
      intro x hx
      simp only [List.mem_cons, List.not_mem_nil, or_false] at hx
      rw [hx]
      exact in64_0
    · rw [if_neg hl] at h
      by_cases hk : (firstW l).1 = 0
      · rw [if_pos hk] at h; cases h
      · rw [if_neg hk] at h
        cases hc : cutF f ((l.drop (firstW l).2.1).drop (gapL (l.drop (firstW l).2.1))) (a + (firstW l).2.1 + gapL (l.drop (firstW l).2.1)) with
        | error p => rw [hc] at h; cases h
        | ok t =>
          rw [hc] at h
          injection h with h
          subst h
          intro x hx
          rcases List.mem_cons.1 hx with rfl | hx
          · exact firstW_n l
          · exact cutF_n f _ _ t hc x hx
/-- The words' numbers fit. -/
def InW (L : List Wd) : Prop := ∀ st, In64 (cur L st).n
theorem words_in (s : ByteArray) (d : List (Nat × Nat × Int × Nat)) (h : cutAll s.data.toList = .ok d) : InW (wordsL s d) := by
  intro st
  unfold cur wordsL
  rw [List.getD_eq_getElem?_getD, List.getElem?_map]
  cases hx : d[st.i]? with
  | none => exact in64_0
  | some x =>
    have hm := List.mem_of_getElem? hx
    unfold cutAll at h
    split at h
    · cases h
    · cases hc : cut1 s.data.toList with
      | error p => rw [hc] at h; cases h
      | ok t =>
        rw [hc] at h
        injection h with h
        subst h
        exact cutF_n _ _ _ _ hc x hm
/-- A step hands back trees whose numbers fit. -/
def FF (f : St → Ex × St) : Prop := ∀ st, FineE (f st).1
theorem fine_mk {o m : ByteArray} {n : Int} {a : Nat} {ks : List Ex} (hn : In64 n) (hl : ks.length < 1000000) (hk : FineL ks) : FineE (.mk o m n a ks) := by
  unfold FineE
  exact ⟨hn, hl, hk⟩
theorem fine_nil : FineL [] := by unfold FineL; trivial
theorem fine_cons {e : Ex} {r : List Ex} (h : FineE e) (hr : FineL r) : FineL (e :: r) := by unfold FineL; exact ⟨h, hr⟩
theorem fine_0 : FineE ex0 := fine_mk in64_0 (by decide) fine_nil
theorem fine_two (x : Wd) {a b : Ex} (ha : FineE a) (hb : FineE b) : FineE (twoS x a b) := fine_mk in64_0 (by simp) (fine_cons ha (fine_cons hb fine_nil))
theorem argsS_fine (L : List Wd) {f : St → Ex × St} (hf : FF f) : ∀ (k : Nat) (st : St), FineL (argsS L f k st).1 ∧ (argsS L f k st).1.length ≤ k
  | 0, st => ⟨fine_nil, Nat.le_refl _⟩
  | k + 1, st => by
    unfold argsS
    split
    · have := argsS_fine L hf k (f (nextS L st)).2
      exact ⟨fine_cons (hf _) this.1, by simp only [List.length_cons]; omega⟩
    · exact ⟨fine_nil, by simp⟩
theorem rowL_fine (L : List Wd) {one : St → Ex × St} (hf : FF one) (ops : List ByteArray) : ∀ (k : Nat) (e : Ex) (st : St), FineE e → FineE (rowL L one ops k e st).1
  | 0, e, st, h => h
  | k + 1, e, st, h => by
    unfold rowL
    simp only
    split
    · exact rowL_fine L hf ops k _ _ (fine_two _ h (hf _))
    · exact h
theorem rowS_fine (L : List Wd) {one : St → Ex × St} (hf : FF one) (ops : List ByteArray) : FF (rowS L one ops) := fun st => rowL_fine L hf ops _ _ _ (hf st)
theorem whenL_fine (L : List Wd) : ∀ (k : Nat) (e : Ex) (st : St), FineE e → FineE (whenL L k e st).1
  | 0, e, st, h => h
  | k + 1, e, st, h => by
    unfold whenL
    simp only
    split
    · refine whenL_fine L k _ _ (fine_mk ?_ (by simp) (fine_cons h fine_nil))
      split
      · exact in64_0
      · exact in64_1
    · exact h
/-- All four hand back trees whose numbers fit. -/
structure FNx (nx : Nx) : Prop where
  expr : FF nx.expr
  un : FF nx.un
  prim : FF nx.prim
  fby : FF nx.fby
section
variable {L : List Wd} {nx : Nx} (hL : L.length < 100000) (hN : InW L) (h : FNx nx)
include hL hN h
omit hN in
theorem named_fine : FF (namedS L nx) := fun st => by
  unfold namedS
  simp only
  split
  · have hc : FineL (callS L nx (nextS L (partS L st).2)).1 ∧ (callS L nx (nextS L (partS L st).2)).1.length ≤ L.length + 1 := by
      unfold callS
      split
      · exact ⟨fine_nil, by simp⟩
      · have := argsS_fine L h.expr L.length (nx.expr (nextS L (partS L st).2)).2
        exact ⟨fine_cons (h.expr _) this.1, by simp only [List.length_cons]; omega⟩
    exact fine_mk in64_0 (by omega) hc.1
  · exact fine_mk in64_0 (by simp) fine_nil
theorem primB_fine : FF (primB L nx) := fun st => by
  unfold primB
  simp only
  split
  · exact fine_mk (hN st) (by simp) fine_nil
  · split
    · exact named_fine hL h st
    · split
      · exact fine_mk in64_1 (by simp) fine_nil
      · split
        · exact fine_mk in64_0 (by simp) fine_nil
        · split
          · exact h.expr _
          · split
            · exact fine_mk in64_0 (by simp) (fine_cons (h.expr _) (fine_cons (h.expr _) (fine_cons (h.expr _) fine_nil)))
            · split
              · exact fine_mk in64_0 (by simp) (fine_cons (h.prim _) (fine_cons (h.prim _) fine_nil))
              · exact fine_0
theorem primS_fine (d : Nat) : FF (primS L nx d) := fun st => primB_fine hL hN h _
theorem unS_fine (d : Nat) : FF (unS L nx d) := fun st => by
  unfold unS
  simp only
  split
  · exact fine_mk in64_0 (by simp) (fine_cons (h.un _) fine_nil)
  · split
    · exact fine_mk in64_0 (by simp) (fine_cons (h.un _) fine_nil)
    · exact primS_fine hL hN h d _
theorem fbyS_fine (d : Nat) : FF (fbyS L nx d) := fun st => by
  have hw : FineE (whenS L nx d st).1 := whenL_fine L _ _ _ (unS_fine hL hN h d st)
  unfold fbyS
  simp only
  split
  · exact fine_two _ hw (h.fby _)
  · exact hw
theorem arrowS_fine (d : Nat) : FF (arrowS L nx d) := fun st => by
  have ha : FF (addS L nx d) := rowS_fine L (rowS_fine L (fbyS_fine hL hN h d) _) _
  have hc : FF (cmpS L nx d) := fun st => by
    unfold cmpS
    simp only
    split
    · exact fine_two _ (ha _) (ha _)
    · exact ha _
  have ho : FF (orS L nx d) := rowS_fine L (rowS_fine L hc _) _
  unfold arrowS
  simp only
  split
  · exact fine_two _ (ho _) (h.expr _)
  · exact ho _
end
theorem nx_fine {L : List Wd} (hL : L.length < 100000) (hN : InW L) : ∀ k, FNx (nxAt L k)
  | 0 => ⟨fun _ => fine_0, fun _ => fine_0, fun _ => fine_0, fun _ => fine_0⟩
  | k + 1 => ⟨arrowS_fine hL hN (nx_fine hL hN k) _, unS_fine hL hN (nx_fine hL hN k) _, primS_fine hL hN (nx_fine hL hN k) _, fbyS_fine hL hN (nx_fine hL hN k) _⟩
theorem expr_fine {L : List Wd} (hL : L.length < 100000) (hN : InW L) : FF (exprS L) := (nx_fine hL hN 31).expr
theorem declsL_le {L : List Wd} (hE : GoodE L) : ∀ (k : Nat) (S : St), (declsL L k S).1.length ≤ k * 100000
  | 0, S => by simp [declsL]
  | k + 1, S => by
    unfold declsL
    split
    · have h1 := declsL_le hE k (declS L (nextS L S)).2
      have h2 := declS_len hE (nextS L S)
      simp only [List.length_append]
      omega
    · simp
theorem localsL_le {L : List Wd} (hE : GoodE L) : ∀ (k : Nat) (S : St), (localsL L k S).1.length ≤ k * 100000
  | 0, S => by simp [localsL]
  | k + 1, S => by
    unfold localsL
    split
    · have h1 := localsL_le hE k (needS L (bs [59]) (localS L S).2)
      have h2 := localS_len hE S
      simp only [List.length_append]
      omega
    · simp
theorem declsS_le {L : List Wd} (hE : GoodE L) (S : St) : (declsS L S).1.length < 1000000000000 := by
  have hf := hE.few
  show (declsB L (needS L (bs [40]) S)).1.length < _
  unfold declsB
  split
  · simp
  · have h1 := declsL_le hE L.length (declS L (needS L (bs [40]) S)).2
    have h2 := declS_len hE (needS L (bs [40]) S)
    simp only [List.length_append]
    omega
theorem varS_le {L : List Wd} (hE : GoodE L) (S : St) : (varS L S).1.length < 1000000000000 := by
  have hf := hE.few
  unfold varS
  split
  · unfold localsS
    split
    · simp
    · have h1 := localsL_le hE L.length (needS L (bs [59]) (localS L (nextS L S)).2)
      have h2 := localS_len hE (nextS L S)
      simp only [List.length_append]
      omega
  · simp
theorem eqsL_fine {L : List Wd} (hL : L.length < 100000) (hN : InW L) : ∀ (k : Nat) (S : St), (∀ q ∈ (eqsL L k S).1, FineE q.e) ∧ (eqsL L k S).1.length ≤ k
  | 0, S => ⟨by intro q h; exact absurd h (by simp [eqsL, programL]), Nat.le_refl _⟩
  | k + 1, S => by
    unfold eqsL
    split
    · have := eqsL_fine hL hN k (eqS L S).2
      refine ⟨fun q h => ?_, by simp only [List.length_cons]; omega⟩
      rcases List.mem_cons.1 h with rfl | h
      · exact expr_fine hL hN _
      · exact this.1 q h
    · exact ⟨fun q h => by simp at h, by simp⟩
theorem nodeS_fine {L : List Wd} (hE : GoodE L) (hN : InW L) (S : St) : FineN (nodeS L S).1 := by
  have hf := hE.few
  have hq := eqsL_fine hf hN L.length
  exact ⟨declsS_le hE _, declsS_le hE _, varS_le hE _, Nat.lt_of_le_of_lt (hq _).2 (by omega), (hq _).1⟩
theorem programL_fine {L : List Wd} (hE : GoodE L) (hN : InW L) : ∀ (k n : Nat) (S : St), (∀ nd ∈ (programL L k n S).1, FineN nd) ∧ (programL L k n S).1.length ≤ k
  | 0, n, S => ⟨by intro q h; exact absurd h (by simp [eqsL, programL]), Nat.le_refl _⟩
  | k + 1, n, S => by
    unfold programL
    split
    · have := programL_fine hE hN k (n + 1) (nodeS L (limS L n S)).2
      refine ⟨fun q h => ?_, by simp only [List.length_cons]; omega⟩
      rcases List.mem_cons.1 h with rfl | h
      · exact nodeS_fine hE hN _
      · exact this.1 q h
    · exact ⟨fun q h => by simp at h, by simp⟩
/-- WHAT PARSE READS: nodes whose numbers fit, not too many. -/
theorem parse_fine {s : ByteArray} {l : List Nd} (h : parseS s = .ok l) : (∀ nd ∈ l, FineN nd) ∧ l.length < 1000000 := by
  unfold parseS at h
  cases hc : cutAll s.data.toList with
  | error e => rw [hc] at h; cases h
  | ok d =>
    rw [hc] at h
    simp only at h
    split at h
    · injection h with h
      subst h
      have hE := cut_good s d hc
      have hN := words_in s d hc
      have hf := hE.few
      have h1 := programL_fine hE hN (wordsL s d).length 1 (nodeS (wordsL s d) st0).2
      refine ⟨fun nd hn => ?_, ?_⟩
      · rcases List.mem_cons.1 hn with rfl | hn
        · exact nodeS_fine hE hN _
        · exact h1.1 nd hn
      · show (_ :: _).length < _
        simp only [List.length_cons]
        omega
    · cases h
end Go.Proofs.YtjlnihennlkmpaaGreatDoor

namespace Go.Proofs.YtjlnihennlkmpaaGreatDoor
open Go Go.RowKit
set_option maxHeartbeats 4000000 in
set_option maxRecDepth 100000 in
theorem Text_any (t : Ex) (w : World) (o m : ByteArray) (n a : Int) (x : Option Addr) (lk c : Nat) (hi : IsP (fun k => k < w.heap.size) w o m n a x lk c t) (hf : FineE t) (htb : Lib.TabBelow Tryz.prog w.heap.size w "internal/strconv.uint64pow10" .u64 Lib.pow10Tab) (hlen : (textE t).length ≤ 140737488355328) :
    Calls Tryz.prog 14 #[exV o m n a x lk c] w fun e w' => e = .returned (.string ⟨(textE t).toArray⟩) ∧ Below w.heap.size w w' := by
  have hb1 : Below w.heap.size w (w.alloc (.cells #[.string o, .string m, .int .i64 n, .int .i64 a, .slice x lk c] 54)) := (Below.refl _ _).alloc (Nat.le_refl _) _
  have hn1 := heap_alloc_new w (.cells #[.string o, .string m, .int .i64 n, .int .i64 a, .slice x lk c] 54)
  have hs1 : (w.alloc (.cells #[.string o, .string m, .int .i64 n, .int .i64 a, .slice x lk c] 54)).heap.size = w.heap.size + 1 := by simp
  obtain ⟨w1, hww⟩ : ∃ w1, w1 = w.alloc (.cells #[.string o, .string m, .int .i64 n, .int .i64 a, .slice x lk c] 54) := ⟨_, rfl⟩
  rw [← hww] at hb1 hn1 hs1
  have hb2 : Below w.heap.size w1 (w1.alloc (.cells #[.pointer none, .slice none 0 0] 66)) := (Below.refl _ _).alloc (by omega) _
  have hfr := Lib.fresh_isBuilder 66 5 w1
  have hbl : Bld w.heap.size (w.heap.size + 1) [] (w1.alloc (.cells #[.pointer none, .slice none 0 0] 66)) := by
    rw [hs1] at hfr
    refine ⟨hfr.elim (fun h => .inl ⟨by omega, ?_⟩) (fun h => .inr ⟨by omega, ?_⟩), by simp; omega⟩
    · obtain ⟨_, v, e1, e2, e3⟩ := h
      exact ⟨v, e1, own_weaken' e2 (by omega), e3⟩
    · obtain ⟨_, v, e1, e2, e3⟩ := h
      exact ⟨v, e1, own_weaken' e2 (by omega), e3⟩
  have hn2 := ((hb2.trans (Below.refl _ _)).mono (Nat.le_refl _))
  have hr2 : (w1.alloc (.cells #[.pointer none, .slice none 0 0] 66)).heap[w.heap.size]? = some (.cells #[.string o, .string m, .int .i64 n, .int .i64 a, .slice x lk c] 54 (0, 0)) := by
    rw [Below.heap_alloc _ _ _ (by omega)]; exact hn1
  have hB := hb1.trans hb2
  have kx := writes_all w w.heap.size (w.heap.size + 1) htb t hf _ [] o m n a x lk c hB hbl (hi.low hB) (by simpa using hlen)
  have ks := fun (W : World) (hb : Bld w.heap.size (w.heap.size + 1) (textE t) W) => Tryz.Builder_String_any w.heap.size (w.heap.size + 1) (textE t) W hb.1 hb.2
  rw [hww] at kx hr2 hB
  have HSE := Lib.hid size_expr
  have HL := Lib.hid hr2
  have HB := Lib.hid hB
  have KX := Lib.hid kx
  have KS := Lib.hid ks
  obtain ⟨X, hX⟩ : ∃ X, X = textE t := ⟨_, rfl⟩
  rw [← hX] at KX KS ⊢
  unfold exV at KX ⊢
  clear hb1 hn1 hs1 hww hb2 hfr hbl hn2 hr2 hB kx ks hi hf htb hlen hX
  go_enter Tryz.func14, Tryz.ntmps14
  go_wp2_with (refine wpList_load_row rfl 54 (.tmp 1) rfl w.heap.size rfl 54 #[.string o, .string m, .int .i64 n, .int .i64 a, .slice x lk c] (0, 0) _ HL.out Tryz.underlying54 rfl HSE.out ?_)
  (with_reducible refine KX.out.mono ?_)
  rintro e w3 ⟨rfl, h3, h4, h5⟩
  have k2 := KS.out w3 h3
  have H4 := Lib.hid (HB.out.trans h4)
  clear h3 h4 h5
  go_wp2_with fail
  (with_reducible refine k2.mono ?_)
  rintro e w4 ⟨rfl, h6⟩
  have H6 := Lib.hid (H4.out.trans h6)
  clear h6 k2
  go_wp2_with fail
  go_ret
  exact ⟨rfl, H6.out⟩
end Go.Proofs.YtjlnihennlkmpaaGreatDoor

namespace Go.Proofs.YtjlnihennlkmpaaGreatDoor
open Go Go.RowKit
/-- A Bool of all numbers below n. -/
def allR (n : Nat) (R : Nat → Bool) : Bool := (List.range n).all R
theorem allR_no {n : Nat} {R : Nat → Bool} {i : Nat} (h : false = R i) (hi : i < n) : allR n R = false := by
  unfold allR
  rw [List.all_eq_false]
  exact ⟨i, List.mem_range.2 hi, by rw [← h]; simp⟩
theorem allR_yes {n : Nat} {R : Nat → Bool} (h : ∀ j, j < n → R j = true) : allR n R = true := by
  unfold allR
  rw [List.all_eq_true]
  exact fun j hj => h j (List.mem_range.1 hj)
theorem cell_low {B : Nat} {w w' : World} (hb : Below B w w') {g j : Nat} {u : Value} (hg : g < B) (h : w.cell? ⟨g, j, none⟩ = some u) : w'.cell? ⟨g, j, none⟩ = some u := by
  simp only [World.cell?, hb.block g hg] at h ⊢
  exact h
end Go.Proofs.YtjlnihennlkmpaaGreatDoor

namespace Go.Proofs.YtjlnihennlkmpaaGreatDoor
open Go Go.RowKit
set_option maxHeartbeats 4000000 in
set_option maxRecDepth 100000 in
theorem eqf_Expr (w : World) (x1 x2 : Option Addr) (n1 c1 n2 c2 g1 g2 : Nat) (hx1 : 0 < n1 → x1 = some ⟨g1, 0, none⟩ ∧ g1 < w.heap.size) (hx2 : 0 < n2 → x2 = some ⟨g2, 0, none⟩ ∧ g2 < w.heap.size) (hn1 : n1 < 1000000000000) (hn2 : n2 < 1000000000000) (R : Nat → Bool)
    (hr : ∀ i, i < n1 → i < n2 → ∃ (o1 m1 : ByteArray) (n1' a1 : Int) (y1 : Option Addr) (l1 d1 : Nat) (o2 m2 : ByteArray) (n2' a2 : Int) (y2 : Option Addr) (l2 d2 : Nat), (∀ (j : Nat) (u : Value), ([.string o1, .string m1, .int .i64 n1', .int .i64 a1, .slice y1 l1 d1] : List Value)[j]? = some u → w.cell? ⟨g1, i * 5 + j, none⟩ = some u) ∧ (∀ (j : Nat) (u : Value), ([.string o2, .string m2, .int .i64 n2', .int .i64 a2, .slice y2 l2 d2] : List Value)[j]? = some u → w.cell? ⟨g2, i * 5 + j, none⟩ = some u) ∧ ∀ W, Below w.heap.size w W → Calls Tryz.prog 64 #[.agg #[.string o1, .string m1, .int .i64 n1', .int .i64 a1, .slice y1 l1 d1], .agg #[.string o2, .string m2, .int .i64 n2', .int .i64 a2, .slice y2 l2 d2]] W fun e w' => e = .returned (.bool (R i)) ∧ Below W.heap.size W w') :
    Calls Tryz.prog 78 #[.slice x1 n1 c1, .slice x2 n2 c2, .func (.func 64) #[] #[]] w fun e w' => e = .returned (.bool (decide (n1 = n2) && allR n1 R)) ∧ Below w.heap.size w w' := by
  have HSE := Lib.hid size_expr
  by_cases hne : n1 = n2
  · subst hne
    have hee : (decide (n1 = n1) && allR n1 R) = allR n1 R := by simp
    rw [hee]
    have HR := Lib.hid hr
    have HX1 := Lib.hid hx1
    have HX2 := Lib.hid hx2
    have hd0 : ((n1 : Int) != (n1 : Int)) = false := by simp
    clear hr hx1 hx2 hee hn2
    go_enter Tryz.func78, Tryz.ntmps78
    go_wp2_with fail
    go_loopw [17] (fun iv wr => ∃ i : Nat, iv = .int .i64 (i : Int) ∧ i ≤ n1 ∧ Below w.heap.size w wr ∧ ∀ j, j < i → R j = true)
      (fun iv _ => n1 - (intOf iv).toNat)
    case atStart => exact ⟨0, rfl, Nat.zero_le _, Below.refl _ _, fun j hj => absurd hj (Nat.not_lt_zero _)⟩
    case round =>
      obtain ⟨i, rfl, hil, hbw, hall⟩ := hrel
      have HALL := Lib.hid hall
      clear hall
      by_cases hin : i < n1
      · have d2 : decide ((i : Int) < (n1 : Int)) = true := by simp; omega
        have e1 := (HX1.out (by omega)).1
        have e2 := (HX2.out (by omega)).1
        have hg1 := (HX1.out (by omega)).2
        have hg2 := (HX2.out (by omega)).2
        have hi1 : ∀ W, (Instr.indexAt 52 (.slice x1 n1 c1) (.int .i64 (i : Int))).run Tryz.prog W = .ok (.pointer (some ⟨g1, i * 5, none⟩)) W := fun W => by rw [e1]; exact idx_expr g1 n1 c1 i hin W
        have hi2 : ∀ W, (Instr.indexAt 52 (.slice x2 n1 c2) (.int .i64 (i : Int))).run Tryz.prog W = .ok (.pointer (some ⟨g2, i * 5, none⟩)) W := fun W => by rw [e2]; exact idx_expr g2 n1 c2 i hin W
        obtain ⟨o1, m1, n1', a1, y1, l1, d1, o2, m2, n2', a2, y2, l2, d2, hc1, hc2, hcall⟩ := HR.out i hin hin
        have hq := fun j u h => cell_low hbw hg1 (hc1 j u h)
        have q0_ := hq 0 _ rfl
        have q1_ := hq 1 _ rfl
        have q2_ := hq 2 _ rfl
        have q3_ := hq 3 _ rfl
        have q4_ := hq 4 _ rfl
        rw [Nat.add_zero] at q0_
        have HC2 := Lib.hid hc2
        have HG2 := Lib.hid hg2
        have HCALL := Lib.hid hcall
        have hb3 : Below wr.heap.size wr (wr.alloc (.cells #[.string ⟨#[]⟩, .string ⟨#[]⟩, .int .i64 0, .int .i64 0, .slice none 0 0] 54)) := (Below.refl _ _).alloc (Nat.le_refl _) _
        have HN3 := Lib.hid (heap_alloc_new wr (.cells #[.string ⟨#[]⟩, .string ⟨#[]⟩, .int .i64 0, .int .i64 0, .slice none 0 0] 54))
        have HB3 := Lib.hid hb3
        have HBW := Lib.hid hbw
        have HSZ : Hid (w.heap.size ≤ wr.heap.size) := Lib.hid hbw.size
        obtain ⟨b, hb⟩ : ∃ b, b = R i := ⟨_, rfl⟩
        rw [← hb] at HCALL
        have HRI := Lib.hid hb
        clear hc1 hc2 hcall hq hb3 hbw e1 e2 hg1 hg2 HX1 HX2 HR hb
        cases b
        all_goals
          go_wp2_with (first
            | (
           refine wpList_store_row rfl 54 (.tmp 8) (.tmp 21) rfl wr.heap.size #[.string o1, .string m1, .int .i64 n1', .int .i64 a1, .slice y1 l1 d1] rfl rfl 54 _ HN3.out HSE.out rfl (expr_one _ _ _ _ _ _ _) ?_
           have hset := setRow_heap _ wr.heap.size _ #[.string o1, .string m1, .int .i64 n1', .int .i64 a1, .slice y1 l1 d1] _ _ HN3.out
           have hbs := below_setRow HB3.out (Nat.le_refl _) #[.string o1, .string m1, .int .i64 n1', .int .i64 a1, .slice y1 l1 d1]
           generalize (wr.alloc (.cells #[.string ⟨#[]⟩, .string ⟨#[]⟩, .int .i64 0, .int .i64 0, .slice none 0 0] 54)).setRow wr.heap.size #[.string o1, .string m1, .int .i64 n1', .int .i64 a1, .slice y1 l1 d1] = w3 at hset hbs ⊢
           have HA1 := Lib.hid hset
           have HBA := Lib.hid (HBW.out.trans (hbs.mono HSZ.out))
           have hz3 : wr.heap.size + 1 ≤ w3.heap.size := (Array.getElem?_eq_some_iff.1 hset).1
           have hp := fun j u h => cell_low HBA.out HG2.out (HC2.out j u h)
           have p0 := hp 0 _ rfl
           have p1 := hp 1 _ rfl
           have p2 := hp 2 _ rfl
           have p3 := hp 3 _ rfl
           have p4 := hp 4 _ rfl
           rw [Nat.add_zero] at p0
           have HN4 := Lib.hid (heap_alloc_new w3 (.cells #[.string ⟨#[]⟩, .string ⟨#[]⟩, .int .i64 0, .int .i64 0, .slice none 0 0] 54))
           have HB4 : Hid (Below w3.heap.size w3 (w3.alloc (.cells #[.string ⟨#[]⟩, .string ⟨#[]⟩, .int .i64 0, .int .i64 0, .slice none 0 0] 54))) := Lib.hid ((Below.refl _ _).alloc (Nat.le_refl _) _)
           clear hset hbs HN3 HB3 HBW hp HC2)
            | (
           refine wpList_store_row rfl 54 (.tmp 9) (.tmp 25) rfl w3.heap.size #[.string o2, .string m2, .int .i64 n2', .int .i64 a2, .slice y2 l2 d2] rfl rfl 54 _ HN4.out HSE.out rfl (expr_one _ _ _ _ _ _ _) ?_
           have hset := setRow_heap _ w3.heap.size _ #[.string o2, .string m2, .int .i64 n2', .int .i64 a2, .slice y2 l2 d2] _ _ HN4.out
           have hbs := below_setRow HB4.out (Nat.le_refl _) #[.string o2, .string m2, .int .i64 n2', .int .i64 a2, .slice y2 l2 d2]
           generalize (w3.alloc (.cells #[.string ⟨#[]⟩, .string ⟨#[]⟩, .int .i64 0, .int .i64 0, .slice none 0 0] 54)).setRow w3.heap.size #[.string o2, .string m2, .int .i64 n2', .int .i64 a2, .slice y2 l2 d2] = w4 at hset hbs ⊢
           have HA2 := Lib.hid hset
           have HA1' := Lib.hid ((hbs.block wr.heap.size (by omega)).trans HA1.out)
           have HBB := Lib.hid (HBA.out.trans (hbs.mono (by have := HSZ.out; omega)))
           have hz4 := hbs.size
           clear hset hbs HN4 HB4 HA1 HBA)
            | (refine wpList_load_row rfl 54 (.tmp 8) rfl wr.heap.size rfl 54 #[.string o1, .string m1, .int .i64 n1', .int .i64 a1, .slice y1 l1 d1] (0, 0) _ HA1'.out Tryz.underlying54 rfl HSE.out ?_)
            | (refine wpList_load_row rfl 54 (.tmp 9) rfl w3.heap.size rfl 54 #[.string o2, .string m2, .int .i64 n2', .int .i64 a2, .slice y2 l2 d2] (0, 0) _ HA2.out Tryz.underlying54 rfl HSE.out ?_))
          have kc := HCALL.out w4 HBB.out
          (with_reducible refine kc.mono ?_)
          rintro e w5 ⟨rfl, hb5⟩
          have H5 := Lib.hid (HBB.out.trans (hb5.mono (by have := HSZ.out; omega)))
          clear hb5 kc HA1' HA2 HBB
          go_wp2_with fail
        · go_ret
          refine ⟨?_, H5.out⟩
          rw [allR_no HRI.out hin]
          rfl
        · refine ⟨⟨i + 1, by go_num, by omega, H5.out, fun j hj => ?_⟩, ?_⟩
          · by_cases hji : j < i
            · exact HALL.out j hji
            · obtain rfl : j = i := by omega
              exact HRI.out.symm
          · simp [intOf]; omega
      · obtain rfl : i = n1 := by omega
        have d2 : decide ((i : Int) < (i : Int)) = false := by simp
        have HBW := Lib.hid hbw
        clear hbw HX1 HX2 HR
        go_wp2_with fail
        go_ret
        refine ⟨?_, HBW.out⟩
        rw [allR_yes HALL.out]
        rfl
  · have hee : (decide (n1 = n2) && allR n1 R) = false := by simp [hne]
    rw [hee]
    have hd0 : ((n1 : Int) != (n2 : Int)) = true := by simp; omega
    clear hr hx1 hx2 hee
    go_enter Tryz.func78, Tryz.ntmps78
    go_wp2_with fail
    go_ret
    exact ⟨rfl, Below.refl _ _⟩
end Go.Proofs.YtjlnihennlkmpaaGreatDoor

namespace Go.Proofs.YtjlnihennlkmpaaGreatDoor
open Go Go.RowKit
mutual
/-- Are two trees alike, but for places? -/
def sameE : Ex → Ex → Bool
  | .mk o m n _ ks, .mk o' m' n' _ ks' => (o.toList == o'.toList) && (m.toList == m'.toList) && (n == n') && sameL ks ks'
def sameL : List Ex → List Ex → Bool
  | [], [] => true
  | e :: r, e' :: r' => sameE e e' && sameL r r'
  | [], _ :: _ => false
  | _ :: _, [] => false
end
theorem allR_succ (n : Nat) (R : Nat → Bool) : allR (n + 1) R = (R 0 && allR n (fun i => R (i + 1))) := by
  unfold allR
  rw [List.range_succ_eq_map, List.all_cons, List.all_map]
  rfl
theorem sameL_all : ∀ (ks ks' : List Ex), sameL ks ks' = (decide (ks.length = ks'.length) && allR ks.length fun i => sameE (ks.getD i ex0) (ks'.getD i ex0))
  | [], [] => by simp [sameL, allR]
  | [], _ :: _ => by simp [sameL]
  | _ :: _, [] => by simp [sameL]
  | e :: r, e' :: r' => by
    have ih := sameL_all r r'
    rw [sameL, ih, List.length_cons, List.length_cons, allR_succ]
    have h : decide (r.length + 1 = r'.length + 1) = decide (r.length = r'.length) := by simp
    rw [h]
    simp only [List.getD_cons_zero, List.getD_cons_succ]
    cases sameE e e' <;> simp
theorem sameE_mk (o m : ByteArray) (n : Int) (a : Nat) (ks : List Ex) (o' m' : ByteArray) (n' : Int) (a' : Nat) (ks' : List Ex) : sameE (.mk o m n a ks) (.mk o' m' n' a' ks') = ((o.toList == o'.toList) && (m.toList == m'.toList) && (n == n') && (decide (ks.length = ks'.length) && allR ks.length fun i => sameE (ks.getD i ex0) (ks'.getD i ex0))) := by
  rw [sameE, sameL_all]
/-- sameExpr tells whether this tree and another are alike, wherever it is asked. -/
def SameX (t1 : Ex) : Prop := ∀ (t2 : Ex) (B : Nat) (w : World) (o1 m1 : ByteArray) (n1 a1 : Int) (y1 : Option Addr) (l1 d1 : Nat) (o2 m2 : ByteArray) (n2 a2 : Int) (y2 : Option Addr) (l2 d2 : Nat), B ≤ w.heap.size → IsP (fun k => k < B) w o1 m1 n1 a1 y1 l1 d1 t1 → IsP (fun k => k < B) w o2 m2 n2 a2 y2 l2 d2 t2 → FineE t1 → FineE t2 →
  Calls Tryz.prog 64 #[exV o1 m1 n1 a1 y1 l1 d1, exV o2 m2 n2 a2 y2 l2 d2] w fun e w' => e = .returned (.bool (sameE t1 t2)) ∧ Below w.heap.size w w'
set_option maxHeartbeats 4000000 in
set_option maxRecDepth 100000 in
theorem same_step (op nm : ByteArray) (n : Int) (a : Nat) (kids : List Ex) (hk : ∀ i, i < kids.length → SameX (kids.getD i ex0)) : SameX (.mk op nm n a kids) := by
  intro t2 B w o1 m1 n1 a1 y1 l1 d1 o2 m2 n2 a2 y2 l2 d2 hB h1 h2 f1 f2
  obtain ⟨op', nm', n', a', kids'⟩ := t2
  have e1 : o1 = op ∧ m1 = nm ∧ n1 = n := by
    unfold IsP at h1
    exact ⟨h1.1, h1.2.1, h1.2.2.1⟩
  have e2 : o2 = op' ∧ m2 = nm' ∧ n2 = n' := by
    unfold IsP at h2
    exact ⟨h2.1, h2.2.1, h2.2.2.1⟩
  obtain ⟨hl1, g1, hg1⟩ := h1.blk
  obtain ⟨hl2, g2, hg2⟩ := h2.blk
  rw [sameE_mk]
  unfold FineE at f1 f2
  have hw1 : Below w.heap.size w (w.alloc (.cells #[.string o1, .string m1, .int .i64 n1, .int .i64 a1, .slice y1 l1 d1] 54)) := (Below.refl _ _).alloc (Nat.le_refl _) _
  have hn1 := heap_alloc_new w (.cells #[.string o1, .string m1, .int .i64 n1, .int .i64 a1, .slice y1 l1 d1] 54)
  have hs1 : (w.alloc (.cells #[.string o1, .string m1, .int .i64 n1, .int .i64 a1, .slice y1 l1 d1] 54)).heap.size = w.heap.size + 1 := by simp
  obtain ⟨v1, hv1⟩ : ∃ v, v = w.alloc (.cells #[.string o1, .string m1, .int .i64 n1, .int .i64 a1, .slice y1 l1 d1] 54) := ⟨_, rfl⟩
  rw [← hv1] at hw1 hn1 hs1
  have hw2 : Below v1.heap.size v1 (v1.alloc (.cells #[.string o2, .string m2, .int .i64 n2, .int .i64 a2, .slice y2 l2 d2] 54)) := (Below.refl _ _).alloc (Nat.le_refl _) _
  have hn2 := heap_alloc_new v1 (.cells #[.string o2, .string m2, .int .i64 n2, .int .i64 a2, .slice y2 l2 d2] 54)
  have hr1 := (hw2.block w.heap.size (by omega)).trans hn1
  rw [hs1] at hn2
  have hw3 : Below w.heap.size w (v1.alloc (.cells #[.string o2, .string m2, .int .i64 n2, .int .i64 a2, .slice y2 l2 d2] 54)) := hw1.trans (hw2.mono (by omega))
  have hs2 : (v1.alloc (.cells #[.string o2, .string m2, .int .i64 n2, .int .i64 a2, .slice y2 l2 d2] 54)).heap.size = w.heap.size + 2 := by simp [hs1]
  obtain ⟨v2, hv2⟩ : ∃ v, v = v1.alloc (.cells #[.string o2, .string m2, .int .i64 n2, .int .i64 a2, .slice y2 l2 d2] 54) := ⟨_, rfl⟩
  rw [← hv2] at hn2 hr1 hw3 hs2
  have ke := eqf_Expr v2 y1 y2 l1 d1 l2 d2 g1 g2 (fun h => ⟨(hg1 h).1, by have := (hg1 h).2.2; omega⟩) (fun h => ⟨(hg2 h).1, by have := (hg2 h).2.2; omega⟩) (by omega) (by omega) (fun i => sameE (kids.getD i ex0) (kids'.getD i ex0)) (fun i hi1 hi2 => by
    have k1 := h1.low (hw3.mono hB)
    have k2 := h2.low (hw3.mono hB)
    rw [(hg1 (by omega)).1] at k1
    rw [(hg2 (by omega)).1] at k2
    obtain ⟨p1, p2, p3, p4, p5, p6, p7, c0, c1, c2, c3, c4, hp⟩ := k1.kid i (by omega)
    obtain ⟨q1, q2, q3, q4, q5, q6, q7, e0, e1, e2, e3, e4, hq⟩ := k2.kid i (by omega)
    refine ⟨p1, p2, p3, p4, p5, p6, p7, q1, q2, q3, q4, q5, q6, q7, fun j u hu => ?_, fun j u hu => ?_, fun W hW => ?_⟩
    · match j, hu with
      | 0, hu => simpa using (show _ = some u by rw [c0]; simpa using hu)
      | 1, hu => rw [c1]; simpa using hu
      | 2, hu => rw [c2]; simpa using hu
      | 3, hu => rw [c3]; simpa using hu
      | 4, hu => rw [c4]; simpa using hu
      | _ + 5, hu => simp at hu
    · match j, hu with
      | 0, hu => simpa using (show _ = some u by rw [e0]; simpa using hu)
      | 1, hu => rw [e1]; simpa using hu
      | 2, hu => rw [e2]; simpa using hu
      | 3, hu => rw [e3]; simpa using hu
      | 4, hu => rw [e4]; simpa using hu
      | _ + 5, hu => simp at hu
    · exact hk i (by omega) _ B W p1 p2 p3 p4 p5 p6 p7 q1 q2 q3 q4 q5 q6 q7 (by have := hW.size; omega) (hp.low (hW.mono (by omega))) (hq.low (hW.mono (by omega))) (FineL.nth kids i f1.2.2) (FineL.nth kids' i f2.2.2))
  rw [hl1, hl2] at ke
  obtain ⟨RR, hRR⟩ : ∃ R : Bool, R = (decide (kids.length = kids'.length) && allR kids.length fun i => sameE (kids.getD i ex0) (kids'.getD i ex0)) := ⟨_, rfl⟩
  rw [← hRR] at ke ⊢
  rw [← hl1, ← hl2] at ke
  obtain ⟨rfl, rfl, rfl⟩ := e1
  obtain ⟨rfl, rfl, rfl⟩ := e2
  have c0 := cell_of_row v2 w.heap.size 0 _ _ _ hr1
  have c1 := cell_of_row v2 w.heap.size 1 _ _ _ hr1
  have c2 := cell_of_row v2 w.heap.size 2 _ _ _ hr1
  have c4 := cell_of_row v2 w.heap.size 4 _ _ _ hr1
  have e0 := cell_of_row v2 (w.heap.size + 1) 0 _ _ _ hn2
  have e1 := cell_of_row v2 (w.heap.size + 1) 1 _ _ _ hn2
  have e2 := cell_of_row v2 (w.heap.size + 1) 2 _ _ _ hn2
  have e4 := cell_of_row v2 (w.heap.size + 1) 4 _ _ _ hn2
  have HK := Lib.hid ke
  have HW := Lib.hid hw3
  have HS2 := Lib.hid hs2
  subst hv1
  have HV := Lib.hid hv2
  rw [hv2] at c0 c1 c2 c4 e0 e1 e2 e4
  unfold exV
  clear hk h1 h2 f1 f2 hl1 hl2 hg1 hg2 hw1 hn1 hs1 hw2 hn2 hr1 hw3 hs2 hv2 ke hRR
  by_cases b1 : o1.toList = o2.toList
  · have d1 : (o1.toList == o2.toList) = true := by simpa using b1
    rw [d1]
    clear b1
    by_cases b2 : m1.toList = m2.toList
    · have d2 : (m1.toList == m2.toList) = true := by simpa using b2
      rw [d2]
      clear b2
      by_cases b3 : n1 = n2
      · subst b3
        have hz : (true && true && (n1 == n1) && RR) = RR := by simp
        rw [hz]
        clear hz
        go_enter Tryz.func64, Tryz.ntmps64
        go_wp2_with fail
        rw [← HV.out]
        (with_reducible refine HK.out.mono ?_)
        rintro e w5 ⟨rfl, hb5⟩
        have H5 := Lib.hid (HW.out.trans (hb5.mono (by have := HS2.out; omega)))
        clear hb5
        go_wp2_with fail
        go_ret
        exact ⟨by cases RR <;> rfl, H5.out⟩
      · have d3 : (n1 == n2) = false := by simpa using b3
        rw [d3]
        clear b3
        have hz : (true && true && false && RR) = false := by simp
        rw [hz]
        clear hz
        rw [HV.out] at HW
        go_enter Tryz.func64, Tryz.ntmps64
        go_wp2_with fail
        go_ret
        exact ⟨rfl, HW.out⟩
    · have d2 : (m1.toList == m2.toList) = false := by simpa using b2
      rw [d2]
      clear b2
      have hz : (true && false && (n1 == n2) && RR) = false := by simp
      rw [hz]
      clear hz
      rw [HV.out] at HW
      go_enter Tryz.func64, Tryz.ntmps64
      go_wp2_with fail
      go_ret
      exact ⟨rfl, HW.out⟩
  · have d1 : (o1.toList == o2.toList) = false := by simpa using b1
    rw [d1]
    clear b1
    have hz : (false && (m1.toList == m2.toList) && (n1 == n2) && RR) = false := by simp
    rw [hz]
    clear hz
    rw [HV.out] at HW
    go_enter Tryz.func64, Tryz.ntmps64
    go_wp2_with fail
    go_ret
    exact ⟨rfl, HW.out⟩
mutual
theorem same_all : ∀ (t : Ex), SameX t
  | .mk op nm n a kids => same_step op nm n a kids (fun i hi => same_kids kids i hi)
theorem same_kids : ∀ (kids : List Ex) (i : Nat), i < kids.length → SameX (kids.getD i ex0)
  | [], i, h => absurd h (Nat.not_lt_zero _)
  | e :: r, 0, _ => same_all e
  | e :: r, i + 1, h => same_kids r i (by simpa using h)
end
end Go.Proofs.YtjlnihennlkmpaaGreatDoor

namespace Go.Proofs.YtjlnihennlkmpaaGreatDoor
open Go Go.RowKit
set_option maxHeartbeats 4000000 in
set_option maxRecDepth 100000 in
theorem sameEq_any (B : Nat) (w : World) (q1 o1 m1 : ByteArray) (n1 a1 : Int) (y1 : Option Addr) (l1 d1 : Nat) (b1 : Int) (q2 o2 m2 : ByteArray) (n2 a2 : Int) (y2 : Option Addr) (l2 d2 : Nat) (b2 : Int) (t1 t2 : Ex) (hB : B ≤ w.heap.size) (h1 : IsP (fun k => k < B) w o1 m1 n1 a1 y1 l1 d1 t1) (h2 : IsP (fun k => k < B) w o2 m2 n2 a2 y2 l2 d2 t2) (f1 : FineE t1) (f2 : FineE t2) :
    Calls Tryz.prog 37 #[.agg #[.string q1, .string o1, .string m1, .int .i64 n1, .int .i64 a1, .slice y1 l1 d1, .int .i64 b1], .agg #[.string q2, .string o2, .string m2, .int .i64 n2, .int .i64 a2, .slice y2 l2 d2, .int .i64 b2]] w fun e w' => e = .returned (.bool (q1.toList == q2.toList && sameE t1 t2)) ∧ Below w.heap.size w w' := by
  have hw1 : Below w.heap.size w (w.alloc (.cells #[.string q1, .string o1, .string m1, .int .i64 n1, .int .i64 a1, .slice y1 l1 d1, .int .i64 b1] 56)) := (Below.refl _ _).alloc (Nat.le_refl _) _
  have hn1 := heap_alloc_new w (.cells #[.string q1, .string o1, .string m1, .int .i64 n1, .int .i64 a1, .slice y1 l1 d1, .int .i64 b1] 56)
  have hs1 : (w.alloc (.cells #[.string q1, .string o1, .string m1, .int .i64 n1, .int .i64 a1, .slice y1 l1 d1, .int .i64 b1] 56)).heap.size = w.heap.size + 1 := by simp
  obtain ⟨v1, hv1⟩ : ∃ v, v = w.alloc (.cells #[.string q1, .string o1, .string m1, .int .i64 n1, .int .i64 a1, .slice y1 l1 d1, .int .i64 b1] 56) := ⟨_, rfl⟩
  rw [← hv1] at hw1 hn1 hs1
  have hw2 : Below v1.heap.size v1 (v1.alloc (.cells #[.string q2, .string o2, .string m2, .int .i64 n2, .int .i64 a2, .slice y2 l2 d2, .int .i64 b2] 56)) := (Below.refl _ _).alloc (Nat.le_refl _) _
  have hn2 := heap_alloc_new v1 (.cells #[.string q2, .string o2, .string m2, .int .i64 n2, .int .i64 a2, .slice y2 l2 d2, .int .i64 b2] 56)
  have hr1 := (hw2.block w.heap.size (by omega)).trans hn1
  rw [hs1] at hn2
  have hw3 : Below w.heap.size w (v1.alloc (.cells #[.string q2, .string o2, .string m2, .int .i64 n2, .int .i64 a2, .slice y2 l2 d2, .int .i64 b2] 56)) := hw1.trans (hw2.mono (by omega))
  have hs2 : (v1.alloc (.cells #[.string q2, .string o2, .string m2, .int .i64 n2, .int .i64 a2, .slice y2 l2 d2, .int .i64 b2] 56)).heap.size = w.heap.size + 2 := by simp [hs1]
  obtain ⟨v2, hv2⟩ : ∃ v, v = v1.alloc (.cells #[.string q2, .string o2, .string m2, .int .i64 n2, .int .i64 a2, .slice y2 l2 d2, .int .i64 b2] 56) := ⟨_, rfl⟩
  rw [← hv2] at hn2 hr1 hw3 hs2
  have ke := same_all t1 t2 B v2 o1 m1 n1 a1 y1 l1 d1 o2 m2 n2 a2 y2 l2 d2 (by omega) (h1.low (hw3.mono hB)) (h2.low (hw3.mono hB)) f1 f2
  unfold exV at ke
  obtain ⟨RR, hRR⟩ : ∃ R : Bool, R = sameE t1 t2 := ⟨_, rfl⟩
  rw [← hRR] at ke ⊢
  have c0 := cell_of_row v2 w.heap.size 0 _ _ _ hr1
  have e0 := cell_of_row v2 (w.heap.size + 1) 0 _ _ _ hn2
  have c1 := cell_of_row v2 w.heap.size 1 _ _ _ hr1
  have e1 := cell_of_row v2 (w.heap.size + 1) 1 _ _ _ hn2
  have c2 := cell_of_row v2 w.heap.size 2 _ _ _ hr1
  have e2 := cell_of_row v2 (w.heap.size + 1) 2 _ _ _ hn2
  have c3 := cell_of_row v2 w.heap.size 3 _ _ _ hr1
  have e3 := cell_of_row v2 (w.heap.size + 1) 3 _ _ _ hn2
  have c4 := cell_of_row v2 w.heap.size 4 _ _ _ hr1
  have e4 := cell_of_row v2 (w.heap.size + 1) 4 _ _ _ hn2
  have c5 := cell_of_row v2 w.heap.size 5 _ _ _ hr1
  have e5 := cell_of_row v2 (w.heap.size + 1) 5 _ _ _ hn2
  have HK := Lib.hid ke
  have HW := Lib.hid hw3
  have HS2 := Lib.hid hs2
  subst hv1
  have HV := Lib.hid hv2
  rw [hv2] at c0 e0 c1 e1 c2 e2 c3 e3 c4 e4 c5 e5
  clear h1 h2 f1 f2 hw1 hn1 hs1 hw2 hn2 hr1 hw3 hs2 hv2 ke hRR
  by_cases b1 : q1.toList = q2.toList
  · have d1 : (q1.toList == q2.toList) = true := by simpa using b1
    rw [d1]
    clear b1
    have hz : (true && RR) = RR := by simp
    rw [hz]
    clear hz
    go_enter Tryz.func37, Tryz.ntmps37
    go_wp2_with fail
    rw [← HV.out]
    (with_reducible refine HK.out.mono ?_)
    rintro e w5 ⟨rfl, hb5⟩
    have H5 := Lib.hid (HW.out.trans (hb5.mono (by have := HS2.out; omega)))
    clear hb5
    go_wp2_with fail
    go_ret
    exact ⟨by cases RR <;> rfl, H5.out⟩
  · have d1 : (q1.toList == q2.toList) = false := by simpa using b1
    rw [d1]
    clear b1
    have hz : (false && RR) = false := by simp
    rw [hz]
    clear hz
    rw [HV.out] at HW
    go_enter Tryz.func37, Tryz.ntmps37
    go_wp2_with fail
    go_ret
    exact ⟨rfl, HW.out⟩
end Go.Proofs.YtjlnihennlkmpaaGreatDoor

namespace Go.Proofs.YtjlnihennlkmpaaGreatDoor
open Go Go.RowKit
set_option maxHeartbeats 2000000 in
set_option maxRecDepth 100000 in
theorem sameVar_any (w : World) (m1 o1 m2 o2 : ByteArray) (k1 a1 k2 a2 : Int) (t1 t2 : Bool) :
    Calls Tryz.prog 35 #[.agg #[.string m1, .int .i64 k1, .string o1, .bool t1, .int .i64 a1], .agg #[.string m2, .int .i64 k2, .string o2, .bool t2, .int .i64 a2]] w fun e w' => e = .returned (.bool (m1.toList == m2.toList && (k1 == k2) && o1.toList == o2.toList && (t1 == t2))) ∧ Below w.heap.size w w' := by
  have HSV := Lib.hid sizeV_var
  go_enter Tryz.func35, Tryz.ntmps35
  go_wp2_with fail
  all_goals
    go_ret
    refine ⟨?_, ((Below.refl _ _).alloc (Nat.le_refl _) _).alloc (by simp) _⟩
    simp [*]
end Go.Proofs.YtjlnihennlkmpaaGreatDoor

namespace Go.Proofs.YtjlnihennlkmpaaGreatDoor
open Go Go.RowKit
set_option maxHeartbeats 4000000 in
set_option maxRecDepth 100000 in
theorem eqf_Var (w : World) (x1 x2 : Option Addr) (n1 c1 n2 c2 g1 g2 : Nat) (hx1 : 0 < n1 → x1 = some ⟨g1, 0, none⟩ ∧ g1 < w.heap.size) (hx2 : 0 < n2 → x2 = some ⟨g2, 0, none⟩ ∧ g2 < w.heap.size) (hn1 : n1 < 1000000000000) (hn2 : n2 < 1000000000000) (R : Nat → Bool)
    (hr : ∀ i, i < n1 → i < n2 → ∃ (m1 o1 : ByteArray) (k1 a1 : Int) (t1 : Bool) (m2 o2 : ByteArray) (k2 a2 : Int) (t2 : Bool), (∀ (j : Nat) (u : Value), ([.string m1, .int .i64 k1, .string o1, .bool t1, .int .i64 a1] : List Value)[j]? = some u → w.cell? ⟨g1, i * 5 + j, none⟩ = some u) ∧ (∀ (j : Nat) (u : Value), ([.string m2, .int .i64 k2, .string o2, .bool t2, .int .i64 a2] : List Value)[j]? = some u → w.cell? ⟨g2, i * 5 + j, none⟩ = some u) ∧ ∀ W, Below w.heap.size w W → Calls Tryz.prog 35 #[.agg #[.string m1, .int .i64 k1, .string o1, .bool t1, .int .i64 a1], .agg #[.string m2, .int .i64 k2, .string o2, .bool t2, .int .i64 a2]] W fun e w' => e = .returned (.bool (R i)) ∧ Below W.heap.size W w') :
    Calls Tryz.prog 34 #[.slice x1 n1 c1, .slice x2 n2 c2, .func (.func 35) #[] #[]] w fun e w' => e = .returned (.bool (decide (n1 = n2) && allR n1 R)) ∧ Below w.heap.size w w' := by
  have HSE := Lib.hid sizeV_var
  by_cases hne : n1 = n2
  · subst hne
    have hee : (decide (n1 = n1) && allR n1 R) = allR n1 R := by simp
    rw [hee]
    have HR := Lib.hid hr
    have HX1 := Lib.hid hx1
    have HX2 := Lib.hid hx2
    have hd0 : ((n1 : Int) != (n1 : Int)) = false := by simp
    clear hr hx1 hx2 hee hn2
    go_enter Tryz.func34, Tryz.ntmps34
    go_wp2_with fail
    go_loopw [17] (fun iv wr => ∃ i : Nat, iv = .int .i64 (i : Int) ∧ i ≤ n1 ∧ Below w.heap.size w wr ∧ ∀ j, j < i → R j = true)
      (fun iv _ => n1 - (intOf iv).toNat)
    case atStart => exact ⟨0, rfl, Nat.zero_le _, Below.refl _ _, fun j hj => absurd hj (Nat.not_lt_zero _)⟩
    case round =>
      obtain ⟨i, rfl, hil, hbw, hall⟩ := hrel
      have HALL := Lib.hid hall
      clear hall
      by_cases hin : i < n1
      · have d2 : decide ((i : Int) < (n1 : Int)) = true := by simp; omega
        have e1 := (HX1.out (by omega)).1
        have e2 := (HX2.out (by omega)).1
        have hg1 := (HX1.out (by omega)).2
        have hg2 := (HX2.out (by omega)).2
        have hi1 : ∀ W, (Instr.indexAt 38 (.slice x1 n1 c1) (.int .i64 (i : Int))).run Tryz.prog W = .ok (.pointer (some ⟨g1, i * 5, none⟩)) W := fun W => by rw [e1]; exact idxV_var g1 n1 c1 i hin W
        have hi2 : ∀ W, (Instr.indexAt 38 (.slice x2 n1 c2) (.int .i64 (i : Int))).run Tryz.prog W = .ok (.pointer (some ⟨g2, i * 5, none⟩)) W := fun W => by rw [e2]; exact idxV_var g2 n1 c2 i hin W
        obtain ⟨m1, o1, k1, a1, t1, m2, o2, k2, a2, t2, hc1, hc2, hcall⟩ := HR.out i hin hin
        have hq := fun j u h => cell_low hbw hg1 (hc1 j u h)
        have q0_ := hq 0 _ rfl
        have q1_ := hq 1 _ rfl
        have q2_ := hq 2 _ rfl
        have q3_ := hq 3 _ rfl
        have q4_ := hq 4 _ rfl
        rw [Nat.add_zero] at q0_
        have HC2 := Lib.hid hc2
        have HG2 := Lib.hid hg2
        have HCALL := Lib.hid hcall
        have hb3 : Below wr.heap.size wr (wr.alloc (.cells #[.string ⟨#[]⟩, .int .i64 0, .string ⟨#[]⟩, .bool false, .int .i64 0] 88)) := (Below.refl _ _).alloc (Nat.le_refl _) _
        have HN3 := Lib.hid (heap_alloc_new wr (.cells #[.string ⟨#[]⟩, .int .i64 0, .string ⟨#[]⟩, .bool false, .int .i64 0] 88))
        have HB3 := Lib.hid hb3
        have HBW := Lib.hid hbw
        have HSZ : Hid (w.heap.size ≤ wr.heap.size) := Lib.hid hbw.size
        obtain ⟨b, hb⟩ : ∃ b, b = R i := ⟨_, rfl⟩
        rw [← hb] at HCALL
        have HRI := Lib.hid hb
        clear hc1 hc2 hcall hq hb3 hbw e1 e2 hg1 hg2 HX1 HX2 HR hb
        cases b
        all_goals
          go_wp2_with (first
            | (
           refine wpList_store_row rfl 88 (.tmp 8) (.tmp 21) rfl wr.heap.size #[.string m1, .int .i64 k1, .string o1, .bool t1, .int .i64 a1] rfl rfl 88 _ HN3.out HSE.out rfl (vrowV_one _ _ _ _ _) ?_
           have hset := setRow_heap _ wr.heap.size _ #[.string m1, .int .i64 k1, .string o1, .bool t1, .int .i64 a1] _ _ HN3.out
           have hbs := below_setRow HB3.out (Nat.le_refl _) #[.string m1, .int .i64 k1, .string o1, .bool t1, .int .i64 a1]
           generalize (wr.alloc (.cells #[.string ⟨#[]⟩, .int .i64 0, .string ⟨#[]⟩, .bool false, .int .i64 0] 88)).setRow wr.heap.size #[.string m1, .int .i64 k1, .string o1, .bool t1, .int .i64 a1] = w3 at hset hbs ⊢
           have HA1 := Lib.hid hset
           have HBA := Lib.hid (HBW.out.trans (hbs.mono HSZ.out))
           have hz3 : wr.heap.size + 1 ≤ w3.heap.size := (Array.getElem?_eq_some_iff.1 hset).1
           have hp := fun j u h => cell_low HBA.out HG2.out (HC2.out j u h)
           have p0 := hp 0 _ rfl
           have p1 := hp 1 _ rfl
           have p2 := hp 2 _ rfl
           have p3 := hp 3 _ rfl
           have p4 := hp 4 _ rfl
           rw [Nat.add_zero] at p0
           have HN4 := Lib.hid (heap_alloc_new w3 (.cells #[.string ⟨#[]⟩, .int .i64 0, .string ⟨#[]⟩, .bool false, .int .i64 0] 88))
           have HB4 : Hid (Below w3.heap.size w3 (w3.alloc (.cells #[.string ⟨#[]⟩, .int .i64 0, .string ⟨#[]⟩, .bool false, .int .i64 0] 88))) := Lib.hid ((Below.refl _ _).alloc (Nat.le_refl _) _)
           clear hset hbs HN3 HB3 HBW hp HC2)
            | (
           refine wpList_store_row rfl 88 (.tmp 9) (.tmp 25) rfl w3.heap.size #[.string m2, .int .i64 k2, .string o2, .bool t2, .int .i64 a2] rfl rfl 88 _ HN4.out HSE.out rfl (vrowV_one _ _ _ _ _) ?_
           have hset := setRow_heap _ w3.heap.size _ #[.string m2, .int .i64 k2, .string o2, .bool t2, .int .i64 a2] _ _ HN4.out
           have hbs := below_setRow HB4.out (Nat.le_refl _) #[.string m2, .int .i64 k2, .string o2, .bool t2, .int .i64 a2]
           generalize (w3.alloc (.cells #[.string ⟨#[]⟩, .int .i64 0, .string ⟨#[]⟩, .bool false, .int .i64 0] 88)).setRow w3.heap.size #[.string m2, .int .i64 k2, .string o2, .bool t2, .int .i64 a2] = w4 at hset hbs ⊢
           have HA2 := Lib.hid hset
           have HA1' := Lib.hid ((hbs.block wr.heap.size (by omega)).trans HA1.out)
           have HBB := Lib.hid (HBA.out.trans (hbs.mono (by have := HSZ.out; omega)))
           have hz4 := hbs.size
           clear hset hbs HN4 HB4 HA1 HBA)
            | (refine wpList_load_row rfl 88 (.tmp 8) rfl wr.heap.size rfl 88 #[.string m1, .int .i64 k1, .string o1, .bool t1, .int .i64 a1] (0, 0) _ HA1'.out Tryz.underlying88 rfl HSE.out ?_)
            | (refine wpList_load_row rfl 88 (.tmp 9) rfl w3.heap.size rfl 88 #[.string m2, .int .i64 k2, .string o2, .bool t2, .int .i64 a2] (0, 0) _ HA2.out Tryz.underlying88 rfl HSE.out ?_))
          have kc := HCALL.out w4 HBB.out
          (with_reducible refine kc.mono ?_)
          rintro e w5 ⟨rfl, hb5⟩
          have H5 := Lib.hid (HBB.out.trans (hb5.mono (by have := HSZ.out; omega)))
          clear hb5 kc HA1' HA2 HBB
          go_wp2_with fail
        · go_ret
          refine ⟨?_, H5.out⟩
          rw [allR_no HRI.out hin]
          rfl
        · refine ⟨⟨i + 1, by go_num, by omega, H5.out, fun j hj => ?_⟩, ?_⟩
          · by_cases hji : j < i
            · exact HALL.out j hji
            · obtain rfl : j = i := by omega
              exact HRI.out.symm
          · simp [intOf]; omega
      · obtain rfl : i = n1 := by omega
        have d2 : decide ((i : Int) < (i : Int)) = false := by simp
        have HBW := Lib.hid hbw
        clear hbw HX1 HX2 HR
        go_wp2_with fail
        go_ret
        refine ⟨?_, HBW.out⟩
        rw [allR_yes HALL.out]
        rfl
  · have hee : (decide (n1 = n2) && allR n1 R) = false := by simp [hne]
    rw [hee]
    have hd0 : ((n1 : Int) != (n2 : Int)) = true := by simp; omega
    clear hr hx1 hx2 hee
    go_enter Tryz.func34, Tryz.ntmps34
    go_wp2_with fail
    go_ret
    exact ⟨rfl, Below.refl _ _⟩
end Go.Proofs.YtjlnihennlkmpaaGreatDoor

namespace Go.Proofs.YtjlnihennlkmpaaGreatDoor
open Go Go.RowKit
set_option maxHeartbeats 4000000 in
set_option maxRecDepth 100000 in
theorem eqf_Eq (w : World) (x1 x2 : Option Addr) (n1 c1 n2 c2 g1 g2 : Nat) (hx1 : 0 < n1 → x1 = some ⟨g1, 0, none⟩ ∧ g1 < w.heap.size) (hx2 : 0 < n2 → x2 = some ⟨g2, 0, none⟩ ∧ g2 < w.heap.size) (hn1 : n1 < 1000000000000) (hn2 : n2 < 1000000000000) (R : Nat → Bool)
    (hr : ∀ i, i < n1 → i < n2 → ∃ (q1 o1 m1 : ByteArray) (n1' a1 : Int) (y1 : Option Addr) (l1 d1 : Nat) (b1 : Int) (q2 o2 m2 : ByteArray) (n2' a2 : Int) (y2 : Option Addr) (l2 d2 : Nat) (b2 : Int), (∀ (j : Nat) (u : Value), ([.string q1, .string o1, .string m1, .int .i64 n1', .int .i64 a1, .slice y1 l1 d1, .int .i64 b1] : List Value)[j]? = some u → w.cell? ⟨g1, i * 7 + j, none⟩ = some u) ∧ (∀ (j : Nat) (u : Value), ([.string q2, .string o2, .string m2, .int .i64 n2', .int .i64 a2, .slice y2 l2 d2, .int .i64 b2] : List Value)[j]? = some u → w.cell? ⟨g2, i * 7 + j, none⟩ = some u) ∧ ∀ W, Below w.heap.size w W → Calls Tryz.prog 37 #[.agg #[.string q1, .string o1, .string m1, .int .i64 n1', .int .i64 a1, .slice y1 l1 d1, .int .i64 b1], .agg #[.string q2, .string o2, .string m2, .int .i64 n2', .int .i64 a2, .slice y2 l2 d2, .int .i64 b2]] W fun e w' => e = .returned (.bool (R i)) ∧ Below W.heap.size W w') :
    Calls Tryz.prog 36 #[.slice x1 n1 c1, .slice x2 n2 c2, .func (.func 37) #[] #[]] w fun e w' => e = .returned (.bool (decide (n1 = n2) && allR n1 R)) ∧ Below w.heap.size w w' := by
  have HSE := Lib.hid sizeV_eq
  by_cases hne : n1 = n2
  · subst hne
    have hee : (decide (n1 = n1) && allR n1 R) = allR n1 R := by simp
    rw [hee]
    have HR := Lib.hid hr
    have HX1 := Lib.hid hx1
    have HX2 := Lib.hid hx2
    have hd0 : ((n1 : Int) != (n1 : Int)) = false := by simp
    clear hr hx1 hx2 hee hn2
    go_enter Tryz.func36, Tryz.ntmps36
    go_wp2_with fail
    go_loopw [17] (fun iv wr => ∃ i : Nat, iv = .int .i64 (i : Int) ∧ i ≤ n1 ∧ Below w.heap.size w wr ∧ ∀ j, j < i → R j = true)
      (fun iv _ => n1 - (intOf iv).toNat)
    case atStart => exact ⟨0, rfl, Nat.zero_le _, Below.refl _ _, fun j hj => absurd hj (Nat.not_lt_zero _)⟩
    case round =>
      obtain ⟨i, rfl, hil, hbw, hall⟩ := hrel
      have HALL := Lib.hid hall
      clear hall
      by_cases hin : i < n1
      · have d2 : decide ((i : Int) < (n1 : Int)) = true := by simp; omega
        have e1 := (HX1.out (by omega)).1
        have e2 := (HX2.out (by omega)).1
        have hg1 := (HX1.out (by omega)).2
        have hg2 := (HX2.out (by omega)).2
        have hi1 : ∀ W, (Instr.indexAt 39 (.slice x1 n1 c1) (.int .i64 (i : Int))).run Tryz.prog W = .ok (.pointer (some ⟨g1, i * 7, none⟩)) W := fun W => by rw [e1]; exact idxV_eq g1 n1 c1 i hin W
        have hi2 : ∀ W, (Instr.indexAt 39 (.slice x2 n1 c2) (.int .i64 (i : Int))).run Tryz.prog W = .ok (.pointer (some ⟨g2, i * 7, none⟩)) W := fun W => by rw [e2]; exact idxV_eq g2 n1 c2 i hin W
        obtain ⟨q1, o1, m1, n1', a1, y1, l1, d1, b1, q2, o2, m2, n2', a2, y2, l2, d2, b2, hc1, hc2, hcall⟩ := HR.out i hin hin
        have hq := fun j u h => cell_low hbw hg1 (hc1 j u h)
        have q0_ := hq 0 _ rfl
        have q1_ := hq 1 _ rfl
        have q2_ := hq 2 _ rfl
        have q3_ := hq 3 _ rfl
        have q4_ := hq 4 _ rfl
        have q5_ := hq 5 _ rfl
        have q6_ := hq 6 _ rfl
        rw [Nat.add_zero] at q0_
        have HC2 := Lib.hid hc2
        have HG2 := Lib.hid hg2
        have HCALL := Lib.hid hcall
        have hb3 : Below wr.heap.size wr (wr.alloc (.cells #[.string ⟨#[]⟩, .string ⟨#[]⟩, .string ⟨#[]⟩, .int .i64 0, .int .i64 0, .slice none 0 0, .int .i64 0] 56)) := (Below.refl _ _).alloc (Nat.le_refl _) _
        have HN3 := Lib.hid (heap_alloc_new wr (.cells #[.string ⟨#[]⟩, .string ⟨#[]⟩, .string ⟨#[]⟩, .int .i64 0, .int .i64 0, .slice none 0 0, .int .i64 0] 56))
        have HB3 := Lib.hid hb3
        have HBW := Lib.hid hbw
        have HSZ : Hid (w.heap.size ≤ wr.heap.size) := Lib.hid hbw.size
        obtain ⟨b, hb⟩ : ∃ b, b = R i := ⟨_, rfl⟩
        rw [← hb] at HCALL
        have HRI := Lib.hid hb
        clear hc1 hc2 hcall hq hb3 hbw e1 e2 hg1 hg2 HX1 HX2 HR hb
        cases b
        all_goals
          go_wp2_with (first
            | (
           refine wpList_store_row rfl 56 (.tmp 8) (.tmp 21) rfl wr.heap.size #[.string q1, .string o1, .string m1, .int .i64 n1', .int .i64 a1, .slice y1 l1 d1, .int .i64 b1] rfl rfl 56 _ HN3.out HSE.out rfl (qrowV_one _ _ _ _ _ _ _ _ _) ?_
           have hset := setRow_heap _ wr.heap.size _ #[.string q1, .string o1, .string m1, .int .i64 n1', .int .i64 a1, .slice y1 l1 d1, .int .i64 b1] _ _ HN3.out
           have hbs := below_setRow HB3.out (Nat.le_refl _) #[.string q1, .string o1, .string m1, .int .i64 n1', .int .i64 a1, .slice y1 l1 d1, .int .i64 b1]
           generalize (wr.alloc (.cells #[.string ⟨#[]⟩, .string ⟨#[]⟩, .string ⟨#[]⟩, .int .i64 0, .int .i64 0, .slice none 0 0, .int .i64 0] 56)).setRow wr.heap.size #[.string q1, .string o1, .string m1, .int .i64 n1', .int .i64 a1, .slice y1 l1 d1, .int .i64 b1] = w3 at hset hbs ⊢
           have HA1 := Lib.hid hset
           have HBA := Lib.hid (HBW.out.trans (hbs.mono HSZ.out))
           have hz3 : wr.heap.size + 1 ≤ w3.heap.size := (Array.getElem?_eq_some_iff.1 hset).1
           have hp := fun j u h => cell_low HBA.out HG2.out (HC2.out j u h)
           have p0 := hp 0 _ rfl
           have p1 := hp 1 _ rfl
           have p2 := hp 2 _ rfl
           have p3 := hp 3 _ rfl
           have p4 := hp 4 _ rfl
           have p5 := hp 5 _ rfl
           have p6 := hp 6 _ rfl
           rw [Nat.add_zero] at p0
           have HN4 := Lib.hid (heap_alloc_new w3 (.cells #[.string ⟨#[]⟩, .string ⟨#[]⟩, .string ⟨#[]⟩, .int .i64 0, .int .i64 0, .slice none 0 0, .int .i64 0] 56))
           have HB4 : Hid (Below w3.heap.size w3 (w3.alloc (.cells #[.string ⟨#[]⟩, .string ⟨#[]⟩, .string ⟨#[]⟩, .int .i64 0, .int .i64 0, .slice none 0 0, .int .i64 0] 56))) := Lib.hid ((Below.refl _ _).alloc (Nat.le_refl _) _)
           clear hset hbs HN3 HB3 HBW hp HC2)
            | (
           refine wpList_store_row rfl 56 (.tmp 9) (.tmp 25) rfl w3.heap.size #[.string q2, .string o2, .string m2, .int .i64 n2', .int .i64 a2, .slice y2 l2 d2, .int .i64 b2] rfl rfl 56 _ HN4.out HSE.out rfl (qrowV_one _ _ _ _ _ _ _ _ _) ?_
           have hset := setRow_heap _ w3.heap.size _ #[.string q2, .string o2, .string m2, .int .i64 n2', .int .i64 a2, .slice y2 l2 d2, .int .i64 b2] _ _ HN4.out
           have hbs := below_setRow HB4.out (Nat.le_refl _) #[.string q2, .string o2, .string m2, .int .i64 n2', .int .i64 a2, .slice y2 l2 d2, .int .i64 b2]
           generalize (w3.alloc (.cells #[.string ⟨#[]⟩, .string ⟨#[]⟩, .string ⟨#[]⟩, .int .i64 0, .int .i64 0, .slice none 0 0, .int .i64 0] 56)).setRow w3.heap.size #[.string q2, .string o2, .string m2, .int .i64 n2', .int .i64 a2, .slice y2 l2 d2, .int .i64 b2] = w4 at hset hbs ⊢
           have HA2 := Lib.hid hset
           have HA1' := Lib.hid ((hbs.block wr.heap.size (by omega)).trans HA1.out)
           have HBB := Lib.hid (HBA.out.trans (hbs.mono (by have := HSZ.out; omega)))
           have hz4 := hbs.size
           clear hset hbs HN4 HB4 HA1 HBA)
            | (refine wpList_load_row rfl 56 (.tmp 8) rfl wr.heap.size rfl 56 #[.string q1, .string o1, .string m1, .int .i64 n1', .int .i64 a1, .slice y1 l1 d1, .int .i64 b1] (0, 0) _ HA1'.out Tryz.underlying56 rfl HSE.out ?_)
            | (refine wpList_load_row rfl 56 (.tmp 9) rfl w3.heap.size rfl 56 #[.string q2, .string o2, .string m2, .int .i64 n2', .int .i64 a2, .slice y2 l2 d2, .int .i64 b2] (0, 0) _ HA2.out Tryz.underlying56 rfl HSE.out ?_))
          have kc := HCALL.out w4 HBB.out
          (with_reducible refine kc.mono ?_)
          rintro e w5 ⟨rfl, hb5⟩
          have H5 := Lib.hid (HBB.out.trans (hb5.mono (by have := HSZ.out; omega)))
          clear hb5 kc HA1' HA2 HBB
          go_wp2_with fail
        · go_ret
          refine ⟨?_, H5.out⟩
          rw [allR_no HRI.out hin]
          rfl
        · refine ⟨⟨i + 1, by go_num, by omega, H5.out, fun j hj => ?_⟩, ?_⟩
          · by_cases hji : j < i
            · exact HALL.out j hji
            · obtain rfl : j = i := by omega
              exact HRI.out.symm
          · simp [intOf]; omega
      · obtain rfl : i = n1 := by omega
        have d2 : decide ((i : Int) < (i : Int)) = false := by simp
        have HBW := Lib.hid hbw
        clear hbw HX1 HX2 HR
        go_wp2_with fail
        go_ret
        refine ⟨?_, HBW.out⟩
        rw [allR_yes HALL.out]
        rfl
  · have hee : (decide (n1 = n2) && allR n1 R) = false := by simp [hne]
    rw [hee]
    have hd0 : ((n1 : Int) != (n2 : Int)) = true := by simp; omega
    clear hr hx1 hx2 hee
    go_enter Tryz.func36, Tryz.ntmps36
    go_wp2_with fail
    go_ret
    exact ⟨rfl, Below.refl _ _⟩
end Go.Proofs.YtjlnihennlkmpaaGreatDoor

namespace Go.Proofs.YtjlnihennlkmpaaGreatDoor
open Go Go.RowKit
def vr0 : Vr := ⟨⟨#[]⟩, 0, ⟨#[]⟩, false, 0⟩
def qe0 : Qe := ⟨⟨#[]⟩, ex0, 0⟩
def nd0 : Nd := ⟨⟨#[]⟩, [], [], [], [], 0⟩
/-- Are two declared names, equations, nodes, programs alike, but for places? -/
def sameV (v v' : Vr) : Bool := v.name.toList == v'.name.toList && ((v.kind : Int) == (v'.kind : Int)) && v.on.toList == v'.on.toList && (v.not_ == v'.not_)
def sameVs (l l' : List Vr) : Bool := decide (l.length = l'.length) && allR l.length fun i => sameV (l.getD i vr0) (l'.getD i vr0)
def sameQ (q q' : Qe) : Bool := q.name.toList == q'.name.toList && sameE q.e q'.e
def sameQs (l l' : List Qe) : Bool := decide (l.length = l'.length) && allR l.length fun i => sameQ (l.getD i qe0) (l'.getD i qe0)
def sameN (n n' : Nd) : Bool := n.name.toList == n'.name.toList && (sameVs n.ins n'.ins && (sameVs n.outs n'.outs && (sameVs n.locs n'.locs && sameQs n.eqs n'.eqs)))
def sameP (l l' : List Nd) : Bool := decide (l.length = l'.length) && allR l.length fun i => sameN (l.getD i nd0) (l'.getD i nd0)
theorem VarsV.blk {w : World} {B n : Nat} {x : Option Addr} {vs : List Vr} (h : VarsV w B x n vs) : n = vs.length ∧ ∃ g, 0 < n → x = some ⟨g, 0, none⟩ ∧ g < w.heap.size := ⟨h.1, h.2.choose, fun hl => ⟨(h.2.choose_spec hl).1, (h.2.choose_spec hl).2.2.1⟩⟩
theorem EqsV.blk {w : World} {B n : Nat} {x : Option Addr} {vs : List Qe} (h : EqsV w B x n vs) : n = vs.length ∧ ∃ g, 0 < n → x = some ⟨g, 0, none⟩ ∧ g < w.heap.size := ⟨h.1, h.2.choose, fun hl => ⟨(h.2.choose_spec hl).1, (h.2.choose_spec hl).2.2.1⟩⟩
theorem NodesV.blk {w : World} {B n : Nat} {x : Option Addr} {vs : List Nd} (h : NodesV w B x n vs) : n = vs.length ∧ ∃ g, 0 < n → x = some ⟨g, 0, none⟩ ∧ g < w.heap.size := ⟨h.1, h.2.choose, fun hl => ⟨(h.2.choose_spec hl).1, (h.2.choose_spec hl).2.2.1⟩⟩
theorem getD_at {α : Type} (l : List α) (i : Nat) (d : α) (h : i < l.length) : l.getD i d = l[i] := by rw [List.getD_eq_getElem?_getD, List.getElem?_eq_getElem h]; rfl
theorem samevars_any (B : Nat) (w : World) (x1 x2 : Option Addr) (n1 c1 n2 c2 : Nat) (l1 l2 : List Vr) (h1 : VarsV w B x1 n1 l1) (h2 : VarsV w B x2 n2 l2) (hn1 : n1 < 1000000000000) (hn2 : n2 < 1000000000000) :
    Calls Tryz.prog 34 #[.slice x1 n1 c1, .slice x2 n2 c2, .func (.func 35) #[] #[]] w fun e w' => e = .returned (.bool (sameVs l1 l2)) ∧ Below w.heap.size w w' := by
  obtain ⟨e1, g1, hg1⟩ := h1.blk
  obtain ⟨e2, g2, hg2⟩ := h2.blk
  have k := eqf_Var w x1 x2 n1 c1 n2 c2 g1 g2 hg1 hg2 hn1 hn2 (fun i => sameV (l1.getD i vr0) (l2.getD i vr0)) (fun i hi1 hi2 => by
    have d1 := h1.cells (hg1 (by omega)).1 i (by omega)
    have d2 := h2.cells (hg2 (by omega)).1 i (by omega)
    rw [← getD_at l1 i vr0 (by omega)] at d1
    rw [← getD_at l2 i vr0 (by omega)] at d2
    generalize l1.getD i vr0 = V1 at d1 ⊢
    generalize l2.getD i vr0 = V2 at d2 ⊢
    obtain ⟨a1, a2, a3, a4, a5⟩ := V1
    obtain ⟨b1, b2, b3, b4, b5⟩ := V2
    exact ⟨a1, a3, a2, a5, a4, b1, b3, b2, b5, b4, d1, d2, fun W _ => sameVar_any W a1 a3 b1 b3 a2 a5 b2 b5 a4 b4⟩)
  unfold sameVs
  rw [← e1, ← e2]
  exact k
theorem sameeqs_any (B : Nat) (w : World) (hB : B ≤ w.heap.size) (x1 x2 : Option Addr) (n1 c1 n2 c2 : Nat) (l1 l2 : List Qe) (h1 : EqsV w B x1 n1 l1) (h2 : EqsV w B x2 n2 l2) (hn1 : n1 < 1000000000000) (hn2 : n2 < 1000000000000) (f1 : ∀ q ∈ l1, FineE q.e) (f2 : ∀ q ∈ l2, FineE q.e) :
    Calls Tryz.prog 36 #[.slice x1 n1 c1, .slice x2 n2 c2, .func (.func 37) #[] #[]] w fun e w' => e = .returned (.bool (sameQs l1 l2)) ∧ Below w.heap.size w w' := by
  obtain ⟨e1, g1, hg1⟩ := h1.blk
  obtain ⟨e2, g2, hg2⟩ := h2.blk
  have k := eqf_Eq w x1 x2 n1 c1 n2 c2 g1 g2 hg1 hg2 hn1 hn2 (fun i => sameQ (l1.getD i qe0) (l2.getD i qe0)) (fun i hi1 hi2 => by
    obtain ⟨o, m, n, a, y, l, d, d1, p1⟩ := h1.cells (hg1 (by omega)).1 i (by omega)
    obtain ⟨o', m', n', a', y', l', d', d2, p2⟩ := h2.cells (hg2 (by omega)).1 i (by omega)
    have q1 := f1 _ (List.getElem_mem (by omega : i < l1.length))
    have q2 := f2 _ (List.getElem_mem (by omega : i < l2.length))
    rw [← getD_at l1 i qe0 (by omega)] at d1 p1 q1
    rw [← getD_at l2 i qe0 (by omega)] at d2 p2 q2
    exact ⟨_, o, m, n, a, y, l, d, _, _, o', m', n', a', y', l', d', _, d1, d2, fun W hW => sameEq_any B W _ o m n a y l d _ _ o' m' n' a' y' l' d' _ _ _ (by have := hW.size; omega) (p1.low (hW.mono hB)) (p2.low (hW.mono hB)) q1 q2⟩)
  unfold sameQs
  rw [← e1, ← e2]
  exact k
end Go.Proofs.YtjlnihennlkmpaaGreatDoor

namespace Go.Proofs.YtjlnihennlkmpaaGreatDoor
open Go Go.RowKit
set_option maxHeartbeats 4000000 in
set_option maxRecDepth 100000 in
theorem sameNode_any (B : Nat) (w : World) (hB : B ≤ w.heap.size) (q1 : ByteArray) (xi1 xo1 xl1 xe1 : Option Addr) (ni1 no1 nl1 ne1 ci1 co1 cl1 ce1 : Nat) (b1 : Int) (q2 : ByteArray) (xi2 xo2 xl2 xe2 : Option Addr) (ni2 no2 nl2 ne2 ci2 co2 cl2 ce2 : Nat) (b2 : Int) (t1 t2 : Nd) (h1 : NodeV w B xi1 xo1 xl1 xe1 ni1 no1 nl1 ne1 t1) (h2 : NodeV w B xi2 xo2 xl2 xe2 ni2 no2 nl2 ne2 t2) (hq1 : q1 = t1.name) (hq2 : q2 = t2.name) (f1 : FineN t1) (f2 : FineN t2) :
    Calls Tryz.prog 20 #[.agg #[.string q1, .slice xi1 ni1 ci1, .slice xo1 no1 co1, .slice xl1 nl1 cl1, .slice xe1 ne1 ce1, .int .i64 b1], .agg #[.string q2, .slice xi2 ni2 ci2, .slice xo2 no2 co2, .slice xl2 nl2 cl2, .slice xe2 ne2 ce2, .int .i64 b2]] w fun e w' => e = .returned (.bool (sameN t1 t2)) ∧ Below w.heap.size w w' := by
  have hw1 : Below w.heap.size w (w.alloc (.cells #[.string q1, .slice xi1 ni1 ci1, .slice xo1 no1 co1, .slice xl1 nl1 cl1, .slice xe1 ne1 ce1, .int .i64 b1] 41)) := (Below.refl _ _).alloc (Nat.le_refl _) _
  have hn1 := heap_alloc_new w (.cells #[.string q1, .slice xi1 ni1 ci1, .slice xo1 no1 co1, .slice xl1 nl1 cl1, .slice xe1 ne1 ce1, .int .i64 b1] 41)
  have hs1 : (w.alloc (.cells #[.string q1, .slice xi1 ni1 ci1, .slice xo1 no1 co1, .slice xl1 nl1 cl1, .slice xe1 ne1 ce1, .int .i64 b1] 41)).heap.size = w.heap.size + 1 := by simp
  obtain ⟨v1, hv1⟩ : ∃ v, v = w.alloc (.cells #[.string q1, .slice xi1 ni1 ci1, .slice xo1 no1 co1, .slice xl1 nl1 cl1, .slice xe1 ne1 ce1, .int .i64 b1] 41) := ⟨_, rfl⟩
  rw [← hv1] at hw1 hn1 hs1
  have hw2 : Below v1.heap.size v1 (v1.alloc (.cells #[.string q2, .slice xi2 ni2 ci2, .slice xo2 no2 co2, .slice xl2 nl2 cl2, .slice xe2 ne2 ce2, .int .i64 b2] 41)) := (Below.refl _ _).alloc (Nat.le_refl _) _
  have hn2 := heap_alloc_new v1 (.cells #[.string q2, .slice xi2 ni2 ci2, .slice xo2 no2 co2, .slice xl2 nl2 cl2, .slice xe2 ne2 ce2, .int .i64 b2] 41)
  have hr1 := (hw2.block w.heap.size (by omega)).trans hn1
  rw [hs1] at hn2
  have hw3 : Below w.heap.size w (v1.alloc (.cells #[.string q2, .slice xi2 ni2 ci2, .slice xo2 no2 co2, .slice xl2 nl2 cl2, .slice xe2 ne2 ce2, .int .i64 b2] 41)) := hw1.trans (hw2.mono (by omega))
  have hs2 : (v1.alloc (.cells #[.string q2, .slice xi2 ni2 ci2, .slice xo2 no2 co2, .slice xl2 nl2 cl2, .slice xe2 ne2 ce2, .int .i64 b2] 41)).heap.size = w.heap.size + 2 := by simp [hs1]
  obtain ⟨v2, hv2⟩ : ∃ v, v = v1.alloc (.cells #[.string q2, .slice xi2 ni2 ci2, .slice xo2 no2 co2, .slice xl2 nl2 cl2, .slice xe2 ne2 ce2, .int .i64 b2] 41) := ⟨_, rfl⟩
  rw [← hv2] at hn2 hr1 hw3 hs2
  have z1 := h1.ins.1
  have z2 := h1.outs.1
  have z3 := h1.locs.1
  have z4 := h1.eqs.1
  have z5 := h2.ins.1
  have z6 := h2.outs.1
  have z7 := h2.locs.1
  have z8 := h2.eqs.1
  have k0 := fun (W : World) (hW : Below v2.heap.size v2 W) => samevars_any B W xi1 xi2 ni1 ci1 ni2 ci2 _ _ (h1.low ((hw3.mono hB).trans (hW.mono (by omega)))).ins (h2.low ((hw3.mono hB).trans (hW.mono (by omega)))).ins (by have := f1.ins; omega) (by have := f2.ins; omega)
  have k1 := fun (W : World) (hW : Below v2.heap.size v2 W) => samevars_any B W xo1 xo2 no1 co1 no2 co2 _ _ (h1.low ((hw3.mono hB).trans (hW.mono (by omega)))).outs (h2.low ((hw3.mono hB).trans (hW.mono (by omega)))).outs (by have := f1.outs; omega) (by have := f2.outs; omega)
  have k2 := fun (W : World) (hW : Below v2.heap.size v2 W) => samevars_any B W xl1 xl2 nl1 cl1 nl2 cl2 _ _ (h1.low ((hw3.mono hB).trans (hW.mono (by omega)))).locs (h2.low ((hw3.mono hB).trans (hW.mono (by omega)))).locs (by have := f1.locs; omega) (by have := f2.locs; omega)
  have k3 := fun (W : World) (hW : Below v2.heap.size v2 W) => sameeqs_any B W (by have := hW.size; omega) xe1 xe2 ne1 ce1 ne2 ce2 _ _ (h1.low ((hw3.mono hB).trans (hW.mono (by omega)))).eqs (h2.low ((hw3.mono hB).trans (hW.mono (by omega)))).eqs (by have := f1.eqs; omega) (by have := f2.eqs; omega) f1.ex f2.ex
  unfold sameN
  obtain ⟨r0, hr0⟩ : ∃ r, r = sameVs t1.ins t2.ins := ⟨_, rfl⟩
  obtain ⟨r1, hr1'⟩ : ∃ r, r = sameVs t1.outs t2.outs := ⟨_, rfl⟩
  obtain ⟨r2, hr2⟩ : ∃ r, r = sameVs t1.locs t2.locs := ⟨_, rfl⟩
  obtain ⟨r3, hr3⟩ : ∃ r, r = sameQs t1.eqs t2.eqs := ⟨_, rfl⟩
  simp only [← hr0] at k0
  simp only [← hr1'] at k1
  simp only [← hr2] at k2
  simp only [← hr3] at k3
  rw [← hr0, ← hr1', ← hr2, ← hr3, ← hq1, ← hq2]
  have c0 := cell_of_row v2 w.heap.size 0 _ _ _ hr1
  have e0 := cell_of_row v2 (w.heap.size + 1) 0 _ _ _ hn2
  have c1 := cell_of_row v2 w.heap.size 1 _ _ _ hr1
  have e1 := cell_of_row v2 (w.heap.size + 1) 1 _ _ _ hn2
  have HR1 := Lib.hid hr1
  have HR2 := Lib.hid hn2
  have HK0 := Lib.hid k0
  have HK1 := Lib.hid k1
  have HK2 := Lib.hid k2
  have HK3 := Lib.hid k3
  have HW := Lib.hid hw3
  have HS2 := Lib.hid hs2
  subst hv1
  have HV := Lib.hid hv2
  rw [hv2] at c0 e0 c1 e1
  clear h1 h2 f1 f2 hq1 hq2 hw1 hn1 hs1 hw2 hn2 hr1 hw3 hs2 hv2 k0 k1 k2 k3 z1 z2 z3 z4 z5 z6 z7 z8 hr0 hr1' hr2 hr3
  by_cases b1 : q1.toList = q2.toList
  · have d1 : (q1.toList == q2.toList) = true := by simpa using b1
    rw [d1]
    clear b1
    cases r0
    · simp only [Bool.true_and, Bool.false_and]
      go_enter Tryz.func20, Tryz.ntmps20
      go_wp2_with fail
      rw [← HV.out]
      (with_reducible refine (HK0.out v2 (Below.refl _ _)).mono ?_)
      rintro e u0 ⟨rfl, hb⟩
      have HB' : Hid (Below v2.heap.size v2 u0) := Lib.hid (hb)
      clear hb
      have HB := HB'
      clear HB'
      have c2 := cell_of_row u0 w.heap.size 2 _ _ _ ((HB.out.block w.heap.size (by have := HS2.out; omega)).trans HR1.out)
      have e2 := cell_of_row u0 (w.heap.size + 1) 2 _ _ _ ((HB.out.block (w.heap.size + 1) (by have := HS2.out; omega)).trans HR2.out)
      go_wp2_with fail
      go_ret
      exact ⟨rfl, HW.out.trans (HB.out.mono (by have := HS2.out; omega))⟩

    · cases r1
      · simp only [Bool.true_and, Bool.false_and]
        go_enter Tryz.func20, Tryz.ntmps20
        go_wp2_with fail
        rw [← HV.out]
        (with_reducible refine (HK0.out v2 (Below.refl _ _)).mono ?_)
        rintro e u0 ⟨rfl, hb⟩
        have HB' : Hid (Below v2.heap.size v2 u0) := Lib.hid (hb)
        clear hb
        have HB := HB'
        clear HB'
        have c2 := cell_of_row u0 w.heap.size 2 _ _ _ ((HB.out.block w.heap.size (by have := HS2.out; omega)).trans HR1.out)
        have e2 := cell_of_row u0 (w.heap.size + 1) 2 _ _ _ ((HB.out.block (w.heap.size + 1) (by have := HS2.out; omega)).trans HR2.out)
        go_wp2_with fail
        (with_reducible refine (HK1.out u0 HB.out).mono ?_)
        rintro e u1 ⟨rfl, hb⟩
        have HB' : Hid (Below v2.heap.size v2 u1) := Lib.hid ((HB.out.trans (hb.mono HB.out.size)))
        clear hb HB
        have HB := HB'
        clear HB'
        have c3 := cell_of_row u1 w.heap.size 3 _ _ _ ((HB.out.block w.heap.size (by have := HS2.out; omega)).trans HR1.out)
        have e3 := cell_of_row u1 (w.heap.size + 1) 3 _ _ _ ((HB.out.block (w.heap.size + 1) (by have := HS2.out; omega)).trans HR2.out)
        go_wp2_with fail
        go_ret
        exact ⟨rfl, HW.out.trans (HB.out.mono (by have := HS2.out; omega))⟩

      · cases r2
        · simp only [Bool.true_and, Bool.false_and]
          go_enter Tryz.func20, Tryz.ntmps20
          go_wp2_with fail
          rw [← HV.out]
          (with_reducible refine (HK0.out v2 (Below.refl _ _)).mono ?_)
          rintro e u0 ⟨rfl, hb⟩
          have HB' : Hid (Below v2.heap.size v2 u0) := Lib.hid (hb)
          clear hb
          have HB := HB'
          clear HB'
          have c2 := cell_of_row u0 w.heap.size 2 _ _ _ ((HB.out.block w.heap.size (by have := HS2.out; omega)).trans HR1.out)
          have e2 := cell_of_row u0 (w.heap.size + 1) 2 _ _ _ ((HB.out.block (w.heap.size + 1) (by have := HS2.out; omega)).trans HR2.out)
          go_wp2_with fail
          (with_reducible refine (HK1.out u0 HB.out).mono ?_)
          rintro e u1 ⟨rfl, hb⟩
          have HB' : Hid (Below v2.heap.size v2 u1) := Lib.hid ((HB.out.trans (hb.mono HB.out.size)))
          clear hb HB
          have HB := HB'
          clear HB'
          have c3 := cell_of_row u1 w.heap.size 3 _ _ _ ((HB.out.block w.heap.size (by have := HS2.out; omega)).trans HR1.out)
          have e3 := cell_of_row u1 (w.heap.size + 1) 3 _ _ _ ((HB.out.block (w.heap.size + 1) (by have := HS2.out; omega)).trans HR2.out)
          go_wp2_with fail
          (with_reducible refine (HK2.out u1 HB.out).mono ?_)
          rintro e u2 ⟨rfl, hb⟩
          have HB' : Hid (Below v2.heap.size v2 u2) := Lib.hid ((HB.out.trans (hb.mono HB.out.size)))
          clear hb HB
          have HB := HB'
          clear HB'
          have c4 := cell_of_row u2 w.heap.size 4 _ _ _ ((HB.out.block w.heap.size (by have := HS2.out; omega)).trans HR1.out)
          have e4 := cell_of_row u2 (w.heap.size + 1) 4 _ _ _ ((HB.out.block (w.heap.size + 1) (by have := HS2.out; omega)).trans HR2.out)
          go_wp2_with fail
          go_ret
          exact ⟨rfl, HW.out.trans (HB.out.mono (by have := HS2.out; omega))⟩

        · simp only [Bool.true_and, Bool.false_and]
          go_enter Tryz.func20, Tryz.ntmps20
          go_wp2_with fail
          rw [← HV.out]
          (with_reducible refine (HK0.out v2 (Below.refl _ _)).mono ?_)
          rintro e u0 ⟨rfl, hb⟩
          have HB' : Hid (Below v2.heap.size v2 u0) := Lib.hid (hb)
          clear hb
          have HB := HB'
          clear HB'
          have c2 := cell_of_row u0 w.heap.size 2 _ _ _ ((HB.out.block w.heap.size (by have := HS2.out; omega)).trans HR1.out)
          have e2 := cell_of_row u0 (w.heap.size + 1) 2 _ _ _ ((HB.out.block (w.heap.size + 1) (by have := HS2.out; omega)).trans HR2.out)
          go_wp2_with fail
          (with_reducible refine (HK1.out u0 HB.out).mono ?_)
          rintro e u1 ⟨rfl, hb⟩
          have HB' : Hid (Below v2.heap.size v2 u1) := Lib.hid ((HB.out.trans (hb.mono HB.out.size)))
          clear hb HB
          have HB := HB'
          clear HB'
          have c3 := cell_of_row u1 w.heap.size 3 _ _ _ ((HB.out.block w.heap.size (by have := HS2.out; omega)).trans HR1.out)
          have e3 := cell_of_row u1 (w.heap.size + 1) 3 _ _ _ ((HB.out.block (w.heap.size + 1) (by have := HS2.out; omega)).trans HR2.out)
          go_wp2_with fail
          (with_reducible refine (HK2.out u1 HB.out).mono ?_)
          rintro e u2 ⟨rfl, hb⟩
          have HB' : Hid (Below v2.heap.size v2 u2) := Lib.hid ((HB.out.trans (hb.mono HB.out.size)))
          clear hb HB
          have HB := HB'
          clear HB'
          have c4 := cell_of_row u2 w.heap.size 4 _ _ _ ((HB.out.block w.heap.size (by have := HS2.out; omega)).trans HR1.out)
          have e4 := cell_of_row u2 (w.heap.size + 1) 4 _ _ _ ((HB.out.block (w.heap.size + 1) (by have := HS2.out; omega)).trans HR2.out)
          go_wp2_with fail
          (with_reducible refine (HK3.out u2 HB.out).mono ?_)
          rintro e u3 ⟨rfl, hb⟩
          have HB' : Hid (Below v2.heap.size v2 u3) := Lib.hid ((HB.out.trans (hb.mono HB.out.size)))
          clear hb HB
          have HB := HB'
          clear HB'
          go_wp2_with fail
          go_ret
          exact ⟨by cases r3 <;> rfl, HW.out.trans (HB.out.mono (by have := HS2.out; omega))⟩

  · have d1 : (q1.toList == q2.toList) = false := by simpa using b1
    rw [d1]
    clear b1
    simp only [Bool.false_and]
    rw [HV.out] at HW
    go_enter Tryz.func20, Tryz.ntmps20
    go_wp2_with fail
    go_ret
    exact ⟨rfl, HW.out⟩
end Go.Proofs.YtjlnihennlkmpaaGreatDoor

namespace Go.Proofs.YtjlnihennlkmpaaGreatDoor
open Go Go.RowKit
set_option maxHeartbeats 4000000 in
set_option maxRecDepth 100000 in
theorem eqf_Node (w : World) (x1 x2 : Option Addr) (n1 c1 n2 c2 g1 g2 : Nat) (hx1 : 0 < n1 → x1 = some ⟨g1, 0, none⟩ ∧ g1 < w.heap.size) (hx2 : 0 < n2 → x2 = some ⟨g2, 0, none⟩ ∧ g2 < w.heap.size) (hn1 : n1 < 1000000000000) (hn2 : n2 < 1000000000000) (R : Nat → Bool)
    (hr : ∀ i, i < n1 → i < n2 → ∃ (q1 : ByteArray) (ya1 yb1 yc1 yd1 : Option Addr) (la1 da1 lb1 db1 lc1 dc1 ld1 dd1 : Nat) (b1 : Int) (q2 : ByteArray) (ya2 yb2 yc2 yd2 : Option Addr) (la2 da2 lb2 db2 lc2 dc2 ld2 dd2 : Nat) (b2 : Int), (∀ (j : Nat) (u : Value), ([.string q1, .slice ya1 la1 da1, .slice yb1 lb1 db1, .slice yc1 lc1 dc1, .slice yd1 ld1 dd1, .int .i64 b1] : List Value)[j]? = some u → w.cell? ⟨g1, i * 6 + j, none⟩ = some u) ∧ (∀ (j : Nat) (u : Value), ([.string q2, .slice ya2 la2 da2, .slice yb2 lb2 db2, .slice yc2 lc2 dc2, .slice yd2 ld2 dd2, .int .i64 b2] : List Value)[j]? = some u → w.cell? ⟨g2, i * 6 + j, none⟩ = some u) ∧ ∀ W, Below w.heap.size w W → Calls Tryz.prog 20 #[.agg #[.string q1, .slice ya1 la1 da1, .slice yb1 lb1 db1, .slice yc1 lc1 dc1, .slice yd1 ld1 dd1, .int .i64 b1], .agg #[.string q2, .slice ya2 la2 da2, .slice yb2 lb2 db2, .slice yc2 lc2 dc2, .slice yd2 ld2 dd2, .int .i64 b2]] W fun e w' => e = .returned (.bool (R i)) ∧ Below W.heap.size W w') :
    Calls Tryz.prog 19 #[.slice x1 n1 c1, .slice x2 n2 c2, .func (.func 20) #[] #[]] w fun e w' => e = .returned (.bool (decide (n1 = n2) && allR n1 R)) ∧ Below w.heap.size w w' := by
  have HSE := Lib.hid sizeV_node
  by_cases hne : n1 = n2
  · subst hne
    have hee : (decide (n1 = n1) && allR n1 R) = allR n1 R := by simp
    rw [hee]
    have HR := Lib.hid hr
    have HX1 := Lib.hid hx1
    have HX2 := Lib.hid hx2
    have hd0 : ((n1 : Int) != (n1 : Int)) = false := by simp
    clear hr hx1 hx2 hee hn2
    go_enter Tryz.func19, Tryz.ntmps19
    go_wp2_with fail
    go_loopw [17] (fun iv wr => ∃ i : Nat, iv = .int .i64 (i : Int) ∧ i ≤ n1 ∧ Below w.heap.size w wr ∧ ∀ j, j < i → R j = true)
      (fun iv _ => n1 - (intOf iv).toNat)
    case atStart => exact ⟨0, rfl, Nat.zero_le _, Below.refl _ _, fun j hj => absurd hj (Nat.not_lt_zero _)⟩
    case round =>
      obtain ⟨i, rfl, hil, hbw, hall⟩ := hrel
      have HALL := Lib.hid hall
      clear hall
      by_cases hin : i < n1
      · have d2 : decide ((i : Int) < (n1 : Int)) = true := by simp; omega
        have e1 := (HX1.out (by omega)).1
        have e2 := (HX2.out (by omega)).1
        have hg1 := (HX1.out (by omega)).2
        have hg2 := (HX2.out (by omega)).2
        have hi1 : ∀ W, (Instr.indexAt 23 (.slice x1 n1 c1) (.int .i64 (i : Int))).run Tryz.prog W = .ok (.pointer (some ⟨g1, i * 6, none⟩)) W := fun W => by rw [e1]; exact idxV_node g1 n1 c1 i hin W
        have hi2 : ∀ W, (Instr.indexAt 23 (.slice x2 n1 c2) (.int .i64 (i : Int))).run Tryz.prog W = .ok (.pointer (some ⟨g2, i * 6, none⟩)) W := fun W => by rw [e2]; exact idxV_node g2 n1 c2 i hin W
        obtain ⟨q1, ya1, yb1, yc1, yd1, la1, da1, lb1, db1, lc1, dc1, ld1, dd1, b1, q2, ya2, yb2, yc2, yd2, la2, da2, lb2, db2, lc2, dc2, ld2, dd2, b2, hc1, hc2, hcall⟩ := HR.out i hin hin
        have hq := fun j u h => cell_low hbw hg1 (hc1 j u h)
        have q0_ := hq 0 _ rfl
        have q1_ := hq 1 _ rfl
        have q2_ := hq 2 _ rfl
        have q3_ := hq 3 _ rfl
        have q4_ := hq 4 _ rfl
        have q5_ := hq 5 _ rfl
        rw [Nat.add_zero] at q0_
        have HC2 := Lib.hid hc2
        have HG2 := Lib.hid hg2
        have HCALL := Lib.hid hcall
        have hb3 : Below wr.heap.size wr (wr.alloc (.cells #[.string ⟨#[]⟩, .slice none 0 0, .slice none 0 0, .slice none 0 0, .slice none 0 0, .int .i64 0] 41)) := (Below.refl _ _).alloc (Nat.le_refl _) _
        have HN3 := Lib.hid (heap_alloc_new wr (.cells #[.string ⟨#[]⟩, .slice none 0 0, .slice none 0 0, .slice none 0 0, .slice none 0 0, .int .i64 0] 41))
        have HB3 := Lib.hid hb3
        have HBW := Lib.hid hbw
        have HSZ : Hid (w.heap.size ≤ wr.heap.size) := Lib.hid hbw.size
        obtain ⟨b, hb⟩ : ∃ b, b = R i := ⟨_, rfl⟩
        rw [← hb] at HCALL
        have HRI := Lib.hid hb
        clear hc1 hc2 hcall hq hb3 hbw e1 e2 hg1 hg2 HX1 HX2 HR hb
        cases b
        all_goals
          go_wp2_with (first
            | (
           refine wpList_store_row rfl 41 (.tmp 8) (.tmp 21) rfl wr.heap.size #[.string q1, .slice ya1 la1 da1, .slice yb1 lb1 db1, .slice yc1 lc1 dc1, .slice yd1 ld1 dd1, .int .i64 b1] rfl rfl 41 _ HN3.out HSE.out rfl (nrowV_one _ _ _ _ _ _ _ _ _ _ _ _ _ _) ?_
           have hset := setRow_heap _ wr.heap.size _ #[.string q1, .slice ya1 la1 da1, .slice yb1 lb1 db1, .slice yc1 lc1 dc1, .slice yd1 ld1 dd1, .int .i64 b1] _ _ HN3.out
           have hbs := below_setRow HB3.out (Nat.le_refl _) #[.string q1, .slice ya1 la1 da1, .slice yb1 lb1 db1, .slice yc1 lc1 dc1, .slice yd1 ld1 dd1, .int .i64 b1]
           generalize (wr.alloc (.cells #[.string ⟨#[]⟩, .slice none 0 0, .slice none 0 0, .slice none 0 0, .slice none 0 0, .int .i64 0] 41)).setRow wr.heap.size #[.string q1, .slice ya1 la1 da1, .slice yb1 lb1 db1, .slice yc1 lc1 dc1, .slice yd1 ld1 dd1, .int .i64 b1] = w3 at hset hbs ⊢
           have HA1 := Lib.hid hset
           have HBA := Lib.hid (HBW.out.trans (hbs.mono HSZ.out))
           have hz3 : wr.heap.size + 1 ≤ w3.heap.size := (Array.getElem?_eq_some_iff.1 hset).1
           have hp := fun j u h => cell_low HBA.out HG2.out (HC2.out j u h)
           have p0 := hp 0 _ rfl
           have p1 := hp 1 _ rfl
           have p2 := hp 2 _ rfl
           have p3 := hp 3 _ rfl
           have p4 := hp 4 _ rfl
           have p5 := hp 5 _ rfl
           rw [Nat.add_zero] at p0
           have HN4 := Lib.hid (heap_alloc_new w3 (.cells #[.string ⟨#[]⟩, .slice none 0 0, .slice none 0 0, .slice none 0 0, .slice none 0 0, .int .i64 0] 41))
           have HB4 : Hid (Below w3.heap.size w3 (w3.alloc (.cells #[.string ⟨#[]⟩, .slice none 0 0, .slice none 0 0, .slice none 0 0, .slice none 0 0, .int .i64 0] 41))) := Lib.hid ((Below.refl _ _).alloc (Nat.le_refl _) _)
           clear hset hbs HN3 HB3 HBW hp HC2)
            | (
           refine wpList_store_row rfl 41 (.tmp 9) (.tmp 25) rfl w3.heap.size #[.string q2, .slice ya2 la2 da2, .slice yb2 lb2 db2, .slice yc2 lc2 dc2, .slice yd2 ld2 dd2, .int .i64 b2] rfl rfl 41 _ HN4.out HSE.out rfl (nrowV_one _ _ _ _ _ _ _ _ _ _ _ _ _ _) ?_
           have hset := setRow_heap _ w3.heap.size _ #[.string q2, .slice ya2 la2 da2, .slice yb2 lb2 db2, .slice yc2 lc2 dc2, .slice yd2 ld2 dd2, .int .i64 b2] _ _ HN4.out
           have hbs := below_setRow HB4.out (Nat.le_refl _) #[.string q2, .slice ya2 la2 da2, .slice yb2 lb2 db2, .slice yc2 lc2 dc2, .slice yd2 ld2 dd2, .int .i64 b2]
           generalize (w3.alloc (.cells #[.string ⟨#[]⟩, .slice none 0 0, .slice none 0 0, .slice none 0 0, .slice none 0 0, .int .i64 0] 41)).setRow w3.heap.size #[.string q2, .slice ya2 la2 da2, .slice yb2 lb2 db2, .slice yc2 lc2 dc2, .slice yd2 ld2 dd2, .int .i64 b2] = w4 at hset hbs ⊢
           have HA2 := Lib.hid hset
           have HA1' := Lib.hid ((hbs.block wr.heap.size (by omega)).trans HA1.out)
           have HBB := Lib.hid (HBA.out.trans (hbs.mono (by have := HSZ.out; omega)))
           have hz4 := hbs.size
           clear hset hbs HN4 HB4 HA1 HBA)
            | (refine wpList_load_row rfl 41 (.tmp 8) rfl wr.heap.size rfl 41 #[.string q1, .slice ya1 la1 da1, .slice yb1 lb1 db1, .slice yc1 lc1 dc1, .slice yd1 ld1 dd1, .int .i64 b1] (0, 0) _ HA1'.out Tryz.underlying41 rfl HSE.out ?_)
            | (refine wpList_load_row rfl 41 (.tmp 9) rfl w3.heap.size rfl 41 #[.string q2, .slice ya2 la2 da2, .slice yb2 lb2 db2, .slice yc2 lc2 dc2, .slice yd2 ld2 dd2, .int .i64 b2] (0, 0) _ HA2.out Tryz.underlying41 rfl HSE.out ?_))
          have kc := HCALL.out w4 HBB.out
          (with_reducible refine kc.mono ?_)
          rintro e w5 ⟨rfl, hb5⟩
          have H5 := Lib.hid (HBB.out.trans (hb5.mono (by have := HSZ.out; omega)))
          clear hb5 kc HA1' HA2 HBB
          go_wp2_with fail
        · go_ret
          refine ⟨?_, H5.out⟩
          rw [allR_no HRI.out hin]
          rfl
        · refine ⟨⟨i + 1, by go_num, by omega, H5.out, fun j hj => ?_⟩, ?_⟩
          · by_cases hji : j < i
            · exact HALL.out j hji
            · obtain rfl : j = i := by omega
              exact HRI.out.symm
          · simp [intOf]; omega
      · obtain rfl : i = n1 := by omega
        have d2 : decide ((i : Int) < (i : Int)) = false := by simp
        have HBW := Lib.hid hbw
        clear hbw HX1 HX2 HR
        go_wp2_with fail
        go_ret
        refine ⟨?_, HBW.out⟩
        rw [allR_yes HALL.out]
        rfl
  · have hee : (decide (n1 = n2) && allR n1 R) = false := by simp [hne]
    rw [hee]
    have hd0 : ((n1 : Int) != (n2 : Int)) = true := by simp; omega
    clear hr hx1 hx2 hee
    go_enter Tryz.func19, Tryz.ntmps19
    go_wp2_with fail
    go_ret
    exact ⟨rfl, Below.refl _ _⟩
end Go.Proofs.YtjlnihennlkmpaaGreatDoor

namespace Go.Proofs.YtjlnihennlkmpaaGreatDoor
open Go Go.RowKit
theorem samenodes_any (B : Nat) (w : World) (hB : B ≤ w.heap.size) (x1 x2 : Option Addr) (n1 c1 n2 c2 : Nat) (l1 l2 : List Nd) (h1 : NodesV w B x1 n1 l1) (h2 : NodesV w B x2 n2 l2) (hn1 : n1 < 1000000000000) (hn2 : n2 < 1000000000000) (f1 : ∀ q ∈ l1, FineN q) (f2 : ∀ q ∈ l2, FineN q) :
    Calls Tryz.prog 19 #[.slice x1 n1 c1, .slice x2 n2 c2, .func (.func 20) #[] #[]] w fun e w' => e = .returned (.bool (sameP l1 l2)) ∧ Below w.heap.size w w' := by
  obtain ⟨e1, g1, hg1⟩ := h1.blk
  obtain ⟨e2, g2, hg2⟩ := h2.blk
  have k := eqf_Node w x1 x2 n1 c1 n2 c2 g1 g2 hg1 hg2 hn1 hn2 (fun i => sameN (l1.getD i nd0) (l2.getD i nd0)) (fun i hi1 hi2 => by
    obtain ⟨xi, xo, xl, xe, ni, no, nl, ne, ci, co, cl, ce, d1, p1⟩ := h1.cells (hg1 (by omega)).1 i (by omega)
    obtain ⟨xi', xo', xl', xe', ni', no', nl', ne', ci', co', cl', ce', d2, p2⟩ := h2.cells (hg2 (by omega)).1 i (by omega)
    have q1 := f1 _ (List.getElem_mem (by omega : i < l1.length))
    have q2 := f2 _ (List.getElem_mem (by omega : i < l2.length))
    rw [← getD_at l1 i nd0 (by omega)] at d1 p1 q1
    rw [← getD_at l2 i nd0 (by omega)] at d2 p2 q2
    exact ⟨_, xi, xo, xl, xe, ni, ci, no, co, nl, cl, ne, ce, _, _, xi', xo', xl', xe', ni', ci', no', co', nl', cl', ne', ce', _, d1, d2, fun W hW => sameNode_any B W (by have := hW.size; omega) _ xi xo xl xe ni no nl ne ci co cl ce _ _ xi' xo' xl' xe' ni' no' nl' ne' ci' co' cl' ce' _ _ _ (p1.low (hW.mono hB)) (p2.low (hW.mono hB)) rfl rfl q1 q2⟩)
  unfold sameP
  rw [← e1, ← e2]
  exact k
set_option maxHeartbeats 4000000 in
set_option maxRecDepth 100000 in
theorem Same_any (B : Nat) (w : World) (hB : B ≤ w.heap.size) (x1 x2 : Option Addr) (n1 c1 n2 c2 : Nat) (l1 l2 : List Nd) (h1 : NodesV w B x1 n1 l1) (h2 : NodesV w B x2 n2 l2) (hn1 : n1 < 1000000000000) (hn2 : n2 < 1000000000000) (f1 : ∀ q ∈ l1, FineN q) (f2 : ∀ q ∈ l2, FineN q) :
    Calls Tryz.prog 9 #[.slice x1 n1 c1, .slice x2 n2 c2] w fun e w' => e = .returned (.bool (sameP l1 l2)) ∧ Below w.heap.size w w' := by
  have HK := Lib.hid (samenodes_any B w hB x1 x2 n1 c1 n2 c2 l1 l2 h1 h2 hn1 hn2 f1 f2)
  obtain ⟨R, hR⟩ : ∃ R, R = sameP l1 l2 := ⟨_, rfl⟩
  rw [← hR] at HK ⊢
  clear h1 h2 f1 f2 hn1 hn2 hR
  go_enter Tryz.func9, Tryz.ntmps9
  go_wp2_with fail
  (with_reducible refine HK.out.mono ?_)
  rintro e w5 ⟨rfl, hb5⟩
  have H5 := Lib.hid hb5
  clear hb5
  go_wp2_with fail
  go_ret
  exact ⟨rfl, H5.out⟩
end Go.Proofs.YtjlnihennlkmpaaGreatDoor

namespace Go.Proofs.YtjlnihennlkmpaaGreatDoor
open Go Go.RowKit
abbrev LAID : List (String × DataW Unit) := [("math/bits.deBruijn32tab", Rows.laid_math_bits_deBruijn32tab), ("math/bits.deBruijn64tab", Rows.laid_math_bits_deBruijn64tab), ("internal/strconv.uint64pow10", Rows.laid_internal_strconv_uint64pow10), ("strconv.ErrRange", Rows.laid_strconv_ErrRange), ("strconv.ErrSyntax", Rows.laid_strconv_ErrSyntax)]
theorem range_number : Tryz.prog.globalNamed "strconv.ErrRange" = some 3 := by kernel_rfl
theorem syntax_number : Tryz.prog.globalNamed "strconv.ErrSyntax" = some 2 := by kernel_rfl
theorem range_type : (Tryz.prog.globals[3]?).map (·.type) = some 106 := by kernel_rfl
theorem syntax_type : (Tryz.prog.globals[2]?).map (·.type) = some 106 := by kernel_rfl
theorem star_name : "*" ++ "errors.errorString" = "*errors.errorString" := by decide
set_option maxRecDepth 100000 in
theorem row_err (u : TypeId) (h : Tryz.prog.typeName? 3 u = some "*errors.errorString") : u = 160 :=
  typeName_ptr_named (nm := "errors.errorString") (by rw [star_name]; kernel_rfl) (by kernel_rfl) (by decide) u (by rw [star_name]; exact h)
theorem cells_err : Tryz.prog.cellsOf 162 = 1 := by kernel_rfl
theorem cells_str : Tryz.prog.cellsOf 9 = 1 := by kernel_rfl
set_option maxRecDepth 100000 in
theorem err_of_laid {W : World} {name : String} {n : Nat} {msg : List UInt8} (hn : Tryz.prog.globalNamed name = some n) (ht : (Tryz.prog.globals[n]?).map (·.type) = some 106)
    (h : laidMet Tryz.prog [(name, .iface "*errors.errorString" (.ptr (.agg [.lit (.string msg)])))] W) : ∃ te pe, W.cell? ⟨n, 0, none⟩ = some (.iface te pe) := by
  obtain ⟨ps, ⟨g0, t0, cs0, f0, p0, q0, hg0, ht0, hv0, hd0, hq0, e0⟩, hnd, hrows⟩ := h
  obtain rfl := Option.some.inj (hn.symm.trans hg0)
  obtain rfl := Option.some.inj (ht.symm.trans ht0)
  subst e0
  obtain ⟨l0⟩ := cs0
  have ok0 : ∀ u v, l0 = [.iface u v] → Value.okWide Tryz.prog W .any 0 u v := fun u v e => by
    subst e
    exact (hrows n 0 (by simp [MemPlace.row])).2 u v (by simpa using World.var?_cell hg0 hv0 0)
  obtain ⟨a0, s0, rfl, hc0, hs0, hz0, rfl⟩ := errorString_of_trod Tryz.underlying106 row_err Tryz.underlying160 Tryz.underlying162 rfl rfl Tryz.underlying9 cells_err cells_str hd0 ok0
  exact ⟨_, _, by simpa using World.var?_cell hg0 hv0 0⟩
set_option maxRecDepth 100000 in
theorem errs_of {W : World} (h : laidMet Tryz.prog LAID W) : Errs W := by
  constructor
  · have h1 := h.filter (fun x => x.1 == "strconv.ErrSyntax")
    exact err_of_laid syntax_number syntax_type h1
  · have h1 := h.filter (fun x => x.1 == "strconv.ErrRange")
    exact err_of_laid range_number range_type h1
theorem pow_number : Tryz.prog.globalNamed "internal/strconv.uint64pow10" = some 0 := by kernel_rfl
theorem pow_type : (Tryz.prog.globals[0]?).map (·.type) = some 136 := by kernel_rfl
theorem cells_u64 : Tryz.prog.cellsOf 120 = 1 := by kernel_rfl
theorem cells_pow : Tryz.prog.cellsOf 136 = 20 := by kernel_rfl
theorem pow_same : (Rows.laid_internal_strconv_uint64pow10 : DataW Unit) = Lib.tabData .u64 Lib.pow10Tab := by
  unfold Rows.laid_internal_strconv_uint64pow10 Lib.tabData
  rfl
/-- The library's two errors, and its table of tens. -/
structure STab (w : World) : Prop where
  errs : Errs w
  pow : Lib.TabIs Tryz.prog w "internal/strconv.uint64pow10" .u64 Lib.pow10Tab
theorem STab.below {w w' : World} (h : STab w) (hb : Below w.heap.size w w') : STab w' := ⟨h.errs.below hb (Nat.le_refl _), Lib.tabBelow_of_tabIs h.pow w' hb⟩
theorem STab.tab {w : World} (h : STab w) : Lib.TabBelow Tryz.prog w.heap.size w "internal/strconv.uint64pow10" .u64 Lib.pow10Tab := Lib.tabBelow_of_tabIs h.pow
set_option maxRecDepth 100000 in
theorem tab_of {W : World} (h : laidMet Tryz.prog LAID W) : STab W := by
  refine ⟨errs_of h, ?_⟩
  have h1 := h.filter (fun x => x.1 == "internal/strconv.uint64pow10")
  have h2 : laidMet Tryz.prog [("internal/strconv.uint64pow10", Rows.laid_internal_strconv_uint64pow10)] W := h1
  rw [pow_same] at h2
  exact Lib.tabIs_of_head pow_number pow_type Tryz.underlying136 Tryz.underlying120 cells_u64 cells_pow h2
end Go.Proofs.YtjlnihennlkmpaaGreatDoor

namespace Go.Proofs.YtjlnihennlkmpaaGreatDoor
open Go Go.RowKit
theorem IsP.up {B B' : Nat} (hb : B ≤ B') {w : World} {o m : ByteArray} {n a : Int} {x : Option Addr} {l c : Nat} {e : Ex} (h : IsP (fun k => k < B) w o m n a x l c e) : IsP (fun k => k < B') w o m n a x l c e :=
  h.keep (Nat.le_refl _) (fun _ _ _ => rfl) (fun k hk _ => by omega) e
theorem VarsV.up {w : World} {B B' n : Nat} (hb : B ≤ B') {x : Option Addr} {vs : List Vr} (h : VarsV w B x n vs) : VarsV w B' x n vs := by
  obtain ⟨h1, g, h2⟩ := h
  exact ⟨h1, g, fun hl => ⟨(h2 hl).1, by have := (h2 hl).2.1; omega, (h2 hl).2.2⟩⟩
theorem EqsV.up {w : World} {B B' n : Nat} (hb : B ≤ B') {x : Option Addr} {qs : List Qe} (h : EqsV w B x n qs) : EqsV w B' x n qs := by
  obtain ⟨h1, g, h2⟩ := h
  refine ⟨h1, g, fun hl => ⟨(h2 hl).1, by have := (h2 hl).2.1; omega, (h2 hl).2.2.1, fun i hi => ?_⟩⟩
  obtain ⟨o, m, n, a, x, l, c, e1, e2⟩ := (h2 hl).2.2.2 i hi
  exact ⟨o, m, n, a, x, l, c, e1, e2.up hb⟩
theorem NodeV.up {w : World} {B B' : Nat} (hb : B ≤ B') {xi xo xl xe : Option Addr} {ni no nl ne : Nat} {nd : Nd} (h : NodeV w B xi xo xl xe ni no nl ne nd) : NodeV w B' xi xo xl xe ni no nl ne nd := ⟨h.ins.up hb, h.outs.up hb, h.locs.up hb, h.eqs.up hb⟩
theorem NodesV.up {w : World} {B B' n : Nat} (hb : B ≤ B') {x : Option Addr} {l : List Nd} (h : NodesV w B x n l) : NodesV w B' x n l := by
  obtain ⟨h1, g, h2⟩ := h
  refine ⟨h1, g, fun hl => ⟨(h2 hl).1, by have := (h2 hl).2.1; omega, (h2 hl).2.2.1, fun i hi => ?_⟩⟩
  obtain ⟨xi, xo, xl, xe, ni, no, nl, ne, ci, co, cl, ce, e1, e2⟩ := (h2 hl).2.2.2 i hi
  exact ⟨xi, xo, xl, xe, ni, no, nl, ne, ci, co, cl, ce, e1, e2.up hb⟩
theorem NodesV.nil (w : World) (B : Nat) : NodesV w B none 0 [] := ⟨rfl, 0, fun h => absurd h (by decide)⟩
/-- Parse, its answer a program. -/
theorem parse_ok {s : ByteArray} {l : List Nd} (hp : parseS s = .ok l) (w : World) (hs : s.size ≤ 140737488351232) (hT : STab w) : Calls Tryz.prog 7 #[.string s] w fun e w' => ∃ x c, e = .returned (.tuple #[.slice x l.length c, .agg #[.int .i64 0, .int .i64 0]]) ∧ NodesV w' w'.heap.size x l.length l ∧ Below w.heap.size w w' := by
  refine (Parse_any s w hs hT.errs).mono ?_
  rintro e w' ⟨hb, h⟩
  rw [hp] at h
  obtain ⟨v, rfl, hown⟩ := h
  obtain ⟨x, c, rfl, hv⟩ := NodesV.of_ownN hown
  exact ⟨x, c, rfl, hv, hb⟩
/-- Parse, its answer a fault. -/
theorem parse_bad {s : ByteArray} {er ea : Nat} (hp : parseS s = .error (er, ea)) (w : World) (hs : s.size ≤ 140737488351232) (hT : STab w) : Calls Tryz.prog 7 #[.string s] w fun e w' => e = .returned (.tuple #[.slice none 0 0, .agg #[.int .i64 (er : Int), .int .i64 (ea : Int)]]) ∧ Below w.heap.size w w' := by
  refine (Parse_any s w hs hT.errs).mono ?_
  rintro e w' ⟨hb, h⟩
  rw [hp] at h
  exact ⟨h, hb⟩
/-- Text of a tree that stood in a world before. -/
theorem text_at {w W : World} {B : Nat} (hT : STab w) (hB : B ≤ w.heap.size) (hW : Below w.heap.size w W) {t : Ex} {o m : ByteArray} {n a : Int} {x : Option Addr} {lk c : Nat} (hi : IsP (fun k => k < B) w o m n a x lk c t) (hf : FineE t) {T : List UInt8} (ht : textE t = T) (hl : T.length ≤ 140737488355328) :
    Calls Tryz.prog 14 #[.agg #[.string o, .string m, .int .i64 n, .int .i64 a, .slice x lk c]] W fun e w' => e = .returned (.string ⟨T.toArray⟩) ∧ Below W.heap.size W w' := by
  subst ht
  exact Text_any t W o m n a x lk c ((hi.low (hW.mono hB)).up (by have := hW.size; omega)) hf (hT.below hW).tab hl
/-- Show of a program that stood in a world before. -/
theorem show_at {w W : World} {B : Nat} (hT : STab w) (hB : B ≤ w.heap.size) (hW : Below w.heap.size w W) {l : List Nd} {x : Option Addr} {n c : Nat} (hv : NodesV w B x n l) (hf : ∀ nd ∈ l, FineN nd) (hn : n < 1000000) {T : List UInt8} (ht : showT l = T) (hl : T.length ≤ 140737488355328) :
    Calls Tryz.prog 8 #[.slice x n c] W fun e w' => e = .returned (.string ⟨T.toArray⟩) ∧ Below W.heap.size W w' := by
  subst ht
  exact Show_any l W x n c ((hv.low (hW.mono hB)).up (by have := hW.size; omega)) hf (by omega) (hT.below hW).tab hl
/-- Same of two that stood in a world before. -/
theorem same_at {w W : World} {B : Nat} (hB : B ≤ w.heap.size) (hW : Below w.heap.size w W) {l1 l2 : List Nd} {x1 x2 : Option Addr} {n1 c1 n2 c2 : Nat} (h1 : NodesV w B x1 n1 l1) (h2 : NodesV w B x2 n2 l2) (f1 : ∀ nd ∈ l1, FineN nd) (f2 : ∀ nd ∈ l2, FineN nd) (hn1 : n1 < 1000000) (hn2 : n2 < 1000000) {R : Bool} (hr : sameP l1 l2 = R) :
    Calls Tryz.prog 9 #[.slice x1 n1 c1, .slice x2 n2 c2] W fun e w' => e = .returned (.bool R) ∧ Below W.heap.size W w' := by
  subst hr
  exact Same_any B W (by have := hW.size; omega) x1 x2 n1 c1 n2 c2 l1 l2 (h1.low (hW.mono hB)) (h2.low (hW.mono hB)) (by omega) (by omega) f1 f2
def okN (r : Except (Nat × Nat) (List Nd)) : Nd := match r with
  | .ok (a :: _) => a
  | _ => nd0
end Go.Proofs.YtjlnihennlkmpaaGreatDoor

namespace Go.Proofs.YtjlnihennlkmpaaGreatDoor
open Go Go.RowKit
def oneT : ByteArray := ⟨#[110, 111, 100, 101, 32, 102, 40, 120, 58, 32, 105, 110, 116, 41, 32, 114, 101, 116, 117, 114, 110, 115, 32, 40, 121, 58, 32, 105, 110, 116, 41, 59, 32, 108, 101, 116, 32, 121, 32, 61, 32, 48, 32, 45, 62, 32, 112, 114, 101, 32, 120, 59, 32, 116, 101, 108]⟩
def oneN : Nd := okN (parseS oneT)
def oneQ : Qe := oneN.eqs.getD 0 qe0
theorem one_parse : parseS oneT = .ok [oneN] := by kernel_rfl
theorem one_name : oneN.name = ⟨#[102]⟩ := by kernel_rfl
theorem one_eqs : oneN.eqs = [oneQ] := by kernel_rfl
theorem one_text : textE oneQ.e = [40, 48, 32, 45, 62, 32, 40, 112, 114, 101, 32, 120, 41, 41] := by kernel_rfl
theorem one_show : showT [oneN] = [110, 111, 100, 101, 32, 102, 40, 120, 58, 32, 105, 110, 116, 41, 32, 114, 101, 116, 117, 114, 110, 115, 32, 40, 121, 58, 32, 105, 110, 116, 41, 59, 10, 108, 101, 116, 10, 32, 32, 121, 32, 61, 32, 40, 48, 32, 45, 62, 32, 40, 112, 114, 101, 32, 120, 41, 41, 59, 10, 116, 101, 108, 59, 10] := by kernel_rfl
theorem one_same : sameP [oneN] [oneN] = true := by kernel_rfl
theorem one_nil : sameP [oneN] [] = false := by kernel_rfl
theorem one_facts : ∃ (nd : Nd) (q : Qe), parseS oneT = .ok [nd] ∧ nd.name = ⟨#[102]⟩ ∧ nd.eqs = [q] ∧ textE q.e = [40, 48, 32, 45, 62, 32, 40, 112, 114, 101, 32, 120, 41, 41] ∧ showT [nd] = [110, 111, 100, 101, 32, 102, 40, 120, 58, 32, 105, 110, 116, 41, 32, 114, 101, 116, 117, 114, 110, 115, 32, 40, 121, 58, 32, 105, 110, 116, 41, 59, 10, 108, 101, 116, 10, 32, 32, 121, 32, 61, 32, 40, 48, 32, 45, 62, 32, 40, 112, 114, 101, 32, 120, 41, 41, 59, 10, 116, 101, 108, 59, 10] ∧ sameP [nd] [nd] = true ∧ sameP [nd] [] = false := ⟨oneN, oneQ, one_parse, one_name, one_eqs, one_text, one_show, one_same, one_nil⟩
theorem one_any (w : World) : Calls Tryz.prog 13 #[] w fun e w' => e = .returned (.string oneT) ∧ w' = w := by
  go_enter Tryz.func13, Tryz.ntmps13
  go_wp2
  go_ret
  exact ⟨rfl, rfl⟩
/-- A program's node in memory. -/
theorem NodesV.first {w : World} {B : Nat} {x : Option Addr} {nd : Nd} (h : NodesV w B x 1 [nd]) : ∃ g, x = some ⟨g, 0, none⟩ ∧ g < B ∧ ∃ xi xo xl xe ni no nl ne ci co cl ce, w.cell? ⟨g, 0, none⟩ = some (.string nd.name) ∧ w.cell? ⟨g, 1, none⟩ = some (.slice xi ni ci) ∧ w.cell? ⟨g, 2, none⟩ = some (.slice xo no co) ∧ w.cell? ⟨g, 3, none⟩ = some (.slice xl nl cl) ∧ w.cell? ⟨g, 4, none⟩ = some (.slice xe ne ce) ∧ NodeV w B xi xo xl xe ni no nl ne nd := by
  obtain ⟨_, g, hg⟩ := id h
  obtain ⟨e1, e2, _, _⟩ := hg (by decide)
  obtain ⟨xi, xo, xl, xe, ni, no, nl, ne, ci, co, cl, ce, hc, hv⟩ := h.cells e1 0 (by simp)
  refine ⟨g, e1, e2, xi, xo, xl, xe, ni, no, nl, ne, ci, co, cl, ce, ?_, ?_, ?_, ?_, ?_, hv⟩
  · simpa using hc 0 _ rfl
  · simpa using hc 1 _ rfl
  · simpa using hc 2 _ rfl
  · simpa using hc 3 _ rfl
  · simpa using hc 4 _ rfl
/-- An equation's expression in memory. -/
theorem EqsV.at_ {w : World} {B n : Nat} {x : Option Addr} {qs : List Qe} (h : EqsV w B x n qs) (i : Nat) (hi : i < qs.length) : ∃ g, x = some ⟨g, 0, none⟩ ∧ g < B ∧ ∃ o m n a y l c, w.cell? ⟨g, i * 7, none⟩ = some (.string (qs[i]).name) ∧ w.cell? ⟨g, i * 7 + 1, none⟩ = some (.string o) ∧ w.cell? ⟨g, i * 7 + 2, none⟩ = some (.string m) ∧ w.cell? ⟨g, i * 7 + 3, none⟩ = some (.int .i64 n) ∧ w.cell? ⟨g, i * 7 + 4, none⟩ = some (.int .i64 a) ∧ w.cell? ⟨g, i * 7 + 5, none⟩ = some (.slice y l c) ∧ IsP (fun k => k < B) w o m n a y l c (qs[i]).e := by
  obtain ⟨e0, g, hg⟩ := id h
  obtain ⟨e1, e2, _, _⟩ := hg (by omega)
  obtain ⟨o, m, n, a, y, l, c, hc, hv⟩ := h.cells e1 i hi
  exact ⟨g, e1, e2, o, m, n, a, y, l, c, hc 0 _ rfl, hc 1 _ rfl, hc 2 _ rfl, hc 3 _ rfl, hc 4 _ rfl, hc 5 _ rfl, hv⟩
set_option maxHeartbeats 4000000 in
set_option maxRecDepth 100000 in
theorem awake_any (w : World) (hT : STab w) : Calls Tryz.prog 6 #[] w fun e w' => e = .returned (.bool true) ∧ Below w.heap.size w w' := by
  obtain ⟨nd, q, hp, e1, e2, e3, e4, e5, e6⟩ := one_facts
  have hpf := (parse_fine hp).1
  have hqf : FineE q.e := (hpf nd (by simp)).ex q (by rw [e2]; simp)
  have kp := parse_ok hp w (by decide) hT
  clear hp
  have HT := Lib.hid hT
  have HPF := Lib.hid hpf
  have HQF := Lib.hid hqf
  have KP := Lib.hid kp
  have E1 := Lib.hid e1
  have E2 := Lib.hid e2
  have E3 := Lib.hid e3
  have E4 := Lib.hid e4
  have E5 := Lib.hid e5
  have E6 := Lib.hid e6
  have HSF := Lib.hid size_fault2
  clear hT hpf hqf kp e1 e2 e3 e4 e5 e6
  go_enter Tryz.func6, Tryz.ntmps6
  go_wp2_with fail
  (with_reducible refine (one_any _).mono ?_)
  rintro e w' ⟨rfl, rfl⟩
  go_wp2_with fail
  (with_reducible refine KP.out.mono ?_)
  rintro e w2 ⟨x, c, rfl, hv, hb⟩
  obtain ⟨g, rfl, hg, xi, xo, xl, xe, ni, no, nl, ne, ci, co, cl, ce, q0, q1, q2, q3, q4, hnv⟩ := hv.first
  have hev := hnv.eqs
  rw [E2.out] at hev
  have hne : ne = 1 := hev.1
  subst hne
  obtain ⟨ge, rfl, hge, o, m, n, a, y, l, d, p0, p1, p2, p3, p4, p5, hip⟩ := hev.at_ 0 (by simp)
  simp only [Nat.zero_mul, Nat.zero_add] at p0 p1 p2 p3 p4 p5
  rw [E1.out] at q0
  have hn1 : (List.length [nd]) = 1 := rfl
  have hb3 : Below w2.heap.size w2 (w2.alloc (.cells #[.int .i64 0, .int .i64 0] 26)) := (Below.refl _ _).alloc (Nat.le_refl _) _
  have HN3 := Lib.hid (heap_alloc_new w2 (.cells #[.int .i64 0, .int .i64 0] 26))
  have HB3 := Lib.hid hb3
  have HB2 := Lib.hid hb
  have HV := Lib.hid hv
  have HIP : Hid (IsP (fun k => k < w2.heap.size) w2 o m n a y l d q.e) := Lib.hid hip
  have HT2 := Lib.hid (HT.out.below hb)
  have HC := Lib.hid (And.intro q0 (And.intro q4 (And.intro p1 (And.intro p2 (And.intro p3 (And.intro p4 p5))))))
  clear hb3 hb hv hnv hev hip q0 q1 q2 q3 q4 p0 p1 p2 p3 p4 p5 KP
  go_wp2_with (first
    | (
       refine wpList_store_row rfl 26 (.tmp 2) (.tmp 7) rfl w2.heap.size #[.int .i64 0, .int .i64 0] rfl rfl 26 _ HN3.out HSF.out rfl (fault_one _ _) ?_
       have hset := setRow_heap _ w2.heap.size _ #[.int .i64 0, .int .i64 0] _ _ HN3.out
       have hbs := below_setRow HB3.out (Nat.le_refl _) #[.int .i64 0, .int .i64 0]
       generalize (w2.alloc (.cells #[.int .i64 0, .int .i64 0] 26)).setRow w2.heap.size #[.int .i64 0, .int .i64 0] = w3 at hset hbs ⊢
       have HL := Lib.hid hset
       have HW3 := Lib.hid hbs
       have q0 := cell_low hbs hg HC.out.1
       have q4 := cell_low hbs hg HC.out.2.1
       have p1 := cell_low hbs hge HC.out.2.2.1
       have p2 := cell_low hbs hge HC.out.2.2.2.1
       have p3 := cell_low hbs hge HC.out.2.2.2.2.1
       have p4 := cell_low hbs hge HC.out.2.2.2.2.2.1
       have p5 := cell_low hbs hge HC.out.2.2.2.2.2.2
       clear hset hbs)
    | (refine wpList_load_row rfl 26 (.tmp 2) rfl w2.heap.size rfl 26 #[.int .i64 0, .int .i64 0] (0, 0) _ HL.out Tryz.underlying26 rfl HSF.out ?_))
  have kt := text_at HT2.out (Nat.le_refl _) HW3.out HIP.out HQF.out E3.out (by decide)
  (with_reducible refine kt.mono ?_)
  rintro e w4 ⟨rfl, hb4⟩
  have HW4 := Lib.hid (HW3.out.trans (hb4.mono HW3.out.size))
  clear hb4 kt q0 q4 p1 p2 p3 p4 p5
  go_wp2_with fail
  have ks := show_at HT2.out (Nat.le_refl _) HW4.out (n := 1) HV.out (c := c) HPF.out (by decide) E4.out (by decide)
  (with_reducible refine ks.mono ?_)
  rintro e w5 ⟨rfl, hb5⟩
  have HW5 := Lib.hid (HW4.out.trans (hb5.mono HW4.out.size))
  clear hb5 ks
  go_wp2_with fail
  have ka := same_at (Nat.le_refl _) HW5.out (n1 := 1) (n2 := 1) HV.out HV.out (c1 := c) (c2 := c) HPF.out HPF.out (by decide) (by decide) E5.out
  (with_reducible refine ka.mono ?_)
  rintro e w6 ⟨rfl, hb6⟩
  have HW6 := Lib.hid (HW5.out.trans (hb6.mono HW5.out.size))
  clear hb6 ka
  go_wp2_with fail
  have kn := same_at (Nat.le_refl _) HW6.out (n1 := 1) HV.out (NodesV.nil w2 w2.heap.size) (c1 := c) (c2 := 0) HPF.out (fun _ h => by cases h) (by decide) (by decide) E6.out
  (with_reducible refine kn.mono ?_)
  rintro e w7 ⟨rfl, hb7⟩
  have HW7 := Lib.hid (HW6.out.trans (hb7.mono HW6.out.size))
  clear hb7 kn
  go_wp2_with fail
  go_ret
  exact ⟨rfl, HB2.out.trans (HW7.out.mono HB2.out.size)⟩
end Go.Proofs.YtjlnihennlkmpaaGreatDoor

namespace Go.Proofs.YtjlnihennlkmpaaGreatDoor
open Go Go.RowKit
theorem runLen_append (p : Nat → Bool) : ∀ (A r : List UInt8), (∀ c ∈ A, p c.toNat = true) → (r = [] ∨ ∃ c t, r = c :: t ∧ p c.toNat = false) → runLen p (A ++ r) = A.length
  | [], r, _, hr => by
    rcases hr with rfl | ⟨c, t, rfl, h⟩
    · rfl
    · unfold runLen; rw [List.nil_append, List.takeWhile_cons, if_neg (by rw [h]; decide)]
  | a :: A, r, hA, hr => by
    have ih := runLen_append p A r (fun c hc => hA c (by simp [hc])) hr
    unfold runLen at ih ⊢
    rw [List.cons_append, List.takeWhile_cons, if_pos (hA a (by simp)), List.length_cons, ih, List.length_cons]
theorem headD_append (A r : List UInt8) (h : A ≠ []) : (A ++ r).headD 0 = A.headD 0 := by
  cases A with
  | nil => exact absurd rfl h
  | cons a A => rfl
theorem firstW_name (A r : List UInt8) (hne : A ≠ []) (hh : isL (A.headD 0).toNat = true) (hA : ∀ c ∈ A, isN c.toNat = true) (hr : r = [] ∨ ∃ c t, r = c :: t ∧ isN c.toNat = false) (h24 : A.length ≤ 24) :
    firstW (A ++ r) = (if keptB A = true then 2 else 1, A.length, 0) := by
  unfold firstW
  rw [headD_append A r hne, if_pos hh, runLen_append isN A r hA hr, if_neg (by omega), List.take_left' rfl]
  split <;> rfl
theorem blank_big (c : UInt8) (h : 33 ≤ c.toNat) : ¬ BLANKS.contains c = true := by
  intro hb
  simp only [BLANKS, List.contains_cons, List.contains_nil, Bool.or_false, Bool.or_eq_true, beq_iff_eq] at hb
  rcases hb with rfl | rfl | rfl | rfl <;> revert h <;> decide
theorem isL_iff (n : Nat) : isL n = true ↔ 97 ≤ n ∧ n ≤ 122 := by unfold isL; simp
theorem isD_iff (n : Nat) : isD n = true ↔ 48 ≤ n ∧ n ≤ 57 := by unfold isD; simp
theorem gapL_word (c : UInt8) (r : List UInt8) (h : 46 ≤ c.toNat) : gapL (c :: r) = 0 := by
  refine gapL_none c r (blank_big c (by omega)) ?_
  unfold Lib.hasPrefix
  have hc : ((45 : UInt8) == c) = false := by
    rw [beq_eq_false_iff_ne]
    rintro rfl
    revert h; decide
  rw [List.isPrefixOf, hc, Bool.false_and]
end Go.Proofs.YtjlnihennlkmpaaGreatDoor

namespace Go.Proofs.YtjlnihennlkmpaaGreatDoor
open Go Go.RowKit
def foldD (a : Nat) (l : List UInt8) : Nat := l.foldl (fun a c => 10 * a + (c.toNat - 48)) a
theorem foldD_nil (a : Nat) : foldD a [] = a := rfl
theorem foldD_cons (a : Nat) (c : UInt8) (r : List UInt8) : foldD a (c :: r) = foldD (10 * a + (c.toNat - 48)) r := by unfold foldD; rw [List.foldl_cons]
theorem foldD_lo : ∀ (l : List UInt8) (a : Nat), a * 10 ^ l.length ≤ foldD a l
  | [], a => by rw [foldD_nil]; simp
  | c :: r, a => by
    have h := foldD_lo r (10 * a + (c.toNat - 48))
    rw [foldD_cons, List.length_cons]
    refine Nat.le_trans ?_ h
    rw [Nat.pow_succ, Nat.add_mul]
    have e : a * (10 ^ r.length * 10) = 10 * a * 10 ^ r.length := by rw [Nat.mul_comm (10 ^ r.length) 10, ← Nat.mul_assoc, Nat.mul_comm a 10]
    omega
theorem foldD_snoc (l : List UInt8) (a : Nat) (c : UInt8) : foldD a (l ++ [c]) = 10 * foldD a l + (c.toNat - 48) := by unfold foldD; rw [List.foldl_append]; rfl
theorem foldD_ge (l : List UInt8) (a : Nat) : a ≤ foldD a l := Nat.le_trans (Nat.le_mul_of_pos_right _ (Nat.pow_pos (by decide))) (foldD_lo l a)
theorem parseM_digits : ∀ (l : List UInt8) (a : Nat), (∀ c ∈ l, isD c.toNat = true) → a ≤ 18446744073709551615 →
    Lib.parseUintM 18446744073709551615 a l = if foldD a l ≤ 18446744073709551615 then .ok (foldD a l) else .range
  | [], a, _, ha => by rw [Lib.parseUintM, foldD_nil, if_pos ha]
  | c :: r, a, hd, ha => by
    have hc := (isD_iff _).1 (hd c (by simp))
    rw [Lib.parseUintM, if_pos hc, foldD_cons]
    have e : a * 10 + (c.toNat - 48) = 10 * a + (c.toNat - 48) := by omega
    have hge := foldD_ge r (10 * a + (c.toNat - 48))
    rw [e]
    by_cases h1 : 1844674407370955162 ≤ a
    · rw [if_pos h1, if_neg (by omega)]
    · rw [if_neg h1]
      by_cases h2 : 18446744073709551615 < 10 * a + (c.toNat - 48)
      · rw [if_pos h2, if_neg (by omega)]
      · rw [if_neg h2]
        exact parseM_digits r _ (fun x hx => hd x (by simp [hx])) (by omega)
theorem parse_digits (l : List UInt8) (hne : l ≠ []) (hd : ∀ c ∈ l, isD c.toNat = true) : Lib.parseIntB 64 l = if foldD 0 l < 9223372036854775808 then .ok (foldD 0 l : Int) else .range := by
  obtain ⟨c, r, rfl⟩ := List.exists_cons_of_ne_nil hne
  have hc := (isD_iff _).1 (hd c (by simp))
  have hm : Lib.parseUintB 64 (c :: r) = if foldD 0 (c :: r) ≤ 18446744073709551615 then .ok (foldD 0 (c :: r)) else .range := by
    unfold Lib.parseUintB
    rw [if_neg hne]
    exact parseM_digits (c :: r) 0 hd (by decide)
  rw [Lib.parseIntB_plain 64 c r (by omega) (by omega), hm]
  by_cases h1 : foldD 0 (c :: r) ≤ 18446744073709551615
  · rw [if_pos h1]
    by_cases h2 : foldD 0 (c :: r) < 9223372036854775808
    · rw [if_pos h2]; simp [Lib.signlessC]; omega
    · rw [if_neg h2]; simp [Lib.signlessC]; omega
  · rw [if_neg h1, if_neg (by omega)]; rfl
/-- A number's digits. -/
def textN (n : Nat) : List UInt8 := if n < 10 then [(48 + n).toUInt8] else textN (n / 10) ++ [(48 + n % 10).toUInt8]
termination_by n
decreasing_by omega
theorem textN_small (n : Nat) (h : n < 10) : textN n = [(48 + n).toUInt8] := by rw [textN, if_pos h]
theorem textN_big (n : Nat) (h : ¬ n < 10) : textN n = textN (n / 10) ++ [(48 + n % 10).toUInt8] := by rw [textN, if_neg h]
theorem digit_nat (n : Nat) (h : n < 10) : ((48 + n).toUInt8).toNat = 48 + n := by simp; omega
theorem digit_is (n : Nat) (h : n < 10) : isD ((48 + n).toUInt8).toNat = true := by rw [digit_nat n h, isD_iff]; omega
theorem textN_spec : ∀ (f n : Nat), n < f → (∀ c ∈ textN n, isD c.toNat = true) ∧ foldD 0 (textN n) = n ∧ textN n ≠ [] ∧ (0 < n → textN n ≠ [] ∧ (textN n).headD 0 ≠ 48)
  | 0, n, h => by omega
  | f + 1, n, h => by
    by_cases hn : n < 10
    · rw [textN_small n hn]
      have hd := digit_nat n hn
      refine ⟨fun c hc => ?_, ?_, by simp, fun h0 => ⟨by simp, ?_⟩⟩
      · rw [List.mem_singleton] at hc; subst hc; exact digit_is n hn
      · show 10 * 0 + ((48 + n).toUInt8.toNat - 48) = n
        rw [hd]; omega
      · intro e
        have e2 := congrArg UInt8.toNat e
        rw [show [(48 + n).toUInt8].headD 0 = (48 + n).toUInt8 from rfl, hd] at e2
        rw [show UInt8.toNat 48 = 48 from rfl] at e2
        omega
    · obtain ⟨a, b, c, d⟩ := textN_spec f (n / 10) (by omega)
      have hd := digit_nat (n % 10) (by omega)
      have d := d (by omega)
      rw [textN_big n hn]
      refine ⟨fun x hx => ?_, ?_, by simp, fun h0 => ⟨by simp, ?_⟩⟩
      · rcases List.mem_append.1 hx with h | h
        · exact a x h
        · rw [List.mem_singleton] at h; subst h; exact digit_is _ (by omega)
      · rw [foldD_snoc, b, hd]; omega
      · rw [headD_append _ _ c]; exact d.2
theorem textN_digits (n : Nat) : ∀ c ∈ textN n, isD c.toNat = true := (textN_spec (n + 1) n (by omega)).1
theorem textN_fold (n : Nat) : foldD 0 (textN n) = n := (textN_spec (n + 1) n (by omega)).2.1
theorem textN_ne (n : Nat) : textN n ≠ [] := (textN_spec (n + 1) n (by omega)).2.2.1
theorem textN_head (n : Nat) (h : 1 < (textN n).length) : (textN n).headD 0 ≠ 48 := by
  by_cases h0 : 0 < n
  · exact ((textN_spec (n + 1) n (by omega)).2.2.2 h0).2
  · obtain rfl : n = 0 := by omega
    rw [textN_small 0 (by decide)] at h
    simp at h
theorem firstW_number (A r : List UInt8) (hne : A ≠ []) (hA : ∀ c ∈ A, isD c.toNat = true) (hr : r = [] ∨ ∃ c t, r = c :: t ∧ isD c.toNat = false) (h0 : 1 < A.length → A.headD 0 ≠ 48) (hf : foldD 0 A < 9223372036854775808) :
    firstW (A ++ r) = (3, A.length, (foldD 0 A : Int)) := by
  have hh : isD (A.headD 0).toNat = true := by
    obtain ⟨c, t, rfl⟩ := List.exists_cons_of_ne_nil hne
    exact hA c (by simp)
  have hh' := (isD_iff _).1 hh
  have hl : ¬ isL (A.headD 0).toNat = true := by rw [isL_iff]; omega
  unfold firstW
  rw [headD_append A r hne, if_neg hl, if_pos hh, runLen_append isD A r hA hr, if_neg (fun h => h0 h.1 h.2), List.take_left' rfl, parse_digits A hne hA, if_pos hf]
end Go.Proofs.YtjlnihennlkmpaaGreatDoor

namespace Go.Proofs.YtjlnihennlkmpaaGreatDoor
open Go Go.RowKit
/-- A word's kind, text, number. -/
abbrev W3 := Nat × List UInt8 × Int
/-- This text is cut into these words, the end among them. -/
def LexN (l : List UInt8) (ws : List W3) : Prop := ∀ (f at_ : Nat), l.length < f → ∃ d, cutF f l at_ = .ok d ∧ d.map (fun x => (x.1, (l.drop (x.2.2.2 - at_)).take x.2.1, x.2.2.1)) = ws ∧ ∀ x ∈ d, at_ ≤ x.2.2.2
theorem LexN.nil : LexN [] [(0, [], 0)] := fun f at_ h => by
  cases f with
  | zero => simp at h
  | succ f => exact ⟨_, cutF_end f at_, rfl, fun x hx => by simp only [List.mem_cons, List.not_mem_nil, or_false] at hx; rw [hx]; exact Nat.le_refl _⟩
theorem LexN.cons {A R r : List UInt8} {ws : List W3} (k : Nat) (v : Int) (hne : A ≠ []) (hw : firstW (A ++ R) = (k, A.length, v)) (hk0 : k ≠ 0) (hr : R.drop (gapL R) = r) (h : LexN r ws) : LexN (A ++ R) ((k, A, v) :: ws) := fun f at_ hf => by
  cases f with
  | zero => omega
  | succ f =>
    have hl : 0 < A.length := List.length_pos_iff.2 hne
    have hrl : r.length < (A ++ R).length := by
      rw [← hr]
      simp only [List.length_drop, List.length_append]
      omega
    obtain ⟨d, hd, hm, hle⟩ := h f (at_ + A.length + gapL R) (by omega)
    have e0 : (A ++ R).drop A.length = R := List.drop_left' rfl
    refine ⟨(k, A.length, v, at_) :: d, ?_, ?_, ?_⟩
    · unfold cutF
      rw [if_neg (by simp [hne]), hw]
      simp only
      rw [if_neg hk0, e0, hr, hd]
    · simp only [List.map_cons, Nat.sub_self, List.drop_zero, List.cons.injEq]
      refine ⟨by rw [List.take_left' rfl], ?_⟩
      rw [← hm]
      apply List.map_congr_left
      intro x hx
      have hx1 := hle x hx
      have e : (A ++ R).drop (x.2.2.2 - at_) = r.drop (x.2.2.2 - (at_ + A.length + gapL R)) := by
        rw [← hr, ← e0, List.drop_drop, List.drop_drop, e0]
        congr 1
        omega
      rw [e]
    · intro x hx
      rcases List.mem_cons.1 hx with rfl | hx
      · exact Nat.le_refl _
      · have := hle x hx; omega
/-- A word as it is written: and what stands behind it (0: nothing, 1: a blank, 2: a line's end, 3: that and two blanks). -/
structure Tk where
  kind : Nat
  text : List UInt8
  n : Int
  sep : Nat
def Tk.w (t : Tk) : W3 := (t.kind, t.text, t.n)
def sepL : Nat → List UInt8
  | 0 => []
  | 1 => [32]
  | 2 => [10]
  | _ + 3 => [10, 32, 32]
def flatT : List Tk → List UInt8
  | [] => []
  | t :: r => t.text ++ (sepL t.sep ++ flatT r)
theorem flatT_app : ∀ (a b : List Tk), flatT (a ++ b) = flatT a ++ flatT b
  | [], b => rfl
  | t :: r, b => by rw [List.cons_append, flatT, flatT, flatT_app r b]; simp
/-- A name's letters. -/
structure NameL (l : List UInt8) : Prop where
  ne : l ≠ []
  head : isL (l.headD 0).toNat = true
  all : ∀ c ∈ l, isN c.toNat = true
  len : l.length ≤ 24
def GoodK (t : Tk) (b : UInt8) : Prop :=
  ((t.kind = 1 ∧ keptB t.text = false ∨ t.kind = 2 ∧ keptB t.text = true) ∧ NameL t.text ∧ t.n = 0 ∧ (t.sep = 0 → isN b.toNat = false)) ∨
  (t.kind = 3 ∧ (∃ m : Nat, t.text = textN m ∧ t.n = (m : Int) ∧ m < 9223372036854775808) ∧ (t.sep = 0 → isN b.toNat = false)) ∨
  (t.kind = 4 ∧ t.n = 0 ∧ ((∃ c, t.text = [c] ∧ SIGNS.contains c = true ∧ (t.sep = 0 → c ≠ 45 ∧ c ≠ 60 ∧ c ≠ 62)) ∨ TWO.contains t.text = true))
def headT (b : UInt8) : List Tk → UInt8
  | [] => b
  | t :: _ => t.text.headD 0
def okT (b : UInt8) : List Tk → Prop
  | [] => True
  | t :: r => GoodK t (headT b r) ∧ okT b r
theorem headT_app (b : UInt8) (x y : List Tk) : headT b (x ++ y) = headT (headT b y) x := by cases x <;> rfl
theorem okT_app (b : UInt8) : ∀ (x y : List Tk), okT b (x ++ y) ↔ okT (headT b y) x ∧ okT b y
  | [], y => by simp [okT]
  | t :: r, y => by
    rw [List.cons_append, okT, okT, okT_app b r y, headT_app]
    exact ⟨fun ⟨h1, h2, h3⟩ => ⟨⟨h1, h2⟩, h3⟩, fun ⟨⟨h1, h2⟩, h3⟩ => ⟨h1, h2, h3⟩⟩
theorem two_is {l : List UInt8} (h : TWO.contains l = true) : l = [60, 61] ∨ l = [62, 61] ∨ l = [60, 62] ∨ l = [45, 62] := by
  rw [List.contains_iff_mem] at h
  simpa [TWO] using h
theorem sign_is {c : UInt8} (h : SIGNS.contains c = true) : c = 40 ∨ c = 41 ∨ c = 58 ∨ c = 59 ∨ c = 44 ∨ c = 61 ∨ c = 43 ∨ c = 45 ∨ c = 42 ∨ c = 47 ∨ c = 60 ∨ c = 62 := by
  rw [List.contains_iff_mem] at h
  simpa [SIGNS] using h
theorem GoodK.ne {t : Tk} {b : UInt8} (h : GoodK t b) : t.text ≠ [] := by
  rcases h with ⟨_, h, _⟩ | ⟨_, ⟨m, h, _⟩, _⟩ | ⟨_, _, ⟨c, h, _⟩ | h⟩
  · exact h.ne
  · rw [h]; exact textN_ne m
  · rw [h]; simp
  · rcases two_is h with h | h | h | h <;> rw [h] <;> simp
theorem headT_flat : ∀ {r : List Tk}, okT 0 r → (flatT r).headD 0 = headT 0 r
  | [], _ => rfl
  | t :: r, h => by rw [flatT, headD_append _ _ h.1.ne]; rfl
/-- What is behind a name or a number. -/
theorem rest_ok {s : Nat} {r : List Tk} (hr : okT 0 r) (hs : s = 0 → isN (headT 0 r).toNat = false) : sepL s ++ flatT r = [] ∨ ∃ c t, sepL s ++ flatT r = c :: t ∧ isN c.toNat = false := by
  match s with
  | 0 =>
    cases hf : flatT r with
    | nil => exact .inl rfl
    | cons c t =>
      refine .inr ⟨c, t, rfl, ?_⟩
      have h1 := headT_flat hr
      rw [hf] at h1
      have h2 := hs rfl
      rw [← h1] at h2
      exact h2
  | 1 => exact .inr ⟨32, _, rfl, by decide⟩
  | 2 => exact .inr ⟨10, _, rfl, by decide⟩
  | _ + 3 => exact .inr ⟨10, _, rfl, by decide⟩
theorem isD_isN {n : Nat} (h : isN n = false) : isD n = false := by
  unfold isN at h
  cases hd : isD n with
  | false => rfl
  | true => rw [hd] at h; simp at h
theorem gap0 {r : List Tk} (hr : okT 0 r) : gapL (flatT r) = 0 := by
  cases r with
  | nil => rfl
  | cons t r =>
    obtain ⟨h, _⟩ := hr
    rw [flatT]
    rcases h with ⟨_, h, _⟩ | ⟨_, ⟨m, h, _⟩, _⟩ | ⟨_, _, ⟨c, h, h2, h3⟩ | h⟩
    · obtain ⟨c, l, e⟩ := List.exists_cons_of_ne_nil h.ne
      have hh := h.head
      rw [e] at hh ⊢
      have := (isL_iff _).1 hh
      rw [List.cons_append]
      refine gapL_word c _ ?_
      have e2 : ((c :: l).headD 0) = c := rfl
      rw [e2] at this
      omega
    · obtain ⟨c, l, e⟩ := List.exists_cons_of_ne_nil (textN_ne m)
      have hh := textN_digits m c (by rw [e]; simp)
      rw [h, e]
      have := (isD_iff _).1 hh
      rw [List.cons_append]
      exact gapL_word c _ (by omega)
    · rw [h, List.cons_append, List.nil_append]
      unfold gapL
      rw [gapS]
      have hb : ¬ BLANKS.contains c = true := by
        rcases sign_is h2 with rfl | rfl | rfl | rfl | rfl | rfl | rfl | rfl | rfl | rfl | rfl | rfl <;> decide
      rw [if_neg hb, if_neg]
      rintro ⟨e, h4⟩
      match hs : t.sep, h3 with
      | 0, h3 => exact (h3 rfl).1 e
      | 1, _ => rw [hs] at h4; simp [sepL] at h4
      | 2, _ => rw [hs] at h4; simp [sepL] at h4
      | _ + 3, _ => rw [hs] at h4; simp [sepL] at h4
    · rcases two_is h with h | h | h | h <;> rw [h] <;> simp only [List.cons_append, List.nil_append] <;> unfold gapL <;> rw [gapS, if_neg (by decide), if_neg (by simp)]
theorem gap_sepT {s : Nat} {r : List Tk} (hr : okT 0 r) : (sepL s ++ flatT r).drop (gapL (sepL s ++ flatT r)) = flatT r := by
  have h0 := gap0 hr
  unfold gapL at h0
  have e : gapL (sepL s ++ flatT r) = (sepL s).length := by
    match s with
    | 0 => exact h0
    | 1 => show gapS false (32 :: flatT r) = 1; rw [gapS, if_pos (by decide), h0]
    | 2 => show gapS false (10 :: flatT r) = 1; rw [gapS, if_pos (by decide), h0]
    | _ + 3 => show gapS false (10 :: 32 :: 32 :: flatT r) = 3; rw [gapS, if_pos (by decide), gapS, if_pos (by decide), gapS, if_pos (by decide), h0]
  rw [e]
  exact List.drop_left' rfl
theorem firstW_sign {c : UInt8} (h2 : SIGNS.contains c = true) (R : List UInt8) (hR : c = 45 ∨ c = 60 ∨ c = 62 → ∃ x s, R = x :: s ∧ (x = 32 ∨ x = 10)) : firstW ([c] ++ R) = (4, [c].length, 0) := by
  have e1 : (([c] ++ R).headD 0) = c := rfl
  have hl : ¬ isL c.toNat = true := by rcases sign_is h2 with rfl | rfl | rfl | rfl | rfl | rfl | rfl | rfl | rfl | rfl | rfl | rfl <;> decide
  have hd : ¬ isD c.toNat = true := by rcases sign_is h2 with rfl | rfl | rfl | rfl | rfl | rfl | rfl | rfl | rfl | rfl | rfl | rfl <;> decide
  unfold firstW
  rw [e1, if_neg hl, if_neg hd, if_neg, if_pos h2]
  · rfl
  rintro ⟨_, h3⟩
  have key : ∀ x s, R = x :: s → (c = 60 ∧ x = 61 ∨ c = 62 ∧ x = 61 ∨ c = 60 ∧ x = 62 ∨ c = 45 ∧ x = 62) := fun x s e => by
    rw [e] at h3
    have e3 : (([c] ++ (x :: s)).take 2) = [c, x] := rfl
    rw [e3] at h3
    rcases two_is h3 with h | h | h | h <;> simp only [List.cons.injEq, and_true] at h <;> simp [h]
  cases R with
  | nil =>
    have e3 : (([c] ++ ([] : List UInt8)).take 2) = [c] := rfl
    rw [e3] at h3
    rcases two_is h3 with h | h | h | h <;> simp at h
  | cons x s =>
    have k := key x s rfl
    obtain ⟨x', s', e, hx⟩ := hR (by rcases k with k | k | k | k <;> simp [k.1])
    injection e with e _
    subst e
    rcases hx with rfl | rfl <;> simp at k
theorem firstW_two {l : List UInt8} (h : TWO.contains l = true) (R : List UInt8) : firstW (l ++ R) = (4, l.length, 0) := by
  rcases two_is h with rfl | rfl | rfl | rfl <;> (unfold firstW; rw [if_neg (by simp [isL]), if_neg (by simp [isD]), if_pos ⟨by simp, by simp [TWO]⟩]; rfl)
/-- WHAT IS WRITTEN IS CUT INTO ITS WORDS. -/
theorem lexT : ∀ (ts : List Tk), okT 0 ts → LexN (flatT ts) (ts.map Tk.w ++ [(0, [], 0)])
  | [], _ => LexN.nil
  | t :: r, h => by
    obtain ⟨hg, hr⟩ := h
    have ih := lexT r hr
    rw [flatT, List.map_cons, List.cons_append]
    have hne := hg.ne
    rcases hg with ⟨hk, h, hn, hs⟩ | ⟨hk, ⟨m, h, hn, hm⟩, hs⟩ | ⟨hk, hn, hc⟩
    · have hw := firstW_name t.text (sepL t.sep ++ flatT r) h.ne h.head h.all (rest_ok hr hs) h.len
      unfold Tk.w
      rw [hn]
      rcases hk with ⟨hk, hb⟩ | ⟨hk, hb⟩
      · rw [hb] at hw
        rw [hk]
        exact LexN.cons 1 0 hne (by simpa using hw) (by decide) (gap_sepT hr) ih
      · rw [hb] at hw
        rw [hk]
        exact LexN.cons 2 0 hne (by simpa using hw) (by decide) (gap_sepT hr) ih
    · have hw := firstW_number (textN m) (sepL t.sep ++ flatT r) (textN_ne m) (textN_digits m) (by
        rcases rest_ok hr hs with h | ⟨c, s, h1, h2⟩
        · exact .inl h
        · exact .inr ⟨c, s, h1, isD_isN h2⟩) (textN_head m) (by rw [textN_fold]; exact hm)
      rw [textN_fold] at hw
      unfold Tk.w
      rw [hk, hn, h]
      exact LexN.cons 3 m (textN_ne m) hw (by decide) (gap_sepT hr) ih
    · unfold Tk.w
      rw [hk, hn]
      refine LexN.cons 4 0 hne ?_ (by decide) (gap_sepT hr) ih
      rcases hc with ⟨c, hc, h2, h3⟩ | hc
      · rw [hc]
        refine firstW_sign h2 _ fun he => ?_
        match hs : t.sep, h3 with
        | 0, h3 =>
          have := h3 rfl
          rcases he with e | e | e <;> simp [e] at this
        | 1, _ => exact ⟨32, _, rfl, .inl rfl⟩
        | 2, _ => exact ⟨10, _, rfl, .inr rfl⟩
        | _ + 3, _ => exact ⟨10, _, rfl, .inr rfl⟩
      · exact firstW_two hc _
/-- Two lists of words of one text are one. -/
theorem LexN.one {l : List UInt8} {a b : List W3} (h1 : LexN l a) (h2 : LexN l b) : a = b := by
  obtain ⟨d, e1, e2, _⟩ := h1 (l.length + 1) 0 (Nat.lt_succ_self _)
  obtain ⟨d', f1, f2, _⟩ := h2 (l.length + 1) 0 (Nat.lt_succ_self _)
  rw [e1] at f1
  injection f1 with f1
  subst f1
  rw [← e2, ← f2]
end Go.Proofs.YtjlnihennlkmpaaGreatDoor

namespace Go.Proofs.YtjlnihennlkmpaaGreatDoor
open Go Go.RowKit
/-- A name that lex takes. -/
def NmB (s : ByteArray) : Prop := NameL s.data.toList ∧ keptB s.data.toList = false
/-- The trees that Parse hands back. -/
inductive Wf : Ex → Prop where
  | int (m a : Nat) (h : m < 9223372036854775808) : Wf (.mk (bs [105, 110, 116]) ⟨#[]⟩ (m : Int) a [])
  | bool (n : Int) (a : Nat) (h : n = 0 ∨ n = 1) : Wf (.mk (bs [98, 111, 111, 108]) ⟨#[]⟩ n a [])
  | var (nm : ByteArray) (a : Nat) (h : NmB nm) : Wf (.mk (bs [118, 97, 114]) nm 0 a [])
  | call (nm : ByteArray) (a : Nat) (ks : List Ex) (h : NmB nm) (hk : ∀ k ∈ ks, Wf k) : Wf (.mk (bs [99, 97, 108, 108]) nm 0 a ks)
  | un (o : List UInt8) (a : Nat) (x : Ex) (ho : o = [110, 111, 116] ∨ o = [112, 114, 101]) (hx : Wf x) : Wf (.mk (bs o) ⟨#[]⟩ 0 a [x])
  | neg (a : Nat) (x : Ex) (hx : Wf x) : Wf (.mk (bs [110, 101, 103]) ⟨#[]⟩ 0 a [x])
  | two (o : List UInt8) (a : Nat) (x y : Ex) (ho : isInfix o = true) (hx : Wf x) (hy : Wf y) : Wf (.mk (bs o) ⟨#[]⟩ 0 a [x, y])
  | when (nm : ByteArray) (n : Int) (a : Nat) (x : Ex) (h : NmB nm) (hn : n = 0 ∨ n = 1) (hx : Wf x) : Wf (.mk (bs [119, 104, 101, 110]) nm n a [x])
  | ite (a : Nat) (x y z : Ex) (hx : Wf x) (hy : Wf y) (hz : Wf z) : Wf (.mk (bs [105, 102]) ⟨#[]⟩ 0 a [x, y, z])
  | merge (nm : ByteArray) (a : Nat) (x y : Ex) (h : NmB nm) (hx : Wf x) (hy : Wf y) : Wf (.mk (bs [109, 101, 114, 103, 101]) nm 0 a [x, y])
def kw (l : List UInt8) (s : Nat) : Tk := ⟨2, l, 0, s⟩
def sgK (l : List UInt8) (s : Nat) : Tk := ⟨4, l, 0, s⟩
def nmK (l : List UInt8) (s : Nat) : Tk := ⟨1, l, 0, s⟩
def opK (o : List UInt8) : Tk := if isL (o.headD 0).toNat = true then kw o 1 else sgK o 1
def tkC : List (Nat → List Tk) → List Tk
  | [] => []
  | [t] => t 0
  | t :: r => t 0 ++ sgK [44] 1 :: tkC r
/-- An expression's words as they are written, out of its kids'; s: what stands behind the last. -/
def tkOp (o m : List UInt8) (n : Int) (ts : List ((Nat → List Tk) × (Nat → List Tk))) (s : Nat) : List Tk :=
  let k := fun i => (ts.getD i (fun _ => [], fun _ => [])).1
  let p := fun i => (ts.getD i (fun _ => [], fun _ => [])).2
  if o = [105, 110, 116] then [⟨3, Lib.itoa n, n, s⟩]
  else if o = [98, 111, 111, 108] then [kw (if n = 0 then [102, 97, 108, 115, 101] else [116, 114, 117, 101]) s]
  else if o = [118, 97, 114] then [nmK m s]
  else if o = [99, 97, 108, 108] then nmK m 0 :: sgK [40] 0 :: (tkC (ts.map (·.1)) ++ [sgK [41] s])
  else if o = [110, 111, 116] ∨ o = [112, 114, 101] then sgK [40] 0 :: kw o 1 :: (k 0 0 ++ [sgK [41] s])
  else if o = [110, 101, 103] then sgK [40] 0 :: sgK [45] 1 :: (k 0 0 ++ [sgK [41] s])
  else if isInfix o = true then sgK [40] 0 :: (k 0 1 ++ opK o :: (k 1 0 ++ [sgK [41] s]))
  else if o = [119, 104, 101, 110] then sgK [40] 0 :: (k 0 1 ++ kw [119, 104, 101, 110] 1 :: ((if n = 0 then [kw [110, 111, 116] 1] else []) ++ [nmK m 0, sgK [41] s]))
  else if o = [105, 102] then sgK [40] 0 :: kw [105, 102] 1 :: (k 0 1 ++ kw [116, 104, 101, 110] 1 :: (k 1 1 ++ kw [101, 108, 115, 101] 1 :: (k 2 0 ++ [sgK [41] s])))
  else if o = [109, 101, 114, 103, 101] then sgK [40] 0 :: kw [109, 101, 114, 103, 101] 1 :: nmK m 1 :: (p 0 1 ++ (p 1 0 ++ [sgK [41] s]))
  else []
/-- As a merge writes it. -/
def tkPr (e : Ex) (t : Nat → List Tk) (s : Nat) : List Tk := match e with
  | .mk op nm _ _ _ => if op.data.toList = [118, 97, 114] then [sgK [40] 0, nmK nm.data.toList 0, sgK [41] s] else t s
mutual
def tkE : Ex → Nat → List Tk
  | .mk op nm n _ kids => tkOp op.data.toList nm.data.toList n (tkL kids)
def tkL : List Ex → List ((Nat → List Tk) × (Nat → List Tk))
  | [] => []
  | e :: r => (tkE e, tkPr e (tkE e)) :: tkL r
end
def tkP (e : Ex) : Nat → List Tk := tkPr e (tkE e)
theorem tkP_mk (op nm : ByteArray) (n : Int) (a : Nat) (ks : List Ex) (s : Nat) : tkP (.mk op nm n a ks) s = if op.data.toList = [118, 97, 114] then [sgK [40] 0, nmK nm.data.toList 0, sgK [41] s] else tkE (.mk op nm n a ks) s := rfl
theorem primOf_mk (op nm : ByteArray) (n : Int) (a : Nat) (ks : List Ex) (t : List UInt8) : primOf (.mk op nm n a ks) t = if op.data.toList = [118, 97, 114] then lp ++ nm.data.toList ++ rp else t := rfl
/-- Arguments' words. -/
def tkA (ks : List Ex) : List Tk := tkC (ks.map tkE)
theorem tkL_fst : ∀ ks : List Ex, (tkL ks).map (·.1) = ks.map tkE
  | [] => rfl
  | e :: r => by rw [tkL, List.map_cons, List.map_cons, tkL_fst r]
theorem textL_fst : ∀ ks : List Ex, (textL ks).map (·.1) = ks.map textE
  | [] => rfl
  | e :: r => by rw [textL, List.map_cons, List.map_cons, textL_fst r]
theorem infix_is {o : List UInt8} (h : isInfix o = true) : o = [43] ∨ o = [45] ∨ o = [42] ∨ o = [47] ∨ o = [109, 111, 100] ∨ o = [61] ∨ o = [60, 62] ∨ o = [60] ∨ o = [60, 61] ∨ o = [62] ∨ o = [62, 61] ∨ o = [97, 110, 100] ∨ o = [111, 114] ∨ o = [120, 111, 114] ∨ o = [45, 62] ∨ o = [102, 98, 121] := by
  unfold isInfix at h
  rw [List.contains_iff_mem] at h
  simpa using h
section
variable (nm : ByteArray) (a s : Nat) (x y z : Ex) (ks : List Ex) (n : Int)
theorem tk_int : tkE (.mk (bs [105, 110, 116]) nm n a ks) s = [⟨3, Lib.itoa n, n, s⟩] := by rw [tkE]; rfl
theorem tk_bool : tkE (.mk (bs [98, 111, 111, 108]) nm n a ks) s = [kw (if n = 0 then [102, 97, 108, 115, 101] else [116, 114, 117, 101]) s] := by rw [tkE]; rfl
theorem tk_var : tkE (.mk (bs [118, 97, 114]) nm n a ks) s = [nmK nm.data.toList s] := by rw [tkE]; rfl
theorem tk_call : tkE (.mk (bs [99, 97, 108, 108]) nm n a ks) s = nmK nm.data.toList 0 :: sgK [40] 0 :: (tkA ks ++ [sgK [41] s]) := by
  rw [tkE]; unfold tkA; rw [← tkL_fst]; rfl
theorem tk_un (o : List UInt8) (ho : o = [110, 111, 116] ∨ o = [112, 114, 101]) : tkE (.mk (bs o) nm n a [x]) s = sgK [40] 0 :: kw o 1 :: (tkE x 0 ++ [sgK [41] s]) := by
  rw [tkE, tkL]
  rcases ho with rfl | rfl <;> rfl
theorem tk_neg : tkE (.mk (bs [110, 101, 103]) nm n a [x]) s = sgK [40] 0 :: sgK [45] 1 :: (tkE x 0 ++ [sgK [41] s]) := by rw [tkE, tkL]; rfl
theorem tk_two (o : List UInt8) (ho : isInfix o = true) : tkE (.mk (bs o) nm n a [x, y]) s = sgK [40] 0 :: (tkE x 1 ++ opK o :: (tkE y 0 ++ [sgK [41] s])) := by
  rw [tkE, tkL, tkL]
  rcases infix_is ho with rfl | rfl | rfl | rfl | rfl | rfl | rfl | rfl | rfl | rfl | rfl | rfl | rfl | rfl | rfl | rfl <;> rfl
theorem tk_when : tkE (.mk (bs [119, 104, 101, 110]) nm n a [x]) s = sgK [40] 0 :: (tkE x 1 ++ kw [119, 104, 101, 110] 1 :: ((if n = 0 then [kw [110, 111, 116] 1] else []) ++ [nmK nm.data.toList 0, sgK [41] s])) := by rw [tkE, tkL]; rfl
theorem tk_ite : tkE (.mk (bs [105, 102]) nm n a [x, y, z]) s = sgK [40] 0 :: kw [105, 102] 1 :: (tkE x 1 ++ kw [116, 104, 101, 110] 1 :: (tkE y 1 ++ kw [101, 108, 115, 101] 1 :: (tkE z 0 ++ [sgK [41] s]))) := by rw [tkE, tkL, tkL, tkL]; rfl
theorem tk_merge : tkE (.mk (bs [109, 101, 114, 103, 101]) nm n a [x, y]) s = sgK [40] 0 :: kw [109, 101, 114, 103, 101] 1 :: nmK nm.data.toList 1 :: (tkP x 1 ++ (tkP y 0 ++ [sgK [41] s])) := by rw [tkE, tkL, tkL]; rfl
theorem tx_int : textE (.mk (bs [105, 110, 116]) nm n a ks) = Lib.itoa n := by rw [textE]; rfl
theorem tx_bool : textE (.mk (bs [98, 111, 111, 108]) nm n a ks) = Lib.formatBool (n != 0) := by rw [textE]; rfl
theorem tx_var : textE (.mk (bs [118, 97, 114]) nm n a ks) = nm.data.toList := by rw [textE]; rfl
theorem tx_call : textE (.mk (bs [99, 97, 108, 108]) nm n a ks) = nm.data.toList ++ lp ++ commas (ks.map textE) ++ rp := by
  rw [textE, ← textL_fst]; rfl
theorem tx_un (o : List UInt8) (ho : o = [110, 111, 116] ∨ o = [112, 114, 101]) : textE (.mk (bs o) nm n a [x]) = lp ++ o ++ sp ++ textE x ++ rp := by
  rw [textE, textL]
  rcases ho with rfl | rfl <;> rfl
theorem tx_neg : textE (.mk (bs [110, 101, 103]) nm n a [x]) = lp ++ [45] ++ sp ++ textE x ++ rp := by rw [textE, textL]; rfl
theorem tx_two (o : List UInt8) (ho : isInfix o = true) : textE (.mk (bs o) nm n a [x, y]) = lp ++ textE x ++ (sp ++ o ++ sp) ++ textE y ++ rp := by
  rw [textE, textL, textL]
  rcases infix_is ho with rfl | rfl | rfl | rfl | rfl | rfl | rfl | rfl | rfl | rfl | rfl | rfl | rfl | rfl | rfl | rfl <;> rfl
theorem tx_when : textE (.mk (bs [119, 104, 101, 110]) nm n a [x]) = lp ++ textE x ++ ((whenT (n == 0)).data.toList ++ nm.data.toList ++ rp) := by rw [textE, textL]; rfl
theorem tx_ite : textE (.mk (bs [105, 102]) nm n a [x, y, z]) = lp ++ [105, 102, 32] ++ textE x ++ [32, 116, 104, 101, 110, 32] ++ textE y ++ [32, 101, 108, 115, 101, 32] ++ textE z ++ rp := by rw [textE, textL, textL, textL]; rfl
theorem tx_merge : textE (.mk (bs [109, 101, 114, 103, 101]) nm n a [x, y]) = [40, 109, 101, 114, 103, 101, 32] ++ nm.data.toList ++ sp ++ primOf x (textE x) ++ sp ++ primOf y (textE y) ++ rp := by rw [textE, textL, textL]; rfl
end
theorem dec_eq : ∀ (f n : Nat), n < f → Lib.decDigits n = textN n
  | 0, n, h => by omega
  | f + 1, n, h => by
    by_cases hn : n < 10
    · rw [Lib.decDigits, dif_pos hn, textN_small n hn]
    · rw [Lib.decDigits, dif_neg hn, textN_big n hn, dec_eq f (n / 10) (by omega)]
theorem itoa_text (m : Nat) : Lib.itoa (m : Int) = textN m := by rw [Lib.itoa_nonneg]; exact dec_eq (m + 1) m (by omega)
theorem bool_text (b : Bool) : Lib.formatBool b = if b = true then [116, 114, 117, 101] else [102, 97, 108, 115, 101] := by cases b <;> rfl
theorem flatT_cons (t : Tk) (r : List Tk) : flatT (t :: r) = t.text ++ (sepL t.sep ++ flatT r) := rfl
/-- ITS WORDS SPELL ITS TEXT. -/
theorem tkP_text {e : Ex} {s : Nat} (h : flatT (tkE e s) = textE e ++ sepL s) : flatT (tkP e s) = primOf e (textE e) ++ sepL s := by
  obtain ⟨op, nm, n, a, ks⟩ := e
  rw [tkP_mk, primOf_mk]
  split
  · simp [flatT, sgK, nmK, sepL, lp, rp]
  · exact h
theorem tkA_text : ∀ (ks : List Ex), (∀ k ∈ ks, ∀ s, flatT (tkE k s) = textE k ++ sepL s) → flatT (tkA ks) = commas (ks.map textE)
  | [], _ => rfl
  | [k], h => by
    have := h k (by simp) 0
    show flatT (tkE k 0) = textE k
    rw [this]; simp [sepL]
  | k :: k2 :: r, h => by
    have h1 := h k (by simp) 0
    have h2 := tkA_text (k2 :: r) (fun x hx => h x (by simp [hx]))
    show flatT (tkE k 0 ++ sgK [44] 1 :: tkA (k2 :: r)) = textE k ++ [44, 32] ++ commas ((k2 :: r).map textE)
    rw [flatT_app, flatT_cons, h1, h2]
    simp [sepL, sgK]
theorem tk_text {e : Ex} (h : Wf e) : ∀ s, flatT (tkE e s) = textE e ++ sepL s := by
  induction h with
  | int m a h => intro s; rw [tk_int, tx_int]; simp [flatT]
  | bool n a h =>
    intro s
    rw [tk_bool, tx_bool, bool_text]
    rcases h with rfl | rfl <;> simp [flatT, kw]
  | var nm a h => intro s; rw [tk_var, tx_var]; simp [flatT, nmK]
  | call nm a ks h hk ih =>
    intro s
    rw [tk_call, tx_call, flatT_cons, flatT_cons, flatT_app, tkA_text ks ih]
    simp [flatT, nmK, sgK, sepL, lp, rp]
  | un o a x ho hx ih => intro s; rw [tk_un _ _ _ _ _ _ ho, tx_un _ _ _ _ _ ho, flatT_cons, flatT_cons, flatT_app, ih]; simp [flatT, kw, sgK, sepL, lp, rp, sp]
  | neg a x hx ih => intro s; rw [tk_neg, tx_neg, flatT_cons, flatT_cons, flatT_app, ih]; simp [flatT, sgK, sepL, lp, rp, sp]
  | two o a x y ho hx hy ihx ihy =>
    intro s
    rw [tk_two _ _ _ _ _ _ _ ho, tx_two _ _ _ _ _ _ ho, flatT_cons, flatT_app, flatT_cons, flatT_app, ihx, ihy]
    unfold opK
    split <;> simp [flatT, kw, sgK, sepL, lp, rp, sp]
  | when nm n a x h hn hx ih =>
    intro s
    rw [tk_when, tx_when, flatT_cons, flatT_app, flatT_cons, ih]
    rcases hn with rfl | rfl
    · rw [if_pos rfl]; simp [flatT, kw, sgK, nmK, sepL, lp, rp, whenT]
    · rw [if_neg (by decide)]; simp [flatT, kw, sgK, nmK, sepL, lp, rp, whenT]
  | ite a x y z hx hy hz ihx ihy ihz =>
    intro s
    rw [tk_ite, tx_ite, flatT_cons, flatT_cons, flatT_app, flatT_cons, flatT_app, flatT_cons, flatT_app, ihx, ihy, ihz]
    simp [flatT, kw, sgK, sepL, lp, rp]
  | merge nm a x y h hx hy ihx ihy =>
    intro s
    rw [tk_merge, tx_merge, flatT_cons, flatT_cons, flatT_cons, flatT_app, flatT_app, tkP_text (ihx 1), tkP_text (ihy 0)]
    simp [flatT, kw, sgK, nmK, sepL, rp, sp]
/-! The words are words. -/
theorem ok_sg (c : UInt8) (s : Nat) (b : UInt8) (h : SIGNS.contains c = true) (h2 : s = 0 → c ≠ 45 ∧ c ≠ 60 ∧ c ≠ 62) : GoodK (sgK [c] s) b := .inr (.inr ⟨rfl, rfl, .inl ⟨c, rfl, h, h2⟩⟩)
theorem ok_nm {nm : ByteArray} (h : NmB nm) (s : Nat) (b : UInt8) (hb : s = 0 → isN b.toNat = false) : GoodK (nmK nm.data.toList s) b := .inl ⟨.inl ⟨rfl, h.2⟩, h.1, rfl, hb⟩
theorem kept_name {l : List UInt8} (h : keptB l = true) : NameL l := by
  have : KEPT.all (fun l => decide (l ≠ []) && isL (l.headD 0).toNat && l.all (fun c => isN c.toNat) && decide (l.length ≤ 24)) = true := by decide +kernel
  have h1 := List.all_eq_true.1 this l (by unfold keptB at h; rwa [List.contains_iff_mem] at h)
  simp only [Bool.and_eq_true, decide_eq_true_eq] at h1
  exact ⟨h1.1.1.1, h1.1.1.2, fun c hc => List.all_eq_true.1 h1.1.2 c hc, h1.2⟩
theorem ok_kw (l : List UInt8) (hk : keptB l = true) (s : Nat) (b : UInt8) (hb : s = 0 → isN b.toNat = false) : GoodK (kw l s) b := .inl ⟨.inr ⟨rfl, hk⟩, kept_name hk, rfl, hb⟩
theorem ok_op {o : List UInt8} (ho : isInfix o = true) (b : UInt8) : GoodK (opK o) b := by
  rcases infix_is ho with rfl | rfl | rfl | rfl | rfl | rfl | rfl | rfl | rfl | rfl | rfl | rfl | rfl | rfl | rfl | rfl <;> first
    | exact ok_sg _ 1 b (by decide) (fun h => by cases h)
    | exact ok_kw _ (by decide) 1 b (fun h => by cases h)
    | exact .inr (.inr ⟨rfl, rfl, .inr (by decide)⟩)
theorem tkP_ok {e : Ex} {s : Nat} {b : UInt8} (hw : Wf e) (h : okT b (tkE e s)) : okT b (tkP e s) := by
  cases hw with
  | var nm a hn =>
    rw [tkP_mk, if_pos (show (bs [118, 97, 114]).data.toList = [118, 97, 114] from rfl)]
    exact ⟨ok_sg 40 0 _ (by decide) (fun _ => by decide), ok_nm hn 0 _ (fun _ => (by decide : isN (41 : UInt8).toNat = false)), ok_sg 41 s b (by decide) (fun _ => by decide), trivial⟩
  | two o a x y ho hx hy =>
    rw [tkP_mk, if_neg]
    · exact h
    · intro e
      have e2 : o = [118, 97, 114] := e
      rw [e2] at ho; cases ho
  | un o a x ho hx =>
    rw [tkP_mk, if_neg]
    · exact h
    · intro e
      have e2 : o = [118, 97, 114] := e
      rw [e2] at ho; revert ho; decide
  | _ =>
    rw [tkP_mk, if_neg (by decide)]
    exact h
theorem tkA_ok : ∀ (ks : List Ex), (∀ k ∈ ks, ∀ s b, (s = 0 → isN b.toNat = false) → okT b (tkE k s)) → okT 41 (tkA ks)
  | [], _ => trivial
  | [k], h => h k (by simp) 0 41 (fun _ => by decide)
  | k :: k2 :: r, h => by
    have h2 := tkA_ok (k2 :: r) (fun x hx => h x (by simp [hx]))
    show okT 41 (tkE k 0 ++ sgK [44] 1 :: tkA (k2 :: r))
    exact (okT_app _ _ _).2 ⟨h k (by simp) 0 _ (fun _ => (by decide : isN (44 : UInt8).toNat = false)), ok_sg 44 1 _ (by decide) (fun _ => by decide), h2⟩
theorem tk_ok {e : Ex} (h : Wf e) : ∀ (s : Nat) (b : UInt8), (s = 0 → isN b.toNat = false) → okT b (tkE e s) := by
  have close : ∀ (s : Nat) (b : UInt8), okT b [sgK [41] s] := fun s b => ⟨ok_sg 41 s b (by decide) (fun _ => by decide), trivial⟩
  have bar : ∀ (b : UInt8), GoodK (sgK [40] 0) b := fun b => ok_sg 40 0 b (by decide) (fun _ => by decide)
  induction h with
  | int m a h => intro s b hb; rw [tk_int, itoa_text]; exact ⟨.inr (.inl ⟨rfl, ⟨m, rfl, rfl, h⟩, hb⟩), trivial⟩
  | bool n a h =>
    intro s b hb
    rw [tk_bool]
    rcases h with rfl | rfl
    · exact ⟨ok_kw _ (by decide) s b hb, trivial⟩
    · exact ⟨ok_kw _ (by decide) s b hb, trivial⟩
  | var nm a h => intro s b hb; rw [tk_var]; exact ⟨ok_nm h s b hb, trivial⟩
  | call nm a ks h hk ih =>
    intro s b hb
    rw [tk_call]
    exact ⟨ok_nm h 0 _ (fun _ => (by decide : isN (40 : UInt8).toNat = false)), bar _, (okT_app _ _ _).2 ⟨tkA_ok ks ih, close s b⟩⟩
  | un o a x ho hx ih =>
    intro s b hb
    rw [tk_un _ _ _ _ _ _ ho]
    exact ⟨bar _, ok_kw _ (by rcases ho with rfl | rfl <;> decide) 1 _ (fun h => by cases h), (okT_app _ _ _).2 ⟨ih 0 _ (fun _ => (by decide : isN (41 : UInt8).toNat = false)), close s b⟩⟩
  | neg a x hx ih =>
    intro s b hb
    rw [tk_neg]
    exact ⟨bar _, ok_sg 45 1 _ (by decide) (fun h => by cases h), (okT_app _ _ _).2 ⟨ih 0 _ (fun _ => (by decide : isN (41 : UInt8).toNat = false)), close s b⟩⟩
  | two o a x y ho hx hy ihx ihy =>
    intro s b hb
    rw [tk_two _ _ _ _ _ _ _ ho]
    exact ⟨bar _, (okT_app _ _ _).2 ⟨ihx 1 _ (fun h => by cases h), ok_op ho _, (okT_app _ _ _).2 ⟨ihy 0 _ (fun _ => (by decide : isN (41 : UInt8).toNat = false)), close s b⟩⟩⟩
  | when nm n a x h hn hx ih =>
    intro s b hb
    rw [tk_when]
    refine ⟨bar _, (okT_app _ _ _).2 ⟨ih 1 _ (fun h => by cases h), ok_kw _ (by decide) 1 _ (fun h => by cases h), ?_⟩⟩
    have ht : okT b [nmK nm.data.toList 0, sgK [41] s] := ⟨ok_nm h 0 _ (fun _ => (by decide : isN (41 : UInt8).toNat = false)), close s b⟩
    split
    · exact ⟨ok_kw _ (by decide) 1 _ (fun h => by cases h), ht⟩
    · exact ht
  | ite a x y z hx hy hz ihx ihy ihz =>
    intro s b hb
    rw [tk_ite]
    exact ⟨bar _, ok_kw _ (by decide) 1 _ (fun h => by cases h), (okT_app _ _ _).2 ⟨ihx 1 _ (fun h => by cases h), ok_kw _ (by decide) 1 _ (fun h => by cases h), (okT_app _ _ _).2 ⟨ihy 1 _ (fun h => by cases h), ok_kw _ (by decide) 1 _ (fun h => by cases h), (okT_app _ _ _).2 ⟨ihz 0 _ (fun _ => (by decide : isN (41 : UInt8).toNat = false)), close s b⟩⟩⟩⟩
  | merge nm a x y h hx hy ihx ihy =>
    intro s b hb
    rw [tk_merge]
    exact ⟨bar _, ok_kw _ (by decide) 1 _ (fun h => by cases h), ok_nm h 1 _ (fun h => by cases h), (okT_app _ _ _).2 ⟨tkP_ok hx (ihx 1 _ (fun h => by cases h)), (okT_app _ _ _).2 ⟨tkP_ok hy (ihy 0 _ (fun _ => (by decide : isN (41 : UInt8).toNat = false))), close s b⟩⟩⟩
end Go.Proofs.YtjlnihennlkmpaaGreatDoor

namespace Go.Proofs.YtjlnihennlkmpaaGreatDoor
open Go Go.RowKit
theorem run_take (p : Nat → Bool) : ∀ (l : List UInt8), l.take (runLen p l) = l.takeWhile fun c => p c.toNat
  | [] => rfl
  | c :: r => by
    have ih := run_take p r
    unfold runLen at *
    rw [List.takeWhile_cons]
    split
    · rw [List.length_cons, List.take_succ_cons, ih]
    · rfl
theorem run_all (p : Nat → Bool) (l : List UInt8) : ∀ c ∈ l.take (runLen p l), p c.toNat = true := by
  rw [run_take]
  intro c hc
  have := List.all_takeWhile (p := fun c : UInt8 => p c.toNat) (l := l)
  exact List.all_eq_true.1 this c hc
/-- What is told of each word. -/
def WordOk (k : Nat) (t : List UInt8) (n : Int) : Prop := (k = 1 → NameL t ∧ keptB t = false) ∧ (k = 3 → ∃ m : Nat, n = (m : Int) ∧ m < 9223372036854775808)
theorem firstW_ok (l : List UInt8) (hl : l ≠ []) : WordOk (firstW l).1 (l.take (firstW l).2.1) (firstW l).2.2 := by
  unfold firstW
  by_cases a : isL (l.headD 0).toNat = true
  · rw [if_pos a]
    have hp := runLen_in isN l
    by_cases h24 : 24 < runLen isN l
    · rw [if_pos h24]; exact ⟨fun h => by simp at h, fun h => by simp at h⟩
    · rw [if_neg h24]
      by_cases hk : keptB (l.take (runLen isN l)) = true
      · rw [if_pos hk]; exact ⟨fun h => by simp at h, fun h => by simp at h⟩
      · rw [if_neg hk]
        refine ⟨fun _ => ⟨?_, by simpa using hk⟩, fun h => by simp at h⟩
        have h1 : 0 < runLen isN l := by
          obtain ⟨c, r, rfl⟩ := List.exists_cons_of_ne_nil hl
          have hc : isN c.toNat = true := by unfold isN; have e : ((c :: r).headD 0) = c := rfl; rw [e] at a; rw [a]; rfl
          unfold runLen
          rw [List.takeWhile_cons, if_pos hc]
          simp
        have hh : (l.take (runLen isN l)).headD 0 = l.headD 0 := by
          obtain ⟨c, r, rfl⟩ := List.exists_cons_of_ne_nil hl
          obtain ⟨m, hm⟩ : ∃ m, runLen isN (c :: r) = m + 1 := ⟨runLen isN (c :: r) - 1, by omega⟩
          rw [hm]; rfl
        exact ⟨by
          intro e
          have e1 : (l.take (runLen isN l)).length = 0 := congrArg List.length e
          rw [List.length_take] at e1
          have e2 := runLen_le isN l
          omega, by show isL ((l.take (runLen isN l)).headD 0).toNat = true; rw [hh]; exact a, run_all isN l, by
          show (l.take (runLen isN l)).length ≤ 24
          rw [List.length_take]; omega⟩
  · rw [if_neg a]
    by_cases b : isD (l.headD 0).toNat = true
    · rw [if_pos b]
      split
      · exact ⟨fun h => by simp at h, fun h => by simp at h⟩
      · have hne : l.take (runLen isD l) ≠ [] := by
          obtain ⟨c, r, rfl⟩ := List.exists_cons_of_ne_nil hl
          have hc : isD c.toNat = true := b
          rw [run_take, List.takeWhile_cons, if_pos hc]
          simp
        rw [parse_digits _ hne (run_all isD l)]
        by_cases hf : foldD 0 (l.take (runLen isD l)) < 9223372036854775808
        · rw [if_pos hf]
          exact ⟨fun h => by simp at h, fun _ => ⟨_, rfl, hf⟩⟩
        · rw [if_neg hf]
          exact ⟨fun h => by simp at h, fun h => by simp at h⟩
    · rw [if_neg b]
      split
      · exact ⟨fun h => by simp at h, fun h => by simp at h⟩
      · split
        · exact ⟨fun h => by simp at h, fun h => by simp at h⟩
        · exact ⟨fun h => by simp at h, fun h => by simp at h⟩
theorem wordOk_end (t : List UInt8) : WordOk 0 t 0 := ⟨fun h => by simp at h, fun h => by simp at h⟩
theorem cutF_ok : ∀ (f : Nat) (l : List UInt8) (a : Nat) (d : List (Nat × Nat × Int × Nat)), cutF f l a = .ok d → ∀ x ∈ d, a ≤ x.2.2.2 ∧ WordOk x.1 ((l.drop (x.2.2.2 - a)).take x.2.1) x.2.2.1
  | 0, l, a, d, h => by simp [cutF] at h
  | f + 1, l, a, d, h => by
    unfold cutF at h
    by_cases hl : l = []
    · rw [if_pos hl] at h
      injection h with h
      subst h
      intro x hx
      simp only [List.mem_cons, List.not_mem_nil, or_false] at hx
      rw [hx]
      exact ⟨Nat.le_refl _, wordOk_end _⟩
    · rw [if_neg hl] at h
      by_cases hk : (firstW l).1 = 0
      · rw [if_pos hk] at h; cases h
      · rw [if_neg hk] at h
        cases hc : cutF f ((l.drop (firstW l).2.1).drop (gapL (l.drop (firstW l).2.1))) (a + (firstW l).2.1 + gapL (l.drop (firstW l).2.1)) with
        | error p => rw [hc] at h; cases h
        | ok t =>
          rw [hc] at h
          injection h with h
          subst h
          intro x hx
          rcases List.mem_cons.1 hx with rfl | hx
          · refine ⟨Nat.le_refl _, ?_⟩
            simp only [Nat.sub_self, List.drop_zero]
            exact firstW_ok l hl
          · obtain ⟨h1, h2⟩ := cutF_ok f _ _ t hc x hx
            refine ⟨by omega, ?_⟩
            have e : l.drop (x.2.2.2 - a) = ((l.drop (firstW l).2.1).drop (gapL (l.drop (firstW l).2.1))).drop (x.2.2.2 - (a + (firstW l).2.1 + gapL (l.drop (firstW l).2.1))) := by
              rw [List.drop_drop, List.drop_drop]
              congr 1
              omega
            rw [e]
            exact h2
/-- All words of a list are words. -/
def OkW (L : List Wd) : Prop := ∀ st, WordOk (cur L st).kind (cur L st).text.data.toList (cur L st).n
theorem words_ok (s : ByteArray) (d : List (Nat × Nat × Int × Nat)) (h : cutAll s.data.toList = .ok d) : OkW (wordsL s d) := by
  intro st
  unfold cur wordsL
  rw [List.getD_eq_getElem?_getD, List.getElem?_map]
  cases hx : d[st.i]? with
  | none => exact wordOk_end _
  | some x =>
    have hm := List.mem_of_getElem? hx
    unfold cutAll at h
    split at h
    · cases h
    · cases hc : cut1 s.data.toList with
      | error p => rw [hc] at h; cases h
      | ok t =>
        rw [hc] at h
        injection h with h
        subst h
        obtain ⟨h1, h2⟩ := cutF_ok _ _ _ _ hc x hm
        show WordOk x.1 (s.extract x.2.2.2 (x.2.2.2 + x.2.1)).data.toList x.2.2.1
        rw [Lib.extract_data]
        rw [List.drop_drop] at h2
        have e : gapL s.data.toList + (x.2.2.2 - gapL s.data.toList) = x.2.2.2 := by omega
        rw [e] at h2
        rw [Nat.add_sub_cancel_left]
        exact h2
section
variable {L : List Wd} {st : St}
theorem fail_ne (e : Nat) (he : e ≠ 0) : ¬ (failS L e st).er = 0 := by
  unfold failS
  split
  · exact he
  · assumption
theorem next_er : (nextS L st).er = st.er := by unfold nextS; split <;> rfl
theorem ask_ok0 {d : Nat} (h : (askS L d st).er = 0) : askS L d st = st ∧ st.er = 0 := by
  unfold askS at *
  split
  · rename_i hd
    rw [if_pos hd] at h
    exact absurd h (fail_ne 2 (by decide))
  · rename_i hd
    rw [if_neg hd] at h
    exact ⟨rfl, h⟩
theorem part_ok0 (h : (partS L st).2.er = 0) : (partS L st).1 = cur L st ∧ (partS L st).2 = nextS L { st with parts := st.parts + 1 } ∧ st.er = 0 := by
  have h1 : (partB L st).er = 0 := by
    have e : (partS L st).2.er = (partB L st).er := next_er
    rwa [e] at h
  have h2 : (partA L st).er = 0 := h1
  have h3 : partA L st = st := by
    unfold partA at h2 ⊢
    split
    · rename_i hp
      rw [if_pos hp] at h2
      exact absurd h2 (fail_ne 2 (by decide))
    · rfl
  have h4 : partB L st = { st with parts := st.parts + 1 } := by unfold partB; rw [h3]
  refine ⟨?_, ?_, by rw [h3] at h2; exact h2⟩
  · show cur L (partB L st) = _
    rw [h4]; rfl
  · show nextS L (partB L st) = _
    rw [h4]
theorem need_ok0 {s : ByteArray} (h : (needS L s st).er = 0) : st.er = 0 ∧ isS L s st = true ∧ needS L s st = nextS L st := by
  unfold needS at *
  split
  · rename_i hs
    rw [if_pos hs] at h
    exact ⟨by rw [← h, next_er], hs, rfl⟩
  · rename_i hs
    rw [if_neg hs] at h
    exact absurd h (fail_ne 7 (by decide))
theorem name_ok0 (hW : OkW L) (h : (nameS L st).2.er = 0) : st.er = 0 ∧ NmB (nameS L st).1 := by
  unfold nameS at *
  split
  · rename_i hs
    rw [if_pos hs] at h
    have hk : (cur L st).kind = 1 := by
      unfold isNameS at hs
      have := eq_of_beq hs
      omega
    exact ⟨by rw [← h]; exact next_er.symm, (hW st).1 hk⟩
  · rename_i hs
    rw [if_neg hs] at h
    have h' : (nextS L (failS L 7 st)).er = 0 := h
    rw [next_er] at h'
    exact absurd h' (fail_ne 7 (by decide))
theorem take_er (s : ByteArray) : (takeS L s st).2.er = st.er := by
  unfold takeS
  split
  · exact next_er
  · rfl
theorem btw_ok0 {ops : List ByteArray} (h : (betweenS L ops st).2.2.er = 0) : st.er = 0 ∧ ((betweenS L ops st).2.1 = true → (betweenS L ops st).1 = cur L st ∧ ∃ o ∈ ops, o = (cur L st).text) := by
  unfold betweenS at *
  by_cases hh : hasS L ops st = true
  · rw [if_pos hh] at *
    have := part_ok0 h
    refine ⟨this.2.2, fun _ => ⟨this.1, ?_⟩⟩
    unfold hasS at hh
    obtain ⟨o, ho, e⟩ := List.any_eq_true.1 hh
    exact ⟨o, ho, bytes_inj (eq_of_beq e)⟩
  · rw [if_neg hh] at *
    exact ⟨h, fun e => by simp at e⟩
end
/-- What is read without a fault is well formed. -/
def WX (f : St → Ex × St) : Prop := ∀ st, (f st).2.er = 0 → st.er = 0 ∧ Wf (f st).1
theorem is_text {L : List Wd} {l : List UInt8} {st : St} (h : isS L (bs l) st = true) : (cur L st).text = bs l := bytes_inj (eq_of_beq h)
theorem argsS_wf (L : List Wd) {f : St → Ex × St} (hf : WX f) : ∀ (k : Nat) (st : St), (argsS L f k st).2.er = 0 → st.er = 0 ∧ ∀ x ∈ (argsS L f k st).1, Wf x
  | 0, st, h => ⟨h, fun x hx => by simp [argsS] at hx⟩
  | k + 1, st, h => by
    unfold argsS at h ⊢
    split
    · rename_i hs
      rw [if_pos hs] at h
      have h1 := argsS_wf L hf k _ h
      have h2 := hf _ h1.1
      refine ⟨by rw [← h2.1]; exact next_er.symm, fun x hx => ?_⟩
      rcases List.mem_cons.1 hx with rfl | hx
      · exact h2.2
      · exact h1.2 x hx
    · rename_i hs
      rw [if_neg hs] at h
      exact ⟨h, fun x hx => by simp at hx⟩
/-- A word between two, and what it makes. -/
theorem two_wf {L : List Wd} {ops : List ByteArray} {st : St} (hops : ∀ o ∈ ops, isInfix o.data.toList = true) {x y : Ex} (hb : (betweenS L ops st).2.1 = true) (he : (betweenS L ops st).2.2.er = 0) (hx : Wf x) (hy : Wf y) : Wf (twoS (betweenS L ops st).1 x y) := by
  obtain ⟨_, h2⟩ := btw_ok0 he
  obtain ⟨h3, o, ho, e⟩ := h2 hb
  unfold twoS
  rw [h3, ← e]
  have := Wf.two o.data.toList (cur L st).at_ x y (hops o ho) hx hy
  have e2 : bs o.data.toList = o := bytes_inj rfl
  rwa [e2] at this
theorem rowL_wf (L : List Wd) {one : St → Ex × St} (hf : WX one) (ops : List ByteArray) (hops : ∀ o ∈ ops, isInfix o.data.toList = true) : ∀ (k : Nat) (e : Ex) (st : St), (st.er = 0 → Wf e) → (rowL L one ops k e st).2.er = 0 → st.er = 0 ∧ Wf (rowL L one ops k e st).1
  | 0, e, st, he, h => ⟨h, he h⟩
  | k + 1, e, st, he, h => by
    unfold rowL at h ⊢
    simp only at h ⊢
    split
    · rename_i hb
      rw [if_pos hb] at h
      have h1 := rowL_wf L hf ops hops k (twoS (betweenS L ops st).1 e (one (betweenS L ops st).2.2).1) (one (betweenS L ops st).2.2).2 (fun h0 => by
        have h2 := hf _ h0
        exact two_wf hops hb h2.1 (he (btw_ok0 h2.1).1) h2.2) h
      exact ⟨(btw_ok0 (hf _ h1.1).1).1, h1.2⟩
    · rename_i hb
      rw [if_neg hb] at h
      have h1 : st.er = 0 := (btw_ok0 h).1
      exact ⟨h1, he h1⟩
theorem rowS_wf (L : List Wd) {one : St → Ex × St} (hf : WX one) (ops : List ByteArray) (hops : ∀ o ∈ ops, isInfix o.data.toList = true) : WX (rowS L one ops) := fun st h => by
  have h1 := rowL_wf L hf ops hops L.length (one st).1 (one st).2 (fun h0 => (hf st h0).2) h
  exact ⟨(hf st h1.1).1, h1.2⟩
theorem whenL_wf (L : List Wd) (hW : OkW L) : ∀ (k : Nat) (e : Ex) (st : St), (st.er = 0 → Wf e) → (whenL L k e st).2.er = 0 → st.er = 0 ∧ Wf (whenL L k e st).1
  | 0, e, st, he, h => ⟨h, he h⟩
  | k + 1, e, st, he, h => by
    unfold whenL at h ⊢
    simp only at h ⊢
    split
    · rename_i hb
      rw [if_pos hb] at h
      have h1 := whenL_wf L hW k _ _ (fun h0 => by
        have h2 := name_ok0 hW h0
        rw [take_er] at h2
        exact Wf.when _ _ _ _ h2.2 (by split <;> simp) (he (btw_ok0 h2.1).1)) h
      have h2 := name_ok0 hW h1.1
      rw [take_er] at h2
      exact ⟨(btw_ok0 h2.1).1, h1.2⟩
    · rename_i hb
      rw [if_neg hb] at h
      have h1 : st.er = 0 := (btw_ok0 h).1
      exact ⟨h1, he h1⟩
structure WNx (nx : Nx) : Prop where
  expr : WX nx.expr
  un : WX nx.un
  prim : WX nx.prim
  fby : WX nx.fby
section
variable {L : List Wd} {nx : Nx} (hW : OkW L) (h : WNx nx)
include hW h
theorem named_wf (st : St) (hk : (cur L st).kind = 1) (he : (namedS L nx st).2.er = 0) : st.er = 0 ∧ Wf (namedS L nx st).1 := by
  unfold namedS at he ⊢
  simp only at he ⊢
  split
  · rename_i hs
    rw [if_pos hs] at he
    have h1 := need_ok0 he
    have hc : (nextS L (partS L st).2).er = 0 ∧ ∀ x ∈ (callS L nx (nextS L (partS L st).2)).1, Wf x := by
      have h2 := h1.1
      unfold callS at h2 ⊢
      split
      · rename_i hp
        rw [if_pos hp] at h2
        exact ⟨h2, fun x hx => by simp at hx⟩
      · rename_i hp
        rw [if_neg hp] at h2
        have h3 := argsS_wf L h.expr _ _ h2
        have h4 := h.expr _ h3.1
        refine ⟨h4.1, fun x hx => ?_⟩
        rcases List.mem_cons.1 hx with rfl | hx
        · exact h4.2
        · exact h3.2 x hx
    have h2 := hc.1
    rw [next_er] at h2
    have h3 := part_ok0 h2
    rw [h3.1]
    exact ⟨h3.2.2, Wf.call _ _ _ ((hW st).1 hk) hc.2⟩
  · rename_i hs
    rw [if_neg hs] at he
    have h3 := part_ok0 he
    rw [h3.1]
    exact ⟨h3.2.2, Wf.var _ _ ((hW st).1 hk)⟩
theorem primB_wf : WX (primB L nx) := fun st he => by
  unfold primB at he ⊢
  simp only at he ⊢
  split
  · rename_i h1
    rw [if_pos h1] at he
    obtain ⟨m, hm, hl⟩ := (hW st).2 h1
    rw [hm]
    exact ⟨(part_ok0 he).2.2, Wf.int _ _ hl⟩
  rename_i h1
  rw [if_neg h1] at he
  split
  · rename_i h2
    rw [if_pos h2] at he
    exact named_wf hW h st h2 he
  rename_i h2
  rw [if_neg h2] at he
  split
  · rename_i h3
    rw [if_pos h3] at he
    exact ⟨(part_ok0 he).2.2, Wf.bool _ _ (.inr rfl)⟩
  rename_i h3
  rw [if_neg h3] at he
  split
  · rename_i h4
    rw [if_pos h4] at he
    exact ⟨(part_ok0 he).2.2, Wf.bool _ _ (.inl rfl)⟩
  rename_i h4
  rw [if_neg h4] at he
  split
  · rename_i h5
    rw [if_pos h5] at he
    unfold bracketedS at he ⊢
    simp only at he ⊢
    have a1 := need_ok0 he
    have a2 := h.expr _ a1.1
    exact ⟨by rw [← a2.1]; exact next_er.symm, a2.2⟩
  rename_i h5
  rw [if_neg h5] at he
  split
  · rename_i h6
    rw [if_pos h6] at he
    unfold choiceS at he ⊢
    simp only at he ⊢
    have a1 := h.expr _ he
    have a2 := need_ok0 a1.1
    have a3 := h.expr _ a2.1
    have a4 := need_ok0 a3.1
    have a5 := h.expr _ a4.1
    have a6 := part_ok0 a5.1
    exact ⟨a6.2.2, Wf.ite _ _ _ _ a5.2 a3.2 a1.2⟩
  rename_i h6
  rw [if_neg h6] at he
  split
  · rename_i h7
    rw [if_pos h7] at he
    unfold mergeS at he ⊢
    simp only at he ⊢
    have a1 := h.prim _ he
    have a2 := h.prim _ a1.1
    have a3 := name_ok0 hW a2.1
    have a4 := part_ok0 a3.1
    exact ⟨a4.2.2, Wf.merge _ _ _ _ a3.2 a2.2 a1.2⟩
  · rename_i h7
    rw [if_neg h7] at he
    exact absurd he (fail_ne 7 (by decide))
theorem primS_wf (d : Nat) : WX (primS L nx d) := fun st he => by
  have h1 := primB_wf hW h _ he
  exact ⟨(ask_ok0 h1.1).2, h1.2⟩
theorem unS_wf (d : Nat) : WX (unS L nx d) := fun st he => by
  unfold unS at he ⊢
  simp only at he ⊢
  split
  · rename_i h1
    rw [if_pos h1] at he
    have a1 := h.un _ he
    have a2 := part_ok0 a1.1
    have a3 := ask_ok0 a2.2.2
    refine ⟨a3.2, ?_⟩
    rw [a2.1]
    rcases h1 with h1 | h1
    · rw [is_text h1]; exact Wf.un _ _ _ (.inl rfl) a1.2
    · rw [is_text h1]; exact Wf.un _ _ _ (.inr rfl) a1.2
  · rename_i h1
    rw [if_neg h1] at he
    split
    · rename_i h2
      rw [if_pos h2] at he
      have a1 := h.un _ he
      have a2 := part_ok0 a1.1
      have a3 := ask_ok0 a2.2.2
      exact ⟨a3.2, Wf.neg _ _ a1.2⟩
    · rename_i h2
      rw [if_neg h2] at he
      have a1 := primS_wf hW h d _ he
      exact ⟨(ask_ok0 a1.1).2, a1.2⟩
theorem fbyS_wf (d : Nat) : WX (fbyS L nx d) := fun st he => by
  have hw := fun h0 => whenL_wf L hW L.length (unS L nx d st).1 (unS L nx d st).2 (fun h1 => (unS_wf hW h d st h1).2) h0
  have hs : (whenS L nx d st).2.er = 0 → st.er = 0 ∧ Wf (whenS L nx d st).1 := fun h0 => ⟨(unS_wf hW h d st (hw h0).1).1, (hw h0).2⟩
  unfold fbyS at he ⊢
  simp only at he ⊢
  split
  · rename_i hb
    rw [if_pos hb] at he
    have a1 := h.fby _ he
    have a2 := hs (btw_ok0 a1.1).1
    exact ⟨a2.1, two_wf (by simp only [List.mem_cons, List.not_mem_nil, or_false]; rintro o rfl; rfl) hb a1.1 a2.2 a1.2⟩
  · rename_i hb
    rw [if_neg hb] at he
    exact hs (btw_ok0 he).1
theorem arrowS_wf (d : Nat) : WX (arrowS L nx d) := fun st he => by
  have ha : WX (addS L nx d) := rowS_wf L (rowS_wf L (fbyS_wf hW h d) _ (by simp only [List.mem_cons, List.not_mem_nil, or_false]; rintro o (rfl | rfl | rfl) <;> rfl)) _ (by simp only [List.mem_cons, List.not_mem_nil, or_false]; rintro o (rfl | rfl) <;> rfl)
  have hc : WX (cmpS L nx d) := fun st he => by
    unfold cmpS at he ⊢
    simp only at he ⊢
    split
    · rename_i hb
      rw [if_pos hb] at he
      have a1 := ha _ he
      have a2 := ha _ (btw_ok0 a1.1).1
      exact ⟨a2.1, two_wf (by simp only [List.mem_cons, List.not_mem_nil, or_false]; rintro o (rfl | rfl | rfl | rfl | rfl | rfl) <;> rfl) hb a1.1 a2.2 a1.2⟩
    · rename_i hb
      rw [if_neg hb] at he
      exact ha _ (btw_ok0 he).1
  have ho : WX (orS L nx d) := rowS_wf L (rowS_wf L hc _ (by simp only [List.mem_cons, List.not_mem_nil, or_false]; rintro o rfl; rfl)) _ (by simp only [List.mem_cons, List.not_mem_nil, or_false]; rintro o (rfl | rfl) <;> rfl)
  unfold arrowS at he ⊢
  simp only at he ⊢
  split
  · rename_i hb
    rw [if_pos hb] at he
    have a1 := h.expr _ he
    have a2 := ho _ (btw_ok0 a1.1).1
    exact ⟨a2.1, two_wf (by simp only [List.mem_cons, List.not_mem_nil, or_false]; rintro o rfl; rfl) hb a1.1 a2.2 a1.2⟩
  · rename_i hb
    rw [if_neg hb] at he
    exact ho _ (btw_ok0 he).1
end
/-- A fault stays. -/
def Stk (f : St → Ex × St) : Prop := ∀ st, st.er ≠ 0 → (f st).2.er = st.er
section
variable {L : List Wd} {st : St}
theorem fail_stk (e : Nat) (h : st.er ≠ 0) : failS L e st = st := by unfold failS; rw [if_neg h]
theorem ask_stk (d : Nat) (h : st.er ≠ 0) : askS L d st = st := by unfold askS; split; exact fail_stk 2 h; rfl
theorem part_stk (h : st.er ≠ 0) : (partS L st).2.er = st.er := by
  show (nextS L (partB L st)).er = _
  rw [next_er]
  show (partA L st).er = _
  unfold partA
  split
  · rw [fail_stk 2 h]
  · rfl
theorem need_stk (s : ByteArray) (h : st.er ≠ 0) : (needS L s st).er = st.er := by
  unfold needS
  split
  · exact next_er
  · rw [fail_stk 7 h]
theorem name_stk (h : st.er ≠ 0) : (nameS L st).2.er = st.er := by
  unfold nameS
  split
  · exact next_er
  · show (nextS L (failS L 7 st)).er = _
    rw [next_er, fail_stk 7 h]
theorem btw_stk (ops : List ByteArray) (h : st.er ≠ 0) : (betweenS L ops st).2.2.er = st.er := by
  unfold betweenS
  split
  · exact part_stk h
  · rfl
end
theorem Stk.then_ {f : St → Ex × St} (hf : Stk f) {st : St} {e : Nat} (he : e ≠ 0) (h : st.er = e) : (f st).2.er = e := by rw [hf st (by rw [h]; exact he), h]
theorem argsS_stk (L : List Wd) {f : St → Ex × St} (hf : Stk f) : ∀ (k : Nat) (st : St), st.er ≠ 0 → (argsS L f k st).2.er = st.er
  | 0, st, h => rfl
  | k + 1, st, h => by
    unfold argsS
    split
    · have h1 : (f (nextS L st)).2.er = st.er := hf.then_ h next_er
      show (argsS L f k (f (nextS L st)).2).2.er = st.er
      rw [argsS_stk L hf k _ (by rw [h1]; exact h), h1]
    · rfl
theorem rowL_stk (L : List Wd) {one : St → Ex × St} (hf : Stk one) (ops : List ByteArray) : ∀ (k : Nat) (e : Ex) (st : St), st.er ≠ 0 → (rowL L one ops k e st).2.er = st.er
  | 0, e, st, h => rfl
  | k + 1, e, st, h => by
    have h1 := btw_stk (L := L) ops h
    unfold rowL
    simp only
    split
    · have h2 := hf.then_ h h1
      rw [rowL_stk L hf ops k _ _ (by rw [h2]; exact h), h2]
    · exact h1
theorem rowS_stk (L : List Wd) {one : St → Ex × St} (hf : Stk one) (ops : List ByteArray) : Stk (rowS L one ops) := fun st h => by
  have h1 := hf st h
  unfold rowS
  rw [rowL_stk L hf ops _ _ _ (by rw [h1]; exact h), h1]
theorem whenL_stk (L : List Wd) : ∀ (k : Nat) (e : Ex) (st : St), st.er ≠ 0 → (whenL L k e st).2.er = st.er
  | 0, e, st, h => rfl
  | k + 1, e, st, h => by
    have h1 := btw_stk (L := L) [bs [119, 104, 101, 110]] h
    unfold whenL
    simp only
    split
    · have h2 : (nameS L (takeS L (bs [110, 111, 116]) (betweenS L [bs [119, 104, 101, 110]] st).2.2).2).2.er = st.er := by
        rw [name_stk (by rw [take_er, h1]; exact h), take_er, h1]
      rw [whenL_stk L k _ _ (by rw [h2]; exact h), h2]
    · exact h1
structure SNx (nx : Nx) : Prop where
  expr : Stk nx.expr
  un : Stk nx.un
  prim : Stk nx.prim
  fby : Stk nx.fby
section
variable {L : List Wd} {nx : Nx} (h : SNx nx)
include h
theorem named_stk : Stk (namedS L nx) := fun st he => by
  have h1 := part_stk (L := L) he
  unfold namedS
  simp only
  split
  · have h2 : (nextS L (partS L st).2).er = st.er := by rw [next_er, h1]
    have h3 : (callS L nx (nextS L (partS L st).2)).2.er = st.er := by
      unfold callS
      split
      · exact h2
      · have h4 := h.expr.then_ he h2
        show (argsS L nx.expr L.length (nx.expr (nextS L (partS L st).2)).2).2.er = _
        rw [argsS_stk L h.expr _ _ (by rw [h4]; exact he), h4]
    show (needS L _ (callS L nx (nextS L (partS L st).2)).2).er = _
    rw [need_stk _ (by rw [h3]; exact he), h3]
  · exact h1
theorem primB_stk : Stk (primB L nx) := fun st he => by
  have h1 := part_stk (L := L) he
  unfold primB
  simp only
  split
  · exact h1
  split
  · exact named_stk h st he
  split
  · exact h1
  split
  · exact h1
  split
  · have h2 := h.expr.then_ he (show (nextS L st).er = st.er from next_er)
    show (needS L _ (nx.expr (nextS L st)).2).er = _
    rw [need_stk _ (by rw [h2]; exact he), h2]
  split
  · have h2 := h.expr.then_ he h1
    have h3 : (needS L (bs [116, 104, 101, 110]) (nx.expr (partS L st).2).2).er = st.er := by rw [need_stk _ (by rw [h2]; exact he), h2]
    have h4 := h.expr.then_ he h3
    have h5 : (needS L (bs [101, 108, 115, 101]) (nx.expr (needS L (bs [116, 104, 101, 110]) (nx.expr (partS L st).2).2)).2).er = st.er := by rw [need_stk _ (by rw [h4]; exact he), h4]
    exact h.expr.then_ he h5
  split
  · have h2 : (nameS L (partS L st).2).2.er = st.er := by rw [name_stk (by rw [h1]; exact he), h1]
    exact h.prim.then_ he (h.prim.then_ he h2)
  · show (failS L 7 st).er = _
    rw [fail_stk 7 he]
theorem primS_stk (d : Nat) : Stk (primS L nx d) := fun st he => by
  unfold primS
  rw [ask_stk d he]
  exact primB_stk h st he
theorem unS_stk (d : Nat) : Stk (unS L nx d) := fun st he => by
  have h1 := part_stk (L := L) he
  unfold unS
  simp only
  rw [ask_stk d he]
  split
  · exact h.un.then_ he h1
  · split
    · exact h.un.then_ he h1
    · exact primS_stk h d st he
theorem whenS_stk (d : Nat) : Stk (whenS L nx d) := fun st he => by
  have h1 := unS_stk (L := L) h d st he
  unfold whenS
  rw [whenL_stk L _ _ _ (by rw [h1]; exact he), h1]
theorem fbyS_stk (d : Nat) : Stk (fbyS L nx d) := fun st he => by
  have h1 := whenS_stk (L := L) h d st he
  have h2 := btw_stk (L := L) [bs [102, 98, 121]] (st := (whenS L nx d st).2) (by rw [h1]; exact he)
  rw [h1] at h2
  unfold fbyS
  simp only
  split
  · exact h.fby.then_ he h2
  · exact h2
theorem addS_stk (d : Nat) : Stk (addS L nx d) := rowS_stk L (rowS_stk L (fbyS_stk h d) _) _
theorem cmpS_stk (d : Nat) : Stk (cmpS L nx d) := fun st he => by
  have h1 := addS_stk (L := L) h d st he
  have h2 := btw_stk (L := L) [bs [61], bs [60, 62], bs [60], bs [60, 61], bs [62], bs [62, 61]] (st := (addS L nx d st).2) (by rw [h1]; exact he)
  rw [h1] at h2
  unfold cmpS
  simp only
  split
  · exact (addS_stk h d).then_ he h2
  · exact h2
theorem orS_stk (d : Nat) : Stk (orS L nx d) := rowS_stk L (rowS_stk L (cmpS_stk h d) _) _
theorem arrowS_stk (d : Nat) : Stk (arrowS L nx d) := fun st he => by
  have h1 := orS_stk (L := L) h d st he
  have h2 := btw_stk (L := L) [bs [45, 62]] (st := (orS L nx d st).2) (by rw [h1]; exact he)
  rw [h1] at h2
  unfold arrowS
  simp only
  split
  · exact h.expr.then_ he h2
  · exact h2
end
theorem nx_stk (L : List Wd) : ∀ k, SNx (nxAt L k)
  | 0 => ⟨fun _ _ => rfl, fun _ _ => rfl, fun _ _ => rfl, fun _ _ => rfl⟩
  | k + 1 => ⟨arrowS_stk (nx_stk L k) _, unS_stk (nx_stk L k) _, primS_stk (nx_stk L k) _, fbyS_stk (nx_stk L k) _⟩
/-- At a depth that is too great, all tell the fault 2. -/
structure Deep (nx : Nx) : Prop where
  expr : ∀ st, st.er = 0 → (nx.expr st).2.er = 2
  un : ∀ st, st.er = 0 → (nx.un st).2.er = 2
  prim : ∀ st, st.er = 0 → (nx.prim st).2.er = 2
  fby : ∀ st, st.er = 0 → (nx.fby st).2.er = 2
section
variable {L : List Wd} {nx : Nx} (h : SNx nx) {d : Nat} (hd : 30 < d)
include hd
theorem ask_deep (st : St) (he : st.er = 0) : (askS L d st).er = 2 := by
  unfold askS
  rw [if_pos hd]
  unfold failS
  rw [if_pos he]
include h
theorem prim_deep (st : St) (he : st.er = 0) : (primS L nx d st).2.er = 2 := by
  have h1 := ask_deep (L := L) hd st he
  unfold primS
  rw [primB_stk h _ (by rw [h1]; decide), h1]
theorem un_deep0 (st : St) (he : st.er = 0) : (unS L nx d st).2.er = 2 := by
  have h1 := ask_deep (L := L) hd st he
  have h2 := part_stk (L := L) (st := askS L d st) (by rw [h1]; decide)
  rw [h1] at h2
  unfold unS
  simp only
  split
  · exact h.un.then_ (by decide) h2
  · split
    · exact h.un.then_ (by decide) h2
    · exact (primS_stk h d).then_ (by decide) h1
theorem fby_deep (st : St) (he : st.er = 0) : (fbyS L nx d st).2.er = 2 := by
  have h1 := un_deep0 (L := L) h hd st he
  have h2 : (whenS L nx d st).2.er = 2 := by
    unfold whenS
    rw [whenL_stk L _ _ _ (by rw [h1]; decide), h1]
  have h3 := btw_stk (L := L) [bs [102, 98, 121]] (st := (whenS L nx d st).2) (by rw [h2]; decide)
  rw [h2] at h3
  unfold fbyS
  simp only
  split
  · exact h.fby.then_ (by decide) h3
  · exact h3
omit h hd in
theorem row_deep {one : St → Ex × St} (ho : Stk one) (h1 : ∀ st, st.er = 0 → (one st).2.er = 2) (ops : List ByteArray) (st : St) (he : st.er = 0) : (rowS L one ops st).2.er = 2 := by
  unfold rowS
  rw [rowL_stk L ho _ _ _ _ (by rw [h1 st he]; decide), h1 st he]
theorem expr_deep (st : St) (he : st.er = 0) : (arrowS L nx d st).2.er = 2 := by
  have ha : ∀ st, st.er = 0 → (addS L nx d st).2.er = 2 := row_deep (rowS_stk L (fbyS_stk h d) _) (row_deep (fbyS_stk h d) (fby_deep h hd) _) _
  have hc : ∀ st, st.er = 0 → (cmpS L nx d st).2.er = 2 := fun st he => by
    have h2 := ha st he
    have h3 := btw_stk (L := L) [bs [61], bs [60, 62], bs [60], bs [60, 61], bs [62], bs [62, 61]] (st := (addS L nx d st).2) (by rw [h2]; decide)
    rw [h2] at h3
    unfold cmpS
    simp only
    split
    · exact (addS_stk h d).then_ (by decide) h3
    · exact h3
  have h2 : (orS L nx d st).2.er = 2 := row_deep (rowS_stk L (cmpS_stk h d) _) (row_deep (cmpS_stk h d) hc _) _ st he
  have h3 := btw_stk (L := L) [bs [45, 62]] (st := (orS L nx d st).2) (by rw [h2]; decide)
  rw [h2] at h3
  unfold arrowS
  simp only
  split
  · exact h.expr.then_ (by decide) h3
  · exact h3
end
theorem deep1 (L : List Wd) : Deep (nxAt L 1) := ⟨expr_deep (nx_stk L 0) (by decide), un_deep0 (nx_stk L 0) (by decide), prim_deep (nx_stk L 0) (by decide), fby_deep (nx_stk L 0) (by decide)⟩
theorem wx_of {f : St → Ex × St} (h1 : Stk f) (h2 : ∀ st, st.er = 0 → (f st).2.er = 2) : WX f := fun st h => by
  by_cases he : st.er = 0
  · rw [h2 st he] at h; cases h
  · rw [h1 st he] at h; exact absurd h he
theorem nx_wf {L : List Wd} (hW : OkW L) : ∀ k, WNx (nxAt L (k + 1))
  | 0 => ⟨wx_of (nx_stk L 1).expr (deep1 L).expr, wx_of (nx_stk L 1).un (deep1 L).un, wx_of (nx_stk L 1).prim (deep1 L).prim, wx_of (nx_stk L 1).fby (deep1 L).fby⟩
  | k + 1 => ⟨arrowS_wf hW (nx_wf hW k) _, unS_wf hW (nx_wf hW k) _, primS_wf hW (nx_wf hW k) _, fbyS_wf hW (nx_wf hW k) _⟩
theorem expr_wf {L : List Wd} (hW : OkW L) : WX (exprS L) := (nx_wf hW 30).expr
/-! Declarations, equations, nodes. -/
/-- A declared name; d: one without a clock. -/
def WfV (d : Bool) (v : Vr) : Prop := NmB v.name ∧ (v.kind = 1 ∨ v.kind = 2) ∧ ((v.on = ⟨#[]⟩ ∧ v.not_ = false) ∨ (d = false ∧ NmB v.on))
structure WfN (nd : Nd) : Prop where
  name : NmB nd.name
  ins : ∀ v ∈ nd.ins, WfV true v
  outs : ∀ v ∈ nd.outs, WfV true v
  locs : ∀ v ∈ nd.locs, WfV false v
  eqs : ∀ q ∈ nd.eqs, NmB q.name ∧ Wf q.e
section
variable {L : List Wd} (hW : OkW L)
include hW
theorem declared_wf (st : St) (h : (declaredS L st).2.2.er = 0) : st.er = 0 ∧ NmB (declaredS L st).1 := by
  have h1 := name_ok0 hW (st := declB L st) h
  refine ⟨?_, h1.2⟩
  have h2 : (declA L st).er = 0 := h1.1
  unfold declA at h2
  split at h2
  · exact absurd h2 (fail_ne 2 (by decide))
  · exact h2
theorem declL_wf : ∀ (k : Nat) (st : St), (declL L k st).2.er = 0 → st.er = 0 ∧ ∀ v ∈ (declL L k st).1, NmB v.name ∧ v.on = ⟨#[]⟩ ∧ v.not_ = false
  | 0, st, h => ⟨h, fun v hv => by simp [declL] at hv⟩
  | k + 1, st, h => by
    unfold declL at h ⊢
    split
    · rename_i hs
      rw [if_pos hs] at h
      have h1 := declL_wf k _ h
      have h2 := declared_wf hW _ h1.1
      refine ⟨by rw [← h2.1]; exact next_er.symm, fun v hv => ?_⟩
      rcases List.mem_cons.1 hv with rfl | hv
      · exact ⟨h2.2, rfl, rfl⟩
      · exact h1.2 v hv
    · rename_i hs
      rw [if_neg hs] at h
      exact ⟨h, fun v hv => by simp at hv⟩
omit hW in
theorem kind_ok0 {st : St} (h : (kindS L st).2.er = 0) : st.er = 0 ∧ ((kindS L st).1 = 1 ∨ (kindS L st).1 = 2) := by
  unfold kindS at *
  split
  · rename_i hs
    rw [if_pos hs] at h
    exact ⟨by rw [← h]; exact next_er.symm, .inl rfl⟩
  · rename_i hs
    rw [if_neg hs] at h
    split
    · rename_i hs
      rw [if_pos hs] at h
      exact ⟨by rw [← h]; exact next_er.symm, .inr rfl⟩
    · rename_i hs
      rw [if_neg hs] at h
      exact absurd h (fail_ne 7 (by decide))
theorem declS_wf (st : St) (h : (declS L st).2.er = 0) : st.er = 0 ∧ ∀ v ∈ (declS L st).1, WfV true v := by
  have h1 := kind_ok0 (st := needS L (bs [58]) (declN L st).2) h
  have h2 := need_ok0 h1.1
  have h3 := declL_wf hW L.length (declaredS L st).2.2 h2.1
  have h4 := declared_wf hW st h3.1
  refine ⟨h4.1, fun v hv => ?_⟩
  have hv : v ∈ (declN L st).1.map fun v => { v with kind := (kindS L (needS L (bs [58]) (declN L st).2)).1 } := hv
  obtain ⟨u, hu, rfl⟩ := List.mem_map.1 hv
  rcases List.mem_cons.1 hu with rfl | hu
  · exact ⟨h4.2, h1.2, .inl ⟨rfl, rfl⟩⟩
  · have h5 := h3.2 u hu
    exact ⟨h5.1, h1.2, .inl h5.2⟩
omit hW in
theorem WfV.weak {v : Vr} (h : WfV true v) : WfV false v := ⟨h.1, h.2.1, by
  rcases h.2.2 with h | h
  · exact .inl h
  · exact absurd h.1 (by decide)⟩
theorem localS_wf (st : St) (h : (localS L st).2.er = 0) : st.er = 0 ∧ ∀ v ∈ (localS L st).1, WfV false v := by
  unfold localS at h ⊢
  simp only at h ⊢
  split
  · rename_i hs
    rw [if_pos hs] at h
    have h1 := name_ok0 hW h
    rw [take_er, next_er] at h1
    have h2 := declS_wf hW st h1.1
    refine ⟨h2.1, fun v hv => ?_⟩
    obtain ⟨u, hu, rfl⟩ := List.mem_map.1 hv
    have h3 := h2.2 u hu
    exact ⟨h3.1, h3.2.1, .inr ⟨rfl, h1.2⟩⟩
  · rename_i hs
    rw [if_neg hs] at h
    have h2 := declS_wf hW st h
    exact ⟨h2.1, fun v hv => (h2.2 v hv).weak⟩
theorem declsL_wf : ∀ (k : Nat) (st : St), (declsL L k st).2.er = 0 → st.er = 0 ∧ ∀ v ∈ (declsL L k st).1, WfV true v
  | 0, st, h => ⟨h, fun v hv => by simp [declsL] at hv⟩
  | k + 1, st, h => by
    unfold declsL at h ⊢
    split
    · rename_i hs
      rw [if_pos hs] at h
      have h1 := declsL_wf k _ h
      have h2 := declS_wf hW _ h1.1
      refine ⟨by rw [← h2.1]; exact next_er.symm, fun v hv => ?_⟩
      rcases List.mem_append.1 hv with hv | hv
      · exact h2.2 v hv
      · exact h1.2 v hv
    · rename_i hs
      rw [if_neg hs] at h
      exact ⟨h, fun v hv => by simp at hv⟩
theorem declsS_wf (st : St) (h : (declsS L st).2.er = 0) : st.er = 0 ∧ ∀ v ∈ (declsS L st).1, WfV true v := by
  have h0 := need_ok0 (st := (declsB L (needS L (bs [40]) st)).2) h
  have h1 : (needS L (bs [40]) st).er = 0 ∧ ∀ v ∈ (declsB L (needS L (bs [40]) st)).1, WfV true v := by
    have h2 := h0.1
    unfold declsB at h2 ⊢
    split
    · rename_i hs
      rw [if_pos hs] at h2
      exact ⟨h2, fun v hv => by simp at hv⟩
    · rename_i hs
      rw [if_neg hs] at h2
      have h3 := declsL_wf hW _ _ h2
      have h4 := declS_wf hW _ h3.1
      refine ⟨h4.1, fun v hv => ?_⟩
      rcases List.mem_append.1 hv with hv | hv
      · exact h4.2 v hv
      · exact h3.2 v hv
  exact ⟨(need_ok0 h1.1).1, h1.2⟩
theorem localsL_wf : ∀ (k : Nat) (st : St), (localsL L k st).2.er = 0 → st.er = 0 ∧ ∀ v ∈ (localsL L k st).1, WfV false v
  | 0, st, h => ⟨h, fun v hv => by simp [localsL] at hv⟩
  | k + 1, st, h => by
    unfold localsL at h ⊢
    split
    · rename_i hs
      rw [if_pos hs] at h
      have h1 := localsL_wf k _ h
      have h0 := need_ok0 h1.1
      have h2 := localS_wf hW _ h0.1
      refine ⟨h2.1, fun v hv => ?_⟩
      rcases List.mem_append.1 hv with hv | hv
      · exact h2.2 v hv
      · exact h1.2 v hv
    · rename_i hs
      rw [if_neg hs] at h
      exact ⟨h, fun v hv => by simp at hv⟩
theorem varS_wf (st : St) (h : (varS L st).2.er = 0) : st.er = 0 ∧ ∀ v ∈ (varS L st).1, WfV false v := by
  unfold varS at h ⊢
  split
  · rename_i hv
    rw [if_pos hv] at h
    unfold localsS at h ⊢
    split
    · rename_i hs
      rw [if_pos hs] at h
      have h : (nextS L (nextS L st)).er = 0 := h
      rw [next_er, next_er] at h
      exact ⟨h, fun v hv => by simp at hv⟩
    · rename_i hs
      rw [if_neg hs] at h
      have h1 := localsL_wf hW _ _ h
      have h0 := need_ok0 h1.1
      have h2 := localS_wf hW _ h0.1
      refine ⟨by rw [← h2.1]; exact next_er.symm, fun v hv => ?_⟩
      rcases List.mem_append.1 hv with hv | hv
      · exact h2.2 v hv
      · exact h1.2 v hv
  · rename_i hv
    rw [if_neg hv] at h
    exact ⟨h, fun v hv => by simp at hv⟩
theorem eqS_wf (st : St) (h : (eqS L st).2.er = 0) : st.er = 0 ∧ NmB (eqS L st).1.name ∧ Wf (eqS L st).1.e := by
  have h1 := need_ok0 h
  have h2 := expr_wf hW _ h1.1
  have h3 := need_ok0 h2.1
  have h4 := name_ok0 hW h3.1
  exact ⟨h4.1, h4.2, h2.2⟩
theorem eqsL_wf : ∀ (k : Nat) (st : St), (eqsL L k st).2.er = 0 → st.er = 0 ∧ ∀ q ∈ (eqsL L k st).1, NmB q.name ∧ Wf q.e
  | 0, st, h => ⟨h, fun v hv => by simp [eqsL] at hv⟩
  | k + 1, st, h => by
    unfold eqsL at h ⊢
    split
    · rename_i hs
      rw [if_pos hs] at h
      have h1 := eqsL_wf k _ h
      have h2 := eqS_wf hW _ h1.1
      refine ⟨h2.1, fun v hv => ?_⟩
      rcases List.mem_cons.1 hv with rfl | hv
      · exact h2.2
      · exact h1.2 v hv
    · rename_i hs
      rw [if_neg hs] at h
      exact ⟨h, fun v hv => by simp at hv⟩
theorem nodeS_wf (st : St) (h : (nodeS L st).2.er = 0) : st.er = 0 ∧ WfN (nodeS L st).1 := by
  unfold nodeS at h ⊢
  simp only at h ⊢
  rw [take_er] at h
  have h1 := need_ok0 h
  have h2 := eqsL_wf hW _ _ h1.1
  have h3 := need_ok0 h2.1
  have h4 := varS_wf hW _ h3.1
  have h5 := need_ok0 h4.1
  have h6 := declsS_wf hW _ h5.1
  have h7 := need_ok0 h6.1
  have h8 := declsS_wf hW _ h7.1
  have h9 := name_ok0 hW h8.1
  have h10 := need_ok0 h9.1
  exact ⟨h10.1, ⟨h9.2, h8.2, h6.2, h4.2, h2.2⟩⟩
theorem programL_wf : ∀ (k n : Nat) (st : St), (programL L k n st).2.er = 0 → st.er = 0 ∧ ∀ nd ∈ (programL L k n st).1, WfN nd
  | 0, n, st, h => ⟨h, fun v hv => by simp [programL] at hv⟩
  | k + 1, n, st, h => by
    unfold programL at h ⊢
    split
    · rename_i hs
      rw [if_pos hs] at h
      have h1 := programL_wf k _ _ h
      have h2 := nodeS_wf hW _ h1.1
      have h3 : st.er = 0 := by
        have := h2.1
        unfold limS at this
        split at this
        · exact absurd this (fail_ne 2 (by decide))
        · exact this
      refine ⟨h3, fun v hv => ?_⟩
      rcases List.mem_cons.1 hv with rfl | hv
      · exact h2.2
      · exact h1.2 v hv
    · rename_i hs
      rw [if_neg hs] at h
      exact ⟨h, fun v hv => by simp at hv⟩
end
/-- WHAT PARSE HANDS BACK IS WELL FORMED. -/
theorem parse_wf {s : ByteArray} {l : List Nd} (h : parseS s = .ok l) : ∃ a r, l = a :: r ∧ WfN a ∧ ∀ nd ∈ r, WfN nd := by
  unfold parseS at h
  cases hc : cutAll s.data.toList with
  | error e => rw [hc] at h; cases h
  | ok d =>
    rw [hc] at h
    simp only at h
    split at h
    · rename_i he
      injection h with h
      subst h
      have hW := words_ok s d hc
      have h1 := programL_wf hW _ _ _ he
      have h2 := nodeS_wf hW _ h1.1
      exact ⟨_, _, rfl, h2.2, h1.2⟩
    · cases h
end Go.Proofs.YtjlnihennlkmpaaGreatDoor

namespace Go.Proofs.YtjlnihennlkmpaaGreatDoor
open Go Go.RowKit
def w3W (w : Wd) : W3 := (w.kind, w.text.data.toList, w.n)
/-- The words from a place on. -/
def suf (L : List Wd) (i : Nat) : List W3 := (L.map w3W).drop i
def hdW3 (R : List W3) : W3 := R.headD (0, [], 0)
section
variable {L : List Wd} {S : St} {x : W3} {r : List W3} (h : suf L S.i = x :: r)
include h
end
/-- A step reads these words as this tree, or tells the fault 2. -/
def ReadsE (L : List Wd) (f : St → Ex × St) (e : Ex) (ws R : List W3) : Prop := ∀ S, S.er = 0 → suf L S.i = ws ++ R → (f S).2.er = 2 ∨ ((f S).2.er = 0 ∧ suf L (f S).2.i = R ∧ (f S).2.names = S.names ∧ sameE e (f S).1 = true)
/-- What goes on behind a tree: it leaves all where none of its words stands. -/
structure Kont (L : List Wd) (K : Ex → St → Ex × St) (ops : List ByteArray) : Prop where
  stk : ∀ e S, S.er ≠ 0 → (K e S).2.er = S.er
  skip : ∀ e S, hasS L ops S = false → K e S = (e, S)
def KBt (L : List Wd) (ops : List ByteArray) (h : St → Ex × St) (e : Ex) (S : St) : Ex × St :=
  let b := betweenS L ops S
  if b.2.1 = true then (twoS b.1 e (h b.2.2).1, (h b.2.2).2) else (e, b.2.2)
theorem btw_no {L : List Wd} {ops : List ByteArray} {S : St} (hn : hasS L ops S = false) : betweenS L ops S = (noWd, false, S) := by unfold betweenS; rw [if_neg (by rw [hn]; decide)]
theorem KB_kont (L : List Wd) (ops : List ByteArray) {h : St → Ex × St} (hh : Stk h) : Kont L (KBt L ops h) ops := ⟨fun e S he => by
  have h1 := btw_stk (L := L) ops he
  unfold KBt
  simp only
  split
  · exact hh.then_ he h1
  · exact h1, fun e S hn => by
  unfold KBt
  rw [btw_no hn]
  rfl⟩
theorem same_mk (o m : ByteArray) (n : Int) (a a' : Nat) (ks ks' : List Ex) : sameE (.mk o m n a ks) (.mk o m n a' ks') = sameL ks ks' := by rw [sameE]; simp
theorem same_two {o m : ByteArray} {n : Int} {a a' : Nat} {x y x' y' : Ex} (hx : sameE x x' = true) (hy : sameE y y' = true) : sameE (.mk o m n a [x, y]) (.mk o m n a' [x', y']) = true := by
  rw [same_mk, sameL, sameL, sameL, hx, hy]; rfl
theorem same_one {o m : ByteArray} {n : Int} {a a' : Nat} {x x' : Ex} (hx : sameE x x' = true) : sameE (.mk o m n a [x]) (.mk o m n a' [x']) = true := by
  rw [same_mk, sameL, sameL, hx]; rfl
def opW (o : List UInt8) : W3 := (opK o).w
theorem opW_text (o : List UInt8) : (opW o).2.1 = o := by unfold opW opK; split <;> rfl
/-- .. and where it stands, it takes it, and a tree behind it. -/
def Two (L : List Wd) (K : Ex → St → Ex × St) (o : List UInt8) (x y : Ex) (wy R : List W3) : Prop := ∀ e S, S.er = 0 → suf L S.i = opW o :: (wy ++ R) → sameE x e = true → (K e S).2.er = 2 ∨ ((K e S).2.er = 0 ∧ suf L (K e S).2.i = R ∧ (K e S).2.names = S.names ∧ ∀ a, sameE (.mk (bs o) ⟨#[]⟩ 0 a [x, y]) (K e S).1 = true)
theorem Kont.two {L : List Wd} {K : Ex → St → Ex × St} {ops : List ByteArray} (hK : Kont L K ops) {f : St → Ex × St} {o : List UInt8} {x y : Ex} {wx wy R : List W3} (h : ReadsE L f x wx (opW o :: (wy ++ R))) (ht : Two L K o x y wy R) (a : Nat) : ReadsE L (fun S => K (f S).1 (f S).2) (.mk (bs o) ⟨#[]⟩ 0 a [x, y]) (wx ++ opW o :: wy) R := fun S he hs => by
  rcases h S he (by rw [hs]; simp) with h1 | ⟨h1, h2, h3, h4⟩
  · left
    show (K (f S).1 (f S).2).2.er = 2
    rw [hK.stk _ _ (by rw [h1]; decide), h1]
  · rcases ht (f S).1 (f S).2 h1 h2 h4 with h5 | ⟨h5, h6, h7, h8⟩
    · exact .inl h5
    · exact .inr ⟨h5, h6, h7.trans h3, h8 a⟩
/-- At which level a word is taken. -/
def OPS : List (List (List UInt8)) := [[[40]], [[119, 104, 101, 110]], [[102, 98, 121]], [[42], [47], [109, 111, 100]], [[43], [45]], [[61], [60, 62], [60], [60, 61], [62], [62, 61]], [[97, 110, 100]], [[111, 114], [120, 111, 114]], [[45, 62]]]
def lvl (t : List UInt8) : Nat := OPS.findIdx fun l => l.contains t
section
variable {L : List Wd} {nx : Nx} (hn : SNx nx) {d : Nat} {e : Ex} {ws R : List W3}
include hn
end
end Go.Proofs.YtjlnihennlkmpaaGreatDoor

namespace Go.Proofs.YtjlnihennlkmpaaGreatDoor
open Go Go.RowKit
/-- An expression's words; as a merge writes it; arguments' behind the first. -/
def wE (e : Ex) : List W3 := (tkE e 0).map Tk.w
def wP (e : Ex) : List W3 := (tkP e 0).map Tk.w
def wR (ks : List Ex) : List W3 := ks.flatMap fun k => (4, [44], 0) :: wE k
def wA : List Ex → List W3
  | [] => []
  | k :: r => wE k ++ wR r
abbrev wd (k : Nat) (t : List UInt8) : W3 := (k, t, 0)
theorem tkC_w : ∀ (ks : List Ex), (tkA ks).map Tk.w = wA ks
  | [] => rfl
  | [k] => by show (tkE k 0).map Tk.w = wE k ++ wR []; simp [wE, wR]
  | k :: k2 :: r => by
    have ih := tkC_w (k2 :: r)
    show (tkE k 0 ++ sgK [44] 1 :: tkA (k2 :: r)).map Tk.w = wE k ++ wR (k2 :: r)
    rw [List.map_append, List.map_cons, ih]
    rfl
section
variable (nm : ByteArray) (a : Nat) (x y z : Ex) (ks : List Ex) (n : Int)
theorem tk_w {e : Ex} (h : Wf e) (s : Nat) : (tkE e s).map Tk.w = wE e := by
  unfold wE
  cases h with
  | int m a h => rw [tk_int, tk_int]; rfl
  | bool n a h => rw [tk_bool, tk_bool]; rfl
  | var nm a h => rw [tk_var, tk_var]; rfl
  | call nm a ks h hk => rw [tk_call, tk_call]; simp [Tk.w, sgK, nmK]
  | un o a x ho hx => rw [tk_un _ _ _ _ _ _ ho, tk_un _ _ _ _ _ _ ho]; simp [Tk.w, sgK, kw]
  | neg a x hx => rw [tk_neg, tk_neg]; simp [Tk.w, sgK]
  | two o a x y ho hx hy => rw [tk_two _ _ _ _ _ _ _ ho, tk_two _ _ _ _ _ _ _ ho]; simp [Tk.w, sgK]
  | when nm n a x h hn hx => rw [tk_when, tk_when]; simp [Tk.w, sgK, nmK, kw]
  | ite a x y z hx hy hz => rw [tk_ite, tk_ite]; simp [Tk.w, sgK, kw]
  | merge nm a x y h hx hy => rw [tk_merge, tk_merge]; simp [Tk.w, sgK, nmK, kw]
theorem tkP_w {e : Ex} (h : Wf e) (s : Nat) : (tkP e s).map Tk.w = wP e := by
  obtain ⟨op, nm, n, a, ks⟩ := e
  unfold wP
  rw [tkP_mk, tkP_mk]
  split
  · rfl
  · rw [tk_w h, tk_w h]
theorem w_int (m : Nat) : wE (.mk (bs [105, 110, 116]) nm (m : Int) a ks) = [(3, textN m, (m : Int))] := by unfold wE; rw [tk_int, itoa_text]; rfl
theorem w_bool : wE (.mk (bs [98, 111, 111, 108]) nm n a ks) = [wd 2 (if n = 0 then [102, 97, 108, 115, 101] else [116, 114, 117, 101])] := by unfold wE; rw [tk_bool]; rfl
theorem w_var : wE (.mk (bs [118, 97, 114]) nm n a ks) = [wd 1 nm.data.toList] := by unfold wE; rw [tk_var]; rfl
theorem w_call : wE (.mk (bs [99, 97, 108, 108]) nm n a ks) = wd 1 nm.data.toList :: wd 4 [40] :: (wA ks ++ [wd 4 [41]]) := by unfold wE; rw [tk_call, List.map_cons, List.map_cons, List.map_append, tkC_w]; rfl
theorem w_un (o : List UInt8) (ho : o = [110, 111, 116] ∨ o = [112, 114, 101]) : wE (.mk (bs o) nm n a [x]) = wd 4 [40] :: ((wd 2 o :: wE x) ++ [wd 4 [41]]) := by unfold wE; rw [tk_un _ _ _ _ _ _ ho]; simp [Tk.w, sgK, kw]
theorem w_neg : wE (.mk (bs [110, 101, 103]) nm n a [x]) = wd 4 [40] :: ((wd 4 [45] :: wE x) ++ [wd 4 [41]]) := by unfold wE; rw [tk_neg]; simp [Tk.w, sgK]
theorem w_two {x : Ex} (hx : Wf x) (o : List UInt8) (ho : isInfix o = true) : wE (.mk (bs o) nm n a [x, y]) = wd 4 [40] :: ((wE x ++ opW o :: wE y) ++ [wd 4 [41]]) := by
  have h1 := tk_w hx 1
  unfold wE at h1 ⊢; rw [tk_two _ _ _ _ _ _ _ ho, List.map_cons, List.map_append, List.map_cons, h1]; simp [Tk.w, sgK, opW]
theorem w_when {x : Ex} (hx : Wf x) : wE (.mk (bs [119, 104, 101, 110]) nm n a [x]) = wd 4 [40] :: ((wE x ++ wd 2 [119, 104, 101, 110] :: ((if n = 0 then [wd 2 [110, 111, 116]] else []) ++ [wd 1 nm.data.toList])) ++ [wd 4 [41]]) := by
  have h1 := tk_w hx 1
  unfold wE at h1 ⊢
  rw [tk_when, List.map_cons, List.map_append, List.map_cons, h1]
  split <;> simp [Tk.w, sgK, kw, nmK]
theorem w_ite {x y : Ex} (hx : Wf x) (hy : Wf y) : wE (.mk (bs [105, 102]) nm n a [x, y, z]) = wd 4 [40] :: ((wd 2 [105, 102] :: (wE x ++ wd 2 [116, 104, 101, 110] :: (wE y ++ wd 2 [101, 108, 115, 101] :: wE z))) ++ [wd 4 [41]]) := by
  have h1 := tk_w hx 1
  have h2 := tk_w hy 1
  unfold wE at h1 h2 ⊢
  rw [tk_ite, List.map_cons, List.map_cons, List.map_append, List.map_cons, List.map_append, h1, h2]; simp [Tk.w, sgK, kw]
theorem w_merge {x y : Ex} (hx : Wf x) (hy : Wf y) : wE (.mk (bs [109, 101, 114, 103, 101]) nm n a [x, y]) = wd 4 [40] :: ((wd 2 [109, 101, 114, 103, 101] :: wd 1 nm.data.toList :: (wP x ++ wP y)) ++ [wd 4 [41]]) := by
  have h1 := tkP_w hx 1
  unfold wE
  rw [tk_merge, List.map_cons, List.map_cons, List.map_cons, List.map_append, List.map_append, h1, tkP_w hy]; simp [Tk.w, sgK, kw, nmK]
end
theorem wP_var (nm : ByteArray) (a : Nat) : wP (.mk (bs [118, 97, 114]) nm 0 a []) = wd 4 [40] :: ([wd 1 nm.data.toList] ++ [wd 4 [41]]) := by
  unfold wP
  rw [tkP_mk, if_pos (show (bs [118, 97, 114]).data.toList = [118, 97, 114] from rfl)]
  rfl
theorem wP_other {e : Ex} (h : Wf e) : wP e = wE e ∨ ∃ nm a, NmB nm ∧ e = .mk (bs [118, 97, 114]) nm 0 a [] := by
  cases h with
  | var nm a h => exact .inr ⟨nm, a, h, rfl⟩
  | two o a x y ho hx hy =>
    left
    unfold wP wE
    rw [tkP_mk, if_neg]
    intro e
    have e2 : o = [118, 97, 114] := e
    rw [e2] at ho; cases ho
  | un o a x ho hx =>
    left
    unfold wP wE
    rw [tkP_mk, if_neg]
    intro e
    have e2 : o = [118, 97, 114] := e
    rw [e2] at ho; revert ho; decide
  | _ =>
    left
    unfold wP wE
    rw [tkP_mk, if_neg (by decide)]
/-- A name is no word of the grammar, and no sign. -/
theorem nm_ne {nm : ByteArray} (h : NmB nm) (l : List UInt8) (hl : (keptB l || !isL (l.headD 0).toNat) = true) : (nm.data.toList == l) = false := by
  cases e : (nm.data.toList == l) with
  | false => rfl
  | true =>
    have e := eq_of_beq e
    rw [← e, h.2, h.1.head] at hl
    cases hl
theorem num_ne (m : Nat) (l : List UInt8) (hl : isD (l.headD 0).toNat = false) : (textN m == l) = false := by
  cases e : (textN m == l) with
  | false => rfl
  | true =>
    have e := eq_of_beq e
    obtain ⟨c, r, h⟩ := List.exists_cons_of_ne_nil (textN_ne m)
    have := textN_digits m c (by rw [h]; simp)
    rw [← e, h] at hl
    have e2 : ((c :: r).headD 0) = c := rfl
    rw [e2, this] at hl
    cases hl
/-- The words with which an expression begins: none of the signs but a bracket. -/
theorem wE_head {e : Ex} (h : Wf e) : ∃ x r, wE e = x :: r ∧ x.1 ≠ 0 ∧ (x.2.1 == [41]) = false := by
  cases h with
  | int m a h => exact ⟨_, _, w_int _ _ _ _, Nat.succ_ne_zero _, num_ne m _ (by decide)⟩
  | bool n a h =>
    refine ⟨_, _, w_bool _ _ _ _, Nat.succ_ne_zero _, ?_⟩
    rcases h with rfl | rfl <;> rfl
  | var nm a h => exact ⟨_, _, w_var _ _ _ _, Nat.succ_ne_zero _, nm_ne h _ (by decide)⟩
  | call nm a ks h hk => exact ⟨_, _, w_call _ _ _ _, Nat.succ_ne_zero _, nm_ne h _ (by decide)⟩
  | un o a x ho hx => exact ⟨_, _, w_un _ _ _ _ o ho, by decide, rfl⟩
  | neg a x hx => exact ⟨_, _, w_neg _ _ _ _, by decide, rfl⟩
  | two o a x y ho hx hy => exact ⟨_, _, w_two _ _ _ _ hx o ho, by decide, rfl⟩
  | when nm n a x h hn hx => exact ⟨_, _, w_when _ _ _ hx, by decide, rfl⟩
  | ite a x y z hx hy hz => exact ⟨_, _, w_ite _ _ _ _ hx hy, by decide, rfl⟩
  | merge nm a x y h hx hy => exact ⟨_, _, w_merge _ _ _ hx hy, by decide, rfl⟩
/-- Its words without the brackets. -/
def Bare (e : Ex) (ws : List W3) : Prop := Wf e ∧ wE e = wd 4 [40] :: (ws ++ [wd 4 [41]])
/-- The next depth reads what is written. -/
structure RNx (L : List Wd) (nx : Nx) : Prop where
  un : ∀ e R, Wf e → 0 < lvl (hdW3 R).2.1 → ReadsE L nx.un e (wE e) R
  prim : ∀ e R, Wf e → ReadsE L nx.prim e (wP e) R
  fby : ∀ e R, Wf e → 2 < lvl (hdW3 R).2.1 → ReadsE L nx.fby e (wE e) R
  expr : ∀ e R, Wf e → 8 < lvl (hdW3 R).2.1 → ReadsE L nx.expr e (wE e) R
  bare : ∀ e ws R, Bare e ws → 8 < lvl (hdW3 R).2.1 → ReadsE L nx.expr e ws R
section
variable {L : List Wd} {nx : Nx} (hn : SNx nx) (hr : RNx L nx)
include hn hr
end
end Go.Proofs.YtjlnihennlkmpaaGreatDoor

namespace Go.Proofs.YtjlnihennlkmpaaGreatDoor
open Go Go.RowKit
/-- Two rows, pair by pair. -/
def pairs {α : Type} (f : α → α → Bool) : List α → List α → Bool
  | [], [] => true
  | a :: r, b :: s => f a b && pairs f r s
  | [], _ :: _ => false
  | _ :: _, [] => false
theorem pairs_all {α : Type} (f : α → α → Bool) (d : α) : ∀ (l m : List α), (decide (l.length = m.length) && allR l.length fun i => f (l.getD i d) (m.getD i d)) = pairs f l m
  | [], [] => by simp [pairs, allR]
  | [], _ :: _ => by simp [pairs]
  | _ :: _, [] => by simp [pairs]
  | a :: r, b :: s => by
    have ih := pairs_all f d r s
    rw [pairs, ← ih, List.length_cons, List.length_cons, allR_succ]
    have h : decide (r.length + 1 = s.length + 1) = decide (r.length = s.length) := by simp
    rw [h]
    simp only [List.getD_cons_zero, List.getD_cons_succ]
    cases f a b <;> simp
theorem sameVs_eq (l m : List Vr) : sameVs l m = pairs sameV l m := pairs_all sameV vr0 l m
theorem sameQs_eq (l m : List Qe) : sameQs l m = pairs sameQ l m := pairs_all sameQ qe0 l m
theorem sameP_eq (l m : List Nd) : sameP l m = pairs sameN l m := pairs_all sameN nd0 l m
/-! The words of declarations, equations, nodes. -/
def kdL (k : Nat) : List UInt8 := if k = 1 then [98, 111, 111, 108] else [105, 110, 116]
def tkV (v : Vr) (s : Nat) : List Tk := nmK v.name.data.toList 0 :: sgK [58] 1 :: (if v.on.data.toList = [] then [kw (kdL v.kind) s] else kw (kdL v.kind) 1 :: kw [119, 104, 101, 110] 1 :: ((if v.not_ = true then [kw [110, 111, 116] 1] else []) ++ [nmK v.on.data.toList s]))
def tkVs : List Vr → List Tk
  | [] => []
  | [v] => tkV v 0
  | v :: r => tkV v 0 ++ sgK [59] 1 :: tkVs r
def tkQ (q : Qe) (s : Nat) : List Tk := nmK q.name.data.toList 1 :: sgK [61] 1 :: (tkE q.e 0 ++ [sgK [59] s])
def tkQs : List Qe → List Tk
  | [] => []
  | [q] => tkQ q 2
  | q :: r => tkQ q 3 ++ tkQs r
def letSep (qs : List Qe) : Nat := match qs with
  | [] => 2
  | _ => 3
def tkLoc (vs : List Vr) : List Tk := match vs with
  | [] => []
  | _ => kw [118, 97, 114] 1 :: (tkVs vs ++ [sgK [59] 2])
def tkN (nd : Nd) : List Tk := kw [110, 111, 100, 101] 1 :: nmK nd.name.data.toList 0 :: sgK [40] 0 :: (tkVs nd.ins ++ sgK [41] 1 :: kw [114, 101, 116, 117, 114, 110, 115] 1 :: sgK [40] 0 :: (tkVs nd.outs ++ sgK [41] 0 :: sgK [59] 2 :: (tkLoc nd.locs ++ kw [108, 101, 116] (letSep nd.eqs) :: (tkQs nd.eqs ++ [kw [116, 101, 108] 0, sgK [59] 2]))))
def tkNs (l : List Nd) : List Tk := l.flatMap tkN
theorem NmB.ne {s : ByteArray} (h : NmB s) : s.data.toList ≠ [] := h.1.ne
theorem tkV_text {d : Bool} {v : Vr} (h : WfV d v) (s : Nat) : flatT (tkV v s) = varT v ++ sepL s := by
  have hk : (kindT (v.kind : Int)).data.toList = kdL v.kind := by
    rcases h.2.1 with e | e <;> rw [e] <;> rfl
  unfold tkV varT onT
  rw [flatT_cons, flatT_cons, hk]
  split
  · simp [flatT, kw, sgK, nmK, sepL]
  · unfold whenT
    cases v.not_ <;> simp [flatT, kw, sgK, nmK, sepL]
theorem tkVs_text {d : Bool} : ∀ (vs : List Vr), (∀ v ∈ vs, WfV d v) → flatT (tkVs vs) = varsT vs
  | [], _ => rfl
  | [v], h => by
    show flatT (tkV v 0) = varT v
    rw [tkV_text (h v (by simp))]; simp [sepL]
  | v :: u :: r, h => by
    have h2 := tkVs_text (u :: r) (fun x hx => h x (by simp [hx]))
    show flatT (tkV v 0 ++ sgK [59] 1 :: tkVs (u :: r)) = varT v ++ [59, 32] ++ varsT (u :: r)
    rw [flatT_app, flatT_cons, tkV_text (h v (by simp)), h2]
    simp [sepL, sgK]
theorem tkQ_text {q : Qe} (h : Wf q.e) (s : Nat) : [32, 32] ++ flatT (tkQ q s) = ([32, 32] ++ q.name.data.toList ++ [32, 61, 32]) ++ textE q.e ++ [59] ++ sepL s := by
  unfold tkQ
  rw [flatT_cons, flatT_cons, flatT_app, tk_text h]
  simp [flatT, sgK, nmK, sepL]
theorem tkQs_text : ∀ (qs : List Qe), (∀ q ∈ qs, Wf q.e) → sepL (letSep qs) ++ flatT (tkQs qs) = [10] ++ eqsT qs
  | [], _ => rfl
  | [q], h => by
    have h1 := tkQ_text (h q (by simp)) 2
    show [10] ++ ([32, 32] ++ flatT (tkQ q 2)) = [10] ++ (eqT q ++ [])
    rw [h1]
    simp [eqT, sepL]
  | q :: p :: r, h => by
    have h1 := tkQ_text (h q (by simp)) 3
    have h2 := tkQs_text (p :: r) (fun x hx => h x (by simp [hx]))
    have h3 : sepL 3 ++ flatT (tkQs (p :: r)) = [10] ++ eqsT (p :: r) := h2
    show [10] ++ ([32, 32] ++ flatT (tkQ q 3 ++ tkQs (p :: r))) = [10] ++ (eqT q ++ eqsT (p :: r))
    rw [flatT_app, ← List.append_assoc [32, 32], h1, List.append_assoc _ (sepL 3), h3]
    simp [eqT]
theorem tkN_text {nd : Nd} (h : WfN nd) : flatT (tkN nd) = nodeT nd := by
  have e1 := tkVs_text nd.ins h.ins
  have e2 := tkVs_text nd.outs h.outs
  have e3 := tkQs_text nd.eqs (fun q hq => (h.eqs q hq).2)
  have e4 : flatT (tkLoc nd.locs) = locsT nd.locs := by
    have e := tkVs_text nd.locs h.locs
    cases hl : nd.locs with
    | nil => rfl
    | cons v r =>
      rw [hl] at e
      unfold tkLoc locsT
      rw [if_neg (by simp), flatT_cons, flatT_app, e]
      simp [flatT, kw, sgK, sepL]
  unfold tkN nodeT
  rw [flatT_cons, flatT_cons, flatT_cons, flatT_app, flatT_cons, flatT_cons, flatT_cons, flatT_app, flatT_cons, flatT_cons, flatT_app, flatT_cons, flatT_app, e1, e2, e4]
  have e5 : ∀ X : List UInt8, sepL (letSep nd.eqs) ++ (flatT (tkQs nd.eqs) ++ X) = [10] ++ (eqsT nd.eqs ++ X) := fun X => by rw [← List.append_assoc, e3]; simp
  show _ ++ (_ ++ (_ ++ (_ ++ (_ ++ (_ ++ (_ ++ (_ ++ (_ ++ (_ ++ (_ ++ (_ ++ (_ ++ (_ ++ (_ ++ (_ ++ (_ ++ (_ ++ (_ ++ (_ ++ (sepL (letSep nd.eqs) ++ (flatT (tkQs nd.eqs) ++ _))))))))))))))))))))) = _
  rw [e5]
  simp [flatT, kw, sgK, nmK, sepL]
theorem tkNs_text : ∀ (l : List Nd), (∀ nd ∈ l, WfN nd) → flatT (tkNs l) = showT l
  | [], _ => rfl
  | nd :: r, h => by
    have h2 := tkNs_text r (fun x hx => h x (by simp [hx]))
    show flatT (tkN nd ++ tkNs r) = nodeT nd ++ showT r
    rw [flatT_app, tkN_text (h nd (by simp)), h2]
theorem kd_kept (k : Nat) : keptB (kdL k) = true := by unfold kdL; split <;> decide
theorem tkV_ok {d : Bool} {v : Vr} (h : WfV d v) (s : Nat) (b : UInt8) (hb : s = 0 → isN b.toNat = false) : okT b (tkV v s) := by
  unfold tkV
  refine ⟨ok_nm h.1 0 _ (fun _ => (by decide : isN (58 : UInt8).toNat = false)), ok_sg 58 1 _ (by decide) (fun _ => by decide), ?_⟩
  split
  · exact ⟨ok_kw _ (kd_kept _) s b hb, trivial⟩
  · rename_i hon
    have hn : NmB v.on := by
      rcases h.2.2 with ⟨e, _⟩ | ⟨_, e⟩
      · rw [e] at hon; exact absurd rfl hon
      · exact e
    refine ⟨ok_kw _ (kd_kept _) 1 _ (fun h => by cases h), ok_kw _ (by decide) 1 _ (fun h => by cases h), ?_⟩
    have ht : okT b [nmK v.on.data.toList s] := ⟨ok_nm hn s b hb, trivial⟩
    split
    · exact ⟨ok_kw _ (by decide) 1 _ (fun h => by cases h), ht⟩
    · exact ht
theorem tkVs_ok {d : Bool} (b : UInt8) (hb : isN b.toNat = false) : ∀ (vs : List Vr), (∀ v ∈ vs, WfV d v) → okT b (tkVs vs)
  | [], _ => trivial
  | [v], h => tkV_ok (h v (by simp)) 0 b (fun _ => hb)
  | v :: u :: r, h => by
    have h2 := tkVs_ok b hb (u :: r) (fun x hx => h x (by simp [hx]))
    show okT b (tkV v 0 ++ sgK [59] 1 :: tkVs (u :: r))
    exact (okT_app _ _ _).2 ⟨tkV_ok (h v (by simp)) 0 _ (fun _ => (by decide : isN (59 : UInt8).toNat = false)), ok_sg 59 1 _ (by decide) (fun _ => by decide), h2⟩
theorem tkQ_ok {q : Qe} (hn : NmB q.name) (h : Wf q.e) (s : Nat) (b : UInt8) : okT b (tkQ q s) :=
  ⟨ok_nm hn 1 _ (fun h => by cases h), ok_sg 61 1 _ (by decide) (fun _ => by decide), (okT_app _ _ _).2 ⟨tk_ok h 0 _ (fun _ => (by decide : isN (59 : UInt8).toNat = false)), ok_sg 59 s b (by decide) (fun _ => by decide), trivial⟩⟩
theorem tkQs_ok (b : UInt8) : ∀ (qs : List Qe), (∀ q ∈ qs, NmB q.name ∧ Wf q.e) → okT b (tkQs qs)
  | [], _ => trivial
  | [q], h => tkQ_ok (h q (by simp)).1 (h q (by simp)).2 2 b
  | q :: p :: r, h => by
    have h2 := tkQs_ok b (p :: r) (fun x hx => h x (by simp [hx]))
    show okT b (tkQ q 3 ++ tkQs (p :: r))
    exact (okT_app _ _ _).2 ⟨tkQ_ok (h q (by simp)).1 (h q (by simp)).2 3 _, h2⟩
theorem tkN_ok {nd : Nd} (h : WfN nd) (b : UInt8) : okT b (tkN nd) := by
  have hl : ∀ b, okT b (tkLoc nd.locs) := fun b => by
    have e := tkVs_ok 59 (by decide) nd.locs h.locs
    unfold tkLoc
    split
    · trivial
    · rename_i hne
      exact ⟨ok_kw _ (by decide) 1 _ (fun h => by cases h), (okT_app _ _ _).2 ⟨e, ok_sg 59 2 _ (by decide) (fun _ => by decide), trivial⟩⟩
  have hs : letSep nd.eqs ≠ 0 := by unfold letSep; split <;> decide
  exact ⟨ok_kw _ (by decide) 1 _ (fun h => by cases h), ok_nm h.name 0 _ (fun _ => (by decide : isN (40 : UInt8).toNat = false)), ok_sg 40 0 _ (by decide) (fun _ => by decide),
    (okT_app _ _ _).2 ⟨tkVs_ok _ (by decide : isN (41 : UInt8).toNat = false) _ h.ins, ok_sg 41 1 _ (by decide) (fun _ => by decide), ok_kw _ (by decide) 1 _ (fun h => by cases h), ok_sg 40 0 _ (by decide) (fun _ => by decide),
    (okT_app _ _ _).2 ⟨tkVs_ok _ (by decide : isN (41 : UInt8).toNat = false) _ h.outs, ok_sg 41 0 _ (by decide) (fun _ => by decide), ok_sg 59 2 _ (by decide) (fun _ => by decide),
    (okT_app _ _ _).2 ⟨hl _, ok_kw _ (by decide) _ _ (fun h => absurd h hs), (okT_app _ _ _).2 ⟨tkQs_ok _ _ h.eqs, ok_kw _ (by decide) 0 _ (fun _ => (by decide : isN (59 : UInt8).toNat = false)), ok_sg 59 2 _ (by decide) (fun _ => by decide), trivial⟩⟩⟩⟩⟩
theorem tkNs_ok (b : UInt8) : ∀ (l : List Nd), (∀ nd ∈ l, WfN nd) → okT b (tkNs l)
  | [], _ => trivial
  | nd :: r, h => by
    show okT b (tkN nd ++ tkNs r)
    exact (okT_app _ _ _).2 ⟨tkN_ok (h nd (by simp)) _, tkNs_ok b r (fun x hx => h x (by simp [hx]))⟩
/-! .. as words. -/
def wV (v : Vr) : List W3 := wd 1 v.name.data.toList :: wd 4 [58] :: wd 2 (kdL v.kind) :: (if v.on.data.toList = [] then [] else wd 2 [119, 104, 101, 110] :: ((if v.not_ = true then [wd 2 [110, 111, 116]] else []) ++ [wd 1 v.on.data.toList]))
def wVr (vs : List Vr) : List W3 := vs.flatMap fun v => wd 4 [59] :: wV v
def wVs : List Vr → List W3
  | [] => []
  | v :: r => wV v ++ wVr r
/-- Locals, each with its semicolon. -/
def wVl (vs : List Vr) : List W3 := vs.flatMap fun v => wV v ++ [wd 4 [59]]
def wLoc (vs : List Vr) : List W3 := match vs with
  | [] => []
  | _ => wd 2 [118, 97, 114] :: wVl vs
def wQ (q : Qe) : List W3 := wd 1 q.name.data.toList :: wd 4 [61] :: (wE q.e ++ [wd 4 [59]])
def wQs (qs : List Qe) : List W3 := qs.flatMap wQ
def wN (nd : Nd) : List W3 := wd 2 [110, 111, 100, 101] :: wd 1 nd.name.data.toList :: wd 4 [40] :: (wVs nd.ins ++ wd 4 [41] :: wd 2 [114, 101, 116, 117, 114, 110, 115] :: wd 4 [40] :: (wVs nd.outs ++ wd 4 [41] :: wd 4 [59] :: (wLoc nd.locs ++ wd 2 [108, 101, 116] :: (wQs nd.eqs ++ [wd 2 [116, 101, 108], wd 4 [59]]))))
def wNs (l : List Nd) : List W3 := l.flatMap wN
theorem tkV_w (v : Vr) (s : Nat) : (tkV v s).map Tk.w = wV v := by
  unfold tkV wV
  split
  · rfl
  · cases v.not_ <;> rfl
theorem tkVs_w : ∀ (vs : List Vr), (tkVs vs).map Tk.w = wVs vs
  | [] => rfl
  | [v] => by show (tkV v 0).map Tk.w = wV v ++ wVr []; rw [tkV_w]; simp [wVr]
  | v :: u :: r => by
    have h2 := tkVs_w (u :: r)
    show (tkV v 0 ++ sgK [59] 1 :: tkVs (u :: r)).map Tk.w = wV v ++ wVr (u :: r)
    rw [List.map_append, List.map_cons, tkV_w, h2]
    rfl
theorem tkQ_w (q : Qe) (s : Nat) : (tkQ q s).map Tk.w = wQ q := by unfold tkQ wQ wE; simp [Tk.w, nmK, sgK]
theorem tkQs_w : ∀ (qs : List Qe), (tkQs qs).map Tk.w = wQs qs
  | [] => rfl
  | [q] => by show (tkQ q 2).map Tk.w = wQ q ++ []; rw [tkQ_w]; simp
  | q :: p :: r => by
    have h2 := tkQs_w (p :: r)
    show (tkQ q 3 ++ tkQs (p :: r)).map Tk.w = wQ q ++ wQs (p :: r)
    rw [List.map_append, tkQ_w, h2]
theorem wVl_eq : ∀ (v : Vr) (r : List Vr), wVs (v :: r) ++ [wd 4 [59]] = wVl (v :: r)
  | v, [] => by simp [wVs, wVr, wVl]
  | v, u :: r => by
    have h := wVl_eq u r
    show (wV v ++ (wd 4 [59] :: wV u ++ wVr r)) ++ [wd 4 [59]] = (wV v ++ [wd 4 [59]]) ++ wVl (u :: r)
    rw [← h]
    simp [wVs]
theorem tkN_w (nd : Nd) : (tkN nd).map Tk.w = wN nd := by
  have hl : (tkLoc nd.locs).map Tk.w = wLoc nd.locs := by
    cases hl : nd.locs with
    | nil => rfl
    | cons v r =>
      show Tk.w (kw [118, 97, 114] 1) :: (tkVs (v :: r) ++ [sgK [59] 2]).map Tk.w = wd 2 [118, 97, 114] :: wVl (v :: r)
      rw [List.map_append, tkVs_w, ← wVl_eq]
      rfl
  unfold tkN wN
  simp only [List.map_cons, List.map_append, tkVs_w, tkQs_w, hl]
  rfl
theorem tkNs_w : ∀ (l : List Nd), (tkNs l).map Tk.w = wNs l
  | [] => rfl
  | nd :: r => by
    show (tkN nd ++ tkNs r).map Tk.w = wN nd ++ wNs r
    rw [List.map_append, tkN_w, tkNs_w r]
end Go.Proofs.YtjlnihennlkmpaaGreatDoor
