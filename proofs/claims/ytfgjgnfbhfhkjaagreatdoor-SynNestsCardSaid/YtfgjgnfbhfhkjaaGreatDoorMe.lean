/-
  Texts that the statements stand on, part 5.
-/
import Derived.Test.YtfgjgnfbhfhkjaaGreatDoorMd
import Derived.Shelf.Strings.Builder1
import Derived.Shelf.Small.Strs
import Derived.Shelf.Small.Wraps
import Derived.Shelf.Strings.BuilderF
import Derived.Shelf.Strings.BuilderK
import Derived.Shelf.Strconv.Itoa0
import Derived.Shelf.Strconv.Itoa1
import Derived.Shelf.LaysM
import Derived.Shelf.Strconv.Itoa2
import Derived.Shelf.Strconv.Itoa3
import Derived.Shelf.Strconv.Itoa4
import Derived.Shelf.Strconv.ParseIntEmpty
import Derived.Shelf.Strconv.Clone
import Derived.Shelf.Strconv.SyntaxError
import Derived.Shelf.LaysC
import Derived.Shelf.Strconv.ToError
import Derived.Shelf.Strconv.Lower
import Derived.Shelf.Strconv.ParseUint10
import Derived.Shelf.Strconv.ParseUint10Empty
import Derived.Shelf.Strconv.ParseUint10Any
import Derived.Shelf.Strconv.ParseInt10
import Derived.Shelf.Strconv.RangeError
import Derived.Shelf.Strconv.ToErrorRange
import Derived.Shelf.Strconv.ParseUintEmpty
import Derived.Shelf.Strconv.ParseUint10b64
import Derived.Shelf.Strconv.ParseUint10b32
import Derived.Shelf.Strconv.ParseUint10b16
import Derived.Shelf.Strconv.ParseUint10b8
import Derived.Shelf.Strconv.ParseUint10At
import Derived.Shelf.Strconv.ParseInt10At64
import Derived.Shelf.Strconv.ParseInt10At32
import Derived.Shelf.Strconv.ParseInt10At16
import Derived.Shelf.Strconv.ParseInt10At8
import Derived.Shelf.Strconv.ParseInt10All
import Derived.Shelf.Strconv.ParseIntPublic10
import Derived.Shelf.Strconv.ErrVarParseInt
import Derived.Shelf.Strings.Search1
import Derived.Shelf.Strings.Search2
import Derived.Shelf.Strings.Search3
import Derived.Shelf.Strings.Shaped
import Derived.Shelf.Strings.Prefix
import Derived.Shelf.Slices.Turned
import Derived.Test.YtfgjgnfbhfhkjaaGreatDoorProg
import Derived.Lib.ParseIntBTie
import Derived.Test.YtfgjgnfbhfhkjaaGreatDoorRows
import Derived.Lib.LaidTab
import Derived.Lib.AppendIntMem
import Derived.LaidSub
import Derived.LaidLaws
namespace Go.Proofs.YtfgjgnfbhfhkjaaGreatDoor
open Go Go.RowKit
/-- An equation as it is written. -/
def eqT (q : Qe) : List UInt8 := ([32, 32] ++ q.name.data.toList ++ [32, 61, 32]) ++ textE q.e ++ [59, 10]
def eqsT (qs : List Qe) : List UInt8 := qs.flatMap eqT
theorem eqsT_snoc (qs : List Qe) (q : Qe) : eqsT (qs ++ [q]) = eqsT qs ++ eqT q := by simp [eqsT]
def locsT (vs : List Vr) : List UInt8 := if vs.length = 0 then [] else [118, 97, 114, 32] ++ varsT vs ++ [59, 10]
/-- A node as it is written. -/
def nodeT (nd : Nd) : List UInt8 := ([110, 111, 100, 101, 32] ++ nd.name.data.toList ++ [40]) ++ varsT nd.ins ++ [41, 32, 114, 101, 116, 117, 114, 110, 115, 32, 40] ++ varsT nd.outs ++ [41, 59, 10] ++ locsT nd.locs ++ [108, 101, 116, 10] ++ eqsT nd.eqs ++ [116, 101, 108, 59, 10]
/-- Equations in memory, below block B. -/
def EqsV (w : World) (B : Nat) (x : Option Addr) (n : Nat) (qs : List Qe) : Prop := n = qs.length ∧ ∃ g, 0 < n → x = some ⟨g, 0, none⟩ ∧ g < B ∧ g < w.heap.size ∧ ∀ (i : Nat) (h : i < qs.length), ∃ o m n a x l c, (∀ (j : Nat) (u : Value), (rowQ (qs[i]).name o m n a x l c ((qs[i]).at_ : Int))[j]? = some u → w.cell? ⟨g, i * 7 + j, none⟩ = some u) ∧ IsP (fun k => k < B) w o m n a x l c (qs[i]).e
theorem rowsQ_nth {ok : Nat → Prop} {w : World} : ∀ (qs : List Qe) (xs : List Value), RowsQ ok w xs qs → ∀ (i : Nat) (h : i < qs.length), ∃ o m n a x l c, (∀ (j : Nat) (u : Value), (rowQ (qs[i]).name o m n a x l c ((qs[i]).at_ : Int))[j]? = some u → xs[i * 7 + j]? = some u) ∧ IsP ok w o m n a x l c (qs[i]).e
  | [], _, _, i, h => by simp at h
  | q :: r, xs, ⟨o, m, n, a, x, l, c, ys, h1, h2, h3⟩, 0, _ => by
    refine ⟨o, m, n, a, x, l, c, fun j u hu => ?_, h2⟩
    rw [h1, Nat.zero_mul, Nat.zero_add, List.getElem?_append_left (by have := (List.getElem?_eq_some_iff.1 hu).1; exact this)]
    exact hu
  | q :: r, xs, ⟨o, m, n, a, x, l, c, ys, h1, h2, h3⟩, i + 1, h => by
    obtain ⟨o', m', n', a', x', l', c', e1, e2⟩ := rowsQ_nth r ys h3 i (by simpa using h)
    refine ⟨o', m', n', a', x', l', c', fun j u hu => ?_, e2⟩
    have hl : (rowQ q.name o m n a x l c (q.at_ : Int)).length = 7 := rfl
    rw [h1, List.getElem?_append_right (by rw [hl]; omega), hl, show (i + 1) * 7 + j - 7 = i * 7 + j by omega]
    exact e1 j u (by simpa using hu)
theorem EqsV.of_own {w : World} {B : Nat} {v : Value} {qs : List Qe} {xs : List Value} (h : w.ownsRow 0 41 7 v qs.length xs) (hr : RowsQ (fun k => k < B) w xs qs) (hb : ∀ k, v.ownBlock = some k → k < B ∧ k < w.heap.size) : ∃ x c, v = .slice x qs.length c ∧ EqsV w B x qs.length qs := by
  rcases h.2 with ⟨rfl, h0⟩ | ⟨g, cap, cur, rfl, _⟩
  · exact ⟨none, 0, by rw [h0], rfl, 0, fun hl => by omega⟩
  · refine ⟨_, cap, rfl, rfl, g, fun hl => ⟨rfl, (hb g rfl).1, (hb g rfl).2, fun i hi => ?_⟩⟩
    obtain ⟨o, m, n, a, x, l, c, e1, e2⟩ := rowsQ_nth qs xs hr i hi
    refine ⟨o, m, n, a, x, l, c, fun j u hu => ?_, e2⟩
    have := h.cells rfl (i * 7 + j) u (e1 j u hu)
    rw [Addr.add_lit] at this
    simpa using this
theorem EqsV.low {w w' : World} {B n : Nat} {x : Option Addr} {qs : List Qe} (h : EqsV w B x n qs) (hb : Below B w w') : EqsV w' B x n qs := by
  obtain ⟨h1, g, h2⟩ := h
  refine ⟨h1, g, fun hl => ?_⟩
  obtain ⟨e1, e2, e3, e4⟩ := h2 hl
  refine ⟨e1, e2, Nat.lt_of_lt_of_le e3 hb.size, fun i hi => ?_⟩
  obtain ⟨o, m, n, a, x, l, c, f1, f2⟩ := e4 i hi
  refine ⟨o, m, n, a, x, l, c, fun j u hu => ?_, f2.low hb⟩
  have := f1 j u hu
  simp only [World.cell?, hb.block g e2] at this ⊢
  exact this
theorem EqsV.cells {w : World} {B n : Nat} {x : Option Addr} {qs : List Qe} (h : EqsV w B x n qs) {g : Nat} (hx : x = some ⟨g, 0, none⟩) (i : Nat) (hi : i < qs.length) : ∃ o m n a x l c, (∀ (j : Nat) (u : Value), (rowQ (qs[i]).name o m n a x l c ((qs[i]).at_ : Int))[j]? = some u → w.cell? ⟨g, i * 7 + j, none⟩ = some u) ∧ IsP (fun k => k < B) w o m n a x l c (qs[i]).e := by
  obtain ⟨h1, g2, h2⟩ := h
  obtain ⟨e1, _, _, e4⟩ := h2 (by omega)
  rw [hx] at e1
  injection e1 with e1
  injection e1 with e1
  subst e1
  exact e4 i hi
theorem sizeV_eq : (Tryz.prog.info? 41).map (·.size) = some 7 := by kernel_rfl
theorem idxV_eq (g n cap i : Nat) (hi : i < n) (W : World) : (Instr.indexAt 33 (.slice (some ⟨g, 0, none⟩) n cap) (.int .i64 (i : Int))).run Tryz.prog W = .ok (.pointer (some ⟨g, i * 7, none⟩)) W := by
  have he : Tryz.prog.elem 33 = 41 := by simp [Program.elem, Tryz.underlying33]
  have hz : ∀ W, (sizeOf (Tryz.prog.elem 33)).run Tryz.prog W = .ok 7 W := fun W => by
    rw [he]
    have h := sizeV_eq
    cases hq : Tryz.prog.info? 41 with
    | none => simp [hq] at h
    | some i => simp [hq] at h; simp [sizeOf, typeInfo, hq, h]
  rw [run_indexAt_slice (h := by rw [he]; exact Tryz.underlying33), if_pos (by omega), hz]
  simp [Result.andThen, Addr.add_lit]
theorem qrowV_one (q o m : ByteArray) (n a b : Int) (x : Option Addr) (l c : Nat) : (#[.string q, .string o, .string m, .int .i64 n, .int .i64 a, .slice x l c, .int .i64 b] : Array Value).all (·.oneCell') = true := by simp [Value.oneCell']
/-- A node's value in memory, below block B. -/
structure NodeV (w : World) (B : Nat) (xi xo xl xe : Option Addr) (ni no nl ne : Nat) (nd : Nd) : Prop where
  ins : VarsV w B xi ni nd.ins
  outs : VarsV w B xo no nd.outs
  locs : VarsV w B xl nl nd.locs
  eqs : EqsV w B xe ne nd.eqs
theorem NodeV.low {w w' : World} {B : Nat} {xi xo xl xe : Option Addr} {ni no nl ne : Nat} {nd : Nd} (h : NodeV w B xi xo xl xe ni no nl ne nd) (hb : Below B w w') : NodeV w' B xi xo xl xe ni no nl ne nd := ⟨h.ins.low hb, h.outs.low hb, h.locs.low hb, h.eqs.low hb⟩
end Go.Proofs.YtfgjgnfbhfhkjaaGreatDoor

namespace Go.Proofs.YtfgjgnfbhfhkjaaGreatDoor
open Go Go.RowKit
set_option maxHeartbeats 4000000 in
set_option maxRecDepth 100000 in
theorem writeNode_any (B b : Nat) (l : List UInt8) (w : World) (h : Bld B b l w) (nd : Nd) (na : Int) (xi xo xl xe : Option Addr) (ni no nl ne ci co cl ce : Nat) (hv : NodeV w B xi xo xl xe ni no nl ne nd) (hq : ∀ i (h : i < nd.eqs.length), Writes w B b (nd.eqs[i]).e) (hni : ni < 1000000000000) (hno : no < 1000000000000) (hnl : nl < 1000000000000) (hne : ne < 1000000000000)
    (hlen : l.length + (nodeT nd).length ≤ 140737488355328) :
    Calls Tryz.prog 23 #[.pointer (some ⟨b, 0, none⟩), .agg #[.string nd.name, .slice xi ni ci, .slice xo no co, .slice xl nl cl, .slice xe ne ce, .int .i64 na]] w (GivesW B b l (nodeT nd) w) := by
  obtain ⟨hlk, g, hg⟩ := id hv.eqs
  have hnl2 : nl = nd.locs.length := hv.locs.1
  obtain ⟨nm, hnm⟩ : ∃ s, s = nd.name := ⟨_, rfl⟩
  unfold nodeT at hlen ⊢
  rw [← hnm] at hlen ⊢
  obtain ⟨X0, hX0⟩ : ∃ X, X = [110, 111, 100, 101, 32] ++ nm.data.toList ++ [40] := ⟨_, rfl⟩
  obtain ⟨X1, hX1⟩ : ∃ X, X = varsT nd.ins := ⟨_, rfl⟩
  obtain ⟨X3, hX3⟩ : ∃ X, X = varsT nd.outs := ⟨_, rfl⟩
  obtain ⟨XL, hXL⟩ : ∃ X, X = varsT nd.locs := ⟨_, rfl⟩
  obtain ⟨X5, hX5⟩ : ∃ X, X = locsT nd.locs := ⟨_, rfl⟩
  obtain ⟨X7, hX7⟩ : ∃ X, X = eqsT nd.eqs := ⟨_, rfl⟩
  have hx5 : X5 = if nl = 0 then [] else [118, 97, 114, 32] ++ XL ++ [59, 10] := by rw [hX5, hXL, hnl2]; rfl
  rw [← hX0, ← hX1, ← hX3, ← hX5, ← hX7] at hlen ⊢
  have hb1 : Below w.heap.size w (w.alloc (.cells #[.string nm, .slice xi ni ci, .slice xo no co, .slice xl nl cl, .slice xe ne ce, .int .i64 na] 35)) := (Below.refl _ _).alloc (Nat.le_refl _) _
  have hn1 := heap_alloc_new w (.cells #[.string nm, .slice xi ni ci, .slice xo no co, .slice xl nl cl, .slice xe ne ce, .int .i64 na] 35)
  have hs1 : (w.alloc (.cells #[.string nm, .slice xi ni ci, .slice xo no co, .slice xl nl cl, .slice xe ne ce, .int .i64 na] 35)).heap.size = w.heap.size + 1 := by simp
  have h1 := h.below hb1
  have hsz := h.2
  have hlt := h.lt
  obtain ⟨w1, hww⟩ : ∃ w1, w1 = (w.alloc (.cells #[.string nm, .slice xi ni ci, .slice xo no co, .slice xl nl cl, .slice xe ne ce, .int .i64 na] 35)) := ⟨_, rfl⟩
  rw [← hww] at hb1 hn1 hs1 h1
  have HL := Lib.hid hn1
  have HB := Lib.hid (hb1.mono hsz)
  have HW := Lib.hid (Wrote.below (b := b) hb1)
  have HH := Lib.hid h1
  have HV := Lib.hid hv
  have HQ := Lib.hid hq
  have HW1 := Lib.hid hww
  have HS1 := Lib.hid hs1
  have HX1 := Lib.hid hX1.symm
  have HX3 := Lib.hid hX3.symm
  have HXL := Lib.hid hXL.symm
  have HX7 := Lib.hid hX7.symm
  have HLK := Lib.hid hlk
  have HGX : Hid (0 < ne → xe = some ⟨g, 0, none⟩) := Lib.hid (fun h => (hg h).1)
  have HI1 := Lib.hid hni
  have HI2 := Lib.hid hno
  have HI3 := Lib.hid hnl
  have HSQ := Lib.hid sizeV_eq
  have HJ0 : Hid (joined [⟨#[110, 111, 100, 101, 32]⟩, nm, ⟨#[40]⟩] = X0) := Lib.hid (by rw [hX0]; simp [joined])
  have HJ2 : Hid (joined [⟨#[41, 32, 114, 101, 116, 117, 114, 110, 115, 32, 40]⟩] = [41, 32, 114, 101, 116, 117, 114, 110, 115, 32, 40]) := Lib.hid (by simp [joined])
  have HJ4 : Hid (joined [⟨#[41, 59, 10]⟩] = [41, 59, 10]) := Lib.hid (by simp [joined])
  have HJ5 : Hid (joined [⟨#[118, 97, 114, 32]⟩] = [118, 97, 114, 32]) := Lib.hid (by simp [joined])
  have HJ6 : Hid (joined [⟨#[108, 101, 116, 10]⟩] = [108, 101, 116, 10]) := Lib.hid (by simp [joined])
  have HJ8 : Hid (joined [⟨#[116, 101, 108, 59, 10]⟩] = [116, 101, 108, 59, 10]) := Lib.hid (by simp [joined])
  have HJ9 : Hid (joined [⟨#[59, 10]⟩] = [59, 10]) := Lib.hid (by simp [joined])
  have c0 := cell_of_row w1 w.heap.size 0 _ _ _ HL.out
  have c1 := cell_of_row w1 w.heap.size 1 _ _ _ HL.out
  have c2 := cell_of_row w1 w.heap.size 2 _ _ _ HL.out
  have c3 := cell_of_row w1 w.heap.size 3 _ _ _ HL.out
  have c4 := cell_of_row w1 w.heap.size 4 _ _ _ HL.out
  rw [hww] at c0 c1 c2 c3 c4
  by_cases hl0 : nl = 0
  · have d5 : decide (0 < nl) = false := by simp; omega
    rw [if_pos hl0] at hx5
    subst hx5
    have HLN := Lib.hid hlen
    clear h hb1 hn1 hs1 h1 hww hv hq hX0 hX1 hX3 hXL hX5 hX7 hlk hg hlen hnl2 hni hno hnl hnm hl0
    go_enter Tryz.func23, Tryz.ntmps23
    have k1 := say_at B b l w1 HH.out [⟨#[110, 111, 100, 101, 32]⟩, nm, ⟨#[40]⟩] 3 (w.heap.size + 1) #[.string ⟨#[110, 111, 100, 101, 32]⟩, .string nm, .string ⟨#[40]⟩] X0 HS1.out rfl rfl HJ0.out (by decide) (by have := HLN.out; simp only [List.length_append] at this ⊢; omega)
    clear HH
    go_wp2_with fail
    rw [← HW1.out]
    (with_reducible refine k1.mono ?_)
    rintro e u1 ⟨rfl, hh, hb, hw⟩
    have hz_u1 := hw.size
    have HL' := Lib.hid ((hw.block w.heap.size (Array.getElem?_eq_some_iff.1 HL.out).1 (by omega) (fun cs fr e => by rw [HL.out] at e; injection e with e; injection e with _ e _; exact absurd e (by decide))).trans HL.out)
    have HB' := Lib.hid (HB.out.trans hb)
    have HW' := Lib.hid (HW.out.trans hw)
    have HH := Lib.hid hh
    clear hh hb hw k1 HL HB HW c0 c1 c2 c3 c4
    have HL := HL'
    have HB := HB'
    have HW := HW'
    clear HL' HB' HW'
    have c0 := cell_of_row u1 w.heap.size 0 _ _ _ HL.out
    have c1 := cell_of_row u1 w.heap.size 1 _ _ _ HL.out
    have c2 := cell_of_row u1 w.heap.size 2 _ _ _ HL.out
    have c3 := cell_of_row u1 w.heap.size 3 _ _ _ HL.out
    have c4 := cell_of_row u1 w.heap.size 4 _ _ _ HL.out
    have k1 := writeVars_any B b (l ++ X0) u1 HH.out nd.ins xi ni ci (HV.out.ins.low HB.out) HI1.out (by rw [HX1.out]; have := HLN.out; simp only [List.length_append] at this ⊢; omega)
    rw [HX1.out] at k1
    clear HH
    go_wp2_with fail
    (with_reducible refine k1.mono ?_)
    rintro e u2 ⟨rfl, hh, hb, hw⟩
    have hz_u2 := hw.size
    have HL' := Lib.hid ((hw.block w.heap.size (Array.getElem?_eq_some_iff.1 HL.out).1 (by omega) (fun cs fr e => by rw [HL.out] at e; injection e with e; injection e with _ e _; exact absurd e (by decide))).trans HL.out)
    have HB' := Lib.hid (HB.out.trans hb)
    have HW' := Lib.hid (HW.out.trans hw)
    have HH := Lib.hid hh
    clear hh hb hw k1 HL HB HW c0 c1 c2 c3 c4
    have HL := HL'
    have HB := HB'
    have HW := HW'
    clear HL' HB' HW'
    have c0 := cell_of_row u2 w.heap.size 0 _ _ _ HL.out
    have c1 := cell_of_row u2 w.heap.size 1 _ _ _ HL.out
    have c2 := cell_of_row u2 w.heap.size 2 _ _ _ HL.out
    have c3 := cell_of_row u2 w.heap.size 3 _ _ _ HL.out
    have c4 := cell_of_row u2 w.heap.size 4 _ _ _ HL.out
    have k1 := say_at B b (l ++ X0 ++ X1) u2 HH.out [⟨#[41, 32, 114, 101, 116, 117, 114, 110, 115, 32, 40]⟩] 1 u2.heap.size #[.string ⟨#[41, 32, 114, 101, 116, 117, 114, 110, 115, 32, 40]⟩] [41, 32, 114, 101, 116, 117, 114, 110, 115, 32, 40] rfl rfl rfl HJ2.out (by decide) (by have := HLN.out; simp only [List.length_append] at this ⊢; omega)
    clear HH
    go_wp2_with fail
    (with_reducible refine k1.mono ?_)
    rintro e u3 ⟨rfl, hh, hb, hw⟩
    have hz_u3 := hw.size
    have HL' := Lib.hid ((hw.block w.heap.size (Array.getElem?_eq_some_iff.1 HL.out).1 (by omega) (fun cs fr e => by rw [HL.out] at e; injection e with e; injection e with _ e _; exact absurd e (by decide))).trans HL.out)
    have HB' := Lib.hid (HB.out.trans hb)
    have HW' := Lib.hid (HW.out.trans hw)
    have HH := Lib.hid hh
    clear hh hb hw k1 HL HB HW c0 c1 c2 c3 c4
    have HL := HL'
    have HB := HB'
    have HW := HW'
    clear HL' HB' HW'
    have c0 := cell_of_row u3 w.heap.size 0 _ _ _ HL.out
    have c1 := cell_of_row u3 w.heap.size 1 _ _ _ HL.out
    have c2 := cell_of_row u3 w.heap.size 2 _ _ _ HL.out
    have c3 := cell_of_row u3 w.heap.size 3 _ _ _ HL.out
    have c4 := cell_of_row u3 w.heap.size 4 _ _ _ HL.out
    have k1 := writeVars_any B b (l ++ X0 ++ X1 ++ [41, 32, 114, 101, 116, 117, 114, 110, 115, 32, 40]) u3 HH.out nd.outs xo no co (HV.out.outs.low HB.out) HI2.out (by rw [HX3.out]; have := HLN.out; simp only [List.length_append] at this ⊢; omega)
    rw [HX3.out] at k1
    clear HH
    go_wp2_with fail
    (with_reducible refine k1.mono ?_)
    rintro e u4 ⟨rfl, hh, hb, hw⟩
    have hz_u4 := hw.size
    have HL' := Lib.hid ((hw.block w.heap.size (Array.getElem?_eq_some_iff.1 HL.out).1 (by omega) (fun cs fr e => by rw [HL.out] at e; injection e with e; injection e with _ e _; exact absurd e (by decide))).trans HL.out)
    have HB' := Lib.hid (HB.out.trans hb)
    have HW' := Lib.hid (HW.out.trans hw)
    have HH := Lib.hid hh
    clear hh hb hw k1 HL HB HW c0 c1 c2 c3 c4
    have HL := HL'
    have HB := HB'
    have HW := HW'
    clear HL' HB' HW'
    have c0 := cell_of_row u4 w.heap.size 0 _ _ _ HL.out
    have c1 := cell_of_row u4 w.heap.size 1 _ _ _ HL.out
    have c2 := cell_of_row u4 w.heap.size 2 _ _ _ HL.out
    have c3 := cell_of_row u4 w.heap.size 3 _ _ _ HL.out
    have c4 := cell_of_row u4 w.heap.size 4 _ _ _ HL.out
    have k1 := say_at B b (l ++ X0 ++ X1 ++ [41, 32, 114, 101, 116, 117, 114, 110, 115, 32, 40] ++ X3) u4 HH.out [⟨#[41, 59, 10]⟩] 1 u4.heap.size #[.string ⟨#[41, 59, 10]⟩] [41, 59, 10] rfl rfl rfl HJ4.out (by decide) (by have := HLN.out; simp only [List.length_append] at this ⊢; omega)
    clear HH
    go_wp2_with fail
    (with_reducible refine k1.mono ?_)
    rintro e u5 ⟨rfl, hh, hb, hw⟩
    have hz_u5 := hw.size
    have HL' := Lib.hid ((hw.block w.heap.size (Array.getElem?_eq_some_iff.1 HL.out).1 (by omega) (fun cs fr e => by rw [HL.out] at e; injection e with e; injection e with _ e _; exact absurd e (by decide))).trans HL.out)
    have HB' := Lib.hid (HB.out.trans hb)
    have HW' := Lib.hid (HW.out.trans hw)
    have HH := Lib.hid hh
    clear hh hb hw k1 HL HB HW c0 c1 c2 c3 c4
    have HL := HL'
    have HB := HB'
    have HW := HW'
    clear HL' HB' HW'
    have c0 := cell_of_row u5 w.heap.size 0 _ _ _ HL.out
    have c1 := cell_of_row u5 w.heap.size 1 _ _ _ HL.out
    have c2 := cell_of_row u5 w.heap.size 2 _ _ _ HL.out
    have c3 := cell_of_row u5 w.heap.size 3 _ _ _ HL.out
    have c4 := cell_of_row u5 w.heap.size 4 _ _ _ HL.out
    have k1 := say_at B b (l ++ X0 ++ X1 ++ [41, 32, 114, 101, 116, 117, 114, 110, 115, 32, 40] ++ X3 ++ [41, 59, 10]) u5 HH.out [⟨#[108, 101, 116, 10]⟩] 1 u5.heap.size #[.string ⟨#[108, 101, 116, 10]⟩] [108, 101, 116, 10] rfl rfl rfl HJ6.out (by decide) (by have := HLN.out; simp only [List.length_append] at this ⊢; omega)
    clear HH
    go_wp2_with fail
    (with_reducible refine k1.mono ?_)
    rintro e u9 ⟨rfl, hh, hb, hw⟩
    have hz_u9 := hw.size
    have HL' := Lib.hid ((hw.block w.heap.size (Array.getElem?_eq_some_iff.1 HL.out).1 (by omega) (fun cs fr e => by rw [HL.out] at e; injection e with e; injection e with _ e _; exact absurd e (by decide))).trans HL.out)
    have HB' := Lib.hid (HB.out.trans hb)
    have HW' := Lib.hid (HW.out.trans hw)
    have HH := Lib.hid hh
    clear hh hb hw k1 HL HB HW c0 c1 c2 c3 c4
    have HL := HL'
    have HB := HB'
    have HW := HW'
    clear HL' HB' HW'
    have c0 := cell_of_row u9 w.heap.size 0 _ _ _ HL.out
    have c1 := cell_of_row u9 w.heap.size 1 _ _ _ HL.out
    have c2 := cell_of_row u9 w.heap.size 2 _ _ _ HL.out
    have c3 := cell_of_row u9 w.heap.size 3 _ _ _ HL.out
    have c4 := cell_of_row u9 w.heap.size 4 _ _ _ HL.out
    have HW9 := HW
    have HB9 := HB
    have HH9 := HH
    have HCL := Lib.hid c4
    go_wp2_with fail
    clear HCL
    obtain ⟨CU, hCU⟩ : ∃ C, C = l ++ X0 ++ X1 ++ [41, 32, 114, 101, 116, 117, 114, 110, 115, 32, 40] ++ X3 ++ [41, 59, 10] ++ [108, 101, 116, 10] := ⟨_, rfl⟩
    rw [← hCU] at HH9
    have HLE : Hid (CU.length + (eqsT nd.eqs).length + 5 ≤ 140737488355328) := Lib.hid (by rw [hCU]; have := HLN.out; simp only [List.length_append, List.length_cons, List.length_nil] at this ⊢; rw [HX7.out]; omega)
    have HFI : Hid (CU ++ eqsT nd.eqs ++ [116, 101, 108, 59, 10] = l ++ (X0 ++ X1 ++ [41, 32, 114, 101, 116, 117, 114, 110, 115, 32, 40] ++ X3 ++ [41, 59, 10] ++ [] ++ [108, 101, 116, 10] ++ X7 ++ [116, 101, 108, 59, 10])) := Lib.hid (by rw [hCU, HX7.out]; simp [List.append_assoc])
    clear hCU HLN HW HB HH HL c0 c1 c2 c3 c4
    go_loopw [45] (fun iv wr => ∃ i : Nat, iv = .int .i64 (i : Int) ∧ i ≤ ne ∧ Bld B b (CU ++ eqsT (nd.eqs.take i)) wr ∧ Below B w wr ∧ Wrote b w wr)
      (fun iv _ => ne - (intOf iv).toNat)
    case atStart => exact ⟨0, rfl, Nat.zero_le _, by simpa [eqsT] using HH9.out, HB9.out, HW9.out⟩
    case round =>
      obtain ⟨i, rfl, hil, hbl, hbw, hwr⟩ := hrel
      by_cases hin : i < ne
      · have d2 : decide ((i : Int) < (ne : Int)) = true := by simp; omega
        have hgg := HGX.out (by omega)
        have hix : ∀ W, (Instr.indexAt 33 (.slice xe ne ce) (.int .i64 (i : Int))).run Tryz.prog W = .ok (.pointer (some ⟨g, i * 7, none⟩)) W := fun W => by rw [hgg]; exact idxV_eq g ne ce i hin W
        have hik : i < nd.eqs.length := by rw [← HLK.out]; exact hin
        obtain ⟨o, m, n, a, x, lk, c, hcc, hie⟩ := (HV.out.eqs.low hbw).cells hgg i hik
        have hwk := HQ.out i hik
        have hsn : eqsT (nd.eqs.take (i + 1)) = eqsT (nd.eqs.take i) ++ eqT nd.eqs[i] := by
          rw [List.take_succ_eq_append_getElem hik, eqsT_snoc]
        have hln : (CU ++ (eqsT (nd.eqs.take i) ++ eqT nd.eqs[i])).length ≤ 140737488355328 := by
          rw [← hsn]
          have h1 : eqsT nd.eqs = eqsT (nd.eqs.take (i + 1)) ++ eqsT (nd.eqs.drop (i + 1)) := by
            unfold eqsT
            rw [← List.flatMap_append, List.take_append_drop]
          have h2 := HLE.out
          rw [h1] at h2
          simp only [List.length_append] at h2 ⊢
          omega
        obtain ⟨t, ht⟩ : ∃ t, t = nd.eqs[i] := ⟨_, rfl⟩
        rw [← ht] at hwk hsn hln hie hcc
        obtain ⟨q, qe, qa⟩ := t
        simp only at hcc hie hwk
        have q0 := hcc 0 _ rfl
        have q1 := hcc 1 _ rfl
        have q2 := hcc 2 _ rfl
        have q3 := hcc 3 _ rfl
        have q4 := hcc 4 _ rfl
        have q5 := hcc 5 _ rfl
        have q6 := hcc 6 _ rfl
        rw [Nat.add_zero] at q0
        obtain ⟨R, hR⟩ : ∃ R, R = eqsT (nd.eqs.take i) := ⟨_, rfl⟩
        rw [← hR] at hsn hln hbl
        obtain ⟨X1, hX1⟩ : ∃ X, X = [32, 32] ++ q.data.toList ++ [32, 61, 32] := ⟨_, rfl⟩
        have hqt : eqT ⟨q, qe, qa⟩ = X1 ++ textE qe ++ [59, 10] := by rw [hX1]; rfl
        rw [hqt] at hsn hln
        have hj1 : joined [⟨#[32, 32]⟩, q, ⟨#[32, 61, 32]⟩] = X1 := by rw [hX1]; simp [joined]
        have hb3 : Below wr.heap.size wr (wr.alloc (.cells #[.string ⟨#[]⟩, .string ⟨#[]⟩, .string ⟨#[]⟩, .int .i64 0, .int .i64 0, .slice none 0 0, .int .i64 0] 41)) := (Below.refl _ _).alloc (Nat.le_refl _) _
        have hn3 := heap_alloc_new wr (.cells #[.string ⟨#[]⟩, .string ⟨#[]⟩, .string ⟨#[]⟩, .int .i64 0, .int .i64 0, .slice none 0 0, .int .i64 0] 41)
        have HN3 := Lib.hid hn3
        have HB3 := Lib.hid hb3
        have HSN := Lib.hid hsn
        have HLN := Lib.hid hln
        have HBL := Lib.hid hbl
        have HBW := Lib.hid hbw
        have HWR := Lib.hid hwr
        have HIE0 := Lib.hid hie
        have HWK := Lib.hid hwk
        have HJ1 := Lib.hid hj1
        have HJ := Lib.hid HJ9.out
        have HSZ : Hid (B ≤ wr.heap.size) := Lib.hid hbl.2
        have hbz := hbl.lt
        clear hb3 hn3 hsn hln hbl hbw hwr hX1 hqt hj1 hcc hgg hie hwk ht hR HGX HLK HV HQ HH9 HB9 HW9 HLE HFI HJ0 HJ2 HJ4 HJ5 HJ6 HJ8
        go_wp2_with (
             refine wpList_store_row rfl 41 (.tmp 5) (.tmp 48) rfl wr.heap.size #[.string q, .string o, .string m, .int .i64 n, .int .i64 a, .slice x lk c, .int .i64 qa] rfl rfl 41 _ HN3.out HSQ.out rfl (qrowV_one _ _ _ _ _ _ _ _ _) ?_
             have hset := setRow_heap _ wr.heap.size _ #[.string q, .string o, .string m, .int .i64 n, .int .i64 a, .slice x lk c, .int .i64 qa] _ _ HN3.out
             have hbs := below_setRow HB3.out (Nat.le_refl _) #[.string q, .string o, .string m, .int .i64 n, .int .i64 a, .slice x lk c, .int .i64 qa]
             generalize (wr.alloc (.cells #[.string ⟨#[]⟩, .string ⟨#[]⟩, .string ⟨#[]⟩, .int .i64 0, .int .i64 0, .slice none 0 0, .int .i64 0] 41)).setRow wr.heap.size #[.string q, .string o, .string m, .int .i64 n, .int .i64 a, .slice x lk c, .int .i64 qa] = w3 at hset hbs ⊢
             have HL := Lib.hid hset
             have HB := Lib.hid (HBW.out.trans (hbs.mono HSZ.out))
             have HW := Lib.hid (HWR.out.trans (Wrote.below hbs))
             have HH := Lib.hid (HBL.out.below hbs)
             have HIE := Lib.hid (HIE0.out.low (hbs.mono HSZ.out))
             have hz_3 : wr.heap.size + 1 ≤ w3.heap.size := (Array.getElem?_eq_some_iff.1 hset).1
             have c0 := cell_of_row w3 wr.heap.size 0 _ _ _ hset
             clear hset hbs HN3 HB3 HBW HWR HBL HIE0)
        have k1 := say_at B b (CU ++ R) w3 HH.out [⟨#[32, 32]⟩, q, ⟨#[32, 61, 32]⟩] 3 w3.heap.size #[.string ⟨#[32, 32]⟩, .string q, .string ⟨#[32, 61, 32]⟩] X1 rfl rfl rfl HJ1.out (by decide) (by have := HLN.out; simp only [List.length_append] at this ⊢; omega)
        clear HH
        (with_reducible refine k1.mono ?_)
        rintro e u4 ⟨rfl, hh, hb, hw⟩
        have hz_u4 := hw.size
        have HL' := Lib.hid ((hw.block wr.heap.size (Array.getElem?_eq_some_iff.1 HL.out).1 (by omega) (fun cs fr e => by rw [HL.out] at e; injection e with e; injection e with _ e _; exact absurd e (by decide))).trans HL.out)
        have HB' := Lib.hid (HB.out.trans hb)
        have HW' := Lib.hid (HW.out.trans hw)
        have HIE' := Lib.hid (HIE.out.low hb)
        have HH := Lib.hid hh
        clear hh hb hw k1 HL HB HW HIE c0
        have HL := HL'
        have HB := HB'
        have HW := HW'
        have HIE := HIE'
        clear HL' HB' HW' HIE'
        have c1 := cell_of_row u4 wr.heap.size 1 _ _ _ HL.out
        have c2 := cell_of_row u4 wr.heap.size 2 _ _ _ HL.out
        have c3 := cell_of_row u4 wr.heap.size 3 _ _ _ HL.out
        have c4 := cell_of_row u4 wr.heap.size 4 _ _ _ HL.out
        have c5 := cell_of_row u4 wr.heap.size 5 _ _ _ HL.out
        have kx := HWK.out u4 (CU ++ R ++ X1) o m n a x lk c HB.out HH.out HIE.out (by have := HLN.out; simp only [List.length_append] at this ⊢; omega)
        unfold exV at kx
        clear HH
        go_wp2_with fail
        (with_reducible refine kx.mono ?_)
        rintro e u5 ⟨rfl, hh, hb, hw⟩
        have hz_u5 := hw.size
        have HL' := Lib.hid ((hw.block wr.heap.size (Array.getElem?_eq_some_iff.1 HL.out).1 (by omega) (fun cs fr e => by rw [HL.out] at e; injection e with e; injection e with _ e _; exact absurd e (by decide))).trans HL.out)
        have HB' := Lib.hid (HB.out.trans hb)
        have HW' := Lib.hid (HW.out.trans hw)
        have HIE' := Lib.hid (HIE.out.low hb)
        have HH := Lib.hid hh
        clear hh hb hw kx HL HB HW HIE c1 c2 c3 c4 c5
        have HL := HL'
        have HB := HB'
        have HW := HW'
        have HIE := HIE'
        clear HL' HB' HW' HIE'

        have k2 := say_at B b (CU ++ R ++ X1 ++ textE qe) u5 HH.out [⟨#[59, 10]⟩] 1 u5.heap.size #[.string ⟨#[59, 10]⟩] [59, 10] rfl rfl rfl HJ.out (by decide) (by have := HLN.out; simp only [List.length_append, List.length_cons, List.length_nil] at this ⊢; omega)
        clear HH
        go_wp2_with fail
        (with_reducible refine k2.mono ?_)
        rintro e u6 ⟨rfl, hh, hb, hw⟩
        have hz_u6 := hw.size
        have HL' := Lib.hid ((hw.block wr.heap.size (Array.getElem?_eq_some_iff.1 HL.out).1 (by omega) (fun cs fr e => by rw [HL.out] at e; injection e with e; injection e with _ e _; exact absurd e (by decide))).trans HL.out)
        have HB' := Lib.hid (HB.out.trans hb)
        have HW' := Lib.hid (HW.out.trans hw)
        have HIE' := Lib.hid (HIE.out.low hb)
        have HH := Lib.hid hh
        clear hh hb hw k2 HL HB HW HIE 
        have HL := HL'
        have HB := HB'
        have HW := HW'
        have HIE := HIE'
        clear HL' HB' HW' HIE'

        go_wp2_with fail
        refine ⟨⟨i + 1, by go_num, by omega, ?_, HB.out, HW.out⟩, ?_⟩
        · have e := HH.out
          rw [HSN.out]
          simpa [List.append_assoc] using e
        · simp [intOf]; omega
      · obtain rfl : i = ne := by omega
        have d2 : decide ((i : Int) < (i : Int)) = false := by simp
        have ht : nd.eqs.take i = nd.eqs := List.take_of_length_le (by have := HLK.out; omega)
        rw [ht] at hbl
        have k9 := say_at B b (CU ++ eqsT nd.eqs) wr hbl [⟨#[116, 101, 108, 59, 10]⟩] 1 wr.heap.size #[.string ⟨#[116, 101, 108, 59, 10]⟩] [116, 101, 108, 59, 10] rfl rfl rfl HJ8.out (by decide) (by have := HLE.out; simp only [List.length_append, List.length_cons, List.length_nil] at this ⊢; omega)
        have HBW := Lib.hid hbw
        have HWR := Lib.hid hwr
        clear ht hbl hbw hwr HGX HLK HV HQ HH9 HB9 HW9 HLE
        go_wp2_with fail
        (with_reducible refine k9.mono ?_)
        rintro e w9 ⟨rfl, h3, h4, h5⟩
        have H3 := Lib.hid h3
        have H4 := Lib.hid (HBW.out.trans h4)
        have H5 := Lib.hid (HWR.out.trans h5)
        clear h3 h4 h5 k9
        go_wp2_with fail
        go_end0
        refine ⟨rfl, ?_, H4.out, H5.out⟩
        have := H3.out
        rw [HFI.out] at this
        exact this
  · have d5 : decide (0 < nl) = true := by simp; omega
    rw [if_neg hl0] at hx5
    subst hx5
    have HLN := Lib.hid hlen
    clear h hb1 hn1 hs1 h1 hww hv hq hX0 hX1 hX3 hXL hX5 hX7 hlk hg hlen hnl2 hni hno hnl hnm hl0
    go_enter Tryz.func23, Tryz.ntmps23
    have k1 := say_at B b l w1 HH.out [⟨#[110, 111, 100, 101, 32]⟩, nm, ⟨#[40]⟩] 3 (w.heap.size + 1) #[.string ⟨#[110, 111, 100, 101, 32]⟩, .string nm, .string ⟨#[40]⟩] X0 HS1.out rfl rfl HJ0.out (by decide) (by have := HLN.out; simp only [List.length_append] at this ⊢; omega)
    clear HH
    go_wp2_with fail
    rw [← HW1.out]
    (with_reducible refine k1.mono ?_)
    rintro e u1 ⟨rfl, hh, hb, hw⟩
    have hz_u1 := hw.size
    have HL' := Lib.hid ((hw.block w.heap.size (Array.getElem?_eq_some_iff.1 HL.out).1 (by omega) (fun cs fr e => by rw [HL.out] at e; injection e with e; injection e with _ e _; exact absurd e (by decide))).trans HL.out)
    have HB' := Lib.hid (HB.out.trans hb)
    have HW' := Lib.hid (HW.out.trans hw)
    have HH := Lib.hid hh
    clear hh hb hw k1 HL HB HW c0 c1 c2 c3 c4
    have HL := HL'
    have HB := HB'
    have HW := HW'
    clear HL' HB' HW'
    have c0 := cell_of_row u1 w.heap.size 0 _ _ _ HL.out
    have c1 := cell_of_row u1 w.heap.size 1 _ _ _ HL.out
    have c2 := cell_of_row u1 w.heap.size 2 _ _ _ HL.out
    have c3 := cell_of_row u1 w.heap.size 3 _ _ _ HL.out
    have c4 := cell_of_row u1 w.heap.size 4 _ _ _ HL.out
    have k1 := writeVars_any B b (l ++ X0) u1 HH.out nd.ins xi ni ci (HV.out.ins.low HB.out) HI1.out (by rw [HX1.out]; have := HLN.out; simp only [List.length_append] at this ⊢; omega)
    rw [HX1.out] at k1
    clear HH
    go_wp2_with fail
    (with_reducible refine k1.mono ?_)
    rintro e u2 ⟨rfl, hh, hb, hw⟩
    have hz_u2 := hw.size
    have HL' := Lib.hid ((hw.block w.heap.size (Array.getElem?_eq_some_iff.1 HL.out).1 (by omega) (fun cs fr e => by rw [HL.out] at e; injection e with e; injection e with _ e _; exact absurd e (by decide))).trans HL.out)
    have HB' := Lib.hid (HB.out.trans hb)
    have HW' := Lib.hid (HW.out.trans hw)
    have HH := Lib.hid hh
    clear hh hb hw k1 HL HB HW c0 c1 c2 c3 c4
    have HL := HL'
    have HB := HB'
    have HW := HW'
    clear HL' HB' HW'
    have c0 := cell_of_row u2 w.heap.size 0 _ _ _ HL.out
    have c1 := cell_of_row u2 w.heap.size 1 _ _ _ HL.out
    have c2 := cell_of_row u2 w.heap.size 2 _ _ _ HL.out
    have c3 := cell_of_row u2 w.heap.size 3 _ _ _ HL.out
    have c4 := cell_of_row u2 w.heap.size 4 _ _ _ HL.out
    have k1 := say_at B b (l ++ X0 ++ X1) u2 HH.out [⟨#[41, 32, 114, 101, 116, 117, 114, 110, 115, 32, 40]⟩] 1 u2.heap.size #[.string ⟨#[41, 32, 114, 101, 116, 117, 114, 110, 115, 32, 40]⟩] [41, 32, 114, 101, 116, 117, 114, 110, 115, 32, 40] rfl rfl rfl HJ2.out (by decide) (by have := HLN.out; simp only [List.length_append] at this ⊢; omega)
    clear HH
    go_wp2_with fail
    (with_reducible refine k1.mono ?_)
    rintro e u3 ⟨rfl, hh, hb, hw⟩
    have hz_u3 := hw.size
    have HL' := Lib.hid ((hw.block w.heap.size (Array.getElem?_eq_some_iff.1 HL.out).1 (by omega) (fun cs fr e => by rw [HL.out] at e; injection e with e; injection e with _ e _; exact absurd e (by decide))).trans HL.out)
    have HB' := Lib.hid (HB.out.trans hb)
    have HW' := Lib.hid (HW.out.trans hw)
    have HH := Lib.hid hh
    clear hh hb hw k1 HL HB HW c0 c1 c2 c3 c4
    have HL := HL'
    have HB := HB'
    have HW := HW'
    clear HL' HB' HW'
    have c0 := cell_of_row u3 w.heap.size 0 _ _ _ HL.out
    have c1 := cell_of_row u3 w.heap.size 1 _ _ _ HL.out
    have c2 := cell_of_row u3 w.heap.size 2 _ _ _ HL.out
    have c3 := cell_of_row u3 w.heap.size 3 _ _ _ HL.out
    have c4 := cell_of_row u3 w.heap.size 4 _ _ _ HL.out
    have k1 := writeVars_any B b (l ++ X0 ++ X1 ++ [41, 32, 114, 101, 116, 117, 114, 110, 115, 32, 40]) u3 HH.out nd.outs xo no co (HV.out.outs.low HB.out) HI2.out (by rw [HX3.out]; have := HLN.out; simp only [List.length_append] at this ⊢; omega)
    rw [HX3.out] at k1
    clear HH
    go_wp2_with fail
    (with_reducible refine k1.mono ?_)
    rintro e u4 ⟨rfl, hh, hb, hw⟩
    have hz_u4 := hw.size
    have HL' := Lib.hid ((hw.block w.heap.size (Array.getElem?_eq_some_iff.1 HL.out).1 (by omega) (fun cs fr e => by rw [HL.out] at e; injection e with e; injection e with _ e _; exact absurd e (by decide))).trans HL.out)
    have HB' := Lib.hid (HB.out.trans hb)
    have HW' := Lib.hid (HW.out.trans hw)
    have HH := Lib.hid hh
    clear hh hb hw k1 HL HB HW c0 c1 c2 c3 c4
    have HL := HL'
    have HB := HB'
    have HW := HW'
    clear HL' HB' HW'
    have c0 := cell_of_row u4 w.heap.size 0 _ _ _ HL.out
    have c1 := cell_of_row u4 w.heap.size 1 _ _ _ HL.out
    have c2 := cell_of_row u4 w.heap.size 2 _ _ _ HL.out
    have c3 := cell_of_row u4 w.heap.size 3 _ _ _ HL.out
    have c4 := cell_of_row u4 w.heap.size 4 _ _ _ HL.out
    have k1 := say_at B b (l ++ X0 ++ X1 ++ [41, 32, 114, 101, 116, 117, 114, 110, 115, 32, 40] ++ X3) u4 HH.out [⟨#[41, 59, 10]⟩] 1 u4.heap.size #[.string ⟨#[41, 59, 10]⟩] [41, 59, 10] rfl rfl rfl HJ4.out (by decide) (by have := HLN.out; simp only [List.length_append] at this ⊢; omega)
    clear HH
    go_wp2_with fail
    (with_reducible refine k1.mono ?_)
    rintro e u5 ⟨rfl, hh, hb, hw⟩
    have hz_u5 := hw.size
    have HL' := Lib.hid ((hw.block w.heap.size (Array.getElem?_eq_some_iff.1 HL.out).1 (by omega) (fun cs fr e => by rw [HL.out] at e; injection e with e; injection e with _ e _; exact absurd e (by decide))).trans HL.out)
    have HB' := Lib.hid (HB.out.trans hb)
    have HW' := Lib.hid (HW.out.trans hw)
    have HH := Lib.hid hh
    clear hh hb hw k1 HL HB HW c0 c1 c2 c3 c4
    have HL := HL'
    have HB := HB'
    have HW := HW'
    clear HL' HB' HW'
    have c0 := cell_of_row u5 w.heap.size 0 _ _ _ HL.out
    have c1 := cell_of_row u5 w.heap.size 1 _ _ _ HL.out
    have c2 := cell_of_row u5 w.heap.size 2 _ _ _ HL.out
    have c3 := cell_of_row u5 w.heap.size 3 _ _ _ HL.out
    have c4 := cell_of_row u5 w.heap.size 4 _ _ _ HL.out
    have k1 := say_at B b (l ++ X0 ++ X1 ++ [41, 32, 114, 101, 116, 117, 114, 110, 115, 32, 40] ++ X3 ++ [41, 59, 10]) u5 HH.out [⟨#[118, 97, 114, 32]⟩] 1 u5.heap.size #[.string ⟨#[118, 97, 114, 32]⟩] [118, 97, 114, 32] rfl rfl rfl HJ5.out (by decide) (by have := HLN.out; simp only [List.length_append] at this ⊢; omega)
    clear HH
    go_wp2_with fail
    (with_reducible refine k1.mono ?_)
    rintro e u6 ⟨rfl, hh, hb, hw⟩
    have hz_u6 := hw.size
    have HL' := Lib.hid ((hw.block w.heap.size (Array.getElem?_eq_some_iff.1 HL.out).1 (by omega) (fun cs fr e => by rw [HL.out] at e; injection e with e; injection e with _ e _; exact absurd e (by decide))).trans HL.out)
    have HB' := Lib.hid (HB.out.trans hb)
    have HW' := Lib.hid (HW.out.trans hw)
    have HH := Lib.hid hh
    clear hh hb hw k1 HL HB HW c0 c1 c2 c3 c4
    have HL := HL'
    have HB := HB'
    have HW := HW'
    clear HL' HB' HW'
    have c0 := cell_of_row u6 w.heap.size 0 _ _ _ HL.out
    have c1 := cell_of_row u6 w.heap.size 1 _ _ _ HL.out
    have c2 := cell_of_row u6 w.heap.size 2 _ _ _ HL.out
    have c3 := cell_of_row u6 w.heap.size 3 _ _ _ HL.out
    have c4 := cell_of_row u6 w.heap.size 4 _ _ _ HL.out
    have k1 := writeVars_any B b (l ++ X0 ++ X1 ++ [41, 32, 114, 101, 116, 117, 114, 110, 115, 32, 40] ++ X3 ++ [41, 59, 10] ++ [118, 97, 114, 32]) u6 HH.out nd.locs xl nl cl (HV.out.locs.low HB.out) HI3.out (by rw [HXL.out]; have := HLN.out; simp only [List.length_append] at this ⊢; omega)
    rw [HXL.out] at k1
    clear HH
    go_wp2_with fail
    (with_reducible refine k1.mono ?_)
    rintro e u7 ⟨rfl, hh, hb, hw⟩
    have hz_u7 := hw.size
    have HL' := Lib.hid ((hw.block w.heap.size (Array.getElem?_eq_some_iff.1 HL.out).1 (by omega) (fun cs fr e => by rw [HL.out] at e; injection e with e; injection e with _ e _; exact absurd e (by decide))).trans HL.out)
    have HB' := Lib.hid (HB.out.trans hb)
    have HW' := Lib.hid (HW.out.trans hw)
    have HH := Lib.hid hh
    clear hh hb hw k1 HL HB HW c0 c1 c2 c3 c4
    have HL := HL'
    have HB := HB'
    have HW := HW'
    clear HL' HB' HW'
    have c0 := cell_of_row u7 w.heap.size 0 _ _ _ HL.out
    have c1 := cell_of_row u7 w.heap.size 1 _ _ _ HL.out
    have c2 := cell_of_row u7 w.heap.size 2 _ _ _ HL.out
    have c3 := cell_of_row u7 w.heap.size 3 _ _ _ HL.out
    have c4 := cell_of_row u7 w.heap.size 4 _ _ _ HL.out
    have k1 := say_at B b (l ++ X0 ++ X1 ++ [41, 32, 114, 101, 116, 117, 114, 110, 115, 32, 40] ++ X3 ++ [41, 59, 10] ++ [118, 97, 114, 32] ++ XL) u7 HH.out [⟨#[59, 10]⟩] 1 u7.heap.size #[.string ⟨#[59, 10]⟩] [59, 10] rfl rfl rfl HJ9.out (by decide) (by have := HLN.out; simp only [List.length_append] at this ⊢; omega)
    clear HH
    go_wp2_with fail
    (with_reducible refine k1.mono ?_)
    rintro e u8 ⟨rfl, hh, hb, hw⟩
    have hz_u8 := hw.size
    have HL' := Lib.hid ((hw.block w.heap.size (Array.getElem?_eq_some_iff.1 HL.out).1 (by omega) (fun cs fr e => by rw [HL.out] at e; injection e with e; injection e with _ e _; exact absurd e (by decide))).trans HL.out)
    have HB' := Lib.hid (HB.out.trans hb)
    have HW' := Lib.hid (HW.out.trans hw)
    have HH := Lib.hid hh
    clear hh hb hw k1 HL HB HW c0 c1 c2 c3 c4
    have HL := HL'
    have HB := HB'
    have HW := HW'
    clear HL' HB' HW'
    have c0 := cell_of_row u8 w.heap.size 0 _ _ _ HL.out
    have c1 := cell_of_row u8 w.heap.size 1 _ _ _ HL.out
    have c2 := cell_of_row u8 w.heap.size 2 _ _ _ HL.out
    have c3 := cell_of_row u8 w.heap.size 3 _ _ _ HL.out
    have c4 := cell_of_row u8 w.heap.size 4 _ _ _ HL.out
    have k1 := say_at B b (l ++ X0 ++ X1 ++ [41, 32, 114, 101, 116, 117, 114, 110, 115, 32, 40] ++ X3 ++ [41, 59, 10] ++ [118, 97, 114, 32] ++ XL ++ [59, 10]) u8 HH.out [⟨#[108, 101, 116, 10]⟩] 1 u8.heap.size #[.string ⟨#[108, 101, 116, 10]⟩] [108, 101, 116, 10] rfl rfl rfl HJ6.out (by decide) (by have := HLN.out; simp only [List.length_append] at this ⊢; omega)
    clear HH
    go_wp2_with fail
    (with_reducible refine k1.mono ?_)
    rintro e u9 ⟨rfl, hh, hb, hw⟩
    have hz_u9 := hw.size
    have HL' := Lib.hid ((hw.block w.heap.size (Array.getElem?_eq_some_iff.1 HL.out).1 (by omega) (fun cs fr e => by rw [HL.out] at e; injection e with e; injection e with _ e _; exact absurd e (by decide))).trans HL.out)
    have HB' := Lib.hid (HB.out.trans hb)
    have HW' := Lib.hid (HW.out.trans hw)
    have HH := Lib.hid hh
    clear hh hb hw k1 HL HB HW c0 c1 c2 c3 c4
    have HL := HL'
    have HB := HB'
    have HW := HW'
    clear HL' HB' HW'
    have c0 := cell_of_row u9 w.heap.size 0 _ _ _ HL.out
    have c1 := cell_of_row u9 w.heap.size 1 _ _ _ HL.out
    have c2 := cell_of_row u9 w.heap.size 2 _ _ _ HL.out
    have c3 := cell_of_row u9 w.heap.size 3 _ _ _ HL.out
    have c4 := cell_of_row u9 w.heap.size 4 _ _ _ HL.out
    have HW9 := HW
    have HB9 := HB
    have HH9 := HH
    have HCL := Lib.hid c4
    go_wp2_with fail
    clear HCL
    obtain ⟨CU, hCU⟩ : ∃ C, C = l ++ X0 ++ X1 ++ [41, 32, 114, 101, 116, 117, 114, 110, 115, 32, 40] ++ X3 ++ [41, 59, 10] ++ [118, 97, 114, 32] ++ XL ++ [59, 10] ++ [108, 101, 116, 10] := ⟨_, rfl⟩
    rw [← hCU] at HH9
    have HLE : Hid (CU.length + (eqsT nd.eqs).length + 5 ≤ 140737488355328) := Lib.hid (by rw [hCU]; have := HLN.out; simp only [List.length_append, List.length_cons, List.length_nil] at this ⊢; rw [HX7.out]; omega)
    have HFI : Hid (CU ++ eqsT nd.eqs ++ [116, 101, 108, 59, 10] = l ++ (X0 ++ X1 ++ [41, 32, 114, 101, 116, 117, 114, 110, 115, 32, 40] ++ X3 ++ [41, 59, 10] ++ ([118, 97, 114, 32] ++ XL ++ [59, 10]) ++ [108, 101, 116, 10] ++ X7 ++ [116, 101, 108, 59, 10])) := Lib.hid (by rw [hCU, HX7.out]; simp [List.append_assoc])
    clear hCU HLN HW HB HH HL c0 c1 c2 c3 c4
    go_loopw [45] (fun iv wr => ∃ i : Nat, iv = .int .i64 (i : Int) ∧ i ≤ ne ∧ Bld B b (CU ++ eqsT (nd.eqs.take i)) wr ∧ Below B w wr ∧ Wrote b w wr)
      (fun iv _ => ne - (intOf iv).toNat)
    case atStart => exact ⟨0, rfl, Nat.zero_le _, by simpa [eqsT] using HH9.out, HB9.out, HW9.out⟩
    case round =>
      obtain ⟨i, rfl, hil, hbl, hbw, hwr⟩ := hrel
      by_cases hin : i < ne
      · have d2 : decide ((i : Int) < (ne : Int)) = true := by simp; omega
        have hgg := HGX.out (by omega)
        have hix : ∀ W, (Instr.indexAt 33 (.slice xe ne ce) (.int .i64 (i : Int))).run Tryz.prog W = .ok (.pointer (some ⟨g, i * 7, none⟩)) W := fun W => by rw [hgg]; exact idxV_eq g ne ce i hin W
        have hik : i < nd.eqs.length := by rw [← HLK.out]; exact hin
        obtain ⟨o, m, n, a, x, lk, c, hcc, hie⟩ := (HV.out.eqs.low hbw).cells hgg i hik
        have hwk := HQ.out i hik
        have hsn : eqsT (nd.eqs.take (i + 1)) = eqsT (nd.eqs.take i) ++ eqT nd.eqs[i] := by
          rw [List.take_succ_eq_append_getElem hik, eqsT_snoc]
        have hln : (CU ++ (eqsT (nd.eqs.take i) ++ eqT nd.eqs[i])).length ≤ 140737488355328 := by
          rw [← hsn]
          have h1 : eqsT nd.eqs = eqsT (nd.eqs.take (i + 1)) ++ eqsT (nd.eqs.drop (i + 1)) := by
            unfold eqsT
            rw [← List.flatMap_append, List.take_append_drop]
          have h2 := HLE.out
          rw [h1] at h2
          simp only [List.length_append] at h2 ⊢
          omega
        obtain ⟨t, ht⟩ : ∃ t, t = nd.eqs[i] := ⟨_, rfl⟩
        rw [← ht] at hwk hsn hln hie hcc
        obtain ⟨q, qe, qa⟩ := t
        simp only at hcc hie hwk
        have q0 := hcc 0 _ rfl
        have q1 := hcc 1 _ rfl
        have q2 := hcc 2 _ rfl
        have q3 := hcc 3 _ rfl
        have q4 := hcc 4 _ rfl
        have q5 := hcc 5 _ rfl
        have q6 := hcc 6 _ rfl
        rw [Nat.add_zero] at q0
        obtain ⟨R, hR⟩ : ∃ R, R = eqsT (nd.eqs.take i) := ⟨_, rfl⟩
        rw [← hR] at hsn hln hbl
        obtain ⟨X1, hX1⟩ : ∃ X, X = [32, 32] ++ q.data.toList ++ [32, 61, 32] := ⟨_, rfl⟩
        have hqt : eqT ⟨q, qe, qa⟩ = X1 ++ textE qe ++ [59, 10] := by rw [hX1]; rfl
        rw [hqt] at hsn hln
        have hj1 : joined [⟨#[32, 32]⟩, q, ⟨#[32, 61, 32]⟩] = X1 := by rw [hX1]; simp [joined]
        have hb3 : Below wr.heap.size wr (wr.alloc (.cells #[.string ⟨#[]⟩, .string ⟨#[]⟩, .string ⟨#[]⟩, .int .i64 0, .int .i64 0, .slice none 0 0, .int .i64 0] 41)) := (Below.refl _ _).alloc (Nat.le_refl _) _
        have hn3 := heap_alloc_new wr (.cells #[.string ⟨#[]⟩, .string ⟨#[]⟩, .string ⟨#[]⟩, .int .i64 0, .int .i64 0, .slice none 0 0, .int .i64 0] 41)
        have HN3 := Lib.hid hn3
        have HB3 := Lib.hid hb3
        have HSN := Lib.hid hsn
        have HLN := Lib.hid hln
        have HBL := Lib.hid hbl
        have HBW := Lib.hid hbw
        have HWR := Lib.hid hwr
        have HIE0 := Lib.hid hie
        have HWK := Lib.hid hwk
        have HJ1 := Lib.hid hj1
        have HJ := Lib.hid HJ9.out
        have HSZ : Hid (B ≤ wr.heap.size) := Lib.hid hbl.2
        have hbz := hbl.lt
        clear hb3 hn3 hsn hln hbl hbw hwr hX1 hqt hj1 hcc hgg hie hwk ht hR HGX HLK HV HQ HH9 HB9 HW9 HLE HFI HJ0 HJ2 HJ4 HJ5 HJ6 HJ8
        go_wp2_with (
             refine wpList_store_row rfl 41 (.tmp 5) (.tmp 48) rfl wr.heap.size #[.string q, .string o, .string m, .int .i64 n, .int .i64 a, .slice x lk c, .int .i64 qa] rfl rfl 41 _ HN3.out HSQ.out rfl (qrowV_one _ _ _ _ _ _ _ _ _) ?_
             have hset := setRow_heap _ wr.heap.size _ #[.string q, .string o, .string m, .int .i64 n, .int .i64 a, .slice x lk c, .int .i64 qa] _ _ HN3.out
             have hbs := below_setRow HB3.out (Nat.le_refl _) #[.string q, .string o, .string m, .int .i64 n, .int .i64 a, .slice x lk c, .int .i64 qa]
             generalize (wr.alloc (.cells #[.string ⟨#[]⟩, .string ⟨#[]⟩, .string ⟨#[]⟩, .int .i64 0, .int .i64 0, .slice none 0 0, .int .i64 0] 41)).setRow wr.heap.size #[.string q, .string o, .string m, .int .i64 n, .int .i64 a, .slice x lk c, .int .i64 qa] = w3 at hset hbs ⊢
             have HL := Lib.hid hset
             have HB := Lib.hid (HBW.out.trans (hbs.mono HSZ.out))
             have HW := Lib.hid (HWR.out.trans (Wrote.below hbs))
             have HH := Lib.hid (HBL.out.below hbs)
             have HIE := Lib.hid (HIE0.out.low (hbs.mono HSZ.out))
             have hz_3 : wr.heap.size + 1 ≤ w3.heap.size := (Array.getElem?_eq_some_iff.1 hset).1
             have c0 := cell_of_row w3 wr.heap.size 0 _ _ _ hset
             clear hset hbs HN3 HB3 HBW HWR HBL HIE0)
        have k1 := say_at B b (CU ++ R) w3 HH.out [⟨#[32, 32]⟩, q, ⟨#[32, 61, 32]⟩] 3 w3.heap.size #[.string ⟨#[32, 32]⟩, .string q, .string ⟨#[32, 61, 32]⟩] X1 rfl rfl rfl HJ1.out (by decide) (by have := HLN.out; simp only [List.length_append] at this ⊢; omega)
        clear HH
        (with_reducible refine k1.mono ?_)
        rintro e u4 ⟨rfl, hh, hb, hw⟩
        have hz_u4 := hw.size
        have HL' := Lib.hid ((hw.block wr.heap.size (Array.getElem?_eq_some_iff.1 HL.out).1 (by omega) (fun cs fr e => by rw [HL.out] at e; injection e with e; injection e with _ e _; exact absurd e (by decide))).trans HL.out)
        have HB' := Lib.hid (HB.out.trans hb)
        have HW' := Lib.hid (HW.out.trans hw)
        have HIE' := Lib.hid (HIE.out.low hb)
        have HH := Lib.hid hh
        clear hh hb hw k1 HL HB HW HIE c0
        have HL := HL'
        have HB := HB'
        have HW := HW'
        have HIE := HIE'
        clear HL' HB' HW' HIE'
        have c1 := cell_of_row u4 wr.heap.size 1 _ _ _ HL.out
        have c2 := cell_of_row u4 wr.heap.size 2 _ _ _ HL.out
        have c3 := cell_of_row u4 wr.heap.size 3 _ _ _ HL.out
        have c4 := cell_of_row u4 wr.heap.size 4 _ _ _ HL.out
        have c5 := cell_of_row u4 wr.heap.size 5 _ _ _ HL.out
        have kx := HWK.out u4 (CU ++ R ++ X1) o m n a x lk c HB.out HH.out HIE.out (by have := HLN.out; simp only [List.length_append] at this ⊢; omega)
        unfold exV at kx
        clear HH
        go_wp2_with fail
        (with_reducible refine kx.mono ?_)
        rintro e u5 ⟨rfl, hh, hb, hw⟩
        have hz_u5 := hw.size
        have HL' := Lib.hid ((hw.block wr.heap.size (Array.getElem?_eq_some_iff.1 HL.out).1 (by omega) (fun cs fr e => by rw [HL.out] at e; injection e with e; injection e with _ e _; exact absurd e (by decide))).trans HL.out)
        have HB' := Lib.hid (HB.out.trans hb)
        have HW' := Lib.hid (HW.out.trans hw)
        have HIE' := Lib.hid (HIE.out.low hb)
        have HH := Lib.hid hh
        clear hh hb hw kx HL HB HW HIE c1 c2 c3 c4 c5
        have HL := HL'
        have HB := HB'
        have HW := HW'
        have HIE := HIE'
        clear HL' HB' HW' HIE'

        have k2 := say_at B b (CU ++ R ++ X1 ++ textE qe) u5 HH.out [⟨#[59, 10]⟩] 1 u5.heap.size #[.string ⟨#[59, 10]⟩] [59, 10] rfl rfl rfl HJ.out (by decide) (by have := HLN.out; simp only [List.length_append, List.length_cons, List.length_nil] at this ⊢; omega)
        clear HH
        go_wp2_with fail
        (with_reducible refine k2.mono ?_)
        rintro e u6 ⟨rfl, hh, hb, hw⟩
        have hz_u6 := hw.size
        have HL' := Lib.hid ((hw.block wr.heap.size (Array.getElem?_eq_some_iff.1 HL.out).1 (by omega) (fun cs fr e => by rw [HL.out] at e; injection e with e; injection e with _ e _; exact absurd e (by decide))).trans HL.out)
        have HB' := Lib.hid (HB.out.trans hb)
        have HW' := Lib.hid (HW.out.trans hw)
        have HIE' := Lib.hid (HIE.out.low hb)
        have HH := Lib.hid hh
        clear hh hb hw k2 HL HB HW HIE 
        have HL := HL'
        have HB := HB'
        have HW := HW'
        have HIE := HIE'
        clear HL' HB' HW' HIE'

        go_wp2_with fail
        refine ⟨⟨i + 1, by go_num, by omega, ?_, HB.out, HW.out⟩, ?_⟩
        · have e := HH.out
          rw [HSN.out]
          simpa [List.append_assoc] using e
        · simp [intOf]; omega
      · obtain rfl : i = ne := by omega
        have d2 : decide ((i : Int) < (i : Int)) = false := by simp
        have ht : nd.eqs.take i = nd.eqs := List.take_of_length_le (by have := HLK.out; omega)
        rw [ht] at hbl
        have k9 := say_at B b (CU ++ eqsT nd.eqs) wr hbl [⟨#[116, 101, 108, 59, 10]⟩] 1 wr.heap.size #[.string ⟨#[116, 101, 108, 59, 10]⟩] [116, 101, 108, 59, 10] rfl rfl rfl HJ8.out (by decide) (by have := HLE.out; simp only [List.length_append, List.length_cons, List.length_nil] at this ⊢; omega)
        have HBW := Lib.hid hbw
        have HWR := Lib.hid hwr
        clear ht hbl hbw hwr HGX HLK HV HQ HH9 HB9 HW9 HLE
        go_wp2_with fail
        (with_reducible refine k9.mono ?_)
        rintro e w9 ⟨rfl, h3, h4, h5⟩
        have H3 := Lib.hid h3
        have H4 := Lib.hid (HBW.out.trans h4)
        have H5 := Lib.hid (HWR.out.trans h5)
        clear h3 h4 h5 k9
        go_wp2_with fail
        go_end0
        refine ⟨rfl, ?_, H4.out, H5.out⟩
        have := H3.out
        rw [HFI.out] at this
        exact this
end Go.Proofs.YtfgjgnfbhfhkjaaGreatDoor

namespace Go.Proofs
open Go.Shelf
def Tryz.lays169_ren : Go.Shelf.Ren := ⟨fun | 169 => 22 | n => n, fun | 70 => 69 | 9 => 9 | 0 => 0 | 72 => 72 | 37 => 70 | 127 => 93 | 3 => 3 | 5 => 5 | n => n, fun | n => n⟩
theorem Tryz.lays169 : Go.Proofs.Lays.n169 Tryz.prog Tryz.lays169_ren := {
  mixed := by kernel_rfl
  f169 := Tryz.func22.trans (congrArg some (by kernel_rfl))
  t0 := Tryz.underlying0
  a0 := Tryz.isAgg0
  z0 := Tryz.sizeOf0
  v0 := Tryz.zeroValue0
  t3 := Tryz.underlying3
  a3 := Tryz.isAgg3
  z3 := Tryz.sizeOf3
  v3 := Tryz.zeroValue3
  t9 := Tryz.underlying9
  a9 := Tryz.isAgg9
  z9 := Tryz.sizeOf9
  v9 := Tryz.zeroValue9
  t37 := Tryz.underlying70
  a37 := Tryz.isAgg70
  z37 := Tryz.sizeOf70
  v37 := Tryz.zeroValue70
  t70 := Tryz.underlying69
  a70 := Tryz.isAgg69
  z70 := Tryz.sizeOf69
  v70 := Tryz.zeroValue69
  t72 := Tryz.underlying72
  a72 := Tryz.isAgg72
  z72 := Tryz.sizeOf72
  v72 := Tryz.zeroValue72
  t127 := Tryz.underlying93
  a127 := Tryz.isAgg93
  z127 := Tryz.sizeOf93
  v127 := Tryz.zeroValue93 }
theorem Tryz.Builder_Extra_169 : Builder.Extra Tryz.prog Tryz.lays169_ren := {
  sizeBuilder := by kernel_rfl
  liesBuilder := by kernel_rfl
  t5 := Tryz.underlying5
  a5 := Tryz.isAgg5
  z5 := Tryz.sizeOf5
  v5 := Tryz.zeroValue5
  infoByte := by kernel_rfl
  cellsByte := by kernel_rfl
  sizeByte := by kernel_rfl
  neB5 := by decide }
open Go.RowKit in
theorem Tryz.Builder_String_any (B b : Nat) (l : List UInt8) (w : World) (h : Lib.IsBuilder 72 5 B b (Lib.byteCells l) w) (hBw : B ≤ w.heap.size) :
    Calls Tryz.prog 22 #[.pointer (some ⟨b, 0, none⟩)] w fun e w' => e = .returned (.string ⟨l.toArray⟩) ∧ Below B w w' := Any.Builder_String_any Tryz.lays169 Tryz.Builder_Extra_169 B b l w h hBw
end Go.Proofs

namespace Go.Proofs.YtfgjgnfbhfhkjaaGreatDoor
open Go Go.RowKit
/-- Nodes as they are written. -/
def showT (l : List Nd) : List UInt8 := l.flatMap nodeT
theorem showT_snoc (l : List Nd) (q : Nd) : showT (l ++ [q]) = showT l ++ nodeT q := by simp [showT]
/-- A node whose numbers fit. -/
structure FineN (nd : Nd) : Prop where
  ins : nd.ins.length < 1000000000000
  outs : nd.outs.length < 1000000000000
  locs : nd.locs.length < 1000000000000
  eqs : nd.eqs.length < 1000000000000
  ex : ∀ q ∈ nd.eqs, FineE q.e
/-- Nodes in memory, below block B. -/
def NodesV (w : World) (B : Nat) (x : Option Addr) (n : Nat) (l : List Nd) : Prop := n = l.length ∧ ∃ g, 0 < n → x = some ⟨g, 0, none⟩ ∧ g < B ∧ g < w.heap.size ∧ ∀ (i : Nat) (h : i < l.length), ∃ xi xo xl xe ni no nl ne ci co cl ce, (∀ (j : Nat) (u : Value), (rowN (l[i]).name (.slice xi ni ci) (.slice xo no co) (.slice xl nl cl) (.slice xe ne ce) ((l[i]).at_ : Int))[j]? = some u → w.cell? ⟨g, i * 6 + j, none⟩ = some u) ∧ NodeV w B xi xo xl xe ni no nl ne l[i]
theorem NodeV.of_np {w : World} {B : Nat} {vi vo vl ve : Value} {nd : Nd} (h : IsNP (fun k => k < B) w vi vo vl ve nd) : ∃ xi xo xl xe ni no nl ne ci co cl ce, vi = .slice xi ni ci ∧ vo = .slice xo no co ∧ vl = .slice xl nl cl ∧ ve = .slice xe ne ce ∧ NodeV w B xi xo xl xe ni no nl ne nd := by
  obtain ⟨xi, ci, e1, h1⟩ := VarsV.of_own h.ins (h.all _ (.inl rfl))
  obtain ⟨xo, co, e2, h2⟩ := VarsV.of_own h.outs (h.all _ (.inr (.inl rfl)))
  obtain ⟨xl, cl, e3, h3⟩ := VarsV.of_own h.locs (h.all _ (.inr (.inr (.inl rfl))))
  obtain ⟨xs, h4, h5⟩ := h.eqs
  obtain ⟨xe, ce, e4, h6⟩ := EqsV.of_own h4 h5 (h.all _ (.inr (.inr (.inr rfl))))
  exact ⟨xi, xo, xl, xe, _, _, _, _, ci, co, cl, ce, e1, e2, e3, e4, h1, h2, h3, h6⟩
theorem rowsN_nth {B : Nat} {w : World} : ∀ (l : List Nd) (xs : List Value), RowsN (fun k => k < B) w xs l → ∀ (i : Nat) (h : i < l.length), ∃ xi xo xl xe ni no nl ne ci co cl ce, (∀ (j : Nat) (u : Value), (rowN (l[i]).name (.slice xi ni ci) (.slice xo no co) (.slice xl nl cl) (.slice xe ne ce) ((l[i]).at_ : Int))[j]? = some u → xs[i * 6 + j]? = some u) ∧ NodeV w B xi xo xl xe ni no nl ne l[i]
  | [], _, _, i, h => by simp at h
  | q :: r, xs, ⟨vi, vo, vl, ve, ys, h1, h2, h3⟩, 0, _ => by
    obtain ⟨xi, xo, xl, xe, ni, no, nl, ne, ci, co, cl, ce, rfl, rfl, rfl, rfl, hv⟩ := NodeV.of_np h2
    refine ⟨xi, xo, xl, xe, ni, no, nl, ne, ci, co, cl, ce, fun j u hu => ?_, hv⟩
    rw [h1, Nat.zero_mul, Nat.zero_add, List.getElem?_append_left (by have := (List.getElem?_eq_some_iff.1 hu).1; exact this)]
    exact hu
  | q :: r, xs, ⟨vi, vo, vl, ve, ys, h1, h2, h3⟩, i + 1, h => by
    obtain ⟨xi, xo, xl, xe, ni, no, nl, ne, ci, co, cl, ce, e1, e2⟩ := rowsN_nth r ys h3 i (by simpa using h)
    refine ⟨xi, xo, xl, xe, ni, no, nl, ne, ci, co, cl, ce, fun j u hu => ?_, e2⟩
    have hl : (rowN q.name vi vo vl ve (q.at_ : Int)).length = 6 := rfl
    rw [h1, List.getElem?_append_right (by rw [hl]; omega), hl, show (i + 1) * 6 + j - 6 = i * 6 + j by omega]
    exact e1 j u (by simpa using hu)
theorem NodesV.of_own {w : World} {B : Nat} {v : Value} {l : List Nd} {xs : List Value} (h : w.ownsRow 0 35 6 v l.length xs) (hr : RowsN (fun k => k < B) w xs l) (hb : ∀ k, v.ownBlock = some k → k < B ∧ k < w.heap.size) : ∃ x c, v = .slice x l.length c ∧ NodesV w B x l.length l := by
  rcases h.2 with ⟨rfl, h0⟩ | ⟨g, cap, cur, rfl, _⟩
  · exact ⟨none, 0, by rw [h0], rfl, 0, fun hl => by omega⟩
  · refine ⟨_, cap, rfl, rfl, g, fun hl => ⟨rfl, (hb g rfl).1, (hb g rfl).2, fun i hi => ?_⟩⟩
    obtain ⟨xi, xo, xl, xe, ni, no, nl, ne, ci, co, cl, ce, e1, e2⟩ := rowsN_nth l xs hr i hi
    refine ⟨xi, xo, xl, xe, ni, no, nl, ne, ci, co, cl, ce, fun j u hu => ?_, e2⟩
    have := h.cells rfl (i * 6 + j) u (e1 j u hu)
    rw [Addr.add_lit] at this
    simpa using this
theorem NodesV.low {w w' : World} {B n : Nat} {x : Option Addr} {l : List Nd} (h : NodesV w B x n l) (hb : Below B w w') : NodesV w' B x n l := by
  obtain ⟨h1, g, h2⟩ := h
  refine ⟨h1, g, fun hl => ?_⟩
  obtain ⟨e1, e2, e3, e4⟩ := h2 hl
  refine ⟨e1, e2, Nat.lt_of_lt_of_le e3 hb.size, fun i hi => ?_⟩
  obtain ⟨xi, xo, xl, xe, ni, no, nl, ne, ci, co, cl, ce, f1, f2⟩ := e4 i hi
  refine ⟨xi, xo, xl, xe, ni, no, nl, ne, ci, co, cl, ce, fun j u hu => ?_, f2.low hb⟩
  have := f1 j u hu
  simp only [World.cell?, hb.block g e2] at this ⊢
  exact this
theorem NodesV.cells {w : World} {B n : Nat} {x : Option Addr} {l : List Nd} (h : NodesV w B x n l) {g : Nat} (hx : x = some ⟨g, 0, none⟩) (i : Nat) (hi : i < l.length) : ∃ xi xo xl xe ni no nl ne ci co cl ce, (∀ (j : Nat) (u : Value), (rowN (l[i]).name (.slice xi ni ci) (.slice xo no co) (.slice xl nl cl) (.slice xe ne ce) ((l[i]).at_ : Int))[j]? = some u → w.cell? ⟨g, i * 6 + j, none⟩ = some u) ∧ NodeV w B xi xo xl xe ni no nl ne l[i] := by
  obtain ⟨h1, g2, h2⟩ := h
  obtain ⟨e1, _, _, e4⟩ := h2 (by omega)
  rw [hx] at e1
  injection e1 with e1
  injection e1 with e1
  subst e1
  exact e4 i hi
/-- What Parse handed back, as Show, Same and others find it. -/
theorem NodesV.of_ownN {w : World} {b : Nat} {v : Value} {l : List Nd} (h : OwnN w b v l) : ∃ x c, v = .slice x l.length c ∧ NodesV w w.heap.size x l.length l := by
  obtain ⟨xs, h1, h2⟩ := h
  refine NodesV.of_own (own_weaken' h1 (Nat.zero_le _)) (h2.keep (Nat.le_refl _) (fun _ _ _ => rfl) (fun k _ hl => hl)) (fun k hk => ?_)
  have := (h1.lt k hk).2
  exact ⟨this, this⟩
theorem sizeV_node : (Tryz.prog.info? 35).map (·.size) = some 6 := by kernel_rfl
theorem idxV_node (g n cap i : Nat) (hi : i < n) (W : World) : (Instr.indexAt 23 (.slice (some ⟨g, 0, none⟩) n cap) (.int .i64 (i : Int))).run Tryz.prog W = .ok (.pointer (some ⟨g, i * 6, none⟩)) W := by
  have he : Tryz.prog.elem 23 = 35 := by simp [Program.elem, Tryz.underlying23]
  have hz : ∀ W, (sizeOf (Tryz.prog.elem 23)).run Tryz.prog W = .ok 6 W := fun W => by
    rw [he]
    have h := sizeV_node
    cases hq : Tryz.prog.info? 35 with
    | none => simp [hq] at h
    | some i => simp [hq] at h; simp [sizeOf, typeInfo, hq, h]
  rw [run_indexAt_slice (h := by rw [he]; exact Tryz.underlying23), if_pos (by omega), hz]
  simp [Result.andThen, Addr.add_lit]
theorem nrowV_one (q : ByteArray) (x1 x2 x3 x4 : Option Addr) (l1 l2 l3 l4 c1 c2 c3 c4 : Nat) (b : Int) : (#[.string q, .slice x1 l1 c1, .slice x2 l2 c2, .slice x3 l3 c3, .slice x4 l4 c4, .int .i64 b] : Array Value).all (·.oneCell') = true := by simp [Value.oneCell']
set_option maxHeartbeats 4000000 in
set_option maxRecDepth 100000 in
theorem Show_any (l : List Nd) (w : World) (x : Option Addr) (n c : Nat) (hv : NodesV w w.heap.size x n l) (hf : ∀ nd ∈ l, FineN nd) (hkn : n < 1000000000000) (htb : Lib.TabBelow Tryz.prog w.heap.size w "internal/strconv.uint64pow10" .u64 Lib.pow10Tab) (hlen : (showT l).length ≤ 140737488355328) :
    Calls Tryz.prog 13 #[.slice x n c] w fun e w' => e = .returned (.string ⟨(showT l).toArray⟩) ∧ Below w.heap.size w w' := by
  obtain ⟨hlk, g, hg⟩ := id hv
  have hb1 : Below w.heap.size w (w.alloc (.cells #[.pointer none, .slice none 0 0] 72)) := (Below.refl _ _).alloc (Nat.le_refl _) _
  have hfr := Lib.fresh_isBuilder 72 5 w
  have hbl : Bld w.heap.size w.heap.size [] (w.alloc (.cells #[.pointer none, .slice none 0 0] 72)) := ⟨hfr, by simp⟩
  have hqw : ∀ nd ∈ l, ∀ i (h : i < nd.eqs.length), Writes w w.heap.size w.heap.size (nd.eqs[i]).e := fun nd hn i h => writes_all w w.heap.size w.heap.size htb _ ((hf nd hn).ex _ (List.getElem_mem h))
  have ks := fun (W : World) (hb : Bld w.heap.size w.heap.size (showT l) W) => Tryz.Builder_String_any w.heap.size w.heap.size (showT l) W hb.1 hb.2
  have HB0 := Lib.hid hb1
  have HH0 := Lib.hid hbl
  have HQW := Lib.hid hqw
  have KS := Lib.hid ks
  have HV := Lib.hid hv
  have HF := Lib.hid hf
  have HLK := Lib.hid hlk
  have HGX : Hid (0 < n → x = some ⟨g, 0, none⟩) := Lib.hid (fun h => (hg h).1)
  have HLE := Lib.hid hlen
  have HSN6 := Lib.hid sizeV_node
  clear hv hf hlk hg htb hlen hb1 hfr hbl hqw ks
  go_enter Tryz.func13, Tryz.ntmps13
  go_wp2_with fail
  go_loopw [8] (fun iv wr => ∃ i : Nat, iv = .int .i64 (i : Int) ∧ i ≤ n ∧ Bld w.heap.size w.heap.size (showT (l.take i)) wr ∧ Below w.heap.size w wr)
    (fun iv _ => n - (intOf iv).toNat)
  case atStart => exact ⟨0, rfl, Nat.zero_le _, by simpa [showT] using HH0.out, HB0.out⟩
  case round =>
    obtain ⟨i, rfl, hil, hbl, hbw⟩ := hrel
    by_cases hin : i < n
    · have d2 : decide ((i : Int) < (n : Int)) = true := by simp; omega
      have hgg := HGX.out (by omega)
      have hix : ∀ W, (Instr.indexAt 23 (.slice x n c) (.int .i64 (i : Int))).run Tryz.prog W = .ok (.pointer (some ⟨g, i * 6, none⟩)) W := fun W => by rw [hgg]; exact idxV_node g n c i hin W
      have hik : i < l.length := by rw [← HLK.out]; exact hin
      obtain ⟨xi, xo, xl, xe, ni, no, nl, ne, ci, co, cl, ce, hcc, hnv⟩ := (HV.out.low hbw).cells hgg i hik
      have hsn : showT (l.take (i + 1)) = showT (l.take i) ++ nodeT l[i] := by
        rw [List.take_succ_eq_append_getElem hik, showT_snoc]
      have hln : (showT (l.take i) ++ nodeT l[i]).length ≤ 140737488355328 := by
        rw [← hsn]
        have h1 : showT l = showT (l.take (i + 1)) ++ showT (l.drop (i + 1)) := by
          unfold showT
          rw [← List.flatMap_append, List.take_append_drop]
        have h2 := HLE.out
        rw [h1] at h2
        simp only [List.length_append] at h2 ⊢
        omega
      have hfn := HF.out l[i] (List.getElem_mem hik)
      have hqq : ∀ k (h : k < (l[i]).eqs.length), Writes wr w.heap.size w.heap.size ((l[i]).eqs[k]).e := fun k h => (HQW.out l[i] (List.getElem_mem hik) k h).mono hbw
      obtain ⟨t, ht⟩ : ∃ t, t = l[i] := ⟨_, rfl⟩
      rw [← ht] at hsn hln hfn hcc hnv
      simp only [← ht] at hqq
      have q0 := hcc 0 _ rfl
      have q1 := hcc 1 _ rfl
      have q2 := hcc 2 _ rfl
      have q3 := hcc 3 _ rfl
      have q4 := hcc 4 _ rfl
      have q5 := hcc 5 _ rfl
      rw [Nat.add_zero] at q0
      have n1 : ni < 1000000000000 := by have := hnv.ins.1; have := hfn.ins; omega
      have n2 : no < 1000000000000 := by have := hnv.outs.1; have := hfn.outs; omega
      have n3 : nl < 1000000000000 := by have := hnv.locs.1; have := hfn.locs; omega
      have n4 : ne < 1000000000000 := by have := hnv.eqs.1; have := hfn.eqs; omega
      obtain ⟨P, hP⟩ : ∃ P, P = showT (l.take i) := ⟨_, rfl⟩
      rw [← hP] at hsn hln hbl
      have kn := fun (W : World) (hb : Bld w.heap.size w.heap.size P W) (hW : Below w.heap.size wr W) (hv : NodeV W w.heap.size xi xo xl xe ni no nl ne t) => writeNode_any w.heap.size w.heap.size P W hb t (t.at_ : Int) xi xo xl xe ni no nl ne ci co cl ce hv (fun k h => (hqq k h).mono hW) n1 n2 n3 n4 (by simpa using hln)
      obtain ⟨nm, hnm⟩ : ∃ s, s = t.name := ⟨_, rfl⟩
      obtain ⟨na, hna⟩ : ∃ s, s = t.at_ := ⟨_, rfl⟩
      rw [← hnm] at q0 kn
      rw [← hna] at q5 kn
      have hb3 : Below wr.heap.size wr (wr.alloc (.cells #[.string ⟨#[]⟩, .slice none 0 0, .slice none 0 0, .slice none 0 0, .slice none 0 0, .int .i64 0] 35)) := (Below.refl _ _).alloc (Nat.le_refl _) _
      have hn3 := heap_alloc_new wr (.cells #[.string ⟨#[]⟩, .slice none 0 0, .slice none 0 0, .slice none 0 0, .slice none 0 0, .int .i64 0] 35)
      have HN3 := Lib.hid hn3
      have HB3 := Lib.hid hb3
      have HSN := Lib.hid hsn
      have HBL := Lib.hid hbl
      have HBW := Lib.hid hbw
      have HNV := Lib.hid hnv
      have KN := Lib.hid kn
      have HSZ : Hid (w.heap.size ≤ wr.heap.size) := Lib.hid hbl.2
      have HBR := Lib.hid hbw
      clear hb3 hn3 hsn hln hbl hbw hcc hgg hnv hfn hqq kn ht hP hnm hna HGX HLK HV HQW HH0 HB0 HLE HF KS n1 n2 n3 n4
      go_wp2_with (first
        | (
         refine wpList_store_row rfl 35 (.tmp 5) (.tmp 11) rfl wr.heap.size #[.string nm, .slice xi ni ci, .slice xo no co, .slice xl nl cl, .slice xe ne ce, .int .i64 (na : Int)] rfl rfl 35 _ HN3.out HSN6.out rfl (nrowV_one _ _ _ _ _ _ _ _ _ _ _ _ _ _) ?_
         have hset := setRow_heap _ wr.heap.size _ #[.string nm, .slice xi ni ci, .slice xo no co, .slice xl nl cl, .slice xe ne ce, .int .i64 (na : Int)] _ _ HN3.out
         have hbs := below_setRow HB3.out (Nat.le_refl _) #[.string nm, .slice xi ni ci, .slice xo no co, .slice xl nl cl, .slice xe ne ce, .int .i64 (na : Int)]
         generalize (wr.alloc (.cells #[.string ⟨#[]⟩, .slice none 0 0, .slice none 0 0, .slice none 0 0, .slice none 0 0, .int .i64 0] 35)).setRow wr.heap.size #[.string nm, .slice xi ni ci, .slice xo no co, .slice xl nl cl, .slice xe ne ce, .int .i64 (na : Int)] = w3 at hset hbs ⊢
         have HL := Lib.hid hset
         have HWR3 := Lib.hid (hbs.mono HSZ.out)
         have HB := Lib.hid (HBW.out.trans (hbs.mono HSZ.out))
         have HH := Lib.hid (HBL.out.below hbs)
         have HNE := Lib.hid (HNV.out.low (hbs.mono HSZ.out))
         have hz_3 : wr.heap.size + 1 ≤ w3.heap.size := (Array.getElem?_eq_some_iff.1 hset).1
         clear hset hbs HN3 HB3 HBW HBL HNV)
        | (refine wpList_load_row rfl 35 (.tmp 5) rfl wr.heap.size rfl 35 #[.string nm, .slice xi ni ci, .slice xo no co, .slice xl nl cl, .slice xe ne ce, .int .i64 (na : Int)] (0, 0) _ HL.out Tryz.underlying35 rfl HSN6.out ?_))
      have k1 := KN.out w3 HH.out HWR3.out HNE.out
      (with_reducible refine k1.mono ?_)
      rintro e u4 ⟨rfl, hh, hb, hw⟩
      have H1 := Lib.hid hh
      have H2 := Lib.hid (HB.out.trans hb)
      clear hh hb hw k1 HB HH HL HNE
      go_wp2_with fail
      refine ⟨⟨i + 1, by go_num, by omega, by rw [HSN.out]; exact H1.out, H2.out⟩, ?_⟩
      simp [intOf]; omega
    · obtain rfl : i = n := by omega
      have d2 : decide ((i : Int) < (i : Int)) = false := by simp
      have ht : l.take i = l := List.take_of_length_le (by have := HLK.out; omega)
      rw [ht] at hbl
      have k9 := KS.out wr hbl
      have HBW := Lib.hid hbw
      clear ht hbl hbw HGX HLK HV HQW HH0 HB0 HLE HF KS
      go_wp2_with fail
      (with_reducible refine k9.mono ?_)
      rintro e w9 ⟨rfl, h3⟩
      have H3 := Lib.hid (HBW.out.trans h3)
      clear h3 k9
      go_wp2_with fail
      go_ret
      exact ⟨rfl, H3.out⟩
end Go.Proofs.YtfgjgnfbhfhkjaaGreatDoor

namespace Go.Proofs.YtfgjgnfbhfhkjaaGreatDoor
open Go Go.RowKit
/-- A number of int64. -/
def In64 (n : Int) : Prop := -9223372036854775808 ≤ n ∧ n ≤ 9223372036854775807
theorem in64_0 : In64 0 := ⟨by decide, by decide⟩
theorem in64_1 : In64 1 := ⟨by decide, by decide⟩
theorem firstW_n (l : List UInt8) : In64 (firstW l).2.2 := by
  unfold firstW
  split
  · split
    · exact in64_0
    · split <;> exact in64_0
  · split
    · split
      · exact in64_0
      · split
        · rename_i v h
          have := Lib.parseIntB_bounds h
          exact ⟨by simpa using this.1, by have := this.2; simp at this; show v ≤ 9223372036854775807; omega⟩
        · exact in64_0
    · split
      · exact in64_0
      · split <;> exact in64_0
theorem cutF_n : ∀ (f : Nat) (l : List UInt8) (a : Nat) (d : List (Nat × Nat × Int × Nat)), cutF f l a = .ok d → ∀ x ∈ d, In64 x.2.2.1
  | 0, l, a, d, h => by simp [cutF] at h
  | f + 1, l, a, d, h => by
    unfold cutF at h
    by_cases hl : l = []
    · rw [if_pos hl] at h
      injection h with h
      subst h
      intro x hx
      simp only [List.mem_cons, List.not_mem_nil, or_false] at hx
      rw [hx]
      exact in64_0
    · rw [if_neg hl] at h
      by_cases hk : (firstW l).1 = 0
      · rw [if_pos hk] at h; cases h
      · rw [if_neg hk] at h
        cases hc : cutF f ((l.drop (firstW l).2.1).drop (gapL (l.drop (firstW l).2.1))) (a + (firstW l).2.1 + gapL (l.drop (firstW l).2.1)) with
        | error p => rw [hc] at h; cases h
        | ok t =>
          rw [hc] at h
          injection h with h
          subst h
          intro x hx
          rcases List.mem_cons.1 hx with rfl | hx
          · exact firstW_n l
          · exact cutF_n f _ _ t hc x hx
/-- The words' numbers fit. -/
def InW (L : List Wd) : Prop := ∀ st, In64 (cur L st).n
theorem words_in (s : ByteArray) (d : List (Nat × Nat × Int × Nat)) (h : cutAll s.data.toList = .ok d) : InW (wordsL s d) := by
  intro st
  unfold cur wordsL
  rw [List.getD_eq_getElem?_getD, List.getElem?_map]
  cases hx : d[st.i]? with
  | none => exact in64_0
  | some x =>
    have hm := List.mem_of_getElem? hx
    unfold cutAll at h
    split at h
    · cases h
    · cases hc : cut1 s.data.toList with
      | error p => rw [hc] at h; cases h
      | ok t =>
        rw [hc] at h
        injection h with h
        subst h
        exact cutF_n _ _ _ _ hc x hm
/-- A step hands back trees whose numbers fit. -/
def FF (f : St → Ex × St) : Prop := ∀ st, FineE (f st).1
theorem fine_mk {o m : ByteArray} {n : Int} {a : Nat} {ks : List Ex} (hn : In64 n) (hl : ks.length < 1000000) (hk : FineL ks) : FineE (.mk o m n a ks) := by
  unfold FineE
  exact ⟨hn, hl, hk⟩
theorem fine_nil : FineL [] := by unfold FineL; trivial
theorem fine_cons {e : Ex} {r : List Ex} (h : FineE e) (hr : FineL r) : FineL (e :: r) := by unfold FineL; exact ⟨h, hr⟩
theorem fine_0 : FineE ex0 := fine_mk in64_0 (by decide) fine_nil
theorem fine_two (x : Wd) {a b : Ex} (ha : FineE a) (hb : FineE b) : FineE (twoS x a b) := fine_mk in64_0 (by simp) (fine_cons ha (fine_cons hb fine_nil))
theorem argsS_fine (L : List Wd) {f : St → Ex × St} (hf : FF f) : ∀ (k : Nat) (st : St), FineL (argsS L f k st).1 ∧ (argsS L f k st).1.length ≤ k
  | 0, st => ⟨fine_nil, Nat.le_refl _⟩
  | k + 1, st => by
    unfold argsS
    split
    · have := argsS_fine L hf k (f (nextS L st)).2
      exact ⟨fine_cons (hf _) this.1, by simp only [List.length_cons]; omega⟩
    · exact ⟨fine_nil, by simp⟩
theorem rowL_fine (L : List Wd) {one : St → Ex × St} (hf : FF one) (ops : List ByteArray) : ∀ (k : Nat) (e : Ex) (st : St), FineE e → FineE (rowL L one ops k e st).1
  | 0, e, st, h => h
  | k + 1, e, st, h => by
    unfold rowL
    simp only
    split
    · exact rowL_fine L hf ops k _ _ (fine_two _ h (hf _))
    · exact h
theorem rowS_fine (L : List Wd) {one : St → Ex × St} (hf : FF one) (ops : List ByteArray) : FF (rowS L one ops) := fun st => rowL_fine L hf ops _ _ _ (hf st)
theorem whenL_fine (L : List Wd) : ∀ (k : Nat) (e : Ex) (st : St), FineE e → FineE (whenL L k e st).1
  | 0, e, st, h => h
  | k + 1, e, st, h => by
    unfold whenL
    simp only
    split
    · refine whenL_fine L k _ _ (fine_mk ?_ (by simp) (fine_cons h fine_nil))
      split
      · exact in64_0
      · exact in64_1
    · exact h
/-- All four hand back trees whose numbers fit. -/
structure FNx (nx : Nx) : Prop where
  expr : FF nx.expr
  un : FF nx.un
  prim : FF nx.prim
  fby : FF nx.fby
section
variable {L : List Wd} {nx : Nx} (hL : L.length < 100000) (hN : InW L) (h : FNx nx)
include hL hN h
omit hN in
theorem named_fine : FF (namedS L nx) := fun st => by
  unfold namedS
  simp only
  split
  · have hc : FineL (callS L nx (nextS L (partS L st).2)).1 ∧ (callS L nx (nextS L (partS L st).2)).1.length ≤ L.length + 1 := by
      unfold callS
      split
      · exact ⟨fine_nil, by simp⟩
      · have := argsS_fine L h.expr L.length (nx.expr (nextS L (partS L st).2)).2
        exact ⟨fine_cons (h.expr _) this.1, by simp only [List.length_cons]; omega⟩
    exact fine_mk in64_0 (by omega) hc.1
  · exact fine_mk in64_0 (by simp) fine_nil
theorem primB_fine : FF (primB L nx) := fun st => by
  unfold primB
  simp only
  split
  · exact fine_mk (hN st) (by simp) fine_nil
  · split
    · exact named_fine hL h st
    · split
      · exact fine_mk in64_1 (by simp) fine_nil
      · split
        · exact fine_mk in64_0 (by simp) fine_nil
        · split
          · exact h.expr _
          · split
            · exact fine_mk in64_0 (by simp) (fine_cons (h.expr _) (fine_cons (h.expr _) (fine_cons (h.expr _) fine_nil)))
            · split
              · exact fine_mk in64_0 (by simp) (fine_cons (h.prim _) (fine_cons (h.prim _) fine_nil))
              · exact fine_0
theorem primS_fine (d : Nat) : FF (primS L nx d) := fun st => primB_fine hL hN h _
theorem unS_fine (d : Nat) : FF (unS L nx d) := fun st => by
  unfold unS
  simp only
  split
  · exact fine_mk in64_0 (by simp) (fine_cons (h.un _) fine_nil)
  · split
    · exact fine_mk in64_0 (by simp) (fine_cons (h.un _) fine_nil)
    · exact primS_fine hL hN h d _
theorem fbyS_fine (d : Nat) : FF (fbyS L nx d) := fun st => by
  have hw : FineE (whenS L nx d st).1 := whenL_fine L _ _ _ (unS_fine hL hN h d st)
  unfold fbyS
  simp only
  split
  · exact fine_two _ hw (h.fby _)
  · exact hw
theorem arrowS_fine (d : Nat) : FF (arrowS L nx d) := fun st => by
  have ha : FF (addS L nx d) := rowS_fine L (rowS_fine L (fbyS_fine hL hN h d) _) _
  have hc : FF (cmpS L nx d) := fun st => by
    unfold cmpS
    simp only
    split
    · exact fine_two _ (ha _) (ha _)
    · exact ha _
  have ho : FF (orS L nx d) := rowS_fine L (rowS_fine L hc _) _
  unfold arrowS
  simp only
  split
  · exact fine_two _ (ho _) (h.expr _)
  · exact ho _
end
theorem nx_fine {L : List Wd} (hL : L.length < 100000) (hN : InW L) : ∀ k, FNx (nxAt L k)
  | 0 => ⟨fun _ => fine_0, fun _ => fine_0, fun _ => fine_0, fun _ => fine_0⟩
  | k + 1 => ⟨arrowS_fine hL hN (nx_fine hL hN k) _, unS_fine hL hN (nx_fine hL hN k) _, primS_fine hL hN (nx_fine hL hN k) _, fbyS_fine hL hN (nx_fine hL hN k) _⟩
theorem expr_fine {L : List Wd} (hL : L.length < 100000) (hN : InW L) : FF (exprS L) := (nx_fine hL hN 31).expr
theorem declsL_le {L : List Wd} (hE : GoodE L) : ∀ (k : Nat) (S : St), (declsL L k S).1.length ≤ k * 100000
  | 0, S => by simp [declsL]
  | k + 1, S => by
    unfold declsL
    split
    · have h1 := declsL_le hE k (declS L (nextS L S)).2
      have h2 := declS_len hE (nextS L S)
      simp only [List.length_append]
      omega
    · simp
theorem localsL_le {L : List Wd} (hE : GoodE L) : ∀ (k : Nat) (S : St), (localsL L k S).1.length ≤ k * 100000
  | 0, S => by simp [localsL]
  | k + 1, S => by
    unfold localsL
    split
    · have h1 := localsL_le hE k (needS L (bs [59]) (localS L S).2)
      have h2 := localS_len hE S
      simp only [List.length_append]
      omega
    · simp
theorem declsS_le {L : List Wd} (hE : GoodE L) (S : St) : (declsS L S).1.length < 1000000000000 := by
  have hf := hE.few
  show (declsB L (needS L (bs [40]) S)).1.length < _
  unfold declsB
  split
  · simp
  · have h1 := declsL_le hE L.length (declS L (needS L (bs [40]) S)).2
    have h2 := declS_len hE (needS L (bs [40]) S)
    simp only [List.length_append]
    omega
theorem varS_le {L : List Wd} (hE : GoodE L) (S : St) : (varS L S).1.length < 1000000000000 := by
  have hf := hE.few
  unfold varS
  split
  · unfold localsS
    split
    · simp
    · have h1 := localsL_le hE L.length (needS L (bs [59]) (localS L (nextS L S)).2)
      have h2 := localS_len hE (nextS L S)
      simp only [List.length_append]
      omega
  · simp
theorem eqsL_fine {L : List Wd} (hL : L.length < 100000) (hN : InW L) : ∀ (k : Nat) (S : St), (∀ q ∈ (eqsL L k S).1, FineE q.e) ∧ (eqsL L k S).1.length ≤ k
  | 0, S => ⟨by intro q h; exact absurd h (by simp [eqsL, programL]), Nat.le_refl _⟩
  | k + 1, S => by
    unfold eqsL
    split
    · have := eqsL_fine hL hN k (eqS L S).2
      refine ⟨fun q h => ?_, by simp only [List.length_cons]; omega⟩
      rcases List.mem_cons.1 h with rfl | h
      · exact expr_fine hL hN _
      · exact this.1 q h
    · exact ⟨fun q h => by simp at h, by simp⟩
theorem nodeS_fine {L : List Wd} (hE : GoodE L) (hN : InW L) (S : St) : FineN (nodeS L S).1 := by
  have hf := hE.few
  have hq := eqsL_fine hf hN L.length
  exact ⟨declsS_le hE _, declsS_le hE _, varS_le hE _, Nat.lt_of_le_of_lt (hq _).2 (by omega), (hq _).1⟩
theorem programL_fine {L : List Wd} (hE : GoodE L) (hN : InW L) : ∀ (k n : Nat) (S : St), (∀ nd ∈ (programL L k n S).1, FineN nd) ∧ (programL L k n S).1.length ≤ k
  | 0, n, S => ⟨by intro q h; exact absurd h (by simp [eqsL, programL]), Nat.le_refl _⟩
  | k + 1, n, S => by
    unfold programL
    split
    · have := programL_fine hE hN k (n + 1) (nodeS L (limS L n S)).2
      refine ⟨fun q h => ?_, by simp only [List.length_cons]; omega⟩
      rcases List.mem_cons.1 h with rfl | h
      · exact nodeS_fine hE hN _
      · exact this.1 q h
    · exact ⟨fun q h => by simp at h, by simp⟩
/-- WHAT PARSE READS: nodes whose numbers fit, not too many. -/
theorem parse_fine {s : ByteArray} {l : List Nd} (h : parseS s = .ok l) : (∀ nd ∈ l, FineN nd) ∧ l.length < 1000000 := by
  unfold parseS at h
  cases hc : cutAll s.data.toList with
  | error e => rw [hc] at h; cases h
  | ok d =>
    rw [hc] at h
    simp only at h
    split at h
    · injection h with h
      subst h
      have hE := cut_good s d hc
      have hN := words_in s d hc
      have hf := hE.few
      have h1 := programL_fine hE hN (wordsL s d).length 1 (nodeS (wordsL s d) st0).2
      refine ⟨fun nd hn => ?_, ?_⟩
      · rcases List.mem_cons.1 hn with rfl | hn
        · exact nodeS_fine hE hN _
        · exact h1.1 nd hn
      · show (_ :: _).length < _
        simp only [List.length_cons]
        omega
    · cases h
end Go.Proofs.YtfgjgnfbhfhkjaaGreatDoor

namespace Go.Proofs.YtfgjgnfbhfhkjaaGreatDoor
open Go Go.RowKit
set_option maxHeartbeats 4000000 in
set_option maxRecDepth 100000 in
theorem Text_any (t : Ex) (w : World) (o m : ByteArray) (n a : Int) (x : Option Addr) (lk c : Nat) (hi : IsP (fun k => k < w.heap.size) w o m n a x lk c t) (hf : FineE t) (htb : Lib.TabBelow Tryz.prog w.heap.size w "internal/strconv.uint64pow10" .u64 Lib.pow10Tab) (hlen : (textE t).length ≤ 140737488355328) :
    Calls Tryz.prog 12 #[exV o m n a x lk c] w fun e w' => e = .returned (.string ⟨(textE t).toArray⟩) ∧ Below w.heap.size w w' := by
  have hb1 : Below w.heap.size w (w.alloc (.cells #[.string o, .string m, .int .i64 n, .int .i64 a, .slice x lk c] 39)) := (Below.refl _ _).alloc (Nat.le_refl _) _
  have hn1 := heap_alloc_new w (.cells #[.string o, .string m, .int .i64 n, .int .i64 a, .slice x lk c] 39)
  have hs1 : (w.alloc (.cells #[.string o, .string m, .int .i64 n, .int .i64 a, .slice x lk c] 39)).heap.size = w.heap.size + 1 := by simp
  obtain ⟨w1, hww⟩ : ∃ w1, w1 = w.alloc (.cells #[.string o, .string m, .int .i64 n, .int .i64 a, .slice x lk c] 39) := ⟨_, rfl⟩
  rw [← hww] at hb1 hn1 hs1
  have hb2 : Below w.heap.size w1 (w1.alloc (.cells #[.pointer none, .slice none 0 0] 72)) := (Below.refl _ _).alloc (by omega) _
  have hfr := Lib.fresh_isBuilder 72 5 w1
  have hbl : Bld w.heap.size (w.heap.size + 1) [] (w1.alloc (.cells #[.pointer none, .slice none 0 0] 72)) := by
    rw [hs1] at hfr
    refine ⟨hfr.elim (fun h => .inl ⟨by omega, ?_⟩) (fun h => .inr ⟨by omega, ?_⟩), by simp; omega⟩
    · obtain ⟨_, v, e1, e2, e3⟩ := h
      exact ⟨v, e1, own_weaken' e2 (by omega), e3⟩
    · obtain ⟨_, v, e1, e2, e3⟩ := h
      exact ⟨v, e1, own_weaken' e2 (by omega), e3⟩
  have hn2 := ((hb2.trans (Below.refl _ _)).mono (Nat.le_refl _))
  have hr2 : (w1.alloc (.cells #[.pointer none, .slice none 0 0] 72)).heap[w.heap.size]? = some (.cells #[.string o, .string m, .int .i64 n, .int .i64 a, .slice x lk c] 39 (0, 0)) := by
    rw [Below.heap_alloc _ _ _ (by omega)]; exact hn1
  have hB := hb1.trans hb2
  have kx := writes_all w w.heap.size (w.heap.size + 1) htb t hf _ [] o m n a x lk c hB hbl (hi.low hB) (by simpa using hlen)
  have ks := fun (W : World) (hb : Bld w.heap.size (w.heap.size + 1) (textE t) W) => Tryz.Builder_String_any w.heap.size (w.heap.size + 1) (textE t) W hb.1 hb.2
  rw [hww] at kx hr2 hB
  have HSE := Lib.hid size_expr
  have HL := Lib.hid hr2
  have HB := Lib.hid hB
  have KX := Lib.hid kx
  have KS := Lib.hid ks
  obtain ⟨X, hX⟩ : ∃ X, X = textE t := ⟨_, rfl⟩
  rw [← hX] at KX KS ⊢
  unfold exV at KX ⊢
  clear hb1 hn1 hs1 hww hb2 hfr hbl hn2 hr2 hB kx ks hi hf htb hlen hX
  go_enter Tryz.func12, Tryz.ntmps12
  go_wp2_with (refine wpList_load_row rfl 39 (.tmp 1) rfl w.heap.size rfl 39 #[.string o, .string m, .int .i64 n, .int .i64 a, .slice x lk c] (0, 0) _ HL.out Tryz.underlying39 rfl HSE.out ?_)
  (with_reducible refine KX.out.mono ?_)
  rintro e w3 ⟨rfl, h3, h4, h5⟩
  have k2 := KS.out w3 h3
  have H4 := Lib.hid (HB.out.trans h4)
  clear h3 h4 h5
  go_wp2_with fail
  (with_reducible refine k2.mono ?_)
  rintro e w4 ⟨rfl, h6⟩
  have H6 := Lib.hid (H4.out.trans h6)
  clear h6 k2
  go_wp2_with fail
  go_ret
  exact ⟨rfl, H6.out⟩
end Go.Proofs.YtfgjgnfbhfhkjaaGreatDoor

namespace Go.Proofs.YtfgjgnfbhfhkjaaGreatDoor
open Go Go.RowKit
/-- A Bool of all numbers below n. -/
def allR (n : Nat) (R : Nat → Bool) : Bool := (List.range n).all R
theorem allR_no {n : Nat} {R : Nat → Bool} {i : Nat} (h : false = R i) (hi : i < n) : allR n R = false := by
  unfold allR
  rw [List.all_eq_false]
  exact ⟨i, List.mem_range.2 hi, by rw [← h]; simp⟩
theorem allR_yes {n : Nat} {R : Nat → Bool} (h : ∀ j, j < n → R j = true) : allR n R = true := by
  unfold allR
  rw [List.all_eq_true]
  exact fun j hj => h j (List.mem_range.1 hj)
theorem cell_low {B : Nat} {w w' : World} (hb : Below B w w') {g j : Nat} {u : Value} (hg : g < B) (h : w.cell? ⟨g, j, none⟩ = some u) : w'.cell? ⟨g, j, none⟩ = some u := by
  simp only [World.cell?, hb.block g hg] at h ⊢
  exact h
end Go.Proofs.YtfgjgnfbhfhkjaaGreatDoor

namespace Go.Proofs.YtfgjgnfbhfhkjaaGreatDoor
open Go Go.RowKit
set_option maxHeartbeats 4000000 in
set_option maxRecDepth 100000 in
theorem eqf_Expr (w : World) (x1 x2 : Option Addr) (n1 c1 n2 c2 g1 g2 : Nat) (hx1 : 0 < n1 → x1 = some ⟨g1, 0, none⟩ ∧ g1 < w.heap.size) (hx2 : 0 < n2 → x2 = some ⟨g2, 0, none⟩ ∧ g2 < w.heap.size) (hn1 : n1 < 1000000000000) (hn2 : n2 < 1000000000000) (R : Nat → Bool)
    (hr : ∀ i, i < n1 → i < n2 → ∃ (o1 m1 : ByteArray) (n1' a1 : Int) (y1 : Option Addr) (l1 d1 : Nat) (o2 m2 : ByteArray) (n2' a2 : Int) (y2 : Option Addr) (l2 d2 : Nat), (∀ (j : Nat) (u : Value), ([.string o1, .string m1, .int .i64 n1', .int .i64 a1, .slice y1 l1 d1] : List Value)[j]? = some u → w.cell? ⟨g1, i * 5 + j, none⟩ = some u) ∧ (∀ (j : Nat) (u : Value), ([.string o2, .string m2, .int .i64 n2', .int .i64 a2, .slice y2 l2 d2] : List Value)[j]? = some u → w.cell? ⟨g2, i * 5 + j, none⟩ = some u) ∧ ∀ W, Below w.heap.size w W → Calls Tryz.prog 70 #[.agg #[.string o1, .string m1, .int .i64 n1', .int .i64 a1, .slice y1 l1 d1], .agg #[.string o2, .string m2, .int .i64 n2', .int .i64 a2, .slice y2 l2 d2]] W fun e w' => e = .returned (.bool (R i)) ∧ Below W.heap.size W w') :
    Calls Tryz.prog 86 #[.slice x1 n1 c1, .slice x2 n2 c2, .func (.func 70) #[] #[]] w fun e w' => e = .returned (.bool (decide (n1 = n2) && allR n1 R)) ∧ Below w.heap.size w w' := by
  have HSE := Lib.hid size_expr
  by_cases hne : n1 = n2
  · subst hne
    have hee : (decide (n1 = n1) && allR n1 R) = allR n1 R := by simp
    rw [hee]
    have HR := Lib.hid hr
    have HX1 := Lib.hid hx1
    have HX2 := Lib.hid hx2
    have hd0 : ((n1 : Int) != (n1 : Int)) = false := by simp
    clear hr hx1 hx2 hee hn2
    go_enter Tryz.func86, Tryz.ntmps86
    go_wp2_with fail
    go_loopw [17] (fun iv wr => ∃ i : Nat, iv = .int .i64 (i : Int) ∧ i ≤ n1 ∧ Below w.heap.size w wr ∧ ∀ j, j < i → R j = true)
      (fun iv _ => n1 - (intOf iv).toNat)
    case atStart => exact ⟨0, rfl, Nat.zero_le _, Below.refl _ _, fun j hj => absurd hj (Nat.not_lt_zero _)⟩
    case round =>
      obtain ⟨i, rfl, hil, hbw, hall⟩ := hrel
      have HALL := Lib.hid hall
      clear hall
      by_cases hin : i < n1
      · have d2 : decide ((i : Int) < (n1 : Int)) = true := by simp; omega
        have e1 := (HX1.out (by omega)).1
        have e2 := (HX2.out (by omega)).1
        have hg1 := (HX1.out (by omega)).2
        have hg2 := (HX2.out (by omega)).2
        have hi1 : ∀ W, (Instr.indexAt 37 (.slice x1 n1 c1) (.int .i64 (i : Int))).run Tryz.prog W = .ok (.pointer (some ⟨g1, i * 5, none⟩)) W := fun W => by rw [e1]; exact idx_expr g1 n1 c1 i hin W
        have hi2 : ∀ W, (Instr.indexAt 37 (.slice x2 n1 c2) (.int .i64 (i : Int))).run Tryz.prog W = .ok (.pointer (some ⟨g2, i * 5, none⟩)) W := fun W => by rw [e2]; exact idx_expr g2 n1 c2 i hin W
        obtain ⟨o1, m1, n1', a1, y1, l1, d1, o2, m2, n2', a2, y2, l2, d2, hc1, hc2, hcall⟩ := HR.out i hin hin
        have hq := fun j u h => cell_low hbw hg1 (hc1 j u h)
        have q0_ := hq 0 _ rfl
        have q1_ := hq 1 _ rfl
        have q2_ := hq 2 _ rfl
        have q3_ := hq 3 _ rfl
        have q4_ := hq 4 _ rfl
        rw [Nat.add_zero] at q0_
        have HC2 := Lib.hid hc2
        have HG2 := Lib.hid hg2
        have HCALL := Lib.hid hcall
        have hb3 : Below wr.heap.size wr (wr.alloc (.cells #[.string ⟨#[]⟩, .string ⟨#[]⟩, .int .i64 0, .int .i64 0, .slice none 0 0] 39)) := (Below.refl _ _).alloc (Nat.le_refl _) _
        have HN3 := Lib.hid (heap_alloc_new wr (.cells #[.string ⟨#[]⟩, .string ⟨#[]⟩, .int .i64 0, .int .i64 0, .slice none 0 0] 39))
        have HB3 := Lib.hid hb3
        have HBW := Lib.hid hbw
        have HSZ : Hid (w.heap.size ≤ wr.heap.size) := Lib.hid hbw.size
        obtain ⟨b, hb⟩ : ∃ b, b = R i := ⟨_, rfl⟩
        rw [← hb] at HCALL
        have HRI := Lib.hid hb
        clear hc1 hc2 hcall hq hb3 hbw e1 e2 hg1 hg2 HX1 HX2 HR hb
        cases b
        all_goals
          go_wp2_with (first
            | (
           refine wpList_store_row rfl 39 (.tmp 8) (.tmp 21) rfl wr.heap.size #[.string o1, .string m1, .int .i64 n1', .int .i64 a1, .slice y1 l1 d1] rfl rfl 39 _ HN3.out HSE.out rfl (expr_one _ _ _ _ _ _ _) ?_
           have hset := setRow_heap _ wr.heap.size _ #[.string o1, .string m1, .int .i64 n1', .int .i64 a1, .slice y1 l1 d1] _ _ HN3.out
           have hbs := below_setRow HB3.out (Nat.le_refl _) #[.string o1, .string m1, .int .i64 n1', .int .i64 a1, .slice y1 l1 d1]
           generalize (wr.alloc (.cells #[.string ⟨#[]⟩, .string ⟨#[]⟩, .int .i64 0, .int .i64 0, .slice none 0 0] 39)).setRow wr.heap.size #[.string o1, .string m1, .int .i64 n1', .int .i64 a1, .slice y1 l1 d1] = w3 at hset hbs ⊢
           have HA1 := Lib.hid hset
           have HBA := Lib.hid (HBW.out.trans (hbs.mono HSZ.out))
           have hz3 : wr.heap.size + 1 ≤ w3.heap.size := (Array.getElem?_eq_some_iff.1 hset).1
           have hp := fun j u h => cell_low HBA.out HG2.out (HC2.out j u h)
           have p0 := hp 0 _ rfl
           have p1 := hp 1 _ rfl
           have p2 := hp 2 _ rfl
           have p3 := hp 3 _ rfl
           have p4 := hp 4 _ rfl
           rw [Nat.add_zero] at p0
           have HN4 := Lib.hid (heap_alloc_new w3 (.cells #[.string ⟨#[]⟩, .string ⟨#[]⟩, .int .i64 0, .int .i64 0, .slice none 0 0] 39))
           have HB4 : Hid (Below w3.heap.size w3 (w3.alloc (.cells #[.string ⟨#[]⟩, .string ⟨#[]⟩, .int .i64 0, .int .i64 0, .slice none 0 0] 39))) := Lib.hid ((Below.refl _ _).alloc (Nat.le_refl _) _)
           clear hset hbs HN3 HB3 HBW hp HC2)
            | (
           refine wpList_store_row rfl 39 (.tmp 9) (.tmp 25) rfl w3.heap.size #[.string o2, .string m2, .int .i64 n2', .int .i64 a2, .slice y2 l2 d2] rfl rfl 39 _ HN4.out HSE.out rfl (expr_one _ _ _ _ _ _ _) ?_
           have hset := setRow_heap _ w3.heap.size _ #[.string o2, .string m2, .int .i64 n2', .int .i64 a2, .slice y2 l2 d2] _ _ HN4.out
           have hbs := below_setRow HB4.out (Nat.le_refl _) #[.string o2, .string m2, .int .i64 n2', .int .i64 a2, .slice y2 l2 d2]
           generalize (w3.alloc (.cells #[.string ⟨#[]⟩, .string ⟨#[]⟩, .int .i64 0, .int .i64 0, .slice none 0 0] 39)).setRow w3.heap.size #[.string o2, .string m2, .int .i64 n2', .int .i64 a2, .slice y2 l2 d2] = w4 at hset hbs ⊢
           have HA2 := Lib.hid hset
           have HA1' := Lib.hid ((hbs.block wr.heap.size (by omega)).trans HA1.out)
           have HBB := Lib.hid (HBA.out.trans (hbs.mono (by have := HSZ.out; omega)))
           have hz4 := hbs.size
           clear hset hbs HN4 HB4 HA1 HBA)
            | (refine wpList_load_row rfl 39 (.tmp 8) rfl wr.heap.size rfl 39 #[.string o1, .string m1, .int .i64 n1', .int .i64 a1, .slice y1 l1 d1] (0, 0) _ HA1'.out Tryz.underlying39 rfl HSE.out ?_)
            | (refine wpList_load_row rfl 39 (.tmp 9) rfl w3.heap.size rfl 39 #[.string o2, .string m2, .int .i64 n2', .int .i64 a2, .slice y2 l2 d2] (0, 0) _ HA2.out Tryz.underlying39 rfl HSE.out ?_))
          have kc := HCALL.out w4 HBB.out
          (with_reducible refine kc.mono ?_)
          rintro e w5 ⟨rfl, hb5⟩
          have H5 := Lib.hid (HBB.out.trans (hb5.mono (by have := HSZ.out; omega)))
          clear hb5 kc HA1' HA2 HBB
          go_wp2_with fail
        · go_ret
          refine ⟨?_, H5.out⟩
          rw [allR_no HRI.out hin]
          rfl
        · refine ⟨⟨i + 1, by go_num, by omega, H5.out, fun j hj => ?_⟩, ?_⟩
          · by_cases hji : j < i
            · exact HALL.out j hji
            · obtain rfl : j = i := by omega
              exact HRI.out.symm
          · simp [intOf]; omega
      · obtain rfl : i = n1 := by omega
        have d2 : decide ((i : Int) < (i : Int)) = false := by simp
        have HBW := Lib.hid hbw
        clear hbw HX1 HX2 HR
        go_wp2_with fail
        go_ret
        refine ⟨?_, HBW.out⟩
        rw [allR_yes HALL.out]
        rfl
  · have hee : (decide (n1 = n2) && allR n1 R) = false := by simp [hne]
    rw [hee]
    have hd0 : ((n1 : Int) != (n2 : Int)) = true := by simp; omega
    clear hr hx1 hx2 hee
    go_enter Tryz.func86, Tryz.ntmps86
    go_wp2_with fail
    go_ret
    exact ⟨rfl, Below.refl _ _⟩
end Go.Proofs.YtfgjgnfbhfhkjaaGreatDoor

namespace Go.Proofs.YtfgjgnfbhfhkjaaGreatDoor
open Go Go.RowKit
mutual
/-- Are two trees alike, but for places? -/
def sameE : Ex → Ex → Bool
  | .mk o m n _ ks, .mk o' m' n' _ ks' => (o.toList == o'.toList) && (m.toList == m'.toList) && (n == n') && sameL ks ks'
def sameL : List Ex → List Ex → Bool
  | [], [] => true
  | e :: r, e' :: r' => sameE e e' && sameL r r'
  | [], _ :: _ => false
  | _ :: _, [] => false
end
theorem allR_succ (n : Nat) (R : Nat → Bool) : allR (n + 1) R = (R 0 && allR n (fun i => R (i + 1))) := by
  unfold allR
  rw [List.range_succ_eq_map, List.all_cons, List.all_map]
  rfl
theorem sameL_all : ∀ (ks ks' : List Ex), sameL ks ks' = (decide (ks.length = ks'.length) && allR ks.length fun i => sameE (ks.getD i ex0) (ks'.getD i ex0))
  | [], [] => by simp [sameL, allR]
  | [], _ :: _ => by simp [sameL]
  | _ :: _, [] => by simp [sameL]
  | e :: r, e' :: r' => by
    have ih := sameL_all r r'
    rw [sameL, ih, List.length_cons, List.length_cons, allR_succ]
    have h : decide (r.length + 1 = r'.length + 1) = decide (r.length = r'.length) := by simp
    rw [h]
    simp only [List.getD_cons_zero, List.getD_cons_succ]
    cases sameE e e' <;> simp
theorem sameE_mk (o m : ByteArray) (n : Int) (a : Nat) (ks : List Ex) (o' m' : ByteArray) (n' : Int) (a' : Nat) (ks' : List Ex) : sameE (.mk o m n a ks) (.mk o' m' n' a' ks') = ((o.toList == o'.toList) && (m.toList == m'.toList) && (n == n') && (decide (ks.length = ks'.length) && allR ks.length fun i => sameE (ks.getD i ex0) (ks'.getD i ex0))) := by
  rw [sameE, sameL_all]
/-- sameExpr tells whether this tree and another are alike, wherever it is asked. -/
def SameX (t1 : Ex) : Prop := ∀ (t2 : Ex) (B : Nat) (w : World) (o1 m1 : ByteArray) (n1 a1 : Int) (y1 : Option Addr) (l1 d1 : Nat) (o2 m2 : ByteArray) (n2 a2 : Int) (y2 : Option Addr) (l2 d2 : Nat), B ≤ w.heap.size → IsP (fun k => k < B) w o1 m1 n1 a1 y1 l1 d1 t1 → IsP (fun k => k < B) w o2 m2 n2 a2 y2 l2 d2 t2 → FineE t1 → FineE t2 →
  Calls Tryz.prog 70 #[exV o1 m1 n1 a1 y1 l1 d1, exV o2 m2 n2 a2 y2 l2 d2] w fun e w' => e = .returned (.bool (sameE t1 t2)) ∧ Below w.heap.size w w'
set_option maxHeartbeats 4000000 in
set_option maxRecDepth 100000 in
theorem same_step (op nm : ByteArray) (n : Int) (a : Nat) (kids : List Ex) (hk : ∀ i, i < kids.length → SameX (kids.getD i ex0)) : SameX (.mk op nm n a kids) := by
  intro t2 B w o1 m1 n1 a1 y1 l1 d1 o2 m2 n2 a2 y2 l2 d2 hB h1 h2 f1 f2
  obtain ⟨op', nm', n', a', kids'⟩ := t2
  have e1 : o1 = op ∧ m1 = nm ∧ n1 = n := by
    unfold IsP at h1
    exact ⟨h1.1, h1.2.1, h1.2.2.1⟩
  have e2 : o2 = op' ∧ m2 = nm' ∧ n2 = n' := by
    unfold IsP at h2
    exact ⟨h2.1, h2.2.1, h2.2.2.1⟩
  obtain ⟨hl1, g1, hg1⟩ := h1.blk
  obtain ⟨hl2, g2, hg2⟩ := h2.blk
  rw [sameE_mk]
  unfold FineE at f1 f2
  have hw1 : Below w.heap.size w (w.alloc (.cells #[.string o1, .string m1, .int .i64 n1, .int .i64 a1, .slice y1 l1 d1] 39)) := (Below.refl _ _).alloc (Nat.le_refl _) _
  have hn1 := heap_alloc_new w (.cells #[.string o1, .string m1, .int .i64 n1, .int .i64 a1, .slice y1 l1 d1] 39)
  have hs1 : (w.alloc (.cells #[.string o1, .string m1, .int .i64 n1, .int .i64 a1, .slice y1 l1 d1] 39)).heap.size = w.heap.size + 1 := by simp
  obtain ⟨v1, hv1⟩ : ∃ v, v = w.alloc (.cells #[.string o1, .string m1, .int .i64 n1, .int .i64 a1, .slice y1 l1 d1] 39) := ⟨_, rfl⟩
  rw [← hv1] at hw1 hn1 hs1
  have hw2 : Below v1.heap.size v1 (v1.alloc (.cells #[.string o2, .string m2, .int .i64 n2, .int .i64 a2, .slice y2 l2 d2] 39)) := (Below.refl _ _).alloc (Nat.le_refl _) _
  have hn2 := heap_alloc_new v1 (.cells #[.string o2, .string m2, .int .i64 n2, .int .i64 a2, .slice y2 l2 d2] 39)
  have hr1 := (hw2.block w.heap.size (by omega)).trans hn1
  rw [hs1] at hn2
  have hw3 : Below w.heap.size w (v1.alloc (.cells #[.string o2, .string m2, .int .i64 n2, .int .i64 a2, .slice y2 l2 d2] 39)) := hw1.trans (hw2.mono (by omega))
  have hs2 : (v1.alloc (.cells #[.string o2, .string m2, .int .i64 n2, .int .i64 a2, .slice y2 l2 d2] 39)).heap.size = w.heap.size + 2 := by simp [hs1]
  obtain ⟨v2, hv2⟩ : ∃ v, v = v1.alloc (.cells #[.string o2, .string m2, .int .i64 n2, .int .i64 a2, .slice y2 l2 d2] 39) := ⟨_, rfl⟩
  rw [← hv2] at hn2 hr1 hw3 hs2
  have ke := eqf_Expr v2 y1 y2 l1 d1 l2 d2 g1 g2 (fun h => ⟨(hg1 h).1, by have := (hg1 h).2.2; omega⟩) (fun h => ⟨(hg2 h).1, by have := (hg2 h).2.2; omega⟩) (by omega) (by omega) (fun i => sameE (kids.getD i ex0) (kids'.getD i ex0)) (fun i hi1 hi2 => by
    have k1 := h1.low (hw3.mono hB)
    have k2 := h2.low (hw3.mono hB)
    rw [(hg1 (by omega)).1] at k1
    rw [(hg2 (by omega)).1] at k2
    obtain ⟨p1, p2, p3, p4, p5, p6, p7, c0, c1, c2, c3, c4, hp⟩ := k1.kid i (by omega)
    obtain ⟨q1, q2, q3, q4, q5, q6, q7, e0, e1, e2, e3, e4, hq⟩ := k2.kid i (by omega)
    refine ⟨p1, p2, p3, p4, p5, p6, p7, q1, q2, q3, q4, q5, q6, q7, fun j u hu => ?_, fun j u hu => ?_, fun W hW => ?_⟩
    · match j, hu with
      | 0, hu => simpa using (show _ = some u by rw [c0]; simpa using hu)
      | 1, hu => rw [c1]; simpa using hu
      | 2, hu => rw [c2]; simpa using hu
      | 3, hu => rw [c3]; simpa using hu
      | 4, hu => rw [c4]; simpa using hu
      | _ + 5, hu => simp at hu
    · match j, hu with
      | 0, hu => simpa using (show _ = some u by rw [e0]; simpa using hu)
      | 1, hu => rw [e1]; simpa using hu
      | 2, hu => rw [e2]; simpa using hu
      | 3, hu => rw [e3]; simpa using hu
      | 4, hu => rw [e4]; simpa using hu
      | _ + 5, hu => simp at hu
    · exact hk i (by omega) _ B W p1 p2 p3 p4 p5 p6 p7 q1 q2 q3 q4 q5 q6 q7 (by have := hW.size; omega) (hp.low (hW.mono (by omega))) (hq.low (hW.mono (by omega))) (FineL.nth kids i f1.2.2) (FineL.nth kids' i f2.2.2))
  rw [hl1, hl2] at ke
  obtain ⟨RR, hRR⟩ : ∃ R : Bool, R = (decide (kids.length = kids'.length) && allR kids.length fun i => sameE (kids.getD i ex0) (kids'.getD i ex0)) := ⟨_, rfl⟩
  rw [← hRR] at ke ⊢
  rw [← hl1, ← hl2] at ke
  obtain ⟨rfl, rfl, rfl⟩ := e1
  obtain ⟨rfl, rfl, rfl⟩ := e2
  have c0 := cell_of_row v2 w.heap.size 0 _ _ _ hr1
  have c1 := cell_of_row v2 w.heap.size 1 _ _ _ hr1
  have c2 := cell_of_row v2 w.heap.size 2 _ _ _ hr1
  have c4 := cell_of_row v2 w.heap.size 4 _ _ _ hr1
  have e0 := cell_of_row v2 (w.heap.size + 1) 0 _ _ _ hn2
  have e1 := cell_of_row v2 (w.heap.size + 1) 1 _ _ _ hn2
  have e2 := cell_of_row v2 (w.heap.size + 1) 2 _ _ _ hn2
  have e4 := cell_of_row v2 (w.heap.size + 1) 4 _ _ _ hn2
  have HK := Lib.hid ke
  have HW := Lib.hid hw3
  have HS2 := Lib.hid hs2
  subst hv1
  have HV := Lib.hid hv2
  rw [hv2] at c0 c1 c2 c4 e0 e1 e2 e4
  unfold exV
  clear hk h1 h2 f1 f2 hl1 hl2 hg1 hg2 hw1 hn1 hs1 hw2 hn2 hr1 hw3 hs2 hv2 ke hRR
  by_cases b1 : o1.toList = o2.toList
  · have d1 : (o1.toList == o2.toList) = true := by simpa using b1
    rw [d1]
    clear b1
    by_cases b2 : m1.toList = m2.toList
    · have d2 : (m1.toList == m2.toList) = true := by simpa using b2
      rw [d2]
      clear b2
      by_cases b3 : n1 = n2
      · subst b3
        have hz : (true && true && (n1 == n1) && RR) = RR := by simp
        rw [hz]
        clear hz
        go_enter Tryz.func70, Tryz.ntmps70
        go_wp2_with fail
        rw [← HV.out]
        (with_reducible refine HK.out.mono ?_)
        rintro e w5 ⟨rfl, hb5⟩
        have H5 := Lib.hid (HW.out.trans (hb5.mono (by have := HS2.out; omega)))
        clear hb5
        go_wp2_with fail
        go_ret
        exact ⟨by cases RR <;> rfl, H5.out⟩
      · have d3 : (n1 == n2) = false := by simpa using b3
        rw [d3]
        clear b3
        have hz : (true && true && false && RR) = false := by simp
        rw [hz]
        clear hz
        rw [HV.out] at HW
        go_enter Tryz.func70, Tryz.ntmps70
        go_wp2_with fail
        go_ret
        exact ⟨rfl, HW.out⟩
    · have d2 : (m1.toList == m2.toList) = false := by simpa using b2
      rw [d2]
      clear b2
      have hz : (true && false && (n1 == n2) && RR) = false := by simp
      rw [hz]
      clear hz
      rw [HV.out] at HW
      go_enter Tryz.func70, Tryz.ntmps70
      go_wp2_with fail
      go_ret
      exact ⟨rfl, HW.out⟩
  · have d1 : (o1.toList == o2.toList) = false := by simpa using b1
    rw [d1]
    clear b1
    have hz : (false && (m1.toList == m2.toList) && (n1 == n2) && RR) = false := by simp
    rw [hz]
    clear hz
    rw [HV.out] at HW
    go_enter Tryz.func70, Tryz.ntmps70
    go_wp2_with fail
    go_ret
    exact ⟨rfl, HW.out⟩
mutual
theorem same_all : ∀ (t : Ex), SameX t
  | .mk op nm n a kids => same_step op nm n a kids (fun i hi => same_kids kids i hi)
theorem same_kids : ∀ (kids : List Ex) (i : Nat), i < kids.length → SameX (kids.getD i ex0)
  | [], i, h => absurd h (Nat.not_lt_zero _)
  | e :: r, 0, _ => same_all e
  | e :: r, i + 1, h => same_kids r i (by simpa using h)
end
end Go.Proofs.YtfgjgnfbhfhkjaaGreatDoor

namespace Go.Proofs.YtfgjgnfbhfhkjaaGreatDoor
open Go Go.RowKit
set_option maxHeartbeats 4000000 in
set_option maxRecDepth 100000 in
theorem sameEq_any (B : Nat) (w : World) (q1 o1 m1 : ByteArray) (n1 a1 : Int) (y1 : Option Addr) (l1 d1 : Nat) (b1 : Int) (q2 o2 m2 : ByteArray) (n2 a2 : Int) (y2 : Option Addr) (l2 d2 : Nat) (b2 : Int) (t1 t2 : Ex) (hB : B ≤ w.heap.size) (h1 : IsP (fun k => k < B) w o1 m1 n1 a1 y1 l1 d1 t1) (h2 : IsP (fun k => k < B) w o2 m2 n2 a2 y2 l2 d2 t2) (f1 : FineE t1) (f2 : FineE t2) :
    Calls Tryz.prog 48 #[.agg #[.string q1, .string o1, .string m1, .int .i64 n1, .int .i64 a1, .slice y1 l1 d1, .int .i64 b1], .agg #[.string q2, .string o2, .string m2, .int .i64 n2, .int .i64 a2, .slice y2 l2 d2, .int .i64 b2]] w fun e w' => e = .returned (.bool (q1.toList == q2.toList && sameE t1 t2)) ∧ Below w.heap.size w w' := by
  have hw1 : Below w.heap.size w (w.alloc (.cells #[.string q1, .string o1, .string m1, .int .i64 n1, .int .i64 a1, .slice y1 l1 d1, .int .i64 b1] 41)) := (Below.refl _ _).alloc (Nat.le_refl _) _
  have hn1 := heap_alloc_new w (.cells #[.string q1, .string o1, .string m1, .int .i64 n1, .int .i64 a1, .slice y1 l1 d1, .int .i64 b1] 41)
  have hs1 : (w.alloc (.cells #[.string q1, .string o1, .string m1, .int .i64 n1, .int .i64 a1, .slice y1 l1 d1, .int .i64 b1] 41)).heap.size = w.heap.size + 1 := by simp
  obtain ⟨v1, hv1⟩ : ∃ v, v = w.alloc (.cells #[.string q1, .string o1, .string m1, .int .i64 n1, .int .i64 a1, .slice y1 l1 d1, .int .i64 b1] 41) := ⟨_, rfl⟩
  rw [← hv1] at hw1 hn1 hs1
  have hw2 : Below v1.heap.size v1 (v1.alloc (.cells #[.string q2, .string o2, .string m2, .int .i64 n2, .int .i64 a2, .slice y2 l2 d2, .int .i64 b2] 41)) := (Below.refl _ _).alloc (Nat.le_refl _) _
  have hn2 := heap_alloc_new v1 (.cells #[.string q2, .string o2, .string m2, .int .i64 n2, .int .i64 a2, .slice y2 l2 d2, .int .i64 b2] 41)
  have hr1 := (hw2.block w.heap.size (by omega)).trans hn1
  rw [hs1] at hn2
  have hw3 : Below w.heap.size w (v1.alloc (.cells #[.string q2, .string o2, .string m2, .int .i64 n2, .int .i64 a2, .slice y2 l2 d2, .int .i64 b2] 41)) := hw1.trans (hw2.mono (by omega))
  have hs2 : (v1.alloc (.cells #[.string q2, .string o2, .string m2, .int .i64 n2, .int .i64 a2, .slice y2 l2 d2, .int .i64 b2] 41)).heap.size = w.heap.size + 2 := by simp [hs1]
  obtain ⟨v2, hv2⟩ : ∃ v, v = v1.alloc (.cells #[.string q2, .string o2, .string m2, .int .i64 n2, .int .i64 a2, .slice y2 l2 d2, .int .i64 b2] 41) := ⟨_, rfl⟩
  rw [← hv2] at hn2 hr1 hw3 hs2
  have ke := same_all t1 t2 B v2 o1 m1 n1 a1 y1 l1 d1 o2 m2 n2 a2 y2 l2 d2 (by omega) (h1.low (hw3.mono hB)) (h2.low (hw3.mono hB)) f1 f2
  unfold exV at ke
  obtain ⟨RR, hRR⟩ : ∃ R : Bool, R = sameE t1 t2 := ⟨_, rfl⟩
  rw [← hRR] at ke ⊢
  have c0 := cell_of_row v2 w.heap.size 0 _ _ _ hr1
  have e0 := cell_of_row v2 (w.heap.size + 1) 0 _ _ _ hn2
  have c1 := cell_of_row v2 w.heap.size 1 _ _ _ hr1
  have e1 := cell_of_row v2 (w.heap.size + 1) 1 _ _ _ hn2
  have c2 := cell_of_row v2 w.heap.size 2 _ _ _ hr1
  have e2 := cell_of_row v2 (w.heap.size + 1) 2 _ _ _ hn2
  have c3 := cell_of_row v2 w.heap.size 3 _ _ _ hr1
  have e3 := cell_of_row v2 (w.heap.size + 1) 3 _ _ _ hn2
  have c4 := cell_of_row v2 w.heap.size 4 _ _ _ hr1
  have e4 := cell_of_row v2 (w.heap.size + 1) 4 _ _ _ hn2
  have c5 := cell_of_row v2 w.heap.size 5 _ _ _ hr1
  have e5 := cell_of_row v2 (w.heap.size + 1) 5 _ _ _ hn2
  have HK := Lib.hid ke
  have HW := Lib.hid hw3
  have HS2 := Lib.hid hs2
  subst hv1
  have HV := Lib.hid hv2
  rw [hv2] at c0 e0 c1 e1 c2 e2 c3 e3 c4 e4 c5 e5
  clear h1 h2 f1 f2 hw1 hn1 hs1 hw2 hn2 hr1 hw3 hs2 hv2 ke hRR
  by_cases b1 : q1.toList = q2.toList
  · have d1 : (q1.toList == q2.toList) = true := by simpa using b1
    rw [d1]
    clear b1
    have hz : (true && RR) = RR := by simp
    rw [hz]
    clear hz
    go_enter Tryz.func48, Tryz.ntmps48
    go_wp2_with fail
    rw [← HV.out]
    (with_reducible refine HK.out.mono ?_)
    rintro e w5 ⟨rfl, hb5⟩
    have H5 := Lib.hid (HW.out.trans (hb5.mono (by have := HS2.out; omega)))
    clear hb5
    go_wp2_with fail
    go_ret
    exact ⟨by cases RR <;> rfl, H5.out⟩
  · have d1 : (q1.toList == q2.toList) = false := by simpa using b1
    rw [d1]
    clear b1
    have hz : (false && RR) = false := by simp
    rw [hz]
    clear hz
    rw [HV.out] at HW
    go_enter Tryz.func48, Tryz.ntmps48
    go_wp2_with fail
    go_ret
    exact ⟨rfl, HW.out⟩
end Go.Proofs.YtfgjgnfbhfhkjaaGreatDoor

namespace Go.Proofs.YtfgjgnfbhfhkjaaGreatDoor
open Go Go.RowKit
set_option maxHeartbeats 2000000 in
set_option maxRecDepth 100000 in
theorem sameVar_any (w : World) (m1 o1 m2 o2 : ByteArray) (k1 a1 k2 a2 : Int) (t1 t2 : Bool) :
    Calls Tryz.prog 46 #[.agg #[.string m1, .int .i64 k1, .string o1, .bool t1, .int .i64 a1], .agg #[.string m2, .int .i64 k2, .string o2, .bool t2, .int .i64 a2]] w fun e w' => e = .returned (.bool (m1.toList == m2.toList && (k1 == k2) && o1.toList == o2.toList && (t1 == t2))) ∧ Below w.heap.size w w' := by
  have HSV := Lib.hid sizeV_var
  go_enter Tryz.func46, Tryz.ntmps46
  go_wp2_with fail
  all_goals
    go_ret
    refine ⟨?_, ((Below.refl _ _).alloc (Nat.le_refl _) _).alloc (by simp) _⟩
    simp [*]
end Go.Proofs.YtfgjgnfbhfhkjaaGreatDoor

namespace Go.Proofs.YtfgjgnfbhfhkjaaGreatDoor
open Go Go.RowKit
set_option maxHeartbeats 4000000 in
set_option maxRecDepth 100000 in
theorem eqf_Var (w : World) (x1 x2 : Option Addr) (n1 c1 n2 c2 g1 g2 : Nat) (hx1 : 0 < n1 → x1 = some ⟨g1, 0, none⟩ ∧ g1 < w.heap.size) (hx2 : 0 < n2 → x2 = some ⟨g2, 0, none⟩ ∧ g2 < w.heap.size) (hn1 : n1 < 1000000000000) (hn2 : n2 < 1000000000000) (R : Nat → Bool)
    (hr : ∀ i, i < n1 → i < n2 → ∃ (m1 o1 : ByteArray) (k1 a1 : Int) (t1 : Bool) (m2 o2 : ByteArray) (k2 a2 : Int) (t2 : Bool), (∀ (j : Nat) (u : Value), ([.string m1, .int .i64 k1, .string o1, .bool t1, .int .i64 a1] : List Value)[j]? = some u → w.cell? ⟨g1, i * 5 + j, none⟩ = some u) ∧ (∀ (j : Nat) (u : Value), ([.string m2, .int .i64 k2, .string o2, .bool t2, .int .i64 a2] : List Value)[j]? = some u → w.cell? ⟨g2, i * 5 + j, none⟩ = some u) ∧ ∀ W, Below w.heap.size w W → Calls Tryz.prog 46 #[.agg #[.string m1, .int .i64 k1, .string o1, .bool t1, .int .i64 a1], .agg #[.string m2, .int .i64 k2, .string o2, .bool t2, .int .i64 a2]] W fun e w' => e = .returned (.bool (R i)) ∧ Below W.heap.size W w') :
    Calls Tryz.prog 45 #[.slice x1 n1 c1, .slice x2 n2 c2, .func (.func 46) #[] #[]] w fun e w' => e = .returned (.bool (decide (n1 = n2) && allR n1 R)) ∧ Below w.heap.size w w' := by
  have HSE := Lib.hid sizeV_var
  by_cases hne : n1 = n2
  · subst hne
    have hee : (decide (n1 = n1) && allR n1 R) = allR n1 R := by simp
    rw [hee]
    have HR := Lib.hid hr
    have HX1 := Lib.hid hx1
    have HX2 := Lib.hid hx2
    have hd0 : ((n1 : Int) != (n1 : Int)) = false := by simp
    clear hr hx1 hx2 hee hn2
    go_enter Tryz.func45, Tryz.ntmps45
    go_wp2_with fail
    go_loopw [17] (fun iv wr => ∃ i : Nat, iv = .int .i64 (i : Int) ∧ i ≤ n1 ∧ Below w.heap.size w wr ∧ ∀ j, j < i → R j = true)
      (fun iv _ => n1 - (intOf iv).toNat)
    case atStart => exact ⟨0, rfl, Nat.zero_le _, Below.refl _ _, fun j hj => absurd hj (Nat.not_lt_zero _)⟩
    case round =>
      obtain ⟨i, rfl, hil, hbw, hall⟩ := hrel
      have HALL := Lib.hid hall
      clear hall
      by_cases hin : i < n1
      · have d2 : decide ((i : Int) < (n1 : Int)) = true := by simp; omega
        have e1 := (HX1.out (by omega)).1
        have e2 := (HX2.out (by omega)).1
        have hg1 := (HX1.out (by omega)).2
        have hg2 := (HX2.out (by omega)).2
        have hi1 : ∀ W, (Instr.indexAt 32 (.slice x1 n1 c1) (.int .i64 (i : Int))).run Tryz.prog W = .ok (.pointer (some ⟨g1, i * 5, none⟩)) W := fun W => by rw [e1]; exact idxV_var g1 n1 c1 i hin W
        have hi2 : ∀ W, (Instr.indexAt 32 (.slice x2 n1 c2) (.int .i64 (i : Int))).run Tryz.prog W = .ok (.pointer (some ⟨g2, i * 5, none⟩)) W := fun W => by rw [e2]; exact idxV_var g2 n1 c2 i hin W
        obtain ⟨m1, o1, k1, a1, t1, m2, o2, k2, a2, t2, hc1, hc2, hcall⟩ := HR.out i hin hin
        have hq := fun j u h => cell_low hbw hg1 (hc1 j u h)
        have q0_ := hq 0 _ rfl
        have q1_ := hq 1 _ rfl
        have q2_ := hq 2 _ rfl
        have q3_ := hq 3 _ rfl
        have q4_ := hq 4 _ rfl
        rw [Nat.add_zero] at q0_
        have HC2 := Lib.hid hc2
        have HG2 := Lib.hid hg2
        have HCALL := Lib.hid hcall
        have hb3 : Below wr.heap.size wr (wr.alloc (.cells #[.string ⟨#[]⟩, .int .i64 0, .string ⟨#[]⟩, .bool false, .int .i64 0] 31)) := (Below.refl _ _).alloc (Nat.le_refl _) _
        have HN3 := Lib.hid (heap_alloc_new wr (.cells #[.string ⟨#[]⟩, .int .i64 0, .string ⟨#[]⟩, .bool false, .int .i64 0] 31))
        have HB3 := Lib.hid hb3
        have HBW := Lib.hid hbw
        have HSZ : Hid (w.heap.size ≤ wr.heap.size) := Lib.hid hbw.size
        obtain ⟨b, hb⟩ : ∃ b, b = R i := ⟨_, rfl⟩
        rw [← hb] at HCALL
        have HRI := Lib.hid hb
        clear hc1 hc2 hcall hq hb3 hbw e1 e2 hg1 hg2 HX1 HX2 HR hb
        cases b
        all_goals
          go_wp2_with (first
            | (
           refine wpList_store_row rfl 31 (.tmp 8) (.tmp 21) rfl wr.heap.size #[.string m1, .int .i64 k1, .string o1, .bool t1, .int .i64 a1] rfl rfl 31 _ HN3.out HSE.out rfl (vrowV_one _ _ _ _ _) ?_
           have hset := setRow_heap _ wr.heap.size _ #[.string m1, .int .i64 k1, .string o1, .bool t1, .int .i64 a1] _ _ HN3.out
           have hbs := below_setRow HB3.out (Nat.le_refl _) #[.string m1, .int .i64 k1, .string o1, .bool t1, .int .i64 a1]
           generalize (wr.alloc (.cells #[.string ⟨#[]⟩, .int .i64 0, .string ⟨#[]⟩, .bool false, .int .i64 0] 31)).setRow wr.heap.size #[.string m1, .int .i64 k1, .string o1, .bool t1, .int .i64 a1] = w3 at hset hbs ⊢
           have HA1 := Lib.hid hset
           have HBA := Lib.hid (HBW.out.trans (hbs.mono HSZ.out))
           have hz3 : wr.heap.size + 1 ≤ w3.heap.size := (Array.getElem?_eq_some_iff.1 hset).1
           have hp := fun j u h => cell_low HBA.out HG2.out (HC2.out j u h)
           have p0 := hp 0 _ rfl
           have p1 := hp 1 _ rfl
           have p2 := hp 2 _ rfl
           have p3 := hp 3 _ rfl
           have p4 := hp 4 _ rfl
           rw [Nat.add_zero] at p0
           have HN4 := Lib.hid (heap_alloc_new w3 (.cells #[.string ⟨#[]⟩, .int .i64 0, .string ⟨#[]⟩, .bool false, .int .i64 0] 31))
           have HB4 : Hid (Below w3.heap.size w3 (w3.alloc (.cells #[.string ⟨#[]⟩, .int .i64 0, .string ⟨#[]⟩, .bool false, .int .i64 0] 31))) := Lib.hid ((Below.refl _ _).alloc (Nat.le_refl _) _)
           clear hset hbs HN3 HB3 HBW hp HC2)
            | (
           refine wpList_store_row rfl 31 (.tmp 9) (.tmp 25) rfl w3.heap.size #[.string m2, .int .i64 k2, .string o2, .bool t2, .int .i64 a2] rfl rfl 31 _ HN4.out HSE.out rfl (vrowV_one _ _ _ _ _) ?_
           have hset := setRow_heap _ w3.heap.size _ #[.string m2, .int .i64 k2, .string o2, .bool t2, .int .i64 a2] _ _ HN4.out
           have hbs := below_setRow HB4.out (Nat.le_refl _) #[.string m2, .int .i64 k2, .string o2, .bool t2, .int .i64 a2]
           generalize (w3.alloc (.cells #[.string ⟨#[]⟩, .int .i64 0, .string ⟨#[]⟩, .bool false, .int .i64 0] 31)).setRow w3.heap.size #[.string m2, .int .i64 k2, .string o2, .bool t2, .int .i64 a2] = w4 at hset hbs ⊢
           have HA2 := Lib.hid hset
           have HA1' := Lib.hid ((hbs.block wr.heap.size (by omega)).trans HA1.out)
           have HBB := Lib.hid (HBA.out.trans (hbs.mono (by have := HSZ.out; omega)))
           have hz4 := hbs.size
           clear hset hbs HN4 HB4 HA1 HBA)
            | (refine wpList_load_row rfl 31 (.tmp 8) rfl wr.heap.size rfl 31 #[.string m1, .int .i64 k1, .string o1, .bool t1, .int .i64 a1] (0, 0) _ HA1'.out Tryz.underlying31 rfl HSE.out ?_)
            | (refine wpList_load_row rfl 31 (.tmp 9) rfl w3.heap.size rfl 31 #[.string m2, .int .i64 k2, .string o2, .bool t2, .int .i64 a2] (0, 0) _ HA2.out Tryz.underlying31 rfl HSE.out ?_))
          have kc := HCALL.out w4 HBB.out
          (with_reducible refine kc.mono ?_)
          rintro e w5 ⟨rfl, hb5⟩
          have H5 := Lib.hid (HBB.out.trans (hb5.mono (by have := HSZ.out; omega)))
          clear hb5 kc HA1' HA2 HBB
          go_wp2_with fail
        · go_ret
          refine ⟨?_, H5.out⟩
          rw [allR_no HRI.out hin]
          rfl
        · refine ⟨⟨i + 1, by go_num, by omega, H5.out, fun j hj => ?_⟩, ?_⟩
          · by_cases hji : j < i
            · exact HALL.out j hji
            · obtain rfl : j = i := by omega
              exact HRI.out.symm
          · simp [intOf]; omega
      · obtain rfl : i = n1 := by omega
        have d2 : decide ((i : Int) < (i : Int)) = false := by simp
        have HBW := Lib.hid hbw
        clear hbw HX1 HX2 HR
        go_wp2_with fail
        go_ret
        refine ⟨?_, HBW.out⟩
        rw [allR_yes HALL.out]
        rfl
  · have hee : (decide (n1 = n2) && allR n1 R) = false := by simp [hne]
    rw [hee]
    have hd0 : ((n1 : Int) != (n2 : Int)) = true := by simp; omega
    clear hr hx1 hx2 hee
    go_enter Tryz.func45, Tryz.ntmps45
    go_wp2_with fail
    go_ret
    exact ⟨rfl, Below.refl _ _⟩
end Go.Proofs.YtfgjgnfbhfhkjaaGreatDoor

namespace Go.Proofs.YtfgjgnfbhfhkjaaGreatDoor
open Go Go.RowKit
set_option maxHeartbeats 4000000 in
set_option maxRecDepth 100000 in
theorem eqf_Eq (w : World) (x1 x2 : Option Addr) (n1 c1 n2 c2 g1 g2 : Nat) (hx1 : 0 < n1 → x1 = some ⟨g1, 0, none⟩ ∧ g1 < w.heap.size) (hx2 : 0 < n2 → x2 = some ⟨g2, 0, none⟩ ∧ g2 < w.heap.size) (hn1 : n1 < 1000000000000) (hn2 : n2 < 1000000000000) (R : Nat → Bool)
    (hr : ∀ i, i < n1 → i < n2 → ∃ (q1 o1 m1 : ByteArray) (n1' a1 : Int) (y1 : Option Addr) (l1 d1 : Nat) (b1 : Int) (q2 o2 m2 : ByteArray) (n2' a2 : Int) (y2 : Option Addr) (l2 d2 : Nat) (b2 : Int), (∀ (j : Nat) (u : Value), ([.string q1, .string o1, .string m1, .int .i64 n1', .int .i64 a1, .slice y1 l1 d1, .int .i64 b1] : List Value)[j]? = some u → w.cell? ⟨g1, i * 7 + j, none⟩ = some u) ∧ (∀ (j : Nat) (u : Value), ([.string q2, .string o2, .string m2, .int .i64 n2', .int .i64 a2, .slice y2 l2 d2, .int .i64 b2] : List Value)[j]? = some u → w.cell? ⟨g2, i * 7 + j, none⟩ = some u) ∧ ∀ W, Below w.heap.size w W → Calls Tryz.prog 48 #[.agg #[.string q1, .string o1, .string m1, .int .i64 n1', .int .i64 a1, .slice y1 l1 d1, .int .i64 b1], .agg #[.string q2, .string o2, .string m2, .int .i64 n2', .int .i64 a2, .slice y2 l2 d2, .int .i64 b2]] W fun e w' => e = .returned (.bool (R i)) ∧ Below W.heap.size W w') :
    Calls Tryz.prog 47 #[.slice x1 n1 c1, .slice x2 n2 c2, .func (.func 48) #[] #[]] w fun e w' => e = .returned (.bool (decide (n1 = n2) && allR n1 R)) ∧ Below w.heap.size w w' := by
  have HSE := Lib.hid sizeV_eq
  by_cases hne : n1 = n2
  · subst hne
    have hee : (decide (n1 = n1) && allR n1 R) = allR n1 R := by simp
    rw [hee]
    have HR := Lib.hid hr
    have HX1 := Lib.hid hx1
    have HX2 := Lib.hid hx2
    have hd0 : ((n1 : Int) != (n1 : Int)) = false := by simp
    clear hr hx1 hx2 hee hn2
    go_enter Tryz.func47, Tryz.ntmps47
    go_wp2_with fail
    go_loopw [17] (fun iv wr => ∃ i : Nat, iv = .int .i64 (i : Int) ∧ i ≤ n1 ∧ Below w.heap.size w wr ∧ ∀ j, j < i → R j = true)
      (fun iv _ => n1 - (intOf iv).toNat)
    case atStart => exact ⟨0, rfl, Nat.zero_le _, Below.refl _ _, fun j hj => absurd hj (Nat.not_lt_zero _)⟩
    case round =>
      obtain ⟨i, rfl, hil, hbw, hall⟩ := hrel
      have HALL := Lib.hid hall
      clear hall
      by_cases hin : i < n1
      · have d2 : decide ((i : Int) < (n1 : Int)) = true := by simp; omega
        have e1 := (HX1.out (by omega)).1
        have e2 := (HX2.out (by omega)).1
        have hg1 := (HX1.out (by omega)).2
        have hg2 := (HX2.out (by omega)).2
        have hi1 : ∀ W, (Instr.indexAt 33 (.slice x1 n1 c1) (.int .i64 (i : Int))).run Tryz.prog W = .ok (.pointer (some ⟨g1, i * 7, none⟩)) W := fun W => by rw [e1]; exact idxV_eq g1 n1 c1 i hin W
        have hi2 : ∀ W, (Instr.indexAt 33 (.slice x2 n1 c2) (.int .i64 (i : Int))).run Tryz.prog W = .ok (.pointer (some ⟨g2, i * 7, none⟩)) W := fun W => by rw [e2]; exact idxV_eq g2 n1 c2 i hin W
        obtain ⟨q1, o1, m1, n1', a1, y1, l1, d1, b1, q2, o2, m2, n2', a2, y2, l2, d2, b2, hc1, hc2, hcall⟩ := HR.out i hin hin
        have hq := fun j u h => cell_low hbw hg1 (hc1 j u h)
        have q0_ := hq 0 _ rfl
        have q1_ := hq 1 _ rfl
        have q2_ := hq 2 _ rfl
        have q3_ := hq 3 _ rfl
        have q4_ := hq 4 _ rfl
        have q5_ := hq 5 _ rfl
        have q6_ := hq 6 _ rfl
        rw [Nat.add_zero] at q0_
        have HC2 := Lib.hid hc2
        have HG2 := Lib.hid hg2
        have HCALL := Lib.hid hcall
        have hb3 : Below wr.heap.size wr (wr.alloc (.cells #[.string ⟨#[]⟩, .string ⟨#[]⟩, .string ⟨#[]⟩, .int .i64 0, .int .i64 0, .slice none 0 0, .int .i64 0] 41)) := (Below.refl _ _).alloc (Nat.le_refl _) _
        have HN3 := Lib.hid (heap_alloc_new wr (.cells #[.string ⟨#[]⟩, .string ⟨#[]⟩, .string ⟨#[]⟩, .int .i64 0, .int .i64 0, .slice none 0 0, .int .i64 0] 41))
        have HB3 := Lib.hid hb3
        have HBW := Lib.hid hbw
        have HSZ : Hid (w.heap.size ≤ wr.heap.size) := Lib.hid hbw.size
        obtain ⟨b, hb⟩ : ∃ b, b = R i := ⟨_, rfl⟩
        rw [← hb] at HCALL
        have HRI := Lib.hid hb
        clear hc1 hc2 hcall hq hb3 hbw e1 e2 hg1 hg2 HX1 HX2 HR hb
        cases b
        all_goals
          go_wp2_with (first
            | (
           refine wpList_store_row rfl 41 (.tmp 8) (.tmp 21) rfl wr.heap.size #[.string q1, .string o1, .string m1, .int .i64 n1', .int .i64 a1, .slice y1 l1 d1, .int .i64 b1] rfl rfl 41 _ HN3.out HSE.out rfl (qrowV_one _ _ _ _ _ _ _ _ _) ?_
           have hset := setRow_heap _ wr.heap.size _ #[.string q1, .string o1, .string m1, .int .i64 n1', .int .i64 a1, .slice y1 l1 d1, .int .i64 b1] _ _ HN3.out
           have hbs := below_setRow HB3.out (Nat.le_refl _) #[.string q1, .string o1, .string m1, .int .i64 n1', .int .i64 a1, .slice y1 l1 d1, .int .i64 b1]
           generalize (wr.alloc (.cells #[.string ⟨#[]⟩, .string ⟨#[]⟩, .string ⟨#[]⟩, .int .i64 0, .int .i64 0, .slice none 0 0, .int .i64 0] 41)).setRow wr.heap.size #[.string q1, .string o1, .string m1, .int .i64 n1', .int .i64 a1, .slice y1 l1 d1, .int .i64 b1] = w3 at hset hbs ⊢
           have HA1 := Lib.hid hset
           have HBA := Lib.hid (HBW.out.trans (hbs.mono HSZ.out))
           have hz3 : wr.heap.size + 1 ≤ w3.heap.size := (Array.getElem?_eq_some_iff.1 hset).1
           have hp := fun j u h => cell_low HBA.out HG2.out (HC2.out j u h)
           have p0 := hp 0 _ rfl
           have p1 := hp 1 _ rfl
           have p2 := hp 2 _ rfl
           have p3 := hp 3 _ rfl
           have p4 := hp 4 _ rfl
           have p5 := hp 5 _ rfl
           have p6 := hp 6 _ rfl
           rw [Nat.add_zero] at p0
           have HN4 := Lib.hid (heap_alloc_new w3 (.cells #[.string ⟨#[]⟩, .string ⟨#[]⟩, .string ⟨#[]⟩, .int .i64 0, .int .i64 0, .slice none 0 0, .int .i64 0] 41))
           have HB4 : Hid (Below w3.heap.size w3 (w3.alloc (.cells #[.string ⟨#[]⟩, .string ⟨#[]⟩, .string ⟨#[]⟩, .int .i64 0, .int .i64 0, .slice none 0 0, .int .i64 0] 41))) := Lib.hid ((Below.refl _ _).alloc (Nat.le_refl _) _)
           clear hset hbs HN3 HB3 HBW hp HC2)
            | (
           refine wpList_store_row rfl 41 (.tmp 9) (.tmp 25) rfl w3.heap.size #[.string q2, .string o2, .string m2, .int .i64 n2', .int .i64 a2, .slice y2 l2 d2, .int .i64 b2] rfl rfl 41 _ HN4.out HSE.out rfl (qrowV_one _ _ _ _ _ _ _ _ _) ?_
           have hset := setRow_heap _ w3.heap.size _ #[.string q2, .string o2, .string m2, .int .i64 n2', .int .i64 a2, .slice y2 l2 d2, .int .i64 b2] _ _ HN4.out
           have hbs := below_setRow HB4.out (Nat.le_refl _) #[.string q2, .string o2, .string m2, .int .i64 n2', .int .i64 a2, .slice y2 l2 d2, .int .i64 b2]
           generalize (w3.alloc (.cells #[.string ⟨#[]⟩, .string ⟨#[]⟩, .string ⟨#[]⟩, .int .i64 0, .int .i64 0, .slice none 0 0, .int .i64 0] 41)).setRow w3.heap.size #[.string q2, .string o2, .string m2, .int .i64 n2', .int .i64 a2, .slice y2 l2 d2, .int .i64 b2] = w4 at hset hbs ⊢
           have HA2 := Lib.hid hset
           have HA1' := Lib.hid ((hbs.block wr.heap.size (by omega)).trans HA1.out)
           have HBB := Lib.hid (HBA.out.trans (hbs.mono (by have := HSZ.out; omega)))
           have hz4 := hbs.size
           clear hset hbs HN4 HB4 HA1 HBA)
            | (refine wpList_load_row rfl 41 (.tmp 8) rfl wr.heap.size rfl 41 #[.string q1, .string o1, .string m1, .int .i64 n1', .int .i64 a1, .slice y1 l1 d1, .int .i64 b1] (0, 0) _ HA1'.out Tryz.underlying41 rfl HSE.out ?_)
            | (refine wpList_load_row rfl 41 (.tmp 9) rfl w3.heap.size rfl 41 #[.string q2, .string o2, .string m2, .int .i64 n2', .int .i64 a2, .slice y2 l2 d2, .int .i64 b2] (0, 0) _ HA2.out Tryz.underlying41 rfl HSE.out ?_))
          have kc := HCALL.out w4 HBB.out
          (with_reducible refine kc.mono ?_)
          rintro e w5 ⟨rfl, hb5⟩
          have H5 := Lib.hid (HBB.out.trans (hb5.mono (by have := HSZ.out; omega)))
          clear hb5 kc HA1' HA2 HBB
          go_wp2_with fail
        · go_ret
          refine ⟨?_, H5.out⟩
          rw [allR_no HRI.out hin]
          rfl
        · refine ⟨⟨i + 1, by go_num, by omega, H5.out, fun j hj => ?_⟩, ?_⟩
          · by_cases hji : j < i
            · exact HALL.out j hji
            · obtain rfl : j = i := by omega
              exact HRI.out.symm
          · simp [intOf]; omega
      · obtain rfl : i = n1 := by omega
        have d2 : decide ((i : Int) < (i : Int)) = false := by simp
        have HBW := Lib.hid hbw
        clear hbw HX1 HX2 HR
        go_wp2_with fail
        go_ret
        refine ⟨?_, HBW.out⟩
        rw [allR_yes HALL.out]
        rfl
  · have hee : (decide (n1 = n2) && allR n1 R) = false := by simp [hne]
    rw [hee]
    have hd0 : ((n1 : Int) != (n2 : Int)) = true := by simp; omega
    clear hr hx1 hx2 hee
    go_enter Tryz.func47, Tryz.ntmps47
    go_wp2_with fail
    go_ret
    exact ⟨rfl, Below.refl _ _⟩
end Go.Proofs.YtfgjgnfbhfhkjaaGreatDoor

namespace Go.Proofs.YtfgjgnfbhfhkjaaGreatDoor
open Go Go.RowKit
def vr0 : Vr := ⟨⟨#[]⟩, 0, ⟨#[]⟩, false, 0⟩
def qe0 : Qe := ⟨⟨#[]⟩, ex0, 0⟩
def nd0 : Nd := ⟨⟨#[]⟩, [], [], [], [], 0⟩
/-- Are two declared names, equations, nodes, programs alike, but for places? -/
def sameV (v v' : Vr) : Bool := v.name.toList == v'.name.toList && ((v.kind : Int) == (v'.kind : Int)) && v.on.toList == v'.on.toList && (v.not_ == v'.not_)
def sameVs (l l' : List Vr) : Bool := decide (l.length = l'.length) && allR l.length fun i => sameV (l.getD i vr0) (l'.getD i vr0)
def sameQ (q q' : Qe) : Bool := q.name.toList == q'.name.toList && sameE q.e q'.e
def sameQs (l l' : List Qe) : Bool := decide (l.length = l'.length) && allR l.length fun i => sameQ (l.getD i qe0) (l'.getD i qe0)
def sameN (n n' : Nd) : Bool := n.name.toList == n'.name.toList && (sameVs n.ins n'.ins && (sameVs n.outs n'.outs && (sameVs n.locs n'.locs && sameQs n.eqs n'.eqs)))
def sameP (l l' : List Nd) : Bool := decide (l.length = l'.length) && allR l.length fun i => sameN (l.getD i nd0) (l'.getD i nd0)
theorem VarsV.blk {w : World} {B n : Nat} {x : Option Addr} {vs : List Vr} (h : VarsV w B x n vs) : n = vs.length ∧ ∃ g, 0 < n → x = some ⟨g, 0, none⟩ ∧ g < w.heap.size := ⟨h.1, h.2.choose, fun hl => ⟨(h.2.choose_spec hl).1, (h.2.choose_spec hl).2.2.1⟩⟩
theorem EqsV.blk {w : World} {B n : Nat} {x : Option Addr} {vs : List Qe} (h : EqsV w B x n vs) : n = vs.length ∧ ∃ g, 0 < n → x = some ⟨g, 0, none⟩ ∧ g < w.heap.size := ⟨h.1, h.2.choose, fun hl => ⟨(h.2.choose_spec hl).1, (h.2.choose_spec hl).2.2.1⟩⟩
theorem NodesV.blk {w : World} {B n : Nat} {x : Option Addr} {vs : List Nd} (h : NodesV w B x n vs) : n = vs.length ∧ ∃ g, 0 < n → x = some ⟨g, 0, none⟩ ∧ g < w.heap.size := ⟨h.1, h.2.choose, fun hl => ⟨(h.2.choose_spec hl).1, (h.2.choose_spec hl).2.2.1⟩⟩
theorem getD_at {α : Type} (l : List α) (i : Nat) (d : α) (h : i < l.length) : l.getD i d = l[i] := by rw [List.getD_eq_getElem?_getD, List.getElem?_eq_getElem h]; rfl
theorem samevars_any (B : Nat) (w : World) (x1 x2 : Option Addr) (n1 c1 n2 c2 : Nat) (l1 l2 : List Vr) (h1 : VarsV w B x1 n1 l1) (h2 : VarsV w B x2 n2 l2) (hn1 : n1 < 1000000000000) (hn2 : n2 < 1000000000000) :
    Calls Tryz.prog 45 #[.slice x1 n1 c1, .slice x2 n2 c2, .func (.func 46) #[] #[]] w fun e w' => e = .returned (.bool (sameVs l1 l2)) ∧ Below w.heap.size w w' := by
  obtain ⟨e1, g1, hg1⟩ := h1.blk
  obtain ⟨e2, g2, hg2⟩ := h2.blk
  have k := eqf_Var w x1 x2 n1 c1 n2 c2 g1 g2 hg1 hg2 hn1 hn2 (fun i => sameV (l1.getD i vr0) (l2.getD i vr0)) (fun i hi1 hi2 => by
    have d1 := h1.cells (hg1 (by omega)).1 i (by omega)
    have d2 := h2.cells (hg2 (by omega)).1 i (by omega)
    rw [← getD_at l1 i vr0 (by omega)] at d1
    rw [← getD_at l2 i vr0 (by omega)] at d2
    generalize l1.getD i vr0 = V1 at d1 ⊢
    generalize l2.getD i vr0 = V2 at d2 ⊢
    obtain ⟨a1, a2, a3, a4, a5⟩ := V1
    obtain ⟨b1, b2, b3, b4, b5⟩ := V2
    exact ⟨a1, a3, a2, a5, a4, b1, b3, b2, b5, b4, d1, d2, fun W _ => sameVar_any W a1 a3 b1 b3 a2 a5 b2 b5 a4 b4⟩)
  unfold sameVs
  rw [← e1, ← e2]
  exact k
theorem sameeqs_any (B : Nat) (w : World) (hB : B ≤ w.heap.size) (x1 x2 : Option Addr) (n1 c1 n2 c2 : Nat) (l1 l2 : List Qe) (h1 : EqsV w B x1 n1 l1) (h2 : EqsV w B x2 n2 l2) (hn1 : n1 < 1000000000000) (hn2 : n2 < 1000000000000) (f1 : ∀ q ∈ l1, FineE q.e) (f2 : ∀ q ∈ l2, FineE q.e) :
    Calls Tryz.prog 47 #[.slice x1 n1 c1, .slice x2 n2 c2, .func (.func 48) #[] #[]] w fun e w' => e = .returned (.bool (sameQs l1 l2)) ∧ Below w.heap.size w w' := by
  obtain ⟨e1, g1, hg1⟩ := h1.blk
  obtain ⟨e2, g2, hg2⟩ := h2.blk
  have k := eqf_Eq w x1 x2 n1 c1 n2 c2 g1 g2 hg1 hg2 hn1 hn2 (fun i => sameQ (l1.getD i qe0) (l2.getD i qe0)) (fun i hi1 hi2 => by
    obtain ⟨o, m, n, a, y, l, d, d1, p1⟩ := h1.cells (hg1 (by omega)).1 i (by omega)
    obtain ⟨o', m', n', a', y', l', d', d2, p2⟩ := h2.cells (hg2 (by omega)).1 i (by omega)
    have q1 := f1 _ (List.getElem_mem (by omega : i < l1.length))
    have q2 := f2 _ (List.getElem_mem (by omega : i < l2.length))
    rw [← getD_at l1 i qe0 (by omega)] at d1 p1 q1
    rw [← getD_at l2 i qe0 (by omega)] at d2 p2 q2
    exact ⟨_, o, m, n, a, y, l, d, _, _, o', m', n', a', y', l', d', _, d1, d2, fun W hW => sameEq_any B W _ o m n a y l d _ _ o' m' n' a' y' l' d' _ _ _ (by have := hW.size; omega) (p1.low (hW.mono hB)) (p2.low (hW.mono hB)) q1 q2⟩)
  unfold sameQs
  rw [← e1, ← e2]
  exact k
end Go.Proofs.YtfgjgnfbhfhkjaaGreatDoor

namespace Go.Proofs.YtfgjgnfbhfhkjaaGreatDoor
open Go Go.RowKit
set_option maxHeartbeats 4000000 in
set_option maxRecDepth 100000 in
theorem sameNode_any (B : Nat) (w : World) (hB : B ≤ w.heap.size) (q1 : ByteArray) (xi1 xo1 xl1 xe1 : Option Addr) (ni1 no1 nl1 ne1 ci1 co1 cl1 ce1 : Nat) (b1 : Int) (q2 : ByteArray) (xi2 xo2 xl2 xe2 : Option Addr) (ni2 no2 nl2 ne2 ci2 co2 cl2 ce2 : Nat) (b2 : Int) (t1 t2 : Nd) (h1 : NodeV w B xi1 xo1 xl1 xe1 ni1 no1 nl1 ne1 t1) (h2 : NodeV w B xi2 xo2 xl2 xe2 ni2 no2 nl2 ne2 t2) (hq1 : q1 = t1.name) (hq2 : q2 = t2.name) (f1 : FineN t1) (f2 : FineN t2) :
    Calls Tryz.prog 25 #[.agg #[.string q1, .slice xi1 ni1 ci1, .slice xo1 no1 co1, .slice xl1 nl1 cl1, .slice xe1 ne1 ce1, .int .i64 b1], .agg #[.string q2, .slice xi2 ni2 ci2, .slice xo2 no2 co2, .slice xl2 nl2 cl2, .slice xe2 ne2 ce2, .int .i64 b2]] w fun e w' => e = .returned (.bool (sameN t1 t2)) ∧ Below w.heap.size w w' := by
  have hw1 : Below w.heap.size w (w.alloc (.cells #[.string q1, .slice xi1 ni1 ci1, .slice xo1 no1 co1, .slice xl1 nl1 cl1, .slice xe1 ne1 ce1, .int .i64 b1] 35)) := (Below.refl _ _).alloc (Nat.le_refl _) _
  have hn1 := heap_alloc_new w (.cells #[.string q1, .slice xi1 ni1 ci1, .slice xo1 no1 co1, .slice xl1 nl1 cl1, .slice xe1 ne1 ce1, .int .i64 b1] 35)
  have hs1 : (w.alloc (.cells #[.string q1, .slice xi1 ni1 ci1, .slice xo1 no1 co1, .slice xl1 nl1 cl1, .slice xe1 ne1 ce1, .int .i64 b1] 35)).heap.size = w.heap.size + 1 := by simp
  obtain ⟨v1, hv1⟩ : ∃ v, v = w.alloc (.cells #[.string q1, .slice xi1 ni1 ci1, .slice xo1 no1 co1, .slice xl1 nl1 cl1, .slice xe1 ne1 ce1, .int .i64 b1] 35) := ⟨_, rfl⟩
  rw [← hv1] at hw1 hn1 hs1
  have hw2 : Below v1.heap.size v1 (v1.alloc (.cells #[.string q2, .slice xi2 ni2 ci2, .slice xo2 no2 co2, .slice xl2 nl2 cl2, .slice xe2 ne2 ce2, .int .i64 b2] 35)) := (Below.refl _ _).alloc (Nat.le_refl _) _
  have hn2 := heap_alloc_new v1 (.cells #[.string q2, .slice xi2 ni2 ci2, .slice xo2 no2 co2, .slice xl2 nl2 cl2, .slice xe2 ne2 ce2, .int .i64 b2] 35)
  have hr1 := (hw2.block w.heap.size (by omega)).trans hn1
  rw [hs1] at hn2
  have hw3 : Below w.heap.size w (v1.alloc (.cells #[.string q2, .slice xi2 ni2 ci2, .slice xo2 no2 co2, .slice xl2 nl2 cl2, .slice xe2 ne2 ce2, .int .i64 b2] 35)) := hw1.trans (hw2.mono (by omega))
  have hs2 : (v1.alloc (.cells #[.string q2, .slice xi2 ni2 ci2, .slice xo2 no2 co2, .slice xl2 nl2 cl2, .slice xe2 ne2 ce2, .int .i64 b2] 35)).heap.size = w.heap.size + 2 := by simp [hs1]
  obtain ⟨v2, hv2⟩ : ∃ v, v = v1.alloc (.cells #[.string q2, .slice xi2 ni2 ci2, .slice xo2 no2 co2, .slice xl2 nl2 cl2, .slice xe2 ne2 ce2, .int .i64 b2] 35) := ⟨_, rfl⟩
  rw [← hv2] at hn2 hr1 hw3 hs2
  have z1 := h1.ins.1
  have z2 := h1.outs.1
  have z3 := h1.locs.1
  have z4 := h1.eqs.1
  have z5 := h2.ins.1
  have z6 := h2.outs.1
  have z7 := h2.locs.1
  have z8 := h2.eqs.1
  have k0 := fun (W : World) (hW : Below v2.heap.size v2 W) => samevars_any B W xi1 xi2 ni1 ci1 ni2 ci2 _ _ (h1.low ((hw3.mono hB).trans (hW.mono (by omega)))).ins (h2.low ((hw3.mono hB).trans (hW.mono (by omega)))).ins (by have := f1.ins; omega) (by have := f2.ins; omega)
  have k1 := fun (W : World) (hW : Below v2.heap.size v2 W) => samevars_any B W xo1 xo2 no1 co1 no2 co2 _ _ (h1.low ((hw3.mono hB).trans (hW.mono (by omega)))).outs (h2.low ((hw3.mono hB).trans (hW.mono (by omega)))).outs (by have := f1.outs; omega) (by have := f2.outs; omega)
  have k2 := fun (W : World) (hW : Below v2.heap.size v2 W) => samevars_any B W xl1 xl2 nl1 cl1 nl2 cl2 _ _ (h1.low ((hw3.mono hB).trans (hW.mono (by omega)))).locs (h2.low ((hw3.mono hB).trans (hW.mono (by omega)))).locs (by have := f1.locs; omega) (by have := f2.locs; omega)
  have k3 := fun (W : World) (hW : Below v2.heap.size v2 W) => sameeqs_any B W (by have := hW.size; omega) xe1 xe2 ne1 ce1 ne2 ce2 _ _ (h1.low ((hw3.mono hB).trans (hW.mono (by omega)))).eqs (h2.low ((hw3.mono hB).trans (hW.mono (by omega)))).eqs (by have := f1.eqs; omega) (by have := f2.eqs; omega) f1.ex f2.ex
  unfold sameN
  obtain ⟨r0, hr0⟩ : ∃ r, r = sameVs t1.ins t2.ins := ⟨_, rfl⟩
  obtain ⟨r1, hr1'⟩ : ∃ r, r = sameVs t1.outs t2.outs := ⟨_, rfl⟩
  obtain ⟨r2, hr2⟩ : ∃ r, r = sameVs t1.locs t2.locs := ⟨_, rfl⟩
  obtain ⟨r3, hr3⟩ : ∃ r, r = sameQs t1.eqs t2.eqs := ⟨_, rfl⟩
  simp only [← hr0] at k0
  simp only [← hr1'] at k1
  simp only [← hr2] at k2
  simp only [← hr3] at k3
  rw [← hr0, ← hr1', ← hr2, ← hr3, ← hq1, ← hq2]
  have c0 := cell_of_row v2 w.heap.size 0 _ _ _ hr1
  have e0 := cell_of_row v2 (w.heap.size + 1) 0 _ _ _ hn2
  have c1 := cell_of_row v2 w.heap.size 1 _ _ _ hr1
  have e1 := cell_of_row v2 (w.heap.size + 1) 1 _ _ _ hn2
  have HR1 := Lib.hid hr1
  have HR2 := Lib.hid hn2
  have HK0 := Lib.hid k0
  have HK1 := Lib.hid k1
  have HK2 := Lib.hid k2
  have HK3 := Lib.hid k3
  have HW := Lib.hid hw3
  have HS2 := Lib.hid hs2
  subst hv1
  have HV := Lib.hid hv2
  rw [hv2] at c0 e0 c1 e1
  clear h1 h2 f1 f2 hq1 hq2 hw1 hn1 hs1 hw2 hn2 hr1 hw3 hs2 hv2 k0 k1 k2 k3 z1 z2 z3 z4 z5 z6 z7 z8 hr0 hr1' hr2 hr3
  by_cases b1 : q1.toList = q2.toList
  · have d1 : (q1.toList == q2.toList) = true := by simpa using b1
    rw [d1]
    clear b1
    cases r0
    · simp only [Bool.true_and, Bool.false_and]
      go_enter Tryz.func25, Tryz.ntmps25
      go_wp2_with fail
      rw [← HV.out]
      (with_reducible refine (HK0.out v2 (Below.refl _ _)).mono ?_)
      rintro e u0 ⟨rfl, hb⟩
      have HB' : Hid (Below v2.heap.size v2 u0) := Lib.hid (hb)
      clear hb
      have HB := HB'
      clear HB'
      have c2 := cell_of_row u0 w.heap.size 2 _ _ _ ((HB.out.block w.heap.size (by have := HS2.out; omega)).trans HR1.out)
      have e2 := cell_of_row u0 (w.heap.size + 1) 2 _ _ _ ((HB.out.block (w.heap.size + 1) (by have := HS2.out; omega)).trans HR2.out)
      go_wp2_with fail
      go_ret
      exact ⟨rfl, HW.out.trans (HB.out.mono (by have := HS2.out; omega))⟩

    · cases r1
      · simp only [Bool.true_and, Bool.false_and]
        go_enter Tryz.func25, Tryz.ntmps25
        go_wp2_with fail
        rw [← HV.out]
        (with_reducible refine (HK0.out v2 (Below.refl _ _)).mono ?_)
        rintro e u0 ⟨rfl, hb⟩
        have HB' : Hid (Below v2.heap.size v2 u0) := Lib.hid (hb)
        clear hb
        have HB := HB'
        clear HB'
        have c2 := cell_of_row u0 w.heap.size 2 _ _ _ ((HB.out.block w.heap.size (by have := HS2.out; omega)).trans HR1.out)
        have e2 := cell_of_row u0 (w.heap.size + 1) 2 _ _ _ ((HB.out.block (w.heap.size + 1) (by have := HS2.out; omega)).trans HR2.out)
        go_wp2_with fail
        (with_reducible refine (HK1.out u0 HB.out).mono ?_)
        rintro e u1 ⟨rfl, hb⟩
        have HB' : Hid (Below v2.heap.size v2 u1) := Lib.hid ((HB.out.trans (hb.mono HB.out.size)))
        clear hb HB
        have HB := HB'
        clear HB'
        have c3 := cell_of_row u1 w.heap.size 3 _ _ _ ((HB.out.block w.heap.size (by have := HS2.out; omega)).trans HR1.out)
        have e3 := cell_of_row u1 (w.heap.size + 1) 3 _ _ _ ((HB.out.block (w.heap.size + 1) (by have := HS2.out; omega)).trans HR2.out)
        go_wp2_with fail
        go_ret
        exact ⟨rfl, HW.out.trans (HB.out.mono (by have := HS2.out; omega))⟩

      · cases r2
        · simp only [Bool.true_and, Bool.false_and]
          go_enter Tryz.func25, Tryz.ntmps25
          go_wp2_with fail
          rw [← HV.out]
          (with_reducible refine (HK0.out v2 (Below.refl _ _)).mono ?_)
          rintro e u0 ⟨rfl, hb⟩
          have HB' : Hid (Below v2.heap.size v2 u0) := Lib.hid (hb)
          clear hb
          have HB := HB'
          clear HB'
          have c2 := cell_of_row u0 w.heap.size 2 _ _ _ ((HB.out.block w.heap.size (by have := HS2.out; omega)).trans HR1.out)
          have e2 := cell_of_row u0 (w.heap.size + 1) 2 _ _ _ ((HB.out.block (w.heap.size + 1) (by have := HS2.out; omega)).trans HR2.out)
          go_wp2_with fail
          (with_reducible refine (HK1.out u0 HB.out).mono ?_)
          rintro e u1 ⟨rfl, hb⟩
          have HB' : Hid (Below v2.heap.size v2 u1) := Lib.hid ((HB.out.trans (hb.mono HB.out.size)))
          clear hb HB
          have HB := HB'
          clear HB'
          have c3 := cell_of_row u1 w.heap.size 3 _ _ _ ((HB.out.block w.heap.size (by have := HS2.out; omega)).trans HR1.out)
          have e3 := cell_of_row u1 (w.heap.size + 1) 3 _ _ _ ((HB.out.block (w.heap.size + 1) (by have := HS2.out; omega)).trans HR2.out)
          go_wp2_with fail
          (with_reducible refine (HK2.out u1 HB.out).mono ?_)
          rintro e u2 ⟨rfl, hb⟩
          have HB' : Hid (Below v2.heap.size v2 u2) := Lib.hid ((HB.out.trans (hb.mono HB.out.size)))
          clear hb HB
          have HB := HB'
          clear HB'
          have c4 := cell_of_row u2 w.heap.size 4 _ _ _ ((HB.out.block w.heap.size (by have := HS2.out; omega)).trans HR1.out)
          have e4 := cell_of_row u2 (w.heap.size + 1) 4 _ _ _ ((HB.out.block (w.heap.size + 1) (by have := HS2.out; omega)).trans HR2.out)
          go_wp2_with fail
          go_ret
          exact ⟨rfl, HW.out.trans (HB.out.mono (by have := HS2.out; omega))⟩

        · simp only [Bool.true_and, Bool.false_and]
          go_enter Tryz.func25, Tryz.ntmps25
          go_wp2_with fail
          rw [← HV.out]
          (with_reducible refine (HK0.out v2 (Below.refl _ _)).mono ?_)
          rintro e u0 ⟨rfl, hb⟩
          have HB' : Hid (Below v2.heap.size v2 u0) := Lib.hid (hb)
          clear hb
          have HB := HB'
          clear HB'
          have c2 := cell_of_row u0 w.heap.size 2 _ _ _ ((HB.out.block w.heap.size (by have := HS2.out; omega)).trans HR1.out)
          have e2 := cell_of_row u0 (w.heap.size + 1) 2 _ _ _ ((HB.out.block (w.heap.size + 1) (by have := HS2.out; omega)).trans HR2.out)
          go_wp2_with fail
          (with_reducible refine (HK1.out u0 HB.out).mono ?_)
          rintro e u1 ⟨rfl, hb⟩
          have HB' : Hid (Below v2.heap.size v2 u1) := Lib.hid ((HB.out.trans (hb.mono HB.out.size)))
          clear hb HB
          have HB := HB'
          clear HB'
          have c3 := cell_of_row u1 w.heap.size 3 _ _ _ ((HB.out.block w.heap.size (by have := HS2.out; omega)).trans HR1.out)
          have e3 := cell_of_row u1 (w.heap.size + 1) 3 _ _ _ ((HB.out.block (w.heap.size + 1) (by have := HS2.out; omega)).trans HR2.out)
          go_wp2_with fail
          (with_reducible refine (HK2.out u1 HB.out).mono ?_)
          rintro e u2 ⟨rfl, hb⟩
          have HB' : Hid (Below v2.heap.size v2 u2) := Lib.hid ((HB.out.trans (hb.mono HB.out.size)))
          clear hb HB
          have HB := HB'
          clear HB'
          have c4 := cell_of_row u2 w.heap.size 4 _ _ _ ((HB.out.block w.heap.size (by have := HS2.out; omega)).trans HR1.out)
          have e4 := cell_of_row u2 (w.heap.size + 1) 4 _ _ _ ((HB.out.block (w.heap.size + 1) (by have := HS2.out; omega)).trans HR2.out)
          go_wp2_with fail
          (with_reducible refine (HK3.out u2 HB.out).mono ?_)
          rintro e u3 ⟨rfl, hb⟩
          have HB' : Hid (Below v2.heap.size v2 u3) := Lib.hid ((HB.out.trans (hb.mono HB.out.size)))
          clear hb HB
          have HB := HB'
          clear HB'
          go_wp2_with fail
          go_ret
          exact ⟨by cases r3 <;> rfl, HW.out.trans (HB.out.mono (by have := HS2.out; omega))⟩

  · have d1 : (q1.toList == q2.toList) = false := by simpa using b1
    rw [d1]
    clear b1
    simp only [Bool.false_and]
    rw [HV.out] at HW
    go_enter Tryz.func25, Tryz.ntmps25
    go_wp2_with fail
    go_ret
    exact ⟨rfl, HW.out⟩
end Go.Proofs.YtfgjgnfbhfhkjaaGreatDoor

namespace Go.Proofs.YtfgjgnfbhfhkjaaGreatDoor
open Go Go.RowKit
set_option maxHeartbeats 4000000 in
set_option maxRecDepth 100000 in
theorem eqf_Node (w : World) (x1 x2 : Option Addr) (n1 c1 n2 c2 g1 g2 : Nat) (hx1 : 0 < n1 → x1 = some ⟨g1, 0, none⟩ ∧ g1 < w.heap.size) (hx2 : 0 < n2 → x2 = some ⟨g2, 0, none⟩ ∧ g2 < w.heap.size) (hn1 : n1 < 1000000000000) (hn2 : n2 < 1000000000000) (R : Nat → Bool)
    (hr : ∀ i, i < n1 → i < n2 → ∃ (q1 : ByteArray) (ya1 yb1 yc1 yd1 : Option Addr) (la1 da1 lb1 db1 lc1 dc1 ld1 dd1 : Nat) (b1 : Int) (q2 : ByteArray) (ya2 yb2 yc2 yd2 : Option Addr) (la2 da2 lb2 db2 lc2 dc2 ld2 dd2 : Nat) (b2 : Int), (∀ (j : Nat) (u : Value), ([.string q1, .slice ya1 la1 da1, .slice yb1 lb1 db1, .slice yc1 lc1 dc1, .slice yd1 ld1 dd1, .int .i64 b1] : List Value)[j]? = some u → w.cell? ⟨g1, i * 6 + j, none⟩ = some u) ∧ (∀ (j : Nat) (u : Value), ([.string q2, .slice ya2 la2 da2, .slice yb2 lb2 db2, .slice yc2 lc2 dc2, .slice yd2 ld2 dd2, .int .i64 b2] : List Value)[j]? = some u → w.cell? ⟨g2, i * 6 + j, none⟩ = some u) ∧ ∀ W, Below w.heap.size w W → Calls Tryz.prog 25 #[.agg #[.string q1, .slice ya1 la1 da1, .slice yb1 lb1 db1, .slice yc1 lc1 dc1, .slice yd1 ld1 dd1, .int .i64 b1], .agg #[.string q2, .slice ya2 la2 da2, .slice yb2 lb2 db2, .slice yc2 lc2 dc2, .slice yd2 ld2 dd2, .int .i64 b2]] W fun e w' => e = .returned (.bool (R i)) ∧ Below W.heap.size W w') :
    Calls Tryz.prog 24 #[.slice x1 n1 c1, .slice x2 n2 c2, .func (.func 25) #[] #[]] w fun e w' => e = .returned (.bool (decide (n1 = n2) && allR n1 R)) ∧ Below w.heap.size w w' := by
  have HSE := Lib.hid sizeV_node
  by_cases hne : n1 = n2
  · subst hne
    have hee : (decide (n1 = n1) && allR n1 R) = allR n1 R := by simp
    rw [hee]
    have HR := Lib.hid hr
    have HX1 := Lib.hid hx1
    have HX2 := Lib.hid hx2
    have hd0 : ((n1 : Int) != (n1 : Int)) = false := by simp
    clear hr hx1 hx2 hee hn2
    go_enter Tryz.func24, Tryz.ntmps24
    go_wp2_with fail
    go_loopw [17] (fun iv wr => ∃ i : Nat, iv = .int .i64 (i : Int) ∧ i ≤ n1 ∧ Below w.heap.size w wr ∧ ∀ j, j < i → R j = true)
      (fun iv _ => n1 - (intOf iv).toNat)
    case atStart => exact ⟨0, rfl, Nat.zero_le _, Below.refl _ _, fun j hj => absurd hj (Nat.not_lt_zero _)⟩
    case round =>
      obtain ⟨i, rfl, hil, hbw, hall⟩ := hrel
      have HALL := Lib.hid hall
      clear hall
      by_cases hin : i < n1
      · have d2 : decide ((i : Int) < (n1 : Int)) = true := by simp; omega
        have e1 := (HX1.out (by omega)).1
        have e2 := (HX2.out (by omega)).1
        have hg1 := (HX1.out (by omega)).2
        have hg2 := (HX2.out (by omega)).2
        have hi1 : ∀ W, (Instr.indexAt 23 (.slice x1 n1 c1) (.int .i64 (i : Int))).run Tryz.prog W = .ok (.pointer (some ⟨g1, i * 6, none⟩)) W := fun W => by rw [e1]; exact idxV_node g1 n1 c1 i hin W
        have hi2 : ∀ W, (Instr.indexAt 23 (.slice x2 n1 c2) (.int .i64 (i : Int))).run Tryz.prog W = .ok (.pointer (some ⟨g2, i * 6, none⟩)) W := fun W => by rw [e2]; exact idxV_node g2 n1 c2 i hin W
        obtain ⟨q1, ya1, yb1, yc1, yd1, la1, da1, lb1, db1, lc1, dc1, ld1, dd1, b1, q2, ya2, yb2, yc2, yd2, la2, da2, lb2, db2, lc2, dc2, ld2, dd2, b2, hc1, hc2, hcall⟩ := HR.out i hin hin
        have hq := fun j u h => cell_low hbw hg1 (hc1 j u h)
        have q0_ := hq 0 _ rfl
        have q1_ := hq 1 _ rfl
        have q2_ := hq 2 _ rfl
        have q3_ := hq 3 _ rfl
        have q4_ := hq 4 _ rfl
        have q5_ := hq 5 _ rfl
        rw [Nat.add_zero] at q0_
        have HC2 := Lib.hid hc2
        have HG2 := Lib.hid hg2
        have HCALL := Lib.hid hcall
        have hb3 : Below wr.heap.size wr (wr.alloc (.cells #[.string ⟨#[]⟩, .slice none 0 0, .slice none 0 0, .slice none 0 0, .slice none 0 0, .int .i64 0] 35)) := (Below.refl _ _).alloc (Nat.le_refl _) _
        have HN3 := Lib.hid (heap_alloc_new wr (.cells #[.string ⟨#[]⟩, .slice none 0 0, .slice none 0 0, .slice none 0 0, .slice none 0 0, .int .i64 0] 35))
        have HB3 := Lib.hid hb3
        have HBW := Lib.hid hbw
        have HSZ : Hid (w.heap.size ≤ wr.heap.size) := Lib.hid hbw.size
        obtain ⟨b, hb⟩ : ∃ b, b = R i := ⟨_, rfl⟩
        rw [← hb] at HCALL
        have HRI := Lib.hid hb
        clear hc1 hc2 hcall hq hb3 hbw e1 e2 hg1 hg2 HX1 HX2 HR hb
        cases b
        all_goals
          go_wp2_with (first
            | (
           refine wpList_store_row rfl 35 (.tmp 8) (.tmp 21) rfl wr.heap.size #[.string q1, .slice ya1 la1 da1, .slice yb1 lb1 db1, .slice yc1 lc1 dc1, .slice yd1 ld1 dd1, .int .i64 b1] rfl rfl 35 _ HN3.out HSE.out rfl (nrowV_one _ _ _ _ _ _ _ _ _ _ _ _ _ _) ?_
           have hset := setRow_heap _ wr.heap.size _ #[.string q1, .slice ya1 la1 da1, .slice yb1 lb1 db1, .slice yc1 lc1 dc1, .slice yd1 ld1 dd1, .int .i64 b1] _ _ HN3.out
           have hbs := below_setRow HB3.out (Nat.le_refl _) #[.string q1, .slice ya1 la1 da1, .slice yb1 lb1 db1, .slice yc1 lc1 dc1, .slice yd1 ld1 dd1, .int .i64 b1]
           generalize (wr.alloc (.cells #[.string ⟨#[]⟩, .slice none 0 0, .slice none 0 0, .slice none 0 0, .slice none 0 0, .int .i64 0] 35)).setRow wr.heap.size #[.string q1, .slice ya1 la1 da1, .slice yb1 lb1 db1, .slice yc1 lc1 dc1, .slice yd1 ld1 dd1, .int .i64 b1] = w3 at hset hbs ⊢
           have HA1 := Lib.hid hset
           have HBA := Lib.hid (HBW.out.trans (hbs.mono HSZ.out))
           have hz3 : wr.heap.size + 1 ≤ w3.heap.size := (Array.getElem?_eq_some_iff.1 hset).1
           have hp := fun j u h => cell_low HBA.out HG2.out (HC2.out j u h)
           have p0 := hp 0 _ rfl
           have p1 := hp 1 _ rfl
           have p2 := hp 2 _ rfl
           have p3 := hp 3 _ rfl
           have p4 := hp 4 _ rfl
           have p5 := hp 5 _ rfl
           rw [Nat.add_zero] at p0
           have HN4 := Lib.hid (heap_alloc_new w3 (.cells #[.string ⟨#[]⟩, .slice none 0 0, .slice none 0 0, .slice none 0 0, .slice none 0 0, .int .i64 0] 35))
           have HB4 : Hid (Below w3.heap.size w3 (w3.alloc (.cells #[.string ⟨#[]⟩, .slice none 0 0, .slice none 0 0, .slice none 0 0, .slice none 0 0, .int .i64 0] 35))) := Lib.hid ((Below.refl _ _).alloc (Nat.le_refl _) _)
           clear hset hbs HN3 HB3 HBW hp HC2)
            | (
           refine wpList_store_row rfl 35 (.tmp 9) (.tmp 25) rfl w3.heap.size #[.string q2, .slice ya2 la2 da2, .slice yb2 lb2 db2, .slice yc2 lc2 dc2, .slice yd2 ld2 dd2, .int .i64 b2] rfl rfl 35 _ HN4.out HSE.out rfl (nrowV_one _ _ _ _ _ _ _ _ _ _ _ _ _ _) ?_
           have hset := setRow_heap _ w3.heap.size _ #[.string q2, .slice ya2 la2 da2, .slice yb2 lb2 db2, .slice yc2 lc2 dc2, .slice yd2 ld2 dd2, .int .i64 b2] _ _ HN4.out
           have hbs := below_setRow HB4.out (Nat.le_refl _) #[.string q2, .slice ya2 la2 da2, .slice yb2 lb2 db2, .slice yc2 lc2 dc2, .slice yd2 ld2 dd2, .int .i64 b2]
           generalize (w3.alloc (.cells #[.string ⟨#[]⟩, .slice none 0 0, .slice none 0 0, .slice none 0 0, .slice none 0 0, .int .i64 0] 35)).setRow w3.heap.size #[.string q2, .slice ya2 la2 da2, .slice yb2 lb2 db2, .slice yc2 lc2 dc2, .slice yd2 ld2 dd2, .int .i64 b2] = w4 at hset hbs ⊢
           have HA2 := Lib.hid hset
           have HA1' := Lib.hid ((hbs.block wr.heap.size (by omega)).trans HA1.out)
           have HBB := Lib.hid (HBA.out.trans (hbs.mono (by have := HSZ.out; omega)))
           have hz4 := hbs.size
           clear hset hbs HN4 HB4 HA1 HBA)
            | (refine wpList_load_row rfl 35 (.tmp 8) rfl wr.heap.size rfl 35 #[.string q1, .slice ya1 la1 da1, .slice yb1 lb1 db1, .slice yc1 lc1 dc1, .slice yd1 ld1 dd1, .int .i64 b1] (0, 0) _ HA1'.out Tryz.underlying35 rfl HSE.out ?_)
            | (refine wpList_load_row rfl 35 (.tmp 9) rfl w3.heap.size rfl 35 #[.string q2, .slice ya2 la2 da2, .slice yb2 lb2 db2, .slice yc2 lc2 dc2, .slice yd2 ld2 dd2, .int .i64 b2] (0, 0) _ HA2.out Tryz.underlying35 rfl HSE.out ?_))
          have kc := HCALL.out w4 HBB.out
          (with_reducible refine kc.mono ?_)
          rintro e w5 ⟨rfl, hb5⟩
          have H5 := Lib.hid (HBB.out.trans (hb5.mono (by have := HSZ.out; omega)))
          clear hb5 kc HA1' HA2 HBB
          go_wp2_with fail
        · go_ret
          refine ⟨?_, H5.out⟩
          rw [allR_no HRI.out hin]
          rfl
        · refine ⟨⟨i + 1, by go_num, by omega, H5.out, fun j hj => ?_⟩, ?_⟩
          · by_cases hji : j < i
            · exact HALL.out j hji
            · obtain rfl : j = i := by omega
              exact HRI.out.symm
          · simp [intOf]; omega
      · obtain rfl : i = n1 := by omega
        have d2 : decide ((i : Int) < (i : Int)) = false := by simp
        have HBW := Lib.hid hbw
        clear hbw HX1 HX2 HR
        go_wp2_with fail
        go_ret
        refine ⟨?_, HBW.out⟩
        rw [allR_yes HALL.out]
        rfl
  · have hee : (decide (n1 = n2) && allR n1 R) = false := by simp [hne]
    rw [hee]
    have hd0 : ((n1 : Int) != (n2 : Int)) = true := by simp; omega
    clear hr hx1 hx2 hee
    go_enter Tryz.func24, Tryz.ntmps24
    go_wp2_with fail
    go_ret
    exact ⟨rfl, Below.refl _ _⟩
end Go.Proofs.YtfgjgnfbhfhkjaaGreatDoor

namespace Go.Proofs.YtfgjgnfbhfhkjaaGreatDoor
open Go Go.RowKit
theorem samenodes_any (B : Nat) (w : World) (hB : B ≤ w.heap.size) (x1 x2 : Option Addr) (n1 c1 n2 c2 : Nat) (l1 l2 : List Nd) (h1 : NodesV w B x1 n1 l1) (h2 : NodesV w B x2 n2 l2) (hn1 : n1 < 1000000000000) (hn2 : n2 < 1000000000000) (f1 : ∀ q ∈ l1, FineN q) (f2 : ∀ q ∈ l2, FineN q) :
    Calls Tryz.prog 24 #[.slice x1 n1 c1, .slice x2 n2 c2, .func (.func 25) #[] #[]] w fun e w' => e = .returned (.bool (sameP l1 l2)) ∧ Below w.heap.size w w' := by
  obtain ⟨e1, g1, hg1⟩ := h1.blk
  obtain ⟨e2, g2, hg2⟩ := h2.blk
  have k := eqf_Node w x1 x2 n1 c1 n2 c2 g1 g2 hg1 hg2 hn1 hn2 (fun i => sameN (l1.getD i nd0) (l2.getD i nd0)) (fun i hi1 hi2 => by
    obtain ⟨xi, xo, xl, xe, ni, no, nl, ne, ci, co, cl, ce, d1, p1⟩ := h1.cells (hg1 (by omega)).1 i (by omega)
    obtain ⟨xi', xo', xl', xe', ni', no', nl', ne', ci', co', cl', ce', d2, p2⟩ := h2.cells (hg2 (by omega)).1 i (by omega)
    have q1 := f1 _ (List.getElem_mem (by omega : i < l1.length))
    have q2 := f2 _ (List.getElem_mem (by omega : i < l2.length))
    rw [← getD_at l1 i nd0 (by omega)] at d1 p1 q1
    rw [← getD_at l2 i nd0 (by omega)] at d2 p2 q2
    exact ⟨_, xi, xo, xl, xe, ni, ci, no, co, nl, cl, ne, ce, _, _, xi', xo', xl', xe', ni', ci', no', co', nl', cl', ne', ce', _, d1, d2, fun W hW => sameNode_any B W (by have := hW.size; omega) _ xi xo xl xe ni no nl ne ci co cl ce _ _ xi' xo' xl' xe' ni' no' nl' ne' ci' co' cl' ce' _ _ _ (p1.low (hW.mono hB)) (p2.low (hW.mono hB)) rfl rfl q1 q2⟩)
  unfold sameP
  rw [← e1, ← e2]
  exact k
set_option maxHeartbeats 4000000 in
set_option maxRecDepth 100000 in
theorem Same_any (B : Nat) (w : World) (hB : B ≤ w.heap.size) (x1 x2 : Option Addr) (n1 c1 n2 c2 : Nat) (l1 l2 : List Nd) (h1 : NodesV w B x1 n1 l1) (h2 : NodesV w B x2 n2 l2) (hn1 : n1 < 1000000000000) (hn2 : n2 < 1000000000000) (f1 : ∀ q ∈ l1, FineN q) (f2 : ∀ q ∈ l2, FineN q) :
    Calls Tryz.prog 14 #[.slice x1 n1 c1, .slice x2 n2 c2] w fun e w' => e = .returned (.bool (sameP l1 l2)) ∧ Below w.heap.size w w' := by
  have HK := Lib.hid (samenodes_any B w hB x1 x2 n1 c1 n2 c2 l1 l2 h1 h2 hn1 hn2 f1 f2)
  obtain ⟨R, hR⟩ : ∃ R, R = sameP l1 l2 := ⟨_, rfl⟩
  rw [← hR] at HK ⊢
  clear h1 h2 f1 f2 hn1 hn2 hR
  go_enter Tryz.func14, Tryz.ntmps14
  go_wp2_with fail
  (with_reducible refine HK.out.mono ?_)
  rintro e w5 ⟨rfl, hb5⟩
  have H5 := Lib.hid hb5
  clear hb5
  go_wp2_with fail
  go_ret
  exact ⟨rfl, H5.out⟩
end Go.Proofs.YtfgjgnfbhfhkjaaGreatDoor

namespace Go.Proofs.YtfgjgnfbhfhkjaaGreatDoor
open Go Go.RowKit
abbrev LAID : List (String × DataW Unit) := [("math/bits.deBruijn32tab", Rows.laid_math_bits_deBruijn32tab), ("math/bits.deBruijn64tab", Rows.laid_math_bits_deBruijn64tab), ("internal/strconv.uint64pow10", Rows.laid_internal_strconv_uint64pow10), ("strconv.ErrRange", Rows.laid_strconv_ErrRange), ("strconv.ErrSyntax", Rows.laid_strconv_ErrSyntax)]
theorem range_number : Tryz.prog.globalNamed "strconv.ErrRange" = some 3 := by kernel_rfl
theorem syntax_number : Tryz.prog.globalNamed "strconv.ErrSyntax" = some 2 := by kernel_rfl
theorem range_type : (Tryz.prog.globals[3]?).map (·.type) = some 108 := by kernel_rfl
theorem syntax_type : (Tryz.prog.globals[2]?).map (·.type) = some 108 := by kernel_rfl
theorem star_name : "*" ++ "errors.errorString" = "*errors.errorString" := by decide
set_option maxRecDepth 100000 in
theorem row_err (u : TypeId) (h : Tryz.prog.typeName? 3 u = some "*errors.errorString") : u = 162 :=
  typeName_ptr_named (nm := "errors.errorString") (by rw [star_name]; kernel_rfl) (by kernel_rfl) (by decide) u (by rw [star_name]; exact h)
theorem cells_err : Tryz.prog.cellsOf 164 = 1 := by kernel_rfl
theorem cells_str : Tryz.prog.cellsOf 9 = 1 := by kernel_rfl
set_option maxRecDepth 100000 in
theorem err_of_laid {W : World} {name : String} {n : Nat} {msg : List UInt8} (hn : Tryz.prog.globalNamed name = some n) (ht : (Tryz.prog.globals[n]?).map (·.type) = some 108)
    (h : laidMet Tryz.prog [(name, .iface "*errors.errorString" (.ptr (.agg [.lit (.string msg)])))] W) : ∃ te pe, W.cell? ⟨n, 0, none⟩ = some (.iface te pe) := by
  obtain ⟨ps, ⟨g0, t0, cs0, f0, p0, q0, hg0, ht0, hv0, hd0, hq0, e0⟩, hnd, hrows⟩ := h
  obtain rfl := Option.some.inj (hn.symm.trans hg0)
  obtain rfl := Option.some.inj (ht.symm.trans ht0)
  subst e0
  obtain ⟨l0⟩ := cs0
  have ok0 : ∀ u v, l0 = [.iface u v] → Value.okWide Tryz.prog W .any 0 u v := fun u v e => by
    subst e
    exact (hrows n 0 (by simp [MemPlace.row])).2 u v (by simpa using World.var?_cell hg0 hv0 0)
  obtain ⟨a0, s0, rfl, hc0, hs0, hz0, rfl⟩ := errorString_of_trod Tryz.underlying108 row_err Tryz.underlying162 Tryz.underlying164 rfl rfl Tryz.underlying9 cells_err cells_str hd0 ok0
  exact ⟨_, _, by simpa using World.var?_cell hg0 hv0 0⟩
set_option maxRecDepth 100000 in
theorem errs_of {W : World} (h : laidMet Tryz.prog LAID W) : Errs W := by
  constructor
  · have h1 := h.filter (fun x => x.1 == "strconv.ErrSyntax")
    exact err_of_laid syntax_number syntax_type h1
  · have h1 := h.filter (fun x => x.1 == "strconv.ErrRange")
    exact err_of_laid range_number range_type h1
theorem pow_number : Tryz.prog.globalNamed "internal/strconv.uint64pow10" = some 0 := by kernel_rfl
theorem pow_type : (Tryz.prog.globals[0]?).map (·.type) = some 138 := by kernel_rfl
theorem cells_u64 : Tryz.prog.cellsOf 121 = 1 := by kernel_rfl
theorem cells_pow : Tryz.prog.cellsOf 138 = 20 := by kernel_rfl
theorem pow_same : (Rows.laid_internal_strconv_uint64pow10 : DataW Unit) = Lib.tabData .u64 Lib.pow10Tab := by
  unfold Rows.laid_internal_strconv_uint64pow10 Lib.tabData
  rfl
/-- The library's two errors, and its table of tens. -/
structure STab (w : World) : Prop where
  errs : Errs w
  pow : Lib.TabIs Tryz.prog w "internal/strconv.uint64pow10" .u64 Lib.pow10Tab
theorem STab.below {w w' : World} (h : STab w) (hb : Below w.heap.size w w') : STab w' := ⟨h.errs.below hb (Nat.le_refl _), Lib.tabBelow_of_tabIs h.pow w' hb⟩
theorem STab.tab {w : World} (h : STab w) : Lib.TabBelow Tryz.prog w.heap.size w "internal/strconv.uint64pow10" .u64 Lib.pow10Tab := Lib.tabBelow_of_tabIs h.pow
set_option maxRecDepth 100000 in
theorem tab_of {W : World} (h : laidMet Tryz.prog LAID W) : STab W := by
  refine ⟨errs_of h, ?_⟩
  have h1 := h.filter (fun x => x.1 == "internal/strconv.uint64pow10")
  have h2 : laidMet Tryz.prog [("internal/strconv.uint64pow10", Rows.laid_internal_strconv_uint64pow10)] W := h1
  rw [pow_same] at h2
  exact Lib.tabIs_of_head pow_number pow_type Tryz.underlying138 Tryz.underlying121 cells_u64 cells_pow h2
end Go.Proofs.YtfgjgnfbhfhkjaaGreatDoor

namespace Go.Proofs.YtfgjgnfbhfhkjaaGreatDoor
open Go Go.RowKit
theorem IsP.up {B B' : Nat} (hb : B ≤ B') {w : World} {o m : ByteArray} {n a : Int} {x : Option Addr} {l c : Nat} {e : Ex} (h : IsP (fun k => k < B) w o m n a x l c e) : IsP (fun k => k < B') w o m n a x l c e :=
  h.keep (Nat.le_refl _) (fun _ _ _ => rfl) (fun k hk _ => by omega) e
theorem VarsV.up {w : World} {B B' n : Nat} (hb : B ≤ B') {x : Option Addr} {vs : List Vr} (h : VarsV w B x n vs) : VarsV w B' x n vs := by
  obtain ⟨h1, g, h2⟩ := h
  exact ⟨h1, g, fun hl => ⟨(h2 hl).1, by have := (h2 hl).2.1; omega, (h2 hl).2.2⟩⟩
theorem EqsV.up {w : World} {B B' n : Nat} (hb : B ≤ B') {x : Option Addr} {qs : List Qe} (h : EqsV w B x n qs) : EqsV w B' x n qs := by
  obtain ⟨h1, g, h2⟩ := h
  refine ⟨h1, g, fun hl => ⟨(h2 hl).1, by have := (h2 hl).2.1; omega, (h2 hl).2.2.1, fun i hi => ?_⟩⟩
  obtain ⟨o, m, n, a, x, l, c, e1, e2⟩ := (h2 hl).2.2.2 i hi
  exact ⟨o, m, n, a, x, l, c, e1, e2.up hb⟩
theorem NodeV.up {w : World} {B B' : Nat} (hb : B ≤ B') {xi xo xl xe : Option Addr} {ni no nl ne : Nat} {nd : Nd} (h : NodeV w B xi xo xl xe ni no nl ne nd) : NodeV w B' xi xo xl xe ni no nl ne nd := ⟨h.ins.up hb, h.outs.up hb, h.locs.up hb, h.eqs.up hb⟩
theorem NodesV.up {w : World} {B B' n : Nat} (hb : B ≤ B') {x : Option Addr} {l : List Nd} (h : NodesV w B x n l) : NodesV w B' x n l := by
  obtain ⟨h1, g, h2⟩ := h
  refine ⟨h1, g, fun hl => ⟨(h2 hl).1, by have := (h2 hl).2.1; omega, (h2 hl).2.2.1, fun i hi => ?_⟩⟩
  obtain ⟨xi, xo, xl, xe, ni, no, nl, ne, ci, co, cl, ce, e1, e2⟩ := (h2 hl).2.2.2 i hi
  exact ⟨xi, xo, xl, xe, ni, no, nl, ne, ci, co, cl, ce, e1, e2.up hb⟩
theorem NodesV.nil (w : World) (B : Nat) : NodesV w B none 0 [] := ⟨rfl, 0, fun h => absurd h (by decide)⟩
/-- Parse, its answer a program. -/
theorem parse_ok {s : ByteArray} {l : List Nd} (hp : parseS s = .ok l) (w : World) (hs : s.size ≤ 140737488351232) (hT : STab w) : Calls Tryz.prog 11 #[.string s] w fun e w' => ∃ x c, e = .returned (.tuple #[.slice x l.length c, .agg #[.int .i64 0, .int .i64 0]]) ∧ NodesV w' w'.heap.size x l.length l ∧ Below w.heap.size w w' := by
  refine (Parse_any s w hs hT.errs).mono ?_
  rintro e w' ⟨hb, h⟩
  rw [hp] at h
  obtain ⟨v, rfl, hown⟩ := h
  obtain ⟨x, c, rfl, hv⟩ := NodesV.of_ownN hown
  exact ⟨x, c, rfl, hv, hb⟩
/-- Parse, its answer a fault. -/
theorem parse_bad {s : ByteArray} {er ea : Nat} (hp : parseS s = .error (er, ea)) (w : World) (hs : s.size ≤ 140737488351232) (hT : STab w) : Calls Tryz.prog 11 #[.string s] w fun e w' => e = .returned (.tuple #[.slice none 0 0, .agg #[.int .i64 (er : Int), .int .i64 (ea : Int)]]) ∧ Below w.heap.size w w' := by
  refine (Parse_any s w hs hT.errs).mono ?_
  rintro e w' ⟨hb, h⟩
  rw [hp] at h
  exact ⟨h, hb⟩
/-- Text of a tree that stood in a world before. -/
theorem text_at {w W : World} {B : Nat} (hT : STab w) (hB : B ≤ w.heap.size) (hW : Below w.heap.size w W) {t : Ex} {o m : ByteArray} {n a : Int} {x : Option Addr} {lk c : Nat} (hi : IsP (fun k => k < B) w o m n a x lk c t) (hf : FineE t) {T : List UInt8} (ht : textE t = T) (hl : T.length ≤ 140737488355328) :
    Calls Tryz.prog 12 #[.agg #[.string o, .string m, .int .i64 n, .int .i64 a, .slice x lk c]] W fun e w' => e = .returned (.string ⟨T.toArray⟩) ∧ Below W.heap.size W w' := by
  subst ht
  exact Text_any t W o m n a x lk c ((hi.low (hW.mono hB)).up (by have := hW.size; omega)) hf (hT.below hW).tab hl
/-- Show of a program that stood in a world before. -/
theorem show_at {w W : World} {B : Nat} (hT : STab w) (hB : B ≤ w.heap.size) (hW : Below w.heap.size w W) {l : List Nd} {x : Option Addr} {n c : Nat} (hv : NodesV w B x n l) (hf : ∀ nd ∈ l, FineN nd) (hn : n < 1000000) {T : List UInt8} (ht : showT l = T) (hl : T.length ≤ 140737488355328) :
    Calls Tryz.prog 13 #[.slice x n c] W fun e w' => e = .returned (.string ⟨T.toArray⟩) ∧ Below W.heap.size W w' := by
  subst ht
  exact Show_any l W x n c ((hv.low (hW.mono hB)).up (by have := hW.size; omega)) hf (by omega) (hT.below hW).tab hl
/-- Same of two that stood in a world before. -/
theorem same_at {w W : World} {B : Nat} (hB : B ≤ w.heap.size) (hW : Below w.heap.size w W) {l1 l2 : List Nd} {x1 x2 : Option Addr} {n1 c1 n2 c2 : Nat} (h1 : NodesV w B x1 n1 l1) (h2 : NodesV w B x2 n2 l2) (f1 : ∀ nd ∈ l1, FineN nd) (f2 : ∀ nd ∈ l2, FineN nd) (hn1 : n1 < 1000000) (hn2 : n2 < 1000000) {R : Bool} (hr : sameP l1 l2 = R) :
    Calls Tryz.prog 14 #[.slice x1 n1 c1, .slice x2 n2 c2] W fun e w' => e = .returned (.bool R) ∧ Below W.heap.size W w' := by
  subst hr
  exact Same_any B W (by have := hW.size; omega) x1 x2 n1 c1 n2 c2 l1 l2 (h1.low (hW.mono hB)) (h2.low (hW.mono hB)) (by omega) (by omega) f1 f2
def okN (r : Except (Nat × Nat) (List Nd)) : Nd := match r with
  | .ok (a :: _) => a
  | _ => nd0
end Go.Proofs.YtfgjgnfbhfhkjaaGreatDoor

namespace Go.Proofs.YtfgjgnfbhfhkjaaGreatDoor
open Go Go.RowKit
def oneT : ByteArray := ⟨#[110, 111, 100, 101, 32, 102, 40, 120, 58, 32, 105, 110, 116, 41, 32, 114, 101, 116, 117, 114, 110, 115, 32, 40, 121, 58, 32, 105, 110, 116, 41, 59, 32, 108, 101, 116, 32, 121, 32, 61, 32, 48, 32, 45, 62, 32, 112, 114, 101, 32, 120, 59, 32, 116, 101, 108]⟩
def oneN : Nd := okN (parseS oneT)
def oneQ : Qe := oneN.eqs.getD 0 qe0
theorem one_parse : parseS oneT = .ok [oneN] := by kernel_rfl
theorem one_name : oneN.name = ⟨#[102]⟩ := by kernel_rfl
theorem one_eqs : oneN.eqs = [oneQ] := by kernel_rfl
theorem one_text : textE oneQ.e = [40, 48, 32, 45, 62, 32, 40, 112, 114, 101, 32, 120, 41, 41] := by kernel_rfl
theorem one_show : showT [oneN] = [110, 111, 100, 101, 32, 102, 40, 120, 58, 32, 105, 110, 116, 41, 32, 114, 101, 116, 117, 114, 110, 115, 32, 40, 121, 58, 32, 105, 110, 116, 41, 59, 10, 108, 101, 116, 10, 32, 32, 121, 32, 61, 32, 40, 48, 32, 45, 62, 32, 40, 112, 114, 101, 32, 120, 41, 41, 59, 10, 116, 101, 108, 59, 10] := by kernel_rfl
theorem one_same : sameP [oneN] [oneN] = true := by kernel_rfl
theorem one_nil : sameP [oneN] [] = false := by kernel_rfl
theorem one_facts : ∃ (nd : Nd) (q : Qe), parseS oneT = .ok [nd] ∧ nd.name = ⟨#[102]⟩ ∧ nd.eqs = [q] ∧ textE q.e = [40, 48, 32, 45, 62, 32, 40, 112, 114, 101, 32, 120, 41, 41] ∧ showT [nd] = [110, 111, 100, 101, 32, 102, 40, 120, 58, 32, 105, 110, 116, 41, 32, 114, 101, 116, 117, 114, 110, 115, 32, 40, 121, 58, 32, 105, 110, 116, 41, 59, 10, 108, 101, 116, 10, 32, 32, 121, 32, 61, 32, 40, 48, 32, 45, 62, 32, 40, 112, 114, 101, 32, 120, 41, 41, 59, 10, 116, 101, 108, 59, 10] ∧ sameP [nd] [nd] = true ∧ sameP [nd] [] = false := ⟨oneN, oneQ, one_parse, one_name, one_eqs, one_text, one_show, one_same, one_nil⟩
theorem one_any (w : World) : Calls Tryz.prog 18 #[] w fun e w' => e = .returned (.string oneT) ∧ w' = w := by
  go_enter Tryz.func18, Tryz.ntmps18
  go_wp2
  go_ret
  exact ⟨rfl, rfl⟩
/-- A program's node in memory. -/
theorem NodesV.first {w : World} {B : Nat} {x : Option Addr} {nd : Nd} (h : NodesV w B x 1 [nd]) : ∃ g, x = some ⟨g, 0, none⟩ ∧ g < B ∧ ∃ xi xo xl xe ni no nl ne ci co cl ce, w.cell? ⟨g, 0, none⟩ = some (.string nd.name) ∧ w.cell? ⟨g, 1, none⟩ = some (.slice xi ni ci) ∧ w.cell? ⟨g, 2, none⟩ = some (.slice xo no co) ∧ w.cell? ⟨g, 3, none⟩ = some (.slice xl nl cl) ∧ w.cell? ⟨g, 4, none⟩ = some (.slice xe ne ce) ∧ NodeV w B xi xo xl xe ni no nl ne nd := by
  obtain ⟨_, g, hg⟩ := id h
  obtain ⟨e1, e2, _, _⟩ := hg (by decide)
  obtain ⟨xi, xo, xl, xe, ni, no, nl, ne, ci, co, cl, ce, hc, hv⟩ := h.cells e1 0 (by simp)
  refine ⟨g, e1, e2, xi, xo, xl, xe, ni, no, nl, ne, ci, co, cl, ce, ?_, ?_, ?_, ?_, ?_, hv⟩
  · simpa using hc 0 _ rfl
  · simpa using hc 1 _ rfl
  · simpa using hc 2 _ rfl
  · simpa using hc 3 _ rfl
  · simpa using hc 4 _ rfl
/-- An equation's expression in memory. -/
theorem EqsV.at_ {w : World} {B n : Nat} {x : Option Addr} {qs : List Qe} (h : EqsV w B x n qs) (i : Nat) (hi : i < qs.length) : ∃ g, x = some ⟨g, 0, none⟩ ∧ g < B ∧ ∃ o m n a y l c, w.cell? ⟨g, i * 7, none⟩ = some (.string (qs[i]).name) ∧ w.cell? ⟨g, i * 7 + 1, none⟩ = some (.string o) ∧ w.cell? ⟨g, i * 7 + 2, none⟩ = some (.string m) ∧ w.cell? ⟨g, i * 7 + 3, none⟩ = some (.int .i64 n) ∧ w.cell? ⟨g, i * 7 + 4, none⟩ = some (.int .i64 a) ∧ w.cell? ⟨g, i * 7 + 5, none⟩ = some (.slice y l c) ∧ IsP (fun k => k < B) w o m n a y l c (qs[i]).e := by
  obtain ⟨e0, g, hg⟩ := id h
  obtain ⟨e1, e2, _, _⟩ := hg (by omega)
  obtain ⟨o, m, n, a, y, l, c, hc, hv⟩ := h.cells e1 i hi
  exact ⟨g, e1, e2, o, m, n, a, y, l, c, hc 0 _ rfl, hc 1 _ rfl, hc 2 _ rfl, hc 3 _ rfl, hc 4 _ rfl, hc 5 _ rfl, hv⟩
set_option maxHeartbeats 4000000 in
set_option maxRecDepth 100000 in
theorem awake_any (w : World) (hT : STab w) : Calls Tryz.prog 10 #[] w fun e w' => e = .returned (.bool true) ∧ Below w.heap.size w w' := by
  obtain ⟨nd, q, hp, e1, e2, e3, e4, e5, e6⟩ := one_facts
  have hpf := (parse_fine hp).1
  have hqf : FineE q.e := (hpf nd (by simp)).ex q (by rw [e2]; simp)
  have kp := parse_ok hp w (by decide) hT
  clear hp
  have HT := Lib.hid hT
  have HPF := Lib.hid hpf
  have HQF := Lib.hid hqf
  have KP := Lib.hid kp
  have E1 := Lib.hid e1
  have E2 := Lib.hid e2
  have E3 := Lib.hid e3
  have E4 := Lib.hid e4
  have E5 := Lib.hid e5
  have E6 := Lib.hid e6
  have HSF := Lib.hid size_fault2
  clear hT hpf hqf kp e1 e2 e3 e4 e5 e6
  go_enter Tryz.func10, Tryz.ntmps10
  go_wp2_with fail
  (with_reducible refine (one_any _).mono ?_)
  rintro e w' ⟨rfl, rfl⟩
  go_wp2_with fail
  (with_reducible refine KP.out.mono ?_)
  rintro e w2 ⟨x, c, rfl, hv, hb⟩
  obtain ⟨g, rfl, hg, xi, xo, xl, xe, ni, no, nl, ne, ci, co, cl, ce, q0, q1, q2, q3, q4, hnv⟩ := hv.first
  have hev := hnv.eqs
  rw [E2.out] at hev
  have hne : ne = 1 := hev.1
  subst hne
  obtain ⟨ge, rfl, hge, o, m, n, a, y, l, d, p0, p1, p2, p3, p4, p5, hip⟩ := hev.at_ 0 (by simp)
  simp only [Nat.zero_mul, Nat.zero_add] at p0 p1 p2 p3 p4 p5
  rw [E1.out] at q0
  have hn1 : (List.length [nd]) = 1 := rfl
  have hb3 : Below w2.heap.size w2 (w2.alloc (.cells #[.int .i64 0, .int .i64 0] 26)) := (Below.refl _ _).alloc (Nat.le_refl _) _
  have HN3 := Lib.hid (heap_alloc_new w2 (.cells #[.int .i64 0, .int .i64 0] 26))
  have HB3 := Lib.hid hb3
  have HB2 := Lib.hid hb
  have HV := Lib.hid hv
  have HIP : Hid (IsP (fun k => k < w2.heap.size) w2 o m n a y l d q.e) := Lib.hid hip
  have HT2 := Lib.hid (HT.out.below hb)
  have HC := Lib.hid (And.intro q0 (And.intro q4 (And.intro p1 (And.intro p2 (And.intro p3 (And.intro p4 p5))))))
  clear hb3 hb hv hnv hev hip q0 q1 q2 q3 q4 p0 p1 p2 p3 p4 p5 KP
  go_wp2_with (first
    | (
       refine wpList_store_row rfl 26 (.tmp 2) (.tmp 7) rfl w2.heap.size #[.int .i64 0, .int .i64 0] rfl rfl 26 _ HN3.out HSF.out rfl (fault_one _ _) ?_
       have hset := setRow_heap _ w2.heap.size _ #[.int .i64 0, .int .i64 0] _ _ HN3.out
       have hbs := below_setRow HB3.out (Nat.le_refl _) #[.int .i64 0, .int .i64 0]
       generalize (w2.alloc (.cells #[.int .i64 0, .int .i64 0] 26)).setRow w2.heap.size #[.int .i64 0, .int .i64 0] = w3 at hset hbs ⊢
       have HL := Lib.hid hset
       have HW3 := Lib.hid hbs
       have q0 := cell_low hbs hg HC.out.1
       have q4 := cell_low hbs hg HC.out.2.1
       have p1 := cell_low hbs hge HC.out.2.2.1
       have p2 := cell_low hbs hge HC.out.2.2.2.1
       have p3 := cell_low hbs hge HC.out.2.2.2.2.1
       have p4 := cell_low hbs hge HC.out.2.2.2.2.2.1
       have p5 := cell_low hbs hge HC.out.2.2.2.2.2.2
       clear hset hbs)
    | (refine wpList_load_row rfl 26 (.tmp 2) rfl w2.heap.size rfl 26 #[.int .i64 0, .int .i64 0] (0, 0) _ HL.out Tryz.underlying26 rfl HSF.out ?_))
  have kt := text_at HT2.out (Nat.le_refl _) HW3.out HIP.out HQF.out E3.out (by decide)
  (with_reducible refine kt.mono ?_)
  rintro e w4 ⟨rfl, hb4⟩
  have HW4 := Lib.hid (HW3.out.trans (hb4.mono HW3.out.size))
  clear hb4 kt q0 q4 p1 p2 p3 p4 p5
  go_wp2_with fail
  have ks := show_at HT2.out (Nat.le_refl _) HW4.out (n := 1) HV.out (c := c) HPF.out (by decide) E4.out (by decide)
  (with_reducible refine ks.mono ?_)
  rintro e w5 ⟨rfl, hb5⟩
  have HW5 := Lib.hid (HW4.out.trans (hb5.mono HW4.out.size))
  clear hb5 ks
  go_wp2_with fail
  have ka := same_at (Nat.le_refl _) HW5.out (n1 := 1) (n2 := 1) HV.out HV.out (c1 := c) (c2 := c) HPF.out HPF.out (by decide) (by decide) E5.out
  (with_reducible refine ka.mono ?_)
  rintro e w6 ⟨rfl, hb6⟩
  have HW6 := Lib.hid (HW5.out.trans (hb6.mono HW5.out.size))
  clear hb6 ka
  go_wp2_with fail
  have kn := same_at (Nat.le_refl _) HW6.out (n1 := 1) HV.out (NodesV.nil w2 w2.heap.size) (c1 := c) (c2 := 0) HPF.out (fun _ h => by cases h) (by decide) (by decide) E6.out
  (with_reducible refine kn.mono ?_)
  rintro e w7 ⟨rfl, hb7⟩
  have HW7 := Lib.hid (HW6.out.trans (hb7.mono HW6.out.size))
  clear hb7 kn
  go_wp2_with fail
  go_ret
  exact ⟨rfl, HB2.out.trans (HW7.out.mono HB2.out.size)⟩
end Go.Proofs.YtfgjgnfbhfhkjaaGreatDoor

namespace Go.Proofs.YtfgjgnfbhfhkjaaGreatDoor
open Go Go.RowKit
def rkOps : List (List UInt8) := [[45, 62], [111, 114], [120, 111, 114], [97, 110, 100], [61], [60, 62], [60], [60, 61], [62], [62, 61], [43], [45], [42], [47], [109, 111, 100], [102, 98, 121]]
def rkRank : List Nat := [0, 1, 1, 2, 3, 3, 3, 3, 3, 3, 4, 4, 5, 5, 5, 6]
def rkHead : List UInt8 := [110, 111, 100, 101, 32, 102, 40, 41, 32, 114, 101, 116, 117, 114, 110, 115, 32, 40, 121, 58, 32, 105, 110, 116, 41, 59, 32, 108, 101, 116, 32, 121, 32, 61, 32, 97, 32]
def rkMid : List UInt8 := [32, 98, 32]
def rkTail : List UInt8 := [32, 99, 59, 32, 116, 101, 108]
def rkT (i k : Nat) : List UInt8 := rkHead ++ rkOps.getD i [] ++ rkMid ++ rkOps.getD k [] ++ rkTail
def rkLeft (i k : Nat) : Bool := decide (rkRank.getD k 0 < rkRank.getD i 0) || (rkRank.getD i 0 == rkRank.getD k 0 && rkRank.getD i 0 != 0 && rkRank.getD i 0 != 6)
def rkWant (i k : Nat) : List UInt8 := if rkLeft i k = true then [40, 40, 97, 32] ++ rkOps.getD i [] ++ [32, 98, 41, 32] ++ rkOps.getD k [] ++ [32, 99, 41] else [40, 97, 32] ++ rkOps.getD i [] ++ [32, 40, 98, 32] ++ rkOps.getD k [] ++ [32, 99, 41, 41]
/-- Is what Parse answers as the statement wants it? -/
def rkOk (i k : Nat) : Bool := match parseS ⟨(rkT i k).toArray⟩ with
  | .ok [nd] => !(rkRank.getD i 0 == 3 && rkRank.getD k 0 == 3) && (match nd.eqs with | [q] => textE q.e == rkWant i k | _ => false)
  | .ok _ => false
  | .error (e, _) => (rkRank.getD i 0 == 3 && rkRank.getD k 0 == 3) && e == 7
end Go.Proofs.YtfgjgnfbhfhkjaaGreatDoor

namespace Go.Proofs.YtfgjgnfbhfhkjaaGreatDoor
open Go Go.RowKit
theorem rk_0 : ((List.range 16).all fun k => rkOk 0 k) = true := by kernel_rfl
theorem rk_1 : ((List.range 16).all fun k => rkOk 1 k) = true := by kernel_rfl
theorem rk_2 : ((List.range 16).all fun k => rkOk 2 k) = true := by kernel_rfl
theorem rk_3 : ((List.range 16).all fun k => rkOk 3 k) = true := by kernel_rfl
end Go.Proofs.YtfgjgnfbhfhkjaaGreatDoor

namespace Go.Proofs.YtfgjgnfbhfhkjaaGreatDoor
open Go Go.RowKit
theorem rk_4 : ((List.range 16).all fun k => rkOk 4 k) = true := by kernel_rfl
theorem rk_5 : ((List.range 16).all fun k => rkOk 5 k) = true := by kernel_rfl
theorem rk_6 : ((List.range 16).all fun k => rkOk 6 k) = true := by kernel_rfl
theorem rk_7 : ((List.range 16).all fun k => rkOk 7 k) = true := by kernel_rfl
end Go.Proofs.YtfgjgnfbhfhkjaaGreatDoor

namespace Go.Proofs.YtfgjgnfbhfhkjaaGreatDoor
open Go Go.RowKit
theorem rk_8 : ((List.range 16).all fun k => rkOk 8 k) = true := by kernel_rfl
theorem rk_9 : ((List.range 16).all fun k => rkOk 9 k) = true := by kernel_rfl
theorem rk_10 : ((List.range 16).all fun k => rkOk 10 k) = true := by kernel_rfl
theorem rk_11 : ((List.range 16).all fun k => rkOk 11 k) = true := by kernel_rfl
end Go.Proofs.YtfgjgnfbhfhkjaaGreatDoor

namespace Go.Proofs.YtfgjgnfbhfhkjaaGreatDoor
open Go Go.RowKit
theorem rk_12 : ((List.range 16).all fun k => rkOk 12 k) = true := by kernel_rfl
theorem rk_13 : ((List.range 16).all fun k => rkOk 13 k) = true := by kernel_rfl
theorem rk_14 : ((List.range 16).all fun k => rkOk 14 k) = true := by kernel_rfl
theorem rk_15 : ((List.range 16).all fun k => rkOk 15 k) = true := by kernel_rfl
end Go.Proofs.YtfgjgnfbhfhkjaaGreatDoor

namespace Go.Proofs.YtfgjgnfbhfhkjaaGreatDoor
open Go Go.RowKit
theorem run_ia {P : Program} {o : Oper} {ρ : Operand → Value} {t : TypeId} {x y : Operand} {v : Value} {W W' : World} (ho : o.op = .indexAddr t x y) (h : (Instr.indexAt t (ρ x) (ρ y)).run P W = .ok v W') : (execOp ρ o).run P W = .ok (.value v) W' := by
  simp only [execOp, ho]
  simp [h, Result.andThen]
theorem run_ex {P : Program} {o : Oper} {ρ : Operand → Value} {x : Operand} {k : Nat} {v u : Value} {W : World} (ho : o.op = .extract x k) (hx : ρ x = u) (h : (Instr.extract u k).run P W = .ok v W) : (execOp ρ o).run P W = .ok (.value v) W := by
  simp only [execOp, ho]
  simp [hx, h, Result.andThen]
theorem run_sadd {P : Program} {o : Oper} {ρ : Operand → Value} {t t2 : TypeId} {x y : Operand} {s u : ByteArray} {W : World} (ho : o.op = .binOp .add t x y t2) (hx : ρ x = .string s) (hy : ρ y = .string u) (hl : s.size + u.size ≤ 9223372036854775807) : (execOp ρ o).run P W = .ok (.value (.string (s ++ u))) W := by
  simp [execOp, ho, hx, hy, eqGuard, binOp, Op.stringOp]
  omega
theorem idx_int (g o n cap i : Nat) (hi : i < n) (W : World) : (Instr.indexAt 47 (.slice (some ⟨g, o, none⟩) n cap) (.int .i64 (i : Int))).run Tryz.prog W = .ok (.pointer (some ⟨g, o + i, none⟩)) W := by
  have he : Tryz.prog.elem 47 = 3 := by simp [Program.elem, Tryz.underlying47]
  have hz : ∀ W, (sizeOf (Tryz.prog.elem 47)).run Tryz.prog W = .ok 1 W := fun W => by
    rw [he]
    have h := size_int
    cases hq : Tryz.prog.info? 3 with
    | none => simp [hq] at h
    | some i => simp [hq] at h; simp [sizeOf, typeInfo, hq, h]
  rw [run_indexAt_slice (h := by rw [he]; exact Tryz.underlying47), if_pos (by omega), hz]
  simp [Result.andThen, Addr.add_mid]
/-- A program in memory, if there is one. -/
def gN (c : Nat) (l : List Nd) (v : Value) (W : World) : Prop := c = 0 → ∃ x cc B, v = .slice x l.length cc ∧ B ≤ W.heap.size ∧ NodesV W B x l.length l
theorem stable_gN (c : Nat) (l : List Nd) : Stable (gN c l) := fun _ _ _ h hb hc => by
  obtain ⟨x, cc, B, e, h1, h2⟩ := h hc
  exact ⟨x, cc, B, e, Nat.le_trans h1 hb.size, h2.low (hb.mono h1)⟩
def wPar (c : Nat) (l : List Nd) (v : Value) (W : World) : Prop := ∃ v0 ea, v = .tuple #[v0, .agg #[.int .i64 (c : Int), .int .i64 ea]] ∧ gN c l v0 W
theorem stable_par (c : Nat) (l : List Nd) : Stable (wPar c l) := fun v W W' ⟨v0, ea, e, h⟩ hb => ⟨v0, ea, e, stable_gN c l v0 W W' h hb⟩
def wFau (c : Nat) (v : Value) (_ : World) : Prop := ∃ ea, v = .agg #[.int .i64 (c : Int), .int .i64 ea]
theorem stable_fau (c : Nat) : Stable (wFau c) := fun _ _ _ h _ => h
/-- A new fault's cells. -/
def wZf (B : Nat) (v : Value) (W : World) : Prop := ∃ g, v = .pointer (some ⟨g, 0, none⟩) ∧ B ≤ g ∧ W.heap[g]? = some (.cells #[.int .i64 0, .int .i64 0] 26 (0, 0))
theorem stable_zf (B : Nat) : Stable (wZf B) := fun _ _ _ ⟨g, e, hg, h⟩ hb => ⟨g, e, hg, (hb.block g (Array.getElem?_eq_some_iff.1 h).1).trans h⟩
theorem parse_par (s : ByteArray) (c : Nat) (l : List Nd) (h : (c = 0 ∧ parseS s = .ok l) ∨ (c ≠ 0 ∧ ∃ ea, parseS s = .error (c, ea))) (w : World) (hs : s.size ≤ 140737488351232) (hT : STab w) : Calls Tryz.prog 11 #[.string s] w fun e w' => ∃ v, e = .returned v ∧ wPar c l v w' ∧ Below w.heap.size w w' := by
  rcases h with ⟨rfl, hp⟩ | ⟨hc, ea, hp⟩
  · refine (parse_ok hp w hs hT).mono ?_
    rintro e w' ⟨x, cc, rfl, hv, hb⟩
    exact ⟨_, rfl, ⟨_, _, rfl, fun _ => ⟨x, cc, _, rfl, Nat.le_refl _, hv⟩⟩, hb⟩
  · refine (parse_bad hp w hs hT).mono ?_
    rintro e w' ⟨rfl, hb⟩
    exact ⟨_, rfl, ⟨_, _, rfl, fun h0 => absurd h0 hc⟩, hb⟩
theorem run_alf {o : Oper} {ρ : Operand → Value} {W : World} (ho : o.op = .alloc 26) : (execOp ρ o).run Tryz.prog W = .ok (.value (.pointer (some ⟨W.heap.size, 0, none⟩))) (W.alloc (.cells #[.int .i64 0, .int .i64 0] 26)) := by
  simp only [execOp, ho]
  kernel_rfl
mutual
theorem IsP.not {ok : Nat → Prop} {W : World} {g : Nat} {z : Int} (hg : W.cell? ⟨g, 0, none⟩ = some (.int .i64 z)) {o m : ByteArray} {n a : Int} {x : Option Addr} {l c : Nat} : ∀ (e : Ex), IsP ok W o m n a x l c e → IsP (fun k => ok k ∧ k ≠ g) W o m n a x l c e
  | .mk op name n' at_ kids, h => by
    unfold IsP at h ⊢
    obtain ⟨h1, h2, h3, h4, h5, h6⟩ := h
    refine ⟨h1, h2, h3, h4, h5, fun hl => ?_⟩
    obtain ⟨q, e1, e2, e3, e4⟩ := h6 hl
    refine ⟨q, e1, ⟨e2, fun e => ?_⟩, e3, IsQ.not hg kids 0 e4⟩
    cases kids with
    | nil => simp at h5; omega
    | cons t r =>
      unfold IsQ at e4
      obtain ⟨⟨_, _, _, _, _, _, _, c0, _⟩, _⟩ := e4
      rw [Nat.zero_mul, e, hg] at c0
      cases c0
theorem IsQ.not {ok : Nat → Prop} {W : World} {g q : Nat} {z : Int} (hg : W.cell? ⟨g, 0, none⟩ = some (.int .i64 z)) : ∀ (l : List Ex) (i : Nat), IsQ ok W q i l → IsQ (fun k => ok k ∧ k ≠ g) W q i l
  | [], _, _ => by unfold IsQ; trivial
  | e :: r, i, h => by
    unfold IsQ at h ⊢
    obtain ⟨⟨o, m, n, a, x, l, c, c0, c1, c2, c3, c4, he⟩, hr⟩ := h
    exact ⟨⟨o, m, n, a, x, l, c, c0, c1, c2, c3, c4, IsP.not hg e he⟩, IsQ.not hg r (i + 1) hr⟩
end
/-- A row of numbers stored anew leaves trees, names, nodes as they were: their rows begin with a text. -/
theorem IsP.row {W : World} {B g : Nat} {z : Int} {zs : Array Value} (hg : W.cell? ⟨g, 0, none⟩ = some (.int .i64 z)) {o m : ByteArray} {n a : Int} {x : Option Addr} {l c : Nat} {e : Ex} (h : IsP (fun k => k < B) W o m n a x l c e) : IsP (fun k => k < B) (W.setRow g zs) o m n a x l c e :=
  (h.not hg).keep (by rw [setRow_size]; exact Nat.le_refl _) (fun k hk _ => setRow_other W g k zs hk.2) (fun _ h _ => h.1) e
theorem VarsV.row {W : World} {B g n : Nat} {z : Int} {zs : Array Value} (hg : W.cell? ⟨g, 0, none⟩ = some (.int .i64 z)) {x : Option Addr} {vs : List Vr} (h : VarsV W B x n vs) : VarsV (W.setRow g zs) B x n vs := by
  obtain ⟨h1, q, h2⟩ := h
  refine ⟨h1, q, fun hl => ?_⟩
  obtain ⟨e1, e2, e3, e4⟩ := h2 hl
  have hne : q ≠ g := fun e => by
    have h0 := e4 0 (by omega) 0 _ rfl
    rw [Nat.zero_mul, Nat.zero_add, e, hg] at h0
    cases h0
  refine ⟨e1, e2, by rw [setRow_size]; exact e3, fun i hi j u hu => ?_⟩
  have := e4 i hi j u hu
  simp only [World.cell?, setRow_other W g q zs hne] at this ⊢
  exact this
theorem EqsV.row {W : World} {B g n : Nat} {z : Int} {zs : Array Value} (hg : W.cell? ⟨g, 0, none⟩ = some (.int .i64 z)) {x : Option Addr} {vs : List Qe} (h : EqsV W B x n vs) : EqsV (W.setRow g zs) B x n vs := by
  obtain ⟨h1, q, h2⟩ := h
  refine ⟨h1, q, fun hl => ?_⟩
  obtain ⟨e1, e2, e3, e4⟩ := h2 hl
  have hne : q ≠ g := fun e => by
    obtain ⟨_, _, _, _, _, _, _, f1, _⟩ := e4 0 (by omega)
    have h0 := f1 0 _ rfl
    rw [Nat.zero_mul, Nat.zero_add, e, hg] at h0
    cases h0
  refine ⟨e1, e2, by rw [setRow_size]; exact e3, fun i hi => ?_⟩
  obtain ⟨o, m, n, a, x, l, c, f1, f2⟩ := e4 i hi
  refine ⟨o, m, n, a, x, l, c, fun j u hu => ?_, f2.row hg⟩
  have := f1 j u hu
  simp only [World.cell?, setRow_other W g q zs hne] at this ⊢
  exact this
theorem NodesV.row {W : World} {B g n : Nat} {z : Int} {zs : Array Value} (hg : W.cell? ⟨g, 0, none⟩ = some (.int .i64 z)) {x : Option Addr} {vs : List Nd} (h : NodesV W B x n vs) : NodesV (W.setRow g zs) B x n vs := by
  obtain ⟨h1, q, h2⟩ := h
  refine ⟨h1, q, fun hl => ?_⟩
  obtain ⟨e1, e2, e3, e4⟩ := h2 hl
  have hne : q ≠ g := fun e => by
    obtain ⟨_, _, _, _, _, _, _, _, _, _, _, _, f1, _⟩ := e4 0 (by omega)
    have h0 := f1 0 _ rfl
    rw [Nat.zero_mul, Nat.zero_add, e, hg] at h0
    cases h0
  refine ⟨e1, e2, by rw [setRow_size]; exact e3, fun i hi => ?_⟩
  obtain ⟨xi, xo, xl, xe, ni, no, nl, ne, ci, co, cl, ce, f1, f2⟩ := e4 i hi
  refine ⟨xi, xo, xl, xe, ni, no, nl, ne, ci, co, cl, ce, fun j u hu => ?_, ⟨f2.ins.row hg, f2.outs.row hg, f2.locs.row hg, f2.eqs.row hg⟩⟩
  have := f1 j u hu
  simp only [World.cell?, setRow_other W g q zs hne] at this ⊢
  exact this
theorem gN_row {c : Nat} {l : List Nd} {v : Value} {W : World} {g : Nat} {zs : Array Value} (h : gN c l v W) (hr : W.heap[g]? = some (.cells #[.int .i64 0, .int .i64 0] 26 (0, 0))) : gN c l v (W.setRow g zs) := fun hc => by
  obtain ⟨x, cc, B, e, h1, h2⟩ := h hc
  exact ⟨x, cc, B, e, by rw [setRow_size]; exact h1, h2.row (cell_of_row W g 0 _ _ _ hr)⟩
end Go.Proofs.YtfgjgnfbhfhkjaaGreatDoor

namespace Go.Proofs.YtfgjgnfbhfhkjaaGreatDoor
open Go Go.RowKit
/-- This text is cut into these words (kind, text), the end among them. -/
def LexR (l : List UInt8) (ws : List (Nat × List UInt8)) : Prop := ∀ (f at_ : Nat), l.length < f → ∃ d, cutF f l at_ = .ok d ∧ d.map (fun x => (x.1, (l.drop (x.2.2.2 - at_)).take x.2.1)) = ws ∧ ∀ x ∈ d, at_ ≤ x.2.2.2
theorem LexR.nil : LexR [] [(0, [])] := fun f at_ h => by
  cases f with
  | zero => simp at h
  | succ f => exact ⟨_, cutF_end f at_, rfl, fun x hx => by simp only [List.mem_cons, List.not_mem_nil, or_false] at hx; rw [hx]; exact Nat.le_refl _⟩
theorem LexR.cons {l r : List UInt8} {ws : List (Nat × List UInt8)} (k n : Nat) (hne : l ≠ []) (hk : (firstW l).1 = k) (hk0 : k ≠ 0) (hn : (firstW l).2.1 = n) (hr : (l.drop n).drop (gapL (l.drop n)) = r) (h : LexR r ws) : LexR l ((k, l.take n) :: ws) := fun f at_ hf => by
  cases f with
  | zero => omega
  | succ f =>
    have hl : 0 < l.length := List.length_pos_iff.2 hne
    have hfw := firstW_len l hl
    have hn1 : 1 ≤ n := by rw [← hn]; exact hfw.2.1 (by rw [hk]; exact hk0)
    have hrl : r.length < l.length := by
      rw [← hr]
      simp only [List.length_drop]
      omega
    obtain ⟨d, hd, hm, hle⟩ := h f (at_ + n + gapL (l.drop n)) (by omega)
    refine ⟨(k, n, (firstW l).2.2, at_) :: d, ?_, ?_, ?_⟩
    · unfold cutF
      rw [if_neg hne, if_neg (by rw [hk]; exact hk0), hn, hr, hd, hk]
    · simp only [List.map_cons, Nat.sub_self, List.drop_zero, List.cons.injEq, true_and]
      rw [← hm]
      apply List.map_congr_left
      intro x hx
      have hx1 := hle x hx
      have e : l.drop (x.2.2.2 - at_) = r.drop (x.2.2.2 - (at_ + n + gapL (l.drop n))) := by
        rw [← hr, List.drop_drop, List.drop_drop]
        congr 1
        omega
      rw [e]
    · intro x hx
      rcases List.mem_cons.1 hx with rfl | hx
      · exact Nat.le_refl _
      · have := hle x hx; omega
/-- The words that the parser finds. -/
theorem words_of_lex (s : ByteArray) (ws : List (Nat × List UInt8)) (h : LexR s.data.toList ws) (hg : gapL s.data.toList = 0) (hl : s.data.toList.length ≤ 16384) : ∃ d, cutAll s.data.toList = .ok d ∧ (wordsL s d).map (fun w => (w.kind, w.text.data.toList)) = ws := by
  obtain ⟨d, hd, hm, _⟩ := h (s.data.toList.length + 1) 0 (Nat.lt_succ_self _)
  refine ⟨d, ?_, ?_⟩
  · unfold cutAll
    rw [if_neg (by omega)]
    unfold cut1
    rw [hg, List.drop_zero, hd]
  · rw [← hm]
    unfold wordsL
    rw [List.map_map]
    apply List.map_congr_left
    intro x _
    show (x.1, (s.extract x.2.2.2 (x.2.2.2 + x.2.1)).data.toList) = _
    rw [Lib.extract_data]
    simp [Nat.add_sub_cancel_left]
/-- Word number i. -/
def W (L : List Wd) (i : Nat) : Nat × List UInt8 := ((L.getD i noWd).kind, (L.getD i noWd).text.data.toList)
theorem W_of {L : List Wd} {ws : List (Nat × List UInt8)} (h : L.map (fun w => (w.kind, w.text.data.toList)) = ws) (i : Nat) : W L i = ws.getD i (0, []) := by
  subst h
  unfold W
  rw [List.getD_eq_getElem?_getD, List.getD_eq_getElem?_getD, List.getElem?_map]
  cases L[i]? <;> rfl
section
variable {L : List Wd} {st : St} {k : Nat} {t : List UInt8} (h : W L st.i = (k, t))
include h
theorem W.kind : (cur L st).kind = k := congrArg Prod.fst h
theorem W.text : (cur L st).text.data.toList = t := congrArg Prod.snd h
theorem W.is (s : ByteArray) : isS L s st = (t == s.data.toList) := by unfold isS; rw [W.text h]
theorem W.next (hk : k ≠ 0) : nextS L st = { st with i := st.i + 1 } := by unfold nextS; rw [if_neg (by rw [W.kind h]; exact hk)]
theorem W.need (hk : k ≠ 0) (s : ByteArray) (hs : (t == s.data.toList) = true) : needS L s st = { st with i := st.i + 1 } := by unfold needS; rw [if_pos (by rw [W.is h]; exact hs), W.next h hk]
theorem W.take0 (s : ByteArray) (hs : (t == s.data.toList) = false) : takeS L s st = (false, st) := by unfold takeS; rw [if_neg (by rw [W.is h, hs]; decide)]
theorem W.isName : isNameS L st = ((k : Int) == 1) := by unfold isNameS; rw [W.kind h]
end
theorem W.name {L : List Wd} {st : St} {t : List UInt8} (h : W L st.i = (1, t)) : (nameS L st).2 = { st with i := st.i + 1 } := by
  unfold nameS
  rw [if_pos (by rw [W.isName h]; rfl), W.next h (by decide)]
theorem W.end_need {L : List Wd} {st : St} (h : W L st.i = (0, [])) (he : st.er ≠ 0) (s : ByteArray) (hs : (([] : List UInt8) == s.data.toList) = false) : needS L s st = st := by
  unfold needS
  rw [if_neg (by rw [W.is h, hs]; decide)]
  unfold failS
  rw [if_neg he]
theorem W.end_name {L : List Wd} {st : St} (h : W L st.i = (0, [])) (he : st.er ≠ 0) : (nameS L st).2 = st := by
  unfold nameS
  rw [if_neg (by rw [W.isName h]; decide)]
  unfold failS
  rw [if_neg he]
  unfold nextS
  rw [if_pos (W.kind h)]
end Go.Proofs.YtfgjgnfbhfhkjaaGreatDoor

namespace Go.Proofs.YtfgjgnfbhfhkjaaGreatDoor
open Go Go.RowKit
/-- A text so many times. -/
def rep : Nat → List UInt8 → List UInt8
  | 0, _ => []
  | n + 1, s => s ++ rep n s
theorem rep_snoc (s : List UInt8) : ∀ n, rep n s ++ s = rep (n + 1) s
  | 0 => by simp [rep]
  | n + 1 => by
    have h := rep_snoc s n
    show s ++ rep n s ++ s = s ++ rep (n + 1) s
    rw [List.append_assoc, h]
theorem rep_len (s : List UInt8) : ∀ n, (rep n s).length = n * s.length
  | 0 => by simp [rep]
  | n + 1 => by simp only [rep, List.length_append, rep_len s n]; rw [Nat.succ_mul]; omega
/-- The fault that Parse tells: 0, none. -/
def code (s : ByteArray) : Nat := match parseS s with
  | .ok _ => 0
  | .error (e, _) => e
theorem parse_code (s : ByteArray) (c : Nat) (hc : code s = c) (w : World) (hs : s.size ≤ 140737488351232) (hT : STab w) : Calls Tryz.prog 11 #[.string s] w fun e w' => ∃ v ea, e = .returned (.tuple #[v, .agg #[.int .i64 (c : Int), .int .i64 ea]]) ∧ Below w.heap.size w w' := by
  unfold code at hc
  cases hp : parseS s with
  | ok l =>
    rw [hp] at hc
    subst hc
    refine (parse_ok hp w hs hT).mono ?_
    rintro e w' ⟨x, c, rfl, _, hb⟩
    exact ⟨_, _, rfl, hb⟩
  | error ep =>
    obtain ⟨er, ea⟩ := ep
    rw [hp] at hc
    subst hc
    refine (parse_bad hp w hs hT).mono ?_
    rintro e w' ⟨rfl, hb⟩
    exact ⟨_, _, rfl, hb⟩
def mnU : List UInt8 := [110, 111, 100, 101, 32, 102, 40, 41, 32, 114, 101, 116, 117, 114, 110, 115, 32, 40, 121, 58, 32, 105, 110, 116, 41, 59, 32, 108, 101, 116, 32, 116, 101, 108, 32]
def mnT (n : Nat) : List UInt8 := rep n mnU
def mvA : List UInt8 := [110, 111, 100, 101, 32, 102, 40, 41, 32, 114, 101, 116, 117, 114, 110, 115, 32, 40]
def mvZ : List UInt8 := [58, 32, 105, 110, 116, 41, 59, 32, 108, 101, 116, 32, 116, 101, 108]
def mvT (n : Nat) : List UInt8 := mvA ++ ([121] ++ rep (n - 1) [44, 32, 121]) ++ mvZ
end Go.Proofs.YtfgjgnfbhfhkjaaGreatDoor

namespace Go.Proofs.YtfgjgnfbhfhkjaaGreatDoor
open Go Go.RowKit
theorem two_ne : (2 : Nat) ≠ 0 := by decide
def blkW : List (Nat × List UInt8) := [(2, [110, 111, 100, 101]), (1, [102]), (4, [40]), (4, [41]), (2, [114, 101, 116, 117, 114, 110, 115]), (4, [40]), (1, [121]), (4, [58]), (2, [105, 110, 116]), (4, [41]), (4, [59]), (2, [108, 101, 116]), (2, [116, 101, 108])]
theorem lex_blk {R : List UInt8} {ws : List (Nat × List UInt8)} (hR : R = [] ∨ ∃ r, R = 110 :: r) (h : LexR R ws) : LexR (mnU ++ R) (blkW ++ ws) := by
  have s12 : LexR ([116, 101, 108, 32] ++ R) ((2, [116, 101, 108]) :: ws) := by
    rcases hR with rfl | ⟨r, rfl⟩
    · exact LexR.cons 2 3 (by simp) rfl (by decide) rfl rfl h
    · exact LexR.cons 2 3 (by simp) rfl (by decide) rfl rfl h
  have s11 : LexR ([108, 101, 116, 32, 116, 101, 108, 32] ++ R) ((2, [108, 101, 116]) :: (2, [116, 101, 108]) :: ws) := LexR.cons 2 3 (by simp) rfl (by decide) rfl rfl s12
  have s10 : LexR ([59, 32, 108, 101, 116, 32, 116, 101, 108, 32] ++ R) ((4, [59]) :: (2, [108, 101, 116]) :: (2, [116, 101, 108]) :: ws) := LexR.cons 4 1 (by simp) rfl (by decide) rfl rfl s11
  have s9 : LexR ([41, 59, 32, 108, 101, 116, 32, 116, 101, 108, 32] ++ R) ((4, [41]) :: (4, [59]) :: (2, [108, 101, 116]) :: (2, [116, 101, 108]) :: ws) := LexR.cons 4 1 (by simp) rfl (by decide) rfl rfl s10
  have s8 : LexR ([105, 110, 116, 41, 59, 32, 108, 101, 116, 32, 116, 101, 108, 32] ++ R) ((2, [105, 110, 116]) :: (4, [41]) :: (4, [59]) :: (2, [108, 101, 116]) :: (2, [116, 101, 108]) :: ws) := LexR.cons 2 3 (by simp) rfl (by decide) rfl rfl s9
  have s7 : LexR ([58, 32, 105, 110, 116, 41, 59, 32, 108, 101, 116, 32, 116, 101, 108, 32] ++ R) ((4, [58]) :: (2, [105, 110, 116]) :: (4, [41]) :: (4, [59]) :: (2, [108, 101, 116]) :: (2, [116, 101, 108]) :: ws) := LexR.cons 4 1 (by simp) rfl (by decide) rfl rfl s8
  have s6 : LexR ([121, 58, 32, 105, 110, 116, 41, 59, 32, 108, 101, 116, 32, 116, 101, 108, 32] ++ R) ((1, [121]) :: (4, [58]) :: (2, [105, 110, 116]) :: (4, [41]) :: (4, [59]) :: (2, [108, 101, 116]) :: (2, [116, 101, 108]) :: ws) := LexR.cons 1 1 (by simp) rfl (by decide) rfl rfl s7
  have s5 : LexR ([40, 121, 58, 32, 105, 110, 116, 41, 59, 32, 108, 101, 116, 32, 116, 101, 108, 32] ++ R) ((4, [40]) :: (1, [121]) :: (4, [58]) :: (2, [105, 110, 116]) :: (4, [41]) :: (4, [59]) :: (2, [108, 101, 116]) :: (2, [116, 101, 108]) :: ws) := LexR.cons 4 1 (by simp) rfl (by decide) rfl rfl s6
  have s4 : LexR ([114, 101, 116, 117, 114, 110, 115, 32, 40, 121, 58, 32, 105, 110, 116, 41, 59, 32, 108, 101, 116, 32, 116, 101, 108, 32] ++ R) ((2, [114, 101, 116, 117, 114, 110, 115]) :: (4, [40]) :: (1, [121]) :: (4, [58]) :: (2, [105, 110, 116]) :: (4, [41]) :: (4, [59]) :: (2, [108, 101, 116]) :: (2, [116, 101, 108]) :: ws) := LexR.cons 2 7 (by simp) rfl (by decide) rfl rfl s5
  have s3 : LexR ([41, 32, 114, 101, 116, 117, 114, 110, 115, 32, 40, 121, 58, 32, 105, 110, 116, 41, 59, 32, 108, 101, 116, 32, 116, 101, 108, 32] ++ R) ((4, [41]) :: (2, [114, 101, 116, 117, 114, 110, 115]) :: (4, [40]) :: (1, [121]) :: (4, [58]) :: (2, [105, 110, 116]) :: (4, [41]) :: (4, [59]) :: (2, [108, 101, 116]) :: (2, [116, 101, 108]) :: ws) := LexR.cons 4 1 (by simp) rfl (by decide) rfl rfl s4
  have s2 : LexR ([40, 41, 32, 114, 101, 116, 117, 114, 110, 115, 32, 40, 121, 58, 32, 105, 110, 116, 41, 59, 32, 108, 101, 116, 32, 116, 101, 108, 32] ++ R) ((4, [40]) :: (4, [41]) :: (2, [114, 101, 116, 117, 114, 110, 115]) :: (4, [40]) :: (1, [121]) :: (4, [58]) :: (2, [105, 110, 116]) :: (4, [41]) :: (4, [59]) :: (2, [108, 101, 116]) :: (2, [116, 101, 108]) :: ws) := LexR.cons 4 1 (by simp) rfl (by decide) rfl rfl s3
  have s1 : LexR ([102, 40, 41, 32, 114, 101, 116, 117, 114, 110, 115, 32, 40, 121, 58, 32, 105, 110, 116, 41, 59, 32, 108, 101, 116, 32, 116, 101, 108, 32] ++ R) ((1, [102]) :: (4, [40]) :: (4, [41]) :: (2, [114, 101, 116, 117, 114, 110, 115]) :: (4, [40]) :: (1, [121]) :: (4, [58]) :: (2, [105, 110, 116]) :: (4, [41]) :: (4, [59]) :: (2, [108, 101, 116]) :: (2, [116, 101, 108]) :: ws) := LexR.cons 1 1 (by simp) rfl (by decide) rfl rfl s2
  have s0 : LexR ([110, 111, 100, 101, 32, 102, 40, 41, 32, 114, 101, 116, 117, 114, 110, 115, 32, 40, 121, 58, 32, 105, 110, 116, 41, 59, 32, 108, 101, 116, 32, 116, 101, 108, 32] ++ R) ((2, [110, 111, 100, 101]) :: (1, [102]) :: (4, [40]) :: (4, [41]) :: (2, [114, 101, 116, 117, 114, 110, 115]) :: (4, [40]) :: (1, [121]) :: (4, [58]) :: (2, [105, 110, 116]) :: (4, [41]) :: (4, [59]) :: (2, [108, 101, 116]) :: (2, [116, 101, 108]) :: ws) := LexR.cons 2 4 (by simp) rfl (by decide) rfl rfl s1
  exact s0
def repW : Nat → List (Nat × List UInt8) → List (Nat × List UInt8)
  | 0, _ => []
  | n + 1, s => s ++ repW n s
theorem repW_len (s : List (Nat × List UInt8)) : ∀ n, (repW n s).length = n * s.length
  | 0 => by simp [repW]
  | n + 1 => by simp only [repW, List.length_append, repW_len s n]; rw [Nat.succ_mul]; omega
theorem lex_many : ∀ n, LexR (rep n mnU) (repW n blkW ++ [(0, [])])
  | 0 => LexR.nil
  | n + 1 => by
    show LexR (mnU ++ rep n mnU) ((blkW ++ repW n blkW) ++ [(0, [])])
    rw [List.append_assoc]
    refine lex_blk ?_ (lex_many n)
    cases n with
    | zero => exact .inl rfl
    | succ n => exact .inr ⟨_, rfl⟩
theorem many_at (z : List (Nat × List UInt8)) : ∀ (N j r : Nat), j < N → r < 13 → (repW N blkW ++ z).getD (13 * j + r) (0, []) = blkW.getD r (0, [])
  | 0, j, r, h, _ => absurd h (Nat.not_lt_zero _)
  | N + 1, j, r, h, hr => by
    show ((blkW ++ repW N blkW) ++ z).getD _ _ = _
    rw [List.append_assoc, List.getD_eq_getElem?_getD]
    cases j with
    | zero =>
      rw [Nat.mul_zero, Nat.zero_add, List.getElem?_append_left (show r < blkW.length from hr), List.getD_eq_getElem?_getD]
    | succ j =>
      have e : 13 * (j + 1) + r - blkW.length = 13 * j + r := by show 13 * (j + 1) + r - 13 = _; omega
      rw [List.getElem?_append_right (by show 13 ≤ _; omega), e, ← List.getD_eq_getElem?_getD]
      exact many_at z N j r (by omega) hr
theorem many_end (N : Nat) : (repW N blkW ++ [(0, [])]).getD (13 * N) (0, []) = (0, []) := by
  have hl : (repW N blkW).length = 13 * N := by rw [repW_len]; show N * 13 = _; omega
  rw [List.getD_eq_getElem?_getD, List.getElem?_append_right (by omega), hl, Nat.sub_self]
  rfl
theorem nodeS_snd (L : List Wd) (st : St) : (nodeS L st).2 = (takeS L (bs [59]) (needS L (bs [116, 101, 108]) (eqsL L L.length (needS L (bs [108, 101, 116]) (varS L (needS L (bs [59]) (declsS L (needS L (bs [114, 101, 116, 117, 114, 110, 115]) (declsS L (nameS L (needS L (bs [110, 111, 100, 101]) (zeroN st))).2).2)).2)).2)).2)).2 := rfl
section
variable {L : List Wd} {i ea nm p : Nat}
/-- '( )' -/
theorem decls_none (h0 : W L i = (4, [40])) (h1 : W L (i + 1) = (4, [41])) : (declsS L ⟨i, 0, ea, nm, p⟩).2 = ⟨i + 2, 0, ea, nm, p⟩ := by
  unfold declsS
  have e1 : needS L (bs [40]) ⟨i, 0, ea, nm, p⟩ = ⟨i + 1, 0, ea, nm, p⟩ := W.need (st := ⟨i, 0, ea, nm, p⟩) h0 (by decide) _ rfl
  have e2 : declsB L ⟨i + 1, 0, ea, nm, p⟩ = ([], ⟨i + 1, 0, ea, nm, p⟩) := by
    unfold declsB
    rw [if_pos (by rw [W.is (st := ⟨i + 1, 0, ea, nm, p⟩) h1]; rfl)]
  rw [e1, e2]
  exact W.need (st := ⟨i + 1, 0, ea, nm, p⟩) h1 (by decide) _ rfl
/-- What stands behind a declared name's colon. -/
theorem decls_tail (X : List Vr × St) (hX : X.2 = ⟨i, 0, ea, nm, p⟩) (h0 : W L i = (4, [58])) (h1 : W L (i + 1) = (2, [105, 110, 116])) (h2 : W L (i + 2) = (4, [41])) (k : Nat) : needS L (bs [41]) (declsL L k (kindS L (needS L (bs [58]) X.2)).2).2 = ⟨i + 3, 0, ea, nm, p⟩ := by
  rw [hX]
  have e1 : needS L (bs [58]) ⟨i, 0, ea, nm, p⟩ = ⟨i + 1, 0, ea, nm, p⟩ := W.need (st := ⟨i, 0, ea, nm, p⟩) h0 (by decide) _ rfl
  have e2 : (kindS L ⟨i + 1, 0, ea, nm, p⟩).2 = ⟨i + 2, 0, ea, nm, p⟩ := by
    unfold kindS
    rw [if_neg (by rw [W.is (st := ⟨i + 1, 0, ea, nm, p⟩) h1]; decide), if_pos (by rw [W.is (st := ⟨i + 1, 0, ea, nm, p⟩) h1]; rfl)]
    exact W.next (st := ⟨i + 1, 0, ea, nm, p⟩) h1 (by decide)
  rw [e1, e2, declsL_stop L k _ (by rw [W.is (st := ⟨i + 2, 0, ea, nm, p⟩) h2]; rfl)]
  exact W.need (st := ⟨i + 2, 0, ea, nm, p⟩) h2 (by decide) _ rfl
/-- What stands behind a node's outputs, no names, no equations. -/
theorem node_tail (h0 : W L i = (4, [59])) (h1 : W L (i + 1) = (2, [108, 101, 116])) (h2 : W L (i + 2) = (2, [116, 101, 108])) (h3 : ((W L (i + 3)).2 == [59]) = false) : (takeS L (bs [59]) (needS L (bs [116, 101, 108]) (eqsL L L.length (needS L (bs [108, 101, 116]) (varS L (needS L (bs [59]) ⟨i, 0, ea, nm, p⟩)).2)).2)).2 = ⟨i + 3, 0, ea, nm, p⟩ := by
  have e1 : needS L (bs [59]) ⟨i, 0, ea, nm, p⟩ = ⟨i + 1, 0, ea, nm, p⟩ := W.need (st := ⟨i, 0, ea, nm, p⟩) h0 (by decide) _ rfl
  have e2 : varS L ⟨i + 1, 0, ea, nm, p⟩ = ([], ⟨i + 1, 0, ea, nm, p⟩) := by
    unfold varS
    rw [if_neg (by rw [W.is (st := ⟨i + 1, 0, ea, nm, p⟩) h1]; decide)]
  have e3 : needS L (bs [108, 101, 116]) ⟨i + 1, 0, ea, nm, p⟩ = ⟨i + 2, 0, ea, nm, p⟩ := W.need (st := ⟨i + 1, 0, ea, nm, p⟩) h1 (by decide) _ rfl
  have e4 : eqsL L L.length ⟨i + 2, 0, ea, nm, p⟩ = ([], ⟨i + 2, 0, ea, nm, p⟩) := eqsL_stop L _ _ (by rw [W.isName (st := ⟨i + 2, 0, ea, nm, p⟩) h2]; rfl)
  have e5 : needS L (bs [116, 101, 108]) ⟨i + 2, 0, ea, nm, p⟩ = ⟨i + 3, 0, ea, nm, p⟩ := W.need (st := ⟨i + 2, 0, ea, nm, p⟩) h2 (by decide) _ rfl
  rw [e1, e2, e3, e4, e5, W.take0 (st := ⟨i + 3, 0, ea, nm, p⟩) (k := (W L (i + 3)).1) (t := (W L (i + 3)).2) rfl _ h3]
/-- A node's head: 'node f ( ) returns'. -/
theorem node_head (st : St) (hi : st.i = i) (he : st.er = 0) (h : ∀ r, r < 5 → W L (i + r) = blkW.getD r (0, [])) : needS L (bs [114, 101, 116, 117, 114, 110, 115]) (declsS L (nameS L (needS L (bs [110, 111, 100, 101]) (zeroN st))).2).2 = ⟨i + 5, 0, st.ea, 0, st.parts⟩ := by
  have e0 : zeroN st = ⟨i, 0, st.ea, 0, st.parts⟩ := by unfold zeroN; rw [hi, he]
  have e1 : needS L (bs [110, 111, 100, 101]) ⟨i, 0, st.ea, 0, st.parts⟩ = ⟨i + 1, 0, st.ea, 0, st.parts⟩ := W.need (st := ⟨i, 0, st.ea, 0, st.parts⟩) (h 0 (by decide)) (by decide) _ rfl
  have e2 : (nameS L ⟨i + 1, 0, st.ea, 0, st.parts⟩).2 = ⟨i + 2, 0, st.ea, 0, st.parts⟩ := W.name (st := ⟨i + 1, 0, st.ea, 0, st.parts⟩) (h 1 (by decide))
  have e3 : (declsS L ⟨i + 2, 0, st.ea, 0, st.parts⟩).2 = ⟨i + 4, 0, st.ea, 0, st.parts⟩ := decls_none (h 2 (by decide)) (h 3 (by decide))
  rw [e0, e1, e2, e3]
  exact W.need (st := ⟨i + 4, 0, st.ea, 0, st.parts⟩) (h 4 (by decide)) (by decide) _ rfl
/-- A name declared, fewer than 64 ahead of it. -/
theorem declared_ok (h : W L i = (1, [121])) (hn : nm < 64) : (declaredS L ⟨i, 0, ea, nm, p⟩).2.2 = ⟨i + 1, 0, ea, nm + 1, p⟩ := by
  have ea1 : declA L ⟨i, 0, ea, nm, p⟩ = ⟨i, 0, ea, nm, p⟩ := by
    unfold declA
    rw [if_neg (fun hh => by have := hh.2; simp at this; omega)]
  have eb1 : declB L ⟨i, 0, ea, nm, p⟩ = ⟨i, 0, ea, nm + 1, p⟩ := by unfold declB; rw [ea1]
  show (nameS L (declB L ⟨i, 0, ea, nm, p⟩)).2 = _
  rw [eb1]
  exact W.name (st := ⟨i, 0, ea, nm + 1, p⟩) h
/-- One more name than there may be. -/
theorem declared_bad (h : W L i = (1, [121])) (hE : W L (L.length - 1) = (0, [])) : ∃ ea', (declaredS L ⟨i, 0, ea, 64, p⟩).2.2 = ⟨L.length - 1, 2, ea', 65, p⟩ := by
  refine ⟨(cur L ⟨i, 0, ea, 64, p⟩).at_, ?_⟩
  have ea1 : declA L ⟨i, 0, ea, 64, p⟩ = ⟨L.length - 1, 2, (cur L ⟨i, 0, ea, 64, p⟩).at_, 64, p⟩ := by
    unfold declA
    rw [if_pos ⟨by rw [W.isName (st := ⟨i, 0, ea, 64, p⟩) h]; rfl, rfl⟩]
    unfold failS
    rw [if_pos rfl]
  have eb1 : declB L ⟨i, 0, ea, 64, p⟩ = ⟨L.length - 1, 2, (cur L ⟨i, 0, ea, 64, p⟩).at_, 65, p⟩ := by unfold declB; rw [ea1]
  show (nameS L (declB L ⟨i, 0, ea, 64, p⟩)).2 = _
  rw [eb1]
  exact W.end_name (st := ⟨L.length - 1, 2, (cur L ⟨i, 0, ea, 64, p⟩).at_, 65, p⟩) hE two_ne
/-- Behind a fault, at the end. -/
theorem end_decls_tail (X : List Vr × St) (hX : X.2 = ⟨i, 2, ea, nm, p⟩) (h : W L i = (0, [])) (k : Nat) : needS L (bs [41]) (declsL L k (kindS L (needS L (bs [58]) X.2)).2).2 = ⟨i, 2, ea, nm, p⟩ := by
  rw [hX]
  have e1 : needS L (bs [58]) ⟨i, 2, ea, nm, p⟩ = ⟨i, 2, ea, nm, p⟩ := W.end_need (st := ⟨i, 2, ea, nm, p⟩) h two_ne _ rfl
  have e2 : (kindS L ⟨i, 2, ea, nm, p⟩).2 = ⟨i, 2, ea, nm, p⟩ := by
    unfold kindS
    rw [if_neg (by rw [W.is (st := ⟨i, 2, ea, nm, p⟩) h]; decide), if_neg (by rw [W.is (st := ⟨i, 2, ea, nm, p⟩) h]; decide)]
    unfold failS
    rw [if_neg two_ne]
  rw [e1, e2, declsL_stop L k _ (by rw [W.is (st := ⟨i, 2, ea, nm, p⟩) h]; rfl)]
  exact W.end_need (st := ⟨i, 2, ea, nm, p⟩) h two_ne _ rfl
theorem end_decls (h : W L i = (0, [])) : (declsS L ⟨i, 2, ea, nm, p⟩).2 = ⟨i, 2, ea, nm + 1, p⟩ := by
  have e1 : needS L (bs [40]) ⟨i, 2, ea, nm, p⟩ = ⟨i, 2, ea, nm, p⟩ := W.end_need (st := ⟨i, 2, ea, nm, p⟩) h two_ne _ rfl
  have eb1 : declB L ⟨i, 2, ea, nm, p⟩ = ⟨i, 2, ea, nm + 1, p⟩ := by
    unfold declB declA
    rw [if_neg (fun hh => by have := hh.1; rw [W.isName (st := ⟨i, 2, ea, nm, p⟩) h] at this; exact absurd this (by decide))]
  have ed : (declaredS L ⟨i, 2, ea, nm, p⟩).2.2 = ⟨i, 2, ea, nm + 1, p⟩ := by
    show (nameS L (declB L ⟨i, 2, ea, nm, p⟩)).2 = _
    rw [eb1]
    exact W.end_name (st := ⟨i, 2, ea, nm + 1, p⟩) h two_ne
  unfold declsS
  rw [e1]
  unfold declsB
  rw [if_neg (by rw [W.is (st := ⟨i, 2, ea, nm, p⟩) h]; decide)]
  exact end_decls_tail (declN L ⟨i, 2, ea, nm, p⟩) (by
    show (declL L L.length (declaredS L ⟨i, 2, ea, nm, p⟩).2.2).2 = _
    rw [ed, declL_stop L _ _ (by rw [W.is (st := ⟨i, 2, ea, nm + 1, p⟩) h]; rfl)]) h _
theorem end_tail (h : W L i = (0, [])) : (takeS L (bs [59]) (needS L (bs [116, 101, 108]) (eqsL L L.length (needS L (bs [108, 101, 116]) (varS L (needS L (bs [59]) ⟨i, 2, ea, nm, p⟩)).2)).2)).2 = ⟨i, 2, ea, nm, p⟩ := by
  have e1 : ∀ s : ByteArray, (([] : List UInt8) == s.data.toList) = false → needS L s ⟨i, 2, ea, nm, p⟩ = ⟨i, 2, ea, nm, p⟩ := fun s hs => W.end_need (st := ⟨i, 2, ea, nm, p⟩) h two_ne s hs
  have e2 : varS L ⟨i, 2, ea, nm, p⟩ = ([], ⟨i, 2, ea, nm, p⟩) := by
    unfold varS
    rw [if_neg (by rw [W.is (st := ⟨i, 2, ea, nm, p⟩) h]; decide)]
  have e4 : eqsL L L.length ⟨i, 2, ea, nm, p⟩ = ([], ⟨i, 2, ea, nm, p⟩) := eqsL_stop L _ _ (by rw [W.isName (st := ⟨i, 2, ea, nm, p⟩) h]; rfl)
  rw [e1 _ rfl, e2, e1 _ rfl, e4, e1 _ rfl, W.take0 (st := ⟨i, 2, ea, nm, p⟩) h _ rfl]
theorem end_node (h : W L i = (0, [])) : (nodeS L ⟨i, 2, ea, nm, p⟩).2 = ⟨i, 2, ea, 2, p⟩ := by
  have e1 : ∀ (m : Nat) (s : ByteArray), (([] : List UInt8) == s.data.toList) = false → needS L s ⟨i, 2, ea, m, p⟩ = ⟨i, 2, ea, m, p⟩ := fun m s hs => W.end_need (st := ⟨i, 2, ea, m, p⟩) h two_ne s hs
  rw [nodeS_snd]
  have e0 : zeroN ⟨i, 2, ea, nm, p⟩ = ⟨i, 2, ea, 0, p⟩ := rfl
  have e2 : (nameS L ⟨i, 2, ea, 0, p⟩).2 = ⟨i, 2, ea, 0, p⟩ := W.end_name (st := ⟨i, 2, ea, 0, p⟩) h two_ne
  rw [e0, e1 0 _ rfl, e2, end_decls h, e1 1 _ rfl, end_decls h]
  exact end_tail h
end
/-- Many nodes: how the rest of them is read. -/
theorem node_blk1 {L : List Wd} {i ea nm p : Nat} (h : ∀ r, r < 13 → W L (i + r) = blkW.getD r (0, [])) (h3 : ((W L (i + 13)).2 == [59]) = false) : (nodeS L ⟨i, 0, ea, nm, p⟩).2 = ⟨i + 13, 0, ea, 1, p⟩ := by
  rw [nodeS_snd, node_head (i := i) ⟨i, 0, ea, nm, p⟩ rfl rfl (fun r hr => h r (by omega))]
  have ed : (declsS L ⟨i + 5, 0, ea, 0, p⟩).2 = ⟨i + 10, 0, ea, 1, p⟩ := by
    have e1 : needS L (bs [40]) ⟨i + 5, 0, ea, 0, p⟩ = ⟨i + 6, 0, ea, 0, p⟩ := W.need (st := ⟨i + 5, 0, ea, 0, p⟩) (h 5 (by decide)) (by decide) _ rfl
    unfold declsS
    rw [e1]
    unfold declsB
    rw [if_neg (by rw [W.is (st := ⟨i + 6, 0, ea, 0, p⟩) (h 6 (by decide))]; decide)]
    exact decls_tail (i := i + 7) (declN L ⟨i + 6, 0, ea, 0, p⟩) (by
      show (declL L L.length (declaredS L ⟨i + 6, 0, ea, 0, p⟩).2.2).2 = _
      rw [declared_ok (h 6 (by decide)) (by decide), declL_stop L _ _ (by rw [W.is (st := ⟨i + 7, 0, ea, 1, p⟩) (h 7 (by decide))]; rfl)]) (h 7 (by decide)) (h 8 (by decide)) (h 9 (by decide)) _
  show (takeS L _ (needS L _ (eqsL L L.length (needS L _ (varS L (needS L _ (declsS L ⟨i + 5, 0, ea, 0, p⟩).2)).2)).2)).2 = _
  rw [ed]
  exact node_tail (i := i + 10) (h 10 (by decide)) (h 11 (by decide)) (h 12 (by decide)) h3
theorem prog_many {L : List Wd} {N : Nat} (hL : L.length = 13 * N + 1) (hW : ∀ i, W L i = (repW N blkW ++ [(0, [])]).getD i (0, [])) : ∀ (m j fuel ea nm p : Nat), j + m = N → 1 ≤ j → j ≤ 32 → m < fuel → (programL L fuel j ⟨13 * j, 0, ea, nm, p⟩).2.er = if N ≤ 32 then 0 else 2
  | 0, j, fuel, ea, nm, p, h1, h2, h3, h4 => by
    have hk : (cur L ⟨13 * j, 0, ea, nm, p⟩).kind = 0 := W.kind (st := ⟨13 * j, 0, ea, nm, p⟩) (k := 0) (t := []) (by rw [hW, show j = N by omega]; exact many_end N)
    rw [programL_stop L fuel j _ hk, if_pos (by omega)]
  | m + 1, j, fuel, ea, nm, p, h1, h2, h3, h4 => by
    have hb : ∀ r, r < 13 → W L (13 * j + r) = blkW.getD r (0, []) := fun r hr => by rw [hW]; exact many_at _ N j r (by omega) hr
    have h0 : W L (13 * j) = (2, [110, 111, 100, 101]) := hb 0 (by decide)
    have hk : (cur L ⟨13 * j, 0, ea, nm, p⟩).kind ≠ 0 := by rw [W.kind (st := ⟨13 * j, 0, ea, nm, p⟩) h0]; decide
    cases fuel with
    | zero => omega
    | succ fuel =>
      rw [programL_go L fuel j _ hk]
      by_cases hj : j = 32
      · have hl : limS L j ⟨13 * j, 0, ea, nm, p⟩ = ⟨L.length - 1, 2, (cur L ⟨13 * j, 0, ea, nm, p⟩).at_, nm, p⟩ := by
          unfold limS
          rw [if_pos ⟨by rw [W.is (st := ⟨13 * j, 0, ea, nm, p⟩) h0]; rfl, hj⟩]
          unfold failS
          rw [if_pos rfl]
        have hE : W L (L.length - 1) = (0, []) := by rw [hW, hL, Nat.add_sub_cancel]; exact many_end N
        rw [hl]
        show (programL L fuel (j + 1) (nodeS L _).2).2.er = _
        rw [end_node hE, programL_stop L fuel (j + 1) _ (W.kind (st := ⟨L.length - 1, 2, (cur L ⟨13 * j, 0, ea, nm, p⟩).at_, 2, p⟩) hE), if_neg (by omega)]
      · have hl : limS L j ⟨13 * j, 0, ea, nm, p⟩ = ⟨13 * j, 0, ea, nm, p⟩ := by
          unfold limS
          rw [if_neg (fun h => hj h.2)]
        rw [hl]
        show (programL L fuel (j + 1) (nodeS L _).2).2.er = _
        have h13 : ((W L (13 * j + 13)).2 == [59]) = false := by
          by_cases hm : m = 0
          · have : W L (13 * j + 13) = (0, []) := by rw [hW, show 13 * j + 13 = 13 * N by omega]; exact many_end N
            rw [this]; rfl
          · have : W L (13 * j + 13) = blkW.getD 0 (0, []) := by rw [hW, show 13 * j + 13 = 13 * (j + 1) + 0 by omega]; exact many_at _ N (j + 1) 0 (by omega) (by decide)
            rw [this]; rfl
        rw [node_blk1 hb h13, show 13 * j + 13 = 13 * (j + 1) by omega]
        exact prog_many hL hW m (j + 1) fuel ea 1 p (by omega) (by omega) (by omega) (by omega)
theorem code_of {s : ByteArray} {d : List (Nat × Nat × Int × Nat)} (h : cutAll s.data.toList = .ok d) : code s = (programS (wordsL s d) st0).2.er := by
  unfold code parseS
  rw [h]
  simp only
  by_cases he : (programS (wordsL s d) st0).2.er = 0
  · rw [if_pos he, he]
  · rw [if_neg he]
theorem mn_code (N : Nat) (h1 : 1 ≤ N) (h2 : N ≤ 40) : code ⟨(mnT N).toArray⟩ = if N ≤ 32 then 0 else 2 := by
  have hl : (mnT N).length = N * 35 := rep_len mnU N
  have hg : gapL (mnT N) = 0 := by
    cases N with
    | zero => omega
    | succ n => rfl
  obtain ⟨d, hd, hw⟩ := words_of_lex ⟨(mnT N).toArray⟩ _ (lex_many N) hg (by show (mnT N).length ≤ _; omega)
  rw [code_of hd]
  have hW := W_of hw
  have hL : (wordsL ⟨(mnT N).toArray⟩ d).length = 13 * N + 1 := by
    have := congrArg List.length hw
    rw [List.length_map, List.length_append, repW_len] at this
    rw [this]
    show N * 13 + 1 = _
    omega
  generalize wordsL ⟨(mnT N).toArray⟩ d = L at hW hL
  show (programL L L.length 1 (nodeS L st0).2).2.er = _
  have hb : ∀ r, r < 13 → W L (0 + r) = blkW.getD r (0, []) := fun r hr => by rw [hW, show 0 + r = 13 * 0 + r by omega]; exact many_at _ N 0 r (by omega) hr
  have h13 : ((W L (0 + 13)).2 == [59]) = false := by
    by_cases hm : N = 1
    · have : W L (0 + 13) = (0, []) := by rw [hW, show 0 + 13 = 13 * N by omega]; exact many_end N
      rw [this]; rfl
    · have : W L (0 + 13) = blkW.getD 0 (0, []) := by rw [hW, show 0 + 13 = 13 * 1 + 0 by omega]; exact many_at _ N 1 0 (by omega) (by decide)
      rw [this]; rfl
  have hn : (nodeS L st0).2 = ⟨13 * 1, 0, 0, 1, 0⟩ := node_blk1 (i := 0) (ea := 0) (nm := 0) (p := 0) hb h13
  rw [hn]
  exact prog_many hL hW (N - 1) 1 L.length 0 1 0 (by omega) (by decide) (by decide) (by omega)
/-! Many names. -/
def hdW : List (Nat × List UInt8) := [(2, [110, 111, 100, 101]), (1, [102]), (4, [40]), (4, [41]), (2, [114, 101, 116, 117, 114, 110, 115]), (4, [40])]
def tlW : List (Nat × List UInt8) := [(4, [58]), (2, [105, 110, 116]), (4, [41]), (4, [59]), (2, [108, 101, 116]), (2, [116, 101, 108]), (0, [])]
def pairT : List UInt8 := [44, 32, 121]
def pairW : List (Nat × List UInt8) := [(4, [44]), (1, [121])]
def NP (m : Nat) : List (Nat × List UInt8) := (1, [121]) :: repW m pairW
theorem NP_succ (m : Nat) : NP (m + 1) = (1, [121]) :: (4, [44]) :: NP m := rfl
theorem lex_tl : LexR mvZ tlW := by
  have s6 : LexR [] [(0, [])] := LexR.nil
  have s5 : LexR [116, 101, 108] ((2, [116, 101, 108]) :: [(0, [])]) := LexR.cons 2 3 (by simp) rfl (by decide) rfl rfl s6
  have s4 : LexR [108, 101, 116, 32, 116, 101, 108] ((2, [108, 101, 116]) :: (2, [116, 101, 108]) :: [(0, [])]) := LexR.cons 2 3 (by simp) rfl (by decide) rfl rfl s5
  have s3 : LexR [59, 32, 108, 101, 116, 32, 116, 101, 108] ((4, [59]) :: (2, [108, 101, 116]) :: (2, [116, 101, 108]) :: [(0, [])]) := LexR.cons 4 1 (by simp) rfl (by decide) rfl rfl s4
  have s2 : LexR [41, 59, 32, 108, 101, 116, 32, 116, 101, 108] ((4, [41]) :: (4, [59]) :: (2, [108, 101, 116]) :: (2, [116, 101, 108]) :: [(0, [])]) := LexR.cons 4 1 (by simp) rfl (by decide) rfl rfl s3
  have s1 : LexR [105, 110, 116, 41, 59, 32, 108, 101, 116, 32, 116, 101, 108] ((2, [105, 110, 116]) :: (4, [41]) :: (4, [59]) :: (2, [108, 101, 116]) :: (2, [116, 101, 108]) :: [(0, [])]) := LexR.cons 2 3 (by simp) rfl (by decide) rfl rfl s2
  have s0 : LexR [58, 32, 105, 110, 116, 41, 59, 32, 108, 101, 116, 32, 116, 101, 108] ((4, [58]) :: (2, [105, 110, 116]) :: (4, [41]) :: (4, [59]) :: (2, [108, 101, 116]) :: (2, [116, 101, 108]) :: [(0, [])]) := LexR.cons 4 1 (by simp) rfl (by decide) rfl rfl s1
  exact s0
theorem lex_y {R : List UInt8} {ws : List (Nat × List UInt8)} (hR : (∃ r, R = 44 :: r) ∨ ∃ r, R = 58 :: r) (h : LexR R ws) : LexR (121 :: R) ((1, [121]) :: ws) := by
  rcases hR with ⟨r, rfl⟩ | ⟨r, rfl⟩
  · exact LexR.cons 1 1 (by simp) rfl (by decide) rfl rfl h
  · exact LexR.cons 1 1 (by simp) rfl (by decide) rfl rfl h
theorem lex_pairs {R : List UInt8} {ws : List (Nat × List UInt8)} (hR : ∃ r, R = 58 :: r) (h : LexR R ws) : ∀ m, LexR (121 :: (rep m pairT ++ R)) (NP m ++ ws)
  | 0 => lex_y (.inr hR) h
  | m + 1 => by
    have ih := lex_pairs hR h m
    have s1 : LexR (44 :: 32 :: 121 :: (rep m pairT ++ R)) ((4, [44]) :: (NP m ++ ws)) := LexR.cons 4 1 (by simp) rfl (by decide) rfl rfl ih
    exact lex_y (R := 44 :: 32 :: 121 :: (rep m pairT ++ R)) (.inl ⟨_, rfl⟩) s1
theorem lex_hd {R : List UInt8} {ws : List (Nat × List UInt8)} (h : LexR (121 :: R) ws) : LexR (mvA ++ 121 :: R) (hdW ++ ws) := by
  have s5 : LexR ([40] ++ 121 :: R) ((4, [40]) :: ws) := LexR.cons 4 1 (by simp) rfl (by decide) rfl rfl h
  have s4 : LexR ([114, 101, 116, 117, 114, 110, 115, 32, 40] ++ 121 :: R) ((2, [114, 101, 116, 117, 114, 110, 115]) :: (4, [40]) :: ws) := LexR.cons 2 7 (by simp) rfl (by decide) rfl rfl s5
  have s3 : LexR ([41, 32, 114, 101, 116, 117, 114, 110, 115, 32, 40] ++ 121 :: R) ((4, [41]) :: (2, [114, 101, 116, 117, 114, 110, 115]) :: (4, [40]) :: ws) := LexR.cons 4 1 (by simp) rfl (by decide) rfl rfl s4
  have s2 : LexR ([40, 41, 32, 114, 101, 116, 117, 114, 110, 115, 32, 40] ++ 121 :: R) ((4, [40]) :: (4, [41]) :: (2, [114, 101, 116, 117, 114, 110, 115]) :: (4, [40]) :: ws) := LexR.cons 4 1 (by simp) rfl (by decide) rfl rfl s3
  have s1 : LexR ([102, 40, 41, 32, 114, 101, 116, 117, 114, 110, 115, 32, 40] ++ 121 :: R) ((1, [102]) :: (4, [40]) :: (4, [41]) :: (2, [114, 101, 116, 117, 114, 110, 115]) :: (4, [40]) :: ws) := LexR.cons 1 1 (by simp) rfl (by decide) rfl rfl s2
  have s0 : LexR ([110, 111, 100, 101, 32, 102, 40, 41, 32, 114, 101, 116, 117, 114, 110, 115, 32, 40] ++ 121 :: R) ((2, [110, 111, 100, 101]) :: (1, [102]) :: (4, [40]) :: (4, [41]) :: (2, [114, 101, 116, 117, 114, 110, 115]) :: (4, [40]) :: ws) := LexR.cons 2 4 (by simp) rfl (by decide) rfl rfl s1
  exact s0
theorem names_y (z : List (Nat × List UInt8)) : ∀ (m j : Nat), j ≤ m → (NP m ++ z).getD (2 * j) (0, []) = (1, [121])
  | m, 0, _ => rfl
  | 0, j + 1, h => by omega
  | m + 1, j + 1, h => by
    rw [NP_succ, show 2 * (j + 1) = 2 * j + 1 + 1 by omega]
    exact names_y z m j (by omega)
theorem names_c (z : List (Nat × List UInt8)) : ∀ (m j : Nat), j < m → (NP m ++ z).getD (2 * j + 1) (0, []) = (4, [44])
  | 0, j, h => by omega
  | m + 1, 0, _ => rfl
  | m + 1, j + 1, h => by
    rw [NP_succ, show 2 * (j + 1) + 1 = 2 * j + 1 + 1 + 1 by omega]
    exact names_c z m j (by omega)
theorem names_z (z : List (Nat × List UInt8)) (r : Nat) : ∀ (m : Nat), (NP m ++ z).getD (2 * m + 1 + r) (0, []) = z.getD r (0, [])
  | 0 => by rw [show 2 * 0 + 1 + r = r + 1 by omega]; rfl
  | m + 1 => by
    rw [NP_succ, show 2 * (m + 1) + 1 + r = (2 * m + 1 + r) + 1 + 1 by omega]
    exact names_z z r m
def mvW (m : Nat) : List (Nat × List UInt8) := hdW ++ (NP m ++ tlW)
theorem mvW_at (m i : Nat) : (mvW m).getD (6 + i) (0, []) = (NP m ++ tlW).getD i (0, []) := by
  unfold mvW
  rw [List.getD_eq_getElem?_getD, List.getElem?_append_right (by show 6 ≤ _; omega), List.getD_eq_getElem?_getD]
  congr 2
  show 6 + i - 6 = i
  omega
theorem mvW_len (m : Nat) : (mvW m).length = 14 + 2 * m := by
  unfold mvW NP
  rw [List.length_append, List.length_append, List.length_cons, repW_len]
  show 6 + (m * 2 + 1 + 7) = _
  omega
theorem declL_names {L : List Wd} {m0 : Nat} (hL : L.length = 14 + 2 * m0) (hW : ∀ i, W L i = (mvW m0).getD i (0, [])) : ∀ (m j fuel ea p : Nat), j + m = m0 → m ≤ fuel → j + 1 ≤ 64 → ∃ ea', (declL L fuel ⟨7 + 2 * j, 0, ea, j + 1, p⟩).2 = if m0 + 1 ≤ 64 then ⟨7 + 2 * m0, 0, ea, m0 + 1, p⟩ else ⟨L.length - 1, 2, ea', 65, p⟩
  | 0, j, fuel, ea, p, h1, h2, h3 => by
    obtain rfl : j = m0 := by omega
    have h0 : W L (7 + 2 * j) = (4, [58]) := by rw [hW, show 7 + 2 * j = 6 + (2 * j + 1 + 0) by omega, mvW_at, names_z]; rfl
    refine ⟨0, ?_⟩
    rw [declL_stop L fuel _ (by rw [W.is (st := ⟨7 + 2 * j, 0, ea, j + 1, p⟩) h0]; rfl), if_pos h3]
  | m + 1, j, fuel, ea, p, h1, h2, h3 => by
    have h0 : W L (7 + 2 * j) = (4, [44]) := by rw [hW, show 7 + 2 * j = 6 + (2 * j + 1) by omega, mvW_at, names_c _ _ _ (by omega)]
    have hy : W L (7 + 2 * j + 1) = (1, [121]) := by rw [hW, show 7 + 2 * j + 1 = 6 + 2 * (j + 1) by omega, mvW_at, names_y _ _ _ (by omega)]
    cases fuel with
    | zero => omega
    | succ fuel =>
      rw [declL_go L fuel _ (by rw [W.is (st := ⟨7 + 2 * j, 0, ea, j + 1, p⟩) h0]; rfl), W.next (st := ⟨7 + 2 * j, 0, ea, j + 1, p⟩) h0 (by decide)]
      show ∃ ea', (declL L fuel (declaredS L ⟨7 + 2 * j + 1, 0, ea, j + 1, p⟩).2.2).2 = _
      by_cases hj : j + 1 < 64
      · rw [declared_ok hy hj, show 7 + 2 * j + 1 + 1 = 7 + 2 * (j + 1) by omega]
        exact declL_names hL hW m (j + 1) fuel ea p (by omega) (by omega) (by omega)
      · have hE : W L (L.length - 1) = (0, []) := by rw [hW, hL, show 14 + 2 * m0 - 1 = 6 + (2 * m0 + 1 + 6) by omega, mvW_at, names_z]; rfl
        rw [show j + 1 = 64 by omega]
        obtain ⟨ea', hb⟩ := declared_bad (ea := ea) (p := p) hy hE
        rw [hb, declL_stop L fuel _ (by rw [W.is (st := ⟨L.length - 1, 2, ea', 65, p⟩) hE]; rfl)]
        exact ⟨ea', by rw [if_neg (by omega)]⟩
theorem mv_code (M : Nat) (h1 : 1 ≤ M) (h2 : M ≤ 80) : code ⟨(mvT M).toArray⟩ = if M ≤ 64 then 0 else 2 := by
  obtain ⟨m, rfl⟩ : ∃ m, M = m + 1 := ⟨M - 1, by omega⟩
  have ht : mvT (m + 1) = mvA ++ 121 :: (rep m pairT ++ mvZ) := by
    unfold mvT
    rw [Nat.add_sub_cancel, List.append_assoc]
    rfl
  have hx : LexR (mvT (m + 1)) (mvW m) := by
    rw [ht]
    exact lex_hd (lex_pairs ⟨_, rfl⟩ lex_tl m)
  have hg : gapL (mvT (m + 1)) = 0 := by rw [ht]; rfl
  have hl : (mvT (m + 1)).length ≤ 16384 := by
    rw [ht]
    simp only [List.length_append, List.length_cons, rep_len]
    have e1 : mvA.length = 18 := rfl
    have e2 : mvZ.length = 15 := rfl
    have e3 : pairT.length = 3 := rfl
    rw [e1, e2, e3]
    omega
  obtain ⟨d, hd, hw⟩ := words_of_lex ⟨(mvT (m + 1)).toArray⟩ _ hx hg hl
  rw [code_of hd]
  have hW := W_of hw
  have hL : (wordsL ⟨(mvT (m + 1)).toArray⟩ d).length = 14 + 2 * m := by
    have := congrArg List.length hw
    rw [List.length_map, mvW_len] at this
    exact this
  generalize wordsL ⟨(mvT (m + 1)).toArray⟩ d = L at hW hL
  show (programL L L.length 1 (nodeS L st0).2).2.er = _
  have hz : ∀ r, W L (7 + 2 * m + r) = tlW.getD r (0, []) := fun r => by rw [hW, show 7 + 2 * m + r = 6 + (2 * m + 1 + r) by omega, mvW_at, names_z]
  have hE : W L (L.length - 1) = (0, []) := by rw [hL, show 14 + 2 * m - 1 = 7 + 2 * m + 6 by omega, hz]; rfl
  have hd5 : ∀ r, r < 5 → W L (0 + r) = blkW.getD r (0, []) := fun r hr => by
    rw [hW, Nat.zero_add]
    unfold mvW
    rw [List.getD_eq_getElem?_getD, List.getElem?_append_left (by show r < 6; omega)]
    match r, hr with
    | 0, _ | 1, _ | 2, _ | 3, _ | 4, _ => rfl
    | _ + 5, h => omega
  have w5 : W L 5 = (4, [40]) := by rw [hW]; rfl
  have w6 : W L 6 = (1, [121]) := by rw [hW]; rfl
  rw [nodeS_snd, node_head (i := 0) st0 rfl rfl hd5]
  have e1 : needS L (bs [40]) ⟨0 + 5, 0, 0, 0, 0⟩ = ⟨6, 0, 0, 0, 0⟩ := W.need (st := ⟨0 + 5, 0, 0, 0, 0⟩) w5 (by decide) _ rfl
  obtain ⟨ea', hn⟩ := declL_names hL hW m 0 L.length 0 0 (by omega) (by omega) (by decide)
  have hdn : (declN L ⟨6, 0, 0, 0, 0⟩).2 = if m + 1 ≤ 64 then ⟨7 + 2 * m, 0, 0, m + 1, 0⟩ else ⟨L.length - 1, 2, ea', 65, 0⟩ := by
    show (declL L L.length (declaredS L ⟨6, 0, 0, 0, 0⟩).2.2).2 = _
    rw [declared_ok w6 (by decide)]
    exact hn
  show (programL L L.length 1 (takeS L _ (needS L _ (eqsL L L.length (needS L _ (varS L (needS L _ (declsS L ⟨0 + 5, 0, 0, 0, 0⟩).2)).2)).2)).2).2.er = _
  unfold declsS
  rw [e1]
  unfold declsB
  rw [if_neg (by rw [W.is (st := ⟨6, 0, 0, 0, 0⟩) w6]; decide)]
  by_cases hm : m + 1 ≤ 64
  · rw [if_pos hm] at hdn ⊢
    have ed : needS L (bs [41]) (declsL L L.length (declS L ⟨6, 0, 0, 0, 0⟩).2).2 = ⟨7 + 2 * m + 3, 0, 0, m + 1, 0⟩ := decls_tail (i := 7 + 2 * m) (declN L ⟨6, 0, 0, 0, 0⟩) hdn (hz 0) (hz 1) (hz 2) _
    show (programL L L.length 1 (takeS L _ (needS L _ (eqsL L L.length (needS L _ (varS L (needS L _ (needS L (bs [41]) (declsL L L.length (declS L ⟨6, 0, 0, 0, 0⟩).2).2))).2)).2)).2).2.er = _
    rw [ed, node_tail (i := 7 + 2 * m + 3) (hz 3) (hz 4) (hz 5) (by rw [show 7 + 2 * m + 3 + 3 = 7 + 2 * m + 6 by omega, hz 6]; rfl), programL_stop L _ _ _ (W.kind (st := ⟨7 + 2 * m + 3 + 3, 0, 0, m + 1, 0⟩) (k := 0) (t := []) (hz 6))]
  · rw [if_neg hm] at hdn ⊢
    have ed : needS L (bs [41]) (declsL L L.length (declS L ⟨6, 0, 0, 0, 0⟩).2).2 = ⟨L.length - 1, 2, ea', 65, 0⟩ := end_decls_tail (declN L ⟨6, 0, 0, 0, 0⟩) hdn hE _
    show (programL L L.length 1 (takeS L _ (needS L _ (eqsL L L.length (needS L _ (varS L (needS L _ (needS L (bs [41]) (declsL L L.length (declS L ⟨6, 0, 0, 0, 0⟩).2).2))).2)).2)).2).2.er = _
    rw [ed, end_tail hE, programL_stop L _ _ _ (W.kind (st := ⟨L.length - 1, 2, ea', 65, 0⟩) hE)]
end Go.Proofs.YtfgjgnfbhfhkjaaGreatDoor
