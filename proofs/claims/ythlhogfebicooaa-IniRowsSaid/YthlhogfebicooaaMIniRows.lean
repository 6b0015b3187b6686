/-
  What this statement stands on beside.
-/
import Derived.Test.YthlhogfebicooaaMe
import Derived.WalkKit
import Derived.Lib.VarintMem
import Derived.Lib.Hide
import Derived.Laws.CopyOwn
import Derived.Deep.Draws
import Derived.Laws.BytesArg
import Derived.Deep.DeepCutAuto
import Derived.Deep.CutBlock
set_option linter.unusedVariables false
set_option linter.unusedSimpArgs false
namespace Go.Proofs.Ythlhogfebicooaa
open Go Go.RowKit
/-- 'string(b)'. -/
theorem run_string {P : Program} (w : World) (src e dst : TypeId) (hs : P.underlying src = some (.slice e)) (he : P.underlying e = some (.int .u8)) (hd : P.underlying dst = some .string) (a : Option Addr) (l : List UInt8) (c : Nat) (h : Txt w a l) :
    (convert src dst (.slice a l.length c)).run P w = .ok (.string ⟨l.toArray⟩) w := by
  cases l with
  | nil =>
    cases a with
    | none => exact run_convert_bytes_nil (P := P) w src e hs he 0 c dst hd
    | some ad =>
      have hl : (loadCells ad 0).run P w = .ok (([] : List Int).map (Value.int .u8)).toArray w := run_loadCells_list (P := P) w ad [] (fun j v hj => by simp at hj)
      rw [List.length_nil, run_convert_bytes_string w src dst e _ 0 c hs he hd, run_bytesToString w _ 0 c [] hl]
      rfl
  | cons x r =>
    obtain ⟨b, o, rfl, hlt, hc⟩ := h (by simp)
    have hr := run_convert_bytes_arg (P := P) w src e hs he b o (x :: r).length c ((x :: r).map fun u => (u.toNat : Int)) (by simp) (fun i hi => by
      rw [hc i hi]
      simp only [List.getD, List.getElem?_map, List.getElem?_eq_getElem hi, Option.map_some, Option.getD_some]) dst hd
    rw [hr]
    congr 2
    apply ByteArray.ext
    apply Array.toList_inj.1
    rw [strOfNums_data, List.map_map]
    conv => rhs; rw [← List.map_id (x :: r)]
    apply List.map_congr_left
    intro u _
    simp
end Go.Proofs.Ythlhogfebicooaa

namespace Go.Proofs.Ythlhogfebicooaa
open Go Go.RowKit
section
variable {P : Program} {Q : Exit → Act → World → Prop} {md : Region.Mode}
/-- The operation that may turn what stands from B on. -/
def StepS (P : Program) (md : Region.Mode) (Q : Exit → Act → World → Prop) (l : List Oper) (Sp : Nat → Value → World → Prop) (Sw : Value → World → Prop) (ds : Nat) (B : Nat) (w0 : World) (a0 : Act) (i : Nat) (o : Oper) : Prop :=
  ∀ (a : Act) (W : World), Below B w0 W → B ≤ W.heap.size → (∀ j, (∀ x ∈ l, x.dst ≠ some j) → a.tmps.getD j undef = a0.tmps.getD j undef) →
    (∀ e ∈ o.after.toList, Region.binds md e = true → ∀ x, l[e.on]? = some x → ∀ d, x.dst = some d → d < a.tmps.size ∧ Sp e.on (a.tmps.getD d undef) W) →
    wpOp P l.toArray Q i (fun a' W' => ∃ v, a' = a.put o.dst v ∧ Sw (a.tmps.getD ds undef) W' ∧ Below B W W' ∧ W.heap.size ≤ W'.heap.size) a W
structure PreD (md : Region.Mode) (l : List Oper) (Sp : Nat → Value → World → Prop) (D : List Nat) (B : Nat) (w0 : World) (a0 : Act) (o : Oper) (a : Act) (W : World) : Prop where
  below : Below B w0 W
  base : B ≤ W.heap.size
  old : ∀ j, (l.all fun x => !(x.dst == some j)) = true → a.tmps.getD j undef = a0.tmps.getD j undef
  pre : ∀ e ∈ o.after.toList, Region.binds md e = true → e.on ∉ D → ∀ x, l[e.on]? = some x → ∀ d, x.dst = some d → d < a.tmps.size ∧ Sp e.on (a.tmps.getD d undef) W
theorem PreD.on_ {l : List Oper} {Sp : Nat → Value → World → Prop} {D : List Nat} {B : Nat} {w0 : World} {a0 : Act} {o : Oper} {a : Act} {W : World} (h : PreD md l Sp D B w0 a0 o a W) (n : Nat) {x : Oper} {d : Tmp} (he : (o.after.toList.any fun e => e.on == n && Region.binds md e) = true) (hx : l[n]? = some x) (hd : x.dst = some d) (hD : D.contains n = false) :
    d < a.tmps.size ∧ Sp n (a.tmps.getD d undef) W := by
  obtain ⟨e, he1, he2⟩ := List.any_eq_true.1 he
  rw [Bool.and_eq_true, beq_iff_eq] at he2
  obtain ⟨rfl, h2⟩ := he2
  exact h.pre e he1 h2 (fun h => by rw [List.contains_iff_mem.2 h] at hD; cases hD) x hx d hd
/-- An operation other than kw. -/
def StepD (P : Program) (md : Region.Mode) (Q : Exit → Act → World → Prop) (l : List Oper) (Sp : Nat → Value → World → Prop) (D : List Nat) (B : Nat) (w0 : World) (a0 : Act) (i : Nat) (o : Oper) : Prop :=
  ∀ (a : Act) (W : World), PreD md l Sp D B w0 a0 o a W → wpOp P l.toArray Q i (fun a' W' => ∃ v, a' = a.put o.dst v ∧ Sp i v W' ∧ Below W.heap.size W W') a W
def StepsS (P : Program) (md : Region.Mode) (Q : Exit → Act → World → Prop) (l : List Oper) (Sp : Nat → Value → World → Prop) (Sw : Value → World → Prop) (ds : Nat) (D : List Nat) (B : Nat) (w0 : World) (a0 : Act) (kw : Nat) : Nat → List Oper → Prop
  | _, [] => True
  | i, o :: r => (if i = kw then StepS P md Q l Sp Sw ds B w0 a0 i o else StepD P md Q l Sp D B w0 a0 i o) ∧ StepsS P md Q l Sp Sw ds D B w0 a0 kw (i + 1) r
variable {l : List Oper} {Sp : Nat → Value → World → Prop} {Sw : Value → World → Prop} {ds kd : Nat} {D : List Nat} {B : Nat} {w0 : World} {a0 : Act} {kw : Nat}
theorem StepsS.cons {i : Nat} {o : Oper} {r : List Oper} (h : StepD P md Q l Sp D B w0 a0 i o) (hr : StepsS P md Q l Sp Sw ds D B w0 a0 kw (i + 1) r) (hne : i ≠ kw := by decide) : StepsS P md Q l Sp Sw ds D B w0 a0 kw i (o :: r) := ⟨by rw [if_neg hne]; exact h, hr⟩
theorem StepsS.nil {i : Nat} : StepsS P md Q l Sp Sw ds D B w0 a0 kw i [] := trivial
theorem StepsS.at_ : ∀ (r : List Oper) (i : Nat), StepsS P md Q l Sp Sw ds D B w0 a0 kw i r → ∀ (k : Nat) (o : Oper), r[k]? = some o → if i + k = kw then StepS P md Q l Sp Sw ds B w0 a0 (i + k) o else StepD P md Q l Sp D B w0 a0 (i + k) o
  | [], _, _, k, o, h => by simp at h
  | x :: r, i, hs, 0, o, h => by
    simp only [List.getElem?_cons_zero, Option.some.injEq] at h
    subst h
    exact hs.1
  | x :: r, i, hs, k + 1, o, h => by
    have := StepsS.at_ r (i + 1) hs.2 k o (by simpa using h)
    rwa [show i + 1 + k = i + (k + 1) by omega] at this
end
end Go.Proofs.Ythlhogfebicooaa

namespace Go.Proofs.Ythlhogfebicooaa
open Go Go.RowKit
/-- The nodes ahead, as a map of the call's own holds them. -/
def NodesM (F : List UInt8 → Option Value) (D : List UInt8 → Option Nd) : Prop := ∀ s, match D s with
  | none => F s = none
  | some n => ∃ xi ci xo co xl cl xe ce, F s = some (.agg #[.string n.name, .slice xi n.ins.length ci, .slice xo n.outs.length co, .slice xl n.locs.length cl, .slice xe n.eqs.length ce, .int .i64 (n.at_ : Int)])
end Go.Proofs.Ythlhogfebicooaa

namespace Go.Proofs.Ythlhogfebicooaa
open Go Go.RowKit
structure Fb (B : Nat) (w0 : World) (bl : List (Nat × TypeId × Array Value)) (w : World) : Prop where
  below : Below B w0 w
  base : B ≤ w0.heap.size
  blk : ∀ x ∈ bl, w.heap[x.1]? = some (.cells x.2.2 x.2.1 (0, 0)) ∧ B ≤ x.1
  srt : bl.Pairwise (fun x y => x.1 < y.1)
theorem Fb.start (B : Nat) (w : World) (hB : B ≤ w.heap.size) : Fb B w [] w := ⟨Below.refl _ _, hB, fun x hx => by simp at hx, List.Pairwise.nil⟩
theorem Fb.one (B : Nat) (w : World) {b : Nat} {T : TypeId} {cs : Array Value} (h : w.heap[b]? = some (.cells cs T (0, 0))) (hB : B ≤ b) : Fb B w [(b, T, cs)] w :=
  ⟨Below.refl _ _, Nat.le_of_lt (Nat.lt_of_le_of_lt hB (Array.getElem?_eq_some_iff.1 h).1), fun x hx => by
    simp only [List.mem_cons, List.not_mem_nil, or_false] at hx
    subst hx
    exact ⟨h, hB⟩, List.pairwise_singleton _ _⟩
theorem Fb.lt {B : Nat} {w0 w : World} {bl : List (Nat × TypeId × Array Value)} (h : Fb B w0 bl w) : ∀ x ∈ bl, x.1 < w.heap.size := fun x hx => (Array.getElem?_eq_some_iff.1 (h.blk x hx).1).1
theorem Fb.get {B : Nat} {w0 w : World} {bl : List (Nat × TypeId × Array Value)} (h : Fb B w0 bl w) (i : Nat) {b : Nat} {T : TypeId} {cs : Array Value} (hi : bl[i]? = some (b, T, cs)) : w.heap[b]? = some (.cells cs T (0, 0)) :=
  (h.blk _ (List.mem_of_getElem? hi)).1
theorem Fb.ge {B : Nat} {w0 w : World} {bl : List (Nat × TypeId × Array Value)} (h : Fb B w0 bl w) (i : Nat) {b : Nat} {T : TypeId} {cs : Array Value} (hi : bl[i]? = some (b, T, cs)) : B ≤ b :=
  (h.blk _ (List.mem_of_getElem? hi)).2
theorem Fb.lt_ {B : Nat} {w0 w : World} {bl : List (Nat × TypeId × Array Value)} (h : Fb B w0 bl w) (i : Nat) {b : Nat} {T : TypeId} {cs : Array Value} (hi : bl[i]? = some (b, T, cs)) : b < w.heap.size :=
  h.lt _ (List.mem_of_getElem? hi)
theorem Fb.call {B : Nat} {w0 w w' : World} {bl : List (Nat × TypeId × Array Value)} (h : Fb B w0 bl w) (hb : Below w.heap.size w w') : Fb B w0 bl w' :=
  ⟨h.below.trans (hb.mono (Nat.le_trans h.base h.below.size)), h.base, fun x hx => ⟨(hb.block x.1 (h.lt x hx)).trans (h.blk x hx).1, (h.blk x hx).2⟩, h.srt⟩
/-- Behind what turns one object that is none of these. -/
theorem Fb.own {B : Nat} {w0 w w' : World} {bl : List (Nat × TypeId × Array Value)} {r : Nat} (h : Fb B w0 bl w) (hg : w.grownBy w' (some r)) (hB : B ≤ r) (hr : ∀ x ∈ bl, r ≠ x.1) : Fb B w0 bl w' :=
  ⟨⟨hg.os.trans h.below.os, hg.tape.trans h.below.tape, hg.output.trans h.below.output, Nat.le_trans h.below.size hg.size, fun k hk => (hg.block k (Nat.lt_of_lt_of_le hk (Nat.le_trans h.base h.below.size)) (fun e => by injection e with e; omega)).trans (h.below.block k hk)⟩, h.base,
    fun x hx => ⟨(hg.block x.1 (h.lt x hx) (fun e => by injection e with e; exact hr x hx e.symm)).trans (h.blk x hx).1, (h.blk x hx).2⟩, h.srt⟩
theorem Fb.alloc {B : Nat} {w0 w : World} {bl : List (Nat × TypeId × Array Value)} (h : Fb B w0 bl w) (b : Nat) (hb : b = w.heap.size) (T : TypeId) (cs : Array Value) : Fb B w0 (bl ++ [(b, T, cs)]) (w.alloc (.cells cs T)) := by
  subst hb
  have hbel : Below w.heap.size w (w.alloc (.cells cs T)) := (Below.refl _ _).alloc (Nat.le_refl _) _
  refine ⟨(h.call hbel).below, h.base, fun x hx => ?blk, List.pairwise_append.2 ⟨h.srt, List.pairwise_singleton _ _, fun x hx y hy => ?srt⟩⟩
  case blk =>
    rcases List.mem_append.1 hx with hx | hx
    · exact (h.call hbel).blk x hx
    · simp only [List.mem_cons, List.not_mem_nil, or_false] at hx
      subst hx
      exact ⟨heap_alloc_new w _, Nat.le_trans h.base h.below.size⟩
  case srt =>
    simp only [List.mem_cons, List.not_mem_nil, or_false] at hy
    subst hy
    exact h.lt x hx
theorem Fb.other {B : Nat} {w0 w : World} {bl : List (Nat × TypeId × Array Value)} (h : Fb B w0 bl w) {i j : Nat} {x y : Nat × TypeId × Array Value} (hi : bl[i]? = some x) (hj : bl[j]? = some y) (hne : j ≠ i) : y.1 ≠ x.1 := by
  obtain ⟨hi1, hi2⟩ := List.getElem?_eq_some_iff.1 hi
  obtain ⟨hj1, hj2⟩ := List.getElem?_eq_some_iff.1 hj
  have hp := List.pairwise_iff_getElem.1 h.srt
  rcases Nat.lt_or_gt_of_ne hne with hl | hl
  · have := hp j i hj1 hi1 hl
    rw [hi2, hj2] at this
    omega
  · have := hp i j hi1 hj1 hl
    rw [hi2, hj2] at this
    omega
theorem Fb.turn {B : Nat} {w0 w w' : World} {bl : List (Nat × TypeId × Array Value)} (h : Fb B w0 bl w) (i : Nat) {b : Nat} {T : TypeId} {cs : Array Value} (hi : bl[i]? = some (b, T, cs)) (cs' : Array Value)
    (hs : w.heap.size = w'.heap.size) (ho : ∀ k, k ≠ b → w'.heap[k]? = w.heap[k]?) (hb : w'.heap[b]? = some (.cells cs' T (0, 0))) (h1 : w'.os = w.os) (h2 : w'.tape = w.tape) (h3 : w'.output = w.output) : Fb B w0 (bl.set i (b, T, cs')) w' := by
  have hge := h.ge i hi
  have hil : i < bl.length := (List.getElem?_eq_some_iff.1 hi).1
  have hfst : ∀ (j : Nat) (x : Nat × TypeId × Array Value), (bl.set i (b, T, cs'))[j]? = some x → ∃ y, bl[j]? = some y ∧ y.1 = x.1 := fun j x hx => by
    rw [List.getElem?_set] at hx
    split at hx
    · rename_i e
      subst e
      simp only [hil, if_true, Option.some.injEq] at hx
      exact ⟨_, hi, by rw [← hx]⟩
    · exact ⟨x, hx, rfl⟩
  refine ⟨⟨h1.trans h.below.os, h2.trans h.below.tape, h3.trans h.below.output, by rw [← hs]; exact h.below.size, fun k hk => (ho k (by omega)).trans (h.below.block k hk)⟩, h.base, fun x hx => ?_, ?_⟩
  · obtain ⟨j, hj⟩ := List.getElem?_of_mem hx
    by_cases e : j = i
    · subst e
      rw [List.getElem?_set_self hil] at hj
      simp only [Option.some.injEq] at hj
      subst hj
      exact ⟨hb, hge⟩
    · rw [List.getElem?_set_ne (Ne.symm e)] at hj
      have := h.other hi hj e
      exact ⟨(ho x.1 this).trans (h.blk x (List.mem_of_getElem? hj)).1, (h.blk x (List.mem_of_getElem? hj)).2⟩
  · rw [List.pairwise_iff_getElem]
    intro a b' ha hb' hab
    obtain ⟨y1, hy1, e1⟩ := hfst a _ (List.getElem?_eq_getElem ha)
    obtain ⟨y2, hy2, e2⟩ := hfst b' _ (List.getElem?_eq_getElem hb')
    rw [← e1, ← e2]
    obtain ⟨l1, r1⟩ := List.getElem?_eq_some_iff.1 hy1
    obtain ⟨l2, r2⟩ := List.getElem?_eq_some_iff.1 hy2
    have := List.pairwise_iff_getElem.1 h.srt a b' l1 l2 hab
    rw [r1, r2] at this
    exact this
theorem Fb.store {B : Nat} {w0 w : World} {bl : List (Nat × TypeId × Array Value)} (h : Fb B w0 bl w) (i : Nat) {b : Nat} {T : TypeId} {cs : Array Value} (hi : bl[i]? = some (b, T, cs)) (cs' : Array Value) : Fb B w0 (bl.set i (b, T, cs')) (w.setRow b cs') :=
  h.turn i hi cs' (by rw [setRow_size]) (fun k hk => setRow_other w b k _ hk) (setRow_heap w b _ cs' _ _ (h.get i hi)) rfl rfl rfl
theorem Fb.cell {B : Nat} {w0 w : World} {bl : List (Nat × TypeId × Array Value)} (h : Fb B w0 bl w) (i : Nat) {b : Nat} {T : TypeId} {cs : Array Value} (hi : bl[i]? = some (b, T, cs)) (j : Nat) (v : Value) : Fb B w0 (bl.set i (b, T, cs.setIfInBounds j v)) (w.setCell ⟨b, j, none⟩ v) :=
  h.turn i hi _ (by simp) (fun k hk => heap_setCell_other w ⟨b, j, none⟩ k v hk) (heap_setCell_same w b j _ _ v (h.get i hi)) rfl rfl rfl
/-- Only the first blocks are looked at from here on. -/
theorem Fb.first {B : Nat} {w0 w : World} {bl cl : List (Nat × TypeId × Array Value)} (h : Fb B w0 (bl ++ cl) w) : Fb B w0 bl w :=
  ⟨h.below, h.base, fun x hx => h.blk x (List.mem_append_left _ hx), (List.pairwise_append.1 h.srt).1⟩
end Go.Proofs.Ythlhogfebicooaa

namespace Go.Proofs.Ythlhogfebicooaa
open Go Go.RowKit
/-- The nodes ahead, and one more. -/
def nset (D : List UInt8 → Option Nd) (n : Nd) : List UInt8 → Option Nd := fun s => if s = n.name.data.toList then some n else D s
theorem NodesM.set {F : List UInt8 → Option Value} {D : List UInt8 → Option Nd} (h : NodesM F D) (n : Nd) (xi xo xl xe : Option Addr) (ci co cl ce : Nat) : NodesM (fun x => if x = n.name.data.toList then some (.agg #[.string n.name, .slice xi n.ins.length ci, .slice xo n.outs.length co, .slice xl n.locs.length cl, .slice xe n.eqs.length ce, .int .i64 (n.at_ : Int)]) else F x) (nset D n) := by
  intro s
  unfold nset
  by_cases hs : s = n.name.data.toList
  · simp only [hs, if_true]
    exact ⟨xi, ci, xo, co, xl, cl, xe, ce, rfl⟩
  · simp only [hs, if_false]
    exact h s
end Go.Proofs.Ythlhogfebicooaa

namespace Go.Proofs.Ythlhogfebicooaa
open Go Go.RowKit
theorem NodesM.none : NodesM (fun _ => Option.none) (fun _ => Option.none) := fun _ => rfl
end Go.Proofs.Ythlhogfebicooaa

namespace Go.Proofs.Ythlhogfebicooaa
open Go Go.RowKit
theorem str_row (W : World) (l : List UInt8) (hl : l ≠ []) (n g : Nat) (hn : n = l.length) (hg : g = W.heap.size) (cs : Array Value) (hcs : ∀ i (h : i < l.length), cs[i]? = some (.int .u8 (l[i].toNat : Int))) : (convert 76 9 (.slice (some ⟨g, 0, none⟩) n n)).run Try.prog (W.alloc (.cells cs 5)) = .ok (.string ⟨l.toArray⟩) (W.alloc (.cells cs 5)) := by
  subst hn hg
  refine run_string _ _ 5 _ Try.underlying76 Try.underlying5 Try.underlying9 _ l _ (fun _ => ⟨_, 0, rfl, by simp, fun i hi => ?_⟩)
  rw [Nat.zero_add, cell_of_row _ _ _ _ _ _ (heap_alloc_new W _)]
  exact hcs i hi
theorem str_one (W : World) (g : Nat) (hg : g = W.heap.size) (c : UInt8) (x : Int) (hx : x = (c.toNat : Int)) : (convert 76 9 (.slice (some ⟨g, 0, none⟩) 1 1)).run Try.prog (W.alloc (.cells #[.int .u8 x] 5)) = .ok (.string ⟨[c].toArray⟩) (W.alloc (.cells #[.int .u8 x] 5)) :=
  str_row W [c] (by simp) 1 g rfl hg #[.int .u8 x] (fun i h => by
    have : i = 0 := by simp at h; omega
    subst this
    rw [hx]
    rfl)
end Go.Proofs.Ythlhogfebicooaa

namespace Go.Proofs.Ythlhogfebicooaa
open Go Go.RowKit
/-- This text, from place a on, is cut into these words. -/
def LexW (l : List UInt8) (a : Nat) (ws : List W4) : Prop := ∀ f, l.length < f → ∃ d, cutF f l a = .ok d ∧ ∀ s : List UInt8, s.drop a = l → d.map (wordLL s) = ws
theorem LexW.nil (a : Nat) : LexW [] a [⟨0, ⟨#[]⟩, 0, a⟩] := fun f h => by
  cases f with
  | zero => simp at h
  | succ f => exact ⟨_, cutF_end f a, fun s hs => by simp [wordLL]⟩
theorem LexW.cons {l r : List UInt8} {a : Nat} {ws : List W4} (k n : Nat) (v : Int) (g : Nat) (hne : l ≠ []) (hf : firstW l = (k, n, v)) (hk0 : k ≠ 0) (hg : gapL (l.drop n) = g) (hr : (l.drop n).drop g = r) (h : LexW r (a + n + g) ws) : LexW l a (⟨k, ⟨(l.take n).toArray⟩, v, a⟩ :: ws) := fun f hfl => by
  cases f with
  | zero => omega
  | succ f =>
    have hl : 0 < l.length := List.length_pos_iff.2 hne
    have hfw := firstW_len l hl
    rw [hf] at hfw
    have hn1 : 1 ≤ n := hfw.2.1 hk0
    have hrl : r.length < l.length := by
      rw [← hr]
      simp only [List.length_drop]
      omega
    obtain ⟨d, hd, hm⟩ := h f (by omega)
    refine ⟨(k, n, v, a) :: d, ?_, ?_⟩
    · unfold cutF
      rw [if_neg hne, hf, if_neg hk0]
      simp only [hg, hr, hd]
    · intro s hs
      rw [List.map_cons]
      have e1 : wordLL s (k, n, v, a) = ⟨k, ⟨(l.take n).toArray⟩, v, a⟩ := by unfold wordLL; rw [hs]
      rw [e1, hm s (by rw [Nat.add_assoc, ← List.drop_drop, hs, ← hr, List.drop_drop])]
theorem parse_lex {s : List UInt8} {ws : List W4} (h : LexW s 0 ws) (hg : gapL s = 0) (hl : s.length ≤ 16384) : parseL s = nodes4 ws := by
  obtain ⟨d, hd, hm⟩ := h (s.length + 1) (Nat.lt_succ_self _)
  unfold parseL cutAll
  rw [if_neg (by omega)]
  unfold cut1
  rw [hg, List.drop_zero, hd]
  show nodes4 (d.map (wordLL s)) = _
  rw [hm s (by rw [List.drop_zero])]
/-- A state without fault. -/
abbrev st4 (k : Nat) (p nm : Int) : S4 := ⟨k, 0, 0, p, nm⟩
/-- Is this word spelled so? -/
def sp4 (w : W4) (x : List UInt8) : Bool := (w.kind == 2 || w.kind == 4) && w.text.data.toList == x
theorem drop_cons {L R : List W4} {k : Nat} {w : W4} (h : L.drop k = w :: R) : L.getD k no4 = w ∧ L.drop (k + 1) = R ∧ k < L.length := by
  have hk : k < L.length := by
    by_cases hk : k < L.length
    · exact hk
    · rw [List.drop_of_length_le (by omega)] at h; cases h
  rw [List.drop_eq_getElem_cons hk] at h
  injection h with h1 h2
  refine ⟨?_, h2, hk⟩
  rw [List.getD_eq_getElem?_getD, List.getElem?_eq_getElem hk]
  exact h1
section
variable {L R : List W4} {k : Nat} {p nm : Int} {w : W4} (h : L.drop k = w :: R)
include h
theorem cur_at : cur4 L (st4 k p nm) = w := (drop_cons h).1
theorem is_at (x : ByteArray) : is4 L x (st4 k p nm) = sp4 w x.data.toList := by
  unfold is4
  rw [cur_at h]
  rfl
theorem want_at (x : ByteArray) (hx : sp4 w x.data.toList = true) : want4 L x (st4 k p nm) = st4 (k + 1) p nm := by
  unfold want4
  rw [if_pos (by rw [is_at h]; exact hx)]
  rfl
theorem take_at (x : ByteArray) (hx : sp4 w x.data.toList = true) : take4 L x (st4 k p nm) = (true, st4 (k + 1) p nm) := by
  unfold take4
  rw [is_at h, hx]
  rfl
theorem take_no (x : ByteArray) (hx : sp4 w x.data.toList = false) : take4 L x (st4 k p nm) = (false, st4 k p nm) := by
  unfold take4
  rw [is_at h, hx]
  rfl
theorem name_at (hk : w.kind = 1) : name4 L (st4 k p nm) = (w.text, st4 (k + 1) p nm) := by
  unfold name4
  rw [cur_at h, if_pos ⟨rfl, hk⟩]
  rfl
end
theorem part_at (L : List W4) (k : Nat) (p nm : Int) (h0 : 0 ≤ p) (h : p < 300) : part4 L (st4 k p nm) = st4 k (p + 1) nm := by
  unfold part4
  rw [if_neg (by rintro ⟨_, h2⟩; change 300 ≤ p at h2; omega)]
  show (⟨k, 0, 0, wrap64 (p + 1), nm⟩ : S4) = _
  rw [show wrap64 (p + 1) = p + 1 by unfold wrap64; omega]
/-- No sign or word goes on with an expression behind it here. -/
def INFIX4 : List (List UInt8) := [[119, 104, 101, 110], [102, 98, 121], [45, 62]] ++ (OPS0 ++ OPS1 ++ OPS2 ++ OPS3 ++ OPS4).map (fun o => o.data.toList)
def stop4 (w : W4) : Bool := INFIX4.all fun x => !sp4 w x
def UNARY4 : List (List UInt8) := [[110, 111, 116], [45], [112, 114, 101]]
def start4 (w : W4) : Bool := UNARY4.all fun x => !sp4 w x
theorem find_none {L : List W4} {s : S4} : ∀ (ops : List ByteArray), (∀ o ∈ ops, is4 L o s = false) → find4 L ops s = ⟨#[]⟩ := by
  intro ops
  unfold find4
  induction ops with
  | nil => intro _; rfl
  | cons a r ih =>
    intro h
    rw [List.foldl_cons, if_neg (by rw [h a (List.mem_cons_self ..)]; decide)]
    exact ih fun o ho => h o (List.mem_cons_of_mem _ ho)
theorem row_none {L : List W4} {ops : List ByteArray} {one : Bool} {sub : S4 → Ex × S4} {s : S4} {r : Ex × S4} (hs : sub s = r) (h : ∀ o ∈ ops, is4 L o r.2 = false) : row4 L ops one sub s = r := by
  unfold row4 rowL4
  rw [hs, if_pos (by rw [find_none ops h])]
def lsub (L : List W4) : Nat → F4
  | 0 => no4F
  | m + 1 => lev4 L m
theorem lev4_eq (L : List W4) (m : Nat) : lev4 L m = mk4 L m (lsub L m) := by cases m <;> rfl
/-- What an operand reads, all levels above hand on, if behind it stands nothing that goes on. -/
theorem arrow_of_prim {L : List W4} {k k' : Nat} {p p' nm : Int} {e : Ex} {m : Nat} {w w' : W4} {R R' : List W4} (h : L.drop k = w :: R) (hu : start4 w = true) (h' : L.drop k' = w' :: R') (hs : stop4 w' = true) (hp : (lev4 L m).prim (st4 k p nm) = (e, st4 k' p' nm)) : (lev4 L m).arrow (st4 k p nm) = (e, st4 k' p' nm) := by
  rw [lev4_eq] at hp ⊢
  have hP : (mk4 L m (lsub L m)).prim = prim4 L m (lsub L m) := by simp only [mk4]
  rw [hP] at hp
  have no : ∀ x : ByteArray, INFIX4.contains x.data.toList = true → is4 L x (st4 k' p' nm) = false := fun x hx => by
    rw [is_at h']
    have := List.all_eq_true.1 hs _ (List.contains_iff_mem.1 hx)
    simpa using this
  have nu : ∀ x : ByteArray, UNARY4.contains x.data.toList = true → is4 L x (st4 k p nm) = false := fun x hx => by
    rw [is_at h]
    have := List.all_eq_true.1 hu _ (List.contains_iff_mem.1 hx)
    simpa using this
  have hun : un4 L m (lsub L m) (prim4 L m (lsub L m)) (st4 k p nm) = (e, st4 k' p' nm) := by
    unfold un4
    have e0 : unOp4 L (st4 k p nm) = ⟨#[]⟩ := by
      unfold unOp4
      rw [nu ⟨#[110, 111, 116]⟩ (by kernel_rfl), nu ⟨#[45]⟩ (by kernel_rfl), nu ⟨#[112, 114, 101]⟩ (by kernel_rfl)]
      rfl
    rw [e0, if_pos rfl]
    exact hp
  have hwh : when4 L (un4 L m (lsub L m) (prim4 L m (lsub L m))) (st4 k p nm) = (e, st4 k' p' nm) := by
    unfold when4 whenL4
    rw [hun]
    simp only
    rw [no ⟨#[119, 104, 101, 110]⟩ (by kernel_rfl)]
    rfl
  have hfb : fby4 L m (lsub L m) (un4 L m (lsub L m) (prim4 L m (lsub L m))) (st4 k p nm) = (e, st4 k' p' nm) := by
    unfold fby4
    rw [hwh]
    simp only
    rw [no ⟨#[102, 98, 121]⟩ (by kernel_rfl)]
    rfl
  have hin : ∀ (ops : List ByteArray), (ops.all fun o => INFIX4.contains o.data.toList) = true → ∀ o ∈ ops, is4 L o (e, st4 k' p' nm).2 = false := fun ops hops o ho => no o (List.all_eq_true.1 hops o ho)
  have hro : rows4 L (fby4 L m (lsub L m) (un4 L m (lsub L m) (prim4 L m (lsub L m)))) (st4 k p nm) = (e, st4 k' p' nm) := by
    unfold rows4
    refine row_none (row_none (row_none (row_none (row_none hfb ?_) ?_) ?_) ?_) ?_
    · exact hin OPS4 (by kernel_rfl)
    · exact hin OPS3 (by kernel_rfl)
    · exact hin OPS2 (by kernel_rfl)
    · exact hin OPS1 (by kernel_rfl)
    · exact hin OPS0 (by kernel_rfl)
  have hA : (mk4 L m (lsub L m)).arrow = arrow4 L m (lsub L m) (fby4 L m (lsub L m) (un4 L m (lsub L m) (prim4 L m (lsub L m)))) := by simp only [mk4]
  rw [hA]
  unfold arrow4
  rw [hro]
  simp only
  rw [no ⟨#[45, 62]⟩ (by kernel_rfl)]
  rfl
def exVar (t : ByteArray) (a : Nat) : Ex := .mk ⟨#[118, 97, 114]⟩ t 0 a []
def exInt (v : Int) (a : Nat) : Ex := .mk ⟨#[105, 110, 116]⟩ ⟨#[]⟩ v a []
/-- These words spell this expression, in so many parts, at levels of depth d or more. -/
def ExSp (d : Nat) (ws : List W4) (e : Ex) (np : Nat) : Prop := ∀ (L R : List W4) (k m : Nat) (p nm : Int) (w : W4), d ≤ m → 0 ≤ p → p + np ≤ 300 → L.drop k = ws ++ w :: R → stop4 w = true → sp4 w [40] = false → (lev4 L m).arrow (st4 k p nm) = (e, st4 (k + ws.length) (p + np) nm)
theorem not_sp {w : W4} (h : w.kind = 1 ∨ w.kind = 3) (x : List UInt8) : sp4 w x = false := by
  unfold sp4
  rcases h with h | h <;> rw [h] <;> rfl
theorem ExSp.var (t : ByteArray) (n : Int) (a : Nat) : ExSp 0 [⟨1, t, n, a⟩] (exVar t a) 1 := by
  intro L R k m p nm w hm hp0 hp h hs hb
  have h : L.drop k = ⟨1, t, n, a⟩ :: w :: R := h
  have h2 := (drop_cons h).2.1
  have kd : ∀ x, sp4 ⟨1, t, n, a⟩ x = false := not_sp (.inl rfl)
  refine arrow_of_prim h (List.all_eq_true.2 fun x _ => by rw [kd]; rfl) h2 hs ?_
  rw [lev4_eq]
  show prim4 L m (lsub L m) (st4 k p nm) = _
  unfold prim4
  rw [if_neg (by rw [is_at h, kd]; decide)]
  have e1 : primP4 L (st4 k p nm) = st4 k (p + 1) nm := by
    unfold primP4
    rw [if_pos (.inl (by rw [cur_at h]))]
    exact part_at L k p nm hp0 (by omega)
  simp only [e1]
  rw [if_pos trivial, cur_at h, if_neg (show ¬ (1 : Nat) = 3 by decide), if_neg (by rw [is_at h, kd]; decide), if_neg (by rw [is_at h, kd]; decide), if_neg (by rw [is_at h, kd]; decide), if_neg (by rw [is_at h, kd]; decide)]
  unfold named4
  rw [name_at h rfl]
  simp only
  rw [take_no h2 _ hb]
  rfl
theorem ExSp.int (t : ByteArray) (n : Int) (a : Nat) : ExSp 0 [⟨3, t, n, a⟩] (exInt n a) 1 := by
  intro L R k m p nm w hm hp0 hp h hs hb
  have h : L.drop k = ⟨3, t, n, a⟩ :: w :: R := h
  have h2 := (drop_cons h).2.1
  have kd : ∀ x, sp4 ⟨3, t, n, a⟩ x = false := not_sp (.inr rfl)
  refine arrow_of_prim h (List.all_eq_true.2 fun x _ => by rw [kd]; rfl) h2 hs ?_
  rw [lev4_eq]
  show prim4 L m (lsub L m) (st4 k p nm) = _
  unfold prim4
  rw [if_neg (by rw [is_at h, kd]; decide)]
  have e1 : primP4 L (st4 k p nm) = st4 k (p + 1) nm := by
    unfold primP4
    rw [if_pos (.inr (.inl (by rw [cur_at h])))]
    exact part_at L k p nm hp0 (by omega)
  simp only [e1]
  rw [if_pos trivial, cur_at h, if_pos rfl]
  rfl
theorem sp_other {w : W4} {x y : List UInt8} (h : sp4 w x = true) (hne : (x == y) = false) : sp4 w y = false := by
  unfold sp4 at h ⊢
  simp only [Bool.and_eq_true, beq_iff_eq] at h
  rw [h.2, hne, Bool.and_false]
theorem stop_of {w : W4} {x : List UInt8} (h : sp4 w x = true) (hx : INFIX4.all (fun y => !(x == y)) = true) : stop4 w = true := by
  unfold stop4
  rw [List.all_eq_true] at hx ⊢
  intro y hy
  rw [sp_other h (by simpa using hx y hy)]
  rfl
/-- A sign (4) or a kept word (2). -/
def sg (kd : Nat) (x : List UInt8) (a : Nat) : W4 := ⟨kd, ⟨x.toArray⟩, 0, a⟩
/-- A declaration of one name; the sign ahead of it where it is not the first. -/
structure Dc where
  name : W4
  colon : W4
  kind : W4
  semi : W4
  kd : Nat
def Dc.ok (d : Dc) : Prop := d.name.kind = 1 ∧ sp4 d.colon [58] = true ∧ sp4 d.semi [59] = true ∧ (d.kd = 1 ∧ sp4 d.kind [98, 111, 111, 108] = true ∨ d.kd = 2 ∧ sp4 d.kind [105, 110, 116] = true)
def Dc.ws (d : Dc) : List W4 := [d.name, d.colon, d.kind]
def Dc.vr (d : Dc) : Vr := ⟨d.name.text, d.kd, ⟨#[]⟩, false, d.name.at_⟩
theorem decl_one {L R : List W4} {k : Nat} {p nm : Int} (d : Dc) (hd : d.ok) (h : L.drop k = d.ws ++ R) (hn0 : 0 ≤ nm) (hn : nm < 64) : decl4 L (st4 k p nm) = ([d.vr], st4 (k + 3) p (nm + 1)) := by
  obtain ⟨nw, cw, kw, sw, kd⟩ := d
  obtain ⟨hk1, hcl, _, hkd⟩ := hd
  simp only at hk1 hcl hkd
  have h : L.drop k = nw :: cw :: kw :: R := h
  have h1 := (drop_cons h).2.1
  have h2 := (drop_cons h1).2.1
  have er : declL4 L (L.length + 1) [] (st4 k p nm) = (some [⟨nw.text, 0, ⟨#[]⟩, false, nw.at_⟩], st4 (k + 1) p (nm + 1)) := by
    unfold declL4
    rw [if_pos rfl, cur_at h, if_neg (by rintro ⟨_, h4⟩; change nm = 64 at h4; omega), name_at h hk1]
    simp only
    rw [show wrap64 (nm + 1) = nm + 1 by unfold wrap64; omega]
    have := take_no h1 (p := p) (nm := nm + 1) ⟨#[44]⟩ (sp_other hcl (by decide))
    rw [this]
    rfl
  unfold decl4
  rw [er]
  simp only
  rw [want_at h1 _ hcl, is_at h2]
  rcases hkd with ⟨rfl, hb⟩ | ⟨rfl, hi⟩
  · have hb : sp4 kw (⟨#[98, 111, 111, 108]⟩ : ByteArray).data.toList = true := hb
    rw [if_pos hb, hb]
    rfl
  · have hb : sp4 kw (⟨#[98, 111, 111, 108]⟩ : ByteArray).data.toList = false := sp_other hi (by decide)
    rw [if_neg (by rw [hb]; decide), hb, want_at h2 _ hi]
    rfl
def dcsR (ds : List Dc) : List W4 := ds.flatMap fun d => d.semi :: d.ws
def dcs : List Dc → List W4
  | [] => []
  | d :: r => d.ws ++ dcsR r
theorem dcsR_len (ds : List Dc) : (dcsR ds).length = 4 * ds.length := by
  induction ds with
  | nil => rfl
  | cons a r ih => unfold dcsR at ih ⊢; rw [List.flatMap_cons, List.length_append, ih]; simp [Dc.ws]; omega
theorem declsL_sp {L R : List W4} {p : Int} {w : W4} (hw : sp4 w [59] = false) : ∀ (ds : List Dc) (f : Nat) (l : List Vr) (k : Nat) (nm : Int), ds.length < f → (∀ d ∈ ds, d.ok) → 0 ≤ nm → nm + ds.length ≤ 64 → L.drop k = dcsR ds ++ w :: R → declsL4 L f l (st4 k p nm) = (l ++ ds.map Dc.vr, st4 (k + (dcsR ds).length) p (nm + ds.length))
  | [], 0, _, _, _, hf, _, _, _, _ => absurd hf (Nat.lt_irrefl _)
  | [], f + 1, l, k, nm, _, _, _, _, h => by
    unfold declsL4
    rw [is_at h, hw]
    simp [dcsR]
  | d :: r, 0, _, _, _, hf, _, _, _, _ => absurd hf (Nat.not_lt_zero _)
  | d :: r, f + 1, l, k, nm, hf, hok, hn0, hn, h => by
    have hd := hok d (List.mem_cons_self ..)
    have hn' : nm + ((r.length : Int) + 1) ≤ 64 := by simpa using hn
    have h : L.drop k = d.semi :: (d.ws ++ (dcsR r ++ w :: R)) := by rw [h]; unfold dcsR; simp [List.flatMap_cons]
    have h1 := (drop_cons h).2.1
    have h3 : L.drop (k + 1 + 3) = dcsR r ++ w :: R := by
      rw [← List.drop_drop, h1]
      exact List.drop_left (l₁ := d.ws)
    unfold declsL4
    rw [is_at h, if_pos hd.2.2.1]
    show declsL4 L f (l ++ (decl4 L (st4 (k + 1) p nm)).1) (decl4 L (st4 (k + 1) p nm)).2 = _
    rw [decl_one d hd h1 hn0 (by omega)]
    show declsL4 L f (l ++ [d.vr]) (st4 (k + 1 + 3) p (nm + 1)) = _
    rw [declsL_sp hw r f (l ++ [d.vr]) (k + 1 + 3) (nm + 1) (by simpa using hf) (fun x hx => hok x (List.mem_cons_of_mem _ hx)) (by omega) (by omega) h3]
    rw [dcsR_len, dcsR_len, List.map_cons, List.append_assoc, List.length_cons, show k + 1 + 3 + 4 * r.length = k + 4 * (r.length + 1) by omega, show nm + 1 + (r.length : Int) = nm + ((r.length + 1 : Nat) : Int) by omega]
    rfl
theorem decls_sp {L R : List W4} {p : Int} {w : W4} (hw : sp4 w [41] = true) (ds : List Dc) (k : Nat) (nm : Int) (hok : ∀ d ∈ ds, d.ok) (hn0 : 0 ≤ nm) (hn : nm + ds.length ≤ 64) (h : L.drop k = dcs ds ++ w :: R) : decls4 L (st4 k p nm) = (ds.map Dc.vr, st4 (k + (dcs ds).length) p (nm + ds.length)) := by
  have hlen : ds.length ≤ L.length := by
    have e : (L.drop k).length = (dcs ds ++ w :: R).length := by rw [h]
    rw [List.length_drop, List.length_append] at e
    have : ds.length ≤ (dcs ds).length := by
      cases ds with
      | nil => exact Nat.zero_le _
      | cons d r => show r.length + 1 ≤ (d.ws ++ dcsR r).length; rw [List.length_append, dcsR_len]; simp [Dc.ws]; omega
    omega
  unfold decls4
  cases ds with
  | nil =>
    have h : L.drop k = w :: R := h
    rw [is_at h, if_pos hw]
    simp [dcs]
  | cons d r =>
    have hd := hok d (List.mem_cons_self ..)
    have hn' : nm + ((r.length : Int) + 1) ≤ 64 := by simpa using hn
    have h : L.drop k = d.ws ++ (dcsR r ++ w :: R) := by rw [h]; simp [dcs]
    have h3 : L.drop (k + 3) = dcsR r ++ w :: R := by
      rw [← List.drop_drop, h]
      exact List.drop_left (l₁ := d.ws)
    have h0 : L.drop k = d.name :: (d.colon :: d.kind :: (dcsR r ++ w :: R)) := h
    rw [is_at h0, if_neg (by rw [not_sp (.inl hd.1)]; decide), decl_one d hd h hn0 (by omega)]
    show declsL4 L (L.length + 1) [d.vr] (st4 (k + 3) p (nm + 1)) = _
    rw [declsL_sp (sp_other hw (by decide)) r (L.length + 1) [d.vr] (k + 3) (nm + 1) (by simp only [List.length_cons] at hlen; omega) (fun x hx => hok x (List.mem_cons_of_mem _ hx)) (by omega) (by omega) h3]
    have e1 : (dcs (d :: r)).length = 3 + (dcsR r).length := by show (d.ws ++ dcsR r).length = _; rw [List.length_append]; rfl
    rw [e1, List.length_cons, show k + 3 + (dcsR r).length = k + (3 + (dcsR r).length) by omega, show nm + 1 + (r.length : Int) = nm + ((r.length + 1 : Nat) : Int) by omega]
    rfl
/-- An equation. -/
structure Eqn where
  name : W4
  eq : W4
  ews : List W4
  e : Ex
  np : Nat
  semi : W4
def Eqn.ok (q : Eqn) : Prop := q.name.kind = 1 ∧ sp4 q.eq [61] = true ∧ (∃ d, d ≤ 29 ∧ ExSp d q.ews q.e q.np) ∧ q.np ≤ 300 ∧ sp4 q.semi [59] = true
def Eqn.ws (q : Eqn) : List W4 := q.name :: q.eq :: (q.ews ++ [q.semi])
def Eqn.qe (q : Eqn) : Qe := ⟨q.name.text, q.e, q.name.at_⟩
theorem eq_sp {L R : List W4} {k : Nat} {p nm : Int} (q : Eqn) (hq : q.ok) (h : L.drop k = q.ws ++ R) : eq4 L (st4 k p nm) = (q.qe, st4 (k + q.ws.length) q.np nm) := by
  obtain ⟨h1, h2, ⟨d, hd, he⟩, h4, h5⟩ := hq
  have h : L.drop k = q.name :: q.eq :: (q.ews ++ q.semi :: R) := by rw [h]; simp [Eqn.ws]
  have ha := (drop_cons h).2.1
  have hb := (drop_cons ha).2.1
  have hend : L.drop (k + 1 + 1 + q.ews.length) = q.semi :: R := by
    rw [← List.drop_drop, hb, List.drop_left]
  have hx : expr4 L (st4 (k + 1 + 1) 0 nm) = (q.e, st4 (k + 1 + 1 + q.ews.length) (0 + q.np) nm) := by
    have hh := he L R (k + 1 + 1) 29 0 nm q.semi hd (Int.le_refl _) (by omega) hb (stop_of h5 (by decide)) (sp_other h5 (by decide))
    unfold expr4 exprN4 deep4
    rw [if_pos rfl, if_neg (by decide)]
    show (((lev4 L 29).arrow (st4 (k + 1 + 1) 0 nm)).1, ((lev4 L 29).arrow (st4 (k + 1 + 1) 0 nm)).2) = _
    rw [hh]
  unfold eq4
  rw [name_at h h1]
  simp only
  rw [want_at ha _ h2]
  show (({ name := q.name.text, e := (expr4 L (st4 (k + 1 + 1) 0 nm)).1, at_ := (cur4 L (st4 k p nm)).at_ } : Qe), want4 L ⟨#[59]⟩ (expr4 L (st4 (k + 1 + 1) 0 nm)).2) = _
  rw [hx, cur_at h]
  show (({ name := q.name.text, e := q.e, at_ := q.name.at_ } : Qe), want4 L ⟨#[59]⟩ (st4 (k + 1 + 1 + q.ews.length) (0 + q.np) nm)) = _
  rw [want_at hend _ h5]
  have e1 : q.ws.length = q.ews.length + 3 := by simp [Eqn.ws]
  rw [e1, Int.zero_add, show k + 1 + 1 + q.ews.length + 1 = k + (q.ews.length + 3) by omega]
  rfl
def eqws (qs : List Eqn) : List W4 := qs.flatMap Eqn.ws
theorem eqsL_sp {L R : List W4} {nm : Int} {w : W4} (hw : w.kind ≠ 1) : ∀ (qs : List Eqn) (f : Nat) (l : List Qe) (k : Nat) (p : Int), qs.length < f → (∀ q ∈ qs, q.ok) → L.drop k = eqws qs ++ w :: R → ∃ p', eqsL4 L f l (st4 k p nm) = (l ++ qs.map Eqn.qe, st4 (k + (eqws qs).length) p' nm)
  | [], 0, _, _, _, hf, _, _ => absurd hf (Nat.lt_irrefl _)
  | [], f + 1, l, k, p, _, _, h => by
    refine ⟨p, ?_⟩
    unfold eqsL4
    rw [cur_at (show L.drop k = w :: R from h), if_neg (fun hh => hw hh.2)]
    simp [eqws]
  | q :: r, 0, _, _, _, hf, _, _ => absurd hf (Nat.not_lt_zero _)
  | q :: r, f + 1, l, k, p, hf, hok, h => by
    have hq := hok q (List.mem_cons_self ..)
    have h : L.drop k = q.ws ++ (eqws r ++ w :: R) := by rw [h]; unfold eqws; simp [List.flatMap_cons]
    have h3 : L.drop (k + q.ws.length) = eqws r ++ w :: R := by rw [← List.drop_drop, h, List.drop_left]
    have h0 : L.drop k = q.name :: (q.eq :: (q.ews ++ [q.semi]) ++ (eqws r ++ w :: R)) := h
    obtain ⟨p', hp⟩ := eqsL_sp hw r f (l ++ [q.qe]) (k + q.ws.length) q.np (by simpa using hf) (fun x hx => hok x (List.mem_cons_of_mem _ hx)) h3
    refine ⟨p', ?_⟩
    unfold eqsL4
    rw [if_pos ⟨rfl, by rw [cur_at h0]; exact hq.1⟩]
    show eqsL4 L f (l ++ [(eq4 L (st4 k p nm)).1]) (eq4 L (st4 k p nm)).2 = _
    rw [eq_sp q hq h]
    show eqsL4 L f (l ++ [q.qe]) (st4 (k + q.ws.length) q.np nm) = _
    rw [hp]
    have e1 : (eqws (q :: r)).length = q.ws.length + (eqws r).length := by unfold eqws; rw [List.flatMap_cons, List.length_append]
    rw [e1, List.map_cons, List.append_assoc, Nat.add_assoc]
    rfl
/-- These words spell this node. -/
def NdSp (ws : List W4) (n : Nd) : Prop := ∀ (L R : List W4) (k : Nat) (p nm : Int) (w : W4), L.drop k = ws ++ w :: R → sp4 w [59] = false → ∃ p' nm', node4 L (st4 k p nm) = (n, st4 (k + ws.length) p' nm')
theorem NdSp.make {w0 w1 w2 w3 w4 w5 w6 w7 w8 w9 : W4} (ins outs : List Dc) (qs : List Eqn) (hi : ∀ d ∈ ins, d.ok) (ho : ∀ d ∈ outs, d.ok) (hq : ∀ q ∈ qs, q.ok) (hn : ins.length + outs.length ≤ 64)
    (h0 : sp4 w0 [110, 111, 100, 101] = true) (h1 : w1.kind = 1) (h2 : sp4 w2 [40] = true) (h3 : sp4 w3 [41] = true) (h4 : sp4 w4 [114, 101, 116, 117, 114, 110, 115] = true) (h5 : sp4 w5 [40] = true) (h6 : sp4 w6 [41] = true) (h7 : sp4 w7 [59] = true) (h8 : sp4 w8 [108, 101, 116] = true) (h9 : sp4 w9 [116, 101, 108] = true) (h9k : w9.kind ≠ 1) :
    NdSp (w0 :: w1 :: w2 :: (dcs ins ++ w3 :: w4 :: w5 :: (dcs outs ++ w6 :: w7 :: w8 :: (eqws qs ++ [w9])))) ⟨w1.text, ins.map Dc.vr, outs.map Dc.vr, [], qs.map Eqn.qe, w0.at_⟩ := by
  intro L R k p nm w h hw
  have a0 : L.drop k = w0 :: w1 :: w2 :: (dcs ins ++ w3 :: w4 :: w5 :: (dcs outs ++ w6 :: w7 :: w8 :: (eqws qs ++ w9 :: w :: R))) := by rw [h]; simp
  have a1 := (drop_cons a0).2.1
  have a2 := (drop_cons a1).2.1
  have a3 := (drop_cons a2).2.1
  have a4 : L.drop (k + 1 + 1 + 1 + (dcs ins).length) = w3 :: w4 :: w5 :: (dcs outs ++ w6 :: w7 :: w8 :: (eqws qs ++ w9 :: w :: R)) := by rw [← List.drop_drop, a3, List.drop_left]
  have a5 := (drop_cons a4).2.1
  have a6 := (drop_cons a5).2.1
  have a7 := (drop_cons a6).2.1
  have a8 : L.drop (k + 1 + 1 + 1 + (dcs ins).length + 1 + 1 + 1 + (dcs outs).length) = w6 :: w7 :: w8 :: (eqws qs ++ w9 :: w :: R) := by rw [← List.drop_drop, a7, List.drop_left]
  have a9 := (drop_cons a8).2.1
  have a10 := (drop_cons a9).2.1
  have a11 := (drop_cons a10).2.1
  have a12 : L.drop (k + 1 + 1 + 1 + (dcs ins).length + 1 + 1 + 1 + (dcs outs).length + 1 + 1 + 1 + (eqws qs).length) = w9 :: w :: R := by rw [← List.drop_drop, a11, List.drop_left]
  have a13 := (drop_cons a12).2.1
  have hlen : qs.length < L.length + 1 := by
    have e : (L.drop (k + 1 + 1 + 1 + (dcs ins).length + 1 + 1 + 1 + (dcs outs).length + 1 + 1 + 1)).length = (eqws qs ++ w9 :: w :: R).length := by rw [a11]
    rw [List.length_drop, List.length_append] at e
    have : ∀ l : List Eqn, l.length ≤ (eqws l).length := fun l => by
      induction l with
      | nil => exact Nat.zero_le _
      | cons q r ih => unfold eqws at ih ⊢; rw [List.flatMap_cons, List.length_append]; simp only [Eqn.ws, List.length_cons]; omega
    have := this qs
    omega
  obtain ⟨p', hp⟩ := eqsL_sp (nm := 0 + ins.length + outs.length) h9k qs (L.length + 1) [] _ p hlen hq a11
  refine ⟨p', 0 + ins.length + outs.length, ?_⟩
  have e1 : name4 L (want4 L ⟨#[110, 111, 100, 101]⟩ (st4 k p 0)) = (w1.text, st4 (k + 1 + 1) p 0) := by rw [want_at a0 _ h0, name_at a1 h1]
  have e2 : decls4 L (want4 L ⟨#[40]⟩ (st4 (k + 1 + 1) p 0)) = (ins.map Dc.vr, st4 (k + 1 + 1 + 1 + (dcs ins).length) p (0 + ins.length)) := by
    rw [want_at a2 _ h2, decls_sp h3 ins _ 0 hi (Int.le_refl _) (by omega) a3]
  have e3 : decls4 L (want4 L ⟨#[40]⟩ (want4 L ⟨#[114, 101, 116, 117, 114, 110, 115]⟩ (want4 L ⟨#[41]⟩ (st4 (k + 1 + 1 + 1 + (dcs ins).length) p (0 + ins.length))))) = (outs.map Dc.vr, st4 (k + 1 + 1 + 1 + (dcs ins).length + 1 + 1 + 1 + (dcs outs).length) p (0 + ins.length + outs.length)) := by
    rw [want_at a4 _ h3, want_at a5 _ h4, want_at a6 _ h5, decls_sp h6 outs _ _ ho (by omega) (by omega) a7]
  have e4 : take4 L ⟨#[118, 97, 114]⟩ (want4 L ⟨#[59]⟩ (want4 L ⟨#[41]⟩ (st4 (k + 1 + 1 + 1 + (dcs ins).length + 1 + 1 + 1 + (dcs outs).length) p (0 + ins.length + outs.length)))) = (false, st4 (k + 1 + 1 + 1 + (dcs ins).length + 1 + 1 + 1 + (dcs outs).length + 1 + 1) p (0 + ins.length + outs.length)) := by
    rw [want_at a8 _ h6, want_at a9 _ h7, take_no a10 _ (sp_other h8 (by decide))]
  unfold node4
  have ez : ({ st4 k p nm with names := 0 } : S4) = st4 k p 0 := rfl
  rw [ez, e1]
  simp only
  rw [e2]
  simp only
  rw [e3]
  simp only
  rw [e4]
  simp only [Bool.false_eq_true, if_false]
  rw [want_at a10 _ h8, hp]
  simp only
  rw [want_at a12 _ h9, take_no a13 _ hw, cur_at a0, List.nil_append]
  have el : (w0 :: w1 :: w2 :: (dcs ins ++ w3 :: w4 :: w5 :: (dcs outs ++ w6 :: w7 :: w8 :: (eqws qs ++ [w9])))).length = (dcs ins).length + (dcs outs).length + (eqws qs).length + 10 := by
    simp only [List.length_cons, List.length_append, List.length_nil]; omega
  rw [el, show k + 1 + 1 + 1 + (dcs ins).length + 1 + 1 + 1 + (dcs outs).length + 1 + 1 + 1 + (eqws qs).length + 1 = k + ((dcs ins).length + (dcs outs).length + (eqws qs).length + 10) by omega]
/-- Nodes, one behind the other. -/
theorem nodesL_sp {L : List W4} {w : W4} (hw : w.kind = 0) : ∀ (ns : List (List W4 × Nd)) (f : Nat) (l : List Nd) (k : Nat) (p nm : Int), ns.length < f → l.length + ns.length ≤ 32 → (l ≠ [] ∨ ns ≠ []) → (∀ x ∈ ns, NdSp x.1 x.2 ∧ ∃ h r, x.1 = h :: r ∧ sp4 h [110, 111, 100, 101] = true) → L.drop k = ns.flatMap Prod.fst ++ [w] → ∃ s, nodesL4 L f l (st4 k p nm) = (l ++ ns.map Prod.snd, s) ∧ s.er = 0
  | [], 0, _, _, _, _, hf, _, _, _, _ => absurd hf (Nat.lt_irrefl _)
  | [], f + 1, l, k, p, nm, _, _, hne, _, h => by
    refine ⟨st4 k p nm, ?_, rfl⟩
    unfold nodesL4
    rw [cur_at (show L.drop k = w :: [] from h), if_neg (by
      rintro ⟨_, h1 | h1⟩
      · rcases hne with h2 | h2
        · exact h2 h1
        · exact h2 rfl
      · exact h1 hw)]
    simp
  | x :: r, 0, _, _, _, _, hf, _, _, _, _ => absurd hf (Nat.not_lt_zero _)
  | x :: r, f + 1, l, k, p, nm, hf, hl, _, hok, h => by
    obtain ⟨hx, hh, hr, hx1, hx2⟩ := hok x (List.mem_cons_self ..)
    have hl' : l.length + (r.length + 1) ≤ 32 := hl
    have h : L.drop k = x.1 ++ (r.flatMap Prod.fst ++ [w]) := by rw [h]; simp [List.flatMap_cons]
    have h3 : L.drop (k + x.1.length) = r.flatMap Prod.fst ++ [w] := by rw [← List.drop_drop, h, List.drop_left]
    have h0 : L.drop k = hh :: (hr ++ (r.flatMap Prod.fst ++ [w])) := by rw [h, hx1]; rfl
    have hk : hh.kind ≠ 0 := by
      intro e
      unfold sp4 at hx2
      rw [e] at hx2
      exact absurd hx2 (by simp)
    have hnext : ∃ w' R', r.flatMap Prod.fst ++ [w] = w' :: R' ∧ sp4 w' [59] = false := by
      cases r with
      | nil => exact ⟨w, [], rfl, by unfold sp4; rw [hw]; rfl⟩
      | cons y t =>
        obtain ⟨_, yh, yr, hy1, hy2⟩ := hok y (List.mem_cons_of_mem _ (List.mem_cons_self ..))
        exact ⟨yh, yr ++ (t.flatMap Prod.fst ++ [w]), by rw [List.flatMap_cons, hy1]; simp, sp_other hy2 (by decide)⟩
    obtain ⟨w', R', hn1, hn2⟩ := hnext
    obtain ⟨p', nm', hnd⟩ := hx L R' k p nm w' (by rw [h, hn1]) hn2
    obtain ⟨s, hs, he⟩ := nodesL_sp hw r f (l ++ [x.2]) (k + x.1.length) p' nm' (by simpa using hf) (by simp only [List.length_append, List.length_cons, List.length_nil]; omega) (.inl (by simp)) (fun y hy => hok y (List.mem_cons_of_mem _ hy)) h3
    refine ⟨s, ?_, he⟩
    unfold nodesL4
    rw [cur_at h0, if_pos ⟨rfl, .inr hk⟩, if_neg (by omega)]
    show nodesL4 L f (l ++ [(node4 L (st4 k p nm)).1]) (node4 L (st4 k p nm)).2 = _
    rw [hnd]
    show nodesL4 L f (l ++ [x.2]) (st4 (k + x.1.length) p' nm') = _
    rw [hs]
    simp
theorem nodes_sp {w : W4} (hw : w.kind = 0) (ns : List (List W4 × Nd)) (hne : ns ≠ []) (hl : ns.length ≤ 32) (hok : ∀ x ∈ ns, NdSp x.1 x.2 ∧ ∃ h r, x.1 = h :: r ∧ sp4 h [110, 111, 100, 101] = true) : nodes4 (ns.flatMap Prod.fst ++ [w]) = .ok (ns.map Prod.snd) := by
  have hlen : ns.length < (ns.flatMap Prod.fst ++ [w]).length + 1 := by
    have : ∀ l : List (List W4 × Nd), (∀ x ∈ l, ∃ h r, x.1 = h :: r) → l.length ≤ (l.flatMap Prod.fst).length := fun l => by
      induction l with
      | nil => intro _; exact Nat.zero_le _
      | cons x r ih =>
        intro hx
        obtain ⟨a, b, e⟩ := hx x (List.mem_cons_self ..)
        have := ih fun y hy => hx y (List.mem_cons_of_mem _ hy)
        rw [List.flatMap_cons, List.length_append, e]
        simp only [List.length_cons]
        omega
    have := this ns fun x hx => by obtain ⟨_, a, b, e, _⟩ := hok x hx; exact ⟨a, b, e⟩
    rw [List.length_append]
    omega
  obtain ⟨s, hs, he⟩ := nodesL_sp (L := ns.flatMap Prod.fst ++ [w]) hw ns _ [] 0 0 0 hlen (by simpa using hl) (.inr hne) hok (by simp)
  unfold nodes4
  show (let r := nodesL4 (ns.flatMap Prod.fst ++ [w]) ((ns.flatMap Prod.fst ++ [w]).length + 1) [] (st4 0 0 0); if r.2.er = 0 then Except.ok r.1 else Except.error (r.2.er, r.2.ea)) = _
  rw [hs]
  simp [he]
end Go.Proofs.Ythlhogfebicooaa

namespace Go.Proofs.Ythlhogfebicooaa
open Go Go.RowKit
abbrev unL (L : List W4) (m : Nat) : S4 → Ex × S4 := un4 L m (lsub L m) (prim4 L m (lsub L m))
abbrev fbL (L : List W4) (m : Nat) : S4 → Ex × S4 := fby4 L m (lsub L m) (unL L m)
abbrev muL (L : List W4) (m : Nat) : S4 → Ex × S4 := row4 L OPS4 false (fbL L m)
abbrev adL (L : List W4) (m : Nat) : S4 → Ex × S4 := row4 L OPS3 false (muL L m)
section
variable {L : List W4} {k' : Nat} {p' nm : Int} {e : Ex} {m : Nat} {w' : W4} {R' : List W4} {s : S4}
theorem no_sp (h' : L.drop k' = w' :: R') (hs : stop4 w' = true) : ∀ (ops : List ByteArray), (ops.all fun o => INFIX4.contains o.data.toList) = true → ∀ o ∈ ops, is4 L o (e, st4 k' p' nm).2 = false := fun ops hops o ho => by
  rw [is_at h']
  have := List.all_eq_true.1 hs _ (List.contains_iff_mem.1 (List.all_eq_true.1 hops o ho))
  simpa using this
theorem arrow_of_add (h' : L.drop k' = w' :: R') (hs : stop4 w' = true) (ha : adL L m s = (e, st4 k' p' nm)) : (lev4 L m).arrow s = (e, st4 k' p' nm) := by
  rw [lev4_eq]
  have hro : rows4 L (fbL L m) s = (e, st4 k' p' nm) := by
    unfold rows4
    refine row_none (row_none (row_none ha ?_) ?_) ?_
    · exact no_sp h' hs OPS2 (by kernel_rfl)
    · exact no_sp h' hs OPS1 (by kernel_rfl)
    · exact no_sp h' hs OPS0 (by kernel_rfl)
  have hA : (mk4 L m (lsub L m)).arrow s = arrow4 L m (lsub L m) (fbL L m) s := by simp only [mk4]
  rw [hA]
  unfold arrow4
  rw [hro]
  simp only
  rw [no_sp (e := e) h' hs [⟨#[45, 62]⟩] (by kernel_rfl) ⟨#[45, 62]⟩ (List.mem_singleton.2 rfl)]
  rfl
theorem add_of_fby (h' : L.drop k' = w' :: R') (hs : stop4 w' = true) (hf : fbL L m s = (e, st4 k' p' nm)) : adL L m s = (e, st4 k' p' nm) :=
  row_none (row_none hf (no_sp h' hs OPS4 (by kernel_rfl))) (no_sp h' hs OPS3 (by kernel_rfl))
theorem fby_of_when (h' : L.drop k' = w' :: R') (hs : sp4 w' [102, 98, 121] = false) (hw : when4 L (unL L m) s = (e, st4 k' p' nm)) : fbL L m s = (e, st4 k' p' nm) := by
  show fby4 L m (lsub L m) (unL L m) s = _
  unfold fby4
  rw [hw]
  simp only
  rw [is_at h']
  rw [show sp4 w' (⟨#[102, 98, 121]⟩ : ByteArray).data.toList = false from hs]
  rfl
theorem when_of_un (h' : L.drop k' = w' :: R') (hs : sp4 w' [119, 104, 101, 110] = false) (hu : unL L m s = (e, st4 k' p' nm)) : when4 L (unL L m) s = (e, st4 k' p' nm) := by
  unfold when4 whenL4
  rw [hu]
  simp only
  rw [is_at h']
  rw [show sp4 w' (⟨#[119, 104, 101, 110]⟩ : ByteArray).data.toList = false from hs]
  rfl
end
theorem un_of_prim {L : List W4} {k m : Nat} {p nm : Int} {w : W4} {R : List W4} (h : L.drop k = w :: R) (hu : start4 w = true) : unL L m (st4 k p nm) = prim4 L m (lsub L m) (st4 k p nm) := by
  have nu : ∀ x : ByteArray, UNARY4.contains x.data.toList = true → is4 L x (st4 k p nm) = false := fun x hx => by
    rw [is_at h]
    have := List.all_eq_true.1 hu _ (List.contains_iff_mem.1 hx)
    simpa using this
  show un4 L m (lsub L m) (prim4 L m (lsub L m)) (st4 k p nm) = _
  unfold un4
  have e0 : unOp4 L (st4 k p nm) = ⟨#[]⟩ := by
    unfold unOp4
    rw [nu ⟨#[110, 111, 116]⟩ (by kernel_rfl), nu ⟨#[45]⟩ (by kernel_rfl), nu ⟨#[112, 114, 101]⟩ (by kernel_rfl)]
    rfl
  rw [e0, if_pos rfl]
/-- A word that is an expression by itself. -/
def Atm (w : W4) (e : Ex) : Prop := start4 w = true ∧ ∀ (L R : List W4) (k m : Nat) (p nm : Int) (w' : W4), 0 ≤ p → p + 1 ≤ 300 → L.drop k = w :: w' :: R → sp4 w' [40] = false → prim4 L m (lsub L m) (st4 k p nm) = (e, st4 (k + 1) (p + 1) nm)
theorem Atm.var (t : ByteArray) (n : Int) (a : Nat) : Atm ⟨1, t, n, a⟩ (exVar t a) := by
  have kd : ∀ x, sp4 ⟨1, t, n, a⟩ x = false := not_sp (.inl rfl)
  refine ⟨List.all_eq_true.2 fun x _ => by rw [kd]; rfl, ?_⟩
  intro L R k m p nm w hp0 hp h hb
  have h2 := (drop_cons h).2.1
  unfold prim4
  rw [if_neg (by rw [is_at h, kd]; decide)]
  have e1 : primP4 L (st4 k p nm) = st4 k (p + 1) nm := by
    unfold primP4
    rw [if_pos (.inl (by rw [cur_at h]))]
    exact part_at L k p nm hp0 (by omega)
  simp only [e1]
  rw [if_pos trivial, cur_at h, if_neg (show ¬ (1 : Nat) = 3 by decide), if_neg (by rw [is_at h, kd]; decide), if_neg (by rw [is_at h, kd]; decide), if_neg (by rw [is_at h, kd]; decide), if_neg (by rw [is_at h, kd]; decide)]
  unfold named4
  rw [name_at h rfl]
  simp only
  rw [take_no h2 _ hb]
  rfl
theorem Atm.int (t : ByteArray) (n : Int) (a : Nat) : Atm ⟨3, t, n, a⟩ (exInt n a) := by
  have kd : ∀ x, sp4 ⟨3, t, n, a⟩ x = false := not_sp (.inr rfl)
  refine ⟨List.all_eq_true.2 fun x _ => by rw [kd]; rfl, ?_⟩
  intro L R k m p nm w hp0 hp h hb
  unfold prim4
  rw [if_neg (by rw [is_at h, kd]; decide)]
  have e1 : primP4 L (st4 k p nm) = st4 k (p + 1) nm := by
    unfold primP4
    rw [if_pos (.inr (.inl (by rw [cur_at h])))]
    exact part_at L k p nm hp0 (by omega)
  simp only [e1]
  rw [if_pos trivial, cur_at h, if_pos rfl]
  rfl
theorem Atm.un {w : W4} {e : Ex} (ha : Atm w e) (L R : List W4) (k m : Nat) (p nm : Int) (w' : W4) (h0 : 0 ≤ p) (h1 : p + 1 ≤ 300) (h : L.drop k = w :: w' :: R) (hb : sp4 w' [40] = false) : unL L m (st4 k p nm) = (e, st4 (k + 1) (p + 1) nm) := by
  rw [un_of_prim h ha.1]
  exact ha.2 L R k m p nm w' h0 h1 h hb
def exPre (a : Nat) (e : Ex) : Ex := .mk ⟨#[112, 114, 101]⟩ ⟨#[]⟩ 0 a [e]
theorem part_st (L : List W4) (k : Nat) (p nm : Int) (h0 : 0 ≤ p) (h : p < 300) : part4 L (st4 k p nm) = st4 k (p + 1) nm := part_at L k p nm h0 h
/-- 'pre x'. -/
theorem ExSp.pre {x : W4} {ex : Ex} (hx : Atm x ex) (pw : W4) (hp : sp4 pw [112, 114, 101] = true) : ExSp 1 [pw, x] (exPre pw.at_ ex) 2 := by
  intro L R k m p nm w hm hp0 hpn h hs hb
  have h : L.drop k = pw :: x :: w :: R := h
  have h2 := (drop_cons h).2.1
  have h3 := (drop_cons h2).2.1
  obtain ⟨q, rfl⟩ : ∃ q, m = q + 1 := ⟨m - 1, by omega⟩
  refine arrow_of_add h3 hs (add_of_fby h3 hs (fby_of_when h3 (by have := List.all_eq_true.1 hs [102, 98, 121] (by decide); simpa using this) (when_of_un h3 (by have := List.all_eq_true.1 hs [119, 104, 101, 110] (by decide); simpa using this) ?_)))
  show un4 L (q + 1) (lsub L (q + 1)) (prim4 L (q + 1) (lsub L (q + 1))) (st4 k p nm) = _
  unfold un4
  have e0 : unOp4 L (st4 k p nm) = ⟨#[112, 114, 101]⟩ := by
    unfold unOp4
    rw [if_neg (by rw [is_at h, sp_other hp (by decide)]; decide), if_neg (by rw [is_at h, sp_other hp (by decide)]; decide), if_pos (by rw [is_at h]; exact hp)]
  rw [e0, if_neg (by decide), part_st L k p nm hp0 (by omega)]
  simp only
  rw [if_pos trivial]
  unfold deep4
  have hi : inc4 (st4 k (p + 1) nm) = st4 (k + 1) (p + 1) nm := rfl
  rw [hi, if_pos rfl, if_neg (Nat.succ_ne_zero q)]
  have hu : (lsub L (q + 1)).un (st4 (k + 1) (p + 1) nm) = (ex, st4 (k + 1 + 1) (p + 1 + 1) nm) := by
    show (lev4 L q).un _ = _
    rw [lev4_eq]
    exact hx.un L _ (k + 1) q (p + 1) nm w (by omega) (by omega) h2 hb
  rw [hu, cur_at h]
  simp only
  show (_, st4 (k + 1 + 1) (p + 1 + 1) nm) = (_, st4 (k + 2) (p + ((2 : Nat) : Int)) nm)
  rw [show p + 1 + 1 = p + ((2 : Nat) : Int) by omega]
  rfl
/-- 'x + y'. -/
theorem ExSp.add {x y : W4} {ex ey : Ex} (hx : Atm x ex) (hy : Atm y ey) (pl : W4) (hp : sp4 pl [43] = true) : ExSp 0 [x, pl, y] (op2 ⟨#[43]⟩ pl.at_ ex ey) 3 := by
  intro L R k m p nm w hm hp0 hpn h hs hb
  have h : L.drop k = x :: pl :: y :: w :: R := h
  have h2 := (drop_cons h).2.1
  have h3 := (drop_cons h2).2.1
  have h4 := (drop_cons h3).2.1
  have hl := (drop_cons h3).2.2
  have h40 := hx.un L _ k m p nm pl hp0 (by omega) h (sp_other hp (by decide))
  have m1 : muL L m (st4 k p nm) = (ex, st4 (k + 1) (p + 1) nm) := row_none (fby_of_when h2 (sp_other hp (by decide)) (when_of_un h2 (sp_other hp (by decide)) h40)) (fun o ho => by
    rw [is_at h2]
    refine sp_other hp ?_
    have := List.all_eq_true.1 (show OPS4.all (fun o => !([43] == o.data.toList)) = true by decide) o ho
    simpa using this)
  have m2 : muL L m (st4 (k + 1 + 1) (p + 1 + 1) nm) = (ey, st4 (k + 1 + 1 + 1) (p + 1 + 1 + 1) nm) := row_none (fby_of_when h4 (by have := List.all_eq_true.1 hs [102, 98, 121] (by decide); simpa using this) (when_of_un h4 (by have := List.all_eq_true.1 hs [119, 104, 101, 110] (by decide); simpa using this) (hy.un L _ (k + 1 + 1) m (p + 1 + 1) nm w (by omega) (by omega) h3 hb))) (no_sp h4 hs OPS4 (by kernel_rfl))
  refine arrow_of_add h4 hs ?_
  obtain ⟨f, hf⟩ : ∃ f, L.length = f + 1 := ⟨L.length - 1, by omega⟩
  show row4 L OPS3 false (muL L m) (st4 k p nm) = _
  unfold row4
  rw [m1, hf]
  simp only
  have ef : find4 L OPS3 (st4 (k + 1) (p + 1) nm) = ⟨#[43]⟩ := by
    unfold find4 OPS3
    simp only [List.foldl]
    rw [if_neg (by rw [is_at h2, sp_other hp (by decide)]; decide), if_pos (by rw [is_at h2]; exact hp)]
  have e1 : rowL4 L OPS3 false (muL L m) (f + 1 + 1) ex (st4 (k + 1) (p + 1) nm) = rowL4 L OPS3 false (muL L m) (f + 1) (op2 ⟨#[43]⟩ pl.at_ ex ey) (st4 (k + 1 + 1 + 1) (p + 1 + 1 + 1) nm) := by
    conv => lhs; unfold rowL4
    rw [ef, if_neg (by decide), part_st L (k + 1) (p + 1) nm (by omega) (by omega), take_at h2 _ hp]
    simp only
    rw [m2, cur_at h2]
    rfl
  rw [e1]
  unfold rowL4
  rw [find_none OPS3 (no_sp (e := ex) h4 hs OPS3 (by kernel_rfl)), if_pos rfl]
  show (_, st4 (k + 1 + 1 + 1) (p + 1 + 1 + 1) nm) = (_, st4 (k + 3) (p + ((3 : Nat) : Int)) nm)
  rw [show p + 1 + 1 + 1 = p + ((3 : Nat) : Int) by omega]
/-- 'x fby y'. -/
theorem ExSp.fby {x y : W4} {ex ey : Ex} (hx : Atm x ex) (hy : Atm y ey) (fb : W4) (hp : sp4 fb [102, 98, 121] = true) : ExSp 1 [x, fb, y] (op2 ⟨#[102, 98, 121]⟩ fb.at_ ex ey) 3 := by
  intro L R k m p nm w hm hp0 hpn h hs hb
  have h : L.drop k = x :: fb :: y :: w :: R := h
  have h2 := (drop_cons h).2.1
  have h3 := (drop_cons h2).2.1
  have h4 := (drop_cons h3).2.1
  obtain ⟨q, rfl⟩ : ∃ q, m = q + 1 := ⟨m - 1, by omega⟩
  refine arrow_of_add h4 hs (add_of_fby h4 hs ?_)
  show fby4 L (q + 1) (lsub L (q + 1)) (unL L (q + 1)) (st4 k p nm) = _
  unfold fby4
  rw [when_of_un h2 (sp_other hp (by decide)) (hx.un L _ k (q + 1) p nm fb hp0 (by omega) h (sp_other hp (by decide)))]
  simp only
  rw [if_pos (by rw [is_at h2]; exact hp), part_st L (k + 1) (p + 1) nm (by omega) (by omega), take_at h2 _ hp]
  simp only
  unfold deep4
  rw [if_pos rfl, if_neg (Nat.succ_ne_zero q)]
  have hu : (lsub L (q + 1)).fby (st4 (k + 1 + 1) (p + 1 + 1) nm) = (ey, st4 (k + 1 + 1 + 1) (p + 1 + 1 + 1) nm) := by
    show (lev4 L q).fby _ = _
    rw [lev4_eq]
    exact fby_of_when h4 (by have := List.all_eq_true.1 hs [102, 98, 121] (by decide); simpa using this) (when_of_un h4 (by have := List.all_eq_true.1 hs [119, 104, 101, 110] (by decide); simpa using this) (hy.un L _ (k + 1 + 1) q (p + 1 + 1) nm w (by omega) (by omega) h3 hb))
  rw [hu, cur_at h2]
  simp only
  show (_, st4 (k + 1 + 1 + 1) (p + 1 + 1 + 1) nm) = (_, st4 (k + 3) (p + ((3 : Nat) : Int)) nm)
  rw [show p + 1 + 1 + 1 = p + ((3 : Nat) : Int) by omega]
/-- A local's declaration: a name, a kind, perhaps a clock. -/
structure Lc where
  d : Dc
  on : List W4
  onn : ByteArray
  not_ : Bool
def Lc.ok (l : Lc) : Prop := l.d.ok ∧ ((l.on = [] ∧ l.onn = ⟨#[]⟩ ∧ l.not_ = false) ∨ (∃ wh c, l.on = [wh, c] ∧ sp4 wh [119, 104, 101, 110] = true ∧ c.kind = 1 ∧ l.onn = c.text ∧ l.not_ = false) ∨ (∃ wh nt c, l.on = [wh, nt, c] ∧ sp4 wh [119, 104, 101, 110] = true ∧ sp4 nt [110, 111, 116] = true ∧ c.kind = 1 ∧ l.onn = c.text ∧ l.not_ = true))
def Lc.ws (l : Lc) : List W4 := l.d.ws ++ l.on
def Lc.vr (l : Lc) : Vr := ⟨l.d.name.text, l.d.kd, l.onn, l.not_, l.d.name.at_⟩
theorem local_one {L R : List W4} {k : Nat} {p nm : Int} (l : Lc) (hl : l.ok) (h : L.drop k = l.ws ++ l.d.semi :: R) (hn0 : 0 ≤ nm) (hn : nm < 64) : local4 L (st4 k p nm) = ([l.vr], st4 (k + l.ws.length) p (nm + 1)) := by
  obtain ⟨d, on, onn, not_⟩ := l
  obtain ⟨hd, ho⟩ := hl
  simp only at hd ho
  have h : L.drop k = d.ws ++ (on ++ d.semi :: R) := by rw [h]; simp [Lc.ws]
  have hd1 := decl_one (p := p) d hd h hn0 hn
  have hk3 : L.drop (k + 3) = on ++ d.semi :: R := by
    rw [← List.drop_drop, h]
    exact List.drop_left (l₁ := d.ws) (l₂ := on ++ d.semi :: R)
  have hdl : d.ws.length = 3 := rfl
  unfold local4
  rw [hd1]
  simp only
  rcases ho with ⟨rfl, rfl, rfl⟩ | ⟨wh, c, rfl, hw, hc, rfl, rfl⟩ | ⟨wh, nt, c, rfl, hw, hnt, hc, rfl, rfl⟩
  · have hk3 : L.drop (k + 3) = d.semi :: R := hk3
    rw [if_neg (by rw [is_at hk3, sp_other hd.2.2.1 (by decide)]; decide)]
    rfl
  · have hk3 : L.drop (k + 3) = wh :: c :: d.semi :: R := hk3
    have h4 := (drop_cons hk3).2.1
    have hi : inc4 (st4 (k + 3) p (nm + 1)) = st4 (k + 3 + 1) p (nm + 1) := rfl
    rw [if_pos (by rw [is_at hk3]; exact hw), hi, take_no h4 _ (not_sp (.inl hc) _)]
    simp only
    rw [name_at h4 hc]
    rfl
  · have hk3 : L.drop (k + 3) = wh :: nt :: c :: d.semi :: R := hk3
    have h4 := (drop_cons hk3).2.1
    have h5 := (drop_cons h4).2.1
    have hi : inc4 (st4 (k + 3) p (nm + 1)) = st4 (k + 3 + 1) p (nm + 1) := rfl
    rw [if_pos (by rw [is_at hk3]; exact hw), hi, take_at h4 _ hnt]
    simp only
    rw [name_at h5 hc]
    rfl
def lcs (ls : List Lc) : List W4 := ls.flatMap fun l => l.ws ++ [l.d.semi]
theorem lcs_cons (l : Lc) (r : List Lc) : lcs (l :: r) = l.ws ++ l.d.semi :: lcs r := by simp [lcs]
theorem lcs_pos (l : Lc) (r : List Lc) : 0 < (lcs (l :: r)).length := by rw [lcs_cons, List.length_append, List.length_cons]; omega
theorem localsL_sp {L R : List W4} {p : Int} {w : W4} (hw : w.kind ≠ 1) : ∀ (ls : List Lc) (f : Nat) (acc : List Vr) (k : Nat) (nm : Int), ls ≠ [] → ls.length ≤ f → (∀ l ∈ ls, l.ok) → 0 ≤ nm → nm + ls.length ≤ 64 → L.drop k = lcs ls ++ w :: R → ∃ s : W4, sp4 s [59] = true ∧ L.drop (k + (lcs ls).length - 1) = s :: w :: R ∧ localsL4 L f acc (st4 k p nm) = (acc ++ ls.map Lc.vr, st4 (k + (lcs ls).length - 1) p (nm + ls.length))
  | [], _, _, _, _, h, _, _, _, _, _ => absurd rfl h
  | l :: r, f, acc, k, nm, _, hf, hok, h0, hn, hd => by
    obtain ⟨f, rfl⟩ : ∃ g, f = g + 1 := ⟨f - 1, by simp at hf; omega⟩
    have hlok := hok l (List.mem_cons_self ..)
    rw [lcs_cons] at hd
    have hd : L.drop k = l.ws ++ l.d.semi :: (lcs r ++ w :: R) := by rw [hd]; simp
    have hone := local_one (p := p) l hlok hd h0 (by simp at hn; omega)
    have hk1 : L.drop (k + l.ws.length) = l.d.semi :: (lcs r ++ w :: R) := by rw [← List.drop_drop, hd, List.drop_left]
    have hk2 := (drop_cons hk1).2.1
    unfold localsL4
    rw [if_pos rfl, hone]
    simp only
    cases r with
    | nil =>
      have hk2 : L.drop (k + l.ws.length + 1) = w :: R := hk2
      have hlen : (lcs [l]).length = l.ws.length + 1 := by rw [lcs_cons]; simp [lcs]
      rw [hlen, show k + (l.ws.length + 1) - 1 = k + l.ws.length by omega]
      refine ⟨l.d.semi, hlok.1.2.2.1, hk1, ?_⟩
      rw [if_neg (by rintro ⟨_, h2⟩; rw [(drop_cons hk2).1] at h2; exact hw h2)]
      rfl
    | cons l2 r2 =>
      have hnm : (L.getD (k + l.ws.length + 1) no4).kind = 1 := by
        have : L.drop (k + l.ws.length + 1) = l2.d.name :: (l2.d.colon :: l2.d.kind :: (l2.on ++ l2.d.semi :: (lcs r2 ++ w :: R))) := by rw [hk2, lcs_cons]; simp [Lc.ws, Dc.ws]
        rw [(drop_cons this).1]
        exact (hok l2 (by simp)).1.1
      have hi : inc4 (st4 (k + l.ws.length) p (nm + 1)) = st4 (k + l.ws.length + 1) p (nm + 1) := rfl
      obtain ⟨s, hs1, hs2, hs3⟩ := localsL_sp (R := R) (p := p) hw (l2 :: r2) f (acc ++ [l.vr]) (k + l.ws.length + 1) (nm + 1) (by simp) (by simp at hf ⊢; omega) (fun x hx => hok x (List.mem_cons_of_mem _ hx)) (by omega) (by simp at hn ⊢; omega) hk2
      have hlen : (lcs (l :: l2 :: r2)).length = l.ws.length + 1 + (lcs (l2 :: r2)).length := by rw [lcs_cons]; simp; omega
      have hpos := lcs_pos l2 r2
      rw [hlen, show k + (l.ws.length + 1 + (lcs (l2 :: r2)).length) - 1 = k + l.ws.length + 1 + (lcs (l2 :: r2)).length - 1 by omega]
      refine ⟨s, hs1, hs2, ?_⟩
      rw [if_pos ⟨by rw [is_at hk1]; exact hlok.1.2.2.1, hnm⟩, hi, hs3]
      simp only [List.map_cons, List.append_assoc, List.cons_append, List.nil_append, List.length_cons]
      rw [show nm + 1 + ((r2.length + 1 : Nat) : Int) = nm + ((r2.length + 1 + 1 : Nat) : Int) by omega]
theorem NdSp.makeL {w0 w1 w2 w3 w4 w5 w6 w7 wv w8 w9 : W4} (ins outs : List Dc) (ls : List Lc) (qs : List Eqn) (hne : ls ≠ []) (hi : ∀ d ∈ ins, d.ok) (ho : ∀ d ∈ outs, d.ok) (hlo : ∀ l ∈ ls, l.ok) (hq : ∀ q ∈ qs, q.ok) (hn : ins.length + outs.length + ls.length ≤ 64)
    (h0 : sp4 w0 [110, 111, 100, 101] = true) (h1 : w1.kind = 1) (h2 : sp4 w2 [40] = true) (h3 : sp4 w3 [41] = true) (h4 : sp4 w4 [114, 101, 116, 117, 114, 110, 115] = true) (h5 : sp4 w5 [40] = true) (h6 : sp4 w6 [41] = true) (h7 : sp4 w7 [59] = true) (hv : sp4 wv [118, 97, 114] = true) (h8 : sp4 w8 [108, 101, 116] = true) (h8k : w8.kind ≠ 1) (h9 : sp4 w9 [116, 101, 108] = true) (h9k : w9.kind ≠ 1) :
    NdSp (w0 :: w1 :: w2 :: (dcs ins ++ w3 :: w4 :: w5 :: (dcs outs ++ w6 :: w7 :: wv :: (lcs ls ++ w8 :: (eqws qs ++ [w9]))))) ⟨w1.text, ins.map Dc.vr, outs.map Dc.vr, ls.map Lc.vr, qs.map Eqn.qe, w0.at_⟩ := by
  intro L R k p nm w h hw
  have a0 : L.drop k = w0 :: w1 :: w2 :: (dcs ins ++ w3 :: w4 :: w5 :: (dcs outs ++ w6 :: w7 :: wv :: (lcs ls ++ w8 :: (eqws qs ++ w9 :: w :: R)))) := by rw [h]; simp
  have a1 := (drop_cons a0).2.1
  have a2 := (drop_cons a1).2.1
  have a3 := (drop_cons a2).2.1
  have a4 : L.drop (k + 1 + 1 + 1 + (dcs ins).length) = w3 :: w4 :: w5 :: (dcs outs ++ w6 :: w7 :: wv :: (lcs ls ++ w8 :: (eqws qs ++ w9 :: w :: R))) := by rw [← List.drop_drop, a3, List.drop_left]
  have a5 := (drop_cons a4).2.1
  have a6 := (drop_cons a5).2.1
  have a7 := (drop_cons a6).2.1
  have a8 : L.drop (k + 1 + 1 + 1 + (dcs ins).length + 1 + 1 + 1 + (dcs outs).length) = w6 :: w7 :: wv :: (lcs ls ++ w8 :: (eqws qs ++ w9 :: w :: R)) := by rw [← List.drop_drop, a7, List.drop_left]
  have a9 := (drop_cons a8).2.1
  have a10 := (drop_cons a9).2.1
  have a11 := (drop_cons a10).2.1
  obtain ⟨K, hK⟩ : ∃ K, K = k + 1 + 1 + 1 + (dcs ins).length + 1 + 1 + 1 + (dcs outs).length + 1 + 1 + 1 := ⟨_, rfl⟩
  rw [← hK] at a11
  have hlen0 : ls.length ≤ L.length + 1 := by
    have e : (L.drop K).length = (lcs ls ++ w8 :: (eqws qs ++ w9 :: w :: R)).length := by rw [a11]
    rw [List.length_drop, List.length_append] at e
    have : ∀ l : List Lc, l.length ≤ (lcs l).length := fun l => by
      induction l with
      | nil => exact Nat.zero_le _
      | cons q r ih => rw [lcs_cons]; simp; omega
    have := this ls
    omega
  obtain ⟨sm, hs1, hs2, hs3⟩ := localsL_sp (p := p) h8k ls (L.length + 1) [] K (0 + ins.length + outs.length) hne hlen0 hlo (by omega) (by omega) a11
  obtain ⟨M, hM⟩ : ∃ M, M = K + (lcs ls).length - 1 := ⟨_, rfl⟩
  rw [← hM] at hs2 hs3
  have b1 := (drop_cons hs2).2.1
  have b2 := (drop_cons b1).2.1
  have b3 : L.drop (M + 1 + 1 + (eqws qs).length) = w9 :: w :: R := by rw [← List.drop_drop, b2, List.drop_left]
  have b4 := (drop_cons b3).2.1
  have hlen : qs.length < L.length + 1 := by
    have e : (L.drop (M + 1 + 1)).length = (eqws qs ++ w9 :: w :: R).length := by rw [b2]
    rw [List.length_drop, List.length_append] at e
    have : ∀ l : List Eqn, l.length ≤ (eqws l).length := fun l => by
      induction l with
      | nil => exact Nat.zero_le _
      | cons q r ih => unfold eqws at ih ⊢; rw [List.flatMap_cons, List.length_append]; simp only [Eqn.ws, List.length_cons]; omega
    have := this qs
    omega
  obtain ⟨p', hp⟩ := eqsL_sp (nm := 0 + ins.length + outs.length + ls.length) h9k qs (L.length + 1) [] _ p hlen hq b2
  refine ⟨p', 0 + ins.length + outs.length + ls.length, ?_⟩
  have e1 : name4 L (want4 L ⟨#[110, 111, 100, 101]⟩ (st4 k p 0)) = (w1.text, st4 (k + 1 + 1) p 0) := by rw [want_at a0 _ h0, name_at a1 h1]
  have e2 : decls4 L (want4 L ⟨#[40]⟩ (st4 (k + 1 + 1) p 0)) = (ins.map Dc.vr, st4 (k + 1 + 1 + 1 + (dcs ins).length) p (0 + ins.length)) := by
    rw [want_at a2 _ h2, decls_sp h3 ins _ 0 hi (Int.le_refl _) (by omega) a3]
  have e3 : decls4 L (want4 L ⟨#[40]⟩ (want4 L ⟨#[114, 101, 116, 117, 114, 110, 115]⟩ (want4 L ⟨#[41]⟩ (st4 (k + 1 + 1 + 1 + (dcs ins).length) p (0 + ins.length))))) = (outs.map Dc.vr, st4 (k + 1 + 1 + 1 + (dcs ins).length + 1 + 1 + 1 + (dcs outs).length) p (0 + ins.length + outs.length)) := by
    rw [want_at a4 _ h3, want_at a5 _ h4, want_at a6 _ h5, decls_sp h6 outs _ _ ho (by omega) (by omega) a7]
  have e4 : take4 L ⟨#[118, 97, 114]⟩ (want4 L ⟨#[59]⟩ (want4 L ⟨#[41]⟩ (st4 (k + 1 + 1 + 1 + (dcs ins).length + 1 + 1 + 1 + (dcs outs).length) p (0 + ins.length + outs.length)))) = (true, st4 K p (0 + ins.length + outs.length)) := by
    rw [want_at a8 _ h6, want_at a9 _ h7, take_at a10 _ hv, hK]
  have e5 : locals4 L (st4 K p (0 + ins.length + outs.length)) = (ls.map Lc.vr, st4 M p (0 + ins.length + outs.length + ls.length)) := by
    unfold locals4
    obtain ⟨l, r, rfl⟩ : ∃ l r, ls = l :: r := by
      cases ls with
      | nil => exact absurd rfl hne
      | cons l r => exact ⟨l, r, rfl⟩
    have hnm : L.drop K = l.d.name :: (l.d.colon :: l.d.kind :: (l.on ++ l.d.semi :: (lcs r ++ w8 :: (eqws qs ++ w9 :: w :: R)))) := by rw [a11, lcs_cons]; simp [Lc.ws, Dc.ws]
    rw [if_neg (by rw [is_at hnm, not_sp (.inl (hlo l (by simp)).1.1)]; decide), hs3, List.nil_append]
  unfold node4
  have ez : ({ st4 k p nm with names := 0 } : S4) = st4 k p 0 := rfl
  rw [ez, e1]
  simp only
  rw [e2]
  simp only
  rw [e3]
  simp only
  rw [e4]
  simp only [if_true]
  rw [e5]
  simp only
  rw [want_at hs2 _ hs1, want_at b1 _ h8, hp]
  simp only
  rw [want_at b3 _ h9, take_no b4 _ hw, cur_at a0, List.nil_append]
  have hpos : 0 < (lcs ls).length := by
    cases ls with
    | nil => exact absurd rfl hne
    | cons l r => exact lcs_pos l r
  have el : (w0 :: w1 :: w2 :: (dcs ins ++ w3 :: w4 :: w5 :: (dcs outs ++ w6 :: w7 :: wv :: (lcs ls ++ w8 :: (eqws qs ++ [w9]))))).length = (dcs ins).length + (dcs outs).length + (lcs ls).length + (eqws qs).length + 11 := by
    simp only [List.length_cons, List.length_append, List.length_nil]; omega
  rw [el, show M + 1 + 1 + (eqws qs).length + 1 = k + ((dcs ins).length + (dcs outs).length + (lcs ls).length + (eqws qs).length + 11) by omega]
end Go.Proofs.Ythlhogfebicooaa

namespace Go.Proofs.Ythlhogfebicooaa
open Go Go.RowKit
theorem gap_sp {R : List UInt8} (h : gapL R = 0) : gapL (32 :: R) = 1 := by rw [gapL_blank _ _ (by decide), h]
/-- A local's text: it begins with a letter, ends behind its sign's blank. -/
def LocT (t : List UInt8) (lc : Nat → Lc) : Prop := (∀ p, (lc p).ok) ∧ (∀ R, gapL (t ++ R) = 0) ∧ ∀ (p : Nat) (R : List UInt8) (ws : List W4), gapL R = 0 → LexW R (p + t.length) ws → LexW (t ++ R) p ((lc p).ws ++ (lc p).d.semi :: ws)
def EqT (t : List UInt8) (q : Nat → Eqn) : Prop := (∀ p, (q p).ok) ∧ (∀ R, gapL (t ++ R) = 0) ∧ ∀ (p : Nat) (R : List UInt8) (ws : List W4), gapL R = 0 → LexW R (p + t.length) ws → LexW (t ++ R) p ((q p).ws ++ ws)
def catL {α : Type} (l : List (List UInt8 × α)) : List UInt8 := l.flatMap Prod.fst
def atL {α : Type} : List (List UInt8 × (Nat → α)) → Nat → List α
  | [], _ => []
  | x :: r, p => x.2 p :: atL r (p + x.1.length)
theorem catL_cons {α : Type} (x : List UInt8 × α) (r : List (List UInt8 × α)) : catL (x :: r) = x.1 ++ catL r := by simp [catL]
theorem catL_app {α : Type} (a b : List (List UInt8 × α)) : catL (a ++ b) = catL a ++ catL b := by simp [catL]
theorem atL_len {α : Type} : ∀ (l : List (List UInt8 × (Nat → α))) (p : Nat), (atL l p).length = l.length
  | [], _ => rfl
  | x :: r, p => by unfold atL; rw [List.length_cons, atL_len r, List.length_cons]
theorem atL_mem {α : Type} : ∀ (l : List (List UInt8 × (Nat → α))) (p : Nat) (a : α), a ∈ atL l p → ∃ x ∈ l, ∃ p', a = x.2 p'
  | [], _, a, h => by simp [atL] at h
  | x :: r, p, a, h => by
    unfold atL at h
    rcases List.mem_cons.1 h with rfl | h
    · exact ⟨x, List.mem_cons_self .., p, rfl⟩
    · obtain ⟨y, hy, p', e⟩ := atL_mem r _ a h
      exact ⟨y, List.mem_cons_of_mem _ hy, p', e⟩
theorem gap_locs {ls : List (List UInt8 × (Nat → Lc))} {R : List UInt8} (h : ∀ x ∈ ls, LocT x.1 x.2) (hR : gapL R = 0) : gapL (catL ls ++ R) = 0 := by
  cases ls with
  | nil => exact hR
  | cons x r => rw [catL_cons, List.append_assoc]; exact (h x (List.mem_cons_self ..)).2.1 _
theorem gap_eqs {es : List (List UInt8 × (Nat → Eqn))} {R : List UInt8} (h : ∀ x ∈ es, EqT x.1 x.2) (hR : gapL R = 0) : gapL (catL es ++ R) = 0 := by
  cases es with
  | nil => exact hR
  | cons x r => rw [catL_cons, List.append_assoc]; exact (h x (List.mem_cons_self ..)).2.1 _
theorem lex_locs : ∀ (ls : List (List UInt8 × (Nat → Lc))) (p : Nat) {R : List UInt8} {ws : List W4}, (∀ x ∈ ls, LocT x.1 x.2) → gapL R = 0 → LexW R (p + (catL ls).length) ws → LexW (catL ls ++ R) p (lcs (atL ls p) ++ ws)
  | [], p, R, ws, _, _, h => h
  | x :: r, p, R, ws, hls, hR, h => by
    have hx := hls x (List.mem_cons_self ..)
    have hr : ∀ y ∈ r, LocT y.1 y.2 := fun y hy => hls y (List.mem_cons_of_mem _ hy)
    rw [catL_cons, List.length_append, ← Nat.add_assoc] at h
    have ih := lex_locs r (p + x.1.length) hr hR h
    have h2 := hx.2.2 p _ _ (gap_locs hr hR) ih
    rw [catL_cons, List.append_assoc]
    show LexW _ p (lcs (x.2 p :: atL r (p + x.1.length)) ++ ws)
    rw [lcs_cons, List.append_assoc, List.cons_append]
    exact h2
theorem lex_eqs : ∀ (es : List (List UInt8 × (Nat → Eqn))) (p : Nat) {R : List UInt8} {ws : List W4}, (∀ x ∈ es, EqT x.1 x.2) → gapL R = 0 → LexW R (p + (catL es).length) ws → LexW (catL es ++ R) p (eqws (atL es p) ++ ws)
  | [], p, R, ws, _, _, h => h
  | x :: r, p, R, ws, hls, hR, h => by
    have hx := hls x (List.mem_cons_self ..)
    have hr : ∀ y ∈ r, EqT y.1 y.2 := fun y hy => hls y (List.mem_cons_of_mem _ hy)
    rw [catL_cons, List.length_append, ← Nat.add_assoc] at h
    have ih := lex_eqs r (p + x.1.length) hr hR h
    have h2 := hx.2.2 p _ _ (gap_eqs hr hR) ih
    rw [catL_cons, List.append_assoc]
    show LexW _ p (eqws (x.2 p :: atL r (p + x.1.length)) ++ ws)
    unfold eqws
    rw [List.flatMap_cons, List.append_assoc]
    exact h2
theorem nodes_one {ws : List W4} {n : Nd} (h : NdSp ws n) {w0 : W4} {r : List W4} (hw : ws = w0 :: r) (h0 : sp4 w0 [110, 111, 100, 101] = true) {w : W4} (hk : w.kind = 0) : nodes4 (ws ++ [w]) = .ok [n] := by
  have hs := nodes_sp (w := w) hk [(ws, n)] (by simp) (by simp) (fun x hx => by
    simp only [List.mem_cons, List.not_mem_nil, or_false] at hx
    subst hx
    exact ⟨h, w0, r, hw, h0⟩)
  simpa using hs
set_option maxHeartbeats 400000 in
theorem parse_le {w0 w1 w2 w3 w4 w5 w6 w7 wv : W4} (ins outs : List Dc) (H : List UInt8) (ls : List (List UInt8 × (Nat → Lc))) (es : List (List UInt8 × (Nat → Eqn)))
    (hlex : ∀ (R : List UInt8) (ws : List W4), gapL R = 0 → LexW R H.length ws → LexW (H ++ R) 0 (w0 :: w1 :: w2 :: (dcs ins ++ w3 :: w4 :: w5 :: (dcs outs ++ w6 :: w7 :: wv :: ws)))) (hgap : ∀ R, gapL (H ++ R) = 0)
    (hls : ∀ x ∈ ls, LocT x.1 x.2) (hes : ∀ x ∈ es, EqT x.1 x.2) (hne : ls ≠ []) (hi : ∀ d ∈ ins, d.ok) (ho : ∀ d ∈ outs, d.ok) (hn : ins.length + outs.length + ls.length ≤ 64)
    (h0 : sp4 w0 [110, 111, 100, 101] = true) (h1 : w1.kind = 1) (h2 : sp4 w2 [40] = true) (h3 : sp4 w3 [41] = true) (h4 : sp4 w4 [114, 101, 116, 117, 114, 110, 115] = true) (h5 : sp4 w5 [40] = true) (h6 : sp4 w6 [41] = true) (h7 : sp4 w7 [59] = true) (hv : sp4 wv [118, 97, 114] = true)
    (hlen : (H ++ (catL ls ++ ([108, 101, 116, 32] ++ (catL es ++ [116, 101, 108])))).length ≤ 16384) :
    parseL (H ++ (catL ls ++ ([108, 101, 116, 32] ++ (catL es ++ [116, 101, 108])))) = .ok [⟨w1.text, ins.map Dc.vr, outs.map Dc.vr, (atL ls H.length).map Lc.vr, (atL es (H.length + (catL ls).length + 4)).map Eqn.qe, w0.at_⟩] := by
  obtain ⟨P, hP⟩ : ∃ P, P = H.length + (catL ls).length := ⟨_, rfl⟩
  obtain ⟨E, hE⟩ : ∃ E, E = P + 4 + (catL es).length := ⟨_, rfl⟩
  have s0 : LexW ([116, 101, 108] ++ []) E (sg 2 [116, 101, 108] E :: [⟨0, ⟨#[]⟩, 0, E + 3⟩]) := LexW.cons 2 3 0 0 (by simp) rfl (by decide) rfl rfl (LexW.nil _)
  have hg0 : gapL ([116, 101, 108] : List UInt8) = 0 := rfl
  have s0 : LexW [116, 101, 108] E (sg 2 [116, 101, 108] E :: [⟨0, ⟨#[]⟩, 0, E + 3⟩]) := s0
  obtain ⟨W0, hW0⟩ : ∃ W0, W0 = (sg 2 [116, 101, 108] E :: [⟨0, ⟨#[]⟩, 0, E + 3⟩] : List W4) := ⟨_, rfl⟩
  rw [← hW0] at s0
  rw [hE] at s0
  have s1 := lex_eqs es (P + 4) hes hg0 s0
  rw [hW0] at s1
  have hgE := gap_eqs hes hg0
  have s2 : LexW ([108, 101, 116, 32] ++ (catL es ++ [116, 101, 108])) P (sg 2 [108, 101, 116] P :: (eqws (atL es (P + 4)) ++ (sg 2 [116, 101, 108] E :: [⟨0, ⟨#[]⟩, 0, E + 3⟩]))) := by
    clear hlex hgap hls hlen hi ho hn
    obtain ⟨RR, hRR⟩ : ∃ RR, RR = catL es ++ [116, 101, 108] := ⟨_, rfl⟩
    obtain ⟨WW, hWW⟩ : ∃ WW, WW = (eqws (atL es (P + 4)) ++ (sg 2 [116, 101, 108] E :: [⟨0, ⟨#[]⟩, 0, E + 3⟩])) := ⟨_, rfl⟩
    rw [← hRR] at s1 hgE ⊢
    rw [← hWW] at s1 ⊢
    exact LexW.cons 2 3 0 1 (by simp) rfl (by decide) (show gapL (32 :: RR) = 1 from gap_sp hgE) rfl s1
  have s3 := lex_locs ls H.length (R := [108, 101, 116, 32] ++ (catL es ++ [116, 101, 108])) hls rfl (by rw [← hP]; exact s2)
  have s4 := hlex _ _ (gap_locs hls rfl) s3
  have hp := parse_lex s4 (hgap _) hlen
  rw [hp]
  have hnd := NdSp.makeL (w0 := w0) (w1 := w1) (w2 := w2) (w3 := w3) (w4 := w4) (w5 := w5) (w6 := w6) (w7 := w7) (wv := wv) (w8 := sg 2 [108, 101, 116] P) (w9 := sg 2 [116, 101, 108] E) ins outs (atL ls H.length) (atL es (P + 4)) (fun h => hne (List.length_eq_zero_iff.1 (by rw [← atL_len ls H.length, h]; rfl))) hi ho
    (fun l hl => by obtain ⟨x, hx, p, rfl⟩ := atL_mem _ _ _ hl; exact (hls x hx).1 p) (fun q hq => by obtain ⟨x, hx, p, rfl⟩ := atL_mem _ _ _ hq; exact (hes x hx).1 p) (by rw [atL_len]; exact hn) h0 h1 h2 h3 h4 h5 h6 h7 hv rfl (by show (2 : Nat) ≠ 1; decide) rfl (by show (2 : Nat) ≠ 1; decide)
  have hs := nodes_one hnd rfl h0 (w := ⟨0, ⟨#[]⟩, 0, E + 3⟩) rfl
  rw [← hP]
  refine Eq.trans (congrArg nodes4 ?_) hs
  simp only [List.cons_append, List.append_assoc, List.nil_append]
end Go.Proofs.Ythlhogfebicooaa

namespace Go.Proofs.Ythlhogfebicooaa
open Go Go.RowKit
def lt9 (k : Nat) : UInt8 := UInt8.ofNat (97 + k)
def nmV (k : Nat) : ByteArray := ⟨[118, lt9 k].toArray⟩
theorem fv_58 (k : Nat) (h : k < 21) (R : List UInt8) : firstW (118 :: lt9 k :: 58 :: R) = (1, 2, 0) := by
  match k, h with
  | 0, _ => rfl
  | 1, _ => rfl
  | 2, _ => rfl
  | 3, _ => rfl
  | 4, _ => rfl
  | 5, _ => rfl
  | 6, _ => rfl
  | 7, _ => rfl
  | 8, _ => rfl
  | 9, _ => rfl
  | 10, _ => rfl
  | 11, _ => rfl
  | 12, _ => rfl
  | 13, _ => rfl
  | 14, _ => rfl
  | 15, _ => rfl
  | 16, _ => rfl
  | 17, _ => rfl
  | 18, _ => rfl
  | 19, _ => rfl
  | 20, _ => rfl
  | _ + 21, h => omega
theorem fv_32 (k : Nat) (h : k < 21) (R : List UInt8) : firstW (118 :: lt9 k :: 32 :: R) = (1, 2, 0) := by
  match k, h with
  | 0, _ => rfl
  | 1, _ => rfl
  | 2, _ => rfl
  | 3, _ => rfl
  | 4, _ => rfl
  | 5, _ => rfl
  | 6, _ => rfl
  | 7, _ => rfl
  | 8, _ => rfl
  | 9, _ => rfl
  | 10, _ => rfl
  | 11, _ => rfl
  | 12, _ => rfl
  | 13, _ => rfl
  | 14, _ => rfl
  | 15, _ => rfl
  | 16, _ => rfl
  | 17, _ => rfl
  | 18, _ => rfl
  | 19, _ => rfl
  | 20, _ => rfl
  | _ + 21, h => omega
def loc9 (k : Nat) : List UInt8 := [118, lt9 k, 58, 32, 105, 110, 116, 59, 32]
def lc9 (k p : Nat) : Lc := ⟨⟨⟨1, nmV k, 0, p⟩, sg 4 [58] (p + 2), sg 2 [105, 110, 116] (p + 4), sg 4 [59] (p + 7), 2⟩, [], ⟨#[]⟩, false⟩
theorem loc9_T (k : Nat) (hk : k < 20) : LocT (loc9 k) (lc9 k) := by
  refine ⟨fun p => ⟨⟨rfl, rfl, rfl, .inr ⟨rfl, rfl⟩⟩, .inl ⟨rfl, rfl, rfl⟩⟩, fun R => rfl, fun p R ws hR h => ?_⟩
  have s0 : LexW ([59, 32] ++ R) (p + 7) (sg 4 [59] (p + 7) :: ws) := LexW.cons 4 1 0 1 (by simp) rfl (by decide) (gap_sp hR) rfl h
  have s1 : LexW ([105, 110, 116, 59, 32] ++ R) (p + 4) (sg 2 [105, 110, 116] (p + 4) :: sg 4 [59] (p + 7) :: ws) := LexW.cons 2 3 0 0 (by simp) rfl (by decide) rfl rfl s0
  have s2 : LexW ([58, 32, 105, 110, 116, 59, 32] ++ R) (p + 2) (sg 4 [58] (p + 2) :: sg 2 [105, 110, 116] (p + 4) :: sg 4 [59] (p + 7) :: ws) := LexW.cons 4 1 0 1 (by simp) rfl (by decide) rfl rfl s1
  exact LexW.cons 1 2 0 0 (by simp [loc9]) (fv_58 k (by omega) _) (by decide) rfl rfl s2
/-- 'vk = pre x; ', 'vk = x; ', 'vk = vj + 1; '. -/
def eqA (k : Nat) : List UInt8 := [118, lt9 k, 32, 61, 32, 112, 114, 101, 32, 120, 59, 32]
def qA (k p : Nat) : Eqn := ⟨⟨1, nmV k, 0, p⟩, sg 4 [61] (p + 3), [sg 2 [112, 114, 101] (p + 5), ⟨1, ⟨[120].toArray⟩, 0, p + 9⟩], exPre (p + 5) (exVar ⟨[120].toArray⟩ (p + 9)), 2, sg 4 [59] (p + 10)⟩
theorem eqA_T (k : Nat) (hk : k < 20) : EqT (eqA k) (qA k) := by
  refine ⟨fun p => ⟨rfl, rfl, ⟨1, by decide, ExSp.pre (Atm.var _ _ _) _ rfl⟩, show (2 : Nat) ≤ 300 by decide, rfl⟩, fun R => rfl, fun p R ws hR h => ?_⟩
  have s0 : LexW ([59, 32] ++ R) (p + 10) (sg 4 [59] (p + 10) :: ws) := LexW.cons 4 1 0 1 (by simp) rfl (by decide) (gap_sp hR) rfl h
  have s1 : LexW ([120, 59, 32] ++ R) (p + 9) (⟨1, ⟨[120].toArray⟩, 0, p + 9⟩ :: sg 4 [59] (p + 10) :: ws) := LexW.cons 1 1 0 0 (by simp) rfl (by decide) rfl rfl s0
  have s2 : LexW ([112, 114, 101, 32, 120, 59, 32] ++ R) (p + 5) (sg 2 [112, 114, 101] (p + 5) :: ⟨1, ⟨[120].toArray⟩, 0, p + 9⟩ :: sg 4 [59] (p + 10) :: ws) := LexW.cons 2 3 0 1 (by simp) rfl (by decide) rfl rfl s1
  have s3 : LexW ([61, 32, 112, 114, 101, 32, 120, 59, 32] ++ R) (p + 3) (sg 4 [61] (p + 3) :: sg 2 [112, 114, 101] (p + 5) :: ⟨1, ⟨[120].toArray⟩, 0, p + 9⟩ :: sg 4 [59] (p + 10) :: ws) := LexW.cons 4 1 0 1 (by simp) rfl (by decide) rfl rfl s2
  exact LexW.cons 1 2 0 1 (by simp [eqA]) (fv_32 k (by omega) _) (by decide) rfl rfl s3
def eqX (k : Nat) : List UInt8 := [118, lt9 k, 32, 61, 32, 120, 59, 32]
def qX (k p : Nat) : Eqn := ⟨⟨1, nmV k, 0, p⟩, sg 4 [61] (p + 3), [⟨1, ⟨[120].toArray⟩, 0, p + 5⟩], exVar ⟨[120].toArray⟩ (p + 5), 1, sg 4 [59] (p + 6)⟩
theorem eqX_T (k : Nat) (hk : k < 20) : EqT (eqX k) (qX k) := by
  refine ⟨fun p => ⟨rfl, rfl, ⟨0, by decide, ExSp.var _ _ _⟩, show (1 : Nat) ≤ 300 by decide, rfl⟩, fun R => rfl, fun p R ws hR h => ?_⟩
  have s0 : LexW ([59, 32] ++ R) (p + 6) (sg 4 [59] (p + 6) :: ws) := LexW.cons 4 1 0 1 (by simp) rfl (by decide) (gap_sp hR) rfl h
  have s1 : LexW ([120, 59, 32] ++ R) (p + 5) (⟨1, ⟨[120].toArray⟩, 0, p + 5⟩ :: sg 4 [59] (p + 6) :: ws) := LexW.cons 1 1 0 0 (by simp) rfl (by decide) rfl rfl s0
  have s2 : LexW ([61, 32, 120, 59, 32] ++ R) (p + 3) (sg 4 [61] (p + 3) :: ⟨1, ⟨[120].toArray⟩, 0, p + 5⟩ :: sg 4 [59] (p + 6) :: ws) := LexW.cons 4 1 0 1 (by simp) rfl (by decide) rfl rfl s1
  exact LexW.cons 1 2 0 1 (by simp [eqX]) (fv_32 k (by omega) _) (by decide) rfl rfl s2
def eqP (k j : Nat) : List UInt8 := [118, lt9 k, 32, 61, 32, 118, lt9 j, 32, 43, 32, 49, 59, 32]
def qP (k j p : Nat) : Eqn := ⟨⟨1, nmV k, 0, p⟩, sg 4 [61] (p + 3), [⟨1, nmV j, 0, p + 5⟩, sg 4 [43] (p + 8), ⟨3, ⟨[49].toArray⟩, 1, p + 10⟩], op2 ⟨#[43]⟩ (p + 8) (exVar (nmV j) (p + 5)) (exInt 1 (p + 10)), 3, sg 4 [59] (p + 11)⟩
theorem eqP_T (k j : Nat) (hk : k < 20) (hj : j < 20) : EqT (eqP k j) (qP k j) := by
  refine ⟨fun p => ⟨rfl, rfl, ⟨0, by decide, ExSp.add (Atm.var _ _ _) (Atm.int _ _ _) _ rfl⟩, show (3 : Nat) ≤ 300 by decide, rfl⟩, fun R => rfl, fun p R ws hR h => ?_⟩
  have s0 : LexW ([59, 32] ++ R) (p + 11) (sg 4 [59] (p + 11) :: ws) := LexW.cons 4 1 0 1 (by simp) rfl (by decide) (gap_sp hR) rfl h
  have s1 : LexW ([49, 59, 32] ++ R) (p + 10) (⟨3, ⟨[49].toArray⟩, 1, p + 10⟩ :: sg 4 [59] (p + 11) :: ws) := LexW.cons 3 1 1 0 (by simp) rfl (by decide) rfl rfl s0
  have s2 : LexW ([43, 32, 49, 59, 32] ++ R) (p + 8) (sg 4 [43] (p + 8) :: ⟨3, ⟨[49].toArray⟩, 1, p + 10⟩ :: sg 4 [59] (p + 11) :: ws) := LexW.cons 4 1 0 1 (by simp) rfl (by decide) rfl rfl s1
  have s3 : LexW ([118, lt9 j, 32, 43, 32, 49, 59, 32] ++ R) (p + 5) (⟨1, nmV j, 0, p + 5⟩ :: sg 4 [43] (p + 8) :: ⟨3, ⟨[49].toArray⟩, 1, p + 10⟩ :: sg 4 [59] (p + 11) :: ws) := LexW.cons 1 2 0 1 (by simp) (fv_32 j (by omega) _) (by decide) rfl rfl s2
  have s4 : LexW ([61, 32, 118, lt9 j, 32, 43, 32, 49, 59, 32] ++ R) (p + 3) (sg 4 [61] (p + 3) :: ⟨1, nmV j, 0, p + 5⟩ :: sg 4 [43] (p + 8) :: ⟨3, ⟨[49].toArray⟩, 1, p + 10⟩ :: sg 4 [59] (p + 11) :: ws) := LexW.cons 4 1 0 1 (by simp) rfl (by decide) rfl rfl s3
  exact LexW.cons 1 2 0 1 (by simp [eqP]) (fv_32 k (by omega) _) (by decide) rfl rfl s4
def yT9 : List UInt8 := [121, 32, 61, 32, 120, 59, 32]
def yQ9 (p : Nat) : Eqn := ⟨⟨1, ⟨[121].toArray⟩, 0, p⟩, sg 4 [61] (p + 2), [⟨1, ⟨[120].toArray⟩, 0, p + 4⟩], exVar ⟨[120].toArray⟩ (p + 4), 1, sg 4 [59] (p + 5)⟩
theorem y9_T : EqT yT9 yQ9 := by
  refine ⟨fun p => ⟨rfl, rfl, ⟨0, by decide, ExSp.var _ _ _⟩, show (1 : Nat) ≤ 300 by decide, rfl⟩, fun R => rfl, fun p R ws hR h => ?_⟩
  have s0 : LexW ([59, 32] ++ R) (p + 5) (sg 4 [59] (p + 5) :: ws) := LexW.cons 4 1 0 1 (by simp) rfl (by decide) (gap_sp hR) rfl h
  have s1 : LexW ([120, 59, 32] ++ R) (p + 4) (⟨1, ⟨[120].toArray⟩, 0, p + 4⟩ :: sg 4 [59] (p + 5) :: ws) := LexW.cons 1 1 0 0 (by simp) rfl (by decide) rfl rfl s0
  have s2 : LexW ([61, 32, 120, 59, 32] ++ R) (p + 2) (sg 4 [61] (p + 2) :: ⟨1, ⟨[120].toArray⟩, 0, p + 4⟩ :: sg 4 [59] (p + 5) :: ws) := LexW.cons 4 1 0 1 (by simp) rfl (by decide) rfl rfl s1
  exact LexW.cons 1 1 0 1 (by simp [yT9]) rfl (by decide) rfl rfl s2
def eqn9 (at_ k : Nat) : List UInt8 := if k = at_ then eqA k else if k = 0 then eqX k else eqP k (k - 1)
def q9 (at_ k : Nat) : Nat → Eqn := if k = at_ then qA k else if k = 0 then qX k else qP k (k - 1)
theorem eqn9_T (at_ k : Nat) (hk : k < 20) : EqT (eqn9 at_ k) (q9 at_ k) := by
  unfold eqn9 q9
  split
  · exact eqA_T k hk
  · split
    · exact eqX_T k hk
    · exact eqP_T k (k - 1) hk (by omega)
def H9 : List UInt8 := [110, 111, 100, 101, 32, 102, 40, 120, 58, 32, 105, 110, 116, 41, 32, 114, 101, 116, 117, 114, 110, 115, 32, 40, 121, 58, 32, 105, 110, 116, 41, 59, 32, 118, 97, 114, 32]
def dX9 : Dc := ⟨⟨1, ⟨[120].toArray⟩, 0, 7⟩, sg 4 [58] 8, sg 2 [105, 110, 116] 10, sg 4 [59] 0, 2⟩
def dY9 : Dc := ⟨⟨1, ⟨[121].toArray⟩, 0, 24⟩, sg 4 [58] 25, sg 2 [105, 110, 116] 27, sg 4 [59] 0, 2⟩
theorem dX9_ok : dX9.ok := ⟨rfl, rfl, rfl, .inr ⟨rfl, rfl⟩⟩
theorem dY9_ok : dY9.ok := ⟨rfl, rfl, rfl, .inr ⟨rfl, rfl⟩⟩
theorem hdr9 (R : List UInt8) (ws : List W4) (hR : gapL R = 0) (h : LexW R H9.length ws) : LexW (H9 ++ R) 0 (sg 2 [110, 111, 100, 101] 0 :: ⟨1, ⟨[102].toArray⟩, 0, 5⟩ :: sg 4 [40] 6 :: (dcs [dX9] ++ sg 4 [41] 13 :: sg 2 [114, 101, 116, 117, 114, 110, 115] 15 :: sg 4 [40] 23 :: (dcs [dY9] ++ sg 4 [41] 30 :: sg 4 [59] 31 :: sg 2 [118, 97, 114] 33 :: ws))) := by
  have h : LexW R 37 ws := h
  have s14 : LexW ([118, 97, 114, 32] ++ R) 33 (sg 2 [118, 97, 114] 33 :: ws) := LexW.cons 2 3 0 1 (by simp) rfl (by decide) (gap_sp hR) rfl h
  have s13 : LexW ([59, 32, 118, 97, 114, 32] ++ R) 31 (sg 4 [59] 31 :: sg 2 [118, 97, 114] 33 :: ws) := LexW.cons 4 1 0 1 (by simp) rfl (by decide) rfl rfl s14
  have s12 : LexW ([41, 59, 32, 118, 97, 114, 32] ++ R) 30 (sg 4 [41] 30 :: sg 4 [59] 31 :: sg 2 [118, 97, 114] 33 :: ws) := LexW.cons 4 1 0 0 (by simp) rfl (by decide) rfl rfl s13
  have s11 : LexW ([105, 110, 116, 41, 59, 32, 118, 97, 114, 32] ++ R) 27 (sg 2 [105, 110, 116] 27 :: sg 4 [41] 30 :: sg 4 [59] 31 :: sg 2 [118, 97, 114] 33 :: ws) := LexW.cons 2 3 0 0 (by simp) rfl (by decide) rfl rfl s12
  have s10 : LexW ([58, 32, 105, 110, 116, 41, 59, 32, 118, 97, 114, 32] ++ R) 25 (sg 4 [58] 25 :: sg 2 [105, 110, 116] 27 :: sg 4 [41] 30 :: sg 4 [59] 31 :: sg 2 [118, 97, 114] 33 :: ws) := LexW.cons 4 1 0 1 (by simp) rfl (by decide) rfl rfl s11
  have s9 : LexW ([121, 58, 32, 105, 110, 116, 41, 59, 32, 118, 97, 114, 32] ++ R) 24 (⟨1, ⟨[121].toArray⟩, 0, 24⟩ :: sg 4 [58] 25 :: sg 2 [105, 110, 116] 27 :: sg 4 [41] 30 :: sg 4 [59] 31 :: sg 2 [118, 97, 114] 33 :: ws) := LexW.cons 1 1 0 0 (by simp) rfl (by decide) rfl rfl s10
  have s8 : LexW ([40, 121, 58, 32, 105, 110, 116, 41, 59, 32, 118, 97, 114, 32] ++ R) 23 (sg 4 [40] 23 :: ⟨1, ⟨[121].toArray⟩, 0, 24⟩ :: sg 4 [58] 25 :: sg 2 [105, 110, 116] 27 :: sg 4 [41] 30 :: sg 4 [59] 31 :: sg 2 [118, 97, 114] 33 :: ws) := LexW.cons 4 1 0 0 (by simp) rfl (by decide) rfl rfl s9
  have s7 : LexW ([114, 101, 116, 117, 114, 110, 115, 32, 40, 121, 58, 32, 105, 110, 116, 41, 59, 32, 118, 97, 114, 32] ++ R) 15 (sg 2 [114, 101, 116, 117, 114, 110, 115] 15 :: sg 4 [40] 23 :: ⟨1, ⟨[121].toArray⟩, 0, 24⟩ :: sg 4 [58] 25 :: sg 2 [105, 110, 116] 27 :: sg 4 [41] 30 :: sg 4 [59] 31 :: sg 2 [118, 97, 114] 33 :: ws) := LexW.cons 2 7 0 1 (by simp) rfl (by decide) rfl rfl s8
  have s6 : LexW ([41, 32, 114, 101, 116, 117, 114, 110, 115, 32, 40, 121, 58, 32, 105, 110, 116, 41, 59, 32, 118, 97, 114, 32] ++ R) 13 (sg 4 [41] 13 :: sg 2 [114, 101, 116, 117, 114, 110, 115] 15 :: sg 4 [40] 23 :: ⟨1, ⟨[121].toArray⟩, 0, 24⟩ :: sg 4 [58] 25 :: sg 2 [105, 110, 116] 27 :: sg 4 [41] 30 :: sg 4 [59] 31 :: sg 2 [118, 97, 114] 33 :: ws) := LexW.cons 4 1 0 1 (by simp) rfl (by decide) rfl rfl s7
  have s5 : LexW ([105, 110, 116, 41, 32, 114, 101, 116, 117, 114, 110, 115, 32, 40, 121, 58, 32, 105, 110, 116, 41, 59, 32, 118, 97, 114, 32] ++ R) 10 (sg 2 [105, 110, 116] 10 :: sg 4 [41] 13 :: sg 2 [114, 101, 116, 117, 114, 110, 115] 15 :: sg 4 [40] 23 :: ⟨1, ⟨[121].toArray⟩, 0, 24⟩ :: sg 4 [58] 25 :: sg 2 [105, 110, 116] 27 :: sg 4 [41] 30 :: sg 4 [59] 31 :: sg 2 [118, 97, 114] 33 :: ws) := LexW.cons 2 3 0 0 (by simp) rfl (by decide) rfl rfl s6
  have s4 : LexW ([58, 32, 105, 110, 116, 41, 32, 114, 101, 116, 117, 114, 110, 115, 32, 40, 121, 58, 32, 105, 110, 116, 41, 59, 32, 118, 97, 114, 32] ++ R) 8 (sg 4 [58] 8 :: sg 2 [105, 110, 116] 10 :: sg 4 [41] 13 :: sg 2 [114, 101, 116, 117, 114, 110, 115] 15 :: sg 4 [40] 23 :: ⟨1, ⟨[121].toArray⟩, 0, 24⟩ :: sg 4 [58] 25 :: sg 2 [105, 110, 116] 27 :: sg 4 [41] 30 :: sg 4 [59] 31 :: sg 2 [118, 97, 114] 33 :: ws) := LexW.cons 4 1 0 1 (by simp) rfl (by decide) rfl rfl s5
  have s3 : LexW ([120, 58, 32, 105, 110, 116, 41, 32, 114, 101, 116, 117, 114, 110, 115, 32, 40, 121, 58, 32, 105, 110, 116, 41, 59, 32, 118, 97, 114, 32] ++ R) 7 (⟨1, ⟨[120].toArray⟩, 0, 7⟩ :: sg 4 [58] 8 :: sg 2 [105, 110, 116] 10 :: sg 4 [41] 13 :: sg 2 [114, 101, 116, 117, 114, 110, 115] 15 :: sg 4 [40] 23 :: ⟨1, ⟨[121].toArray⟩, 0, 24⟩ :: sg 4 [58] 25 :: sg 2 [105, 110, 116] 27 :: sg 4 [41] 30 :: sg 4 [59] 31 :: sg 2 [118, 97, 114] 33 :: ws) := LexW.cons 1 1 0 0 (by simp) rfl (by decide) rfl rfl s4
  have s2 : LexW ([40, 120, 58, 32, 105, 110, 116, 41, 32, 114, 101, 116, 117, 114, 110, 115, 32, 40, 121, 58, 32, 105, 110, 116, 41, 59, 32, 118, 97, 114, 32] ++ R) 6 (sg 4 [40] 6 :: ⟨1, ⟨[120].toArray⟩, 0, 7⟩ :: sg 4 [58] 8 :: sg 2 [105, 110, 116] 10 :: sg 4 [41] 13 :: sg 2 [114, 101, 116, 117, 114, 110, 115] 15 :: sg 4 [40] 23 :: ⟨1, ⟨[121].toArray⟩, 0, 24⟩ :: sg 4 [58] 25 :: sg 2 [105, 110, 116] 27 :: sg 4 [41] 30 :: sg 4 [59] 31 :: sg 2 [118, 97, 114] 33 :: ws) := LexW.cons 4 1 0 0 (by simp) rfl (by decide) rfl rfl s3
  have s1 : LexW ([102, 40, 120, 58, 32, 105, 110, 116, 41, 32, 114, 101, 116, 117, 114, 110, 115, 32, 40, 121, 58, 32, 105, 110, 116, 41, 59, 32, 118, 97, 114, 32] ++ R) 5 (⟨1, ⟨[102].toArray⟩, 0, 5⟩ :: sg 4 [40] 6 :: ⟨1, ⟨[120].toArray⟩, 0, 7⟩ :: sg 4 [58] 8 :: sg 2 [105, 110, 116] 10 :: sg 4 [41] 13 :: sg 2 [114, 101, 116, 117, 114, 110, 115] 15 :: sg 4 [40] 23 :: ⟨1, ⟨[121].toArray⟩, 0, 24⟩ :: sg 4 [58] 25 :: sg 2 [105, 110, 116] 27 :: sg 4 [41] 30 :: sg 4 [59] 31 :: sg 2 [118, 97, 114] 33 :: ws) := LexW.cons 1 1 0 0 (by simp) rfl (by decide) rfl rfl s2
  have s0 : LexW ([110, 111, 100, 101, 32, 102, 40, 120, 58, 32, 105, 110, 116, 41, 32, 114, 101, 116, 117, 114, 110, 115, 32, 40, 121, 58, 32, 105, 110, 116, 41, 59, 32, 118, 97, 114, 32] ++ R) 0 (sg 2 [110, 111, 100, 101] 0 :: ⟨1, ⟨[102].toArray⟩, 0, 5⟩ :: sg 4 [40] 6 :: ⟨1, ⟨[120].toArray⟩, 0, 7⟩ :: sg 4 [58] 8 :: sg 2 [105, 110, 116] 10 :: sg 4 [41] 13 :: sg 2 [114, 101, 116, 117, 114, 110, 115] 15 :: sg 4 [40] 23 :: ⟨1, ⟨[121].toArray⟩, 0, 24⟩ :: sg 4 [58] 25 :: sg 2 [105, 110, 116] 27 :: sg 4 [41] 30 :: sg 4 [59] 31 :: sg 2 [118, 97, 114] 33 :: ws) := LexW.cons 2 4 0 1 (by simp) rfl (by decide) rfl rfl s1
  exact s0
def ord9 (back : Bool) (n : Nat) : List Nat := if back = true then (List.range n).reverse else List.range n
theorem ord9_mem {back : Bool} {n k : Nat} : k ∈ ord9 back n ↔ k < n := by unfold ord9; split <;> simp
theorem ord9_len (back : Bool) (n : Nat) : (ord9 back n).length = n := by unfold ord9; split <;> simp
def ls9 (n : Nat) : List (List UInt8 × (Nat → Lc)) := (List.range n).map fun k => (loc9 k, lc9 k)
def eb9 (at_ : Nat) (back : Bool) (n : Nat) : List (List UInt8 × (Nat → Eqn)) := (ord9 back n).map fun k => (eqn9 at_ k, q9 at_ k)
def es9 (at_ : Nat) (back : Bool) (n : Nat) : List (List UInt8 × (Nat → Eqn)) := eb9 at_ back n ++ [(yT9, yQ9)]
def T9 (at_ : Nat) (back : Bool) (n : Nat) : List UInt8 := H9 ++ (catL (ls9 n) ++ ([108, 101, 116, 32] ++ (catL (es9 at_ back n) ++ [116, 101, 108])))
def N9 (at_ : Nat) (back : Bool) (n : Nat) : Nd := ⟨⟨[102].toArray⟩, [dX9].map Dc.vr, [dY9].map Dc.vr, (atL (ls9 n) H9.length).map Lc.vr, (atL (es9 at_ back n) (H9.length + (catL (ls9 n)).length + 4)).map Eqn.qe, 0⟩
theorem ls9_mem {n : Nat} {x : List UInt8 × (Nat → Lc)} (h : x ∈ ls9 n) : ∃ k, k < n ∧ x = (loc9 k, lc9 k) := by
  obtain ⟨k, hk, rfl⟩ := List.mem_map.1 h
  exact ⟨k, List.mem_range.1 hk, rfl⟩
theorem es9_mem {at_ : Nat} {back : Bool} {n : Nat} {x : List UInt8 × (Nat → Eqn)} (h : x ∈ es9 at_ back n) : (∃ k, k < n ∧ x = (eqn9 at_ k, q9 at_ k)) ∨ x = (yT9, yQ9) := by
  rcases List.mem_append.1 h with h | h
  · obtain ⟨k, hk, rfl⟩ := List.mem_map.1 h
    exact .inl ⟨k, ord9_mem.1 hk, rfl⟩
  · exact .inr (List.mem_singleton.1 h)
theorem cat9_le {α : Type} (m : Nat) : ∀ (l : List (List UInt8 × α)), (∀ x ∈ l, x.1.length ≤ m) → (catL l).length ≤ m * l.length
  | [], _ => by simp [catL]
  | x :: r, h => by
    rw [catL_cons, List.length_append, List.length_cons, Nat.mul_add]
    have := cat9_le m r (fun y hy => h y (List.mem_cons_of_mem _ hy))
    have := h x (List.mem_cons_self ..)
    omega
theorem eqn9_len (at_ k : Nat) : (eqn9 at_ k).length ≤ 13 := by
  unfold eqn9
  split
  · exact (by decide : (12 : Nat) ≤ 13)
  · split
    · exact (by decide : (8 : Nat) ≤ 13)
    · exact Nat.le_refl 13
theorem ls9_len (n : Nat) : (catL (ls9 n)).length ≤ 9 * n := by
  have := cat9_le 9 (ls9 n) (fun x hx => by
    obtain ⟨k, _, rfl⟩ := ls9_mem hx
    exact Nat.le_refl 9)
  simpa [ls9] using this
theorem eb9_len (at_ : Nat) (back : Bool) (n : Nat) : (catL (eb9 at_ back n)).length ≤ 13 * n := by
  have := cat9_le 13 (eb9 at_ back n) (fun x hx => by
    obtain ⟨k, _, rfl⟩ := List.mem_map.1 hx
    exact eqn9_len at_ k)
  have e : (eb9 at_ back n).length = n := by unfold eb9; rw [List.length_map, ord9_len]
  rwa [e] at this
theorem T9_len (at_ : Nat) (back : Bool) (n : Nat) (hn : n ≤ 20) : (T9 at_ back n).length ≤ 1400 := by
  have h1 := ls9_len n
  have h2 := eb9_len at_ back n
  unfold T9 es9
  rw [List.length_append, List.length_append, List.length_append, List.length_append, catL_app, List.length_append]
  have h3 : H9.length = 37 := rfl
  have h4 : (catL [(yT9, yQ9)]).length = 7 := rfl
  rw [h3, h4]
  simp only [List.length_cons, List.length_nil]
  omega
theorem T9_parse (at_ : Nat) (back : Bool) (n : Nat) (h1 : 1 ≤ n) (hn : n ≤ 20) : parseL (T9 at_ back n) = .ok [N9 at_ back n] := by
  have hne : ls9 n ≠ [] := fun h => by
    have := congrArg List.length h
    simp [ls9] at this
    omega
  exact parse_le [dX9] [dY9] H9 (ls9 n) (es9 at_ back n) hdr9 (fun R => rfl)
    (fun x hx => by obtain ⟨k, hk, rfl⟩ := ls9_mem hx; exact loc9_T k (by omega))
    (fun x hx => by rcases es9_mem hx with ⟨k, hk, rfl⟩ | rfl; exact eqn9_T _ k (by omega); exact y9_T) hne
    (fun d hd => by obtain rfl := List.mem_singleton.1 hd; exact dX9_ok)
    (fun d hd => by obtain rfl := List.mem_singleton.1 hd; exact dY9_ok) (by simp [ls9]; omega) rfl rfl rfl rfl rfl rfl rfl rfl rfl
    (by have := T9_len at_ back n hn; unfold T9 at this; omega)
end Go.Proofs.Ythlhogfebicooaa

namespace Go.Proofs.Ythlhogfebicooaa
open Go Go.RowKit
theorem lt9_inj {i j : Nat} (hi : i < 21) (hj : j < 21) (h : lt9 i = lt9 j) : i = j := by
  have h := congrArg UInt8.toNat h
  unfold lt9 at h
  rw [UInt8.toNat_ofNat', UInt8.toNat_ofNat'] at h
  omega
theorem nmV_list (k : Nat) : (nmV k).data.toList = [118, lt9 k] := rfl
theorem v9_inj {i j : Nat} (hi : i < 21) (hj : j < 21) (h : ([118, lt9 i] : List UInt8) = [118, lt9 j]) : i = j := by
  injection h with _ h
  injection h with h _
  exact lt9_inj hi hj h
theorem q9_name (at_ k p : Nat) : ((q9 at_ k p).qe).name = nmV k := by
  unfold q9
  split
  · rfl
  · split <;> rfl
/-- What could make name k late. -/
def rr9 (at_ k : Nat) : List (Bool × List UInt8) := if k = at_ then [(true, [])] else if k = 0 then [(false, [120])] else [(false, [118, lt9 (k - 1)])]
theorem rts_var (t : ByteArray) (a : Nat) : rtsI (exVar t a) = [(false, t.data.toList)] := by
  rw [rtsI_eq]
  exact (if_neg (show ¬ ([118, 97, 114] : List UInt8) = PREL by decide)).trans (if_pos rfl)
theorem rts_int (v : Int) (a : Nat) : rtsI (exInt v a) = [] := by
  rw [rtsI_eq]
  exact (if_neg (show ¬ ([105, 110, 116] : List UInt8) = PREL by decide)).trans ((if_neg (show ¬ ([105, 110, 116] : List UInt8) = VARL by decide)).trans (if_neg (show ¬ OPSR.contains ([105, 110, 116] : List UInt8) = true by decide)))
theorem rts_pre (a : Nat) (e : Ex) : rtsI (exPre a e) = [(true, [])] := by
  rw [rtsI_eq]
  exact if_pos rfl
theorem rts_add (a : Nat) (x y : Ex) : rtsI (op2 ⟨#[43]⟩ a x y) = rtsI x ++ (rtsI y ++ []) := by
  rw [rtsI_eq]
  refine (if_neg (show ¬ ([43] : List UInt8) = PREL by decide)).trans ((if_neg (show ¬ ([43] : List UInt8) = VARL by decide)).trans ((if_pos (show OPSR.contains ([43] : List UInt8) = true by decide)).trans ?_))
  show rtssI [x, y] = _
  unfold rtssI rtssI rtssI
  rfl
theorem rts9 (at_ k p : Nat) : rtsI ((q9 at_ k p).qe).e = rr9 at_ k := by
  unfold q9 rr9
  split
  · exact rts_pre _ _
  · split
    · exact rts_var _ _
    · show rtsI (op2 ⟨#[43]⟩ (p + 8) (exVar (nmV (k - 1)) (p + 5)) (exInt 1 (p + 10))) = _
      rw [rts_add, rts_var, rts_int]
      rfl
theorem defL_has : ∀ (l : List Qe) (k : List UInt8 → Bool) (s : List UInt8), k s = false → (∃ q ∈ l, q.name.data.toList = s) → ∃ q ∈ defL k l, q.name.data.toList = s
  | [], _, s, _, h => by obtain ⟨q, hq, _⟩ := h; simp at hq
  | q :: r, k, s, hk, h => by
    unfold defL
    by_cases hn : q.name.data.toList = s
    · rw [hn, if_neg (by rw [hk]; decide)]
      exact ⟨q, List.mem_cons_self .., hn⟩
    · have h' : ∃ q ∈ r, q.name.data.toList = s := by
        obtain ⟨p, hp, e⟩ := h
        rcases List.mem_cons.1 hp with rfl | hp
        · exact absurd e hn
        · exact ⟨p, hp, e⟩
      split
      · exact defL_has r k s hk h'
      · have hk' : ((s == q.name.data.toList) || k s) = false := by
          rw [hk, Bool.or_false]
          exact beq_eq_false_iff_ne.2 fun e => hn e.symm
        obtain ⟨p, hp, e⟩ := defL_has r (fun s => (s == q.name.data.toList) || k s) s hk' h'
        exact ⟨p, List.mem_cons_of_mem _ hp, e⟩
theorem atL_has {α : Type} : ∀ (l : List (List UInt8 × (Nat → α))) (p : Nat) (x : List UInt8 × (Nat → α)), x ∈ l → ∃ p', x.2 p' ∈ atL l p
  | [], _, x, h => by simp at h
  | y :: r, p, x, h => by
    unfold atL
    rcases List.mem_cons.1 h with rfl | h
    · exact ⟨p, List.mem_cons_self ..⟩
    · obtain ⟨p', hp⟩ := atL_has r _ x h
      exact ⟨p', List.mem_cons_of_mem _ hp⟩
section
variable {at_ n : Nat} {back : Bool}
/-- An equation of the tree's. -/
theorem n9_eqs {q : Qe} (h : q ∈ (N9 at_ back n).eqs) : (∃ k p, k < n ∧ q = (q9 at_ k p).qe) ∨ ∃ p, q = (yQ9 p).qe := by
  obtain ⟨l, hl, rfl⟩ := List.mem_map.1 h
  obtain ⟨x, hx, p, rfl⟩ := atL_mem _ _ _ hl
  rcases es9_mem hx with ⟨k, hk, rfl⟩ | rfl
  · exact .inl ⟨k, p, hk, rfl⟩
  · exact .inr ⟨p, rfl⟩
theorem n9_defs (hn : n ≤ 20) {k : Nat} (hk : k < n) : ∃ q ∈ defsI (N9 at_ back n), q.name.data.toList = [118, lt9 k] ∧ rtsI q.e = rr9 at_ k := by
  obtain ⟨p, hp⟩ := atL_has (es9 at_ back n) (H9.length + (catL (ls9 n)).length + 4) (eqn9 at_ k, q9 at_ k) (List.mem_append_left _ (List.mem_map.2 ⟨k, ord9_mem.2 hk, rfl⟩))
  obtain ⟨q, hq, e⟩ := defL_has (N9 at_ back n).eqs (insI (N9 at_ back n)) [118, lt9 k] (by show (([120] : List UInt8) == [118, lt9 k] || false) = false; simp) ⟨_, List.mem_map.2 ⟨_, hp, rfl⟩, by rw [q9_name]; rfl⟩
  refine ⟨q, hq, e, ?_⟩
  rcases n9_eqs (defL_sub _ _ q hq) with ⟨j, p', hj, rfl⟩ | ⟨p', rfl⟩
  · rw [q9_name, nmV_list] at e
    have := v9_inj (by omega) (by omega) e
    subst this
    exact rts9 at_ j p'
  · exact absurd e (by show ¬ ([121] : List UInt8) = [118, lt9 k]; simp)
theorem late9_all (hn : n ≤ 20) : ∀ d, at_ + d < n → LateP (defsI (N9 at_ back n)) [118, lt9 (at_ + d)]
  | 0, h => by
    obtain ⟨q, hq, e, hr⟩ := n9_defs (back := back) (at_ := at_) hn h
    rw [← e]
    exact .pre q hq [] (by rw [hr]; unfold rr9; rw [if_pos (by omega)]; exact List.mem_singleton.2 rfl)
  | d + 1, h => by
    obtain ⟨q, hq, e, hr⟩ := n9_defs (back := back) (at_ := at_) hn h
    rw [← e]
    exact .use q hq [118, lt9 (at_ + d)] (by rw [hr]; unfold rr9; rw [if_neg (by omega), if_neg (by omega)]; exact List.mem_singleton.2 rfl) (late9_all hn d (by omega))
theorem late9_only (hn : n ≤ 20) {s : List UInt8} (h : LateP (defsI (N9 at_ back n)) s) : ∃ j, at_ ≤ j ∧ j < n ∧ s = [118, lt9 j] := by
  induction h with
  | pre q hq nm hr =>
    rcases n9_eqs (defL_sub _ _ q hq) with ⟨j, p', hj, rfl⟩ | ⟨p', rfl⟩
    · rw [rts9] at hr
      unfold rr9 at hr
      split at hr
      · next h => exact ⟨j, by omega, hj, by rw [q9_name]; rfl⟩
      · split at hr <;> simp at hr
    · rw [show ((yQ9 p').qe).e = exVar ⟨[120].toArray⟩ (p' + 4) from rfl, rts_var] at hr
      simp at hr
  | use q hq s hr hs ih =>
    obtain ⟨i, h1, h2, rfl⟩ := ih
    rcases n9_eqs (defL_sub _ _ q hq) with ⟨j, p', hj, rfl⟩ | ⟨p', rfl⟩
    · rw [rts9] at hr
      unfold rr9 at hr
      split at hr
      · simp at hr
      · split at hr
        · simp at hr
        · next h3 h4 =>
          have hr := List.mem_singleton.1 hr
          injection hr with _ hr
          have := v9_inj (by omega) (by omega) hr
          exact ⟨j, by omega, hj, by rw [q9_name]; rfl⟩
    · rw [show ((yQ9 p').qe).e = exVar ⟨[120].toArray⟩ (p' + 4) from rfl, rts_var] at hr
      simp at hr
theorem lateB9 (hn : n ≤ 20) {k : Nat} (hk : k < n) : lateB (N9 at_ back n) [118, lt9 k] = decide (at_ ≤ k) := by
  by_cases h : at_ ≤ k
  · rw [decide_eq_true h, lateB_iff]
    obtain ⟨d, rfl⟩ : ∃ d, k = at_ + d := ⟨k - at_, by omega⟩
    exact late9_all hn d hk
  · rw [decide_eq_false h]
    cases hb : lateB (N9 at_ back n) [118, lt9 k] with
    | false => rfl
    | true =>
      obtain ⟨j, h1, h2, e⟩ := late9_only hn ((lateB_iff _ _).1 hb)
      have := v9_inj (by omega) (by omega) e
      omega
theorem lateB9_no (hn : n ≤ 20) (c : UInt8) : lateB (N9 at_ back n) [c] = false := by
  cases hb : lateB (N9 at_ back n) [c] with
  | false => rfl
  | true =>
    obtain ⟨j, h1, h2, e⟩ := late9_only hn ((lateB_iff _ _).1 hb)
    simp at e
end
theorem atL_map {α β : Type} (f : α → β) (g : List UInt8 × (Nat → α) → β) : ∀ (l : List (List UInt8 × (Nat → α))) (p : Nat), (∀ x ∈ l, ∀ p, f (x.2 p) = g x) → (atL l p).map f = l.map g
  | [], _, _ => rfl
  | x :: r, p, h => by
    unfold atL
    rw [List.map_cons, List.map_cons, h x (List.mem_cons_self ..), atL_map f g r _ fun y hy => h y (List.mem_cons_of_mem _ hy)]
theorem names_flt (g : List UInt8 → Bool) : ∀ (l : List Vr), namesL g l = (l.map (fun v => v.name)).filter (fun s => g s.data.toList)
  | [] => rfl
  | v :: r => by
    unfold namesL
    rw [List.map_cons, List.filter_cons, List.filter_cons]
    have ih := names_flt g r
    unfold namesL at ih
    split
    · rw [List.map_cons, ih]
    · rw [ih]
theorem n9_locs (at_ : Nat) (back : Bool) (n : Nat) : (N9 at_ back n).locs.map (fun v => v.name) = (List.range n).map nmV := by
  show ((atL (ls9 n) H9.length).map Lc.vr).map (fun v => v.name) = _
  rw [List.map_map, atL_map _ (fun x => (x.2 0).d.name.text)]
  · unfold ls9
    rw [List.map_map]
    rfl
  · intro x hx p
    obtain ⟨k, _, rfl⟩ := ls9_mem hx
    rfl
theorem late9 (back : Bool) {at_ n : Nat} (hn : n ≤ 20) (ha : at_ ≤ n) : lateL (N9 at_ back n) = (List.range (n - at_)).map (fun i => nmV (at_ + i)) := by
  unfold lateL
  rw [names_flt]
  have e : ([(N9 at_ back n).ins, (N9 at_ back n).outs, (N9 at_ back n).locs].flatten).map (fun v => v.name) = (⟨[120].toArray⟩ : ByteArray) :: (⟨[121].toArray⟩ : ByteArray) :: (List.range n).map nmV := by
    rw [← n9_locs at_ back n]
    show (⟨[120].toArray⟩ : ByteArray) :: (⟨[121].toArray⟩ : ByteArray) :: ((N9 at_ back n).locs ++ []).map (fun v : Vr => v.name) = _
    rw [List.append_nil]
  rw [e, List.filter_cons, if_neg (by show ¬ lateB (N9 at_ back n) [120] = true; rw [lateB9_no hn]; decide), List.filter_cons, if_neg (by show ¬ lateB (N9 at_ back n) [121] = true; rw [lateB9_no hn]; decide)]
  obtain ⟨m, rfl⟩ : ∃ m, n = at_ + m := ⟨n - at_, by omega⟩
  rw [List.filter_map, List.range_add, List.filter_append, show at_ + m - at_ = m by omega]
  have h1 : (List.range at_).filter ((fun s : ByteArray => lateB (N9 at_ back (at_ + m)) s.data.toList) ∘ nmV) = [] := by
    refine List.filter_eq_nil_iff.2 fun k hk => ?_
    have hk := List.mem_range.1 hk
    show ¬ lateB (N9 at_ back (at_ + m)) [118, lt9 k] = true
    rw [lateB9 hn (by omega), decide_eq_false (by omega)]
    decide
  have h2 : ((List.range m).map (at_ + ·)).filter ((fun s : ByteArray => lateB (N9 at_ back (at_ + m)) s.data.toList) ∘ nmV) = (List.range m).map (at_ + ·) := by
    refine List.filter_eq_self.2 fun k hk => ?_
    obtain ⟨i, hi, rfl⟩ := List.mem_map.1 hk
    have hi := List.mem_range.1 hi
    show lateB (N9 at_ back (at_ + m)) [118, lt9 (at_ + i)] = true
    rw [lateB9 hn (by omega), decide_eq_true (by omega)]
  rw [h1, h2, List.nil_append, List.map_map]
  rfl
/-- No fault. -/
theorem eqsI_none (g wt : List UInt8 → Bool) : ∀ (l : List Qe), (∀ q ∈ l, eqI g wt q = none) → eqsI g wt l = none
  | [], _ => rfl
  | q :: r, h => by
    unfold eqsI
    rw [h q (List.mem_cons_self ..)]
    exact eqsI_none g wt r fun p hp => h p (List.mem_cons_of_mem _ hp)
theorem part_var (g : List UInt8 → Bool) (t : ByteArray) (a : Nat) : partI g (exVar t a) = none := by
  rw [partI_eq]
  rfl
theorem part_int (g : List UInt8 → Bool) (v : Int) (a : Nat) : partI g (exInt v a) = none := by
  rw [partI_eq]
  rfl
theorem part_pre (g : List UInt8 → Bool) (t : ByteArray) (a b : Nat) (h : g t.data.toList = false) : partI g (exPre a (exVar t b)) = none := by
  rw [partI_eq]
  have e : partsI g (exPre a (exVar t b)).kids = none := by
    show partsI g [exVar t b] = none
    unfold partsI partsI
    rw [part_var]
  rw [e]
  refine if_neg ?_
  have hk : kidsI (exPre a (exVar t b)) = [exVar t b] := rfl
  unfold earlyI
  rw [hk]
  show ¬ ((false && _) || (lateI g (exVar t b) || false)) = true
  unfold lateI
  rw [rts_var]
  show ¬ ((false && _) || (((false || g t.data.toList) || false) || false)) = true
  rw [h]
  simp
theorem part_add (g : List UInt8 → Bool) (a : Nat) (x y : Ex) (hx : partI g x = none) (hy : partI g y = none) : partI g (op2 ⟨#[43]⟩ a x y) = none := by
  rw [partI_eq]
  have e : partsI g (op2 ⟨#[43]⟩ a x y).kids = none := by
    show partsI g [x, y] = none
    unfold partsI partsI partsI
    rw [hx, hy]
  rw [e]
  rfl
theorem part9 {g : List UInt8 → Bool} (h : g [120] = false) (at_ k p : Nat) : partI g ((q9 at_ k p).qe).e = none := by
  unfold q9
  split
  · exact part_pre g _ _ _ h
  · split
    · exact part_var g _ _
    · exact part_add g _ _ _ (part_var g _ _) (part_int g _ _)
theorem ini9 (at_ n : Nat) (back : Bool) (hn : n ≤ 20) : iniF [N9 at_ back n] = none := by
  have hx := lateB9_no (at_ := at_) (back := back) hn 120
  have hy := lateB9_no (at_ := at_) (back := back) hn 121
  have h : eqsI (lateB (N9 at_ back n)) (wantI (N9 at_ back n)) (N9 at_ back n).eqs = none := by
    refine eqsI_none _ _ _ fun q hq => ?_
    rcases n9_eqs hq with ⟨k, p, hk, rfl⟩ | ⟨p, rfl⟩
    · unfold eqI
      rw [part9 hx]
      refine if_neg ?_
      rintro ⟨h1, _⟩
      rw [q9_name, nmV_list] at h1
      unfold wantI at h1
      have e1 : ((N9 at_ back n).outs.any fun v => v.name.data.toList == [118, lt9 k]) = false := by
        show (([121] : List UInt8) == [118, lt9 k] || false) = false
        simp
      have e2 : ((N9 at_ back n).locs.any fun v => !(v.on.data.toList == []) && v.on.data.toList == [118, lt9 k]) = false := by
        refine List.any_eq_false.2 fun v hv => ?_
        obtain ⟨l, hl, rfl⟩ := List.mem_map.1 hv
        obtain ⟨x, hx, p, rfl⟩ := atL_mem _ _ _ hl
        obtain ⟨j, _, rfl⟩ := ls9_mem hx
        show ¬ (!(([] : List UInt8) == []) && (([] : List UInt8) == [118, lt9 k])) = true
        simp
      rw [e1, e2] at h1
      cases h1
    · unfold eqI
      rw [show partI (lateB (N9 at_ back n)) ((yQ9 p).qe).e = none from part_var _ _ _]
      refine if_neg ?_
      rintro ⟨_, h2⟩
      have h2 : lateB (N9 at_ back n) [121] = true := h2
      rw [hy] at h2
      cases h2
  unfold iniF iniF
  rw [h]
theorem ok9 (at_ n : Nat) (back : Bool) (hn : n ≤ 20) : okNd (N9 at_ back n) = true := by
  have h1 : okVs (N9 at_ back n).locs = true := by
    refine List.all_eq_true.2 fun v hv => ?_
    obtain ⟨l, hl, rfl⟩ := List.mem_map.1 hv
    obtain ⟨x, hx, p, rfl⟩ := atL_mem _ _ _ hl
    obtain ⟨k, _, rfl⟩ := ls9_mem hx
    rfl
  have kv : ∀ (t : ByteArray) (a : Nat), okNm t = true → okE (exVar t a) = true := fun t a h => by
    rw [okE_eq]
    show (OPSB.contains [118, 97, 114] && (okNm t && true)) = true
    rw [h]
    decide
  have h2 : okQs (N9 at_ back n).eqs = true := by
    refine List.all_eq_true.2 fun q hq => ?_
    rcases n9_eqs hq with ⟨k, p, _, rfl⟩ | ⟨p, rfl⟩
    · rw [q9_name]
      show (true && okE ((q9 at_ k p).qe).e) = true
      rw [Bool.true_and]
      unfold q9
      split
      · show okE (exPre (p + 5) (exVar ⟨[120].toArray⟩ (p + 9))) = true
        rw [okE_eq]
        show (OPSB.contains [112, 114, 101] && (true && (okE (exVar ⟨[120].toArray⟩ (p + 9)) && true))) = true
        rw [kv _ _ rfl]
        decide
      · split
        · exact kv _ _ rfl
        · show okE (op2 ⟨#[43]⟩ (p + 8) (exVar (nmV (k - 1)) (p + 5)) (exInt 1 (p + 10))) = true
          rw [okE_eq]
          show (OPSB.contains [43] && (true && (okE (exVar (nmV (k - 1)) (p + 5)) && (okE (exInt 1 (p + 10)) && true)))) = true
          rw [kv _ _ rfl, okE_eq]
          show (OPSB.contains [43] && (true && (true && ((OPSB.contains [105, 110, 116] && (true && true)) && true)))) = true
          decide
    · show (true && okE (exVar ⟨[120].toArray⟩ (p + 4))) = true
      rw [kv _ _ rfl]
      rfl
  unfold okNd
  rw [h1, h2]
  have h3 : (N9 at_ back n).locs.length = n := by
    show ((atL (ls9 n) H9.length).map Lc.vr).length = n
    rw [List.length_map, atL_len]
    simp [ls9]
  have h4 : (N9 at_ back n).ins.length = 1 := rfl
  have h5 : (N9 at_ back n).outs.length = 1 := rfl
  rw [h3, h4, h5]
  have h6 : okNm (N9 at_ back n).name = true := rfl
  have h7 : okVs (N9 at_ back n).ins = true := rfl
  have h8 : okVs (N9 at_ back n).outs = true := rfl
  rw [h6, h7, h8]
  simp
  omega
theorem sum_le3 {α : Type} (f : α → Nat) (m : Nat) : ∀ (l : List α), (∀ a ∈ l, f a ≤ m) → (l.map f).sum ≤ m * l.length
  | [], _ => by simp
  | a :: r, h => by
    rw [List.map_cons, List.sum_cons, List.length_cons, Nat.mul_add]
    have := sum_le3 f m r fun b hb => h b (List.mem_cons_of_mem _ hb)
    have := h a (List.mem_cons_self ..)
    omega
theorem few9 (at_ n : Nat) (back : Bool) (hn : n ≤ 20) : fewQs (N9 at_ back n).eqs = true := by
  have hl : (N9 at_ back n).eqs.length = n + 1 := by
    show ((atL (es9 at_ back n) _).map Eqn.qe).length = _
    rw [List.length_map, atL_len]
    unfold es9 eb9
    rw [List.length_append, List.length_map, ord9_len]
    rfl
  have hs := sum_le3 (fun q : Qe => ptsE q.e) 3 (N9 at_ back n).eqs (fun q hq => by
    rcases n9_eqs hq with ⟨k, p, _, rfl⟩ | ⟨p, rfl⟩
    · unfold q9
      split
      · show ptsE (exPre (p + 5) (exVar ⟨[120].toArray⟩ (p + 9))) ≤ 3
        simp [exPre, exVar, ptsE, ptssE]
      · split
        · show ptsE (exVar ⟨[120].toArray⟩ (p + 5)) ≤ 3
          simp [exVar, ptsE, ptssE]
        · show ptsE (op2 ⟨#[43]⟩ (p + 8) (exVar (nmV (k - 1)) (p + 5)) (exInt 1 (p + 10))) ≤ 3
          simp [op2, exVar, exInt, ptsE, ptssE]
    · show ptsE (exVar ⟨[120].toArray⟩ (p + 4)) ≤ 3
      simp [exVar, ptsE, ptssE])
  unfold fewQs
  rw [hl] at hs ⊢
  rw [Bool.and_eq_true, decide_eq_true_eq, decide_eq_true_eq]
  omega
/-- What is told of the text behind all rounds. -/
theorem rows_facts (back : Bool) (at_ n : Nat) (ha : at_ < n) (hn : n ≤ 20) : ∃ nd : Nd, parseL (T9 at_ back n) = .ok [nd] ∧ okNd nd = true ∧ fewQs nd.eqs = true ∧ iniF [nd] = none ∧ lateL nd = (List.range (n - at_)).map (fun i => nmV (at_ + i)) :=
  ⟨N9 at_ back n, T9_parse at_ back n (by omega) hn, ok9 at_ n back hn, few9 at_ n back hn, ini9 at_ n back hn, late9 back hn (by omega)⟩
end Go.Proofs.Ythlhogfebicooaa
