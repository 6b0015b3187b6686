/-
  'copy' of bytes into a block that is known whole; a slice's rest; what stays of a Hash. Of types alone.
-/
import Derived.Test.YtopchpaiehoilaaDoorHtb
import Derived.Test.YtopchpaiehoilaaDoorLow
import Derived.Laws.CopyRow
import Derived.Laws.Cover3
namespace Go.Proofs.YtopchpaiehoilaaDoor
open Go Go.RowKit

theorem Txt.takeN {w : World} {a : Option Addr} {l : List UInt8} (h : Txt w a l) (n : Nat) : Txt w a (l.take n) := fun hne => by
  obtain ⟨b, o, e, h1, h2⟩ := h (by rintro rfl; simp at hne)
  refine ⟨b, o, e, h1, fun i hi => ?_⟩
  rw [List.length_take] at hi
  rw [h2 i (by omega), List.getElem_take]

/-- 'copy(d, s)': d lies in a block that is known whole, s elsewhere or nowhere. -/
theorem run_copy_txt {P : Program} (w : World) (dT sT ty elem : TypeId) (g o dLen dCap : Nat) (a : Option Addr) (l : List UInt8) (sCap : Nat) (cur : Array Value) (t : TypeId)
    (hu : P.underlying dT = some (.slice elem)) (hs : (P.info? elem).map (·.size) = some 1)
    (hg : w.heap[g]? = some (.cells cur t (0, 0))) (ht : Txt w a l) (hfit : o + dLen ≤ cur.size) :
    (Builtin.copy_ #[dT, sT] ty #[.slice (some ⟨g, o, none⟩) dLen dCap, .slice a l.length sCap]).run P w =
      .ok (goInt ((l.take dLen).length : Nat)) (w.setRow g (cur.toList.take o ++ Lib.byteCells (l.take dLen) ++ cur.toList.drop (o + (l.take dLen).length)).toArray) := by
  have hlen : (Lib.byteCells (l.take dLen)).length = (l.take dLen).length := by simp [Lib.byteCells]
  have hmin : (l.take dLen).length = Nat.min l.length dLen := by rw [List.length_take, Nat.min_comm]
  cases a with
  | none =>
    have hl : l = [] := by
      cases l with
      | nil => rfl
      | cons x r => obtain ⟨b, o', e, _⟩ := ht (by simp); cases e
    subst hl
    have hself : w.setRow g (cur.toList.take o ++ Lib.byteCells (([] : List UInt8).take dLen) ++ cur.toList.drop (o + (([] : List UInt8).take dLen).length)).toArray = w := by
      simp only [List.take_nil, List.length_nil, Nat.add_zero, Lib.byteCells, List.map_nil, List.append_nil, List.take_append_drop, Array.toArray_toList]
      exact setRow_self w g cur t (0, 0) hg
    rw [hself]
    cases hq : P.info? elem with
    | none => simp [hq] at hs
    | some i => simp [Builtin.copy_, run_underlying hu, Builtin.lenOf, Builtin.firstCells, sizeOf, typeInfo, hq, storeCells]
  | some ad =>
    have h := run_copy_row P w dT sT ty elem g o dLen dCap ad l.length sCap cur t (Lib.byteCells (l.take dLen)) hu hs hg (by rw [hlen, hmin])
      (fun j v hv => by
        by_cases hne : l = []
        · subst hne; simp [Lib.byteCells] at hv
        · obtain ⟨b', o', e, _⟩ := ht hne
          injection e with e
          subst e
          have hv2 : (Lib.byteCells l)[j]? = some v := by
            simp only [Lib.byteCells, List.map_take, List.getElem?_take] at hv
            split at hv
            · exact hv
            · cases hv
          exact ht.cells j v hv2)
      (by rw [hlen, List.length_take]; omega) (byteCells_one _)
    rw [h, hlen]

theorem wpList_copy_txt {P : Program} {w : World} {ops : Array Oper} {rest : List Oper} {op : Oper} {act : Act} {Q : Exit → Act → World → Prop} (hgd : op.guard = none) (d x : Operand) (dT sT elem : TypeId)
    (ho : op.op = .call { callee := .builtin .copy, args := #[d, x], argTypes := #[dT, sT] }) (g o dLen dCap : Nat) (a : Option Addr) (l : List UInt8) (n sCap : Nat) (cur : Array Value) (t : TypeId)
    (hd : act.eval d = .slice (some ⟨g, o, none⟩) dLen dCap) (hx : act.eval x = .slice a n sCap) (hn : n = l.length)
    (hu : P.underlying dT = some (.slice elem)) (hs : (P.info? elem).map (·.size) = some 1)
    (hg : w.heap[g]? = some (.cells cur t (0, 0))) (ht : Txt w a l) (hfit : o + dLen ≤ cur.size)
    (h : wpList P ops Q rest (act.put op.dst (goInt ((l.take dLen).length : Nat))) (w.setRow g (cur.toList.take o ++ Lib.byteCells (l.take dLen) ++ cur.toList.drop (o + (l.take dLen).length)).toArray)) : wpList P ops Q (op :: rest) act w :=
  wpList_plain hgd fun _ hK => by
    subst hn
    have hr := run_copy_txt (P := P) w dT sT op.type elem g o dLen dCap a l sCap cur t hu hs hg ht hfit
    unfold Oper.wp execOp
    simp only [ho, resolve, invoke, builtin, Sem.run_bind, Sem.run_pure, Result.andThen_ok, List.map_toArray, List.map_cons, List.map_nil, hd, hx, hr, Oper.upon]
    exact hK _ _ h

/-- The same, its outcome under names. -/
theorem wpList_copy_as {P : Program} {w : World} {ops : Array Oper} {rest : List Oper} {op : Oper} {act : Act} {Q : Exit → Act → World → Prop} (hgd : op.guard = none) (d x : Operand) (dT sT elem : TypeId)
    (ho : op.op = .call { callee := .builtin .copy, args := #[d, x], argTypes := #[dT, sT] }) (g o dLen dCap : Nat) (a : Option Addr) (l : List UInt8) (n sCap : Nat) (cur : Array Value) (t : TypeId) (k : Nat) (C : Array Value)
    (hd : act.eval d = .slice (some ⟨g, o, none⟩) dLen dCap) (hx : act.eval x = .slice a n sCap) (hn : n = l.length)
    (hu : P.underlying dT = some (.slice elem)) (hs : (P.info? elem).map (·.size) = some 1)
    (hg : w.heap[g]? = some (.cells cur t (0, 0))) (ht : Txt w a l) (hfit : o + dLen ≤ cur.size) (hk : (l.take dLen).length = k)
    (hC : (cur.toList.take o ++ Lib.byteCells (l.take dLen) ++ cur.toList.drop (o + (l.take dLen).length)).toArray = C)
    (h : wpList P ops Q rest (act.put op.dst (goInt k)) (w.setRow g C)) : wpList P ops Q (op :: rest) act w :=
  wpList_copy_txt hgd d x dT sT elem ho g o dLen dCap a l n sCap cur t hd hx hn hu hs hg ht hfit (by rw [hC, hk]; exact h)

/-- 'x[n:]'. -/
theorem slice_rest {w : World} {a : Option Addr} {l : List UInt8} (ht : Txt w a l) (n len c : Nat) (hlen : len = l.length) (hn : n ≤ l.length) (hc : l.length ≤ c) :
    ∃ a', (∀ W, (Instr.sliceAt 22 (.slice a len c) (some (.int .i64 (n : Int))) none none).run Tryd.prog W = .ok (.slice a' (len - n) (c - n)) W) ∧ Txt w a' (l.drop n) ∧ ∀ b o, a' = some ⟨b, o, none⟩ → l.drop n ≠ [] → ∃ o0, a = some ⟨b, o0, none⟩ := by
  subst hlen
  have he : Tryd.prog.elem 22 = 5 := by simp [Program.elem, Tryd.underlying22]
  have ht' : Tryd.prog.underlying 22 = some (.slice (Tryd.prog.elem 22)) := by rw [he]; exact Tryd.underlying22
  have hz : ∀ W, (sizeOf (Tryd.prog.elem 22)).run Tryd.prog W = .ok 1 W := fun W => by
    rw [he]
    cases hq : Tryd.prog.info? 5 with
    | none => have h := size_byte; simp [hq] at h
    | some i => have h := size_byte; simp [hq] at h; simp [sizeOf, typeInfo, hq, h]
  refine ⟨if c = n then a else a.map (·.add n), fun W => ?_, ?_, ?_⟩
  · rw [run_sliceAt_slice W _ _ _ _ _ ht', run_slice_l W _ a l.length c ht' .i64 (n : Int) (by omega) (by omega), hz]
    simp only [Result.andThen, sliced, Int.toNat_natCast, Nat.mul_one]
  · intro hne
    have hlt : n < l.length := by
      rcases Nat.lt_or_ge n l.length with h | h
      · exact h
      · exact absurd (List.drop_eq_nil_of_le h) hne
    obtain ⟨b, o, rfl, h1, h2⟩ := ht (by rintro rfl; simp at hlt)
    refine ⟨b, o + n, by rw [if_neg (by omega)]; simp [Addr.add_mid], h1, fun i hi => ?_⟩
    rw [List.length_drop] at hi
    rw [Nat.add_assoc, h2 (n + i) (by omega), List.getElem_drop]
  · intro b o h hne
    have hlt : n < l.length := by
      rcases Nat.lt_or_ge n l.length with h | h
      · exact h
      · exact absurd (List.drop_eq_nil_of_le h) hne
    obtain ⟨b', o', rfl, _, _⟩ := ht (by rintro rfl; simp at hlt)
    rw [if_neg (by omega)] at h
    simp only [Option.map_some, Addr.add_mid, Option.some.injEq, Addr.mk.injEq, and_true] at h
    obtain ⟨rfl, _⟩ := h
    exact ⟨_, rfl⟩

theorem hcells_size (l : List Nat) (rest : List UInt8) (sz : Nat) : (hcells l rest sz).length = l.length + (rest.length + 1) := by simp [hcells, u32s_length, Lib.byteCells]

/-- Bytes put over a Hash's rest. -/
theorem HRow.putr {w : World} {g : Nat} {l : List Nat} {rest : List UInt8} {sz : Nat} (h : HRow w g l rest sz) (o : Nat) (M : List UInt8) (hfit : o + M.length ≤ 64) :
    HRow (w.setRow g ((hcells l rest sz).toArray.toList.take (8 + o) ++ Lib.byteCells M ++ (hcells l rest sz).toArray.toList.drop (8 + o + M.length)).toArray) g l (lay rest o M) sz := by
  have h8 := h.2.1
  have h64 := h.2.2
  refine ⟨?_, h8, by rw [lay_length (by omega)]; exact h64⟩
  rw [setRow_heap w g _ _ _ _ h.1]
  have e1 : (hcells l rest sz).take (8 + o) = u32s l ++ (Lib.byteCells rest).take o := by
    unfold hcells
    rw [List.take_append, u32s_length, h8, Nat.add_sub_cancel_left, List.take_of_length_le (by rw [u32s_length]; omega), List.take_append_of_le_length (by simp [Lib.byteCells]; omega)]
  have e2 : (hcells l rest sz).drop (8 + o + M.length) = (Lib.byteCells rest).drop (o + M.length) ++ [.int .u64 (sz : Int)] := by
    unfold hcells
    rw [List.drop_append, u32s_length, h8, List.drop_eq_nil_of_le (by rw [u32s_length]; omega), List.nil_append, show 8 + o + M.length - 8 = o + M.length by omega, List.drop_append_of_le_length (by simp [Lib.byteCells]; omega)]
  have e3 : (hcells l rest sz).take (8 + o) ++ Lib.byteCells M ++ (hcells l rest sz).drop (8 + o + M.length) = hcells l (lay rest o M) sz := by
    rw [e1, e2]
    unfold hcells lay
    simp [Lib.byteCells, List.map_append, List.map_take, List.map_drop]
  rw [← e3]

theorem grownBy_setRow {a w : World} {r : Option Nat} (h : a.grownBy w r) (g : Nat) (cs : Array Value) (hp : some g = r ∨ a.heap.size ≤ g) : a.grownBy (w.setRow g cs) r :=
  ⟨h.os, h.tape, h.output, by simpa using h.size, fun i hi hr => by
    rw [setRow_other w g i cs (by rintro rfl; rcases hp with hp | hp <;> first | exact hr hp | omega)]
    exact h.block i hi hr⟩

/-- A Hash to which the bytes L were added. -/
def Held (w : World) (g : Nat) (L : List UInt8) : Prop := ∃ rest, HBlk w g (soak KT I8 L) rest L.length ∧ rest.take (L.length % 64) = L.drop (L.length - L.length % 64)

theorem Held.grown {w w' : World} {g : Nat} {r : Option Nat} {L : List UInt8} (h : Held w g L) (hg : w.grownBy w' r) (hr : some g ≠ r) : Held w' g L := by
  obtain ⟨rest, h1, h2⟩ := h
  exact ⟨rest, HRow.grown h1 hg hr, h2⟩
theorem Held.lt {w : World} {g : Nat} {L : List UInt8} (h : Held w g L) : g < w.heap.size := by
  obtain ⟨_, h1, _⟩ := h
  exact h1.lt

theorem Txt.grown {w w' : World} {g : Nat} {a : Option Addr} {l : List UInt8} (h : Txt w a l) (hg : w.grownBy w' (some g)) (hne : ∀ b o, a = some ⟨b, o, none⟩ → l ≠ [] → b ≠ g) : Txt w' a l := by
  intro hn
  exact h.keep hg.size (fun b o e => by
    obtain ⟨b', o', e', hlt, _⟩ := h hn
    rw [e] at e'
    simp only [Option.some.injEq, Addr.mk.injEq, and_true] at e'
    obtain ⟨rfl, rfl⟩ := e'
    exact hg.block b hlt (fun e2 => hne b o e hn (by injection e2))) hn

/-- A block that is filled up. -/
theorem fill_block (K : List Nat) (s : S8) (L l : List UInt8) (n : Nat) (hn : L.length % 64 + n = 64) (hl : n ≤ l.length) :
    soak K s (L ++ l.take n) = mix8 K (soak K s L) (L.drop (L.length - L.length % 64) ++ l.take n) := by
  obtain ⟨A, hA⟩ : ∃ A, A = L.take (L.length - L.length % 64) := ⟨_, rfl⟩
  obtain ⟨T, hT⟩ : ∃ T, T = L.drop (L.length - L.length % 64) := ⟨_, rfl⟩
  have hL : L = A ++ T := by rw [hA, hT, List.take_append_drop]
  have lA : A.length = L.length - L.length % 64 := by rw [hA, List.length_take]; omega
  have lT : T.length = L.length % 64 := by rw [hT, List.length_drop]; omega
  have lt : (l.take n).length = n := by rw [List.length_take]; omega
  rw [← hT]
  have e1 : soak K s L = soak K s A := by rw [hL]; exact soak_tail K s A T (by omega)
  rw [e1, hL, List.append_assoc]
  exact soak_block K s A (T ++ l.take n) (by omega) (by rw [List.length_append]; omega)
theorem more_block (K : List Nat) (s : S8) (L l : List UInt8) (n : Nat) (hn : (L.length + n) % 64 = 0) (hl : n + 64 ≤ l.length) :
    soak K s (L ++ l.take (n + 64)) = mix8 K (soak K s (L ++ l.take n)) ((l.drop n).take 64) := by
  have e : l.take (n + 64) = l.take n ++ (l.drop n).take 64 := by rw [List.take_add]
  rw [e, ← List.append_assoc]
  exact soak_block K s _ _ (by rw [List.length_append, List.length_take]; omega) (by rw [List.length_take, List.length_drop]; omega)
theorem last_part (K : List Nat) (s : S8) (L l : List UInt8) (n : Nat) (hn : (L.length + n) % 64 = 0) (hl : n ≤ l.length) (hr : l.length - n < 64) : soak K s (L ++ l) = soak K s (L ++ l.take n) := by
  conv => lhs; rw [← List.take_append_drop n l, ← List.append_assoc]
  exact soak_tail K s _ _ (by rw [List.length_append, List.length_take, List.length_drop]; omega)

theorem lay_take {R M : List UInt8} {o : Nat} (h : o + M.length ≤ R.length) : (lay R o M).take (o + M.length) = R.take o ++ M := by
  unfold lay
  rw [← List.append_assoc, List.take_append_of_le_length (by rw [List.length_append, List.length_take]; omega), List.take_of_length_le (by rw [List.length_append, List.length_take]; omega)]

end Go.Proofs.YtopchpaiehoilaaDoor
