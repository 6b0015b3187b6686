/-
  'append(b, c...)' of bytes, b the call's own, c whatever slice holds the bytes l (nil let in). Nothing here speaks of the program.
-/
import Derived.Test.YtolcaebdmapfbaaDoorByt
import Derived.OwnWalk
namespace Go.Proofs.YtolcaebdmapfbaaDoor
open Go Go.RowKit

theorem run_append_nilc {P : Program} (w : World) (base : Nat) (t ty e : TypeId) (i : TypeInfo) (size : Nat) (ht : P.underlying t = some (.slice e)) (hi : P.info? e = some i)
    (v : Value) (n : Nat) (xs : List Value) (hown : w.ownsRow base e size v n xs) (c : Nat) : (Builtin.append_ #[t, t] ty #[v, .slice none 0 c]).run P w = .ok v w := by
  rcases hown.2 with ⟨rfl, rfl⟩ | ⟨g, cap, cur, rfl, _, _, hnc, _⟩
  · simp [Builtin.append_, run_underlying ht, sizeOf, typeInfo, hi, Builtin.lenOf, Builtin.firstCells]
  · simp [Builtin.append_, run_underlying ht, sizeOf, typeInfo, hi, Builtin.lenOf, Builtin.firstCells, hnc, storeCells]

theorem run_append_txt {P : Program} (w : World) (base : Nat) (t ty e : TypeId) (i : TypeInfo) (ht : P.underlying t = some (.slice e)) (hi : P.info? e = some i) (hz : i.zero = some (.int .u8 0)) (hsize : i.size = 1) (hby : i.bytes = 1)
    (v : Value) (n : Nat) (xs : List Value) (hown : w.ownsRow base e 1 v n xs) (a : Option Addr) (c : Nat) (l : List UInt8) (htx : Txt w a l) (hb : n + l.length ≤ 140737488355328) (hbase : base ≤ w.heap.size) :
    ∃ v' w', (Builtin.append_ #[t, t] ty #[v, .slice a l.length c]).run P w = .ok v' w' ∧ w'.ownsRow base e 1 v' (n + l.length) (xs ++ Lib.byteCells l) ∧ w.grownBy w' v.ownBlock := by
  have own : ∀ ad : Addr, (∀ j u, (Lib.byteCells l)[j]? = some u → w.cell? (ad.add j) = some u) → ∃ v' w', (Builtin.append_ #[t, t] ty #[v, .slice (some ad) l.length c]).run P w = .ok v' w' ∧ w'.ownsRow base e 1 v' (n + l.length) (xs ++ Lib.byteCells l) ∧ w.grownBy w' v.ownBlock := by
    intro ad hc
    obtain ⟨v', w', h1, h2, h3, _⟩ := run_append_own (P := P) w base t ty e i (.int .u8 0) 1 1 ht hi hz hsize hby rfl (by decide) v n xs hown ad l.length c (Lib.byteCells l) (by simp [Lib.byteCells]) hc (byteCells_one l) (by unfold maxLen; omega) (by omega) hbase
    exact ⟨v', w', h1, h2, h3⟩
  cases l with
  | nil =>
    cases a with
    | none => exact ⟨v, w, run_append_nilc w base t ty e i 1 ht hi v n xs hown c, by simpa [Lib.byteCells] using hown, World.grownBy.refl w _⟩
    | some ad => exact own ad (fun j u hj => by simp [Lib.byteCells] at hj)
  | cons x r =>
    obtain ⟨b, o, rfl, _, _⟩ := htx (by simp)
    exact own _ htx.cells

theorem wpList_append_txt {P : Program} (w : World) {ops : Array Oper} {rest : List Oper} {o : Oper} {act : Act} {Q : Exit → Act → World → Prop} (hgd : o.guard = none) (s x : Operand) (t : TypeId)
    (ho : o.op = .call { callee := .builtin .append, args := #[s, x], argTypes := #[t, t] })
    (base : Nat) (e : TypeId) (i : TypeInfo) (ht : P.underlying t = some (.slice e)) (hi : P.info? e = some i) (hz : i.zero = some (.int .u8 0)) (hsize : i.size = 1) (hby : i.bytes = 1)
    (v : Value) (n : Nat) (xs : List Value) (hs : act.eval s = v) (hown : w.ownsRow base e 1 v n xs) (a : Option Addr) (c : Nat) (l : List UInt8) (hx : act.eval x = .slice a l.length c) (htx : Txt w a l) (hb : n + l.length ≤ 140737488355328) (hbase : base ≤ w.heap.size)
    (h : ∀ v' w', w'.ownsRow base e 1 v' (n + l.length) (xs ++ Lib.byteCells l) → w.grownBy w' v.ownBlock → wpList P ops Q rest (act.put o.dst v') w') : wpList P ops Q (o :: rest) act w := by
  refine wpList_plain hgd fun K hK => ?_
  obtain ⟨v', w', hr, h2, h3⟩ := run_append_txt (P := P) w base t o.type e i ht hi hz hsize hby v n xs hown a c l htx hb hbase
  unfold Oper.wp execOp
  simp only [ho, resolve, invoke, builtin, Sem.run_bind, Sem.run_pure, Result.andThen_ok, List.map_toArray, List.map_cons, List.map_nil, hs, hx, hr]
  exact hK _ _ (h v' w' h2 h3)

/-- '[]byte{}': a row of the call's own that holds nothing. -/
theorem own_empty (w : World) (base : Nat) (e : TypeId) (hb : base ≤ w.heap.size) : (w.alloc (.cells #[] e)).ownsRow base e 1 (.slice (some ⟨w.heap.size, 0, none⟩) 0 0) 0 [] :=
  World.ownsRow_made w #[] 0 hb (Nat.zero_le _) rfl

/-- The same as one step of a region that draws its order; what is appended to is a row of the call's own that holds nothing. -/
theorem step_append_txt {P : Program} (w : World) {ops : Array Oper} {o : Oper} {act : Act} {K : Act → World → Prop} {Q : Exit → Act → World → Prop} {E : Prop} (hw : Region.wanted o (yielded ops act.tmps) = true) (s x : Operand) (t : TypeId)
    (ho : o.op = .call { callee := .builtin .append, args := #[s, x], argTypes := #[t, t] })
    (e : TypeId) (i : TypeInfo) (ht : P.underlying t = some (.slice e)) (hi : P.info? e = some i) (hz : i.zero = some (.int .u8 0)) (hsize : i.size = 1) (hby : i.bytes = 1)
    (hs : act.eval s = .slice (some ⟨w.heap.size, 0, none⟩) 0 0) (a : Option Addr) (c : Nat) (l : List UInt8) (hx : act.eval x = .slice a l.length c) (htx : Txt w a l) (hb : l.length ≤ 140737488355328)
    (h : ∀ a' c' w', Txt w' a' l → Below w.heap.size w w' → K (act.put o.dst (.slice a' l.length c')) w') : if Region.wanted o (yielded ops act.tmps) = true then Oper.wp P o act (w.alloc (.cells #[] e)) K Q else E := by
  rw [if_pos hw]
  have hown := own_empty w w.heap.size e (Nat.le_refl _)
  obtain ⟨v', w', hr, h2, h3⟩ := run_append_txt (P := P) (w.alloc (.cells #[] e)) w.heap.size t o.type e i ht hi hz hsize hby _ 0 [] hown a c l (htx.below ((Below.refl _ _).alloc (Nat.le_refl _) _)) (by omega) (by simp)
  have hb' : Below w.heap.size w w' := ((Below.refl _ _).alloc (Nat.le_refl _) _).grown h3 (by simp) (by intro k hk; simp [Value.ownBlock] at hk; omega)
  simp only [Nat.zero_add, List.nil_append] at h2
  have hform : ∃ a' c', v' = .slice a' l.length c' ∧ Txt w' a' l := by
    rcases h2.2 with ⟨rfl, h0⟩ | ⟨g, cap, cur, rfl, _⟩
    · obtain rfl : l = [] := List.eq_nil_of_length_eq_zero h0
      exact ⟨none, 0, rfl, Txt.nil _ _⟩
    · exact ⟨_, cap, rfl, (Txt.of_own h2).1⟩
  obtain ⟨a', c', rfl, htx'⟩ := hform
  unfold Oper.wp execOp
  simp only [ho, resolve, invoke, builtin, Sem.run_bind, Sem.run_pure, Result.andThen_ok, List.map_toArray, List.map_cons, List.map_nil, hs, hx, hr, Oper.upon]
  exact h a' c' w' htx' hb'

end Go.Proofs.YtolcaebdmapfbaaDoor
