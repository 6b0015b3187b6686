/-
  The operations of a region that draws its order, one by one: what each yields. Nothing here speaks of the program.
-/
import Derived.Test.YtolcaebdmapfbaaDoorOrd
import Derived.Test.YtolcaebdmapfbaaDoorApp
import Derived.ArgAppend
namespace Go.Proofs.YtolcaebdmapfbaaDoor
open Go Go.RowKit

section
variable {P : Program} {Q : Exit → Act → World → Prop} {md : Region.Mode} {lo l : List Oper} {Sp : Nat → Value → World → Prop} {B : Nat} {w0 : World} {a0 : Act}

/-- What an operation finds. -/
structure Pre (md : Region.Mode) (lo l : List Oper) (Sp : Nat → Value → World → Prop) (B : Nat) (w0 : World) (a0 : Act) (o : Oper) (a : Act) (W : World) : Prop where
  below : Below B w0 W
  base : B ≤ W.heap.size
  old : ∀ j, (lo.all fun x => !(x.dst == some j)) = true → a.tmps.getD j undef = a0.tmps.getD j undef
  pre : ∀ e ∈ o.after.toList, Region.binds md e = true → ∀ x, l[e.on]? = some x → ∀ d, x.dst = some d → d < a.tmps.size ∧ Sp e.on (a.tmps.getD d undef) W

/-- The word of the k-th predecessor. -/
theorem Pre.at_ {o : Oper} {a : Act} {W : World} (h : Pre md lo l Sp B w0 a0 o a W) (k : Nat) {n : Nat} {x : Oper} {d : Tmp} (he : o.after.toList[k]?.map (fun e => (e.on, Region.binds md e)) = some (n, true)) (hx : l[n]? = some x) (hd : x.dst = some d) :
    d < a.tmps.size ∧ Sp n (a.tmps.getD d undef) W := by
  obtain ⟨e, he1, he2⟩ := Option.map_eq_some_iff.1 he
  injection he2 with h1 h2
  subst h1
  exact h.pre e (List.mem_of_getElem? he1) h2 x hx d hd

theorem Pre.on_ {o : Oper} {a : Act} {W : World} (h : Pre md lo l Sp B w0 a0 o a W) (n : Nat) {x : Oper} {d : Tmp} (he : (o.after.toList.any fun e => e.on == n && Region.binds md e) = true) (hx : l[n]? = some x) (hd : x.dst = some d) :
    d < a.tmps.size ∧ Sp n (a.tmps.getD d undef) W := by
  obtain ⟨e, he1, he2⟩ := List.any_eq_true.1 he
  rw [Bool.and_eq_true, beq_iff_eq] at he2
  obtain ⟨rfl, h2⟩ := he2
  exact h.pre e he1 h2 x hx d hd

theorem Step.of {i : Nat} {o : Oper} (h : ∀ a W, Pre md lo l Sp B w0 a0 o a W → wpOp P l.toArray Q i (fun a' W' => ∃ v, a' = a.put o.dst v ∧ Sp i v W' ∧ Below W.heap.size W W') a W) : Step P md Q lo l Sp B w0 a0 i o :=
  fun a W h1 h2 h3 h4 => h a W ⟨h1, h2, fun j hj => h3 j (fun x hx hd => by
    have := (List.all_eq_true.1 hj) x hx
    simp [hd] at this), h4⟩

theorem wpOp_of {i : Nat} {o : Oper} {a : Act} {W : World} {K : Act → World → Prop} (hi : l[i]? = some o) (hw : Region.wanted o (yielded l.toArray a.tmps) = true) (h : o.wp P a W K Q) : wpOp P l.toArray Q i K a W := by
  have hi' : l.toArray[i]? = some o := by simpa using hi
  unfold wpOp
  simp only [hi', hw, if_true]
  exact .inl h

theorem wanted_none {o : Oper} {f : Nat → Option Bool} (h : o.guard = none) : Region.wanted o f = true := by simp [Region.wanted, h]
theorem wanted_some {o : Oper} {a : Act} {j : Nat} {x : Oper} {d : Tmp} (h : o.guard = some (j, true)) (hx : l[j]? = some x) (hd : x.dst = some d) (hlt : d < a.tmps.size) (hv : a.tmps.getD d undef = .bool true) : Region.wanted o (yielded l.toArray a.tmps) = true := by
  have hx' : l.toArray[j]? = some x := by simpa using hx
  have hv' : a.tmps[d]? = some (.bool true) := by
    rw [Array.getElem?_eq_getElem hlt]
    simpa [Array.getD, hlt] using hv
  simp [Region.wanted, h, yielded, hx', hd, hv']

/-- An operation that yields at once. -/
theorem step_value {i : Nat} {o : Oper} (hi : l[i]? = some o) (h : ∀ a W, Pre md lo l Sp B w0 a0 o a W → Region.wanted o (yielded l.toArray a.tmps) = true ∧ ∃ v W', (execOp a.eval o).run P W = .ok (.value v) W' ∧ Sp i v W' ∧ Below W.heap.size W W') :
    Step P md Q lo l Sp B w0 a0 i o := Step.of fun a W hp => by
  obtain ⟨hw, v, W', hr, hs, hb⟩ := h a W hp
  refine wpOp_of hi hw ?_
  unfold Oper.wp
  rw [hr]
  exact ⟨v, rfl, hs, hb⟩

/-- A call of a Go function. -/
theorem step_enter {i : Nat} {o : Oper} (hi : l[i]? = some o) (h : ∀ a W, Pre md lo l Sp B w0 a0 o a W → Region.wanted o (yielded l.toArray a.tmps) = true ∧ ∃ f args, (execOp a.eval o).run P W = .ok (.enter f args) W ∧ Calls P f args W fun e W' => ∃ v, e = .returned v ∧ Sp i v W' ∧ Below W.heap.size W W') :
    Step P md Q lo l Sp B w0 a0 i o := Step.of fun a W hp => by
  obtain ⟨hw, f, args, hr, hc⟩ := h a W hp
  refine wpOp_of hi hw ?_
  unfold Oper.wp
  rw [hr, Oper.upon_enter]
  refine hc.mono ?_
  rintro e W' ⟨v, rfl, hs, hb⟩
  exact ⟨v, rfl, hs, hb⟩

theorem run_move {o : Oper} {ρ : Operand → Value} {x : Operand} {W : World} (ho : o.op = .move x ∨ o.op = .assign x) : (execOp ρ o).run P W = .ok (.value (ρ x)) W := by
  rcases ho with ho | ho <;> simp [execOp, ho]
theorem run_pick {o : Oper} {ρ : Operand → Value} {c x y : Operand} {W : World} (ho : o.op = .pick c x y) (hc : ρ c = .bool true) : (execOp ρ o).run P W = .ok (.value (ρ x)) W := by
  simp [execOp, ho, hc, go_sem]
theorem run_conv {o : Oper} {ρ : Operand → Value} {s d : TypeId} {x : Operand} {v : Value} {W W' : World} (ho : o.op = .convert s d x) (hc : (convert s d (ρ x)).run P W = .ok v W') : (execOp ρ o).run P W = .ok (.value v) W' := by
  simp [execOp, ho, hc, Result.andThen]
theorem run_eqstr {o : Oper} {ρ : Operand → Value} {t t2 : TypeId} {x y : Operand} {s : ByteArray} {W : World} (ho : o.op = .binOp .eql t x y t2) (hx : ρ x = .string s) (hy : ρ y = .string s) : (execOp ρ o).run P W = .ok (.value (.bool true)) W := by
  simp [execOp, ho, hx, hy, eqGuard, binOp, Op.stringOp]
theorem run_build0 {o : Oper} {ρ : Operand → Value} {t e : TypeId} {i : TypeInfo} {W : World} (ho : o.op = .buildSlice t 0 #[]) (ht : P.underlying t = some (.slice e)) (hi : P.info? e = some i) :
    (execOp ρ o).run P W = .ok (.value (.slice (some ⟨W.heap.size, 0, none⟩) 0 0)) (W.alloc (.cells #[] e)) := by
  simp [execOp, ho, Instr.buildSlice, run_underlying ht, sizeOf, typeInfo, hi, Instr.fill, newRow, Result.andThen, Array.range_zero']
theorem run_enter2 {o : Oper} {ρ : Operand → Value} {f : FuncId} {x y : Operand} {ts : Array TypeId} {W : World} (ho : o.op = .call { callee := .value (.func f), args := #[x, y], argTypes := ts }) (hf : ρ (.func f) = .func (.func f) #[] #[]) (hcf : ∀ (args : Array Value) (w : World), (callFunc f args).run P w = .ok (.enter f args) w) :
    (execOp ρ o).run P W = .ok (.enter f #[ρ x, ρ y]) W := by
  simp [execOp, ho, resolve, hf, invoke, Deferred.ofValue, hcf]

theorem run_enter1 {o : Oper} {ρ : Operand → Value} {f : FuncId} {x : Operand} {ts : Array TypeId} {W : World} (ho : o.op = .call { callee := .value (.func f), args := #[x], argTypes := ts }) (hf : ρ (.func f) = .func (.func f) #[] #[]) (hcf : ∀ (args : Array Value) (w : World), (callFunc f args).run P w = .ok (.enter f args) w) :
    (execOp ρ o).run P W = .ok (.enter f #[ρ x]) W := by
  simp [execOp, ho, resolve, hf, invoke, Deferred.ofValue, hcf]
/-- 'x[lo:hi]', not at the row's end. -/
theorem run_cut {o : Oper} {ρ : Operand → Value} {t e : TypeId} {i : TypeInfo} {x : Operand} {lo hi : Int} {a : Addr} {len cap : Nat} {W : World} (ho : o.op = .slice t x (some (.const (.int .i64 lo))) (some (.const (.int .i64 hi))) none) (hlo : ρ (.const (.int .i64 lo)) = .int .i64 lo) (hhi : ρ (.const (.int .i64 hi)) = .int .i64 hi)
    (ht : P.underlying t = some (.slice e)) (hi' : P.info? e = some i) (hs : i.size = 1) (hx : ρ x = .slice (some a) len cap) (h0 : 0 ≤ lo) (h1 : lo ≤ hi) (h2 : hi ≤ cap) (h3 : cap ≠ lo.toNat) :
    (execOp ρ o).run P W = .ok (.value (.slice (some (a.add lo.toNat)) (hi.toNat - lo.toNat) (cap - lo.toNat))) W := by
  have he : P.elem t = e := by simp [Program.elem, ht]
  have ht' : P.underlying t = some (.slice (P.elem t)) := by rw [he]; exact ht
  simp only [execOp, ho, Option.map_some, Option.map_none, hx, hlo, hhi]
  simp [run_sliceAt_slice W t _ _ _ _ ht', run_slice_lh W t (some a) len cap ht' .i64 .i64 lo hi h0 h1 h2, he, sizeOf, typeInfo, hi', hs, sliced, h3, Result.andThen]

/-- A frame of slots, written out: what is not known of it is f. -/
theorem act_eta {a : Act} {n : Nat} (hs : a.tmps.size = n) (hd : a.defers = []) : ∃ f : Nat → Value, (∀ i, a.tmps.getD i undef = f i) ∧ a = { tmps := ((List.range n).map f).toArray, defers := [] } := by
  refine ⟨fun i => a.tmps.getD i undef, fun _ => rfl, ?_⟩
  obtain ⟨tmps, defers⟩ := a
  simp only at hs hd
  subst hd
  congr 1
  apply Array.ext
  · simp [hs]
  · intro i h1 h2
    simp [Array.getD, h1]

/-- Words: an empty row; a text's slice; a value. -/
def wEmp (e : TypeId) (v : Value) (W : World) : Prop := ∃ g, v = .slice (some ⟨g, 0, none⟩) 0 0 ∧ W.heap[g]? = some (.cells #[] e (0, 0))
def wTxt (L : List UInt8) (v : Value) (W : World) : Prop := ∃ a c, v = .slice a L.length c ∧ Txt W a L
def wIs (c : Value) (v : Value) (_ : World) : Prop := v = c

def Stable (f : Value → World → Prop) : Prop := ∀ v W W', f v W → Below W.heap.size W W' → f v W'
theorem stable_emp (e : TypeId) : Stable (wEmp e) := fun _ _ _ ⟨g, h1, h2⟩ hb => ⟨g, h1, (hb.block g (Array.getElem?_eq_some_iff.1 h2).1).trans h2⟩
theorem stable_txt (L : List UInt8) : Stable (wTxt L) := fun _ _ _ ⟨a, c, h1, h2⟩ hb => ⟨a, c, h1, h2.below hb⟩
theorem stable_is (c : Value) : Stable (wIs c) := fun _ _ _ h _ => h

/-- The words of a region, one an operation. -/
def words (ws : List (Value → World → Prop)) (i : Nat) : Value → World → Prop := (ws[i]?).getD (fun _ _ => True)
theorem words_stable {ws : List (Value → World → Prop)} (h : ∀ f ∈ ws, Stable f) : ∀ i v W W', words ws i v W → Below W.heap.size W W' → words ws i v W' := by
  intro i v W W' hv hb
  unfold words at *
  cases hi : ws[i]? with
  | none => simp
  | some f =>
    rw [hi] at hv
    exact h f (List.mem_of_getElem? hi) v W W' hv hb

theorem run_append_empty (W : World) (t ty e : TypeId) (i : TypeInfo) (ht : P.underlying t = some (.slice e)) (hi : P.info? e = some i) (hz : i.zero = some (.int .u8 0)) (hsize : i.size = 1) (hby : i.bytes = 1)
    (v : Value) (hv : wEmp e v W) (a : Option Addr) (c : Nat) (l : List UInt8) (htx : Txt W a l) (hb : l.length ≤ 140737488355328) :
    ∃ v' W', (Builtin.append_ #[t, t] ty #[v, .slice a l.length c]).run P W = .ok v' W' ∧ wTxt l v' W' ∧ Below W.heap.size W W' := by
  obtain ⟨g, rfl, hg⟩ := hv
  have hown : W.ownsRow 0 e 1 (.slice (some ⟨g, 0, none⟩) 0 0) 0 [] := ⟨by simp, .inr ⟨g, 0, #[], rfl, Nat.zero_le _, hg, Nat.le_refl _, Nat.zero_le _, rfl, by simp⟩⟩
  cases l with
  | nil =>
    cases a with
    | none => exact ⟨_, W, run_append_nilc W 0 t ty e i 1 ht hi _ 0 [] hown c, ⟨some ⟨g, 0, none⟩, 0, rfl, Txt.nil _ _⟩, Below.refl _ _⟩
    | some ad =>
      have hr := run_append_room_cells (P := P) W t ty e i ht hi g 0 0 0 ad 0 c [] (by simp) (fun j u hj => by simp at hj) (fun u hu => by cases hu) (Nat.le_refl _) (fun j hj => by simp at hj) (fun j hj => by simp at hj)
      exact ⟨_, _, hr, ⟨some ⟨g, 0, none⟩, 0, rfl, Txt.nil _ _⟩, Below.refl _ _⟩
  | cons x r =>
    obtain ⟨b, o, rfl, _, _⟩ := htx (by simp)
    obtain ⟨v', W', hr, r1, r2⟩ := run_append_arg_grows (P := P) W t ty e i (.int .u8 0) 1 1 ht hi hz hsize hby rfl (by decide) ⟨g, 0, none⟩ 0 0 [] (by simp) (fun j u hj => by simp at hj) ⟨b, o, none⟩ (x :: r).length c (Lib.byteCells (x :: r)) (by simp [Lib.byteCells]) htx.cells (by simp) (by unfold maxLen; omega) (by omega)
    rw [Nat.zero_add, List.nil_append] at r1
    refine ⟨v', W', hr, ?_, (Below.refl _ _).grown r2 (Nat.le_refl _) (fun k hk => by cases hk)⟩
    rcases r1.2 with ⟨rfl, h0⟩ | ⟨g', cap, cur, rfl, _⟩
    · simp at h0
    · exact ⟨_, cap, rfl, (Txt.of_own r1).1⟩

theorem run_app {o : Oper} {ρ : Operand → Value} {s x : Operand} {t : TypeId} {v : Value} {W W' : World} (ho : o.op = .call { callee := .builtin .append, args := #[s, x], argTypes := #[t, t] }) (hr : (Builtin.append_ #[t, t] o.type #[ρ s, ρ x]).run P W = .ok v W') :
    (execOp ρ o).run P W = .ok (.value v) W' := by
  unfold execOp
  simp only [ho, resolve, invoke, builtin, Sem.run_bind, Sem.run_pure, Result.andThen_ok, List.map_toArray, List.map_cons, List.map_nil, hr]

end
end Go.Proofs.YtolcaebdmapfbaaDoor
