/-
  Rows of 32-bit words in memory: how they are read and stored. Of types alone.
-/
import Derived.Test.YtopchpaiehoilaaDoorInf
import Derived.Deep.MidRow
namespace Go.Proofs.YtopchpaiehoilaaDoor
open Go Go.RowKit

def u32s (l : List Nat) : List Value := l.map fun (n : Nat) => Value.int .u32 (n : Int)

theorem u32s_length (l : List Nat) : (u32s l).length = l.length := by simp [u32s]
theorem u32s_one (l : List Nat) : ∀ v ∈ u32s l, v.oneCell' = true := by
  intro v hv
  obtain ⟨_, _, rfl⟩ := List.mem_map.1 hv
  rfl
theorem u32s_append (l r : List Nat) : u32s (l ++ r) = u32s l ++ u32s r := by simp [u32s]
theorem u32s_get {l : List Nat} {i : Nat} (h : i < l.length) : (u32s l)[i]? = some (.int .u32 ((l.getD i 0 : Nat) : Int)) := by
  simp [u32s, h]

/-- Block g, of type t, holds the words l. -/
def WRow (w : World) (g : Nat) (t : TypeId) (l : List Nat) : Prop := w.heap[g]? = some (.cells (u32s l).toArray t (0, 0))

theorem WRow.lt {w : World} {g : Nat} {t : TypeId} {l : List Nat} (h : WRow w g t l) : g < w.heap.size := (Array.getElem?_eq_some_iff.1 h).1
theorem WRow.below {w w' : World} {g B : Nat} {t : TypeId} {l : List Nat} (h : WRow w g t l) (hb : Below B w w') (hB : w.heap.size ≤ B) : WRow w' g t l := (hb.block g (Nat.lt_of_lt_of_le h.lt hB)).trans h
theorem WRow.cell {w : World} {g : Nat} {t : TypeId} {l : List Nat} (h : WRow w g t l) (i : Nat) (hi : i < l.length) : w.cell? ⟨g, i, none⟩ = some (.int .u32 ((l.getD i 0 : Nat) : Int)) := by
  have h' : w.heap[g]? = some (.cells (u32s l).toArray t (0, 0)) := h
  simp [World.cell?, h', u32s, hi]
theorem WRow.frozen {w : World} {g : Nat} {t : TypeId} {l : List Nat} (h : WRow w g t l) (i : Nat) : w.frozen? ⟨g, i, none⟩ = false := by
  have h' : w.heap[g]? = some (.cells (u32s l).toArray t (0, 0)) := h
  simp [World.frozen?, h']
theorem WRow.set {w : World} {g : Nat} {t : TypeId} {l : List Nat} (h : WRow w g t l) (i x : Nat) : WRow (w.setCell ⟨g, i, none⟩ (.int .u32 (x : Int))) g t (l.set i x) := by
  have h1 := heap_setCell_same w g i _ t (.int .u32 (x : Int)) h
  unfold WRow
  rw [h1]
  simp [u32s, List.map_set]
theorem WRow.drew {w : World} {g : Nat} {t : TypeId} {l : List Nat} (h : WRow w g t l) : WRow w.drew g t l := h
theorem Txt.drew {w : World} {a : Option Addr} {l : List UInt8} (h : Txt w a l) : Txt w.drew a l := h

/-- A whole row read, and stored, as a walk meets it. -/
theorem run_loadAt_row {P : Program} (w : World) (g : Nat) (t ty : TypeId) (cs : Array Value) (fr : Nat × Nat) (d : TypeDesc) (hg : w.heap[g]? = some (.cells cs t fr))
    (hu : P.underlying ty = some d) (hd : (match d with | .struct _ | .array _ _ => true | _ => false) = true) (hi : (P.info? ty).map (·.size) = some cs.size) :
    (Instr.loadAt ty (.pointer (some ⟨g, 0, none⟩))).run P w = .ok (.agg cs) w := by
  simp only [Instr.loadAt, Instr.sureAddr, Sem.run_bind, Sem.run_pure, Result.andThen_ok, run_loadVar_row w g t ty cs fr d hg hu hd hi]
theorem run_storeAt_row {P : Program} (w : World) (g : Nat) (t ty : TypeId) (old cells : Array Value) (hg : w.heap[g]? = some (.cells old t (0, 0))) (hi : (P.info? ty).map (·.size) = some cells.size)
    (ho : old.size = cells.size) (h1 : cells.all (·.oneCell') = true) :
    (Instr.storeAt ty (.pointer (some ⟨g, 0, none⟩)) (.agg cells)).run P w = .ok () (w.setRow g cells) := by
  simp only [Instr.storeAt, Instr.sureAddr, Sem.run_bind, Sem.run_pure, Result.andThen_ok, run_storeVar_row w g t ty old cells hg hi ho h1]

/-- The i-th of a list that grows into noughts. -/
theorem snoc_set (l : List Nat) (n x : Nat) (h : l.length < n) : (l ++ List.replicate (n - l.length) 0).set l.length x = (l ++ [x]) ++ List.replicate (n - (l ++ [x]).length) 0 := by
  rw [List.set_append_right _ _ (Nat.le_refl _), Nat.sub_self, List.append_assoc]
  congr 1
  rw [show n - l.length = (n - (l ++ [x]).length) + 1 by simp; omega, List.replicate_succ]
  rfl

theorem getD_left (l r : List Nat) (i : Nat) (h : i < l.length) : (l ++ r).getD i 0 = l.getD i 0 := by
  simp [List.getD_eq_getElem?_getD, List.getElem?_append_left h]

section
variable {P : Program} (w : World) {t e : TypeId} {n : Nat} (ht : P.underlying t = some (.array n e)) (he : (P.info? e).map (·.size) = some 1)
include ht he
theorem elem_arr : P.elem t = e ∧ P.arrayLen t = n ∧ (sizeOf (P.elem t)).run P w = .ok 1 w := by
  have h1 : P.elem t = e := by simp [Program.elem, ht]
  have h2 : P.arrayLen t = n := by simp [Program.arrayLen, ht]
  refine ⟨h1, h2, ?_⟩
  rw [h1]
  cases hq : P.info? e with
  | none => simp [hq] at he
  | some i => simp [hq] at he; simp [sizeOf, typeInfo, hq, he]
/-- 'x[lo:hi]' of an array of one-cell elements. -/
theorem run_slice_arr (b o : Nat) (k1 k2 : IntKind) (l h : Int) (lo hi : Nat) (hl : l = lo) (hh : h = hi) (h1 : lo ≤ hi) (h2 : hi ≤ n) (h3 : lo ≠ n) :
    (Instr.sliceAt t (.pointer (some ⟨b, o, none⟩)) (some (.int k1 l)) (some (.int k2 h)) none).run P w = .ok (.slice (some ⟨b, o + lo, none⟩) (hi - lo) (n - lo)) w := by
  obtain ⟨e1, e2, e3⟩ := elem_arr w ht he
  subst hl hh
  rw [run_sliceAt_array_lh (P := P) w t _ (by rw [e1, e2]; exact ht) k1 k2 _ _ (by omega) (by omega) (by rw [e2]; omega), e3]
  simp only [Result.andThen, slicedAt, e2, Int.toNat_natCast]
  rw [if_neg (by omega), Addr.add_mid, Nat.mul_one]
theorem run_slice_arr_from (b o : Nat) (k1 : IntKind) (l : Int) (lo : Nat) (hl : l = lo) (h1 : lo ≤ n) (h3 : lo ≠ n) :
    (Instr.sliceAt t (.pointer (some ⟨b, o, none⟩)) (some (.int k1 l)) none none).run P w = .ok (.slice (some ⟨b, o + lo, none⟩) (n - lo) (n - lo)) w := by
  obtain ⟨e1, e2, e3⟩ := elem_arr w ht he
  subst hl
  rw [run_sliceAt_array_l (P := P) w t _ (by rw [e1, e2]; exact ht) k1 _ (by omega) (by rw [e2]; omega), e3]
  simp only [Result.andThen, slicedAt, e2, Int.toNat_natCast]
  rw [if_neg (by omega), Addr.add_mid, Nat.mul_one]
theorem run_slice_arr_to (b o : Nat) (k2 : IntKind) (h : Int) (hi : Nat) (hh : h = hi) (h2 : hi ≤ n) (h3 : n ≠ 0) :
    (Instr.sliceAt t (.pointer (some ⟨b, o, none⟩)) none (some (.int k2 h)) none).run P w = .ok (.slice (some ⟨b, o, none⟩) hi n) w := by
  obtain ⟨e1, e2, e3⟩ := elem_arr w ht he
  subst hh
  rw [run_sliceAt_array_h (P := P) w t _ (by rw [e1, e2]; exact ht) k2 _ (by omega) (by rw [e2]; omega), e3]
  simp only [Result.andThen, slicedAt, e2, Int.toNat_natCast]
  rw [if_neg (by omega), Addr.add_mid]
  simp
theorem run_slice_arr_all (b o : Nat) (h3 : n ≠ 0) :
    (Instr.sliceAt t (.pointer (some ⟨b, o, none⟩)) none none none).run P w = .ok (.slice (some ⟨b, o, none⟩) n n) w := by
  obtain ⟨e1, e2, e3⟩ := elem_arr w ht he
  rw [run_sliceAt_array_all (P := P) w t _ (by rw [e1, e2]; exact ht), e3]
  simp only [Result.andThen, slicedAt, e2]
  rw [if_neg (by omega), Addr.add_mid]
  simp
end

end Go.Proofs.YtopchpaiehoilaaDoor
