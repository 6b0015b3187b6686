/-
  What the type table says of bytes; what a call that hands back bytes leaves.
-/
import Derived.Test.YtolcaebdmapfbaaDoorRows
import Derived.Test.YtolcaebdmapfbaaDoorByt
namespace Go.Proofs.YtolcaebdmapfbaaDoor
open Go Go.RowKit

theorem info_byte : (Tryd.prog.info? 5).map (fun i => (i.zero, i.size, i.bytes)) = some (some (.int .u8 0), 1, 1) := by kernel_rfl
theorem size_byte : (Tryd.prog.info? 5).map (·.size) = some 1 := by kernel_rfl

/-- A call hands back the bytes L, and older memory is as it was. -/
def Gives (w : World) (L : List UInt8) (e : Ending) (w' : World) : Prop :=
  ∃ a c, e = .returned (.slice a L.length c) ∧ Txt w' a L ∧ L.length ≤ c ∧ c ≤ maxLen ∧ Below w.heap.size w w'

theorem gives_of {w w' : World} {L : List UInt8} {e : Ending} (h : ∃ v, e = .returned v ∧ w'.ownsRow w.heap.size 5 1 v L.length (Lib.byteCells L) ∧ Below w.heap.size w w') : Gives w L e w' := by
  obtain ⟨v, rfl, hown, hb⟩ := h
  rcases hown.2 with ⟨rfl, h0⟩ | ⟨g, cap, cur, rfl, _, _, hnc, hcm, _⟩
  · obtain rfl : L = [] := List.eq_nil_of_length_eq_zero h0
    exact ⟨none, 0, rfl, Txt.nil _ _, Nat.le_refl _, Nat.zero_le _, hb⟩
  · exact ⟨_, cap, rfl, (Txt.of_own hown).1, hnc, hcm, hb⟩

theorem below_drewN {B : Nat} {a w : World} (h : Below B a w) (n : Nat) : Below B a (w.drewN n) := ⟨h.os, h.tape, h.output, h.size, h.block⟩

/-- 'make([]byte, n)'. -/
theorem run_make_bytes (n : Nat) (hn : n ≤ 140737488355328) (k1 k2 : Int) (h1 : k1 = (n : Int)) (h2 : k2 = (n : Int)) (W : World) :
    (Instr.makeSlice 48 (.int .i64 k1) (.int .i64 k2)).run Tryd.prog W = .ok (.slice (some ⟨W.heap.size, 0, none⟩) n n) (W.alloc (.cells (Lib.byteCells (List.replicate n 0)).toArray 5)) := by
  obtain ⟨i0, hi, hz0, hz1, hz2⟩ := info_parts info_byte
  subst h1 h2
  have h := run_make (P := Tryd.prog) W 48 5 i0 (.int .u8 0) Tryd.underlying48 hi hz0 .i64 .i64 (n : Int) (n : Int) (by omega) (by omega) (by rw [hz2]; omega) (by omega)
  rw [h, hz1]
  have e : madeCells #[.int .u8 0] n = (Lib.byteCells (List.replicate n 0)).toArray := by
    apply Array.ext
    · simp [madeCells, Lib.byteCells]
    · intro i h1 h2
      simp [madeCells, Lib.byteCells, Nat.mod_one]
  rw [← e]
  simp [Value.cells]

/-- A literal's bytes. -/
theorem lit_txt (w : World) (L : List UInt8) (C : Array Value) (hC : C = (Lib.byteCells L).toArray) (e : TypeId) (fr : Nat × Nat) : Txt (w.alloc (.cells C e fr)) (some ⟨w.heap.size, 0, none⟩) L := fun _ => ⟨w.heap.size, 0, rfl, by simp, fun i hi => by
  rw [Nat.zero_add, World.cell?_alloc_mark, hC]
  simp [Lib.byteCells, hi]⟩

/-- A row of the call's own stays its own. -/
theorem own_below {w w' : World} {base : Nat} {e : TypeId} {s : Nat} {v : Value} {n : Nat} {xs : List Value} (h : w.ownsRow base e s v n xs) (hb : Below w.heap.size w w') : w'.ownsRow base e s v n xs := by
  refine ⟨h.1, ?_⟩
  rcases h.2 with h | ⟨g, cap, cur, e, hg, hgc, h5⟩
  · exact .inl h
  · exact .inr ⟨g, cap, cur, e, hg, (hb.block g (Array.getElem?_eq_some_iff.1 hgc).1).trans hgc, h5⟩

end Go.Proofs.YtolcaebdmapfbaaDoor
