/-
  More operations of a region that draws its order: arrays behind pointers, strings' bytes, literals of slices. Nothing here speaks of the program.
-/
import Derived.Test.YtolcaebdmapfbaaDoorOrd3
import Derived.WalkKit
namespace Go.Proofs.YtolcaebdmapfbaaDoor
open Go Go.RowKit

section
variable {P : Program} {W : World} {o : Oper} {ρ : Operand → Value}

theorem run_idxarr {t e : TypeId} {n : Nat} {i : TypeInfo} {x ix : Operand} {g k : Nat} (ho : o.op = .indexAddr t x ix) (ht : P.underlying t = some (.array n e)) (hi : P.info? e = some i) (hs : i.size = 1)
    (hx : ρ x = .pointer (some ⟨g, 0, none⟩)) (hk : ρ ix = .int .i64 (k : Int)) (hlt : k < n) : (execOp ρ o).run P W = .ok (.value (.pointer (some ⟨g, k, none⟩))) W := by
  have he : P.elem t = e := by simp [Program.elem, ht]
  have hn : P.arrayLen t = n := by simp [Program.arrayLen, ht]
  have ht' : P.underlying t = some (.array (P.arrayLen t) (P.elem t)) := by rw [he, hn]; exact ht
  simp [execOp, ho, hx, hk, run_indexAt_array W t ⟨g, 0, none⟩ .i64 (k : Int) ht', he, hn, sizeOf, typeInfo, hi, hs, hlt, Result.andThen, Addr.add]
  omega
theorem run_idxstr {t : TypeId} {x ix : Operand} {s c : Value} {z : Value} (ho : o.op = .index t x ix) (hx : ρ x = s) (hk : ρ ix = z) (h : (Instr.index t s z).run P W = .ok c W) : (execOp ρ o).run P W = .ok (.value c) W := by
  simp [execOp, ho, hx, hk, h, Result.andThen]
theorem run_ld1 {k : IntKind} {t : TypeId} {i : TypeInfo} {x : Operand} {a : Addr} {v : Value} (ho : o.op = .load t x) (hu : P.underlying t = some (.int k)) (hi : P.info? t = some i) (hs : i.size = 1)
    (hx : ρ x = .pointer (some a)) (hc : W.cell? a = some v) : (execOp ρ o).run P W = .ok (.value v) W := by
  simp [execOp, ho, hx, Instr.loadAt, hc, sizeOf, typeInfo, hi, hs, Result.andThen, go_sem, isAgg, run_underlying hu]
theorem run_build1 {t e : TypeId} {i : TypeInfo} {x : Operand} {z v : Value} (ho : o.op = .buildSlice t 1 #[(0, x)]) (ht : P.underlying t = some (.slice e)) (hi : P.info? e = some i) (hz : i.zero = some z) (hs : i.size = 1) (hzc : z.cells = #[z]) (hx : ρ x = v) (hv : v.cells = #[v]) :
    (execOp ρ o).run P W = .ok (.value (.slice (some ⟨W.heap.size, 0, none⟩) 1 1)) (W.alloc (.cells #[v] e)) := by
  have hr : Array.range 1 = #[0] := by decide
  simp [hr, execOp, ho, Instr.buildSlice, run_underlying ht, sizeOf, typeInfo, hi, hs, zeroValue, hz, hzc, Instr.fill, newRow, Result.andThen, hx, hv]
theorem run_build2 {t e : TypeId} {i : TypeInfo} {x y : Operand} {z v u : Value} (ho : o.op = .buildSlice t 2 #[(0, x), (1, y)]) (ht : P.underlying t = some (.slice e)) (hi : P.info? e = some i) (hz : i.zero = some z) (hs : i.size = 1) (hzc : z.cells = #[z]) (hx : ρ x = v) (hy : ρ y = u) (hv : v.cells = #[v]) (hu : u.cells = #[u]) :
    (execOp ρ o).run P W = .ok (.value (.slice (some ⟨W.heap.size, 0, none⟩) 2 2)) (W.alloc (.cells #[v, u] e)) := by
  have hr : Array.range 2 = #[0, 1] := by decide
  simp [hr, execOp, ho, Instr.buildSlice, run_underlying ht, sizeOf, typeInfo, hi, hs, zeroValue, hz, hzc, Instr.fill, newRow, Result.andThen, hx, hy, hv, hu]
end
end Go.Proofs.YtolcaebdmapfbaaDoor
