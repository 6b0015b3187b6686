/-
  What the row's condition says of the library's two errors.
-/
import Derived.Test.YtolcaebdmapfbaaDoorLcu
import Derived.Test.YtolcaebdmapfbaaDoorRows
import Derived.LaidSub
import Derived.LaidLaws
namespace Go.Proofs.YtolcaebdmapfbaaDoor
open Go Go.RowKit

abbrev LAID : List (String × DataW Unit) := [("math/bits.deBruijn32tab", Rows.laid_math_bits_deBruijn32tab), ("math/bits.deBruijn64tab", Rows.laid_math_bits_deBruijn64tab), ("internal/strconv.uint64pow10", Rows.laid_internal_strconv_uint64pow10), ("strconv.ErrRange", Rows.laid_strconv_ErrRange), ("strconv.ErrSyntax", Rows.laid_strconv_ErrSyntax)]

theorem range_number : Tryd.prog.globalNamed "strconv.ErrRange" = some 2 := by kernel_rfl
theorem syntax_number : Tryd.prog.globalNamed "strconv.ErrSyntax" = some 1 := by kernel_rfl
theorem range_type : (Tryd.prog.globals[2]?).map (·.type) = some 56 := by kernel_rfl
theorem syntax_type : (Tryd.prog.globals[1]?).map (·.type) = some 56 := by kernel_rfl
theorem star_name : "*" ++ "errors.errorString" = "*errors.errorString" := by decide
theorem row_err (u : TypeId) (h : Tryd.prog.typeName? 3 u = some "*errors.errorString") : u = 77 :=
  typeName_ptr_named (nm := "errors.errorString") (by rw [star_name]; kernel_rfl) (by kernel_rfl) (by decide) u (by rw [star_name]; exact h)
theorem cells_err : Tryd.prog.cellsOf 79 = 1 := by kernel_rfl
theorem cells_str : Tryd.prog.cellsOf 9 = 1 := by kernel_rfl

theorem err_of_laid {W : World} {name : String} {n : Nat} {msg : List UInt8} (hn : Tryd.prog.globalNamed name = some n) (ht : (Tryd.prog.globals[n]?).map (·.type) = some 56)
    (h : laidMet Tryd.prog [(name, .iface "*errors.errorString" (.ptr (.agg [.lit (.string msg)])))] W) : ∃ te pe, W.cell? ⟨n, 0, none⟩ = some (.iface te pe) := by
  obtain ⟨ps, ⟨g0, t0, cs0, f0, p0, q0, hg0, ht0, hv0, hd0, hq0, e0⟩, hnd, hrows⟩ := h
  obtain rfl := Option.some.inj (hn.symm.trans hg0)
  obtain rfl := Option.some.inj (ht.symm.trans ht0)
  subst e0
  obtain ⟨l0⟩ := cs0
  have ok0 : ∀ u v, l0 = [.iface u v] → Value.okWide Tryd.prog W .any 0 u v := fun u v e => by
    subst e
    exact (hrows n 0 (by simp [MemPlace.row])).2 u v (by simpa using World.var?_cell hg0 hv0 0)
  obtain ⟨a0, s0, rfl, hc0, hs0, hz0, rfl⟩ := errorString_of_trod Tryd.underlying56 row_err Tryd.underlying77 Tryd.underlying79 rfl rfl Tryd.underlying9 cells_err cells_str hd0 ok0
  exact ⟨_, _, by simpa using World.var?_cell hg0 hv0 0⟩

theorem tab_of {W : World} (h : laidMet Tryd.prog LAID W) : Errs W := by
  constructor
  · have h1 := h.filter (fun x => x.1 == "strconv.ErrSyntax")
    exact err_of_laid syntax_number syntax_type h1
  · have h1 := h.filter (fun x => x.1 == "strconv.ErrRange")
    exact err_of_laid range_number range_type h1
end Go.Proofs.YtolcaebdmapfbaaDoor
