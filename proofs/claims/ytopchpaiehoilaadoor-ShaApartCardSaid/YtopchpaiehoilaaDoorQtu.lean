/-
  What the document's own turn does.
-/
import Derived.Test.YtopchpaiehoilaaDoorHro
namespace Go.Proofs.YtopchpaiehoilaaDoor
open Go Go.RowKit

set_option maxRecDepth 100000 in
theorem turn_any (n x : Nat) (w : World) (h1 : 1 ≤ n) (h2 : n ≤ 31) (hx : x < 4294967296) :
    Calls Tryd.prog 20 #[.int .u32 x, .int .u64 n] w fun e w' => e = .returned (.int .u32 (rot n x)) ∧ w = w' := by
  have e3 : bits .or .u32 ((x / 2 ^ n : Nat) : Int) ((x * 2 ^ (32 - n) % 4294967296 : Nat) : Int) = ((rot n x : Nat) : Int) := by
    rw [u32_or_nat _ _ (Nat.lt_of_le_of_lt (Nat.div_le_self _ _) hx) (Nat.mod_lt _ (by decide))]
    rfl
  have e32 : (32 : Int) - (n : Int) = ((32 - n : Nat) : Int) := by omega
  have E3 := Lib.hid e3
  clear e3
  go_enter Tryd.func20, Tryd.ntmps20
  go_wp2
  go_ret
  refine ⟨?_, rfl⟩
  congr 2
  have h := E3.out
  simpa using h
end Go.Proofs.YtopchpaiehoilaaDoor
