/-
  What math/bits.RotateLeft32 does at a turn to the right.
-/
import Derived.Test.YtopchpaiehoilaaDoorInf
import Derived.Test.YtopchpaiehoilaaDoorHpu
import Derived.Laws.BitsAllLaws
namespace Go.Proofs.YtopchpaiehoilaaDoor
open Go Go.RowKit

theorem turn_by (n : Nat) (h1 : 1 ≤ n) (h2 : n ≤ 31) : bits BinOp.and IntKind.u64 (IntKind.u64.wrap (-(n : Int))) 31 = ((32 - n : Nat) : Int) := by
  have e : IntKind.u64.wrap (-(n : Int)) = ((18446744073709551616 - n : Nat) : Int) := by rw [IntKind.wrap_u64]; omega
  rw [e, show (31 : Int) = ((31 : Nat) : Int) from rfl, u64_and_nat _ _ (by omega) (by decide)]
  congr 1
  have h := Nat.and_two_pow_sub_one_eq_mod (18446744073709551616 - n) 5
  have h' : (18446744073709551616 - n) &&& 31 = (18446744073709551616 - n) % 32 := h
  rw [h']
  omega

set_option maxRecDepth 100000 in
theorem rot_any (n x : Nat) (w : World) (h1 : 1 ≤ n) (h2 : n ≤ 31) (hx : x < 4294967296) :
    Calls Tryd.prog 22 #[.int .u32 x, .int .i64 (-(n : Int))] w fun e w' => e = .returned (.int .u32 (rot n x)) ∧ w = w' := by
  have e1 := turn_by n h1 h2
  obtain ⟨k, hk⟩ : ∃ k, k = 32 - n := ⟨_, rfl⟩
  have hn : n = 32 - k := by omega
  rw [← hk] at e1
  have k1 : 1 ≤ k := by omega
  have k2 : k ≤ 31 := by omega
  have e2 : IntKind.u32.wrap ((x : Int) * 2 ^ k) = ((x * 2 ^ k % 4294967296 : Nat) : Int) := by
    rw [IntKind.wrap_u32]; simp
  have e3 : bits .or .u32 ((x * 2 ^ k % 4294967296 : Nat) : Int) ((x / 2 ^ (32 - k) : Nat) : Int) = ((rot n x : Nat) : Int) := by
    rw [u32_or_nat _ _ (Nat.mod_lt _ (by decide)) (Nat.lt_of_le_of_lt (Nat.div_le_self _ _) hx)]
    congr 1
    unfold rot
    rw [Nat.or_comm, hn, show 32 - (32 - k) = k by omega]
  have E2 := Lib.hid e2
  have E3 := Lib.hid e3
  clear e2 e3 hk hn h1 h2
  go_enter Tryd.func22, Tryd.ntmps22
  go_wp2
  go_ret
  refine ⟨?_, rfl⟩
  congr 2
  have h := E3.out
  simpa using h
/-- The same, as a walk meets it. -/
theorem rot_at (k : Int) (x : Nat) (w : World) (h : -31 ≤ k ∧ k ≤ -1) (hx : x < 4294967296) :
    Calls Tryd.prog 22 #[.int .u32 x, .int .i64 k] w fun e w' => e = .returned (.int .u32 (rot k.natAbs x)) ∧ w = w' := by
  have h1 := rot_any k.natAbs x w (by omega) (by omega) hx
  rwa [show -((k.natAbs : Nat) : Int) = k by omega] at h1

theorem xor_int {a b : Nat} (ha : a < 4294967296) (hb : b < 4294967296) : bits .xor .u32 (a : Int) (b : Int) = ((a ^^^ b : Nat) : Int) := u32_xor_nat a b ha hb
theorem add_int (a b : Nat) : IntKind.u32.wrap ((a : Int) + (b : Int)) = ((add32 a b : Nat) : Int) := by rw [IntKind.wrap_u32]; unfold add32; omega
theorem add_int' (a b : Nat) : ((a : Int) + (b : Int)) % 4294967296 = ((add32 a b : Nat) : Int) := by unfold add32; omega
end Go.Proofs.YtopchpaiehoilaaDoor
