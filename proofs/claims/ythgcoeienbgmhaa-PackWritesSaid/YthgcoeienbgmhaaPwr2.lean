/-
  What pack's writers do: fold, I, S. Each leaves older memory as it was.
-/
import Derived.Test.YthgcoeienbgmhaaPwr
import Derived.Laws.BitsAllLaws
namespace Go.Proofs.Ythgcoeienbgmhaa
open Go Go.RowKit

theorem fold_bits (v : Int) (h0 : -9223372036854775808 ≤ v) (h1 : v ≤ 9223372036854775807) :
    bits .xor .u64 (IntKind.u64.wrap (IntKind.u64.wrap v * 2)) (IntKind.u64.wrap (v / 9223372036854775808)) = ((Lib.zigzag v : Nat) : Int) := by
  by_cases h : 0 ≤ v
  · have e1 : IntKind.u64.wrap (IntKind.u64.wrap v * 2) = ((2 * v).toNat : Nat) := by
      rw [IntKind.wrap_u64, IntKind.wrap_u64]; omega
    have e2 : IntKind.u64.wrap (v / 9223372036854775808) = ((0 : Nat) : Int) := by
      rw [IntKind.wrap_u64]; omega
    rw [e1, e2, bits_xor_u64_nat _ _ (by omega) (by omega), Nat.xor_zero]
    unfold Lib.zigzag
    rw [if_pos h]
  · have e1 : IntKind.u64.wrap (IntKind.u64.wrap v * 2) = (((2 * v + 18446744073709551616).toNat : Nat) : Int) := by
      rw [IntKind.wrap_u64, IntKind.wrap_u64]; omega
    have e2 : IntKind.u64.wrap (v / 9223372036854775808) = ((2 ^ 64 - 1 : Nat) : Int) := by
      rw [IntKind.wrap_u64]; omega
    rw [e1, e2, bits_xor_u64_nat _ _ (by omega) (by decide), Nat.xor_comm, Lib.xor_ones64 _ (by omega)]
    unfold Lib.zigzag
    rw [if_neg h]
    omega

theorem u64_eq {a b : Int} (h : a = b) : Ending.returned (.int .u64 a) = .returned (.int .u64 b) := by rw [h]

set_option maxHeartbeats 400000 in
/-- fold(v): zig-zag. -/
theorem fold_any (v : Int) (w : World) (h0 : -9223372036854775808 ≤ v) (h1 : v ≤ 9223372036854775807) :
    Calls Try.prog 31 #[.int .i64 v] w fun e w' => e = .returned (.int .u64 (Lib.zigzag v)) ∧ w = w' := by
  go_enter Try.func31, Try.ntmps31
  go_wp2
  go_ret
  exact ⟨u64_eq (fold_bits v h0 h1), rfl⟩

/-- I(b, v): b's bytes and those of v's number. -/
theorem I_any (a : Option Addr) (c : Nat) (v : Int) (l : List UInt8) (w : World) (ht : Txt w a l) (h0 : -9223372036854775808 ≤ v) (h1 : v ≤ 9223372036854775807) (hb : l.length + 10 ≤ 140737488355328) :
    Calls Try.prog 19 #[.slice a l.length c, .int .i64 v] w fun e w' => ∃ r, e = .returned r ∧ w'.ownsRow w.heap.size 5 1 r (l ++ Lib.uvarint (Lib.zigzag v)).length (Lib.byteCells (l ++ Lib.uvarint (Lib.zigzag v))) ∧ Below w.heap.size w w' := by
  go_enter Try.func19, Try.ntmps19
  go_wp2_with fail
  refine (fold_any v w h0 h1).mono ?_
  rintro e w1 ⟨rfl, rfl⟩
  go_wp2_with fail
  refine (U_any a c _ l w ht (Lib.zigzag_lt h0 h1) hb).mono ?_
  rintro e w2 ⟨v2, rfl, hown2, hb2⟩
  go_wp2_with fail
  go_ret
  exact ⟨v2, rfl, hown2, hb2⟩

set_option maxHeartbeats 800000 in
/-- S(b, s): b's bytes, how many s has, and these. -/
theorem S_any (a : Option Addr) (c : Nat) (s : ByteArray) (l : List UInt8) (w : World) (ht : Txt w a l) (hb : l.length + 20 + s.size ≤ 140737488355328) :
    Calls Try.prog 21 #[.slice a l.length c, .string s] w fun e w' => ∃ r, e = .returned r ∧ w'.ownsRow w.heap.size 5 1 r (l ++ Lib.uvarint s.size ++ s.data.toList).length (Lib.byteCells (l ++ Lib.uvarint s.size ++ s.data.toList)) ∧ Below w.heap.size w w' := by
  obtain ⟨i0, hi, hz0, hz1, hz2⟩ := info_parts info_byte
  go_enter Try.func21, Try.ntmps21
  go_wp2_with fail
  rw [show ((10 : Int) + (s.size : Int)) = ((10 + s.size : Nat) : Int) from by omega]
  refine (copyWithRoom_any a c (10 + s.size) l w ht (by omega)).mono ?_
  rintro e w1 ⟨v, rfl, hown, hb1⟩
  go_wp2_with fail
  refine (appendNumber_any w.heap.size l.length s.size (by omega) v _ w1 hown hb1.size (by omega)).mono ?_
  rintro e w2 ⟨v2, rfl, hown2, hb2⟩
  have hb3 := hb1.trans hb2
  have hul := Lib.uvarint_length64 (x := s.size) (by omega)
  go_wp2_with (at_builtin; refine Lib.wpList_append_own_string _ rfl _ _ 25 9 rfl w.heap.size 5 i0 Try.underlying25 Try.underlying9 hi hz0 hz1 hz2 _ _ _ rfl hown2 s rfl ?c1 ?c2 ?c3 ?_)
  case c1 => unfold maxLen; omega
  case c2 => omega
  case c3 => exact hb3.size
  intro v3 w3 hown3 hg3 _
  go_wp2
  go_ret
  refine ⟨v3, rfl, ?_, hb3.grown hg3 hb3.size (fun k hk => (hown2.lt k hk).1)⟩
  rw [List.length_append, List.length_append, Lib.byteCells_append, Lib.byteCells_append]
  rw [Lib.strCells_eq] at hown3
  simpa using hown3

end Go.Proofs.Ythgcoeienbgmhaa
