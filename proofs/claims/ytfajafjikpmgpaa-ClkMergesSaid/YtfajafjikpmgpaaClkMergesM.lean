/-
  Proved: ClkMerges of escapementlaw8 returns true for every input, and leaves what it was handed as it was. No conditions.
-/
import Derived.Test.YtfajafjikpmgpaaMe
import Derived.Test.YtfajafjikpmgpaaRows
import Derived.Deep.QuietTactic
import Derived.BigQuiet
import Derived.WalkKit
import Derived.ProofKit
import Derived.OpenShut
import Derived.ShutString
import Derived.ChangeOld
import Derived.SizedLaws
namespace Go.Proofs.Ytfajafjikpmgpaa.clkMerges
open Go.ChangeShapes Go.WideShapes Go.ChangeAt Go.RowKit
open Go.ChangeMaps (open_string shut_string)
set_option linter.unusedVariables false

theorem own : ownKnob Try.prog.godebug = none := by kernel_rfl
theorem laidOut : laidOutB Try.prog = true := by kernel_rfl

set_option maxRecDepth 100000 in
theorem m8_000 : fine8 [110, 111, 100, 101, 32, 102, 40, 99, 58, 32, 98, 111, 111, 108, 59, 32, 120, 58, 32, 105, 110, 116, 41, 32, 114, 101, 116, 117, 114, 110, 115, 32, 40, 121, 58, 32, 105, 110, 116, 41, 59, 32, 108, 101, 116, 32, 121, 32, 61, 32, 109, 101, 114, 103, 101, 32, 99, 32, 40, 120, 32, 119, 104, 101, 110, 32, 99, 41, 32, 40, 120, 32, 119, 104, 101, 110, 32, 99, 41, 59, 32, 116, 101, 108] false = true := by kernel_rfl
theorem m8_any000 (w : World) : Calls Try.prog 23 #[.string (((((⟨#[110, 111, 100, 101, 32, 102, 40, 99, 58, 32, 98, 111, 111, 108, 59, 32, 120, 58, 32, 105, 110, 116, 41, 32, 114, 101, 116, 117, 114, 110, 115, 32, 40, 121, 58, 32, 105, 110, 116, 41, 59, 32, 108, 101, 116, 32, 121, 32, 61, 32, 109, 101, 114, 103, 101, 32, 99, 32, 40]⟩ : ByteArray) ++ (⟨#[120, 32, 119, 104, 101, 110, 32, 99]⟩ : ByteArray)) ++ (⟨#[41, 32, 40]⟩ : ByteArray)) ++ (⟨#[120, 32, 119, 104, 101, 110, 32, 99]⟩ : ByteArray)) ++ (⟨#[41, 59, 32, 116, 101, 108]⟩ : ByteArray))] w (fun e w' => ∃ er ea : Int, e = .returned (.agg #[.int .i64 er, .int .i64 ea]) ∧ (er == 0) = false ∧ Below w.heap.size w w') := fault8_fine (by simp only [app_lst]; rfl) m8_000 w
set_option maxRecDepth 100000 in
theorem m8_001 : fine8 [110, 111, 100, 101, 32, 102, 40, 99, 58, 32, 98, 111, 111, 108, 59, 32, 120, 58, 32, 105, 110, 116, 41, 32, 114, 101, 116, 117, 114, 110, 115, 32, 40, 121, 58, 32, 105, 110, 116, 41, 59, 32, 118, 97, 114, 32, 117, 58, 32, 105, 110, 116, 32, 119, 104, 101, 110, 32, 110, 111, 116, 32, 99, 59, 32, 108, 101, 116, 32, 117, 32, 61, 32, 120, 32, 119, 104, 101, 110, 32, 99, 59, 32, 121, 32, 61, 32, 109, 101, 114, 103, 101, 32, 99, 32, 40, 120, 32, 119, 104, 101, 110, 32, 99, 41, 32, 117, 59, 32, 116, 101, 108] false = true := by kernel_rfl
theorem m8_any001 (w : World) : Calls Try.prog 23 #[.string (((((⟨(110 :: 111 :: 100 :: 101 :: 32 :: 102 :: 40 :: 99 :: 58 :: 32 :: 98 :: 111 :: 111 :: 108 :: 59 :: 32 :: 120 :: 58 :: 32 :: 105 :: 110 :: 116 :: 41 :: 32 :: 114 :: 101 :: 116 :: 117 :: 114 :: 110 :: 115 :: 32 :: 40 :: 121 :: 58 :: 32 :: 105 :: 110 :: 116 :: 41 :: 59 :: 32 :: 118 :: 97 :: 114 :: 32 :: 117 :: 58 :: 32 :: 105 :: 110 :: 116 :: 32 :: 119 :: 104 :: 101 :: 110 :: 32 :: 110 :: 111 :: 116 :: 32 :: 99 :: 59 :: 32 :: 108 :: 101 :: 116 :: 32 :: 117 :: 32 :: 61 :: 32 :: []).toArray⟩ : ByteArray) ++ (⟨#[120, 32, 119, 104, 101, 110, 32, 99]⟩ : ByteArray)) ++ (⟨#[59, 32, 121, 32, 61, 32, 109, 101, 114, 103, 101, 32, 99, 32, 40]⟩ : ByteArray)) ++ (⟨#[120, 32, 119, 104, 101, 110, 32, 99]⟩ : ByteArray)) ++ (⟨#[41, 32, 117, 59, 32, 116, 101, 108]⟩ : ByteArray))] w (fun e w' => ∃ er ea : Int, e = .returned (.agg #[.int .i64 er, .int .i64 ea]) ∧ (er == 0) = false ∧ Below w.heap.size w w') := fault8_fine (by simp only [app_lst]; rfl) m8_001 w
set_option maxRecDepth 100000 in
theorem m8_010 : fine8 [110, 111, 100, 101, 32, 102, 40, 99, 58, 32, 98, 111, 111, 108, 59, 32, 120, 58, 32, 105, 110, 116, 41, 32, 114, 101, 116, 117, 114, 110, 115, 32, 40, 121, 58, 32, 105, 110, 116, 41, 59, 32, 108, 101, 116, 32, 121, 32, 61, 32, 109, 101, 114, 103, 101, 32, 99, 32, 40, 120, 32, 119, 104, 101, 110, 32, 99, 41, 32, 40, 120, 32, 119, 104, 101, 110, 32, 110, 111, 116, 32, 99, 41, 59, 32, 116, 101, 108] true = true := by kernel_rfl
theorem m8_any010 (w : World) : Calls Try.prog 23 #[.string (((((⟨#[110, 111, 100, 101, 32, 102, 40, 99, 58, 32, 98, 111, 111, 108, 59, 32, 120, 58, 32, 105, 110, 116, 41, 32, 114, 101, 116, 117, 114, 110, 115, 32, 40, 121, 58, 32, 105, 110, 116, 41, 59, 32, 108, 101, 116, 32, 121, 32, 61, 32, 109, 101, 114, 103, 101, 32, 99, 32, 40]⟩ : ByteArray) ++ (⟨#[120, 32, 119, 104, 101, 110, 32, 99]⟩ : ByteArray)) ++ (⟨#[41, 32, 40]⟩ : ByteArray)) ++ (⟨#[120, 32, 119, 104, 101, 110, 32, 110, 111, 116, 32, 99]⟩ : ByteArray)) ++ (⟨#[41, 59, 32, 116, 101, 108]⟩ : ByteArray))] w (fun e w' => ∃ er ea : Int, e = .returned (.agg #[.int .i64 er, .int .i64 ea]) ∧ (er == 0) = true ∧ Below w.heap.size w w') := fault8_fine (by simp only [app_lst]; rfl) m8_010 w
set_option maxRecDepth 100000 in
theorem m8_011 : fine8 [110, 111, 100, 101, 32, 102, 40, 99, 58, 32, 98, 111, 111, 108, 59, 32, 120, 58, 32, 105, 110, 116, 41, 32, 114, 101, 116, 117, 114, 110, 115, 32, 40, 121, 58, 32, 105, 110, 116, 41, 59, 32, 118, 97, 114, 32, 117, 58, 32, 105, 110, 116, 32, 119, 104, 101, 110, 32, 110, 111, 116, 32, 99, 59, 32, 108, 101, 116, 32, 117, 32, 61, 32, 120, 32, 119, 104, 101, 110, 32, 99, 59, 32, 121, 32, 61, 32, 109, 101, 114, 103, 101, 32, 99, 32, 40, 120, 32, 119, 104, 101, 110, 32, 110, 111, 116, 32, 99, 41, 32, 117, 59, 32, 116, 101, 108] false = true := by kernel_rfl
theorem m8_any011 (w : World) : Calls Try.prog 23 #[.string (((((⟨(110 :: 111 :: 100 :: 101 :: 32 :: 102 :: 40 :: 99 :: 58 :: 32 :: 98 :: 111 :: 111 :: 108 :: 59 :: 32 :: 120 :: 58 :: 32 :: 105 :: 110 :: 116 :: 41 :: 32 :: 114 :: 101 :: 116 :: 117 :: 114 :: 110 :: 115 :: 32 :: 40 :: 121 :: 58 :: 32 :: 105 :: 110 :: 116 :: 41 :: 59 :: 32 :: 118 :: 97 :: 114 :: 32 :: 117 :: 58 :: 32 :: 105 :: 110 :: 116 :: 32 :: 119 :: 104 :: 101 :: 110 :: 32 :: 110 :: 111 :: 116 :: 32 :: 99 :: 59 :: 32 :: 108 :: 101 :: 116 :: 32 :: 117 :: 32 :: 61 :: 32 :: []).toArray⟩ : ByteArray) ++ (⟨#[120, 32, 119, 104, 101, 110, 32, 99]⟩ : ByteArray)) ++ (⟨#[59, 32, 121, 32, 61, 32, 109, 101, 114, 103, 101, 32, 99, 32, 40]⟩ : ByteArray)) ++ (⟨#[120, 32, 119, 104, 101, 110, 32, 110, 111, 116, 32, 99]⟩ : ByteArray)) ++ (⟨#[41, 32, 117, 59, 32, 116, 101, 108]⟩ : ByteArray))] w (fun e w' => ∃ er ea : Int, e = .returned (.agg #[.int .i64 er, .int .i64 ea]) ∧ (er == 0) = false ∧ Below w.heap.size w w') := fault8_fine (by simp only [app_lst]; rfl) m8_011 w
set_option maxRecDepth 100000 in
theorem m8_100 : fine8 [110, 111, 100, 101, 32, 102, 40, 99, 58, 32, 98, 111, 111, 108, 59, 32, 120, 58, 32, 105, 110, 116, 41, 32, 114, 101, 116, 117, 114, 110, 115, 32, 40, 121, 58, 32, 105, 110, 116, 41, 59, 32, 108, 101, 116, 32, 121, 32, 61, 32, 109, 101, 114, 103, 101, 32, 99, 32, 40, 120, 32, 119, 104, 101, 110, 32, 110, 111, 116, 32, 99, 41, 32, 40, 120, 32, 119, 104, 101, 110, 32, 99, 41, 59, 32, 116, 101, 108] false = true := by kernel_rfl
theorem m8_any100 (w : World) : Calls Try.prog 23 #[.string (((((⟨#[110, 111, 100, 101, 32, 102, 40, 99, 58, 32, 98, 111, 111, 108, 59, 32, 120, 58, 32, 105, 110, 116, 41, 32, 114, 101, 116, 117, 114, 110, 115, 32, 40, 121, 58, 32, 105, 110, 116, 41, 59, 32, 108, 101, 116, 32, 121, 32, 61, 32, 109, 101, 114, 103, 101, 32, 99, 32, 40]⟩ : ByteArray) ++ (⟨#[120, 32, 119, 104, 101, 110, 32, 110, 111, 116, 32, 99]⟩ : ByteArray)) ++ (⟨#[41, 32, 40]⟩ : ByteArray)) ++ (⟨#[120, 32, 119, 104, 101, 110, 32, 99]⟩ : ByteArray)) ++ (⟨#[41, 59, 32, 116, 101, 108]⟩ : ByteArray))] w (fun e w' => ∃ er ea : Int, e = .returned (.agg #[.int .i64 er, .int .i64 ea]) ∧ (er == 0) = false ∧ Below w.heap.size w w') := fault8_fine (by simp only [app_lst]; rfl) m8_100 w
set_option maxRecDepth 100000 in
theorem m8_101 : fine8 [110, 111, 100, 101, 32, 102, 40, 99, 58, 32, 98, 111, 111, 108, 59, 32, 120, 58, 32, 105, 110, 116, 41, 32, 114, 101, 116, 117, 114, 110, 115, 32, 40, 121, 58, 32, 105, 110, 116, 41, 59, 32, 118, 97, 114, 32, 117, 58, 32, 105, 110, 116, 32, 119, 104, 101, 110, 32, 110, 111, 116, 32, 99, 59, 32, 108, 101, 116, 32, 117, 32, 61, 32, 120, 32, 119, 104, 101, 110, 32, 110, 111, 116, 32, 99, 59, 32, 121, 32, 61, 32, 109, 101, 114, 103, 101, 32, 99, 32, 40, 120, 32, 119, 104, 101, 110, 32, 99, 41, 32, 117, 59, 32, 116, 101, 108] true = true := by kernel_rfl
theorem m8_any101 (w : World) : Calls Try.prog 23 #[.string (((((⟨(110 :: 111 :: 100 :: 101 :: 32 :: 102 :: 40 :: 99 :: 58 :: 32 :: 98 :: 111 :: 111 :: 108 :: 59 :: 32 :: 120 :: 58 :: 32 :: 105 :: 110 :: 116 :: 41 :: 32 :: 114 :: 101 :: 116 :: 117 :: 114 :: 110 :: 115 :: 32 :: 40 :: 121 :: 58 :: 32 :: 105 :: 110 :: 116 :: 41 :: 59 :: 32 :: 118 :: 97 :: 114 :: 32 :: 117 :: 58 :: 32 :: 105 :: 110 :: 116 :: 32 :: 119 :: 104 :: 101 :: 110 :: 32 :: 110 :: 111 :: 116 :: 32 :: 99 :: 59 :: 32 :: 108 :: 101 :: 116 :: 32 :: 117 :: 32 :: 61 :: 32 :: []).toArray⟩ : ByteArray) ++ (⟨#[120, 32, 119, 104, 101, 110, 32, 110, 111, 116, 32, 99]⟩ : ByteArray)) ++ (⟨#[59, 32, 121, 32, 61, 32, 109, 101, 114, 103, 101, 32, 99, 32, 40]⟩ : ByteArray)) ++ (⟨#[120, 32, 119, 104, 101, 110, 32, 99]⟩ : ByteArray)) ++ (⟨#[41, 32, 117, 59, 32, 116, 101, 108]⟩ : ByteArray))] w (fun e w' => ∃ er ea : Int, e = .returned (.agg #[.int .i64 er, .int .i64 ea]) ∧ (er == 0) = true ∧ Below w.heap.size w w') := fault8_fine (by simp only [app_lst]; rfl) m8_101 w
set_option maxRecDepth 100000 in
theorem m8_110 : fine8 [110, 111, 100, 101, 32, 102, 40, 99, 58, 32, 98, 111, 111, 108, 59, 32, 120, 58, 32, 105, 110, 116, 41, 32, 114, 101, 116, 117, 114, 110, 115, 32, 40, 121, 58, 32, 105, 110, 116, 41, 59, 32, 108, 101, 116, 32, 121, 32, 61, 32, 109, 101, 114, 103, 101, 32, 99, 32, 40, 120, 32, 119, 104, 101, 110, 32, 110, 111, 116, 32, 99, 41, 32, 40, 120, 32, 119, 104, 101, 110, 32, 110, 111, 116, 32, 99, 41, 59, 32, 116, 101, 108] false = true := by kernel_rfl
theorem m8_any110 (w : World) : Calls Try.prog 23 #[.string (((((⟨#[110, 111, 100, 101, 32, 102, 40, 99, 58, 32, 98, 111, 111, 108, 59, 32, 120, 58, 32, 105, 110, 116, 41, 32, 114, 101, 116, 117, 114, 110, 115, 32, 40, 121, 58, 32, 105, 110, 116, 41, 59, 32, 108, 101, 116, 32, 121, 32, 61, 32, 109, 101, 114, 103, 101, 32, 99, 32, 40]⟩ : ByteArray) ++ (⟨#[120, 32, 119, 104, 101, 110, 32, 110, 111, 116, 32, 99]⟩ : ByteArray)) ++ (⟨#[41, 32, 40]⟩ : ByteArray)) ++ (⟨#[120, 32, 119, 104, 101, 110, 32, 110, 111, 116, 32, 99]⟩ : ByteArray)) ++ (⟨#[41, 59, 32, 116, 101, 108]⟩ : ByteArray))] w (fun e w' => ∃ er ea : Int, e = .returned (.agg #[.int .i64 er, .int .i64 ea]) ∧ (er == 0) = false ∧ Below w.heap.size w w') := fault8_fine (by simp only [app_lst]; rfl) m8_110 w
set_option maxRecDepth 100000 in
theorem m8_111 : fine8 [110, 111, 100, 101, 32, 102, 40, 99, 58, 32, 98, 111, 111, 108, 59, 32, 120, 58, 32, 105, 110, 116, 41, 32, 114, 101, 116, 117, 114, 110, 115, 32, 40, 121, 58, 32, 105, 110, 116, 41, 59, 32, 118, 97, 114, 32, 117, 58, 32, 105, 110, 116, 32, 119, 104, 101, 110, 32, 110, 111, 116, 32, 99, 59, 32, 108, 101, 116, 32, 117, 32, 61, 32, 120, 32, 119, 104, 101, 110, 32, 110, 111, 116, 32, 99, 59, 32, 121, 32, 61, 32, 109, 101, 114, 103, 101, 32, 99, 32, 40, 120, 32, 119, 104, 101, 110, 32, 110, 111, 116, 32, 99, 41, 32, 117, 59, 32, 116, 101, 108] false = true := by kernel_rfl
theorem m8_any111 (w : World) : Calls Try.prog 23 #[.string (((((⟨(110 :: 111 :: 100 :: 101 :: 32 :: 102 :: 40 :: 99 :: 58 :: 32 :: 98 :: 111 :: 111 :: 108 :: 59 :: 32 :: 120 :: 58 :: 32 :: 105 :: 110 :: 116 :: 41 :: 32 :: 114 :: 101 :: 116 :: 117 :: 114 :: 110 :: 115 :: 32 :: 40 :: 121 :: 58 :: 32 :: 105 :: 110 :: 116 :: 41 :: 59 :: 32 :: 118 :: 97 :: 114 :: 32 :: 117 :: 58 :: 32 :: 105 :: 110 :: 116 :: 32 :: 119 :: 104 :: 101 :: 110 :: 32 :: 110 :: 111 :: 116 :: 32 :: 99 :: 59 :: 32 :: 108 :: 101 :: 116 :: 32 :: 117 :: 32 :: 61 :: 32 :: []).toArray⟩ : ByteArray) ++ (⟨#[120, 32, 119, 104, 101, 110, 32, 110, 111, 116, 32, 99]⟩ : ByteArray)) ++ (⟨#[59, 32, 121, 32, 61, 32, 109, 101, 114, 103, 101, 32, 99, 32, 40]⟩ : ByteArray)) ++ (⟨#[120, 32, 119, 104, 101, 110, 32, 110, 111, 116, 32, 99]⟩ : ByteArray)) ++ (⟨#[41, 32, 117, 59, 32, 116, 101, 108]⟩ : ByteArray))] w (fun e w' => ∃ er ea : Int, e = .returned (.agg #[.int .i64 er, .int .i64 ea]) ∧ (er == 0) = false ∧ Below w.heap.size w w') := fault8_fine (by simp only [app_lst]; rfl) m8_111 w

set_option maxHeartbeats 8000000 in
set_option maxRecDepth 100000 in
theorem walk (a : Bool) (b : Bool) (swap : Bool) (w : World) :
    Calls Try.prog 7 #[.bool a, .bool b, .bool swap] w fun e w' => e = .returned (.bool true) ∧ Below w.heap.size w w' := by
  cases a <;> cases b <;> cases swap
  · go_enter Try.func7, Try.ntmps7
    go_wp2_with fail
    (with_reducible refine (awake8_any w).mono ?_)
    rintro e w1 ⟨rfl, hb1⟩
    have F1 := ((Fx.start w).call hb1).alloc w1.heap.size rfl 9 #[.string (⟨#[120, 32, 119, 104, 101, 110, 32, 99]⟩ : ByteArray), .string (⟨#[120, 32, 119, 104, 101, 110, 32, 110, 111, 116, 32, 99]⟩ : ByteArray)]
    have HF1 := Lib.hid F1
    have c0 := cell_of_row _ w1.heap.size 0 _ _ _ (F1.get 0 rfl)
    have c1 := cell_of_row _ w1.heap.size 1 _ _ _ (F1.get 0 rfl)
    clear hb1 F1
    go_upto_region 9 with fail
    go_quiet (fail)
    go_wp2_with fail
    (with_reducible refine (m8_any000 _).mono ?_)
    rintro e9 w3 ⟨er, ea, rfl, hok, hb⟩
    have hfd := fun W => fld8_bad0 er ea W
    have HB3 := Lib.hid hb
    have HOK := Lib.hid hok
    clear hb hok
    go_wp2_with fail
    go_ret
    exact ⟨by rw [HOK.out]; rfl, (below_drewN HF1.out.below _).trans (HB3.out.mono HF1.out.below.size)⟩
  · go_enter Try.func7, Try.ntmps7
    go_wp2_with fail
    (with_reducible refine (awake8_any w).mono ?_)
    rintro e w1 ⟨rfl, hb1⟩
    have F1 := ((Fx.start w).call hb1).alloc w1.heap.size rfl 9 #[.string (⟨#[120, 32, 119, 104, 101, 110, 32, 99]⟩ : ByteArray), .string (⟨#[120, 32, 119, 104, 101, 110, 32, 110, 111, 116, 32, 99]⟩ : ByteArray)]
    have HF1 := Lib.hid F1
    have c0 := cell_of_row _ w1.heap.size 0 _ _ _ (F1.get 0 rfl)
    have c1 := cell_of_row _ w1.heap.size 1 _ _ _ (F1.get 0 rfl)
    clear hb1 F1
    go_upto_region 9 with fail
    go_quiet (fail)
    go_upto_region 11 with fail
    go_quiet (fail)
    go_wp2_with fail
    (with_reducible refine (m8_any001 _).mono ?_)
    rintro e9 w3 ⟨er, ea, rfl, hok, hb⟩
    have hfd := fun W => fld8_bad0 er ea W
    have HB3 := Lib.hid hb
    have HOK := Lib.hid hok
    clear hb hok
    go_wp2_with fail
    go_ret
    exact ⟨by rw [HOK.out]; rfl, (below_drewN HF1.out.below _).trans (HB3.out.mono HF1.out.below.size)⟩
  · go_enter Try.func7, Try.ntmps7
    go_wp2_with fail
    (with_reducible refine (awake8_any w).mono ?_)
    rintro e w1 ⟨rfl, hb1⟩
    have F1 := ((Fx.start w).call hb1).alloc w1.heap.size rfl 9 #[.string (⟨#[120, 32, 119, 104, 101, 110, 32, 99]⟩ : ByteArray), .string (⟨#[120, 32, 119, 104, 101, 110, 32, 110, 111, 116, 32, 99]⟩ : ByteArray)]
    have HF1 := Lib.hid F1
    have c0 := cell_of_row _ w1.heap.size 0 _ _ _ (F1.get 0 rfl)
    have c1 := cell_of_row _ w1.heap.size 1 _ _ _ (F1.get 0 rfl)
    clear hb1 F1
    go_upto_region 9 with fail
    go_quiet (fail)
    go_wp2_with fail
    (with_reducible refine (m8_any010 _).mono ?_)
    rintro e9 w3 ⟨er, ea, rfl, hok, hb⟩
    have hfd := fun W => fld8_bad0 er ea W
    have HB3 := Lib.hid hb
    have HOK := Lib.hid hok
    clear hb hok
    go_wp2_with fail
    go_ret
    exact ⟨by rw [HOK.out]; rfl, (below_drewN HF1.out.below _).trans (HB3.out.mono HF1.out.below.size)⟩
  · go_enter Try.func7, Try.ntmps7
    go_wp2_with fail
    (with_reducible refine (awake8_any w).mono ?_)
    rintro e w1 ⟨rfl, hb1⟩
    have F1 := ((Fx.start w).call hb1).alloc w1.heap.size rfl 9 #[.string (⟨#[120, 32, 119, 104, 101, 110, 32, 99]⟩ : ByteArray), .string (⟨#[120, 32, 119, 104, 101, 110, 32, 110, 111, 116, 32, 99]⟩ : ByteArray)]
    have HF1 := Lib.hid F1
    have c0 := cell_of_row _ w1.heap.size 0 _ _ _ (F1.get 0 rfl)
    have c1 := cell_of_row _ w1.heap.size 1 _ _ _ (F1.get 0 rfl)
    clear hb1 F1
    go_upto_region 9 with fail
    go_quiet (fail)
    go_upto_region 11 with fail
    go_quiet (fail)
    go_wp2_with fail
    (with_reducible refine (m8_any011 _).mono ?_)
    rintro e9 w3 ⟨er, ea, rfl, hok, hb⟩
    have hfd := fun W => fld8_bad0 er ea W
    have HB3 := Lib.hid hb
    have HOK := Lib.hid hok
    clear hb hok
    go_wp2_with fail
    go_ret
    exact ⟨by rw [HOK.out]; rfl, (below_drewN HF1.out.below _).trans (HB3.out.mono HF1.out.below.size)⟩
  · go_enter Try.func7, Try.ntmps7
    go_wp2_with fail
    (with_reducible refine (awake8_any w).mono ?_)
    rintro e w1 ⟨rfl, hb1⟩
    have F1 := ((Fx.start w).call hb1).alloc w1.heap.size rfl 9 #[.string (⟨#[120, 32, 119, 104, 101, 110, 32, 99]⟩ : ByteArray), .string (⟨#[120, 32, 119, 104, 101, 110, 32, 110, 111, 116, 32, 99]⟩ : ByteArray)]
    have HF1 := Lib.hid F1
    have c0 := cell_of_row _ w1.heap.size 0 _ _ _ (F1.get 0 rfl)
    have c1 := cell_of_row _ w1.heap.size 1 _ _ _ (F1.get 0 rfl)
    clear hb1 F1
    go_upto_region 9 with fail
    go_quiet (fail)
    go_wp2_with fail
    (with_reducible refine (m8_any100 _).mono ?_)
    rintro e9 w3 ⟨er, ea, rfl, hok, hb⟩
    have hfd := fun W => fld8_bad0 er ea W
    have HB3 := Lib.hid hb
    have HOK := Lib.hid hok
    clear hb hok
    go_wp2_with fail
    go_ret
    exact ⟨by rw [HOK.out]; rfl, (below_drewN HF1.out.below _).trans (HB3.out.mono HF1.out.below.size)⟩
  · go_enter Try.func7, Try.ntmps7
    go_wp2_with fail
    (with_reducible refine (awake8_any w).mono ?_)
    rintro e w1 ⟨rfl, hb1⟩
    have F1 := ((Fx.start w).call hb1).alloc w1.heap.size rfl 9 #[.string (⟨#[120, 32, 119, 104, 101, 110, 32, 99]⟩ : ByteArray), .string (⟨#[120, 32, 119, 104, 101, 110, 32, 110, 111, 116, 32, 99]⟩ : ByteArray)]
    have HF1 := Lib.hid F1
    have c0 := cell_of_row _ w1.heap.size 0 _ _ _ (F1.get 0 rfl)
    have c1 := cell_of_row _ w1.heap.size 1 _ _ _ (F1.get 0 rfl)
    clear hb1 F1
    go_upto_region 9 with fail
    go_quiet (fail)
    go_upto_region 11 with fail
    go_quiet (fail)
    go_wp2_with fail
    (with_reducible refine (m8_any101 _).mono ?_)
    rintro e9 w3 ⟨er, ea, rfl, hok, hb⟩
    have hfd := fun W => fld8_bad0 er ea W
    have HB3 := Lib.hid hb
    have HOK := Lib.hid hok
    clear hb hok
    go_wp2_with fail
    go_ret
    exact ⟨by rw [HOK.out]; rfl, (below_drewN HF1.out.below _).trans (HB3.out.mono HF1.out.below.size)⟩
  · go_enter Try.func7, Try.ntmps7
    go_wp2_with fail
    (with_reducible refine (awake8_any w).mono ?_)
    rintro e w1 ⟨rfl, hb1⟩
    have F1 := ((Fx.start w).call hb1).alloc w1.heap.size rfl 9 #[.string (⟨#[120, 32, 119, 104, 101, 110, 32, 99]⟩ : ByteArray), .string (⟨#[120, 32, 119, 104, 101, 110, 32, 110, 111, 116, 32, 99]⟩ : ByteArray)]
    have HF1 := Lib.hid F1
    have c0 := cell_of_row _ w1.heap.size 0 _ _ _ (F1.get 0 rfl)
    have c1 := cell_of_row _ w1.heap.size 1 _ _ _ (F1.get 0 rfl)
    clear hb1 F1
    go_upto_region 9 with fail
    go_quiet (fail)
    go_wp2_with fail
    (with_reducible refine (m8_any110 _).mono ?_)
    rintro e9 w3 ⟨er, ea, rfl, hok, hb⟩
    have hfd := fun W => fld8_bad0 er ea W
    have HB3 := Lib.hid hb
    have HOK := Lib.hid hok
    clear hb hok
    go_wp2_with fail
    go_ret
    exact ⟨by rw [HOK.out]; rfl, (below_drewN HF1.out.below _).trans (HB3.out.mono HF1.out.below.size)⟩
  · go_enter Try.func7, Try.ntmps7
    go_wp2_with fail
    (with_reducible refine (awake8_any w).mono ?_)
    rintro e w1 ⟨rfl, hb1⟩
    have F1 := ((Fx.start w).call hb1).alloc w1.heap.size rfl 9 #[.string (⟨#[120, 32, 119, 104, 101, 110, 32, 99]⟩ : ByteArray), .string (⟨#[120, 32, 119, 104, 101, 110, 32, 110, 111, 116, 32, 99]⟩ : ByteArray)]
    have HF1 := Lib.hid F1
    have c0 := cell_of_row _ w1.heap.size 0 _ _ _ (F1.get 0 rfl)
    have c1 := cell_of_row _ w1.heap.size 1 _ _ _ (F1.get 0 rfl)
    clear hb1 F1
    go_upto_region 9 with fail
    go_quiet (fail)
    go_upto_region 11 with fail
    go_quiet (fail)
    go_wp2_with fail
    (with_reducible refine (m8_any111 _).mono ?_)
    rintro e9 w3 ⟨er, ea, rfl, hok, hb⟩
    have hfd := fun W => fld8_bad0 er ea W
    have HB3 := Lib.hid hb
    have HOK := Lib.hid hok
    clear hb hok
    go_wp2_with fail
    go_ret
    exact ⟨by rw [HOK.out]; rfl, (below_drewN HF1.out.below _).trans (HB3.out.mono HF1.out.below.size)⟩

set_option maxRecDepth 100000 in
theorem lifted (os : Os) (started : os.Started) (H : Type) (enc : TypeId × Value → H) :
    ReturnsInHanded {} Try.checked os 7 .any (Rows.clkMergesSpec.pre6 enc Try.prog Try.f7 Rows.clkMergesRow.domain false) (Rows.clkMergesSpec.post enc Try.prog Try.f7 false true false false) := by
  refine returnsInHanded_of_change (C := Try.checked) own started (by kernel_rfl) Try.func7
    (ChangeSpec.witness6 (enc := enc) (C := Try.checked) false ⟨#[], #[.bool false, .bool false, .bool false], []⟩ 8 (by kernel_rfl) (by kernel_rfl) (by kernel_rfl) (by kernel_rfl)) ?_
  intro W base args ds gs before hval0 hW hcnd _
  have hval : ∀ (j : Nat) t v, Try.f7.params[j]? = some t → args[j]? = some v → Value.okWide Try.prog W .any base t v := hval0
  have hW' := hW
  obtain ⟨p, q, hA0, hV, rfl, hfz, hnd⟩ := hW
  have hA : DataW.TrodAll enc Try.prog W 0 (fun _ => true) true Try.f7.params.toList args.toList ds p := hA0
  rw [Try.params7] at hA hval
  obtain ⟨v0, vs0, d0, ds0, p0, q0, hargs, rfl, rfl, h0, r0⟩ := trodAll_cons hA
  obtain ⟨v1, vs1, d1, ds1, p1, q1, rfl, rfl, rfl, h1, r1⟩ := trodAll_cons r0
  obtain ⟨v2, vs2, d2, ds2, p2, q2, rfl, rfl, rfl, h2, r2⟩ := trodAll_cons r1
  obtain ⟨rfl, rfl, rfl⟩ := trodAll_nil r2
  obtain rfl : args = #[v0, v1, v2] := by cases args; simp_all
  obtain ⟨rfl, rfl⟩ := trodVars_none hV
  obtain ⟨a, rfl, rfl, rfl⟩ := open_bool Try.underlying4 (hval 0 4 v0 rfl rfl) h0
  obtain ⟨b, rfl, rfl, rfl⟩ := open_bool Try.underlying4 (hval 1 4 v1 rfl rfl) h1
  obtain ⟨swap, rfl, rfl, rfl⟩ := open_bool Try.underlying4 (hval 2 4 v2 rfl rfl) h2
  clear hA0 hval0
  refine (walk a b swap W).mono fun e W' ⟨he, bel⟩ => ?_
  subst he
  exact ⟨_, rfl, _, _, _, [], _, [], hW', trodAll_mk1 (shut_bool Try.underlying4 _), (trodAll_cons_mk (shut_bool Try.underlying4 a) (trodAll_cons_mk (shut_bool Try.underlying4 b) (trodAll_cons_mk (shut_bool Try.underlying4 swap) trodAll_mk0))), rfl, bel.frame _, fun h => by cases h⟩

theorem over : Rows.clkMergesRow.holds Try.pinned (OpenSpec.ofChange Rows.clkMergesSpec) :=
  OpenClaim.holds_of_wide 7 Try.f7 rfl rfl rfl rfl rfl rfl rfl ⟨rfl, rfl, rfl, rfl, rfl⟩ rfl rfl rfl rfl rfl (by kernel_rfl) Try.func7 (by kernel_rfl)
    (of_decide_eq_true (by kernel_rfl)) (by unfold Func.isWrapper; first | (rw [if_pos (by decide +kernel)]; kernel_rfl) | (rw [if_neg (by decide +kernel)]; exact ⟨rfl, rfl⟩))
    (fun os started H enc _ => lifted os started H enc)

theorem proved : Rows.ClkMergesSaid := over
#print axioms proved
end Go.Proofs.Ytfajafjikpmgpaa.clkMerges
