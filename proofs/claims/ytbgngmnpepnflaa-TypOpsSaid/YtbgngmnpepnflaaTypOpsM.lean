/-
  Proved: TypOps of escapementlaw7 returns true for every input, and leaves what it was handed as it was. No conditions.
-/
import Derived.Test.YtbgngmnpepnflaaMe
import Derived.Test.YtbgngmnpepnflaaRows
import Derived.WalkKit
import Derived.ProofKit
import Derived.OpenShut
import Derived.ShutString
import Derived.ChangeOld
import Derived.SizedLaws
namespace Go.Proofs.Ytbgngmnpepnflaa.typOps
open Go.ChangeShapes Go.WideShapes Go.ChangeAt Go.RowKit
open Go.ChangeMaps (open_string shut_string)
set_option linter.unusedVariables false

theorem own : ownKnob Try.prog.godebug = none := by kernel_rfl
theorem laidOut : laidOutB Try.prog = true := by kernel_rfl

set_option maxHeartbeats 8000000 in
set_option maxRecDepth 100000 in
theorem walk (op : Int) (a : Bool) (b : Bool) (w : World) (w_op : (Lit.int .i64 op).wf = true) :
    Calls Try.prog 8 #[.int .i64 op, .bool a, .bool b] w fun e w' => e = .returned (.bool true) ∧ Below w.heap.size w w' := by
  go_enter Try.func8, Try.ntmps8
  go_wp2_with fail
  (with_reducible refine (awake7_any w).mono ?_)
  rintro e w1 ⟨rfl, hb1⟩
  have F1 := (((Fx.start w).call hb1).make (.cells #[.string ⟨#[43]⟩, .string ⟨#[45]⟩, .string ⟨#[42]⟩, .string ⟨#[47]⟩, .string ⟨#[109, 111, 100]⟩, .string ⟨#[61]⟩, .string ⟨#[60, 62]⟩, .string ⟨#[60]⟩, .string ⟨#[60, 61]⟩, .string ⟨#[62]⟩, .string ⟨#[62, 61]⟩, .string ⟨#[97, 110, 100]⟩, .string ⟨#[111, 114]⟩, .string ⟨#[120, 111, 114]⟩, .string ⟨#[45, 62]⟩, .string ⟨#[102, 98, 121]⟩] 9))
  have HF1 := Lib.hid F1
  clear hb1 F1 w_op
  by_cases c1 : op < 0
  · have d1 : decide (op < 0) = true := by simpa using c1
    clear c1
    go_wp2_with fail
    go_ret
    exact ⟨rfl, HF1.out.below⟩
  have d1 : decide (op < 0) = false := by simpa using c1
  by_cases c2 : 16 ≤ op
  · have d2 : decide ((16 : Int) ≤ op) = true := by simpa using c2
    clear c1 c2
    go_wp2_with fail
    go_ret
    exact ⟨rfl, HF1.out.below⟩
  have d2 : decide ((16 : Int) ≤ op) = false := by simpa using c2
  obtain ⟨k, rfl⟩ : ∃ k : Nat, op = (k : Int) := ⟨op.toNat, by omega⟩
  have hk : k < 16 := by omega
  have HK := Lib.hid hk
  have cop : (w1.alloc (.cells #[.string ⟨#[43]⟩, .string ⟨#[45]⟩, .string ⟨#[42]⟩, .string ⟨#[47]⟩, .string ⟨#[109, 111, 100]⟩, .string ⟨#[61]⟩, .string ⟨#[60, 62]⟩, .string ⟨#[60]⟩, .string ⟨#[60, 61]⟩, .string ⟨#[62]⟩, .string ⟨#[62, 61]⟩, .string ⟨#[97, 110, 100]⟩, .string ⟨#[111, 114]⟩, .string ⟨#[120, 111, 114]⟩, .string ⟨#[45, 62]⟩, .string ⟨#[102, 98, 121]⟩] 9)).cell? ⟨w1.heap.size, k, none⟩ = some (.string (op7B k)) := by
    rw [cell_of_row _ _ _ _ _ (0, 0) (heap_alloc_new w1 _)]
    exact op7_at k hk
  have COP := Lib.hid cop
  have so := op7_size k
  clear c1 c2 hk cop
  cases a <;> cases b
  · by_cases c3 : k < 5
    · have FI := Lib.hid (fun W => fault7_ok (top7_false_false_false k HK.out) (fine_spec (by have h := top7_fine false false k HK.out; rw [show out7 false k = false by unfold out7; (repeat' split) <;> first | rfl | omega] at h; exact h)).2.2.2 (fine_spec (by have h := top7_fine false false k HK.out; rw [show out7 false k = false by unfold out7; (repeat' split) <;> first | rfl | omega] at h; exact h)).1 (fine_spec (by have h := top7_fine false false k HK.out; rw [show out7 false k = false by unfold out7; (repeat' split) <;> first | rfl | omega] at h; exact h)).2.1 W)
      have OKK : Hid (ok7 false false k = true) := Lib.hid (by unfold ok7; (repeat' split) <;> first | rfl | omega)
      have qlt5 : decide ((k : Int) < 5) = true := by simp; omega
      have i0 : (0 : Int) ≤ (k : Int) := by omega
      have i1 : (k : Int) < 16 := by have := HK.out; omega
      have cop := COP.out
      clear c3
      go_wp2_with fail
      (with_reducible refine (FI.out _).mono ?_)
      rintro e9 w3 ⟨er, ea, rfl, hok, hb⟩
      have hfd := fun W => fld_bad0 er ea W
      have HF3 := Lib.hid (HF1.out.call hb)
      have HOK := Lib.hid hok
      clear hb hok cop
      go_wp2_with fail
      go_ret
      exact ⟨by rw [HOK.out, OKK.out]; simp, HF3.out.below⟩
    · by_cases c4 : k = 5
      · have FI := Lib.hid (fun W => fault7_ok (top7_false_false_true k HK.out) (fine_spec (by have h := top7_fine false false k HK.out; rw [show out7 false k = true by unfold out7; (repeat' split) <;> first | rfl | omega] at h; exact h)).2.2.2 (fine_spec (by have h := top7_fine false false k HK.out; rw [show out7 false k = true by unfold out7; (repeat' split) <;> first | rfl | omega] at h; exact h)).1 (fine_spec (by have h := top7_fine false false k HK.out; rw [show out7 false k = true by unfold out7; (repeat' split) <;> first | rfl | omega] at h; exact h)).2.1 W)
        have OKK : Hid (ok7 false false k = true) := Lib.hid (by unfold ok7; (repeat' split) <;> first | rfl | omega)
        have qlt5 : decide ((k : Int) < 5) = false := by simp; omega
        have qe5 : ((k : Int) == 5) = true := by simp; omega
        have i0 : (0 : Int) ≤ (k : Int) := by omega
        have i1 : (k : Int) < 16 := by have := HK.out; omega
        have cop := COP.out
        clear c3 c4
        go_wp2_with fail
        (with_reducible refine (FI.out _).mono ?_)
        rintro e9 w3 ⟨er, ea, rfl, hok, hb⟩
        have hfd := fun W => fld_bad0 er ea W
        have HF3 := Lib.hid (HF1.out.call hb)
        have HOK := Lib.hid hok
        clear hb hok cop
        go_wp2_with fail
        go_ret
        exact ⟨by rw [HOK.out, OKK.out]; simp, HF3.out.below⟩
      · by_cases c5 : k = 6
        · have FI := Lib.hid (fun W => fault7_ok (top7_false_false_true k HK.out) (fine_spec (by have h := top7_fine false false k HK.out; rw [show out7 false k = true by unfold out7; (repeat' split) <;> first | rfl | omega] at h; exact h)).2.2.2 (fine_spec (by have h := top7_fine false false k HK.out; rw [show out7 false k = true by unfold out7; (repeat' split) <;> first | rfl | omega] at h; exact h)).1 (fine_spec (by have h := top7_fine false false k HK.out; rw [show out7 false k = true by unfold out7; (repeat' split) <;> first | rfl | omega] at h; exact h)).2.1 W)
          have OKK : Hid (ok7 false false k = true) := Lib.hid (by unfold ok7; (repeat' split) <;> first | rfl | omega)
          have qlt5 : decide ((k : Int) < 5) = false := by simp; omega
          have qe5 : ((k : Int) == 5) = false := by simp; omega
          have qe6 : ((k : Int) == 6) = true := by simp; omega
          have i0 : (0 : Int) ≤ (k : Int) := by omega
          have i1 : (k : Int) < 16 := by have := HK.out; omega
          have cop := COP.out
          clear c3 c4 c5
          go_wp2_with fail
          (with_reducible refine (FI.out _).mono ?_)
          rintro e9 w3 ⟨er, ea, rfl, hok, hb⟩
          have hfd := fun W => fld_bad0 er ea W
          have HF3 := Lib.hid (HF1.out.call hb)
          have HOK := Lib.hid hok
          clear hb hok cop
          go_wp2_with fail
          go_ret
          exact ⟨by rw [HOK.out, OKK.out]; simp, HF3.out.below⟩
        · by_cases c6 : k < 11
          · have FI := Lib.hid (fun W => fault7_ok (top7_false_false_true k HK.out) (fine_spec (by have h := top7_fine false false k HK.out; rw [show out7 false k = true by unfold out7; (repeat' split) <;> first | rfl | omega] at h; exact h)).2.2.2 (fine_spec (by have h := top7_fine false false k HK.out; rw [show out7 false k = true by unfold out7; (repeat' split) <;> first | rfl | omega] at h; exact h)).1 (fine_spec (by have h := top7_fine false false k HK.out; rw [show out7 false k = true by unfold out7; (repeat' split) <;> first | rfl | omega] at h; exact h)).2.1 W)
            have OKK : Hid (ok7 false false k = true) := Lib.hid (by unfold ok7; (repeat' split) <;> first | rfl | omega)
            have qlt5 : decide ((k : Int) < 5) = false := by simp; omega
            have qe5 : ((k : Int) == 5) = false := by simp; omega
            have qe6 : ((k : Int) == 6) = false := by simp; omega
            have qlt11 : decide ((k : Int) < 11) = true := by simp; omega
            have i0 : (0 : Int) ≤ (k : Int) := by omega
            have i1 : (k : Int) < 16 := by have := HK.out; omega
            have cop := COP.out
            clear c3 c4 c5 c6
            go_wp2_with fail
            (with_reducible refine (FI.out _).mono ?_)
            rintro e9 w3 ⟨er, ea, rfl, hok, hb⟩
            have hfd := fun W => fld_bad0 er ea W
            have HF3 := Lib.hid (HF1.out.call hb)
            have HOK := Lib.hid hok
            clear hb hok cop
            go_wp2_with fail
            go_ret
            exact ⟨by rw [HOK.out, OKK.out]; simp, HF3.out.below⟩
          · by_cases c7 : k < 14
            · have FI := Lib.hid (fun W => fault7_ok (top7_false_false_true k HK.out) (fine_spec (by have h := top7_fine false false k HK.out; rw [show out7 false k = true by unfold out7; (repeat' split) <;> first | rfl | omega] at h; exact h)).2.2.2 (fine_spec (by have h := top7_fine false false k HK.out; rw [show out7 false k = true by unfold out7; (repeat' split) <;> first | rfl | omega] at h; exact h)).1 (fine_spec (by have h := top7_fine false false k HK.out; rw [show out7 false k = true by unfold out7; (repeat' split) <;> first | rfl | omega] at h; exact h)).2.1 W)
              have OKK : Hid (ok7 false false k = false) := Lib.hid (by unfold ok7; (repeat' split) <;> first | rfl | omega)
              have qlt5 : decide ((k : Int) < 5) = false := by simp; omega
              have qe5 : ((k : Int) == 5) = false := by simp; omega
              have qe6 : ((k : Int) == 6) = false := by simp; omega
              have qlt11 : decide ((k : Int) < 11) = false := by simp; omega
              have qlt14 : decide ((k : Int) < 14) = true := by simp; omega
              have i0 : (0 : Int) ≤ (k : Int) := by omega
              have i1 : (k : Int) < 16 := by have := HK.out; omega
              have cop := COP.out
              clear c3 c4 c5 c6 c7
              go_wp2_with fail
              (with_reducible refine (FI.out _).mono ?_)
              rintro e9 w3 ⟨er, ea, rfl, hok, hb⟩
              have hfd := fun W => fld_bad0 er ea W
              have HF3 := Lib.hid (HF1.out.call hb)
              have HOK := Lib.hid hok
              clear hb hok cop
              go_wp2_with fail
              go_ret
              exact ⟨by rw [HOK.out, OKK.out]; simp, HF3.out.below⟩
            · have FI := Lib.hid (fun W => fault7_ok (top7_false_false_false k HK.out) (fine_spec (by have h := top7_fine false false k HK.out; rw [show out7 false k = false by unfold out7; (repeat' split) <;> first | rfl | omega] at h; exact h)).2.2.2 (fine_spec (by have h := top7_fine false false k HK.out; rw [show out7 false k = false by unfold out7; (repeat' split) <;> first | rfl | omega] at h; exact h)).1 (fine_spec (by have h := top7_fine false false k HK.out; rw [show out7 false k = false by unfold out7; (repeat' split) <;> first | rfl | omega] at h; exact h)).2.1 W)
              have OKK : Hid (ok7 false false k = true) := Lib.hid (by unfold ok7; (repeat' split) <;> first | rfl | omega)
              have qlt5 : decide ((k : Int) < 5) = false := by simp; omega
              have qe5 : ((k : Int) == 5) = false := by simp; omega
              have qe6 : ((k : Int) == 6) = false := by simp; omega
              have qlt11 : decide ((k : Int) < 11) = false := by simp; omega
              have qlt14 : decide ((k : Int) < 14) = false := by simp; omega
              have i0 : (0 : Int) ≤ (k : Int) := by omega
              have i1 : (k : Int) < 16 := by have := HK.out; omega
              have cop := COP.out
              clear c3 c4 c5 c6 c7
              go_wp2_with fail
              (with_reducible refine (FI.out _).mono ?_)
              rintro e9 w3 ⟨er, ea, rfl, hok, hb⟩
              have hfd := fun W => fld_bad0 er ea W
              have HF3 := Lib.hid (HF1.out.call hb)
              have HOK := Lib.hid hok
              clear hb hok cop
              go_wp2_with fail
              go_ret
              exact ⟨by rw [HOK.out, OKK.out]; simp, HF3.out.below⟩
  · by_cases c3 : k < 5
    · have FI := Lib.hid (fun W => fault7_ok (top7_false_true_false k HK.out) (fine_spec (by have h := top7_fine false true k HK.out; rw [show out7 false k = false by unfold out7; (repeat' split) <;> first | rfl | omega] at h; exact h)).2.2.2 (fine_spec (by have h := top7_fine false true k HK.out; rw [show out7 false k = false by unfold out7; (repeat' split) <;> first | rfl | omega] at h; exact h)).1 (fine_spec (by have h := top7_fine false true k HK.out; rw [show out7 false k = false by unfold out7; (repeat' split) <;> first | rfl | omega] at h; exact h)).2.1 W)
      have OKK : Hid (ok7 false true k = false) := Lib.hid (by unfold ok7; (repeat' split) <;> first | rfl | omega)
      have qlt5 : decide ((k : Int) < 5) = true := by simp; omega
      have i0 : (0 : Int) ≤ (k : Int) := by omega
      have i1 : (k : Int) < 16 := by have := HK.out; omega
      have cop := COP.out
      clear c3
      go_wp2_with fail
      (with_reducible refine (FI.out _).mono ?_)
      rintro e9 w3 ⟨er, ea, rfl, hok, hb⟩
      have hfd := fun W => fld_bad0 er ea W
      have HF3 := Lib.hid (HF1.out.call hb)
      have HOK := Lib.hid hok
      clear hb hok cop
      go_wp2_with fail
      go_ret
      exact ⟨by rw [HOK.out, OKK.out]; simp, HF3.out.below⟩
    · by_cases c4 : k = 5
      · have FI := Lib.hid (fun W => fault7_ok (top7_false_true_true k HK.out) (fine_spec (by have h := top7_fine false true k HK.out; rw [show out7 false k = true by unfold out7; (repeat' split) <;> first | rfl | omega] at h; exact h)).2.2.2 (fine_spec (by have h := top7_fine false true k HK.out; rw [show out7 false k = true by unfold out7; (repeat' split) <;> first | rfl | omega] at h; exact h)).1 (fine_spec (by have h := top7_fine false true k HK.out; rw [show out7 false k = true by unfold out7; (repeat' split) <;> first | rfl | omega] at h; exact h)).2.1 W)
        have OKK : Hid (ok7 false true k = false) := Lib.hid (by unfold ok7; (repeat' split) <;> first | rfl | omega)
        have qlt5 : decide ((k : Int) < 5) = false := by simp; omega
        have qe5 : ((k : Int) == 5) = true := by simp; omega
        have i0 : (0 : Int) ≤ (k : Int) := by omega
        have i1 : (k : Int) < 16 := by have := HK.out; omega
        have cop := COP.out
        clear c3 c4
        go_wp2_with fail
        (with_reducible refine (FI.out _).mono ?_)
        rintro e9 w3 ⟨er, ea, rfl, hok, hb⟩
        have hfd := fun W => fld_bad0 er ea W
        have HF3 := Lib.hid (HF1.out.call hb)
        have HOK := Lib.hid hok
        clear hb hok cop
        go_wp2_with fail
        go_ret
        exact ⟨by rw [HOK.out, OKK.out]; simp, HF3.out.below⟩
      · by_cases c5 : k = 6
        · have FI := Lib.hid (fun W => fault7_ok (top7_false_true_true k HK.out) (fine_spec (by have h := top7_fine false true k HK.out; rw [show out7 false k = true by unfold out7; (repeat' split) <;> first | rfl | omega] at h; exact h)).2.2.2 (fine_spec (by have h := top7_fine false true k HK.out; rw [show out7 false k = true by unfold out7; (repeat' split) <;> first | rfl | omega] at h; exact h)).1 (fine_spec (by have h := top7_fine false true k HK.out; rw [show out7 false k = true by unfold out7; (repeat' split) <;> first | rfl | omega] at h; exact h)).2.1 W)
          have OKK : Hid (ok7 false true k = false) := Lib.hid (by unfold ok7; (repeat' split) <;> first | rfl | omega)
          have qlt5 : decide ((k : Int) < 5) = false := by simp; omega
          have qe5 : ((k : Int) == 5) = false := by simp; omega
          have qe6 : ((k : Int) == 6) = true := by simp; omega
          have i0 : (0 : Int) ≤ (k : Int) := by omega
          have i1 : (k : Int) < 16 := by have := HK.out; omega
          have cop := COP.out
          clear c3 c4 c5
          go_wp2_with fail
          (with_reducible refine (FI.out _).mono ?_)
          rintro e9 w3 ⟨er, ea, rfl, hok, hb⟩
          have hfd := fun W => fld_bad0 er ea W
          have HF3 := Lib.hid (HF1.out.call hb)
          have HOK := Lib.hid hok
          clear hb hok cop
          go_wp2_with fail
          go_ret
          exact ⟨by rw [HOK.out, OKK.out]; simp, HF3.out.below⟩
        · by_cases c6 : k < 11
          · have FI := Lib.hid (fun W => fault7_ok (top7_false_true_true k HK.out) (fine_spec (by have h := top7_fine false true k HK.out; rw [show out7 false k = true by unfold out7; (repeat' split) <;> first | rfl | omega] at h; exact h)).2.2.2 (fine_spec (by have h := top7_fine false true k HK.out; rw [show out7 false k = true by unfold out7; (repeat' split) <;> first | rfl | omega] at h; exact h)).1 (fine_spec (by have h := top7_fine false true k HK.out; rw [show out7 false k = true by unfold out7; (repeat' split) <;> first | rfl | omega] at h; exact h)).2.1 W)
            have OKK : Hid (ok7 false true k = false) := Lib.hid (by unfold ok7; (repeat' split) <;> first | rfl | omega)
            have qlt5 : decide ((k : Int) < 5) = false := by simp; omega
            have qe5 : ((k : Int) == 5) = false := by simp; omega
            have qe6 : ((k : Int) == 6) = false := by simp; omega
            have qlt11 : decide ((k : Int) < 11) = true := by simp; omega
            have i0 : (0 : Int) ≤ (k : Int) := by omega
            have i1 : (k : Int) < 16 := by have := HK.out; omega
            have cop := COP.out
            clear c3 c4 c5 c6
            go_wp2_with fail
            (with_reducible refine (FI.out _).mono ?_)
            rintro e9 w3 ⟨er, ea, rfl, hok, hb⟩
            have hfd := fun W => fld_bad0 er ea W
            have HF3 := Lib.hid (HF1.out.call hb)
            have HOK := Lib.hid hok
            clear hb hok cop
            go_wp2_with fail
            go_ret
            exact ⟨by rw [HOK.out, OKK.out]; simp, HF3.out.below⟩
          · by_cases c7 : k < 14
            · have FI := Lib.hid (fun W => fault7_ok (top7_false_true_true k HK.out) (fine_spec (by have h := top7_fine false true k HK.out; rw [show out7 false k = true by unfold out7; (repeat' split) <;> first | rfl | omega] at h; exact h)).2.2.2 (fine_spec (by have h := top7_fine false true k HK.out; rw [show out7 false k = true by unfold out7; (repeat' split) <;> first | rfl | omega] at h; exact h)).1 (fine_spec (by have h := top7_fine false true k HK.out; rw [show out7 false k = true by unfold out7; (repeat' split) <;> first | rfl | omega] at h; exact h)).2.1 W)
              have OKK : Hid (ok7 false true k = false) := Lib.hid (by unfold ok7; (repeat' split) <;> first | rfl | omega)
              have qlt5 : decide ((k : Int) < 5) = false := by simp; omega
              have qe5 : ((k : Int) == 5) = false := by simp; omega
              have qe6 : ((k : Int) == 6) = false := by simp; omega
              have qlt11 : decide ((k : Int) < 11) = false := by simp; omega
              have qlt14 : decide ((k : Int) < 14) = true := by simp; omega
              have i0 : (0 : Int) ≤ (k : Int) := by omega
              have i1 : (k : Int) < 16 := by have := HK.out; omega
              have cop := COP.out
              clear c3 c4 c5 c6 c7
              go_wp2_with fail
              (with_reducible refine (FI.out _).mono ?_)
              rintro e9 w3 ⟨er, ea, rfl, hok, hb⟩
              have hfd := fun W => fld_bad0 er ea W
              have HF3 := Lib.hid (HF1.out.call hb)
              have HOK := Lib.hid hok
              clear hb hok cop
              go_wp2_with fail
              go_ret
              exact ⟨by rw [HOK.out, OKK.out]; simp, HF3.out.below⟩
            · have FI := Lib.hid (fun W => fault7_ok (top7_false_true_false k HK.out) (fine_spec (by have h := top7_fine false true k HK.out; rw [show out7 false k = false by unfold out7; (repeat' split) <;> first | rfl | omega] at h; exact h)).2.2.2 (fine_spec (by have h := top7_fine false true k HK.out; rw [show out7 false k = false by unfold out7; (repeat' split) <;> first | rfl | omega] at h; exact h)).1 (fine_spec (by have h := top7_fine false true k HK.out; rw [show out7 false k = false by unfold out7; (repeat' split) <;> first | rfl | omega] at h; exact h)).2.1 W)
              have OKK : Hid (ok7 false true k = false) := Lib.hid (by unfold ok7; (repeat' split) <;> first | rfl | omega)
              have qlt5 : decide ((k : Int) < 5) = false := by simp; omega
              have qe5 : ((k : Int) == 5) = false := by simp; omega
              have qe6 : ((k : Int) == 6) = false := by simp; omega
              have qlt11 : decide ((k : Int) < 11) = false := by simp; omega
              have qlt14 : decide ((k : Int) < 14) = false := by simp; omega
              have i0 : (0 : Int) ≤ (k : Int) := by omega
              have i1 : (k : Int) < 16 := by have := HK.out; omega
              have cop := COP.out
              clear c3 c4 c5 c6 c7
              go_wp2_with fail
              (with_reducible refine (FI.out _).mono ?_)
              rintro e9 w3 ⟨er, ea, rfl, hok, hb⟩
              have hfd := fun W => fld_bad0 er ea W
              have HF3 := Lib.hid (HF1.out.call hb)
              have HOK := Lib.hid hok
              clear hb hok cop
              go_wp2_with fail
              go_ret
              exact ⟨by rw [HOK.out, OKK.out]; simp, HF3.out.below⟩
  · by_cases c3 : k < 5
    · have FI := Lib.hid (fun W => fault7_ok (top7_true_false_false k HK.out) (fine_spec (by have h := top7_fine true false k HK.out; rw [show out7 true k = false by unfold out7; (repeat' split) <;> first | rfl | omega] at h; exact h)).2.2.2 (fine_spec (by have h := top7_fine true false k HK.out; rw [show out7 true k = false by unfold out7; (repeat' split) <;> first | rfl | omega] at h; exact h)).1 (fine_spec (by have h := top7_fine true false k HK.out; rw [show out7 true k = false by unfold out7; (repeat' split) <;> first | rfl | omega] at h; exact h)).2.1 W)
      have OKK : Hid (ok7 true false k = false) := Lib.hid (by unfold ok7; (repeat' split) <;> first | rfl | omega)
      have qlt5 : decide ((k : Int) < 5) = true := by simp; omega
      have i0 : (0 : Int) ≤ (k : Int) := by omega
      have i1 : (k : Int) < 16 := by have := HK.out; omega
      have cop := COP.out
      clear c3
      go_wp2_with fail
      (with_reducible refine (FI.out _).mono ?_)
      rintro e9 w3 ⟨er, ea, rfl, hok, hb⟩
      have hfd := fun W => fld_bad0 er ea W
      have HF3 := Lib.hid (HF1.out.call hb)
      have HOK := Lib.hid hok
      clear hb hok cop
      go_wp2_with fail
      go_ret
      exact ⟨by rw [HOK.out, OKK.out]; simp, HF3.out.below⟩
    · by_cases c4 : k = 5
      · have FI := Lib.hid (fun W => fault7_ok (top7_true_false_true k HK.out) (fine_spec (by have h := top7_fine true false k HK.out; rw [show out7 true k = true by unfold out7; (repeat' split) <;> first | rfl | omega] at h; exact h)).2.2.2 (fine_spec (by have h := top7_fine true false k HK.out; rw [show out7 true k = true by unfold out7; (repeat' split) <;> first | rfl | omega] at h; exact h)).1 (fine_spec (by have h := top7_fine true false k HK.out; rw [show out7 true k = true by unfold out7; (repeat' split) <;> first | rfl | omega] at h; exact h)).2.1 W)
        have OKK : Hid (ok7 true false k = false) := Lib.hid (by unfold ok7; (repeat' split) <;> first | rfl | omega)
        have qlt5 : decide ((k : Int) < 5) = false := by simp; omega
        have qe5 : ((k : Int) == 5) = true := by simp; omega
        have i0 : (0 : Int) ≤ (k : Int) := by omega
        have i1 : (k : Int) < 16 := by have := HK.out; omega
        have cop := COP.out
        clear c3 c4
        go_wp2_with fail
        (with_reducible refine (FI.out _).mono ?_)
        rintro e9 w3 ⟨er, ea, rfl, hok, hb⟩
        have hfd := fun W => fld_bad0 er ea W
        have HF3 := Lib.hid (HF1.out.call hb)
        have HOK := Lib.hid hok
        clear hb hok cop
        go_wp2_with fail
        go_ret
        exact ⟨by rw [HOK.out, OKK.out]; simp, HF3.out.below⟩
      · by_cases c5 : k = 6
        · have FI := Lib.hid (fun W => fault7_ok (top7_true_false_true k HK.out) (fine_spec (by have h := top7_fine true false k HK.out; rw [show out7 true k = true by unfold out7; (repeat' split) <;> first | rfl | omega] at h; exact h)).2.2.2 (fine_spec (by have h := top7_fine true false k HK.out; rw [show out7 true k = true by unfold out7; (repeat' split) <;> first | rfl | omega] at h; exact h)).1 (fine_spec (by have h := top7_fine true false k HK.out; rw [show out7 true k = true by unfold out7; (repeat' split) <;> first | rfl | omega] at h; exact h)).2.1 W)
          have OKK : Hid (ok7 true false k = false) := Lib.hid (by unfold ok7; (repeat' split) <;> first | rfl | omega)
          have qlt5 : decide ((k : Int) < 5) = false := by simp; omega
          have qe5 : ((k : Int) == 5) = false := by simp; omega
          have qe6 : ((k : Int) == 6) = true := by simp; omega
          have i0 : (0 : Int) ≤ (k : Int) := by omega
          have i1 : (k : Int) < 16 := by have := HK.out; omega
          have cop := COP.out
          clear c3 c4 c5
          go_wp2_with fail
          (with_reducible refine (FI.out _).mono ?_)
          rintro e9 w3 ⟨er, ea, rfl, hok, hb⟩
          have hfd := fun W => fld_bad0 er ea W
          have HF3 := Lib.hid (HF1.out.call hb)
          have HOK := Lib.hid hok
          clear hb hok cop
          go_wp2_with fail
          go_ret
          exact ⟨by rw [HOK.out, OKK.out]; simp, HF3.out.below⟩
        · by_cases c6 : k < 11
          · have FI := Lib.hid (fun W => fault7_ok (top7_true_false_true k HK.out) (fine_spec (by have h := top7_fine true false k HK.out; rw [show out7 true k = true by unfold out7; (repeat' split) <;> first | rfl | omega] at h; exact h)).2.2.2 (fine_spec (by have h := top7_fine true false k HK.out; rw [show out7 true k = true by unfold out7; (repeat' split) <;> first | rfl | omega] at h; exact h)).1 (fine_spec (by have h := top7_fine true false k HK.out; rw [show out7 true k = true by unfold out7; (repeat' split) <;> first | rfl | omega] at h; exact h)).2.1 W)
            have OKK : Hid (ok7 true false k = false) := Lib.hid (by unfold ok7; (repeat' split) <;> first | rfl | omega)
            have qlt5 : decide ((k : Int) < 5) = false := by simp; omega
            have qe5 : ((k : Int) == 5) = false := by simp; omega
            have qe6 : ((k : Int) == 6) = false := by simp; omega
            have qlt11 : decide ((k : Int) < 11) = true := by simp; omega
            have i0 : (0 : Int) ≤ (k : Int) := by omega
            have i1 : (k : Int) < 16 := by have := HK.out; omega
            have cop := COP.out
            clear c3 c4 c5 c6
            go_wp2_with fail
            (with_reducible refine (FI.out _).mono ?_)
            rintro e9 w3 ⟨er, ea, rfl, hok, hb⟩
            have hfd := fun W => fld_bad0 er ea W
            have HF3 := Lib.hid (HF1.out.call hb)
            have HOK := Lib.hid hok
            clear hb hok cop
            go_wp2_with fail
            go_ret
            exact ⟨by rw [HOK.out, OKK.out]; simp, HF3.out.below⟩
          · by_cases c7 : k < 14
            · have FI := Lib.hid (fun W => fault7_ok (top7_true_false_true k HK.out) (fine_spec (by have h := top7_fine true false k HK.out; rw [show out7 true k = true by unfold out7; (repeat' split) <;> first | rfl | omega] at h; exact h)).2.2.2 (fine_spec (by have h := top7_fine true false k HK.out; rw [show out7 true k = true by unfold out7; (repeat' split) <;> first | rfl | omega] at h; exact h)).1 (fine_spec (by have h := top7_fine true false k HK.out; rw [show out7 true k = true by unfold out7; (repeat' split) <;> first | rfl | omega] at h; exact h)).2.1 W)
              have OKK : Hid (ok7 true false k = false) := Lib.hid (by unfold ok7; (repeat' split) <;> first | rfl | omega)
              have qlt5 : decide ((k : Int) < 5) = false := by simp; omega
              have qe5 : ((k : Int) == 5) = false := by simp; omega
              have qe6 : ((k : Int) == 6) = false := by simp; omega
              have qlt11 : decide ((k : Int) < 11) = false := by simp; omega
              have qlt14 : decide ((k : Int) < 14) = true := by simp; omega
              have i0 : (0 : Int) ≤ (k : Int) := by omega
              have i1 : (k : Int) < 16 := by have := HK.out; omega
              have cop := COP.out
              clear c3 c4 c5 c6 c7
              go_wp2_with fail
              (with_reducible refine (FI.out _).mono ?_)
              rintro e9 w3 ⟨er, ea, rfl, hok, hb⟩
              have hfd := fun W => fld_bad0 er ea W
              have HF3 := Lib.hid (HF1.out.call hb)
              have HOK := Lib.hid hok
              clear hb hok cop
              go_wp2_with fail
              go_ret
              exact ⟨by rw [HOK.out, OKK.out]; simp, HF3.out.below⟩
            · have FI := Lib.hid (fun W => fault7_ok (top7_true_false_true k HK.out) (fine_spec (by have h := top7_fine true false k HK.out; rw [show out7 true k = true by unfold out7; (repeat' split) <;> first | rfl | omega] at h; exact h)).2.2.2 (fine_spec (by have h := top7_fine true false k HK.out; rw [show out7 true k = true by unfold out7; (repeat' split) <;> first | rfl | omega] at h; exact h)).1 (fine_spec (by have h := top7_fine true false k HK.out; rw [show out7 true k = true by unfold out7; (repeat' split) <;> first | rfl | omega] at h; exact h)).2.1 W)
              have OKK : Hid (ok7 true false k = false) := Lib.hid (by unfold ok7; (repeat' split) <;> first | rfl | omega)
              have qlt5 : decide ((k : Int) < 5) = false := by simp; omega
              have qe5 : ((k : Int) == 5) = false := by simp; omega
              have qe6 : ((k : Int) == 6) = false := by simp; omega
              have qlt11 : decide ((k : Int) < 11) = false := by simp; omega
              have qlt14 : decide ((k : Int) < 14) = false := by simp; omega
              have i0 : (0 : Int) ≤ (k : Int) := by omega
              have i1 : (k : Int) < 16 := by have := HK.out; omega
              have cop := COP.out
              clear c3 c4 c5 c6 c7
              go_wp2_with fail
              (with_reducible refine (FI.out _).mono ?_)
              rintro e9 w3 ⟨er, ea, rfl, hok, hb⟩
              have hfd := fun W => fld_bad0 er ea W
              have HF3 := Lib.hid (HF1.out.call hb)
              have HOK := Lib.hid hok
              clear hb hok cop
              go_wp2_with fail
              go_ret
              exact ⟨by rw [HOK.out, OKK.out]; simp, HF3.out.below⟩
  · by_cases c3 : k < 5
    · have FI := Lib.hid (fun W => fault7_ok (top7_true_true_false k HK.out) (fine_spec (by have h := top7_fine true true k HK.out; rw [show out7 true k = false by unfold out7; (repeat' split) <;> first | rfl | omega] at h; exact h)).2.2.2 (fine_spec (by have h := top7_fine true true k HK.out; rw [show out7 true k = false by unfold out7; (repeat' split) <;> first | rfl | omega] at h; exact h)).1 (fine_spec (by have h := top7_fine true true k HK.out; rw [show out7 true k = false by unfold out7; (repeat' split) <;> first | rfl | omega] at h; exact h)).2.1 W)
      have OKK : Hid (ok7 true true k = false) := Lib.hid (by unfold ok7; (repeat' split) <;> first | rfl | omega)
      have qlt5 : decide ((k : Int) < 5) = true := by simp; omega
      have i0 : (0 : Int) ≤ (k : Int) := by omega
      have i1 : (k : Int) < 16 := by have := HK.out; omega
      have cop := COP.out
      clear c3
      go_wp2_with fail
      (with_reducible refine (FI.out _).mono ?_)
      rintro e9 w3 ⟨er, ea, rfl, hok, hb⟩
      have hfd := fun W => fld_bad0 er ea W
      have HF3 := Lib.hid (HF1.out.call hb)
      have HOK := Lib.hid hok
      clear hb hok cop
      go_wp2_with fail
      go_ret
      exact ⟨by rw [HOK.out, OKK.out]; simp, HF3.out.below⟩
    · by_cases c4 : k = 5
      · have FI := Lib.hid (fun W => fault7_ok (top7_true_true_true k HK.out) (fine_spec (by have h := top7_fine true true k HK.out; rw [show out7 true k = true by unfold out7; (repeat' split) <;> first | rfl | omega] at h; exact h)).2.2.2 (fine_spec (by have h := top7_fine true true k HK.out; rw [show out7 true k = true by unfold out7; (repeat' split) <;> first | rfl | omega] at h; exact h)).1 (fine_spec (by have h := top7_fine true true k HK.out; rw [show out7 true k = true by unfold out7; (repeat' split) <;> first | rfl | omega] at h; exact h)).2.1 W)
        have OKK : Hid (ok7 true true k = true) := Lib.hid (by unfold ok7; (repeat' split) <;> first | rfl | omega)
        have qlt5 : decide ((k : Int) < 5) = false := by simp; omega
        have qe5 : ((k : Int) == 5) = true := by simp; omega
        have i0 : (0 : Int) ≤ (k : Int) := by omega
        have i1 : (k : Int) < 16 := by have := HK.out; omega
        have cop := COP.out
        clear c3 c4
        go_wp2_with fail
        (with_reducible refine (FI.out _).mono ?_)
        rintro e9 w3 ⟨er, ea, rfl, hok, hb⟩
        have hfd := fun W => fld_bad0 er ea W
        have HF3 := Lib.hid (HF1.out.call hb)
        have HOK := Lib.hid hok
        clear hb hok cop
        go_wp2_with fail
        go_ret
        exact ⟨by rw [HOK.out, OKK.out]; simp, HF3.out.below⟩
      · by_cases c5 : k = 6
        · have FI := Lib.hid (fun W => fault7_ok (top7_true_true_true k HK.out) (fine_spec (by have h := top7_fine true true k HK.out; rw [show out7 true k = true by unfold out7; (repeat' split) <;> first | rfl | omega] at h; exact h)).2.2.2 (fine_spec (by have h := top7_fine true true k HK.out; rw [show out7 true k = true by unfold out7; (repeat' split) <;> first | rfl | omega] at h; exact h)).1 (fine_spec (by have h := top7_fine true true k HK.out; rw [show out7 true k = true by unfold out7; (repeat' split) <;> first | rfl | omega] at h; exact h)).2.1 W)
          have OKK : Hid (ok7 true true k = true) := Lib.hid (by unfold ok7; (repeat' split) <;> first | rfl | omega)
          have qlt5 : decide ((k : Int) < 5) = false := by simp; omega
          have qe5 : ((k : Int) == 5) = false := by simp; omega
          have qe6 : ((k : Int) == 6) = true := by simp; omega
          have i0 : (0 : Int) ≤ (k : Int) := by omega
          have i1 : (k : Int) < 16 := by have := HK.out; omega
          have cop := COP.out
          clear c3 c4 c5
          go_wp2_with fail
          (with_reducible refine (FI.out _).mono ?_)
          rintro e9 w3 ⟨er, ea, rfl, hok, hb⟩
          have hfd := fun W => fld_bad0 er ea W
          have HF3 := Lib.hid (HF1.out.call hb)
          have HOK := Lib.hid hok
          clear hb hok cop
          go_wp2_with fail
          go_ret
          exact ⟨by rw [HOK.out, OKK.out]; simp, HF3.out.below⟩
        · by_cases c6 : k < 11
          · have FI := Lib.hid (fun W => fault7_ok (top7_true_true_true k HK.out) (fine_spec (by have h := top7_fine true true k HK.out; rw [show out7 true k = true by unfold out7; (repeat' split) <;> first | rfl | omega] at h; exact h)).2.2.2 (fine_spec (by have h := top7_fine true true k HK.out; rw [show out7 true k = true by unfold out7; (repeat' split) <;> first | rfl | omega] at h; exact h)).1 (fine_spec (by have h := top7_fine true true k HK.out; rw [show out7 true k = true by unfold out7; (repeat' split) <;> first | rfl | omega] at h; exact h)).2.1 W)
            have OKK : Hid (ok7 true true k = false) := Lib.hid (by unfold ok7; (repeat' split) <;> first | rfl | omega)
            have qlt5 : decide ((k : Int) < 5) = false := by simp; omega
            have qe5 : ((k : Int) == 5) = false := by simp; omega
            have qe6 : ((k : Int) == 6) = false := by simp; omega
            have qlt11 : decide ((k : Int) < 11) = true := by simp; omega
            have i0 : (0 : Int) ≤ (k : Int) := by omega
            have i1 : (k : Int) < 16 := by have := HK.out; omega
            have cop := COP.out
            clear c3 c4 c5 c6
            go_wp2_with fail
            (with_reducible refine (FI.out _).mono ?_)
            rintro e9 w3 ⟨er, ea, rfl, hok, hb⟩
            have hfd := fun W => fld_bad0 er ea W
            have HF3 := Lib.hid (HF1.out.call hb)
            have HOK := Lib.hid hok
            clear hb hok cop
            go_wp2_with fail
            go_ret
            exact ⟨by rw [HOK.out, OKK.out]; simp, HF3.out.below⟩
          · by_cases c7 : k < 14
            · have FI := Lib.hid (fun W => fault7_ok (top7_true_true_true k HK.out) (fine_spec (by have h := top7_fine true true k HK.out; rw [show out7 true k = true by unfold out7; (repeat' split) <;> first | rfl | omega] at h; exact h)).2.2.2 (fine_spec (by have h := top7_fine true true k HK.out; rw [show out7 true k = true by unfold out7; (repeat' split) <;> first | rfl | omega] at h; exact h)).1 (fine_spec (by have h := top7_fine true true k HK.out; rw [show out7 true k = true by unfold out7; (repeat' split) <;> first | rfl | omega] at h; exact h)).2.1 W)
              have OKK : Hid (ok7 true true k = true) := Lib.hid (by unfold ok7; (repeat' split) <;> first | rfl | omega)
              have qlt5 : decide ((k : Int) < 5) = false := by simp; omega
              have qe5 : ((k : Int) == 5) = false := by simp; omega
              have qe6 : ((k : Int) == 6) = false := by simp; omega
              have qlt11 : decide ((k : Int) < 11) = false := by simp; omega
              have qlt14 : decide ((k : Int) < 14) = true := by simp; omega
              have i0 : (0 : Int) ≤ (k : Int) := by omega
              have i1 : (k : Int) < 16 := by have := HK.out; omega
              have cop := COP.out
              clear c3 c4 c5 c6 c7
              go_wp2_with fail
              (with_reducible refine (FI.out _).mono ?_)
              rintro e9 w3 ⟨er, ea, rfl, hok, hb⟩
              have hfd := fun W => fld_bad0 er ea W
              have HF3 := Lib.hid (HF1.out.call hb)
              have HOK := Lib.hid hok
              clear hb hok cop
              go_wp2_with fail
              go_ret
              exact ⟨by rw [HOK.out, OKK.out]; simp, HF3.out.below⟩
            · have FI := Lib.hid (fun W => fault7_ok (top7_true_true_true k HK.out) (fine_spec (by have h := top7_fine true true k HK.out; rw [show out7 true k = true by unfold out7; (repeat' split) <;> first | rfl | omega] at h; exact h)).2.2.2 (fine_spec (by have h := top7_fine true true k HK.out; rw [show out7 true k = true by unfold out7; (repeat' split) <;> first | rfl | omega] at h; exact h)).1 (fine_spec (by have h := top7_fine true true k HK.out; rw [show out7 true k = true by unfold out7; (repeat' split) <;> first | rfl | omega] at h; exact h)).2.1 W)
              have OKK : Hid (ok7 true true k = true) := Lib.hid (by unfold ok7; (repeat' split) <;> first | rfl | omega)
              have qlt5 : decide ((k : Int) < 5) = false := by simp; omega
              have qe5 : ((k : Int) == 5) = false := by simp; omega
              have qe6 : ((k : Int) == 6) = false := by simp; omega
              have qlt11 : decide ((k : Int) < 11) = false := by simp; omega
              have qlt14 : decide ((k : Int) < 14) = false := by simp; omega
              have i0 : (0 : Int) ≤ (k : Int) := by omega
              have i1 : (k : Int) < 16 := by have := HK.out; omega
              have cop := COP.out
              clear c3 c4 c5 c6 c7
              go_wp2_with fail
              (with_reducible refine (FI.out _).mono ?_)
              rintro e9 w3 ⟨er, ea, rfl, hok, hb⟩
              have hfd := fun W => fld_bad0 er ea W
              have HF3 := Lib.hid (HF1.out.call hb)
              have HOK := Lib.hid hok
              clear hb hok cop
              go_wp2_with fail
              go_ret
              exact ⟨by rw [HOK.out, OKK.out]; simp, HF3.out.below⟩

set_option maxRecDepth 100000 in
theorem lifted (os : Os) (started : os.Started) (H : Type) (enc : TypeId × Value → H) :
    ReturnsInHanded {} Try.checked os 8 .any (Rows.typOpsSpec.pre6 enc Try.prog Try.f8 Rows.typOpsRow.domain false) (Rows.typOpsSpec.post enc Try.prog Try.f8 false true false false) := by
  refine returnsInHanded_of_change (C := Try.checked) own started (by kernel_rfl) Try.func8
    (ChangeSpec.witness6 (enc := enc) (C := Try.checked) false ⟨#[], #[.int .i64 0, .bool false, .bool false], []⟩ 8 (by kernel_rfl) (by kernel_rfl) (by kernel_rfl) (by kernel_rfl)) ?_
  intro W base args ds gs before hval0 hW hcnd _
  have hval : ∀ (j : Nat) t v, Try.f8.params[j]? = some t → args[j]? = some v → Value.okWide Try.prog W .any base t v := hval0
  have hW' := hW
  obtain ⟨p, q, hA0, hV, rfl, hfz, hnd⟩ := hW
  have hA : DataW.TrodAll enc Try.prog W 0 (fun _ => true) true Try.f8.params.toList args.toList ds p := hA0
  rw [Try.params8] at hA hval
  obtain ⟨v0, vs0, d0, ds0, p0, q0, hargs, rfl, rfl, h0, r0⟩ := trodAll_cons hA
  obtain ⟨v1, vs1, d1, ds1, p1, q1, rfl, rfl, rfl, h1, r1⟩ := trodAll_cons r0
  obtain ⟨v2, vs2, d2, ds2, p2, q2, rfl, rfl, rfl, h2, r2⟩ := trodAll_cons r1
  obtain ⟨rfl, rfl, rfl⟩ := trodAll_nil r2
  obtain rfl : args = #[v0, v1, v2] := by cases args; simp_all
  obtain ⟨rfl, rfl⟩ := trodVars_none hV
  obtain ⟨op, rfl, rfl, rfl, w_op⟩ := open_int Try.underlying3 (hval 0 3 v0 rfl rfl) h0
  obtain ⟨a, rfl, rfl, rfl⟩ := open_bool Try.underlying4 (hval 1 4 v1 rfl rfl) h1
  obtain ⟨b, rfl, rfl, rfl⟩ := open_bool Try.underlying4 (hval 2 4 v2 rfl rfl) h2
  clear hA0 hval0
  refine (walk op a b W w_op).mono fun e W' ⟨he, bel⟩ => ?_
  subst he
  exact ⟨_, rfl, _, _, _, [], _, [], hW', trodAll_mk1 (shut_bool Try.underlying4 _), (trodAll_cons_mk (shut_int Try.underlying3 w_op) (trodAll_cons_mk (shut_bool Try.underlying4 a) (trodAll_cons_mk (shut_bool Try.underlying4 b) trodAll_mk0))), rfl, bel.frame _, fun h => by cases h⟩

theorem joined : joinedFacts Try.prog 8 Try.f8 Rows.typOpsSpec Rows.typOpsRow = true := by
  unfold joinedFacts
  rw [jf_laid, jf_maps, jf_plain, jf_heard, jf_may, jf_lifts, jf_make]
  repeat' (with_reducible refine Bool.and_eq_true_iff.2 ⟨?_, ?_⟩)
  all_goals as_aux_lemma => kernel_rfl

theorem over : Rows.typOpsRow.holds Try.pinned (OpenSpec.ofChange Rows.typOpsSpec) :=
  OpenClaim.holds_of_wide 8 Try.f8 rfl rfl rfl rfl rfl rfl rfl ⟨rfl, rfl, rfl, rfl, rfl⟩ rfl rfl rfl rfl rfl (by kernel_rfl) Try.func8 joined
    (of_decide_eq_true (by kernel_rfl)) (by unfold Func.isWrapper; first | (rw [if_pos (by decide +kernel)]; kernel_rfl) | (rw [if_neg (by decide +kernel)]; exact ⟨rfl, rfl⟩))
    (fun os started H enc _ => lifted os started H enc)

theorem proved : Rows.TypOpsSaid := over
#print axioms proved
end Go.Proofs.Ytbgngmnpepnflaa.typOps
