/-
  Proved: ClkOps of escapementlaw8 returns true for every input, and leaves what it was handed as it was. No conditions.
-/
import Derived.Test.YtfajafjikpmgpaaMe
import Derived.Test.YtfajafjikpmgpaaRows
import Derived.Deep.QuietTactic
import Derived.BigQuiet
import Derived.WalkKit
import Derived.ProofKit
import Derived.OpenShut
import Derived.ShutString
import Derived.ChangeOld
import Derived.SizedLaws
namespace Go.Proofs.Ytfajafjikpmgpaa.clkOps
open Go.ChangeShapes Go.WideShapes Go.ChangeAt Go.RowKit
open Go.ChangeMaps (open_string shut_string)
set_option linter.unusedVariables false

theorem own : ownKnob Try.prog.godebug = none := by kernel_rfl
theorem laidOut : laidOutB Try.prog = true := by kernel_rfl

set_option maxHeartbeats 8000000 in
set_option maxRecDepth 100000 in
theorem walk (i : Int) (k : Int) (op : Int) (w : World) (w_i : (Lit.int .i64 i).wf = true) (w_k : (Lit.int .i64 k).wf = true) (w_op : (Lit.int .i64 op).wf = true) :
    Calls Try.prog 8 #[.int .i64 i, .int .i64 k, .int .i64 op] w fun e w' => e = .returned (.bool true) ∧ Below w.heap.size w w' := by
  go_enter Try.func8, Try.ntmps8
  go_wp2_with fail
  (with_reducible refine (awake8_any w).mono ?_)
  rintro e w1 ⟨rfl, hb1⟩
  have F1 := ((((Fx.start w).call hb1).make (.cells #[.string ⟨#[120]⟩, .string ⟨#[40, 120, 32, 119, 104, 101, 110, 32, 99, 41]⟩, .string ⟨#[40, 120, 32, 119, 104, 101, 110, 32, 110, 111, 116, 32, 99, 41]⟩, .string ⟨#[40, 120, 32, 119, 104, 101, 110, 32, 100, 41]⟩, .string ⟨#[49]⟩, .string ⟨#[40, 50, 32, 45, 62, 32, 51, 41]⟩] 9)).make (.cells #[.string ⟨#[43]⟩, .string ⟨#[45, 62]⟩, .string ⟨#[102, 98, 121]⟩, .string ⟨#[42]⟩, .string ⟨#[60]⟩] 9))
  have HF1 := Lib.hid F1
  clear hb1 F1 w_i w_k w_op
  by_cases ci : i < 0
  · have di : decide (i < 0) = true := by simpa using ci
    clear ci
    go_wp2_with fail
    go_ret
    exact ⟨rfl, HF1.out.below⟩
  have di : decide (i < 0) = false := by simpa using ci
  by_cases ei : 6 ≤ i
  · have fi : decide ((6 : Int) ≤ i) = true := by simpa using ei
    clear ci ei
    go_wp2_with fail
    go_ret
    exact ⟨rfl, HF1.out.below⟩
  have fi : decide ((6 : Int) ≤ i) = false := by simpa using ei
  obtain ⟨ni, hi⟩ : ∃ z : Nat, i = (z : Int) := ⟨i.toNat, by omega⟩
  have li : ni < 6 := by omega
  have Li := Lib.hid li
  subst hi
  clear ci ei li
  by_cases ck : k < 0
  · have dk : decide (k < 0) = true := by simpa using ck
    clear ck
    go_wp2_with fail
    go_ret
    exact ⟨rfl, HF1.out.below⟩
  have dk : decide (k < 0) = false := by simpa using ck
  by_cases ek : 6 ≤ k
  · have fk : decide ((6 : Int) ≤ k) = true := by simpa using ek
    clear ck ek
    go_wp2_with fail
    go_ret
    exact ⟨rfl, HF1.out.below⟩
  have fk : decide ((6 : Int) ≤ k) = false := by simpa using ek
  obtain ⟨nk, hk⟩ : ∃ z : Nat, k = (z : Int) := ⟨k.toNat, by omega⟩
  have lk : nk < 6 := by omega
  have Lk := Lib.hid lk
  subst hk
  clear ck ek lk
  by_cases cop : op < 0
  · have dop : decide (op < 0) = true := by simpa using cop
    clear cop
    go_wp2_with fail
    go_ret
    exact ⟨rfl, HF1.out.below⟩
  have dop : decide (op < 0) = false := by simpa using cop
  by_cases eop : 5 ≤ op
  · have fop : decide ((5 : Int) ≤ op) = true := by simpa using eop
    clear cop eop
    go_wp2_with fail
    go_ret
    exact ⟨rfl, HF1.out.below⟩
  have fop : decide ((5 : Int) ≤ op) = false := by simpa using eop
  obtain ⟨nop, hop⟩ : ∃ z : Nat, op = (z : Int) := ⟨op.toNat, by omega⟩
  have lop : nop < 5 := by omega
  have Lop := Lib.hid lop
  subst hop
  clear cop eop lop
  have hn3 := three_new w1 (.cells #[.string ⟨#[120]⟩, .string ⟨#[40, 120, 32, 119, 104, 101, 110, 32, 99, 41]⟩, .string ⟨#[40, 120, 32, 119, 104, 101, 110, 32, 110, 111, 116, 32, 99, 41]⟩, .string ⟨#[40, 120, 32, 119, 104, 101, 110, 32, 100, 41]⟩, .string ⟨#[49]⟩, .string ⟨#[40, 50, 32, 45, 62, 32, 51, 41]⟩] 9) (.cells #[.string ⟨#[43]⟩, .string ⟨#[45, 62]⟩, .string ⟨#[102, 98, 121]⟩, .string ⟨#[42]⟩, .string ⟨#[60]⟩] 9) (.cells #[.string ⟨#[]⟩, .string ⟨#[32, 119, 104, 101, 110, 32, 99]⟩, .string ⟨#[32, 119, 104, 101, 110, 32, 110, 111, 116, 32, 99]⟩, .string ⟨#[32, 119, 104, 101, 110, 32, 100]⟩, .string ⟨#[]⟩, .string ⟨#[]⟩] 9)
  have ce : ∀ j, j < 6 → (((w1.alloc (.cells #[.string ⟨#[120]⟩, .string ⟨#[40, 120, 32, 119, 104, 101, 110, 32, 99, 41]⟩, .string ⟨#[40, 120, 32, 119, 104, 101, 110, 32, 110, 111, 116, 32, 99, 41]⟩, .string ⟨#[40, 120, 32, 119, 104, 101, 110, 32, 100, 41]⟩, .string ⟨#[49]⟩, .string ⟨#[40, 50, 32, 45, 62, 32, 51, 41]⟩] 9)).alloc (.cells #[.string ⟨#[43]⟩, .string ⟨#[45, 62]⟩, .string ⟨#[102, 98, 121]⟩, .string ⟨#[42]⟩, .string ⟨#[60]⟩] 9)).alloc (.cells #[.string ⟨#[]⟩, .string ⟨#[32, 119, 104, 101, 110, 32, 99]⟩, .string ⟨#[32, 119, 104, 101, 110, 32, 110, 111, 116, 32, 99]⟩, .string ⟨#[32, 119, 104, 101, 110, 32, 100]⟩, .string ⟨#[]⟩, .string ⟨#[]⟩] 9)).cell? ⟨w1.heap.size, j, none⟩ = some (.string (e8B j)) := fun j hj => by rw [cell_of_row _ _ _ _ _ (0, 0) hn3.1]; exact e8_at j hj
  have co : ∀ j, j < 5 → (((w1.alloc (.cells #[.string ⟨#[120]⟩, .string ⟨#[40, 120, 32, 119, 104, 101, 110, 32, 99, 41]⟩, .string ⟨#[40, 120, 32, 119, 104, 101, 110, 32, 110, 111, 116, 32, 99, 41]⟩, .string ⟨#[40, 120, 32, 119, 104, 101, 110, 32, 100, 41]⟩, .string ⟨#[49]⟩, .string ⟨#[40, 50, 32, 45, 62, 32, 51, 41]⟩] 9)).alloc (.cells #[.string ⟨#[43]⟩, .string ⟨#[45, 62]⟩, .string ⟨#[102, 98, 121]⟩, .string ⟨#[42]⟩, .string ⟨#[60]⟩] 9)).alloc (.cells #[.string ⟨#[]⟩, .string ⟨#[32, 119, 104, 101, 110, 32, 99]⟩, .string ⟨#[32, 119, 104, 101, 110, 32, 110, 111, 116, 32, 99]⟩, .string ⟨#[32, 119, 104, 101, 110, 32, 100]⟩, .string ⟨#[]⟩, .string ⟨#[]⟩] 9)).cell? ⟨w1.heap.size + 1, j, none⟩ = some (.string (op8B j)) := fun j hj => by rw [cell_of_row _ _ _ _ _ (0, 0) hn3.2.1]; exact op8_at j hj
  have cn : ∀ j, j < 6 → (((w1.alloc (.cells #[.string ⟨#[120]⟩, .string ⟨#[40, 120, 32, 119, 104, 101, 110, 32, 99, 41]⟩, .string ⟨#[40, 120, 32, 119, 104, 101, 110, 32, 110, 111, 116, 32, 99, 41]⟩, .string ⟨#[40, 120, 32, 119, 104, 101, 110, 32, 100, 41]⟩, .string ⟨#[49]⟩, .string ⟨#[40, 50, 32, 45, 62, 32, 51, 41]⟩] 9)).alloc (.cells #[.string ⟨#[43]⟩, .string ⟨#[45, 62]⟩, .string ⟨#[102, 98, 121]⟩, .string ⟨#[42]⟩, .string ⟨#[60]⟩] 9)).alloc (.cells #[.string ⟨#[]⟩, .string ⟨#[32, 119, 104, 101, 110, 32, 99]⟩, .string ⟨#[32, 119, 104, 101, 110, 32, 110, 111, 116, 32, 99]⟩, .string ⟨#[32, 119, 104, 101, 110, 32, 100]⟩, .string ⟨#[]⟩, .string ⟨#[]⟩] 9)).cell? ⟨w1.heap.size + 1 + 1, j, none⟩ = some (.string (on8B j)) := fun j hj => by rw [cell_of_row _ _ _ _ _ (0, 0) hn3.2.2.1]; exact on8_at j hj
  have HF3 := Lib.hid (HF1.out.call (((Below.refl _ _).alloc (Nat.le_refl _) (.cells #[.string ⟨#[]⟩, .string ⟨#[32, 119, 104, 101, 110, 32, 99]⟩, .string ⟨#[32, 119, 104, 101, 110, 32, 110, 111, 116, 32, 99]⟩, .string ⟨#[32, 119, 104, 101, 110, 32, 100]⟩, .string ⟨#[]⟩, .string ⟨#[]⟩] 9))))
  have CE := Lib.hid ce
  have CO := Lib.hid co
  have CN := Lib.hid cn
  have HSB := Lib.hid size_bad
  have se := e8_size ni
  have se2 := e8_size nk
  have sn := on8_size ni
  have sn2 := on8_size nk
  have so := op8_size nop
  have i0 : (0 : Int) ≤ (ni : Int) := by omega
  have k0 : (0 : Int) ≤ (nk : Int) := by omega
  have o0 : (0 : Int) ≤ (nop : Int) := by omega
  have i1 : (ni : Int) < 6 := by have := Li.out; omega
  have k1 : (nk : Int) < 6 := by have := Lk.out; omega
  have o1 : (nop : Int) < 5 := by have := Lop.out; omega
  have q1 := CE.out ni Li.out
  have q2 := CE.out nk Lk.out
  have q3 := CO.out nop Lop.out
  have q4 := CN.out ni Li.out
  have q5 := CN.out nk Lk.out
  clear ce co cn hn3
  by_cases cO : nop = 4
  · skip
    by_cases cI : 3 < ni
    · by_cases cE : ni = nk
      · have cK : 3 < nk := by omega
        have OKK : Hid (ok8 ni nk = true) := Lib.hid (by unfold ok8; simp; omega)
        have FT := Lib.hid (top8_bool_k ni nk nop Li.out Lk.out Lop.out (by omega) (by omega))
        have FN := Lib.hid (by have h := top8_fine ni nk nop Li.out Lk.out Lop.out; rw [OKK.out] at h; exact h)
        have FI := Lib.hid (fun W => fault8_fine FT.out FN.out W)
        have FP := Lib.hid (fun W => parse8_fine FT.out FN.out W)
        have r1 : decide ((3 : Int) < (ni : Int)) = true := by simp; omega
        have r2 : ((ni : Int) == (nk : Int)) = true := by simp; omega
        have r3 : decide ((3 : Int) < (nk : Int)) = true := by simp; omega
        have r4 : ((op8B nop).toList == [60]) = true := by rw [show nop = 4 by omega]; exact op8_is
        clear cI cK cE cO
        go_upto_region 14 with fail
        go_quiet (fail)
        go_wp2_with fail
        (with_reducible refine (FP.out _).mono ?_)
        rintro e9 w3 ⟨px, pc, pq, rfl, hb⟩
        have F4 := ((HF3.out.call (below_drewN (Below.refl _ _) _)).call hb).alloc w3.heap.size rfl 30 #[.int .i64 0, .int .i64 0]
        have F5 := F4.store 0 rfl #[.int .i64 0, .int .i64 pq]
        have HN1 := Lib.hid (F4.get 0 rfl)
        have c0 := cell_of_row _ w3.heap.size 0 _ _ _ (F5.get 0 rfl)
        have HF5 := Lib.hid F5
        clear F4 F5 hb q1 q2 q3 q4 q5
        go_wp2_with (refine wpList_store_row rfl 30 (.tmp 14) (.tmp 90) rfl w3.heap.size #[.int .i64 0, .int .i64 pq] rfl rfl 30 #[.int .i64 0, .int .i64 0] ?_ HSB.out rfl (fault_one _ _) ?_; (exact HN1.out))
        (with_reducible refine (FI.out _).mono ?_)
        rintro e9 w4 ⟨er, ea, rfl, hok, hb⟩
        have hfd := fun W => fld8_bad0 er ea W
        have HF6 := Lib.hid (HF5.out.call hb)
        have HOK := Lib.hid hok
        clear hb hok c0
        go_wp2_with fail
        go_ret
        exact ⟨by rw [HOK.out]; rfl, HF6.out.below⟩
      · by_cases cK : 3 < nk
        · skip
          have OKK : Hid (ok8 ni nk = true) := Lib.hid (by unfold ok8; simp; omega)
          have FT := Lib.hid (top8_bool_k ni nk nop Li.out Lk.out Lop.out (by omega) (by omega))
          have FN := Lib.hid (by have h := top8_fine ni nk nop Li.out Lk.out Lop.out; rw [OKK.out] at h; exact h)
          have FI := Lib.hid (fun W => fault8_fine FT.out FN.out W)
          have FP := Lib.hid (fun W => parse8_fine FT.out FN.out W)
          have r1 : decide ((3 : Int) < (ni : Int)) = true := by simp; omega
          have r2 : ((ni : Int) == (nk : Int)) = false := by simp; omega
          have r3 : decide ((3 : Int) < (nk : Int)) = true := by simp; omega
          have r4 : ((op8B nop).toList == [60]) = true := by rw [show nop = 4 by omega]; exact op8_is
          clear cI cK cE cO
          go_upto_region 14 with fail
          go_quiet (fail)
          go_wp2_with fail
          (with_reducible refine (FP.out _).mono ?_)
          rintro e9 w3 ⟨px, pc, pq, rfl, hb⟩
          have F4 := ((HF3.out.call (below_drewN (Below.refl _ _) _)).call hb).alloc w3.heap.size rfl 30 #[.int .i64 0, .int .i64 0]
          have F5 := F4.store 0 rfl #[.int .i64 0, .int .i64 pq]
          have HN1 := Lib.hid (F4.get 0 rfl)
          have c0 := cell_of_row _ w3.heap.size 0 _ _ _ (F5.get 0 rfl)
          have HF5 := Lib.hid F5
          clear F4 F5 hb q1 q2 q3 q4 q5
          go_wp2_with (refine wpList_store_row rfl 30 (.tmp 14) (.tmp 90) rfl w3.heap.size #[.int .i64 0, .int .i64 pq] rfl rfl 30 #[.int .i64 0, .int .i64 0] ?_ HSB.out rfl (fault_one _ _) ?_; (exact HN1.out))
          (with_reducible refine (FI.out _).mono ?_)
          rintro e9 w4 ⟨er, ea, rfl, hok, hb⟩
          have hfd := fun W => fld8_bad0 er ea W
          have HF6 := Lib.hid (HF5.out.call hb)
          have HOK := Lib.hid hok
          clear hb hok c0
          go_wp2_with fail
          go_ret
          exact ⟨by rw [HOK.out]; rfl, HF6.out.below⟩
        · skip
          have OKK : Hid (ok8 ni nk = true) := Lib.hid (by unfold ok8; simp; omega)
          have FT := Lib.hid (top8_bool_k ni nk nop Li.out Lk.out Lop.out (by omega) (by omega))
          have FN := Lib.hid (by have h := top8_fine ni nk nop Li.out Lk.out Lop.out; rw [OKK.out] at h; exact h)
          have FI := Lib.hid (fun W => fault8_fine FT.out FN.out W)
          have FP := Lib.hid (fun W => parse8_fine FT.out FN.out W)
          have r1 : decide ((3 : Int) < (ni : Int)) = true := by simp; omega
          have r2 : ((ni : Int) == (nk : Int)) = false := by simp; omega
          have r3 : decide ((3 : Int) < (nk : Int)) = false := by simp; omega
          have r4 : ((op8B nop).toList == [60]) = true := by rw [show nop = 4 by omega]; exact op8_is
          clear cI cK cE cO
          go_upto_region 14 with fail
          go_quiet (fail)
          go_wp2_with fail
          (with_reducible refine (FP.out _).mono ?_)
          rintro e9 w3 ⟨px, pc, pq, rfl, hb⟩
          have F4 := ((HF3.out.call (below_drewN (Below.refl _ _) _)).call hb).alloc w3.heap.size rfl 30 #[.int .i64 0, .int .i64 0]
          have F5 := F4.store 0 rfl #[.int .i64 0, .int .i64 pq]
          have HN1 := Lib.hid (F4.get 0 rfl)
          have c0 := cell_of_row _ w3.heap.size 0 _ _ _ (F5.get 0 rfl)
          have HF5 := Lib.hid F5
          clear F4 F5 hb q1 q2 q3 q4 q5
          go_wp2_with (refine wpList_store_row rfl 30 (.tmp 14) (.tmp 90) rfl w3.heap.size #[.int .i64 0, .int .i64 pq] rfl rfl 30 #[.int .i64 0, .int .i64 0] ?_ HSB.out rfl (fault_one _ _) ?_; (exact HN1.out))
          (with_reducible refine (FI.out _).mono ?_)
          rintro e9 w4 ⟨er, ea, rfl, hok, hb⟩
          have hfd := fun W => fld8_bad0 er ea W
          have HF6 := Lib.hid (HF5.out.call hb)
          have HOK := Lib.hid hok
          clear hb hok c0
          go_wp2_with fail
          go_ret
          exact ⟨by rw [HOK.out]; rfl, HF6.out.below⟩
    · by_cases cE : ni = nk
      · have cK : ¬ 3 < nk := by omega
        have OKK : Hid (ok8 ni nk = true) := Lib.hid (by unfold ok8; simp; omega)
        have FT := Lib.hid (top8_bool_i ni nk nop Li.out Lk.out Lop.out (by omega) (by omega))
        have FN := Lib.hid (by have h := top8_fine ni nk nop Li.out Lk.out Lop.out; rw [OKK.out] at h; exact h)
        have FI := Lib.hid (fun W => fault8_fine FT.out FN.out W)
        have FP := Lib.hid (fun W => parse8_fine FT.out FN.out W)
        have r1 : decide ((3 : Int) < (ni : Int)) = false := by simp; omega
        have r2 : ((ni : Int) == (nk : Int)) = true := by simp; omega
        have r3 : decide ((3 : Int) < (nk : Int)) = false := by simp; omega
        have r4 : ((op8B nop).toList == [60]) = true := by rw [show nop = 4 by omega]; exact op8_is
        clear cI cK cE cO
        go_upto_region 14 with fail
        go_quiet (fail)
        go_wp2_with fail
        (with_reducible refine (FP.out _).mono ?_)
        rintro e9 w3 ⟨px, pc, pq, rfl, hb⟩
        have F4 := ((HF3.out.call (below_drewN (Below.refl _ _) _)).call hb).alloc w3.heap.size rfl 30 #[.int .i64 0, .int .i64 0]
        have F5 := F4.store 0 rfl #[.int .i64 0, .int .i64 pq]
        have HN1 := Lib.hid (F4.get 0 rfl)
        have c0 := cell_of_row _ w3.heap.size 0 _ _ _ (F5.get 0 rfl)
        have HF5 := Lib.hid F5
        clear F4 F5 hb q1 q2 q3 q4 q5
        go_wp2_with (refine wpList_store_row rfl 30 (.tmp 14) (.tmp 90) rfl w3.heap.size #[.int .i64 0, .int .i64 pq] rfl rfl 30 #[.int .i64 0, .int .i64 0] ?_ HSB.out rfl (fault_one _ _) ?_; (exact HN1.out))
        (with_reducible refine (FI.out _).mono ?_)
        rintro e9 w4 ⟨er, ea, rfl, hok, hb⟩
        have hfd := fun W => fld8_bad0 er ea W
        have HF6 := Lib.hid (HF5.out.call hb)
        have HOK := Lib.hid hok
        clear hb hok c0
        go_wp2_with fail
        go_ret
        exact ⟨by rw [HOK.out]; rfl, HF6.out.below⟩
      · by_cases cK : 3 < nk
        · skip
          have OKK : Hid (ok8 ni nk = true) := Lib.hid (by unfold ok8; simp; omega)
          have FT := Lib.hid (top8_bool_i ni nk nop Li.out Lk.out Lop.out (by omega) (by omega))
          have FN := Lib.hid (by have h := top8_fine ni nk nop Li.out Lk.out Lop.out; rw [OKK.out] at h; exact h)
          have FI := Lib.hid (fun W => fault8_fine FT.out FN.out W)
          have FP := Lib.hid (fun W => parse8_fine FT.out FN.out W)
          have r1 : decide ((3 : Int) < (ni : Int)) = false := by simp; omega
          have r2 : ((ni : Int) == (nk : Int)) = false := by simp; omega
          have r3 : decide ((3 : Int) < (nk : Int)) = true := by simp; omega
          have r4 : ((op8B nop).toList == [60]) = true := by rw [show nop = 4 by omega]; exact op8_is
          clear cI cK cE cO
          go_upto_region 14 with fail
          go_quiet (fail)
          go_wp2_with fail
          (with_reducible refine (FP.out _).mono ?_)
          rintro e9 w3 ⟨px, pc, pq, rfl, hb⟩
          have F4 := ((HF3.out.call (below_drewN (Below.refl _ _) _)).call hb).alloc w3.heap.size rfl 30 #[.int .i64 0, .int .i64 0]
          have F5 := F4.store 0 rfl #[.int .i64 0, .int .i64 pq]
          have HN1 := Lib.hid (F4.get 0 rfl)
          have c0 := cell_of_row _ w3.heap.size 0 _ _ _ (F5.get 0 rfl)
          have HF5 := Lib.hid F5
          clear F4 F5 hb q1 q2 q3 q4 q5
          go_wp2_with (refine wpList_store_row rfl 30 (.tmp 14) (.tmp 90) rfl w3.heap.size #[.int .i64 0, .int .i64 pq] rfl rfl 30 #[.int .i64 0, .int .i64 0] ?_ HSB.out rfl (fault_one _ _) ?_; (exact HN1.out))
          (with_reducible refine (FI.out _).mono ?_)
          rintro e9 w4 ⟨er, ea, rfl, hok, hb⟩
          have hfd := fun W => fld8_bad0 er ea W
          have HF6 := Lib.hid (HF5.out.call hb)
          have HOK := Lib.hid hok
          clear hb hok c0
          go_wp2_with fail
          go_ret
          exact ⟨by rw [HOK.out]; rfl, HF6.out.below⟩
        · skip
          have OKK : Hid (ok8 ni nk = false) := Lib.hid (by unfold ok8; simp; omega)
          have FT := Lib.hid (top8_bool_i ni nk nop Li.out Lk.out Lop.out (by omega) (by omega))
          have FN := Lib.hid (by have h := top8_fine ni nk nop Li.out Lk.out Lop.out; rw [OKK.out] at h; exact h)
          have FI := Lib.hid (fun W => fault8_fine FT.out FN.out W)
          have FP := Lib.hid (fun W => parse8_fine FT.out FN.out W)
          have r1 : decide ((3 : Int) < (ni : Int)) = false := by simp; omega
          have r2 : ((ni : Int) == (nk : Int)) = false := by simp; omega
          have r3 : decide ((3 : Int) < (nk : Int)) = false := by simp; omega
          have r4 : ((op8B nop).toList == [60]) = true := by rw [show nop = 4 by omega]; exact op8_is
          clear cI cK cE cO
          go_upto_region 14 with fail
          go_quiet (fail)
          go_wp2_with fail
          (with_reducible refine (FP.out _).mono ?_)
          rintro e9 w3 ⟨px, pc, pq, rfl, hb⟩
          have F4 := ((HF3.out.call (below_drewN (Below.refl _ _) _)).call hb).alloc w3.heap.size rfl 30 #[.int .i64 0, .int .i64 0]
          have F5 := F4.store 0 rfl #[.int .i64 0, .int .i64 pq]
          have HN1 := Lib.hid (F4.get 0 rfl)
          have c0 := cell_of_row _ w3.heap.size 0 _ _ _ (F5.get 0 rfl)
          have HF5 := Lib.hid F5
          clear F4 F5 hb q1 q2 q3 q4 q5
          go_wp2_with (refine wpList_store_row rfl 30 (.tmp 14) (.tmp 90) rfl w3.heap.size #[.int .i64 0, .int .i64 pq] rfl rfl 30 #[.int .i64 0, .int .i64 0] ?_ HSB.out rfl (fault_one _ _) ?_; (exact HN1.out))
          (with_reducible refine (FI.out _).mono ?_)
          rintro e9 w4 ⟨er, ea, rfl, hok, hb⟩
          have hfd := fun W => fld8_bad0 er ea W
          have HF6 := Lib.hid (HF5.out.call hb)
          have HOK := Lib.hid hok
          clear hb hok c0
          go_wp2_with fail
          go_ret
          exact ⟨by rw [HOK.out]; rfl, HF6.out.below⟩
  · skip
    by_cases cI : 3 < ni
    · by_cases cE : ni = nk
      · have cK : 3 < nk := by omega
        have OKK : Hid (ok8 ni nk = true) := Lib.hid (by unfold ok8; simp; omega)
        have FT := Lib.hid (top8_int_k ni nk nop Li.out Lk.out Lop.out (by omega) (by omega))
        have FN := Lib.hid (by have h := top8_fine ni nk nop Li.out Lk.out Lop.out; rw [OKK.out] at h; exact h)
        have FI := Lib.hid (fun W => fault8_fine FT.out FN.out W)
        have FP := Lib.hid (fun W => parse8_fine FT.out FN.out W)
        have r1 : decide ((3 : Int) < (ni : Int)) = true := by simp; omega
        have r2 : ((ni : Int) == (nk : Int)) = true := by simp; omega
        have r3 : decide ((3 : Int) < (nk : Int)) = true := by simp; omega
        have r4 : ((op8B nop).toList == [60]) = false := op8_lt nop (by have := Lop.out; omega)
        clear cI cK cE cO
        go_upto_region 14 with fail
        go_quiet (fail)
        go_wp2_with fail
        (with_reducible refine (FP.out _).mono ?_)
        rintro e9 w3 ⟨px, pc, pq, rfl, hb⟩
        have F4 := ((HF3.out.call (below_drewN (Below.refl _ _) _)).call hb).alloc w3.heap.size rfl 30 #[.int .i64 0, .int .i64 0]
        have F5 := F4.store 0 rfl #[.int .i64 0, .int .i64 pq]
        have HN1 := Lib.hid (F4.get 0 rfl)
        have c0 := cell_of_row _ w3.heap.size 0 _ _ _ (F5.get 0 rfl)
        have HF5 := Lib.hid F5
        clear F4 F5 hb q1 q2 q3 q4 q5
        go_wp2_with (refine wpList_store_row rfl 30 (.tmp 14) (.tmp 90) rfl w3.heap.size #[.int .i64 0, .int .i64 pq] rfl rfl 30 #[.int .i64 0, .int .i64 0] ?_ HSB.out rfl (fault_one _ _) ?_; (exact HN1.out))
        (with_reducible refine (FI.out _).mono ?_)
        rintro e9 w4 ⟨er, ea, rfl, hok, hb⟩
        have hfd := fun W => fld8_bad0 er ea W
        have HF6 := Lib.hid (HF5.out.call hb)
        have HOK := Lib.hid hok
        clear hb hok c0
        go_wp2_with fail
        go_ret
        exact ⟨by rw [HOK.out]; rfl, HF6.out.below⟩
      · by_cases cK : 3 < nk
        · skip
          have OKK : Hid (ok8 ni nk = true) := Lib.hid (by unfold ok8; simp; omega)
          have FT := Lib.hid (top8_int_k ni nk nop Li.out Lk.out Lop.out (by omega) (by omega))
          have FN := Lib.hid (by have h := top8_fine ni nk nop Li.out Lk.out Lop.out; rw [OKK.out] at h; exact h)
          have FI := Lib.hid (fun W => fault8_fine FT.out FN.out W)
          have FP := Lib.hid (fun W => parse8_fine FT.out FN.out W)
          have r1 : decide ((3 : Int) < (ni : Int)) = true := by simp; omega
          have r2 : ((ni : Int) == (nk : Int)) = false := by simp; omega
          have r3 : decide ((3 : Int) < (nk : Int)) = true := by simp; omega
          have r4 : ((op8B nop).toList == [60]) = false := op8_lt nop (by have := Lop.out; omega)
          clear cI cK cE cO
          go_upto_region 14 with fail
          go_quiet (fail)
          go_wp2_with fail
          (with_reducible refine (FP.out _).mono ?_)
          rintro e9 w3 ⟨px, pc, pq, rfl, hb⟩
          have F4 := ((HF3.out.call (below_drewN (Below.refl _ _) _)).call hb).alloc w3.heap.size rfl 30 #[.int .i64 0, .int .i64 0]
          have F5 := F4.store 0 rfl #[.int .i64 0, .int .i64 pq]
          have HN1 := Lib.hid (F4.get 0 rfl)
          have c0 := cell_of_row _ w3.heap.size 0 _ _ _ (F5.get 0 rfl)
          have HF5 := Lib.hid F5
          clear F4 F5 hb q1 q2 q3 q4 q5
          go_wp2_with (refine wpList_store_row rfl 30 (.tmp 14) (.tmp 90) rfl w3.heap.size #[.int .i64 0, .int .i64 pq] rfl rfl 30 #[.int .i64 0, .int .i64 0] ?_ HSB.out rfl (fault_one _ _) ?_; (exact HN1.out))
          (with_reducible refine (FI.out _).mono ?_)
          rintro e9 w4 ⟨er, ea, rfl, hok, hb⟩
          have hfd := fun W => fld8_bad0 er ea W
          have HF6 := Lib.hid (HF5.out.call hb)
          have HOK := Lib.hid hok
          clear hb hok c0
          go_wp2_with fail
          go_ret
          exact ⟨by rw [HOK.out]; rfl, HF6.out.below⟩
        · skip
          have OKK : Hid (ok8 ni nk = true) := Lib.hid (by unfold ok8; simp; omega)
          have FT := Lib.hid (top8_int_k ni nk nop Li.out Lk.out Lop.out (by omega) (by omega))
          have FN := Lib.hid (by have h := top8_fine ni nk nop Li.out Lk.out Lop.out; rw [OKK.out] at h; exact h)
          have FI := Lib.hid (fun W => fault8_fine FT.out FN.out W)
          have FP := Lib.hid (fun W => parse8_fine FT.out FN.out W)
          have r1 : decide ((3 : Int) < (ni : Int)) = true := by simp; omega
          have r2 : ((ni : Int) == (nk : Int)) = false := by simp; omega
          have r3 : decide ((3 : Int) < (nk : Int)) = false := by simp; omega
          have r4 : ((op8B nop).toList == [60]) = false := op8_lt nop (by have := Lop.out; omega)
          clear cI cK cE cO
          go_upto_region 14 with fail
          go_quiet (fail)
          go_wp2_with fail
          (with_reducible refine (FP.out _).mono ?_)
          rintro e9 w3 ⟨px, pc, pq, rfl, hb⟩
          have F4 := ((HF3.out.call (below_drewN (Below.refl _ _) _)).call hb).alloc w3.heap.size rfl 30 #[.int .i64 0, .int .i64 0]
          have F5 := F4.store 0 rfl #[.int .i64 0, .int .i64 pq]
          have HN1 := Lib.hid (F4.get 0 rfl)
          have c0 := cell_of_row _ w3.heap.size 0 _ _ _ (F5.get 0 rfl)
          have HF5 := Lib.hid F5
          clear F4 F5 hb q1 q2 q3 q4 q5
          go_wp2_with (refine wpList_store_row rfl 30 (.tmp 14) (.tmp 90) rfl w3.heap.size #[.int .i64 0, .int .i64 pq] rfl rfl 30 #[.int .i64 0, .int .i64 0] ?_ HSB.out rfl (fault_one _ _) ?_; (exact HN1.out))
          (with_reducible refine (FI.out _).mono ?_)
          rintro e9 w4 ⟨er, ea, rfl, hok, hb⟩
          have hfd := fun W => fld8_bad0 er ea W
          have HF6 := Lib.hid (HF5.out.call hb)
          have HOK := Lib.hid hok
          clear hb hok c0
          go_wp2_with fail
          go_ret
          exact ⟨by rw [HOK.out]; rfl, HF6.out.below⟩
    · by_cases cE : ni = nk
      · have cK : ¬ 3 < nk := by omega
        have OKK : Hid (ok8 ni nk = true) := Lib.hid (by unfold ok8; simp; omega)
        have FT := Lib.hid (top8_int_i ni nk nop Li.out Lk.out Lop.out (by omega) (by omega))
        have FN := Lib.hid (by have h := top8_fine ni nk nop Li.out Lk.out Lop.out; rw [OKK.out] at h; exact h)
        have FI := Lib.hid (fun W => fault8_fine FT.out FN.out W)
        have FP := Lib.hid (fun W => parse8_fine FT.out FN.out W)
        have r1 : decide ((3 : Int) < (ni : Int)) = false := by simp; omega
        have r2 : ((ni : Int) == (nk : Int)) = true := by simp; omega
        have r3 : decide ((3 : Int) < (nk : Int)) = false := by simp; omega
        have r4 : ((op8B nop).toList == [60]) = false := op8_lt nop (by have := Lop.out; omega)
        clear cI cK cE cO
        go_upto_region 14 with fail
        go_quiet (fail)
        go_wp2_with fail
        (with_reducible refine (FP.out _).mono ?_)
        rintro e9 w3 ⟨px, pc, pq, rfl, hb⟩
        have F4 := ((HF3.out.call (below_drewN (Below.refl _ _) _)).call hb).alloc w3.heap.size rfl 30 #[.int .i64 0, .int .i64 0]
        have F5 := F4.store 0 rfl #[.int .i64 0, .int .i64 pq]
        have HN1 := Lib.hid (F4.get 0 rfl)
        have c0 := cell_of_row _ w3.heap.size 0 _ _ _ (F5.get 0 rfl)
        have HF5 := Lib.hid F5
        clear F4 F5 hb q1 q2 q3 q4 q5
        go_wp2_with (refine wpList_store_row rfl 30 (.tmp 14) (.tmp 90) rfl w3.heap.size #[.int .i64 0, .int .i64 pq] rfl rfl 30 #[.int .i64 0, .int .i64 0] ?_ HSB.out rfl (fault_one _ _) ?_; (exact HN1.out))
        (with_reducible refine (FI.out _).mono ?_)
        rintro e9 w4 ⟨er, ea, rfl, hok, hb⟩
        have hfd := fun W => fld8_bad0 er ea W
        have HF6 := Lib.hid (HF5.out.call hb)
        have HOK := Lib.hid hok
        clear hb hok c0
        go_wp2_with fail
        go_ret
        exact ⟨by rw [HOK.out]; rfl, HF6.out.below⟩
      · by_cases cK : 3 < nk
        · skip
          have OKK : Hid (ok8 ni nk = true) := Lib.hid (by unfold ok8; simp; omega)
          have FT := Lib.hid (top8_int_i ni nk nop Li.out Lk.out Lop.out (by omega) (by omega))
          have FN := Lib.hid (by have h := top8_fine ni nk nop Li.out Lk.out Lop.out; rw [OKK.out] at h; exact h)
          have FI := Lib.hid (fun W => fault8_fine FT.out FN.out W)
          have FP := Lib.hid (fun W => parse8_fine FT.out FN.out W)
          have r1 : decide ((3 : Int) < (ni : Int)) = false := by simp; omega
          have r2 : ((ni : Int) == (nk : Int)) = false := by simp; omega
          have r3 : decide ((3 : Int) < (nk : Int)) = true := by simp; omega
          have r4 : ((op8B nop).toList == [60]) = false := op8_lt nop (by have := Lop.out; omega)
          clear cI cK cE cO
          go_upto_region 14 with fail
          go_quiet (fail)
          go_wp2_with fail
          (with_reducible refine (FP.out _).mono ?_)
          rintro e9 w3 ⟨px, pc, pq, rfl, hb⟩
          have F4 := ((HF3.out.call (below_drewN (Below.refl _ _) _)).call hb).alloc w3.heap.size rfl 30 #[.int .i64 0, .int .i64 0]
          have F5 := F4.store 0 rfl #[.int .i64 0, .int .i64 pq]
          have HN1 := Lib.hid (F4.get 0 rfl)
          have c0 := cell_of_row _ w3.heap.size 0 _ _ _ (F5.get 0 rfl)
          have HF5 := Lib.hid F5
          clear F4 F5 hb q1 q2 q3 q4 q5
          go_wp2_with (refine wpList_store_row rfl 30 (.tmp 14) (.tmp 90) rfl w3.heap.size #[.int .i64 0, .int .i64 pq] rfl rfl 30 #[.int .i64 0, .int .i64 0] ?_ HSB.out rfl (fault_one _ _) ?_; (exact HN1.out))
          (with_reducible refine (FI.out _).mono ?_)
          rintro e9 w4 ⟨er, ea, rfl, hok, hb⟩
          have hfd := fun W => fld8_bad0 er ea W
          have HF6 := Lib.hid (HF5.out.call hb)
          have HOK := Lib.hid hok
          clear hb hok c0
          go_wp2_with fail
          go_ret
          exact ⟨by rw [HOK.out]; rfl, HF6.out.below⟩
        · skip
          have OKK : Hid (ok8 ni nk = false) := Lib.hid (by unfold ok8; simp; omega)
          have FT := Lib.hid (top8_int_i ni nk nop Li.out Lk.out Lop.out (by omega) (by omega))
          have FN := Lib.hid (by have h := top8_fine ni nk nop Li.out Lk.out Lop.out; rw [OKK.out] at h; exact h)
          have FI := Lib.hid (fun W => fault8_fine FT.out FN.out W)
          have FP := Lib.hid (fun W => parse8_fine FT.out FN.out W)
          have r1 : decide ((3 : Int) < (ni : Int)) = false := by simp; omega
          have r2 : ((ni : Int) == (nk : Int)) = false := by simp; omega
          have r3 : decide ((3 : Int) < (nk : Int)) = false := by simp; omega
          have r4 : ((op8B nop).toList == [60]) = false := op8_lt nop (by have := Lop.out; omega)
          clear cI cK cE cO
          go_upto_region 14 with fail
          go_quiet (fail)
          go_wp2_with fail
          (with_reducible refine (FP.out _).mono ?_)
          rintro e9 w3 ⟨px, pc, pq, rfl, hb⟩
          have F4 := ((HF3.out.call (below_drewN (Below.refl _ _) _)).call hb).alloc w3.heap.size rfl 30 #[.int .i64 0, .int .i64 0]
          have F5 := F4.store 0 rfl #[.int .i64 0, .int .i64 pq]
          have HN1 := Lib.hid (F4.get 0 rfl)
          have c0 := cell_of_row _ w3.heap.size 0 _ _ _ (F5.get 0 rfl)
          have HF5 := Lib.hid F5
          clear F4 F5 hb q1 q2 q3 q4 q5
          go_wp2_with (refine wpList_store_row rfl 30 (.tmp 14) (.tmp 90) rfl w3.heap.size #[.int .i64 0, .int .i64 pq] rfl rfl 30 #[.int .i64 0, .int .i64 0] ?_ HSB.out rfl (fault_one _ _) ?_; (exact HN1.out))
          (with_reducible refine (FI.out _).mono ?_)
          rintro e9 w4 ⟨er, ea, rfl, hok, hb⟩
          have hfd := fun W => fld8_bad0 er ea W
          have HF6 := Lib.hid (HF5.out.call hb)
          have HOK := Lib.hid hok
          clear hb hok c0
          go_wp2_with fail
          go_ret
          exact ⟨by rw [HOK.out]; rfl, HF6.out.below⟩

set_option maxRecDepth 100000 in
theorem lifted (os : Os) (started : os.Started) (H : Type) (enc : TypeId × Value → H) :
    ReturnsInHanded {} Try.checked os 8 .any (Rows.clkOpsSpec.pre6 enc Try.prog Try.f8 Rows.clkOpsRow.domain false) (Rows.clkOpsSpec.post enc Try.prog Try.f8 false true false false) := by
  refine returnsInHanded_of_change (C := Try.checked) own started (by kernel_rfl) Try.func8
    (ChangeSpec.witness6 (enc := enc) (C := Try.checked) false ⟨#[], #[.int .i64 0, .int .i64 0, .int .i64 0], []⟩ 8 (by kernel_rfl) (by kernel_rfl) (by kernel_rfl) (by kernel_rfl)) ?_
  intro W base args ds gs before hval0 hW hcnd _
  have hval : ∀ (j : Nat) t v, Try.f8.params[j]? = some t → args[j]? = some v → Value.okWide Try.prog W .any base t v := hval0
  have hW' := hW
  obtain ⟨p, q, hA0, hV, rfl, hfz, hnd⟩ := hW
  have hA : DataW.TrodAll enc Try.prog W 0 (fun _ => true) true Try.f8.params.toList args.toList ds p := hA0
  rw [Try.params8] at hA hval
  obtain ⟨v0, vs0, d0, ds0, p0, q0, hargs, rfl, rfl, h0, r0⟩ := trodAll_cons hA
  obtain ⟨v1, vs1, d1, ds1, p1, q1, rfl, rfl, rfl, h1, r1⟩ := trodAll_cons r0
  obtain ⟨v2, vs2, d2, ds2, p2, q2, rfl, rfl, rfl, h2, r2⟩ := trodAll_cons r1
  obtain ⟨rfl, rfl, rfl⟩ := trodAll_nil r2
  obtain rfl : args = #[v0, v1, v2] := by cases args; simp_all
  obtain ⟨rfl, rfl⟩ := trodVars_none hV
  obtain ⟨i, rfl, rfl, rfl, w_i⟩ := open_int Try.underlying3 (hval 0 3 v0 rfl rfl) h0
  obtain ⟨k, rfl, rfl, rfl, w_k⟩ := open_int Try.underlying3 (hval 1 3 v1 rfl rfl) h1
  obtain ⟨op, rfl, rfl, rfl, w_op⟩ := open_int Try.underlying3 (hval 2 3 v2 rfl rfl) h2
  clear hA0 hval0
  refine (walk i k op W w_i w_k w_op).mono fun e W' ⟨he, bel⟩ => ?_
  subst he
  exact ⟨_, rfl, _, _, _, [], _, [], hW', trodAll_mk1 (shut_bool Try.underlying4 _), (trodAll_cons_mk (shut_int Try.underlying3 w_i) (trodAll_cons_mk (shut_int Try.underlying3 w_k) (trodAll_cons_mk (shut_int Try.underlying3 w_op) trodAll_mk0))), rfl, bel.frame _, fun h => by cases h⟩

theorem over : Rows.clkOpsRow.holds Try.pinned (OpenSpec.ofChange Rows.clkOpsSpec) :=
  OpenClaim.holds_of_wide 8 Try.f8 rfl rfl rfl rfl rfl rfl rfl ⟨rfl, rfl, rfl, rfl, rfl⟩ rfl rfl rfl rfl rfl (by kernel_rfl) Try.func8 (by kernel_rfl)
    (of_decide_eq_true (by kernel_rfl)) (by unfold Func.isWrapper; first | (rw [if_pos (by decide +kernel)]; kernel_rfl) | (rw [if_neg (by decide +kernel)]; exact ⟨rfl, rfl⟩))
    (fun os started H enc _ => lifted os started H enc)

theorem proved : Rows.ClkOpsSaid := over
#print axioms proved
end Go.Proofs.Ytfajafjikpmgpaa.clkOps
