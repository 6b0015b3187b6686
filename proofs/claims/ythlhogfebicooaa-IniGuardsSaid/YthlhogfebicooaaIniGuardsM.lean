/-
  Proved: IniGuards of escapementlaw9 returns true for every input, and leaves what it was handed as it was. No conditions.
-/
import Derived.Test.YthlhogfebicooaaMe
import Derived.Test.YthlhogfebicooaaRows
import Derived.WalkKit
import Derived.ProofKit
import Derived.OpenShut
import Derived.ShutString
import Derived.ChangeOld
import Derived.SizedLaws
namespace Go.Proofs.Ythlhogfebicooaa.iniGuards
open Go.ChangeShapes Go.WideShapes Go.ChangeAt Go.RowKit
open Go.ChangeMaps (open_string shut_string)
set_option linter.unusedVariables false

theorem own : ownKnob Try.prog.godebug = none := by kernel_rfl
theorem laidOut : laidOutB Try.prog = true := by kernel_rfl

set_option maxHeartbeats 8000000 in
set_option maxRecDepth 100000 in
theorem walk (n : Int) (m : Int) (w : World) (w_n : (Lit.int .i64 n).wf = true) (w_m : (Lit.int .i64 m).wf = true) :
    Calls Try.prog 8 #[.int .i64 n, .int .i64 m] w fun e w' => e = .returned (.bool true) ∧ Below w.heap.size w w' := by
  have HSB := Lib.hid size_bad
  clear w_n w_m
  go_enter Try.func8, Try.ntmps8
  go_wp2_with fail
  (with_reducible refine (awake9_any w).mono ?_)
  rintro e w1 ⟨rfl, hb1⟩
  have HB1 := Lib.hid hb1
  clear hb1
  by_cases c1 : n < 0
  · have d1 : decide (n < 0) = true := by simpa using c1
    clear c1
    go_wp2_with fail
    go_ret
    exact ⟨rfl, HB1.out⟩
  have d1 : decide (n < 0) = false := by simpa using c1
  by_cases c2 : 12 < n
  · have d2 : decide ((12 : Int) < n) = true := by simpa using c2
    clear c1 c2
    go_wp2_with fail
    go_ret
    exact ⟨rfl, HB1.out⟩
  have d2 : decide ((12 : Int) < n) = false := by simpa using c2
  by_cases c3 : m < 0
  · have d3 : decide (m < 0) = true := by simpa using c3
    clear c1 c2 c3
    go_wp2_with fail
    go_ret
    exact ⟨rfl, HB1.out⟩
  have d3 : decide (m < 0) = false := by simpa using c3
  by_cases c4 : 12 < m
  · have d4 : decide ((12 : Int) < m) = true := by simpa using c4
    clear c1 c2 c3 c4
    go_wp2_with fail
    go_ret
    exact ⟨rfl, HB1.out⟩
  have d4 : decide ((12 : Int) < m) = false := by simpa using c4
  go_upto_region 5 with fail
  obtain ⟨N, rfl⟩ : ∃ N : Nat, n = (N : Int) := ⟨n.toNat, by omega⟩
  obtain ⟨M, rfl⟩ : ∃ M : Nat, m = (M : Int) := ⟨m.toNat, by omega⟩
  have HN := Lib.hid (show N < 13 by omega)
  have HM := Lib.hid (show M < 13 by omega)
  clear c1 c2 c3 c4 d1 d2 d3 d4
  go_wp2_with fail
  go_loopw [5, 6] (fun v5 v6 wr => ∃ (k : Nat) (S : ByteArray), v6 = .int .i64 (k : Int) ∧ k ≤ N ∧ v5 = .string S ∧ S.data.toList = gE M k ∧ Below w.heap.size w wr)
    (fun _ v6 _ => N - (intOf v6).toNat)
  case atStart => exact ⟨0, ⟨#[120]⟩, rfl, Nat.zero_le _, rfl, rfl, HB1.out⟩
  case round =>
    clear HB1
    obtain ⟨k, S, rfl, hk, rfl, hS, hb⟩ := hrel
    have HS := Lib.hid hS
    have HB := Lib.hid hb
    have HK := Lib.hid hk
    have hz : S.size ≤ 200 := by
      have e : S.size = S.data.toList.length := by simp
      rw [e, hS]
      have := gE_len M k
      have := HN.out
      omega
    clear hS hb hk
    by_cases hlt : k < N
    · have e2 : decide ((k : Int) < (N : Int)) = true := by simp; omega
      have HLT := Lib.hid hlt
      by_cases hm : k < M
      · have e3 : decide ((k : Int) < (M : Int)) = true := by simp; omega
        have HMM := Lib.hid hm
        clear hlt hm
        go_wp2_with fail
        refine ⟨⟨k + 1, _, wrap_succ (by have := HLT.out; have := HN.out; omega), HLT.out, rfl, ?_, HB.out⟩, ?_⟩
        · conv => rhs; unfold gE
          rw [if_pos HMM.out]
          simp only [app_lst, HS.out, List.append_assoc]
        · rw [wrap_succ (by have := HLT.out; have := HN.out; omega)]
          have := HLT.out
          simp [intOf]; omega
      · have e3 : decide ((k : Int) < (M : Int)) = false := by simp; omega
        have HMM := Lib.hid hm
        clear hlt hm
        go_wp2_with fail
        refine ⟨⟨k + 1, _, wrap_succ (by have := HLT.out; have := HN.out; omega), HLT.out, rfl, ?_, HB.out⟩, ?_⟩
        · conv => rhs; unfold gE
          rw [if_neg HMM.out]
          simp only [app_lst, HS.out, List.append_assoc]
        · rw [wrap_succ (by have := HLT.out; have := HN.out; omega)]
          have := HLT.out
          simp [intOf]; omega
    · have e2 : decide ((k : Int) < (N : Int)) = false := by simp; omega
      obtain rfl : k = N := by have := HK.out; omega
      have hT : (((⟨#[110, 111, 100, 101, 32, 102, 40, 120, 58, 32, 105, 110, 116, 41, 32, 114, 101, 116, 117, 114, 110, 115, 32, 40, 121, 58, 32, 105, 110, 116, 41, 59, 32, 108, 101, 116, 32, 121, 32, 61, 32]⟩ : ByteArray) ++ S) ++ (⟨#[59, 32, 116, 101, 108]⟩ : ByteArray)).data.toList = gT k M := by
        simp only [app_lst, HS.out]
        rfl
      obtain ⟨T, hTT⟩ : ∃ T, T = ((⟨#[110, 111, 100, 101, 32, 102, 40, 120, 58, 32, 105, 110, 116, 41, 32, 114, 101, 116, 117, 114, 110, 115, 32, 40, 121, 58, 32, 105, 110, 116, 41, 59, 32, 108, 101, 116, 32, 121, 32, 61, 32]⟩ : ByteArray) ++ S) ++ (⟨#[59, 32, 116, 101, 108]⟩ : ByteArray) := ⟨_, rfl⟩
      rw [← hTT] at hT
      have hzT : T.size ≤ 1000 := by
        have e : T.size = T.data.toList.length := by simp
        rw [e, hT]
        unfold gT
        have := gE_len M k
        have := HN.out
        simp only [List.length_append, List.length_cons, List.length_nil]
        omega
      have kp := parse_at T wr (by omega)
      have HTT := Lib.hid hTT
      have HT := Lib.hid hT
      rw [hTT] at kp
      have hper : perOf T = perL (gT k M) := by rw [perOf_list, hT]
      rw [← HTT.out] at kp
      obtain ⟨q1, hq1⟩ : ∃ q, q = perOf T := ⟨_, rfl⟩
      obtain ⟨q2, hq2⟩ : ∃ q, q = patOf T := ⟨_, rfl⟩
      obtain ⟨L, hL⟩ : ∃ L, L = treeOf T := ⟨_, rfl⟩
      rw [← hq1, ← hq2, ← hL] at kp
      rw [← hq1] at hper
      have HPER := Lib.hid hper
      clear hlt hT hTT hzT hq1 hq2 hL hper
      go_upto_region 13 with fail
      rw [← HTT.out]
      go_wp2_with fail
      (with_reducible refine kp.mono ?_)
      rintro e9 w2 ⟨px, pc, rfl, hI, hb⟩
      have F1 := ((Fx.start wr).call hb).alloc w2.heap.size rfl 30 #[.int .i64 0, .int .i64 0]
      have F2 := F1.store 0 rfl #[.int .i64 (q1 : Int), .int .i64 (q2 : Int)]
      have HN1 := Lib.hid (F1.get 0 rfl)
      have c0 := cell_of_row _ w2.heap.size 0 _ _ _ (F2.get 0 rfl)
      have HF2 := Lib.hid F2
      clear F1 F2 hb hI kp
      by_cases hz0 : q1 = 0
      · have FI := Lib.hid (fun W => fault9_fine HT.out (gT_fine k M HN.out HM.out) (HPER.out.symm.trans hz0) W)
        have z1 : ((q1 : Int) != 0) = false := by rw [hz0]; rfl
        clear hz0
        by_cases hle : k ≤ M
        · have dle : decide ((k : Int) ≤ (M : Int)) = true := by simp; omega
          have hdk : decide (k ≤ M) = true := by simpa using hle
          have FI2 := FI.out
          rw [hdk] at FI2
          have FI2 := Lib.hid FI2
          have HLE := Lib.hid hle
          clear hle hdk FI
          go_wp2_with (refine wpList_store_row rfl 30 (.tmp 9) (.tmp 47) rfl w2.heap.size #[.int .i64 (q1 : Int), .int .i64 (q2 : Int)] rfl rfl 30 #[.int .i64 0, .int .i64 0] ?_ HSB.out rfl (fault_one _ _) ?_; (exact HN1.out))
          (with_reducible refine (FI2.out _).mono ?_)
          rintro e9 w4 ⟨er, ea, rfl, hok, hb⟩
          have hfd := fun W => fld9_bad0 er ea W
          have HB4 := Lib.hid (HF2.out.call hb).below
          clear hb c0
          go_wp2_with fail
          go_ret
          refine ⟨?_, HB.out.trans (HB4.out.mono HB.out.size)⟩
          show Ending.returned (.bool (decide (k ≤ M))) = _
          rw [decide_eq_true HLE.out]
        · have dle : decide ((k : Int) ≤ (M : Int)) = false := by simp; omega
          have hdk : decide (k ≤ M) = false := by simpa using hle
          have FI2 := FI.out
          rw [hdk] at FI2
          have FI2 := Lib.hid FI2
          have HLE := Lib.hid hle
          clear hle hdk FI
          go_wp2_with (refine wpList_store_row rfl 30 (.tmp 9) (.tmp 47) rfl w2.heap.size #[.int .i64 (q1 : Int), .int .i64 (q2 : Int)] rfl rfl 30 #[.int .i64 0, .int .i64 0] ?_ HSB.out rfl (fault_one _ _) ?_; (exact HN1.out))
          (with_reducible refine (FI2.out _).mono ?_)
          rintro e9 w4 ⟨er, ea, rfl, hok, hb⟩
          have hfd := fun W => fld9_bad0 er ea W
          have HB4 := Lib.hid (HF2.out.call hb).below
          clear hb c0
          go_wp2_with fail
          go_ret
          refine ⟨?_, HB.out.trans (HB4.out.mono HB.out.size)⟩
          show Ending.returned (.bool (!decide (k ≤ M))) = _
          rw [decide_eq_false HLE.out]
          rfl
      · have z1 : ((q1 : Int) != 0) = true := by simp; omega
        clear hz0
        go_wp2_with (refine wpList_store_row rfl 30 (.tmp 9) (.tmp 47) rfl w2.heap.size #[.int .i64 (q1 : Int), .int .i64 (q2 : Int)] rfl rfl 30 #[.int .i64 0, .int .i64 0] ?_ HSB.out rfl (fault_one _ _) ?_; (exact HN1.out))
        go_ret
        exact ⟨rfl, HB.out.trans (HF2.out.below.mono HB.out.size)⟩

set_option maxRecDepth 100000 in
theorem lifted (os : Os) (started : os.Started) (H : Type) (enc : TypeId × Value → H) :
    ReturnsInHanded {} Try.checked os 8 .any (Rows.iniGuardsSpec.pre6 enc Try.prog Try.f8 Rows.iniGuardsRow.domain false) (Rows.iniGuardsSpec.post enc Try.prog Try.f8 false true false false) := by
  refine returnsInHanded_of_change (C := Try.checked) own started (by kernel_rfl) Try.func8
    (ChangeSpec.witness6 (enc := enc) (C := Try.checked) false ⟨#[], #[.int .i64 0, .int .i64 0], []⟩ 8 (by kernel_rfl) (by kernel_rfl) (by kernel_rfl) (by kernel_rfl)) ?_
  intro W base args ds gs before hval0 hW hcnd _
  have hval : ∀ (j : Nat) t v, Try.f8.params[j]? = some t → args[j]? = some v → Value.okWide Try.prog W .any base t v := hval0
  have hW' := hW
  obtain ⟨p, q, hA0, hV, rfl, hfz, hnd⟩ := hW
  have hA : DataW.TrodAll enc Try.prog W 0 (fun _ => true) true Try.f8.params.toList args.toList ds p := hA0
  rw [Try.params8] at hA hval
  obtain ⟨v0, vs0, d0, ds0, p0, q0, hargs, rfl, rfl, h0, r0⟩ := trodAll_cons hA
  obtain ⟨v1, vs1, d1, ds1, p1, q1, rfl, rfl, rfl, h1, r1⟩ := trodAll_cons r0
  obtain ⟨rfl, rfl, rfl⟩ := trodAll_nil r1
  obtain rfl : args = #[v0, v1] := by cases args; simp_all
  obtain ⟨rfl, rfl⟩ := trodVars_none hV
  obtain ⟨n, rfl, rfl, rfl, w_n⟩ := open_int Try.underlying3 (hval 0 3 v0 rfl rfl) h0
  obtain ⟨m, rfl, rfl, rfl, w_m⟩ := open_int Try.underlying3 (hval 1 3 v1 rfl rfl) h1
  clear hA0 hval0
  refine (walk n m W w_n w_m).mono fun e W' ⟨he, bel⟩ => ?_
  subst he
  exact ⟨_, rfl, _, _, _, [], _, [], hW', trodAll_mk1 (shut_bool Try.underlying4 _), (trodAll_cons_mk (shut_int Try.underlying3 w_n) (trodAll_cons_mk (shut_int Try.underlying3 w_m) trodAll_mk0)), rfl, bel.frame _, fun h => by cases h⟩

theorem over : Rows.iniGuardsRow.holds Try.pinned (OpenSpec.ofChange Rows.iniGuardsSpec) :=
  OpenClaim.holds_of_wide 8 Try.f8 rfl rfl rfl rfl rfl rfl rfl ⟨rfl, rfl, rfl, rfl, rfl⟩ rfl rfl rfl rfl rfl (by kernel_rfl) Try.func8 (by kernel_rfl)
    (of_decide_eq_true (by kernel_rfl)) (by unfold Func.isWrapper; first | (rw [if_pos (by decide +kernel)]; kernel_rfl) | (rw [if_neg (by decide +kernel)]; exact ⟨rfl, rfl⟩))
    (fun os started H enc _ => lifted os started H enc)

theorem proved : Rows.IniGuardsSaid := over
#print axioms proved
end Go.Proofs.Ythlhogfebicooaa.iniGuards
