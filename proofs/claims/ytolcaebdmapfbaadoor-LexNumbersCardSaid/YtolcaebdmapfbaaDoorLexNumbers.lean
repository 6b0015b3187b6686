/-
  Proved: LexNumbers of escapementlaw4 returns true for every input, and leaves what it was handed as it was. No conditions.
-/
import Derived.Test.YtolcaebdmapfbaaDoorRows
import Derived.Test.YtolcaebdmapfbaaDoorArg
import Derived.Test.YtolcaebdmapfbaaDoorLaw
import Derived.Test.YtolcaebdmapfbaaDoorLnm
import Derived.Test.YtolcaebdmapfbaaDoorQtx
import Derived.WalkKit
import Derived.ProofKit
import Derived.OpenShut
import Derived.ShutString
import Derived.ChangeOld
import Derived.SizedLaws
import Derived.Test.YtolcaebdmapfbaaDoorLtb
import Derived.Test.YtolcaebdmapfbaaDoorTie
import Derived.Test.YtolcaebdmapfbaaDoorCards
import Derived.LaidMore
import Derived.Lay
import Derived.SevenTiedAt
import Derived.Stop.Joined
namespace Go.Proofs.YtolcaebdmapfbaaDoor.lexNumbers
open Go.ChangeShapes Go.WideShapes Go.ChangeAt Go.RowKit
open Go.ChangeMaps (open_string shut_string)
set_option linter.unusedVariables false

theorem own : ownKnob Tryd.prog.godebug = none := by kernel_rfl
theorem laidOut : laidOutB Tryd.prog = true := by kernel_rfl

def numS (N i : Nat) : ByteArray := ⟨(List.replicate i 48 ++ textN N).toArray⟩
theorem numS_zero (N : Nat) : (⟨(textN N).toArray⟩ : ByteArray) = numS N 0 := rfl
theorem numS_succ (N i : Nat) : (⟨#[48]⟩ : ByteArray) ++ numS N i = numS N (i + 1) := by
  apply bytes_inj
  simp [numS, List.replicate_succ]
theorem numS_size (N i : Nat) (hN : N < 9223372036854775808) (hi : i ≤ 5) : (numS N i).size ≤ 24 := by
  have h := textN_len N hN
  have e : (numS N i).size = (List.replicate i (48 : UInt8) ++ textN N).length := rfl
  rw [e, List.length_append, List.length_replicate]
  omega
theorem app3_list (S : ByteArray) : ((⟨#[32]⟩ : ByteArray) ++ S ++ ⟨#[120]⟩).data.toList = 32 :: (S.data.toList ++ [120]) := by simp
theorem size3 (S : ByteArray) : ((⟨#[32]⟩ : ByteArray) ++ S ++ ⟨#[120]⟩).size = 1 + S.size + 1 := by
  rw [ByteArray.size_append, ByteArray.size_append]
  rfl
/-- What Cut tells of the digits. -/
theorem cut_good (N : Nat) (hN : N < 9223372036854775808) (w : World) (hE : Errs w) : Calls Tryd.prog 7 #[.string ((⟨#[32]⟩ : ByteArray) ++ numS N 0 ++ ⟨#[120]⟩)] w fun e w' => Below w.heap.size w w' ∧ ∃ g c, e = .returned (.tuple #[.slice (some ⟨g, 0, none⟩) 3 c, .agg #[.int .i64 0, .int .i64 0]]) ∧ 3 ≤ c ∧ c ≤ maxLen ∧ g < w'.heap.size ∧ w'.cell? ⟨g, 0, none⟩ = some (.int .i64 3) ∧ w'.cell? ⟨g, 1, none⟩ = some (.string (numS N 0)) ∧ w'.cell? ⟨g, 2, none⟩ = some (.int .i64 (N : Int)) ∧ w'.cell? ⟨g, 3, none⟩ = some (.int .i64 1) ∧ w'.cell? ⟨g, 4, none⟩ = some (.int .i64 1) := by
  have hl := app3_list (numS N 0)
  have hs := size3 (numS N 0)
  have hz := numS_size N 0 hN (by omega)
  have h0 : (numS N 0).data.toList = textN N := by simp [numS]
  rw [h0] at hl
  have hA := Cut_any ((⟨#[32]⟩ : ByteArray) ++ numS N 0 ++ ⟨#[120]⟩) w (by rw [hs]; omega) hE
  unfold GivesCut at hA
  rw [hl, cut_number N hN] at hA
  refine hA.mono ?_
  rintro e w1 ⟨hb, v, rfl, hown⟩
  obtain ⟨g, c, rfl, hc, hcm, _, hgl, hcell⟩ := own_words hown (by simp)
  have hx : ((⟨#[32]⟩ : ByteArray) ++ numS N 0 ++ ⟨#[120]⟩).extract 1 (1 + (textN N).length) = numS N 0 := by
    apply bytes_inj
    rw [Lib.extract_data, hl, h0]
    simp
  refine ⟨hb, g, c, rfl, hc, hcm, hgl, ?_, ?_, ?_, ?_, ?_⟩
  · rw [hcell 0 (by simp)]; rfl
  · rw [hcell 1 (by simp)]
    show some (Value.string (((⟨#[32]⟩ : ByteArray) ++ numS N 0 ++ ⟨#[120]⟩).extract 1 (1 + (textN N).length))) = _
    rw [hx]
  · rw [hcell 2 (by simp)]; rfl
  · rw [hcell 3 (by simp)]; rfl
  · rw [hcell 4 (by simp)]; rfl
theorem cut_bad (N i : Nat) (hN : N < 9223372036854775808) (h1 : 1 ≤ i) (h5 : i ≤ 5) (w : World) (hE : Errs w) : Calls Tryd.prog 7 #[.string ((⟨#[32]⟩ : ByteArray) ++ numS N i ++ ⟨#[120]⟩)] w fun e w' => Below w.heap.size w w' ∧ e = .returned (.tuple #[.slice none 0 0, .agg #[.int .i64 7, .int .i64 1]]) := by
  have hl := app3_list (numS N i)
  have hs := size3 (numS N i)
  have hz := numS_size N i hN h5
  obtain ⟨k, rfl⟩ : ∃ k, i = k + 1 := ⟨i - 1, by omega⟩
  have h0 : (numS N (k + 1)).data.toList = 48 :: (List.replicate k 48 ++ textN N) := by simp [numS, List.replicate_succ]
  rw [h0] at hl
  have hA := Cut_any ((⟨#[32]⟩ : ByteArray) ++ numS N (k + 1) ++ ⟨#[120]⟩) w (by rw [hs]; omega) hE
  unfold GivesCut at hA
  have hlen := textN_len N hN
  rw [hl, cut_nought (List.replicate k 48 ++ textN N) (fun c hc => by
    rcases List.mem_append.1 hc with h | h
    · rw [List.eq_of_mem_replicate h]; decide
    · exact textN_digits N c h) (by have := textN_ne N; simp [this]) (by rw [List.length_append, List.length_replicate]; omega)] at hA
  exact hA

set_option maxHeartbeats 8000000 in
set_option maxRecDepth 100000 in
theorem walk (n : Int) (noughts : Int) (w : World) (hT : Errs w) (w_n : (Lit.int .i64 n).wf = true) (w_noughts : (Lit.int .i64 noughts).wf = true) :
    Calls Tryd.prog 5 #[.int .i64 n, .int .i64 noughts] w fun e w' => e = .returned (.bool true) ∧ Below w.heap.size w w' := by
  have HT := Lib.hid hT
  clear hT
  obtain ⟨n0, n1⟩ := i64_wf w_n
  obtain ⟨m0, m1⟩ := i64_wf w_noughts
  clear w_n w_noughts
  go_enter Tryd.func5, Tryd.ntmps5
  go_wp2_with fail
  refine (awake_any w HT.out).mono ?_
  rintro e w1 ⟨rfl, hb1⟩
  have HE1 := Lib.hid (HT.out.below hb1 (Nat.le_refl _))
  have HB1 := Lib.hid hb1
  clear hb1
  by_cases c1 : n < 0
  · have d1 : decide (n < 0) = true := by simpa using c1
    go_wp2_with fail
    go_ret
    exact ⟨rfl, HB1.out⟩
  have d1 : decide (n < 0) = false := by simpa using c1
  by_cases c2 : noughts < 0
  · have d2 : decide (noughts < 0) = true := by simpa using c2
    go_wp2_with fail
    go_ret
    exact ⟨rfl, HB1.out⟩
  have d2 : decide (noughts < 0) = false := by simpa using c2
  by_cases c3 : 5 < noughts
  · have d3 : decide (5 < noughts) = true := by simpa using c3
    go_wp2_with fail
    go_ret
    exact ⟨rfl, HB1.out⟩
  have d3 : decide (5 < noughts) = false := by simp; omega
  obtain ⟨N, rfl⟩ := Int.eq_ofNat_of_zero_le (by omega : 0 ≤ n)
  obtain ⟨K, rfl⟩ := Int.eq_ofNat_of_zero_le (by omega : 0 ≤ noughts)
  have hN : N < 9223372036854775808 := by omega
  have hK : K ≤ 5 := by omega
  have hx := rText_any (N + 1) N w1 (by omega) hN
  rw [numS_zero] at hx
  go_wp2_with fail
  refine hx.mono ?_
  rintro e w2 ⟨rfl, hb2⟩
  have HB2 := Lib.hid (HB1.out.trans (hb2.mono HB1.out.size))
  have HE2 := Lib.hid (HE1.out.below hb2 (Nat.le_refl _))
  clear hx hb2
  go_wp2_with fail
  go_loop [5, 6] (fun vs vi => ∃ (i : Nat) (S : ByteArray), S = numS N i ∧ vs = .string S ∧ vi = .int .i64 (i : Int) ∧ i ≤ K) (fun _ vi => K - (intOf vi).toNat)
  case atStart => exact ⟨0, _, rfl, rfl, rfl, Nat.zero_le _⟩
  case round =>
    obtain ⟨i, S, hS, rfl, rfl, hi⟩ := hrel
    have hz := numS_size N i hN (by omega)
    rw [← hS] at hz
    have HS := Lib.hid hS
    clear hS
    by_cases hlt : i < K
    · have d4 : decide ((i : Int) < (K : Int)) = true := by simp; omega
      go_wp2_with fail
      go_round
      case rel => exact ⟨i + 1, _, by rw [HS.out]; exact numS_succ N i, rfl, by go_num, by omega⟩
      case measure => simp [intOf]; omega
    · obtain rfl : i = K := by omega
      have d4 : decide ((i : Int) < (i : Int)) = false := by simp
      by_cases h0 : 0 < i
      · have d5 : decide ((0 : Int) < (i : Int)) = true := by simp; omega
        have hc := cut_bad N i hN (by omega) (by omega) w2 HE2.out
        rw [← HS.out] at hc
        go_wp2_with fail
        refine hc.mono ?_
        rintro e w3 ⟨hb3, rfl⟩
        have HB3 := Lib.hid (HB2.out.trans (hb3.mono HB2.out.size))
        clear hb3 hc
        go_wp2_with fail
        go_ret
        exact ⟨rfl, HB3.out.alloc HB3.out.size _⟩
      · obtain rfl : i = 0 := by omega
        have d5 : decide ((0 : Int) < (0 : Int)) = false := by simp
        have hc := cut_good N hN w2 HE2.out
        rw [← HS.out] at hc
        go_wp2_with fail
        refine hc.mono ?_
        rintro e w3 ⟨hb3, g, c, rfl, hcc, hcm, hgl, k0, k1, k2, k3, k4⟩
        have HB3 := Lib.hid (HB2.out.trans (hb3.mono HB2.out.size))
        clear hb3 hc
        go_wp2_with fail
        go_ret
        exact ⟨rfl, HB3.out.alloc HB3.out.size _⟩

set_option maxRecDepth 100000 in
theorem lifted (os : Os) (started : os.Started) (H : Type) (enc : TypeId × Value → H) :
    ReturnsInHanded {} Tryd.checked os 5 .any (fun w args => (Rows.lexNumbersSpec.pre enc Tryd.prog Tryd.f5 Rows.lexNumbersRow.domain false w args ∧ laidMetH Tryd.prog LAID w) ∧ sizedMet enc Tryd.prog Tryd.f5 (OpenSpec.ofChange Rows.lexNumbersSpec) false w args) (Rows.lexNumbersSpec.post enc Tryd.prog Tryd.f5 false true false false) := by
  refine returnsInHanded_of_change_and (C := Tryd.checked) (X := fun w _ => laidMetH Tryd.prog LAID w) (fun _ _ _ hh h => h.of_heap hh) own started (by kernel_rfl) Tryd.func5
    (ChangeSpec.witness_shaped (enc := enc) (C := Tryd.checked) (os := os) (X := fun w _ => laidMetH Tryd.prog LAID w) false (World.laidAll Tryd.prog os LAID) #[.int .i64 0, .int .i64 0] 8 (World.laidAll_os _ _ _)
      (World.shaped_of_ZipB (by kernel_rfl) (by kernel_rfl)) (by kernel_rfl) (by kernel_rfl) (by kernel_rfl)
      (by rw [MakeChecks.laidMetH_plain _ _ _ (by kernel_rfl)]; exact laidMet_laidAll _ (by kernel_rfl) (by kernel_rfl))) ?_
  intro W base args ds gs before hval0 hW hcnd hsz0 hL _
  have hT : Errs W := tab_of (by rw [MakeChecks.laidMetH_plain _ _ _ (by kernel_rfl)] at hL; exact hL)
  have hval : ∀ (j : Nat) t v, Tryd.f5.params[j]? = some t → args[j]? = some v → Value.okWide Tryd.prog W .any base t v := hval0
  have hW' := hW
  obtain ⟨p, q, hA0, hV, rfl, hfz, hnd⟩ := hW
  have hA : DataW.TrodAll enc Tryd.prog W 0 (fun _ => true) true Tryd.f5.params.toList args.toList ds p := hA0
  rw [Tryd.params5] at hA hval
  obtain ⟨v0, vs0, d0, ds0, p0, q0, hargs, rfl, rfl, h0, r0⟩ := trodAll_cons hA
  obtain ⟨v1, vs1, d1, ds1, p1, q1, rfl, rfl, rfl, h1, r1⟩ := trodAll_cons r0
  obtain ⟨rfl, rfl, rfl⟩ := trodAll_nil r1
  obtain rfl : args = #[v0, v1] := by cases args; simp_all
  obtain ⟨rfl, rfl⟩ := trodVars_none hV
  obtain ⟨n, rfl, rfl, rfl, w_n⟩ := open_int Tryd.underlying2 (hval 0 2 v0 rfl rfl) h0
  obtain ⟨noughts, rfl, rfl, rfl, w_noughts⟩ := open_int Tryd.underlying3 (hval 1 3 v1 rfl rfl) h1
  clear hA0 hval0
  refine (walk n noughts W hT w_n w_noughts).mono fun e W' ⟨he, bel⟩ => ?_
  subst he
  exact ⟨_, rfl, _, _, _, [], _, [], hW', trodAll_mk1 (shut_bool Tryd.underlying4 _), (trodAll_cons_mk (shut_int Tryd.underlying2 w_n) (trodAll_cons_mk (shut_int Tryd.underlying3 w_noughts) trodAll_mk0)), rfl, bel.frame _, fun h => by cases h⟩

theorem over : Rows.lexNumbersRow.holds Tryd.pinned (OpenSpec.ofChange Rows.lexNumbersSpec) :=
  OpenClaim.holds_of_wide 5 Tryd.f5 rfl rfl rfl rfl rfl rfl rfl ⟨rfl, rfl, rfl, rfl, rfl⟩ rfl rfl rfl rfl rfl (by kernel_rfl) Tryd.func5 (by kernel_rfl)
    (of_decide_eq_true (by kernel_rfl)) (by unfold Func.isWrapper; first | (rw [if_pos (by decide +kernel)]; kernel_rfl) | (rw [if_neg (by decide +kernel)]; exact ⟨rfl, rfl⟩))
    (fun os started H enc _ => lifted os started H enc)

set_option maxRecDepth 100000 in
theorem proved : Rows.LexNumbersCardSaid :=
  Claim7.holds_tied_plain_at .later [] [.data, .data, .data, .sentinel, .sentinel] true Rows.lexNumbersCard.stood.harness true over (fun _ h => by cases h) (by kernel_rfl) (fun _ h => by cases h) lexNumbers_row_tie rfl ⟨rfl, rfl⟩ (by kernel_rfl) rfl
    (fun f fn hf hfn => by
      obtain rfl : f = 5 := Option.some.inj ((show Tryd.prog.funcNamed "escapement/escapementlaw4.LexNumbers" = some 5 by kernel_rfl).symm.trans hf) |>.symm
      obtain rfl : fn = Tryd.f5 := (Option.some.inj (Tryd.func5.symm.trans hfn)).symm
      exact ⟨by kernel_rfl, fun j t ht => by
        rw [Tryd.params5] at ht
        have hm : t ∈ ([2, 3] : List TypeId) := by simpa using Array.mem_of_getElem? ht
        have hall : (([2, 3] : List TypeId).all fun u => !Tryd.prog.wantsStandIn u) = true := by kernel_rfl
        exact (show Tryd.prog.wantsStandIn t = false by simpa using List.all_eq_true.1 hall t hm)⟩)
    (by kernel_rfl)
#print axioms proved
end Go.Proofs.YtolcaebdmapfbaaDoor.lexNumbers
