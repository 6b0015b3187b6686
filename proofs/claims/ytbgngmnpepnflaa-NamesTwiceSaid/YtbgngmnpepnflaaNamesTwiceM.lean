/-
  Proved: NamesTwice of escapementlaw6 returns true for every input, and leaves what it was handed as it was. No conditions.
-/
import Derived.Test.YtbgngmnpepnflaaMNamesTwice
import Derived.Test.YtbgngmnpepnflaaRows
import Derived.WalkKit
import Derived.ProofKit
import Derived.OpenShut
import Derived.ShutString
import Derived.ChangeOld
import Derived.SizedLaws
namespace Go.Proofs.Ytbgngmnpepnflaa.namesTwice
open Go.ChangeShapes Go.WideShapes Go.ChangeAt Go.RowKit
open Go.ChangeMaps (open_string shut_string)
set_option linter.unusedVariables false

theorem own : ownKnob Try.prog.godebug = none := by kernel_rfl
theorem laidOut : laidOutB Try.prog = true := by kernel_rfl

/-- What the program has of the declarations behind k rounds. -/
def twS (a b n k : Nat) : List UInt8 := (if k = 0 then [] else [119, l1 (tk a b 0), l2 (tk a b 0), 58, 32, 105, 110, 116] ++ tDt a b (k - 1) 1) ++ (if 0 < k ∧ k < n then [59, 32] else [])
theorem twS_len (a b n k : Nat) (h : k < n) : (twS a b n k).length = 10 * k := by
  unfold twS
  by_cases hk : k = 0
  · subst hk
    simp
  · rw [if_neg hk, if_pos ⟨by omega, h⟩]
    simp only [List.length_append, tDt_len, List.length_cons, List.length_nil]
    omega
theorem twS_next (a b n k : Nat) (h : k < n) : twS a b n (k + 1) = twS a b n k ++ ([119, l1 (tk a b k), l2 (tk a b k), 58, 32, 105, 110, 116] ++ (if k + 1 < n then [59, 32] else [])) := by
  unfold twS
  rw [if_neg (by omega : ¬ k + 1 = 0)]
  have e : (0 < k + 1 ∧ k + 1 < n) = (k + 1 < n) := by simp
  simp only [e]
  by_cases hk : k = 0
  · subst hk
    rw [if_pos rfl, if_neg (by omega : ¬ (0 < 0 ∧ 0 < n))]
    simp [tDt]
  · obtain ⟨q, rfl⟩ : ∃ q, k = q + 1 := ⟨k - 1, by omega⟩
    have e3 : (0 < q + 1 ∧ q + 1 < n) = True := by simp [h]
    rw [if_neg hk]
    simp only [e3, if_true]
    have hb := tDt_back a b q 1
    rw [show 1 + q = q + 1 by omega] at hb
    rw [show q + 1 + 1 - 1 = q + 1 by omega, show q + 1 - 1 = q by omega, hb]
    simp
theorem twS_all (a b n : Nat) (h : 1 ≤ n) : twS a b n n = twD a b n := by
  unfold twS twD
  rw [if_neg (by omega : ¬ n = 0), if_neg (by omega : ¬ (0 < n ∧ n < n)), List.append_nil]
theorem let_quo (k : Nat) (h : k < 60) : wrap64 (97 + wrap64 ((k : Int) / 26)) % 256 = ((l1 k).toNat : Int) := by
  unfold l1
  rw [UInt8.toNat_ofNat']
  unfold wrap64
  omega
theorem let_rem (k : Nat) : 97 + (k : Int) % 26 = ((l2 k).toNat : Int) := by
  unfold l2
  rw [UInt8.toNat_ofNat']
  omega

set_option maxHeartbeats 8000000 in
set_option maxRecDepth 100000 in
theorem walk (n : Int) (a : Int) (b : Int) (w : World) (w_n : (Lit.int .i64 n).wf = true) (w_a : (Lit.int .i64 a).wf = true) (w_b : (Lit.int .i64 b).wf = true) :
    Calls Try.prog 4 #[.int .i64 n, .int .i64 a, .int .i64 b] w fun e w' => e = .returned (.bool true) ∧ Below w.heap.size w w' := by
  have HSB := Lib.hid size_bad
  clear w_n w_a w_b
  go_enter Try.func4, Try.ntmps4
  go_wp2_with fail
  (with_reducible refine (awake6_any w).mono ?_)
  rintro e w1 ⟨rfl, hb1⟩
  have HB1 := Lib.hid hb1
  clear hb1
  by_cases c1 : n < 2
  · have d1 : decide (n < 2) = true := by simpa using c1
    clear c1
    go_wp2_with fail
    go_ret
    exact ⟨rfl, HB1.out⟩
  have d1 : decide (n < 2) = false := by simpa using c1
  by_cases c2 : 60 < n
  · have d2 : decide ((60 : Int) < n) = true := by simpa using c2
    clear c1 c2
    go_wp2_with fail
    go_ret
    exact ⟨rfl, HB1.out⟩
  have d2 : decide ((60 : Int) < n) = false := by simpa using c2
  by_cases c3 : a < 0
  · have d3 : decide (a < 0) = true := by simpa using c3
    clear c1 c2 c3
    go_wp2_with fail
    go_ret
    exact ⟨rfl, HB1.out⟩
  have d3 : decide (a < 0) = false := by simpa using c3
  by_cases c4 : b ≤ a
  · have d4 : decide (b ≤ a) = true := by simpa using c4
    clear c1 c2 c3 c4
    go_wp2_with fail
    go_ret
    exact ⟨rfl, HB1.out⟩
  have d4 : decide (b ≤ a) = false := by simpa using c4
  by_cases c5 : n ≤ b
  · have d5 : decide (n ≤ b) = true := by simpa using c5
    clear c1 c2 c3 c4 c5
    go_wp2_with fail
    go_ret
    exact ⟨rfl, HB1.out⟩
  have d5 : decide (n ≤ b) = false := by simpa using c5
  go_wp2_with fail
  obtain ⟨N, rfl⟩ : ∃ N : Nat, n = (N : Int) := ⟨n.toNat, by omega⟩
  obtain ⟨A, rfl⟩ : ∃ A : Nat, a = (A : Int) := ⟨a.toNat, by omega⟩
  obtain ⟨B, rfl⟩ : ∃ B : Nat, b = (B : Int) := ⟨b.toNat, by omega⟩
  have HN2 := Lib.hid (show N ≤ 60 by omega)
  have HA := Lib.hid (show A < B by omega)
  have HB_ := Lib.hid (show B < N by omega)
  clear c1 c2 c3 c4 c5 d1 d2 d3 d4 d5
  go_loopw [7, 8, 9, 10, 11, 12] (fun v7 v8 v9 v10 v11 v12 wr => ∃ (k : Nat) (S E : ByteArray), k ≤ N ∧ v10 = .int .i64 (k : Int) ∧ v7 = .string S ∧ v8 = .string E ∧ S.data.toList = twS A B N k ∧ E.data.toList = tEt A B k 0 ∧ v9 = .int .i64 (if k ≤ B then 0 else 18 + 10 * (B : Int)) ∧ Below w.heap.size w wr) (fun _ _ _ v10 _ _ _ => N - (intOf v10).toNat)
  case atStart => exact ⟨0, ⟨#[]⟩, ⟨#[]⟩, Nat.zero_le _, rfl, rfl, rfl, rfl, rfl, by rw [if_pos (Nat.zero_le _)], HB1.out⟩
  case round =>
    clear HB1
    obtain ⟨k, S, E, hk, rfl, rfl, rfl, hS, hE, rfl, hb⟩ := hrel
    have HS := Lib.hid hS
    have HE := Lib.hid hE
    have HB := Lib.hid hb
    have HK := Lib.hid hk
    have hz : S.size ≤ 700 := by
      have e : S.size = S.data.toList.length := by simp
      rw [e, hS]
      by_cases h : k < N
      · rw [twS_len A B N k h]; have := HN2.out; omega
      · obtain rfl : k = N := by omega
        rw [twS_all A B k (by have := HA.out; have := HB_.out; omega)]
        unfold twD
        simp only [List.length_append, tDt_len, List.length_cons, List.length_nil]
        have := HN2.out; omega
    have hz2 : E.size ≤ 700 := by
      have e : E.size = E.data.toList.length := by simp
      rw [e, hE, tEt_len]
      have := HN2.out; omega
    clear hS hE hb hk
    by_cases hlt : k < N
    · have e2 : decide ((k : Int) < (N : Int)) = true := by simp; omega
      have HLT := Lib.hid hlt
      by_cases hf : k = B
      · have e3 : ((k : Int) == (B : Int)) = true := by simp; omega
        have hl : (S.size : Int) = 10 * (B : Int) := by
          have e : S.size = S.data.toList.length := by simp
          rw [e, HS.out, twS_len A B N k hlt, hf]
          omega
        have HKB := Lib.hid hf
        have HL := Lib.hid hl
        by_cases h5 : k + 1 < N
        · have HL5 := Lib.hid h5
          clear hlt hf hl h5
          have k1 := str_two wr wr.heap.size rfl (l1 A) (l2 A) _ _ (let_quo A (by have := HLT.out; have := HA.out; have := HB_.out; have := HN2.out; omega)) (let_rem A)
          have d7 : decide ((k : Int) + 1 < (N : Int)) = true := by have := HL5.out; simp; omega
          have d8 : decide (wrap64 ((k : Int) + 1) < (N : Int)) = true := by have := HL5.out; have := HN2.out; rw [show wrap64 ((k : Int) + 1) = (k : Int) + 1 by unfold wrap64; omega]; simp; omega
          go_wp2_with fail
          refine ⟨⟨k + 1, _, _, HLT.out, wrap_succ (by have := HLT.out; have := HN2.out; omega), rfl, rfl, ?_, ?_, ?_, HB.out.alloc HB.out.size _⟩, ?_⟩
          · rw [twS_next A B N k HLT.out, if_pos HL5.out]
            rw [show tk A B k = A from if_pos HKB.out]
            simp only [app_lst, HS.out, List.append_assoc]
            rfl
          · rw [tEt_back, Nat.zero_add]
            rw [show tk A B k = A from if_pos HKB.out]
            simp only [app_lst, HE.out, List.append_assoc]
            rfl
          · exact by rw [if_neg (by have := HKB.out; omega)]; have := HL.out; congr 1; omega
          · rw [wrap_succ (by have := HLT.out; have := HN2.out; omega)]
            have := HLT.out
            simp [intOf]; omega
        · have HL5 := Lib.hid h5
          clear hlt hf hl h5
          have k1 := str_two wr wr.heap.size rfl (l1 A) (l2 A) _ _ (let_quo A (by have := HLT.out; have := HA.out; have := HB_.out; have := HN2.out; omega)) (let_rem A)
          have d7 : decide ((k : Int) + 1 < (N : Int)) = false := by have := HL5.out; simp; omega
          have d8 : decide (wrap64 ((k : Int) + 1) < (N : Int)) = false := by have := HL5.out; have := HN2.out; have := HLT.out; rw [show wrap64 ((k : Int) + 1) = (k : Int) + 1 by unfold wrap64; omega]; simp; omega
          go_wp2_with fail
          refine ⟨⟨k + 1, _, _, HLT.out, wrap_succ (by have := HLT.out; have := HN2.out; omega), rfl, rfl, ?_, ?_, ?_, HB.out.alloc HB.out.size _⟩, ?_⟩
          · rw [twS_next A B N k HLT.out, if_neg HL5.out]
            rw [show tk A B k = A from if_pos HKB.out]
            simp only [app_lst, HS.out, List.append_assoc]
            rfl
          · rw [tEt_back, Nat.zero_add]
            rw [show tk A B k = A from if_pos HKB.out]
            simp only [app_lst, HE.out, List.append_assoc]
            rfl
          · exact by rw [if_neg (by have := HKB.out; omega)]; have := HL.out; congr 1; omega
          · rw [wrap_succ (by have := HLT.out; have := HN2.out; omega)]
            have := HLT.out
            simp [intOf]; omega
      · have e3 : ((k : Int) == (B : Int)) = false := by simp; omega
        have HKB := Lib.hid hf
        by_cases h5 : k + 1 < N
        · have HL5 := Lib.hid h5
          clear hlt hf h5
          have k1 := str_two wr wr.heap.size rfl (l1 k) (l2 k) _ _ (let_quo k (by have := HLT.out; have := HA.out; have := HB_.out; have := HN2.out; omega)) (let_rem k)
          have d7 : decide ((k : Int) + 1 < (N : Int)) = true := by have := HL5.out; simp; omega
          have d8 : decide (wrap64 ((k : Int) + 1) < (N : Int)) = true := by have := HL5.out; have := HN2.out; rw [show wrap64 ((k : Int) + 1) = (k : Int) + 1 by unfold wrap64; omega]; simp; omega
          go_wp2_with fail
          refine ⟨⟨k + 1, _, _, HLT.out, wrap_succ (by have := HLT.out; have := HN2.out; omega), rfl, rfl, ?_, ?_, ?_, HB.out.alloc HB.out.size _⟩, ?_⟩
          · rw [twS_next A B N k HLT.out, if_pos HL5.out]
            rw [show tk A B k = k from if_neg HKB.out]
            simp only [app_lst, HS.out, List.append_assoc]
            rfl
          · rw [tEt_back, Nat.zero_add]
            rw [show tk A B k = k from if_neg HKB.out]
            simp only [app_lst, HE.out, List.append_assoc]
            rfl
          · exact by
              have := HKB.out
              by_cases h9 : k ≤ B
              · rw [if_pos h9, if_pos (by omega)]
              · rw [if_neg h9, if_neg (by omega)]
          · rw [wrap_succ (by have := HLT.out; have := HN2.out; omega)]
            have := HLT.out
            simp [intOf]; omega
        · have HL5 := Lib.hid h5
          clear hlt hf h5
          have k1 := str_two wr wr.heap.size rfl (l1 k) (l2 k) _ _ (let_quo k (by have := HLT.out; have := HA.out; have := HB_.out; have := HN2.out; omega)) (let_rem k)
          have d7 : decide ((k : Int) + 1 < (N : Int)) = false := by have := HL5.out; simp; omega
          have d8 : decide (wrap64 ((k : Int) + 1) < (N : Int)) = false := by have := HL5.out; have := HN2.out; have := HLT.out; rw [show wrap64 ((k : Int) + 1) = (k : Int) + 1 by unfold wrap64; omega]; simp; omega
          go_wp2_with fail
          refine ⟨⟨k + 1, _, _, HLT.out, wrap_succ (by have := HLT.out; have := HN2.out; omega), rfl, rfl, ?_, ?_, ?_, HB.out.alloc HB.out.size _⟩, ?_⟩
          · rw [twS_next A B N k HLT.out, if_neg HL5.out]
            rw [show tk A B k = k from if_neg HKB.out]
            simp only [app_lst, HS.out, List.append_assoc]
            rfl
          · rw [tEt_back, Nat.zero_add]
            rw [show tk A B k = k from if_neg HKB.out]
            simp only [app_lst, HE.out, List.append_assoc]
            rfl
          · exact by
              have := HKB.out
              by_cases h9 : k ≤ B
              · rw [if_pos h9, if_pos (by omega)]
              · rw [if_neg h9, if_neg (by omega)]
          · rw [wrap_succ (by have := HLT.out; have := HN2.out; omega)]
            have := HLT.out
            simp [intOf]; omega
    · obtain rfl : k = N := by have := HK.out; omega
      have e2 : decide ((k : Int) < (k : Int)) = false := by simp
      obtain ⟨f1, f2, f3⟩ := tw_fault A B k HA.out HB_.out HN2.out
      have ht : ((((((⟨#[110, 111, 100, 101, 32, 102, 40, 41, 32, 114, 101, 116, 117, 114, 110, 115, 32, 40]⟩ : ByteArray) ++ S) ++ (⟨#[41, 59, 32, 108, 101, 116, 32]⟩ : ByteArray)) ++ E) ++ (⟨#[116, 101, 108]⟩ : ByteArray)) : ByteArray).data.toList = twT A B k := by
        unfold twT
        simp only [app_lst, HS.out, HE.out, List.append_assoc]
        rw [twS_all A B k (by have := HA.out; have := HB_.out; omega)]
      have KF := Lib.hid (fun W => fault6_val ht (by have := twT_len A B k (by have := HA.out; have := HB_.out; omega) HN2.out; omega) f1 f3 f2 W)
      have HQ := Lib.hid (show (if k ≤ B then (0 : Int) else 18 + 10 * (B : Int)) = 18 + 10 * (B : Int) by rw [if_neg (by have := HB_.out; omega)])
      have hq := HQ.out
      rw [hq]
      clear hlt f1 f2 f3 ht HS HE hq
      go_wp2_with fail
      (with_reducible refine (KF.out _).mono ?_)
      rintro e9 w3 ⟨rfl, hb⟩
      have HB3 := Lib.hid (HB.out.trans (hb.mono HB.out.size))
      have z3 : ferO 8 (some (18 + 10 * B)) = 8 := rfl
      have z4 : fatO (some (18 + 10 * B)) = 18 + 10 * (B : Int) := by show ((18 + 10 * B : Nat) : Int) = _; omega
      rw [z3, z4]
      clear hb z3 z4
      go_wp2_with fail
      go_ret
      exact ⟨rfl, HB3.out⟩

set_option maxRecDepth 100000 in
theorem lifted (os : Os) (started : os.Started) (H : Type) (enc : TypeId × Value → H) :
    ReturnsInHanded {} Try.checked os 4 .any (Rows.namesTwiceSpec.pre6 enc Try.prog Try.f4 Rows.namesTwiceRow.domain false) (Rows.namesTwiceSpec.post enc Try.prog Try.f4 false true false false) := by
  refine returnsInHanded_of_change (C := Try.checked) own started (by kernel_rfl) Try.func4
    (ChangeSpec.witness6 (enc := enc) (C := Try.checked) false ⟨#[], #[.int .i64 0, .int .i64 0, .int .i64 0], []⟩ 8 (by kernel_rfl) (by kernel_rfl) (by kernel_rfl) (by kernel_rfl)) ?_
  intro W base args ds gs before hval0 hW hcnd _
  have hval : ∀ (j : Nat) t v, Try.f4.params[j]? = some t → args[j]? = some v → Value.okWide Try.prog W .any base t v := hval0
  have hW' := hW
  obtain ⟨p, q, hA0, hV, rfl, hfz, hnd⟩ := hW
  have hA : DataW.TrodAll enc Try.prog W 0 (fun _ => true) true Try.f4.params.toList args.toList ds p := hA0
  rw [Try.params4] at hA hval
  obtain ⟨v0, vs0, d0, ds0, p0, q0, hargs, rfl, rfl, h0, r0⟩ := trodAll_cons hA
  obtain ⟨v1, vs1, d1, ds1, p1, q1, rfl, rfl, rfl, h1, r1⟩ := trodAll_cons r0
  obtain ⟨v2, vs2, d2, ds2, p2, q2, rfl, rfl, rfl, h2, r2⟩ := trodAll_cons r1
  obtain ⟨rfl, rfl, rfl⟩ := trodAll_nil r2
  obtain rfl : args = #[v0, v1, v2] := by cases args; simp_all
  obtain ⟨rfl, rfl⟩ := trodVars_none hV
  obtain ⟨n, rfl, rfl, rfl, w_n⟩ := open_int Try.underlying3 (hval 0 3 v0 rfl rfl) h0
  obtain ⟨a, rfl, rfl, rfl, w_a⟩ := open_int Try.underlying3 (hval 1 3 v1 rfl rfl) h1
  obtain ⟨b, rfl, rfl, rfl, w_b⟩ := open_int Try.underlying3 (hval 2 3 v2 rfl rfl) h2
  clear hA0 hval0
  refine (walk n a b W w_n w_a w_b).mono fun e W' ⟨he, bel⟩ => ?_
  subst he
  exact ⟨_, rfl, _, _, _, [], _, [], hW', trodAll_mk1 (shut_bool Try.underlying4 _), (trodAll_cons_mk (shut_int Try.underlying3 w_n) (trodAll_cons_mk (shut_int Try.underlying3 w_a) (trodAll_cons_mk (shut_int Try.underlying3 w_b) trodAll_mk0))), rfl, bel.frame _, fun h => by cases h⟩

theorem joined : joinedFacts Try.prog 4 Try.f4 Rows.namesTwiceSpec Rows.namesTwiceRow = true := by
  unfold joinedFacts
  rw [jf_laid, jf_maps, jf_plain, jf_heard, jf_may, jf_lifts, jf_make]
  repeat' (with_reducible refine Bool.and_eq_true_iff.2 ⟨?_, ?_⟩)
  all_goals as_aux_lemma => kernel_rfl

theorem over : Rows.namesTwiceRow.holds Try.pinned (OpenSpec.ofChange Rows.namesTwiceSpec) :=
  OpenClaim.holds_of_wide 4 Try.f4 rfl rfl rfl rfl rfl rfl rfl ⟨rfl, rfl, rfl, rfl, rfl⟩ rfl rfl rfl rfl rfl (by kernel_rfl) Try.func4 joined
    (of_decide_eq_true (by kernel_rfl)) (by unfold Func.isWrapper; first | (rw [if_pos (by decide +kernel)]; kernel_rfl) | (rw [if_neg (by decide +kernel)]; exact ⟨rfl, rfl⟩))
    (fun os started H enc _ => lifted os started H enc)

theorem proved : Rows.NamesTwiceSaid := over
#print axioms proved
end Go.Proofs.Ytbgngmnpepnflaa.namesTwice
