/-
  Proved: NamesAhead of escapementlaw6 returns true for every input, and leaves what it was handed as it was. No conditions.
-/
import Derived.Test.YtbgngmnpepnflaaMNamesAhead
import Derived.Test.YtbgngmnpepnflaaRows
import Derived.WalkKit
import Derived.ProofKit
import Derived.OpenShut
import Derived.ShutString
import Derived.ChangeOld
import Derived.SizedLaws
namespace Go.Proofs.Ytbgngmnpepnflaa.namesAhead
open Go.ChangeShapes Go.WideShapes Go.ChangeAt Go.RowKit
open Go.ChangeMaps (open_string shut_string)
set_option linter.unusedVariables false

theorem own : ownKnob Try.prog.godebug = none := by kernel_rfl
theorem laidOut : laidOutB Try.prog = true := by kernel_rfl

theorem ahT_back (frm to_ : Nat) : ∀ m i, ahT frm to_ (m + 1) i = ahT frm to_ m i ++ (if i + m = frm then ahC (i + m) to_ else ahX (i + m))
  | 0, i => by simp [ahT]
  | m + 1, i => by
    have h := ahT_back frm to_ m (i + 1)
    rw [show i + 1 + m = i + (m + 1) by omega] at h
    conv => lhs; unfold ahT
    rw [h]
    conv => rhs; unfold ahT
    rw [List.append_assoc]

set_option maxHeartbeats 8000000 in
set_option maxRecDepth 100000 in
theorem walk (n : Int) (from_ : Int) (to_ : Int) (w : World) (w_n : (Lit.int .i64 n).wf = true) (w_from_ : (Lit.int .i64 from_).wf = true) (w_to_ : (Lit.int .i64 to_).wf = true) :
    Calls Try.prog 5 #[.int .i64 n, .int .i64 from_, .int .i64 to_] w fun e w' => e = .returned (.bool true) ∧ Below w.heap.size w w' := by
  have HSB := Lib.hid size_bad
  have HSF := Lib.hid size_flt
  clear w_n w_from_ w_to_
  go_enter Try.func5, Try.ntmps5
  go_wp2_with fail
  (with_reducible refine (awake6_any w).mono ?_)
  rintro e w1 ⟨rfl, hb1⟩
  have HB1 := Lib.hid hb1
  clear hb1
  by_cases c1 : n < 1
  · have d1 : decide (n < 1) = true := by simpa using c1
    clear c1
    go_wp2_with fail
    go_ret
    exact ⟨rfl, HB1.out⟩
  have d1 : decide (n < 1) = false := by simpa using c1
  by_cases c2 : 20 < n
  · have d2 : decide ((20 : Int) < n) = true := by simpa using c2
    clear c1 c2
    go_wp2_with fail
    go_ret
    exact ⟨rfl, HB1.out⟩
  have d2 : decide ((20 : Int) < n) = false := by simpa using c2
  by_cases c3 : from_ < 0
  · have d3 : decide (from_ < 0) = true := by simpa using c3
    clear c1 c2 c3
    go_wp2_with fail
    go_ret
    exact ⟨rfl, HB1.out⟩
  have d3 : decide (from_ < 0) = false := by simpa using c3
  by_cases c4 : n ≤ from_
  · have d4 : decide (n ≤ from_) = true := by simpa using c4
    clear c1 c2 c3 c4
    go_wp2_with fail
    go_ret
    exact ⟨rfl, HB1.out⟩
  have d4 : decide (n ≤ from_) = false := by simpa using c4
  by_cases c5 : to_ < 0
  · have d5 : decide (to_ < 0) = true := by simpa using c5
    clear c1 c2 c3 c4 c5
    go_wp2_with fail
    go_ret
    exact ⟨rfl, HB1.out⟩
  have d5 : decide (to_ < 0) = false := by simpa using c5
  by_cases c6 : n ≤ to_
  · have d6 : decide (n ≤ to_) = true := by simpa using c6
    clear c1 c2 c3 c4 c5 c6
    go_wp2_with fail
    go_ret
    exact ⟨rfl, HB1.out⟩
  have d6 : decide (n ≤ to_) = false := by simpa using c6
  go_wp2_with fail
  obtain ⟨N, rfl⟩ : ∃ N : Nat, n = (N : Int) := ⟨n.toNat, by omega⟩
  obtain ⟨F, rfl⟩ : ∃ F : Nat, from_ = (F : Int) := ⟨from_.toNat, by omega⟩
  obtain ⟨T, rfl⟩ : ∃ T : Nat, to_ = (T : Int) := ⟨to_.toNat, by omega⟩
  have hN2 : N ≤ 20 := by omega
  have hF : F < N := by omega
  have hT : T < N := by omega
  have HN2 := Lib.hid hN2
  have HF := Lib.hid hF
  have HT := Lib.hid hT
  clear c1 c2 c3 c4 c5 c6 d1 d2 d3 d4 d5 d6 hN2 hF hT
  go_loopw [7, 8, 9] (fun v7 v8 v9 wr => ∃ (k : Nat) (S : ByteArray), k ≤ N ∧ v8 = .int .i64 (k : Int) ∧ v7 = .string S ∧ S.data.toList = ahT F T k 0 ∧ Below w.heap.size w wr) (fun _ v8 _ _ => N - (intOf v8).toNat)
  case atStart => exact ⟨0, ⟨#[]⟩, Nat.zero_le _, rfl, rfl, rfl, HB1.out⟩
  case round =>
    clear HB1
    obtain ⟨k, S, hk, rfl, rfl, hS, hb⟩ := hrel
    have HS := Lib.hid hS
    have HB := Lib.hid hb
    have HK := Lib.hid hk
    have hz : S.size ≤ 1100 := by
      have e : S.size = S.data.toList.length := by simp
      rw [e, hS]
      have := ahT_len F T k 0
      have := HN2.out
      omega
    clear hS hb hk
    by_cases hlt : k < N
    · have e2 : decide ((k : Int) < (N : Int)) = true := by simp; omega
      have HLT := Lib.hid hlt
      by_cases hf : k = F
      · have e3 : ((k : Int) == (F : Int)) = true := by simp; omega
        have HKF := Lib.hid hf
        have k1 := str_one wr wr.heap.size rfl (lc T) _ (let_wrap T (by have := HT.out; have := HN2.out; omega))
        have k2 := str_one (wr.alloc (.cells #[.int .u8 (wrap64 (97 + (T : Int)) % 256)] 5)) (wr.heap.size + 1) (by simp) (lc k) _ (let_wrap k (by have := HLT.out; have := HN2.out; omega))
        clear hlt hf
        go_wp2_with fail
        refine ⟨⟨k + 1, _, HLT.out, wrap_succ (by have := HLT.out; have := HN2.out; omega), rfl, ?_, (HB.out.alloc HB.out.size _).alloc (by have := HB.out.size; simp; omega) _⟩, ?_⟩
        · rw [ahT_back, Nat.zero_add, if_pos HKF.out]
          simp only [app_lst, HS.out, List.append_assoc]
          rfl
        · rw [wrap_succ (by have := HLT.out; have := HN2.out; omega)]
          have := HLT.out
          simp [intOf]; omega
      · have e3 : ((k : Int) == (F : Int)) = false := by simp; omega
        have HKF := Lib.hid hf
        have k2 := str_one wr wr.heap.size rfl (lc k) _ (let_wrap k (by have := HLT.out; have := HN2.out; omega))
        clear hlt hf
        go_wp2_with fail
        refine ⟨⟨k + 1, _, HLT.out, wrap_succ (by have := HLT.out; have := HN2.out; omega), rfl, ?_, HB.out.alloc HB.out.size _⟩, ?_⟩
        · rw [ahT_back, Nat.zero_add, if_neg HKF.out]
          simp only [app_lst, HS.out, List.append_assoc]
          rfl
        · rw [wrap_succ (by have := HLT.out; have := HN2.out; omega)]
          have := HLT.out
          simp [intOf]; omega
    · obtain rfl : k = N := by have := HK.out; omega
      have e2 : decide ((k : Int) < (k : Int)) = false := by simp
      obtain ⟨f1, f2, f3⟩ := ah_fault F T k HF.out HT.out HN2.out
      have htr : treeOf S = treeL (ahT F T k 0) := by rw [treeOf_list, HS.out]
      obtain ⟨L, hL⟩ : ∃ L, L = treeOf S := ⟨_, rfl⟩
      have hlen : L.length ≤ 1000000 := by rw [hL, htr]; omega
      have hall : ∀ (i : Nat) (h : i < L.length), okNd L[i] = true := by rw [hL, htr]; exact okNd_all f1
      obtain ⟨o, ho⟩ : ∃ o, o = namesF L := ⟨_, rfl⟩
      have hon : o.isNone = decide (T < F) := by rw [ho, hL, htr]; exact f2
      have kp := parse_at S wr (by omega)
      obtain ⟨q1, hq1⟩ : ∃ q, q = perOf S := ⟨_, rfl⟩
      obtain ⟨q2, hq2⟩ : ∃ q, q = patOf S := ⟨_, rfl⟩
      rw [← hL, ← hq1, ← hq2] at kp
      have HALL := Lib.hid hall
      have HLEN := Lib.hid hlen
      have HO := Lib.hid ho
      have HON := Lib.hid hon
      clear hlt f1 f2 f3 htr hL hlen hall ho hon hq1 hq2 HS hz
      go_wp2_with fail
      (with_reducible refine kp.mono ?_)
      rintro e9 w2 ⟨x, c, rfl, hI, hb⟩
      have F1 := ((Fx.start w).call (HB.out.trans (hb.mono HB.out.size))).alloc w2.heap.size rfl 26 #[.int .i64 0, .int .i64 0]
      have F2 := F1.store 0 rfl #[.int .i64 (q1 : Int), .int .i64 (q2 : Int)]
      have HN1 := Lib.hid (F1.get 0 rfl)
      have hI2 := IsD.below (new_row w2 26 #[.int .i64 0, .int .i64 0] #[.int .i64 (q1 : Int), .int .i64 (q2 : Int)]).1 hI
      obtain ⟨W2, hW2⟩ : ∃ W2, W2 = ((w2.alloc (.cells #[.int .i64 0, .int .i64 0] 26)).setRow w2.heap.size #[.int .i64 (q1 : Int), .int .i64 (q2 : Int)]) := ⟨_, rfl⟩
      rw [← hW2] at F2 hI2
      have kb := Back_any L W2 (by have h1 := F2.below.size; have h2 := F2.lt_ 0 rfl; have h3 := hb.size; have h4 := HB.out.size; have h5 := F2.ge 0 rfl; omega) _ x c hI2
      rw [hW2] at kb
      have HF2 := Lib.hid F2.seen
      have HW2 := Lib.hid hW2
      clear F1 F2 hI hI2 hb kp hW2
      go_wp2_with (refine wpList_store_row rfl 26 (.tmp 11) (.tmp 70) rfl w2.heap.size #[.int .i64 (q1 : Int), .int .i64 (q2 : Int)] rfl rfl 26 _ HN1.out HSB.out rfl (fault_one _ _) ?_)
      (with_reducible refine kb.mono ?_)
      rw [← HW2.out]
      rintro e9 w3 ⟨x3, c3, rfl, hI3, hb⟩
      have HF3 := Lib.hid (HF2.out.call hb)
      have kc := namesCheck_any L HALL.out HLEN.out w3 _ x3 c3 hI3
      unfold GivesO at kc
      rw [← HO.out] at kc
      obtain ⟨er, her⟩ : ∃ er, er = ferO 8 o := ⟨_, rfl⟩
      obtain ⟨ea, hea⟩ : ∃ ea, ea = fatO o := ⟨_, rfl⟩
      rw [← her, ← hea] at kc
      have HER : Hid (if T < F then er = 0 else er = 8) := Lib.hid (by
        have := HON.out
        cases o with
        | none => rw [if_pos (by simpa using this.symm)]; exact her
        | some a => rw [if_neg (by simpa using this.symm)]; exact her)
      clear hb hI3 kb her hea
      go_wp2_with fail
      (with_reducible refine kc.mono ?_)
      rintro e9 w4 ⟨rfl, hb⟩
      have F4 := (HF3.out.call hb).alloc w4.heap.size rfl 33 #[.int .i64 0, .int .i64 0]
      have F5 := F4.store 0 rfl #[.int .i64 er, .int .i64 ea]
      have HAF := Lib.hid (F4.get 0 rfl)
      have c0 := cell_of_row _ w4.heap.size 0 _ _ _ (F5.get 0 rfl)
      have HF5 := Lib.hid F5
      clear F4 F5 hb kc
      by_cases ht : T < F
      · have HE := HER.out
        rw [if_pos ht] at HE
        subst HE
        have d9 : decide (T < F) = true := by simp; omega
        clear ht HER
        go_wp2_with (refine wpList_store_row rfl 33 (.tmp 12) (.tmp 73) rfl w4.heap.size #[.int .i64 0, .int .i64 ea] rfl rfl 33 _ HAF.out HSF.out rfl (fault_one _ _) ?_)
        go_ret
        exact ⟨rfl, HF5.out.below⟩
      · have HE := HER.out
        rw [if_neg ht] at HE
        subst HE
        have d9 : decide (T < F) = false := by simp; omega
        clear ht HER
        go_wp2_with (refine wpList_store_row rfl 33 (.tmp 12) (.tmp 73) rfl w4.heap.size #[.int .i64 8, .int .i64 ea] rfl rfl 33 _ HAF.out HSF.out rfl (fault_one _ _) ?_)
        go_ret
        exact ⟨rfl, HF5.out.below⟩

set_option maxRecDepth 100000 in
theorem lifted (os : Os) (started : os.Started) (H : Type) (enc : TypeId × Value → H) :
    ReturnsInHanded {} Try.checked os 5 .any (Rows.namesAheadSpec.pre6 enc Try.prog Try.f5 Rows.namesAheadRow.domain false) (Rows.namesAheadSpec.post enc Try.prog Try.f5 false true false false) := by
  refine returnsInHanded_of_change (C := Try.checked) own started (by kernel_rfl) Try.func5
    (ChangeSpec.witness6 (enc := enc) (C := Try.checked) false ⟨#[], #[.int .i64 0, .int .i64 0, .int .i64 0], []⟩ 8 (by kernel_rfl) (by kernel_rfl) (by kernel_rfl) (by kernel_rfl)) ?_
  intro W base args ds gs before hval0 hW hcnd _
  have hval : ∀ (j : Nat) t v, Try.f5.params[j]? = some t → args[j]? = some v → Value.okWide Try.prog W .any base t v := hval0
  have hW' := hW
  obtain ⟨p, q, hA0, hV, rfl, hfz, hnd⟩ := hW
  have hA : DataW.TrodAll enc Try.prog W 0 (fun _ => true) true Try.f5.params.toList args.toList ds p := hA0
  rw [Try.params5] at hA hval
  obtain ⟨v0, vs0, d0, ds0, p0, q0, hargs, rfl, rfl, h0, r0⟩ := trodAll_cons hA
  obtain ⟨v1, vs1, d1, ds1, p1, q1, rfl, rfl, rfl, h1, r1⟩ := trodAll_cons r0
  obtain ⟨v2, vs2, d2, ds2, p2, q2, rfl, rfl, rfl, h2, r2⟩ := trodAll_cons r1
  obtain ⟨rfl, rfl, rfl⟩ := trodAll_nil r2
  obtain rfl : args = #[v0, v1, v2] := by cases args; simp_all
  obtain ⟨rfl, rfl⟩ := trodVars_none hV
  obtain ⟨n, rfl, rfl, rfl, w_n⟩ := open_int Try.underlying3 (hval 0 3 v0 rfl rfl) h0
  obtain ⟨from_, rfl, rfl, rfl, w_from_⟩ := open_int Try.underlying3 (hval 1 3 v1 rfl rfl) h1
  obtain ⟨to_, rfl, rfl, rfl, w_to_⟩ := open_int Try.underlying3 (hval 2 3 v2 rfl rfl) h2
  clear hA0 hval0
  refine (walk n from_ to_ W w_n w_from_ w_to_).mono fun e W' ⟨he, bel⟩ => ?_
  subst he
  exact ⟨_, rfl, _, _, _, [], _, [], hW', trodAll_mk1 (shut_bool Try.underlying4 _), (trodAll_cons_mk (shut_int Try.underlying3 w_n) (trodAll_cons_mk (shut_int Try.underlying3 w_from_) (trodAll_cons_mk (shut_int Try.underlying3 w_to_) trodAll_mk0))), rfl, bel.frame _, fun h => by cases h⟩

theorem joined : joinedFacts Try.prog 5 Try.f5 Rows.namesAheadSpec Rows.namesAheadRow = true := by
  unfold joinedFacts
  rw [jf_laid, jf_maps, jf_plain, jf_heard, jf_may, jf_lifts, jf_make]
  repeat' (with_reducible refine Bool.and_eq_true_iff.2 ⟨?_, ?_⟩)
  all_goals as_aux_lemma => kernel_rfl

theorem over : Rows.namesAheadRow.holds Try.pinned (OpenSpec.ofChange Rows.namesAheadSpec) :=
  OpenClaim.holds_of_wide 5 Try.f5 rfl rfl rfl rfl rfl rfl rfl ⟨rfl, rfl, rfl, rfl, rfl⟩ rfl rfl rfl rfl rfl (by kernel_rfl) Try.func5 joined
    (of_decide_eq_true (by kernel_rfl)) (by unfold Func.isWrapper; first | (rw [if_pos (by decide +kernel)]; kernel_rfl) | (rw [if_neg (by decide +kernel)]; exact ⟨rfl, rfl⟩))
    (fun os started H enc _ => lifted os started H enc)

theorem proved : Rows.NamesAheadSaid := over
#print axioms proved
end Go.Proofs.Ytbgngmnpepnflaa.namesAhead
