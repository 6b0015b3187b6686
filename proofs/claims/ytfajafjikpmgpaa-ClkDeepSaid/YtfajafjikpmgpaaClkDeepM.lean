/-
  Proved: ClkDeep of escapementlaw8 returns true for every input, and leaves what it was handed as it was. No conditions.
-/
import Derived.Test.YtfajafjikpmgpaaMClkDeep
import Derived.Test.YtfajafjikpmgpaaRows
import Derived.Laws.BitsLemmas
import Derived.WalkKit
import Derived.ProofKit
import Derived.OpenShut
import Derived.ShutString
import Derived.ChangeOld
import Derived.SizedLaws
namespace Go.Proofs.Ytfajafjikpmgpaa.clkDeep
open Go.ChangeShapes Go.WideShapes Go.ChangeAt Go.RowKit
open Go.ChangeMaps (open_string shut_string)
set_option linter.unusedVariables false

theorem own : ownKnob Try.prog.godebug = none := by kernel_rfl
theorem laidOut : laidOutB Try.prog = true := by kernel_rfl

theorem eq_f8 (W : World) : (binOp .eql 32 (.agg #[.int .i64 0, .int .i64 0]) (.agg #[.int .i64 0, .int .i64 0])).run Try.prog W = .ok (.bool true) W := by kernel_rfl
theorem let8 (k : Nat) (h : k < 21) : wrap64 (97 + (k : Int)) % 256 = ((lt8 k).toNat : Int) := by
  unfold lt8
  rw [UInt8.toNat_ofNat']
  unfold wrap64
  omega
theorem i64_and1 (n : Int) : bits .and .i64 n 1 = n % 2 := by
  have h1 : (BitVec.ofInt 64 1).toNat = 2 ^ 1 - 1 := by decide
  have key : (BitVec.ofInt 64 n &&& BitVec.ofInt 64 1).toNat = (n % ((2 ^ 64 : Nat) : Int)).toNat % 2 ^ 1 := by
    rw [BitVec.toNat_and, BitVec.toNat_ofInt, h1, Nat.and_two_pow_sub_one_eq_mod]
  show IntKind.i64.wrap ((BitVec.ofInt 64 n &&& BitVec.ofInt 64 1).toNat : Nat) = n % 2
  rw [key, IntKind.wrap_i64]
  omega
def f8 (v : Int) (k : Nat) : Bool := bits .and .i64 v (wrap64 (2 ^ min (IntKind.u64.wrap (k : Int)).toNat 64)) != 0
theorem f8_zero (v : Int) : (f8 v 0 == (bits .and .i64 v 1 == 1)) = true := by
  have e : (wrap64 (2 ^ min (IntKind.u64.wrap ((0 : Nat) : Int)).toNat 64)) = 1 := by first | rfl | kernel_rfl | (unfold wrap64; simp [IntKind.wrap, IntKind.bits, IntKind.signed])
  unfold f8
  rw [e, i64_and1]
  by_cases h : v % 2 = 0
  · rw [h]; rfl
  · have h1 : v % 2 = 1 := by omega
    rw [h1]; rfl
theorem ls8_succ (f : Nat → Bool) (k : Nat) : catL (ls8 f (k + 1)) = catL (ls8 f k) ++ loc8 (f k) k := by
  have e : ls8 f (k + 1) = ls8 f k ++ [(loc8 (f k) k, lc8 (f k) k)] := by
    unfold ls8
    rw [List.range_succ, List.map_append]
    rfl
  rw [e, catL_app]
  simp [catL]
theorem eb8_succ (f : Nat → Bool) (k : Nat) : catL (eb8 f (k + 1)) = catL (eb8 f k) ++ eqn8 (f k) k := by
  have e : eb8 f (k + 1) = eb8 f k ++ [(eqn8 (f k) k, q8 (f k) k)] := by
    unfold eb8
    rw [List.range_succ, List.map_append]
    rfl
  rw [e, catL_app]
  simp [catL]
/-- What is told of the text behind all rounds. -/
theorem deep_facts (f : Nat → Bool) (j : Nat) (hj : j + 1 ≤ 20) : ∃ (nd : Nd) (L r : List Stp), parseL (T8 f (j + 1)) = .ok [nd] ∧ okNd nd = true ∧ clkF [nd] = none ∧ Chn (scopeC nd) (stOf (scopeC nd) (nmB j)) L ∧ L.length = j + 1 ∧ (∀ s ∈ L, s.name.size ≤ maxLen) ∧ L.reverse = ⟨⟨#[99]⟩, f 0⟩ :: r :=
  ⟨N8 f (j + 1), ch8 f j, (ch8_rev f j).choose, T8_parse f (j + 1) (by omega) hj, sn9_ok f (j + 1) hj, clk8_none f (j + 1) hj, ch8_of f j (by omega), ch8_len f j, ch8_names f j, (ch8_rev f j).choose_spec⟩

set_option maxHeartbeats 8000000 in
set_option maxRecDepth 100000 in
theorem walk (n : Int) (bits : Int) (w : World) (w_n : (Lit.int .i64 n).wf = true) (w_bits : (Lit.int .i64 bits).wf = true) :
    Calls Try.prog 6 #[.int .i64 n, .int .i64 bits] w fun e w' => e = .returned (.bool true) ∧ Below w.heap.size w w' := by
  have HSB := Lib.hid size_bad
  have HSN := Lib.hid size_nS
  have HST := Lib.hid size_st
  clear w_n w_bits
  go_enter Try.func6, Try.ntmps6
  go_wp2_with fail
  (with_reducible refine (awake8_any w).mono ?_)
  rintro e w1 ⟨rfl, hb1⟩
  have HB1 := Lib.hid hb1
  clear hb1
  by_cases c1 : n < 1
  · have d1 : decide (n < 1) = true := by simpa using c1
    clear c1
    go_wp2_with fail
    go_ret
    exact ⟨rfl, HB1.out⟩
  have d1 : decide (n < 1) = false := by simpa using c1
  by_cases c2 : 20 < n
  · have d2 : decide ((20 : Int) < n) = true := by simpa using c2
    clear c1 c2
    go_wp2_with fail
    go_ret
    exact ⟨rfl, HB1.out⟩
  have d2 : decide ((20 : Int) < n) = false := by simpa using c2
  go_wp2_with fail
  obtain ⟨N, rfl⟩ : ∃ N : Nat, n = (N : Int) := ⟨n.toNat, by omega⟩
  have HN1 := Lib.hid (show 1 ≤ N by omega)
  have HN2 := Lib.hid (show N ≤ 20 by omega)
  clear c1 c2 d1 d2
  go_loopw [5, 6, 7, 8, 9, 10] (fun v5 v6 v7 v8 v9 v10 wr => ∃ (k : Nat) (S E O : ByteArray), k ≤ N ∧ v8 = .int .i64 (k : Int) ∧ v5 = .string S ∧ v6 = .string E ∧ v7 = .string O ∧ S.data.toList = H8 ++ catL (ls8 (f8 bits) k) ∧ E.data.toList = catL (eb8 (f8 bits) k) ∧ O.data.toList = onL k ∧ Below w.heap.size w wr)
    (fun _ _ _ v8 _ _ _ => N - (intOf v8).toNat)
  case atStart => exact ⟨0, _, ⟨#[]⟩, _, Nat.zero_le _, rfl, rfl, rfl, rfl, rfl, rfl, rfl, HB1.out⟩
  case round =>
    clear HB1
    obtain ⟨k, S, E, O, hk, rfl, rfl, rfl, rfl, hS, hE, hO, hb⟩ := hrel
    have HS := Lib.hid hS
    have HE := Lib.hid hE
    have HO := Lib.hid hO
    have HB := Lib.hid hb
    have HK := Lib.hid hk
    have z1 : S.size ≤ 700 := by
      have e : S.size = S.data.toList.length := by simp
      rw [e, hS, List.length_append]
      have := ls8_len (f8 bits) k
      have h3 : H8.length = 46 := rfl
      have := HN2.out
      omega
    have z2 : E.size ≤ 700 := by
      have e : E.size = E.data.toList.length := by simp
      rw [e, hE]
      have := eb8_len (f8 bits) k
      have := HN2.out
      omega
    have z3 : O.size ≤ 2 := by
      have e : O.size = O.data.toList.length := by simp
      rw [e, hO]
      exact ol_le k
    clear hS hE hO hb hk
    by_cases hlt : k < N
    · have e2 : decide ((k : Int) < (N : Int)) = true := by simp; omega
      have HLT := Lib.hid hlt
      have k1 := str_one wr wr.heap.size rfl (lt8 k) _ (let8 k (by have := HN2.out; omega))
      clear hlt
      cases hfk : f8 bits k with
      | true =>
        have HFK := Lib.hid hfk
        have q1 : (Go.bits .and .i64 bits (wrap64 (2 ^ min (IntKind.u64.wrap (k : Int)).toNat 64)) != 0) = true := hfk
        clear hfk
        go_wp2_with fail
        refine ⟨⟨k + 1, _, _, _, HLT.out, wrap_succ (by have := HLT.out; have := HN2.out; omega), rfl, rfl, rfl, ?_, ?_, ?_, HB.out.alloc HB.out.size _⟩, ?_⟩
        · rw [ls8_succ, HFK.out]
          simp only [app_lst, HS.out, HO.out, List.append_assoc]
          rfl
        · rw [eb8_succ, HFK.out]
          simp only [app_lst, HE.out, HO.out, List.append_assoc]
          rfl
        · simp only [app_lst]
          rfl
        · rw [wrap_succ (by have := HLT.out; have := HN2.out; omega)]
          have := HLT.out
          simp [intOf]; omega
      | false =>
        have HFK := Lib.hid hfk
        have q1 : (Go.bits .and .i64 bits (wrap64 (2 ^ min (IntKind.u64.wrap (k : Int)).toNat 64)) != 0) = false := hfk
        clear hfk
        go_wp2_with fail
        refine ⟨⟨k + 1, _, _, _, HLT.out, wrap_succ (by have := HLT.out; have := HN2.out; omega), rfl, rfl, rfl, ?_, ?_, ?_, HB.out.alloc HB.out.size _⟩, ?_⟩
        · rw [ls8_succ, HFK.out]
          simp only [app_lst, HS.out, HO.out, List.append_assoc]
          rfl
        · rw [eb8_succ, HFK.out]
          simp only [app_lst, HE.out, HO.out, List.append_assoc]
          rfl
        · simp only [app_lst]
          rfl
        · rw [wrap_succ (by have := HLT.out; have := HN2.out; omega)]
          have := HLT.out
          simp [intOf]; omega
    · have e2 : decide ((k : Int) < (N : Int)) = false := by simp; omega
      obtain rfl : k = N := by have := HK.out; omega
      obtain ⟨j, hj⟩ : ∃ j, k = j + 1 := ⟨k - 1, by have := HN1.out; omega⟩
      obtain ⟨nd, L, r, f1, f2, f3, f4, f5, f6, f7⟩ := deep_facts (f8 bits) j (by have := HN2.out; omega)
      have hT : ((((S ++ (⟨#[108, 101, 116, 32]⟩ : ByteArray)) ++ E) ++ (⟨#[121, 32, 61, 32, 120, 59, 32, 116, 101, 108]⟩ : ByteArray)) : ByteArray).data.toList = T8 (f8 bits) (j + 1) := by
        simp only [app_lst, HS.out, HE.out, List.append_assoc, hj]
        unfold T8 es8
        rw [catL_app]
        simp only [List.append_assoc]
        rfl
      have hOn : O = nmB j := by
        have h := HO.out
        rw [hj] at h
        exact bytes_eq h
      obtain ⟨T, hTT⟩ : ∃ T, T = (((S ++ (⟨#[108, 101, 116, 32]⟩ : ByteArray)) ++ E) ++ (⟨#[121, 32, 61, 32, 120, 59, 32, 116, 101, 108]⟩ : ByteArray)) := ⟨_, rfl⟩
      rw [← hTT] at hT
      have e1 : treeOf T = [nd] := by rw [treeOf_list, hT]; unfold treeL; rw [f1]
      have e3 : perOf T = 0 := by rw [perOf_list, hT]; unfold perL; rw [f1]
      have hTs : T.size ≤ 140737488351232 := by
        have e : T.size = T.data.toList.length := by simp
        rw [e, hT]
        have := T8_len (f8 bits) (j + 1) (by have := HN2.out; omega)
        omega
      have kp := parse_at T wr hTs
      rw [e1, e3, show ((0 : Nat) : Int) = 0 from rfl] at kp
      obtain ⟨q2, hq2⟩ : ∃ q, q = patOf T := ⟨_, rfl⟩
      rw [← hq2, hTT] at kp
      have h1l : ([nd] : List Nd).length = 1 := rfl
      have F2_ := Lib.hid f2
      have F3_ := Lib.hid f3
      have F4_ := Lib.hid f4
      have F5_ := Lib.hid f5
      have F6_ := Lib.hid f6
      have F7_ := Lib.hid f7
      have HJ := Lib.hid hj
      have HON := Lib.hid hOn
      clear hlt f1 f2 f3 f4 f5 f6 f7 hT hTT e1 e3 hTs hq2 hj hOn
      go_wp2_with fail
      (with_reducible refine kp.mono ?_)
      rintro e9 w2 ⟨x, c, rfl, hI, hb⟩
      have F1 := ((Fx.start w).call (HB.out.trans (hb.mono HB.out.size))).alloc w2.heap.size rfl 30 #[.int .i64 0, .int .i64 0]
      have F2 := F1.store 0 rfl #[.int .i64 0, .int .i64 (q2 : Int)]
      have HN1_ := Lib.hid (F1.get 0 rfl)
      have hI2 := IsD.below (new_row w2 30 #[.int .i64 0, .int .i64 0] #[.int .i64 0, .int .i64 (q2 : Int)]).1 hI
      obtain ⟨W2, hW2⟩ : ∃ W2, W2 = ((w2.alloc (.cells #[.int .i64 0, .int .i64 0] 30)).setRow w2.heap.size #[.int .i64 0, .int .i64 (q2 : Int)]) := ⟨_, rfl⟩
      rw [← hW2] at F2 hI2
      have c0 := cell_of_row _ w2.heap.size 0 _ _ _ (F2.get 0 rfl)
      rw [hW2] at c0
      have kb := Back_any [nd] W2 (by have := F2.lt_ 0 rfl; omega) _ x c hI2
      rw [hW2, h1l] at kb
      have HB2 := Lib.hid F2.below
      have HW2 := Lib.hid hW2
      clear F1 F2 hI hI2 hb kp hW2
      go_wp2_with (refine wpList_store_row rfl 30 (.tmp 12) (.tmp 70) rfl w2.heap.size #[.int .i64 0, .int .i64 (q2 : Int)] rfl rfl 30 #[.int .i64 0, .int .i64 0] ?_ HSB.out rfl (fault_one _ _) ?_; (exact HN1_.out))
      (with_reducible refine kb.mono ?_)
      rw [← HW2.out]
      rintro e9 w3 ⟨x3, c3, rfl, hI3, hb⟩
      have HB3 := Lib.hid (HB2.out.trans (hb.mono HB2.out.size))
      obtain ⟨g, rfl, hg, xi, ci, xo, co, xl, cl, xe, ce, hrg, t1, t2, t3, t4⟩ := nd_at (l := [nd]) hI3 0 (by simp)
      simp only [List.getElem_cons_zero, Nat.zero_mul] at hrg t1 t2 t3 t4
      have ko : Calls Try.prog 28 #[.agg (ndC nd xi xo xl xe ci co cl ce).toArray, .string O] w3 (fun e w' => ∃ x c, e = .returned (.slice x k c) ∧ IsD (w3.heap.size ≤ ·) w' (.slice x k c) (.sl k (stsD (⟨⟨#[99]⟩, f8 bits 0⟩ :: r))) ∧ Below w3.heap.size w3 w') := by
        have h := clkOf_any nd F2_.out w3 _ xi xo xl xe ci co cl ce ⟨t1, t2, t3, t4⟩ O (Nat.le_trans z3 (by decide)) L (by rw [HON.out]; exact F4_.out) (by rw [F5_.out]; have := HN2.out; have := HJ.out; omega) F6_.out
        unfold GivesRw at h
        rw [List.length_reverse, F5_.out, ← HJ.out, F7_.out] at h
        exact h
      have hc3 : 1 ≤ c3 := by obtain ⟨x', c', h1, h2, h3⟩ := IsD.slice hI3; injection h1 with _ _ h; subst h; exact h2
      have HRG3 := Lib.hid hrg
      have HI3 := Lib.hid hI3
      clear hb hI3 kb hrg t1 t2 t3 t4 hg c0
      go_wp2_with (refine wpList_load_mid rfl 49 (.tmp 77) rfl g 0 rfl (ndC nd xi xo xl xe ci co cl ce) _ ?_ Try.underlying49 rfl HSN.out ?_; (exact HRG3.out))
      (with_reducible refine ko.mono ?_)
      rintro e9 W4 ⟨x4, c4, rfl, hI4, hb⟩
      have HB4 := Lib.hid (HB3.out.trans (hb.mono HB3.out.size))
      have hlr : (⟨⟨#[99]⟩, f8 bits 0⟩ :: r : List Stp).length = k := by rw [← F7_.out, List.length_reverse, F5_.out, ← HJ.out]
      rw [← hlr] at hI4
      obtain ⟨g4, rfl, hg4, hr4⟩ := st_at (l := ⟨⟨#[99]⟩, f8 bits 0⟩ :: r) hI4 0 (by simp)
      simp only [List.getElem_cons_zero, Nat.zero_mul] at hr4
      have m0 : W4.cell? ⟨g4, 0, none⟩ = some (.string (⟨#[99]⟩ : ByteArray)) := hr4 0 _ rfl
      have m1 : W4.cell? ⟨g4, 1, none⟩ = some (.bool (f8 bits 0)) := hr4 1 _ rfl
      have HI4 := Lib.hid (IsD.below hb HI3.out)
      have hc4 : k ≤ c4 := by obtain ⟨x', c', h1, h2, h3⟩ := IsD.slice hI4; injection h1 with _ _ h; subst h; rw [hlr] at h2; exact h2
      have kc := clkCheck_any [nd] (one_at8 F2_.out) W4 _ (some ⟨g, 0, none⟩) c3 HI4.out
      unfold GivesO at kc
      rw [F3_.out, h1l] at kc
      have kc : Calls Try.prog 24 #[.slice (some ⟨g, 0, none⟩) 1 c3] W4 (fun e w' => e = .returned (.agg #[.int .i64 0, .int .i64 0]) ∧ Below W4.heap.size W4 w') := kc
      have M0 := Lib.hid m0
      have M1 := Lib.hid m1
      have HG4 := Lib.hid hg4
      clear hb hI4 ko hr4 hg4 m0 m1 hlr
      go_wp2_with fail
      (with_reducible refine kc.mono ?_)
      rintro e9 W5 ⟨rfl, hb⟩
      have HB5 := Lib.hid (HB4.out.trans (hb.mono HB4.out.size))
      have m0 := (World.cell?_of_block (a := ⟨g4, 0, none⟩) (hb.block g4 HG4.out)).trans M0.out
      have m1 := (World.cell?_of_block (a := ⟨g4, 1, none⟩) (hb.block g4 HG4.out)).trans M1.out
      have b2 := fun W => eq_f8 W
      have b3 := f8_zero bits
      have b4 : ((k : Int) == (k : Int)) = true := by simp
      have b5 : 0 < k := HN1.out
      obtain ⟨fz, hfz⟩ : ∃ fz, fz = f8 bits 0 := ⟨_, rfl⟩
      rw [← hfz] at m1 b3
      clear kc hb hfz
      go_wp2_with fail
      go_ret
      exact ⟨by first | rfl | rw [b3], HB5.out⟩

set_option maxRecDepth 100000 in
theorem lifted (os : Os) (started : os.Started) (H : Type) (enc : TypeId × Value → H) :
    ReturnsInHanded {} Try.checked os 6 .any (Rows.clkDeepSpec.pre6 enc Try.prog Try.f6 Rows.clkDeepRow.domain false) (Rows.clkDeepSpec.post enc Try.prog Try.f6 false true false false) := by
  refine returnsInHanded_of_change (C := Try.checked) own started (by kernel_rfl) Try.func6
    (ChangeSpec.witness6 (enc := enc) (C := Try.checked) false ⟨#[], #[.int .i64 0, .int .i64 0], []⟩ 8 (by kernel_rfl) (by kernel_rfl) (by kernel_rfl) (by kernel_rfl)) ?_
  intro W base args ds gs before hval0 hW hcnd _
  have hval : ∀ (j : Nat) t v, Try.f6.params[j]? = some t → args[j]? = some v → Value.okWide Try.prog W .any base t v := hval0
  have hW' := hW
  obtain ⟨p, q, hA0, hV, rfl, hfz, hnd⟩ := hW
  have hA : DataW.TrodAll enc Try.prog W 0 (fun _ => true) true Try.f6.params.toList args.toList ds p := hA0
  rw [Try.params6] at hA hval
  obtain ⟨v0, vs0, d0, ds0, p0, q0, hargs, rfl, rfl, h0, r0⟩ := trodAll_cons hA
  obtain ⟨v1, vs1, d1, ds1, p1, q1, rfl, rfl, rfl, h1, r1⟩ := trodAll_cons r0
  obtain ⟨rfl, rfl, rfl⟩ := trodAll_nil r1
  obtain rfl : args = #[v0, v1] := by cases args; simp_all
  obtain ⟨rfl, rfl⟩ := trodVars_none hV
  obtain ⟨n, rfl, rfl, rfl, w_n⟩ := open_int Try.underlying3 (hval 0 3 v0 rfl rfl) h0
  obtain ⟨bits, rfl, rfl, rfl, w_bits⟩ := open_int Try.underlying3 (hval 1 3 v1 rfl rfl) h1
  clear hA0 hval0
  refine (walk n bits W w_n w_bits).mono fun e W' ⟨he, bel⟩ => ?_
  subst he
  exact ⟨_, rfl, _, _, _, [], _, [], hW', trodAll_mk1 (shut_bool Try.underlying4 _), (trodAll_cons_mk (shut_int Try.underlying3 w_n) (trodAll_cons_mk (shut_int Try.underlying3 w_bits) trodAll_mk0)), rfl, bel.frame _, fun h => by cases h⟩

theorem over : Rows.clkDeepRow.holds Try.pinned (OpenSpec.ofChange Rows.clkDeepSpec) :=
  OpenClaim.holds_of_wide 6 Try.f6 rfl rfl rfl rfl rfl rfl rfl ⟨rfl, rfl, rfl, rfl, rfl⟩ rfl rfl rfl rfl rfl (by kernel_rfl) Try.func6 (by kernel_rfl)
    (of_decide_eq_true (by kernel_rfl)) (by unfold Func.isWrapper; first | (rw [if_pos (by decide +kernel)]; kernel_rfl) | (rw [if_neg (by decide +kernel)]; exact ⟨rfl, rfl⟩))
    (fun os started H enc _ => lifted os started H enc)

theorem proved : Rows.ClkDeepSaid := over
#print axioms proved
end Go.Proofs.Ytfajafjikpmgpaa.clkDeep
