/-
  Proved: IniRows of escapementlaw9 returns true for every input, and leaves what it was handed as it was. No conditions.
-/
import Derived.Test.YthlhogfebicooaaMIniRows
import Derived.Test.YthlhogfebicooaaRows
import Derived.BigRegion
import Derived.WalkKit
import Derived.ProofKit
import Derived.OpenShut
import Derived.ShutString
import Derived.ChangeOld
import Derived.SizedLaws
namespace Go.Proofs.Ythlhogfebicooaa.iniRows
open Go.ChangeShapes Go.WideShapes Go.ChangeAt Go.RowKit
open Go.ChangeMaps (open_string shut_string)
set_option linter.unusedVariables false

theorem own : ownKnob Try.prog.godebug = none := by kernel_rfl
theorem laidOut : laidOutB Try.prog = true := by kernel_rfl

theorem neq_f9 (W : World) : (binOp .neq 32 (.agg #[.int .i64 0, .int .i64 0]) (.agg #[.int .i64 0, .int .i64 0])).run Try.prog W = .ok (.bool false) W := by kernel_rfl
theorem let9 (k : Nat) (h : k < 21) : wrap64 (97 + (k : Int)) % 256 = ((lt9 k).toNat : Int) := by
  unfold lt9
  rw [UInt8.toNat_ofNat']
  unfold wrap64
  omega
theorem let9p (k : Nat) (h0 : 0 < k) (h : k < 21) : wrap64 (wrap64 (97 + (k : Int)) - 1) % 256 = ((lt9 (k - 1)).toNat : Int) := by
  unfold lt9
  rw [UInt8.toNat_ofNat']
  unfold wrap64
  omega
theorem let9s (a i : Nat) (h : a + i < 21) : IntKind.u8.wrap (IntKind.i64.wrap (IntKind.i64.wrap (97 + (a : Int)) + (i : Int))) = ((lt9 (a + i)).toNat : Int) := by
  rw [IntKind.wrap_i64, IntKind.wrap_i64, IntKind.wrap_u8]
  unfold lt9
  rw [UInt8.toNat_ofNat']
  omega
theorem let9t (a i : Nat) (h : a + i < 21) : wrap64 (wrap64 (97 + (a : Int)) + (i : Int)) % 256 = ((lt9 (a + i)).toNat : Int) := by
  unfold lt9
  rw [UInt8.toNat_ofNat']
  unfold wrap64
  omega
theorem ls9_succ (k : Nat) : catL (ls9 (k + 1)) = catL (ls9 k) ++ loc9 k := by
  have e : ls9 (k + 1) = ls9 k ++ [(loc9 k, lc9 k)] := by
    unfold ls9
    rw [List.range_succ, List.map_append]
    rfl
  rw [e, catL_app]
  simp [catL]
theorem eb9_fore (a k : Nat) : catL (eb9 a false (k + 1)) = catL (eb9 a false k) ++ eqn9 a k := by
  have e : eb9 a false (k + 1) = eb9 a false k ++ [(eqn9 a k, q9 a k)] := by
    unfold eb9 ord9
    rw [if_neg (by decide), if_neg (by decide), List.range_succ, List.map_append]
    rfl
  rw [e, catL_app]
  simp [catL]
theorem eb9_back (a k : Nat) : catL (eb9 a true (k + 1)) = eqn9 a k ++ catL (eb9 a true k) := by
  have e : eb9 a true (k + 1) = (eqn9 a k, q9 a k) :: eb9 a true k := by
    unfold eb9 ord9
    rw [if_pos rfl, if_pos rfl, List.range_succ, List.reverse_append]
    rfl
  rw [e, catL_cons]
/-- What is told of the late names. -/
theorem late_at {nd : Nd} {a n : Nat} (h : lateL nd = (List.range (n - a)).map (fun i => nmV (a + i))) : (lateL nd).length = n - a ∧ ∀ (i : Nat) (hi : i < (lateL nd).length), (lateL nd)[i] = nmV (a + i) := by
  have hl : (lateL nd).length = n - a := by rw [h, List.length_map, List.length_range]
  refine ⟨hl, fun i hi => ?_⟩
  simp only [h, List.getElem_map, List.getElem_range]
theorem v_nm (k : Nat) : (⟨#[118]⟩ : ByteArray) ++ (⟨[lt9 k].toArray⟩ : ByteArray) = nmV k := bytes_inj (by simp [nmV])
theorem one_at9r {nd : Nd} (h : okNd nd = true ∧ fewQs nd.eqs = true) : ∀ (i : Nat) (hi : i < ([nd] : List Nd).length), okNd ([nd] : List Nd)[i] = true ∧ fewQs ([nd] : List Nd)[i].eqs = true := fun i hi => by
  have : i = 0 := by simp at hi; omega
  subst this
  exact h

set_option maxHeartbeats 16000000 in
set_option maxRecDepth 100000 in
theorem walk (n : Int) (a : Int) (back : Bool) (w : World) (w_n : (Lit.int .i64 n).wf = true) (w_a : (Lit.int .i64 a).wf = true) :
    Calls Try.prog 7 #[.int .i64 n, .int .i64 a, .bool back] w fun e w' => e = .returned (.bool true) ∧ Below w.heap.size w w' := by
  have HSB := Lib.hid size_bad
  have HSN := Lib.hid size_nS
  clear w_n w_a
  go_enter Try.func7, Try.ntmps7
  go_wp2_with fail
  (with_reducible refine (awake9_any w).mono ?_)
  rintro e w1 ⟨rfl, hb1⟩
  have HB1 := Lib.hid hb1
  clear hb1
  by_cases c1 : n < 1
  · have d1 : decide (n < 1) = true := by simpa using c1
    clear c1
    go_wp2_with fail
    go_ret
    exact ⟨rfl, HB1.out⟩
  have d1 : decide (n < 1) = false := by simpa using c1
  by_cases c2 : 20 < n
  · have d2 : decide ((20 : Int) < n) = true := by simpa using c2
    clear c1 c2
    go_wp2_with fail
    go_ret
    exact ⟨rfl, HB1.out⟩
  have d2 : decide ((20 : Int) < n) = false := by simpa using c2
  by_cases c3 : a < 0
  · have d3 : decide (a < 0) = true := by simpa using c3
    clear c1 c2 c3
    go_wp2_with fail
    go_ret
    exact ⟨rfl, HB1.out⟩
  have d3 : decide (a < 0) = false := by simpa using c3
  by_cases c4 : n ≤ a
  · have d4 : decide (n ≤ a) = true := by simpa using c4
    clear c1 c2 c3 c4
    go_wp2_with fail
    go_ret
    exact ⟨rfl, HB1.out⟩
  have d4 : decide (n ≤ a) = false := by simpa using c4
  go_wp2_with fail
  obtain ⟨N, rfl⟩ : ∃ N : Nat, n = (N : Int) := ⟨n.toNat, by omega⟩
  obtain ⟨A, rfl⟩ : ∃ A : Nat, a = (A : Int) := ⟨a.toNat, by omega⟩
  have HN1 := Lib.hid (show 1 ≤ N by omega)
  have HN2 := Lib.hid (show N ≤ 20 by omega)
  have HA := Lib.hid (show A < N by omega)
  clear c1 c2 c3 c4 d1 d2 d3 d4
  go_loopw [7, 8, 9, 10, 11] (fun v7 v8 v9 v10 v11 wr => ∃ (k : Nat) (S E : ByteArray), k ≤ N ∧ v9 = .int .i64 (k : Int) ∧ v7 = .string S ∧ v8 = .string E ∧ S.data.toList = catL (ls9 k) ∧ E.data.toList = catL (eb9 A back k) ∧ Below w.heap.size w wr)
    (fun _ _ v9 _ _ _ => N - (intOf v9).toNat)
  case atStart => exact ⟨0, ⟨#[]⟩, ⟨#[]⟩, Nat.zero_le _, rfl, rfl, rfl, rfl, by cases back <;> rfl, HB1.out⟩
  case round =>
    clear HB1
    obtain ⟨k, S, E, hk, rfl, rfl, rfl, hS, hE, hb⟩ := hrel
    have HS := Lib.hid hS
    have HE := Lib.hid hE
    have HB := Lib.hid hb
    have HK := Lib.hid hk
    have z1 : S.size ≤ 700 := by
      have e : S.size = S.data.toList.length := by simp
      rw [e, hS]
      have := ls9_len k
      have := HN2.out
      omega
    have z2 : E.size ≤ 700 := by
      have e : E.size = E.data.toList.length := by simp
      rw [e, hE]
      have := eb9_len A back k
      have := HN2.out
      omega
    clear hS hE hb hk
    by_cases hlt : k < N
    · have e2 : decide ((k : Int) < (N : Int)) = true := by simp; omega
      have HLT := Lib.hid hlt
      clear hlt
      cases back with
      | true =>
        by_cases hat : k = A
        · have e3 : ((k : Int) == (A : Int)) = true := by simp; omega
          have HAT := Lib.hid hat
          clear hat
          by_cases hp : 0 < k
          · have e4 : decide ((0 : Int) < (k : Int)) = true := by simp; omega
            have e5 : decide (0 < k) = true := by simpa using hp
            have HPOS := Lib.hid hp
            clear hp
            have k1 := str_one wr wr.heap.size rfl (lt9 k) _ (let9 k (by have := HN2.out; have := HLT.out; omega))
            have k2 := str_one (wr.alloc (.cells #[.int .u8 (wrap64 (97 + (k : Int)) % 256)] 5)) (wr.heap.size + 1) (by simp) (lt9 (k - 1)) _ (let9p k HPOS.out (by have := HN2.out; have := HLT.out; omega))
            go_wp2_with fail
            refine ⟨⟨k + 1, _, _, HLT.out, wrap_succ (by have := HLT.out; have := HN2.out; omega), rfl, rfl, ?_, ?_, (HB.out.alloc HB.out.size _).alloc (by have := HB.out.size; simp; omega) _⟩, ?_⟩
            · rw [ls9_succ]
              simp only [app_lst, HS.out, List.append_assoc]
              rfl
            · rw [eb9_back]
              unfold eqn9
              rw [if_pos HAT.out]
              simp only [app_lst, HE.out, List.append_assoc]
              rfl
            · rw [wrap_succ (by have := HLT.out; have := HN2.out; omega)]
              have := HLT.out
              simp [intOf]; omega
          · have e4 : decide ((0 : Int) < (k : Int)) = false := by simp; omega
            have e5 : decide (0 < k) = false := by simpa using hp
            have HPOS := Lib.hid (show k = 0 by omega)
            clear hp
            have k1 := str_one wr wr.heap.size rfl (lt9 k) _ (let9 k (by have := HN2.out; have := HLT.out; omega))
            go_wp2_with fail
            refine ⟨⟨k + 1, _, _, HLT.out, wrap_succ (by have := HLT.out; have := HN2.out; omega), rfl, rfl, ?_, ?_, HB.out.alloc HB.out.size _⟩, ?_⟩
            · rw [ls9_succ]
              simp only [app_lst, HS.out, List.append_assoc]
              rfl
            · rw [eb9_back]
              unfold eqn9
              rw [if_pos HAT.out]
              simp only [app_lst, HE.out, List.append_assoc]
              rfl
            · rw [wrap_succ (by have := HLT.out; have := HN2.out; omega)]
              have := HLT.out
              simp [intOf]; omega
        · have e3 : ((k : Int) == (A : Int)) = false := by simp; omega
          have HAT := Lib.hid hat
          clear hat
          by_cases hp : 0 < k
          · have e4 : decide ((0 : Int) < (k : Int)) = true := by simp; omega
            have e5 : decide (0 < k) = true := by simpa using hp
            have HPOS := Lib.hid hp
            clear hp
            have k1 := str_one wr wr.heap.size rfl (lt9 k) _ (let9 k (by have := HN2.out; have := HLT.out; omega))
            have k2 := str_one (wr.alloc (.cells #[.int .u8 (wrap64 (97 + (k : Int)) % 256)] 5)) (wr.heap.size + 1) (by simp) (lt9 (k - 1)) _ (let9p k HPOS.out (by have := HN2.out; have := HLT.out; omega))
            go_wp2_with fail
            refine ⟨⟨k + 1, _, _, HLT.out, wrap_succ (by have := HLT.out; have := HN2.out; omega), rfl, rfl, ?_, ?_, (HB.out.alloc HB.out.size _).alloc (by have := HB.out.size; simp; omega) _⟩, ?_⟩
            · rw [ls9_succ]
              simp only [app_lst, HS.out, List.append_assoc]
              rfl
            · rw [eb9_back]
              unfold eqn9
              rw [if_neg HAT.out, if_neg (Nat.pos_iff_ne_zero.1 HPOS.out)]
              simp only [app_lst, HE.out, List.append_assoc]
              rfl
            · rw [wrap_succ (by have := HLT.out; have := HN2.out; omega)]
              have := HLT.out
              simp [intOf]; omega
          · have e4 : decide ((0 : Int) < (k : Int)) = false := by simp; omega
            have e5 : decide (0 < k) = false := by simpa using hp
            have HPOS := Lib.hid (show k = 0 by omega)
            clear hp
            have k1 := str_one wr wr.heap.size rfl (lt9 k) _ (let9 k (by have := HN2.out; have := HLT.out; omega))
            go_wp2_with fail
            refine ⟨⟨k + 1, _, _, HLT.out, wrap_succ (by have := HLT.out; have := HN2.out; omega), rfl, rfl, ?_, ?_, HB.out.alloc HB.out.size _⟩, ?_⟩
            · rw [ls9_succ]
              simp only [app_lst, HS.out, List.append_assoc]
              rfl
            · rw [eb9_back]
              unfold eqn9
              rw [if_neg HAT.out, if_pos HPOS.out]
              simp only [app_lst, HE.out, List.append_assoc]
              rfl
            · rw [wrap_succ (by have := HLT.out; have := HN2.out; omega)]
              have := HLT.out
              simp [intOf]; omega
      | false =>
        by_cases hat : k = A
        · have e3 : ((k : Int) == (A : Int)) = true := by simp; omega
          have HAT := Lib.hid hat
          clear hat
          by_cases hp : 0 < k
          · have e4 : decide ((0 : Int) < (k : Int)) = true := by simp; omega
            have e5 : decide (0 < k) = true := by simpa using hp
            have HPOS := Lib.hid hp
            clear hp
            have k1 := str_one wr wr.heap.size rfl (lt9 k) _ (let9 k (by have := HN2.out; have := HLT.out; omega))
            have k2 := str_one (wr.alloc (.cells #[.int .u8 (wrap64 (97 + (k : Int)) % 256)] 5)) (wr.heap.size + 1) (by simp) (lt9 (k - 1)) _ (let9p k HPOS.out (by have := HN2.out; have := HLT.out; omega))
            go_wp2_with fail
            refine ⟨⟨k + 1, _, _, HLT.out, wrap_succ (by have := HLT.out; have := HN2.out; omega), rfl, rfl, ?_, ?_, (HB.out.alloc HB.out.size _).alloc (by have := HB.out.size; simp; omega) _⟩, ?_⟩
            · rw [ls9_succ]
              simp only [app_lst, HS.out, List.append_assoc]
              rfl
            · rw [eb9_fore]
              unfold eqn9
              rw [if_pos HAT.out]
              simp only [app_lst, HE.out, List.append_assoc]
              rfl
            · rw [wrap_succ (by have := HLT.out; have := HN2.out; omega)]
              have := HLT.out
              simp [intOf]; omega
          · have e4 : decide ((0 : Int) < (k : Int)) = false := by simp; omega
            have e5 : decide (0 < k) = false := by simpa using hp
            have HPOS := Lib.hid (show k = 0 by omega)
            clear hp
            have k1 := str_one wr wr.heap.size rfl (lt9 k) _ (let9 k (by have := HN2.out; have := HLT.out; omega))
            go_wp2_with fail
            refine ⟨⟨k + 1, _, _, HLT.out, wrap_succ (by have := HLT.out; have := HN2.out; omega), rfl, rfl, ?_, ?_, HB.out.alloc HB.out.size _⟩, ?_⟩
            · rw [ls9_succ]
              simp only [app_lst, HS.out, List.append_assoc]
              rfl
            · rw [eb9_fore]
              unfold eqn9
              rw [if_pos HAT.out]
              simp only [app_lst, HE.out, List.append_assoc]
              rfl
            · rw [wrap_succ (by have := HLT.out; have := HN2.out; omega)]
              have := HLT.out
              simp [intOf]; omega
        · have e3 : ((k : Int) == (A : Int)) = false := by simp; omega
          have HAT := Lib.hid hat
          clear hat
          by_cases hp : 0 < k
          · have e4 : decide ((0 : Int) < (k : Int)) = true := by simp; omega
            have e5 : decide (0 < k) = true := by simpa using hp
            have HPOS := Lib.hid hp
            clear hp
            have k1 := str_one wr wr.heap.size rfl (lt9 k) _ (let9 k (by have := HN2.out; have := HLT.out; omega))
            have k2 := str_one (wr.alloc (.cells #[.int .u8 (wrap64 (97 + (k : Int)) % 256)] 5)) (wr.heap.size + 1) (by simp) (lt9 (k - 1)) _ (let9p k HPOS.out (by have := HN2.out; have := HLT.out; omega))
            go_wp2_with fail
            refine ⟨⟨k + 1, _, _, HLT.out, wrap_succ (by have := HLT.out; have := HN2.out; omega), rfl, rfl, ?_, ?_, (HB.out.alloc HB.out.size _).alloc (by have := HB.out.size; simp; omega) _⟩, ?_⟩
            · rw [ls9_succ]
              simp only [app_lst, HS.out, List.append_assoc]
              rfl
            · rw [eb9_fore]
              unfold eqn9
              rw [if_neg HAT.out, if_neg (Nat.pos_iff_ne_zero.1 HPOS.out)]
              simp only [app_lst, HE.out, List.append_assoc]
              rfl
            · rw [wrap_succ (by have := HLT.out; have := HN2.out; omega)]
              have := HLT.out
              simp [intOf]; omega
          · have e4 : decide ((0 : Int) < (k : Int)) = false := by simp; omega
            have e5 : decide (0 < k) = false := by simpa using hp
            have HPOS := Lib.hid (show k = 0 by omega)
            clear hp
            have k1 := str_one wr wr.heap.size rfl (lt9 k) _ (let9 k (by have := HN2.out; have := HLT.out; omega))
            go_wp2_with fail
            refine ⟨⟨k + 1, _, _, HLT.out, wrap_succ (by have := HLT.out; have := HN2.out; omega), rfl, rfl, ?_, ?_, HB.out.alloc HB.out.size _⟩, ?_⟩
            · rw [ls9_succ]
              simp only [app_lst, HS.out, List.append_assoc]
              rfl
            · rw [eb9_fore]
              unfold eqn9
              rw [if_neg HAT.out, if_pos HPOS.out]
              simp only [app_lst, HE.out, List.append_assoc]
              rfl
            · rw [wrap_succ (by have := HLT.out; have := HN2.out; omega)]
              have := HLT.out
              simp [intOf]; omega
    · have e2 : decide ((k : Int) < (N : Int)) = false := by simp; omega
      obtain rfl : k = N := by have := HK.out; omega
      obtain ⟨nd, f1, f2, f3, f4, f5⟩ := rows_facts back A k HA.out HN2.out
      obtain ⟨g1, g2⟩ := late_at f5
      have hT : (((((⟨#[110, 111, 100, 101, 32, 102, 40, 120, 58, 32, 105, 110, 116, 41, 32, 114, 101, 116, 117, 114, 110, 115, 32, 40, 121, 58, 32, 105, 110, 116, 41, 59, 32, 118, 97, 114, 32]⟩ : ByteArray) ++ S) ++ (⟨#[108, 101, 116, 32]⟩ : ByteArray)) ++ E) ++ (⟨#[121, 32, 61, 32, 120, 59, 32, 116, 101, 108]⟩ : ByteArray)).data.toList = T9 A back k := by
        simp only [app_lst, HS.out, HE.out, List.append_assoc]
        unfold T9 es9
        rw [catL_app]
        simp only [List.append_assoc]
        rfl
      obtain ⟨T, hTT⟩ : ∃ T, T = ((((⟨#[110, 111, 100, 101, 32, 102, 40, 120, 58, 32, 105, 110, 116, 41, 32, 114, 101, 116, 117, 114, 110, 115, 32, 40, 121, 58, 32, 105, 110, 116, 41, 59, 32, 118, 97, 114, 32]⟩ : ByteArray) ++ S) ++ (⟨#[108, 101, 116, 32]⟩ : ByteArray)) ++ E) ++ (⟨#[121, 32, 61, 32, 120, 59, 32, 116, 101, 108]⟩ : ByteArray) := ⟨_, rfl⟩
      rw [← hTT] at hT
      have e1 : treeOf T = [nd] := by rw [treeOf_list, hT]; unfold treeL; rw [f1]
      have e3 : perOf T = 0 := by rw [perOf_list, hT]; unfold perL; rw [f1]
      have hTs : T.size ≤ 140737488351232 := by
        have e : T.size = T.data.toList.length := by simp
        rw [e, hT]
        have := T9_len A back k HN2.out
        omega
      have kp := parse_at T wr hTs
      rw [e1, e3, show ((0 : Nat) : Int) = 0 from rfl] at kp
      obtain ⟨q2, hq2⟩ : ∃ q, q = patOf T := ⟨_, rfl⟩
      rw [← hq2, hTT] at kp
      have h1l : ([nd] : List Nd).length = 1 := rfl
      have F23 := Lib.hid (show okNd nd = true ∧ fewQs nd.eqs = true from ⟨f2, f3⟩)
      have F4_ := Lib.hid f4
      obtain ⟨LL, hLL⟩ : ∃ LL, LL = lateL nd := ⟨_, rfl⟩
      have GL := iniLate_any nd f2 f3
      rw [← hLL] at GL
      have GL := Lib.hid GL
      have hG1 : LL.length = k - A := by rw [hLL]; exact g1
      have G2 : Hid (∀ (i : Nat) (hi : i < LL.length), LL[i] = nmV (A + i)) := by
        subst hLL
        exact Lib.hid g2
      have G1 := Lib.hid hG1
      clear hlt f1 f2 f3 f4 f5 g1 g2 hT hTT e1 e3 hTs hq2 hLL hG1
      go_wp2_with fail
      (with_reducible refine kp.mono ?_)
      rintro e9 w2 ⟨x, c, rfl, hI, hb⟩
      have F1 := ((Fx.start w).call (HB.out.trans (hb.mono HB.out.size))).alloc w2.heap.size rfl 30 #[.int .i64 0, .int .i64 0]
      have F2 := F1.store 0 rfl #[.int .i64 0, .int .i64 (q2 : Int)]
      have HN1_ := Lib.hid (F1.get 0 rfl)
      have hI2 := IsD.below (new_row w2 30 #[.int .i64 0, .int .i64 0] #[.int .i64 0, .int .i64 (q2 : Int)]).1 hI
      obtain ⟨W2, hW2⟩ : ∃ W2, W2 = ((w2.alloc (.cells #[.int .i64 0, .int .i64 0] 30)).setRow w2.heap.size #[.int .i64 0, .int .i64 (q2 : Int)]) := ⟨_, rfl⟩
      rw [← hW2] at F2 hI2
      have c0 := cell_of_row _ w2.heap.size 0 _ _ _ (F2.get 0 rfl)
      rw [hW2] at c0
      have kb := Back_any [nd] W2 (by have := F2.lt_ 0 rfl; omega) _ x c hI2
      rw [hW2, h1l] at kb
      have HB2 := Lib.hid F2.below
      have HW2 := Lib.hid hW2
      clear F1 F2 hI hI2 hb kp hW2
      go_wp2_with (refine wpList_store_row rfl 30 (.tmp 13) (.tmp 86) rfl w2.heap.size #[.int .i64 0, .int .i64 (q2 : Int)] rfl rfl 30 #[.int .i64 0, .int .i64 0] ?_ HSB.out rfl (fault_one _ _) ?_; (exact HN1_.out))
      (with_reducible refine kb.mono ?_)
      rw [← HW2.out]
      rintro e9 w3 ⟨x3, c3, rfl, hI3, hb⟩
      have HB3 := Lib.hid (HB2.out.trans (hb.mono HB2.out.size))
      obtain ⟨g, rfl, hg, xi, ci, xo, co, xl, cl, xe, ce, hrg, t1, t2, t3, t4⟩ := nd_at (l := [nd]) hI3 0 (by simp)
      simp only [List.getElem_cons_zero, Nat.zero_mul] at hrg t1 t2 t3 t4
      have ko : Calls Try.prog 35 #[.agg (ndC nd xi xo xl xe ci co cl ce).toArray] w3 (fun e w' => ∃ x c, e = .returned (.slice x LL.length c) ∧ IsD (w3.heap.size ≤ ·) w' (.slice x LL.length c) (.sl LL.length (TxD LL)) ∧ Below w3.heap.size w3 w') :=
        GL.out w3 _ xi xo xl xe ci co cl ce ⟨t1, t2, t3, t4⟩
      have hc3 : 1 ≤ c3 := by obtain ⟨x', c', h1, h2, h3⟩ := IsD.slice hI3; injection h1 with _ _ h; subst h; exact h2
      have HRG3 := Lib.hid hrg
      have HI3 := Lib.hid hI3
      clear hb hI3 kb hrg t1 t2 t3 t4 hg c0
      go_wp2_with (refine wpList_load_mid rfl 49 (.tmp 93) rfl g 0 rfl (ndC nd xi xo xl xe ci co cl ce) _ ?_ Try.underlying49 rfl HSN.out ?_; (exact HRG3.out))
      (with_reducible refine ko.mono ?_)
      rintro e9 W4 ⟨x4, c4, rfl, hI4, hb⟩
      have HB4 := Lib.hid (HB3.out.trans (hb.mono HB3.out.size))
      have hl0 : 0 < LL.length := by have := G1.out; have := HA.out; omega
      obtain ⟨g4, rfl, hg4, hr4⟩ := tx_at hI4 0 hl0
      have hcs : ∀ i, i < LL.length → W4.cell? ⟨g4, i, none⟩ = some (.string (nmV (A + i))) := fun i hi => by
        obtain ⟨g', h1, _, h2⟩ := tx_at hI4 i hi
        injection h1 with h1
        injection h1 with h1 _ _
        subst h1
        rw [h2, G2.out i hi]
      have hc4 : LL.length ≤ c4 := by obtain ⟨x', c', h1, h2, h3⟩ := IsD.slice hI4; injection h1 with _ _ h; subst h; exact h2
      have HCS := Lib.hid hcs
      have HG4 := Lib.hid hg4
      have HI4 := Lib.hid (IsD.below hb HI3.out)
      have kc := iniCheck_any [nd] (one_at9r F23.out) W4 _ (some ⟨g, 0, none⟩) c3 HI4.out
      unfold GivesO at kc
      rw [F4_.out, h1l] at kc
      have kc : Calls Try.prog 32 #[.slice (some ⟨g, 0, none⟩) 1 c3] W4 (fun e w' => e = .returned (.agg #[.int .i64 0, .int .i64 0]) ∧ Below W4.heap.size W4 w') := kc
      clear hb hI4 ko hr4 hg4 hcs
      go_wp2_with fail
      (with_reducible refine kc.mono ?_)
      rintro e9 W5 ⟨rfl, hb⟩
      have HB5 := Lib.hid (HB4.out.trans (hb.mono HB4.out.size))
      have b2 := fun W => neq_f9 W
      have b4 : ((LL.length : Int) != (k : Int) - (A : Int)) = false := by
        have := G1.out
        have := HA.out
        simp
        omega
      have b5 : ((LL.length : Int) != wrap64 ((k : Int) - (A : Int))) = false := by
        have := G1.out
        have := HA.out
        have := HN2.out
        have e : wrap64 ((k : Int) - (A : Int)) = (k : Int) - (A : Int) := by unfold wrap64; omega
        rw [e]
        simp
        omega
      have HBX := Lib.hid hb
      clear kc hb
      go_wp2_with fail
      go_loopw [16] (fun v16 wr => ∃ i : Nat, v16 = .int .i64 (i : Int) ∧ i ≤ LL.length ∧ Below w.heap.size w wr ∧ Below W4.heap.size W4 wr)
        (fun v16 _ => LL.length - (intOf v16).toNat)
      case atStart => exact ⟨0, rfl, Nat.zero_le _, HB5.out, HBX.out⟩
      case round =>
        obtain ⟨i, rfl, hi, hbw, hb⟩ := hrel
        have HBW := Lib.hid hbw
        have HBI := Lib.hid hb
        have HI := Lib.hid hi
        by_cases hlt : i < LL.length
        · have e2 : decide ((i : Int) < (LL.length : Int)) = true := by simp; omega
          have hc : wr.cell? ⟨g4, i, none⟩ = some (.string (nmV (A + i))) := (hb.cell (p := ⟨g4, i, none⟩) HG4.out).trans (HCS.out i hlt)
          have hg4 : g4 < wr.heap.size := Nat.lt_of_lt_of_le HG4.out hb.size
          have HLT := Lib.hid hlt
          have k0 := let9s A i (by have := HLT.out; have := G1.out; have := HN2.out; have := HA.out; omega)
          have k3 : (convert 76 9 (.slice (some ⟨wr.heap.size, 0, none⟩) 1 1)).run Try.prog (wr.alloc (.cells #[.int .u8 (IntKind.u8.wrap (IntKind.i64.wrap (IntKind.i64.wrap (97 + (A : Int)) + (i : Int))))] 5)).drew = .ok (.string ⟨[lt9 (A + i)].toArray⟩) (wr.alloc (.cells #[.int .u8 (IntKind.u8.wrap (IntKind.i64.wrap (IntKind.i64.wrap (97 + (A : Int)) + (i : Int))))] 5)).drew := str_one wr.drew wr.heap.size rfl (lt9 (A + i)) _ k0
          have k4 := str_one wr wr.heap.size rfl (lt9 (A + i)) _ k0
          have k5 : (convert 76 9 (.slice (some ⟨wr.heap.size, 0, none⟩) 1 1)).run Try.prog (wr.alloc (.cells #[.int .u8 (wrap64 (wrap64 (97 + (A : Int)) + (i : Int)) % 256)] 5)).drew = .ok (.string ⟨[lt9 (A + i)].toArray⟩) (wr.alloc (.cells #[.int .u8 (wrap64 (wrap64 (97 + (A : Int)) + (i : Int)) % 256)] 5)).drew := str_one wr.drew wr.heap.size rfl (lt9 (A + i)) _ (let9t A i (by have := HLT.out; have := G1.out; have := HN2.out; have := HA.out; omega))
          have k6 := str_one wr wr.heap.size rfl (lt9 (A + i)) _ (let9t A i (by have := HLT.out; have := G1.out; have := HN2.out; have := HA.out; omega))
          have k7 := str_one wr.drew wr.heap.size rfl (lt9 (A + i)) _ (let9t A i (by have := HLT.out; have := G1.out; have := HN2.out; have := HA.out; omega))
          have b6 : ((nmV (A + i)).toList == ((⟨#[118]⟩ : ByteArray) ++ (⟨#[lt9 (A + i)]⟩ : ByteArray)).toList) = true := by
            rw [show (⟨#[118]⟩ : ByteArray) ++ (⟨#[lt9 (A + i)]⟩ : ByteArray) = nmV (A + i) from v_nm (A + i)]
            simp
          have b7 : (0 : Int) ≤ (i : Int) := by omega
          have b8 : i < c4 := Nat.lt_of_lt_of_le hlt hc4
          clear hb hbw hi k0
          go_wp2_with fail
          have hc2 : ∀ x, ((wr.alloc (.cells #[.int .u8 x] 5)).drew).cell? ⟨g4, i, none⟩ = some (.string (nmV (A + i))) := fun x => (((Below.refl wr.heap.size wr).alloc (Nat.le_refl _) _).drew.cell (p := ⟨g4, i, none⟩) hg4).trans hc
          have hc3 : ∀ x, ((wr.drew.alloc (.cells #[.int .u8 x] 5))).cell? ⟨g4, i, none⟩ = some (.string (nmV (A + i))) := fun x => (((Below.refl wr.heap.size wr).drew.alloc (Nat.le_refl _) _).cell (p := ⟨g4, i, none⟩) hg4).trans hc
          have hc4 : wr.drew.cell? ⟨g4, i, none⟩ = some (.string (nmV (A + i))) := hc
          go_region
          all_goals go_wp2_with fail
          have hw2 : Below wr.heap.size wr (wr.alloc (.cells #[.int .u8 (wrap64 (wrap64 (97 + (A : Int)) + (i : Int)) % 256)] 5)).drew := ((Below.refl wr.heap.size wr).alloc (Nat.le_refl _) _).drew
          refine ⟨⟨i + 1, wrap_succ (by have := HLT.out; have := HN2.out; have := G1.out; omega), HLT.out, HBW.out.trans (hw2.mono HBW.out.size), HBI.out.trans (hw2.mono HBI.out.size)⟩, ?_⟩
          rw [wrap_succ (by have := HLT.out; have := HN2.out; have := G1.out; omega)]
          have := HLT.out
          simp [intOf]; omega
        · have e2 : decide ((i : Int) < (LL.length : Int)) = false := by simp; omega
          clear hb hbw hi
          go_wp2_with fail
          go_ret
          exact ⟨rfl, HBW.out⟩

set_option maxRecDepth 100000 in
theorem lifted (os : Os) (started : os.Started) (H : Type) (enc : TypeId × Value → H) :
    ReturnsInHanded {} Try.checked os 7 .any (Rows.iniRowsSpec.pre6 enc Try.prog Try.f7 Rows.iniRowsRow.domain false) (Rows.iniRowsSpec.post enc Try.prog Try.f7 false true false false) := by
  refine returnsInHanded_of_change (C := Try.checked) own started (by kernel_rfl) Try.func7
    (ChangeSpec.witness6 (enc := enc) (C := Try.checked) false ⟨#[], #[.int .i64 0, .int .i64 0, .bool false], []⟩ 8 (by kernel_rfl) (by kernel_rfl) (by kernel_rfl) (by kernel_rfl)) ?_
  intro W base args ds gs before hval0 hW hcnd _
  have hval : ∀ (j : Nat) t v, Try.f7.params[j]? = some t → args[j]? = some v → Value.okWide Try.prog W .any base t v := hval0
  have hW' := hW
  obtain ⟨p, q, hA0, hV, rfl, hfz, hnd⟩ := hW
  have hA : DataW.TrodAll enc Try.prog W 0 (fun _ => true) true Try.f7.params.toList args.toList ds p := hA0
  rw [Try.params7] at hA hval
  obtain ⟨v0, vs0, d0, ds0, p0, q0, hargs, rfl, rfl, h0, r0⟩ := trodAll_cons hA
  obtain ⟨v1, vs1, d1, ds1, p1, q1, rfl, rfl, rfl, h1, r1⟩ := trodAll_cons r0
  obtain ⟨v2, vs2, d2, ds2, p2, q2, rfl, rfl, rfl, h2, r2⟩ := trodAll_cons r1
  obtain ⟨rfl, rfl, rfl⟩ := trodAll_nil r2
  obtain rfl : args = #[v0, v1, v2] := by cases args; simp_all
  obtain ⟨rfl, rfl⟩ := trodVars_none hV
  obtain ⟨n, rfl, rfl, rfl, w_n⟩ := open_int Try.underlying3 (hval 0 3 v0 rfl rfl) h0
  obtain ⟨a, rfl, rfl, rfl, w_a⟩ := open_int Try.underlying3 (hval 1 3 v1 rfl rfl) h1
  obtain ⟨back, rfl, rfl, rfl⟩ := open_bool Try.underlying4 (hval 2 4 v2 rfl rfl) h2
  clear hA0 hval0
  refine (walk n a back W w_n w_a).mono fun e W' ⟨he, bel⟩ => ?_
  subst he
  exact ⟨_, rfl, _, _, _, [], _, [], hW', trodAll_mk1 (shut_bool Try.underlying4 _), (trodAll_cons_mk (shut_int Try.underlying3 w_n) (trodAll_cons_mk (shut_int Try.underlying3 w_a) (trodAll_cons_mk (shut_bool Try.underlying4 back) trodAll_mk0))), rfl, bel.frame _, fun h => by cases h⟩

theorem over : Rows.iniRowsRow.holds Try.pinned (OpenSpec.ofChange Rows.iniRowsSpec) :=
  OpenClaim.holds_of_wide 7 Try.f7 rfl rfl rfl rfl rfl rfl rfl ⟨rfl, rfl, rfl, rfl, rfl⟩ rfl rfl rfl rfl rfl (by kernel_rfl) Try.func7 (by kernel_rfl)
    (of_decide_eq_true (by kernel_rfl)) (by unfold Func.isWrapper; first | (rw [if_pos (by decide +kernel)]; kernel_rfl) | (rw [if_neg (by decide +kernel)]; exact ⟨rfl, rfl⟩))
    (fun os started H enc _ => lifted os started H enc)

theorem proved : Rows.IniRowsSaid := over
#print axioms proved
end Go.Proofs.Ythlhogfebicooaa.iniRows
