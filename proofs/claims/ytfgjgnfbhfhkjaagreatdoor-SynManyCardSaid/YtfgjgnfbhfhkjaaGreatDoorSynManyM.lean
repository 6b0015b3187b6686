/-
  Proved: SynMany of escapementlaw5 returns true for every input, and leaves what it was handed as it was. No conditions.
-/
import Derived.Test.YtfgjgnfbhfhkjaaGreatDoorMe
import Derived.Test.YtfgjgnfbhfhkjaaGreatDoorRows
import Derived.WalkKit
import Derived.ProofKit
import Derived.OpenShut
import Derived.ShutString
import Derived.ChangeOld
import Derived.SizedLaws
import Derived.Test.YtfgjgnfbhfhkjaaGreatDoorTie
import Derived.Test.YtfgjgnfbhfhkjaaGreatDoorCards
import Derived.LaidMore
import Derived.Lay
import Derived.SevenTiedAt
import Derived.Stop.Joined
namespace Go.Proofs.YtfgjgnfbhfhkjaaGreatDoor.synMany
open Go.ChangeShapes Go.WideShapes Go.ChangeAt Go.RowKit
open Go.ChangeMaps (open_string shut_string)
set_option linter.unusedVariables false

theorem own : ownKnob Tryz.prog.godebug = none := by kernel_rfl
theorem laidOut : laidOutB Tryz.prog = true := by kernel_rfl

theorem app_list (a b : ByteArray) : (a ++ b).data.toList = a.data.toList ++ b.data.toList := by simp
theorem of_list {s : ByteArray} {l : List UInt8} (h : s.data.toList = l) : s = ⟨l.toArray⟩ := bytes_inj (by rw [h])

set_option maxHeartbeats 8000000 in
set_option maxRecDepth 100000 in
theorem walk (nodes : Int) (names : Int) (w : World) (hT : STab w) (w_nodes : (Lit.int .i64 nodes).wf = true) (w_names : (Lit.int .i64 names).wf = true) :
    Calls Tryz.prog 9 #[.int .i64 nodes, .int .i64 names] w fun e w' => e = .returned (.bool true) ∧ Below w.heap.size w w' := by
  have HT := Lib.hid hT
  have HSF := Lib.hid size_fault2
  clear hT w_nodes w_names
  go_enter Tryz.func9, Tryz.ntmps9
  go_wp2_with fail
  (with_reducible refine (awake_any w HT.out).mono ?_)
  rintro e w1 ⟨rfl, hb1⟩
  have HT1 := Lib.hid (HT.out.below hb1)
  have HB1 := Lib.hid hb1
  clear hb1 HT
  by_cases c1 : nodes < 1
  · have d1 : decide (nodes < 1) = true := by simpa using c1
    clear c1
    go_wp2_with fail
    go_ret
    exact ⟨rfl, HB1.out⟩
  have d1 : decide (nodes < 1) = false := by simpa using c1
  by_cases c2 : 40 < nodes
  · have d2 : decide ((40 : Int) < nodes) = true := by simpa using c2
    clear c1 c2
    go_wp2_with fail
    go_ret
    exact ⟨rfl, HB1.out⟩
  have d2 : decide ((40 : Int) < nodes) = false := by simpa using c2
  by_cases c3 : names < 1
  · have d3 : decide (names < 1) = true := by simpa using c3
    clear c1 c2 c3
    go_wp2_with fail
    go_ret
    exact ⟨rfl, HB1.out⟩
  have d3 : decide (names < 1) = false := by simpa using c3
  by_cases c4 : 80 < names
  · have d4 : decide ((80 : Int) < names) = true := by simpa using c4
    clear c1 c2 c3 c4
    go_wp2_with fail
    go_ret
    exact ⟨rfl, HB1.out⟩
  have d4 : decide ((80 : Int) < names) = false := by simpa using c4
  obtain ⟨N, rfl⟩ : ∃ N : Nat, nodes = (N : Int) := ⟨nodes.toNat, by omega⟩
  obtain ⟨M, rfl⟩ : ∃ M : Nat, names = (M : Int) := ⟨names.toNat, by omega⟩
  have hN1 : 1 ≤ N := by omega
  have hN2 : N ≤ 40 := by omega
  have hM1 : 1 ≤ M := by omega
  have hM2 : M ≤ 80 := by omega
  clear c1 c2 c3 c4
  go_wp2_with fail
  go_loop [5, 6] (fun s i => ∃ (k : Nat) (S : ByteArray), k ≤ N ∧ i = .int .i64 (k : Int) ∧ s = .string S ∧ S.data.toList = mnT k) (fun _ i => N - (intOf i).toNat)
  case atStart => exact ⟨0, ⟨#[]⟩, Nat.zero_le _, rfl, rfl, rfl⟩
  case round =>
    obtain ⟨k, S, hk, rfl, rfl, hS⟩ := hrel
    have HS := Lib.hid hS
    have hz : S.size ≤ 1400 := by
      have e : S.size = S.data.toList.length := by simp
      rw [e, hS]
      unfold mnT
      rw [rep_len, show mnU.length = 35 from rfl]
      omega
    clear hS
    by_cases hlt : k < N
    · have e2 : decide ((k : Int) < (N : Int)) = true := by simp; omega
      go_wp2_with fail
      go_round
      case rel => exact ⟨k + 1, _, by omega, by go_num, rfl, by rw [app_list, HS.out]; exact rep_snoc mnU k⟩
      case measure => simp [intOf]; omega
    · obtain rfl : k = N := by omega
      have e2 : decide ((k : Int) < (k : Int)) = false := by simp
      obtain rfl := of_list HS.out
      have hsz : (⟨(mnT k).toArray⟩ : ByteArray).size ≤ 140737488351232 := by
        show (mnT k).toArray.size ≤ _
        rw [List.size_toArray]
        unfold mnT
        rw [rep_len, show mnU.length = 35 from rfl]
        omega
      have hcd := mn_code k hN1 hN2
      obtain ⟨S, hSS⟩ : ∃ S : ByteArray, S = ⟨(mnT k).toArray⟩ := ⟨_, rfl⟩
      rw [← hSS] at hsz hcd ⊢
      clear HS hSS
      by_cases h32 : k ≤ 32
      all_goals first
        | (rw [if_pos h32] at hcd
           have f32 : decide ((k : Int) ≤ 32) = true := by simp; omega
           have KP := Lib.hid (parse_code S 0 hcd w1 hsz HT1.out)
           clear h32 hcd hsz)
        | (rw [if_neg h32] at hcd
           have f32 : decide ((k : Int) ≤ 32) = false := by simp; omega
           have KP := Lib.hid (parse_code S 2 hcd w1 hsz HT1.out)
           clear h32 hcd hsz)
      all_goals
        go_wp2_with fail
        (with_reducible refine KP.out.mono ?_)
        rintro e w2 ⟨v, ea, rfl, hb⟩
        have HB2 := Lib.hid (HB1.out.trans (hb.mono HB1.out.size))
        have HT2 := Lib.hid (HT1.out.below hb)
        clear hb KP HB1 HT1
        have HNw3 := Lib.hid (heap_alloc_new w2 (.cells #[.int .i64 0, .int .i64 0] 26))
        have HBw3 : Hid (Below w2.heap.size w2 (w2.alloc (.cells #[.int .i64 0, .int .i64 0] 26))) := Lib.hid ((Below.refl _ _).alloc (Nat.le_refl _) _)
      · go_wp2_with (
               refine wpList_store_row rfl 26 (.tmp 8) (.tmp 40) rfl w2.heap.size #[.int .i64 0, .int .i64 ea] rfl rfl 26 _ HNw3.out HSF.out rfl (fault_one _ _) ?_
               have hset := setRow_heap _ w2.heap.size _ #[.int .i64 0, .int .i64 ea] _ _ HNw3.out
               have hbs := below_setRow HBw3.out (Nat.le_refl _) #[.int .i64 0, .int .i64 ea]
               generalize (w2.alloc (.cells #[.int .i64 0, .int .i64 0] 26)).setRow w2.heap.size #[.int .i64 0, .int .i64 ea] = w3 at hset hbs ⊢
               have HLw3 := Lib.hid hset
               have HWw3 := Lib.hid hbs
               clear hset hbs HNw3 HBw3)
        have HB3 := Lib.hid (HB2.out.trans (HWw3.out.mono HB2.out.size))
        have HT3 := Lib.hid (HT2.out.below HWw3.out)
        clear HB2 HT2 HWw3
        go_loop [9, 10] (fun s i => ∃ (j : Nat) (V : ByteArray), 1 ≤ j ∧ j ≤ M ∧ i = .int .i64 (j : Int) ∧ s = .string V ∧ V.data.toList = [121] ++ rep (j - 1) [44, 32, 121]) (fun _ i => M - (intOf i).toNat)
        case atStart => exact ⟨1, ⟨#[121]⟩, Nat.le_refl _, hM1, rfl, rfl, rfl⟩
        case round =>
          obtain ⟨j, V, hj1, hj, rfl, rfl, hV⟩ := hrel
          have HV := Lib.hid hV
          have hz : V.size ≤ 400 := by
            have e : V.size = V.data.toList.length := by simp
            rw [e, hV]
            simp only [List.length_append, rep_len, List.length_cons, List.length_nil]
            omega
          clear hV
          by_cases hlt : j < M
          · have e3 : decide ((j : Int) < (M : Int)) = true := by simp; omega
            go_wp2_with fail
            go_round
            case rel =>
              refine ⟨j + 1, _, by omega, by omega, by go_num, rfl, ?_⟩
              rw [app_list, HV.out, List.append_assoc, show j + 1 - 1 = (j - 1) + 1 by omega, ← rep_snoc]
            case measure => simp [intOf]; omega
          · obtain rfl : j = M := by omega
            have e3 : decide ((j : Int) < (j : Int)) = false := by simp
            have hVT : (⟨#[110, 111, 100, 101, 32, 102, 40, 41, 32, 114, 101, 116, 117, 114, 110, 115, 32, 40]⟩ ++ V ++ ⟨#[58, 32, 105, 110, 116, 41, 59, 32, 108, 101, 116, 32, 116, 101, 108]⟩ : ByteArray) = ⟨(mvT j).toArray⟩ := by
              apply of_list
              rw [app_list, app_list, HV.out]
              rfl
            have hsz : (⟨(mvT j).toArray⟩ : ByteArray).size ≤ 140737488351232 := by
              show (mvT j).toArray.size ≤ _
              rw [List.size_toArray]
              unfold mvT
              simp only [List.length_append, rep_len]
              have : mvA.length = 18 := rfl
              have : mvZ.length = 15 := rfl
              simp only [List.length_cons, List.length_nil]
              omega
            have hcd := mv_code j hM1 hM2
            rw [← hVT] at hsz hcd
            clear hVT
            by_cases h64 : j ≤ 64
            · rw [if_pos h64] at hcd
              have f64 : decide ((j : Int) ≤ 64) = true := by simp; omega
              have KQ := Lib.hid (parse_code _ 0 hcd w3 hsz HT3.out)
              clear h64 hcd hsz HV
              go_wp2_with fail
              (with_reducible refine KQ.out.mono ?_)
              rintro e w5 ⟨v2, eb, rfl, hb⟩
              have HB5 := Lib.hid (HB3.out.trans (hb.mono HB3.out.size))
              have HL5 := Lib.hid ((hb.block w2.heap.size (Array.getElem?_eq_some_iff.1 HLw3.out).1).trans HLw3.out)
              have hz5 : w2.heap.size < w5.heap.size := (Array.getElem?_eq_some_iff.1 HL5.out).1
              clear hb KQ HLw3
              have HNw6 := Lib.hid (heap_alloc_new w5 (.cells #[.int .i64 0, .int .i64 0] 26))
              have HBw6 : Hid (Below w5.heap.size w5 (w5.alloc (.cells #[.int .i64 0, .int .i64 0] 26))) := Lib.hid ((Below.refl _ _).alloc (Nat.le_refl _) _)
              go_wp2_with (
                   refine wpList_store_row rfl 26 (.tmp 12) (.tmp 54) rfl w5.heap.size #[.int .i64 0, .int .i64 eb] rfl rfl 26 _ HNw6.out HSF.out rfl (fault_one _ _) ?_
                   have hset := setRow_heap _ w5.heap.size _ #[.int .i64 0, .int .i64 eb] _ _ HNw6.out
                   have hbs := below_setRow HBw6.out (Nat.le_refl _) #[.int .i64 0, .int .i64 eb]
                   generalize (w5.alloc (.cells #[.int .i64 0, .int .i64 0] 26)).setRow w5.heap.size #[.int .i64 0, .int .i64 eb] = w6 at hset hbs ⊢
                   have HLw6 := Lib.hid hset
                   have HWw6 := Lib.hid hbs
                   have f1 := cell_of_row w6 w2.heap.size 0 _ _ _ ((hbs.block w2.heap.size hz5).trans HL5.out)
                   have f2 := cell_of_row w6 w5.heap.size 0 _ _ _ hset
                   clear hset hbs HNw6 HBw6)
              go_ret
              exact ⟨rfl, HB5.out.trans (HWw6.out.mono HB5.out.size)⟩
            · rw [if_neg h64] at hcd
              have f64 : decide ((j : Int) ≤ 64) = false := by simp; omega
              have KQ := Lib.hid (parse_code _ 2 hcd w3 hsz HT3.out)
              clear h64 hcd hsz HV
              go_wp2_with fail
              (with_reducible refine KQ.out.mono ?_)
              rintro e w5 ⟨v2, eb, rfl, hb⟩
              have HB5 := Lib.hid (HB3.out.trans (hb.mono HB3.out.size))
              have HL5 := Lib.hid ((hb.block w2.heap.size (Array.getElem?_eq_some_iff.1 HLw3.out).1).trans HLw3.out)
              have hz5 : w2.heap.size < w5.heap.size := (Array.getElem?_eq_some_iff.1 HL5.out).1
              clear hb KQ HLw3
              have HNw6 := Lib.hid (heap_alloc_new w5 (.cells #[.int .i64 0, .int .i64 0] 26))
              have HBw6 : Hid (Below w5.heap.size w5 (w5.alloc (.cells #[.int .i64 0, .int .i64 0] 26))) := Lib.hid ((Below.refl _ _).alloc (Nat.le_refl _) _)
              go_wp2_with (
                   refine wpList_store_row rfl 26 (.tmp 12) (.tmp 54) rfl w5.heap.size #[.int .i64 2, .int .i64 eb] rfl rfl 26 _ HNw6.out HSF.out rfl (fault_one _ _) ?_
                   have hset := setRow_heap _ w5.heap.size _ #[.int .i64 2, .int .i64 eb] _ _ HNw6.out
                   have hbs := below_setRow HBw6.out (Nat.le_refl _) #[.int .i64 2, .int .i64 eb]
                   generalize (w5.alloc (.cells #[.int .i64 0, .int .i64 0] 26)).setRow w5.heap.size #[.int .i64 2, .int .i64 eb] = w6 at hset hbs ⊢
                   have HLw6 := Lib.hid hset
                   have HWw6 := Lib.hid hbs
                   have f1 := cell_of_row w6 w2.heap.size 0 _ _ _ ((hbs.block w2.heap.size hz5).trans HL5.out)
                   have f2 := cell_of_row w6 w5.heap.size 0 _ _ _ hset
                   clear hset hbs HNw6 HBw6)
              go_ret
              exact ⟨rfl, HB5.out.trans (HWw6.out.mono HB5.out.size)⟩
      · go_wp2_with (
               refine wpList_store_row rfl 26 (.tmp 8) (.tmp 40) rfl w2.heap.size #[.int .i64 2, .int .i64 ea] rfl rfl 26 _ HNw3.out HSF.out rfl (fault_one _ _) ?_
               have hset := setRow_heap _ w2.heap.size _ #[.int .i64 2, .int .i64 ea] _ _ HNw3.out
               have hbs := below_setRow HBw3.out (Nat.le_refl _) #[.int .i64 2, .int .i64 ea]
               generalize (w2.alloc (.cells #[.int .i64 0, .int .i64 0] 26)).setRow w2.heap.size #[.int .i64 2, .int .i64 ea] = w3 at hset hbs ⊢
               have HLw3 := Lib.hid hset
               have HWw3 := Lib.hid hbs
               clear hset hbs HNw3 HBw3)
        have HB3 := Lib.hid (HB2.out.trans (HWw3.out.mono HB2.out.size))
        have HT3 := Lib.hid (HT2.out.below HWw3.out)
        clear HB2 HT2 HWw3
        go_loop [9, 10] (fun s i => ∃ (j : Nat) (V : ByteArray), 1 ≤ j ∧ j ≤ M ∧ i = .int .i64 (j : Int) ∧ s = .string V ∧ V.data.toList = [121] ++ rep (j - 1) [44, 32, 121]) (fun _ i => M - (intOf i).toNat)
        case atStart => exact ⟨1, ⟨#[121]⟩, Nat.le_refl _, hM1, rfl, rfl, rfl⟩
        case round =>
          obtain ⟨j, V, hj1, hj, rfl, rfl, hV⟩ := hrel
          have HV := Lib.hid hV
          have hz : V.size ≤ 400 := by
            have e : V.size = V.data.toList.length := by simp
            rw [e, hV]
            simp only [List.length_append, rep_len, List.length_cons, List.length_nil]
            omega
          clear hV
          by_cases hlt : j < M
          · have e3 : decide ((j : Int) < (M : Int)) = true := by simp; omega
            go_wp2_with fail
            go_round
            case rel =>
              refine ⟨j + 1, _, by omega, by omega, by go_num, rfl, ?_⟩
              rw [app_list, HV.out, List.append_assoc, show j + 1 - 1 = (j - 1) + 1 by omega, ← rep_snoc]
            case measure => simp [intOf]; omega
          · obtain rfl : j = M := by omega
            have e3 : decide ((j : Int) < (j : Int)) = false := by simp
            have hVT : (⟨#[110, 111, 100, 101, 32, 102, 40, 41, 32, 114, 101, 116, 117, 114, 110, 115, 32, 40]⟩ ++ V ++ ⟨#[58, 32, 105, 110, 116, 41, 59, 32, 108, 101, 116, 32, 116, 101, 108]⟩ : ByteArray) = ⟨(mvT j).toArray⟩ := by
              apply of_list
              rw [app_list, app_list, HV.out]
              rfl
            have hsz : (⟨(mvT j).toArray⟩ : ByteArray).size ≤ 140737488351232 := by
              show (mvT j).toArray.size ≤ _
              rw [List.size_toArray]
              unfold mvT
              simp only [List.length_append, rep_len]
              have : mvA.length = 18 := rfl
              have : mvZ.length = 15 := rfl
              simp only [List.length_cons, List.length_nil]
              omega
            have hcd := mv_code j hM1 hM2
            rw [← hVT] at hsz hcd
            clear hVT
            by_cases h64 : j ≤ 64
            · rw [if_pos h64] at hcd
              have f64 : decide ((j : Int) ≤ 64) = true := by simp; omega
              have KQ := Lib.hid (parse_code _ 0 hcd w3 hsz HT3.out)
              clear h64 hcd hsz HV
              go_wp2_with fail
              (with_reducible refine KQ.out.mono ?_)
              rintro e w5 ⟨v2, eb, rfl, hb⟩
              have HB5 := Lib.hid (HB3.out.trans (hb.mono HB3.out.size))
              have HL5 := Lib.hid ((hb.block w2.heap.size (Array.getElem?_eq_some_iff.1 HLw3.out).1).trans HLw3.out)
              have hz5 : w2.heap.size < w5.heap.size := (Array.getElem?_eq_some_iff.1 HL5.out).1
              clear hb KQ HLw3
              have HNw6 := Lib.hid (heap_alloc_new w5 (.cells #[.int .i64 0, .int .i64 0] 26))
              have HBw6 : Hid (Below w5.heap.size w5 (w5.alloc (.cells #[.int .i64 0, .int .i64 0] 26))) := Lib.hid ((Below.refl _ _).alloc (Nat.le_refl _) _)
              go_wp2_with (
                   refine wpList_store_row rfl 26 (.tmp 12) (.tmp 54) rfl w5.heap.size #[.int .i64 0, .int .i64 eb] rfl rfl 26 _ HNw6.out HSF.out rfl (fault_one _ _) ?_
                   have hset := setRow_heap _ w5.heap.size _ #[.int .i64 0, .int .i64 eb] _ _ HNw6.out
                   have hbs := below_setRow HBw6.out (Nat.le_refl _) #[.int .i64 0, .int .i64 eb]
                   generalize (w5.alloc (.cells #[.int .i64 0, .int .i64 0] 26)).setRow w5.heap.size #[.int .i64 0, .int .i64 eb] = w6 at hset hbs ⊢
                   have HLw6 := Lib.hid hset
                   have HWw6 := Lib.hid hbs
                   have f1 := cell_of_row w6 w2.heap.size 0 _ _ _ ((hbs.block w2.heap.size hz5).trans HL5.out)
                   have f2 := cell_of_row w6 w5.heap.size 0 _ _ _ hset
                   clear hset hbs HNw6 HBw6)
              go_ret
              exact ⟨rfl, HB5.out.trans (HWw6.out.mono HB5.out.size)⟩
            · rw [if_neg h64] at hcd
              have f64 : decide ((j : Int) ≤ 64) = false := by simp; omega
              have KQ := Lib.hid (parse_code _ 2 hcd w3 hsz HT3.out)
              clear h64 hcd hsz HV
              go_wp2_with fail
              (with_reducible refine KQ.out.mono ?_)
              rintro e w5 ⟨v2, eb, rfl, hb⟩
              have HB5 := Lib.hid (HB3.out.trans (hb.mono HB3.out.size))
              have HL5 := Lib.hid ((hb.block w2.heap.size (Array.getElem?_eq_some_iff.1 HLw3.out).1).trans HLw3.out)
              have hz5 : w2.heap.size < w5.heap.size := (Array.getElem?_eq_some_iff.1 HL5.out).1
              clear hb KQ HLw3
              have HNw6 := Lib.hid (heap_alloc_new w5 (.cells #[.int .i64 0, .int .i64 0] 26))
              have HBw6 : Hid (Below w5.heap.size w5 (w5.alloc (.cells #[.int .i64 0, .int .i64 0] 26))) := Lib.hid ((Below.refl _ _).alloc (Nat.le_refl _) _)
              go_wp2_with (
                   refine wpList_store_row rfl 26 (.tmp 12) (.tmp 54) rfl w5.heap.size #[.int .i64 2, .int .i64 eb] rfl rfl 26 _ HNw6.out HSF.out rfl (fault_one _ _) ?_
                   have hset := setRow_heap _ w5.heap.size _ #[.int .i64 2, .int .i64 eb] _ _ HNw6.out
                   have hbs := below_setRow HBw6.out (Nat.le_refl _) #[.int .i64 2, .int .i64 eb]
                   generalize (w5.alloc (.cells #[.int .i64 0, .int .i64 0] 26)).setRow w5.heap.size #[.int .i64 2, .int .i64 eb] = w6 at hset hbs ⊢
                   have HLw6 := Lib.hid hset
                   have HWw6 := Lib.hid hbs
                   have f1 := cell_of_row w6 w2.heap.size 0 _ _ _ ((hbs.block w2.heap.size hz5).trans HL5.out)
                   have f2 := cell_of_row w6 w5.heap.size 0 _ _ _ hset
                   clear hset hbs HNw6 HBw6)
              go_ret
              exact ⟨rfl, HB5.out.trans (HWw6.out.mono HB5.out.size)⟩

set_option maxRecDepth 100000 in
theorem lifted (os : Os) (started : os.Started) (H : Type) (enc : TypeId × Value → H) :
    ReturnsInHanded {} Tryz.checked os 9 .any (fun w args => (Rows.synManySpec.pre enc Tryz.prog Tryz.f9 Rows.synManyRow.domain false w args ∧ laidMetH Tryz.prog LAID w) ∧ sizedMet enc Tryz.prog Tryz.f9 (OpenSpec.ofChange Rows.synManySpec) false w args) (Rows.synManySpec.post enc Tryz.prog Tryz.f9 false true false false) := by
  refine returnsInHanded_of_change_and (C := Tryz.checked) (X := fun w _ => laidMetH Tryz.prog LAID w) (fun _ _ _ hh h => h.of_heap hh) own started (by kernel_rfl) Tryz.func9
    (ChangeSpec.witness_shaped (enc := enc) (C := Tryz.checked) (os := os) (X := fun w _ => laidMetH Tryz.prog LAID w) false (World.laidAll Tryz.prog os LAID) #[.int .i64 0, .int .i64 0] 8 (World.laidAll_os _ _ _)
      (World.shaped_of_ZipB (by kernel_rfl) (by kernel_rfl)) (by kernel_rfl) (by kernel_rfl) (by kernel_rfl)
      (by rw [MakeChecks.laidMetH_plain _ _ _ (by kernel_rfl)]; exact laidMet_laidAll _ (by kernel_rfl) (by kernel_rfl))) ?_
  intro W base args ds gs before hval0 hW hcnd hsz0 hL _
  have hT : STab W := tab_of (by rw [MakeChecks.laidMetH_plain _ _ _ (by kernel_rfl)] at hL; exact hL)
  have hval : ∀ (j : Nat) t v, Tryz.f9.params[j]? = some t → args[j]? = some v → Value.okWide Tryz.prog W .any base t v := hval0
  have hW' := hW
  obtain ⟨p, q, hA0, hV, rfl, hfz, hnd⟩ := hW
  have hA : DataW.TrodAll enc Tryz.prog W 0 (fun _ => true) true Tryz.f9.params.toList args.toList ds p := hA0
  rw [Tryz.params9] at hA hval
  obtain ⟨v0, vs0, d0, ds0, p0, q0, hargs, rfl, rfl, h0, r0⟩ := trodAll_cons hA
  obtain ⟨v1, vs1, d1, ds1, p1, q1, rfl, rfl, rfl, h1, r1⟩ := trodAll_cons r0
  obtain ⟨rfl, rfl, rfl⟩ := trodAll_nil r1
  obtain rfl : args = #[v0, v1] := by cases args; simp_all
  obtain ⟨rfl, rfl⟩ := trodVars_none hV
  obtain ⟨nodes, rfl, rfl, rfl, w_nodes⟩ := open_int Tryz.underlying3 (hval 0 3 v0 rfl rfl) h0
  obtain ⟨names, rfl, rfl, rfl, w_names⟩ := open_int Tryz.underlying3 (hval 1 3 v1 rfl rfl) h1
  clear hA0 hval0
  refine (walk nodes names W hT w_nodes w_names).mono fun e W' ⟨he, bel⟩ => ?_
  subst he
  exact ⟨_, rfl, _, _, _, [], _, [], hW', trodAll_mk1 (shut_bool Tryz.underlying4 _), (trodAll_cons_mk (shut_int Tryz.underlying3 w_nodes) (trodAll_cons_mk (shut_int Tryz.underlying3 w_names) trodAll_mk0)), rfl, bel.frame _, fun h => by cases h⟩

theorem over : Rows.synManyRow.holds Tryz.pinned (OpenSpec.ofChange Rows.synManySpec) :=
  OpenClaim.holds_of_wide 9 Tryz.f9 rfl rfl rfl rfl rfl rfl rfl ⟨rfl, rfl, rfl, rfl, rfl⟩ rfl rfl rfl rfl rfl (by kernel_rfl) Tryz.func9 (by kernel_rfl)
    (of_decide_eq_true (by kernel_rfl)) (by unfold Func.isWrapper; first | (rw [if_pos (by decide +kernel)]; kernel_rfl) | (rw [if_neg (by decide +kernel)]; exact ⟨rfl, rfl⟩))
    (fun os started H enc _ => lifted os started H enc)

set_option maxRecDepth 100000 in
theorem proved : Rows.SynManyCardSaid :=
  Claim7.holds_tied_plain_at .later [] [.data, .data, .data, .sentinel, .sentinel] true Rows.synManyCard.stood.harness true over (fun _ h => by cases h) (by kernel_rfl) (fun _ h => by cases h) synMany_row_tie rfl ⟨rfl, rfl⟩ (by kernel_rfl) rfl
    (fun f fn hf hfn => by
      obtain rfl : f = 9 := Option.some.inj ((show Tryz.prog.funcNamed "escapement/escapementlaw5.SynMany" = some 9 by kernel_rfl).symm.trans hf) |>.symm
      obtain rfl : fn = Tryz.f9 := (Option.some.inj (Tryz.func9.symm.trans hfn)).symm
      exact ⟨by kernel_rfl, fun j t ht => by
        rw [Tryz.params9] at ht
        have hm : t ∈ ([3, 3] : List TypeId) := by simpa using Array.mem_of_getElem? ht
        have hall : (([3, 3] : List TypeId).all fun u => !Tryz.prog.wantsStandIn u) = true := by kernel_rfl
        exact (show Tryz.prog.wantsStandIn t = false by simpa using List.all_eq_true.1 hall t hm)⟩)
    (by kernel_rfl)
#print axioms proved
end Go.Proofs.YtfgjgnfbhfhkjaaGreatDoor.synMany
