/-
  Proved: SynNests of escapementlaw5 returns true for every input, and leaves what it was handed as it was. No conditions.
-/
import Derived.Test.YtfgjgnfbhfhkjaaGreatDoorMSynNests
import Derived.Test.YtfgjgnfbhfhkjaaGreatDoorRows
import Derived.WalkKit
import Derived.ProofKit
import Derived.OpenShut
import Derived.ShutString
import Derived.ChangeOld
import Derived.SizedLaws
import Derived.Test.YtfgjgnfbhfhkjaaGreatDoorTie
import Derived.Test.YtfgjgnfbhfhkjaaGreatDoorCards
import Derived.LaidMore
import Derived.Lay
import Derived.SevenTiedAt
import Derived.Stop.Joined
namespace Go.Proofs.YtfgjgnfbhfhkjaaGreatDoor.synNests
open Go.ChangeShapes Go.WideShapes Go.ChangeAt Go.RowKit
open Go.ChangeMaps (open_string shut_string)
set_option linter.unusedVariables false

theorem own : ownKnob Tryz.prog.godebug = none := by kernel_rfl
theorem laidOut : laidOutB Tryz.prog = true := by kernel_rfl

theorem app_list (a b : ByteArray) : (a ++ b).data.toList = a.data.toList ++ b.data.toList := by simp
theorem of_list {s : ByteArray} {l : List UInt8} (h : s.data.toList = l) : s = ⟨l.toArray⟩ := bytes_inj (by rw [h])
theorem br_len (n : Nat) (hn : n ≤ 320) : (brT n).length ≤ 4000 := by
  have e0 := rep_le [40] n hn (by decide)
  have e1 := rep_le [41] n hn (by decide)
  unfold brT
  simp only [List.length_append, List.length_cons]
  have : nsZ.length = 5 := rfl
  omega
theorem pre_len (n : Nat) (hn : n ≤ 320) : (preT n).length ≤ 4000 := by
  have e0 := rep_le [112, 114, 101, 32] n hn (by decide)
  unfold preT
  simp only [List.length_append, List.length_cons]
  have : nsZ.length = 5 := rfl
  omega
theorem arr_len (n : Nat) (hn : n ≤ 320) : (arrT n).length ≤ 4000 := by
  have e0 := rep_le [97, 32, 45, 62, 32] n hn (by decide)
  unfold arrT
  simp only [List.length_append, List.length_cons]
  have : nsZ.length = 5 := rfl
  omega
theorem plus_len (n : Nat) (hn : n ≤ 320) : (plusT n).length ≤ 4000 := by
  have e0 := rep_le [97, 32, 43, 32] n hn (by decide)
  unfold plusT
  simp only [List.length_append, List.length_cons]
  have : nsZ.length = 5 := rfl
  omega

set_option maxHeartbeats 8000000 in
set_option maxRecDepth 100000 in
theorem walk (n : Int) (how : Int) (w : World) (hT : STab w) (w_n : (Lit.int .i64 n).wf = true) (w_how : (Lit.int .i64 how).wf = true) :
    Calls Tryz.prog 7 #[.int .i64 n, .int .i64 how] w fun e w' => e = .returned (.bool true) ∧ Below w.heap.size w w' := by
  have HT := Lib.hid hT
  have HSF := Lib.hid size_fault2
  clear hT w_n w_how
  go_enter Tryz.func7, Tryz.ntmps7
  go_wp2_with fail
  (with_reducible refine (awake_any w HT.out).mono ?_)
  rintro e w1 ⟨rfl, hb1⟩
  have HT1 := Lib.hid (HT.out.below hb1)
  have HB1 := Lib.hid hb1
  clear hb1 HT
  by_cases c1 : n < 0
  · have d1 : decide (n < 0) = true := by simpa using c1
    clear c1
    go_wp2_with fail
    go_ret
    exact ⟨rfl, HB1.out⟩
  have d1 : decide (n < 0) = false := by simpa using c1
  by_cases c2 : 320 < n
  · have d2 : decide ((320 : Int) < n) = true := by simpa using c2
    clear c1 c2
    go_wp2_with fail
    go_ret
    exact ⟨rfl, HB1.out⟩
  have d2 : decide ((320 : Int) < n) = false := by simpa using c2
  obtain ⟨N, rfl⟩ : ∃ N : Nat, n = (N : Int) := ⟨n.toNat, by omega⟩
  have hN : N ≤ 320 := by omega
  clear c1 c2
  by_cases c3 : (bits .and .i64 how 3 == 3) = true
  · go_wp2_with fail
    go_loop [5, 7] (fun s i => ∃ (k : Nat) (S : ByteArray), k ≤ N ∧ i = .int .i64 (k : Int) ∧ s = .string S ∧ S.data.toList = rep k [97, 32, 43, 32]) (fun _ i => N - (intOf i).toNat)
    case atStart => exact ⟨0, ⟨#[]⟩, Nat.zero_le _, rfl, rfl, rfl⟩
    case round =>
      obtain ⟨k, S, hk, rfl, rfl, hS⟩ := hrel
      have HS := Lib.hid hS
      have hz : S.size ≤ 1600 := by
        have e : S.size = S.data.toList.length := by simp
        rw [e, hS]
        exact rep_le _ k (by omega) (by decide)
      clear hS
      by_cases hlt : k < N
      · have e2 : decide ((k : Int) < (N : Int)) = true := by simp; omega
        go_wp2_with fail
        go_round
        case rel => exact ⟨k + 1, _, by omega, by go_num, rfl, by rw [app_list, HS.out]; exact rep_snoc _ k⟩
        case measure => simp [intOf]; omega
      · obtain rfl : k = N := by omega
        have e2 : decide ((k : Int) < (k : Int)) = false := by simp
        have hVT : (⟨#[110, 111, 100, 101, 32, 102, 40, 41, 32, 114, 101, 116, 117, 114, 110, 115, 32, 40, 121, 58, 32, 105, 110, 116, 41, 59, 32, 108, 101, 116, 32, 121, 32, 61, 32]⟩ ++ S ++ ⟨#[97, 59, 32, 116, 101, 108]⟩ : ByteArray) = ⟨(nsA ++ plusT k).toArray⟩ := by
          apply of_list
          simp only [app_list, HS.out]
          unfold plusT
          simp only [List.append_assoc]
          rfl
        have hsz : (⟨(nsA ++ plusT k).toArray⟩ : ByteArray).size ≤ 140737488351232 := by
          show (nsA ++ plusT k).toArray.size ≤ _
          rw [List.size_toArray]
          have := plus_len k hN
          have : nsA.length = 35 := rfl
          simp only [List.length_append]
          omega
        have hcd := plus_code k hN
        rw [← hVT] at hsz hcd
        clear hVT
        by_cases hk : 2 * k + 1 ≤ 300
        · rw [if_pos hk] at hcd
          have fpl : decide (2 * (k : Int) + 1 ≤ 300) = true := by simp; omega
          have KQ := Lib.hid (parse_code _ 0 hcd w1 hsz HT1.out)
          clear hk hcd hsz HS
          go_wp2_with fail
          (with_reducible refine KQ.out.mono ?_)
          rintro e w2 ⟨v, ea, rfl, hb⟩
          have HB2 := Lib.hid (HB1.out.trans (hb.mono HB1.out.size))
          clear hb KQ HB1 HT1
          have HNw3 := Lib.hid (heap_alloc_new w2 (.cells #[.int .i64 0, .int .i64 0] 26))
          have HBw3 : Hid (Below w2.heap.size w2 (w2.alloc (.cells #[.int .i64 0, .int .i64 0] 26))) := Lib.hid ((Below.refl _ _).alloc (Nat.le_refl _) _)
          go_wp2_with (
             refine wpList_store_row rfl 26 (.tmp 9) (.tmp 37) rfl w2.heap.size #[.int .i64 0, .int .i64 ea] rfl rfl 26 _ HNw3.out HSF.out rfl (fault_one _ _) ?_
             have hset := setRow_heap _ w2.heap.size _ #[.int .i64 0, .int .i64 ea] _ _ HNw3.out
             have hbs := below_setRow HBw3.out (Nat.le_refl _) #[.int .i64 0, .int .i64 ea]
             generalize (w2.alloc (.cells #[.int .i64 0, .int .i64 0] 26)).setRow w2.heap.size #[.int .i64 0, .int .i64 ea] = w3 at hset hbs ⊢
             have HWw3 := Lib.hid hbs
             have f2 := cell_of_row w3 w2.heap.size 0 _ _ _ hset
             clear hset hbs HNw3 HBw3)
          go_ret
          exact ⟨rfl, HB2.out.trans (HWw3.out.mono HB2.out.size)⟩
        · rw [if_neg hk] at hcd
          have fpl : decide (2 * (k : Int) + 1 ≤ 300) = false := by simp; omega
          have KQ := Lib.hid (parse_code _ 2 hcd w1 hsz HT1.out)
          clear hk hcd hsz HS
          go_wp2_with fail
          (with_reducible refine KQ.out.mono ?_)
          rintro e w2 ⟨v, ea, rfl, hb⟩
          have HB2 := Lib.hid (HB1.out.trans (hb.mono HB1.out.size))
          clear hb KQ HB1 HT1
          have HNw3 := Lib.hid (heap_alloc_new w2 (.cells #[.int .i64 0, .int .i64 0] 26))
          have HBw3 : Hid (Below w2.heap.size w2 (w2.alloc (.cells #[.int .i64 0, .int .i64 0] 26))) := Lib.hid ((Below.refl _ _).alloc (Nat.le_refl _) _)
          go_wp2_with (
             refine wpList_store_row rfl 26 (.tmp 9) (.tmp 37) rfl w2.heap.size #[.int .i64 2, .int .i64 ea] rfl rfl 26 _ HNw3.out HSF.out rfl (fault_one _ _) ?_
             have hset := setRow_heap _ w2.heap.size _ #[.int .i64 2, .int .i64 ea] _ _ HNw3.out
             have hbs := below_setRow HBw3.out (Nat.le_refl _) #[.int .i64 2, .int .i64 ea]
             generalize (w2.alloc (.cells #[.int .i64 0, .int .i64 0] 26)).setRow w2.heap.size #[.int .i64 2, .int .i64 ea] = w3 at hset hbs ⊢
             have HWw3 := Lib.hid hbs
             have f2 := cell_of_row w3 w2.heap.size 0 _ _ _ hset
             clear hset hbs HNw3 HBw3)
          go_ret
          exact ⟨rfl, HB2.out.trans (HWw3.out.mono HB2.out.size)⟩
  have h3 : (bits .and .i64 how 3 == 3) = false := by simpa using c3
  clear c3
  by_cases c0 : (bits .and .i64 how 3 == 0) = true
  · go_wp2_with fail
    go_loop [5, 6, 10] (fun s e i => ∃ (k : Nat) (S E : ByteArray), k ≤ N ∧ i = .int .i64 (k : Int) ∧ s = .string S ∧ S.data.toList = rep k [40] ∧ e = .string E ∧ E.data.toList = rep k [41]) (fun _ _ i => N - (intOf i).toNat)
    case atStart => exact ⟨0, ⟨#[]⟩, ⟨#[]⟩, Nat.zero_le _, rfl, rfl, rfl, rfl, rfl⟩
    case round =>
      obtain ⟨k, S, E, hk, rfl, rfl, hS, rfl, hE⟩ := hrel
      have HS := Lib.hid hS
      have hz : S.size ≤ 1600 := by
        have e : S.size = S.data.toList.length := by simp
        rw [e, hS]
        exact rep_le _ k (by omega) (by decide)
      have HE := Lib.hid hE
      have hzE : E.size ≤ 1600 := by
        have e : E.size = E.data.toList.length := by simp
        rw [e, hE]
        exact rep_le _ k (by omega) (by decide)
      clear hS hE
      by_cases hlt : k < N
      · have e2 : decide ((k : Int) < (N : Int)) = true := by simp; omega
        go_wp2_with fail
        go_round
        case rel => exact ⟨k + 1, _, _, by omega, by go_num, rfl, by rw [app_list, HS.out]; exact rep_snoc _ k, rfl, by rw [app_list, HE.out]; exact rep_snoc _ k⟩
        case measure => simp [intOf]; omega
      · obtain rfl : k = N := by omega
        have e2 : decide ((k : Int) < (k : Int)) = false := by simp
        have hVT : (⟨#[110, 111, 100, 101, 32, 102, 40, 41, 32, 114, 101, 116, 117, 114, 110, 115, 32, 40, 121, 58, 32, 105, 110, 116, 41, 59, 32, 108, 101, 116, 32, 121, 32, 61, 32]⟩ ++ S ++ ⟨#[97]⟩ ++ E ++ ⟨#[59, 32, 116, 101, 108]⟩ : ByteArray) = ⟨(nsA ++ brT k).toArray⟩ := by
          apply of_list
          simp only [app_list, HS.out, HE.out]
          unfold brT
          simp only [List.append_assoc]
          rfl
        have hsz : (⟨(nsA ++ brT k).toArray⟩ : ByteArray).size ≤ 140737488351232 := by
          show (nsA ++ brT k).toArray.size ≤ _
          rw [List.size_toArray]
          have := br_len k hN
          have : nsA.length = 35 := rfl
          simp only [List.length_append]
          omega
        have hcd := br_code k hN
        rw [← hVT] at hsz hcd
        clear hVT
        by_cases hk : k ≤ 29
        · rw [if_pos hk] at hcd
          have f29 : decide ((k : Int) ≤ 29) = true := by simp; omega
          have KQ := Lib.hid (parse_code _ 0 hcd w1 hsz HT1.out)
          clear hk hcd hsz HS HE
          go_wp2_with fail
          (with_reducible refine KQ.out.mono ?_)
          rintro e w2 ⟨v, ea, rfl, hb⟩
          have HB2 := Lib.hid (HB1.out.trans (hb.mono HB1.out.size))
          clear hb KQ HB1 HT1
          have HNw3 := Lib.hid (heap_alloc_new w2 (.cells #[.int .i64 0, .int .i64 0] 26))
          have HBw3 : Hid (Below w2.heap.size w2 (w2.alloc (.cells #[.int .i64 0, .int .i64 0] 26))) := Lib.hid ((Below.refl _ _).alloc (Nat.le_refl _) _)
          go_wp2_with (
             refine wpList_store_row rfl 26 (.tmp 12) (.tmp 84) rfl w2.heap.size #[.int .i64 0, .int .i64 ea] rfl rfl 26 _ HNw3.out HSF.out rfl (fault_one _ _) ?_
             have hset := setRow_heap _ w2.heap.size _ #[.int .i64 0, .int .i64 ea] _ _ HNw3.out
             have hbs := below_setRow HBw3.out (Nat.le_refl _) #[.int .i64 0, .int .i64 ea]
             generalize (w2.alloc (.cells #[.int .i64 0, .int .i64 0] 26)).setRow w2.heap.size #[.int .i64 0, .int .i64 ea] = w3 at hset hbs ⊢
             have HWw3 := Lib.hid hbs
             have f2 := cell_of_row w3 w2.heap.size 0 _ _ _ hset
             clear hset hbs HNw3 HBw3)
          go_ret
          exact ⟨rfl, HB2.out.trans (HWw3.out.mono HB2.out.size)⟩
        · rw [if_neg hk] at hcd
          have f29 : decide ((k : Int) ≤ 29) = false := by simp; omega
          have KQ := Lib.hid (parse_code _ 2 hcd w1 hsz HT1.out)
          clear hk hcd hsz HS HE
          go_wp2_with fail
          (with_reducible refine KQ.out.mono ?_)
          rintro e w2 ⟨v, ea, rfl, hb⟩
          have HB2 := Lib.hid (HB1.out.trans (hb.mono HB1.out.size))
          clear hb KQ HB1 HT1
          have HNw3 := Lib.hid (heap_alloc_new w2 (.cells #[.int .i64 0, .int .i64 0] 26))
          have HBw3 : Hid (Below w2.heap.size w2 (w2.alloc (.cells #[.int .i64 0, .int .i64 0] 26))) := Lib.hid ((Below.refl _ _).alloc (Nat.le_refl _) _)
          go_wp2_with (
             refine wpList_store_row rfl 26 (.tmp 12) (.tmp 84) rfl w2.heap.size #[.int .i64 2, .int .i64 ea] rfl rfl 26 _ HNw3.out HSF.out rfl (fault_one _ _) ?_
             have hset := setRow_heap _ w2.heap.size _ #[.int .i64 2, .int .i64 ea] _ _ HNw3.out
             have hbs := below_setRow HBw3.out (Nat.le_refl _) #[.int .i64 2, .int .i64 ea]
             generalize (w2.alloc (.cells #[.int .i64 0, .int .i64 0] 26)).setRow w2.heap.size #[.int .i64 2, .int .i64 ea] = w3 at hset hbs ⊢
             have HWw3 := Lib.hid hbs
             have f2 := cell_of_row w3 w2.heap.size 0 _ _ _ hset
             clear hset hbs HNw3 HBw3)
          go_ret
          exact ⟨rfl, HB2.out.trans (HWw3.out.mono HB2.out.size)⟩
  have h0 : (bits .and .i64 how 3 == 0) = false := by simpa using c0
  clear c0
  by_cases c4 : (bits .and .i64 how 3 == 1) = true
  · go_wp2_with fail
    go_loop [5, 6, 10] (fun s e i => ∃ (k : Nat) (S : ByteArray), k ≤ N ∧ i = .int .i64 (k : Int) ∧ s = .string S ∧ S.data.toList = rep k [112, 114, 101, 32] ∧ e = .string ⟨#[]⟩) (fun _ _ i => N - (intOf i).toNat)
    case atStart => exact ⟨0, ⟨#[]⟩, Nat.zero_le _, rfl, rfl, rfl, rfl⟩
    case round =>
      obtain ⟨k, S, hk, rfl, rfl, hS, rfl⟩ := hrel
      have HS := Lib.hid hS
      have hz : S.size ≤ 1600 := by
        have e : S.size = S.data.toList.length := by simp
        rw [e, hS]
        exact rep_le _ k (by omega) (by decide)
      clear hS
      by_cases hlt : k < N
      · have e2 : decide ((k : Int) < (N : Int)) = true := by simp; omega
        go_wp2_with fail
        go_round
        case rel => exact ⟨k + 1, _, by omega, by go_num, rfl, by rw [app_list, HS.out]; exact rep_snoc _ k, rfl⟩
        case measure => simp [intOf]; omega
      · obtain rfl : k = N := by omega
        have e2 : decide ((k : Int) < (k : Int)) = false := by simp
        have hVT : (⟨#[110, 111, 100, 101, 32, 102, 40, 41, 32, 114, 101, 116, 117, 114, 110, 115, 32, 40, 121, 58, 32, 105, 110, 116, 41, 59, 32, 108, 101, 116, 32, 121, 32, 61, 32]⟩ ++ S ++ ⟨#[97]⟩ ++ ⟨#[]⟩ ++ ⟨#[59, 32, 116, 101, 108]⟩ : ByteArray) = ⟨(nsA ++ preT k).toArray⟩ := by
          apply of_list
          simp only [app_list, HS.out]
          unfold preT
          simp only [List.append_assoc]
          rfl
        have hsz : (⟨(nsA ++ preT k).toArray⟩ : ByteArray).size ≤ 140737488351232 := by
          show (nsA ++ preT k).toArray.size ≤ _
          rw [List.size_toArray]
          have := pre_len k hN
          have : nsA.length = 35 := rfl
          simp only [List.length_append]
          omega
        have hcd := pre_code k hN
        rw [← hVT] at hsz hcd
        clear hVT
        by_cases hk : k ≤ 29
        · rw [if_pos hk] at hcd
          have f29 : decide ((k : Int) ≤ 29) = true := by simp; omega
          have KQ := Lib.hid (parse_code _ 0 hcd w1 hsz HT1.out)
          clear hk hcd hsz HS
          go_wp2_with fail
          (with_reducible refine KQ.out.mono ?_)
          rintro e w2 ⟨v, ea, rfl, hb⟩
          have HB2 := Lib.hid (HB1.out.trans (hb.mono HB1.out.size))
          clear hb KQ HB1 HT1
          have HNw3 := Lib.hid (heap_alloc_new w2 (.cells #[.int .i64 0, .int .i64 0] 26))
          have HBw3 : Hid (Below w2.heap.size w2 (w2.alloc (.cells #[.int .i64 0, .int .i64 0] 26))) := Lib.hid ((Below.refl _ _).alloc (Nat.le_refl _) _)
          go_wp2_with (
             refine wpList_store_row rfl 26 (.tmp 12) (.tmp 84) rfl w2.heap.size #[.int .i64 0, .int .i64 ea] rfl rfl 26 _ HNw3.out HSF.out rfl (fault_one _ _) ?_
             have hset := setRow_heap _ w2.heap.size _ #[.int .i64 0, .int .i64 ea] _ _ HNw3.out
             have hbs := below_setRow HBw3.out (Nat.le_refl _) #[.int .i64 0, .int .i64 ea]
             generalize (w2.alloc (.cells #[.int .i64 0, .int .i64 0] 26)).setRow w2.heap.size #[.int .i64 0, .int .i64 ea] = w3 at hset hbs ⊢
             have HWw3 := Lib.hid hbs
             have f2 := cell_of_row w3 w2.heap.size 0 _ _ _ hset
             clear hset hbs HNw3 HBw3)
          go_ret
          exact ⟨rfl, HB2.out.trans (HWw3.out.mono HB2.out.size)⟩
        · rw [if_neg hk] at hcd
          have f29 : decide ((k : Int) ≤ 29) = false := by simp; omega
          have KQ := Lib.hid (parse_code _ 2 hcd w1 hsz HT1.out)
          clear hk hcd hsz HS
          go_wp2_with fail
          (with_reducible refine KQ.out.mono ?_)
          rintro e w2 ⟨v, ea, rfl, hb⟩
          have HB2 := Lib.hid (HB1.out.trans (hb.mono HB1.out.size))
          clear hb KQ HB1 HT1
          have HNw3 := Lib.hid (heap_alloc_new w2 (.cells #[.int .i64 0, .int .i64 0] 26))
          have HBw3 : Hid (Below w2.heap.size w2 (w2.alloc (.cells #[.int .i64 0, .int .i64 0] 26))) := Lib.hid ((Below.refl _ _).alloc (Nat.le_refl _) _)
          go_wp2_with (
             refine wpList_store_row rfl 26 (.tmp 12) (.tmp 84) rfl w2.heap.size #[.int .i64 2, .int .i64 ea] rfl rfl 26 _ HNw3.out HSF.out rfl (fault_one _ _) ?_
             have hset := setRow_heap _ w2.heap.size _ #[.int .i64 2, .int .i64 ea] _ _ HNw3.out
             have hbs := below_setRow HBw3.out (Nat.le_refl _) #[.int .i64 2, .int .i64 ea]
             generalize (w2.alloc (.cells #[.int .i64 0, .int .i64 0] 26)).setRow w2.heap.size #[.int .i64 2, .int .i64 ea] = w3 at hset hbs ⊢
             have HWw3 := Lib.hid hbs
             have f2 := cell_of_row w3 w2.heap.size 0 _ _ _ hset
             clear hset hbs HNw3 HBw3)
          go_ret
          exact ⟨rfl, HB2.out.trans (HWw3.out.mono HB2.out.size)⟩
  have h4 : (bits .and .i64 how 3 == 1) = false := by simpa using c4
  clear c4
  go_wp2_with fail
  go_loop [5, 6, 10] (fun s e i => ∃ (k : Nat) (S : ByteArray), k ≤ N ∧ i = .int .i64 (k : Int) ∧ s = .string S ∧ S.data.toList = rep k [97, 32, 45, 62, 32] ∧ e = .string ⟨#[]⟩) (fun _ _ i => N - (intOf i).toNat)
  case atStart => exact ⟨0, ⟨#[]⟩, Nat.zero_le _, rfl, rfl, rfl, rfl⟩
  case round =>
    obtain ⟨k, S, hk, rfl, rfl, hS, rfl⟩ := hrel
    have HS := Lib.hid hS
    have hz : S.size ≤ 1600 := by
      have e : S.size = S.data.toList.length := by simp
      rw [e, hS]
      exact rep_le _ k (by omega) (by decide)
    clear hS
    by_cases hlt : k < N
    · have e2 : decide ((k : Int) < (N : Int)) = true := by simp; omega
      go_wp2_with fail
      go_round
      case rel => exact ⟨k + 1, _, by omega, by go_num, rfl, by rw [app_list, HS.out]; exact rep_snoc _ k, rfl⟩
      case measure => simp [intOf]; omega
    · obtain rfl : k = N := by omega
      have e2 : decide ((k : Int) < (k : Int)) = false := by simp
      have hVT : (⟨#[110, 111, 100, 101, 32, 102, 40, 41, 32, 114, 101, 116, 117, 114, 110, 115, 32, 40, 121, 58, 32, 105, 110, 116, 41, 59, 32, 108, 101, 116, 32, 121, 32, 61, 32]⟩ ++ S ++ ⟨#[97]⟩ ++ ⟨#[]⟩ ++ ⟨#[59, 32, 116, 101, 108]⟩ : ByteArray) = ⟨(nsA ++ arrT k).toArray⟩ := by
        apply of_list
        simp only [app_list, HS.out]
        unfold arrT
        simp only [List.append_assoc]
        rfl
      have hsz : (⟨(nsA ++ arrT k).toArray⟩ : ByteArray).size ≤ 140737488351232 := by
        show (nsA ++ arrT k).toArray.size ≤ _
        rw [List.size_toArray]
        have := arr_len k hN
        have : nsA.length = 35 := rfl
        simp only [List.length_append]
        omega
      have hcd := arr_code k hN
      rw [← hVT] at hsz hcd
      clear hVT
      by_cases hk : k ≤ 29
      · rw [if_pos hk] at hcd
        have f29 : decide ((k : Int) ≤ 29) = true := by simp; omega
        have KQ := Lib.hid (parse_code _ 0 hcd w1 hsz HT1.out)
        clear hk hcd hsz HS
        go_wp2_with fail
        (with_reducible refine KQ.out.mono ?_)
        rintro e w2 ⟨v, ea, rfl, hb⟩
        have HB2 := Lib.hid (HB1.out.trans (hb.mono HB1.out.size))
        clear hb KQ HB1 HT1
        have HNw3 := Lib.hid (heap_alloc_new w2 (.cells #[.int .i64 0, .int .i64 0] 26))
        have HBw3 : Hid (Below w2.heap.size w2 (w2.alloc (.cells #[.int .i64 0, .int .i64 0] 26))) := Lib.hid ((Below.refl _ _).alloc (Nat.le_refl _) _)
        go_wp2_with (
           refine wpList_store_row rfl 26 (.tmp 12) (.tmp 84) rfl w2.heap.size #[.int .i64 0, .int .i64 ea] rfl rfl 26 _ HNw3.out HSF.out rfl (fault_one _ _) ?_
           have hset := setRow_heap _ w2.heap.size _ #[.int .i64 0, .int .i64 ea] _ _ HNw3.out
           have hbs := below_setRow HBw3.out (Nat.le_refl _) #[.int .i64 0, .int .i64 ea]
           generalize (w2.alloc (.cells #[.int .i64 0, .int .i64 0] 26)).setRow w2.heap.size #[.int .i64 0, .int .i64 ea] = w3 at hset hbs ⊢
           have HWw3 := Lib.hid hbs
           have f2 := cell_of_row w3 w2.heap.size 0 _ _ _ hset
           clear hset hbs HNw3 HBw3)
        go_ret
        exact ⟨rfl, HB2.out.trans (HWw3.out.mono HB2.out.size)⟩
      · rw [if_neg hk] at hcd
        have f29 : decide ((k : Int) ≤ 29) = false := by simp; omega
        have KQ := Lib.hid (parse_code _ 2 hcd w1 hsz HT1.out)
        clear hk hcd hsz HS
        go_wp2_with fail
        (with_reducible refine KQ.out.mono ?_)
        rintro e w2 ⟨v, ea, rfl, hb⟩
        have HB2 := Lib.hid (HB1.out.trans (hb.mono HB1.out.size))
        clear hb KQ HB1 HT1
        have HNw3 := Lib.hid (heap_alloc_new w2 (.cells #[.int .i64 0, .int .i64 0] 26))
        have HBw3 : Hid (Below w2.heap.size w2 (w2.alloc (.cells #[.int .i64 0, .int .i64 0] 26))) := Lib.hid ((Below.refl _ _).alloc (Nat.le_refl _) _)
        go_wp2_with (
           refine wpList_store_row rfl 26 (.tmp 12) (.tmp 84) rfl w2.heap.size #[.int .i64 2, .int .i64 ea] rfl rfl 26 _ HNw3.out HSF.out rfl (fault_one _ _) ?_
           have hset := setRow_heap _ w2.heap.size _ #[.int .i64 2, .int .i64 ea] _ _ HNw3.out
           have hbs := below_setRow HBw3.out (Nat.le_refl _) #[.int .i64 2, .int .i64 ea]
           generalize (w2.alloc (.cells #[.int .i64 0, .int .i64 0] 26)).setRow w2.heap.size #[.int .i64 2, .int .i64 ea] = w3 at hset hbs ⊢
           have HWw3 := Lib.hid hbs
           have f2 := cell_of_row w3 w2.heap.size 0 _ _ _ hset
           clear hset hbs HNw3 HBw3)
        go_ret
        exact ⟨rfl, HB2.out.trans (HWw3.out.mono HB2.out.size)⟩

set_option maxRecDepth 100000 in
theorem lifted (os : Os) (started : os.Started) (H : Type) (enc : TypeId × Value → H) :
    ReturnsInHanded {} Tryz.checked os 7 .any (fun w args => (Rows.synNestsSpec.pre enc Tryz.prog Tryz.f7 Rows.synNestsRow.domain false w args ∧ laidMetH Tryz.prog LAID w) ∧ sizedMet enc Tryz.prog Tryz.f7 (OpenSpec.ofChange Rows.synNestsSpec) false w args) (Rows.synNestsSpec.post enc Tryz.prog Tryz.f7 false true false false) := by
  refine returnsInHanded_of_change_and (C := Tryz.checked) (X := fun w _ => laidMetH Tryz.prog LAID w) (fun _ _ _ hh h => h.of_heap hh) own started (by kernel_rfl) Tryz.func7
    (ChangeSpec.witness_shaped (enc := enc) (C := Tryz.checked) (os := os) (X := fun w _ => laidMetH Tryz.prog LAID w) false (World.laidAll Tryz.prog os LAID) #[.int .i64 0, .int .i64 0] 8 (World.laidAll_os _ _ _)
      (World.shaped_of_ZipB (by kernel_rfl) (by kernel_rfl)) (by kernel_rfl) (by kernel_rfl) (by kernel_rfl)
      (by rw [MakeChecks.laidMetH_plain _ _ _ (by kernel_rfl)]; exact laidMet_laidAll _ (by kernel_rfl) (by kernel_rfl))) ?_
  intro W base args ds gs before hval0 hW hcnd hsz0 hL _
  have hT : STab W := tab_of (by rw [MakeChecks.laidMetH_plain _ _ _ (by kernel_rfl)] at hL; exact hL)
  have hval : ∀ (j : Nat) t v, Tryz.f7.params[j]? = some t → args[j]? = some v → Value.okWide Tryz.prog W .any base t v := hval0
  have hW' := hW
  obtain ⟨p, q, hA0, hV, rfl, hfz, hnd⟩ := hW
  have hA : DataW.TrodAll enc Tryz.prog W 0 (fun _ => true) true Tryz.f7.params.toList args.toList ds p := hA0
  rw [Tryz.params7] at hA hval
  obtain ⟨v0, vs0, d0, ds0, p0, q0, hargs, rfl, rfl, h0, r0⟩ := trodAll_cons hA
  obtain ⟨v1, vs1, d1, ds1, p1, q1, rfl, rfl, rfl, h1, r1⟩ := trodAll_cons r0
  obtain ⟨rfl, rfl, rfl⟩ := trodAll_nil r1
  obtain rfl : args = #[v0, v1] := by cases args; simp_all
  obtain ⟨rfl, rfl⟩ := trodVars_none hV
  obtain ⟨n, rfl, rfl, rfl, w_n⟩ := open_int Tryz.underlying3 (hval 0 3 v0 rfl rfl) h0
  obtain ⟨how, rfl, rfl, rfl, w_how⟩ := open_int Tryz.underlying3 (hval 1 3 v1 rfl rfl) h1
  clear hA0 hval0
  refine (walk n how W hT w_n w_how).mono fun e W' ⟨he, bel⟩ => ?_
  subst he
  exact ⟨_, rfl, _, _, _, [], _, [], hW', trodAll_mk1 (shut_bool Tryz.underlying4 _), (trodAll_cons_mk (shut_int Tryz.underlying3 w_n) (trodAll_cons_mk (shut_int Tryz.underlying3 w_how) trodAll_mk0)), rfl, bel.frame _, fun h => by cases h⟩

theorem over : Rows.synNestsRow.holds Tryz.pinned (OpenSpec.ofChange Rows.synNestsSpec) :=
  OpenClaim.holds_of_wide 7 Tryz.f7 rfl rfl rfl rfl rfl rfl rfl ⟨rfl, rfl, rfl, rfl, rfl⟩ rfl rfl rfl rfl rfl (by kernel_rfl) Tryz.func7 (by kernel_rfl)
    (of_decide_eq_true (by kernel_rfl)) (by unfold Func.isWrapper; first | (rw [if_pos (by decide +kernel)]; kernel_rfl) | (rw [if_neg (by decide +kernel)]; exact ⟨rfl, rfl⟩))
    (fun os started H enc _ => lifted os started H enc)

set_option maxRecDepth 100000 in
theorem proved : Rows.SynNestsCardSaid :=
  Claim7.holds_tied_plain_at .later [] [.data, .data, .data, .sentinel, .sentinel] true Rows.synNestsCard.stood.harness true over (fun _ h => by cases h) (by kernel_rfl) (fun _ h => by cases h) synNests_row_tie rfl ⟨rfl, rfl⟩ (by kernel_rfl) rfl
    (fun f fn hf hfn => by
      obtain rfl : f = 7 := Option.some.inj ((show Tryz.prog.funcNamed "escapement/escapementlaw5.SynNests" = some 7 by kernel_rfl).symm.trans hf) |>.symm
      obtain rfl : fn = Tryz.f7 := (Option.some.inj (Tryz.func7.symm.trans hfn)).symm
      exact ⟨by kernel_rfl, fun j t ht => by
        rw [Tryz.params7] at ht
        have hm : t ∈ ([3, 3] : List TypeId) := by simpa using Array.mem_of_getElem? ht
        have hall : (([3, 3] : List TypeId).all fun u => !Tryz.prog.wantsStandIn u) = true := by kernel_rfl
        exact (show Tryz.prog.wantsStandIn t = false by simpa using List.all_eq_true.1 hall t hm)⟩)
    (by kernel_rfl)
#print axioms proved
end Go.Proofs.YtfgjgnfbhfhkjaaGreatDoor.synNests
