/-
  Proved: SynSame of escapementlaw5 returns true for every input, and leaves what it was handed as it was. No conditions.
-/
import Derived.Test.YtjlnihennlkmpaaGreatDoorMf
import Derived.Test.YtjlnihennlkmpaaGreatDoorRows
import Derived.Deep.DeepCutAuto
import Derived.Deep.CutBlock
import Derived.WalkKit
import Derived.ProofKit
import Derived.OpenShut
import Derived.ShutString
import Derived.ChangeOld
import Derived.SizedLaws
import Derived.Test.YtjlnihennlkmpaaGreatDoorTie
import Derived.Test.YtjlnihennlkmpaaGreatDoorCards
import Derived.LaidMore
import Derived.Lay
import Derived.SevenTiedAt
import Derived.Stop.Joined
namespace Go.Proofs.YtjlnihennlkmpaaGreatDoor.synSame
open Go.ChangeShapes Go.WideShapes Go.ChangeAt Go.RowKit
open Go.ChangeMaps (open_string shut_string)
set_option linter.unusedVariables false

theorem own : ownKnob Tryz.prog.godebug = none := by kernel_rfl
theorem laidOut : laidOutB Tryz.prog = true := by kernel_rfl

theorem parse_some (s : ByteArray) (w : World) (hs : s.size ≤ 140737488351232) (hT : STab w) : Calls Tryz.prog 7 #[.string s] w fun e w' => ∃ v er ea, e = .returned (.tuple #[v, .agg #[.int .i64 er, .int .i64 ea]]) ∧ Below w.heap.size w w' := by
  cases hp : parseS s with
  | ok l =>
    refine (parse_ok hp w hs hT).mono ?_
    rintro e w' ⟨x, c, rfl, _, hb⟩
    exact ⟨_, _, _, rfl, hb⟩
  | error ep =>
    obtain ⟨er, ea⟩ := ep
    refine (parse_bad hp w hs hT).mono ?_
    rintro e w' ⟨rfl, hb⟩
    exact ⟨_, _, _, rfl, hb⟩
theorem eq_texts (l m : List UInt8) : ((⟨l.toArray⟩ : ByteArray).toList == (⟨m.toArray⟩ : ByteArray).toList) = (l == m) := by rw [Lib.toList_data, Lib.toList_data]

set_option maxHeartbeats 8000000 in
set_option maxRecDepth 100000 in
theorem walk (a : ByteArray) (b : ByteArray) (w : World) (hT : STab w) (w_a : a.size ≤ 140737488351232) (w_b : b.size ≤ 140737488351232) :
    Calls Tryz.prog 4 #[.string a, .string b] w fun e w' => e = .returned (.bool true) ∧ Below w.heap.size w w' := by
  have HT := Lib.hid hT
  have HSF := Lib.hid size_fault2
  have HWA := Lib.hid w_a
  have HWB := Lib.hid w_b
  clear hT w_a w_b
  go_enter Tryz.func4, Tryz.ntmps4
  go_wp2_with fail
  (with_reducible refine (awake_any w HT.out).mono ?_)
  rintro e w1 ⟨rfl, hb1⟩
  have HT1 := Lib.hid (HT.out.below hb1)
  have HB1 := Lib.hid hb1
  clear hb1 HT
  by_cases c1 : 1000 < a.size
  · have d1 : decide ((1000 : Int) < (a.size : Int)) = true := by simp; omega
    clear c1
    go_wp2_with fail
    go_ret
    exact ⟨rfl, HB1.out⟩
  have d1 : decide ((1000 : Int) < (a.size : Int)) = false := by simp; omega
  by_cases c2 : 1000 < b.size
  · have d2 : decide ((1000 : Int) < (b.size : Int)) = true := by simp; omega
    clear c1 c2
    go_wp2_with fail
    go_ret
    exact ⟨rfl, HB1.out⟩
  have d2 : decide ((1000 : Int) < (b.size : Int)) = false := by simp; omega
  have C1 := Lib.hid c1
  have C2 := Lib.hid c2
  clear c1 c2
  cases hp : parseS a with
  | error ep =>
    obtain ⟨er, ea⟩ := ep
    have her := parse_er hp
    have kp := parse_bad hp w1 HWA.out HT1.out
    have e0 : ((er : Int) != 0) = true := by simp; omega
    have KP := Lib.hid kp
    clear her kp hp
    go_wp2_with fail
    (with_reducible refine KP.out.mono ?_)
    rintro e w2 ⟨rfl, hb⟩
    have HB2 := Lib.hid (HB1.out.trans (hb.mono HB1.out.size))
    have HT2 := Lib.hid (HT1.out.below hb)
    clear hb KP
    have HNw3 := Lib.hid (heap_alloc_new w2 (.cells #[.int .i64 0, .int .i64 0] 26))
    have HBw3 : Hid (Below w2.heap.size w2 (w2.alloc (.cells #[.int .i64 0, .int .i64 0] 26))) := Lib.hid ((Below.refl _ _).alloc (Nat.le_refl _) _)
    go_upto_region 6 with (
       refine wpList_store_row rfl 26 (.tmp 6) (.tmp 23) rfl w2.heap.size #[.int .i64 (er : Int), .int .i64 (ea : Int)] rfl rfl 26 _ HNw3.out HSF.out rfl (fault_one _ _) ?_
       have hset := setRow_heap _ w2.heap.size _ #[.int .i64 (er : Int), .int .i64 (ea : Int)] _ _ HNw3.out
       have hbs := below_setRow HBw3.out (Nat.le_refl _) #[.int .i64 (er : Int), .int .i64 (ea : Int)]
       generalize (w2.alloc (.cells #[.int .i64 0, .int .i64 0] 26)).setRow w2.heap.size #[.int .i64 (er : Int), .int .i64 (ea : Int)] = w3 at hset hbs ⊢
       have HLw3 := Lib.hid hset
       have HWw3 := Lib.hid hbs
       clear hset hbs HNw3 HBw3)
    have kq := parse_some b w3 HWB.out (HT2.out.below HWw3.out)
    have KQ := Lib.hid kq
    clear kq
    go_wp2_with fail
    (with_reducible refine KQ.out.mono ?_)
    rintro e w4 ⟨v2, er2, ea2, rfl, hb⟩
    have HW4 := Lib.hid (HWw3.out.trans (hb.mono HWw3.out.size))
    have HL4 := Lib.hid ((hb.block w2.heap.size (Array.getElem?_eq_some_iff.1 HLw3.out).1).trans HLw3.out)
    clear hb KQ HLw3 HWw3
    have HNw5 := Lib.hid (heap_alloc_new w4 (.cells #[.int .i64 0, .int .i64 0] 26))
    have HBw5 : Hid (Below w4.heap.size w4 (w4.alloc (.cells #[.int .i64 0, .int .i64 0] 26))) := Lib.hid ((Below.refl _ _).alloc (Nat.le_refl _) _)
    go_upto_region 7 with (
       refine wpList_store_row rfl 26 (.tmp 8) (.tmp 28) rfl w4.heap.size #[.int .i64 er2, .int .i64 ea2] rfl rfl 26 _ HNw5.out HSF.out rfl (fault_one _ _) ?_
       have hset := setRow_heap _ w4.heap.size _ #[.int .i64 er2, .int .i64 ea2] _ _ HNw5.out
       have hbs := below_setRow HBw5.out (Nat.le_refl _) #[.int .i64 er2, .int .i64 ea2]
       generalize (w4.alloc (.cells #[.int .i64 0, .int .i64 0] 26)).setRow w4.heap.size #[.int .i64 er2, .int .i64 ea2] = w5 at hset hbs ⊢
       have HLw5 := Lib.hid hset
       have HWw5 := Lib.hid hbs
       clear hset hbs HNw5 HBw5)
    have f0 := cell_of_row w5 w2.heap.size 0 _ _ _ ((HWw5.out.block w2.heap.size (Array.getElem?_eq_some_iff.1 HL4.out).1).trans HL4.out)
    clear HLw5 HL4
    go_wp2_with fail
    go_ret
    exact ⟨rfl, HB2.out.trans ((HW4.out.trans (HWw5.out.mono HW4.out.size)).mono HB2.out.size)⟩
  | ok l =>
    have hpl := parse_fine hp
    have hwl := parse_wf' hp
    have hsl := show_len hp (by have := C1.out; omega)
    have kp := parse_ok hp w1 HWA.out HT1.out
    obtain ⟨n, hn⟩ : ∃ n, n = l.length := ⟨_, rfl⟩
    have HPL := Lib.hid hpl
    have HWL := Lib.hid hwl
    have HSL := Lib.hid hsl
    have HNN := Lib.hid hn
    have KP := Lib.hid kp
    clear hpl hwl hsl kp hp hn
    go_wp2_with fail
    (with_reducible refine KP.out.mono ?_)
    rintro e w2 ⟨x, c, rfl, hv, hb⟩
    rw [← HNN.out] at hv ⊢
    have HB2 := Lib.hid (HB1.out.trans (hb.mono HB1.out.size))
    have HT2 := Lib.hid (HT1.out.below hb)
    have HV := Lib.hid hv
    clear hb KP hv
    have HNw3 := Lib.hid (heap_alloc_new w2 (.cells #[.int .i64 0, .int .i64 0] 26))
    have HBw3 : Hid (Below w2.heap.size w2 (w2.alloc (.cells #[.int .i64 0, .int .i64 0] 26))) := Lib.hid ((Below.refl _ _).alloc (Nat.le_refl _) _)
    go_upto_region 6 with (
       refine wpList_store_row rfl 26 (.tmp 6) (.tmp 23) rfl w2.heap.size #[.int .i64 0, .int .i64 0] rfl rfl 26 _ HNw3.out HSF.out rfl (fault_one _ _) ?_
       have hset := setRow_heap _ w2.heap.size _ #[.int .i64 0, .int .i64 0] _ _ HNw3.out
       have hbs := below_setRow HBw3.out (Nat.le_refl _) #[.int .i64 0, .int .i64 0]
       generalize (w2.alloc (.cells #[.int .i64 0, .int .i64 0] 26)).setRow w2.heap.size #[.int .i64 0, .int .i64 0] = w3 at hset hbs ⊢
       have HLw3 := Lib.hid hset
       have HWw3 := Lib.hid hbs
       clear hset hbs HNw3 HBw3)
    have HT3 := Lib.hid (HT2.out.below HWw3.out)
    cases hp : parseS b with
    | error ep =>
      obtain ⟨er, ea⟩ := ep
      have her := parse_er hp
      have kq := parse_bad hp w3 HWB.out HT3.out
      have e0 : ((er : Int) != 0) = true := by simp; omega
      have KQ := Lib.hid kq
      clear her kq hp
      go_wp2_with fail
      (with_reducible refine KQ.out.mono ?_)
      rintro e w4 ⟨rfl, hb⟩
      have HW4 := Lib.hid (HWw3.out.trans (hb.mono HWw3.out.size))
      have HL4 := Lib.hid ((hb.block w2.heap.size (Array.getElem?_eq_some_iff.1 HLw3.out).1).trans HLw3.out)
      clear hb KQ HLw3 HWw3
      have HNw5 := Lib.hid (heap_alloc_new w4 (.cells #[.int .i64 0, .int .i64 0] 26))
      have HBw5 : Hid (Below w4.heap.size w4 (w4.alloc (.cells #[.int .i64 0, .int .i64 0] 26))) := Lib.hid ((Below.refl _ _).alloc (Nat.le_refl _) _)
      go_upto_region 7 with (
         refine wpList_store_row rfl 26 (.tmp 8) (.tmp 28) rfl w4.heap.size #[.int .i64 (er : Int), .int .i64 (ea : Int)] rfl rfl 26 _ HNw5.out HSF.out rfl (fault_one _ _) ?_
         have hset := setRow_heap _ w4.heap.size _ #[.int .i64 (er : Int), .int .i64 (ea : Int)] _ _ HNw5.out
         have hbs := below_setRow HBw5.out (Nat.le_refl _) #[.int .i64 (er : Int), .int .i64 (ea : Int)]
         generalize (w4.alloc (.cells #[.int .i64 0, .int .i64 0] 26)).setRow w4.heap.size #[.int .i64 (er : Int), .int .i64 (ea : Int)] = w5 at hset hbs ⊢
         have HLw5 := Lib.hid hset
         have HWw5 := Lib.hid hbs
         clear hset hbs HNw5 HBw5)
      have f0 := cell_of_row w5 w2.heap.size 0 _ _ _ ((HWw5.out.block w2.heap.size (Array.getElem?_eq_some_iff.1 HL4.out).1).trans HL4.out)
      have g0 := cell_of_row w5 w4.heap.size 0 _ _ _ HLw5.out
      clear HLw5 HL4
      go_wp2_with fail
      go_ret
      exact ⟨rfl, HB2.out.trans ((HW4.out.trans (HWw5.out.mono HW4.out.size)).mono HB2.out.size)⟩
    | ok m =>
      have hpm := parse_fine hp
      have hwm := parse_wf' hp
      have hsm := show_len hp (by have := C2.out; omega)
      have kq := parse_ok hp w3 HWB.out HT3.out
      obtain ⟨k, hk⟩ : ∃ k, k = m.length := ⟨_, rfl⟩
      have HPM := Lib.hid hpm
      have HIF := Lib.hid (same_iff HWL.out hwm)
      have HSM := Lib.hid hsm
      have HKK := Lib.hid hk
      have KQ := Lib.hid kq
      clear hpm hwm hsm kq hp hk HWL
      go_wp2_with fail
      (with_reducible refine KQ.out.mono ?_)
      rintro e w4 ⟨x2, c2, rfl, hv, hb⟩
      rw [← HKK.out] at hv ⊢
      have HW4 := Lib.hid (HWw3.out.trans (hb.mono HWw3.out.size))
      have HT4 := Lib.hid (HT3.out.below hb)
      have HL4 := Lib.hid ((hb.block w2.heap.size (Array.getElem?_eq_some_iff.1 HLw3.out).1).trans HLw3.out)
      have HV4 := Lib.hid ((HV.out.low HW4.out).up HW4.out.size)
      have HM4 := Lib.hid hv
      clear hb KQ HLw3 HWw3 hv
      have HNw5 := Lib.hid (heap_alloc_new w4 (.cells #[.int .i64 0, .int .i64 0] 26))
      have HBw5 : Hid (Below w4.heap.size w4 (w4.alloc (.cells #[.int .i64 0, .int .i64 0] 26))) := Lib.hid ((Below.refl _ _).alloc (Nat.le_refl _) _)
      go_upto_region 7 with (
         refine wpList_store_row rfl 26 (.tmp 8) (.tmp 28) rfl w4.heap.size #[.int .i64 0, .int .i64 0] rfl rfl 26 _ HNw5.out HSF.out rfl (fault_one _ _) ?_
         have hset := setRow_heap _ w4.heap.size _ #[.int .i64 0, .int .i64 0] _ _ HNw5.out
         have hbs := below_setRow HBw5.out (Nat.le_refl _) #[.int .i64 0, .int .i64 0]
         generalize (w4.alloc (.cells #[.int .i64 0, .int .i64 0] 26)).setRow w4.heap.size #[.int .i64 0, .int .i64 0] = w5 at hset hbs ⊢
         have HLw5 := Lib.hid hset
         have HWw5 := Lib.hid hbs
         clear hset hbs HNw5 HBw5)
      have f0 := cell_of_row w5 w2.heap.size 0 _ _ _ ((HWw5.out.block w2.heap.size (Array.getElem?_eq_some_iff.1 HL4.out).1).trans HL4.out)
      have g0 := cell_of_row w5 w4.heap.size 0 _ _ _ HLw5.out
      obtain ⟨B, hB⟩ : ∃ B, B = sameP l m := ⟨_, rfl⟩
      have HBB := Lib.hid hB
      clear HLw5 HL4 hB
      go_wp2_with fail
      have ka := same_at (Nat.le_refl w4.heap.size) HWw5.out HV4.out HM4.out (c1 := c) (c2 := c2) HPL.out.1 HPM.out.1 (by rw [HNN.out]; exact HPL.out.2) (by rw [HKK.out]; exact HPM.out.2) HBB.out.symm
      have KA := Lib.hid ka
      clear ka
      (with_reducible refine KA.out.mono ?_)
      rintro e w6 ⟨rfl, hb⟩
      have HW6 := Lib.hid (HWw5.out.trans (hb.mono HWw5.out.size))
      clear hb KA f0 g0
      go_wp2_with fail
      have ks := show_at HT4.out (Nat.le_refl _) HW6.out HV4.out (c := c) HPL.out.1 (by rw [HNN.out]; exact HPL.out.2) rfl (Nat.le_trans HSL.out (by decide))
      have KS := Lib.hid ks
      clear ks
      (with_reducible refine KS.out.mono ?_)
      rintro e w7 ⟨rfl, hb⟩
      have HW7 := Lib.hid (HW6.out.trans (hb.mono HW6.out.size))
      obtain ⟨S, hS⟩ : ∃ S : ByteArray, S = ⟨(showT l).toArray⟩ := ⟨_, rfl⟩
      rw [← hS]
      have HS := Lib.hid hS
      clear hb KS hS
      go_wp2_with fail
      have ks := show_at HT4.out (Nat.le_refl _) HW7.out HM4.out (c := c2) HPM.out.1 (by rw [HKK.out]; exact HPM.out.2) rfl (Nat.le_trans HSM.out (by decide))
      have KS := Lib.hid ks
      clear ks
      (with_reducible refine KS.out.mono ?_)
      rintro e w8 ⟨rfl, hb⟩
      have HW8 := Lib.hid (HW7.out.trans (hb.mono HW7.out.size))
      obtain ⟨V, hV⟩ : ∃ V : ByteArray, V = ⟨(showT m).toArray⟩ := ⟨_, rfl⟩
      rw [← hV]
      have hSV : (S.toList == V.toList) = B := by rw [HS.out, hV, eq_texts, HBB.out, HIF.out]
      have hBB : (B == B) = true := by cases B <;> rfl
      clear hb KS hV
      go_wp2_with fail
      go_ret
      exact ⟨rfl, HB2.out.trans ((HW4.out.trans (HW8.out.mono HW4.out.size)).mono HB2.out.size)⟩

set_option maxRecDepth 100000 in
theorem lifted (os : Os) (started : os.Started) (H : Type) (enc : TypeId × Value → H) :
    ReturnsInHanded {} Tryz.checked os 4 .any (fun w args => (Rows.synSameSpec.pre enc Tryz.prog Tryz.f4 Rows.synSameRow.domain false w args ∧ laidMetH Tryz.prog LAID w) ∧ sizedMet enc Tryz.prog Tryz.f4 (OpenSpec.ofChange Rows.synSameSpec) false w args) (Rows.synSameSpec.post enc Tryz.prog Tryz.f4 false true false false) := by
  refine returnsInHanded_of_change_and (C := Tryz.checked) (X := fun w _ => laidMetH Tryz.prog LAID w) (fun _ _ _ hh h => h.of_heap hh) own started (by kernel_rfl) Tryz.func4
    (ChangeSpec.witness_shaped (enc := enc) (C := Tryz.checked) (os := os) (X := fun w _ => laidMetH Tryz.prog LAID w) false (World.laidAll Tryz.prog os LAID) #[.string ByteArray.empty, .string ByteArray.empty] 8 (World.laidAll_os _ _ _)
      (World.shaped_of_ZipB (by kernel_rfl) (by kernel_rfl)) (by kernel_rfl) (by kernel_rfl) (by kernel_rfl)
      (by rw [MakeChecks.laidMetH_plain _ _ _ (by kernel_rfl)]; exact laidMet_laidAll _ (by kernel_rfl) (by kernel_rfl))) ?_
  intro W base args ds gs before hval0 hW hcnd hsz0 hL _
  have hT : STab W := tab_of (by rw [MakeChecks.laidMetH_plain _ _ _ (by kernel_rfl)] at hL; exact hL)
  have hsz : (DataW.weightsEach Tryz.prog (Tryz.f4.params.toList ++ Rows.synSameSpec.plain.varTypes Tryz.prog) (ds ++ gs)).all (· ≤ reachBytes) = true := hsz0
  clear hsz0
  have hval : ∀ (j : Nat) t v, Tryz.f4.params[j]? = some t → args[j]? = some v → Value.okWide Tryz.prog W .any base t v := hval0
  have hW' := hW
  obtain ⟨p, q, hA0, hV, rfl, hfz, hnd⟩ := hW
  have hA : DataW.TrodAll enc Tryz.prog W 0 (fun _ => true) true Tryz.f4.params.toList args.toList ds p := hA0
  rw [Tryz.params4] at hA hval hsz
  obtain ⟨v0, vs0, d0, ds0, p0, q0, hargs, rfl, rfl, h0, r0⟩ := trodAll_cons hA
  obtain ⟨v1, vs1, d1, ds1, p1, q1, rfl, rfl, rfl, h1, r1⟩ := trodAll_cons r0
  obtain ⟨rfl, rfl, rfl⟩ := trodAll_nil r1
  obtain rfl : args = #[v0, v1] := by cases args; simp_all
  obtain ⟨rfl, rfl⟩ := trodVars_none hV
  obtain ⟨a, rfl, rfl, rfl, m_a⟩ := open_string Tryz.underlying9 (hval 0 9 v0 rfl rfl) h0
  have w_a : a.size ≤ 140737488351232 := by have h := sized_string hsz (j := 0) rfl rfl; simpa [reachBytes] using h
  obtain ⟨b, rfl, rfl, rfl, m_b⟩ := open_string Tryz.underlying9 (hval 1 9 v1 rfl rfl) h1
  have w_b : b.size ≤ 140737488351232 := by have h := sized_string hsz (j := 1) rfl rfl; simpa [reachBytes] using h
  clear hA0 hval0
  refine (walk a b W hT w_a w_b).mono fun e W' ⟨he, bel⟩ => ?_
  subst he
  exact ⟨_, rfl, _, _, _, [], _, [], hW', trodAll_mk1 (shut_bool Tryz.underlying4 _), (trodAll_cons_mk (shut_string Tryz.underlying9 m_a) (trodAll_cons_mk (shut_string Tryz.underlying9 m_b) trodAll_mk0)), rfl, bel.frame _, fun h => by cases h⟩

theorem over : Rows.synSameRow.holds Tryz.pinned (OpenSpec.ofChange Rows.synSameSpec) :=
  OpenClaim.holds_of_wide 4 Tryz.f4 rfl rfl rfl rfl rfl rfl rfl ⟨rfl, rfl, rfl, rfl, rfl⟩ rfl rfl rfl rfl rfl (by kernel_rfl) Tryz.func4 (by kernel_rfl)
    (of_decide_eq_true (by kernel_rfl)) (by unfold Func.isWrapper; first | (rw [if_pos (by decide +kernel)]; kernel_rfl) | (rw [if_neg (by decide +kernel)]; exact ⟨rfl, rfl⟩))
    (fun os started H enc _ => lifted os started H enc)

set_option maxRecDepth 100000 in
theorem proved : Rows.SynSameCardSaid :=
  Claim7.holds_tied_plain_at .later [] [.data, .data, .data, .sentinel, .sentinel] true Rows.synSameCard.stood.harness true over (fun _ h => by cases h) (by kernel_rfl) (fun _ h => by cases h) synSame_row_tie rfl ⟨rfl, rfl⟩ (by kernel_rfl) rfl
    (fun f fn hf hfn => by
      obtain rfl : f = 4 := Option.some.inj ((show Tryz.prog.funcNamed "escapement/escapementlaw5.SynSame" = some 4 by kernel_rfl).symm.trans hf) |>.symm
      obtain rfl : fn = Tryz.f4 := (Option.some.inj (Tryz.func4.symm.trans hfn)).symm
      exact ⟨by kernel_rfl, fun j t ht => by
        rw [Tryz.params4] at ht
        have hm : t ∈ ([9, 9] : List TypeId) := by simpa using Array.mem_of_getElem? ht
        have hall : (([9, 9] : List TypeId).all fun u => !Tryz.prog.wantsStandIn u) = true := by kernel_rfl
        exact (show Tryz.prog.wantsStandIn t = false by simpa using List.all_eq_true.1 hall t hm)⟩)
    (by kernel_rfl)
#print axioms proved
end Go.Proofs.YtjlnihennlkmpaaGreatDoor.synSame
