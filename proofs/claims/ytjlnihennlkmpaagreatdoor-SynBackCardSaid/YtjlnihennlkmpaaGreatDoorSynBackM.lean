/-
  Proved: SynBack of escapementlaw5 returns true for every input, and leaves what it was handed as it was. No conditions.
-/
import Derived.Test.YtjlnihennlkmpaaGreatDoorMf
import Derived.Test.YtjlnihennlkmpaaGreatDoorRows
import Derived.Deep.DeepCutAuto
import Derived.Deep.CutBlock
import Derived.WalkKit
import Derived.ProofKit
import Derived.OpenShut
import Derived.ShutString
import Derived.ChangeOld
import Derived.SizedLaws
import Derived.Test.YtjlnihennlkmpaaGreatDoorTie
import Derived.Test.YtjlnihennlkmpaaGreatDoorCards
import Derived.LaidMore
import Derived.Lay
import Derived.SevenTiedAt
import Derived.Stop.Joined
namespace Go.Proofs.YtjlnihennlkmpaaGreatDoor.synBack
open Go.ChangeShapes Go.WideShapes Go.ChangeAt Go.RowKit
open Go.ChangeMaps (open_string shut_string)
set_option linter.unusedVariables false

theorem own : ownKnob Tryz.prog.godebug = none := by kernel_rfl
theorem laidOut : laidOutB Tryz.prog = true := by kernel_rfl

set_option maxHeartbeats 8000000 in
set_option maxRecDepth 100000 in
theorem walk (t : ByteArray) (w : World) (hT : STab w) (w_t : t.size ≤ 140737488351232) :
    Calls Tryz.prog 3 #[.string t] w fun e w' => e = .returned (.bool true) ∧ Below w.heap.size w w' := by
  have HT := Lib.hid hT
  have HSF := Lib.hid size_fault2
  have HWT := Lib.hid w_t
  clear hT w_t
  go_enter Tryz.func3, Tryz.ntmps3
  go_wp2_with fail
  (with_reducible refine (awake_any w HT.out).mono ?_)
  rintro e w1 ⟨rfl, hb1⟩
  have HT1 := Lib.hid (HT.out.below hb1)
  have HB1 := Lib.hid hb1
  clear hb1 HT
  by_cases c1 : 1500 < t.size
  · have d1 : decide ((1500 : Int) < (t.size : Int)) = true := by simp; omega
    clear c1
    go_wp2_with fail
    go_ret
    exact ⟨rfl, HB1.out⟩
  have d1 : decide ((1500 : Int) < (t.size : Int)) = false := by simp; omega
  have C1 := Lib.hid c1
  clear c1
  cases hp : parseS t with
  | error ep =>
    obtain ⟨er, ea⟩ := ep
    have her := parse_er hp
    have kp := parse_bad hp w1 HWT.out HT1.out
    have e0 : ((er : Int) == 0) = false := by simp; omega
    have KP := Lib.hid kp
    clear her kp hp
    go_wp2_with fail
    (with_reducible refine KP.out.mono ?_)
    rintro e w2 ⟨rfl, hb⟩
    have HB2 := Lib.hid (HB1.out.trans (hb.mono HB1.out.size))
    clear hb KP
    have HNw3 := Lib.hid (heap_alloc_new w2 (.cells #[.int .i64 0, .int .i64 0] 26))
    have HBw3 : Hid (Below w2.heap.size w2 (w2.alloc (.cells #[.int .i64 0, .int .i64 0] 26))) := Lib.hid ((Below.refl _ _).alloc (Nat.le_refl _) _)
    go_wp2_with (first
      | (
       refine wpList_store_row rfl 26 (.tmp 4) (.tmp 17) rfl w2.heap.size #[.int .i64 (er : Int), .int .i64 (ea : Int)] rfl rfl 26 _ HNw3.out HSF.out rfl (fault_one _ _) ?_
       have hset := setRow_heap _ w2.heap.size _ #[.int .i64 (er : Int), .int .i64 (ea : Int)] _ _ HNw3.out
       have hbs := below_setRow HBw3.out (Nat.le_refl _) #[.int .i64 (er : Int), .int .i64 (ea : Int)]
       generalize (w2.alloc (.cells #[.int .i64 0, .int .i64 0] 26)).setRow w2.heap.size #[.int .i64 (er : Int), .int .i64 (ea : Int)] = w3 at hset hbs ⊢
       have HLw3 := Lib.hid hset
       have HWw3 := Lib.hid hbs
       clear hset hbs HNw3 HBw3)
      | (refine wpList_load_row rfl 26 (.tmp 4) rfl w2.heap.size rfl 26 #[.int .i64 (er : Int), .int .i64 (ea : Int)] (0, 0) _ HLw3.out Tryz.underlying26 rfl HSF.out ?_))
    go_ret
    exact ⟨rfl, HB2.out.trans (HWw3.out.mono HB2.out.size)⟩
  | ok l =>
    have hpf := parse_fine hp
    obtain ⟨a0, r0, hl0, ha0, hr0⟩ := parse_wf hp
    have hbk := back_facts a0 r0 hl0 ha0 hr0
    have hsl := show_len hp (by have := C1.out; omega)
    have kp := parse_ok hp w1 HWT.out HT1.out
    have hlen : l.length = r0.length + 1 := by rw [hl0]; rfl
    obtain ⟨n, hn⟩ : ∃ n, n = l.length := ⟨_, rfl⟩
    have HPF := Lib.hid hpf
    have HBK := Lib.hid hbk
    have HSL := Lib.hid hsl
    have HNN := Lib.hid hn
    have KP := Lib.hid kp
    clear hpf hbk hsl kp hp hl0 ha0 hr0 hn hlen
    go_wp2_with fail
    (with_reducible refine KP.out.mono ?_)
    rintro e w2 ⟨x, c, rfl, hv, hb⟩
    rw [← HNN.out] at hv ⊢
    have HB2 := Lib.hid (HB1.out.trans (hb.mono HB1.out.size))
    have HT2 := Lib.hid (HT1.out.below hb)
    have HV := Lib.hid hv
    clear hb KP hv
    have HNw3 := Lib.hid (heap_alloc_new w2 (.cells #[.int .i64 0, .int .i64 0] 26))
    have HBw3 : Hid (Below w2.heap.size w2 (w2.alloc (.cells #[.int .i64 0, .int .i64 0] 26))) := Lib.hid ((Below.refl _ _).alloc (Nat.le_refl _) _)
    go_wp2_with (first
      | (
       refine wpList_store_row rfl 26 (.tmp 4) (.tmp 17) rfl w2.heap.size #[.int .i64 0, .int .i64 0] rfl rfl 26 _ HNw3.out HSF.out rfl (fault_one _ _) ?_
       have hset := setRow_heap _ w2.heap.size _ #[.int .i64 0, .int .i64 0] _ _ HNw3.out
       have hbs := below_setRow HBw3.out (Nat.le_refl _) #[.int .i64 0, .int .i64 0]
       generalize (w2.alloc (.cells #[.int .i64 0, .int .i64 0] 26)).setRow w2.heap.size #[.int .i64 0, .int .i64 0] = w3 at hset hbs ⊢
       have HLw3 := Lib.hid hset
       have HWw3 := Lib.hid hbs
       clear hset hbs HNw3 HBw3)
      | (refine wpList_load_row rfl 26 (.tmp 4) rfl w2.heap.size rfl 26 #[.int .i64 0, .int .i64 0] (0, 0) _ HLw3.out Tryz.underlying26 rfl HSF.out ?_))
    have ks := show_at HT2.out (Nat.le_refl _) HWw3.out HV.out (c := c) HPF.out.1 (by rw [HNN.out]; exact HPF.out.2) rfl (Nat.le_trans HSL.out (by decide))
    have KS := Lib.hid ks
    clear ks
    (with_reducible refine KS.out.mono ?_)
    rintro e w4 ⟨rfl, hb⟩
    have HW4 := Lib.hid (HWw3.out.trans (hb.mono HWw3.out.size))
    have HT4 := Lib.hid (HT2.out.below HW4.out)
    obtain ⟨S, hS⟩ : ∃ S : ByteArray, S = ⟨(showT l).toArray⟩ := ⟨_, rfl⟩
    have hSz : S.size ≤ 140737488351232 := by
      rw [hS]
      show (showT l).toArray.size ≤ _
      rw [List.size_toArray]
      exact HSL.out
    rw [← hS]
    have HS := Lib.hid hS
    clear hb KS hS
    rcases HBK.out with ⟨ea, hp2⟩ | ⟨m, hp2, hsame, hshow⟩
    · rw [← HS.out] at hp2
      have kp := parse_bad hp2 w4 hSz HT4.out
      have e2 : ((2 : Nat) : Int) = 2 := rfl
      rw [e2] at kp
      have KP := Lib.hid kp
      clear kp hp2 hSz
      go_wp2_with fail
      (with_reducible refine KP.out.mono ?_)
      rintro e w5 ⟨rfl, hb⟩
      have HW5 := Lib.hid (HW4.out.trans (hb.mono HW4.out.size))
      clear hb KP
      have HNw6 := Lib.hid (heap_alloc_new w5 (.cells #[.int .i64 0, .int .i64 0] 26))
      have HBw6 : Hid (Below w5.heap.size w5 (w5.alloc (.cells #[.int .i64 0, .int .i64 0] 26))) := Lib.hid ((Below.refl _ _).alloc (Nat.le_refl _) _)
      go_upto_region 10 with (
       refine wpList_store_row rfl 26 (.tmp 7) (.tmp 27) rfl w5.heap.size #[.int .i64 2, .int .i64 (ea : Int)] rfl rfl 26 _ HNw6.out HSF.out rfl (fault_one _ _) ?_
       have hset := setRow_heap _ w5.heap.size _ #[.int .i64 2, .int .i64 (ea : Int)] _ _ HNw6.out
       have hbs := below_setRow HBw6.out (Nat.le_refl _) #[.int .i64 2, .int .i64 (ea : Int)]
       generalize (w5.alloc (.cells #[.int .i64 0, .int .i64 0] 26)).setRow w5.heap.size #[.int .i64 2, .int .i64 (ea : Int)] = w6 at hset hbs ⊢
       have HLw6 := Lib.hid hset; have f0 := cell_of_row w6 w5.heap.size 0 _ _ _ hset
       have HWw6 := Lib.hid hbs
       clear hset hbs HNw6 HBw6)
      clear HLw6
      go_wp2_with fail
      go_ret
      exact ⟨rfl, HB2.out.trans ((HW5.out.trans (HWw6.out.mono HW5.out.size)).mono HB2.out.size)⟩
    · rw [← HS.out] at hp2
      have hpm := parse_fine hp2
      have kp := parse_ok hp2 w4 hSz HT4.out
      obtain ⟨n2, hn2⟩ : ∃ n2, n2 = m.length := ⟨_, rfl⟩
      have HPM := Lib.hid hpm
      have HN2 := Lib.hid hn2
      have HSA := Lib.hid hsame
      have HSH := Lib.hid hshow
      have HSZ := Lib.hid hSz
      have KP := Lib.hid kp
      clear kp hp2 hSz hpm hn2 hsame hshow
      go_wp2_with fail
      (with_reducible refine KP.out.mono ?_)
      rintro e w5 ⟨x2, c2, rfl, hv2, hb⟩
      rw [← HN2.out] at hv2 ⊢
      have HW5 := Lib.hid (HW4.out.trans (hb.mono HW4.out.size))
      have HT5 := Lib.hid (HT4.out.below hb)
      have HV5 := Lib.hid ((HV.out.low HW5.out).up HW5.out.size)
      have HM5 := Lib.hid hv2
      clear hb KP hv2
      have HNw6 := Lib.hid (heap_alloc_new w5 (.cells #[.int .i64 0, .int .i64 0] 26))
      have HBw6 : Hid (Below w5.heap.size w5 (w5.alloc (.cells #[.int .i64 0, .int .i64 0] 26))) := Lib.hid ((Below.refl _ _).alloc (Nat.le_refl _) _)
      go_upto_region 10 with (
       refine wpList_store_row rfl 26 (.tmp 7) (.tmp 27) rfl w5.heap.size #[.int .i64 0, .int .i64 0] rfl rfl 26 _ HNw6.out HSF.out rfl (fault_one _ _) ?_
       have hset := setRow_heap _ w5.heap.size _ #[.int .i64 0, .int .i64 0] _ _ HNw6.out
       have hbs := below_setRow HBw6.out (Nat.le_refl _) #[.int .i64 0, .int .i64 0]
       generalize (w5.alloc (.cells #[.int .i64 0, .int .i64 0] 26)).setRow w5.heap.size #[.int .i64 0, .int .i64 0] = w6 at hset hbs ⊢
       have HLw6 := Lib.hid hset
       have f0 := cell_of_row w6 w5.heap.size 0 _ _ _ hset
       have HWw6 := Lib.hid hbs
       clear hset hbs HNw6 HBw6)
      go_wp2_with (refine wpList_load_row_g 3 false rfl rfl 26 (.tmp 7) rfl w5.heap.size rfl 26 #[.int .i64 0, .int .i64 0] (0, 0) _ ?_ Tryz.underlying26 rfl HSF.out ?_; (exact HLw6.out))
      have ka := same_at (Nat.le_refl w5.heap.size) HWw6.out HV5.out HM5.out (c1 := c) (c2 := c2) HPF.out.1 HPM.out.1 (by rw [HNN.out]; exact HPF.out.2) (by rw [HN2.out]; exact HPM.out.2) HSA.out
      have KA := Lib.hid ka
      clear ka
      (with_reducible refine KA.out.mono ?_)
      rintro e w7 ⟨rfl, hb⟩
      have HW7 := Lib.hid (HWw6.out.trans (hb.mono HWw6.out.size))
      clear hb KA f0
      go_wp2_with fail
      have ks := show_at HT5.out (Nat.le_refl _) HW7.out HM5.out (c := c2) HPM.out.1 (by rw [HN2.out]; exact HPM.out.2) HSH.out (Nat.le_trans HSL.out (by decide))
      rw [← HS.out] at ks
      have KS := Lib.hid ks
      clear ks
      (with_reducible refine KS.out.mono ?_)
      rintro e w8 ⟨rfl, hb⟩
      have HW8 := Lib.hid (HW7.out.trans (hb.mono HW7.out.size))
      clear hb KS
      go_wp2_with fail
      go_ret
      exact ⟨rfl, HB2.out.trans ((HW5.out.trans (HW8.out.mono HW5.out.size)).mono HB2.out.size)⟩

set_option maxRecDepth 100000 in
theorem lifted (os : Os) (started : os.Started) (H : Type) (enc : TypeId × Value → H) :
    ReturnsInHanded {} Tryz.checked os 3 .any (fun w args => (Rows.synBackSpec.pre enc Tryz.prog Tryz.f3 Rows.synBackRow.domain false w args ∧ laidMetH Tryz.prog LAID w) ∧ sizedMet enc Tryz.prog Tryz.f3 (OpenSpec.ofChange Rows.synBackSpec) false w args) (Rows.synBackSpec.post enc Tryz.prog Tryz.f3 false true false false) := by
  refine returnsInHanded_of_change_and (C := Tryz.checked) (X := fun w _ => laidMetH Tryz.prog LAID w) (fun _ _ _ hh h => h.of_heap hh) own started (by kernel_rfl) Tryz.func3
    (ChangeSpec.witness_shaped (enc := enc) (C := Tryz.checked) (os := os) (X := fun w _ => laidMetH Tryz.prog LAID w) false (World.laidAll Tryz.prog os LAID) #[.string ByteArray.empty] 8 (World.laidAll_os _ _ _)
      (World.shaped_of_ZipB (by kernel_rfl) (by kernel_rfl)) (by kernel_rfl) (by kernel_rfl) (by kernel_rfl)
      (by rw [MakeChecks.laidMetH_plain _ _ _ (by kernel_rfl)]; exact laidMet_laidAll _ (by kernel_rfl) (by kernel_rfl))) ?_
  intro W base args ds gs before hval0 hW hcnd hsz0 hL _
  have hT : STab W := tab_of (by rw [MakeChecks.laidMetH_plain _ _ _ (by kernel_rfl)] at hL; exact hL)
  have hsz : (DataW.weightsEach Tryz.prog (Tryz.f3.params.toList ++ Rows.synBackSpec.plain.varTypes Tryz.prog) (ds ++ gs)).all (· ≤ reachBytes) = true := hsz0
  clear hsz0
  have hval : ∀ (j : Nat) t v, Tryz.f3.params[j]? = some t → args[j]? = some v → Value.okWide Tryz.prog W .any base t v := hval0
  have hW' := hW
  obtain ⟨p, q, hA0, hV, rfl, hfz, hnd⟩ := hW
  have hA : DataW.TrodAll enc Tryz.prog W 0 (fun _ => true) true Tryz.f3.params.toList args.toList ds p := hA0
  rw [Tryz.params3] at hA hval hsz
  obtain ⟨v0, vs0, d0, ds0, p0, q0, hargs, rfl, rfl, h0, r0⟩ := trodAll_cons hA
  obtain ⟨rfl, rfl, rfl⟩ := trodAll_nil r0
  obtain rfl : args = #[v0] := by cases args; simp_all
  obtain ⟨rfl, rfl⟩ := trodVars_none hV
  obtain ⟨t, rfl, rfl, rfl, m_t⟩ := open_string Tryz.underlying9 (hval 0 9 v0 rfl rfl) h0
  have w_t : t.size ≤ 140737488351232 := by have h := sized_string hsz (j := 0) rfl rfl; simpa [reachBytes] using h
  clear hA0 hval0
  refine (walk t W hT w_t).mono fun e W' ⟨he, bel⟩ => ?_
  subst he
  exact ⟨_, rfl, _, _, _, [], _, [], hW', trodAll_mk1 (shut_bool Tryz.underlying4 _), (trodAll_cons_mk (shut_string Tryz.underlying9 m_t) trodAll_mk0), rfl, bel.frame _, fun h => by cases h⟩

theorem over : Rows.synBackRow.holds Tryz.pinned (OpenSpec.ofChange Rows.synBackSpec) :=
  OpenClaim.holds_of_wide 3 Tryz.f3 rfl rfl rfl rfl rfl rfl rfl ⟨rfl, rfl, rfl, rfl, rfl⟩ rfl rfl rfl rfl rfl (by kernel_rfl) Tryz.func3 (by kernel_rfl)
    (of_decide_eq_true (by kernel_rfl)) (by unfold Func.isWrapper; first | (rw [if_pos (by decide +kernel)]; kernel_rfl) | (rw [if_neg (by decide +kernel)]; exact ⟨rfl, rfl⟩))
    (fun os started H enc _ => lifted os started H enc)

set_option maxRecDepth 100000 in
theorem proved : Rows.SynBackCardSaid :=
  Claim7.holds_tied_plain_at .later [] [.data, .data, .data, .sentinel, .sentinel] true Rows.synBackCard.stood.harness true over (fun _ h => by cases h) (by kernel_rfl) (fun _ h => by cases h) synBack_row_tie rfl ⟨rfl, rfl⟩ (by kernel_rfl) rfl
    (fun f fn hf hfn => by
      obtain rfl : f = 3 := Option.some.inj ((show Tryz.prog.funcNamed "escapement/escapementlaw5.SynBack" = some 3 by kernel_rfl).symm.trans hf) |>.symm
      obtain rfl : fn = Tryz.f3 := (Option.some.inj (Tryz.func3.symm.trans hfn)).symm
      exact ⟨by kernel_rfl, fun j t ht => by
        rw [Tryz.params3] at ht
        have hm : t ∈ ([9] : List TypeId) := by simpa using Array.mem_of_getElem? ht
        have hall : (([9] : List TypeId).all fun u => !Tryz.prog.wantsStandIn u) = true := by kernel_rfl
        exact (show Tryz.prog.wantsStandIn t = false by simpa using List.all_eq_true.1 hall t hm)⟩)
    (by kernel_rfl)
#print axioms proved
end Go.Proofs.YtjlnihennlkmpaaGreatDoor.synBack
