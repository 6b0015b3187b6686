/-
  Proved: SumCut of escapementlaw2 returns true for every input, and leaves what it was handed as it was. No conditions.
-/
import Derived.Test.YtdacgdaglbjjeaaDoorRows
import Derived.Test.YtdacgdaglbjjeaaDoorArg
import Derived.Test.YtdacgdaglbjjeaaDoorSawk
import Derived.WalkKit
import Derived.ProofKit
import Derived.OpenShut
import Derived.ShutString
import Derived.ChangeOld
import Derived.SizedLaws
import Derived.Test.YtdacgdaglbjjeaaDoorStab
import Derived.Test.YtdacgdaglbjjeaaDoorTie
import Derived.Test.YtdacgdaglbjjeaaDoorCards
import Derived.LaidMore
import Derived.Lay
import Derived.SevenTiedAt
import Derived.Stop.Joined
namespace Go.Proofs.YtdacgdaglbjjeaaDoor.sumCut
open Go.ChangeShapes Go.WideShapes Go.ChangeAt Go.RowKit
open Go.ChangeMaps (open_string shut_string)
set_option linter.unusedVariables false

theorem own : ownKnob Tryd.prog.godebug = none := by kernel_rfl
theorem laidOut : laidOutB Tryd.prog = true := by kernel_rfl

set_option maxHeartbeats 4000000 in
set_option maxRecDepth 100000 in
theorem walk (n : Int) (a_b : Option Addr) (c_b : Nat) (b : List UInt8) (cut : Int) (w : World) (hT : Tab w) (w_n : (Lit.int .u64 n).wf = true) (l_b : b.length ≤ c_b) (m_b : c_b ≤ maxLen) (t_b : Txt w a_b b) (w_cut : (Lit.int .i64 cut).wf = true) :
    Calls Tryd.prog 9 #[.int .u64 n, .slice a_b b.length c_b, .int .i64 cut] w fun e w' => e = .returned (.bool true) ∧ Below w.heap.size w w' := by
  obtain ⟨n0, n1⟩ := u64_wf w_n
  obtain ⟨n, rfl⟩ := Int.eq_ofNat_of_zero_le n0
  have hn : n < 18446744073709551616 := by omega
  clear n0 n1 w_n
  have HT := Lib.hid hT
  have HB := Lib.hid t_b
  clear hT t_b
  go_enter Tryd.func9, Tryd.ntmps9
  go_wp2_with fail
  refine (awake_any w HT.out).mono ?_
  rintro e w1 ⟨rfl, hb1⟩
  have hT1 := HT.out.below hb1 (Nat.le_refl _)
  have tb1 := HB.out.below hb1
  by_cases hbig : 60000 < b.length
  · clear hT1 tb1
    go_wp2_with fail
    refine (Frame_big (n : Int) a_b b.length c_b w1 hbig).mono ?_
    rintro e w2 ⟨rfl, rfl⟩
    go_wp2_with fail
    go_ret
    exact ⟨rfl, hb1⟩
  · have hfr := Frame_any n a_b c_b b w1 hT1 hn tb1 (by omega)
    clear hT1 tb1
    go_wp2_with fail
    refine hfr.mono ?_
    rintro e w2 ⟨rfl, hB2, hb2⟩
    have hbel2 := hb1.trans (hb2.mono hb1.size)
    by_cases h500 : 500 < b.length
    · clear hfr hB2
      go_wp2_with fail
      go_ret
      exact ⟨rfl, hbel2⟩
    · by_cases hneg : cut < 0
      · clear hfr hB2
        go_wp2_with fail
        go_ret
        exact ⟨rfl, hbel2⟩
      · obtain ⟨k, rfl⟩ := Int.eq_ofNat_of_zero_le (show 0 ≤ cut by omega)
        by_cases hk : 17 + b.length ≤ k
        · clear hfr hB2
          go_wp2_with fail
          go_ret
          exact ⟨rfl, hbel2⟩
        · have hfl := frame_length n b
          have hlk : ((frameOf n b).take k).length = k := by rw [List.length_take]; omega
          have h0 := size1_cut (n := n) (b := b) (by omega) (k := k) (by omega)
          have hT2 := HT.out.below hbel2 (Nat.le_refl _)
          have t2 := hB2.txt.take k
          have htk := Take_any (some ⟨w1.heap.size, 0, none⟩) (17 + b.length) ((frameOf n b).take k) w2 hT2 t2 (by omega) (by unfold maxLen; omega)
          have e1 : take1 ((frameOf n b).take k) = (0, [], 0) := by unfold take1; rw [if_pos h0]
          rw [e1, hlk] at htk
          obtain ⟨F, hF⟩ : ∃ F, F = (frameOf n b).take k := ⟨_, rfl⟩
          rw [← hF] at t2 hlk h0
          have e2 : all1 F n = ([], 0) := all1_none (.inl h0)
          have hk' : ¬ ((17 : Int) + (b.length : Int) ≤ (k : Int)) := by omega
          clear hfr hB2 hT2 e1 hF hfl h0
          go_wp2_with fail
          refine htk.mono ?_
          rintro e w3 ⟨a3, c3, rfl, _, _, _, _, hb3⟩
          have hbel3 := hbel2.trans (hb3.mono hbel2.size)
          have hal := All_any (some ⟨w1.heap.size, 0, none⟩) (17 + b.length) F n w3 (HT.out.below hbel3 (Nat.le_refl _)) hn (t2.below hb3) (by omega) (by unfold maxLen; omega) (by omega)
          rw [e2, hlk] at hal
          clear htk e2 hlk
          go_wp2_with fail
          refine hal.mono ?_
          rintro e w4 ⟨v4, xs, rfl, hown4, _, hb4⟩
          have hbel4 := hbel3.trans (hb4.mono hbel3.size)
          obtain ⟨a4, c4, rfl, hc4, hm4, _⟩ := row_form hown4
          clear hown4 hal
          go_wp2_with fail
          go_ret
          exact ⟨rfl, hbel4⟩

set_option maxRecDepth 100000 in
theorem lifted (os : Os) (started : os.Started) (H : Type) (enc : TypeId × Value → H) :
    ReturnsInHanded {} Tryd.checked os 9 .any (fun w args => (Rows.sumCutSpec.pre enc Tryd.prog Tryd.f9 Rows.sumCutRow.domain false w args ∧ laidMetH Tryd.prog LAID w) ∧ sizedMet enc Tryd.prog Tryd.f9 (OpenSpec.ofChange Rows.sumCutSpec) false w args) (Rows.sumCutSpec.post enc Tryd.prog Tryd.f9 false true false false) := by
  refine returnsInHanded_of_change_and (C := Tryd.checked) (X := fun w _ => laidMetH Tryd.prog LAID w) (fun _ _ _ hh h => h.of_heap hh) own started (by kernel_rfl) Tryd.func9
    (ChangeSpec.witness_shaped (enc := enc) (C := Tryd.checked) (os := os) (X := fun w _ => laidMetH Tryd.prog LAID w) false (World.laidAll Tryd.prog os LAID) #[.int .u64 0, .slice none 0 0, .int .i64 0] 8 (World.laidAll_os _ _ _)
      (World.shaped_of_ZipB (by kernel_rfl) (by kernel_rfl)) (by kernel_rfl) (by kernel_rfl) (by kernel_rfl)
      (by rw [MakeChecks.laidMetH_plain _ _ _ (by kernel_rfl)]; exact laidMet_laidAll _ (by kernel_rfl) (by kernel_rfl))) ?_
  intro W base args ds gs before hval0 hW hcnd hsz0 hL _
  have hT : Tab W := tab_of (by rw [MakeChecks.laidMetH_plain _ _ _ (by kernel_rfl)] at hL; exact hL)
  have hval : ∀ (j : Nat) t v, Tryd.f9.params[j]? = some t → args[j]? = some v → Value.okWide Tryd.prog W .any base t v := hval0
  have hW' := hW
  obtain ⟨p, q, hA0, hV, rfl, hfz, hnd⟩ := hW
  have hA : DataW.TrodAll enc Tryd.prog W 0 (fun _ => true) true Tryd.f9.params.toList args.toList ds p := hA0
  rw [Tryd.params9] at hA hval
  obtain ⟨v0, vs0, d0, ds0, p0, q0, hargs, rfl, rfl, h0, r0⟩ := trodAll_cons hA
  obtain ⟨v1, vs1, d1, ds1, p1, q1, rfl, rfl, rfl, h1, r1⟩ := trodAll_cons r0
  obtain ⟨v2, vs2, d2, ds2, p2, q2, rfl, rfl, rfl, h2, r2⟩ := trodAll_cons r1
  obtain ⟨rfl, rfl, rfl⟩ := trodAll_nil r2
  obtain rfl : args = #[v0, v1, v2] := by cases args; simp_all
  obtain ⟨rfl, rfl⟩ := trodVars_none hV
  obtain ⟨n, rfl, rfl, rfl, w_n⟩ := open_int Tryd.underlying23 (hval 0 23 v0 rfl rfl) h0
  obtain ⟨a_b, len_b, c_b, rfl⟩ := okWide_slice Tryd.underlying24 (hval 1 24 v1 rfl rfl)
  have k1 := h1
  have lt1 : ∀ x ∈ p1, x.block < W.heap.size := by obtain ⟨m, hm⟩ := k1; exact DataW.trod_lt m _ _ _ hm
  obtain ⟨b, n_b, l_b, m_b, t_b⟩ : ∃ b : List UInt8, b.length = len_b ∧ b.length ≤ c_b ∧ c_b ≤ maxLen ∧ Txt W a_b b := by
    obtain ⟨fuel, hf⟩ := h1
    rcases open_ints Tryd.underlying24 Tryd.underlying5 (by kernel_rfl) hf with ⟨hcs, _⟩ | ⟨x, l, c, zs, hcs, _, hl, hm, hz, _, hcell, hwz⟩
    · simp [Value.cells] at hcs
      obtain ⟨rfl, rfl, rfl⟩ := hcs
      exact ⟨[], rfl, Nat.zero_le _, Nat.zero_le _, Txt.nil _ _⟩
    · simp [Value.cells] at hcs
      obtain ⟨rfl, rfl, rfl⟩ := hcs
      have hr := row_some (f := Value.int .u8) hl (by simpa using hz) hcell
      obtain ⟨r, hrl, hrt⟩ := txt_of_row hr.2 (fun n hn => hwz n (List.mem_of_mem_take hn))
      exact ⟨r, hrl.trans hr.1, by rw [hrl, hr.1]; exact hl, hm, hrt⟩
  subst n_b
  obtain ⟨cut, rfl, rfl, rfl, w_cut⟩ := open_int Tryd.underlying3 (hval 2 3 v2 rfl rfl) h2
  clear hA0 hval0
  refine (walk n a_b c_b b cut W hT w_n l_b m_b t_b w_cut).mono fun e W' ⟨he, bel⟩ => ?_
  subst he
  exact ⟨_, rfl, _, _, _, [], _, [], hW', trodAll_mk1 (shut_bool Tryd.underlying4 _), (trodAll_cons_mk (shut_int Tryd.underlying23 w_n) (trodAll_cons_mk (Below.trod laidOut (by kernel_rfl) (of_decide_eq_true (by kernel_rfl)) k1 bel lt1) (trodAll_cons_mk (shut_int Tryd.underlying3 w_cut) trodAll_mk0))), rfl, bel.frame _, fun h => by cases h⟩

theorem over : Rows.sumCutRow.holds Tryd.pinned (OpenSpec.ofChange Rows.sumCutSpec) :=
  OpenClaim.holds_of_wide 9 Tryd.f9 rfl rfl rfl rfl rfl rfl rfl ⟨rfl, rfl, rfl, rfl, rfl⟩ rfl rfl rfl rfl rfl (by kernel_rfl) Tryd.func9 (by kernel_rfl)
    (of_decide_eq_true (by kernel_rfl)) (by unfold Func.isWrapper; first | (rw [if_pos (by decide +kernel)]; kernel_rfl) | (rw [if_neg (by decide +kernel)]; exact ⟨rfl, rfl⟩))
    (fun os started H enc _ => lifted os started H enc)

set_option maxRecDepth 100000 in
theorem proved : Rows.SumCutCardSaid :=
  Claim7.holds_tied_plain_at .later [] [.data] true Rows.sumCutCard.stood.harness false over (fun _ h => by cases h) (by kernel_rfl) (fun _ h => by cases h) sumCut_row_tie rfl ⟨rfl, rfl⟩ (by kernel_rfl) rfl
    (fun f fn hf hfn => by
      obtain rfl : f = 9 := Option.some.inj ((show Tryd.prog.funcNamed "escapement/escapementlaw2.SumCut" = some 9 by kernel_rfl).symm.trans hf) |>.symm
      obtain rfl : fn = Tryd.f9 := (Option.some.inj (Tryd.func9.symm.trans hfn)).symm
      exact ⟨by kernel_rfl, fun j t ht => by
        rw [Tryd.params9] at ht
        have hm : t ∈ ([23, 24, 3] : List TypeId) := by simpa using Array.mem_of_getElem? ht
        have hall : (([23, 24, 3] : List TypeId).all fun u => !Tryd.prog.wantsStandIn u) = true := by kernel_rfl
        exact (show Tryd.prog.wantsStandIn t = false by simpa using List.all_eq_true.1 hall t hm)⟩)
    (by kernel_rfl)
#print axioms proved
end Go.Proofs.YtdacgdaglbjjeaaDoor.sumCut
