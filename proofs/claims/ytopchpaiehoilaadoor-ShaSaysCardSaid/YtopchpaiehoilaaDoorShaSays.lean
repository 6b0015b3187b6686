/-
  Proved: ShaSays of escapementlaw3 returns true for every input, and leaves what it was handed as it was. No conditions.
-/
import Derived.Test.YtopchpaiehoilaaDoorRows
import Derived.Test.YtopchpaiehoilaaDoorArg
import Derived.Test.YtopchpaiehoilaaDoorHaw
import Derived.Test.YtopchpaiehoilaaDoorQsh
import Derived.Test.YtopchpaiehoilaaDoorQhx
import Derived.WalkKit
import Derived.ProofKit
import Derived.OpenShut
import Derived.ShutString
import Derived.ChangeOld
import Derived.SizedLaws
import Derived.Test.YtopchpaiehoilaaDoorHof
import Derived.Test.YtopchpaiehoilaaDoorTie
import Derived.Test.YtopchpaiehoilaaDoorCards
import Derived.LaidMore
import Derived.Lay
import Derived.SevenTiedAt
import Derived.Stop.Joined
namespace Go.Proofs.YtopchpaiehoilaaDoor.shaSays
open Go.ChangeShapes Go.WideShapes Go.ChangeAt Go.RowKit
open Go.ChangeMaps (open_string shut_string)
set_option linter.unusedVariables false

theorem own : ownKnob Tryd.prog.godebug = none := by kernel_rfl
theorem laidOut : laidOutB Tryd.prog = true := by kernel_rfl

/-- The digest's cells. -/
theorem digest_one (l : List UInt8) : (Lib.byteCells (shaWith KT I8 l)).toArray.all (·.oneCell') = true := Array.all_eq_true_iff_forall_mem.2 (fun v hv => byteCells_one _ v (by simpa using hv))
theorem digest_size (l : List UInt8) : (Lib.byteCells (shaWith KT I8 l)).toArray.size = 32 := by rw [List.size_toArray]; simp [Lib.byteCells, shaWith_length]

set_option maxHeartbeats 8000000 in
set_option maxRecDepth 100000 in
theorem walk (a_b : Option Addr) (c_b : Nat) (b : List UInt8) (w : World) (hT : Tabs w) (l_b : b.length ≤ c_b) (m_b : c_b ≤ maxLen) (t_b : Txt w a_b b) :
    Calls Tryd.prog 3 #[.slice a_b b.length c_b] w fun e w' => e = .returned (.bool true) ∧ Below w.heap.size w w' := by
  obtain ⟨hz, hsz⟩ := zero_of_info info_digest
  obtain ⟨zs, hzs⟩ : ∃ z, z = (Lib.byteCells (List.replicate 32 0)).toArray := ⟨_, rfl⟩
  rw [← hzs] at hz
  have hzsz : zs.size = 32 := by rw [hzs]; simp [Lib.byteCells]
  have HT := Lib.hid hT
  have HB := Lib.hid t_b
  clear hT t_b hzs
  have HZ := Lib.hid hzsz
  have HS0 := Lib.hid hsz
  clear hzsz hsz
  go_enter Tryd.func3, Tryd.ntmps3
  go_wp2_with fail
  refine (awake_any w HT.out).mono ?_
  rintro e w1 ⟨rfl, hb1⟩
  by_cases c1 : 400 < b.length
  · go_wp2_with fail
    go_ret
    exact ⟨rfl, hb1⟩
  have hof := Of_any a_b b.length c_b b w1 (HT.out.below hb1 (Nat.le_refl _)) rfl (HB.out.below hb1) l_b m_b (by omega)
  have hkh := fun W => Hex_any (shaWith KT I8 b) W (shaWith_length _ _ _)
  have hkr := fun W => rHex_any (shaWith KT I8 b) W (shaWith_length _ _ _)
  have hks := fun W (h : Txt W a_b b) => rSha_any a_b c_b b W h l_b m_b (by omega)
  have hke := digest_same (shaWith KT I8 b) (shaWith_length _ _ _)
  have hvs := digest_size b
  have hv1 := digest_one b
  obtain ⟨V, hV⟩ : ∃ V, V = (Lib.byteCells (shaWith KT I8 b)).toArray := ⟨_, rfl⟩
  obtain ⟨S, hS⟩ : ∃ S, S = (⟨(hexOf (shaWith KT I8 b)).toArray⟩ : ByteArray) := ⟨_, rfl⟩
  rw [← hV] at hof hkh hkr hks hke hvs hv1
  rw [← hS] at hkh hkr
  have hsz : (Tryd.prog.info? 24).map (·.size) = some V.size := by rw [hvs]; exact HS0.out
  have hzv : zs.size = V.size := by rw [hvs, HZ.out]
  have HSZ := Lib.hid hsz
  have HZV := Lib.hid hzv
  have HV1 := Lib.hid hv1
  have KH := Lib.hid hkh
  have KR := Lib.hid hkr
  have KE := Lib.hid hke
  have KS0 := Lib.hid hks
  clear hV hS hkh hkr hks hke hvs hv1 hsz hzv
  go_wp2_with fail
  refine hof.mono ?_
  rintro e w2 ⟨rfl, hb2⟩
  have hnw := heap_alloc_new w2 (.cells zs 24)
  have hb3 : Below w2.heap.size w2 (w2.alloc (.cells zs 24)) := (Below.refl _ _).alloc (Nat.le_refl _) _
  have hB2 := hb1.trans (hb2.mono hb1.size)
  have hrow := setRow_heap _ w2.heap.size zs V _ _ hnw
  have hb4 : Below w2.heap.size w2 ((w2.alloc (.cells zs 24)).setRow w2.heap.size V) := below_setRow hb3 (Nat.le_refl _) V
  have hB4 := hB2.trans (hb4.mono hB2.size)
  have HNW := Lib.hid hnw
  have HRW0 := Lib.hid hrow
  have HB4 := Lib.hid hB4
  clear hnw hb3 hB2 hrow hb4 hB4 hb1 hb2 hof
  go_wp2_with (refine wpList_store_row rfl 24 (.tmp 3) (.tmp 10) rfl w2.heap.size V rfl rfl 24 zs HNW.out HSZ.out HZV.out HV1.out ?_)
  obtain ⟨g, hg⟩ : ∃ g, g = w2.heap.size := ⟨_, rfl⟩
  rw [← hg] at HRW0 HB4 HNW ⊢
  generalize (w2.alloc (.cells zs 24)).setRow g V = w4 at HRW0 HB4 ⊢
  have HRW := HRW0
  have HGL := Lib.hid (Array.getElem?_eq_some_iff.1 HRW.out).1
  have hks : ∀ W, Below w4.heap.size w4 W → Calls Tryd.prog 7 #[.slice a_b b.length c_b] W fun e w' => e = .returned (.agg V) ∧ Below W.heap.size W w' := fun W h => KS0.out W (HB.out.below (HB4.out.trans (h.mono HB4.out.size)))
  have KS := Lib.hid hks
  clear hks hg HNW
  refine wp_region_steps (words [wIs (.agg V), wIs (.slice a_b b.length c_b), wIs (.agg V), wIs (.bool true), wIs (.bool true), wIs (.agg V), wIs (.string S), wIs (.agg V), wIs (.string S), wIs (.bool true), wIs (.bool true), wIs (.bool true)]) w4.heap.size w4 (by kernel_rfl) (Below.refl _ _) (Nat.le_refl _) (words_stable ?stab) rfl rfl (by kernel_rfl) ?steps ?done
  case stab =>
    intro f hf
    simp only [List.mem_cons, List.not_mem_nil, or_false] at hf
    rcases hf with rfl | rfl | rfl | rfl | rfl | rfl | rfl | rfl | rfl | rfl | rfl | rfl <;> first | exact stable_is _
  case steps =>
    refine Steps.cons (step_value rfl fun xa W hp => ?_) ?_
    · have f0 : xa.tmps.getD 3 undef = .pointer (some ⟨g, 0, none⟩) := hp.old 3 rfl
      exact ⟨wanted_none rfl, _, _, run_ldrow rfl f0 ((hp.below.block g HGL.out).trans HRW.out) Tryd.underlying24 rfl (HSZ.out), rfl, Below.refl _ _⟩
    refine Steps.cons (step_value rfl fun xa W hp => ⟨wanted_none rfl, _, _, run_move (.inl rfl), (hp.old 0 rfl), Below.refl _ _⟩) ?_
    refine Steps.cons (step_enter rfl fun xa W hp => ?_) ?_
    · have f0 : wIs (.slice a_b b.length c_b) (xa.tmps.getD 12 undef) W := (hp.on_ 1 rfl rfl rfl).2
      refine ⟨wanted_none rfl, 7, _, run_enter1 rfl rfl Tryd.call7, ?_⟩
      show Calls _ _ #[xa.tmps.getD 12 undef] W _
      rw [show xa.tmps.getD 12 undef = _ from f0]
      exact (KS.out W hp.below).mono (fun e W' ⟨he, hm⟩ => ⟨_, he, rfl, hm⟩)
    refine Steps.cons (step_value rfl fun xa W hp => ?_) ?_
    · have f0 : wIs (.agg V) (xa.tmps.getD 11 undef) W := (hp.on_ 0 rfl rfl rfl).2
      have f1 : wIs (.agg V) (xa.tmps.getD 13 undef) W := (hp.on_ 2 rfl rfl rfl).2
      refine ⟨wanted_none rfl, _, _, run_bin3 rfl (v := .bool true) ?_ ?_, rfl, Below.refl _ _⟩
      · show (eqGuard .eql _ _ _ (xa.tmps.getD 11 undef) (xa.tmps.getD 13 undef)).run _ W = _
        rw [show xa.tmps.getD 11 undef = _ from f0, show xa.tmps.getD 13 undef = _ from f1]
        rfl
      · show (binOp .eql _ (xa.tmps.getD 11 undef) (xa.tmps.getD 13 undef)).run _ W = _
        rw [show xa.tmps.getD 11 undef = _ from f0, show xa.tmps.getD 13 undef = _ from f1]
        exact KE.out W
    refine Steps.cons (step_value rfl fun xa W hp => ⟨wanted_none rfl, _, _, run_move (.inl rfl), (hp.on_ 3 rfl rfl rfl).2, Below.refl _ _⟩) ?_
    refine Steps.cons (step_value rfl fun xa W hp => ?_) ?_
    · have f0 : xa.tmps.getD 3 undef = .pointer (some ⟨g, 0, none⟩) := hp.old 3 rfl
      exact ⟨wanted_some rfl rfl rfl (hp.on_ 4 rfl rfl rfl).1 (hp.on_ 4 rfl rfl rfl).2, _, _, run_ldrow rfl f0 ((hp.below.block g HGL.out).trans HRW.out) Tryd.underlying24 rfl (HSZ.out), rfl, Below.refl _ _⟩
    refine Steps.cons (step_enter rfl fun xa W hp => ?_) ?_
    · have f0 : wIs (.agg V) (xa.tmps.getD 16 undef) W := (hp.on_ 5 rfl rfl rfl).2
      refine ⟨wanted_some rfl rfl rfl (hp.on_ 4 rfl rfl rfl).1 (hp.on_ 4 rfl rfl rfl).2, 8, _, run_enter1 rfl rfl Tryd.call8, ?_⟩
      show Calls _ _ #[xa.tmps.getD 16 undef] W _
      rw [show xa.tmps.getD 16 undef = _ from f0]
      exact (KH.out W).mono (fun e W' ⟨he, hm⟩ => ⟨_, he, rfl, hm⟩)
    refine Steps.cons (step_value rfl fun xa W hp => ?_) ?_
    · have f0 : xa.tmps.getD 3 undef = .pointer (some ⟨g, 0, none⟩) := hp.old 3 rfl
      exact ⟨wanted_some rfl rfl rfl (hp.on_ 4 rfl rfl rfl).1 (hp.on_ 4 rfl rfl rfl).2, _, _, run_ldrow rfl f0 ((hp.below.block g HGL.out).trans HRW.out) Tryd.underlying24 rfl (HSZ.out), rfl, Below.refl _ _⟩
    refine Steps.cons (step_enter rfl fun xa W hp => ?_) ?_
    · have f0 : wIs (.agg V) (xa.tmps.getD 18 undef) W := (hp.on_ 7 rfl rfl rfl).2
      refine ⟨wanted_some rfl rfl rfl (hp.on_ 4 rfl rfl rfl).1 (hp.on_ 4 rfl rfl rfl).2, 9, _, run_enter1 rfl rfl Tryd.call9, ?_⟩
      show Calls _ _ #[xa.tmps.getD 18 undef] W _
      rw [show xa.tmps.getD 18 undef = _ from f0]
      exact (KR.out W).mono (fun e W' ⟨he, hm⟩ => ⟨_, he, rfl, hm⟩)
    refine Steps.cons (step_value rfl fun xa W hp => ?_) ?_
    · have f0 : wIs (.string S) (xa.tmps.getD 17 undef) W := (hp.on_ 6 rfl rfl rfl).2
      have f1 : wIs (.string S) (xa.tmps.getD 19 undef) W := (hp.on_ 8 rfl rfl rfl).2
      refine ⟨wanted_some rfl rfl rfl (hp.on_ 4 rfl rfl rfl).1 (hp.on_ 4 rfl rfl rfl).2, _, _, run_bin3 rfl (v := .bool true) ?_ ?_, rfl, Below.refl _ _⟩
      · show (eqGuard .eql _ _ _ (xa.tmps.getD 17 undef) (xa.tmps.getD 19 undef)).run _ W = _
        rw [show xa.tmps.getD 17 undef = _ from f0, show xa.tmps.getD 19 undef = _ from f1]
        rfl
      · show (binOp .eql _ (xa.tmps.getD 17 undef) (xa.tmps.getD 19 undef)).run _ W = _
        rw [show xa.tmps.getD 17 undef = _ from f0, show xa.tmps.getD 19 undef = _ from f1]
        simp [go_sem]
    refine Steps.cons (step_value rfl fun xa W hp => ⟨wanted_none rfl, _, _, run_pick rfl (hp.on_ 4 rfl rfl rfl).2, (hp.on_ 9 rfl rfl rfl).2, Below.refl _ _⟩) ?_
    refine Steps.cons (step_value rfl fun xa W hp => ⟨wanted_none rfl, _, _, run_move (.inr rfl), (hp.on_ 10 rfl rfl rfl).2, Below.refl _ _⟩) ?_
    exact Steps.nil
  case done =>
    intro xa w5 hI
    have h2 : xa.tmps.getD 2 undef = .bool true := hI.new 11 _ 2 rfl rfl rfl
    have hsz : xa.tmps.size = 22 := hI.tmps
    have hdf : xa.defers = [] := hI.defers
    have hB5 := HB4.out.trans (hI.below.mono HB4.out.size)
    obtain ⟨f, hf, hx⟩ := act_eta hsz hdf
    rw [hf] at h2
    clear hI hf hsz hdf
    subst hx
    have hl : ((List.range 22).map f).toArray = #[f 0, f 1, f 2, f 3, f 4, f 5, f 6, f 7, f 8, f 9, f 10, f 11, f 12, f 13, f 14, f 15, f 16, f 17, f 18, f 19, f 20, f 21] := rfl
    simp only [Exit.then]
    rw [hl, h2]
    clear hl h2
    go_wp2_with fail
    go_ret
    exact ⟨rfl, hB5⟩

set_option maxRecDepth 100000 in
theorem lifted (os : Os) (started : os.Started) (H : Type) (enc : TypeId × Value → H) :
    ReturnsInHanded {} Tryd.checked os 3 .any (fun w args => (Rows.shaSaysSpec.pre enc Tryd.prog Tryd.f3 Rows.shaSaysRow.domain false w args ∧ laidMetH Tryd.prog LAID w) ∧ sizedMet enc Tryd.prog Tryd.f3 (OpenSpec.ofChange Rows.shaSaysSpec) false w args) (Rows.shaSaysSpec.post enc Tryd.prog Tryd.f3 false true false false) := by
  refine returnsInHanded_of_change_and (C := Tryd.checked) (X := fun w _ => laidMetH Tryd.prog LAID w) (fun _ _ _ hh h => h.of_heap hh) own started (by kernel_rfl) Tryd.func3
    (ChangeSpec.witness_shaped (enc := enc) (C := Tryd.checked) (os := os) (X := fun w _ => laidMetH Tryd.prog LAID w) false (World.laidAll Tryd.prog os LAID) #[.slice none 0 0] 8 (World.laidAll_os _ _ _)
      (World.shaped_of_ZipB (by kernel_rfl) (by kernel_rfl)) (by kernel_rfl) (by kernel_rfl) (by kernel_rfl)
      (by rw [MakeChecks.laidMetH_plain _ _ _ (by kernel_rfl)]; exact laidMet_laidAll _ (by kernel_rfl) (by kernel_rfl))) ?_
  intro W base args ds gs before hval0 hW hcnd hsz0 hL _
  have hT : Tabs W := tab_of (by rw [MakeChecks.laidMetH_plain _ _ _ (by kernel_rfl)] at hL; exact hL)
  have hval : ∀ (j : Nat) t v, Tryd.f3.params[j]? = some t → args[j]? = some v → Value.okWide Tryd.prog W .any base t v := hval0
  have hW' := hW
  obtain ⟨p, q, hA0, hV, rfl, hfz, hnd⟩ := hW
  have hA : DataW.TrodAll enc Tryd.prog W 0 (fun _ => true) true Tryd.f3.params.toList args.toList ds p := hA0
  rw [Tryd.params3] at hA hval
  obtain ⟨v0, vs0, d0, ds0, p0, q0, hargs, rfl, rfl, h0, r0⟩ := trodAll_cons hA
  obtain ⟨rfl, rfl, rfl⟩ := trodAll_nil r0
  obtain rfl : args = #[v0] := by cases args; simp_all
  obtain ⟨rfl, rfl⟩ := trodVars_none hV
  obtain ⟨a_b, len_b, c_b, rfl⟩ := okWide_slice Tryd.underlying22 (hval 0 22 v0 rfl rfl)
  have k0 := h0
  have lt0 : ∀ x ∈ p0, x.block < W.heap.size := by obtain ⟨m, hm⟩ := k0; exact DataW.trod_lt m _ _ _ hm
  obtain ⟨b, n_b, l_b, m_b, t_b⟩ : ∃ b : List UInt8, b.length = len_b ∧ b.length ≤ c_b ∧ c_b ≤ maxLen ∧ Txt W a_b b := by
    obtain ⟨fuel, hf⟩ := h0
    rcases open_ints Tryd.underlying22 Tryd.underlying5 (by kernel_rfl) hf with ⟨hcs, _⟩ | ⟨x, l, c, zs, hcs, _, hl, hm, hz, _, hcell, hwz⟩
    · simp [Value.cells] at hcs
      obtain ⟨rfl, rfl, rfl⟩ := hcs
      exact ⟨[], rfl, Nat.zero_le _, Nat.zero_le _, Txt.nil _ _⟩
    · simp [Value.cells] at hcs
      obtain ⟨rfl, rfl, rfl⟩ := hcs
      have hr := row_some (f := Value.int .u8) hl (by simpa using hz) hcell
      obtain ⟨r, hrl, hrt⟩ := txt_of_row hr.2 (fun n hn => hwz n (List.mem_of_mem_take hn))
      exact ⟨r, hrl.trans hr.1, by rw [hrl, hr.1]; exact hl, hm, hrt⟩
  subst n_b
  clear hA0 hval0
  refine (walk a_b c_b b W hT l_b m_b t_b).mono fun e W' ⟨he, bel⟩ => ?_
  subst he
  exact ⟨_, rfl, _, _, _, [], _, [], hW', trodAll_mk1 (shut_bool Tryd.underlying4 _), (trodAll_cons_mk (Below.trod laidOut (by kernel_rfl) (of_decide_eq_true (by kernel_rfl)) k0 bel lt0) trodAll_mk0), rfl, bel.frame _, fun h => by cases h⟩

theorem over : Rows.shaSaysRow.holds Tryd.pinned (OpenSpec.ofChange Rows.shaSaysSpec) :=
  OpenClaim.holds_of_wide 3 Tryd.f3 rfl rfl rfl rfl rfl rfl rfl ⟨rfl, rfl, rfl, rfl, rfl⟩ rfl rfl rfl rfl rfl (by kernel_rfl) Tryd.func3 (by kernel_rfl)
    (of_decide_eq_true (by kernel_rfl)) (by unfold Func.isWrapper; first | (rw [if_pos (by decide +kernel)]; kernel_rfl) | (rw [if_neg (by decide +kernel)]; exact ⟨rfl, rfl⟩))
    (fun os started H enc _ => lifted os started H enc)

set_option maxRecDepth 100000 in
theorem proved : Rows.ShaSaysCardSaid :=
  Claim7.holds_tied_plain_at .later [] [.data, .data] true Rows.shaSaysCard.stood.harness false over (fun _ h => by cases h) (by kernel_rfl) (fun _ h => by cases h) shaSays_row_tie rfl ⟨rfl, rfl⟩ (by kernel_rfl) rfl
    (fun f fn hf hfn => by
      obtain rfl : f = 3 := Option.some.inj ((show Tryd.prog.funcNamed "escapement/escapementlaw3.ShaSays" = some 3 by kernel_rfl).symm.trans hf) |>.symm
      obtain rfl : fn = Tryd.f3 := (Option.some.inj (Tryd.func3.symm.trans hfn)).symm
      exact ⟨by kernel_rfl, fun j t ht => by
        rw [Tryd.params3] at ht
        have hm : t ∈ ([22] : List TypeId) := by simpa using Array.mem_of_getElem? ht
        have hall : (([22] : List TypeId).all fun u => !Tryd.prog.wantsStandIn u) = true := by kernel_rfl
        exact (show Tryd.prog.wantsStandIn t = false by simpa using List.all_eq_true.1 hall t hm)⟩)
    (by kernel_rfl)
#print axioms proved
end Go.Proofs.YtopchpaiehoilaaDoor.shaSays
