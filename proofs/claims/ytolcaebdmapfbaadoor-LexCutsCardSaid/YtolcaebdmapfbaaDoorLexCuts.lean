/-
  Proved: LexCuts of escapementlaw4 returns true for every input, and leaves what it was handed as it was. No conditions.
-/
import Derived.Test.YtolcaebdmapfbaaDoorRows
import Derived.Test.YtolcaebdmapfbaaDoorArg
import Derived.Test.YtolcaebdmapfbaaDoorQcl
import Derived.Deep.QuietTactic
import Derived.BigQuiet
import Derived.Deep.RegionHeld3
import Derived.WalkKit
import Derived.ProofKit
import Derived.OpenShut
import Derived.ShutString
import Derived.ChangeOld
import Derived.SizedLaws
import Derived.Test.YtolcaebdmapfbaaDoorLtb
import Derived.Test.YtolcaebdmapfbaaDoorTie
import Derived.Test.YtolcaebdmapfbaaDoorCards
import Derived.LaidMore
import Derived.Lay
import Derived.SevenTiedAt
import Derived.Stop.Joined
namespace Go.Proofs.YtolcaebdmapfbaaDoor.lexCuts
open Go.ChangeShapes Go.WideShapes Go.ChangeAt Go.RowKit
open Go.ChangeMaps (open_string shut_string)
set_option linter.unusedVariables false

theorem own : ownKnob Tryd.prog.godebug = none := by kernel_rfl
theorem laidOut : laidOutB Tryd.prog = true := by kernel_rfl

set_option maxHeartbeats 20000000 in
set_option maxRecDepth 100000 in
theorem walk (t : ByteArray) (w : World) (hT : Errs w) (w_t : t.size ≤ 140737488351232) :
    Calls Tryd.prog 3 #[.string t] w fun e w' => e = .returned (.bool true) ∧ Below w.heap.size w w' := by
  have HT := Lib.hid hT
  clear hT
  go_enter Tryd.func3, Tryd.ntmps3
  go_wp2_with fail
  refine (awake_any w HT.out).mono ?_
  rintro e w1 ⟨rfl, hb1⟩
  have HE1 := Lib.hid (HT.out.below hb1 (Nat.le_refl _))
  have HB1 := Lib.hid hb1
  clear hb1
  by_cases c1 : 2000 < t.size
  · have d1 : decide ((2000 : Int) < (t.size : Int)) = true := by simp; omega
    go_wp2_with fail
    go_ret
    exact ⟨rfl, HB1.out⟩
  · have d1 : decide ((2000 : Int) < (t.size : Int)) = false := by simp; omega
    have hcut := Cut_rows t w1 (by omega) HE1.out
    have hrc := fun W => rCut_rows t W (by omega)
    unfold GivesRows at hcut hrc
    have hLb := cutL_len t.data.toList
    rw [show t.data.toList.length = t.size by simp] at hLb
    obtain ⟨L, hL⟩ : ∃ L, L = cutL t.data.toList := ⟨_, rfl⟩
    rw [← hL] at hLb
    obtain ⟨E, hEE⟩ : ∃ E, E = cutE t.data.toList := ⟨_, rfl⟩
    rw [← hL, ← hEE] at hcut
    simp only [← hL, ← hEE] at hrc
    clear hL hEE
    obtain ⟨e1, e2⟩ := E
    obtain ⟨er, her⟩ : ∃ er : Int, er = (e1 : Int) := ⟨_, rfl⟩
    obtain ⟨pl, hpl⟩ : ∃ pl : Int, pl = (e2 : Int) := ⟨_, rfl⟩
    simp only [← her, ← hpl] at hcut hrc
    clear her hpl
    obtain ⟨n3, hn3⟩ : ∃ n, n = L.length := ⟨_, rfl⟩
    rw [← hn3] at hcut
    simp only [← hn3] at hrc
    rw [← hn3] at hLb
    have HN3 := Lib.hid hn3
    have HRC := Lib.hid hrc
    clear hn3 hrc
    go_wp2_with fail
    (with_reducible refine hcut.mono ?_)
    rintro e w2 ⟨hb2, a3, c3, rfl, hr2⟩
    have HB2 := Lib.hid (HB1.out.trans (hb2.mono HB1.out.size))
    have HR2 := Lib.hid hr2
    clear hb2 hr2 hcut
    have hbf : Below w2.heap.size w2 (w2.alloc (.cells #[.int .i64 er, .int .i64 pl] 26)) := (Below.refl _ _).alloc (Nat.le_refl _) _
    have hnf := heap_alloc_new w2 (.cells #[.int .i64 er, .int .i64 pl] 26)
    have hlf : w2.heap.size < (w2.alloc (.cells #[.int .i64 er, .int .i64 pl] 26)).heap.size := by simp
    have BF := Lib.hid hbf
    have NF := Lib.hid hnf
    have LF := Lib.hid hlf
    clear hbf hnf hlf
    go_wp2_with fail
    (with_reducible refine (HRC.out _).mono ?_)
    rintro e w3 ⟨hb3, a5, c5, rfl, hr3⟩
    have hf3 := (hb3.block _ LF.out).trans NF.out
    have hl3 := Nat.lt_of_lt_of_le LF.out hb3.size
    have hB23 := BF.out.trans (hb3.mono BF.out.size)
    have hbg : Below w3.heap.size w3 (w3.alloc (.cells #[.int .i64 er, .int .i64 pl] 30)) := (Below.refl _ _).alloc (Nat.le_refl _) _
    have hng := heap_alloc_new w3 (.cells #[.int .i64 er, .int .i64 pl] 30)
    have hf5 := (hbg.block _ hl3).trans hf3
    have hr25 := (HR2.out.below hB23).below hbg
    have hr35 := hr3.below hbg
    have hB5 := HB2.out.trans ((hB23.trans (hbg.mono hB23.size)).mono HB2.out.size)
    have HR4 := Lib.hid hf5
    have HR6 := Lib.hid hng
    have HRA := Lib.hid hr25
    have HRB := Lib.hid hr35
    have HB5 := Lib.hid hB5
    clear hb3 hr3 hf3 hl3 hB23 hbg hng hf5 hr25 hr35 hB5 BF NF LF HR2 HB2 HB1
    go_wp2_with fail
    obtain ⟨g4, hg4⟩ : ∃ g, g = w2.heap.size := ⟨_, rfl⟩
    obtain ⟨g6, hg6⟩ : ∃ g, g = w3.heap.size := ⟨_, rfl⟩
    rw [← hg4] at HR4 ⊢
    rw [← hg6] at HR6 ⊢
    generalize w3.alloc (.cells #[.int .i64 er, .int .i64 pl] 30) = w5 at HR4 HR6 HRA HRB HB5 ⊢
    clear hg4 hg6
    have HG4 := Lib.hid (Array.getElem?_eq_some_iff.1 HR4.out).1
    have HG6 := Lib.hid (Array.getElem?_eq_some_iff.1 HR6.out).1
    refine wp_region_steps (words [wIs (.agg #[.int .i64 er, .int .i64 pl]), wIs (.agg #[.int .i64 er, .int .i64 pl]), wIs (.agg #[.int .i64 er, .int .i64 pl]), wIs (.bool false), wIs (.bool false), wIs (.slice a3 n3 c3), wIs (.int .i64 (n3 : Int)), wIs (.slice a5 n3 c5), wIs (.int .i64 (n3 : Int)), wIs (.bool false), wIs (.bool false)]) w5.heap.size w5 (by kernel_rfl) (Below.refl _ _) (Nat.le_refl _) (words_stable ?stab) rfl rfl (by kernel_rfl) ?steps ?done
    case stab =>
      intro f hf
      simp only [List.mem_cons, List.not_mem_nil, or_false] at hf
      rcases hf with rfl | rfl | rfl | rfl | rfl | rfl | rfl | rfl | rfl | rfl | rfl <;> first | exact stable_is _
    case steps =>
      refine Steps.cons (step_value rfl fun xa W hp => ?_) ?_
      · have f0 : xa.tmps.getD 4 undef = .pointer (some ⟨g4, 0, none⟩) := hp.old 4 rfl
        exact ⟨wanted_none rfl, _, _, run_ldrow rfl f0 ((hp.below.block g4 HG4.out).trans HR4.out) Tryd.underlying26 rfl (size_fault), rfl, Below.refl _ _⟩
      refine Steps.cons (step_enter rfl fun xa W hp => ?_) ?_
      · have f0 : wIs (.agg #[.int .i64 er, .int .i64 pl]) (xa.tmps.getD 23 undef) W := (hp.on_ 0 rfl rfl rfl).2
        refine ⟨wanted_none rfl, 9, _, run_enter1 rfl rfl Tryd.call9, ?_⟩
        show Calls _ _ #[xa.tmps.getD 23 undef] W _
        rw [show xa.tmps.getD 23 undef = _ from f0]
        exact (rBad_any er pl W).mono (fun e W' ⟨he, hm⟩ => ⟨_, he, rfl, hm⟩)
      refine Steps.cons (step_value rfl fun xa W hp => ?_) ?_
      · have f0 : xa.tmps.getD 6 undef = .pointer (some ⟨g6, 0, none⟩) := hp.old 6 rfl
        exact ⟨wanted_none rfl, _, _, run_ldrow rfl f0 ((hp.below.block g6 HG6.out).trans HR6.out) Tryd.underlying30 rfl (size_bad), rfl, Below.refl _ _⟩
      refine Steps.cons (step_value rfl fun xa W hp => ?_) ?_
      · have f0 : wIs (.agg #[.int .i64 er, .int .i64 pl]) (xa.tmps.getD 24 undef) W := (hp.on_ 1 rfl rfl rfl).2
        have f1 : wIs (.agg #[.int .i64 er, .int .i64 pl]) (xa.tmps.getD 25 undef) W := (hp.on_ 2 rfl rfl rfl).2
        refine ⟨wanted_none rfl, _, _, run_bin3 rfl (v := .bool false) ?_ ?_, rfl, Below.refl _ _⟩
        · show (eqGuard .neq _ _ _ (xa.tmps.getD 24 undef) (xa.tmps.getD 25 undef)).run _ W = _
          rw [show xa.tmps.getD 24 undef = _ from f0, show xa.tmps.getD 25 undef = _ from f1]
          exact run_eqGuard_agg W .neq _ _ _ _ _ (by kernel_rfl)
        · show (binOp .neq _ (xa.tmps.getD 24 undef) (xa.tmps.getD 25 undef)).run _ W = _
          rw [show xa.tmps.getD 24 undef = _ from f0, show xa.tmps.getD 25 undef = _ from f1]
          exact bad_same er pl W
      refine Steps.cons (step_value rfl fun xa W hp => ⟨wanted_none rfl, _, _, run_move (.inl rfl), (hp.on_ 3 rfl rfl rfl).2, Below.refl _ _⟩) ?_
      refine Steps.cons (step_value rfl fun xa W hp => ⟨wanted_some0 rfl rfl rfl (hp.on_ 4 rfl rfl rfl).1 (hp.on_ 4 rfl rfl rfl).2, _, _, run_move (.inl rfl), (hp.old 3 rfl), Below.refl _ _⟩) ?_
      refine Steps.cons (step_value rfl fun xa W hp => ?_) ?_
      · have f1 : wIs (.slice a3 n3 c3) (xa.tmps.getD 28 undef) W := (hp.on_ 5 rfl rfl rfl).2
        exact ⟨wanted_some0 rfl rfl rfl (hp.on_ 4 rfl rfl rfl).1 (hp.on_ 4 rfl rfl rfl).2, _, _, run_lenS rfl Tryd.underlying23 f1, rfl, Below.refl _ _⟩
      refine Steps.cons (step_value rfl fun xa W hp => ⟨wanted_some0 rfl rfl rfl (hp.on_ 4 rfl rfl rfl).1 (hp.on_ 4 rfl rfl rfl).2, _, _, run_move (.inl rfl), (hp.old 5 rfl), Below.refl _ _⟩) ?_
      refine Steps.cons (step_value rfl fun xa W hp => ?_) ?_
      · have f1 : wIs (.slice a5 n3 c5) (xa.tmps.getD 30 undef) W := (hp.on_ 7 rfl rfl rfl).2
        exact ⟨wanted_some0 rfl rfl rfl (hp.on_ 4 rfl rfl rfl).1 (hp.on_ 4 rfl rfl rfl).2, _, _, run_lenS rfl Tryd.underlying29 f1, rfl, Below.refl _ _⟩
      refine Steps.cons (step_value rfl fun xa W hp => ?_) ?_
      · have f0 : wIs (.int .i64 (n3 : Int)) (xa.tmps.getD 29 undef) W := (hp.on_ 6 rfl rfl rfl).2
        have f1 : wIs (.int .i64 (n3 : Int)) (xa.tmps.getD 31 undef) W := (hp.on_ 8 rfl rfl rfl).2
        refine ⟨wanted_some0 rfl rfl rfl (hp.on_ 4 rfl rfl rfl).1 (hp.on_ 4 rfl rfl rfl).2, _, _, run_bin3 rfl (v := .bool false) ?_ ?_, rfl, Below.refl _ _⟩
        · show (eqGuard .neq _ _ _ (xa.tmps.getD 29 undef) (xa.tmps.getD 31 undef)).run _ W = _
          rw [show xa.tmps.getD 29 undef = _ from f0, show xa.tmps.getD 31 undef = _ from f1]
          rfl
        · show (binOp .neq _ (xa.tmps.getD 29 undef) (xa.tmps.getD 31 undef)).run _ W = _
          rw [show xa.tmps.getD 29 undef = _ from f0, show xa.tmps.getD 31 undef = _ from f1]
          simp [go_sem]
      refine Steps.cons (step_value rfl fun xa W hp => ⟨wanted_none rfl, _, _, run_pick0 rfl (hp.on_ 4 rfl rfl rfl).2, (hp.on_ 9 rfl rfl rfl).2, Below.refl _ _⟩) ?_
      exact Steps.nil
    case done =>
      intro xa w6 hI
      have h3 : xa.tmps.getD 3 undef = .slice a3 n3 c3 := hI.old 3 (by simp)
      have h5 : xa.tmps.getD 5 undef = .slice a5 n3 c5 := hI.old 5 (by simp)
      have h33 : xa.tmps.getD 33 undef = .bool false := hI.new 10 _ 33 rfl rfl rfl
      have hsz : xa.tmps.size = 105 := hI.tmps
      have hdf : xa.defers = [] := hI.defers
      have HB6 := Lib.hid (HB5.out.trans (hI.below.mono HB5.out.size))
      have HA6 := Lib.hid (HRA.out.below hI.below)
      have HD6 := Lib.hid (HRB.out.below hI.below)
      obtain ⟨f, hf, hx⟩ := act_eta hsz hdf
      rw [hf] at h3 h5 h33
      clear hI hf hsz hdf
      subst hx
      have hl : ((List.range 105).map f).toArray = #[f 0, f 1, f 2, f 3, f 4, f 5, f 6, f 7, f 8, f 9, f 10, f 11, f 12, f 13, f 14, f 15, f 16, f 17, f 18, f 19, f 20, f 21, f 22, f 23, f 24, f 25, f 26, f 27, f 28, f 29, f 30, f 31, f 32, f 33, f 34, f 35, f 36, f 37, f 38, f 39, f 40, f 41, f 42, f 43, f 44, f 45, f 46, f 47, f 48, f 49, f 50, f 51, f 52, f 53, f 54, f 55, f 56, f 57, f 58, f 59, f 60, f 61, f 62, f 63, f 64, f 65, f 66, f 67, f 68, f 69, f 70, f 71, f 72, f 73, f 74, f 75, f 76, f 77, f 78, f 79, f 80, f 81, f 82, f 83, f 84, f 85, f 86, f 87, f 88, f 89, f 90, f 91, f 92, f 93, f 94, f 95, f 96, f 97, f 98, f 99, f 100, f 101, f 102, f 103, f 104] := rfl
      simp only [Exit.then]
      rw [hl, h3, h5, h33]
      clear hl h3 h5 h33 HRA HRB HB5 HR4 HR6 HG4 HG6
      go_wp2_with fail
      go_loopw [7] (fun vi wr => ∃ i : Nat, vi = .int .i64 (i : Int) ∧ i ≤ n3 ∧ Below w6.heap.size w6 wr) (fun vi _ => n3 - (intOf vi).toNat)
      case atStart => exact ⟨0, rfl, Nat.zero_le _, Below.refl _ _⟩
      case round =>
        obtain ⟨i, rfl, hi, hbr⟩ := hrel
        have HBR := Lib.hid hbr
        clear hbr
        by_cases hlt : i < n3
        · have d4 : decide ((i : Int) < (n3 : Int)) = true := by simp; omega
          have i0 : (0 : Int) ≤ (i : Int) := by omega
          have i1 : (i : Int) < (n3 : Int) := by omega
          have i2 : (i : Int) < 3000 := by omega
          have hil : i < L.length := by rw [← HN3.out]; exact hlt
          obtain ⟨g1, rfl, hg1, x0, x1, x2, x3⟩ := (HA6.out.below HBR.out) i hil
          obtain ⟨g2, rfl, hg2, y0, y1, y2, y3⟩ := (HD6.out.below HBR.out) i hil
          obtain ⟨ck, hck⟩ : ∃ z : Int, z = (L[i].1 : Int) := ⟨_, rfl⟩
          obtain ⟨cn, hcn⟩ : ∃ z : Int, z = L[i].2.2.1 := ⟨_, rfl⟩
          obtain ⟨ca, hca⟩ : ∃ z : Int, z = (L[i].2.2.2 : Int) := ⟨_, rfl⟩
          obtain ⟨T, hT⟩ : ∃ T, T = t.extract L[i].2.2.2 (L[i].2.2.2 + L[i].2.1) := ⟨_, rfl⟩
          rw [← hck] at x0 y0
          rw [← hT] at x1 y1
          rw [← hcn] at x2 y2
          rw [← hca] at x3 y3
          have k1 : (ck != ck) = false := by simp
          have k2 : (cn != cn) = false := by simp
          have k3 : (ca != ca) = false := by simp
          have kp := Lib.hid (fun W => Kept_any T W)
          have rk := Lib.hid (fun W => rKept_any T W)
          obtain ⟨b, hb⟩ : ∃ b, b = keptB T.data.toList := ⟨_, rfl⟩
          rw [← hb] at kp rk
          have k4 : (b != b) = false := by simp
          clear hck hcn hca hT hb
          go_wp2_with fail
          simp only [List.append]
          go_region_held3 (fun w' => w'.cell? ⟨g1, i * 4, none⟩ = some (.int .i64 ck) ∧ w'.cell? ⟨g1, i * 4 + 1, none⟩ = some (.string T) ∧ w'.cell? ⟨g1, i * 4 + 2, none⟩ = some (.int .i64 cn) ∧ w'.cell? ⟨g1, i * 4 + 3, none⟩ = some (.int .i64 ca) ∧ w'.cell? ⟨g2, i * 4, none⟩ = some (.int .i64 ck) ∧ w'.cell? ⟨g2, i * 4 + 1, none⟩ = some (.string T) ∧ w'.cell? ⟨g2, i * 4 + 2, none⟩ = some (.int .i64 cn) ∧ w'.cell? ⟨g2, i * 4 + 3, none⟩ = some (.int .i64 ca)) (first | exact ⟨x0, x1, x2, x3, y0, y1, y2, y3⟩ | exact ⟨(hb7.cell (p := ⟨g1, i * 4, none⟩) hg1).trans x0, (hb7.cell (p := ⟨g1, i * 4 + 1, none⟩) hg1).trans x1, (hb7.cell (p := ⟨g1, i * 4 + 2, none⟩) hg1).trans x2, (hb7.cell (p := ⟨g1, i * 4 + 3, none⟩) hg1).trans x3, (hb7.cell (p := ⟨g2, i * 4, none⟩) hg2).trans y0, (hb7.cell (p := ⟨g2, i * 4 + 1, none⟩) hg2).trans y1, (hb7.cell (p := ⟨g2, i * 4 + 2, none⟩) hg2).trans y2, (hb7.cell (p := ⟨g2, i * 4 + 3, none⟩) hg2).trans y3⟩)
            (first
              | (go_at_call 10; refine (kp.out _).mono ?_; rintro e w' ⟨rfl, rfl⟩)
              | (go_at_call 11; refine (rk.out _).mono ?_; rintro e w' ⟨rfl, hb7⟩))
          have hB7 : Below w6.heap.size w6 w' := (HBR.out.drew).trans (hb7.mono HBR.out.size)
          have HB7 := Lib.hid hB7
          clear hb7 hB7
          go_wp2_with fail
          refine ⟨⟨i + 1, by go_num, by omega, HB7.out⟩, ?_⟩
          simp [intOf]; omega
        · obtain rfl : i = n3 := by omega
          have d4 : decide ((i : Int) < (i : Int)) = false := by simp
          go_wp2_with fail
          go_ret
          exact ⟨rfl, HB6.out.trans (HBR.out.mono HB6.out.size)⟩

set_option maxRecDepth 100000 in
theorem lifted (os : Os) (started : os.Started) (H : Type) (enc : TypeId × Value → H) :
    ReturnsInHanded {} Tryd.checked os 3 .any (fun w args => (Rows.lexCutsSpec.pre enc Tryd.prog Tryd.f3 Rows.lexCutsRow.domain false w args ∧ laidMetH Tryd.prog LAID w) ∧ sizedMet enc Tryd.prog Tryd.f3 (OpenSpec.ofChange Rows.lexCutsSpec) false w args) (Rows.lexCutsSpec.post enc Tryd.prog Tryd.f3 false true false false) := by
  refine returnsInHanded_of_change_and (C := Tryd.checked) (X := fun w _ => laidMetH Tryd.prog LAID w) (fun _ _ _ hh h => h.of_heap hh) own started (by kernel_rfl) Tryd.func3
    (ChangeSpec.witness_shaped (enc := enc) (C := Tryd.checked) (os := os) (X := fun w _ => laidMetH Tryd.prog LAID w) false (World.laidAll Tryd.prog os LAID) #[.string ByteArray.empty] 8 (World.laidAll_os _ _ _)
      (World.shaped_of_ZipB (by kernel_rfl) (by kernel_rfl)) (by kernel_rfl) (by kernel_rfl) (by kernel_rfl)
      (by rw [MakeChecks.laidMetH_plain _ _ _ (by kernel_rfl)]; exact laidMet_laidAll _ (by kernel_rfl) (by kernel_rfl))) ?_
  intro W base args ds gs before hval0 hW hcnd hsz0 hL _
  have hT : Errs W := tab_of (by rw [MakeChecks.laidMetH_plain _ _ _ (by kernel_rfl)] at hL; exact hL)
  have hsz : (DataW.weightsEach Tryd.prog (Tryd.f3.params.toList ++ Rows.lexCutsSpec.plain.varTypes Tryd.prog) (ds ++ gs)).all (· ≤ reachBytes) = true := hsz0
  clear hsz0
  have hval : ∀ (j : Nat) t v, Tryd.f3.params[j]? = some t → args[j]? = some v → Value.okWide Tryd.prog W .any base t v := hval0
  have hW' := hW
  obtain ⟨p, q, hA0, hV, rfl, hfz, hnd⟩ := hW
  have hA : DataW.TrodAll enc Tryd.prog W 0 (fun _ => true) true Tryd.f3.params.toList args.toList ds p := hA0
  rw [Tryd.params3] at hA hval hsz
  obtain ⟨v0, vs0, d0, ds0, p0, q0, hargs, rfl, rfl, h0, r0⟩ := trodAll_cons hA
  obtain ⟨rfl, rfl, rfl⟩ := trodAll_nil r0
  obtain rfl : args = #[v0] := by cases args; simp_all
  obtain ⟨rfl, rfl⟩ := trodVars_none hV
  obtain ⟨t, rfl, rfl, rfl, m_t⟩ := open_string Tryd.underlying9 (hval 0 9 v0 rfl rfl) h0
  have w_t : t.size ≤ 140737488351232 := by have h := sized_string hsz (j := 0) rfl rfl; simpa [reachBytes] using h
  clear hA0 hval0
  refine (walk t W hT w_t).mono fun e W' ⟨he, bel⟩ => ?_
  subst he
  exact ⟨_, rfl, _, _, _, [], _, [], hW', trodAll_mk1 (shut_bool Tryd.underlying4 _), (trodAll_cons_mk (shut_string Tryd.underlying9 m_t) trodAll_mk0), rfl, bel.frame _, fun h => by cases h⟩

theorem over : Rows.lexCutsRow.holds Tryd.pinned (OpenSpec.ofChange Rows.lexCutsSpec) :=
  OpenClaim.holds_of_wide 3 Tryd.f3 rfl rfl rfl rfl rfl rfl rfl ⟨rfl, rfl, rfl, rfl, rfl⟩ rfl rfl rfl rfl rfl (by kernel_rfl) Tryd.func3 (by kernel_rfl)
    (of_decide_eq_true (by kernel_rfl)) (by unfold Func.isWrapper; first | (rw [if_pos (by decide +kernel)]; kernel_rfl) | (rw [if_neg (by decide +kernel)]; exact ⟨rfl, rfl⟩))
    (fun os started H enc _ => lifted os started H enc)

set_option maxRecDepth 100000 in
theorem proved : Rows.LexCutsCardSaid :=
  Claim7.holds_tied_plain_at .later [] [.data, .data, .data, .sentinel, .sentinel] true Rows.lexCutsCard.stood.harness true over (fun _ h => by cases h) (by kernel_rfl) (fun _ h => by cases h) lexCuts_row_tie rfl ⟨rfl, rfl⟩ (by kernel_rfl) rfl
    (fun f fn hf hfn => by
      obtain rfl : f = 3 := Option.some.inj ((show Tryd.prog.funcNamed "escapement/escapementlaw4.LexCuts" = some 3 by kernel_rfl).symm.trans hf) |>.symm
      obtain rfl : fn = Tryd.f3 := (Option.some.inj (Tryd.func3.symm.trans hfn)).symm
      exact ⟨by kernel_rfl, fun j t ht => by
        rw [Tryd.params3] at ht
        have hm : t ∈ ([9] : List TypeId) := by simpa using Array.mem_of_getElem? ht
        have hall : (([9] : List TypeId).all fun u => !Tryd.prog.wantsStandIn u) = true := by kernel_rfl
        exact (show Tryd.prog.wantsStandIn t = false by simpa using List.all_eq_true.1 hall t hm)⟩)
    (by kernel_rfl)
#print axioms proved
end Go.Proofs.YtolcaebdmapfbaaDoor.lexCuts
