/-
  Proved: SumApart of escapementlaw2 returns true for every input, and leaves what it was handed as it was. No conditions.
-/
import Derived.Test.YtdacgdaglbjjeaaDoorRows
import Derived.Test.YtdacgdaglbjjeaaDoorArg
import Derived.Test.YtdacgdaglbjjeaaDoorSawk
import Derived.Test.YtdacgdaglbjjeaaDoorOrd2
import Derived.WalkKit
import Derived.ProofKit
import Derived.OpenShut
import Derived.ShutString
import Derived.ChangeOld
import Derived.SizedLaws
import Derived.Test.YtdacgdaglbjjeaaDoorStab
import Derived.Test.YtdacgdaglbjjeaaDoorTie
import Derived.Test.YtdacgdaglbjjeaaDoorCards
import Derived.LaidMore
import Derived.Lay
import Derived.SevenTiedAt
import Derived.Stop.Joined
namespace Go.Proofs.YtdacgdaglbjjeaaDoor.sumApart
open Go.ChangeShapes Go.WideShapes Go.ChangeAt Go.RowKit
open Go.ChangeMaps (open_string shut_string)
set_option linter.unusedVariables false

theorem own : ownKnob Tryd.prog.godebug = none := by kernel_rfl
theorem laidOut : laidOutB Tryd.prog = true := by kernel_rfl

theorem frames_apart {n m : Nat} {a b : List UInt8} (hn : n < 18446744073709551616) (hm : m < 18446744073709551616) (ha : a.length ≤ 60000) (hb : b.length ≤ 60000) (hle : a.length ≤ b.length) (h : ¬ (n = m ∧ a = b)) : (frameOf n a).take (17 + a.length) ≠ (frameOf m b).take (17 + a.length) := by
  intro e
  have la := frame_length n a
  have lb := frame_length m b
  rw [← la, List.take_length, la] at e
  have t1 := take1_frame hn ha []
  rw [List.append_nil] at t1
  by_cases hlt : a.length < b.length
  · have hc := size1_cut (n := m) hb (k := 17 + a.length) (by omega)
    rw [← e] at hc
    unfold take1 at t1
    rw [if_pos hc] at t1
    have := congrArg (fun x => x.2.2) t1
    simp only at this
    omega
  · have hab : 17 + a.length = (frameOf m b).length := by omega
    rw [hab, List.take_length] at e
    have t2 := take1_frame hm hb []
    rw [List.append_nil, ← e, t1] at t2
    exact h ⟨congrArg Prod.fst t2, congrArg (fun x => x.2.1) t2⟩

theorem ext_toList (L : List UInt8) (X : ByteArray) (hX : X = ⟨L.toArray⟩) (k : Nat) : (X.extract 0 k).toList = L.take k := by
  rw [ByteArray.toList_eq, ByteArray.data_extract, hX]
  simp

set_option maxHeartbeats 8000000 in
set_option maxRecDepth 100000 in
theorem walk (n : Int) (a_a : Option Addr) (c_a : Nat) (a : List UInt8) (m : Int) (a_b : Option Addr) (c_b : Nat) (b : List UInt8) (w : World) (hT : Tab w) (w_n : (Lit.int .u64 n).wf = true) (l_a : a.length ≤ c_a) (m_a : c_a ≤ maxLen) (t_a : Txt w a_a a) (w_m : (Lit.int .u64 m).wf = true) (l_b : b.length ≤ c_b) (m_b : c_b ≤ maxLen) (t_b : Txt w a_b b) :
    Calls Tryd.prog 7 #[.int .u64 n, .slice a_a a.length c_a, .int .u64 m, .slice a_b b.length c_b] w fun e w' => e = .returned (.bool true) ∧ Below w.heap.size w w' := by
  obtain ⟨n0, n1⟩ := u64_wf w_n
  obtain ⟨n, rfl⟩ := Int.eq_ofNat_of_zero_le n0
  have hn : n < 18446744073709551616 := by omega
  obtain ⟨m0, m1⟩ := u64_wf w_m
  obtain ⟨m, rfl⟩ := Int.eq_ofNat_of_zero_le m0
  have hm : m < 18446744073709551616 := by omega
  clear n0 n1 w_n m0 m1 w_m
  have HT := Lib.hid hT
  have HA := Lib.hid t_a
  have HB := Lib.hid t_b
  clear hT t_a t_b
  go_enter Tryd.func7, Tryd.ntmps7
  go_wp2_with fail
  refine (awake_any w HT.out).mono ?_
  rintro e w1 ⟨rfl, hb1⟩
  by_cases ha3 : 300 < a.length
  · go_wp2_with fail
    go_ret
    exact ⟨rfl, hb1⟩
  · by_cases hb3 : 300 < b.length
    · go_wp2_with fail
      go_ret
      exact ⟨rfl, hb1⟩
    · have fA : ∀ W, Below w1.heap.size w1 W → Calls Tryd.prog 12 #[.int .u64 n, .slice a_a a.length c_a] W fun e w' => ∃ v, e = .returned v ∧ wTxt (frameOf n a) v w' ∧ Below W.heap.size W w' := fun W hW =>
        have hbW := hb1.trans (hW.mono hb1.size)
        (Frame_any n a_a c_a a W (HT.out.below hbW (Nat.le_refl _)) hn (HA.out.below hbW) (by omega)).mono fun e w' ⟨h1, h2, h3⟩ => ⟨_, h1, ⟨_, 17 + a.length, by rw [frame_length], h2.txt⟩, h3⟩
      have fB : ∀ W, Below w1.heap.size w1 W → Calls Tryd.prog 12 #[.int .u64 m, .slice a_b b.length c_b] W fun e w' => ∃ v, e = .returned v ∧ wTxt (frameOf m b) v w' ∧ Below W.heap.size W w' := fun W hW =>
        have hbW := hb1.trans (hW.mono hb1.size)
        (Frame_any m a_b c_b b W (HT.out.below hbW (Nat.le_refl _)) hm (HB.out.below hbW) (by omega)).mono fun e w' ⟨h1, h2, h3⟩ => ⟨_, h1, ⟨_, 17 + b.length, by rw [frame_length], h2.txt⟩, h3⟩
      go_wp2_with fail
      refine wp_region_steps (words [wIs (.int .u64 (n : Int)), wIs (.slice a_a a.length c_a), wTxt (frameOf n a), wIs (.string ⟨(frameOf n a).toArray⟩), wIs (.int .u64 (m : Int)), wIs (.slice a_b b.length c_b), wTxt (frameOf m b), wIs (.string ⟨(frameOf m b).toArray⟩), wIs (.string ⟨(frameOf n a).toArray⟩), wIs (.string ⟨(frameOf m b).toArray⟩)]) w1.heap.size w1 (by kernel_rfl) (Below.refl _ _) (Nat.le_refl _) (words_stable ?stab) rfl rfl rfl ?steps ?done
      case stab =>
        intro f hf
        simp only [List.mem_cons, List.not_mem_nil, or_false] at hf
        rcases hf with rfl | rfl | rfl | rfl | rfl | rfl | rfl | rfl | rfl | rfl <;> first | exact stable_is _ | exact stable_txt _
      case steps =>
        refine Steps.cons (step_value rfl fun x W hp => ⟨wanted_none rfl, _, _, run_move (.inl rfl), (hp.old 0 rfl), Below.refl _ _⟩) ?_
        refine Steps.cons (step_value rfl fun x W hp => ⟨wanted_none rfl, _, _, run_move (.inl rfl), (hp.old 1 rfl), Below.refl _ _⟩) ?_
        refine Steps.cons (step_enter rfl fun x W hp => ?_) ?_
        · have f1 : wIs (.int .u64 (n : Int)) (x.tmps.getD 22 undef) W := (hp.on_ 0 rfl rfl rfl).2
          have f2 : wIs (.slice a_a a.length c_a) (x.tmps.getD 23 undef) W := (hp.on_ 1 rfl rfl rfl).2
          refine ⟨wanted_none rfl, 12, _, run_enter2 rfl rfl Tryd.call12, ?_⟩
          show Calls _ _ #[x.tmps.getD 22 undef, x.tmps.getD 23 undef] W _
          rw [show x.tmps.getD 22 undef = _ from f1, show x.tmps.getD 23 undef = _ from f2]
          exact fA W hp.below
        refine Steps.cons (step_value rfl fun x W hp => ?_) ?_
        · have f1 : wTxt (frameOf n a) (x.tmps.getD 24 undef) W := (hp.on_ 2 rfl rfl rfl).2
          obtain ⟨aA, cA, e1, tA⟩ := f1
          refine ⟨wanted_none rfl, .string ⟨(frameOf n a).toArray⟩, W, run_conv rfl ?_, rfl, Below.refl _ _⟩
          show (convert _ _ (x.tmps.getD 24 undef)).run _ W = _
          rw [e1]
          exact run_string W 24 5 9 Tryd.underlying24 Tryd.underlying5 Tryd.underlying9 aA (frameOf n a) cA tA
        refine Steps.cons (step_value rfl fun x W hp => ⟨wanted_none rfl, _, _, run_move (.inl rfl), (hp.old 2 rfl), Below.refl _ _⟩) ?_
        refine Steps.cons (step_value rfl fun x W hp => ⟨wanted_none rfl, _, _, run_move (.inl rfl), (hp.old 3 rfl), Below.refl _ _⟩) ?_
        refine Steps.cons (step_enter rfl fun x W hp => ?_) ?_
        · have f1 : wIs (.int .u64 (m : Int)) (x.tmps.getD 26 undef) W := (hp.on_ 4 rfl rfl rfl).2
          have f2 : wIs (.slice a_b b.length c_b) (x.tmps.getD 27 undef) W := (hp.on_ 5 rfl rfl rfl).2
          refine ⟨wanted_none rfl, 12, _, run_enter2 rfl rfl Tryd.call12, ?_⟩
          show Calls _ _ #[x.tmps.getD 26 undef, x.tmps.getD 27 undef] W _
          rw [show x.tmps.getD 26 undef = _ from f1, show x.tmps.getD 27 undef = _ from f2]
          exact fB W hp.below
        refine Steps.cons (step_value rfl fun x W hp => ?_) ?_
        · have f1 : wTxt (frameOf m b) (x.tmps.getD 28 undef) W := (hp.on_ 6 rfl rfl rfl).2
          obtain ⟨aA, cA, e1, tA⟩ := f1
          refine ⟨wanted_none rfl, .string ⟨(frameOf m b).toArray⟩, W, run_conv rfl ?_, rfl, Below.refl _ _⟩
          show (convert _ _ (x.tmps.getD 28 undef)).run _ W = _
          rw [e1]
          exact run_string W 24 5 9 Tryd.underlying24 Tryd.underlying5 Tryd.underlying9 aA (frameOf m b) cA tA
        refine Steps.cons (step_value rfl fun x W hp => ⟨wanted_none rfl, _, _, run_move (.inr rfl), (hp.on_ 3 rfl rfl rfl).2, Below.refl _ _⟩) ?_
        refine Steps.cons (step_value rfl fun x W hp => ⟨wanted_none rfl, _, _, run_move (.inr rfl), (hp.on_ 7 rfl rfl rfl).2, Below.refl _ _⟩) ?_
        exact Steps.nil
      case done =>
        intro x W hI
        have h9 : x.tmps.getD 9 undef = .string ⟨(frameOf n a).toArray⟩ := hI.new 8 _ 9 rfl rfl rfl
        have h10 : x.tmps.getD 10 undef = .string ⟨(frameOf m b).toArray⟩ := hI.new 9 _ 10 rfl rfl rfl
        have h0 : x.tmps.getD 0 undef = .int .u64 (n : Int) := hI.old 0 (by simp)
        have h1 : x.tmps.getD 1 undef = .slice a_a a.length c_a := hI.old 1 (by simp)
        have h2 : x.tmps.getD 2 undef = .int .u64 (m : Int) := hI.old 2 (by simp)
        have h3 : x.tmps.getD 3 undef = .slice a_b b.length c_b := hI.old 3 (by simp)
        have hsz : x.tmps.size = 58 := hI.tmps
        have hd : x.defers = [] := hI.defers
        have hbW := hb1.trans (hI.below.mono hb1.size)
        clear hI fA fB hb1
        obtain ⟨f, hf, hx⟩ := act_eta hsz hd
        rw [hf] at h9 h10 h0 h1 h2 h3
        clear hsz hd hf
        subst hx
        obtain ⟨X, hX⟩ : ∃ X : ByteArray, X = ⟨(frameOf n a).toArray⟩ := ⟨_, rfl⟩
        obtain ⟨Y, hY⟩ : ∃ Y : ByteArray, Y = ⟨(frameOf m b).toArray⟩ := ⟨_, rfl⟩
        rw [← hX] at h9
        rw [← hY] at h10
        have sX : X.size = 17 + a.length := by rw [hX]; show (frameOf n a).toArray.size = _; rw [List.size_toArray, frame_length]
        have sY : Y.size = 17 + b.length := by rw [hY]; show (frameOf m b).toArray.size = _; rw [List.size_toArray, frame_length]
        have ta := HA.out.below hbW
        have tb := HB.out.below hbW
        have k1 := run_string (P := Tryd.prog) W 24 5 9 Tryd.underlying24 Tryd.underlying5 Tryd.underlying9 a_a a c_a ta
        have k2 := run_string (P := Tryd.prog) W 24 5 9 Tryd.underlying24 Tryd.underlying5 Tryd.underlying9 a_b b c_b tb
        clear ta tb
        have hl : ((List.range 58).map f).toArray = #[f 0, f 1, f 2, f 3, f 4, f 5, f 6, f 7, f 8, f 9, f 10, f 11, f 12, f 13, f 14, f 15, f 16, f 17, f 18, f 19, f 20, f 21, f 22, f 23, f 24, f 25, f 26, f 27, f 28, f 29, f 30, f 31, f 32, f 33, f 34, f 35, f 36, f 37, f 38, f 39, f 40, f 41, f 42, f 43, f 44, f 45, f 46, f 47, f 48, f 49, f 50, f 51, f 52, f 53, f 54, f 55, f 56, f 57] := rfl
        simp only [Exit.then]
        rw [hl, h0, h1, h2, h3, h9, h10]
        clear hl h0 h1 h2 h3 h9 h10
        generalize f 4 = f4
        by_cases hall : n = m ∧ a = b
        · obtain ⟨rfl, rfl⟩ := hall
          have hXY : X = Y := by rw [hX, hY]
          subst hXY
          clear hX hY
          go_wp2_with fail
          go_ret
          exact ⟨rfl, hbW⟩
        · by_cases hlen : b.length < a.length
          · have hap : ¬ (frameOf n a).take (17 + b.length) = (frameOf m b).take (17 + b.length) := fun e => frames_apart hm hn (by omega) (by omega) (by omega) (fun h => hall ⟨h.1.symm, h.2.symm⟩) e.symm
            have hlt : (Y.size : Int) < (X.size : Int) := by omega
            have hne : (!(X.extract 0 (17 + b.length)).toList == (Y.extract 0 (17 + b.length)).toList) = true := by
              rw [ext_toList _ X hX, ext_toList _ Y hY]
              simpa using hap
            clear hX hY hap
            by_cases hnm : n = m
            · subst hnm
              have hab : (a == b) = false := by simpa using fun h => hall ⟨rfl, h⟩
              clear hall
              go_wp2_with fail
              go_quiet (fail)
              go_wp2
              go_ret
              exact ⟨rfl, below_drewN hbW _⟩
            · have hnm' : ((n : Int) == (m : Int)) = false := by simp; omega
              clear hall k1 k2 hnm
              go_wp2_with fail
              go_quiet (fail)
              go_wp2
              go_ret
              exact ⟨rfl, below_drewN hbW _⟩
          · have hap : ¬ (frameOf n a).take (17 + a.length) = (frameOf m b).take (17 + a.length) := frames_apart hn hm (by omega) (by omega) (by omega) hall
            have hge : (X.size : Int) ≤ (Y.size : Int) := by omega
            have hge' : (a.length : Int) ≤ (b.length : Int) := by omega
            have hne : (!(X.extract 0 (17 + a.length)).toList == (Y.extract 0 (17 + a.length)).toList) = true := by
              rw [ext_toList _ X hX, ext_toList _ Y hY]
              simpa using hap
            clear hX hY hap
            by_cases hnm : n = m
            · subst hnm
              have hab : (a == b) = false := by simpa using fun h => hall ⟨rfl, h⟩
              clear hall
              go_wp2_with fail
              go_quiet (fail)
              go_wp2
              go_ret
              exact ⟨rfl, below_drewN hbW _⟩
            · have hnm' : ((n : Int) == (m : Int)) = false := by simp; omega
              clear hall k1 k2 hnm
              go_wp2_with fail
              go_quiet (fail)
              go_wp2
              go_ret
              exact ⟨rfl, below_drewN hbW _⟩

set_option maxRecDepth 100000 in
theorem lifted (os : Os) (started : os.Started) (H : Type) (enc : TypeId × Value → H) :
    ReturnsInHanded {} Tryd.checked os 7 .any (fun w args => (Rows.sumApartSpec.pre enc Tryd.prog Tryd.f7 Rows.sumApartRow.domain false w args ∧ laidMetH Tryd.prog LAID w) ∧ sizedMet enc Tryd.prog Tryd.f7 (OpenSpec.ofChange Rows.sumApartSpec) false w args) (Rows.sumApartSpec.post enc Tryd.prog Tryd.f7 false true false false) := by
  refine returnsInHanded_of_change_and (C := Tryd.checked) (X := fun w _ => laidMetH Tryd.prog LAID w) (fun _ _ _ hh h => h.of_heap hh) own started (by kernel_rfl) Tryd.func7
    (ChangeSpec.witness_shaped (enc := enc) (C := Tryd.checked) (os := os) (X := fun w _ => laidMetH Tryd.prog LAID w) false (World.laidAll Tryd.prog os LAID) #[.int .u64 0, .slice none 0 0, .int .u64 0, .slice none 0 0] 8 (World.laidAll_os _ _ _)
      (World.shaped_of_ZipB (by kernel_rfl) (by kernel_rfl)) (by kernel_rfl) (by kernel_rfl) (by kernel_rfl)
      (by rw [MakeChecks.laidMetH_plain _ _ _ (by kernel_rfl)]; exact laidMet_laidAll _ (by kernel_rfl) (by kernel_rfl))) ?_
  intro W base args ds gs before hval0 hW hcnd hsz0 hL _
  have hT : Tab W := tab_of (by rw [MakeChecks.laidMetH_plain _ _ _ (by kernel_rfl)] at hL; exact hL)
  have hval : ∀ (j : Nat) t v, Tryd.f7.params[j]? = some t → args[j]? = some v → Value.okWide Tryd.prog W .any base t v := hval0
  have hW' := hW
  obtain ⟨p, q, hA0, hV, rfl, hfz, hnd⟩ := hW
  have hA : DataW.TrodAll enc Tryd.prog W 0 (fun _ => true) true Tryd.f7.params.toList args.toList ds p := hA0
  rw [Tryd.params7] at hA hval
  obtain ⟨v0, vs0, d0, ds0, p0, q0, hargs, rfl, rfl, h0, r0⟩ := trodAll_cons hA
  obtain ⟨v1, vs1, d1, ds1, p1, q1, rfl, rfl, rfl, h1, r1⟩ := trodAll_cons r0
  obtain ⟨v2, vs2, d2, ds2, p2, q2, rfl, rfl, rfl, h2, r2⟩ := trodAll_cons r1
  obtain ⟨v3, vs3, d3, ds3, p3, q3, rfl, rfl, rfl, h3, r3⟩ := trodAll_cons r2
  obtain ⟨rfl, rfl, rfl⟩ := trodAll_nil r3
  obtain rfl : args = #[v0, v1, v2, v3] := by cases args; simp_all
  obtain ⟨rfl, rfl⟩ := trodVars_none hV
  obtain ⟨n, rfl, rfl, rfl, w_n⟩ := open_int Tryd.underlying23 (hval 0 23 v0 rfl rfl) h0
  obtain ⟨a_a, len_a, c_a, rfl⟩ := okWide_slice Tryd.underlying24 (hval 1 24 v1 rfl rfl)
  have k1 := h1
  have lt1 : ∀ x ∈ p1, x.block < W.heap.size := by obtain ⟨m, hm⟩ := k1; exact DataW.trod_lt m _ _ _ hm
  obtain ⟨a, n_a, l_a, m_a, t_a⟩ : ∃ a : List UInt8, a.length = len_a ∧ a.length ≤ c_a ∧ c_a ≤ maxLen ∧ Txt W a_a a := by
    obtain ⟨fuel, hf⟩ := h1
    rcases open_ints Tryd.underlying24 Tryd.underlying5 (by kernel_rfl) hf with ⟨hcs, _⟩ | ⟨x, l, c, zs, hcs, _, hl, hm, hz, _, hcell, hwz⟩
    · simp [Value.cells] at hcs
      obtain ⟨rfl, rfl, rfl⟩ := hcs
      exact ⟨[], rfl, Nat.zero_le _, Nat.zero_le _, Txt.nil _ _⟩
    · simp [Value.cells] at hcs
      obtain ⟨rfl, rfl, rfl⟩ := hcs
      have hr := row_some (f := Value.int .u8) hl (by simpa using hz) hcell
      obtain ⟨r, hrl, hrt⟩ := txt_of_row hr.2 (fun n hn => hwz n (List.mem_of_mem_take hn))
      exact ⟨r, hrl.trans hr.1, by rw [hrl, hr.1]; exact hl, hm, hrt⟩
  subst n_a
  obtain ⟨m, rfl, rfl, rfl, w_m⟩ := open_int Tryd.underlying23 (hval 2 23 v2 rfl rfl) h2
  obtain ⟨a_b, len_b, c_b, rfl⟩ := okWide_slice Tryd.underlying24 (hval 3 24 v3 rfl rfl)
  have k3 := h3
  have lt3 : ∀ x ∈ p3, x.block < W.heap.size := by obtain ⟨m, hm⟩ := k3; exact DataW.trod_lt m _ _ _ hm
  obtain ⟨b, n_b, l_b, m_b, t_b⟩ : ∃ b : List UInt8, b.length = len_b ∧ b.length ≤ c_b ∧ c_b ≤ maxLen ∧ Txt W a_b b := by
    obtain ⟨fuel, hf⟩ := h3
    rcases open_ints Tryd.underlying24 Tryd.underlying5 (by kernel_rfl) hf with ⟨hcs, _⟩ | ⟨x, l, c, zs, hcs, _, hl, hm, hz, _, hcell, hwz⟩
    · simp [Value.cells] at hcs
      obtain ⟨rfl, rfl, rfl⟩ := hcs
      exact ⟨[], rfl, Nat.zero_le _, Nat.zero_le _, Txt.nil _ _⟩
    · simp [Value.cells] at hcs
      obtain ⟨rfl, rfl, rfl⟩ := hcs
      have hr := row_some (f := Value.int .u8) hl (by simpa using hz) hcell
      obtain ⟨r, hrl, hrt⟩ := txt_of_row hr.2 (fun n hn => hwz n (List.mem_of_mem_take hn))
      exact ⟨r, hrl.trans hr.1, by rw [hrl, hr.1]; exact hl, hm, hrt⟩
  subst n_b
  clear hA0 hval0
  refine (walk n a_a c_a a m a_b c_b b W hT w_n l_a m_a t_a w_m l_b m_b t_b).mono fun e W' ⟨he, bel⟩ => ?_
  subst he
  exact ⟨_, rfl, _, _, _, [], _, [], hW', trodAll_mk1 (shut_bool Tryd.underlying4 _), (trodAll_cons_mk (shut_int Tryd.underlying23 w_n) (trodAll_cons_mk (Below.trod laidOut (by kernel_rfl) (of_decide_eq_true (by kernel_rfl)) k1 bel lt1) (trodAll_cons_mk (shut_int Tryd.underlying23 w_m) (trodAll_cons_mk (Below.trod laidOut (by kernel_rfl) (of_decide_eq_true (by kernel_rfl)) k3 bel lt3) trodAll_mk0)))), rfl, bel.frame _, fun h => by cases h⟩

theorem over : Rows.sumApartRow.holds Tryd.pinned (OpenSpec.ofChange Rows.sumApartSpec) :=
  OpenClaim.holds_of_wide 7 Tryd.f7 rfl rfl rfl rfl rfl rfl rfl ⟨rfl, rfl, rfl, rfl, rfl⟩ rfl rfl rfl rfl rfl (by kernel_rfl) Tryd.func7 (by kernel_rfl)
    (of_decide_eq_true (by kernel_rfl)) (by unfold Func.isWrapper; first | (rw [if_pos (by decide +kernel)]; kernel_rfl) | (rw [if_neg (by decide +kernel)]; exact ⟨rfl, rfl⟩))
    (fun os started H enc _ => lifted os started H enc)

set_option maxRecDepth 100000 in
theorem proved : Rows.SumApartCardSaid :=
  Claim7.holds_tied_plain_at .later [] [.data] true Rows.sumApartCard.stood.harness false over (fun _ h => by cases h) (by kernel_rfl) (fun _ h => by cases h) sumApart_row_tie rfl ⟨rfl, rfl⟩ (by kernel_rfl) rfl
    (fun f fn hf hfn => by
      obtain rfl : f = 7 := Option.some.inj ((show Tryd.prog.funcNamed "escapement/escapementlaw2.SumApart" = some 7 by kernel_rfl).symm.trans hf) |>.symm
      obtain rfl : fn = Tryd.f7 := (Option.some.inj (Tryd.func7.symm.trans hfn)).symm
      exact ⟨by kernel_rfl, fun j t ht => by
        rw [Tryd.params7] at ht
        have hm : t ∈ ([23, 24, 23, 24] : List TypeId) := by simpa using Array.mem_of_getElem? ht
        have hall : (([23, 24, 23, 24] : List TypeId).all fun u => !Tryd.prog.wantsStandIn u) = true := by kernel_rfl
        exact (show Tryd.prog.wantsStandIn t = false by simpa using List.all_eq_true.1 hall t hm)⟩)
    (by kernel_rfl)
#print axioms proved
end Go.Proofs.YtdacgdaglbjjeaaDoor.sumApart
