/-
  Texts that the statements stand on, part 2.
-/
import Derived.Test.YtophockpjchilaaDoorMa
import Derived.Lib.Strings
import Derived.Deep.DeepCutAuto
import Derived.Lib.VarintMem
import Derived.Deep.CutBlock
import Derived.Deep.QuietTactic
import Derived.BigQuiet
import Derived.Test.YtophockpjchilaaDoorRows
import Derived.Lib.LaidTab
import Derived.Lib.AppendIntMem
import Derived.LaidSub
import Derived.OpenShut
import Derived.ChangeSame
import Derived.Shelf.Strconv.Itoa0
import Derived.Shelf.Strconv.Itoa1
import Derived.Shelf.LaysM
import Derived.Shelf.Strconv.Itoa2
import Derived.Shelf.Strconv.Itoa3
import Derived.Shelf.Bytes.SlEqualAll
import Derived.Shelf.Bytes.Small
import Derived.Test.YtophockpjchilaaDoorProg
import Derived.Deep.MidRow
set_option linter.unusedVariables false
set_option linter.unusedSimpArgs false
namespace Go.Proofs.YtophockpjchilaaDoor
open Go Go.RowKit
theorem info_kindL : (Tryd.prog.info? 48).map (fun i => (i.zero, i.size, i.bytes)) = some (some (.int .i64 0), 1, 8) := by kernel_rfl
theorem info_i64L : (Tryd.prog.info? 2).map (fun i => (i.zero, i.size, i.bytes)) = some (some (.int .i64 0), 1, 8) := by kernel_rfl
set_option maxHeartbeats 2000000 in
set_option maxRecDepth 100000 in
theorem readKinds_any {T : RT} (g : Nat) (s : St) (w : World) (h : Rd T w g s) (hok : ∀ b, T.ok b → b < w.heap.size) (hs : s.1.length ≤ 100000000) :
    Calls Tryd.prog 38 #[.pointer (some ⟨g, 0, none⟩)] w fun e w' => ∃ v, e = .returned v ∧ OwnI 48 w' w.heap.size v (rdLx s).1 ∧ Rd T w' g (rdLx s).2 ∧ w.grownBy w' (some g) := by
  obtain ⟨i0, hi, hz0, hz1, hz2⟩ := info_parts info_kindL
  have HIN := Lib.hid (And.intro hi (And.intro hz0 (And.intro hz1 hz2)))
  have hrn := RU_any g s w h
  have HGL := Lib.hid h.lt
  have HOK := Lib.hid hok
  clear hok
  have hfew : (rdIs (rdU s).1 (rdU s).2).1.length ≤ 100000001 := by have := rdIs_few (rdU s).1 (rdU s).2; have := rdU_le s; omega
  have hN := rdU_lt s
  unfold rdLx
  generalize (rdU s).1 = N at *
  generalize (rdU s).2 = S0 at *
  have HN := Lib.hid hN
  have HFEW := Lib.hid hfew
  clear hi hz0 hz1 hz2 hs h hfew hN
  go_enter Tryd.func38, Tryd.ntmps38
  go_wp2_with fail
  (with_reducible refine hrn.mono ?_)
  rintro e w1 ⟨rfl, hr1, hg1⟩
  clear hrn
  go_wp2_with fail
  obtain ⟨w1', hw1⟩ : ∃ w1' : World, w1' = w1 := ⟨_, rfl⟩
  rw [← hw1] at hr1 hg1 ⊢
  clear hw1 w1
  go_loopw [3, 4] (fun vl vi wr => ∃ (m : Nat) (ks : List Int) (S : St), vi = .int .u64 (m : Int) ∧ m ≤ N ∧ OwnI 48 wr w.heap.size vl ks ∧ Rd T wr g S ∧ w.grownBy wr (some g) ∧ rdIs N S0 = (ks ++ (rdIs m S).1, (rdIs m S).2))
    (fun _ vi _ => (intOf vi).toNat)
  case atStart => exact ⟨N, [], S0, rfl, Nat.le_refl _, World.ownsRow_nil _ _ _ _, hr1, hg1, by simp⟩
  case round =>
    clear hr1 hg1
    obtain ⟨m, ks, S, rfl, hmN, hown, hr, hgr, heq⟩ := hrel
    have HR := Lib.hid hr
    have HGR := Lib.hid hgr
    have HO := Lib.hid hown
    have HE := Lib.hid heq
    have HI := Lib.hid hmN
    have kB := Bad_any g S wr hr
    obtain ⟨bad, hbad⟩ : ∃ bad, bad = S.2 := ⟨_, rfl⟩
    rw [← hbad] at kB
    have HBAD := Lib.hid hbad
    clear hr hgr hown heq hbad hmN
    by_cases hil : 0 < m
    · have d1 : decide ((0 : Int) < (m : Int)) = true := by simp; omega
      have HIL := Lib.hid hil
      clear hil
      cases bad with
      | true =>
        have hfin := HE.out
        rw [rdIs_bad _ HBAD.out.symm, List.append_nil] at hfin
        have HF := Lib.hid hfin
        clear hfin
        go_wp2_with fail
        (with_reducible refine kB.mono ?_)
        rintro e w2 ⟨rfl, rfl⟩
        clear kB
        go_wp2_with fail
        go_ret
        exact ⟨_, rfl, by rw [HF.out]; exact HO.out, by rw [HF.out]; exact HR.out, HGR.out⟩
      | false =>
        have hst := HE.out
        obtain ⟨q, rfl⟩ : ∃ q, m = q + 1 := ⟨m - 1, by have := HIL.out; omega⟩
        rw [rdIs_step _ HBAD.out.symm] at hst
        have kI := RI_any g S wr HR.out
        have hok := rdI_ok S
        generalize (rdI S).1 = x at *
        generalize (rdI S).2 = S1 at *
        have hst2 : rdIs N S0 = ((ks ++ [x]) ++ (rdIs q S1).1, (rdIs q S1).2) := by rw [hst]; simp
        have hkl : ks.length + 1 ≤ 100000001 := by
          have := HFEW.out
          rw [hst2] at this
          simp only [List.length_append, List.length_singleton] at this
          omega
        have HKL := Lib.hid hkl
        have HST := Lib.hid hst2
        obtain ⟨xv, cv, rfl, hcv⟩ := HO.out.form
        have HQ : Hid (q < 18446744073709551615) := Lib.hid (by have := HI.out; have := HN.out; omega)
        clear hst hst2 hok hcv hkl
        go_wp2_with fail
        (with_reducible refine kB.mono ?_)
        rintro e w2 ⟨rfl, rfl⟩
        clear kB d1
        go_wp2_with fail
        (with_reducible refine kI.mono ?_)
        rintro e w2 ⟨rfl, hr2, hg2⟩
        have HR2 := Lib.hid hr2
        have HG2 := Lib.hid (grown_trans HGR.out hg2)
        have hO2 := own_keep14 HO.out hg2 HGL.out
        clear kI hr2
        go_wp2_with (at_builtin; refine wpList_append_own _ rfl _ _ 23 rfl w.heap.size 48 i0 (.int .i64 0) 1 8 Tryd.underlying23 HIN.out.1 HIN.out.2.1 HIN.out.2.2.1 HIN.out.2.2.2 rfl (by decide) _ _ _ rfl (hO2.alloc _) ⟨w2.heap.size, 0, none⟩ 1 1 [Value.int .i64 x] rfl rfl ?d1 ?d2 ?d3 ?d4 ?d5 ?_)
        case d1 =>
          intro j u hj
          match j, hj with
          | 0, hj => simp at hj; subst hj; simp [Addr.add]
        case d2 => intro u hu; simp at hu; subst hu; rfl
        case d3 => unfold maxLen; have := HKL.out; omega
        case d4 => have := HKL.out; omega
        case d5 => have := HG2.out.size; simp; omega
        intro v' w3 hown' hgrow _
        have hal : Below w2.heap.size w2 (w2.alloc (.cells #[.int .i64 x] 48)) := (Below.refl _ _).alloc (Nat.le_refl _) _
        have hlt := World.ownsRow.lt hO2
        have hr3 := (HR2.out.below hal).apart HOK.out HGL.out hgrow (fun k hk => (hlt k hk).1)
        have hg3 := grown_own14 HG2.out hal hgrow (fun k hk => (hlt k hk).1)
        have HR3 := Lib.hid hr3
        clear hal hlt hr3 hgrow hO2
        go_wp2_with fail
        have hwr : IntKind.u64.wrap ((q : Nat) : Int) = ((q : Nat) : Int) := by have := HQ.out; simp [IntKind.wrap, IntKind.bits, IntKind.signed]; omega
        rw [hwr]
        refine ⟨⟨q, ks ++ [x], S1, rfl, by have := HI.out; omega, ?_, HR3.out, hg3, HST.out⟩, ?_⟩
        · unfold OwnI intsC
          rw [List.length_append, List.map_append]
          exact hown'
        · simp [intOf]
    · obtain rfl : m = 0 := by omega
      have hfin := HE.out
      have hfin2 : rdIs N S0 = (ks, S) := by rw [hfin]; simp [rdIs]
      have HF := Lib.hid hfin2
      clear hfin hfin2 hil kB
      go_wp2_with fail
      go_ret
      exact ⟨_, rfl, by rw [HF.out]; exact HO.out, by rw [HF.out]; exact HR.out, HGR.out⟩
set_option maxHeartbeats 2000000 in
set_option maxRecDepth 100000 in
theorem readConsts_any {T : RT} (g : Nat) (s : St) (w : World) (h : Rd T w g s) (hok : ∀ b, T.ok b → b < w.heap.size) (hs : s.1.length ≤ 100000000) :
    Calls Tryd.prog 39 #[.pointer (some ⟨g, 0, none⟩)] w fun e w' => ∃ v, e = .returned v ∧ OwnI 2 w' w.heap.size v (rdLx s).1 ∧ Rd T w' g (rdLx s).2 ∧ w.grownBy w' (some g) := by
  obtain ⟨i0, hi, hz0, hz1, hz2⟩ := info_parts info_i64L
  have HIN := Lib.hid (And.intro hi (And.intro hz0 (And.intro hz1 hz2)))
  have hrn := RU_any g s w h
  have HGL := Lib.hid h.lt
  have HOK := Lib.hid hok
  clear hok
  have hfew : (rdIs (rdU s).1 (rdU s).2).1.length ≤ 100000001 := by have := rdIs_few (rdU s).1 (rdU s).2; have := rdU_le s; omega
  have hN := rdU_lt s
  unfold rdLx
  generalize (rdU s).1 = N at *
  generalize (rdU s).2 = S0 at *
  have HN := Lib.hid hN
  have HFEW := Lib.hid hfew
  clear hi hz0 hz1 hz2 hs h hfew hN
  go_enter Tryd.func39, Tryd.ntmps39
  go_wp2_with fail
  (with_reducible refine hrn.mono ?_)
  rintro e w1 ⟨rfl, hr1, hg1⟩
  clear hrn
  go_wp2_with fail
  obtain ⟨w1', hw1⟩ : ∃ w1' : World, w1' = w1 := ⟨_, rfl⟩
  rw [← hw1] at hr1 hg1 ⊢
  clear hw1 w1
  go_loopw [3, 4] (fun vl vi wr => ∃ (m : Nat) (ks : List Int) (S : St), vi = .int .u64 (m : Int) ∧ m ≤ N ∧ OwnI 2 wr w.heap.size vl ks ∧ Rd T wr g S ∧ w.grownBy wr (some g) ∧ rdIs N S0 = (ks ++ (rdIs m S).1, (rdIs m S).2))
    (fun _ vi _ => (intOf vi).toNat)
  case atStart => exact ⟨N, [], S0, rfl, Nat.le_refl _, World.ownsRow_nil _ _ _ _, hr1, hg1, by simp⟩
  case round =>
    clear hr1 hg1
    obtain ⟨m, ks, S, rfl, hmN, hown, hr, hgr, heq⟩ := hrel
    have HR := Lib.hid hr
    have HGR := Lib.hid hgr
    have HO := Lib.hid hown
    have HE := Lib.hid heq
    have HI := Lib.hid hmN
    have kB := Bad_any g S wr hr
    obtain ⟨bad, hbad⟩ : ∃ bad, bad = S.2 := ⟨_, rfl⟩
    rw [← hbad] at kB
    have HBAD := Lib.hid hbad
    clear hr hgr hown heq hbad hmN
    by_cases hil : 0 < m
    · have d1 : decide ((0 : Int) < (m : Int)) = true := by simp; omega
      have HIL := Lib.hid hil
      clear hil
      cases bad with
      | true =>
        have hfin := HE.out
        rw [rdIs_bad _ HBAD.out.symm, List.append_nil] at hfin
        have HF := Lib.hid hfin
        clear hfin
        go_wp2_with fail
        (with_reducible refine kB.mono ?_)
        rintro e w2 ⟨rfl, rfl⟩
        clear kB
        go_wp2_with fail
        go_ret
        exact ⟨_, rfl, by rw [HF.out]; exact HO.out, by rw [HF.out]; exact HR.out, HGR.out⟩
      | false =>
        have hst := HE.out
        obtain ⟨q, rfl⟩ : ∃ q, m = q + 1 := ⟨m - 1, by have := HIL.out; omega⟩
        rw [rdIs_step _ HBAD.out.symm] at hst
        have kI := RI_any g S wr HR.out
        have hok := rdI_ok S
        generalize (rdI S).1 = x at *
        generalize (rdI S).2 = S1 at *
        have hst2 : rdIs N S0 = ((ks ++ [x]) ++ (rdIs q S1).1, (rdIs q S1).2) := by rw [hst]; simp
        have hkl : ks.length + 1 ≤ 100000001 := by
          have := HFEW.out
          rw [hst2] at this
          simp only [List.length_append, List.length_singleton] at this
          omega
        have HKL := Lib.hid hkl
        have HST := Lib.hid hst2
        obtain ⟨xv, cv, rfl, hcv⟩ := HO.out.form
        have HQ : Hid (q < 18446744073709551615) := Lib.hid (by have := HI.out; have := HN.out; omega)
        clear hst hst2 hok hcv hkl
        go_wp2_with fail
        (with_reducible refine kB.mono ?_)
        rintro e w2 ⟨rfl, rfl⟩
        clear kB d1
        go_wp2_with fail
        (with_reducible refine kI.mono ?_)
        rintro e w2 ⟨rfl, hr2, hg2⟩
        have HR2 := Lib.hid hr2
        have HG2 := Lib.hid (grown_trans HGR.out hg2)
        have hO2 := own_keep14 HO.out hg2 HGL.out
        clear kI hr2
        go_wp2_with (at_builtin; refine wpList_append_own _ rfl _ _ 24 rfl w.heap.size 2 i0 (.int .i64 0) 1 8 Tryd.underlying24 HIN.out.1 HIN.out.2.1 HIN.out.2.2.1 HIN.out.2.2.2 rfl (by decide) _ _ _ rfl (hO2.alloc _) ⟨w2.heap.size, 0, none⟩ 1 1 [Value.int .i64 x] rfl rfl ?d1 ?d2 ?d3 ?d4 ?d5 ?_)
        case d1 =>
          intro j u hj
          match j, hj with
          | 0, hj => simp at hj; subst hj; simp [Addr.add]
        case d2 => intro u hu; simp at hu; subst hu; rfl
        case d3 => unfold maxLen; have := HKL.out; omega
        case d4 => have := HKL.out; omega
        case d5 => have := HG2.out.size; simp; omega
        intro v' w3 hown' hgrow _
        have hal : Below w2.heap.size w2 (w2.alloc (.cells #[.int .i64 x] 2)) := (Below.refl _ _).alloc (Nat.le_refl _) _
        have hlt := World.ownsRow.lt hO2
        have hr3 := (HR2.out.below hal).apart HOK.out HGL.out hgrow (fun k hk => (hlt k hk).1)
        have hg3 := grown_own14 HG2.out hal hgrow (fun k hk => (hlt k hk).1)
        have HR3 := Lib.hid hr3
        clear hal hlt hr3 hgrow hO2
        go_wp2_with fail
        have hwr : IntKind.u64.wrap ((q : Nat) : Int) = ((q : Nat) : Int) := by have := HQ.out; simp [IntKind.wrap, IntKind.bits, IntKind.signed]; omega
        rw [hwr]
        refine ⟨⟨q, ks ++ [x], S1, rfl, by have := HI.out; omega, ?_, HR3.out, hg3, HST.out⟩, ?_⟩
        · unfold OwnI intsC
          rw [List.length_append, List.map_append]
          exact hown'
        · simp [intOf]
    · obtain rfl : m = 0 := by omega
      have hfin := HE.out
      have hfin2 : rdIs N S0 = (ks, S) := by rw [hfin]; simp [rdIs]
      have HF := Lib.hid hfin2
      clear hfin hfin2 hil kB
      go_wp2_with fail
      go_ret
      exact ⟨_, rfl, by rw [HF.out]; exact HO.out, by rw [HF.out]; exact HR.out, HGR.out⟩
theorem readInt_any {T : RT} (g : Nat) (s : St) (w : World) (h : Rd T w g s) :
    Calls Tryd.prog 50 #[.pointer (some ⟨g, 0, none⟩)] w fun e w' => e = .returned (.int .i64 (rdI s).1) ∧ Rd T w' g (rdI s).2 ∧ w.grownBy w' (some g) := by
  have k1 := RI_any g s w h
  go_enter Tryd.func50, Tryd.ntmps50
  go_wp2_with fail
  (with_reducible refine k1.mono ?_)
  rintro e w1 ⟨rfl, hr, hg⟩
  go_wp2_with fail
  go_ret
  exact ⟨rfl, hr, hg⟩
set_option maxHeartbeats 4000000 in
set_option maxRecDepth 100000 in
theorem readCode_any {T : RT} (g : Nat) (s : St) (w : World) (h : Rd T w g s) (hok : ∀ b, T.ok b → b < w.heap.size) (hs : s.1.length ≤ 100000000) :
    Calls Tryd.prog 40 #[.pointer (some ⟨g, 0, none⟩)] w fun e w' => ∃ v, e = .returned v ∧ OwnX w' w.heap.size v (rdCx s).1 ∧ Rd T w' g (rdCx s).2 ∧ w.grownBy w' (some g) := by
  obtain ⟨i4, z4, hi, hz0, hz1, hz2, hz3⟩ := info_in4
  have HIN4 := Lib.hid (And.intro hi (And.intro hz0 (And.intro hz1 (And.intro hz2 hz3))))
  have hrn := RU_any g s w h
  have HGL := Lib.hid h.lt
  have HOK := Lib.hid hok
  clear hok
  have hfew : (rdXs (rdU s).1 (rdU s).2).1.length ≤ 100000001 := by have := rdXs_few (rdU s).1 (rdU s).2; have := rdU_le s; omega
  have hN := rdU_lt s
  unfold rdCx
  generalize (rdU s).1 = N at *
  generalize (rdU s).2 = S0 at *
  have HN := Lib.hid hN
  have HFEW := Lib.hid hfew
  clear hi hz0 hz1 hz2 hz3 hs h hfew hN
  go_enter Tryd.func40, Tryd.ntmps40
  go_wp2_with fail
  (with_reducible refine hrn.mono ?_)
  rintro e w1 ⟨rfl, hr1, hg1⟩
  clear hrn
  go_wp2_with fail
  obtain ⟨w1', hw1⟩ : ∃ w1' : World, w1' = w1 := ⟨_, rfl⟩
  rw [← hw1] at hr1 hg1 ⊢
  clear hw1 w1
  go_loopw [3, 4] (fun vl vi wr => ∃ (m : Nat) (ks : List In4) (S : St), vi = .int .u64 (m : Int) ∧ m ≤ N ∧ OwnX wr w.heap.size vl ks ∧ Rd T wr g S ∧ w.grownBy wr (some g) ∧ rdXs N S0 = (ks ++ (rdXs m S).1, (rdXs m S).2))
    (fun _ vi _ => (intOf vi).toNat)
  case atStart => exact ⟨N, [], S0, rfl, Nat.le_refl _, World.ownsRow_nil _ _ _ _, hr1, hg1, by simp⟩
  case round =>
    clear hr1 hg1
    obtain ⟨m, ks, S, rfl, hmN, hown, hr, hgr, heq⟩ := hrel
    have HR := Lib.hid hr
    have HGR := Lib.hid hgr
    have HO := Lib.hid hown
    have HE := Lib.hid heq
    have HI := Lib.hid hmN
    have kB := Bad_any g S wr hr
    obtain ⟨bad, hbad⟩ : ∃ bad, bad = S.2 := ⟨_, rfl⟩
    rw [← hbad] at kB
    have HBAD := Lib.hid hbad
    clear hr hgr hown heq hbad hmN
    by_cases hil : 0 < m
    · have d1 : decide ((0 : Int) < (m : Int)) = true := by simp; omega
      have HIL := Lib.hid hil
      clear hil
      cases bad with
      | true =>
        have hfin := HE.out
        rw [rdXs_bad _ HBAD.out.symm, List.append_nil] at hfin
        have HF := Lib.hid hfin
        clear hfin
        go_wp2_with fail
        (with_reducible refine kB.mono ?_)
        rintro e w2 ⟨rfl, rfl⟩
        clear kB
        go_wp2_with fail
        go_ret
        exact ⟨_, rfl, by rw [HF.out]; exact HO.out, by rw [HF.out]; exact HR.out, HGR.out⟩
      | false =>
        have hst := HE.out
        obtain ⟨q, rfl⟩ : ∃ q, m = q + 1 := ⟨m - 1, by have := HIL.out; omega⟩
        rw [rdXs_step _ HBAD.out.symm] at hst
        have hkl : ks.length + 1 ≤ 100000001 := by
          have := HFEW.out
          rw [hst] at this
          simp only [List.length_append, List.length_cons] at this
          omega
        have HKL := Lib.hid hkl
        have HQ : Hid (q < 18446744073709551615) := Lib.hid (by have := HI.out; have := HN.out; omega)
        obtain ⟨xv, cv, rfl, _, _, _⟩ := CRow.of_own HO.out (Nat.le_refl _)
        have HST := Lib.hid hst
        clear hst hkl
        go_wp2_with fail
        (with_reducible refine kB.mono ?_)
        rintro e w2 ⟨rfl, rfl⟩
        clear kB d1
        have kI := readInt_any g S wr HR.out
        unfold rdX at HST
        obtain ⟨y0, hy0⟩ : ∃ y, y = (rdI S).1 := ⟨_, rfl⟩
        obtain ⟨S1, hS1⟩ : ∃ y, y = (rdI S).2 := ⟨_, rfl⟩
        rw [← hy0, ← hS1] at kI HST
        obtain ⟨y1, hy1⟩ : ∃ y, y = (rdI S1).1 := ⟨_, rfl⟩
        obtain ⟨S2, hS2⟩ : ∃ y, y = (rdI S1).2 := ⟨_, rfl⟩
        rw [← hy1, ← hS2] at HST
        obtain ⟨y2, hy2⟩ : ∃ y, y = (rdI S2).1 := ⟨_, rfl⟩
        obtain ⟨S3, hS3⟩ : ∃ y, y = (rdI S2).2 := ⟨_, rfl⟩
        rw [← hy2, ← hS3] at HST
        obtain ⟨y3, hy3⟩ : ∃ y, y = (rdI S3).1 := ⟨_, rfl⟩
        obtain ⟨S4, hS4⟩ : ∃ y, y = (rdI S3).2 := ⟨_, rfl⟩
        rw [← hy3, ← hS4] at HST
        clear hy0 hS1
        go_wp2_with fail
        (with_reducible refine kI.mono ?_)
        rintro e u1 ⟨rfl, hr1, hg1⟩
        clear kI
        have kI := readInt_any g S1 u1 hr1
        rw [← hy1, ← hS2] at kI
        have HW1 := Lib.hid hg1
        clear hr1 hg1 hy1 hS2
        go_wp2_with fail
        (with_reducible refine kI.mono ?_)
        rintro e u2 ⟨rfl, hr1, hg1⟩
        clear kI
        have kI := readInt_any g S2 u2 hr1
        rw [← hy2, ← hS3] at kI
        have HW2 := Lib.hid (grown_trans HW1.out hg1)
        clear hr1 hg1 hy2 hS3
        go_wp2_with fail
        (with_reducible refine kI.mono ?_)
        rintro e u3 ⟨rfl, hr1, hg1⟩
        clear kI
        have kI := readInt_any g S3 u3 hr1
        rw [← hy3, ← hS4] at kI
        have HW3 := Lib.hid (grown_trans HW2.out hg1)
        clear hr1 hg1 hy3 hS4
        go_wp2_with fail
        (with_reducible refine kI.mono ?_)
        rintro e u4 ⟨rfl, hr1, hg1⟩
        clear kI
        have HR4 := Lib.hid hr1
        have hW4 := grown_trans HW3.out hg1
        have HG4 := Lib.hid (grown_trans HGR.out hW4)
        have hO4 : OwnX u4 w.heap.size (.slice xv ks.length cv) ks := own_keep14 HO.out hW4 HGL.out
        have hal : Below u4.heap.size u4 (u4.alloc (.cells #[.int .i64 y0, .int .i64 y1, .int .i64 y2, .int .i64 y3] 36)) := (Below.refl _ _).alloc (Nat.le_refl _) _
        have HO5 : Hid (OwnX (u4.alloc (.cells #[.int .i64 y0, .int .i64 y1, .int .i64 y2, .int .i64 y3] 36)) w.heap.size (.slice xv ks.length cv) ks) := Lib.hid (own_below hO4 hal)
        have H5 := Lib.hid (heap_alloc_new u4 (.cells #[.int .i64 y0, .int .i64 y1, .int .i64 y2, .int .i64 y3] 36))
        have HAL := Lib.hid hal
        have hlt := World.ownsRow.lt hO4
        have HLT := Lib.hid hlt
        have bs4 : ∀ W : World, (Instr.buildSlice 25 1 #[(0, .agg #[.int .i64 y0, .int .i64 y1, .int .i64 y2, .int .i64 y3])]).run Tryd.prog W = .ok (.slice (some ⟨W.heap.size, 0, none⟩) 1 1) (W.alloc (.cells #[.int .i64 y0, .int .i64 y1, .int .i64 y2, .int .i64 y3] 36)) := fun W => by kernel_rfl
        clear hr1 hg1 hW4 hO4 hal hlt
        go_wp2_with (at_builtin; refine wpList_append_own _ rfl (.tmp 16) (.tmp 26) 25 rfl w.heap.size 36 i4 z4 4 32 Tryd.underlying25 HIN4.out.1 HIN4.out.2.1 HIN4.out.2.2.1 HIN4.out.2.2.2.1 HIN4.out.2.2.2.2 (by decide) _ _ _ rfl HO5.out ⟨u4.heap.size, 0, none⟩ 1 1 [.int .i64 y0, .int .i64 y1, .int .i64 y2, .int .i64 y3] rfl rfl ?d1 ?d2 ?d3 ?d4 ?d5 ?_)
        case d1 =>
          have hq := fun j => cell_of_row _ u4.heap.size j _ _ _ H5.out
          intro j u hj
          rw [Addr.add_lit, Nat.zero_add, hq j]
          match j, hj with
          | 0, hj => exact hj
          | 1, hj => exact hj
          | 2, hj => exact hj
          | 3, hj => exact hj
          | _ + 4, hj => simp at hj
        case d2 => intro u hu; simp only [List.mem_cons, List.not_mem_nil, or_false] at hu; rcases hu with rfl | rfl | rfl | rfl <;> rfl
        case d3 => unfold maxLen; have := HKL.out; omega
        case d4 => have := HKL.out; omega
        case d5 => exact Nat.le_trans HG4.out.size HAL.out.size
        intro v' w6 hown' hgrow _
        obtain ⟨K, hK⟩ : ∃ K, K = ks ++ [(⟨y0, y1, y2, y3⟩ : In4)] := ⟨_, rfl⟩
        have hKl : K.length = ks.length + 1 := by rw [hK, List.length_append]; rfl
        have hox : OwnX w6 w.heap.size v' K := by
          unfold OwnX
          rw [hKl, hK]
          have e : in4sC (ks ++ [(⟨y0, y1, y2, y3⟩ : In4)]) = in4sC ks ++ [.int .i64 y0, .int .i64 y1, .int .i64 y2, .int .i64 y3] := by unfold in4sC; rw [List.flatMap_append]; rfl
          rw [e]
          exact hown'
        have hst2 : rdXs N S0 = (K ++ (rdXs q S4).1, (rdXs q S4).2) := by rw [HST.out, hK]; simp
        have hr6 := (HR4.out.below HAL.out).apart HOK.out HGL.out hgrow (fun k hk => (HLT.out k hk).1)
        have hg6 := grown_own14 HG4.out HAL.out hgrow (fun k hk => (HLT.out k hk).1)
        have HST2 := Lib.hid hst2
        have HR6 := Lib.hid hr6
        clear hown' hgrow hK hKl hst2 hr6 bs4
        go_wp2_with fail
        have hwr : IntKind.u64.wrap ((q : Nat) : Int) = ((q : Nat) : Int) := by have := HQ.out; simp [IntKind.wrap, IntKind.bits, IntKind.signed]; omega
        rw [hwr]
        refine ⟨⟨q, K, S4, rfl, by have := HI.out; omega, hox, HR6.out, hg6, HST2.out⟩, ?_⟩
        simp [intOf]
    · obtain rfl : m = 0 := by omega
      have hfin := HE.out
      have hfin2 : rdXs N S0 = (ks, S) := by rw [hfin]; simp [rdXs]
      have HF := Lib.hid hfin2
      clear hfin hfin2 hil kB
      go_wp2_with fail
      go_ret
      exact ⟨_, rfl, by rw [HF.out]; exact HO.out, by rw [HF.out]; exact HR.out, HGR.out⟩
end Go.Proofs.YtophockpjchilaaDoor

namespace Go.Proofs.YtophockpjchilaaDoor
open Go Go.RowKit
/-- What Decode tells: a program, and whether it is one. -/
def GivesDec (w : World) (l : List UInt8) (e : Ending) (w' : World) : Prop :=
  ∃ x0 x1 x2 x3 x4 x5 c0 c1 c2 c3 c4 c5, e = .returned (.tuple #[pgV (decR l) x0 x1 x2 x3 x4 x5 c0 c1 c2 c3 c4 c5, .bool (decide (enc (decP l) = l))]) ∧ PgIn w' (decR l) x0 x1 x2 x3 x4 x5 ∧ Below w.heap.size w w'
theorem size_prog : (Tryd.prog.info? 27).map (·.size) = some 6 := by kernel_rfl
theorem prog_one (a b c d e f : Option Addr) (n m k i j l : Nat) (n' m' k' i' j' l' : Nat) : (#[.slice a n n', .slice b m m', .slice c k k', .slice d i i', .slice e j j', .slice f l l'] : Array Value).all (·.oneCell') = true := by simp [Value.oneCell']
theorem info_i64c : (Tryd.prog.info? 2).map (fun i => (i.zero, i.size, i.bytes)) = some (some (.int .i64 0), 1, 8) := by kernel_rfl
theorem sl_oneI (k : Int) (W : World) : (Instr.buildSlice 24 1 #[(0, .int .i64 k)]).run Tryd.prog W = .ok (.slice (some ⟨W.heap.size, 0, none⟩) 1 1) (W.alloc (.cells #[.int .i64 k] 2)) := by kernel_rfl
def wE14 (E : List UInt8) (v : Value) (W : World) : Prop := ∃ a c, v = .slice a E.length c ∧ Txt W a E
theorem stable_e14 (E : List UInt8) : Stable (wE14 E) := fun _ _ _ ⟨a, c, h1, h2⟩ hb => ⟨a, c, h1, h2.below hb⟩
theorem run_len14 {P : Program} {W : World} {o : Oper} {ρ : Operand → Value} {t e : TypeId} {x : Operand} {a : Option Addr} {n c : Nat} (ho : o.op = .call { callee := .builtin .len, args := #[x], argTypes := #[t] }) (ht : P.underlying t = some (.slice e)) (hx : ρ x = .slice a n c) : (execOp ρ o).run P W = .ok (.value (.int .i64 (n : Int))) W := by
  have he : P.elem t = e := by simp [Program.elem, ht]
  have ht' : P.underlying t = some (.slice (P.elem t)) := by rw [he]; exact ht
  unfold execOp
  simp only [ho, resolve, invoke, builtin, Sem.run_bind, Sem.run_pure, Result.andThen_ok, List.map_toArray, List.map_cons, List.map_nil, hx, run_len_slice W t o.type a n c ht']
  rfl
theorem setRow_other14 (w : World) (g : Nat) (cs : Array Value) (k : Nat) (h : k ≠ g) : (w.setRow g cs).heap[k]? = w.heap[k]? := by
  simp [World.setRow, Array.getElem?_modify, Ne.symm h]
theorem decR_no {l : List UInt8} (h : ¬ enc (decP l) = l) : decR l = noPg := by unfold decR; rw [if_neg h]
theorem gives_no {w w' : World} {l : List UInt8} {e : Ending} (h : ¬ enc (decP l) = l) (he : e = .returned (.tuple #[.agg #[.slice none 0 0, .slice none 0 0, .slice none 0 0, .slice none 0 0, .slice none 0 0, .slice none 0 0], .bool false])) (hb : Below w.heap.size w w') : GivesDec w l e w' := by
  have hn := decR_no h
  refine ⟨none, none, none, none, none, none, 0, 0, 0, 0, 0, 0, ?_, ?_, hb⟩
  · rw [he, hn, decide_eq_false h]; rfl
  · rw [hn]
    exact ⟨Row.nil _ _ _, Row.nil _ _ _, Row.nil _ _ _, Row.nil _ _ _, Row.nil _ _ _, fun h => absurd rfl h⟩
set_option maxHeartbeats 4000000 in
set_option maxRecDepth 100000 in
theorem rDecode_any (l : List UInt8) (a : Option Addr) (c : Nat) (w : World) (ht : Txt w a l) (hc : l.length ≤ c) (hm : c ≤ maxLen) (hl : l.length ≤ 1000000) :
    Calls Tryd.prog 20 #[.slice a l.length c] w (GivesDec w l) := by
  obtain ⟨W0, hW0⟩ : ∃ W0, W0 = w.alloc (.cells #[.slice none 0 0, .slice none 0 0, .slice none 0 0, .slice none 0 0, .slice none 0 0, .slice none 0 0] 27) := ⟨_, rfl⟩
  have hb0 : Below w.heap.size w W0 := by rw [hW0]; exact (Below.refl _ _).alloc (Nat.le_refl _) _
  have hbk : W0.heap[w.heap.size]? = some (.cells #[.slice none 0 0, .slice none 0 0, .slice none 0 0, .slice none 0 0, .slice none 0 0, .slice none 0 0] 27 (0, 0)) := by rw [hW0]; exact heap_alloc_new w _
  have hs0 : W0.heap.size = w.heap.size + 1 := by rw [hW0]; simp
  obtain ⟨g2, hg2⟩ : ∃ g2, g2 = w.heap.size := ⟨_, rfl⟩
  rw [← hg2] at hbk
  have HBK := Lib.hid hbk
  have HB0 := Lib.hid hb0
  have HG2 := Lib.hid hg2
  have HW0 := Lib.hid hW0
  have HS0 := Lib.hid hs0
  have HSP := Lib.hid size_prog
  have HT := Lib.hid (ht.below hb0)
  have HC := Lib.hid (And.intro hc hm)
  have HL := Lib.hid hl
  have bz : ∀ W : World, (Instr.build 27 #[]).run Tryd.prog W = .ok (.agg #[.slice none 0 0, .slice none 0 0, .slice none 0 0, .slice none 0 0, .slice none 0 0, .slice none 0 0]) W := fun W => by kernel_rfl
  have hz0 := prog_one none none none none none none 0 0 0 0 0 0 0 0 0 0 0 0
  have HZ0 := Lib.hid hz0
  clear hb0 hbk hW0 hg2 hz0 ht hs0
  unfold maxLen at hm
  by_cases h8 : l.length < 8
  · have d1 : decide ((l.length : Int) < 8) = true := by simp; omega
    have HNO := Lib.hid (show ¬ enc (decP l) = l from fun h => by have := (enc_head h).1; omega)
    clear h8
    go_enter Tryd.func20, Tryd.ntmps20
    go_upto_region 1 with fail
    rw [← HW0.out, ← HG2.out]
    go_wp2_with (refine wpList_store_row rfl 27 (.tmp 2) (.tmp 19) rfl g2 #[.slice none 0 0, .slice none 0 0, .slice none 0 0, .slice none 0 0, .slice none 0 0, .slice none 0 0] rfl rfl 27 #[.slice none 0 0, .slice none 0 0, .slice none 0 0, .slice none 0 0, .slice none 0 0, .slice none 0 0] ?_ HSP.out rfl HZ0.out ?_; (exact HBK.out))
    refine bodyPost_ret (results_cell_tmp14 (q := 3) (p := 2) (ty := 27) rfl _ _ g2 27 #[.slice none 0 0, .slice none 0 0, .slice none 0 0, .slice none 0 0, .slice none 0 0, .slice none 0 0] (0, 0) _ rfl (setRow_heap _ g2 _ _ _ _ HBK.out) Tryd.underlying27 rfl HSP.out) rfl ?_
    exact gives_no HNO.out rfl (below_setRow HB0.out (by rw [HG2.out]; exact Nat.le_refl _) _)
  · have d1 : decide ((l.length : Int) < 8) = false := by simp; omega
    obtain ⟨b, o, rfl, hbl, hcell⟩ := HT.out (by intro h; rw [h] at h8; simp at h8)
    have ht4 : Txt W0 (some ⟨b, o, none⟩) (l.take 4) := fun _ => ⟨b, o, rfl, hbl, fun i hi => by rw [List.length_take] at hi; rw [hcell i (by omega), List.getElem_take]⟩
    have kst := run_string (P := Tryd.prog) W0 31 5 9 Tryd.underlying31 Tryd.underlying5 Tryd.underlying9 (some ⟨b, o, none⟩) (l.take 4) c ht4
    have hl4 : (l.take 4).length = 4 := by rw [List.length_take]; omega
    rw [hl4] at kst
    obtain ⟨S, hS⟩ : ∃ S, S = (⟨(l.take 4).toArray⟩ : ByteArray) := ⟨_, rfl⟩
    rw [← hS] at kst
    have h83 : ¬ (l.length : Int) < 4 := by omega
    by_cases hmag : l.take 4 = magic
    · have tS : (S.toList == [83, 84, 69, 80]) = true := by
        rw [hS, Lib.toList_data]
        show ((l.take 4) == [83, 84, 69, 80]) = true
        rw [hmag]; rfl
      clear ht4 hl4 hS
      obtain ⟨M, hM⟩ : ∃ M, M = (l.drop 4).take (l.length - 8) := ⟨_, rfl⟩
      have hml : l.length - 4 - 4 = M.length := by rw [hM, List.length_take, List.length_drop]; omega
      have hMl : M.length ≤ 1000000 := by omega
      have htM : Txt W0 (some ⟨b, o + 4, none⟩) M := fun _ => ⟨b, o + 4, rfl, hbl, fun i hi => by
        have hi2 : i < l.length - 8 := by omega
        have := hcell (4 + i) (by omega)
        rw [← Nat.add_assoc] at this
        rw [this]
        simp only [hM, List.getElem_take, List.getElem_drop]⟩
      have HML := Lib.hid hml
      have HMl := Lib.hid hMl
      have HM := Lib.hid hM
      have hin := info_parts info_byte
      obtain ⟨i0, hi, hz0, hz1, hz2⟩ := hin
      have HIN := Lib.hid (And.intro hi (And.intro hz0 (And.intro hz1 hz2)))
      have HTM := Lib.hid (htM.below ((Below.refl W0.heap.size W0).alloc (Nat.le_refl _) (.cells #[] 5)))
      have be : ∀ W : World, (Instr.buildSlice 31 0 #[]).run Tryd.prog W = .ok (.slice (some ⟨W.heap.size, 0, none⟩) 0 0) (W.alloc (.cells #[] 5)) := fun W => by kernel_rfl
      clear hml htM hM hi hz0 hz1 hz2 hcell hMl hmag
      go_enter Tryd.func20, Tryd.ntmps20
      go_upto_region 1 with fail
      rw [← HW0.out, ← HG2.out]
      go_upto_region 3 with fail
      go_wp2_with (at_builtin; rw [HML.out]; refine wpList_append_txt _ rfl (.tmp 20) (.tmp 25) 31 rfl W0.heap.size 5 i0 Tryd.underlying31 HIN.out.1 HIN.out.2.1 HIN.out.2.2.1 HIN.out.2.2.2 _ 0 [] rfl (own_empty W0 _ _ (Nat.le_refl _)) (some ⟨b, o + 4, none⟩) (c - 4) M rfl HTM.out ?c1 ?c2 ?_)
      case c1 => have := HMl.out; omega
      intro v1 w1 hown1 hgr1
      have hb1 : Below W0.heap.size W0 w1 := ((Below.refl _ _).alloc (Nat.le_refl _) _).grown hgr1 (by simp) (by intro k hk; simp [Value.ownBlock] at hk; omega)
      clear hgr1 be kst tS
      have hform : ∃ a1 d1', v1 = .slice a1 M.length d1' ∧ Txt w1 a1 M ∧ M.length ≤ d1' ∧ d1' ≤ maxLen ∧ ∀ b o, a1 = some ⟨b, o, none⟩ → b < w1.heap.size := by
        obtain ⟨a1, d1', e1, h1, h2, h3, _⟩ := givesO_of ⟨v1, rfl, hown1, hb1⟩
        injection e1 with e1
        have hlt := World.ownsRow.lt hown1
        exact ⟨a1, d1', e1, own_txt h1, h2, h3, fun b o e => (hlt b (by rw [e1, e]; rfl)).2⟩
      obtain ⟨a1, c1, rfl, ht1, hc1, hm1, hlt1⟩ := hform
      obtain ⟨gr, hgr⟩ : ∃ gr, gr = w1.heap.size := ⟨_, rfl⟩
      obtain ⟨WP, hWP⟩ : ∃ WP, WP = (w1.alloc (.cells #[.slice a1 M.length c1, .bool false] 69)).alloc (.cells #[.slice none 0 0, .slice none 0 0, .slice none 0 0, .slice none 0 0, .slice none 0 0, .slice none 0 0] 27) := ⟨_, rfl⟩
      obtain ⟨gp, hgp⟩ : ∃ gp, gp = gr + 1 := ⟨_, rfl⟩
      have hsr : (w1.alloc (.cells #[.slice a1 M.length c1, .bool false] 69)).heap.size = gr + 1 := by simp [hgr]
      have hdec : Dec ⟨69, (· < gr)⟩ gr gp (M, false) #[.slice none 0 0, .slice none 0 0, .slice none 0 0, .slice none 0 0, .slice none 0 0, .slice none 0 0] WP := by
        have h1 := heap_alloc_new w1 (.cells #[.slice a1 M.length c1, .bool false] 69)
        have hal1 : Below w1.heap.size w1 (w1.alloc (.cells #[.slice a1 M.length c1, .bool false] 69)) := (Below.refl _ _).alloc (Nat.le_refl _) _
        have hal2 : Below (w1.alloc (.cells #[.slice a1 M.length c1, .bool false] 69)).heap.size (w1.alloc (.cells #[.slice a1 M.length c1, .bool false] 69)) WP := by rw [hWP]; exact (Below.refl _ _).alloc (Nat.le_refl _) _
        have h2 := heap_alloc_new (w1.alloc (.cells #[.slice a1 M.length c1, .bool false] 69)) (.cells #[.slice none 0 0, .slice none 0 0, .slice none 0 0, .slice none 0 0, .slice none 0 0, .slice none 0 0] 27)
        rw [hsr, ← hgp, ← hWP] at h2
        refine ⟨⟨a1, c1, ?_, (ht1.below hal1).below hal2, hc1, hm1, fun b o e => ?_⟩, h2⟩
        · rw [← hgr] at h1
          exact (hal2.block gr (by rw [hsr]; omega)).trans h1
        · have := hlt1 b o e
          exact ⟨by omega, by show b < gr; omega⟩
      have hbP : Below W0.heap.size W0 WP := by
        rw [hWP]
        exact (hb1.alloc hb1.size _).alloc (by rw [hsr]; have := hb1.size; omega) _
      have hsP : WP.heap.size = gp + 1 := by rw [hWP, hgp]; simp [hgr]
      have hgr0 : W0.heap.size ≤ gr := by rw [hgr]; exact hb1.size
      have HD0 := Lib.hid hdec
      have HBP := Lib.hid hbP
      have HSZ := Lib.hid hsP
      have HGP := Lib.hid hgp
      have HGR0 := Lib.hid hgr0
      have HGR := Lib.hid hgr
      have HWP := Lib.hid hWP
      obtain ⟨TR, hTR⟩ : ∃ TR : RT, TR = ⟨69, (· < gr)⟩ := ⟨_, rfl⟩
      rw [← hTR] at HD0
      have HOK : Hid (∀ b, TR.ok b → b < gr) := Lib.hid (by rw [hTR]; exact fun b h => h)
      have HP0 : Hid (rdP (M, false) = rdP2 (rdL (M, false)).1 (rdL (M, false)).2) := Lib.hid rfl
      have HLT0 : Hid (((M, false) : St).1.length ≤ 1000000) := HMl
      obtain ⟨s0, hs0'⟩ : ∃ s0 : St, s0 = (M, false) := ⟨_, rfl⟩
      rw [← hs0'] at HD0 HP0 HLT0
      have HS0' := Lib.hid hs0'
      have HK0 := Lib.hid (K2.refl gr gp WP)
      have HQ0 : Hid (∀ b, TR.ok b → b < gp) := Lib.hid (fun b h => by have := HOK.out b h; have := HGP.out; omega)
      have HGG : Hid (gr < gp) := Lib.hid (by have := HGP.out; omega)
      clear hdec hbP hsP hgp hgr0 hgr hWP hTR hsr ht1 hc1 hm1 hlt1 hown1 hb1 hs0'
      have kk := rkindsD_any gr s0 WP HD0.out.rd (fun b h => by have := HQ0.out b h; have := HSZ.out; omega) (by have := HLT0.out; omega)
      go_wp2_with fail
      rw [← HGR.out, ← HWP.out, ← HGP.out]
      (with_reducible refine kk.mono ?_)
      rintro e wa0 ⟨v0_, rfl, ho, hr, hg⟩
      clear kk
      obtain ⟨k0_, hk⟩ : ∃ k, k = (rdL s0).1 := ⟨_, rfl⟩
      obtain ⟨s1, hs⟩ : ∃ s, s = (rdL s0).2 := ⟨_, rfl⟩
      have HLT1 : Hid (s1.1.length ≤ 1000000) := Lib.hid (by rw [hs]; exact Nat.le_trans (rdL_le s0).2.1 HLT0.out)
      have HV0 : Hid (∀ v ∈ k0_, i64' v) := Lib.hid (by rw [hk]; exact (rdL_le s0).2.2)
      rw [← hk] at ho
      obtain ⟨x0_, c0_, rfl, _⟩ := ho.form
      rw [← hs] at hr
      have HP1 : Hid (rdP s0 = rdP2 k0_ s1) := Lib.hid (by rw [HP0.out, hk, hs] <;> rfl)
      have HDA := Lib.hid (HD0.out.grown hr hg (by have := HGG.out; omega))
      have HKA := Lib.hid (HK0.out.trans (K2.left (h := gp) hg))
      have HSB : Hid (gp + 1 ≤ WP.heap.size) := Lib.hid (by have := HK0.out.size; have := HSZ.out; omega)
      have HRA0 := Lib.hid (KRow.of_own ho HSB.out)
      have q0 := cell_of_row wa0 gp 0 _ _ _ HDA.out.blk
      have q1 := frozen_of_row wa0 gp 0 _ _ HDA.out.blk
      have HD1 : Hid (Dec TR gr gp s1 #[.slice x0_ k0_.length c0_, .slice none 0 0, .slice none 0 0, .slice none 0 0, .slice none 0 0, .slice none 0 0] (wa0.setCell ⟨gp, 0, none⟩ (.slice x0_ k0_.length c0_))) := Lib.hid (HDA.out.field 0 (.slice x0_ k0_.length c0_) HQ0.out HGG.out)
      have HK1 := Lib.hid (HKA.out.trans (K2.right (g := gr) (set_grown wa0 gp 0 (.slice x0_ k0_.length c0_))))
      have HRB0 := Lib.hid (KRow.keep (K2.right (g := gr) (set_grown wa0 gp 0 (.slice x0_ k0_.length c0_))) (by have := HGG.out; omega) (Nat.lt_succ_self _) HRA0.out)
      obtain ⟨wb0, hwb⟩ : ∃ W, W = wa0.setCell ⟨gp, 0, none⟩ (.slice x0_ k0_.length c0_) := ⟨_, rfl⟩
      rw [← hwb] at HD1 HK1 HRB0
      have HWB := Lib.hid hwb
      have HR0 := HRB0
      clear HRB0
      clear hwb hk hs ho hr hg
      have kk := rkindsD_any gr s1 wb0 HD1.out.rd (fun b h => by have := HQ0.out b h; have := HK1.out.size; have := HSZ.out; omega) (by have := HLT1.out; omega)
      go_wp2_with fail
      rw [← HWB.out]
      clear q0 q1 HDA HKA HSB HWB HRA0
      (with_reducible refine kk.mono ?_)
      rintro e wa1 ⟨v1_, rfl, ho, hr, hg⟩
      clear kk
      obtain ⟨k1_, hk⟩ : ∃ k, k = (rdL s1).1 := ⟨_, rfl⟩
      obtain ⟨s2, hs⟩ : ∃ s, s = (rdL s1).2 := ⟨_, rfl⟩
      have HLT2 : Hid (s2.1.length ≤ 1000000) := Lib.hid (by rw [hs]; exact Nat.le_trans (rdL_le s1).2.1 HLT1.out)
      have HV1 : Hid (∀ v ∈ k1_, i64' v) := Lib.hid (by rw [hk]; exact (rdL_le s1).2.2)
      rw [← hk] at ho
      obtain ⟨x1_, c1_, rfl, _⟩ := ho.form
      rw [← hs] at hr
      have HP2 : Hid (rdP s0 = rdP3 k0_ k1_ s2) := Lib.hid (by rw [HP1.out, hk, hs] <;> rfl)
      have HDA := Lib.hid (HD1.out.grown hr hg (by have := HGG.out; omega))
      have HKA := Lib.hid (HK1.out.trans (K2.left (h := gp) hg))
      have HSB : Hid (gp + 1 ≤ wb0.heap.size) := Lib.hid (by have := HK1.out.size; have := HSZ.out; omega)
      have HRA1 := Lib.hid (KRow.of_own ho HSB.out)
      have q0 := cell_of_row wa1 gp 1 _ _ _ HDA.out.blk
      have q1 := frozen_of_row wa1 gp 1 _ _ HDA.out.blk
      have HD2 : Hid (Dec TR gr gp s2 #[.slice x0_ k0_.length c0_, .slice x1_ k1_.length c1_, .slice none 0 0, .slice none 0 0, .slice none 0 0, .slice none 0 0] (wa1.setCell ⟨gp, 1, none⟩ (.slice x1_ k1_.length c1_))) := Lib.hid (HDA.out.field 1 (.slice x1_ k1_.length c1_) HQ0.out HGG.out)
      have HK2 := Lib.hid (HKA.out.trans (K2.right (g := gr) (set_grown wa1 gp 1 (.slice x1_ k1_.length c1_))))
      have HRB0 := Lib.hid (KRow.keep (K2.right (g := gr) (set_grown wa1 gp 1 (.slice x1_ k1_.length c1_))) (by have := HGG.out; omega) (Nat.lt_succ_self _) (KRow.keep (K2.left (h := gp) hg) (by have := HGG.out; omega) (Nat.lt_succ_self _) HR0.out))
      have HRB1 := Lib.hid (KRow.keep (K2.right (g := gr) (set_grown wa1 gp 1 (.slice x1_ k1_.length c1_))) (by have := HGG.out; omega) (Nat.lt_succ_self _) HRA1.out)
      obtain ⟨wb1, hwb⟩ : ∃ W, W = wa1.setCell ⟨gp, 1, none⟩ (.slice x1_ k1_.length c1_) := ⟨_, rfl⟩
      rw [← hwb] at HD2 HK2 HRB0 HRB1
      have HWB := Lib.hid hwb
      have HR0 := HRB0
      clear HRB0
      have HR1 := HRB1
      clear HRB1
      clear hwb hk hs ho hr hg
      have kk := rkindsD_any gr s2 wb1 HD2.out.rd (fun b h => by have := HQ0.out b h; have := HK2.out.size; have := HSZ.out; omega) (by have := HLT2.out; omega)
      go_wp2_with fail
      rw [← HWB.out]
      clear q0 q1 HDA HKA HSB HWB HRA1
      (with_reducible refine kk.mono ?_)
      rintro e wa2 ⟨v2_, rfl, ho, hr, hg⟩
      clear kk
      obtain ⟨k2_, hk⟩ : ∃ k, k = (rdL s2).1 := ⟨_, rfl⟩
      obtain ⟨s3, hs⟩ : ∃ s, s = (rdL s2).2 := ⟨_, rfl⟩
      have HLT3 : Hid (s3.1.length ≤ 1000000) := Lib.hid (by rw [hs]; exact Nat.le_trans (rdL_le s2).2.1 HLT2.out)
      have HV2 : Hid (∀ v ∈ k2_, i64' v) := Lib.hid (by rw [hk]; exact (rdL_le s2).2.2)
      rw [← hk] at ho
      obtain ⟨x2_, c2_, rfl, _⟩ := ho.form
      rw [← hs] at hr
      have HP3 : Hid (rdP s0 = rdP4 k0_ k1_ k2_ s3) := Lib.hid (by rw [HP2.out, hk, hs] <;> rfl)
      have HDA := Lib.hid (HD2.out.grown hr hg (by have := HGG.out; omega))
      have HKA := Lib.hid (HK2.out.trans (K2.left (h := gp) hg))
      have HSB : Hid (gp + 1 ≤ wb1.heap.size) := Lib.hid (by have := HK2.out.size; have := HSZ.out; omega)
      have HRA2 := Lib.hid (KRow.of_own ho HSB.out)
      have q0 := cell_of_row wa2 gp 2 _ _ _ HDA.out.blk
      have q1 := frozen_of_row wa2 gp 2 _ _ HDA.out.blk
      have HD3 : Hid (Dec TR gr gp s3 #[.slice x0_ k0_.length c0_, .slice x1_ k1_.length c1_, .slice x2_ k2_.length c2_, .slice none 0 0, .slice none 0 0, .slice none 0 0] (wa2.setCell ⟨gp, 2, none⟩ (.slice x2_ k2_.length c2_))) := Lib.hid (HDA.out.field 2 (.slice x2_ k2_.length c2_) HQ0.out HGG.out)
      have HK3 := Lib.hid (HKA.out.trans (K2.right (g := gr) (set_grown wa2 gp 2 (.slice x2_ k2_.length c2_))))
      have HRB0 := Lib.hid (KRow.keep (K2.right (g := gr) (set_grown wa2 gp 2 (.slice x2_ k2_.length c2_))) (by have := HGG.out; omega) (Nat.lt_succ_self _) (KRow.keep (K2.left (h := gp) hg) (by have := HGG.out; omega) (Nat.lt_succ_self _) HR0.out))
      have HRB1 := Lib.hid (KRow.keep (K2.right (g := gr) (set_grown wa2 gp 2 (.slice x2_ k2_.length c2_))) (by have := HGG.out; omega) (Nat.lt_succ_self _) (KRow.keep (K2.left (h := gp) hg) (by have := HGG.out; omega) (Nat.lt_succ_self _) HR1.out))
      have HRB2 := Lib.hid (KRow.keep (K2.right (g := gr) (set_grown wa2 gp 2 (.slice x2_ k2_.length c2_))) (by have := HGG.out; omega) (Nat.lt_succ_self _) HRA2.out)
      obtain ⟨wb2, hwb⟩ : ∃ W, W = wa2.setCell ⟨gp, 2, none⟩ (.slice x2_ k2_.length c2_) := ⟨_, rfl⟩
      rw [← hwb] at HD3 HK3 HRB0 HRB1 HRB2
      have HWB := Lib.hid hwb
      have HR0 := HRB0
      clear HRB0
      have HR1 := HRB1
      clear HRB1
      have HR2 := HRB2
      clear HRB2
      clear hwb hk hs ho hr hg
      have kk := rkindsD_any gr s3 wb2 HD3.out.rd (fun b h => by have := HQ0.out b h; have := HK3.out.size; have := HSZ.out; omega) (by have := HLT3.out; omega)
      go_wp2_with fail
      rw [← HWB.out]
      clear q0 q1 HDA HKA HSB HWB HRA2
      (with_reducible refine kk.mono ?_)
      rintro e wa3 ⟨v3_, rfl, ho, hr, hg⟩
      clear kk
      obtain ⟨k3_, hk⟩ : ∃ k, k = (rdL s3).1 := ⟨_, rfl⟩
      obtain ⟨s4, hs⟩ : ∃ s, s = (rdL s3).2 := ⟨_, rfl⟩
      have HLT4 : Hid (s4.1.length ≤ 1000000) := Lib.hid (by rw [hs]; exact Nat.le_trans (rdL_le s3).2.1 HLT3.out)
      have HV3 : Hid (∀ v ∈ k3_, i64' v) := Lib.hid (by rw [hk]; exact (rdL_le s3).2.2)
      rw [← hk] at ho
      obtain ⟨x3_, c3_, rfl, _⟩ := ho.form
      rw [← hs] at hr
      have HP4 : Hid (rdP s0 = rdP5 k0_ k1_ k2_ k3_ s4) := Lib.hid (by rw [HP3.out, hk, hs] <;> rfl)
      have HDA := Lib.hid (HD3.out.grown hr hg (by have := HGG.out; omega))
      have HKA := Lib.hid (HK3.out.trans (K2.left (h := gp) hg))
      have HSB : Hid (gp + 1 ≤ wb2.heap.size) := Lib.hid (by have := HK3.out.size; have := HSZ.out; omega)
      have HRA3 := Lib.hid (KRow.of_own ho HSB.out)
      have q0 := cell_of_row wa3 gp 3 _ _ _ HDA.out.blk
      have q1 := frozen_of_row wa3 gp 3 _ _ HDA.out.blk
      have HD4 : Hid (Dec TR gr gp s4 #[.slice x0_ k0_.length c0_, .slice x1_ k1_.length c1_, .slice x2_ k2_.length c2_, .slice x3_ k3_.length c3_, .slice none 0 0, .slice none 0 0] (wa3.setCell ⟨gp, 3, none⟩ (.slice x3_ k3_.length c3_))) := Lib.hid (HDA.out.field 3 (.slice x3_ k3_.length c3_) HQ0.out HGG.out)
      have HK4 := Lib.hid (HKA.out.trans (K2.right (g := gr) (set_grown wa3 gp 3 (.slice x3_ k3_.length c3_))))
      have HRB0 := Lib.hid (KRow.keep (K2.right (g := gr) (set_grown wa3 gp 3 (.slice x3_ k3_.length c3_))) (by have := HGG.out; omega) (Nat.lt_succ_self _) (KRow.keep (K2.left (h := gp) hg) (by have := HGG.out; omega) (Nat.lt_succ_self _) HR0.out))
      have HRB1 := Lib.hid (KRow.keep (K2.right (g := gr) (set_grown wa3 gp 3 (.slice x3_ k3_.length c3_))) (by have := HGG.out; omega) (Nat.lt_succ_self _) (KRow.keep (K2.left (h := gp) hg) (by have := HGG.out; omega) (Nat.lt_succ_self _) HR1.out))
      have HRB2 := Lib.hid (KRow.keep (K2.right (g := gr) (set_grown wa3 gp 3 (.slice x3_ k3_.length c3_))) (by have := HGG.out; omega) (Nat.lt_succ_self _) (KRow.keep (K2.left (h := gp) hg) (by have := HGG.out; omega) (Nat.lt_succ_self _) HR2.out))
      have HRB3 := Lib.hid (KRow.keep (K2.right (g := gr) (set_grown wa3 gp 3 (.slice x3_ k3_.length c3_))) (by have := HGG.out; omega) (Nat.lt_succ_self _) HRA3.out)
      obtain ⟨wb3, hwb⟩ : ∃ W, W = wa3.setCell ⟨gp, 3, none⟩ (.slice x3_ k3_.length c3_) := ⟨_, rfl⟩
      rw [← hwb] at HD4 HK4 HRB0 HRB1 HRB2 HRB3
      have HWB := Lib.hid hwb
      have HR0 := HRB0
      clear HRB0
      have HR1 := HRB1
      clear HRB1
      have HR2 := HRB2
      clear HRB2
      have HR3 := HRB3
      clear HRB3
      clear hwb hk hs ho hr hg
      have kk := rn_any gr s4 wb3 HD4.out.rd
      go_wp2_with fail
      rw [← HWB.out]
      clear q0 q1 HDA HKA HSB HWB HRA3
      (with_reducible refine kk.mono ?_)
      rintro e w5 ⟨rfl, hr, hg⟩
      clear kk
      have hrnl := rdN_le s4
      obtain ⟨N, hN⟩ : ∃ N, N = (rdN s4).1 := ⟨_, rfl⟩
      obtain ⟨s5, hs⟩ : ∃ s, s = (rdN s4).2 := ⟨_, rfl⟩
      rw [← hN, ← hs] at hrnl
      have HNL : Hid (N ≤ 1000000) := Lib.hid (by have := HLT4.out; omega)
      have HLT5 : Hid (s5.1.length ≤ 1000000) := Lib.hid (by have := HLT4.out; omega)
      have HP5 : Hid (rdP s0 = rdP6 k0_ k1_ k2_ k3_ (rdIs N s5).1 (rdIs N s5).2) := Lib.hid (by rw [HP4.out, hN, hs] <;> rfl)
      have HV4 : Hid (∀ v ∈ (rdIs N s5).1, i64' v) := Lib.hid (rdIs_le N s5).2.2
      have HL5 : Hid ((rdIs N s5).2.1.length ≤ 1000000) := Lib.hid (by have := (rdIs_le N s5).2.1; have := HLT5.out; omega)
      rw [← hs] at hr
      rw [← hN]
      have HD5 := Lib.hid (HD4.out.grown hr hg (by have := HGG.out; omega))
      have HK5 := Lib.hid (HK4.out.trans (K2.left (h := gp) hg))
      have HRB0 := Lib.hid (KRow.keep (K2.left (h := gp) hg) (by have := HGG.out; omega) (Nat.lt_succ_self _) HR0.out)
      clear HR0
      have HR0 := HRB0
      clear HRB0
      have HRB1 := Lib.hid (KRow.keep (K2.left (h := gp) hg) (by have := HGG.out; omega) (Nat.lt_succ_self _) HR1.out)
      clear HR1
      have HR1 := HRB1
      clear HRB1
      have HRB2 := Lib.hid (KRow.keep (K2.left (h := gp) hg) (by have := HGG.out; omega) (Nat.lt_succ_self _) HR2.out)
      clear HR2
      have HR2 := HRB2
      clear HRB2
      have HRB3 := Lib.hid (KRow.keep (K2.left (h := gp) hg) (by have := HGG.out; omega) (Nat.lt_succ_self _) HR3.out)
      clear HR3
      have HR3 := HRB3
      clear HRB3
      clear hr hg hs hN hrnl
      obtain ⟨v5, hv5⟩ : ∃ v5 : World, v5 = w5 := ⟨_, rfl⟩
      rw [← hv5] at HD5 HK5 HR0 HR1 HR2 HR3 ⊢
      clear hv5 w5
      have HSB : Hid (gp + 1 ≤ v5.heap.size) := Lib.hid (by have := HK5.out.size; have := HSZ.out; omega)
      go_upto_block 0 with fail
      go_cut [] (fun wx => ∃ (x4_ : Option Addr) (c4_ : Nat), KRow (gp + 1) wx (.slice x4_ (rdIs N s5).1.length c4_) (rdIs N s5).1 ∧ Dec TR gr gp (rdIs N s5).2 #[.slice x0_ k0_.length c0_, .slice x1_ k1_.length c1_, .slice x2_ k2_.length c2_, .slice x3_ k3_.length c3_, .slice x4_ (rdIs N s5).1.length c4_, .slice none 0 0] wx ∧ K2 gr gp v5 wx)
      case first =>
        go_wp2_with fail
        go_loopw [7] (fun vi wr => ∃ (i : Nat) (ks : List Int) (S : St) (x4_ : Option Addr) (c4_ : Nat), vi = .int .i64 (i : Int) ∧ i ≤ N ∧ ks.length = i ∧ OwnI 2 wr v5.heap.size (.slice x4_ ks.length c4_) ks ∧ Dec TR gr gp S #[.slice x0_ k0_.length c0_, .slice x1_ k1_.length c1_, .slice x2_ k2_.length c2_, .slice x3_ k3_.length c3_, .slice x4_ ks.length c4_, .slice none 0 0] wr ∧ K2 gr gp v5 wr ∧ rdIs N s5 = (ks ++ (rdIs (N - i) S).1, (rdIs (N - i) S).2))
          (fun vi _ => N - (intOf vi).toNat)
        case atStart => exact ⟨0, [], s5, none, 0, rfl, Nat.zero_le _, rfl, World.ownsRow_nil _ _ _ _, HD5.out, K2.refl _ _ _, by simp⟩
        case round =>
          obtain ⟨i, ks, S, x4_, c4_, rfl, hiN, hks, hown, hdec, hk2, heq⟩ := hrel
          have HDR := Lib.hid hdec
          have HKR := Lib.hid hk2
          have HO := Lib.hid hown
          have HE := Lib.hid heq
          have HKS := Lib.hid hks
          have HI := Lib.hid hiN
          obtain ⟨ar, cr, hgg, ht, hlc, hcm, hne⟩ := hdec.rd
          obtain ⟨hc0, hc1, hf0, hf1⟩ := two_cells hgg
          obtain ⟨bad, hbad⟩ : ∃ bad, bad = S.2 := ⟨_, rfl⟩
          rw [← hbad] at hc1
          have HBAD := Lib.hid hbad
          clear hgg ht hlc hcm hne hown heq hc0 hf0 hf1 hbad hks hdec hk2 hiN
          by_cases hil : i < N
          · have d1 : decide ((i : Int) < (N : Int)) = true := by simp; omega
            have HIL := Lib.hid hil
            cases bad with
            | true =>
              have hfin := HE.out
              rw [rdIs_bad _ HBAD.out.symm, List.append_nil] at hfin
              have HF := Lib.hid hfin
              clear hfin hil
              go_wp2_with fail
              go_meet
              exact ⟨x4_, c4_, by rw [HF.out]; exact KRow.of_own HO.out HSB.out, by rw [HF.out]; exact HDR.out, HKR.out⟩
            | false =>
              have hst := HE.out
              obtain ⟨m, hm⟩ : ∃ m, N - i = m + 1 := ⟨N - i - 1, by omega⟩
              rw [hm, rdIs_step _ HBAD.out.symm] at hst
              have hm2 : N - (i + 1) = m := by omega
              have HKI := Lib.hid (fun W (h : Rd TR W gr S) => rI_any gr S W h)
              generalize (rdI S).1 = x at *
              generalize (rdI S).2 = S1 at *
              rw [← hm2] at hst
              have hst2 : rdIs N s5 = ((ks ++ [x]) ++ (rdIs (N - (i + 1)) S1).1, (rdIs (N - (i + 1)) S1).2) := by rw [hst]; simp
              have HST := Lib.hid hst2
              have HLV := Lib.hid (World.ownsRow.lt HO.out)
              have HQ5 : Hid (∀ b, TR.ok b → b < v5.heap.size) := Lib.hid (fun b h => by have := HQ0.out b h; have := HSB.out; omega)
              have HG5 : Hid (gr < v5.heap.size) := Lib.hid (by have := HGG.out; have := HSB.out; omega)
              have HO2 : Hid (OwnI 2 wr v5.heap.size (.slice x4_ ks.length c4_) ks) := HO
              have HI64 := Lib.hid info_i64c
              obtain ⟨ii, hi, hz0, hz1, hz2⟩ := info_parts info_i64c
              have HIN2 := Lib.hid (And.intro hi (And.intro hz0 (And.intro hz1 hz2)))
              clear hst hst2 hm hm2 hil hi hz0 hz1 hz2
              go_upto_region 13 with fail
              refine wp_region_stepsM_then (words [wIs (.pointer (some ⟨gp, 4, none⟩)), wIs (.slice x4_ ks.length c4_), wIs (.pointer (some ⟨gr, 0, none⟩)), wIs (.pointer (some ⟨gr, 0, none⟩)), wIs (.pointer (some ⟨gr, 0, none⟩)), wI TR gr x S1, wS1 2 wr.heap.size x, wO1 2 v5.heap.size (ks ++ [x]), wIs (.pointer (some ⟨gp, 4, none⟩))]) (G2 gr (Value.slice x4_ ks.length c4_).ownBlock) (RC gr (Value.slice x4_ ks.length c4_).ownBlock) (FC TR gr S 2 v5.heap.size (.slice x4_ ks.length c4_) ks) (by kernel_rfl) (fun _ _ _ h1 h2 => h1.trans h2) (fun i X X' h => h.rel) (fun i j X X' hne h hr => FC.keep HQ5.out HG5.out (fun k hk => (HLV.out k hk).1) i j X X' hne h hr) (G2.below (Below.refl _ _).drew) (fun i => ⟨Nat.le_trans HKR.out.size (Below.refl wr.heap.size wr).drew.size, fun _ => HDR.out.rd.below (Below.refl _ _).drew, fun _ => own_below HO2.out (Below.refl _ _).drew⟩) ?hst rfl rfl rfl (by kernel_rfl) 9 _ rfl rfl ?steps ?last
              case hst =>
                intro i' j' v X X' hne hv hr
                match j', hne, hv with
                | 0, _, hv => exact hv
                | 1, _, hv => exact hv
                | 2, _, hv => exact hv
                | 3, _, hv => exact hv
                | 4, _, hv => exact hv
                | 5, hne, hv => exact ⟨hv.1, RC.rd HQ5.out HG5.out (fun k hk => (HLV.out k hk).1) (Ne.symm hne) hv.2 hr⟩
                | 6, _, hv => exact wS1.keep (by have := HG5.out; have := HKR.out.size; omega) (fun k hk => (HLV.out k hk).2) hv hr
                | 7, hne, hv => exact RC.own HG5.out (Ne.symm hne) hv hr
                | 8, _, hv => exact hv
                | _ + 9, _, _ => trivial
              case steps =>
                refine StepsM.cons (stepM_value rfl fun a W hp _ => ?_) ?_
                · have f1 : a.tmps.getD 5 undef = .pointer (some ⟨gp, 0, none⟩) := hp.old 5 rfl
                  have f2 : (Instr.fieldAt 27 (.pointer (some ⟨gp, 0, none⟩)) 4).run Tryd.prog W = .ok (.pointer (some ⟨gp, 4, none⟩)) W := by kernel_rfl
                  exact ⟨wanted_none rfl, _, _, run_fa4 rfl f1 f2, rfl, RC.below (Below.refl _ _)⟩
                refine StepsM.cons (stepM_value rfl fun a W hp _ => ?_) ?_
                · have f1 : a.tmps.getD 58 undef = .pointer (some ⟨gp, 4, none⟩) := (hp.on_ 0 rfl rfl rfl).2
                  have heb := (hp.rel.block gp (Array.getElem?_eq_some_iff.1 HDR.out.blk).1 (by have := HGG.out; omega) (fun e => by have := (HLV.out gp e.symm).1; have := HSB.out; omega)).trans HDR.out.blk
                  exact ⟨wanted_none rfl, _, _, run_ldv rfl f1 (cell_of_row W gp 4 _ _ _ heb) Tryd.underlying24 rfl (by kernel_rfl), rfl, RC.below (Below.refl _ _)⟩
                refine StepsM.cons (stepM_value rfl fun a W hp _ => ⟨wanted_none rfl, _, _, run_move (.inl rfl), hp.old 4 rfl, RC.below (Below.refl _ _)⟩) ?_
                refine StepsM.cons (stepM_value rfl fun a W hp _ => ?_) ?_
                · have f1 : a.tmps.getD 60 undef = .pointer (some ⟨gr, 0, none⟩) := (hp.on_ 2 rfl rfl rfl).2
                  exact ⟨wanted_none rfl, _, _, run_nil rfl f1, rfl, RC.below (Below.refl _ _)⟩
                refine StepsM.cons (stepM_value rfl fun a W hp _ => ?_) ?_
                · have f1 : a.tmps.getD 61 undef = .pointer (some ⟨gr, 0, none⟩) := (hp.on_ 3 rfl rfl rfl).2
                  have f2 : (Instr.fieldAt 69 (.pointer (some ⟨gr, 0, none⟩)) 0).run Tryd.prog W = .ok (.pointer (some ⟨gr, 0, none⟩)) W := by kernel_rfl
                  exact ⟨wanted_none rfl, _, _, run_fa4 rfl f1 f2, rfl, RC.below (Below.refl _ _)⟩
                refine StepsM.cons (stepM_enter rfl fun a W hp hF => ?_) ?_
                · have f1 : a.tmps.getD 62 undef = .pointer (some ⟨gr, 0, none⟩) := (hp.on_ 4 rfl rfl rfl).2
                  refine ⟨wanted_none rfl, 36, _, run_enter1 rfl rfl Tryd.call36, ?_⟩
                  show Calls _ _ #[a.tmps.getD 62 undef] W _
                  rw [f1]
                  refine (HKI.out W (hF.2.1 rfl)).mono ?_
                  rintro e9 W' ⟨h1, h2, h3⟩
                  exact ⟨_, h1, ⟨rfl, h2⟩, RC.five h3⟩
                refine StepsM.cons (stepM_value rfl fun a W hp _ => ?_) ?_
                · have f1 : a.tmps.getD 63 undef = .int .i64 x := (hp.on_ 5 rfl rfl rfl).2.1
                  refine ⟨wanted_none rfl, _, _, run_bsl14 rfl ?_, ⟨W.heap.size, rfl, hp.rel.size, heap_alloc_new W _⟩, RC.below ((Below.refl _ _).alloc (Nat.le_refl _) _)⟩
                  show (Instr.buildSlice _ 1 #[(0, a.tmps.getD 63 undef)]).run _ W = _
                  rw [f1]
                  exact sl_oneI x W
                refine StepsM.cons (stepM_value rfl fun a W hp hF => ?_) ?_
                · have f1 : a.tmps.getD 59 undef = .slice x4_ ks.length c4_ := (hp.on_ 1 rfl rfl rfl).2
                  have f2 : wS1 2 wr.heap.size x (a.tmps.getD 64 undef) W := (hp.on_ 6 rfl rfl rfl).2
                  exact ⟨wanted_none rfl, (app_oneI (ρ := a.eval) (s := .tmp 59) (x := .tmp 64) (v := a.tmps.getD 64 undef) (by rfl) ii Tryd.underlying24 HIN2.out.1 HIN2.out.2.1 HIN2.out.2.2.1 HIN2.out.2.2.2 f1 rfl (hF.2.2 rfl) hF.1 f2 (by have := HKS.out; have := HIL.out; have := HNL.out; omega)).imp fun _ h => h.imp fun _ h => ⟨h.1, h.2.1, RC.seven h.2.2⟩⟩
                refine StepsM.cons (stepM_value rfl fun a W hp _ => ?_) ?_
                · have f1 : a.tmps.getD 5 undef = .pointer (some ⟨gp, 0, none⟩) := hp.old 5 rfl
                  have f2 : (Instr.fieldAt 27 (.pointer (some ⟨gp, 0, none⟩)) 4).run Tryd.prog W = .ok (.pointer (some ⟨gp, 4, none⟩)) W := by kernel_rfl
                  exact ⟨wanted_none rfl, _, _, run_fa4 rfl f1 f2, rfl, RC.below (Below.refl _ _)⟩
                exact StepsM.nil
              case last =>
                intro a W hI
                have hO5 : OwnI 2 W v5.heap.size (a.tmps.getD 65 undef) (ks ++ [x]) := hI.new 7 _ 65 rfl rfl rfl
                have hC5 : wI TR gr x S1 (a.tmps.getD 63 undef) W := hI.new 5 _ 63 rfl rfl rfl
                have f8 : a.tmps.getD 66 undef = .pointer (some ⟨gp, 4, none⟩) := hI.new 8 _ 66 rfl rfl rfl
                have heb := (hI.rel.block gp (Array.getElem?_eq_some_iff.1 HDR.out.blk).1 (by have := HGG.out; omega) (fun e => by have := (HLV.out gp e.symm).1; have := HSB.out; omega)).trans HDR.out.blk
                obtain ⟨K, hK⟩ : ∃ K, K = ks ++ [x] := ⟨_, rfl⟩
                rw [← hK] at hO5
                have HST2 := HST.out
                rw [← hK] at HST2
                have HST2 := Lib.hid HST2
                have HKL : Hid (K.length = i + 1) := Lib.hid (by rw [hK, List.length_append, HKS.out]; rfl)
                obtain ⟨xn, cn, f7, _⟩ := OwnI.form hO5
                rw [f7] at hO5
                have hd5 : Dec TR gr gp S1 #[.slice x0_ k0_.length c0_, .slice x1_ k1_.length c1_, .slice x2_ k2_.length c2_, .slice x3_ k3_.length c3_, .slice x4_ ks.length c4_, .slice none 0 0] W := ⟨hC5.2, heb⟩
                have HD6 : Hid (Dec TR gr gp S1 #[.slice x0_ k0_.length c0_, .slice x1_ k1_.length c1_, .slice x2_ k2_.length c2_, .slice x3_ k3_.length c3_, .slice xn K.length cn, .slice none 0 0] (W.setCell ⟨gp, 4, none⟩ (.slice xn K.length cn))) := Lib.hid (hd5.field 4 (.slice xn K.length cn) HQ0.out HGG.out)
                have HO6 := Lib.hid (own_keep14 hO5 (set_grown W gp 4 (.slice xn K.length cn)) (by have := HSB.out; omega))
                have HK6 := Lib.hid ((HKR.out.g2 hI.rel (fun k hk => (HLV.out k hk).1)).trans (K2.right (g := gr) (set_grown W gp 4 (.slice xn K.length cn))))
                obtain ⟨fo, hfo, hx⟩ := puts_of hI.tmps hI.defers hI.old [58, 59, 60, 61, 62, 63, 64, 65, 66] rfl
                refine wpOp_of rfl (wanted_none rfl) ?_
                refine wp_store_cell14 24 (.tmp 66) (.tmp 65) rfl gp 4 (.slice xn K.length cn) _ f8 f7 (cell_of_row W gp 4 _ _ _ heb) (frozen_of_row W gp 4 _ _ heb) (by kernel_rfl) rfl ?_
                clear hI hO5 hC5 f8 f7 heb hd5 hfo hK
                subst hx
                simp only [List.foldl_cons, List.foldl_nil]
                simp only [Act.put, List.setIfInBounds_toArray, List.set_cons_succ, List.set_cons_zero]
                simp only [Exit.inBlock, Exit.then]
                go_wp2_with fail
                rw [wrap_in14 _ (by have := HNL.out; have := HIL.out; omega)]
                refine ⟨⟨i + 1, K, S1, xn, cn, by go_num, HIL.out, HKL.out, HO6.out, HD6.out, HK6.out, HST2.out⟩, ?_⟩
                have := HIL.out
                simp [intOf]; omega
          · obtain rfl : i = N := by have := HI.out; omega
            have d1 : decide ((i : Int) < (i : Int)) = false := by simp
            have hfin := HE.out
            rw [Nat.sub_self] at hfin
            have hfin2 : rdIs i s5 = (ks, S) := by rw [hfin]; simp [rdIs]
            have HF := Lib.hid hfin2
            clear hfin hfin2 hil
            go_wp2_with fail
            go_meet
            exact ⟨x4_, c4_, by rw [HF.out]; exact KRow.of_own HO.out HSB.out, by rw [HF.out]; exact HDR.out, HKR.out⟩
      case rest =>
        rename World => wc
        obtain ⟨x4_, c4_, hr4, hd4, hk4⟩ := hcut
        obtain ⟨k4_, hk⟩ : ∃ k, k = (rdIs N s5).1 := ⟨_, rfl⟩
        obtain ⟨s6, hs⟩ : ∃ s, s = (rdIs N s5).2 := ⟨_, rfl⟩
        rw [← hk] at hr4 HV4 HP5 hd4
        rw [← hs] at HP5 HL5 hd4
        have HR4 := Lib.hid hr4
        have HD6 := Lib.hid hd4
        have HK6 := Lib.hid (HK5.out.trans hk4)
        have HRB0 := Lib.hid (KRow.keep hk4 (by have := HGG.out; omega) (Nat.lt_succ_self _) HR0.out)
        clear HR0
        have HR0 := HRB0
        clear HRB0
        have HRB1 := Lib.hid (KRow.keep hk4 (by have := HGG.out; omega) (Nat.lt_succ_self _) HR1.out)
        clear HR1
        have HR1 := HRB1
        clear HRB1
        have HRB2 := Lib.hid (KRow.keep hk4 (by have := HGG.out; omega) (Nat.lt_succ_self _) HR2.out)
        clear HR2
        have HR2 := HRB2
        clear HRB2
        have HRB3 := Lib.hid (KRow.keep hk4 (by have := HGG.out; omega) (Nat.lt_succ_self _) HR3.out)
        clear HR3
        have HR3 := HRB3
        clear HRB3
        clear hr4 hd4 hk4 hk hs HD5 HK5 HSB HNL
        have kk := rn_any gr s6 wc HD6.out.rd
        go_wp2_with fail
        (with_reducible refine kk.mono ?_)
        rintro e w7 ⟨rfl, hr, hg⟩
        clear kk
        have hrnl := rdN_le s6
        obtain ⟨N2, hN⟩ : ∃ N, N = (rdN s6).1 := ⟨_, rfl⟩
        obtain ⟨s7, hs⟩ : ∃ s, s = (rdN s6).2 := ⟨_, rfl⟩
        rw [← hN, ← hs] at hrnl
        have HNL : Hid (N2 ≤ 1000000) := Lib.hid (by have := HL5.out; omega)
        have HP7 : Hid (rdP s0 = (⟨k0_, k1_, k2_, k3_, k4_, (rdXs N2 s7).1⟩, (rdXs N2 s7).2)) := Lib.hid (by rw [HP5.out]; unfold rdP6 rdC; rw [hN, hs])
        have HV5 : Hid (∀ v ∈ (rdXs N2 s7).1, v.ok) := Lib.hid (rdXs_le N2 s7).2.2
        rw [← hs] at hr
        rw [← hN]
        have HD7 := Lib.hid (HD6.out.grown hr hg (by have := HGG.out; omega))
        have HK7 := Lib.hid (HK6.out.trans (K2.left (h := gp) hg))
        have HRB0 := Lib.hid (KRow.keep (K2.left (h := gp) hg) (by have := HGG.out; omega) (Nat.lt_succ_self _) HR0.out)
        clear HR0
        have HR0 := HRB0
        clear HRB0
        have HRB1 := Lib.hid (KRow.keep (K2.left (h := gp) hg) (by have := HGG.out; omega) (Nat.lt_succ_self _) HR1.out)
        clear HR1
        have HR1 := HRB1
        clear HRB1
        have HRB2 := Lib.hid (KRow.keep (K2.left (h := gp) hg) (by have := HGG.out; omega) (Nat.lt_succ_self _) HR2.out)
        clear HR2
        have HR2 := HRB2
        clear HRB2
        have HRB3 := Lib.hid (KRow.keep (K2.left (h := gp) hg) (by have := HGG.out; omega) (Nat.lt_succ_self _) HR3.out)
        clear HR3
        have HR3 := HRB3
        clear HRB3
        have HRB4 := Lib.hid (KRow.keep (K2.left (h := gp) hg) (by have := HGG.out; omega) (Nat.lt_succ_self _) HR4.out)
        clear HR4
        have HR4 := HRB4
        clear HRB4
        clear hr hg hs hN hrnl
        obtain ⟨v7, hv7⟩ : ∃ v7 : World, v7 = w7 := ⟨_, rfl⟩
        rw [← hv7] at HD7 HK7 HR0 HR1 HR2 HR3 HR4 ⊢
        clear hv7 w7 HD6 HK6
        have HSB : Hid (gp + 1 ≤ v7.heap.size) := Lib.hid (by have := HK7.out.size; have := HSZ.out; omega)
        go_upto_block 2 with fail
        go_cut [] (fun wx => ∃ (x5_ : Option Addr) (c5_ : Nat), CRow (gp + 1) wx (.slice x5_ (rdXs N2 s7).1.length c5_) (rdXs N2 s7).1 ∧ Dec TR gr gp (rdXs N2 s7).2 #[.slice x0_ k0_.length c0_, .slice x1_ k1_.length c1_, .slice x2_ k2_.length c2_, .slice x3_ k3_.length c3_, .slice x4_ k4_.length c4_, .slice x5_ (rdXs N2 s7).1.length c5_] wx ∧ K2 gr gp v7 wx)
        case first =>
          go_wp2_with fail
          go_loopw [8, 9] (fun vi _ wr => ∃ (i : Nat) (ks : List In4) (S : St) (x5_ : Option Addr) (c5_ : Nat), vi = .int .i64 (i : Int) ∧ i ≤ N2 ∧ ks.length = i ∧ OwnX wr v7.heap.size (.slice x5_ ks.length c5_) ks ∧ Dec TR gr gp S #[.slice x0_ k0_.length c0_, .slice x1_ k1_.length c1_, .slice x2_ k2_.length c2_, .slice x3_ k3_.length c3_, .slice x4_ k4_.length c4_, .slice x5_ ks.length c5_] wr ∧ K2 gr gp v7 wr ∧ rdXs N2 s7 = (ks ++ (rdXs (N2 - i) S).1, (rdXs (N2 - i) S).2))
            (fun vi _ _ => N2 - (intOf vi).toNat)
          case atStart => exact ⟨0, [], s7, none, 0, rfl, Nat.zero_le _, rfl, World.ownsRow_nil _ _ _ _, HD7.out, K2.refl _ _ _, by simp⟩
          case round =>
            obtain ⟨i, ks, S, x5_, c5_, rfl, hiN, hks, hown, hdec, hk2, heq⟩ := hrel
            have HDR := Lib.hid hdec
            have HKR := Lib.hid hk2
            have HO := Lib.hid hown
            have HE := Lib.hid heq
            have HKS := Lib.hid hks
            have HI := Lib.hid hiN
            obtain ⟨ar, cr, hgg, ht, hlc, hcm, hne⟩ := hdec.rd
            obtain ⟨hc0, hc1, hf0, hf1⟩ := two_cells hgg
            obtain ⟨bad, hbad⟩ : ∃ bad, bad = S.2 := ⟨_, rfl⟩
            rw [← hbad] at hc1
            have HBAD := Lib.hid hbad
            clear hgg ht hlc hcm hne hown heq hc0 hf0 hf1 hbad hks hdec hk2 hiN
            by_cases hil : i < N2
            · have d1 : decide ((i : Int) < (N2 : Int)) = true := by simp; omega
              have HIL := Lib.hid hil
              cases bad with
              | true =>
                have hfin := HE.out
                rw [rdXs_bad _ HBAD.out.symm, List.append_nil] at hfin
                have HF := Lib.hid hfin
                clear hfin hil
                go_wp2_with fail
                go_meet
                exact ⟨x5_, c5_, by rw [HF.out]; exact CRow.of_own HO.out HSB.out, by rw [HF.out]; exact HDR.out, HKR.out⟩
              | false =>
                have hst := HE.out
                obtain ⟨m, hm⟩ : ∃ m, N2 - i = m + 1 := ⟨N2 - i - 1, by omega⟩
                rw [hm, rdXs_step _ HBAD.out.symm] at hst
                have hm2 : N2 - (i + 1) = m := by omega
                rw [← hm2] at hst
                unfold rdX at hst
                have HLV := Lib.hid (World.ownsRow.lt HO.out)
                have HQ5 : Hid (∀ b, TR.ok b → b < v7.heap.size) := Lib.hid (fun b h => by have := HQ0.out b h; have := HSB.out; omega)
                have HG5 : Hid (gr < v7.heap.size) := Lib.hid (by have := HGG.out; have := HSB.out; omega)
                obtain ⟨i4, z4, hi, hz0, hz1, hz2, hz3⟩ := info_in4
                have HIN4 := Lib.hid (And.intro hi (And.intro hz0 (And.intro hz1 (And.intro hz2 hz3))))
                have bz4 : ∀ W : World, (Instr.build 36 #[]).run Tryd.prog W = .ok (.agg #[.int .i64 0, .int .i64 0, .int .i64 0, .int .i64 0]) W := fun W => by kernel_rfl
                obtain ⟨W1, hW1⟩ : ∃ W1, W1 = wr.alloc (.cells #[.int .i64 0, .int .i64 0, .int .i64 0, .int .i64 0] 36) := ⟨_, rfl⟩
                obtain ⟨g9, hg9⟩ : ∃ g9, g9 = wr.heap.size := ⟨_, rfl⟩
                have hal : Below wr.heap.size wr W1 := by rw [hW1]; exact (Below.refl _ _).alloc (Nat.le_refl _) _
                have h9 := heap_alloc_new wr (.cells #[.int .i64 0, .int .i64 0, .int .i64 0, .int .i64 0] 36)
                rw [← hW1, ← hg9] at h9
                have HD_0 := Lib.hid (HDR.out.below hal)
                have HK_0 := Lib.hid (HKR.out.trans (K2.of_below (g := gr) (h := gp) hal))
                have HO_0 := Lib.hid (own_below HO.out hal)
                have H9_0 := Lib.hid h9
                have HG9 := Lib.hid hg9
                have HW1 := Lib.hid hW1
                have HG9G : Hid (gp < g9) := Lib.hid (by have := HKR.out.size; have := HSB.out; omega)
                have HST := Lib.hid hst
                clear hst hm hm2 hil hi hz0 hz1 hz2 hz3 hal h9 hW1 hg9
                go_upto_region 19 with fail
                rw [← HW1.out, ← HG9.out]
                clear bz4
                have kI := rI_any gr S W1 HD_0.out.rd
                go_wp2_with fail
                (with_reducible refine kI.mono ?_)
                rintro e wa_0 ⟨rfl, hr, hg⟩
                clear kI
                obtain ⟨y0, hy⟩ : ∃ y, y = (rdI S).1 := ⟨_, rfl⟩
                obtain ⟨S1, hs⟩ : ∃ s, s = (rdI S).2 := ⟨_, rfl⟩
                have hst := HST.out
                rw [← hs, ← hy] at hst
                have HST := Lib.hid hst
                rw [← hs] at hr
                rw [← hy]
                have HDA := Lib.hid (HD_0.out.grown hr hg (by have := HGG.out; omega))
                have h9a := (hg.block g9 (Array.getElem?_eq_some_iff.1 H9_0.out).1 (fun e => by injection e with e; have := HG9G.out; have := HGG.out; omega)).trans H9_0.out
                have HOA := Lib.hid (own_keep14 HO_0.out hg HG5.out)
                have q0 := cell_of_row wa_0 g9 0 _ _ _ h9a
                have q1 := frozen_of_row wa_0 g9 0 _ _ h9a
                have hsg := set_grown wa_0 g9 0 (.int .i64 y0)
                have HD_1 : Hid (Dec TR gr gp S1 #[.slice x0_ k0_.length c0_, .slice x1_ k1_.length c1_, .slice x2_ k2_.length c2_, .slice x3_ k3_.length c3_, .slice x4_ k4_.length c4_, .slice x5_ ks.length c5_] (wa_0.setCell ⟨g9, 0, none⟩ (.int .i64 y0))) := Lib.hid (HDA.out.own hsg HQ0.out HGG.out (fun k hk => by injection hk with hk; have := HG9G.out; omega))
                have HK_1 := Lib.hid ((HK_0.out.trans (K2.left (h := gp) hg)).own hsg (fun k hk => by injection hk with hk; have := HG9.out; have := HKR.out.size; omega))
                have HO_1 : Hid (OwnX (wa_0.setCell ⟨g9, 0, none⟩ (.int .i64 y0)) v7.heap.size (.slice x5_ ks.length c5_) ks) := Lib.hid (HOA.out.kept hsg (.inr (fun e => by have := (HLV.out g9 e).2; have := HG9.out; omega)))
                have H9_1 : Hid ((wa_0.setCell ⟨g9, 0, none⟩ (.int .i64 y0)).heap[g9]? = some (.cells #[.int .i64 y0, .int .i64 0, .int .i64 0, .int .i64 0] 36 (0, 0))) := Lib.hid (by rw [heap_setCell_same wa_0 g9 0 _ _ _ h9a]; rfl)
                obtain ⟨wb_0, hwb⟩ : ∃ W, W = wa_0.setCell ⟨g9, 0, none⟩ (.int .i64 y0) := ⟨_, rfl⟩
                rw [← hwb] at HD_1 HK_1 HO_1 H9_1
                have HWB := Lib.hid hwb
                clear hwb hy hs hst hr hg h9a hsg HDA HOA
                have kI := rI_any gr S1 wb_0 HD_1.out.rd
                go_wp2_with fail
                rw [← HWB.out]
                clear HWB
                (with_reducible refine kI.mono ?_)
                rintro e wa_1 ⟨rfl, hr, hg⟩
                clear kI
                obtain ⟨y1, hy⟩ : ∃ y, y = (rdI S1).1 := ⟨_, rfl⟩
                obtain ⟨S2, hs⟩ : ∃ s, s = (rdI S1).2 := ⟨_, rfl⟩
                have hst := HST.out
                rw [← hs, ← hy] at hst
                have HST := Lib.hid hst
                rw [← hs] at hr
                rw [← hy]
                have HDA := Lib.hid (HD_1.out.grown hr hg (by have := HGG.out; omega))
                have h9a := (hg.block g9 (Array.getElem?_eq_some_iff.1 H9_1.out).1 (fun e => by injection e with e; have := HG9G.out; have := HGG.out; omega)).trans H9_1.out
                have HOA := Lib.hid (own_keep14 HO_1.out hg HG5.out)
                have q0 := cell_of_row wa_1 g9 1 _ _ _ h9a
                have q1 := frozen_of_row wa_1 g9 1 _ _ h9a
                have hsg := set_grown wa_1 g9 1 (.int .i64 y1)
                have HD_2 : Hid (Dec TR gr gp S2 #[.slice x0_ k0_.length c0_, .slice x1_ k1_.length c1_, .slice x2_ k2_.length c2_, .slice x3_ k3_.length c3_, .slice x4_ k4_.length c4_, .slice x5_ ks.length c5_] (wa_1.setCell ⟨g9, 1, none⟩ (.int .i64 y1))) := Lib.hid (HDA.out.own hsg HQ0.out HGG.out (fun k hk => by injection hk with hk; have := HG9G.out; omega))
                have HK_2 := Lib.hid ((HK_1.out.trans (K2.left (h := gp) hg)).own hsg (fun k hk => by injection hk with hk; have := HG9.out; have := HKR.out.size; omega))
                have HO_2 : Hid (OwnX (wa_1.setCell ⟨g9, 1, none⟩ (.int .i64 y1)) v7.heap.size (.slice x5_ ks.length c5_) ks) := Lib.hid (HOA.out.kept hsg (.inr (fun e => by have := (HLV.out g9 e).2; have := HG9.out; omega)))
                have H9_2 : Hid ((wa_1.setCell ⟨g9, 1, none⟩ (.int .i64 y1)).heap[g9]? = some (.cells #[.int .i64 y0, .int .i64 y1, .int .i64 0, .int .i64 0] 36 (0, 0))) := Lib.hid (by rw [heap_setCell_same wa_1 g9 1 _ _ _ h9a]; rfl)
                obtain ⟨wb_1, hwb⟩ : ∃ W, W = wa_1.setCell ⟨g9, 1, none⟩ (.int .i64 y1) := ⟨_, rfl⟩
                rw [← hwb] at HD_2 HK_2 HO_2 H9_2
                have HWB := Lib.hid hwb
                clear hwb hy hs hst hr hg h9a hsg HDA HOA
                have kI := rI_any gr S2 wb_1 HD_2.out.rd
                go_wp2_with fail
                rw [← HWB.out]
                clear HWB
                (with_reducible refine kI.mono ?_)
                rintro e wa_2 ⟨rfl, hr, hg⟩
                clear kI
                obtain ⟨y2, hy⟩ : ∃ y, y = (rdI S2).1 := ⟨_, rfl⟩
                obtain ⟨S3, hs⟩ : ∃ s, s = (rdI S2).2 := ⟨_, rfl⟩
                have hst := HST.out
                rw [← hs, ← hy] at hst
                have HST := Lib.hid hst
                rw [← hs] at hr
                rw [← hy]
                have HDA := Lib.hid (HD_2.out.grown hr hg (by have := HGG.out; omega))
                have h9a := (hg.block g9 (Array.getElem?_eq_some_iff.1 H9_2.out).1 (fun e => by injection e with e; have := HG9G.out; have := HGG.out; omega)).trans H9_2.out
                have HOA := Lib.hid (own_keep14 HO_2.out hg HG5.out)
                have q0 := cell_of_row wa_2 g9 2 _ _ _ h9a
                have q1 := frozen_of_row wa_2 g9 2 _ _ h9a
                have hsg := set_grown wa_2 g9 2 (.int .i64 y2)
                have HD_3 : Hid (Dec TR gr gp S3 #[.slice x0_ k0_.length c0_, .slice x1_ k1_.length c1_, .slice x2_ k2_.length c2_, .slice x3_ k3_.length c3_, .slice x4_ k4_.length c4_, .slice x5_ ks.length c5_] (wa_2.setCell ⟨g9, 2, none⟩ (.int .i64 y2))) := Lib.hid (HDA.out.own hsg HQ0.out HGG.out (fun k hk => by injection hk with hk; have := HG9G.out; omega))
                have HK_3 := Lib.hid ((HK_2.out.trans (K2.left (h := gp) hg)).own hsg (fun k hk => by injection hk with hk; have := HG9.out; have := HKR.out.size; omega))
                have HO_3 : Hid (OwnX (wa_2.setCell ⟨g9, 2, none⟩ (.int .i64 y2)) v7.heap.size (.slice x5_ ks.length c5_) ks) := Lib.hid (HOA.out.kept hsg (.inr (fun e => by have := (HLV.out g9 e).2; have := HG9.out; omega)))
                have H9_3 : Hid ((wa_2.setCell ⟨g9, 2, none⟩ (.int .i64 y2)).heap[g9]? = some (.cells #[.int .i64 y0, .int .i64 y1, .int .i64 y2, .int .i64 0] 36 (0, 0))) := Lib.hid (by rw [heap_setCell_same wa_2 g9 2 _ _ _ h9a]; rfl)
                obtain ⟨wb_2, hwb⟩ : ∃ W, W = wa_2.setCell ⟨g9, 2, none⟩ (.int .i64 y2) := ⟨_, rfl⟩
                rw [← hwb] at HD_3 HK_3 HO_3 H9_3
                have HWB := Lib.hid hwb
                clear hwb hy hs hst hr hg h9a hsg HDA HOA
                have kI := rI_any gr S3 wb_2 HD_3.out.rd
                go_wp2_with fail
                rw [← HWB.out]
                clear HWB
                (with_reducible refine kI.mono ?_)
                rintro e wa_3 ⟨rfl, hr, hg⟩
                clear kI
                obtain ⟨y3, hy⟩ : ∃ y, y = (rdI S3).1 := ⟨_, rfl⟩
                obtain ⟨S4, hs⟩ : ∃ s, s = (rdI S3).2 := ⟨_, rfl⟩
                have hst := HST.out
                rw [← hs, ← hy] at hst
                have HST := Lib.hid hst
                rw [← hs] at hr
                rw [← hy]
                have HDA := Lib.hid (HD_3.out.grown hr hg (by have := HGG.out; omega))
                have h9a := (hg.block g9 (Array.getElem?_eq_some_iff.1 H9_3.out).1 (fun e => by injection e with e; have := HG9G.out; have := HGG.out; omega)).trans H9_3.out
                have HOA := Lib.hid (own_keep14 HO_3.out hg HG5.out)
                have q0 := cell_of_row wa_3 g9 3 _ _ _ h9a
                have q1 := frozen_of_row wa_3 g9 3 _ _ h9a
                have hsg := set_grown wa_3 g9 3 (.int .i64 y3)
                have HD_4 : Hid (Dec TR gr gp S4 #[.slice x0_ k0_.length c0_, .slice x1_ k1_.length c1_, .slice x2_ k2_.length c2_, .slice x3_ k3_.length c3_, .slice x4_ k4_.length c4_, .slice x5_ ks.length c5_] (wa_3.setCell ⟨g9, 3, none⟩ (.int .i64 y3))) := Lib.hid (HDA.out.own hsg HQ0.out HGG.out (fun k hk => by injection hk with hk; have := HG9G.out; omega))
                have HK_4 := Lib.hid ((HK_3.out.trans (K2.left (h := gp) hg)).own hsg (fun k hk => by injection hk with hk; have := HG9.out; have := HKR.out.size; omega))
                have HO_4 : Hid (OwnX (wa_3.setCell ⟨g9, 3, none⟩ (.int .i64 y3)) v7.heap.size (.slice x5_ ks.length c5_) ks) := Lib.hid (HOA.out.kept hsg (.inr (fun e => by have := (HLV.out g9 e).2; have := HG9.out; omega)))
                have H9_4 : Hid ((wa_3.setCell ⟨g9, 3, none⟩ (.int .i64 y3)).heap[g9]? = some (.cells #[.int .i64 y0, .int .i64 y1, .int .i64 y2, .int .i64 y3] 36 (0, 0))) := Lib.hid (by rw [heap_setCell_same wa_3 g9 3 _ _ _ h9a]; rfl)
                obtain ⟨wb_3, hwb⟩ : ∃ W, W = wa_3.setCell ⟨g9, 3, none⟩ (.int .i64 y3) := ⟨_, rfl⟩
                rw [← hwb] at HD_4 HK_4 HO_4 H9_4
                have HWB := Lib.hid hwb
                clear hwb hy hs hst hr hg h9a hsg HDA HOA
                go_upto_region 23 with fail
                rw [← HWB.out]
                have q5 := cell_of_row wb_3 gp 5 _ _ _ HD_4.out.blk
                have q6 := frozen_of_row wb_3 gp 5 _ _ HD_4.out.blk
                have bs4 : ∀ W : World, (Instr.buildSlice 25 1 #[(0, .agg #[.int .i64 y0, .int .i64 y1, .int .i64 y2, .int .i64 y3])]).run Tryd.prog W = .ok (.slice (some ⟨W.heap.size, 0, none⟩) 1 1) (W.alloc (.cells #[.int .i64 y0, .int .i64 y1, .int .i64 y2, .int .i64 y3] 36)) := fun W => by kernel_rfl
                obtain ⟨W5, hW5⟩ : ∃ W, W = wb_3.alloc (.cells #[.int .i64 y0, .int .i64 y1, .int .i64 y2, .int .i64 y3] 36) := ⟨_, rfl⟩
                have hal : Below wb_3.heap.size wb_3 W5 := by rw [hW5]; exact (Below.refl _ _).alloc (Nat.le_refl _) _
                have h5 := heap_alloc_new wb_3 (.cells #[.int .i64 y0, .int .i64 y1, .int .i64 y2, .int .i64 y3] 36)
                rw [← hW5] at h5
                have H5 := Lib.hid h5
                have HD_5 := Lib.hid (HD_4.out.below hal)
                have HK_5 := Lib.hid (HK_4.out.trans (K2.of_below (g := gr) (h := gp) hal))
                have HO_5 := Lib.hid (own_below HO_4.out hal)
                have HSI := Lib.hid size_in4
                have HW5 := Lib.hid hW5
                obtain ⟨g5, hg5⟩ : ∃ g, g = wb_3.heap.size := ⟨_, rfl⟩
                rw [← hg5] at H5
                have HG55 := Lib.hid hg5
                clear hal h5 hW5 hg5 HWB q0 q1
                go_wp2_with (first | (refine wpList_load_row rfl 36 (.tmp 9) rfl g9 rfl 36 #[.int .i64 y0, .int .i64 y1, .int .i64 y2, .int .i64 y3] (0, 0) _ ?_ Tryd.underlying36 rfl HSI.out ?_; (exact H9_4.out)) | (at_builtin; rw [← HW5.out, ← HG55.out]; refine wpList_append_own _ rfl (.tmp 104) (.tmp 106) 25 rfl v7.heap.size 36 i4 z4 4 32 Tryd.underlying25 HIN4.out.1 HIN4.out.2.1 HIN4.out.2.2.1 HIN4.out.2.2.2.1 HIN4.out.2.2.2.2 (by decide) _ _ _ rfl HO_5.out ⟨g5, 0, none⟩ 1 1 [.int .i64 y0, .int .i64 y1, .int .i64 y2, .int .i64 y3] rfl rfl ?d1 ?d2 ?d3 ?d4 ?d5 ?_))
                case d1 =>
                  have hq := fun j => cell_of_row W5 g5 j _ _ _ H5.out
                  intro j u hj
                  rw [Addr.add_lit, Nat.zero_add, hq j]
                  match j, hj with
                  | 0, hj => exact hj
                  | 1, hj => exact hj
                  | 2, hj => exact hj
                  | 3, hj => exact hj
                  | _ + 4, hj => simp at hj
                case d2 => intro u hu; simp only [List.mem_cons, List.not_mem_nil, or_false] at hu; rcases hu with rfl | rfl | rfl | rfl <;> rfl
                case d3 => unfold maxLen; have := HKS.out; have := HNL.out; have := HIL.out; omega
                case d4 => have := HKS.out; have := HNL.out; have := HIL.out; omega
                case d5 => exact HK_5.out.size
                intro v' w6 hown' hgrow _
                obtain ⟨K, hK⟩ : ∃ K, K = ks ++ [(⟨y0, y1, y2, y3⟩ : In4)] := ⟨_, rfl⟩
                have hKl : K.length = ks.length + 1 := by rw [hK, List.length_append]; rfl
                have hox : OwnX w6 v7.heap.size v' K := by
                  unfold OwnX
                  rw [hKl, hK]
                  have e : in4sC (ks ++ [(⟨y0, y1, y2, y3⟩ : In4)]) = in4sC ks ++ [.int .i64 y0, .int .i64 y1, .int .i64 y2, .int .i64 y3] := by unfold in4sC; rw [List.flatMap_append]; rfl
                  rw [e]
                  exact hown'
                obtain ⟨xn, cn, e9, _⟩ := CRow.of_own hox (Nat.le_refl _)
                subst e9
                have hd6 := HD_5.out.own hgrow HQ0.out HGG.out (fun k hk => by have := (HLV.out k hk).1; have := HSB.out; omega)
                have q7 := cell_of_row w6 gp 5 _ _ _ hd6.blk
                have q8 := frozen_of_row w6 gp 5 _ _ hd6.blk
                have hsg := set_grown w6 gp 5 (.slice xn K.length cn)
                have HD6 : Hid (Dec TR gr gp S4 #[.slice x0_ k0_.length c0_, .slice x1_ k1_.length c1_, .slice x2_ k2_.length c2_, .slice x3_ k3_.length c3_, .slice x4_ k4_.length c4_, .slice xn K.length cn] (w6.setCell ⟨gp, 5, none⟩ (.slice xn K.length cn))) := Lib.hid (hd6.field 5 (.slice xn K.length cn) HQ0.out HGG.out)
                have HO6 : Hid (OwnX (w6.setCell ⟨gp, 5, none⟩ (.slice xn K.length cn)) v7.heap.size (.slice xn K.length cn) K) := Lib.hid (own_keep14 hox hsg (by have := HSB.out; omega))
                have HK6 := Lib.hid ((HK_5.out.own hgrow (fun k hk => (HLV.out k hk).1)).trans (K2.right (g := gr) hsg))
                have HST2 : Hid (rdXs N2 s7 = (K ++ (rdXs (N2 - (i + 1)) S4).1, (rdXs (N2 - (i + 1)) S4).2)) := Lib.hid (by rw [HST.out, hK]; simp)
                have HKL : Hid (K.length = i + 1) := Lib.hid (by rw [hKl, HKS.out])
                clear hown' hgrow hK hKl hox hd6 hsg q5 q6 bs4
                go_wp2_with fail
                rw [wrap_in14 _ (by have := HNL.out; have := HIL.out; omega)]
                refine ⟨⟨i + 1, K, S4, xn, cn, by go_num, HIL.out, HKL.out, HO6.out, HD6.out, HK6.out, HST2.out⟩, ?_⟩
                have := HIL.out
                simp [intOf]; omega
            · obtain rfl : i = N2 := by have := HI.out; omega
              have d1 : decide ((i : Int) < (i : Int)) = false := by simp
              have hfin := HE.out
              rw [Nat.sub_self] at hfin
              have hfin2 : rdXs i s7 = (ks, S) := by rw [hfin]; simp [rdXs]
              have HF := Lib.hid hfin2
              clear hfin hfin2 hil
              go_wp2_with fail
              go_meet
              exact ⟨x5_, c5_, by rw [HF.out]; exact CRow.of_own HO.out HSB.out, by rw [HF.out]; exact HDR.out, HKR.out⟩
        case rest =>
          rename World => wd
          obtain ⟨x5_, c5_, hr5, hd8, hk8⟩ := hcut
          obtain ⟨k5_, hk⟩ : ∃ k, k = (rdXs N2 s7).1 := ⟨_, rfl⟩
          obtain ⟨s8, hs⟩ : ∃ s, s = (rdXs N2 s7).2 := ⟨_, rfl⟩
          rw [← hk] at hr5 HV5 HP7 hd8
          rw [← hs] at HP7 hd8
          have HD8 := Lib.hid hd8
          have HK8 := Lib.hid (HK7.out.trans hk8)
          have HRB0 := Lib.hid (KRow.keep hk8 (by have := HGG.out; omega) (Nat.lt_succ_self _) HR0.out)
          clear HR0
          have HR0 := HRB0
          clear HRB0
          have HRB1 := Lib.hid (KRow.keep hk8 (by have := HGG.out; omega) (Nat.lt_succ_self _) HR1.out)
          clear HR1
          have HR1 := HRB1
          clear HRB1
          have HRB2 := Lib.hid (KRow.keep hk8 (by have := HGG.out; omega) (Nat.lt_succ_self _) HR2.out)
          clear HR2
          have HR2 := HRB2
          clear HRB2
          have HRB3 := Lib.hid (KRow.keep hk8 (by have := HGG.out; omega) (Nat.lt_succ_self _) HR3.out)
          clear HR3
          have HR3 := HRB3
          clear HRB3
          have HRB4 := Lib.hid (KRow.keep hk8 (by have := HGG.out; omega) (Nat.lt_succ_self _) HR4.out)
          clear HR4
          have HR4 := HRB4
          clear HRB4
          obtain ⟨D, hD⟩ : ∃ D : Pg, D = ⟨k0_, k1_, k2_, k3_, k4_, k5_⟩ := ⟨_, rfl⟩
          have HDD : Hid (decP l = D ∧ (rdP ((l.drop 4).take (l.length - 8), false)).2 = s8) := Lib.hid (by
            have h := HP7.out
            rw [HS0'.out, HM.out] at h
            unfold decP
            rw [h, hD]
            exact ⟨rfl, rfl⟩)
          have HPI : Hid (PgIn wd D x0_ x1_ x2_ x3_ x4_ x5_) := Lib.hid (by rw [hD]; exact ⟨HR0.out.row, HR1.out.row, HR2.out.row, HR3.out.row, HR4.out.row, hr5.row⟩)
          have HBK8 : Hid (wd.heap[g2]? = some (.cells #[.slice none 0 0, .slice none 0 0, .slice none 0 0, .slice none 0 0, .slice none 0 0, .slice none 0 0] 27 (0, 0))) := Lib.hid (by
            have h0 := (Array.getElem?_eq_some_iff.1 HBK.out).1
            have h1 := (HBP.out.block g2 h0).trans HBK.out
            exact (HK8.out.block g2 (Nat.lt_of_lt_of_le h0 HBP.out.size) (by have := HGR0.out; omega) (by have := HGR0.out; have := HGP.out; omega)).trans h1)
          have HBD : Hid (Below w.heap.size w wd) := Lib.hid (by
            have h1 : Below w.heap.size w WP := HB0.out.trans (HBP.out.mono HB0.out.size)
            exact HK8.out.below h1 h1.size (by have := HGR0.out; have := HB0.out.size; omega) (by have := HGR0.out; have := HGP.out; have := HB0.out.size; omega))
          have HTXD : Hid (Txt wd (some ⟨b, o, none⟩) l) := Lib.hid (fun hne => by
            obtain ⟨b', o', e1, h1, h2⟩ := HT.out hne
            injection e1 with e1
            injection e1 with e1 e2
            subst e1
            subst e2
            have h3 : ∀ i, wd.cell? ⟨b, o + i, none⟩ = W0.cell? ⟨b, o + i, none⟩ := fun i => (World.cell?_of_block (w := WP) (a := ⟨b, o + i, none⟩) (HK8.out.block b (Nat.lt_of_lt_of_le h1 HBP.out.size) (by have := HGR0.out; omega) (by have := HGR0.out; have := HGP.out; omega))).trans (World.cell?_of_block (w := W0) (a := ⟨b, o + i, none⟩) (HBP.out.block b h1))
            exact ⟨b, o, rfl, Nat.lt_of_lt_of_le h1 (Nat.le_trans HBP.out.size HK8.out.size), fun i hi => (h3 i).trans (h2 i hi)⟩)
          have HPV : Hid ((.agg #[.slice x0_ k0_.length c0_, .slice x1_ k1_.length c1_, .slice x2_ k2_.length c2_, .slice x3_ k3_.length c3_, .slice x4_ k4_.length c4_, .slice x5_ k5_.length c5_] : Value) = pgV D x0_ x1_ x2_ x3_ x4_ x5_ c0_ c1_ c2_ c3_ c4_ c5_) := Lib.hid (by rw [hD]; rfl)
          obtain ⟨ar, cr, hgg, ht, hlc, hcm, hne⟩ := HD8.out.rd
          obtain ⟨hc0, hc1, hf0, hf1⟩ := two_cells hgg
          have HDB := Lib.hid HD8.out.blk
          obtain ⟨L8, bad⟩ := s8
          dsimp only at *
          have HR5 := Lib.hid hr5
          have HDQ := Lib.hid hD
          clear hgg ht hlc hcm hne hr5 hd8 hk8 hk hs hD hf0 hf1 HD8 HK8 HP7 HD7 HK7 HSB
          by_cases hend : bad = false ∧ L8 = []
          · obtain ⟨rfl, rfl⟩ := hend
            have HGRL : Hid (gr < wd.heap.size) := Lib.hid (by have h1 := (Array.getElem?_eq_some_iff.1 HDB.out).1; have := HGG.out; omega)
            have HC0 := Lib.hid hc0
            have HC1 := Lib.hid hc1
            have HTD := HTXD
            have HDO : Hid D.ok := Lib.hid (by rw [← HDD.out.1]; exact decP_ok l)
            have HDS : Hid (D.sum ≤ 1000000000) := Lib.hid (by rw [← HDD.out.1]; have := decP_sum l; have := HL.out; omega)
            obtain ⟨E, hE⟩ : ∃ E, E = enc D := ⟨_, rfl⟩
            have HE := Lib.hid hE
            clear hc0 hc1 hE
            go_wp2_with fail
            refine wp_region_steps (words [wIs (.pointer (some ⟨gr, 0, none⟩)), wIs (.pointer (some ⟨gr, 0, none⟩)), wIs (.pointer (some ⟨gr, 0, none⟩)), wIs (.pointer (some ⟨gr, 1, none⟩)), wIs (.bool false), wIs (.bool false), wIs (.pointer (some ⟨gr, 0, none⟩)), wIs (.pointer (some ⟨gr, 0, none⟩)), wIs (.pointer (some ⟨gr, 0, none⟩)), wIs (.pointer (some ⟨gr, 0, none⟩)), wIs (.slice ar 0 cr), wIs (.int .i64 ((0 : Nat) : Int)), wIs (.bool false), wIs (.bool false), wIs (.bool false), wIs (.agg #[.slice x0_ k0_.length c0_, .slice x1_ k1_.length c1_, .slice x2_ k2_.length c2_, .slice x3_ k3_.length c3_, .slice x4_ k4_.length c4_, .slice x5_ k5_.length c5_]), wE14 E, wIs (.string ⟨E.toArray⟩), wIs (.slice (some ⟨b, o, none⟩) l.length c), wIs (.string ⟨l.toArray⟩), wIs (.bool !(E == l)), wIs (.bool !(E == l))]) wd.heap.size wd (by kernel_rfl) (Below.refl _ _) (Nat.le_refl _) (words_stable ?stab) rfl rfl rfl ?steps ?rest2
            case stab =>
              intro f hf
              simp only [List.mem_cons, List.not_mem_nil, or_false] at hf
              rcases hf with rfl | rfl | rfl | rfl | rfl | rfl | rfl | rfl | rfl | rfl | rfl | rfl | rfl | rfl | rfl | rfl | rfl | rfl | rfl | rfl | rfl | rfl <;> first | exact stable_is _ | exact stable_e14 _
            case steps =>
              refine Steps.cons (step_value rfl fun xa W hp => ⟨(wanted_none rfl), _, _, run_move (.inl rfl), hp.old 4 rfl, Below.refl _ _⟩) ?_
              refine Steps.cons (step_value rfl fun xa W hp => ?_) ?_
              · have f0 : xa.tmps.getD 109 undef = .pointer (some ⟨gr, 0, none⟩) := (hp.on_ 0 rfl rfl rfl).2
                exact ⟨(wanted_none rfl), _, _, run_nil rfl f0, rfl, Below.refl _ _⟩
              refine Steps.cons (step_value rfl fun xa W hp => ?_) ?_
              · have f0 : xa.tmps.getD 110 undef = .pointer (some ⟨gr, 0, none⟩) := (hp.on_ 1 rfl rfl rfl).2
                have f1 : (Instr.fieldAt 69 (.pointer (some ⟨gr, 0, none⟩)) 0).run Tryd.prog W = .ok (.pointer (some ⟨gr, 0, none⟩)) W := by kernel_rfl
                exact ⟨(wanted_none rfl), _, _, run_fa4 rfl f0 f1, rfl, Below.refl _ _⟩
              refine Steps.cons (step_value rfl fun xa W hp => ?_) ?_
              · have f0 : xa.tmps.getD 111 undef = .pointer (some ⟨gr, 0, none⟩) := (hp.on_ 2 rfl rfl rfl).2
                have f1 : (Instr.fieldAt 67 (.pointer (some ⟨gr, 0, none⟩)) 1).run Tryd.prog W = .ok (.pointer (some ⟨gr, 1, none⟩)) W := by kernel_rfl
                exact ⟨(wanted_none rfl), _, _, run_fa4 rfl f0 f1, rfl, Below.refl _ _⟩
              refine Steps.cons (step_value rfl fun xa W hp => ?_) ?_
              · have f0 : xa.tmps.getD 112 undef = .pointer (some ⟨gr, 1, none⟩) := (hp.on_ 3 rfl rfl rfl).2
                exact ⟨(wanted_none rfl), _, _, run_ldv rfl f0 ((hp.below.cell (p := ⟨gr, 1, none⟩) HGRL.out).trans HC1.out) Tryd.underlying4 rfl (by kernel_rfl), rfl, Below.refl _ _⟩
              refine Steps.cons (step_value rfl fun xa W hp => ⟨(wanted_none rfl), _, _, run_move (.inl rfl), (hp.on_ 4 rfl rfl rfl).2, Below.refl _ _⟩) ?_
              refine Steps.cons (step_value rfl fun xa W hp => ⟨(wanted_some0 rfl rfl rfl (hp.on_ 5 rfl rfl rfl).1 (hp.on_ 5 rfl rfl rfl).2), _, _, run_move (.inl rfl), hp.old 4 rfl, Below.refl _ _⟩) ?_
              refine Steps.cons (step_value rfl fun xa W hp => ?_) ?_
              · have f0 : xa.tmps.getD 115 undef = .pointer (some ⟨gr, 0, none⟩) := (hp.on_ 6 rfl rfl rfl).2
                exact ⟨(wanted_some0 rfl rfl rfl (hp.on_ 5 rfl rfl rfl).1 (hp.on_ 5 rfl rfl rfl).2), _, _, run_nil rfl f0, rfl, Below.refl _ _⟩
              refine Steps.cons (step_value rfl fun xa W hp => ?_) ?_
              · have f0 : xa.tmps.getD 116 undef = .pointer (some ⟨gr, 0, none⟩) := (hp.on_ 7 rfl rfl rfl).2
                have f1 : (Instr.fieldAt 69 (.pointer (some ⟨gr, 0, none⟩)) 0).run Tryd.prog W = .ok (.pointer (some ⟨gr, 0, none⟩)) W := by kernel_rfl
                exact ⟨(wanted_some0 rfl rfl rfl (hp.on_ 5 rfl rfl rfl).1 (hp.on_ 5 rfl rfl rfl).2), _, _, run_fa4 rfl f0 f1, rfl, Below.refl _ _⟩
              refine Steps.cons (step_value rfl fun xa W hp => ?_) ?_
              · have f0 : xa.tmps.getD 117 undef = .pointer (some ⟨gr, 0, none⟩) := (hp.on_ 8 rfl rfl rfl).2
                have f1 : (Instr.fieldAt 67 (.pointer (some ⟨gr, 0, none⟩)) 0).run Tryd.prog W = .ok (.pointer (some ⟨gr, 0, none⟩)) W := by kernel_rfl
                exact ⟨(wanted_some0 rfl rfl rfl (hp.on_ 5 rfl rfl rfl).1 (hp.on_ 5 rfl rfl rfl).2), _, _, run_fa4 rfl f0 f1, rfl, Below.refl _ _⟩
              refine Steps.cons (step_value rfl fun xa W hp => ?_) ?_
              · have f0 : xa.tmps.getD 118 undef = .pointer (some ⟨gr, 0, none⟩) := (hp.on_ 9 rfl rfl rfl).2
                exact ⟨(wanted_some0 rfl rfl rfl (hp.on_ 5 rfl rfl rfl).1 (hp.on_ 5 rfl rfl rfl).2), _, _, run_ldv rfl f0 ((hp.below.cell (p := ⟨gr, 0, none⟩) HGRL.out).trans HC0.out) Tryd.underlying31 rfl (by kernel_rfl), rfl, Below.refl _ _⟩
              refine Steps.cons (step_value rfl fun xa W hp => ?_) ?_
              · have f0 : xa.tmps.getD 119 undef = .slice ar 0 cr := (hp.on_ 10 rfl rfl rfl).2
                exact ⟨(wanted_some0 rfl rfl rfl (hp.on_ 5 rfl rfl rfl).1 (hp.on_ 5 rfl rfl rfl).2), _, _, run_len14 rfl Tryd.underlying31 f0, rfl, Below.refl _ _⟩
              refine Steps.cons (step_value rfl fun xa W hp => ?_) ?_
              · have f0 : xa.tmps.getD 120 undef = .int .i64 ((0 : Nat) : Int) := (hp.on_ 11 rfl rfl rfl).2
                refine ⟨(wanted_some0 rfl rfl rfl (hp.on_ 5 rfl rfl rfl).1 (hp.on_ 5 rfl rfl rfl).2), _, _, run_bin3 rfl (v := .bool false) ?_ ?_, rfl, Below.refl _ _⟩
                · show (eqGuard .gtr _ _ _ (xa.tmps.getD 120 undef) _).run _ W = _
                  rw [f0]; rfl
                · show (binOp .gtr _ (xa.tmps.getD 120 undef) _).run _ W = _
                  rw [f0]; rfl
              refine Steps.cons (step_value rfl fun xa W hp => ⟨wanted_none rfl, _, _, run_pick0 rfl (hp.on_ 5 rfl rfl rfl).2, (hp.on_ 12 rfl rfl rfl).2, Below.refl _ _⟩) ?_
              refine Steps.cons (step_value rfl fun xa W hp => ⟨(wanted_none rfl), _, _, run_move (.inl rfl), (hp.on_ 13 rfl rfl rfl).2, Below.refl _ _⟩) ?_
              refine Steps.cons (step_value rfl fun xa W hp => ?_) ?_
              · have f0 : xa.tmps.getD 5 undef = .pointer (some ⟨gp, 0, none⟩) := hp.old 5 rfl
                exact ⟨(wanted_some0 rfl rfl rfl (hp.on_ 14 rfl rfl rfl).1 (hp.on_ 14 rfl rfl rfl).2), _, _, run_ldrow rfl f0 ((hp.below.block gp (Array.getElem?_eq_some_iff.1 HDB.out).1).trans HDB.out) Tryd.underlying27 rfl HSP.out, rfl, Below.refl _ _⟩
              refine Steps.cons (step_enter rfl fun xa W hp => ?_) ?_
              · have f0 : xa.tmps.getD 124 undef = .agg #[.slice x0_ k0_.length c0_, .slice x1_ k1_.length c1_, .slice x2_ k2_.length c2_, .slice x3_ k3_.length c3_, .slice x4_ k4_.length c4_, .slice x5_ k5_.length c5_] := (hp.on_ 15 rfl rfl rfl).2
                refine ⟨(wanted_some0 rfl rfl rfl (hp.on_ 14 rfl rfl rfl).1 (hp.on_ 14 rfl rfl rfl).2), 15, _, run_enter1 rfl rfl Tryd.call15, ?_⟩
                show Calls _ _ #[xa.tmps.getD 124 undef] W _
                rw [f0, HPV.out]
                refine (rEncode_any D HDO.out HDS.out x0_ x1_ x2_ x3_ x4_ x5_ c0_ c1_ c2_ c3_ c4_ c5_ W (HPI.out.below hp.below)).mono ?_
                rintro e W' ⟨ae, ce, he, hown, _, _, hbe⟩
                rw [← HE.out] at he hown
                exact ⟨_, he, ⟨ae, ce, rfl, own_txt hown⟩, hbe⟩
              refine Steps.cons (step_value rfl fun xa W hp => ?_) ?_
              · obtain ⟨ae, ce, f0, te⟩ : wE14 E (xa.tmps.getD 125 undef) W := (hp.on_ 16 rfl rfl rfl).2
                refine ⟨(wanted_some0 rfl rfl rfl (hp.on_ 14 rfl rfl rfl).1 (hp.on_ 14 rfl rfl rfl).2), _, _, run_conv rfl (W' := W) (v := .string ⟨E.toArray⟩) ?_, rfl, Below.refl _ _⟩
                show (convert _ _ (xa.tmps.getD 125 undef)).run _ W = _
                rw [f0]
                exact run_string (P := Tryd.prog) W 31 5 9 Tryd.underlying31 Tryd.underlying5 Tryd.underlying9 ae E ce te
              refine Steps.cons (step_value rfl fun xa W hp => ⟨(wanted_some0 rfl rfl rfl (hp.on_ 14 rfl rfl rfl).1 (hp.on_ 14 rfl rfl rfl).2), _, _, run_move (.inl rfl), hp.old 0 rfl, Below.refl _ _⟩) ?_
              refine Steps.cons (step_value rfl fun xa W hp => ?_) ?_
              · have f0 : xa.tmps.getD 127 undef = .slice (some ⟨b, o, none⟩) l.length c := (hp.on_ 18 rfl rfl rfl).2
                refine ⟨(wanted_some0 rfl rfl rfl (hp.on_ 14 rfl rfl rfl).1 (hp.on_ 14 rfl rfl rfl).2), _, _, run_conv rfl (W' := W) (v := .string ⟨l.toArray⟩) ?_, rfl, Below.refl _ _⟩
                show (convert _ _ (xa.tmps.getD 127 undef)).run _ W = _
                rw [f0]
                exact run_string (P := Tryd.prog) W 31 5 9 Tryd.underlying31 Tryd.underlying5 Tryd.underlying9 (some ⟨b, o, none⟩) l c (HTD.out.below hp.below)
              refine Steps.cons (step_value rfl fun xa W hp => ?_) ?_
              · have f0 : xa.tmps.getD 126 undef = .string ⟨E.toArray⟩ := (hp.on_ 17 rfl rfl rfl).2
                have f1 : xa.tmps.getD 128 undef = .string ⟨l.toArray⟩ := (hp.on_ 19 rfl rfl rfl).2
                refine ⟨(wanted_some0 rfl rfl rfl (hp.on_ 14 rfl rfl rfl).1 (hp.on_ 14 rfl rfl rfl).2), _, _, run_bin3 rfl (v := .bool !(E == l)) ?_ ?_, rfl, Below.refl _ _⟩
                · show (eqGuard .neq _ _ _ (xa.tmps.getD 126 undef) (xa.tmps.getD 128 undef)).run _ W = _
                  rw [f0, f1]; rfl
                · show (binOp .neq _ (xa.tmps.getD 126 undef) (xa.tmps.getD 128 undef)).run _ W = _
                  rw [f0, f1, Go.binOp_string_neq, Lib.toList_data, Lib.toList_data]; rfl
              refine Steps.cons (step_value rfl fun xa W hp => ⟨wanted_none rfl, _, _, run_pick0 rfl (hp.on_ 14 rfl rfl rfl).2, (hp.on_ 20 rfl rfl rfl).2, Below.refl _ _⟩) ?_
              exact Steps.nil
            case rest2 =>
              intro act W hI
              have hbW := hI.below
              have h130 : act.tmps.getD 130 undef = .bool !(E == l) := hI.new 21 _ 130 rfl rfl rfl
              obtain ⟨fo, hfo, hx⟩ := puts_of hI.tmps hI.defers hI.old [109, 110, 111, 112, 113, 114, 115, 116, 117, 118, 119, 120, 121, 122, 123, 124, 125, 126, 127, 128, 129, 130] rfl
              rw [hfo] at h130
              have HBW := Lib.hid hbW
              have HR8 : Hid (W.heap[g2]? = some (.cells #[.slice none 0 0, .slice none 0 0, .slice none 0 0, .slice none 0 0, .slice none 0 0, .slice none 0 0] 27 (0, 0))) := Lib.hid ((hbW.block g2 (Array.getElem?_eq_some_iff.1 HBK8.out).1).trans HBK8.out)
              have HDW : Hid (W.heap[gp]? = some (.cells #[.slice x0_ k0_.length c0_, .slice x1_ k1_.length c1_, .slice x2_ k2_.length c2_, .slice x3_ k3_.length c3_, .slice x4_ k4_.length c4_, .slice x5_ k5_.length c5_] 27 (0, 0))) := Lib.hid ((hbW.block gp (Array.getElem?_eq_some_iff.1 HDB.out).1).trans HDB.out)
              have HZ8 := Lib.hid (prog_one x0_ x1_ x2_ x3_ x4_ x5_ k0_.length k1_.length k2_.length k3_.length k4_.length k5_.length c0_ c1_ c2_ c3_ c4_ c5_)
              clear hI hfo hbW
              subst hx
              simp only [Exit.inBlock, Exit.then, List.foldl, Act.put, List.setIfInBounds_toArray, List.set_cons_succ, List.set_cons_zero]
              rw [h130]
              clear h130
              by_cases hEl : E = l
              · have hb9 : (!(E == l)) = false := by rw [hEl]; simp
                have HYES := Lib.hid (show enc (decP l) = l by rw [HDD.out.1, ← HE.out, hEl])
                rw [hb9]
                clear hb9 hEl
                go_wp2_with (first | (refine wpList_load_row rfl 27 (.tmp 5) rfl gp rfl 27 #[.slice x0_ k0_.length c0_, .slice x1_ k1_.length c1_, .slice x2_ k2_.length c2_, .slice x3_ k3_.length c3_, .slice x4_ k4_.length c4_, .slice x5_ k5_.length c5_] (0, 0) _ ?_ Tryd.underlying27 rfl HSP.out ?_; (exact HDW.out)) | (refine wpList_store_row rfl 27 (.tmp 2) (.tmp 132) rfl g2 #[.slice x0_ k0_.length c0_, .slice x1_ k1_.length c1_, .slice x2_ k2_.length c2_, .slice x3_ k3_.length c3_, .slice x4_ k4_.length c4_, .slice x5_ k5_.length c5_] rfl rfl 27 #[.slice none 0 0, .slice none 0 0, .slice none 0 0, .slice none 0 0, .slice none 0 0, .slice none 0 0] ?_ HSP.out rfl HZ8.out ?_; (exact HR8.out)))
                refine bodyPost_ret (results_cell_tmp14 (q := 3) (p := 2) (ty := 27) rfl _ _ g2 27 #[.slice x0_ k0_.length c0_, .slice x1_ k1_.length c1_, .slice x2_ k2_.length c2_, .slice x3_ k3_.length c3_, .slice x4_ k4_.length c4_, .slice x5_ k5_.length c5_] (0, 0) _ rfl (setRow_heap _ g2 _ _ _ _ HR8.out) Tryd.underlying27 rfl HSP.out) rfl ?_
                have hdr : decR l = D := by unfold decR; rw [if_pos HYES.out, HDD.out.1]
                have hlow : Below w.heap.size w (W.setRow g2 #[.slice x0_ k0_.length c0_, .slice x1_ k1_.length c1_, .slice x2_ k2_.length c2_, .slice x3_ k3_.length c3_, .slice x4_ k4_.length c4_, .slice x5_ k5_.length c5_]) := below_setRow (HBD.out.trans (HBW.out.mono HBD.out.size)) (by rw [HG2.out]; exact Nat.le_refl _) _
                refine ⟨x0_, x1_, x2_, x3_, x4_, x5_, c0_, c1_, c2_, c3_, c4_, c5_, ?_, ?_, hlow⟩
                · rw [hdr, decide_eq_true HYES.out, ← HPV.out]; rfl
                · rw [hdr]
                  have hkf : K2 g2 g2 wd (W.setRow g2 #[.slice x0_ k0_.length c0_, .slice x1_ k1_.length c1_, .slice x2_ k2_.length c2_, .slice x3_ k3_.length c3_, .slice x4_ k4_.length c4_, .slice x5_ k5_.length c5_]) := (K2.of_below HBW.out).trans ⟨rfl, rfl, rfl, by rw [setRow_size]; exact Nat.le_refl _, fun k _ h1 _ => setRow_other14 W g2 #[.slice x0_ k0_.length c0_, .slice x1_ k1_.length c1_, .slice x2_ k2_.length c2_, .slice x3_ k3_.length c3_, .slice x4_ k4_.length c4_, .slice x5_ k5_.length c5_] k h1⟩
                  have hgl : g2 < gp + 1 := by have h0 := (Array.getElem?_eq_some_iff.1 HBK.out).1; have := HGR0.out; have := HGP.out; omega
                  rw [HDQ.out]
                  exact ⟨(KRow.keep hkf hgl hgl HR0.out).row, (KRow.keep hkf hgl hgl HR1.out).row, (KRow.keep hkf hgl hgl HR2.out).row, (KRow.keep hkf hgl hgl HR3.out).row, (KRow.keep hkf hgl hgl HR4.out).row, (CRow.keep hkf hgl hgl HR5.out).row⟩
              · have hb9 : (!(E == l)) = true := by simpa using hEl
                have HNO := Lib.hid (show ¬ enc (decP l) = l from fun h => hEl (by rw [HE.out, ← HDD.out.1]; exact h))
                rw [hb9]
                clear hb9 hEl
                go_wp2_with (refine wpList_store_row rfl 27 (.tmp 2) (.tmp 131) rfl g2 #[.slice none 0 0, .slice none 0 0, .slice none 0 0, .slice none 0 0, .slice none 0 0, .slice none 0 0] rfl rfl 27 #[.slice none 0 0, .slice none 0 0, .slice none 0 0, .slice none 0 0, .slice none 0 0, .slice none 0 0] ?_ HSP.out rfl HZ0.out ?_; (exact HR8.out))
                refine bodyPost_ret (results_cell_tmp14 (q := 3) (p := 2) (ty := 27) rfl _ _ g2 27 #[.slice none 0 0, .slice none 0 0, .slice none 0 0, .slice none 0 0, .slice none 0 0, .slice none 0 0] (0, 0) _ rfl (setRow_heap _ g2 _ _ _ _ HR8.out) Tryd.underlying27 rfl HSP.out) rfl ?_
                exact gives_no HNO.out rfl (below_setRow (HBD.out.trans (HBW.out.mono HBD.out.size)) (by rw [HG2.out]; exact Nat.le_refl _) _)
          · have HNO := Lib.hid (show ¬ enc (decP l) = l from fun h => hend (by
              have h2 := decP_end h (by have := HL.out; omega)
              rw [HDD.out.2] at h2
              injection h2 with h3 h4
              exact ⟨h4, h3⟩))
            cases bad with
            | true =>
              clear hend hc0
              go_wp2_with fail
              go_quiet (fail)
              go_wp2_with (refine wpList_store_row rfl 27 (.tmp 2) (.tmp 131) rfl g2 #[.slice none 0 0, .slice none 0 0, .slice none 0 0, .slice none 0 0, .slice none 0 0, .slice none 0 0] rfl rfl 27 #[.slice none 0 0, .slice none 0 0, .slice none 0 0, .slice none 0 0, .slice none 0 0, .slice none 0 0] ?_ HSP.out rfl HZ0.out ?_; (exact HBK8.out))
              refine bodyPost_ret (results_cell_tmp14 (q := 3) (p := 2) (ty := 27) rfl _ _ g2 27 #[.slice none 0 0, .slice none 0 0, .slice none 0 0, .slice none 0 0, .slice none 0 0, .slice none 0 0] (0, 0) _ rfl (setRow_heap _ g2 _ _ _ _ HBK8.out) Tryd.underlying27 rfl HSP.out) rfl ?_
              exact gives_no HNO.out rfl (below_setRow (below_drewN HBD.out _) (by rw [HG2.out]; exact Nat.le_refl _) _)
            | false =>
              have hl8 : 0 < L8.length := List.length_pos_iff.2 (fun h => hend ⟨rfl, h⟩)
              clear hend
              go_wp2_with fail
              go_quiet (fail)
              go_wp2_with (refine wpList_store_row rfl 27 (.tmp 2) (.tmp 131) rfl g2 #[.slice none 0 0, .slice none 0 0, .slice none 0 0, .slice none 0 0, .slice none 0 0, .slice none 0 0] rfl rfl 27 #[.slice none 0 0, .slice none 0 0, .slice none 0 0, .slice none 0 0, .slice none 0 0, .slice none 0 0] ?_ HSP.out rfl HZ0.out ?_; (exact HBK8.out))
              refine bodyPost_ret (results_cell_tmp14 (q := 3) (p := 2) (ty := 27) rfl _ _ g2 27 #[.slice none 0 0, .slice none 0 0, .slice none 0 0, .slice none 0 0, .slice none 0 0, .slice none 0 0] (0, 0) _ rfl (setRow_heap _ g2 _ _ _ _ HBK8.out) Tryd.underlying27 rfl HSP.out) rfl ?_
              exact gives_no HNO.out rfl (below_setRow (below_drewN HBD.out _) (by rw [HG2.out]; exact Nat.le_refl _) _)
    · have tS : (S.toList == [83, 84, 69, 80]) = false := by
        rw [hS, Lib.toList_data]
        exact beq_false_of_ne hmag
      have HNO := Lib.hid (show ¬ enc (decP l) = l from fun h => hmag (enc_head h).2)
      clear ht4 hl4 hS hcell hmag
      go_enter Tryd.func20, Tryd.ntmps20
      go_upto_region 1 with fail
      rw [← HW0.out, ← HG2.out]
      go_wp2_with (refine wpList_store_row rfl 27 (.tmp 2) (.tmp 19) rfl g2 #[.slice none 0 0, .slice none 0 0, .slice none 0 0, .slice none 0 0, .slice none 0 0, .slice none 0 0] rfl rfl 27 #[.slice none 0 0, .slice none 0 0, .slice none 0 0, .slice none 0 0, .slice none 0 0, .slice none 0 0] ?_ HSP.out rfl HZ0.out ?_; (exact HBK.out))
      refine bodyPost_ret (results_cell_tmp14 (q := 3) (p := 2) (ty := 27) rfl _ _ g2 27 #[.slice none 0 0, .slice none 0 0, .slice none 0 0, .slice none 0 0, .slice none 0 0, .slice none 0 0] (0, 0) _ rfl (setRow_heap _ g2 _ _ _ _ HBK.out) Tryd.underlying27 rfl HSP.out) rfl ?_
      exact gives_no HNO.out rfl (below_setRow HB0.out (by rw [HG2.out]; exact Nat.le_refl _) _)
end Go.Proofs.YtophockpjchilaaDoor

namespace Go.Proofs.YtophockpjchilaaDoor
open Go Go.RowKit
set_option maxHeartbeats 400000 in
/-- Read(b): a new reader; its bytes lie in a row of the call's own. -/
theorem Read_own (a : Option Addr) (c : Nat) (l : List UInt8) (w : World) (ht : Txt w a l) (hb : l.length ≤ 140737488355328) :
    Calls Tryd.prog 37 #[.slice a l.length c] w fun e w' => ∃ g, e = .returned (.pointer (some ⟨g, 0, none⟩)) ∧ w.heap.size ≤ g ∧ g < w'.heap.size ∧ Rd ⟨85, fun b => w.heap.size ≤ b ∧ b < w'.heap.size⟩ w' g (l, false) ∧ Below w.heap.size w w' := by
  go_enter Tryd.func37, Tryd.ntmps37
  go_wp2_with fail
  refine (copyWithRoom_any a c 0 l w ht (by omega)).mono ?_
  rintro e w1 ⟨v, rfl, hown, hb1⟩
  rcases hown.2 with ⟨rfl, h0⟩ | ⟨g, cap, cur, rfl, hg1, hgg, hnc, hcm, _, _⟩
  · obtain rfl : l = [] := List.eq_nil_of_length_eq_zero h0
    go_wp2_with fail
    go_ret
    refine ⟨w1.heap.size, rfl, hb1.size, by simp, ⟨none, 0, ?_, ?_, by simp, Nat.zero_le _, fun _ _ e => by cases e⟩, hb1.alloc hb1.size _⟩
    · exact heap_alloc_new w1 _
    · exact Txt.nil _ _
  · have ho := Txt.of_own hown
    have hlt := (Array.getElem?_eq_some_iff.1 hgg).1
    clear hgg
    go_wp2_with fail
    go_ret
    refine ⟨w1.heap.size, rfl, hb1.size, by simp, ⟨some ⟨g, 0, none⟩, cap, heap_alloc_new w1 _, ho.1.below ((Below.refl _ _).alloc (Nat.le_refl _) _), hnc, hcm, ?_⟩, hb1.alloc hb1.size _⟩
    intro b o e
    simp only [Option.some.injEq, Addr.mk.injEq, and_true] at e
    refine ⟨by omega, by omega, ?_⟩
    show b < (w1.alloc _).heap.size
    simp; omega
/-- A reader is kept where another block, that isn't its bytes', is turned. -/
theorem Rd.beside {T : RT} {w w' : World} {g P : Nat} {s : St} (h : Rd T w g s) (hok : ∀ b, T.ok b → b ≠ P) (hg : g ≠ P) (hgr : w.grownBy w' (some P)) : Rd T w' g s := by
  have hlt := h.lt
  obtain ⟨a, c, hb, ht, hlc, hcm, hn⟩ := h
  exact ⟨a, c, (hgr.block g hlt (fun e => hg (by injection e))).trans hb, Txt.grown ht hgr (fun b o e => hok b (hn b o e).2), hlc, hcm, hn⟩
/-- A program's rows, all from block B on. -/
structure PgAt (B : Nat) (w : World) (p : Pg) (x0 x1 x2 x3 x4 x5 : Option Addr) (c0 c1 c2 c3 c4 c5 : Nat) : Prop where
  ins : KRow B w (.slice x0 p.ins.length c0) p.ins
  outs : KRow B w (.slice x1 p.outs.length c1) p.outs
  slots : KRow B w (.slice x2 p.slots.length c2) p.slots
  mems : KRow B w (.slice x3 p.mems.length c3) p.mems
  consts : KRow B w (.slice x4 p.consts.length c4) p.consts
  code : CRow B w (.slice x5 p.code.length c5) p.code
theorem PgAt.keep {B : Nat} {w w' : World} {p : Pg} {x0 x1 x2 x3 x4 x5 : Option Addr} {c0 c1 c2 c3 c4 c5 : Nat} {g h : Nat} (k : PgAt B w p x0 x1 x2 x3 x4 x5 c0 c1 c2 c3 c4 c5) (x : K2 g h w w') (hg : g < B) (hh : h < B) : PgAt B w' p x0 x1 x2 x3 x4 x5 c0 c1 c2 c3 c4 c5 :=
  ⟨k.ins.keep x hg hh, k.outs.keep x hg hh, k.slots.keep x hg hh, k.mems.keep x hg hh, k.consts.keep x hg hh, k.code.keep x hg hh⟩
theorem KRow.weak {B B' : Nat} {w : World} {v : Value} {l : List Int} (h : KRow B w v l) (hB : B' ≤ B) : KRow B' w v l := by
  obtain ⟨x, c, rfl, h1, h2, h3⟩ := h
  exact ⟨x, c, rfl, h1, h2, fun hne => by obtain ⟨b, o, rfl, hb, r⟩ := h3 hne; exact ⟨b, o, rfl, Nat.le_trans hB hb, r⟩⟩
theorem CRow.weak {B B' : Nat} {w : World} {v : Value} {l : List In4} (h : CRow B w v l) (hB : B' ≤ B) : CRow B' w v l := by
  obtain ⟨x, c, rfl, h1, h2, h3⟩ := h
  exact ⟨x, c, rfl, h1, h2, fun hne => by obtain ⟨b, o, rfl, hb, r⟩ := h3 hne; exact ⟨b, o, rfl, Nat.le_trans hB hb, r⟩⟩
theorem PgAt.pgIn {B : Nat} {w : World} {p : Pg} {x0 x1 x2 x3 x4 x5 : Option Addr} {c0 c1 c2 c3 c4 c5 : Nat} (k : PgAt B w p x0 x1 x2 x3 x4 x5 c0 c1 c2 c3 c4 c5) : PgIn w p x0 x1 x2 x3 x4 x5 :=
  ⟨k.ins.row, k.outs.row, k.slots.row, k.mems.row, k.consts.row, k.code.row⟩
/-- What read hands back. -/
def GivesPg (w : World) (p : Pg) (e : Ending) (w' : World) : Prop :=
  ∃ x0 x1 x2 x3 x4 x5 c0 c1 c2 c3 c4 c5, e = .returned (pgV p x0 x1 x2 x3 x4 x5 c0 c1 c2 c3 c4 c5) ∧ PgAt w.heap.size w' p x0 x1 x2 x3 x4 x5 c0 c1 c2 c3 c4 c5 ∧ Below w.heap.size w w'
theorem KRow.no (B : Nat) (w : World) : KRow B w (.slice none 0 0) [] := ⟨none, 0, rfl, Nat.le_refl _, by unfold maxLen; omega, fun h => absurd rfl h⟩
theorem CRow.no (B : Nat) (w : World) : CRow B w (.slice none 0 0) [] := ⟨none, 0, rfl, Nat.le_refl _, by unfold maxLen; omega, fun h => absurd rfl h⟩
theorem pgIn_no (w : World) (x0 x1 x2 x3 x4 x5 : Option Addr) : PgIn w noPg x0 x1 x2 x3 x4 x5 := ⟨Row.nil _ _ _, Row.nil _ _ _, Row.nil _ _ _, Row.nil _ _ _, Row.nil _ _ _, fun h => absurd rfl h⟩
set_option maxHeartbeats 8000000 in
set_option maxRecDepth 100000 in
theorem read_any (l : List UInt8) (a : Option Addr) (c : Nat) (w : World) (ht : Txt w a l) (hc : l.length ≤ c) (hm : c ≤ maxLen) (hl : l.length ≤ 1000000) :
    Calls Tryd.prog 21 #[.slice a l.length c] w (GivesPg w (readP l)) := by
  obtain ⟨R, hR⟩ : ∃ R, R = w.heap.size := ⟨_, rfl⟩
  obtain ⟨W0, hW0⟩ : ∃ W0, W0 = (w.alloc (.cells #[.slice none 0 0, .slice none 0 0, .slice none 0 0, .slice none 0 0, .slice none 0 0, .slice none 0 0] 27)).alloc (.cells #[.slice none 0 0, .slice none 0 0, .slice none 0 0, .slice none 0 0, .slice none 0 0, .slice none 0 0] 27) := ⟨_, rfl⟩
  have hb0 : Below w.heap.size w W0 := by rw [hW0]; exact ((Below.refl _ _).alloc (Nat.le_refl _) _).alloc (by simp) _
  have hkR : W0.heap[R]? = some (.cells #[.slice none 0 0, .slice none 0 0, .slice none 0 0, .slice none 0 0, .slice none 0 0, .slice none 0 0] 27 (0, 0)) := by rw [hW0, hR, Below.heap_alloc _ _ _ (by simp)]; exact heap_alloc_new w _
  have hkP : W0.heap[R + 1]? = some (.cells #[.slice none 0 0, .slice none 0 0, .slice none 0 0, .slice none 0 0, .slice none 0 0, .slice none 0 0] 27 (0, 0)) := by
    have e : R + 1 = (w.alloc (.cells #[.slice none 0 0, .slice none 0 0, .slice none 0 0, .slice none 0 0, .slice none 0 0, .slice none 0 0] 27)).heap.size := by rw [hR]; simp
    rw [hW0, e]; exact heap_alloc_new _ _
  have hs0 : W0.heap.size = R + 2 := by rw [hW0, hR]; simp
  have HR := Lib.hid hR
  have HW0 := Lib.hid hW0
  have HB0 := Lib.hid hb0
  have HKR := Lib.hid hkR
  have HKP := Lib.hid hkP
  have HS0 := Lib.hid hs0
  have HT := Lib.hid (ht.below hb0)
  have HC := Lib.hid (And.intro hc hm)
  have HL := Lib.hid hl
  have HSP := Lib.hid size_prog
  have HZ0 := Lib.hid (prog_one none none none none none none 0 0 0 0 0 0 0 0 0 0 0 0)
  clear hb0 hkR hkP hW0 hR ht hs0
  unfold maxLen at hm
  by_cases h8 : l.length < 8
  · have d1 : decide ((l.length : Int) < 8) = true := by simp; omega
    have hrp : readP l = noPg := by unfold readP; rw [if_pos h8]
    have HRP := Lib.hid hrp
    clear h8 hrp
    go_enter Tryd.func21, Tryd.ntmps21
    go_upto_region 2 with fail
    rw [← HW0.out, ← HR.out]
    go_wp2_with (first | (refine wpList_load_row rfl 27 (.tmp 3) rfl (R + 1) rfl 27 #[.slice none 0 0, .slice none 0 0, .slice none 0 0, .slice none 0 0, .slice none 0 0, .slice none 0 0] (0, 0) _ ?_ Tryd.underlying27 rfl HSP.out ?_; (exact HKP.out)) | (refine wpList_store_row rfl 27 (.tmp 2) (.tmp 8) rfl R #[.slice none 0 0, .slice none 0 0, .slice none 0 0, .slice none 0 0, .slice none 0 0, .slice none 0 0] rfl rfl 27 #[.slice none 0 0, .slice none 0 0, .slice none 0 0, .slice none 0 0, .slice none 0 0, .slice none 0 0] ?_ HSP.out rfl HZ0.out ?_; (exact HKR.out)))
    refine bodyPost_ret (v := .agg #[.slice none 0 0, .slice none 0 0, .slice none 0 0, .slice none 0 0, .slice none 0 0, .slice none 0 0]) (results_cell_row (p := 2) (ty := 27) rfl _ _ R 27 _ (0, 0) _ rfl (setRow_heap _ R _ _ _ _ HKR.out) Tryd.underlying27 rfl HSP.out) rfl ?_
    rw [HRP.out]
    exact ⟨none, none, none, none, none, none, 0, 0, 0, 0, 0, 0, rfl, ⟨KRow.no _ _, KRow.no _ _, KRow.no _ _, KRow.no _ _, KRow.no _ _, CRow.no _ _⟩, below_setRow HB0.out (by rw [HR.out]; exact Nat.le_refl _) _⟩
  · have d1 : decide ((l.length : Int) < 8) = false := by simp; omega
    obtain ⟨b, o, rfl, hbl, hcell⟩ := HT.out (by intro h; rw [h] at h8; simp at h8)
    have hrp : readP l = (rdPx ((l.drop 4).take (l.length - 8), false)).1 := by unfold readP; rw [if_neg h8]
    have HRP := Lib.hid hrp
    have ht4 : Txt W0 (some ⟨b, o + 4, none⟩) ((l.drop 4).take (l.length - 8)) := fun _ => ⟨b, o + 4, rfl, hbl, fun i hi => by
      have hi2 : i < l.length - 8 := by rw [List.length_take] at hi; omega
      rw [show o + 4 + i = o + (4 + i) by omega, hcell (4 + i) (by omega), List.getElem_take, List.getElem_drop]⟩
    have hMl : ((l.drop 4).take (l.length - 8)).length = l.length - 8 := by rw [List.length_take, List.length_drop]; omega
    obtain ⟨M, hM⟩ : ∃ M, M = (l.drop 4).take (l.length - 8) := ⟨_, rfl⟩
    rw [← hM] at ht4 hMl HRP
    have kr := Read_own (some ⟨b, o + 4, none⟩) (c - 4) M W0 ht4 (by omega)
    rw [hMl, show l.length - 8 = l.length - 4 - 4 by omega] at kr
    obtain ⟨P, hP⟩ : ∃ P, P = R + 1 := ⟨_, rfl⟩
    have HPP := Lib.hid hP
    have HML := Lib.hid (show M.length ≤ 1000000 by omega)
    have i1 : (4 : Int) ≤ (l.length : Int) - 4 := by omega
    have i2 : (l.length : Int) - 4 ≤ (c : Int) := by omega
    clear hbl hcell hrp ht4 hM hMl
    go_enter Tryd.func21, Tryd.ntmps21
    go_upto_region 2 with fail
    rw [← HW0.out, ← HR.out, ← HPP.out]
    go_wp2_with fail
    (with_reducible refine kr.mono ?_)
    rintro e w1 ⟨g, rfl, hg1, hg2, hr, hb1⟩
    clear kr
    obtain ⟨TR, hTR⟩ : ∃ TR : RT, TR = ⟨85, fun b => W0.heap.size ≤ b ∧ b < w1.heap.size⟩ := ⟨_, rfl⟩
    rw [← hTR] at hr
    have HOK : Hid (∀ b, TR.ok b → b ≠ P ∧ b < w1.heap.size) := Lib.hid (by rw [hTR, hP]; intro b h; have h1 : W0.heap.size ≤ b ∧ b < w1.heap.size := h; have := HS0.out; omega)
    have HGP : Hid (P < g ∧ P = R + 1) := Lib.hid (by have := HS0.out; omega)
    have HG1 := Lib.hid hg2
    have HBW1 : Hid (Below w.heap.size w w1) := Lib.hid (HB0.out.trans (hb1.mono HB0.out.size))
    have HR1 : Hid (w1.heap[R]? = some (.cells #[.slice none 0 0, .slice none 0 0, .slice none 0 0, .slice none 0 0, .slice none 0 0, .slice none 0 0] 27 (0, 0))) := Lib.hid ((hb1.block R (by have := HS0.out; omega)).trans HKR.out)
    have HD0 : Hid (Dec TR g P (M, false) #[.slice none 0 0, .slice none 0 0, .slice none 0 0, .slice none 0 0, .slice none 0 0, .slice none 0 0] w1) := Lib.hid ⟨hr, (hb1.block P (by have := HS0.out; omega)).trans (by rw [hP]; exact HKP.out)⟩
    have HK0 := Lib.hid (K2.refl g P w1)
    obtain ⟨s0, hs0'⟩ : ∃ s0 : St, s0 = (M, false) := ⟨_, rfl⟩
    have HP0 : Hid (rdPx s0 = rdPx2 (rdLx s0).1 (rdLx s0).2) := Lib.hid rfl
    have HLT0 : Hid (s0.1.length ≤ 1000000) := Lib.hid (by rw [hs0']; exact HML.out)
    rw [← hs0'] at HD0 HRP
    clear hr hg1 hg2 hb1 hTR hs0' i1 i2 d1 h8 hP
    obtain ⟨wb0, hwb⟩ : ∃ W : World, W = w1 := ⟨_, rfl⟩
    rw [← hwb] at HD0 HK0 HG1 HOK HBW1 HR1 ⊢
    clear hwb w1
    have kk := readKinds_any g s0 wb0 HD0.out.rd (fun b h => Nat.lt_of_lt_of_le (HOK.out b h).2 HK0.out.size) (by have := HLT0.out; omega)
    go_wp2_with fail
    (with_reducible refine kk.mono ?_)
    rintro e wa0 ⟨v0_, rfl, ho, hr, hg⟩
    clear kk
    obtain ⟨k0_, hk⟩ : ∃ k, k = (rdLx s0).1 := ⟨_, rfl⟩
    obtain ⟨s1, hs⟩ : ∃ s, s = (rdLx s0).2 := ⟨_, rfl⟩
    have HLT1 : Hid (s1.1.length ≤ 1000000) := Lib.hid (by rw [hs]; exact Nat.le_trans (rdLx_few s0).2.1 HLT0.out)
    rw [← hk] at ho
    obtain ⟨x0_, c0_, rfl, _⟩ := ho.form
    rw [← hs] at hr
    have HP1 : Hid (rdPx s0 = rdPx2 k0_ s1) := Lib.hid (by rw [HP0.out, hk, hs] <;> rfl)
    have HDA := Lib.hid (HD0.out.grown hr hg (by have := HGP.out; omega))
    have HKA := Lib.hid (HK0.out.trans (K2.left (h := P) hg))
    have HRA0 := Lib.hid (KRow.of_own (B' := g + 1) ho (Nat.lt_of_lt_of_le HG1.out HK0.out.size))
    have HX0 := Lib.hid (K2.left (h := P) hg)
    have q0 := cell_of_row wa0 P 0 _ _ _ HDA.out.blk
    have q1 := frozen_of_row wa0 P 0 _ _ HDA.out.blk
    have HD1 : Hid (Dec TR g P s1 #[.slice x0_ k0_.length c0_, .slice none 0 0, .slice none 0 0, .slice none 0 0, .slice none 0 0, .slice none 0 0] (wa0.setCell ⟨P, 0, none⟩ (.slice x0_ k0_.length c0_))) := Lib.hid ⟨HDA.out.rd.beside (fun b h => (HOK.out b h).1) (by have := HGP.out; omega) (set_grown wa0 P 0 (.slice x0_ k0_.length c0_)), by rw [heap_setCell_same wa0 P 0 _ _ _ HDA.out.blk]; rfl⟩
    have HK1 := Lib.hid (HKA.out.trans (K2.right (g := g) (set_grown wa0 P 0 (.slice x0_ k0_.length c0_))))
    have HY0 := Lib.hid (K2.right (g := g) (set_grown wa0 P 0 (.slice x0_ k0_.length c0_)))
    obtain ⟨wb1, hwb⟩ : ∃ W, W = wa0.setCell ⟨P, 0, none⟩ (.slice x0_ k0_.length c0_) := ⟨_, rfl⟩
    rw [← hwb] at HD1 HK1 HY0
    have HWB := Lib.hid hwb
    clear hwb hk hs ho hr hg HDA HKA
    have kk := readKinds_any g s1 wb1 HD1.out.rd (fun b h => Nat.lt_of_lt_of_le (HOK.out b h).2 HK1.out.size) (by have := HLT1.out; omega)
    go_wp2_with fail
    rw [← HWB.out]
    clear q0 q1 HWB
    (with_reducible refine kk.mono ?_)
    rintro e wa1 ⟨v1_, rfl, ho, hr, hg⟩
    clear kk
    obtain ⟨k1_, hk⟩ : ∃ k, k = (rdLx s1).1 := ⟨_, rfl⟩
    obtain ⟨s2, hs⟩ : ∃ s, s = (rdLx s1).2 := ⟨_, rfl⟩
    have HLT2 : Hid (s2.1.length ≤ 1000000) := Lib.hid (by rw [hs]; exact Nat.le_trans (rdLx_few s1).2.1 HLT1.out)
    rw [← hk] at ho
    obtain ⟨x1_, c1_, rfl, _⟩ := ho.form
    rw [← hs] at hr
    have HP2 : Hid (rdPx s0 = rdPx3 k0_ k1_ s2) := Lib.hid (by rw [HP1.out, hk, hs] <;> rfl)
    have HDA := Lib.hid (HD1.out.grown hr hg (by have := HGP.out; omega))
    have HKA := Lib.hid (HK1.out.trans (K2.left (h := P) hg))
    have HRA1 := Lib.hid (KRow.of_own (B' := g + 1) ho (Nat.lt_of_lt_of_le HG1.out HK1.out.size))
    have HX1 := Lib.hid (K2.left (h := P) hg)
    have q0 := cell_of_row wa1 P 1 _ _ _ HDA.out.blk
    have q1 := frozen_of_row wa1 P 1 _ _ HDA.out.blk
    have HD2 : Hid (Dec TR g P s2 #[.slice x0_ k0_.length c0_, .slice x1_ k1_.length c1_, .slice none 0 0, .slice none 0 0, .slice none 0 0, .slice none 0 0] (wa1.setCell ⟨P, 1, none⟩ (.slice x1_ k1_.length c1_))) := Lib.hid ⟨HDA.out.rd.beside (fun b h => (HOK.out b h).1) (by have := HGP.out; omega) (set_grown wa1 P 1 (.slice x1_ k1_.length c1_)), by rw [heap_setCell_same wa1 P 1 _ _ _ HDA.out.blk]; rfl⟩
    have HK2 := Lib.hid (HKA.out.trans (K2.right (g := g) (set_grown wa1 P 1 (.slice x1_ k1_.length c1_))))
    have HY1 := Lib.hid (K2.right (g := g) (set_grown wa1 P 1 (.slice x1_ k1_.length c1_)))
    obtain ⟨wb2, hwb⟩ : ∃ W, W = wa1.setCell ⟨P, 1, none⟩ (.slice x1_ k1_.length c1_) := ⟨_, rfl⟩
    rw [← hwb] at HD2 HK2 HY1
    have HWB := Lib.hid hwb
    clear hwb hk hs ho hr hg HDA HKA
    have kk := readKinds_any g s2 wb2 HD2.out.rd (fun b h => Nat.lt_of_lt_of_le (HOK.out b h).2 HK2.out.size) (by have := HLT2.out; omega)
    go_wp2_with fail
    rw [← HWB.out]
    clear q0 q1 HWB
    (with_reducible refine kk.mono ?_)
    rintro e wa2 ⟨v2_, rfl, ho, hr, hg⟩
    clear kk
    obtain ⟨k2_, hk⟩ : ∃ k, k = (rdLx s2).1 := ⟨_, rfl⟩
    obtain ⟨s3, hs⟩ : ∃ s, s = (rdLx s2).2 := ⟨_, rfl⟩
    have HLT3 : Hid (s3.1.length ≤ 1000000) := Lib.hid (by rw [hs]; exact Nat.le_trans (rdLx_few s2).2.1 HLT2.out)
    rw [← hk] at ho
    obtain ⟨x2_, c2_, rfl, _⟩ := ho.form
    rw [← hs] at hr
    have HP3 : Hid (rdPx s0 = rdPx4 k0_ k1_ k2_ s3) := Lib.hid (by rw [HP2.out, hk, hs] <;> rfl)
    have HDA := Lib.hid (HD2.out.grown hr hg (by have := HGP.out; omega))
    have HKA := Lib.hid (HK2.out.trans (K2.left (h := P) hg))
    have HRA2 := Lib.hid (KRow.of_own (B' := g + 1) ho (Nat.lt_of_lt_of_le HG1.out HK2.out.size))
    have HX2 := Lib.hid (K2.left (h := P) hg)
    have q0 := cell_of_row wa2 P 2 _ _ _ HDA.out.blk
    have q1 := frozen_of_row wa2 P 2 _ _ HDA.out.blk
    have HD3 : Hid (Dec TR g P s3 #[.slice x0_ k0_.length c0_, .slice x1_ k1_.length c1_, .slice x2_ k2_.length c2_, .slice none 0 0, .slice none 0 0, .slice none 0 0] (wa2.setCell ⟨P, 2, none⟩ (.slice x2_ k2_.length c2_))) := Lib.hid ⟨HDA.out.rd.beside (fun b h => (HOK.out b h).1) (by have := HGP.out; omega) (set_grown wa2 P 2 (.slice x2_ k2_.length c2_)), by rw [heap_setCell_same wa2 P 2 _ _ _ HDA.out.blk]; rfl⟩
    have HK3 := Lib.hid (HKA.out.trans (K2.right (g := g) (set_grown wa2 P 2 (.slice x2_ k2_.length c2_))))
    have HY2 := Lib.hid (K2.right (g := g) (set_grown wa2 P 2 (.slice x2_ k2_.length c2_)))
    obtain ⟨wb3, hwb⟩ : ∃ W, W = wa2.setCell ⟨P, 2, none⟩ (.slice x2_ k2_.length c2_) := ⟨_, rfl⟩
    rw [← hwb] at HD3 HK3 HY2
    have HWB := Lib.hid hwb
    clear hwb hk hs ho hr hg HDA HKA
    have kk := readKinds_any g s3 wb3 HD3.out.rd (fun b h => Nat.lt_of_lt_of_le (HOK.out b h).2 HK3.out.size) (by have := HLT3.out; omega)
    go_wp2_with fail
    rw [← HWB.out]
    clear q0 q1 HWB
    (with_reducible refine kk.mono ?_)
    rintro e wa3 ⟨v3_, rfl, ho, hr, hg⟩
    clear kk
    obtain ⟨k3_, hk⟩ : ∃ k, k = (rdLx s3).1 := ⟨_, rfl⟩
    obtain ⟨s4, hs⟩ : ∃ s, s = (rdLx s3).2 := ⟨_, rfl⟩
    have HLT4 : Hid (s4.1.length ≤ 1000000) := Lib.hid (by rw [hs]; exact Nat.le_trans (rdLx_few s3).2.1 HLT3.out)
    rw [← hk] at ho
    obtain ⟨x3_, c3_, rfl, _⟩ := ho.form
    rw [← hs] at hr
    have HP4 : Hid (rdPx s0 = rdPx5 k0_ k1_ k2_ k3_ s4) := Lib.hid (by rw [HP3.out, hk, hs] <;> rfl)
    have HDA := Lib.hid (HD3.out.grown hr hg (by have := HGP.out; omega))
    have HKA := Lib.hid (HK3.out.trans (K2.left (h := P) hg))
    have HRA3 := Lib.hid (KRow.of_own (B' := g + 1) ho (Nat.lt_of_lt_of_le HG1.out HK3.out.size))
    have HX3 := Lib.hid (K2.left (h := P) hg)
    have q0 := cell_of_row wa3 P 3 _ _ _ HDA.out.blk
    have q1 := frozen_of_row wa3 P 3 _ _ HDA.out.blk
    have HD4 : Hid (Dec TR g P s4 #[.slice x0_ k0_.length c0_, .slice x1_ k1_.length c1_, .slice x2_ k2_.length c2_, .slice x3_ k3_.length c3_, .slice none 0 0, .slice none 0 0] (wa3.setCell ⟨P, 3, none⟩ (.slice x3_ k3_.length c3_))) := Lib.hid ⟨HDA.out.rd.beside (fun b h => (HOK.out b h).1) (by have := HGP.out; omega) (set_grown wa3 P 3 (.slice x3_ k3_.length c3_)), by rw [heap_setCell_same wa3 P 3 _ _ _ HDA.out.blk]; rfl⟩
    have HK4 := Lib.hid (HKA.out.trans (K2.right (g := g) (set_grown wa3 P 3 (.slice x3_ k3_.length c3_))))
    have HY3 := Lib.hid (K2.right (g := g) (set_grown wa3 P 3 (.slice x3_ k3_.length c3_)))
    obtain ⟨wb4, hwb⟩ : ∃ W, W = wa3.setCell ⟨P, 3, none⟩ (.slice x3_ k3_.length c3_) := ⟨_, rfl⟩
    rw [← hwb] at HD4 HK4 HY3
    have HWB := Lib.hid hwb
    clear hwb hk hs ho hr hg HDA HKA
    have kk := readConsts_any g s4 wb4 HD4.out.rd (fun b h => Nat.lt_of_lt_of_le (HOK.out b h).2 HK4.out.size) (by have := HLT4.out; omega)
    go_wp2_with fail
    rw [← HWB.out]
    clear q0 q1 HWB
    (with_reducible refine kk.mono ?_)
    rintro e wa4 ⟨v4_, rfl, ho, hr, hg⟩
    clear kk
    obtain ⟨k4_, hk⟩ : ∃ k, k = (rdLx s4).1 := ⟨_, rfl⟩
    obtain ⟨s5, hs⟩ : ∃ s, s = (rdLx s4).2 := ⟨_, rfl⟩
    have HLT5 : Hid (s5.1.length ≤ 1000000) := Lib.hid (by rw [hs]; exact Nat.le_trans (rdLx_few s4).2.1 HLT4.out)
    rw [← hk] at ho
    obtain ⟨x4_, c4_, rfl, _⟩ := ho.form
    rw [← hs] at hr
    have HP5 : Hid (rdPx s0 = rdPx6 k0_ k1_ k2_ k3_ k4_ s5) := Lib.hid (by rw [HP4.out, hk, hs] <;> rfl)
    have HDA := Lib.hid (HD4.out.grown hr hg (by have := HGP.out; omega))
    have HKA := Lib.hid (HK4.out.trans (K2.left (h := P) hg))
    have HRA4 := Lib.hid (KRow.of_own (B' := g + 1) ho (Nat.lt_of_lt_of_le HG1.out HK4.out.size))
    have HX4 := Lib.hid (K2.left (h := P) hg)
    have q0 := cell_of_row wa4 P 4 _ _ _ HDA.out.blk
    have q1 := frozen_of_row wa4 P 4 _ _ HDA.out.blk
    have HD5 : Hid (Dec TR g P s5 #[.slice x0_ k0_.length c0_, .slice x1_ k1_.length c1_, .slice x2_ k2_.length c2_, .slice x3_ k3_.length c3_, .slice x4_ k4_.length c4_, .slice none 0 0] (wa4.setCell ⟨P, 4, none⟩ (.slice x4_ k4_.length c4_))) := Lib.hid ⟨HDA.out.rd.beside (fun b h => (HOK.out b h).1) (by have := HGP.out; omega) (set_grown wa4 P 4 (.slice x4_ k4_.length c4_)), by rw [heap_setCell_same wa4 P 4 _ _ _ HDA.out.blk]; rfl⟩
    have HK5 := Lib.hid (HKA.out.trans (K2.right (g := g) (set_grown wa4 P 4 (.slice x4_ k4_.length c4_))))
    have HY4 := Lib.hid (K2.right (g := g) (set_grown wa4 P 4 (.slice x4_ k4_.length c4_)))
    obtain ⟨wb5, hwb⟩ : ∃ W, W = wa4.setCell ⟨P, 4, none⟩ (.slice x4_ k4_.length c4_) := ⟨_, rfl⟩
    rw [← hwb] at HD5 HK5 HY4
    have HWB := Lib.hid hwb
    clear hwb hk hs ho hr hg HDA HKA
    have kk := readCode_any g s5 wb5 HD5.out.rd (fun b h => Nat.lt_of_lt_of_le (HOK.out b h).2 HK5.out.size) (by have := HLT5.out; omega)
    go_wp2_with fail
    rw [← HWB.out]
    clear q0 q1 HWB
    (with_reducible refine kk.mono ?_)
    rintro e wa5 ⟨v5_, rfl, ho, hr, hg⟩
    clear kk
    obtain ⟨k5_, hk⟩ : ∃ k, k = (rdCx s5).1 := ⟨_, rfl⟩
    obtain ⟨s6, hs⟩ : ∃ s, s = (rdCx s5).2 := ⟨_, rfl⟩
    rw [← hk] at ho
    obtain ⟨x5_, c5_, rfl, _⟩ := CRow.of_own ho (Nat.le_refl _)
    rw [← hs] at hr
    have HP6 : Hid (rdPx s0 = (⟨k0_, k1_, k2_, k3_, k4_, k5_⟩, s6)) := Lib.hid (by rw [HP5.out, hk, hs] <;> rfl)
    have HDA := Lib.hid (HD5.out.grown hr hg (by have := HGP.out; omega))
    have HKA := Lib.hid (HK5.out.trans (K2.left (h := P) hg))
    have HRA5 := Lib.hid (CRow.of_own (B' := g + 1) ho (Nat.lt_of_lt_of_le HG1.out HK5.out.size))
    have HX5 := Lib.hid (K2.left (h := P) hg)
    have q0 := cell_of_row wa5 P 5 _ _ _ HDA.out.blk
    have q1 := frozen_of_row wa5 P 5 _ _ HDA.out.blk
    have HD6 : Hid (Dec TR g P s6 #[.slice x0_ k0_.length c0_, .slice x1_ k1_.length c1_, .slice x2_ k2_.length c2_, .slice x3_ k3_.length c3_, .slice x4_ k4_.length c4_, .slice x5_ k5_.length c5_] (wa5.setCell ⟨P, 5, none⟩ (.slice x5_ k5_.length c5_))) := Lib.hid ⟨HDA.out.rd.beside (fun b h => (HOK.out b h).1) (by have := HGP.out; omega) (set_grown wa5 P 5 (.slice x5_ k5_.length c5_)), by rw [heap_setCell_same wa5 P 5 _ _ _ HDA.out.blk]; rfl⟩
    have HK6 := Lib.hid (HKA.out.trans (K2.right (g := g) (set_grown wa5 P 5 (.slice x5_ k5_.length c5_))))
    have HY5 := Lib.hid (K2.right (g := g) (set_grown wa5 P 5 (.slice x5_ k5_.length c5_)))
    obtain ⟨wb6, hwb⟩ : ∃ W, W = wa5.setCell ⟨P, 5, none⟩ (.slice x5_ k5_.length c5_) := ⟨_, rfl⟩
    rw [← hwb] at HD6 HK6 HY5
    have HWB := Lib.hid hwb
    clear hwb hk hs ho hr hg HDA HKA
    have HRR : Hid (wb6.heap[R]? = some (.cells #[.slice none 0 0, .slice none 0 0, .slice none 0 0, .slice none 0 0, .slice none 0 0, .slice none 0 0] 27 (0, 0))) := Lib.hid ((HK6.out.block R (Nat.lt_of_lt_of_le (Array.getElem?_eq_some_iff.1 HR1.out).1 (Nat.le_refl _)) (by have := HGP.out; omega) (by have := HGP.out; omega)).trans HR1.out)
    have HONE := Lib.hid (prog_one x0_ x1_ x2_ x3_ x4_ x5_ k0_.length k1_.length k2_.length k3_.length k4_.length k5_.length c0_ c1_ c2_ c3_ c4_ c5_)
    go_upto_region 11 with fail
    rw [← HWB.out]
    clear q0 q1 HWB
    go_wp2_with (first | (refine wpList_load_row rfl 27 (.tmp 3) rfl P rfl 27 #[.slice x0_ k0_.length c0_, .slice x1_ k1_.length c1_, .slice x2_ k2_.length c2_, .slice x3_ k3_.length c3_, .slice x4_ k4_.length c4_, .slice x5_ k5_.length c5_] (0, 0) _ ?_ Tryd.underlying27 rfl HSP.out ?_; (exact HD6.out.blk)) | (refine wpList_store_row rfl 27 (.tmp 2) (.tmp 33) rfl R #[.slice x0_ k0_.length c0_, .slice x1_ k1_.length c1_, .slice x2_ k2_.length c2_, .slice x3_ k3_.length c3_, .slice x4_ k4_.length c4_, .slice x5_ k5_.length c5_] rfl rfl 27 #[.slice none 0 0, .slice none 0 0, .slice none 0 0, .slice none 0 0, .slice none 0 0, .slice none 0 0] ?_ HSP.out rfl HONE.out ?_; (exact HRR.out)))
    refine bodyPost_ret (v := .agg #[.slice x0_ k0_.length c0_, .slice x1_ k1_.length c1_, .slice x2_ k2_.length c2_, .slice x3_ k3_.length c3_, .slice x4_ k4_.length c4_, .slice x5_ k5_.length c5_]) (results_cell_row (p := 2) (ty := 27) rfl _ _ R 27 _ (0, 0) _ rfl (setRow_heap _ R _ _ _ _ HRR.out) Tryd.underlying27 rfl HSP.out) rfl ?_
    have hrp : readP l = ⟨k0_, k1_, k2_, k3_, k4_, k5_⟩ := by rw [HRP.out, HP6.out]
    rw [hrp]
    have hgp := HGP.out
    have z5 := HY5.out
    have z4 := (HY4.out.trans HX5.out).trans z5
    have z3 := (HY3.out.trans HX4.out).trans z4
    have z2 := (HY2.out.trans HX3.out).trans z3
    have z1 := (HY1.out.trans HX2.out).trans z2
    have z0 := (HY0.out.trans HX1.out).trans z1
    have hbl : Below w.heap.size w (wb6.setRow R #[.slice x0_ k0_.length c0_, .slice x1_ k1_.length c1_, .slice x2_ k2_.length c2_, .slice x3_ k3_.length c3_, .slice x4_ k4_.length c4_, .slice x5_ k5_.length c5_]) := below_setRow (HK6.out.below HBW1.out HBW1.out.size (by rw [← HR.out]; omega) (by rw [← HR.out]; omega)) (by rw [← HR.out]; exact Nat.le_refl _) _
    have hst : K2 g R wb6 (wb6.setRow R #[.slice x0_ k0_.length c0_, .slice x1_ k1_.length c1_, .slice x2_ k2_.length c2_, .slice x3_ k3_.length c3_, .slice x4_ k4_.length c4_, .slice x5_ k5_.length c5_]) := K2.right ⟨rfl, rfl, rfl, by simp, fun k _ hk => setRow_other14 _ _ _ _ (fun e => hk (by rw [e]))⟩
    have g1 : P < g + 1 := by omega
    have g2 : g < g + 1 := Nat.lt_succ_self _
    have g3 : R < g + 1 := by omega
    have g4 : w.heap.size ≤ g + 1 := by rw [← HR.out]; omega
    refine ⟨x0_, x1_, x2_, x3_, x4_, x5_, c0_, c1_, c2_, c3_, c4_, c5_, rfl, ⟨?_, ?_, ?_, ?_, ?_, ?_⟩, hbl⟩
    · exact ((HRA0.out.keep z0 g2 g1).keep hst g2 g3).weak g4
    · exact ((HRA1.out.keep z1 g2 g1).keep hst g2 g3).weak g4
    · exact ((HRA2.out.keep z2 g2 g1).keep hst g2 g3).weak g4
    · exact ((HRA3.out.keep z3 g2 g1).keep hst g2 g3).weak g4
    · exact ((HRA4.out.keep z4 g2 g1).keep hst g2 g3).weak g4
    · exact ((HRA5.out.keep z5 g2 g1).keep hst g2 g3).weak g4
end Go.Proofs.YtophockpjchilaaDoor

namespace Go.Proofs.YtophockpjchilaaDoor
open Go
/-- A number's digits. -/
def textN (n : Nat) : List UInt8 := if n < 10 then [(48 + n).toUInt8] else textN (n / 10) ++ [(48 + n % 10).toUInt8]
termination_by n
decreasing_by omega
theorem textN_small (n : Nat) (h : n < 10) : textN n = [(48 + n).toUInt8] := by rw [textN, if_pos h]
theorem textN_big (n : Nat) (h : ¬ n < 10) : textN n = textN (n / 10) ++ [(48 + n % 10).toUInt8] := by rw [textN, if_neg h]
theorem digit_nat (n : Nat) (h : n < 10) : ((48 + n).toUInt8).toNat = 48 + n := by simp; omega
theorem bytes_injT {a b : ByteArray} (h : a.data.toList = b.data.toList) : a = b := by
  obtain ⟨⟨a⟩⟩ := a
  obtain ⟨⟨b⟩⟩ := b
  simp at h
  rw [h]
theorem textN_few : ∀ (k n : Nat), n < 10 ^ (k + 1) → (textN n).length ≤ k + 1
  | 0, n, h => by rw [textN_small n (by simpa using h)]; simp
  | k + 1, n, h => by
    by_cases hn : n < 10
    · rw [textN_small n hn]; simp
    · rw [textN_big n hn, List.length_append]
      have := textN_few k (n / 10) (by rw [Nat.pow_succ] at h; omega)
      simp only [List.length_singleton]; omega
theorem textN_len19 (n : Nat) (h : n < 9223372036854775808) : (textN n).length ≤ 19 := textN_few 18 n (Nat.lt_of_lt_of_le h (by decide))
/-- A number with a sign. -/
def textI (v : Int) : List UInt8 := if v < 0 then 45 :: textN v.natAbs else textN v.natAbs
theorem textI_len {v : Int} (h0 : -9223372036854775808 ≤ v) (h1 : v ≤ 9223372036854775807) : (textI v).length ≤ 20 := by
  have := textN_few 18 v.natAbs (Nat.lt_of_le_of_lt (show v.natAbs ≤ 9223372036854775808 by omega) (by decide))
  unfold textI
  split
  · rw [List.length_cons]; omega
  · omega
theorem textN_min : textN 9223372036854775808 = [57, 50, 50, 51, 51, 55, 50, 48, 51, 54, 56, 53, 52, 55, 55, 53, 56, 48, 56] := by
  rw [textN_big _ (by decide), textN_big _ (by decide), textN_big _ (by decide), textN_big _ (by decide), textN_big _ (by decide), textN_big _ (by decide), textN_big _ (by decide), textN_big _ (by decide), textN_big _ (by decide), textN_big _ (by decide), textN_big _ (by decide), textN_big _ (by decide), textN_big _ (by decide), textN_big _ (by decide), textN_big _ (by decide), textN_big _ (by decide), textN_big _ (by decide), textN_big _ (by decide), textN_small _ (by decide)]
  decide
end Go.Proofs.YtophockpjchilaaDoor

namespace Go.Proofs.YtophockpjchilaaDoor
open Go Go.RowKit
def wLit (L : List UInt8) (v : Value) (W : World) : Prop := ∃ g, v = .slice (some ⟨g, 0, none⟩) L.length L.length ∧ Txt W (some ⟨g, 0, none⟩) L
theorem stable_lit (L : List UInt8) : Stable (wLit L) := fun _ _ _ ⟨g, h1, h2⟩ hb => ⟨g, h1, h2.below hb⟩
theorem bin_quo10 {P : Program} {W : World} {t : TypeId} (x : Nat) (hx : x < 9223372036854775808) : (binOp .quo t (.int .i64 (x : Int)) (.int .i64 10)).run P W = .ok (.int .i64 ((x / 10 : Nat) : Int)) W := by
  have e : (x : Int).tdiv 10 = ((x / 10 : Nat) : Int) := by
    rw [Int.tdiv_eq_ediv_of_nonneg (by omega)]
    omega
  simp [go_sem, e]
  rw [IntKind.wrap_i64]
  omega
theorem bin_rem10 {P : Program} {W : World} {t : TypeId} (x : Nat) (hx : x < 9223372036854775808) : (binOp .rem t (.int .i64 (x : Int)) (.int .i64 10)).run P W = .ok (.int .i64 ((x % 10 : Nat) : Int)) W := by
  have e : (x : Int).tmod 10 = ((x % 10 : Nat) : Int) := by
    rw [Int.tmod_eq_emod_of_nonneg (by omega)]
    omega
  simp [go_sem, e]
theorem bin_add48 {P : Program} {W : World} {t : TypeId} (x : Nat) (hx : x < 10) : (binOp .add t (.int .i64 48) (.int .i64 (x : Int))).run P W = .ok (.int .i64 ((48 + x : Nat) : Int)) W := by
  simp [go_sem]
  rw [IntKind.wrap_i64]
  omega
theorem bin_addstr {P : Program} {W : World} {t : TypeId} (a b : ByteArray) (h : a.size + b.size ≤ 9223372036854775807) : (binOp .add t (.string a) (.string b)).run P W = .ok (.string (a ++ b)) W := by
  simp [go_sem]
  omega
theorem conv_digit (W : World) (x : Nat) (hx : x < 128) : (convert 2 5 (.int .i64 (x : Int))).run Tryd.prog W = .ok (.int .u8 (x : Int)) W := by
  have hk : Tryd.prog.intKind 5 = .u8 := by simp [Program.intKind, Tryd.underlying5]
  have h := run_convert_int (P := Tryd.prog) W 2 5 .i64 (x : Int) (by rw [Tryd.underlying2]; rfl) (by rw [hk]; exact Tryd.underlying5)
  rw [h, hk, IntKind.wrap_u8, show (x : Int) % 256 = (x : Int) by omega]
set_option maxHeartbeats 8000000 in
set_option maxRecDepth 100000 in
theorem rText_any : ∀ (k n : Nat) (w : World), n < k → n < 9223372036854775808 → Calls Tryd.prog 33 #[.int .i64 (n : Int)] w fun e w' => e = .returned (.string ⟨(textN n).toArray⟩) ∧ Below w.heap.size w w'
  | 0, n, w, h, _ => by omega
  | k + 1, n, w, h, hn => by
    obtain ⟨i0, hi0, hz0, hz1, hz2⟩ := info_parts info_byte
    have d0 : decide ((n : Int) < 0) = false := by simp
    by_cases hlt : n < 10
    · have d1 : decide ((n : Int) < 10) = true := by simp; omega
      have hd := digit_nat n hlt
      have ht := textN_small n hlt
      have kcv := conv_digit w (48 + n) (by omega)
      have kst := fun W (h : Txt W (some ⟨w.heap.size, 0, none⟩) [(48 + n).toUInt8]) => run_string (P := Tryd.prog) W 31 5 9 Tryd.underlying31 Tryd.underlying5 Tryd.underlying9 (some ⟨w.heap.size, 0, none⟩) [(48 + n).toUInt8] 1 h
      have hlit := lit_txt w [(48 + n).toUInt8] #[.int .u8 (48 + (n : Int))] (by simp [Lib.byteCells, hd]; omega) 5 (0, 0)
      have k2 := kst _ hlit
      obtain ⟨S, hS⟩ : ∃ S, S = (⟨(textN n).toArray⟩ : ByteArray) := ⟨_, rfl⟩
      rw [← hS]
      rw [show ([(48 + n).toUInt8] : List UInt8).length = 1 from rfl] at k2
      have hS2 : S = ⟨#[(48 + n).toUInt8]⟩ := by rw [hS, ht]
      rw [show (⟨[(48 + n).toUInt8].toArray⟩ : ByteArray) = S from hS2.symm] at k2
      rw [show ((48 + n : Nat) : Int) = 48 + (n : Int) by omega] at kcv
      have b0 : (0 : Int) ≤ (n : Int) := by omega
      have b1 : (n : Int) < 10 := by omega
      clear kst hlit ht hd hS hS2
      go_enter Tryd.func33, Tryd.ntmps33
      go_wp2_with fail
      go_ret
      exact ⟨rfl, (Below.refl _ _).alloc (Nat.le_refl _) _⟩
    · have d1 : decide ((n : Int) < 10) = false := by simp; omega
      have IH := Lib.hid (fun W => rText_any k (n / 10) W (by omega) (by omega))
      have hT : (⟨(textN n).toArray⟩ : ByteArray) = ⟨(textN (n / 10)).toArray⟩ ++ ⟨#[(48 + n % 10).toUInt8]⟩ := by
        apply bytes_injT
        rw [textN_big n hlt]
        simp
      have HT := Lib.hid hT
      have HN := Lib.hid hn
      clear hT
      go_enter Tryd.func33, Tryd.ntmps33
      go_wp2_with fail
      refine wp_region_steps (words [wIs (.int .i64 (n : Int)), wIs (.int .i64 ((n / 10 : Nat) : Int)), wIs (.string ⟨(textN (n / 10)).toArray⟩), wIs (.int .i64 (n : Int)), wIs (.int .i64 ((n % 10 : Nat) : Int)), wIs (.int .i64 ((48 + n % 10 : Nat) : Int)), wIs (.int .u8 ((48 + n % 10 : Nat) : Int)), wLit [(48 + n % 10).toUInt8], wIs (.string ⟨#[(48 + n % 10).toUInt8]⟩), wIs (.string ⟨(textN n).toArray⟩), wIs (.string ⟨(textN n).toArray⟩)]) w.heap.size w (by kernel_rfl) (Below.refl _ _) (Nat.le_refl _) (words_stable ?stab) rfl rfl (by kernel_rfl) ?steps ?done
      case stab =>
        intro f hf
        simp only [List.mem_cons, List.not_mem_nil, or_false] at hf
        rcases hf with rfl | rfl | rfl | rfl | rfl | rfl | rfl | rfl | rfl | rfl | rfl <;> first | exact stable_is _ | exact stable_lit _
      case steps =>
        refine Steps.cons (step_value rfl fun xa W hp => ⟨wanted_none rfl, _, _, run_move (.inl rfl), (hp.old 0 rfl), Below.refl _ _⟩) ?_
        refine Steps.cons (step_value rfl fun xa W hp => ?_) ?_
        · have f0 : wIs (.int .i64 (n : Int)) (xa.tmps.getD 18 undef) W := (hp.on_ 0 rfl rfl rfl).2
          refine ⟨wanted_none rfl, _, _, run_bin3 rfl (v := .int .i64 ((n / 10 : Nat) : Int)) ?_ ?_, rfl, Below.refl _ _⟩
          · show (eqGuard .quo _ _ _ (xa.tmps.getD 18 undef) _).run _ W = _
            rw [show xa.tmps.getD 18 undef = _ from f0]
            rfl
          · show (binOp .quo _ (xa.tmps.getD 18 undef) _).run _ W = _
            rw [show xa.tmps.getD 18 undef = _ from f0]
            exact bin_quo10 n HN.out
        refine Steps.cons (step_enter rfl fun xa W hp => ?_) ?_
        · have f0 : wIs (.int .i64 ((n / 10 : Nat) : Int)) (xa.tmps.getD 19 undef) W := (hp.on_ 1 rfl rfl rfl).2
          refine ⟨wanted_none rfl, 33, _, run_enter1 rfl rfl Tryd.call33, ?_⟩
          show Calls _ _ #[xa.tmps.getD 19 undef] W _
          rw [show xa.tmps.getD 19 undef = _ from f0]
          exact (IH.out W).mono (fun e W' ⟨he, hm⟩ => ⟨_, he, rfl, hm⟩)
        refine Steps.cons (step_value rfl fun xa W hp => ⟨wanted_none rfl, _, _, run_move (.inl rfl), (hp.old 0 rfl), Below.refl _ _⟩) ?_
        refine Steps.cons (step_value rfl fun xa W hp => ?_) ?_
        · have f0 : wIs (.int .i64 (n : Int)) (xa.tmps.getD 21 undef) W := (hp.on_ 3 rfl rfl rfl).2
          refine ⟨wanted_none rfl, _, _, run_bin3 rfl (v := .int .i64 ((n % 10 : Nat) : Int)) ?_ ?_, rfl, Below.refl _ _⟩
          · show (eqGuard .rem _ _ _ (xa.tmps.getD 21 undef) _).run _ W = _
            rw [show xa.tmps.getD 21 undef = _ from f0]
            rfl
          · show (binOp .rem _ (xa.tmps.getD 21 undef) _).run _ W = _
            rw [show xa.tmps.getD 21 undef = _ from f0]
            exact bin_rem10 n HN.out
        refine Steps.cons (step_value rfl fun xa W hp => ?_) ?_
        · have f1 : wIs (.int .i64 ((n % 10 : Nat) : Int)) (xa.tmps.getD 22 undef) W := (hp.on_ 4 rfl rfl rfl).2
          refine ⟨wanted_none rfl, _, _, run_bin3 rfl (v := .int .i64 ((48 + n % 10 : Nat) : Int)) ?_ ?_, rfl, Below.refl _ _⟩
          · show (eqGuard .add _ _ _ _ (xa.tmps.getD 22 undef)).run _ W = _
            rw [show xa.tmps.getD 22 undef = _ from f1]
            rfl
          · show (binOp .add _ _ (xa.tmps.getD 22 undef)).run _ W = _
            rw [show xa.tmps.getD 22 undef = _ from f1]
            exact bin_add48 (n % 10) (by omega)
        refine Steps.cons (step_value rfl fun xa W hp => ?_) ?_
        · have f0 : wIs (.int .i64 ((48 + n % 10 : Nat) : Int)) (xa.tmps.getD 23 undef) W := (hp.on_ 5 rfl rfl rfl).2
          refine ⟨wanted_none rfl, .int .u8 ((48 + n % 10 : Nat) : Int), W, run_conv rfl ?_, rfl, Below.refl _ _⟩
          show (convert _ _ (xa.tmps.getD 23 undef)).run _ W = _
          rw [show xa.tmps.getD 23 undef = _ from f0]
          exact conv_digit W _ (by omega)
        refine Steps.cons (step_value rfl fun xa W hp => ?_) ?_
        · have f1 : wIs (.int .u8 ((48 + n % 10 : Nat) : Int)) (xa.tmps.getD 24 undef) W := (hp.on_ 6 rfl rfl rfl).2
          exact ⟨wanted_none rfl, _, _, run_build1 rfl Tryd.underlying31 hi0 hz0 hz1 rfl f1 rfl, ⟨W.heap.size, rfl, lit_txt W [(48 + n % 10).toUInt8] _ (by simp [Lib.byteCells, digit_nat (n % 10) (Nat.mod_lt _ (by decide))]; omega) _ (0, 0)⟩, (Below.refl _ _).alloc (Nat.le_refl _) _⟩
        refine Steps.cons (step_value rfl fun xa W hp => ?_) ?_
        · obtain ⟨g, e0, t0⟩ : wLit [(48 + n % 10).toUInt8] (xa.tmps.getD 25 undef) W := (hp.on_ 7 rfl rfl rfl).2
          refine ⟨wanted_none rfl, .string ⟨#[(48 + n % 10).toUInt8]⟩, W, run_conv rfl ?_, rfl, Below.refl _ _⟩
          show (convert _ _ (xa.tmps.getD 25 undef)).run _ W = _
          rw [e0]
          exact run_string W 31 5 9 Tryd.underlying31 Tryd.underlying5 Tryd.underlying9 _ [(48 + n % 10).toUInt8] 1 t0
        refine Steps.cons (step_value rfl fun xa W hp => ?_) ?_
        · have f0 : wIs (.string ⟨(textN (n / 10)).toArray⟩) (xa.tmps.getD 20 undef) W := (hp.on_ 2 rfl rfl rfl).2
          have f1 : wIs (.string ⟨#[(48 + n % 10).toUInt8]⟩) (xa.tmps.getD 26 undef) W := (hp.on_ 8 rfl rfl rfl).2
          refine ⟨wanted_none rfl, _, _, run_bin3 rfl (v := .string ⟨(textN n).toArray⟩) ?_ ?_, rfl, Below.refl _ _⟩
          · show (eqGuard .add _ _ _ (xa.tmps.getD 20 undef) (xa.tmps.getD 26 undef)).run _ W = _
            rw [show xa.tmps.getD 20 undef = _ from f0, show xa.tmps.getD 26 undef = _ from f1]
            rfl
          · show (binOp .add _ (xa.tmps.getD 20 undef) (xa.tmps.getD 26 undef)).run _ W = _
            rw [show xa.tmps.getD 20 undef = _ from f0, show xa.tmps.getD 26 undef = _ from f1]
            rw [HT.out]; exact bin_addstr _ _ (by rw [ByteArray.size, List.size_toArray]; have h19 := textN_len19 (n / 10) (by have := HN.out; omega); exact Nat.le_trans (Nat.add_le_add_right h19 1) (by decide))
        refine Steps.cons (step_value rfl fun xa W hp => ⟨wanted_none rfl, _, _, run_move (.inr rfl), (hp.on_ 9 rfl rfl rfl).2, Below.refl _ _⟩) ?_
        exact Steps.nil
      case done =>
        intro xa w5 hI
        have h2 : xa.tmps.getD 2 undef = .string ⟨(textN n).toArray⟩ := hI.new 10 _ 2 rfl rfl rfl
        have hsz : xa.tmps.size = 28 := hI.tmps
        have hdf : xa.defers = [] := hI.defers
        have hB5 := hI.below
        obtain ⟨f, hf, hx⟩ := act_eta hsz hdf
        rw [hf] at h2
        clear hI hf hsz hdf
        subst hx
        have hl : ((List.range 28).map f).toArray = #[f 0, f 1, f 2, f 3, f 4, f 5, f 6, f 7, f 8, f 9, f 10, f 11, f 12, f 13, f 14, f 15, f 16, f 17, f 18, f 19, f 20, f 21, f 22, f 23, f 24, f 25, f 26, f 27] := rfl
        simp only [Exit.then]
        rw [hl, h2]
        clear hl h2
        go_wp2_with fail
        go_ret
        exact ⟨rfl, hB5⟩
end Go.Proofs.YtophockpjchilaaDoor

namespace Go.Proofs.YtophockpjchilaaDoor
open Go Go.RowKit
/-- The instructions' names, and how many operands. -/
def names14 : List (List UInt8) := [[99, 111, 110, 115, 116], [109, 111, 118, 101], [108, 111, 97, 100], [107, 101, 101, 112], [105, 110], [111, 117, 116], [110, 111, 116], [110, 101, 103], [97, 100, 100], [115, 117, 98], [109, 117, 108], [100, 105, 118], [109, 111, 100], [101, 113], [108, 116], [108, 101], [97, 110, 100], [111, 114], [120, 111, 114], [117, 110, 108, 101, 115, 115], [106, 117, 109, 112]]
def counts14 : List Nat := [2, 2, 2, 2, 2, 2, 2, 2, 3, 3, 3, 3, 3, 3, 3, 3, 3, 3, 3, 2, 1]
def nameO (op : Int) : List UInt8 := if op < 0 then [] else names14.getD op.toNat []
def countO (op : Int) : Nat := counts14.getD op.toNat 0
/-- So many operands, each behind a blank. -/
def opsT : Nat → List Int → List UInt8
  | 0, _ => []
  | _ + 1, [] => []
  | k + 1, v :: r => 32 :: textI v ++ opsT k r
def showI (x : In4) : List UInt8 := if nameO x.op = [] then [] else nameO x.op ++ opsT (countO x.op) [x.a, x.b, x.c]
theorem nameO_in {op : Int} (h0 : 0 ≤ op) (h1 : op < 21) : nameO op ≠ [] := by
  obtain ⟨k, rfl⟩ : ∃ k : Nat, op = (k : Int) := ⟨op.toNat, by omega⟩
  have hk : k < 21 := by omega
  unfold nameO
  rw [if_neg (by omega), Int.toNat_natCast]
  have : ∀ k : Nat, k < 21 → names14.getD k [] ≠ [] := by decide
  exact this k hk
theorem nameO_out {op : Int} (h : op < 0 ∨ 21 ≤ op) : nameO op = [] := by
  unfold nameO
  by_cases h0 : op < 0
  · rw [if_pos h0]
  · rw [if_neg h0]
    have h2 : names14.length = 21 := by decide
    rw [List.getD_eq_getElem?_getD, List.getElem?_eq_none (by omega)]; rfl
theorem nameO_len (op : Int) : (nameO op).length ≤ 6 := by
  by_cases h : op < 0 ∨ 21 ≤ op
  · rw [nameO_out h]; simp
  · obtain ⟨k, rfl⟩ : ∃ k : Nat, op = (k : Int) := ⟨op.toNat, by omega⟩
    unfold nameO
    rw [if_neg (by omega), Int.toNat_natCast]
    have : ∀ k : Nat, k < 21 → (names14.getD k []).length ≤ 6 := by decide
    exact this k (by omega)
theorem countO_le (op : Int) : countO op ≤ 3 := by
  unfold countO
  rcases Nat.lt_or_ge op.toNat 21 with h | h
  · have : ∀ k : Nat, k < 21 → counts14.getD k 0 ≤ 3 := by decide
    exact this _ h
  · have h2 : counts14.length = 21 := by decide
    rw [List.getD_eq_getElem?_getD, List.getElem?_eq_none (by omega)]
    decide
def strs14 : Array Value := #[.string ⟨#[99, 111, 110, 115, 116]⟩, .string ⟨#[109, 111, 118, 101]⟩, .string ⟨#[108, 111, 97, 100]⟩, .string ⟨#[107, 101, 101, 112]⟩, .string ⟨#[105, 110]⟩, .string ⟨#[111, 117, 116]⟩, .string ⟨#[110, 111, 116]⟩, .string ⟨#[110, 101, 103]⟩, .string ⟨#[97, 100, 100]⟩, .string ⟨#[115, 117, 98]⟩, .string ⟨#[109, 117, 108]⟩, .string ⟨#[100, 105, 118]⟩, .string ⟨#[109, 111, 100]⟩, .string ⟨#[101, 113]⟩, .string ⟨#[108, 116]⟩, .string ⟨#[108, 101]⟩, .string ⟨#[97, 110, 100]⟩, .string ⟨#[111, 114]⟩, .string ⟨#[120, 111, 114]⟩, .string ⟨#[117, 110, 108, 101, 115, 115]⟩, .string ⟨#[106, 117, 109, 112]⟩]
def cnts14 : Array Value := #[.int .i64 2, .int .i64 2, .int .i64 2, .int .i64 2, .int .i64 2, .int .i64 2, .int .i64 2, .int .i64 2, .int .i64 3, .int .i64 3, .int .i64 3, .int .i64 3, .int .i64 3, .int .i64 3, .int .i64 3, .int .i64 3, .int .i64 3, .int .i64 3, .int .i64 3, .int .i64 2, .int .i64 1]
theorem strs14_at (k : Nat) (h : k < 21) : strs14[k]? = some (.string ⟨(nameO (k : Int)).toArray⟩) := by
  have e : ∀ k : Nat, k < 21 → nameO (k : Int) = names14.getD k [] := fun k _ => by unfold nameO; rw [if_neg (by omega), Int.toNat_natCast]
  rw [e k h]
  have hs : strs14 = (names14.map fun l => Value.string ⟨l.toArray⟩).toArray := rfl
  rw [hs, List.getElem?_toArray, List.getElem?_map, List.getD_eq_getElem?_getD, List.getElem?_eq_getElem (show k < names14.length from h)]
  rfl
theorem cnts14_at (k : Nat) (h : k < 21) : cnts14[k]? = some (.int .i64 ((countO (k : Int) : Nat) : Int)) := by
  have e : ∀ k : Nat, countO (k : Int) = counts14.getD k 0 := fun k => by unfold countO; rw [Int.toNat_natCast]
  rw [e k]
  have hs : cnts14 = (counts14.map fun n : Nat => Value.int .i64 ((n : Nat) : Int)).toArray := rfl
  rw [hs, List.getElem?_toArray, List.getElem?_map, List.getD_eq_getElem?_getD, List.getElem?_eq_getElem (show k < counts14.length from h)]
  rfl
/-- Two rows of the call's own: the names, the counts. -/
def GivesRows (w : World) (e : Ending) (w' : World) : Prop := ∃ g1 g2, e = .returned (.tuple #[.slice (some ⟨g1, 0, none⟩) 21 21, .slice (some ⟨g2, 0, none⟩) 21 21]) ∧ w'.heap[g1]? = some (.cells strs14 9 (0, 0)) ∧ w'.heap[g2]? = some (.cells cnts14 3 (0, 0)) ∧ Below w.heap.size w w'
set_option maxHeartbeats 4000000 in
set_option maxRecDepth 100000 in
theorem rrows_any (w : World) : Calls Tryd.prog 32 #[] w (GivesRows w) := by
  have b1 : ∀ W : World, (Instr.buildSlice 61 21 #[(0, .string ⟨#[99, 111, 110, 115, 116]⟩), (1, .string ⟨#[109, 111, 118, 101]⟩), (2, .string ⟨#[108, 111, 97, 100]⟩), (3, .string ⟨#[107, 101, 101, 112]⟩), (4, .string ⟨#[105, 110]⟩), (5, .string ⟨#[111, 117, 116]⟩), (6, .string ⟨#[110, 111, 116]⟩), (7, .string ⟨#[110, 101, 103]⟩), (8, .string ⟨#[97, 100, 100]⟩), (9, .string ⟨#[115, 117, 98]⟩), (10, .string ⟨#[109, 117, 108]⟩), (11, .string ⟨#[100, 105, 118]⟩), (12, .string ⟨#[109, 111, 100]⟩), (13, .string ⟨#[101, 113]⟩), (14, .string ⟨#[108, 116]⟩), (15, .string ⟨#[108, 101]⟩), (16, .string ⟨#[97, 110, 100]⟩), (17, .string ⟨#[111, 114]⟩), (18, .string ⟨#[120, 111, 114]⟩), (19, .string ⟨#[117, 110, 108, 101, 115, 115]⟩), (20, .string ⟨#[106, 117, 109, 112]⟩)]).run Tryd.prog W = .ok (.slice (some ⟨W.heap.size, 0, none⟩) 21 21) (W.alloc (.cells strs14 9)) := fun W => by kernel_rfl
  have b2 : ∀ W : World, (Instr.buildSlice 58 21 #[(0, .int .i64 2), (1, .int .i64 2), (2, .int .i64 2), (3, .int .i64 2), (4, .int .i64 2), (5, .int .i64 2), (6, .int .i64 2), (7, .int .i64 2), (8, .int .i64 3), (9, .int .i64 3), (10, .int .i64 3), (11, .int .i64 3), (12, .int .i64 3), (13, .int .i64 3), (14, .int .i64 3), (15, .int .i64 3), (16, .int .i64 3), (17, .int .i64 3), (18, .int .i64 3), (19, .int .i64 2), (20, .int .i64 1)]).run Tryd.prog W = .ok (.slice (some ⟨W.heap.size, 0, none⟩) 21 21) (W.alloc (.cells cnts14 3)) := fun W => by kernel_rfl
  go_enter Tryd.func32, Tryd.ntmps32
  go_wp2_with fail
  go_ret2
  have hb1 : Below w.heap.size w (w.alloc (.cells strs14 9)) := (Below.refl _ _).alloc (Nat.le_refl _) _
  have h1 := heap_alloc_new w (.cells strs14 9)
  have hs1 : (w.alloc (.cells strs14 9)).heap.size = w.heap.size + 1 := by simp
  have h2 := heap_alloc_new (w.alloc (.cells strs14 9)) (.cells cnts14 3)
  have hb2 : Below (w.alloc (.cells strs14 9)).heap.size (w.alloc (.cells strs14 9)) ((w.alloc (.cells strs14 9)).alloc (.cells cnts14 3)) := (Below.refl _ _).alloc (Nat.le_refl _) _
  rw [hs1] at h2
  exact ⟨w.heap.size, w.heap.size + 1, rfl, (hb2.block _ (by omega)).trans h1, h2, hb1.trans (hb2.mono hb1.size)⟩
theorem rName_any (op : Int) (h : i64' op) (w : World) : Calls Tryd.prog 17 #[.int .i64 op] w fun e w' => e = .returned (.string ⟨(nameO op).toArray⟩) ∧ Below w.heap.size w w' := by
  have kr := rrows_any w
  by_cases h0 : op < 0
  · have d0 : decide (op < 0) = true := by simpa using h0
    rw [nameO_out (.inl h0)]
    go_enter Tryd.func17, Tryd.ntmps17
    go_wp2_with fail
    (with_reducible refine kr.mono ?_)
    rintro e w1 ⟨g1, g2, rfl, hg1, hg2, hb⟩
    clear kr
    go_wp2_with fail
    go_ret
    exact ⟨rfl, hb⟩
  · have d0 : decide (op < 0) = false := by simpa using h0
    obtain ⟨k, rfl⟩ : ∃ k : Nat, op = (k : Int) := ⟨op.toNat, by omega⟩
    by_cases hk : k < 21
    · have hn := strs14_at k hk
      obtain ⟨S, hS⟩ : ∃ S, S = (⟨(nameO (k : Int)).toArray⟩ : ByteArray) := ⟨_, rfl⟩
      rw [← hS] at hn ⊢
      have HN := Lib.hid hn
      clear hS hn h0
      go_enter Tryd.func17, Tryd.ntmps17
      go_wp2_with fail
      (with_reducible refine kr.mono ?_)
      rintro e w1 ⟨g1, g2, rfl, hg1, hg2, hb⟩
      have q0 := (cell_of_row w1 g1 k _ _ _ hg1).trans HN.out
      clear kr hg1 hg2
      go_wp2_with fail
      go_ret
      exact ⟨rfl, hb⟩
    · rw [nameO_out (.inr (by omega))]
      go_enter Tryd.func17, Tryd.ntmps17
      go_wp2_with fail
      (with_reducible refine kr.mono ?_)
      rintro e w1 ⟨g1, g2, rfl, hg1, hg2, hb⟩
      clear kr hg1 hg2
      go_wp2_with fail
      go_ret
      exact ⟨rfl, hb⟩
/-- Any number's text. -/
theorem rTextI_any (v : Int) (h : i64' v) (w : World) : Calls Tryd.prog 33 #[.int .i64 v] w fun e w' => e = .returned (.string ⟨(textI v).toArray⟩) ∧ Below w.heap.size w w' := by
  obtain ⟨h0, h1⟩ := h
  by_cases hv : v < 0
  · have d0 : decide (v < 0) = true := by simpa using hv
    by_cases hm : v = -9223372036854775808
    · subst hm
      have ht : textI (-9223372036854775808) = [45, 57, 50, 50, 51, 51, 55, 50, 48, 51, 54, 56, 53, 52, 55, 55, 53, 56, 48, 56] := by
        unfold textI
        rw [if_pos (by decide), show (-9223372036854775808 : Int).natAbs = 9223372036854775808 from rfl, textN_min]
      rw [ht]
      go_enter Tryd.func33, Tryd.ntmps33
      go_wp2_with fail
      go_ret
      exact ⟨rfl, Below.refl _ _⟩
    · have d1 : (v == -9223372036854775808) = false := by simpa using hm
      obtain ⟨n, hn⟩ : ∃ n : Nat, n = v.natAbs := ⟨_, rfl⟩
      have hvn : -v = (n : Int) := by omega
      have k1 := rText_any (n + 1) n w (by omega) (by omega)
      have hl := textN_len19 n (by omega)
      have ht : (⟨(textI v).toArray⟩ : ByteArray) = ⟨#[45]⟩ ++ ⟨(textN n).toArray⟩ := by
        unfold textI
        rw [if_pos hv, ← hn]
        apply bytes_injT
        simp
      have hsz : ((⟨(textN n).toArray⟩ : ByteArray)).size ≤ 1000 := by
        show (textN n).toArray.size ≤ _
        rw [List.size_toArray]; omega
      have ku : wrap64 (n : Int) = (n : Int) := by unfold wrap64; omega
      obtain ⟨S, hS⟩ : ∃ S, S = (⟨(textN n).toArray⟩ : ByteArray) := ⟨_, rfl⟩
      rw [← hS] at k1 ht hsz
      rw [ht]
      have HSS : Hid (S.size ≤ 1000) := Lib.hid hsz
      have HVN := Lib.hid hvn
      clear ht hl hS hn hm hsz
      go_enter Tryd.func33, Tryd.ntmps33
      go_wp2_with fail
      (with_reducible refine k1.mono ?_)
      rintro e w1 ⟨rfl, hb⟩
      have hss : S.size ≤ 1000 := HSS.out
      clear k1
      go_wp2_with fail
      go_ret
      exact ⟨rfl, hb⟩
  · have d0 : decide (v < 0) = false := by simpa using hv
    obtain ⟨n, rfl⟩ : ∃ n : Nat, v = (n : Int) := ⟨v.toNat, by omega⟩
    have e : textI (n : Int) = textN n := by
      unfold textI
      rw [if_neg hv, Int.natAbs_natCast]
    rw [e]
    exact rText_any (n + 1) n w (by omega) (by omega)
theorem nm_size (op : Int) : ((⟨(nameO op).toArray⟩ : ByteArray)).size ≤ 6 := by
  show (nameO op).toArray.size ≤ 6
  rw [List.size_toArray]
  exact nameO_len op
theorem opsT_snoc : ∀ (k : Nat) (l : List Int) (h : k < l.length), opsT (k + 1) l = opsT k l ++ (32 :: textI l[k])
  | 0, [], h => by simp at h
  | 0, v :: r, _ => by simp [opsT]
  | k + 1, [], h => by simp at h
  | k + 1, v :: r, h => by
    have ih := opsT_snoc k r (by simpa using h)
    show 32 :: textI v ++ opsT (k + 1) r = (32 :: textI v ++ opsT k r) ++ _
    rw [ih, List.append_assoc]
    rfl
theorem opsT_len : ∀ (k : Nat) (l : List Int), (∀ v ∈ l, i64' v) → (opsT k l).length ≤ 21 * k
  | 0, _, _ => Nat.zero_le _
  | k + 1, [], _ => Nat.zero_le _
  | k + 1, v :: r, h => by
    have ih := opsT_len k r (fun x hx => h x (List.mem_cons_of_mem _ hx))
    have hv := h v List.mem_cons_self
    have := textI_len hv.1 hv.2
    show (32 :: textI v ++ opsT k r).length ≤ _
    simp only [List.length_append, List.length_cons]; omega
theorem three_ok {a b c : Int} (h : i64' a ∧ i64' b ∧ i64' c) : ∀ v ∈ [a, b, c], i64' v := by
  intro v hv
  simp only [List.mem_cons, List.not_mem_nil, or_false] at hv
  rcases hv with h1 | h1 | h1
  · rw [h1]; exact h.1
  · rw [h1]; exact h.2.1
  · rw [h1]; exact h.2.2
set_option maxHeartbeats 4000000 in
set_option maxRecDepth 100000 in
theorem rShow_any (x : In4) (hx : x.ok) (w : World) : Calls Tryd.prog 16 #[.agg #[.int .i64 x.op, .int .i64 x.a, .int .i64 x.b, .int .i64 x.c]] w fun e w' => e = .returned (.string ⟨(showI x).toArray⟩) ∧ Below w.heap.size w w' := by
  obtain ⟨op, va, vb, vc⟩ := x
  obtain ⟨h1, h2, h3, h4⟩ := hx
  dsimp only at *
  obtain ⟨W0, hW0⟩ : ∃ W0, W0 = w.alloc (.cells #[.int .i64 op, .int .i64 va, .int .i64 vb, .int .i64 vc] 36) := ⟨_, rfl⟩
  have hb0 : Below w.heap.size w W0 := by rw [hW0]; exact (Below.refl _ _).alloc (Nat.le_refl _) _
  have hbk : W0.heap[w.heap.size]? = some (.cells #[.int .i64 op, .int .i64 va, .int .i64 vb, .int .i64 vc] 36 (0, 0)) := by rw [hW0]; exact heap_alloc_new w _
  obtain ⟨B, hB⟩ : ∃ B, B = w.heap.size := ⟨_, rfl⟩
  rw [← hB] at hbk
  have HBK := Lib.hid hbk
  have HB0 := Lib.hid hb0
  have HLT := Lib.hid (Array.getElem?_eq_some_iff.1 hbk).1
  have HW0 := Lib.hid hW0
  have HBB := Lib.hid hB
  have q0 := cell_of_row W0 B 0 _ _ _ hbk
  have k1 := rName_any op h1 W0
  obtain ⟨S, hS⟩ : ∃ S, S = (⟨(nameO op).toArray⟩ : ByteArray) := ⟨_, rfl⟩
  rw [← hS] at k1
  have HS := Lib.hid hS
  have H3 := Lib.hid (And.intro h2 (And.intro h3 h4))
  have H1 := Lib.hid h1
  clear h1 h2 h3 h4 hb0 hbk hW0 hB hS
  by_cases hin : 0 ≤ op ∧ op < 21
  · obtain ⟨hi0, hi1⟩ := hin
    have hne := nameO_in hi0 hi1
    obtain ⟨k, rfl⟩ : ∃ k : Nat, op = (k : Int) := ⟨op.toNat, by omega⟩
    have hk : k < 21 := by omega
    have hsne : S.toList.isEmpty = false := by
      rw [HS.out, Lib.toList_data]
      simpa using hne
    have HNE := Lib.hid hne
    have HK := Lib.hid hk
    clear hne hi0 hi1
    go_enter Tryd.func16, Tryd.ntmps16
    go_upto_region 1 with fail
    rw [← HW0.out, ← HBB.out]
    go_wp2_with fail
    (with_reducible refine k1.mono ?_)
    rintro e w1 ⟨rfl, hb1⟩
    clear k1 q0
    have HB1 := Lib.hid hb1
    have kr := rrows_any w1
    clear hb1
    go_wp2_with fail
    (with_reducible refine kr.mono ?_)
    rintro e w2 ⟨g1, g2, rfl, hg1, hg2, hb⟩
    clear kr hg1
    have HB2 := Lib.hid (HB1.out.trans (hb.mono HB1.out.size))
    have HG2 := Lib.hid hg2
    have q0 := cell_of_row w2 B 0 _ _ _ ((HB2.out.block B HLT.out).trans HBK.out)
    have q1 := cell_of_row w2 B 1 _ _ _ ((HB2.out.block B HLT.out).trans HBK.out)
    have q2 := cell_of_row w2 B 2 _ _ _ ((HB2.out.block B HLT.out).trans HBK.out)
    have q3 := cell_of_row w2 B 3 _ _ _ ((HB2.out.block B HLT.out).trans HBK.out)
    obtain ⟨W3, hW3⟩ : ∃ W3, W3 = w2.alloc (.cells #[.int .i64 va, .int .i64 vb, .int .i64 vc] 3) := ⟨_, rfl⟩
    have hal : Below w2.heap.size w2 W3 := by rw [hW3]; exact (Below.refl _ _).alloc (Nat.le_refl _) _
    have h3 : W3.heap[w2.heap.size]? = some (.cells #[.int .i64 va, .int .i64 vb, .int .i64 vc] 3 (0, 0)) := by rw [hW3]; exact heap_alloc_new w2 _
    obtain ⟨g3, hg3⟩ : ∃ g3, g3 = w2.heap.size := ⟨_, rfl⟩
    rw [← hg3] at h3
    have HW3 := Lib.hid hW3
    have HGE := Lib.hid hg3
    have HG3 := Lib.hid h3
    have HB3 := Lib.hid (HB2.out.trans (hal.mono HB2.out.size))
    have HH2 := Lib.hid ((hal.block g2 (Array.getElem?_eq_some_iff.1 hg2).1).trans hg2)
    clear hal h3 hW3 hg2 HG2 hb HB1 HB2
    go_upto_region 6 with fail
    rw [← HW3.out, ← HGE.out]
    clear q1 q2 q3 HW3 HGE hg3
    go_wp2_with fail
    obtain ⟨W4, hW4⟩ : ∃ W4 : World, W4 = W3 := ⟨_, rfl⟩
    obtain ⟨cn, hcn⟩ : ∃ cn : Nat, cn = countO (k : Int) := ⟨_, rfl⟩
    have hc3 : cn ≤ 3 := by rw [hcn]; exact countO_le _
    have HCN := Lib.hid hcn
    have HC3 := Lib.hid hc3
    have hsz0 := nm_size (k : Int)
    rw [← HS.out] at hsz0
    have HSZ := Lib.hid hsz0
    clear hW4 hcn hc3 hsz0 q0
    go_loopw [3, 7] (fun vs vj wr => ∃ (j : Nat) (T : ByteArray), vs = .string T ∧ vj = .int .i64 (j : Int) ∧ j ≤ cn ∧ T = ⟨(nameO (k : Int) ++ opsT j [va, vb, vc]).toArray⟩ ∧ Below W3.heap.size W3 wr)
      (fun _ vj _ => cn - (intOf vj).toNat)
    case atStart => exact ⟨0, S, rfl, rfl, Nat.zero_le _, by rw [HS.out]; simp [opsT], Below.refl _ _⟩
    case round =>
      obtain ⟨j, T, rfl, rfl, hj, hT, hb⟩ := hrel
      have HT := Lib.hid hT
      have HB := Lib.hid hb
      have HJ := Lib.hid hj
      have q0 := cell_of_row wr B 0 _ _ _ (((HB3.out.trans (HB.out.mono HB3.out.size)).block B HLT.out).trans HBK.out)
      have q1 := (cell_of_row wr g2 k _ _ _ ((HB.out.block g2 (Array.getElem?_eq_some_iff.1 HH2.out).1).trans HH2.out)).trans (cnts14_at k HK.out)
      rw [← HCN.out] at q1
      have hk21 := HK.out
      clear hT hb hj
      by_cases hjc : j < cn
      · have d1 : decide ((j : Int) < (cn : Int)) = true := by simp; omega
        have hj3 : j < 3 := by have := HC3.out; omega
        have q2 := cell_of_row wr g3 j _ _ _ ((HB.out.block g3 (Array.getElem?_eq_some_iff.1 HG3.out).1).trans HG3.out)
        have hat : (#[.int .i64 va, .int .i64 vb, .int .i64 vc] : Array Value)[j]? = some (.int .i64 ([va, vb, vc][j]'hj3)) := by
          match j, hj3 with
          | 0, _ => rfl
          | 1, _ => rfl
          | 2, _ => rfl
        rw [hat] at q2
        have hv : i64' ([va, vb, vc][j]'hj3) := by
          match j, hj3 with
          | 0, _ => exact H3.out.1
          | 1, _ => exact H3.out.2.1
          | 2, _ => exact H3.out.2.2
        have hsn := opsT_snoc j [va, vb, vc] hj3
        have hln := opsT_len j [va, vb, vc] (three_ok H3.out)
        obtain ⟨v, hvv⟩ : ∃ v, v = [va, vb, vc][j]'hj3 := ⟨_, rfl⟩
        rw [← hvv] at q2 hv hsn
        have hT2 : T ++ ⟨#[32]⟩ ++ ⟨(textI v).toArray⟩ = (⟨(nameO (k : Int) ++ opsT (j + 1) [va, vb, vc]).toArray⟩ : ByteArray) := by
          rw [HT.out, hsn]
          apply bytes_injT
          simp
        have hTs : T.size ≤ 100 := by
          rw [HT.out]
          show (nameO (k : Int) ++ opsT j [va, vb, vc]).toArray.size ≤ _
          rw [List.size_toArray, List.length_append]
          have := nameO_len (k : Int)
          omega
        have hVs : ((⟨(textI v).toArray⟩ : ByteArray)).size ≤ 20 := by
          show (textI v).toArray.size ≤ _
          rw [List.size_toArray]
          exact textI_len hv.1 hv.2
        have kt := rTextI_any v hv wr
        obtain ⟨V, hV⟩ : ∃ V, V = (⟨(textI v).toArray⟩ : ByteArray) := ⟨_, rfl⟩
        rw [← hV] at kt hVs hT2
        have HT2 := Lib.hid hT2
        have HJC := Lib.hid hjc
        have h32 : (T ++ ⟨#[32]⟩).size ≤ 101 := by
          rw [ByteArray.size_append]
          have : ((⟨#[32]⟩ : ByteArray)).size = 1 := rfl
          omega
        clear hat hsn hln hvv hV hv hT2
        go_wp2_with fail
        (with_reducible refine kt.mono ?_)
        rintro e w9 ⟨rfl, hb9⟩
        have HB9 := Lib.hid (HB.out.trans (hb9.mono HB.out.size))
        clear kt hb9
        go_wp2_with fail
        refine ⟨⟨j + 1, _, rfl, by go_num, HJC.out, HT2.out, HB9.out⟩, ?_⟩
        have := HJC.out
        simp [intOf]; omega
      · obtain rfl : j = cn := by have := HJ.out; omega
        have d1 : decide ((j : Int) < (j : Int)) = false := by simp
        have hfin : T = (⟨(showI ⟨(k : Int), va, vb, vc⟩).toArray⟩ : ByteArray) := by
          rw [HT.out]
          unfold showI
          rw [if_neg HNE.out, ← HCN.out]
        have HF := Lib.hid hfin
        clear hfin
        go_wp2_with fail
        go_ret
        exact ⟨by rw [← HF.out]; rfl, HB0.out.trans ((HB3.out.trans (HB.out.mono HB3.out.size)).mono HB0.out.size)⟩
  · have hno : nameO op = [] := nameO_out (by omega)
    have hS2 : S = ⟨#[]⟩ := by rw [HS.out, hno]
    have hsh : showI ⟨op, va, vb, vc⟩ = [] := by unfold showI; rw [if_pos hno]
    rw [hsh]
    have hse : (⟨#[]⟩ : ByteArray).toList.isEmpty = true := by rw [Lib.toList_data]; rfl
    rw [hS2] at k1
    clear hno hS2 hsh hin HS
    go_enter Tryd.func16, Tryd.ntmps16
    go_upto_region 1 with fail
    rw [← HW0.out, ← HBB.out]
    go_wp2_with fail
    (with_reducible refine k1.mono ?_)
    rintro e w1 ⟨rfl, hb1⟩
    clear k1 q0
    go_wp2_with fail
    go_ret
    exact ⟨rfl, HB0.out.trans (hb1.mono HB0.out.size)⟩
end Go.Proofs.YtophockpjchilaaDoor

namespace Go.Proofs.YtophockpjchilaaDoor
open Go Go.RowKit
/-- What Decode of package code tells: a program, and a number. -/
def GivesDecC (w : World) (l : List UInt8) (e : Ending) (w' : World) : Prop :=
  ∃ x0 x1 x2 x3 x4 x5 c0 c1 c2 c3 c4 c5, e = .returned (.tuple #[pgV (decR l) x0 x1 x2 x3 x4 x5 c0 c1 c2 c3 c4 c5, .int .i64 (if enc (decP l) = l then 0 else 3)]) ∧ PgIn w' (decR l) x0 x1 x2 x3 x4 x5 ∧ Below w.heap.size w w'
/-- The calls of package code, where T holds of the world (its tables). -/
structure CodeC (T : World → Prop) : Prop where
  keep : ∀ w w', T w → Below w.heap.size w w' → T w'
  enc_ : ∀ (p : Pg) (x0 x1 x2 x3 x4 x5 : Option Addr) (c0 c1 c2 c3 c4 c5 : Nat) (w : World), T w → p.ok → p.sum ≤ 10000000 → PgIn w p x0 x1 x2 x3 x4 x5 → Calls Tryd.prog 10 #[pgV p x0 x1 x2 x3 x4 x5 c0 c1 c2 c3 c4 c5] w (GivesO w (enc p))
  dec : ∀ (l : List UInt8) (a : Option Addr) (c : Nat) (w : World), T w → Txt w a l → l.length ≤ c → c ≤ maxLen → l.length ≤ 1000000 → Calls Tryd.prog 9 #[.slice a l.length c] w (GivesDecC w l)
  name : ∀ (op : Int) (w : World), T w → i64' op → Calls Tryd.prog 11 #[.int .i64 op] w fun e w' => e = .returned (.string ⟨(nameO op).toArray⟩) ∧ Below w.heap.size w w'
  show_ : ∀ (x : In4) (w : World), T w → x.ok → Calls Tryd.prog 12 #[.agg #[.int .i64 x.op, .int .i64 x.a, .int .i64 x.b, .int .i64 x.c]] w fun e w' => e = .returned (.string ⟨(showI x).toArray⟩) ∧ Below w.heap.size w w'
  same : ∀ (p q : Pg) (x0 x1 x2 x3 x4 x5 : Option Addr) (c0 c1 c2 c3 c4 c5 : Nat) (y0 y1 y2 y3 y4 y5 : Option Addr) (d0 d1 d2 d3 d4 d5 : Nat) (w : World), T w → p.ok → q.ok → p.sum ≤ 10000000 → q.sum ≤ 10000000 → PgIn w p x0 x1 x2 x3 x4 x5 → PgIn w q y0 y1 y2 y3 y4 y5 →
    Calls Tryd.prog 13 #[pgV p x0 x1 x2 x3 x4 x5 c0 c1 c2 c3 c4 c5, pgV q y0 y1 y2 y3 y4 y5 d0 d1 d2 d3 d4 d5] w fun e w' => e = .returned (.bool (decide (enc p = enc q))) ∧ Below w.heap.size w w'
/-- More than is asked of. -/
def greatP (p : Pg) : Bool := decide (70 < p.ins.length) || (decide (70 < p.outs.length) || (decide (200 < p.slots.length) || (decide (100 < p.mems.length) || (decide (100 < p.consts.length) || decide (400 < p.code.length)))))
theorem great_no {p : Pg} (h : greatP p = false) : p.sum ≤ 2140 := by
  unfold greatP at h
  simp only [Bool.or_eq_false_iff, decide_eq_false_iff_not] at h
  unfold Pg.sum
  omega
set_option maxHeartbeats 4000000 in
set_option maxRecDepth 100000 in
theorem great14_any (p : Pg) (x0 x1 x2 x3 x4 x5 : Option Addr) (c0 c1 c2 c3 c4 c5 : Nat) (w : World) : Calls Tryd.prog 14 #[pgV p x0 x1 x2 x3 x4 x5 c0 c1 c2 c3 c4 c5] w fun e w' => e = .returned (.bool (greatP p)) ∧ Below w.heap.size w w' := by
  obtain ⟨W0, hW0⟩ : ∃ W0, W0 = w.alloc (.cells #[.slice x0 p.ins.length c0, .slice x1 p.outs.length c1, .slice x2 p.slots.length c2, .slice x3 p.mems.length c3, .slice x4 p.consts.length c4, .slice x5 p.code.length c5] 27) := ⟨_, rfl⟩
  have hb0 : Below w.heap.size w W0 := by rw [hW0]; exact (Below.refl _ _).alloc (Nat.le_refl _) _
  have hbk : W0.heap[w.heap.size]? = some (.cells #[.slice x0 p.ins.length c0, .slice x1 p.outs.length c1, .slice x2 p.slots.length c2, .slice x3 p.mems.length c3, .slice x4 p.consts.length c4, .slice x5 p.code.length c5] 27 (0, 0)) := by rw [hW0]; exact heap_alloc_new w _
  obtain ⟨B, hB⟩ : ∃ B, B = w.heap.size := ⟨_, rfl⟩
  rw [← hB] at hbk
  have HB0 := Lib.hid hb0
  have HW0 := Lib.hid hW0
  have HBB := Lib.hid hB
  have q0 := cell_of_row W0 B 0 _ _ _ hbk
  have q1 := cell_of_row W0 B 1 _ _ _ hbk
  have q2 := cell_of_row W0 B 2 _ _ _ hbk
  have q3 := cell_of_row W0 B 3 _ _ _ hbk
  have q4 := cell_of_row W0 B 4 _ _ _ hbk
  have q5 := cell_of_row W0 B 5 _ _ _ hbk
  have hg : greatP p = (decide (70 < p.ins.length) || (decide (70 < p.outs.length) || (decide (200 < p.slots.length) || (decide (100 < p.mems.length) || (decide (100 < p.consts.length) || decide (400 < p.code.length)))))) := rfl

  obtain ⟨n0, h0⟩ : ∃ n, n = p.ins.length := ⟨_, rfl⟩
  obtain ⟨n1, h1⟩ : ∃ n, n = p.outs.length := ⟨_, rfl⟩
  obtain ⟨n2, h2⟩ : ∃ n, n = p.slots.length := ⟨_, rfl⟩
  obtain ⟨n3, h3⟩ : ∃ n, n = p.mems.length := ⟨_, rfl⟩
  obtain ⟨n4, h4⟩ : ∃ n, n = p.consts.length := ⟨_, rfl⟩
  obtain ⟨n5, h5⟩ : ∃ n, n = p.code.length := ⟨_, rfl⟩
  unfold pgV
  rw [← h0] at q0 hW0 HW0 hg ⊢
  rw [← h1] at q1 hW0 HW0 hg ⊢
  rw [← h2] at q2 hW0 HW0 hg ⊢
  rw [← h3] at q3 hW0 HW0 hg ⊢
  rw [← h4] at q4 hW0 HW0 hg ⊢
  rw [← h5] at q5 hW0 HW0 hg ⊢
  have HG := Lib.hid hg
  clear hbk hb0 hW0 hB hg h0 h1 h2 h3 h4 h5
  by_cases g0 : 70 < n0
  · have HR : Hid (greatP p = true) := Lib.hid (by rw [HG.out]; simp [g0])
    go_enter Tryd.func14, Tryd.ntmps14
    go_upto_region 1 with fail
    rw [← HW0.out, ← HBB.out]
    go_wp2_with fail
    go_ret
    exact ⟨by rw [HR.out]; first | rfl | (refine congrArg (fun b => Ending.returned (Value.bool b)) ?_; simp; omega), HB0.out⟩
  · skip
    by_cases g1 : 70 < n1
    · have HR : Hid (greatP p = true) := Lib.hid (by rw [HG.out]; simp [g0, g1])
      go_enter Tryd.func14, Tryd.ntmps14
      go_upto_region 1 with fail
      rw [← HW0.out, ← HBB.out]
      go_wp2_with fail
      go_ret
      exact ⟨by rw [HR.out]; first | rfl | (refine congrArg (fun b => Ending.returned (Value.bool b)) ?_; simp; omega), HB0.out⟩
    · skip
      by_cases g2 : 200 < n2
      · have HR : Hid (greatP p = true) := Lib.hid (by rw [HG.out]; simp [g0, g1, g2])
        go_enter Tryd.func14, Tryd.ntmps14
        go_upto_region 1 with fail
        rw [← HW0.out, ← HBB.out]
        go_wp2_with fail
        go_ret
        exact ⟨by rw [HR.out]; first | rfl | (refine congrArg (fun b => Ending.returned (Value.bool b)) ?_; simp; omega), HB0.out⟩
      · skip
        by_cases g3 : 100 < n3
        · have HR : Hid (greatP p = true) := Lib.hid (by rw [HG.out]; simp [g0, g1, g2, g3])
          go_enter Tryd.func14, Tryd.ntmps14
          go_upto_region 1 with fail
          rw [← HW0.out, ← HBB.out]
          go_wp2_with fail
          go_ret
          exact ⟨by rw [HR.out]; first | rfl | (refine congrArg (fun b => Ending.returned (Value.bool b)) ?_; simp; omega), HB0.out⟩
        · skip
          by_cases g4 : 100 < n4
          · have HR : Hid (greatP p = true) := Lib.hid (by rw [HG.out]; simp [g0, g1, g2, g3, g4])
            go_enter Tryd.func14, Tryd.ntmps14
            go_upto_region 1 with fail
            rw [← HW0.out, ← HBB.out]
            go_wp2_with fail
            go_ret
            exact ⟨by rw [HR.out]; first | rfl | (refine congrArg (fun b => Ending.returned (Value.bool b)) ?_; simp; omega), HB0.out⟩
          · skip
            by_cases g5 : 400 < n5
            · have HR : Hid (greatP p = true) := Lib.hid (by rw [HG.out]; simp [g0, g1, g2, g3, g4, g5])
              go_enter Tryd.func14, Tryd.ntmps14
              go_upto_region 1 with fail
              rw [← HW0.out, ← HBB.out]
              go_wp2_with fail
              go_ret
              exact ⟨by rw [HR.out]; first | rfl | (refine congrArg (fun b => Ending.returned (Value.bool b)) ?_; simp; omega), HB0.out⟩
            · skip
              have HR : Hid (greatP p = false) := Lib.hid (by rw [HG.out]; simp; omega)
              go_enter Tryd.func14, Tryd.ntmps14
              go_upto_region 1 with fail
              rw [← HW0.out, ← HBB.out]
              go_wp2_with fail
              go_ret
              exact ⟨by rw [HR.out]; first | rfl | (refine congrArg (fun b => Ending.returned (Value.bool b)) ?_; simp; omega), HB0.out⟩
end Go.Proofs.YtophockpjchilaaDoor

namespace Go.Proofs.YtophockpjchilaaDoor
open Go Go.RowKit
set_option maxHeartbeats 1000000 in
theorem bytesEqual_any (a b : Option Addr) (c d : Nat) (l m : List UInt8) (w : World) (hl : Txt w a l) (hm : Txt w b m) :
    Calls Tryd.prog 22 #[.slice a l.length c, .slice b m.length d] w fun e w' => e = .returned (.bool (decide (l = m))) ∧ w' = w := by
  have k1 := run_string (P := Tryd.prog) w 31 5 9 Tryd.underlying31 Tryd.underlying5 Tryd.underlying9 a l c hl
  have k2 := run_string (P := Tryd.prog) w 31 5 9 Tryd.underlying31 Tryd.underlying5 Tryd.underlying9 b m d hm
  obtain ⟨S, hS⟩ : ∃ S, S = (⟨l.toArray⟩ : ByteArray) := ⟨_, rfl⟩
  obtain ⟨U, hU⟩ : ∃ U, U = (⟨m.toArray⟩ : ByteArray) := ⟨_, rfl⟩
  have e : (S.toList == U.toList) = decide (l = m) := by rw [hS, hU, Lib.toList_data, Lib.toList_data]; by_cases h : l = m <;> simp [h]
  rw [← hS] at k1
  rw [← hU] at k2
  have HE := Lib.hid e
  clear e hS hU hl hm
  go_enter Tryd.func22, Tryd.ntmps22
  go_wp2_with fail
  go_ret
  exact ⟨by rw [← HE.out]; rfl, rfl⟩
set_option maxHeartbeats 4000000 in
set_option maxRecDepth 100000 in
theorem codeDecode_any (l : List UInt8) (a : Option Addr) (c : Nat) (w : World) (hT : Tab w) (ht : Txt w a l) (hc : l.length ≤ c) (hm : c ≤ maxLen) (hl : l.length ≤ 1000000) :
    Calls Tryd.prog 9 #[.slice a l.length c] w (GivesDecC w l) := by
  obtain ⟨R, hR⟩ : ∃ R, R = w.heap.size := ⟨_, rfl⟩
  obtain ⟨W0, hW0⟩ : ∃ W0, W0 = w.alloc (.cells #[.slice none 0 0, .slice none 0 0, .slice none 0 0, .slice none 0 0, .slice none 0 0, .slice none 0 0] 27) := ⟨_, rfl⟩
  have hb0 : Below w.heap.size w W0 := by rw [hW0]; exact (Below.refl _ _).alloc (Nat.le_refl _) _
  have hkR : W0.heap[R]? = some (.cells #[.slice none 0 0, .slice none 0 0, .slice none 0 0, .slice none 0 0, .slice none 0 0, .slice none 0 0] 27 (0, 0)) := by rw [hW0, hR]; exact heap_alloc_new w _
  have HR := Lib.hid hR
  have HW0 := Lib.hid hW0
  have HB0 := Lib.hid hb0
  have HKR := Lib.hid hkR
  have HTX := Lib.hid (ht.below hb0)
  have HTB := Lib.hid (hT.below hb0 (Nat.le_refl _))
  have HSP := Lib.hid size_prog
  have HLL := Lib.hid hl
  have HZ0 := Lib.hid (prog_one none none none none none none 0 0 0 0 0 0 0 0 0 0 0 0)
  have kr := read_any l a c W0 (ht.below hb0) hc hm hl
  have hfew := readP_few l
  have hdec : enc (readP l) = l ↔ enc (decP l) = l := enc_readP (by omega)
  have hrd : enc (readP l) = l → readP l = decP l := readP_decP (by omega)
  have HDC := Lib.hid hdec
  have HRD := Lib.hid hrd
  obtain ⟨p, hp⟩ : ∃ p, p = readP l := ⟨_, rfl⟩
  rw [← hp] at kr hfew HDC HRD
  have HF := Lib.hid hfew
  have bz : ∀ W : World, (Instr.build 27 #[]).run Tryd.prog W = .ok (.agg #[.slice none 0 0, .slice none 0 0, .slice none 0 0, .slice none 0 0, .slice none 0 0, .slice none 0 0]) W := fun W => by kernel_rfl
  clear hb0 hkR hW0 hR ht hT hl hfew hdec hrd hp
  go_enter Tryd.func9, Tryd.ntmps9
  go_upto_region 1 with fail
  rw [← HW0.out, ← HR.out]
  go_wp2_with fail
  (with_reducible refine kr.mono ?_)
  rintro e w1 ⟨x0, x1, x2, x3, x4, x5, c0, c1, c2, c3, c4, c5, rfl, hpg, hb1⟩
  clear kr
  obtain ⟨W2, hW2⟩ : ∃ W, W = ((w1.alloc (.cells #[.slice none 0 0, .slice none 0 0, .slice none 0 0, .slice none 0 0, .slice none 0 0, .slice none 0 0] 27)).setRow w1.heap.size #[.slice x0 p.ins.length c0, .slice x1 p.outs.length c1, .slice x2 p.slots.length c2, .slice x3 p.mems.length c3, .slice x4 p.consts.length c4, .slice x5 p.code.length c5]) := ⟨_, rfl⟩
  obtain ⟨hnb, hnr⟩ := newrow14 w1 27 #[.slice none 0 0, .slice none 0 0, .slice none 0 0, .slice none 0 0, .slice none 0 0, .slice none 0 0] #[.slice x0 p.ins.length c0, .slice x1 p.outs.length c1, .slice x2 p.slots.length c2, .slice x3 p.mems.length c3, .slice x4 p.consts.length c4, .slice x5 p.code.length c5]
  rw [← hW2] at hnb hnr
  have HAL := Lib.hid (heap_alloc_new w1 (.cells #[.slice none 0 0, .slice none 0 0, .slice none 0 0, .slice none 0 0, .slice none 0 0, .slice none 0 0] 27))
  obtain ⟨G, hG⟩ : ∃ G, G = w1.heap.size := ⟨_, rfl⟩
  have HG := Lib.hid hG
  have HW2 := Lib.hid hW2
  have HB02 : Hid (Below W0.heap.size W0 W2) := Lib.hid (hb1.trans (hnb.mono hb1.size))
  have HPA := Lib.hid (hpg.keep (K2.of_below (g := R) (h := R) hnb) (by have := HB0.out.size; rw [HW0.out, HR.out]; simp) (by rw [HW0.out, HR.out]; simp))
  have HPG := Lib.hid HPA.out.pgIn
  rw [← hG] at hnr
  have HNR := Lib.hid hnr
  have HTB2 := Lib.hid (HTB.out.below HB02.out (Nat.le_refl _))
  have HTX2 := Lib.hid (HTX.out.below HB02.out)
  have HONE := Lib.hid (prog_one x0 x1 x2 x3 x4 x5 p.ins.length p.outs.length p.slots.length p.mems.length p.consts.length p.code.length c0 c1 c2 c3 c4 c5)
  have ke := codeEncode_any p HF.out.1 (by have := HF.out.2; have := HLL.out; omega) x0 x1 x2 x3 x4 x5 c0 c1 c2 c3 c4 c5 W2 HTB2.out HPG.out
  clear hpg hb1 hnb hnr hW2 hG
  unfold pgV at ke ⊢
  go_upto_region 2 with (refine wpList_store_row rfl 27 (.tmp 4) (.tmp 6) rfl w1.heap.size #[.slice x0 p.ins.length c0, .slice x1 p.outs.length c1, .slice x2 p.slots.length c2, .slice x3 p.mems.length c3, .slice x4 p.consts.length c4, .slice x5 p.code.length c5] rfl rfl 27 #[.slice none 0 0, .slice none 0 0, .slice none 0 0, .slice none 0 0, .slice none 0 0, .slice none 0 0] ?_ HSP.out rfl HONE.out ?_; (exact HAL.out))
  rw [← HW2.out, ← HG.out]
  go_wp2_with (refine wpList_load_row rfl 27 (.tmp 4) rfl G rfl 27 #[.slice x0 p.ins.length c0, .slice x1 p.outs.length c1, .slice x2 p.slots.length c2, .slice x3 p.mems.length c3, .slice x4 p.consts.length c4, .slice x5 p.code.length c5] (0, 0) _ ?_ Tryd.underlying27 rfl HSP.out ?_; (exact HNR.out))
  (with_reducible refine ke.mono ?_)
  rintro e w3 ⟨a3, d3, rfl, hown, hc3, hm3, hb3⟩
  clear ke
  have kq := bytesEqual_any a3 a d3 c (enc p) l w3 (own_txt hown) (HTX2.out.below hb3)
  have HB3 := Lib.hid hb3
  have HB23 : Hid (Below W0.heap.size W0 w3) := Lib.hid (HB02.out.trans (hb3.mono HB02.out.size))
  have HKR3 := Lib.hid ((HB23.out.block R (Array.getElem?_eq_some_iff.1 HKR.out).1).trans HKR.out)
  have HNR3 := Lib.hid ((HB3.out.block G (Array.getElem?_eq_some_iff.1 HNR.out).1).trans HNR.out)
  have HPA3 := Lib.hid (HPA.out.keep (K2.of_below (g := R) (h := R) HB3.out) (by rw [HW0.out, HR.out]; simp) (by rw [HW0.out, HR.out]; simp))
  obtain ⟨E, hE⟩ : ∃ E, E = enc p := ⟨_, rfl⟩
  rw [← hE] at kq HDC HRD hc3 ⊢
  clear hown hc3 hm3 hb3 hE
  have HBF : Hid (Below w.heap.size w w3) := Lib.hid (HB0.out.trans (HB23.out.mono HB0.out.size))
  by_cases heq : E = l
  · have q1 : decide (E = l) = true := by simp [heq]
    rw [q1] at kq
    have HQ := Lib.hid heq
    clear q1 heq
    go_wp2_with fail
    (with_reducible refine kq.mono ?_)
    rintro e w4 ⟨rfl, rfl⟩
    clear kq
    go_wp2_with (first | (refine wpList_load_row rfl 27 (.tmp 4) rfl G rfl 27 #[.slice x0 p.ins.length c0, .slice x1 p.outs.length c1, .slice x2 p.slots.length c2, .slice x3 p.mems.length c3, .slice x4 p.consts.length c4, .slice x5 p.code.length c5] (0, 0) _ ?_ Tryd.underlying27 rfl HSP.out ?_; (exact HNR3.out)) | (refine wpList_store_row rfl 27 (.tmp 2) (.tmp 13) rfl R #[.slice x0 p.ins.length c0, .slice x1 p.outs.length c1, .slice x2 p.slots.length c2, .slice x3 p.mems.length c3, .slice x4 p.consts.length c4, .slice x5 p.code.length c5] rfl rfl 27 #[.slice none 0 0, .slice none 0 0, .slice none 0 0, .slice none 0 0, .slice none 0 0, .slice none 0 0] ?_ HSP.out rfl HONE.out ?_; (exact HKR3.out)))
    refine bodyPost_ret (results_cell_tmp14 (q := 3) (p := 2) (ty := 27) rfl _ _ R 27 #[.slice x0 p.ins.length c0, .slice x1 p.outs.length c1, .slice x2 p.slots.length c2, .slice x3 p.mems.length c3, .slice x4 p.consts.length c4, .slice x5 p.code.length c5] (0, 0) _ rfl (setRow_heap _ R _ _ _ _ HKR3.out) Tryd.underlying27 rfl HSP.out) rfl ?_
    have h1 : p = decP l := HRD.out HQ.out
    have h2 := HDC.out.1 HQ.out
    have h3 : decR l = p := by unfold decR; rw [if_pos h2, ← h1]
    have hst : K2 R R w4 (w4.setRow R #[.slice x0 p.ins.length c0, .slice x1 p.outs.length c1, .slice x2 p.slots.length c2, .slice x3 p.mems.length c3, .slice x4 p.consts.length c4, .slice x5 p.code.length c5]) := K2.right ⟨rfl, rfl, rfl, by simp, fun k _ hk => setRow_other14 _ _ _ _ (fun e => hk (by rw [e]))⟩
    have hrl : R < W0.heap.size := by rw [HW0.out, HR.out]; simp
    refine ⟨x0, x1, x2, x3, x4, x5, c0, c1, c2, c3, c4, c5, ?_, ?_, below_setRow HBF.out (by rw [HR.out]; exact Nat.le_refl _) _⟩
    · rw [h3, if_pos h2]; rfl
    · rw [h3]; exact (HPA3.out.keep hst hrl hrl).pgIn
  · have q1 : decide (E = l) = false := by simp [heq]
    rw [q1] at kq
    have HQ := Lib.hid heq
    clear q1 heq
    go_wp2_with fail
    (with_reducible refine kq.mono ?_)
    rintro e w4 ⟨rfl, rfl⟩
    clear kq
    go_wp2_with (refine wpList_store_row rfl 27 (.tmp 2) (.tmp 12) rfl R #[.slice none 0 0, .slice none 0 0, .slice none 0 0, .slice none 0 0, .slice none 0 0, .slice none 0 0] rfl rfl 27 #[.slice none 0 0, .slice none 0 0, .slice none 0 0, .slice none 0 0, .slice none 0 0, .slice none 0 0] ?_ HSP.out rfl HZ0.out ?_; (exact HKR3.out))
    refine bodyPost_ret (results_cell_tmp14 (q := 3) (p := 2) (ty := 27) rfl _ _ R 27 #[.slice none 0 0, .slice none 0 0, .slice none 0 0, .slice none 0 0, .slice none 0 0, .slice none 0 0] (0, 0) _ rfl (setRow_heap _ R _ _ _ _ HKR3.out) Tryd.underlying27 rfl HSP.out) rfl ?_
    have h2 : ¬ enc (decP l) = l := fun h => HQ.out (HDC.out.2 h)
    refine ⟨none, none, none, none, none, none, 0, 0, 0, 0, 0, 0, ?_, ?_, below_setRow HBF.out (by rw [HR.out]; exact Nat.le_refl _) _⟩
    · rw [decR_no h2, if_neg h2]; rfl
    · rw [decR_no h2]; exact pgIn_no _ _ _ _ _ _ _
end Go.Proofs.YtophockpjchilaaDoor

namespace Go.Proofs.YtophockpjchilaaDoor
open Go Go.RowKit
set_option maxHeartbeats 4000000 in
set_option maxRecDepth 100000 in
theorem codeSame_any (p q : Pg) (hp : p.ok) (hq : q.ok) (hs : p.sum ≤ 10000000) (hs' : q.sum ≤ 10000000) (x0 x1 x2 x3 x4 x5 : Option Addr) (c0 c1 c2 c3 c4 c5 : Nat) (y0 y1 y2 y3 y4 y5 : Option Addr) (d0 d1 d2 d3 d4 d5 : Nat) (w : World) (hT : Tab w) (hP : PgIn w p x0 x1 x2 x3 x4 x5) (hQ : PgIn w q y0 y1 y2 y3 y4 y5) :
    Calls Tryd.prog 13 #[pgV p x0 x1 x2 x3 x4 x5 c0 c1 c2 c3 c4 c5, pgV q y0 y1 y2 y3 y4 y5 d0 d1 d2 d3 d4 d5] w fun e w' => e = .returned (.bool (decide (enc p = enc q))) ∧ Below w.heap.size w w' := by
  obtain ⟨B1, hB1⟩ : ∃ B1, B1 = w.heap.size := ⟨_, rfl⟩
  obtain ⟨B2, hB2⟩ : ∃ B2, B2 = w.heap.size + 1 := ⟨_, rfl⟩
  obtain ⟨W0, hW0⟩ : ∃ W0, W0 = (w.alloc (.cells #[.slice x0 p.ins.length c0, .slice x1 p.outs.length c1, .slice x2 p.slots.length c2, .slice x3 p.mems.length c3, .slice x4 p.consts.length c4, .slice x5 p.code.length c5] 27)).alloc (.cells #[.slice y0 q.ins.length d0, .slice y1 q.outs.length d1, .slice y2 q.slots.length d2, .slice y3 q.mems.length d3, .slice y4 q.consts.length d4, .slice y5 q.code.length d5] 27) := ⟨_, rfl⟩
  have hb0 : Below w.heap.size w W0 := by rw [hW0]; exact ((Below.refl _ _).alloc (Nat.le_refl _) _).alloc (by simp) _
  have hx1 : W0.heap[B1]? = some (.cells #[.slice x0 p.ins.length c0, .slice x1 p.outs.length c1, .slice x2 p.slots.length c2, .slice x3 p.mems.length c3, .slice x4 p.consts.length c4, .slice x5 p.code.length c5] 27 (0, 0)) := by rw [hW0, hB1, Below.heap_alloc _ _ _ (by simp)]; exact heap_alloc_new w _
  have hx2 : W0.heap[B2]? = some (.cells #[.slice y0 q.ins.length d0, .slice y1 q.outs.length d1, .slice y2 q.slots.length d2, .slice y3 q.mems.length d3, .slice y4 q.consts.length d4, .slice y5 q.code.length d5] 27 (0, 0)) := by
    have e : B2 = (w.alloc (.cells #[.slice x0 p.ins.length c0, .slice x1 p.outs.length c1, .slice x2 p.slots.length c2, .slice x3 p.mems.length c3, .slice x4 p.consts.length c4, .slice x5 p.code.length c5] 27)).heap.size := by rw [hB2]; simp
    rw [hW0, e]; exact heap_alloc_new _ _
  have HX1 := Lib.hid hx1
  have HX2 := Lib.hid hx2
  have HB0 := Lib.hid hb0
  have HW0 := Lib.hid hW0
  have HBB1 := Lib.hid hB1
  have HBB2 := Lib.hid hB2
  have HOPp := Lib.hid hp
  have HOPq := Lib.hid hq
  have HSMp := Lib.hid hs
  have HSMq := Lib.hid hs'
  have HT := Lib.hid (hT.below hb0 (Nat.le_refl _))
  have HP := Lib.hid (hP.below hb0)
  have HQ := Lib.hid (hQ.below hb0)
  have HSP := Lib.hid size_prog
  clear hx1 hx2 hb0 hW0 hB1 hB2 hp hq hs hs' hT hP hQ
  unfold pgV
  go_enter Tryd.func13, Tryd.ntmps13
  go_upto_region 1 with fail
  rw [← HW0.out, ← HBB2.out, ← HBB1.out]
  refine wp_region_steps (words [wIs (.agg #[.slice x0 p.ins.length c0, .slice x1 p.outs.length c1, .slice x2 p.slots.length c2, .slice x3 p.mems.length c3, .slice x4 p.consts.length c4, .slice x5 p.code.length c5]), wE14 (enc p), wIs (.agg #[.slice y0 q.ins.length d0, .slice y1 q.outs.length d1, .slice y2 q.slots.length d2, .slice y3 q.mems.length d3, .slice y4 q.consts.length d4, .slice y5 q.code.length d5]), wE14 (enc q), wIs (.bool (decide (enc p = enc q))), wIs (.bool (decide (enc p = enc q)))]) W0.heap.size W0 (by kernel_rfl) (Below.refl _ _) (Nat.le_refl _) (words_stable ?stab) rfl rfl (by kernel_rfl) ?steps ?rest2
  case stab =>
    intro f hf
    simp only [List.mem_cons, List.not_mem_nil, or_false] at hf
    rcases hf with rfl | rfl | rfl | rfl | rfl | rfl <;> first | exact stable_is _ | exact stable_e14 _
  case steps =>
    refine Steps.cons (step_value rfl fun xa W hp => ?_) ?_
    · have e0 : xa.tmps.getD 2 undef = .pointer (some ⟨B1, 0, none⟩) := hp.old 2 rfl
      exact ⟨(wanted_none rfl), _, _, run_ldrow rfl e0 ((hp.below.block (B1) (Array.getElem?_eq_some_iff.1 HX1.out).1).trans HX1.out) Tryd.underlying27 rfl HSP.out, rfl, Below.refl _ _⟩
    refine Steps.cons (step_enter rfl fun xa W hp => ?_) ?_
    · have e0 : xa.tmps.getD 5 undef = .agg #[.slice x0 p.ins.length c0, .slice x1 p.outs.length c1, .slice x2 p.slots.length c2, .slice x3 p.mems.length c3, .slice x4 p.consts.length c4, .slice x5 p.code.length c5] := (hp.on_ 0 rfl rfl rfl).2
      refine ⟨(wanted_none rfl), 10, _, run_enter1 rfl rfl Tryd.call10, ?_⟩
      show Calls _ _ #[xa.tmps.getD 5 undef] W _
      rw [e0]
      refine (codeEncode_any p HOPp.out (by have := HSMp.out; omega) x0 x1 x2 x3 x4 x5 c0 c1 c2 c3 c4 c5 W (HT.out.below hp.below (Nat.le_refl _)) (HP.out.below hp.below)).mono ?_
      rintro e W' ⟨ae, ce, he, hte, _, _, hbe⟩
      exact ⟨_, he, ⟨ae, ce, rfl, own_txt hte⟩, hbe⟩
    refine Steps.cons (step_value rfl fun xa W hp => ?_) ?_
    · have e0 : xa.tmps.getD 3 undef = .pointer (some ⟨B2, 0, none⟩) := hp.old 3 rfl
      exact ⟨(wanted_none rfl), _, _, run_ldrow rfl e0 ((hp.below.block (B2) (Array.getElem?_eq_some_iff.1 HX2.out).1).trans HX2.out) Tryd.underlying27 rfl HSP.out, rfl, Below.refl _ _⟩
    refine Steps.cons (step_enter rfl fun xa W hp => ?_) ?_
    · have e0 : xa.tmps.getD 7 undef = .agg #[.slice y0 q.ins.length d0, .slice y1 q.outs.length d1, .slice y2 q.slots.length d2, .slice y3 q.mems.length d3, .slice y4 q.consts.length d4, .slice y5 q.code.length d5] := (hp.on_ 2 rfl rfl rfl).2
      refine ⟨(wanted_none rfl), 10, _, run_enter1 rfl rfl Tryd.call10, ?_⟩
      show Calls _ _ #[xa.tmps.getD 7 undef] W _
      rw [e0]
      refine (codeEncode_any q HOPq.out (by have := HSMq.out; omega) y0 y1 y2 y3 y4 y5 d0 d1 d2 d3 d4 d5 W (HT.out.below hp.below (Nat.le_refl _)) (HQ.out.below hp.below)).mono ?_
      rintro e W' ⟨ae, ce, he, hte, _, _, hbe⟩
      exact ⟨_, he, ⟨ae, ce, rfl, own_txt hte⟩, hbe⟩
    refine Steps.cons (step_enter rfl fun xa W hp => ?_) ?_
    · obtain ⟨a0, k0, e0, t0⟩ : wE14 (enc p) (xa.tmps.getD 6 undef) W := (hp.on_ 1 rfl rfl rfl).2
      obtain ⟨a1, k1, e1, t1⟩ : wE14 (enc q) (xa.tmps.getD 8 undef) W := (hp.on_ 3 rfl rfl rfl).2
      refine ⟨(wanted_none rfl), 22, _, run_enter2 rfl rfl Tryd.call22, ?_⟩
      show Calls _ _ #[xa.tmps.getD 6 undef, xa.tmps.getD 8 undef] W _
      rw [e0, e1]
      refine (bytesEqual_any a0 a1 k0 k1 (enc p) (enc q) W t0 t1).mono ?_
      rintro e W' ⟨he, rfl⟩
      exact ⟨_, he, rfl, Below.refl _ _⟩
    refine Steps.cons (step_value rfl fun xa W hp => ⟨(wanted_none rfl), _, _, run_move (.inr rfl), (hp.on_ 4 rfl rfl rfl).2, Below.refl _ _⟩) ?_
    exact Steps.nil
  case rest2 =>
    intro act W hI
    have hbW := hI.below
    have h4 : act.tmps.getD 4 undef = .bool (decide (enc p = enc q)) := hI.new 5 _ 4 rfl rfl rfl
    obtain ⟨fo, hfo, hx⟩ := puts_of hI.tmps hI.defers hI.old [5, 6, 7, 8, 9, 4] rfl
    rw [hfo] at h4
    have HBW := Lib.hid (HB0.out.trans (hbW.mono HB0.out.size))
    clear hI hfo hbW
    subst hx
    simp only [Exit.inBlock, Exit.then, List.foldl, Act.put, List.setIfInBounds_toArray, List.set_cons_succ, List.set_cons_zero]
    rw [h4]
    clear h4
    go_wp2_with fail
    go_ret
    exact ⟨rfl, HBW.out⟩
end Go.Proofs.YtophockpjchilaaDoor

namespace Go.Proofs.YtophockpjchilaaDoor
open Go Go.RowKit Go.ChangeShapes
abbrev LAID : List (String × DataW Unit) := [("math/bits.deBruijn32tab", Rows.laid_math_bits_deBruijn32tab), ("math/bits.deBruijn64tab", Rows.laid_math_bits_deBruijn64tab), ("internal/strconv.uint64pow10", Rows.laid_internal_strconv_uint64pow10), ("escapement/sum.steps", Rows.laid_escapement_sum_steps), ("escapement/code.forms", Rows.laid_escapement_code_forms)]
theorem steps_number : Tryd.prog.globalNamed "escapement/sum.steps" = some 1 := by kernel_rfl
theorem steps_type : (Tryd.prog.globals[1]?).map (·.type) = some 87 := by kernel_rfl
theorem cells_u32 : Tryd.prog.cellsOf 42 = 1 := by kernel_rfl
theorem cells_tab : Tryd.prog.cellsOf 87 = 16 := by kernel_rfl
def stepsZ : List Int := (List.range 16).map fun r => ((crcBits 4 r : Nat) : Int)
theorem steps_same : (Rows.laid_escapement_sum_steps : DataW Unit) = Lib.tabData .u32 stepsZ := by
  unfold Rows.laid_escapement_sum_steps Lib.tabData
  rfl
theorem sumTab_of {W : World} (h : laidMet Tryd.prog LAID W) : Tab W := by
  have h1 := h.filter (fun x => x.1 == "escapement/sum.steps")
  have h2 : laidMet Tryd.prog [("escapement/sum.steps", Rows.laid_escapement_sum_steps)] W := h1
  rw [steps_same] at h2
  have ht := Lib.tabIs_of_head steps_number steps_type Tryd.underlying87 Tryd.underlying42 cells_u32 cells_tab h2
  intro r hr
  rw [ht.cell steps_number r (by simpa [stepsZ] using hr)]
  have e : stepsZ.getD r 0 = ((crcBits 4 r : Nat) : Int) := by simp [stepsZ, hr]
  rw [e]
theorem pow_number : Tryd.prog.globalNamed "internal/strconv.uint64pow10" = some 2 := by kernel_rfl
theorem pow_type : (Tryd.prog.globals[2]?).map (·.type) = some 100 := by kernel_rfl
theorem cells_u64 : Tryd.prog.cellsOf 41 = 1 := by kernel_rfl
theorem cells_pow : Tryd.prog.cellsOf 100 = 20 := by kernel_rfl
theorem pow_same : (Rows.laid_internal_strconv_uint64pow10 : DataW Unit) = Lib.tabData .u64 Lib.pow10Tab := by
  unfold Rows.laid_internal_strconv_uint64pow10 Lib.tabData
  rfl
theorem powTab_of {W : World} (h : laidMet Tryd.prog LAID W) : Lib.TabIs Tryd.prog W "internal/strconv.uint64pow10" .u64 Lib.pow10Tab := by
  have h1 := h.filter (fun x => x.1 == "internal/strconv.uint64pow10")
  have h2 : laidMet Tryd.prog [("internal/strconv.uint64pow10", Rows.laid_internal_strconv_uint64pow10)] W := h1
  rw [pow_same] at h2
  exact Lib.tabIs_of_head pow_number pow_type Tryd.underlying100 Tryd.underlying41 cells_u64 cells_pow h2
theorem forms_number : Tryd.prog.globalNamed "escapement/code.forms" = some 0 := by kernel_rfl
theorem forms_type : (Tryd.prog.globals[0]?).map (·.type) = some 81 := by kernel_rfl
theorem cells_form : Tryd.prog.cellsOf 56 = 2 := by kernel_rfl
theorem cells_str14 : Tryd.prog.cellsOf 9 = 1 := by kernel_rfl
theorem cells_int14 : Tryd.prog.cellsOf 3 = 1 := by kernel_rfl
def formD (x : List UInt8 × Nat) : DataW Unit := .agg [.lit (.string x.1), .lit (.int .i64 (x.2 : Int))]
set_option maxRecDepth 100000 in
theorem forms_same : (Rows.laid_escapement_code_forms : DataW Unit) = .agg ((names14.zip counts14).map formD) := by
  unfold Rows.laid_escapement_code_forms
  rfl
set_option maxRecDepth 100000 in
theorem form_of {enc : TypeId × Value → Unit} {w : World} {base : Nat} {sp : Nat → Bool} {held : Bool} {fuel : Nat} {l : List Value} {y : DataW Unit × List MemPlace} (h : DataW.trod enc Tryd.prog w base sp held fuel 56 l = some y) {x : List UInt8 × Nat} (hy : y.1 = formD x) : l = [.string ⟨x.1.toArray⟩, .int .i64 (x.2 : Int)] := by
  obtain ⟨y0, y1, n, rfl, hl, h0, h1⟩ := trod_struct2 Tryd.underlying56 h
  rw [cells_form] at hl
  match l, hl with
  | [a, b], _ =>
    obtain ⟨s, hs, rfl, _⟩ := DataW.trod_string Tryd.underlying9 h0
    obtain ⟨z, hz, rfl, _⟩ := DataW.trod_int Tryd.underlying3 h1
    simp only [cells_str14, cells_int14, List.drop_zero, List.drop_succ_cons, List.take_succ_cons, List.take_zero, List.cons.injEq, and_true] at hs hz
    subst hs hz
    unfold formD at hy
    simp only [DataW.agg.injEq, List.cons.injEq, DataW.lit.injEq, Lit.string.injEq, Lit.int.injEq, and_true, true_and] at hy
    obtain ⟨h5, h6⟩ := hy
    obtain ⟨⟨sl⟩⟩ := s
    subst h6
    simp only at h5
    subst h5
    rfl
/-- Package code's table. -/
def FTab (w : World) : Prop := ∀ k : Nat, k < 21 → w.rangeAt 0 (k * 2) [.string ⟨(nameO (k : Int)).toArray⟩, .int .i64 ((countO (k : Int) : Nat) : Int)]
set_option maxRecDepth 100000 in
theorem formsTab_of {W : World} (h : laidMet Tryd.prog LAID W) : FTab W := by
  have h1 := h.filter (fun x => x.1 == "escapement/code.forms")
  have h2 : laidMet Tryd.prog [("escapement/code.forms", Rows.laid_escapement_code_forms)] W := h1
  rw [forms_same] at h2
  obtain ⟨ps, ⟨g', t', cs, fuel, p, q, hg', ht', hvar, hd, _, _⟩, _⟩ := h2
  obtain rfl := Option.some.inj (forms_number.symm.trans hg')
  obtain rfl := Option.some.inj (forms_type.symm.trans ht')
  obtain ⟨xs, m, _, hx, hl, hxl, hf⟩ := DataW.trod_array Tryd.underlying81 hd
  have hxs : xs.map (·.1) = (names14.zip counts14).map formD := by
    have := congrArg Prod.fst hx
    simpa using this.symm
  intro k hk
  have h3 := hf k hk
  rw [cells_form] at h3
  have hkx : k < xs.length := by omega
  rw [List.getElem?_eq_getElem hkx] at h3
  have h4 : (xs.map (·.1))[k]? = some (xs[k]'hkx).1 := by simp [List.getElem?_eq_getElem hkx]
  rw [hxs, List.getElem?_map] at h4
  have hz : (names14.zip counts14)[k]? = some (nameO (k : Int), countO (k : Int)) := by
    have e1 : nameO (k : Int) = names14.getD k [] := by unfold nameO; rw [if_neg (by omega), Int.toNat_natCast]
    have e2 : countO (k : Int) = counts14.getD k 0 := by unfold countO; rw [Int.toNat_natCast]
    rw [e1, e2]
    have : ∀ k : Nat, k < 21 → (names14.zip counts14)[k]? = some (names14.getD k [], counts14.getD k 0) := by decide
    exact this k hk
  rw [hz] at h4
  have h5 := form_of h3 (x := (nameO (k : Int), countO (k : Int))) (by simpa using h4.symm)
  intro j v hj
  have h6 : ((cs.toList.drop (k * 2)).take 2)[j]? = some v := by rw [h5]; exact hj
  have hj2 : j < 2 := by
    rcases Nat.lt_or_ge j 2 with h | h
    · exact h
    · rw [List.getElem?_eq_none (by simpa using h)] at hj; cases hj
  rw [List.getElem?_take, if_pos hj2, List.getElem?_drop] at h6
  have h7 := World.var?_cell forms_number hvar (k * 2 + j)
  rw [h7]
  simpa using h6
/-- The tables that package code stands on. -/
structure CTab (w : World) : Prop where
  sum : Tab w
  forms : FTab w
  pow : Lib.TabIs Tryd.prog w "internal/strconv.uint64pow10" .u64 Lib.pow10Tab
theorem FTab.lt {w : World} (h : FTab w) : 0 < w.heap.size := World.block_lt_of_cell? w ⟨0, 0 * 2 + 0, none⟩ (h 0 (by decide) 0 _ rfl)
theorem FTab.below {w w' : World} (h : FTab w) (hb : Below w.heap.size w w') : FTab w' := fun k hk => rangeAt_pg (h k hk) hb h.lt
theorem CTab.below {w w' : World} (h : CTab w) (hb : Below w.heap.size w w') : CTab w' := ⟨h.sum.below hb (Nat.le_refl _), h.forms.below hb, Lib.tabBelow_of_tabIs h.pow w' hb⟩
theorem tab_of {W : World} (h : laidMet Tryd.prog LAID W) : CTab W := ⟨sumTab_of h, formsTab_of h, powTab_of h⟩
end Go.Proofs.YtophockpjchilaaDoor

namespace Go.Proofs
open Go.Shelf
def Tryd.laysM171_ren : Go.Shelf.Ren := ⟨fun | 171 => 28 | 243 => 44 | 246 => 53 | 283 => 60 | 284 => 61 | 285 => 62 | 286 => 63 | 129 => 65 | 317 => 64 | 318 => 66 | 319 => 67 | 320 => 68 | 337 => 69 | 338 => 70 | n => n, fun | 3 => 3 | 9 => 9 | 2 => 2 | 4 => 4 | 171 => 93 | 0 => 0 | 53 => 41 | 37 => 31 | 5 => 5 | 173 => 96 | 212 => 100 | 51 => 42 | 20 => 20 | 213 => 101 | 46 => 54 | 232 => 105 | 233 => 106 | n => n, fun | 17 => 2 | 18 => 3 | 19 => 4 | n => n⟩
theorem Tryd.laysM171 : Go.Proofs.LaysM.n171 Tryd.prog Tryd.laysM171_ren := {
  mixed := by kernel_rfl
  f129 := Tryd.func65.trans (congrArg some (by kernel_rfl))
  f171 := Tryd.func28.trans (congrArg some (by kernel_rfl))
  f243 := Tryd.func44.trans (congrArg some (by kernel_rfl))
  f246 := Tryd.func53.trans (congrArg some (by kernel_rfl))
  f283 := Tryd.func60.trans (congrArg some (by kernel_rfl))
  f284 := Tryd.func61.trans (congrArg some (by kernel_rfl))
  f285 := Tryd.func62.trans (congrArg some (by kernel_rfl))
  f286 := Tryd.func63.trans (congrArg some (by kernel_rfl))
  f317 := Tryd.func64.trans (congrArg some (by kernel_rfl))
  f318 := Tryd.func66.trans (congrArg some (by kernel_rfl))
  f319 := Tryd.func67.trans (congrArg some (by kernel_rfl))
  f320 := Tryd.func68.trans (congrArg some (by kernel_rfl))
  f337 := Tryd.func69.trans (congrArg some (by kernel_rfl))
  f338 := Tryd.func70.trans (congrArg some (by kernel_rfl))
  t0 := Tryd.underlying0
  a0 := Tryd.isAgg0
  z0 := Tryd.sizeOf0
  v0 := Tryd.zeroValue0
  t2 := Tryd.underlying2
  a2 := Tryd.isAgg2
  z2 := Tryd.sizeOf2
  v2 := Tryd.zeroValue2
  t3 := Tryd.underlying3
  a3 := Tryd.isAgg3
  z3 := Tryd.sizeOf3
  v3 := Tryd.zeroValue3
  t4 := Tryd.underlying4
  a4 := Tryd.isAgg4
  z4 := Tryd.sizeOf4
  v4 := Tryd.zeroValue4
  t5 := Tryd.underlying5
  a5 := Tryd.isAgg5
  z5 := Tryd.sizeOf5
  v5 := Tryd.zeroValue5
  t9 := Tryd.underlying9
  a9 := Tryd.isAgg9
  z9 := Tryd.sizeOf9
  v9 := Tryd.zeroValue9
  t20 := Tryd.underlying20
  a20 := Tryd.isAgg20
  z20 := Tryd.sizeOf20
  v20 := Tryd.zeroValue20
  t37 := Tryd.underlying31
  a37 := Tryd.isAgg31
  z37 := Tryd.sizeOf31
  v37 := Tryd.zeroValue31
  t46 := Tryd.underlying54
  a46 := Tryd.isAgg54
  z46 := Tryd.sizeOf54
  v46 := Tryd.zeroValue54
  t51 := Tryd.underlying42
  a51 := Tryd.isAgg42
  z51 := Tryd.sizeOf42
  v51 := Tryd.zeroValue42
  t53 := Tryd.underlying41
  a53 := Tryd.isAgg41
  z53 := Tryd.sizeOf41
  v53 := Tryd.zeroValue41
  t171 := Tryd.underlying93
  a171 := Tryd.isAgg93
  z171 := Tryd.sizeOf93
  v171 := Tryd.zeroValue93
  t173 := Tryd.underlying96
  a173 := Tryd.isAgg96
  z173 := Tryd.sizeOf96
  v173 := Tryd.zeroValue96
  t212 := Tryd.underlying100
  a212 := Tryd.isAgg100
  z212 := Tryd.sizeOf100
  v212 := Tryd.zeroValue100
  t213 := Tryd.underlying101
  a213 := Tryd.isAgg101
  z213 := Tryd.sizeOf101
  t232 := Tryd.underlying105
  a232 := Tryd.isAgg105
  z232 := Tryd.sizeOf105
  v232 := Tryd.zeroValue105
  t233 := Tryd.underlying106
  a233 := Tryd.isAgg106
  z233 := Tryd.sizeOf106
  v233 := Tryd.zeroValue106
  g17 := by kernel_rfl
  g18 := by kernel_rfl
  g19 := by kernel_rfl
  i0 := by kernel_rfl
  i2 := by kernel_rfl
  i3 := by kernel_rfl
  i4 := by kernel_rfl
  i5 := by kernel_rfl
  i9 := by kernel_rfl
  i20 := by kernel_rfl
  i37 := by kernel_rfl
  i46 := by kernel_rfl
  i51 := by kernel_rfl
  i53 := by kernel_rfl
  i171 := by kernel_rfl
  i173 := by kernel_rfl
  i212 := by kernel_rfl
  i232 := by kernel_rfl
  i233 := by kernel_rfl
  m17 := by kernel_rfl
  m18 := by kernel_rfl
  m19 := by kernel_rfl }
open Go.RowKit Go.Sort Go.Lib in
theorem Tryd.strconv_Itoa (n : Int) (h0 : -9223372036854775808 ≤ n) (h1 : n ≤ 9223372036854775807) (w : World) (htab : Lib.TabIs Tryd.prog w "internal/strconv.uint64pow10" .u64 Lib.pow10Tab) :
    Calls Tryd.prog 28 #[.int .i64 n] w fun e w' => e = .returned (.string ⟨(Lib.itoa n).toArray⟩) ∧ ∃ k os, w' = grow (w.drewN k) os := Any.strconv_Itoa Tryd.laysM171 n h0 h1 w htab
end Go.Proofs

namespace Go.Proofs.YtophockpjchilaaDoor
open Go Go.RowKit
theorem decL_eq : ∀ (f n : Nat), n < f → Lib.decDigits n = textN n
  | 0, n, h => by omega
  | f + 1, n, h => by
    by_cases hn : n < 10
    · rw [Lib.decDigits, dif_pos hn, textN_small n hn]
    · rw [Lib.decDigits, dif_neg hn, textN_big n hn, decL_eq f (n / 10) (by omega)]
theorem itoa_textI (v : Int) : Lib.itoa v = textI v := by
  unfold Lib.itoa textI
  split
  · rw [decL_eq _ _ (Nat.lt_succ_self _)]
  · rw [decL_eq _ _ (Nat.lt_succ_self _), show v.toNat = v.natAbs by omega]
/-- How many operands an instruction of this number names. -/
def cntF (op : Int) : Nat := if op < 0 then 0 else countO op
theorem cntF_le (op : Int) : cntF op ≤ 3 := by
  unfold cntF
  split
  · omega
  · exact countO_le op
theorem cntF_out {op : Int} (h : op < 0 ∨ 21 ≤ op) : cntF op = 0 := by
  unfold cntF
  by_cases h0 : op < 0
  · rw [if_pos h0]
  · rw [if_neg h0]
    have h2 : counts14.length = 21 := by decide
    unfold countO
    rw [List.getD_eq_getElem?_getD, List.getElem?_eq_none (by omega)]; rfl
theorem size_form : (Tryd.prog.info? 56).map (·.size) = some 2 := by kernel_rfl
theorem form_one (s : ByteArray) (n : Int) : (#[.string s, .int .i64 n] : Array Value).all (·.oneCell') = true := by simp [Value.oneCell']
set_option maxHeartbeats 2000000 in
set_option maxRecDepth 100000 in
theorem formOf_any (op : Int) (h : i64' op) (w : World) (hF : FTab w) : Calls Tryd.prog 27 #[.int .i64 op] w fun e w' => e = .returned (.agg #[.string ⟨(nameO op).toArray⟩, .int .i64 ((cntF op : Nat) : Int)]) ∧ Below w.heap.size w w' := by
  obtain ⟨R, hR⟩ : ∃ R, R = w.heap.size := ⟨_, rfl⟩
  obtain ⟨W0, hW0⟩ : ∃ W0, W0 = w.alloc (.cells #[.string ⟨#[]⟩, .int .i64 0] 56) := ⟨_, rfl⟩
  have hb0 : Below w.heap.size w W0 := by rw [hW0]; exact (Below.refl _ _).alloc (Nat.le_refl _) _
  have hkR : W0.heap[R]? = some (.cells #[.string ⟨#[]⟩, .int .i64 0] 56 (0, 0)) := by rw [hW0, hR]; exact heap_alloc_new w _
  have HR := Lib.hid hR
  have HW0 := Lib.hid hW0
  have HB0 := Lib.hid hb0
  have HKR := Lib.hid hkR
  have HF := Lib.hid (hF.below hb0)
  have HSF := Lib.hid size_form
  have bz : ∀ W : World, (Instr.build 56 #[]).run Tryd.prog W = .ok (.agg #[.string ⟨#[]⟩, .int .i64 0]) W := fun W => by kernel_rfl
  clear hb0 hkR hW0 hR hF
  by_cases hin : op < 0 ∨ 21 ≤ op
  · have hn : nameO op = [] := nameO_out hin
    have hc : cntF op = 0 := cntF_out hin
    have HN := Lib.hid hn
    have HC := Lib.hid hc
    clear hn hc
    by_cases h0 : op < 0
    · have d1 : decide (op < 0) = true := by simp [h0]
      go_enter Tryd.func27, Tryd.ntmps27
      go_upto_region 1 with fail
      rw [← HW0.out, ← HR.out]
      go_wp2_with (refine wpList_store_row rfl 56 (.tmp 2) (.tmp 9) rfl R #[.string ⟨#[]⟩, .int .i64 0] rfl rfl 56 #[.string ⟨#[]⟩, .int .i64 0] ?_ HSF.out rfl (form_one _ _) ?_; (exact HKR.out))
      refine bodyPost_ret (v := .agg #[.string ⟨#[]⟩, .int .i64 0]) (results_cell_row (p := 2) (ty := 56) rfl _ _ R 56 _ (0, 0) _ rfl (setRow_heap _ R _ _ _ _ HKR.out) Tryd.underlying56 rfl HSF.out) rfl ?_
      rw [HN.out, HC.out]
      exact ⟨rfl, below_setRow HB0.out (by rw [HR.out]; exact Nat.le_refl _) _⟩
    · have d1 : decide (op < 0) = false := by simp [h0]
      have d2 : decide (21 ≤ op) = true := by simp; omega
      go_enter Tryd.func27, Tryd.ntmps27
      go_upto_region 1 with fail
      rw [← HW0.out, ← HR.out]
      go_wp2_with (refine wpList_store_row rfl 56 (.tmp 2) (.tmp 9) rfl R #[.string ⟨#[]⟩, .int .i64 0] rfl rfl 56 #[.string ⟨#[]⟩, .int .i64 0] ?_ HSF.out rfl (form_one _ _) ?_; (exact HKR.out))
      refine bodyPost_ret (v := .agg #[.string ⟨#[]⟩, .int .i64 0]) (results_cell_row (p := 2) (ty := 56) rfl _ _ R 56 _ (0, 0) _ rfl (setRow_heap _ R _ _ _ _ HKR.out) Tryd.underlying56 rfl HSF.out) rfl ?_
      rw [HN.out, HC.out]
      exact ⟨rfl, below_setRow HB0.out (by rw [HR.out]; exact Nat.le_refl _) _⟩
  · obtain ⟨k, rfl⟩ : ∃ k : Nat, op = (k : Int) := ⟨op.toNat, by omega⟩
    have hk : k < 21 := by omega
    have hcn : cntF (k : Int) = countO (k : Int) := by unfold cntF; rw [if_neg (by omega)]
    have q := HF.out k hk
    obtain ⟨S, hS⟩ : ∃ S, S = (⟨(nameO (k : Int)).toArray⟩ : ByteArray) := ⟨_, rfl⟩
    obtain ⟨n, hn⟩ : ∃ n, n = countO (k : Int) := ⟨_, rfl⟩
    rw [← hS, ← hn] at q
    have HQ := Lib.hid q
    have HS := Lib.hid hS
    have HN := Lib.hid (hcn.trans hn.symm)
    have d1 : decide ((k : Int) < 0) = false := by simp
    have d2 : decide (21 ≤ (k : Int)) = false := by simp; omega
    clear q hS hn hcn h
    go_enter Tryd.func27, Tryd.ntmps27
    go_upto_region 1 with fail
    rw [← HW0.out, ← HR.out]
    go_wp2_with (first | (refine wpList_load_mid rfl 56 (.tmp 11) rfl 0 (k * 2) rfl [.string S, .int .i64 (n : Int)] _ ?_ Tryd.underlying56 rfl HSF.out ?_; (exact HQ.out)) | (refine wpList_store_row rfl 56 (.tmp 2) (.tmp 12) rfl R #[.string S, .int .i64 (n : Int)] rfl rfl 56 #[.string ⟨#[]⟩, .int .i64 0] ?_ HSF.out rfl (form_one _ _) ?_; (exact HKR.out)))
    refine bodyPost_ret (v := .agg #[.string S, .int .i64 (n : Int)]) (results_cell_row (p := 2) (ty := 56) rfl _ _ R 56 _ (0, 0) _ rfl (setRow_heap _ R _ _ _ _ HKR.out) Tryd.underlying56 rfl HSF.out) rfl ?_
    rw [HN.out, ← HS.out]
    exact ⟨rfl, below_setRow HB0.out (by rw [HR.out]; exact Nat.le_refl _) _⟩
set_option maxRecDepth 100000 in
theorem codeName_any (op : Int) (h : i64' op) (w : World) (hF : FTab w) : Calls Tryd.prog 11 #[.int .i64 op] w fun e w' => e = .returned (.string ⟨(nameO op).toArray⟩) ∧ Below w.heap.size w w' := by
  have k1 := formOf_any op h w hF
  obtain ⟨S, hS⟩ : ∃ S, S = (⟨(nameO op).toArray⟩ : ByteArray) := ⟨_, rfl⟩
  obtain ⟨n, hn⟩ : ∃ n, n = ((cntF op : Nat) : Int) := ⟨_, rfl⟩
  rw [← hS, ← hn] at k1
  rw [← hS]
  clear hS hn
  go_enter Tryd.func11, Tryd.ntmps11
  go_wp2_with fail
  (with_reducible refine k1.mono ?_)
  rintro e w1 ⟨rfl, hb⟩
  have hfl : ∀ W : World, (Instr.field 56 (.agg #[.string S, .int .i64 n]) 0).run Tryd.prog W = .ok (.string S) W := fun W => by kernel_rfl
  go_wp2_with fail
  go_ret
  exact ⟨rfl, hb⟩
theorem showI_all (x : In4) : showI x = nameO x.op ++ opsT (cntF x.op) [x.a, x.b, x.c] := by
  unfold showI
  by_cases h : x.op < 0 ∨ 21 ≤ x.op
  · rw [nameO_out h, cntF_out h, if_pos rfl]; rfl
  · rw [if_neg (nameO_in (by omega) (by omega))]
    unfold cntF
    rw [if_neg (by omega)]
set_option maxHeartbeats 4000000 in
set_option maxRecDepth 100000 in
theorem codeShow_any (x : In4) (hx : x.ok) (w : World) (hT : CTab w) : Calls Tryd.prog 12 #[.agg #[.int .i64 x.op, .int .i64 x.a, .int .i64 x.b, .int .i64 x.c]] w fun e w' => e = .returned (.string ⟨(showI x).toArray⟩) ∧ Below w.heap.size w w' := by
  rw [showI_all]
  obtain ⟨op, va, vb, vc⟩ := x
  obtain ⟨h1, h2, h3, h4⟩ := hx
  dsimp only at *
  obtain ⟨W0, hW0⟩ : ∃ W0, W0 = w.alloc (.cells #[.int .i64 op, .int .i64 va, .int .i64 vb, .int .i64 vc] 36) := ⟨_, rfl⟩
  have hb0 : Below w.heap.size w W0 := by rw [hW0]; exact (Below.refl _ _).alloc (Nat.le_refl _) _
  have hbk : W0.heap[w.heap.size]? = some (.cells #[.int .i64 op, .int .i64 va, .int .i64 vb, .int .i64 vc] 36 (0, 0)) := by rw [hW0]; exact heap_alloc_new w _
  obtain ⟨B, hB⟩ : ∃ B, B = w.heap.size := ⟨_, rfl⟩
  rw [← hB] at hbk
  have HBK := Lib.hid hbk
  have HB0 := Lib.hid hb0
  have HLT := Lib.hid (Array.getElem?_eq_some_iff.1 hbk).1
  have HW0 := Lib.hid hW0
  have HBB := Lib.hid hB
  have HT := Lib.hid (hT.below hb0)
  have q0 := cell_of_row W0 B 0 _ _ _ hbk
  have k1 := formOf_any op h1 W0 HT.out.forms
  have H3 := Lib.hid (And.intro h2 (And.intro h3 h4))
  have hc3 : cntF op ≤ 3 := cntF_le op
  have hln : (nameO op).length ≤ 6 := nameO_len op
  obtain ⟨N, hN⟩ : ∃ N, N = nameO op := ⟨_, rfl⟩
  obtain ⟨cn, hcn⟩ : ∃ cn, cn = cntF op := ⟨_, rfl⟩
  obtain ⟨S, hS⟩ : ∃ S, S = (⟨N.toArray⟩ : ByteArray) := ⟨_, rfl⟩
  rw [← hN, ← hcn, ← hS] at k1
  rw [← hN] at hln
  rw [← hcn] at hc3
  rw [← hN, ← hcn]
  have HS := Lib.hid hS
  have HLN := Lib.hid hln
  have HSF := Lib.hid size_form
  have HC3 := Lib.hid hc3
  clear h1 h2 h3 h4 hb0 hbk hW0 hB hS hN hcn hln hT
  go_enter Tryd.func12, Tryd.ntmps12
  go_upto_region 1 with fail
  rw [← HW0.out, ← HBB.out]
  go_wp2_with fail
  (with_reducible refine k1.mono ?_)
  rintro e w1 ⟨rfl, hb1⟩
  clear k1 q0
  have HB1 := Lib.hid hb1
  clear hb1
  obtain ⟨G, hG⟩ : ∃ G, G = w1.heap.size := ⟨_, rfl⟩
  obtain ⟨W2, hW2⟩ : ∃ W, W = ((w1.alloc (.cells #[.string ⟨#[]⟩, .int .i64 0] 56)).setRow w1.heap.size #[.string S, .int .i64 (cn : Int)]) := ⟨_, rfl⟩
  obtain ⟨hnb, hnr⟩ := newrow14 w1 56 #[.string ⟨#[]⟩, .int .i64 0] #[.string S, .int .i64 (cn : Int)]
  rw [← hW2] at hnb hnr
  have HAL := Lib.hid (heap_alloc_new w1 (.cells #[.string ⟨#[]⟩, .int .i64 0] 56))
  rw [← hG] at hnr
  have HB2 := Lib.hid (HB1.out.trans (hnb.mono HB1.out.size))
  have HNR := Lib.hid hnr
  have HW2 := Lib.hid hW2
  have HG := Lib.hid hG
  have HLG := Lib.hid (Array.getElem?_eq_some_iff.1 hnr).1
  have p0 := cell_of_row W2 G 0 _ _ _ hnr
  have p1 := cell_of_row W2 G 1 _ _ _ hnr
  have q1 := cell_of_row W2 B 1 _ _ _ ((HB2.out.block B HLT.out).trans HBK.out)
  have q2 := cell_of_row W2 B 2 _ _ _ ((HB2.out.block B HLT.out).trans HBK.out)
  have q3 := cell_of_row W2 B 3 _ _ _ ((HB2.out.block B HLT.out).trans HBK.out)
  obtain ⟨W3, hW3⟩ : ∃ W3, W3 = W2.alloc (.cells #[.int .i64 va, .int .i64 vb, .int .i64 vc] 3) := ⟨_, rfl⟩
  have hal : Below W2.heap.size W2 W3 := by rw [hW3]; exact (Below.refl _ _).alloc (Nat.le_refl _) _
  have h3 : W3.heap[W2.heap.size]? = some (.cells #[.int .i64 va, .int .i64 vb, .int .i64 vc] 3 (0, 0)) := by rw [hW3]; exact heap_alloc_new W2 _
  obtain ⟨g3, hg3⟩ : ∃ g3, g3 = W2.heap.size := ⟨_, rfl⟩
  rw [← hg3] at h3
  have HW3 := Lib.hid hW3
  have HGE := Lib.hid hg3
  have HG3 := Lib.hid h3
  have HB3 := Lib.hid (HB2.out.trans (hal.mono HB2.out.size))
  have HT3 := Lib.hid (HT.out.below HB3.out)
  have p1' : (W2.alloc (.cells #[.int .i64 va, .int .i64 vb, .int .i64 vc] 3)).cell? ⟨G, 1, none⟩ = some (.int .i64 (cn : Int)) := by rw [← hW3]; exact cell_of_row W3 G 1 _ _ _ ((hal.block G HLG.out).trans hnr)
  have hci : (cn : Int) ≤ 3 := by have := HC3.out; omega
  have bs3 : ∀ W : World, (Instr.buildSlice 58 3 #[(0, .int .i64 va), (1, .int .i64 vb), (2, .int .i64 vc)]).run Tryd.prog W = .ok (.slice (some ⟨W.heap.size, 0, none⟩) 3 3) (W.alloc (.cells #[.int .i64 va, .int .i64 vb, .int .i64 vc] 3)) := fun W => by kernel_rfl
  clear hal h3 hW3 hg3 hnb hnr hW2 hG hc3
  go_upto_region 2 with (refine wpList_store_row rfl 56 (.tmp 3) (.tmp 9) rfl w1.heap.size #[.string S, .int .i64 (cn : Int)] rfl rfl 56 #[.string ⟨#[]⟩, .int .i64 0] ?_ HSF.out rfl (form_one _ _) ?_; (exact HAL.out))
  rw [← HW2.out, ← HG.out]
  go_upto_region 4 with fail
  rw [← HW3.out, ← HGE.out]
  clear q1 q2 q3 p0 p1 p1' bs3 HW3 HGE HW2 HG hci
  obtain ⟨W4, hW4⟩ : ∃ W4 : World, W4 = W3 := ⟨_, rfl⟩
  rw [← hW4] at HB3 HT3 HG3 ⊢
  clear hW4 W3
  go_loopw [4, 6, 23] (fun vs _ vj wr => ∃ (j : Nat) (T : ByteArray), vs = .string T ∧ vj = .int .i64 (j : Int) ∧ j ≤ cn ∧ T = ⟨(N ++ opsT j [va, vb, vc]).toArray⟩ ∧ Below W4.heap.size W4 wr)
    (fun _ _ vj _ => cn - (intOf vj).toNat)
  case atStart => exact ⟨0, S, rfl, rfl, Nat.zero_le _, by rw [HS.out]; simp [opsT], Below.refl _ _⟩
  case round =>
    obtain ⟨j, T, rfl, rfl, hj, hT, hb⟩ := hrel
    have HT := Lib.hid hT
    have HB := Lib.hid hb
    have HJ := Lib.hid hj
    clear hT hb hj
    by_cases hjc : j < cn
    · have d1 : decide ((j : Int) < (cn : Int)) = true := by simp; omega
      have hj3 : j < 3 := by have := HC3.out; omega
      have q2 := cell_of_row wr g3 j _ _ _ ((HB.out.block g3 (Array.getElem?_eq_some_iff.1 HG3.out).1).trans HG3.out)
      have hat : (#[.int .i64 va, .int .i64 vb, .int .i64 vc] : Array Value)[j]? = some (.int .i64 ([va, vb, vc][j]'hj3)) := by
        match j, hj3 with
        | 0, _ => rfl
        | 1, _ => rfl
        | 2, _ => rfl
      rw [hat] at q2
      have hv : i64' ([va, vb, vc][j]'hj3) := by
        match j, hj3 with
        | 0, _ => exact H3.out.1
        | 1, _ => exact H3.out.2.1
        | 2, _ => exact H3.out.2.2
      have hsn := opsT_snoc j [va, vb, vc] hj3
      have hln := opsT_len j [va, vb, vc] (three_ok H3.out)
      obtain ⟨v, hvv⟩ : ∃ v, v = [va, vb, vc][j]'hj3 := ⟨_, rfl⟩
      rw [← hvv] at q2 hv hsn
      have hT2 : T ++ (⟨#[32]⟩ ++ ⟨(textI v).toArray⟩) = (⟨(N ++ opsT (j + 1) [va, vb, vc]).toArray⟩ : ByteArray) := by
        rw [HT.out, hsn]
        apply bytes_injT
        simp
      have hTs : T.size ≤ 100 := by
        rw [HT.out]
        show (N ++ opsT j [va, vb, vc]).toArray.size ≤ _
        rw [List.size_toArray, List.length_append]
        have := HLN.out
        omega
      have hVs : ((⟨(textI v).toArray⟩ : ByteArray)).size ≤ 20 := by
        show (textI v).toArray.size ≤ _
        rw [List.size_toArray]
        exact textI_len hv.1 hv.2
      have kt := Tryd.strconv_Itoa v hv.1 hv.2 wr (HT3.out.below HB.out).pow
      rw [itoa_textI] at kt
      have kb := Lib.below_grow wr.heap.size wr (Nat.le_refl _)
      obtain ⟨V, hV⟩ : ∃ V, V = (⟨(textI v).toArray⟩ : ByteArray) := ⟨_, rfl⟩
      rw [← hV] at kt hVs hT2
      have HT2 := Lib.hid hT2
      have HJC := Lib.hid hjc
      have HKB := Lib.hid kb
      have h32 : ((⟨#[32]⟩ : ByteArray) ++ V).size ≤ 21 := by
        rw [ByteArray.size_append]
        have : ((⟨#[32]⟩ : ByteArray)).size = 1 := rfl
        omega
      clear hat hsn hln hvv hV hv hT2 kb
      go_wp2_with fail
      (with_reducible refine kt.mono ?_)
      rintro e w9 ⟨rfl, kk, os, hw9⟩
      have hb9 := HKB.out kk os
      rw [← hw9] at hb9
      have HB9 := Lib.hid (HB.out.trans (hb9.mono HB.out.size))
      clear kt hb9 hw9
      go_wp2_with fail
      refine ⟨⟨j + 1, _, rfl, by go_num, HJC.out, HT2.out, HB9.out⟩, ?_⟩
      have := HJC.out
      simp [intOf]; omega
    · obtain rfl : j = cn := by have := HJ.out; omega
      have d1 : decide ((j : Int) < (j : Int)) = false := by simp
      clear hjc
      go_wp2_with fail
      go_ret
      exact ⟨by rw [← HT.out]; rfl, HB0.out.trans ((HB3.out.trans (HB.out.mono HB3.out.size)).mono HB0.out.size)⟩
end Go.Proofs.YtophockpjchilaaDoor

namespace Go.Proofs.YtophockpjchilaaDoor
open Go Go.RowKit
theorem codeC : CodeC CTab where
  keep := fun _ _ h hb => h.below hb
  enc_ := fun p x0 x1 x2 x3 x4 x5 c0 c1 c2 c3 c4 c5 w hT hp hs hw => codeEncode_any p hp (by omega) x0 x1 x2 x3 x4 x5 c0 c1 c2 c3 c4 c5 w hT.sum hw
  dec := fun l a c w hT ht hc hm hl => codeDecode_any l a c w hT.sum ht hc hm hl
  name := fun op w hT h => codeName_any op h w hT.forms
  show_ := fun x w hT h => codeShow_any x h w hT
  same := fun p q x0 x1 x2 x3 x4 x5 c0 c1 c2 c3 c4 c5 y0 y1 y2 y3 y4 y5 d0 d1 d2 d3 d4 d5 w hT hp hq hs hs' hP hQ => codeSame_any p q hp hq hs hs' x0 x1 x2 x3 x4 x5 c0 c1 c2 c3 c4 c5 y0 y1 y2 y3 y4 y5 d0 d1 d2 d3 d4 d5 w hT.sum hP hQ
end Go.Proofs.YtophockpjchilaaDoor

namespace Go.Proofs.YtophockpjchilaaDoor
open Go Go.RowKit
theorem run_bld14 {P : Program} {o : Oper} {ρ : Operand → Value} {t : TypeId} {parts : Array (Nat × Operand)} {v : Value} {W W' : World} (ho : o.op = .build t parts) (h : (Instr.build t (parts.map fun (i, x) => (i, ρ x))).run P W = .ok v W') : (execOp ρ o).run P W = .ok (.value v) W' := by
  simp only [execOp, ho]
  simp [h, Result.andThen]
theorem run_idx14 {P : Program} {ts t : TypeId} {sz : Nat} {W : World} {o : Oper} {ρ : Operand → Value} {x ix : Operand} {g off n c k : Nat} (hu : P.underlying ts = some (.slice t)) (hs : (P.info? t).map (·.size) = some sz) (ho : o.op = .indexAddr ts x ix) (hx : ρ x = .slice (some ⟨g, off, none⟩) n c) (hk : ρ ix = .int .i64 (k : Int)) (hlt : k < n) : (execOp ρ o).run P W = .ok (.value (.pointer (some ⟨g, off + k * sz, none⟩))) W := by
  cases hi : P.info? t with
  | none => rw [hi] at hs; simp at hs
  | some i =>
    rw [hi] at hs
    simp at hs
    have he : P.elem ts = t := by simp [Program.elem, hu]
    have ht' : P.underlying ts = some (.slice (P.elem ts)) := by rw [he]; exact hu
    simp [execOp, ho, hx, hk, run_indexAt_slice W ts ⟨g, off, none⟩ n c .i64 (k : Int) ht', he, sizeOf, typeInfo, hi, hs, hlt, Result.andThen, Addr.add_lit]
theorem run_ldmid14 {P : Program} {t : TypeId} {d : TypeDesc} {o : Oper} {ρ : Operand → Value} {x : Operand} {g off : Nat} {vs : List Value} {W : World} (ho : o.op = .load t x) (hx : ρ x = .pointer (some ⟨g, off, none⟩)) (hr : W.rangeAt g off vs) (hd : (match d with | .struct _ | .array _ _ => true | _ => false) = true) (hu : P.underlying t = some d) (hs : (P.info? t).map (·.size) = some vs.length) : (execOp ρ o).run P W = .ok (.value (.agg vs.toArray)) W := by
  have h := run_loadVar_mid (P := P) W g off t vs _ hr hu hd hs
  unfold execOp
  simp only [ho, hx, Instr.loadAt, Instr.sureAddr, Sem.run_bind, Sem.run_pure, Result.andThen_ok, h]
end Go.Proofs.YtophockpjchilaaDoor

namespace Go.Proofs.YtophockpjchilaaDoor
open Go Go.RowKit
--GEN
def pg0 : Pg := ⟨[2], [], [], [], [-1], [⟨8, 1, 2, 3⟩]⟩
theorem pg0_ok : pg0.ok := by
  refine ⟨?_, ?_, ?_, ?_, ?_, ?_⟩
  · intro v hv; simp [pg0] at hv; subst hv; exact ⟨by decide, by decide⟩
  · intro v hv; simp [pg0] at hv
  · intro v hv; simp [pg0] at hv
  · intro v hv; simp [pg0] at hv
  · intro v hv; simp [pg0] at hv; subst hv; exact ⟨by decide, by decide⟩
  · intro v hv; simp [pg0] at hv; subst hv; exact ⟨⟨by decide, by decide⟩, ⟨by decide, by decide⟩, ⟨by decide, by decide⟩, ⟨by decide, by decide⟩⟩
theorem pg0_sum : pg0.sum = 6 := rfl
theorem pg0_dec : decP (enc pg0) = pg0 := decP_enc pg0_ok (Pg.few_of (by rw [pg0_sum]; decide))
theorem pg0_decR : decR (enc pg0) = pg0 := by unfold decR; rw [pg0_dec, if_pos rfl]
theorem encC_le : ∀ l : List In4, (∀ x ∈ l, x.ok) → (encC l).length ≤ 40 * l.length
  | [], _ => Nat.le_refl _
  | x :: r, h => by
    have ih := encC_le r (fun y hy => h y (List.mem_cons_of_mem _ hy))
    obtain ⟨h1, h2, h3, h4⟩ := h x List.mem_cons_self
    have e1 := encI_le h1
    have e2 := encI_le h2
    have e3 := encI_le h3
    have e4 := encI_le h4
    show (encX x ++ encC r).length ≤ _
    unfold encX
    simp only [List.length_append, List.length_cons]
    omega
/-- How long a program's bytes are at most. -/
theorem enc_le {p : Pg} (h : p.ok) (hs : p.sum ≤ 1000000000) : (enc p).length ≤ 100 + 10 * p.sum := by
  have hs' := hs
  unfold Pg.sum at hs'
  have h1 := encL_le h.ins (by omega)
  have h2 := encL_le h.outs (by omega)
  have h3 := encL_le h.slots (by omega)
  have h4 := encL_le h.mems (by omega)
  have h5 := encL_le h.consts (by omega)
  have h6 := encC_le p.code h.code
  have h7 := Lib.uvarint_length64 (x := p.code.length) (by omega)
  rw [enc_length]
  unfold body Pg.sum
  simp only [List.length_append]
  omega
theorem dec_nil : ¬ enc (decP []) = [] := fun h => by have := (enc_head h).1; simp at this
theorem decR_nil : decR [] = noPg := by unfold decR; rw [if_neg dec_nil]
theorem show_add : showI ⟨8, 1, 2, 3⟩ = [97, 100, 100, 32, 49, 32, 50, 32, 51] := by
  have h1 : textI 1 = [49] := by unfold textI; rw [if_neg (by decide)]; exact textN_small 1 (by decide)
  have h2 : textI 2 = [50] := by unfold textI; rw [if_neg (by decide)]; exact textN_small 2 (by decide)
  have h3 : textI 3 = [51] := by unfold textI; rw [if_neg (by decide)]; exact textN_small 3 (by decide)
  have hn : nameO 8 = [97, 100, 100] := by decide
  have hc : countO 8 = 3 := by decide
  unfold showI
  simp only
  rw [hn, hc, if_neg (by decide)]
  simp only [opsT, h1, h2, h3]
  rfl
theorem name_jump : nameO 20 = [106, 117, 109, 112] := by decide
set_option maxHeartbeats 4000000 in
set_option maxRecDepth 100000 in
theorem awake14_any {T : World → Prop} (K : CodeC T) (w : World) (hT : T w) : Calls Tryd.prog 8 #[] w fun e w' => e = .returned (.bool true) ∧ Below w.heap.size w w' := by
  have HK := Lib.hid K
  have b1 : ∀ W : World, (Instr.buildSlice 23 1 #[(0, .int .i64 2)]).run Tryd.prog W = .ok (.slice (some ⟨W.heap.size, 0, none⟩) 1 1) (W.alloc (.cells #[.int .i64 2] 48)) := fun W => by kernel_rfl
  have b2 : ∀ W : World, (Instr.buildSlice 24 1 #[(0, .int .i64 (-1))]).run Tryd.prog W = .ok (.slice (some ⟨W.heap.size, 0, none⟩) 1 1) (W.alloc (.cells #[.int .i64 (-1)] 2)) := fun W => by kernel_rfl
  have b3 : ∀ W : World, (Instr.buildSlice 25 1 #[(0, .agg #[.int .i64 8, .int .i64 1, .int .i64 2, .int .i64 3])]).run Tryd.prog W = .ok (.slice (some ⟨W.heap.size, 0, none⟩) 1 1) (W.alloc (.cells #[.int .i64 8, .int .i64 1, .int .i64 2, .int .i64 3] 36)) := fun W => by kernel_rfl
  obtain ⟨W4, hW4⟩ : ∃ W4, W4 = ((((w.alloc (.cells #[.int .i64 2] 48)).alloc (.cells #[.int .i64 (-1)] 2)).alloc (.cells #[.int .i64 8, .int .i64 1, .int .i64 2, .int .i64 3] 36)).alloc (.cells #[.slice (some ⟨w.heap.size, 0, none⟩) 1 1, .slice none 0 0, .slice none 0 0, .slice none 0 0, .slice (some ⟨w.heap.size + 1, 0, none⟩) 1 1, .slice (some ⟨w.heap.size + 1 + 1, 0, none⟩) 1 1] 27)) := ⟨_, rfl⟩
  have hb1 : Below w.heap.size w (w.alloc (.cells #[.int .i64 2] 48)) := (Below.refl _ _).alloc (Nat.le_refl _) _
  have hb2 : Below w.heap.size w ((w.alloc (.cells #[.int .i64 2] 48)).alloc (.cells #[.int .i64 (-1)] 2)) := hb1.alloc hb1.size _
  have hb3 : Below w.heap.size w (((w.alloc (.cells #[.int .i64 2] 48)).alloc (.cells #[.int .i64 (-1)] 2)).alloc (.cells #[.int .i64 8, .int .i64 1, .int .i64 2, .int .i64 3] 36)) := hb2.alloc hb2.size _
  have hb4 : Below w.heap.size w W4 := by rw [hW4]; exact hb3.alloc hb3.size _
  obtain ⟨g6, h6⟩ : ∃ g, g = w.heap.size := ⟨_, rfl⟩
  obtain ⟨g7, h7⟩ : ∃ g, g = w.heap.size + 1 := ⟨_, rfl⟩
  obtain ⟨g9, h9⟩ : ∃ g, g = w.heap.size + 1 + 1 := ⟨_, rfl⟩
  obtain ⟨B1, hB1⟩ : ∃ g, g = w.heap.size + 1 + 1 + 1 := ⟨_, rfl⟩
  have s1 : (w.alloc (.cells #[.int .i64 2] 48)).heap.size = g7 := by rw [h7]; simp
  have s2 : ((w.alloc (.cells #[.int .i64 2] 48)).alloc (.cells #[.int .i64 (-1)] 2)).heap.size = g9 := by rw [h9]; simp
  have s3 : (((w.alloc (.cells #[.int .i64 2] 48)).alloc (.cells #[.int .i64 (-1)] 2)).alloc (.cells #[.int .i64 8, .int .i64 1, .int .i64 2, .int .i64 3] 36)).heap.size = B1 := by rw [hB1]; simp
  have k6 := heap_alloc_new w (.cells #[.int .i64 2] 48)
  have k7 := heap_alloc_new (w.alloc (.cells #[.int .i64 2] 48)) (.cells #[.int .i64 (-1)] 2)
  have k9 := heap_alloc_new ((w.alloc (.cells #[.int .i64 2] 48)).alloc (.cells #[.int .i64 (-1)] 2)) (.cells #[.int .i64 8, .int .i64 1, .int .i64 2, .int .i64 3] 36)
  have kB := heap_alloc_new (((w.alloc (.cells #[.int .i64 2] 48)).alloc (.cells #[.int .i64 (-1)] 2)).alloc (.cells #[.int .i64 8, .int .i64 1, .int .i64 2, .int .i64 3] 36)) (.cells #[.slice (some ⟨w.heap.size, 0, none⟩) 1 1, .slice none 0 0, .slice none 0 0, .slice none 0 0, .slice (some ⟨w.heap.size + 1, 0, none⟩) 1 1, .slice (some ⟨w.heap.size + 1 + 1, 0, none⟩) 1 1] 27)
  rw [← hW4, s3, ← h9, ← h7, ← h6] at kB
  rw [s1] at k7
  rw [s2] at k9
  rw [← h6] at k6
  have a12 : Below (w.alloc (.cells #[.int .i64 2] 48)).heap.size (w.alloc (.cells #[.int .i64 2] 48)) ((w.alloc (.cells #[.int .i64 2] 48)).alloc (.cells #[.int .i64 (-1)] 2)) := (Below.refl _ _).alloc (Nat.le_refl _) _
  have a23 : Below ((w.alloc (.cells #[.int .i64 2] 48)).alloc (.cells #[.int .i64 (-1)] 2)).heap.size ((w.alloc (.cells #[.int .i64 2] 48)).alloc (.cells #[.int .i64 (-1)] 2)) (((w.alloc (.cells #[.int .i64 2] 48)).alloc (.cells #[.int .i64 (-1)] 2)).alloc (.cells #[.int .i64 8, .int .i64 1, .int .i64 2, .int .i64 3] 36)) := (Below.refl _ _).alloc (Nat.le_refl _) _
  have a34 : Below (((w.alloc (.cells #[.int .i64 2] 48)).alloc (.cells #[.int .i64 (-1)] 2)).alloc (.cells #[.int .i64 8, .int .i64 1, .int .i64 2, .int .i64 3] 36)).heap.size (((w.alloc (.cells #[.int .i64 2] 48)).alloc (.cells #[.int .i64 (-1)] 2)).alloc (.cells #[.int .i64 8, .int .i64 1, .int .i64 2, .int .i64 3] 36)) W4 := by rw [hW4]; exact (Below.refl _ _).alloc (Nat.le_refl _) _
  rw [s1] at a12
  rw [s2] at a23
  rw [s3] at a34
  have m6 : W4.heap[g6]? = some (.cells #[.int .i64 2] 48 (0, 0)) := (a34.block g6 (by omega)).trans ((a23.block g6 (by omega)).trans ((a12.block g6 (by omega)).trans k6))
  have m7 : W4.heap[g7]? = some (.cells #[.int .i64 (-1)] 2 (0, 0)) := (a34.block g7 (by omega)).trans ((a23.block g7 (by omega)).trans k7)
  have m9 : W4.heap[g9]? = some (.cells #[.int .i64 8, .int .i64 1, .int .i64 2, .int .i64 3] 36 (0, 0)) := (a34.block g9 (by omega)).trans k9
  have hpi : PgIn W4 pg0 (some ⟨g6, 0, none⟩) none none none (some ⟨g7, 0, none⟩) (some ⟨g9, 0, none⟩) := by
    refine ⟨fun _ => ⟨g6, 0, rfl, (Array.getElem?_eq_some_iff.1 m6).1, ?_⟩, Row.nil _ _ _, Row.nil _ _ _, Row.nil _ _ _, fun _ => ⟨g7, 0, rfl, (Array.getElem?_eq_some_iff.1 m7).1, ?_⟩, fun _ => ⟨g9, 0, rfl, (Array.getElem?_eq_some_iff.1 m9).1, ?_⟩⟩
    · intro i hi
      have : i < 1 := hi
      obtain rfl : i = 0 := by omega
      exact cell_of_row W4 g6 0 _ _ _ m6
    · intro i hi
      have : i < 1 := hi
      obtain rfl : i = 0 := by omega
      exact cell_of_row W4 g7 0 _ _ _ m7
    · intro i hi j v hv
      have : i < 1 := hi
      obtain rfl : i = 0 := by omega
      have hj : j < 4 := (List.getElem?_eq_some_iff.1 hv).1
      have hc := cell_of_row W4 g9 j _ _ _ m9
      rw [show 0 + 0 * 4 + j = j by omega, hc]
      match j, hj, hv with
      | 0, _, hv => exact hv
      | 1, _, hv => exact hv
      | 2, _, hv => exact hv
      | 3, _, hv => exact hv
  have HPI := Lib.hid hpi
  have HBK := Lib.hid kB
  have HB4 := Lib.hid hb4
  have HW4 := Lib.hid hW4
  have H6 := Lib.hid h6
  have H7 := Lib.hid h7
  have H9 := Lib.hid h9
  have HB1 := Lib.hid hB1
  have HSP := Lib.hid size_prog
  have HT := Lib.hid (HK.out.keep _ _ hT hb4)
  have k1 : Calls Tryd.prog 10 #[.agg #[.slice (some ⟨g6, 0, none⟩) 1 1, .slice none 0 0, .slice none 0 0, .slice none 0 0, .slice (some ⟨g7, 0, none⟩) 1 1, .slice (some ⟨g9, 0, none⟩) 1 1]] W4 (GivesO W4 (enc pg0)) := HK.out.enc_ pg0 _ _ _ _ _ _ 1 0 0 0 1 1 W4 HT.out pg0_ok (by rw [pg0_sum]; decide) hpi
  clear K hT s1 s2 s3 k6 k7 k9 kB a12 a23 a34 m6 m7 m9 hpi hb1 hb2 hb3 hb4 hW4 h6 h7 h9 hB1
  go_enter Tryd.func8, Tryd.ntmps8
  go_upto_region 2 with fail
  rw [← HW4.out, ← HB1.out, ← H9.out, ← H7.out, ← H6.out]
  clear b1 b2 b3
  go_wp2_with (refine wpList_load_row rfl 27 (.tmp 1) rfl B1 rfl 27 #[.slice (some ⟨g6, 0, none⟩) 1 1, .slice none 0 0, .slice none 0 0, .slice none 0 0, .slice (some ⟨g7, 0, none⟩) 1 1, .slice (some ⟨g9, 0, none⟩) 1 1] (0, 0) _ ?_ Tryd.underlying27 rfl HSP.out ?_; (exact HBK.out))
  (with_reducible refine k1.mono ?_)
  rintro e w5 ⟨a5, c5, rfl, ho5, hc5, hm5, hb5⟩
  have ht5 := own_txt ho5
  clear ho5
  clear k1
  have hlen := enc_le pg0_ok (by rw [pg0_sum]; decide)
  rw [pg0_sum] at hlen
  have HT5 := Lib.hid (HK.out.keep _ _ HT.out hb5)
  have k2 := HK.out.dec (enc pg0) a5 c5 w5 HT5.out ht5 hc5 hm5 (by omega)
  have HBB5 := Lib.hid hb5
  clear ht5 hc5 hm5 hb5 hlen
  go_wp2_with fail
  (with_reducible refine k2.mono ?_)
  rintro e w6 ⟨x0, x1, x2, x3, x4, x5, y0, y1, y2, y3, y4, y5, rfl, hq, hb6⟩
  clear k2
  rw [pg0_decR] at hq
  rw [pg0_decR, pg0_dec, if_pos rfl]
  have epv : pgV pg0 x0 x1 x2 x3 x4 x5 y0 y1 y2 y3 y4 y5 = .agg #[.slice x0 1 y0, .slice x1 0 y1, .slice x2 0 y2, .slice x3 0 y3, .slice x4 1 y4, .slice x5 1 y5] := rfl
  rw [epv]
  obtain ⟨W7, hW7⟩ : ∃ W7, W7 = w6.alloc (.cells #[.slice x0 1 y0, .slice x1 0 y1, .slice x2 0 y2, .slice x3 0 y3, .slice x4 1 y4, .slice x5 1 y5] 27) := ⟨_, rfl⟩
  obtain ⟨B2, hB2⟩ : ∃ B2, B2 = w6.heap.size := ⟨_, rfl⟩
  have k7 := heap_alloc_new w6 (.cells #[.slice x0 1 y0, .slice x1 0 y1, .slice x2 0 y2, .slice x3 0 y3, .slice x4 1 y4, .slice x5 1 y5] 27)
  have a67 : Below w6.heap.size w6 W7 := by rw [hW7]; exact (Below.refl _ _).alloc (Nat.le_refl _) _
  rw [← hW7, ← hB2] at k7
  have HBK2 := Lib.hid k7
  have HPQ := Lib.hid (hq.below a67)
  have HB7 : Hid (Below W4.heap.size W4 W7) := Lib.hid ((HBB5.out.trans (hb6.mono HBB5.out.size)).trans (a67.mono (Nat.le_trans HBB5.out.size hb6.size)))
  have HT7 := Lib.hid (HK.out.keep _ _ HT.out HB7.out)
  have k3 : Calls Tryd.prog 9 #[.slice none 0 0] W7 (GivesDecC W7 []) := HK.out.dec [] none 0 W7 HT7.out (Txt.nil _ _) (Nat.le_refl _) (Nat.zero_le _) (Nat.zero_le _)
  have HW7 := Lib.hid hW7
  have HB2 := Lib.hid hB2
  clear hq epv k7 a67 hW7 hB2 hb6
  go_upto_region 3 with fail
  rw [← HW7.out, ← HB2.out]
  go_wp2_with fail
  (with_reducible refine k3.mono ?_)
  rintro e w8 ⟨u0, u1, u2, u3, u4, u5, z0, z1, z2, z3, z4, z5, rfl, hn, hb8⟩
  clear k3 hn
  rw [decR_nil, if_neg dec_nil]
  have epn : pgV noPg u0 u1 u2 u3 u4 u5 z0 z1 z2 z3 z4 z5 = .agg #[.slice u0 0 z0, .slice u1 0 z1, .slice u2 0 z2, .slice u3 0 z3, .slice u4 0 z4, .slice u5 0 z5] := rfl
  rw [epn]
  obtain ⟨W9, hW9⟩ : ∃ W9, W9 = w8.alloc (.cells #[.slice u0 0 z0, .slice u1 0 z1, .slice u2 0 z2, .slice u3 0 z3, .slice u4 0 z4, .slice u5 0 z5] 27) := ⟨_, rfl⟩
  have a89 : Below w8.heap.size w8 W9 := by rw [hW9]; exact (Below.refl _ _).alloc (Nat.le_refl _) _
  have b79 : Below W7.heap.size W7 W9 := hb8.trans (a89.mono hb8.size)
  have HX1 : Hid (W9.heap[B1]? = some (.cells #[.slice (some ⟨g6, 0, none⟩) 1 1, .slice none 0 0, .slice none 0 0, .slice none 0 0, .slice (some ⟨g7, 0, none⟩) 1 1, .slice (some ⟨g9, 0, none⟩) 1 1] 27 (0, 0))) := Lib.hid ((b79.block B1 (Nat.lt_of_lt_of_le (Array.getElem?_eq_some_iff.1 HBK.out).1 HB7.out.size)).trans ((HB7.out.block B1 (Array.getElem?_eq_some_iff.1 HBK.out).1).trans HBK.out))
  have HX2 : Hid (W9.heap[B2]? = some (.cells #[.slice x0 1 y0, .slice x1 0 y1, .slice x2 0 y2, .slice x3 0 y3, .slice x4 1 y4, .slice x5 1 y5] 27 (0, 0))) := Lib.hid ((b79.block B2 (Array.getElem?_eq_some_iff.1 HBK2.out).1).trans HBK2.out)
  have HP9 := Lib.hid ((HPI.out.below HB7.out).below b79)
  have HQ9 := Lib.hid (HPQ.out.below b79)
  have HT9 := Lib.hid (HK.out.keep _ _ HT7.out b79)
  have HB9 : Hid (Below w.heap.size w W9) := Lib.hid ((HB4.out.trans (HB7.out.mono HB4.out.size)).trans (b79.mono (Nat.le_trans HB4.out.size HB7.out.size)))
  obtain ⟨gq, oq, hx5, hgq, hrq⟩ := HQ9.out.code (by simp [pg0])
  subst hx5
  have hr0 := hrq 0 (by simp [pg0])
  have HRQ := Lib.hid hr0
  have HGQ := Lib.hid hgq
  obtain ⟨gp9, op9, hx9, hg9, hr9⟩ := HP9.out.code (by simp [pg0])
  have e9 : g9 = gp9 := by injection hx9 with hx9; injection hx9
  have e90 : op9 = 0 := by injection hx9 with hx9; injection hx9 with _ hx; exact hx.symm
  subst e9
  subst e90
  have hr90 := hr9 0 (by simp [pg0])
  have HRP : Hid (W9.rangeAt g9 (0 + 0 * 4) (in4C ⟨8, 1, 2, 3⟩)) := Lib.hid hr90
  have HG9 := Lib.hid hg9
  have HW9 := Lib.hid hW9
  have HSI := Lib.hid size_in4
  clear hx9 hr9 hr90 hrq hr0 hgq hg9 hW9 a89 b79 epn hb8
  go_upto_region 4 with fail
  rw [← HW9.out]
  refine wp_region_steps (words [wIs (.agg #[.int .i64 8, .int .i64 1, .int .i64 2, .int .i64 3]), wIs (.string ⟨#[97, 100, 100, 32, 49, 32, 50, 32, 51]⟩), wIs (.bool true), wIs (.bool true), wIs (.int .i64 0), wIs (.bool true), wIs (.bool true), wIs (.bool true), wIs (.pointer (some ⟨B2, 5, none⟩)), wIs (.slice (some ⟨gq, oq, none⟩) 1 y5), wIs (.int .i64 ((1 : Nat) : Int)), wIs (.bool true), wIs (.bool true), wIs (.bool true), wIs (.pointer (some ⟨B2, 5, none⟩)), wIs (.slice (some ⟨gq, oq, none⟩) 1 y5), wIs (.pointer (some ⟨gq, oq + 0 * 4, none⟩)), wIs (.agg #[.int .i64 8, .int .i64 1, .int .i64 2, .int .i64 3]), wIs (.pointer (some ⟨B1, 5, none⟩)), wIs (.slice (some ⟨g9, 0, none⟩) 1 1), wIs (.pointer (some ⟨g9, 0 + 0 * 4, none⟩)), wIs (.agg #[.int .i64 8, .int .i64 1, .int .i64 2, .int .i64 3]), wIs (.bool true), wIs (.bool true), wIs (.bool true), wIs (.agg #[.slice (some ⟨g6, 0, none⟩) 1 1, .slice none 0 0, .slice none 0 0, .slice none 0 0, .slice (some ⟨g7, 0, none⟩) 1 1, .slice (some ⟨g9, 0, none⟩) 1 1]), wIs (.agg #[.slice x0 1 y0, .slice x1 0 y1, .slice x2 0 y2, .slice x3 0 y3, .slice x4 1 y4, .slice (some ⟨gq, oq, none⟩) 1 y5]), wIs (.bool true), wIs (.bool true), wIs (.bool true), wIs (.int .i64 3), wIs (.bool true), wIs (.bool true), wIs (.bool true), wIs (.string ⟨#[106, 117, 109, 112]⟩), wIs (.bool true), wIs (.bool true), wIs (.bool true)]) W9.heap.size W9 (by kernel_rfl) (Below.refl _ _) (Nat.le_refl _) (words_stable ?stab) rfl rfl (by kernel_rfl) ?steps ?rest2
  case stab =>
    intro f hf
    simp only [List.mem_cons, List.not_mem_nil, or_false] at hf
    rcases hf with rfl | rfl | rfl | rfl | rfl | rfl | rfl | rfl | rfl | rfl | rfl | rfl | rfl | rfl | rfl | rfl | rfl | rfl | rfl | rfl | rfl | rfl | rfl | rfl | rfl | rfl | rfl | rfl | rfl | rfl | rfl | rfl | rfl | rfl | rfl | rfl | rfl | rfl <;> first | exact stable_is _
  case steps =>
    refine Steps.cons (step_value rfl fun xa W hp => ?_) ?_
    · skip
      have h : (Instr.build 36 #[(0, .int .i64 8), (1, .int .i64 1), (2, .int .i64 2), (3, .int .i64 3)]).run Tryd.prog W = .ok (.agg #[.int .i64 8, .int .i64 1, .int .i64 2, .int .i64 3]) W := by kernel_rfl
      exact ⟨(wanted_none rfl), _, _, run_bld14 rfl (by simp only [List.map_toArray, List.map_cons, List.map_nil]; exact h), rfl, Below.refl _ _⟩
    refine Steps.cons (step_enter rfl fun xa W hp => ?_) ?_
    · have e0 : xa.tmps.getD 21 undef = .agg #[.int .i64 8, .int .i64 1, .int .i64 2, .int .i64 3] := (hp.on_ 0 rfl rfl rfl).2
      refine ⟨(wanted_none rfl), 12, _, run_enter1 rfl rfl Tryd.call12, ?_⟩
      show Calls _ _ #[xa.tmps.getD 21 undef] W _
      rw [e0]
      refine (HK.out.show_ ⟨8, 1, 2, 3⟩ W (HK.out.keep _ _ HT9.out hp.below) ⟨⟨by decide, by decide⟩, ⟨by decide, by decide⟩, ⟨by decide, by decide⟩, ⟨by decide, by decide⟩⟩).mono ?_
      rw [show_add]
      rintro e W' ⟨he, hbe⟩
      exact ⟨_, he, rfl, hbe⟩
    refine Steps.cons (step_value rfl fun xa W hp => ?_) ?_
    · have e0 : xa.tmps.getD 22 undef = .string ⟨#[97, 100, 100, 32, 49, 32, 50, 32, 51]⟩ := (hp.on_ 1 rfl rfl rfl).2
      refine ⟨(wanted_none rfl), _, _, run_bin3 rfl (v := .bool true) ?_ ?_, rfl, Below.refl _ _⟩
      · show (eqGuard .eql _ _ _ (xa.tmps.getD 22 undef) (.string ⟨#[97, 100, 100, 32, 49, 32, 50, 32, 51]⟩)).run _ W = _
        rw [e0]; first | rfl | kernel_rfl | (simp [eqGuard]; done) | (unfold eqGuard; simp; done)
      · show (binOp .eql _ (xa.tmps.getD 22 undef) (.string ⟨#[97, 100, 100, 32, 49, 32, 50, 32, 51]⟩)).run _ W = _
        rw [e0]; first | rfl | ((rw [Go.binOp_string_eql]; simp [Lib.toList_data]))
    refine Steps.cons (step_value rfl fun xa W hp => ⟨(wanted_none rfl), _, _, run_move (.inl rfl), (hp.on_ 2 rfl rfl rfl).2, Below.refl _ _⟩) ?_
    refine Steps.cons (step_value rfl fun xa W hp => ⟨(wanted_some rfl rfl rfl (hp.on_ 3 rfl rfl rfl).1 (hp.on_ 3 rfl rfl rfl).2), _, _, run_move (.inl rfl), hp.old 3 rfl, Below.refl _ _⟩) ?_
    refine Steps.cons (step_value rfl fun xa W hp => ?_) ?_
    · have e0 : xa.tmps.getD 25 undef = .int .i64 0 := (hp.on_ 4 rfl rfl rfl).2
      refine ⟨(wanted_some rfl rfl rfl (hp.on_ 3 rfl rfl rfl).1 (hp.on_ 3 rfl rfl rfl).2), _, _, run_bin3 rfl (v := .bool true) ?_ ?_, rfl, Below.refl _ _⟩
      · show (eqGuard .eql _ _ _ (xa.tmps.getD 25 undef) (.int .i64 0)).run _ W = _
        rw [e0]; first | rfl | kernel_rfl | (simp [eqGuard]; done) | (unfold eqGuard; simp; done)
      · show (binOp .eql _ (xa.tmps.getD 25 undef) (.int .i64 0)).run _ W = _
        rw [e0]; first | rfl | (rfl)
    refine Steps.cons (step_value rfl fun xa W hp => ⟨(wanted_none rfl), _, _, run_pick rfl (hp.on_ 3 rfl rfl rfl).2, (hp.on_ 5 rfl rfl rfl).2, Below.refl _ _⟩) ?_
    refine Steps.cons (step_value rfl fun xa W hp => ⟨(wanted_none rfl), _, _, run_move (.inl rfl), (hp.on_ 6 rfl rfl rfl).2, Below.refl _ _⟩) ?_
    refine Steps.cons (step_value rfl fun xa W hp => ?_) ?_
    · have e0 : xa.tmps.getD 2 undef = .pointer (some ⟨B2, 0, none⟩) := hp.old 2 rfl
      have e1 : (Instr.fieldAt 27 (.pointer (some ⟨B2, 0, none⟩)) 5).run Tryd.prog W = .ok (.pointer (some ⟨B2, 5, none⟩)) W := by kernel_rfl
      exact ⟨(wanted_some rfl rfl rfl (hp.on_ 7 rfl rfl rfl).1 (hp.on_ 7 rfl rfl rfl).2), _, _, run_fa4 rfl e0 e1, rfl, Below.refl _ _⟩
    refine Steps.cons (step_value rfl fun xa W hp => ?_) ?_
    · have e0 : xa.tmps.getD 29 undef = .pointer (some ⟨B2, 5, none⟩) := (hp.on_ 8 rfl rfl rfl).2
      exact ⟨(wanted_some rfl rfl rfl (hp.on_ 7 rfl rfl rfl).1 (hp.on_ 7 rfl rfl rfl).2), _, _, run_ldv rfl e0 (cell_of_row W (B2) 5 _ _ _ ((hp.below.block (B2) (Array.getElem?_eq_some_iff.1 HX2.out).1).trans HX2.out)) Tryd.underlying25 rfl (by kernel_rfl), rfl, Below.refl _ _⟩
    refine Steps.cons (step_value rfl fun xa W hp => ?_) ?_
    · have e0 : xa.tmps.getD 30 undef = .slice (some ⟨gq, oq, none⟩) 1 y5 := (hp.on_ 9 rfl rfl rfl).2
      exact ⟨(wanted_some rfl rfl rfl (hp.on_ 7 rfl rfl rfl).1 (hp.on_ 7 rfl rfl rfl).2), _, _, run_len14 rfl Tryd.underlying25 e0, rfl, Below.refl _ _⟩
    refine Steps.cons (step_value rfl fun xa W hp => ?_) ?_
    · have e0 : xa.tmps.getD 31 undef = .int .i64 ((1 : Nat) : Int) := (hp.on_ 10 rfl rfl rfl).2
      refine ⟨(wanted_some rfl rfl rfl (hp.on_ 7 rfl rfl rfl).1 (hp.on_ 7 rfl rfl rfl).2), _, _, run_bin3 rfl (v := .bool true) ?_ ?_, rfl, Below.refl _ _⟩
      · show (eqGuard .eql _ _ _ (xa.tmps.getD 31 undef) (.int .i64 1)).run _ W = _
        rw [e0]; first | rfl | kernel_rfl | (simp [eqGuard]; done) | (unfold eqGuard; simp; done)
      · show (binOp .eql _ (xa.tmps.getD 31 undef) (.int .i64 1)).run _ W = _
        rw [e0]; first | rfl | (rfl)
    refine Steps.cons (step_value rfl fun xa W hp => ⟨(wanted_none rfl), _, _, run_pick rfl (hp.on_ 7 rfl rfl rfl).2, (hp.on_ 11 rfl rfl rfl).2, Below.refl _ _⟩) ?_
    refine Steps.cons (step_value rfl fun xa W hp => ⟨(wanted_none rfl), _, _, run_move (.inl rfl), (hp.on_ 12 rfl rfl rfl).2, Below.refl _ _⟩) ?_
    refine Steps.cons (step_value rfl fun xa W hp => ?_) ?_
    · have e0 : xa.tmps.getD 2 undef = .pointer (some ⟨B2, 0, none⟩) := hp.old 2 rfl
      have e1 : (Instr.fieldAt 27 (.pointer (some ⟨B2, 0, none⟩)) 5).run Tryd.prog W = .ok (.pointer (some ⟨B2, 5, none⟩)) W := by kernel_rfl
      exact ⟨(wanted_some rfl rfl rfl (hp.on_ 13 rfl rfl rfl).1 (hp.on_ 13 rfl rfl rfl).2), _, _, run_fa4 rfl e0 e1, rfl, Below.refl _ _⟩
    refine Steps.cons (step_value rfl fun xa W hp => ?_) ?_
    · have e0 : xa.tmps.getD 35 undef = .pointer (some ⟨B2, 5, none⟩) := (hp.on_ 14 rfl rfl rfl).2
      exact ⟨(wanted_some rfl rfl rfl (hp.on_ 13 rfl rfl rfl).1 (hp.on_ 13 rfl rfl rfl).2), _, _, run_ldv rfl e0 (cell_of_row W (B2) 5 _ _ _ ((hp.below.block (B2) (Array.getElem?_eq_some_iff.1 HX2.out).1).trans HX2.out)) Tryd.underlying25 rfl (by kernel_rfl), rfl, Below.refl _ _⟩
    refine Steps.cons (step_value rfl fun xa W hp => ?_) ?_
    · have e0 : xa.tmps.getD 36 undef = .slice (some ⟨gq, oq, none⟩) 1 y5 := (hp.on_ 15 rfl rfl rfl).2
      exact ⟨(wanted_some rfl rfl rfl (hp.on_ 13 rfl rfl rfl).1 (hp.on_ 13 rfl rfl rfl).2), _, _, run_idx14 (k := 0) Tryd.underlying25 size_in4 rfl e0 rfl (by decide), rfl, Below.refl _ _⟩
    refine Steps.cons (step_value rfl fun xa W hp => ?_) ?_
    · have e0 : xa.tmps.getD 37 undef = .pointer (some ⟨gq, oq + 0 * 4, none⟩) := (hp.on_ 16 rfl rfl rfl).2
      exact ⟨(wanted_some rfl rfl rfl (hp.on_ 13 rfl rfl rfl).1 (hp.on_ 13 rfl rfl rfl).2), _, _, run_ldmid14 rfl e0 (rangeAt_pg HRQ.out hp.below HGQ.out) rfl Tryd.underlying36 size_in4, rfl, Below.refl _ _⟩
    refine Steps.cons (step_value rfl fun xa W hp => ?_) ?_
    · have e0 : xa.tmps.getD 1 undef = .pointer (some ⟨B1, 0, none⟩) := hp.old 1 rfl
      have e1 : (Instr.fieldAt 27 (.pointer (some ⟨B1, 0, none⟩)) 5).run Tryd.prog W = .ok (.pointer (some ⟨B1, 5, none⟩)) W := by kernel_rfl
      exact ⟨(wanted_some rfl rfl rfl (hp.on_ 13 rfl rfl rfl).1 (hp.on_ 13 rfl rfl rfl).2), _, _, run_fa4 rfl e0 e1, rfl, Below.refl _ _⟩
    refine Steps.cons (step_value rfl fun xa W hp => ?_) ?_
    · have e0 : xa.tmps.getD 39 undef = .pointer (some ⟨B1, 5, none⟩) := (hp.on_ 18 rfl rfl rfl).2
      exact ⟨(wanted_some rfl rfl rfl (hp.on_ 13 rfl rfl rfl).1 (hp.on_ 13 rfl rfl rfl).2), _, _, run_ldv rfl e0 (cell_of_row W (B1) 5 _ _ _ ((hp.below.block (B1) (Array.getElem?_eq_some_iff.1 HX1.out).1).trans HX1.out)) Tryd.underlying25 rfl (by kernel_rfl), rfl, Below.refl _ _⟩
    refine Steps.cons (step_value rfl fun xa W hp => ?_) ?_
    · have e0 : xa.tmps.getD 40 undef = .slice (some ⟨g9, 0, none⟩) 1 1 := (hp.on_ 19 rfl rfl rfl).2
      exact ⟨(wanted_some rfl rfl rfl (hp.on_ 13 rfl rfl rfl).1 (hp.on_ 13 rfl rfl rfl).2), _, _, run_idx14 (k := 0) Tryd.underlying25 size_in4 rfl e0 rfl (by decide), rfl, Below.refl _ _⟩
    refine Steps.cons (step_value rfl fun xa W hp => ?_) ?_
    · have e0 : xa.tmps.getD 41 undef = .pointer (some ⟨g9, 0 + 0 * 4, none⟩) := (hp.on_ 20 rfl rfl rfl).2
      exact ⟨(wanted_some rfl rfl rfl (hp.on_ 13 rfl rfl rfl).1 (hp.on_ 13 rfl rfl rfl).2), _, _, run_ldmid14 rfl e0 (rangeAt_pg HRP.out hp.below HG9.out) rfl Tryd.underlying36 size_in4, rfl, Below.refl _ _⟩
    refine Steps.cons (step_value rfl fun xa W hp => ?_) ?_
    · have e0 : xa.tmps.getD 38 undef = .agg #[.int .i64 8, .int .i64 1, .int .i64 2, .int .i64 3] := (hp.on_ 17 rfl rfl rfl).2
      have e1 : xa.tmps.getD 42 undef = .agg #[.int .i64 8, .int .i64 1, .int .i64 2, .int .i64 3] := (hp.on_ 21 rfl rfl rfl).2
      refine ⟨(wanted_some rfl rfl rfl (hp.on_ 13 rfl rfl rfl).1 (hp.on_ 13 rfl rfl rfl).2), _, _, run_bin3 rfl (v := .bool true) ?_ ?_, rfl, Below.refl _ _⟩
      · show (eqGuard .eql _ _ _ (xa.tmps.getD 38 undef) (xa.tmps.getD 42 undef)).run _ W = _
        rw [e0, e1]; first | rfl | kernel_rfl | (simp [eqGuard]; done) | (unfold eqGuard; simp; done)
      · show (binOp .eql _ (xa.tmps.getD 38 undef) (xa.tmps.getD 42 undef)).run _ W = _
        rw [e0, e1]; first | rfl | (kernel_rfl)
    refine Steps.cons (step_value rfl fun xa W hp => ⟨(wanted_none rfl), _, _, run_pick rfl (hp.on_ 13 rfl rfl rfl).2, (hp.on_ 22 rfl rfl rfl).2, Below.refl _ _⟩) ?_
    refine Steps.cons (step_value rfl fun xa W hp => ⟨(wanted_none rfl), _, _, run_move (.inl rfl), (hp.on_ 23 rfl rfl rfl).2, Below.refl _ _⟩) ?_
    refine Steps.cons (step_value rfl fun xa W hp => ?_) ?_
    · have e0 : xa.tmps.getD 1 undef = .pointer (some ⟨B1, 0, none⟩) := hp.old 1 rfl
      exact ⟨(wanted_some rfl rfl rfl (hp.on_ 24 rfl rfl rfl).1 (hp.on_ 24 rfl rfl rfl).2), _, _, run_ldrow rfl e0 ((hp.below.block (B1) (Array.getElem?_eq_some_iff.1 HX1.out).1).trans HX1.out) Tryd.underlying27 rfl HSP.out, rfl, Below.refl _ _⟩
    refine Steps.cons (step_value rfl fun xa W hp => ?_) ?_
    · have e0 : xa.tmps.getD 2 undef = .pointer (some ⟨B2, 0, none⟩) := hp.old 2 rfl
      exact ⟨(wanted_some rfl rfl rfl (hp.on_ 24 rfl rfl rfl).1 (hp.on_ 24 rfl rfl rfl).2), _, _, run_ldrow rfl e0 ((hp.below.block (B2) (Array.getElem?_eq_some_iff.1 HX2.out).1).trans HX2.out) Tryd.underlying27 rfl HSP.out, rfl, Below.refl _ _⟩
    refine Steps.cons (step_enter rfl fun xa W hp => ?_) ?_
    · have e0 : xa.tmps.getD 46 undef = .agg #[.slice (some ⟨g6, 0, none⟩) 1 1, .slice none 0 0, .slice none 0 0, .slice none 0 0, .slice (some ⟨g7, 0, none⟩) 1 1, .slice (some ⟨g9, 0, none⟩) 1 1] := (hp.on_ 25 rfl rfl rfl).2
      have e1 : xa.tmps.getD 47 undef = .agg #[.slice x0 1 y0, .slice x1 0 y1, .slice x2 0 y2, .slice x3 0 y3, .slice x4 1 y4, .slice (some ⟨gq, oq, none⟩) 1 y5] := (hp.on_ 26 rfl rfl rfl).2
      refine ⟨(wanted_some rfl rfl rfl (hp.on_ 24 rfl rfl rfl).1 (hp.on_ 24 rfl rfl rfl).2), 13, _, run_enter2 rfl rfl Tryd.call13, ?_⟩
      show Calls _ _ #[xa.tmps.getD 46 undef, xa.tmps.getD 47 undef] W _
      rw [e0, e1]
      refine (HK.out.same pg0 pg0 _ _ _ _ _ _ 1 0 0 0 1 1 _ _ _ _ _ _ y0 y1 y2 y3 y4 y5 W (HK.out.keep _ _ HT9.out hp.below) pg0_ok pg0_ok (by rw [pg0_sum]; decide) (by rw [pg0_sum]; decide) (HP9.out.below hp.below) (HQ9.out.below hp.below)).mono ?_
      rw [decide_eq_true (rfl : enc pg0 = enc pg0)]
      rintro e W' ⟨he, hbe⟩
      exact ⟨_, he, rfl, hbe⟩
    refine Steps.cons (step_value rfl fun xa W hp => ⟨(wanted_none rfl), _, _, run_pick rfl (hp.on_ 24 rfl rfl rfl).2, (hp.on_ 27 rfl rfl rfl).2, Below.refl _ _⟩) ?_
    refine Steps.cons (step_value rfl fun xa W hp => ⟨(wanted_none rfl), _, _, run_move (.inl rfl), (hp.on_ 28 rfl rfl rfl).2, Below.refl _ _⟩) ?_
    refine Steps.cons (step_value rfl fun xa W hp => ⟨(wanted_some rfl rfl rfl (hp.on_ 29 rfl rfl rfl).1 (hp.on_ 29 rfl rfl rfl).2), _, _, run_move (.inl rfl), hp.old 5 rfl, Below.refl _ _⟩) ?_
    refine Steps.cons (step_value rfl fun xa W hp => ?_) ?_
    · have e0 : xa.tmps.getD 51 undef = .int .i64 3 := (hp.on_ 30 rfl rfl rfl).2
      refine ⟨(wanted_some rfl rfl rfl (hp.on_ 29 rfl rfl rfl).1 (hp.on_ 29 rfl rfl rfl).2), _, _, run_bin3 rfl (v := .bool true) ?_ ?_, rfl, Below.refl _ _⟩
      · show (eqGuard .eql _ _ _ (xa.tmps.getD 51 undef) (.int .i64 3)).run _ W = _
        rw [e0]; first | rfl | kernel_rfl | (simp [eqGuard]; done) | (unfold eqGuard; simp; done)
      · show (binOp .eql _ (xa.tmps.getD 51 undef) (.int .i64 3)).run _ W = _
        rw [e0]; first | rfl | (rfl)
    refine Steps.cons (step_value rfl fun xa W hp => ⟨(wanted_none rfl), _, _, run_pick rfl (hp.on_ 29 rfl rfl rfl).2, (hp.on_ 31 rfl rfl rfl).2, Below.refl _ _⟩) ?_
    refine Steps.cons (step_value rfl fun xa W hp => ⟨(wanted_none rfl), _, _, run_move (.inl rfl), (hp.on_ 32 rfl rfl rfl).2, Below.refl _ _⟩) ?_
    refine Steps.cons (step_enter rfl fun xa W hp => ?_) ?_
    · skip
      refine ⟨(wanted_some rfl rfl rfl (hp.on_ 33 rfl rfl rfl).1 (hp.on_ 33 rfl rfl rfl).2), 11, _, run_enter1 rfl rfl Tryd.call11, ?_⟩
      show Calls _ _ #[.int .i64 20] W _
      refine (HK.out.name 20 W (HK.out.keep _ _ HT9.out hp.below) ⟨by decide, by decide⟩).mono ?_
      rw [name_jump]
      rintro e W' ⟨he, hbe⟩
      exact ⟨_, he, rfl, hbe⟩
    refine Steps.cons (step_value rfl fun xa W hp => ?_) ?_
    · have e0 : xa.tmps.getD 55 undef = .string ⟨#[106, 117, 109, 112]⟩ := (hp.on_ 34 rfl rfl rfl).2
      refine ⟨(wanted_some rfl rfl rfl (hp.on_ 33 rfl rfl rfl).1 (hp.on_ 33 rfl rfl rfl).2), _, _, run_bin3 rfl (v := .bool true) ?_ ?_, rfl, Below.refl _ _⟩
      · show (eqGuard .eql _ _ _ (xa.tmps.getD 55 undef) (.string ⟨#[106, 117, 109, 112]⟩)).run _ W = _
        rw [e0]; first | rfl | kernel_rfl | (simp [eqGuard]; done) | (unfold eqGuard; simp; done)
      · show (binOp .eql _ (xa.tmps.getD 55 undef) (.string ⟨#[106, 117, 109, 112]⟩)).run _ W = _
        rw [e0]; first | rfl | ((rw [Go.binOp_string_eql]; simp [Lib.toList_data]))
    refine Steps.cons (step_value rfl fun xa W hp => ⟨(wanted_none rfl), _, _, run_pick rfl (hp.on_ 33 rfl rfl rfl).2, (hp.on_ 35 rfl rfl rfl).2, Below.refl _ _⟩) ?_
    refine Steps.cons (step_value rfl fun xa W hp => ⟨(wanted_none rfl), _, _, run_move (.inr rfl), (hp.on_ 36 rfl rfl rfl).2, Below.refl _ _⟩) ?_
    exact Steps.nil
  case rest2 =>
    intro act W hI
    have hbW := hI.below
    have h57 : act.tmps.getD 0 undef = .bool true := hI.new 37 _ 0 rfl rfl rfl
    obtain ⟨fo, hfo, hx⟩ := puts_of hI.tmps hI.defers hI.old [21, 22, 23, 24, 25, 26, 27, 28, 29, 30, 31, 32, 33, 34, 35, 36, 37, 38, 39, 40, 41, 42, 43, 44, 45, 46, 47, 48, 49, 50, 51, 52, 53, 54, 55, 56, 57, 0] rfl
    rw [hfo] at h57
    have HBW := Lib.hid (HB9.out.trans (hbW.mono HB9.out.size))
    clear hI hfo hbW
    subst hx
    simp only [Exit.inBlock, Exit.then, List.foldl, Act.put, List.setIfInBounds_toArray, List.set_cons_succ, List.set_cons_zero]
    rw [h57]
    clear h57
    go_wp2_with fail
    go_ret
    exact ⟨rfl, HBW.out⟩
end Go.Proofs.YtophockpjchilaaDoor
