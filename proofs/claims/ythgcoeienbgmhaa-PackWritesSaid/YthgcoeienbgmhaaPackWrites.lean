/-
  Proved: PackWrites of escapementlaw1 returns true for every input, and leaves what it was handed as it was. No conditions.
-/
import Derived.Test.YthgcoeienbgmhaaRows
import Derived.Test.YthgcoeienbgmhaaArg
import Derived.Test.YthgcoeienbgmhaaRef
import Derived.Test.YthgcoeienbgmhaaRefs
import Derived.Test.YthgcoeienbgmhaaOrd2
import Derived.WalkKit
import Derived.ProofKit
import Derived.OpenShut
import Derived.ShutString
import Derived.ChangeOld
import Derived.SizedLaws
namespace Go.Proofs.Ythgcoeienbgmhaa.packWrites
open Go.ChangeShapes Go.WideShapes Go.ChangeAt Go.RowKit
open Go.ChangeMaps (open_string shut_string)
set_option linter.unusedVariables false

theorem own : ownKnob Try.prog.godebug = none := by kernel_rfl
theorem laidOut : laidOutB Try.prog = true := by kernel_rfl

set_option maxHeartbeats 16000000 in
theorem walk (a_b : Option Addr) (c_b : Nat) (b : List UInt8) (u : Int) (v : Int) (s : ByteArray) (w : World) (l_b : b.length ≤ c_b) (m_b : c_b ≤ maxLen) (t_b : Txt w a_b b) (w_u : (Lit.int .u64 u).wf = true) (w_v : (Lit.int .i64 v).wf = true) (w_s : s.size ≤ 140737488351232) :
    Calls Try.prog 4 #[.slice a_b b.length c_b, .int .u64 u, .int .i64 v, .string s] w fun e w' => e = .returned (.bool true) ∧ Below w.heap.size w w' := by
  obtain ⟨u0, u1⟩ := u64_wf w_u
  obtain ⟨v0, v1⟩ := i64_wf w_v
  clear w_u w_v l_b m_b
  obtain ⟨U, rfl⟩ := Int.eq_ofNat_of_zero_le u0
  have hU : U < 18446744073709551616 := by omega
  clear u0 u1
  obtain ⟨i0, hi, hz0, hz1, hz2⟩ := info_parts info_byte
  obtain ⟨L1, hL1⟩ : ∃ L, L = b ++ Lib.uvarint U := ⟨_, rfl⟩
  obtain ⟨L2, hL2⟩ : ∃ L, L = b ++ Lib.uvarint (Lib.zigzag v) := ⟨_, rfl⟩
  obtain ⟨L3, hL3⟩ : ∃ L, L = b ++ Lib.uvarint s.size ++ s.data.toList := ⟨_, rfl⟩
  go_enter Try.func4, Try.ntmps4
  go_wp2_with fail
  refine (awake_any w).mono ?_
  rintro e w1 ⟨rfl, hb1⟩
  by_cases h1 : 200 < b.length
  · clear hL1 hL2 hL3
    go_wp2_with fail
    go_ret
    exact ⟨rfl, hb1⟩
  by_cases h2 : 300 < s.size
  · clear hL1 hL2 hL3
    go_wp2_with fail
    go_ret
    exact ⟨rfl, hb1⟩
  have cU : ∀ (W : World) (a : Option Addr) (c : Nat), Txt W a b → Calls Try.prog 17 #[.slice a b.length c, .int .u64 (U : Int)] W (Gives W L1) := fun W a c h => by rw [hL1]; exact U_gives a c U b W h hU (by omega)
  have cI : ∀ (W : World) (a : Option Addr) (c : Nat), Txt W a b → Calls Try.prog 19 #[.slice a b.length c, .int .i64 v] W (Gives W L2) := fun W a c h => by rw [hL2]; exact I_gives a c v b W h v0 v1 (by omega)
  have cS : ∀ (W : World) (a : Option Addr) (c : Nat), Txt W a b → Calls Try.prog 21 #[.slice a b.length c, .string s] W (Gives W L3) := fun W a c h => by rw [hL3]; exact S_gives a c s b W h (by omega)
  have pU : ∀ (W : World), Txt W a_b b → Calls Try.prog 18 #[.slice a_b b.length c_b, .int .u64 (U : Int)] W (Gives W L1) := fun W h => by rw [hL1]; exact PutU_gives a_b c_b U b W h hU (by omega)
  have pI : ∀ (W : World), Txt W a_b b → Calls Try.prog 20 #[.slice a_b b.length c_b, .int .i64 v] W (Gives W L2) := fun W h => by rw [hL2]; exact PutI_gives a_b c_b v b W h v0 v1 (by omega)
  have pS : ∀ (W : World), Txt W a_b b → Calls Try.prog 22 #[.slice a_b b.length c_b, .string s] W (Gives W L3) := fun W h => by rw [hL3]; exact PutS_gives a_b c_b s b W h (by omega)
  have HCU := Lib.hid cU
  have HCI := Lib.hid cI
  have HCS := Lib.hid cS
  have HPU := Lib.hid pU
  have HPI := Lib.hid pI
  have HPS := Lib.hid pS
  have HTB := Lib.hid t_b
  have hb1' := hb1
  clear cU cI cS pU pI pS hL1 hL2 hL3 t_b hb1
  go_wp2_with fail
  refine wp_region_steps (words [wEmp 5, wIs (.slice a_b b.length c_b), wTxt b, wIs (.int .u64 (U : Int)), wTxt L1, wIs (.string ⟨L1.toArray⟩), wIs (.slice a_b b.length c_b), wIs (.int .u64 (U : Int)), wTxt L1, wIs (.string ⟨L1.toArray⟩), wIs (.bool true), wIs (.bool true), wEmp 5, wIs (.slice a_b b.length c_b), wTxt b, wIs (.int .i64 v), wTxt L2, wIs (.string ⟨L2.toArray⟩), wIs (.slice a_b b.length c_b), wIs (.int .i64 v), wTxt L2, wIs (.string ⟨L2.toArray⟩), wIs (.bool true), wIs (.bool true), wIs (.bool true), wEmp 5, wIs (.slice a_b b.length c_b), wTxt b, wIs (.string s), wTxt L3, wIs (.string ⟨L3.toArray⟩), wIs (.slice a_b b.length c_b), wIs (.string s), wTxt L3, wIs (.string ⟨L3.toArray⟩), wIs (.bool true), wIs (.bool true), wIs (.bool true)]) w.heap.size w (by kernel_rfl) hb1' hb1'.size (words_stable ?stab) rfl rfl rfl ?steps ?done
  case stab =>
    intro f hf
    simp only [List.mem_cons, List.not_mem_nil, or_false] at hf
    rcases hf with rfl | rfl | rfl | rfl | rfl | rfl | rfl | rfl | rfl | rfl | rfl | rfl | rfl | rfl | rfl | rfl | rfl | rfl | rfl | rfl | rfl | rfl | rfl | rfl | rfl | rfl | rfl | rfl | rfl | rfl | rfl | rfl | rfl | rfl | rfl | rfl | rfl | rfl <;> first | exact stable_is _ | exact stable_txt _ | exact stable_emp _
  case done =>
    intro a W hI
    have h8 : a.tmps.getD 8 undef = .bool true := hI.new 37 _ 8 rfl rfl rfl
    have hd : a.defers = [] := hI.defers
    have hB := hI.below
    clear hI
    simp only [Exit.then]
    go_wp2_with fail
    refine bodyPost_ret (results_tmp rfl _ _ _) hd ?_
    exact ⟨by rw [h8], hB⟩
  case steps =>
    refine Steps.cons (step_value rfl fun a W hp => ⟨wanted_none rfl, _, _, run_build0 rfl Try.underlying25 hi, ⟨W.heap.size, rfl, heap_alloc_new W _⟩, (Below.refl _ _).alloc (Nat.le_refl _) _⟩) ?_
    refine Steps.cons (step_value rfl fun a W hp => ⟨wanted_none rfl, _, _, run_move (.inl rfl), (hp.old 0 rfl), Below.refl _ _⟩) ?_
    refine Steps.cons (step_value rfl fun a W hp => ?_) ?_
    · have f1 : wEmp 5 (a.tmps.getD 19 undef) W := (hp.on_ 0 rfl rfl rfl).2
      have f2 : wIs (.slice a_b b.length c_b) (a.tmps.getD 20 undef) W := (hp.on_ 1 rfl rfl rfl).2
      obtain ⟨v', W', hr, h2, h3⟩ := run_append_empty (P := Try.prog) W 25 25 5 i0 Try.underlying25 hi hz0 hz1 hz2 _ f1 a_b c_b b (HTB.out.below hp.below) (by omega)
      rw [← show a.tmps.getD 20 undef = _ from f2] at hr
      exact ⟨wanted_none rfl, v', W', run_app rfl hr, h2, h3⟩
    refine Steps.cons (step_value rfl fun a W hp => ⟨wanted_none rfl, _, _, run_move (.inl rfl), (hp.old 1 rfl), Below.refl _ _⟩) ?_
    refine Steps.cons (step_enter rfl fun a W hp => ?_) ?_
    · have f1 : wTxt b (a.tmps.getD 21 undef) W := (hp.on_ 2 rfl rfl rfl).2
      have f2 : wIs (.int .u64 (U : Int)) (a.tmps.getD 22 undef) W := (hp.on_ 3 rfl rfl rfl).2
      obtain ⟨aA, cA, e1, tA⟩ := f1
      refine ⟨wanted_none rfl, 17, _, run_enter2 rfl rfl Try.call17, ?_⟩
      show Calls _ _ #[a.tmps.getD 21 undef, a.tmps.getD 22 undef] W _
      rw [e1, show a.tmps.getD 22 undef = _ from f2]
      exact (HCU.out W aA cA tA).mono (fun e W' ⟨a', c', he, ht, _, _, hb⟩ => ⟨_, he, ⟨a', c', rfl, ht⟩, hb⟩)
    refine Steps.cons (step_value rfl fun a W hp => ?_) ?_
    · have f1 : wTxt L1 (a.tmps.getD 23 undef) W := (hp.on_ 4 rfl rfl rfl).2
      obtain ⟨aA, cA, e1, tA⟩ := f1
      refine ⟨wanted_none rfl, .string ⟨L1.toArray⟩, W, run_conv rfl ?_, rfl, Below.refl _ _⟩
      show (convert _ _ (a.tmps.getD 23 undef)).run _ W = _
      rw [e1]
      exact run_string W 25 5 9 Try.underlying25 Try.underlying5 Try.underlying9 aA L1 cA tA
    refine Steps.cons (step_value rfl fun a W hp => ⟨wanted_none rfl, _, _, run_move (.inl rfl), (hp.old 0 rfl), Below.refl _ _⟩) ?_
    refine Steps.cons (step_value rfl fun a W hp => ⟨wanted_none rfl, _, _, run_move (.inl rfl), (hp.old 1 rfl), Below.refl _ _⟩) ?_
    refine Steps.cons (step_enter rfl fun a W hp => ?_) ?_
    · have f1 : wIs (.slice a_b b.length c_b) (a.tmps.getD 25 undef) W := (hp.on_ 6 rfl rfl rfl).2
      have f2 : wIs (.int .u64 (U : Int)) (a.tmps.getD 26 undef) W := (hp.on_ 7 rfl rfl rfl).2
      refine ⟨wanted_none rfl, 18, _, run_enter2 rfl rfl Try.call18, ?_⟩
      show Calls _ _ #[a.tmps.getD 25 undef, a.tmps.getD 26 undef] W _
      rw [show a.tmps.getD 25 undef = _ from f1, show a.tmps.getD 26 undef = _ from f2]
      exact (HPU.out W (HTB.out.below hp.below)).mono (fun e W' ⟨a', c', he, ht, _, _, hb⟩ => ⟨_, he, ⟨a', c', rfl, ht⟩, hb⟩)
    refine Steps.cons (step_value rfl fun a W hp => ?_) ?_
    · have f1 : wTxt L1 (a.tmps.getD 27 undef) W := (hp.on_ 8 rfl rfl rfl).2
      obtain ⟨aA, cA, e1, tA⟩ := f1
      refine ⟨wanted_none rfl, .string ⟨L1.toArray⟩, W, run_conv rfl ?_, rfl, Below.refl _ _⟩
      show (convert _ _ (a.tmps.getD 27 undef)).run _ W = _
      rw [e1]
      exact run_string W 25 5 9 Try.underlying25 Try.underlying5 Try.underlying9 aA L1 cA tA
    refine Steps.cons (step_value rfl fun a W hp => ⟨wanted_none rfl, _, _, run_eqstr rfl (hp.on_ 5 rfl rfl rfl).2 (hp.on_ 9 rfl rfl rfl).2, rfl, Below.refl _ _⟩) ?_
    refine Steps.cons (step_value rfl fun a W hp => ⟨wanted_none rfl, _, _, run_move (.inl rfl), (hp.on_ 10 rfl rfl rfl).2, Below.refl _ _⟩) ?_
    refine Steps.cons (step_value rfl fun a W hp => ⟨wanted_some rfl rfl rfl (hp.on_ 11 rfl rfl rfl).1 (hp.on_ 11 rfl rfl rfl).2, _, _, run_build0 rfl Try.underlying25 hi, ⟨W.heap.size, rfl, heap_alloc_new W _⟩, (Below.refl _ _).alloc (Nat.le_refl _) _⟩) ?_
    refine Steps.cons (step_value rfl fun a W hp => ⟨wanted_some rfl rfl rfl (hp.on_ 11 rfl rfl rfl).1 (hp.on_ 11 rfl rfl rfl).2, _, _, run_move (.inl rfl), (hp.old 0 rfl), Below.refl _ _⟩) ?_
    refine Steps.cons (step_value rfl fun a W hp => ?_) ?_
    · have f1 : wEmp 5 (a.tmps.getD 31 undef) W := (hp.on_ 12 rfl rfl rfl).2
      have f2 : wIs (.slice a_b b.length c_b) (a.tmps.getD 32 undef) W := (hp.on_ 13 rfl rfl rfl).2
      obtain ⟨v', W', hr, h2, h3⟩ := run_append_empty (P := Try.prog) W 25 25 5 i0 Try.underlying25 hi hz0 hz1 hz2 _ f1 a_b c_b b (HTB.out.below hp.below) (by omega)
      rw [← show a.tmps.getD 32 undef = _ from f2] at hr
      exact ⟨wanted_some rfl rfl rfl (hp.on_ 11 rfl rfl rfl).1 (hp.on_ 11 rfl rfl rfl).2, v', W', run_app rfl hr, h2, h3⟩
    refine Steps.cons (step_value rfl fun a W hp => ⟨wanted_some rfl rfl rfl (hp.on_ 11 rfl rfl rfl).1 (hp.on_ 11 rfl rfl rfl).2, _, _, run_move (.inl rfl), (hp.old 2 rfl), Below.refl _ _⟩) ?_
    refine Steps.cons (step_enter rfl fun a W hp => ?_) ?_
    · have f1 : wTxt b (a.tmps.getD 33 undef) W := (hp.on_ 14 rfl rfl rfl).2
      have f2 : wIs (.int .i64 v) (a.tmps.getD 34 undef) W := (hp.on_ 15 rfl rfl rfl).2
      obtain ⟨aA, cA, e1, tA⟩ := f1
      refine ⟨wanted_some rfl rfl rfl (hp.on_ 11 rfl rfl rfl).1 (hp.on_ 11 rfl rfl rfl).2, 19, _, run_enter2 rfl rfl Try.call19, ?_⟩
      show Calls _ _ #[a.tmps.getD 33 undef, a.tmps.getD 34 undef] W _
      rw [e1, show a.tmps.getD 34 undef = _ from f2]
      exact (HCI.out W aA cA tA).mono (fun e W' ⟨a', c', he, ht, _, _, hb⟩ => ⟨_, he, ⟨a', c', rfl, ht⟩, hb⟩)
    refine Steps.cons (step_value rfl fun a W hp => ?_) ?_
    · have f1 : wTxt L2 (a.tmps.getD 35 undef) W := (hp.on_ 16 rfl rfl rfl).2
      obtain ⟨aA, cA, e1, tA⟩ := f1
      refine ⟨wanted_some rfl rfl rfl (hp.on_ 11 rfl rfl rfl).1 (hp.on_ 11 rfl rfl rfl).2, .string ⟨L2.toArray⟩, W, run_conv rfl ?_, rfl, Below.refl _ _⟩
      show (convert _ _ (a.tmps.getD 35 undef)).run _ W = _
      rw [e1]
      exact run_string W 25 5 9 Try.underlying25 Try.underlying5 Try.underlying9 aA L2 cA tA
    refine Steps.cons (step_value rfl fun a W hp => ⟨wanted_some rfl rfl rfl (hp.on_ 11 rfl rfl rfl).1 (hp.on_ 11 rfl rfl rfl).2, _, _, run_move (.inl rfl), (hp.old 0 rfl), Below.refl _ _⟩) ?_
    refine Steps.cons (step_value rfl fun a W hp => ⟨wanted_some rfl rfl rfl (hp.on_ 11 rfl rfl rfl).1 (hp.on_ 11 rfl rfl rfl).2, _, _, run_move (.inl rfl), (hp.old 2 rfl), Below.refl _ _⟩) ?_
    refine Steps.cons (step_enter rfl fun a W hp => ?_) ?_
    · have f1 : wIs (.slice a_b b.length c_b) (a.tmps.getD 37 undef) W := (hp.on_ 18 rfl rfl rfl).2
      have f2 : wIs (.int .i64 v) (a.tmps.getD 38 undef) W := (hp.on_ 19 rfl rfl rfl).2
      refine ⟨wanted_some rfl rfl rfl (hp.on_ 11 rfl rfl rfl).1 (hp.on_ 11 rfl rfl rfl).2, 20, _, run_enter2 rfl rfl Try.call20, ?_⟩
      show Calls _ _ #[a.tmps.getD 37 undef, a.tmps.getD 38 undef] W _
      rw [show a.tmps.getD 37 undef = _ from f1, show a.tmps.getD 38 undef = _ from f2]
      exact (HPI.out W (HTB.out.below hp.below)).mono (fun e W' ⟨a', c', he, ht, _, _, hb⟩ => ⟨_, he, ⟨a', c', rfl, ht⟩, hb⟩)
    refine Steps.cons (step_value rfl fun a W hp => ?_) ?_
    · have f1 : wTxt L2 (a.tmps.getD 39 undef) W := (hp.on_ 20 rfl rfl rfl).2
      obtain ⟨aA, cA, e1, tA⟩ := f1
      refine ⟨wanted_some rfl rfl rfl (hp.on_ 11 rfl rfl rfl).1 (hp.on_ 11 rfl rfl rfl).2, .string ⟨L2.toArray⟩, W, run_conv rfl ?_, rfl, Below.refl _ _⟩
      show (convert _ _ (a.tmps.getD 39 undef)).run _ W = _
      rw [e1]
      exact run_string W 25 5 9 Try.underlying25 Try.underlying5 Try.underlying9 aA L2 cA tA
    refine Steps.cons (step_value rfl fun a W hp => ⟨wanted_some rfl rfl rfl (hp.on_ 11 rfl rfl rfl).1 (hp.on_ 11 rfl rfl rfl).2, _, _, run_eqstr rfl (hp.on_ 17 rfl rfl rfl).2 (hp.on_ 21 rfl rfl rfl).2, rfl, Below.refl _ _⟩) ?_
    refine Steps.cons (step_value rfl fun a W hp => ⟨wanted_none rfl, _, _, run_pick rfl (hp.on_ 11 rfl rfl rfl).2, (hp.on_ 22 rfl rfl rfl).2, Below.refl _ _⟩) ?_
    refine Steps.cons (step_value rfl fun a W hp => ⟨wanted_none rfl, _, _, run_move (.inl rfl), (hp.on_ 23 rfl rfl rfl).2, Below.refl _ _⟩) ?_
    refine Steps.cons (step_value rfl fun a W hp => ⟨wanted_some rfl rfl rfl (hp.on_ 24 rfl rfl rfl).1 (hp.on_ 24 rfl rfl rfl).2, _, _, run_build0 rfl Try.underlying25 hi, ⟨W.heap.size, rfl, heap_alloc_new W _⟩, (Below.refl _ _).alloc (Nat.le_refl _) _⟩) ?_
    refine Steps.cons (step_value rfl fun a W hp => ⟨wanted_some rfl rfl rfl (hp.on_ 24 rfl rfl rfl).1 (hp.on_ 24 rfl rfl rfl).2, _, _, run_move (.inl rfl), (hp.old 0 rfl), Below.refl _ _⟩) ?_
    refine Steps.cons (step_value rfl fun a W hp => ?_) ?_
    · have f1 : wEmp 5 (a.tmps.getD 44 undef) W := (hp.on_ 25 rfl rfl rfl).2
      have f2 : wIs (.slice a_b b.length c_b) (a.tmps.getD 45 undef) W := (hp.on_ 26 rfl rfl rfl).2
      obtain ⟨v', W', hr, h2, h3⟩ := run_append_empty (P := Try.prog) W 25 25 5 i0 Try.underlying25 hi hz0 hz1 hz2 _ f1 a_b c_b b (HTB.out.below hp.below) (by omega)
      rw [← show a.tmps.getD 45 undef = _ from f2] at hr
      exact ⟨wanted_some rfl rfl rfl (hp.on_ 24 rfl rfl rfl).1 (hp.on_ 24 rfl rfl rfl).2, v', W', run_app rfl hr, h2, h3⟩
    refine Steps.cons (step_value rfl fun a W hp => ⟨wanted_some rfl rfl rfl (hp.on_ 24 rfl rfl rfl).1 (hp.on_ 24 rfl rfl rfl).2, _, _, run_move (.inl rfl), (hp.old 3 rfl), Below.refl _ _⟩) ?_
    refine Steps.cons (step_enter rfl fun a W hp => ?_) ?_
    · have f1 : wTxt b (a.tmps.getD 46 undef) W := (hp.on_ 27 rfl rfl rfl).2
      have f2 : wIs (.string s) (a.tmps.getD 47 undef) W := (hp.on_ 28 rfl rfl rfl).2
      obtain ⟨aA, cA, e1, tA⟩ := f1
      refine ⟨wanted_some rfl rfl rfl (hp.on_ 24 rfl rfl rfl).1 (hp.on_ 24 rfl rfl rfl).2, 21, _, run_enter2 rfl rfl Try.call21, ?_⟩
      show Calls _ _ #[a.tmps.getD 46 undef, a.tmps.getD 47 undef] W _
      rw [e1, show a.tmps.getD 47 undef = _ from f2]
      exact (HCS.out W aA cA tA).mono (fun e W' ⟨a', c', he, ht, _, _, hb⟩ => ⟨_, he, ⟨a', c', rfl, ht⟩, hb⟩)
    refine Steps.cons (step_value rfl fun a W hp => ?_) ?_
    · have f1 : wTxt L3 (a.tmps.getD 48 undef) W := (hp.on_ 29 rfl rfl rfl).2
      obtain ⟨aA, cA, e1, tA⟩ := f1
      refine ⟨wanted_some rfl rfl rfl (hp.on_ 24 rfl rfl rfl).1 (hp.on_ 24 rfl rfl rfl).2, .string ⟨L3.toArray⟩, W, run_conv rfl ?_, rfl, Below.refl _ _⟩
      show (convert _ _ (a.tmps.getD 48 undef)).run _ W = _
      rw [e1]
      exact run_string W 25 5 9 Try.underlying25 Try.underlying5 Try.underlying9 aA L3 cA tA
    refine Steps.cons (step_value rfl fun a W hp => ⟨wanted_some rfl rfl rfl (hp.on_ 24 rfl rfl rfl).1 (hp.on_ 24 rfl rfl rfl).2, _, _, run_move (.inl rfl), (hp.old 0 rfl), Below.refl _ _⟩) ?_
    refine Steps.cons (step_value rfl fun a W hp => ⟨wanted_some rfl rfl rfl (hp.on_ 24 rfl rfl rfl).1 (hp.on_ 24 rfl rfl rfl).2, _, _, run_move (.inl rfl), (hp.old 3 rfl), Below.refl _ _⟩) ?_
    refine Steps.cons (step_enter rfl fun a W hp => ?_) ?_
    · have f1 : wIs (.slice a_b b.length c_b) (a.tmps.getD 50 undef) W := (hp.on_ 31 rfl rfl rfl).2
      have f2 : wIs (.string s) (a.tmps.getD 51 undef) W := (hp.on_ 32 rfl rfl rfl).2
      refine ⟨wanted_some rfl rfl rfl (hp.on_ 24 rfl rfl rfl).1 (hp.on_ 24 rfl rfl rfl).2, 22, _, run_enter2 rfl rfl Try.call22, ?_⟩
      show Calls _ _ #[a.tmps.getD 50 undef, a.tmps.getD 51 undef] W _
      rw [show a.tmps.getD 50 undef = _ from f1, show a.tmps.getD 51 undef = _ from f2]
      exact (HPS.out W (HTB.out.below hp.below)).mono (fun e W' ⟨a', c', he, ht, _, _, hb⟩ => ⟨_, he, ⟨a', c', rfl, ht⟩, hb⟩)
    refine Steps.cons (step_value rfl fun a W hp => ?_) ?_
    · have f1 : wTxt L3 (a.tmps.getD 52 undef) W := (hp.on_ 33 rfl rfl rfl).2
      obtain ⟨aA, cA, e1, tA⟩ := f1
      refine ⟨wanted_some rfl rfl rfl (hp.on_ 24 rfl rfl rfl).1 (hp.on_ 24 rfl rfl rfl).2, .string ⟨L3.toArray⟩, W, run_conv rfl ?_, rfl, Below.refl _ _⟩
      show (convert _ _ (a.tmps.getD 52 undef)).run _ W = _
      rw [e1]
      exact run_string W 25 5 9 Try.underlying25 Try.underlying5 Try.underlying9 aA L3 cA tA
    refine Steps.cons (step_value rfl fun a W hp => ⟨wanted_some rfl rfl rfl (hp.on_ 24 rfl rfl rfl).1 (hp.on_ 24 rfl rfl rfl).2, _, _, run_eqstr rfl (hp.on_ 30 rfl rfl rfl).2 (hp.on_ 34 rfl rfl rfl).2, rfl, Below.refl _ _⟩) ?_
    refine Steps.cons (step_value rfl fun a W hp => ⟨wanted_none rfl, _, _, run_pick rfl (hp.on_ 24 rfl rfl rfl).2, (hp.on_ 35 rfl rfl rfl).2, Below.refl _ _⟩) ?_
    refine Steps.cons (step_value rfl fun a W hp => ⟨wanted_none rfl, _, _, run_move (.inr rfl), (hp.on_ 36 rfl rfl rfl).2, Below.refl _ _⟩) ?_
    exact Steps.nil
  

set_option maxRecDepth 100000 in
theorem lifted (os : Os) (started : os.Started) (H : Type) (enc : TypeId × Value → H) :
    ReturnsInHanded {} Try.checked os 4 .any (Rows.packWritesSpec.pre6 enc Try.prog Try.f4 Rows.packWritesRow.domain false) (Rows.packWritesSpec.post enc Try.prog Try.f4 false true false false) := by
  refine returnsInHanded_of_change_sized (C := Try.checked) own started (by kernel_rfl) Try.func4
    (ChangeSpec.witness6 (enc := enc) (C := Try.checked) false ⟨#[], #[.slice none 0 0, .int .u64 0, .int .i64 0, .string ByteArray.empty], []⟩ 8 (by kernel_rfl) (by kernel_rfl) (by kernel_rfl) (by kernel_rfl)) ?_
  intro W base args ds gs before hval0 hW hcnd hsz0 _
  have hsz : (DataW.weightsEach Try.prog (Try.f4.params.toList ++ Rows.packWritesSpec.plain.varTypes Try.prog) (ds ++ gs)).all (· ≤ reachBytes) = true := hsz0
  clear hsz0
  have hval : ∀ (j : Nat) t v, Try.f4.params[j]? = some t → args[j]? = some v → Value.okWide Try.prog W .any base t v := hval0
  have hW' := hW
  obtain ⟨p, q, hA0, hV, rfl, hfz, hnd⟩ := hW
  have hA : DataW.TrodAll enc Try.prog W 0 (fun _ => true) true Try.f4.params.toList args.toList ds p := hA0
  rw [Try.params4] at hA hval hsz
  obtain ⟨v0, vs0, d0, ds0, p0, q0, hargs, rfl, rfl, h0, r0⟩ := trodAll_cons hA
  obtain ⟨v1, vs1, d1, ds1, p1, q1, rfl, rfl, rfl, h1, r1⟩ := trodAll_cons r0
  obtain ⟨v2, vs2, d2, ds2, p2, q2, rfl, rfl, rfl, h2, r2⟩ := trodAll_cons r1
  obtain ⟨v3, vs3, d3, ds3, p3, q3, rfl, rfl, rfl, h3, r3⟩ := trodAll_cons r2
  obtain ⟨rfl, rfl, rfl⟩ := trodAll_nil r3
  obtain rfl : args = #[v0, v1, v2, v3] := by cases args; simp_all
  obtain ⟨rfl, rfl⟩ := trodVars_none hV
  obtain ⟨a_b, len_b, c_b, rfl⟩ := okWide_slice Try.underlying25 (hval 0 25 v0 rfl rfl)
  have k0 := h0
  have lt0 : ∀ x ∈ p0, x.block < W.heap.size := by obtain ⟨m, hm⟩ := k0; exact DataW.trod_lt m _ _ _ hm
  obtain ⟨b, n_b, l_b, m_b, t_b⟩ : ∃ b : List UInt8, b.length = len_b ∧ b.length ≤ c_b ∧ c_b ≤ maxLen ∧ Txt W a_b b := by
    obtain ⟨fuel, hf⟩ := h0
    rcases open_ints Try.underlying25 Try.underlying5 (by kernel_rfl) hf with ⟨hcs, _⟩ | ⟨x, l, c, zs, hcs, _, hl, hm, hz, _, hcell, hwz⟩
    · simp [Value.cells] at hcs
      obtain ⟨rfl, rfl, rfl⟩ := hcs
      exact ⟨[], rfl, Nat.zero_le _, Nat.zero_le _, Txt.nil _ _⟩
    · simp [Value.cells] at hcs
      obtain ⟨rfl, rfl, rfl⟩ := hcs
      have hr := row_some (f := Value.int .u8) hl (by simpa using hz) hcell
      obtain ⟨r, hrl, hrt⟩ := txt_of_row hr.2 (fun n hn => hwz n (List.mem_of_mem_take hn))
      exact ⟨r, hrl.trans hr.1, by rw [hrl, hr.1]; exact hl, hm, hrt⟩
  subst n_b
  obtain ⟨u, rfl, rfl, rfl, w_u⟩ := open_int Try.underlying26 (hval 1 26 v1 rfl rfl) h1
  obtain ⟨v, rfl, rfl, rfl, w_v⟩ := open_int Try.underlying2 (hval 2 2 v2 rfl rfl) h2
  obtain ⟨s, rfl, rfl, rfl, m_s⟩ := open_string Try.underlying9 (hval 3 9 v3 rfl rfl) h3
  have w_s : s.size ≤ 140737488351232 := by have h := sized_string hsz (j := 3) rfl rfl; simpa [reachBytes] using h
  clear hA0 hval0
  refine (walk a_b c_b b u v s W l_b m_b t_b w_u w_v w_s).mono fun e W' ⟨he, bel⟩ => ?_
  subst he
  exact ⟨_, rfl, _, _, _, [], _, [], hW', trodAll_mk1 (shut_bool Try.underlying4 _), (trodAll_cons_mk (Below.trod laidOut (by kernel_rfl) (of_decide_eq_true (by kernel_rfl)) k0 bel lt0) (trodAll_cons_mk (shut_int Try.underlying26 w_u) (trodAll_cons_mk (shut_int Try.underlying2 w_v) (trodAll_cons_mk (shut_string Try.underlying9 m_s) trodAll_mk0)))), rfl, bel.frame _, fun h => by cases h⟩

theorem over : Rows.packWritesRow.holds Try.pinned (OpenSpec.ofChange Rows.packWritesSpec) :=
  OpenClaim.holds_of_wide 4 Try.f4 rfl rfl rfl rfl rfl rfl rfl ⟨rfl, rfl, rfl, rfl, rfl⟩ rfl rfl rfl rfl rfl (by kernel_rfl) Try.func4 (by kernel_rfl)
    (of_decide_eq_true (by kernel_rfl)) (by unfold Func.isWrapper; first | (rw [if_pos (by decide +kernel)]; kernel_rfl) | (rw [if_neg (by decide +kernel)]; exact ⟨rfl, rfl⟩))
    (fun os started H enc _ => lifted os started H enc)

theorem proved : Rows.PackWritesSaid := over
#print axioms proved
end Go.Proofs.Ythgcoeienbgmhaa.packWrites
