/-
  Proved: SumFrames of escapementlaw2 returns true for every input, and leaves what it was handed as it was. No conditions.
-/
import Derived.Test.YtdacgdaglbjjeaaDoorRows
import Derived.Test.YtdacgdaglbjjeaaDoorArg
import Derived.Test.YtdacgdaglbjjeaaDoorSawk
import Derived.Test.YtdacgdaglbjjeaaDoorRall
import Derived.WalkKit
import Derived.ProofKit
import Derived.OpenShut
import Derived.ShutString
import Derived.ChangeOld
import Derived.SizedLaws
import Derived.Test.YtdacgdaglbjjeaaDoorStab
import Derived.Test.YtdacgdaglbjjeaaDoorTie
import Derived.Test.YtdacgdaglbjjeaaDoorCards
import Derived.LaidMore
import Derived.Lay
import Derived.SevenTiedAt
import Derived.Stop.Joined
namespace Go.Proofs.YtdacgdaglbjjeaaDoor.sumFrames
open Go.ChangeShapes Go.WideShapes Go.ChangeAt Go.RowKit
open Go.ChangeMaps (open_string shut_string)
set_option linter.unusedVariables false

theorem own : ownKnob Tryd.prog.godebug = none := by kernel_rfl
theorem laidOut : laidOutB Tryd.prog = true := by kernel_rfl

theorem wanted_somef {l : List Oper} {o : Oper} {a : Act} {j : Nat} {x : Oper} {d : Tmp} (h : o.guard = some (j, false)) (hx : l[j]? = some x) (hd : x.dst = some d) (hlt : d < a.tmps.size) (hv : a.tmps.getD d undef = .bool false) : Region.wanted o (yielded l.toArray a.tmps) = true := by
  have hx' : l.toArray[j]? = some x := by simpa using hx
  have hv' : a.tmps[d]? = some (.bool false) := by
    rw [Array.getElem?_eq_getElem hlt]
    simpa [Array.getD, hlt] using hv
  simp [Region.wanted, h, yielded, hx', hd, hv']

theorem run_pickf {P : Program} {W : World} {o : Oper} {ρ : Operand → Value} {c x y : Operand} (ho : o.op = .pick c x y) (hc : ρ c = .bool false) : (execOp ρ o).run P W = .ok (.value (ρ y)) W := by
  simp [execOp, ho, hc, go_sem]

theorem run_nestr {P : Program} {W : World} {o : Oper} {ρ : Operand → Value} {t t2 : TypeId} {x y : Operand} {s : ByteArray} (ho : o.op = .binOp .neq t x y t2) (hx : ρ x = .string s) (hy : ρ y = .string s) : (execOp ρ o).run P W = .ok (.value (.bool false)) W := by
  simp [execOp, ho, hx, hy, eqGuard, binOp, Op.stringOp]

set_option maxHeartbeats 8000000 in
set_option maxRecDepth 100000 in
theorem walk (n : Int) (a_b : Option Addr) (c_b : Nat) (b : List UInt8) (a_more : Option Addr) (c_more : Nat) (more : List UInt8) (w : World) (hT : Tab w) (w_n : (Lit.int .u64 n).wf = true) (l_b : b.length ≤ c_b) (m_b : c_b ≤ maxLen) (t_b : Txt w a_b b) (l_more : more.length ≤ c_more) (m_more : c_more ≤ maxLen) (t_more : Txt w a_more more) :
    Calls Tryd.prog 4 #[.int .u64 n, .slice a_b b.length c_b, .slice a_more more.length c_more] w fun e w' => e = .returned (.bool true) ∧ Below w.heap.size w w' := by
  obtain ⟨i0, hi0, hz0, hz1, hz2⟩ := info_parts info_byte
  obtain ⟨n0, n1⟩ := u64_wf w_n
  obtain ⟨n, rfl⟩ := Int.eq_ofNat_of_zero_le n0
  have hn : n < 18446744073709551616 := by omega
  clear n0 n1 w_n
  have HT := Lib.hid hT
  have HB := Lib.hid t_b
  have HM := Lib.hid t_more
  clear hT t_b t_more
  go_enter Tryd.func4, Tryd.ntmps4
  go_wp2_with fail
  refine (awake_any w HT.out).mono ?_
  rintro e w1 ⟨rfl, hb1⟩
  by_cases c1 : 2000 < b.length
  · go_wp2_with fail
    go_ret
    exact ⟨rfl, hb1⟩
  by_cases c2 : 200 < more.length
  · go_wp2_with fail
    go_ret
    exact ⟨rfl, hb1⟩
  have hfr := Frame_any n a_b c_b b w1 (HT.out.below hb1 (Nat.le_refl _)) hn (HB.out.below hb1) (by omega)
  go_wp2_with fail
  refine hfr.mono ?_
  rintro e w2 ⟨rfl, hB2, hb2⟩
  have hbel2 := hb1.trans (hb2.mono hb1.size)
  obtain ⟨g, hg⟩ : ∃ g, g = w1.heap.size := ⟨_, rfl⟩
  rw [← hg] at hB2 ⊢
  have hFl := frame_length n b
  have tF2 := hB2.txt
  have kc : ∀ W, Below w2.heap.size w2 W → Calls Tryd.prog 14 #[.slice a_b b.length c_b] W fun e w' => e = .returned (.int .u32 (crc b : Int)) ∧ W = w' := fun W hW =>
    have h := hbel2.trans (hW.mono hbel2.size)
    Crc_any a_b c_b b W (HT.out.below h (Nat.le_refl _)) (HB.out.below h) (by omega)
  have kr : ∀ W, Below w2.heap.size w2 W → Calls Tryd.prog 15 #[.slice a_b b.length c_b] W fun e w' => e = .returned (.int .u32 (crc b : Int)) ∧ W = w' := fun W hW =>
    have h := hbel2.trans (hW.mono hbel2.size)
    rCrc_any a_b b.length c_b b W rfl (HB.out.below h) (by omega)
  have kf : ∀ W, Below w2.heap.size w2 W → Calls Tryd.prog 16 #[.int .u64 n, .slice a_b b.length c_b] W (Gives W (frameOf n b)) := fun W hW =>
    have h := hbel2.trans (hW.mono hbel2.size)
    rFrame_any n a_b c_b b W hn (HB.out.below h) (by omega)
  have e1 := take1_frame hn (by omega : b.length ≤ 60000) more
  obtain ⟨F, hF⟩ : ∃ F, F = frameOf n b := ⟨_, rfl⟩
  rw [← hF] at tF2 hFl kf e1
  clear hfr hB2 hb2 hg hF
  go_wp2_with fail
  refine wp_region_steps (words [wIs (.slice a_b b.length c_b), wIs (.int .u32 (crc b : Int)), wIs (.slice a_b b.length c_b), wIs (.int .u32 (crc b : Int)), wIs (.bool false), wIs (.bool false), wIs (.slice (some ⟨g, 0, none⟩) (17 + b.length) (17 + b.length)), wIs (.string ⟨F.toArray⟩), wIs (.int .u64 (n : Int)), wIs (.slice a_b b.length c_b), wTxt F, wIs (.string ⟨F.toArray⟩), wIs (.bool false), wIs (.bool false)]) w2.heap.size w2 (by kernel_rfl) (Below.refl _ _) (Nat.le_refl _) (words_stable ?stab) rfl rfl (by kernel_rfl) ?steps ?done
  case stab =>
    intro f hf
    simp only [List.mem_cons, List.not_mem_nil, or_false] at hf
    rcases hf with rfl | rfl | rfl | rfl | rfl | rfl | rfl | rfl | rfl | rfl | rfl | rfl | rfl | rfl <;> first | exact stable_is _ | exact stable_txt _
  case steps =>
    refine Steps.cons (step_value rfl fun x W hp => ⟨wanted_none rfl, _, _, run_move (.inl rfl), (hp.old 1 rfl), Below.refl _ _⟩) ?_
    refine Steps.cons (step_enter rfl fun x W hp => ?_) ?_
    · have f1 : wIs (.slice a_b b.length c_b) (x.tmps.getD 30 undef) W := (hp.on_ 0 rfl rfl rfl).2
      refine ⟨wanted_none rfl, 14, _, run_enter1 rfl rfl Tryd.call14, ?_⟩
      show Calls _ _ #[x.tmps.getD 30 undef] W _
      rw [show x.tmps.getD 30 undef = _ from f1]
      exact (kc W hp.below).mono (fun e W' ⟨he, hm⟩ => ⟨_, he, rfl, by rw [hm]; exact Below.refl _ _⟩)
    refine Steps.cons (step_value rfl fun x W hp => ⟨wanted_none rfl, _, _, run_move (.inl rfl), (hp.old 1 rfl), Below.refl _ _⟩) ?_
    refine Steps.cons (step_enter rfl fun x W hp => ?_) ?_
    · have f1 : wIs (.slice a_b b.length c_b) (x.tmps.getD 32 undef) W := (hp.on_ 2 rfl rfl rfl).2
      refine ⟨wanted_none rfl, 15, _, run_enter1 rfl rfl Tryd.call15, ?_⟩
      show Calls _ _ #[x.tmps.getD 32 undef] W _
      rw [show x.tmps.getD 32 undef = _ from f1]
      exact (kr W hp.below).mono (fun e W' ⟨he, hm⟩ => ⟨_, he, rfl, by rw [hm]; exact Below.refl _ _⟩)
    refine Steps.cons (step_value rfl fun x W hp => ?_) ?_
    · have f1 : wIs (.int .u32 (crc b : Int)) (x.tmps.getD 31 undef) W := (hp.on_ 1 rfl rfl rfl).2
      have f2 : wIs (.int .u32 (crc b : Int)) (x.tmps.getD 33 undef) W := (hp.on_ 3 rfl rfl rfl).2
      refine ⟨wanted_none rfl, _, _, run_bin rfl (v := .bool false) ?_ ?_, rfl, Below.refl _ _⟩
      · show (eqGuard .neq _ _ _ (x.tmps.getD 31 undef) (x.tmps.getD 33 undef)).run _ W = _
        rw [show x.tmps.getD 31 undef = _ from f1, show x.tmps.getD 33 undef = _ from f2]
        rfl
      · show (binOp .neq _ (x.tmps.getD 31 undef) (x.tmps.getD 33 undef)).run _ W = _
        rw [show x.tmps.getD 31 undef = _ from f1, show x.tmps.getD 33 undef = _ from f2]
        simp [go_sem]
    refine Steps.cons (step_value rfl fun x W hp => ⟨wanted_none rfl, _, _, run_move (.inl rfl), (hp.on_ 4 rfl rfl rfl).2, Below.refl _ _⟩) ?_
    refine Steps.cons (step_value rfl fun x W hp => ⟨wanted_somef rfl rfl rfl (hp.on_ 5 rfl rfl rfl).1 (hp.on_ 5 rfl rfl rfl).2, _, _, run_move (.inl rfl), (hp.old 7 rfl), Below.refl _ _⟩) ?_
    refine Steps.cons (step_value rfl fun x W hp => ?_) ?_
    · have f1 : wIs (.slice (some ⟨g, 0, none⟩) (17 + b.length) (17 + b.length)) (x.tmps.getD 36 undef) W := (hp.on_ 6 rfl rfl rfl).2
      refine ⟨wanted_somef rfl rfl rfl (hp.on_ 5 rfl rfl rfl).1 (hp.on_ 5 rfl rfl rfl).2, .string ⟨F.toArray⟩, W, run_conv rfl ?_, rfl, Below.refl _ _⟩
      show (convert _ _ (x.tmps.getD 36 undef)).run _ W = _
      rw [show x.tmps.getD 36 undef = _ from f1, ← hFl]
      exact run_string W 24 5 9 Tryd.underlying24 Tryd.underlying5 Tryd.underlying9 _ F F.length (tF2.below hp.below)
    refine Steps.cons (step_value rfl fun x W hp => ⟨wanted_somef rfl rfl rfl (hp.on_ 5 rfl rfl rfl).1 (hp.on_ 5 rfl rfl rfl).2, _, _, run_move (.inl rfl), (hp.old 0 rfl), Below.refl _ _⟩) ?_
    refine Steps.cons (step_value rfl fun x W hp => ⟨wanted_somef rfl rfl rfl (hp.on_ 5 rfl rfl rfl).1 (hp.on_ 5 rfl rfl rfl).2, _, _, run_move (.inl rfl), (hp.old 1 rfl), Below.refl _ _⟩) ?_
    refine Steps.cons (step_enter rfl fun x W hp => ?_) ?_
    · have f1 : wIs (.int .u64 (n : Int)) (x.tmps.getD 38 undef) W := (hp.on_ 8 rfl rfl rfl).2
      have f2 : wIs (.slice a_b b.length c_b) (x.tmps.getD 39 undef) W := (hp.on_ 9 rfl rfl rfl).2
      refine ⟨wanted_somef rfl rfl rfl (hp.on_ 5 rfl rfl rfl).1 (hp.on_ 5 rfl rfl rfl).2, 16, _, run_enter2 rfl rfl Tryd.call16, ?_⟩
      show Calls _ _ #[x.tmps.getD 38 undef, x.tmps.getD 39 undef] W _
      rw [show x.tmps.getD 38 undef = _ from f1, show x.tmps.getD 39 undef = _ from f2]
      exact (kf W hp.below).mono (fun e W' ⟨a', c', he, ht, _, _, hb⟩ => ⟨_, he, ⟨a', c', rfl, ht⟩, hb⟩)
    refine Steps.cons (step_value rfl fun x W hp => ?_) ?_
    · have f1 : wTxt F (x.tmps.getD 40 undef) W := (hp.on_ 10 rfl rfl rfl).2
      obtain ⟨aA, cA, e1, tA⟩ := f1
      refine ⟨wanted_somef rfl rfl rfl (hp.on_ 5 rfl rfl rfl).1 (hp.on_ 5 rfl rfl rfl).2, .string ⟨F.toArray⟩, W, run_conv rfl ?_, rfl, Below.refl _ _⟩
      show (convert _ _ (x.tmps.getD 40 undef)).run _ W = _
      rw [e1]
      exact run_string W 24 5 9 Tryd.underlying24 Tryd.underlying5 Tryd.underlying9 aA F cA tA
    refine Steps.cons (step_value rfl fun x W hp => ⟨wanted_somef rfl rfl rfl (hp.on_ 5 rfl rfl rfl).1 (hp.on_ 5 rfl rfl rfl).2, _, _, run_nestr rfl (hp.on_ 7 rfl rfl rfl).2 (hp.on_ 11 rfl rfl rfl).2, rfl, Below.refl _ _⟩) ?_
    refine Steps.cons (step_value rfl fun x W hp => ⟨wanted_none rfl, _, _, run_pickf rfl (hp.on_ 5 rfl rfl rfl).2, (hp.on_ 12 rfl rfl rfl).2, Below.refl _ _⟩) ?_
    exact Steps.nil
  case done =>
    intro x w3 hI
    have h43 : x.tmps.getD 43 undef = .bool false := hI.new 13 _ 43 rfl rfl rfl
    have h0 : x.tmps.getD 0 undef = .int .u64 (n : Int) := hI.old 0 (by simp)
    have h1 : x.tmps.getD 1 undef = .slice a_b b.length c_b := hI.old 1 (by simp)
    have h2 : x.tmps.getD 2 undef = .slice a_more more.length c_more := hI.old 2 (by simp)
    have h7 : x.tmps.getD 7 undef = .slice (some ⟨g, 0, none⟩) (17 + b.length) (17 + b.length) := hI.old 7 (by simp)
    have hsz : x.tmps.size = 99 := hI.tmps
    have hd : x.defers = [] := hI.defers
    have tF3 := tF2.below hI.below
    have hbel3 := hbel2.trans (hI.below.mono hbel2.size)
    obtain ⟨f, hf, hx⟩ := act_eta hsz hd
    rw [hf] at h43 h0 h1 h2 h7
    clear hI hf hsz hd kc kr kf tF2
    subst hx
    have hl : ((List.range 99).map f).toArray = #[f 0, f 1, f 2, f 3, f 4, f 5, f 6, f 7, f 8, f 9, f 10, f 11, f 12, f 13, f 14, f 15, f 16, f 17, f 18, f 19, f 20, f 21, f 22, f 23, f 24, f 25, f 26, f 27, f 28, f 29, f 30, f 31, f 32, f 33, f 34, f 35, f 36, f 37, f 38, f 39, f 40, f 41, f 42, f 43, f 44, f 45, f 46, f 47, f 48, f 49, f 50, f 51, f 52, f 53, f 54, f 55, f 56, f 57, f 58, f 59, f 60, f 61, f 62, f 63, f 64, f 65, f 66, f 67, f 68, f 69, f 70, f 71, f 72, f 73, f 74, f 75, f 76, f 77, f 78, f 79, f 80, f 81, f 82, f 83, f 84, f 85, f 86, f 87, f 88, f 89, f 90, f 91, f 92, f 93, f 94, f 95, f 96, f 97, f 98] := rfl
    simp only [Exit.then]
    rw [hl, h0, h1, h2, h7, h43]
    clear hl h0 h1 h2 h7 h43
    have hb4 : Below w3.heap.size w3 (w3.alloc (.cells #[] 5)) := (Below.refl _ _).alloc (Nat.le_refl _) _
    have hown4 : (w3.alloc (.cells #[] 5)).ownsRow w3.heap.size 5 1 (.slice (some ⟨w3.heap.size, 0, none⟩) 0 0) 0 [] := own_empty w3 _ _ (Nat.le_refl _)
    have t4 := tF3.below hb4
    go_wp2_with (at_builtin; refine wpList_append_txt _ rfl (.tmp 45) (.tmp 46) 24 rfl w3.heap.size 5 i0 Tryd.underlying24 hi0 hz0 hz1 hz2 _ 0 [] rfl hown4 (some ⟨g, 0, none⟩) (17 + b.length) F (by rw [hFl]; rfl) t4 ?c3 ?c4 ?_)
    case c3 => omega
    case c4 => simp
    intro v5 w5 hown5 hg5
    have hb5 : Below w3.heap.size w3 w5 := hb4.grown hg5 (by simp) (fun k hk => (hown4.lt k hk).1)
    have tm5 := HM.out.below (hbel3.trans (hb5.mono hbel3.size))
    clear hown4 hg5 t4 hb4
    go_wp2_with (at_builtin; refine wpList_append_txt _ rfl (.tmp 47) (.tmp 48) 24 rfl w3.heap.size 5 i0 Tryd.underlying24 hi0 hz0 hz1 hz2 v5 _ (Lib.byteCells F) rfl hown5 a_more c_more more rfl tm5 ?c5 ?c6 ?_)
    case c5 => omega
    case c6 => exact hb5.size
    intro v6 w6 hown6 hg6
    have hb6 : Below w3.heap.size w3 w6 := hb5.grown hg6 hb5.size (fun k hk => (hown5.lt k hk).1)
    have hbel6 := hbel3.trans (hb6.mono hbel3.size)
    have lFm : (F ++ more).length = 17 + b.length + more.length := by rw [List.length_append, hFl]
    rw [← lFm, ← Lib.byteCells_append] at hown6
    obtain ⟨a6, c6, rfl, t6, hc6, hm6⟩ := own_form hown6
    have htk := Take_any a6 c6 (F ++ more) w6 (HT.out.below hbel6 (Nat.le_refl _)) t6 hc6 hm6
    rw [e1, lFm] at htk
    rw [lFm]
    clear hown6 hown5 hg6 t6 tm5 hb5 hb6 tF3 e1
    go_wp2_with fail
    refine htk.mono ?_
    rintro e w7 ⟨a7, c7, rfl, t7, _, _, _, hb7⟩
    have hbel7 := hbel6.trans (hb7.mono hbel6.size)
    clear htk
    have htm := Take_any a_more c_more more w7 (HT.out.below hbel7 (Nat.le_refl _)) (HM.out.below hbel7) l_more m_more
    obtain ⟨R, hR⟩ : ∃ R, R = take1 more := ⟨_, rfl⟩
    have hrt := fun W (h : Below w.heap.size w W) => rTake_any a_more c_more more W (HM.out.below h) l_more m_more
    rw [← hR] at htm hrt
    clear hR
    obtain ⟨q, y, z⟩ := R
    go_wp2_with fail
    refine htm.mono ?_
    rintro e w8 ⟨a8, c8, rfl, t8, _, _, _, hb8⟩
    have hbel8 := hbel7.trans (hb8.mono hbel7.size)
    have hrt8 := hrt w8 hbel8
    have t78 := t7.below hb8
    clear htm hrt t7
    go_wp2_with fail
    refine hrt8.mono ?_
    rintro e w9 ⟨a9, c9, rfl, t9, _, _, hb9⟩
    have hbel9 := hbel8.trans (hb9.mono hbel8.size)
    have t7' : Txt w9 a7 b := t78.below hb9
    have t8' : Txt w9 a8 y := Txt.below t8 hb9
    have t9' : Txt w9 a9 y := t9 w9 (HM.out.below hbel9)
    have tb' : Txt w9 a_b b := HB.out.below hbel9
    have k1 := run_string (P := Tryd.prog) w9 24 5 9 Tryd.underlying24 Tryd.underlying5 Tryd.underlying9 a7 b c7 (t7')
    have k2 := run_string (P := Tryd.prog) w9 24 5 9 Tryd.underlying24 Tryd.underlying5 Tryd.underlying9 a_b b c_b (tb')
    have k3 := run_string (P := Tryd.prog) w9 24 5 9 Tryd.underlying24 Tryd.underlying5 Tryd.underlying9 a8 y c8 (t8')
    have k4 := run_string (P := Tryd.prog) w9 24 5 9 Tryd.underlying24 Tryd.underlying5 Tryd.underlying9 a9 y c9 (t9')
    clear hrt8 t78 t7' t8' t9' tb' t8 t9
    go_wp2_with fail
    go_ret
    exact ⟨rfl, hbel9⟩

set_option maxRecDepth 100000 in
theorem lifted (os : Os) (started : os.Started) (H : Type) (enc : TypeId × Value → H) :
    ReturnsInHanded {} Tryd.checked os 4 .any (fun w args => (Rows.sumFramesSpec.pre enc Tryd.prog Tryd.f4 Rows.sumFramesRow.domain false w args ∧ laidMetH Tryd.prog LAID w) ∧ sizedMet enc Tryd.prog Tryd.f4 (OpenSpec.ofChange Rows.sumFramesSpec) false w args) (Rows.sumFramesSpec.post enc Tryd.prog Tryd.f4 false true false false) := by
  refine returnsInHanded_of_change_and (C := Tryd.checked) (X := fun w _ => laidMetH Tryd.prog LAID w) (fun _ _ _ hh h => h.of_heap hh) own started (by kernel_rfl) Tryd.func4
    (ChangeSpec.witness_shaped (enc := enc) (C := Tryd.checked) (os := os) (X := fun w _ => laidMetH Tryd.prog LAID w) false (World.laidAll Tryd.prog os LAID) #[.int .u64 0, .slice none 0 0, .slice none 0 0] 8 (World.laidAll_os _ _ _)
      (World.shaped_of_ZipB (by kernel_rfl) (by kernel_rfl)) (by kernel_rfl) (by kernel_rfl) (by kernel_rfl)
      (by rw [MakeChecks.laidMetH_plain _ _ _ (by kernel_rfl)]; exact laidMet_laidAll _ (by kernel_rfl) (by kernel_rfl))) ?_
  intro W base args ds gs before hval0 hW hcnd hsz0 hL _
  have hT : Tab W := tab_of (by rw [MakeChecks.laidMetH_plain _ _ _ (by kernel_rfl)] at hL; exact hL)
  have hval : ∀ (j : Nat) t v, Tryd.f4.params[j]? = some t → args[j]? = some v → Value.okWide Tryd.prog W .any base t v := hval0
  have hW' := hW
  obtain ⟨p, q, hA0, hV, rfl, hfz, hnd⟩ := hW
  have hA : DataW.TrodAll enc Tryd.prog W 0 (fun _ => true) true Tryd.f4.params.toList args.toList ds p := hA0
  rw [Tryd.params4] at hA hval
  obtain ⟨v0, vs0, d0, ds0, p0, q0, hargs, rfl, rfl, h0, r0⟩ := trodAll_cons hA
  obtain ⟨v1, vs1, d1, ds1, p1, q1, rfl, rfl, rfl, h1, r1⟩ := trodAll_cons r0
  obtain ⟨v2, vs2, d2, ds2, p2, q2, rfl, rfl, rfl, h2, r2⟩ := trodAll_cons r1
  obtain ⟨rfl, rfl, rfl⟩ := trodAll_nil r2
  obtain rfl : args = #[v0, v1, v2] := by cases args; simp_all
  obtain ⟨rfl, rfl⟩ := trodVars_none hV
  obtain ⟨n, rfl, rfl, rfl, w_n⟩ := open_int Tryd.underlying23 (hval 0 23 v0 rfl rfl) h0
  obtain ⟨a_b, len_b, c_b, rfl⟩ := okWide_slice Tryd.underlying24 (hval 1 24 v1 rfl rfl)
  have k1 := h1
  have lt1 : ∀ x ∈ p1, x.block < W.heap.size := by obtain ⟨m, hm⟩ := k1; exact DataW.trod_lt m _ _ _ hm
  obtain ⟨b, n_b, l_b, m_b, t_b⟩ : ∃ b : List UInt8, b.length = len_b ∧ b.length ≤ c_b ∧ c_b ≤ maxLen ∧ Txt W a_b b := by
    obtain ⟨fuel, hf⟩ := h1
    rcases open_ints Tryd.underlying24 Tryd.underlying5 (by kernel_rfl) hf with ⟨hcs, _⟩ | ⟨x, l, c, zs, hcs, _, hl, hm, hz, _, hcell, hwz⟩
    · simp [Value.cells] at hcs
      obtain ⟨rfl, rfl, rfl⟩ := hcs
      exact ⟨[], rfl, Nat.zero_le _, Nat.zero_le _, Txt.nil _ _⟩
    · simp [Value.cells] at hcs
      obtain ⟨rfl, rfl, rfl⟩ := hcs
      have hr := row_some (f := Value.int .u8) hl (by simpa using hz) hcell
      obtain ⟨r, hrl, hrt⟩ := txt_of_row hr.2 (fun n hn => hwz n (List.mem_of_mem_take hn))
      exact ⟨r, hrl.trans hr.1, by rw [hrl, hr.1]; exact hl, hm, hrt⟩
  subst n_b
  obtain ⟨a_more, len_more, c_more, rfl⟩ := okWide_slice Tryd.underlying24 (hval 2 24 v2 rfl rfl)
  have k2 := h2
  have lt2 : ∀ x ∈ p2, x.block < W.heap.size := by obtain ⟨m, hm⟩ := k2; exact DataW.trod_lt m _ _ _ hm
  obtain ⟨more, n_more, l_more, m_more, t_more⟩ : ∃ more : List UInt8, more.length = len_more ∧ more.length ≤ c_more ∧ c_more ≤ maxLen ∧ Txt W a_more more := by
    obtain ⟨fuel, hf⟩ := h2
    rcases open_ints Tryd.underlying24 Tryd.underlying5 (by kernel_rfl) hf with ⟨hcs, _⟩ | ⟨x, l, c, zs, hcs, _, hl, hm, hz, _, hcell, hwz⟩
    · simp [Value.cells] at hcs
      obtain ⟨rfl, rfl, rfl⟩ := hcs
      exact ⟨[], rfl, Nat.zero_le _, Nat.zero_le _, Txt.nil _ _⟩
    · simp [Value.cells] at hcs
      obtain ⟨rfl, rfl, rfl⟩ := hcs
      have hr := row_some (f := Value.int .u8) hl (by simpa using hz) hcell
      obtain ⟨r, hrl, hrt⟩ := txt_of_row hr.2 (fun n hn => hwz n (List.mem_of_mem_take hn))
      exact ⟨r, hrl.trans hr.1, by rw [hrl, hr.1]; exact hl, hm, hrt⟩
  subst n_more
  clear hA0 hval0
  refine (walk n a_b c_b b a_more c_more more W hT w_n l_b m_b t_b l_more m_more t_more).mono fun e W' ⟨he, bel⟩ => ?_
  subst he
  exact ⟨_, rfl, _, _, _, [], _, [], hW', trodAll_mk1 (shut_bool Tryd.underlying4 _), (trodAll_cons_mk (shut_int Tryd.underlying23 w_n) (trodAll_cons_mk (Below.trod laidOut (by kernel_rfl) (of_decide_eq_true (by kernel_rfl)) k1 bel lt1) (trodAll_cons_mk (Below.trod laidOut (by kernel_rfl) (of_decide_eq_true (by kernel_rfl)) k2 bel lt2) trodAll_mk0))), rfl, bel.frame _, fun h => by cases h⟩

theorem over : Rows.sumFramesRow.holds Tryd.pinned (OpenSpec.ofChange Rows.sumFramesSpec) :=
  OpenClaim.holds_of_wide 4 Tryd.f4 rfl rfl rfl rfl rfl rfl rfl ⟨rfl, rfl, rfl, rfl, rfl⟩ rfl rfl rfl rfl rfl (by kernel_rfl) Tryd.func4 (by kernel_rfl)
    (of_decide_eq_true (by kernel_rfl)) (by unfold Func.isWrapper; first | (rw [if_pos (by decide +kernel)]; kernel_rfl) | (rw [if_neg (by decide +kernel)]; exact ⟨rfl, rfl⟩))
    (fun os started H enc _ => lifted os started H enc)

set_option maxRecDepth 100000 in
theorem proved : Rows.SumFramesCardSaid :=
  Claim7.holds_tied_plain_at .later [] [.data] true Rows.sumFramesCard.stood.harness false over (fun _ h => by cases h) (by kernel_rfl) (fun _ h => by cases h) sumFrames_row_tie rfl ⟨rfl, rfl⟩ (by kernel_rfl) rfl
    (fun f fn hf hfn => by
      obtain rfl : f = 4 := Option.some.inj ((show Tryd.prog.funcNamed "escapement/escapementlaw2.SumFrames" = some 4 by kernel_rfl).symm.trans hf) |>.symm
      obtain rfl : fn = Tryd.f4 := (Option.some.inj (Tryd.func4.symm.trans hfn)).symm
      exact ⟨by kernel_rfl, fun j t ht => by
        rw [Tryd.params4] at ht
        have hm : t ∈ ([23, 24, 24] : List TypeId) := by simpa using Array.mem_of_getElem? ht
        have hall : (([23, 24, 24] : List TypeId).all fun u => !Tryd.prog.wantsStandIn u) = true := by kernel_rfl
        exact (show Tryd.prog.wantsStandIn t = false by simpa using List.all_eq_true.1 hall t hm)⟩)
    (by kernel_rfl)
#print axioms proved
end Go.Proofs.YtdacgdaglbjjeaaDoor.sumFrames
