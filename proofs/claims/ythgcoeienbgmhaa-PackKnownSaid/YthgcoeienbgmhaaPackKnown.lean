/-
  Proved: PackKnown of escapementlaw1 returns true for every input, and leaves what it was handed as it was. No conditions.
-/
import Derived.Test.YthgcoeienbgmhaaRows
import Derived.Test.YthgcoeienbgmhaaArg
import Derived.Test.YthgcoeienbgmhaaAwk
import Derived.WalkKit
import Derived.ProofKit
import Derived.OpenShut
import Derived.ShutString
import Derived.ChangeOld
import Derived.SizedLaws
namespace Go.Proofs.Ythgcoeienbgmhaa.packKnown
open Go.ChangeShapes Go.WideShapes Go.ChangeAt Go.RowKit
open Go.ChangeMaps (open_string shut_string)
set_option linter.unusedVariables false

theorem own : ownKnob Try.prog.godebug = none := by kernel_rfl
theorem laidOut : laidOutB Try.prog = true := by kernel_rfl

theorem lit_txt (w : World) (l : List UInt8) : Txt (w.alloc (.cells (Lib.byteCells l).toArray 5)) (some ⟨w.heap.size, 0, none⟩) l := by
  intro _
  refine ⟨w.heap.size, 0, rfl, by simp, fun i hi => ?_⟩
  rw [cell_of_row _ _ _ _ _ (0, 0) (heap_alloc_new w _)]
  simp [Lib.byteCells, hi]

set_option maxHeartbeats 1000000 in
theorem walk (w : World) :
    Calls Try.prog 3 #[] w fun e w' => e = .returned (.bool true) ∧ Below w.heap.size w w' := by
  go_enter Try.func3, Try.ntmps3
  go_wp2_with fail
  refine (awake_any w).mono ?_
  rintro e w1 ⟨rfl, hb1⟩
  go_wp2_with fail
  have ta : Txt (w1.alloc (.cells #[.int .u8 128, .int .u8 0] 5)) (some ⟨w1.heap.size, 0, none⟩) [128, 0] := lit_txt w1 [128, 0]
  refine (Read_any _ 2 [128, 0] _ ta (by decide)).mono ?_
  rintro e w2 ⟨ga, rfl, ga2, ra2, hb2⟩
  have hB2 : Below w.heap.size w w2 := (hb1.alloc hb1.size _).trans (hb2.mono (by have := hb1.size; simp; omega))
  have gaw : w.heap.size ≤ ga := by have := hb1.size; simp at ga2; omega
  clear hb1 hb2 ta ga2
  go_wp2_with fail
  have tb : Txt (w2.alloc (.cells #[.int .u8 5, .int .u8 1] 5)) (some ⟨w2.heap.size, 0, none⟩) [5, 1] := lit_txt w2 [5, 1]
  have ra2' : Rd 50 (w2.alloc (.cells #[.int .u8 5, .int .u8 1] 5)) ga ([128, 0], false) := ra2.below ((Below.refl _ _).alloc (Nat.le_refl _) _)
  refine (Read_any _ 2 [5, 1] _ tb (by decide)).mono ?_
  rintro e w3 ⟨gb, rfl, gb2, rb3, hb3⟩
  have hB3 : Below w.heap.size w w3 := (hB2.alloc hB2.size _).trans (hb3.mono (by have := hB2.size; simp; omega))
  have gbw : w.heap.size ≤ gb := by have := hB2.size; simp at gb2; omega
  have nab : ga ≠ gb := by have := ra2.lt; simp at gb2; omega
  have ra3 := ra2'.below hb3
  clear hB2 hb3 tb gb2 ra2 ra2'
  go_wp2_with fail
  refine (Read_any none 0 [] w3 (Txt.nil _ _) (by decide)).mono ?_
  rintro e w4 ⟨gc, rfl, gc2, rc4, hb4⟩
  have hB4 : Below w.heap.size w w4 := hB3.trans (hb4.mono hB3.size)
  have gcw : w.heap.size ≤ gc := by have := hB3.size; omega
  have nac : ga ≠ gc := by have := ra3.lt; omega
  have nbc : gb ≠ gc := by have := rb3.lt; omega
  have ra4 := ra3.below hb4
  have rb4 := rb3.below hb4
  clear hB3 hb4 gc2 ra3 rb3
  go_wp2_with fail
  refine (RU_any ga _ w4 ra4).mono ?_
  rintro e w5 ⟨rfl, ra5, hg5⟩
  have hB5 := below_grown hB4 hg5 hB4.size gaw
  have rb5 := rb4.other ra4 (Ne.symm nab) hg5
  have rc5 := rc4.other ra4 (Ne.symm nac) hg5
  clear hB4 hg5 ra4 rb4 rc4
  rw [show rdU ([128, 0], false) = (0, [], true) from rfl] at ra5 ⊢
  go_wp2_with fail
  refine (Bad_any ga _ w5 ra5).mono ?_
  rintro e w6 ⟨rfl, rfl⟩
  go_wp2_with fail
  refine (Left_any ga _ w5 ra5).mono ?_
  rintro e w6 ⟨rfl, rfl⟩
  go_wp2_with fail
  refine (RS_any gb _ w5 rb5).mono ?_
  rintro e w6 ⟨rfl, rb6, hg6⟩
  have hB6 := below_grown hB5 hg6 hB5.size gbw
  have rc6 := rc5.other rb5 (Ne.symm nbc) hg6
  clear hB5 hg6 ra5 rb5 rc5
  rw [show rdS ([5, 1], false) = ([], [], true) from rfl] at rb6 ⊢
  go_wp2_with fail
  refine (Bad_any gb _ w6 rb6).mono ?_
  rintro e w7 ⟨rfl, rfl⟩
  go_wp2_with fail
  refine (RU_any gb _ w6 rb6).mono ?_
  rintro e w7 ⟨rfl, rb7, hg7⟩
  have hB7 := below_grown hB6 hg7 hB6.size gbw
  have rc7 := rc6.other rb6 (Ne.symm nbc) hg7
  clear hB6 hg7 rb6 rc6
  rw [show rdU ([], true) = (0, [], true) from rfl]
  go_wp2_with fail
  refine (RI_any gc _ w7 rc7).mono ?_
  rintro e w8 ⟨rfl, rc8, hg8⟩
  have hB8 := below_grown hB7 hg8 hB7.size gcw
  clear hB7 hg8 rc7
  rw [show rdI ([], false) = (0, [], true) from rfl] at rc8 ⊢
  go_wp2_with fail
  refine (Bad_any gc _ w8 rc8).mono ?_
  rintro e w9 ⟨rfl, rfl⟩
  go_wp2_with fail
  go_ret
  exact ⟨rfl, hB8⟩

set_option maxRecDepth 100000 in
theorem lifted (os : Os) (started : os.Started) (H : Type) (enc : TypeId × Value → H) :
    ReturnsInHanded {} Try.checked os 3 .any (Rows.packKnownSpec.pre6 enc Try.prog Try.f3 Rows.packKnownRow.domain false) (Rows.packKnownSpec.post enc Try.prog Try.f3 false true false false) := by
  refine returnsInHanded_of_change (C := Try.checked) own started (by kernel_rfl) Try.func3
    (ChangeSpec.witness6 (enc := enc) (C := Try.checked) false ⟨#[], #[], []⟩ 8 (by kernel_rfl) (by kernel_rfl) (by kernel_rfl) (by kernel_rfl)) ?_
  intro W base args ds gs before hval0 hW hcnd _
  have hval : ∀ (j : Nat) t v, Try.f3.params[j]? = some t → args[j]? = some v → Value.okWide Try.prog W .any base t v := hval0
  have hW' := hW
  obtain ⟨p, q, hA0, hV, rfl, hfz, hnd⟩ := hW
  have hA : DataW.TrodAll enc Try.prog W 0 (fun _ => true) true Try.f3.params.toList args.toList ds p := hA0
  rw [Try.params3] at hA hval
  obtain ⟨rfl, rfl, rfl⟩ := trodAll_none hA
  obtain ⟨rfl, rfl⟩ := trodVars_none hV
  clear hA0 hval0
  refine (walk W).mono fun e W' ⟨he, bel⟩ => ?_
  subst he
  exact ⟨_, rfl, _, _, _, [], _, [], hW', trodAll_mk1 (shut_bool Try.underlying4 _), trodAll_mk0, rfl, bel.frame _, fun h => by cases h⟩

theorem over : Rows.packKnownRow.holds Try.pinned (OpenSpec.ofChange Rows.packKnownSpec) :=
  OpenClaim.holds_of_wide 3 Try.f3 rfl rfl rfl rfl rfl rfl rfl ⟨rfl, rfl, rfl, rfl, rfl⟩ rfl rfl rfl rfl rfl (by kernel_rfl) Try.func3 (by kernel_rfl)
    (of_decide_eq_true (by kernel_rfl)) (by unfold Func.isWrapper; first | (rw [if_pos (by decide +kernel)]; kernel_rfl) | (rw [if_neg (by decide +kernel)]; exact ⟨rfl, rfl⟩))
    (fun os started H enc _ => lifted os started H enc)

theorem proved : Rows.PackKnownSaid := over
#print axioms proved
end Go.Proofs.Ythgcoeienbgmhaa.packKnown
