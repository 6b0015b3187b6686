/-
  Proved: NamesKnown of escapementlaw6 returns true for every input, and leaves what it was handed as it was. No conditions.
-/
import Derived.Test.YtbgngmnpepnflaaMf
import Derived.Test.YtbgngmnpepnflaaRows
import Derived.WalkKit
import Derived.ProofKit
import Derived.OpenShut
import Derived.ShutString
import Derived.ChangeOld
import Derived.SizedLaws
namespace Go.Proofs.Ytbgngmnpepnflaa.namesKnown
open Go.ChangeShapes Go.WideShapes Go.ChangeAt Go.RowKit
open Go.ChangeMaps (open_string shut_string)
set_option linter.unusedVariables false

theorem own : ownKnob Try.prog.godebug = none := by kernel_rfl
theorem laidOut : laidOutB Try.prog = true := by kernel_rfl

theorem k6_ok0 : (treeL [110, 111, 100, 101, 32, 102, 40, 120, 58, 32, 105, 110, 116, 41, 32, 114, 101, 116, 117, 114, 110, 115, 32, 40, 120, 58, 32, 105, 110, 116, 41, 59, 32, 108, 101, 116, 32, 116, 101, 108]).all okNd = true := by kernel_rfl
theorem k6_at0 : namesF (treeL [110, 111, 100, 101, 32, 102, 40, 120, 58, 32, 105, 110, 116, 41, 32, 114, 101, 116, 117, 114, 110, 115, 32, 40, 120, 58, 32, 105, 110, 116, 41, 59, 32, 108, 101, 116, 32, 116, 101, 108]) = some 24 := by kernel_rfl
theorem k6_ln0 : decide ((treeL [110, 111, 100, 101, 32, 102, 40, 120, 58, 32, 105, 110, 116, 41, 32, 114, 101, 116, 117, 114, 110, 115, 32, 40, 120, 58, 32, 105, 110, 116, 41, 59, 32, 108, 101, 116, 32, 116, 101, 108]).length ≤ 32) = true := by kernel_rfl
theorem k6_any0 (w : World) : Calls Try.prog 13 #[.string (⟨#[110, 111, 100, 101, 32, 102, 40, 120, 58, 32, 105, 110, 116, 41, 32, 114, 101, 116, 117, 114, 110, 115, 32, 40, 120, 58, 32, 105, 110, 116, 41, 59, 32, 108, 101, 116, 32, 116, 101, 108]⟩ : ByteArray)] w (fun e w' => e = .returned (.agg #[.int .i64 8, .int .i64 24]) ∧ Below w.heap.size w w') := fault6_val (L := [110, 111, 100, 101, 32, 102, 40, 120, 58, 32, 105, 110, 116, 41, 32, 114, 101, 116, 117, 114, 110, 115, 32, 40, 120, 58, 32, 105, 110, 116, 41, 59, 32, 108, 101, 116, 32, 116, 101, 108]) rfl (by decide) k6_ok0 (of_decide_eq_true k6_ln0) k6_at0 w
theorem k6_ok1 : (treeL [110, 111, 100, 101, 32, 102, 40, 41, 32, 114, 101, 116, 117, 114, 110, 115, 32, 40, 121, 58, 32, 105, 110, 116, 41, 59, 32, 108, 101, 116, 32, 116, 101, 108]).all okNd = true := by kernel_rfl
theorem k6_at1 : namesF (treeL [110, 111, 100, 101, 32, 102, 40, 41, 32, 114, 101, 116, 117, 114, 110, 115, 32, 40, 121, 58, 32, 105, 110, 116, 41, 59, 32, 108, 101, 116, 32, 116, 101, 108]) = some 18 := by kernel_rfl
theorem k6_ln1 : decide ((treeL [110, 111, 100, 101, 32, 102, 40, 41, 32, 114, 101, 116, 117, 114, 110, 115, 32, 40, 121, 58, 32, 105, 110, 116, 41, 59, 32, 108, 101, 116, 32, 116, 101, 108]).length ≤ 32) = true := by kernel_rfl
theorem k6_any1 (w : World) : Calls Try.prog 13 #[.string (⟨#[110, 111, 100, 101, 32, 102, 40, 41, 32, 114, 101, 116, 117, 114, 110, 115, 32, 40, 121, 58, 32, 105, 110, 116, 41, 59, 32, 108, 101, 116, 32, 116, 101, 108]⟩ : ByteArray)] w (fun e w' => e = .returned (.agg #[.int .i64 8, .int .i64 18]) ∧ Below w.heap.size w w') := fault6_val (L := [110, 111, 100, 101, 32, 102, 40, 41, 32, 114, 101, 116, 117, 114, 110, 115, 32, 40, 121, 58, 32, 105, 110, 116, 41, 59, 32, 108, 101, 116, 32, 116, 101, 108]) rfl (by decide) k6_ok1 (of_decide_eq_true k6_ln1) k6_at1 w
theorem k6_ok2 : (treeL [110, 111, 100, 101, 32, 102, 40, 41, 32, 114, 101, 116, 117, 114, 110, 115, 32, 40, 41, 59, 32, 108, 101, 116, 32, 116, 101, 108]).all okNd = true := by kernel_rfl
theorem k6_at2 : namesF (treeL [110, 111, 100, 101, 32, 102, 40, 41, 32, 114, 101, 116, 117, 114, 110, 115, 32, 40, 41, 59, 32, 108, 101, 116, 32, 116, 101, 108]) = some 0 := by kernel_rfl
theorem k6_ln2 : decide ((treeL [110, 111, 100, 101, 32, 102, 40, 41, 32, 114, 101, 116, 117, 114, 110, 115, 32, 40, 41, 59, 32, 108, 101, 116, 32, 116, 101, 108]).length ≤ 32) = true := by kernel_rfl
theorem k6_any2 (w : World) : Calls Try.prog 13 #[.string (⟨#[110, 111, 100, 101, 32, 102, 40, 41, 32, 114, 101, 116, 117, 114, 110, 115, 32, 40, 41, 59, 32, 108, 101, 116, 32, 116, 101, 108]⟩ : ByteArray)] w (fun e w' => e = .returned (.agg #[.int .i64 8, .int .i64 0]) ∧ Below w.heap.size w w') := fault6_val (L := [110, 111, 100, 101, 32, 102, 40, 41, 32, 114, 101, 116, 117, 114, 110, 115, 32, 40, 41, 59, 32, 108, 101, 116, 32, 116, 101, 108]) rfl (by decide) k6_ok2 (of_decide_eq_true k6_ln2) k6_at2 w
theorem k6_ok3 : (treeL [110, 111, 100, 101, 32, 102, 40, 41, 32, 114, 101, 116, 117, 114, 110, 115, 32, 40, 121, 58, 32, 105, 110, 116, 41, 59, 32, 108, 101, 116, 32, 121, 32, 61, 32, 102, 40, 41, 59, 32, 116, 101, 108]).all okNd = true := by kernel_rfl
theorem k6_at3 : namesF (treeL [110, 111, 100, 101, 32, 102, 40, 41, 32, 114, 101, 116, 117, 114, 110, 115, 32, 40, 121, 58, 32, 105, 110, 116, 41, 59, 32, 108, 101, 116, 32, 121, 32, 61, 32, 102, 40, 41, 59, 32, 116, 101, 108]) = some 35 := by kernel_rfl
theorem k6_ln3 : decide ((treeL [110, 111, 100, 101, 32, 102, 40, 41, 32, 114, 101, 116, 117, 114, 110, 115, 32, 40, 121, 58, 32, 105, 110, 116, 41, 59, 32, 108, 101, 116, 32, 121, 32, 61, 32, 102, 40, 41, 59, 32, 116, 101, 108]).length ≤ 32) = true := by kernel_rfl
theorem k6_any3 (w : World) : Calls Try.prog 13 #[.string (⟨#[110, 111, 100, 101, 32, 102, 40, 41, 32, 114, 101, 116, 117, 114, 110, 115, 32, 40, 121, 58, 32, 105, 110, 116, 41, 59, 32, 108, 101, 116, 32, 121, 32, 61, 32, 102, 40, 41, 59, 32, 116, 101, 108]⟩ : ByteArray)] w (fun e w' => e = .returned (.agg #[.int .i64 8, .int .i64 35]) ∧ Below w.heap.size w w') := fault6_val (L := [110, 111, 100, 101, 32, 102, 40, 41, 32, 114, 101, 116, 117, 114, 110, 115, 32, 40, 121, 58, 32, 105, 110, 116, 41, 59, 32, 108, 101, 116, 32, 121, 32, 61, 32, 102, 40, 41, 59, 32, 116, 101, 108]) rfl (by decide) k6_ok3 (of_decide_eq_true k6_ln3) k6_at3 w
theorem k6_ok4 : (treeL [110, 111, 100, 101, 32, 102, 40, 41, 32, 114, 101, 116, 117, 114, 110, 115, 32, 40, 121, 58, 32, 105, 110, 116, 41, 59, 32, 118, 97, 114, 32, 116, 58, 32, 105, 110, 116, 32, 119, 104, 101, 110, 32, 116, 59, 32, 108, 101, 116, 32, 121, 32, 61, 32, 49, 59, 32, 116, 32, 61, 32, 49, 59, 32, 116, 101, 108]).all okNd = true := by kernel_rfl
theorem k6_at4 : namesF (treeL [110, 111, 100, 101, 32, 102, 40, 41, 32, 114, 101, 116, 117, 114, 110, 115, 32, 40, 121, 58, 32, 105, 110, 116, 41, 59, 32, 118, 97, 114, 32, 116, 58, 32, 105, 110, 116, 32, 119, 104, 101, 110, 32, 116, 59, 32, 108, 101, 116, 32, 121, 32, 61, 32, 49, 59, 32, 116, 32, 61, 32, 49, 59, 32, 116, 101, 108]) = some 31 := by kernel_rfl
theorem k6_ln4 : decide ((treeL [110, 111, 100, 101, 32, 102, 40, 41, 32, 114, 101, 116, 117, 114, 110, 115, 32, 40, 121, 58, 32, 105, 110, 116, 41, 59, 32, 118, 97, 114, 32, 116, 58, 32, 105, 110, 116, 32, 119, 104, 101, 110, 32, 116, 59, 32, 108, 101, 116, 32, 121, 32, 61, 32, 49, 59, 32, 116, 32, 61, 32, 49, 59, 32, 116, 101, 108]).length ≤ 32) = true := by kernel_rfl
theorem k6_any4 (w : World) : Calls Try.prog 13 #[.string (⟨#[110, 111, 100, 101, 32, 102, 40, 41, 32, 114, 101, 116, 117, 114, 110, 115, 32, 40, 121, 58, 32, 105, 110, 116, 41, 59, 32, 118, 97, 114, 32, 116, 58, 32, 105, 110, 116, 32, 119, 104, 101, 110, 32, 116, 59, 32, 108, 101, 116, 32, 121, 32, 61, 32, 49, 59, 32, 116, 32, 61, 32, 49, 59, 32, 116, 101, 108]⟩ : ByteArray)] w (fun e w' => e = .returned (.agg #[.int .i64 8, .int .i64 31]) ∧ Below w.heap.size w w') := fault6_val (L := [110, 111, 100, 101, 32, 102, 40, 41, 32, 114, 101, 116, 117, 114, 110, 115, 32, 40, 121, 58, 32, 105, 110, 116, 41, 59, 32, 118, 97, 114, 32, 116, 58, 32, 105, 110, 116, 32, 119, 104, 101, 110, 32, 116, 59, 32, 108, 101, 116, 32, 121, 32, 61, 32, 49, 59, 32, 116, 32, 61, 32, 49, 59, 32, 116, 101, 108]) rfl (by decide) k6_ok4 (of_decide_eq_true k6_ln4) k6_at4 w

set_option maxHeartbeats 8000000 in
set_option maxRecDepth 100000 in
theorem walk (w : World) :
    Calls Try.prog 3 #[] w fun e w' => e = .returned (.bool true) ∧ Below w.heap.size w w' := by
  go_enter Try.func3, Try.ntmps3
  go_wp2_with fail
  (with_reducible refine (awake6_any w).mono ?_)
  rintro e w1 ⟨rfl, hb1⟩
  have HB1 := Lib.hid hb1
  have kn := namesNode_any [] (⟨#[102]⟩ : ByteArray) w1 (fun _ => True) none 0 (IsD.nil (Nat.zero_le _))
  have kn : Calls Try.prog 12 #[.slice none 0 0, .string (⟨#[102]⟩ : ByteArray)] w1 (fun e w' => e = .returned (.int .i64 (-1)) ∧ Below w1.heap.size w1 w') := kn
  clear hb1
  go_wp2_with fail
  (with_reducible refine kn.mono ?_)
  rintro e w2 ⟨rfl, hb⟩
  have HB2 := Lib.hid (HB1.out.trans (hb.mono HB1.out.size))
  clear hb kn
  go_wp2_with fail
  (with_reducible refine (k6_any0 _).mono ?_)
  rintro e w3 ⟨rfl, hb⟩
  have HB3 := Lib.hid (HB2.out.trans (hb.mono HB2.out.size))
  have hfd0 := fun W => fld6_1 8 24 W
  clear hb
  go_wp2_with fail
  (with_reducible refine (k6_any1 _).mono ?_)
  rintro e w4 ⟨rfl, hb⟩
  have HB4 := Lib.hid (HB3.out.trans (hb.mono HB3.out.size))
  have hfd1 := fun W => fld6_1 8 18 W
  clear hb
  go_wp2_with fail
  (with_reducible refine (k6_any2 _).mono ?_)
  rintro e w5 ⟨rfl, hb⟩
  have HB5 := Lib.hid (HB4.out.trans (hb.mono HB4.out.size))
  have hfd2 := fun W => fld6_0 8 0 W
  clear hb
  go_wp2_with fail
  (with_reducible refine (k6_any3 _).mono ?_)
  rintro e w6 ⟨rfl, hb⟩
  have HB6 := Lib.hid (HB5.out.trans (hb.mono HB5.out.size))
  have hfd3 := fun W => fld6_1 8 35 W
  clear hb
  go_wp2_with fail
  (with_reducible refine (k6_any4 _).mono ?_)
  rintro e w7 ⟨rfl, hb⟩
  have HB7 := Lib.hid (HB6.out.trans (hb.mono HB6.out.size))
  have hfd4 := fun W => fld6_1 8 31 W
  clear hb
  go_wp2_with fail
  go_ret
  exact ⟨rfl, HB7.out⟩

set_option maxRecDepth 100000 in
theorem lifted (os : Os) (started : os.Started) (H : Type) (enc : TypeId × Value → H) :
    ReturnsInHanded {} Try.checked os 3 .any (Rows.namesKnownSpec.pre6 enc Try.prog Try.f3 Rows.namesKnownRow.domain false) (Rows.namesKnownSpec.post enc Try.prog Try.f3 false true false false) := by
  refine returnsInHanded_of_change (C := Try.checked) own started (by kernel_rfl) Try.func3
    (ChangeSpec.witness6 (enc := enc) (C := Try.checked) false ⟨#[], #[], []⟩ 8 (by kernel_rfl) (by kernel_rfl) (by kernel_rfl) (by kernel_rfl)) ?_
  intro W base args ds gs before hval0 hW hcnd _
  have hval : ∀ (j : Nat) t v, Try.f3.params[j]? = some t → args[j]? = some v → Value.okWide Try.prog W .any base t v := hval0
  have hW' := hW
  obtain ⟨p, q, hA0, hV, rfl, hfz, hnd⟩ := hW
  have hA : DataW.TrodAll enc Try.prog W 0 (fun _ => true) true Try.f3.params.toList args.toList ds p := hA0
  rw [Try.params3] at hA hval
  obtain ⟨rfl, rfl, rfl⟩ := trodAll_none hA
  obtain ⟨rfl, rfl⟩ := trodVars_none hV
  clear hA0 hval0
  refine (walk W).mono fun e W' ⟨he, bel⟩ => ?_
  subst he
  exact ⟨_, rfl, _, _, _, [], _, [], hW', trodAll_mk1 (shut_bool Try.underlying4 _), trodAll_mk0, rfl, bel.frame _, fun h => by cases h⟩

theorem joined : joinedFacts Try.prog 3 Try.f3 Rows.namesKnownSpec Rows.namesKnownRow = true := by
  unfold joinedFacts
  rw [jf_laid, jf_maps, jf_plain, jf_heard, jf_may, jf_lifts, jf_make]
  repeat' (with_reducible refine Bool.and_eq_true_iff.2 ⟨?_, ?_⟩)
  all_goals as_aux_lemma => kernel_rfl

theorem over : Rows.namesKnownRow.holds Try.pinned (OpenSpec.ofChange Rows.namesKnownSpec) :=
  OpenClaim.holds_of_wide 3 Try.f3 rfl rfl rfl rfl rfl rfl rfl ⟨rfl, rfl, rfl, rfl, rfl⟩ rfl rfl rfl rfl rfl (by kernel_rfl) Try.func3 joined
    (of_decide_eq_true (by kernel_rfl)) (by unfold Func.isWrapper; first | (rw [if_pos (by decide +kernel)]; kernel_rfl) | (rw [if_neg (by decide +kernel)]; exact ⟨rfl, rfl⟩))
    (fun os started H enc _ => lifted os started H enc)

theorem proved : Rows.NamesKnownSaid := over
#print axioms proved
end Go.Proofs.Ytbgngmnpepnflaa.namesKnown
