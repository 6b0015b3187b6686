/-
  Proved: TypIfs of escapementlaw7 returns true for every input, and leaves what it was handed as it was. No conditions.
-/
import Derived.Test.YtbgngmnpepnflaaMe
import Derived.Test.YtbgngmnpepnflaaRows
import Derived.WalkKit
import Derived.ProofKit
import Derived.OpenShut
import Derived.ShutString
import Derived.ChangeOld
import Derived.SizedLaws
namespace Go.Proofs.Ytbgngmnpepnflaa.typIfs
open Go.ChangeShapes Go.WideShapes Go.ChangeAt Go.RowKit
open Go.ChangeMaps (open_string shut_string)
set_option linter.unusedVariables false

theorem own : ownKnob Try.prog.godebug = none := by kernel_rfl
theorem laidOut : laidOutB Try.prog = true := by kernel_rfl

set_option maxHeartbeats 8000000 in
set_option maxRecDepth 100000 in
theorem walk (a : Bool) (b : Bool) (c : Bool) (merge : Bool) (w : World) :
    Calls Try.prog 10 #[.bool a, .bool b, .bool c, .bool merge] w fun e w' => e = .returned (.bool true) ∧ Below w.heap.size w w' := by
  cases a <;> cases merge
  · have FI := Lib.hid (fun W => fault7_ok (tif_list false b c) (fine_spec (tif_fine false b c)).2.2.2 (fine_spec (tif_fine false b c)).1 (fine_spec (tif_fine false b c)).2.1 W)
    have FM := Lib.hid (fun W => fault7_ok (tme_list false b c) (fine_spec (tme_fine false b c)).2.2.2 (fine_spec (tme_fine false b c)).1 (fine_spec (tme_fine false b c)).2.1 W)
    have sa := kindB_size false
    have sb := kindB_size b
    have la := litB_size false
    have lb := litB_size b
    have lc := litB_size c
    go_enter Try.func10, Try.ntmps10
    go_wp2_with fail
    (with_reducible refine (awake7_any w).mono ?_)
    rintro e w1 ⟨rfl, hb1⟩
    have HB1 := Lib.hid hb1
    clear hb1
    go_wp2_with fail
    (with_reducible refine (kind7_any _ _).mono ?_)
    rintro e9 w9 ⟨rfl, rfl⟩
    go_wp2_with fail
    (with_reducible refine (lit7_any _ _).mono ?_)
    rintro e9 w9 ⟨rfl, rfl⟩
    go_wp2_with fail
    (with_reducible refine (lit7_any _ _).mono ?_)
    rintro e9 w9 ⟨rfl, rfl⟩
    go_wp2_with fail
    (with_reducible refine (lit7_any _ _).mono ?_)
    rintro e9 w9 ⟨rfl, rfl⟩
    go_wp2_with fail
    (with_reducible refine (FI.out _).mono ?_)
    rintro e9 w3 ⟨er, ea, rfl, hok, hb⟩
    have hfd := fun W => fld_bad0 er ea W
    have HB3 := Lib.hid (HB1.out.trans (hb.mono HB1.out.size))
    have HOK := Lib.hid hok
    clear hb hok
    go_wp2_with fail
    go_ret
    exact ⟨by rw [HOK.out]; simp, HB3.out⟩
  · have FI := Lib.hid (fun W => fault7_ok (tif_list false b c) (fine_spec (tif_fine false b c)).2.2.2 (fine_spec (tif_fine false b c)).1 (fine_spec (tif_fine false b c)).2.1 W)
    have FM := Lib.hid (fun W => fault7_ok (tme_list false b c) (fine_spec (tme_fine false b c)).2.2.2 (fine_spec (tme_fine false b c)).1 (fine_spec (tme_fine false b c)).2.1 W)
    have sa := kindB_size false
    have sb := kindB_size b
    have la := litB_size false
    have lb := litB_size b
    have lc := litB_size c
    go_enter Try.func10, Try.ntmps10
    go_wp2_with fail
    (with_reducible refine (awake7_any w).mono ?_)
    rintro e w1 ⟨rfl, hb1⟩
    have HB1 := Lib.hid hb1
    clear hb1
    go_wp2_with fail
    (with_reducible refine (kind7_any _ _).mono ?_)
    rintro e9 w9 ⟨rfl, rfl⟩
    go_wp2_with fail
    (with_reducible refine (lit7_any _ _).mono ?_)
    rintro e9 w9 ⟨rfl, rfl⟩
    go_wp2_with fail
    (with_reducible refine (lit7_any _ _).mono ?_)
    rintro e9 w9 ⟨rfl, rfl⟩
    go_wp2_with fail
    (with_reducible refine (lit7_any _ _).mono ?_)
    rintro e9 w9 ⟨rfl, rfl⟩
    go_wp2_with fail
    (with_reducible refine (kind7_any _ _).mono ?_)
    rintro e9 w9 ⟨rfl, rfl⟩
    go_wp2_with fail
    (with_reducible refine (kind7_any _ _).mono ?_)
    rintro e9 w9 ⟨rfl, rfl⟩
    go_wp2_with fail
    (with_reducible refine (lit7_any _ _).mono ?_)
    rintro e9 w9 ⟨rfl, rfl⟩
    go_wp2_with fail
    (with_reducible refine (lit7_any _ _).mono ?_)
    rintro e9 w9 ⟨rfl, rfl⟩
    go_wp2_with fail
    (with_reducible refine (FM.out _).mono ?_)
    rintro e9 w3 ⟨er, ea, rfl, hok, hb⟩
    have hfd := fun W => fld_bad0 er ea W
    have HB3 := Lib.hid (HB1.out.trans (hb.mono HB1.out.size))
    have HOK := Lib.hid hok
    clear hb hok
    go_wp2_with fail
    go_ret
    exact ⟨by rw [HOK.out]; simp, HB3.out⟩
  · have FI := Lib.hid (fun W => fault7_ok (tif_list true b c) (fine_spec (tif_fine true b c)).2.2.2 (fine_spec (tif_fine true b c)).1 (fine_spec (tif_fine true b c)).2.1 W)
    have FM := Lib.hid (fun W => fault7_ok (tme_list true b c) (fine_spec (tme_fine true b c)).2.2.2 (fine_spec (tme_fine true b c)).1 (fine_spec (tme_fine true b c)).2.1 W)
    have sa := kindB_size true
    have sb := kindB_size b
    have la := litB_size true
    have lb := litB_size b
    have lc := litB_size c
    go_enter Try.func10, Try.ntmps10
    go_wp2_with fail
    (with_reducible refine (awake7_any w).mono ?_)
    rintro e w1 ⟨rfl, hb1⟩
    have HB1 := Lib.hid hb1
    clear hb1
    go_wp2_with fail
    (with_reducible refine (kind7_any _ _).mono ?_)
    rintro e9 w9 ⟨rfl, rfl⟩
    go_wp2_with fail
    (with_reducible refine (lit7_any _ _).mono ?_)
    rintro e9 w9 ⟨rfl, rfl⟩
    go_wp2_with fail
    (with_reducible refine (lit7_any _ _).mono ?_)
    rintro e9 w9 ⟨rfl, rfl⟩
    go_wp2_with fail
    (with_reducible refine (lit7_any _ _).mono ?_)
    rintro e9 w9 ⟨rfl, rfl⟩
    go_wp2_with fail
    (with_reducible refine (FI.out _).mono ?_)
    rintro e9 w3 ⟨er, ea, rfl, hok, hb⟩
    have hfd := fun W => fld_bad0 er ea W
    have HB3 := Lib.hid (HB1.out.trans (hb.mono HB1.out.size))
    have HOK := Lib.hid hok
    clear hb hok
    go_wp2_with fail
    go_ret
    exact ⟨by rw [HOK.out]; simp, HB3.out⟩
  · have FI := Lib.hid (fun W => fault7_ok (tif_list true b c) (fine_spec (tif_fine true b c)).2.2.2 (fine_spec (tif_fine true b c)).1 (fine_spec (tif_fine true b c)).2.1 W)
    have FM := Lib.hid (fun W => fault7_ok (tme_list true b c) (fine_spec (tme_fine true b c)).2.2.2 (fine_spec (tme_fine true b c)).1 (fine_spec (tme_fine true b c)).2.1 W)
    have sa := kindB_size true
    have sb := kindB_size b
    have la := litB_size true
    have lb := litB_size b
    have lc := litB_size c
    go_enter Try.func10, Try.ntmps10
    go_wp2_with fail
    (with_reducible refine (awake7_any w).mono ?_)
    rintro e w1 ⟨rfl, hb1⟩
    have HB1 := Lib.hid hb1
    clear hb1
    go_wp2_with fail
    (with_reducible refine (kind7_any _ _).mono ?_)
    rintro e9 w9 ⟨rfl, rfl⟩
    go_wp2_with fail
    (with_reducible refine (lit7_any _ _).mono ?_)
    rintro e9 w9 ⟨rfl, rfl⟩
    go_wp2_with fail
    (with_reducible refine (lit7_any _ _).mono ?_)
    rintro e9 w9 ⟨rfl, rfl⟩
    go_wp2_with fail
    (with_reducible refine (lit7_any _ _).mono ?_)
    rintro e9 w9 ⟨rfl, rfl⟩
    go_wp2_with fail
    (with_reducible refine (kind7_any _ _).mono ?_)
    rintro e9 w9 ⟨rfl, rfl⟩
    go_wp2_with fail
    (with_reducible refine (kind7_any _ _).mono ?_)
    rintro e9 w9 ⟨rfl, rfl⟩
    go_wp2_with fail
    (with_reducible refine (lit7_any _ _).mono ?_)
    rintro e9 w9 ⟨rfl, rfl⟩
    go_wp2_with fail
    (with_reducible refine (lit7_any _ _).mono ?_)
    rintro e9 w9 ⟨rfl, rfl⟩
    go_wp2_with fail
    (with_reducible refine (FM.out _).mono ?_)
    rintro e9 w3 ⟨er, ea, rfl, hok, hb⟩
    have hfd := fun W => fld_bad0 er ea W
    have HB3 := Lib.hid (HB1.out.trans (hb.mono HB1.out.size))
    have HOK := Lib.hid hok
    clear hb hok
    go_wp2_with fail
    go_ret
    exact ⟨by rw [HOK.out]; simp, HB3.out⟩

set_option maxRecDepth 100000 in
theorem lifted (os : Os) (started : os.Started) (H : Type) (enc : TypeId × Value → H) :
    ReturnsInHanded {} Try.checked os 10 .any (Rows.typIfsSpec.pre6 enc Try.prog Try.f10 Rows.typIfsRow.domain false) (Rows.typIfsSpec.post enc Try.prog Try.f10 false true false false) := by
  refine returnsInHanded_of_change (C := Try.checked) own started (by kernel_rfl) Try.func10
    (ChangeSpec.witness6 (enc := enc) (C := Try.checked) false ⟨#[], #[.bool false, .bool false, .bool false, .bool false], []⟩ 8 (by kernel_rfl) (by kernel_rfl) (by kernel_rfl) (by kernel_rfl)) ?_
  intro W base args ds gs before hval0 hW hcnd _
  have hval : ∀ (j : Nat) t v, Try.f10.params[j]? = some t → args[j]? = some v → Value.okWide Try.prog W .any base t v := hval0
  have hW' := hW
  obtain ⟨p, q, hA0, hV, rfl, hfz, hnd⟩ := hW
  have hA : DataW.TrodAll enc Try.prog W 0 (fun _ => true) true Try.f10.params.toList args.toList ds p := hA0
  rw [Try.params10] at hA hval
  obtain ⟨v0, vs0, d0, ds0, p0, q0, hargs, rfl, rfl, h0, r0⟩ := trodAll_cons hA
  obtain ⟨v1, vs1, d1, ds1, p1, q1, rfl, rfl, rfl, h1, r1⟩ := trodAll_cons r0
  obtain ⟨v2, vs2, d2, ds2, p2, q2, rfl, rfl, rfl, h2, r2⟩ := trodAll_cons r1
  obtain ⟨v3, vs3, d3, ds3, p3, q3, rfl, rfl, rfl, h3, r3⟩ := trodAll_cons r2
  obtain ⟨rfl, rfl, rfl⟩ := trodAll_nil r3
  obtain rfl : args = #[v0, v1, v2, v3] := by cases args; simp_all
  obtain ⟨rfl, rfl⟩ := trodVars_none hV
  obtain ⟨a, rfl, rfl, rfl⟩ := open_bool Try.underlying4 (hval 0 4 v0 rfl rfl) h0
  obtain ⟨b, rfl, rfl, rfl⟩ := open_bool Try.underlying4 (hval 1 4 v1 rfl rfl) h1
  obtain ⟨c, rfl, rfl, rfl⟩ := open_bool Try.underlying4 (hval 2 4 v2 rfl rfl) h2
  obtain ⟨merge, rfl, rfl, rfl⟩ := open_bool Try.underlying4 (hval 3 4 v3 rfl rfl) h3
  clear hA0 hval0
  refine (walk a b c merge W).mono fun e W' ⟨he, bel⟩ => ?_
  subst he
  exact ⟨_, rfl, _, _, _, [], _, [], hW', trodAll_mk1 (shut_bool Try.underlying4 _), (trodAll_cons_mk (shut_bool Try.underlying4 a) (trodAll_cons_mk (shut_bool Try.underlying4 b) (trodAll_cons_mk (shut_bool Try.underlying4 c) (trodAll_cons_mk (shut_bool Try.underlying4 merge) trodAll_mk0)))), rfl, bel.frame _, fun h => by cases h⟩

theorem joined : joinedFacts Try.prog 10 Try.f10 Rows.typIfsSpec Rows.typIfsRow = true := by
  unfold joinedFacts
  rw [jf_laid, jf_maps, jf_plain, jf_heard, jf_may, jf_lifts, jf_make]
  repeat' (with_reducible refine Bool.and_eq_true_iff.2 ⟨?_, ?_⟩)
  all_goals as_aux_lemma => kernel_rfl

theorem over : Rows.typIfsRow.holds Try.pinned (OpenSpec.ofChange Rows.typIfsSpec) :=
  OpenClaim.holds_of_wide 10 Try.f10 rfl rfl rfl rfl rfl rfl rfl ⟨rfl, rfl, rfl, rfl, rfl⟩ rfl rfl rfl rfl rfl (by kernel_rfl) Try.func10 joined
    (of_decide_eq_true (by kernel_rfl)) (by unfold Func.isWrapper; first | (rw [if_pos (by decide +kernel)]; kernel_rfl) | (rw [if_neg (by decide +kernel)]; exact ⟨rfl, rfl⟩))
    (fun os started H enc _ => lifted os started H enc)

theorem proved : Rows.TypIfsSaid := over
#print axioms proved
end Go.Proofs.Ytbgngmnpepnflaa.typIfs
