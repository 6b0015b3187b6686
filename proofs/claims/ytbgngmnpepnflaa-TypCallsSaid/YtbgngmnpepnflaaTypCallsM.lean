/-
  Proved: TypCalls of escapementlaw7 returns true for every input, and leaves what it was handed as it was. No conditions.
-/
import Derived.Test.YtbgngmnpepnflaaMe
import Derived.Test.YtbgngmnpepnflaaRows
import Derived.WalkKit
import Derived.ProofKit
import Derived.OpenShut
import Derived.ShutString
import Derived.ChangeOld
import Derived.SizedLaws
namespace Go.Proofs.Ytbgngmnpepnflaa.typCalls
open Go.ChangeShapes Go.WideShapes Go.ChangeAt Go.RowKit
open Go.ChangeMaps (open_string shut_string)
set_option linter.unusedVariables false

theorem own : ownKnob Try.prog.godebug = none := by kernel_rfl
theorem laidOut : laidOutB Try.prog = true := by kernel_rfl

theorem parse7_ok {t : ByteArray} {L : List UInt8} (ht : t.data.toList = L) (hl : L.length ≤ 1000) (h : perL L = 0) (w : World) : Calls Try.prog 14 #[.string t] w (fun e w' => ∃ x n c q, e = .returned (.tuple #[.slice x n c, .agg #[.int .i64 0, .int .i64 q]]) ∧ Below w.heap.size w w') := by
  have hs : t.size ≤ 1000 := by
    have : t.data.toList.length = t.size := by simp
    rw [ht] at this; omega
  refine (parse_at t w (by omega)).mono ?_
  rintro e9 w' ⟨x, c, rfl, _, hb⟩
  rw [perOf_list, ht, h]
  exact ⟨_, _, _, _, rfl, hb⟩

set_option maxHeartbeats 8000000 in
set_option maxRecDepth 100000 in
theorem walk (a : Bool) (b : Bool) (out : Bool) (x : Bool) (y : Bool) (z : Bool) (w : World) :
    Calls Try.prog 9 #[.bool a, .bool b, .bool out, .bool x, .bool y, .bool z] w fun e w' => e = .returned (.bool true) ∧ Below w.heap.size w w' := by
  have FI := Lib.hid (fun W => fault7_ok (tca_list a b out x y z) (fine_spec (tca_fine a b out x y z)).2.2.2 (fine_spec (tca_fine a b out x y z)).1 (fine_spec (tca_fine a b out x y z)).2.1 W)
  have FP := Lib.hid (fun W => parse7_ok (tca_list a b out x y z) (fine_spec (tca_fine a b out x y z)).2.2.2 (fine_spec (tca_fine a b out x y z)).2.2.1 W)
  have HSB := Lib.hid size_bad
  have sa := kindB_size a
  have la := litB_size a
  have sb := kindB_size b
  have lb := litB_size b
  have sout := kindB_size out
  have lout := litB_size out
  have sx := kindB_size x
  have lx := litB_size x
  have sy := kindB_size y
  have ly := litB_size y
  have sz := kindB_size z
  have lz := litB_size z
  cases h1 : (a == x) with
  | false =>
    go_enter Try.func9, Try.ntmps9
    go_wp2_with fail
    (with_reducible refine (awake7_any w).mono ?_)
    rintro e w1 ⟨rfl, hb1⟩
    have HB1 := Lib.hid hb1
    clear hb1
    go_wp2_with fail
    (with_reducible refine (kind7_any _ _).mono ?_)
    rintro e9 w9 ⟨rfl, rfl⟩
    go_wp2_with fail
    (with_reducible refine (kind7_any _ _).mono ?_)
    rintro e9 w9 ⟨rfl, rfl⟩
    go_wp2_with fail
    (with_reducible refine (kind7_any _ _).mono ?_)
    rintro e9 w9 ⟨rfl, rfl⟩
    go_wp2_with fail
    (with_reducible refine (lit7_any _ _).mono ?_)
    rintro e9 w9 ⟨rfl, rfl⟩
    go_wp2_with fail
    (with_reducible refine (kind7_any _ _).mono ?_)
    rintro e9 w9 ⟨rfl, rfl⟩
    go_wp2_with fail
    (with_reducible refine (lit7_any _ _).mono ?_)
    rintro e9 w9 ⟨rfl, rfl⟩
    go_wp2_with fail
    (with_reducible refine (lit7_any _ _).mono ?_)
    rintro e9 w9 ⟨rfl, rfl⟩
    go_wp2_with fail
    (with_reducible refine (FP.out _).mono ?_)
    rintro e9 w3 ⟨px, pn, pc, pq, rfl, hb⟩
    have F1 := ((((Fx.start w).call HB1.out).call hb).alloc w3.heap.size rfl 26 #[.int .i64 0, .int .i64 0])
    have F2 := F1.store 0 rfl #[.int .i64 0, .int .i64 pq]
    have HN1 := Lib.hid (F1.get 0 rfl)
    have c0 := cell_of_row _ w3.heap.size 0 _ _ _ (F2.get 0 rfl)
    have HF2 := Lib.hid F2
    clear F1 F2 hb
    go_wp2_with (refine wpList_store_row rfl 26 (.tmp 15) (.tmp 50) rfl w3.heap.size #[.int .i64 0, .int .i64 pq] rfl rfl 26 _ HN1.out HSB.out rfl (fault_one _ _) ?_)
    (with_reducible refine (FI.out _).mono ?_)
    rintro e9 w4 ⟨er, ea, rfl, hok, hb⟩
    have hfd := fun W => fld_bad0 er ea W
    have HF4 := Lib.hid (HF2.out.call hb)
    have HOK := Lib.hid hok
    clear hb hok c0
    go_wp2_with fail
    go_ret
    exact ⟨by rw [HOK.out, h1]; simp, HF4.out.below⟩
  | true =>
    cases h2 : (b == y) with
    | false =>
      go_enter Try.func9, Try.ntmps9
      go_wp2_with fail
      (with_reducible refine (awake7_any w).mono ?_)
      rintro e w1 ⟨rfl, hb1⟩
      have HB1 := Lib.hid hb1
      clear hb1
      go_wp2_with fail
      (with_reducible refine (kind7_any _ _).mono ?_)
      rintro e9 w9 ⟨rfl, rfl⟩
      go_wp2_with fail
      (with_reducible refine (kind7_any _ _).mono ?_)
      rintro e9 w9 ⟨rfl, rfl⟩
      go_wp2_with fail
      (with_reducible refine (kind7_any _ _).mono ?_)
      rintro e9 w9 ⟨rfl, rfl⟩
      go_wp2_with fail
      (with_reducible refine (lit7_any _ _).mono ?_)
      rintro e9 w9 ⟨rfl, rfl⟩
      go_wp2_with fail
      (with_reducible refine (kind7_any _ _).mono ?_)
      rintro e9 w9 ⟨rfl, rfl⟩
      go_wp2_with fail
      (with_reducible refine (lit7_any _ _).mono ?_)
      rintro e9 w9 ⟨rfl, rfl⟩
      go_wp2_with fail
      (with_reducible refine (lit7_any _ _).mono ?_)
      rintro e9 w9 ⟨rfl, rfl⟩
      go_wp2_with fail
      (with_reducible refine (FP.out _).mono ?_)
      rintro e9 w3 ⟨px, pn, pc, pq, rfl, hb⟩
      have F1 := ((((Fx.start w).call HB1.out).call hb).alloc w3.heap.size rfl 26 #[.int .i64 0, .int .i64 0])
      have F2 := F1.store 0 rfl #[.int .i64 0, .int .i64 pq]
      have HN1 := Lib.hid (F1.get 0 rfl)
      have c0 := cell_of_row _ w3.heap.size 0 _ _ _ (F2.get 0 rfl)
      have HF2 := Lib.hid F2
      clear F1 F2 hb
      go_wp2_with (refine wpList_store_row rfl 26 (.tmp 15) (.tmp 50) rfl w3.heap.size #[.int .i64 0, .int .i64 pq] rfl rfl 26 _ HN1.out HSB.out rfl (fault_one _ _) ?_)
      (with_reducible refine (FI.out _).mono ?_)
      rintro e9 w4 ⟨er, ea, rfl, hok, hb⟩
      have hfd := fun W => fld_bad0 er ea W
      have HF4 := Lib.hid (HF2.out.call hb)
      have HOK := Lib.hid hok
      clear hb hok c0
      go_wp2_with fail
      go_ret
      exact ⟨by rw [HOK.out, h1, h2]; simp, HF4.out.below⟩
    | true =>
      go_enter Try.func9, Try.ntmps9
      go_wp2_with fail
      (with_reducible refine (awake7_any w).mono ?_)
      rintro e w1 ⟨rfl, hb1⟩
      have HB1 := Lib.hid hb1
      clear hb1
      go_wp2_with fail
      (with_reducible refine (kind7_any _ _).mono ?_)
      rintro e9 w9 ⟨rfl, rfl⟩
      go_wp2_with fail
      (with_reducible refine (kind7_any _ _).mono ?_)
      rintro e9 w9 ⟨rfl, rfl⟩
      go_wp2_with fail
      (with_reducible refine (kind7_any _ _).mono ?_)
      rintro e9 w9 ⟨rfl, rfl⟩
      go_wp2_with fail
      (with_reducible refine (lit7_any _ _).mono ?_)
      rintro e9 w9 ⟨rfl, rfl⟩
      go_wp2_with fail
      (with_reducible refine (kind7_any _ _).mono ?_)
      rintro e9 w9 ⟨rfl, rfl⟩
      go_wp2_with fail
      (with_reducible refine (lit7_any _ _).mono ?_)
      rintro e9 w9 ⟨rfl, rfl⟩
      go_wp2_with fail
      (with_reducible refine (lit7_any _ _).mono ?_)
      rintro e9 w9 ⟨rfl, rfl⟩
      go_wp2_with fail
      (with_reducible refine (FP.out _).mono ?_)
      rintro e9 w3 ⟨px, pn, pc, pq, rfl, hb⟩
      have F1 := ((((Fx.start w).call HB1.out).call hb).alloc w3.heap.size rfl 26 #[.int .i64 0, .int .i64 0])
      have F2 := F1.store 0 rfl #[.int .i64 0, .int .i64 pq]
      have HN1 := Lib.hid (F1.get 0 rfl)
      have c0 := cell_of_row _ w3.heap.size 0 _ _ _ (F2.get 0 rfl)
      have HF2 := Lib.hid F2
      clear F1 F2 hb
      go_wp2_with (refine wpList_store_row rfl 26 (.tmp 15) (.tmp 50) rfl w3.heap.size #[.int .i64 0, .int .i64 pq] rfl rfl 26 _ HN1.out HSB.out rfl (fault_one _ _) ?_)
      (with_reducible refine (FI.out _).mono ?_)
      rintro e9 w4 ⟨er, ea, rfl, hok, hb⟩
      have hfd := fun W => fld_bad0 er ea W
      have HF4 := Lib.hid (HF2.out.call hb)
      have HOK := Lib.hid hok
      clear hb hok c0
      go_wp2_with fail
      go_ret
      exact ⟨by rw [HOK.out, h1, h2]; simp, HF4.out.below⟩

set_option maxRecDepth 100000 in
theorem lifted (os : Os) (started : os.Started) (H : Type) (enc : TypeId × Value → H) :
    ReturnsInHanded {} Try.checked os 9 .any (Rows.typCallsSpec.pre6 enc Try.prog Try.f9 Rows.typCallsRow.domain false) (Rows.typCallsSpec.post enc Try.prog Try.f9 false true false false) := by
  refine returnsInHanded_of_change (C := Try.checked) own started (by kernel_rfl) Try.func9
    (ChangeSpec.witness6 (enc := enc) (C := Try.checked) false ⟨#[], #[.bool false, .bool false, .bool false, .bool false, .bool false, .bool false], []⟩ 8 (by kernel_rfl) (by kernel_rfl) (by kernel_rfl) (by kernel_rfl)) ?_
  intro W base args ds gs before hval0 hW hcnd _
  have hval : ∀ (j : Nat) t v, Try.f9.params[j]? = some t → args[j]? = some v → Value.okWide Try.prog W .any base t v := hval0
  have hW' := hW
  obtain ⟨p, q, hA0, hV, rfl, hfz, hnd⟩ := hW
  have hA : DataW.TrodAll enc Try.prog W 0 (fun _ => true) true Try.f9.params.toList args.toList ds p := hA0
  rw [Try.params9] at hA hval
  obtain ⟨v0, vs0, d0, ds0, p0, q0, hargs, rfl, rfl, h0, r0⟩ := trodAll_cons hA
  obtain ⟨v1, vs1, d1, ds1, p1, q1, rfl, rfl, rfl, h1, r1⟩ := trodAll_cons r0
  obtain ⟨v2, vs2, d2, ds2, p2, q2, rfl, rfl, rfl, h2, r2⟩ := trodAll_cons r1
  obtain ⟨v3, vs3, d3, ds3, p3, q3, rfl, rfl, rfl, h3, r3⟩ := trodAll_cons r2
  obtain ⟨v4, vs4, d4, ds4, p4, q4, rfl, rfl, rfl, h4, r4⟩ := trodAll_cons r3
  obtain ⟨v5, vs5, d5, ds5, p5, q5, rfl, rfl, rfl, h5, r5⟩ := trodAll_cons r4
  obtain ⟨rfl, rfl, rfl⟩ := trodAll_nil r5
  obtain rfl : args = #[v0, v1, v2, v3, v4, v5] := by cases args; simp_all
  obtain ⟨rfl, rfl⟩ := trodVars_none hV
  obtain ⟨a, rfl, rfl, rfl⟩ := open_bool Try.underlying4 (hval 0 4 v0 rfl rfl) h0
  obtain ⟨b, rfl, rfl, rfl⟩ := open_bool Try.underlying4 (hval 1 4 v1 rfl rfl) h1
  obtain ⟨out, rfl, rfl, rfl⟩ := open_bool Try.underlying4 (hval 2 4 v2 rfl rfl) h2
  obtain ⟨x, rfl, rfl, rfl⟩ := open_bool Try.underlying4 (hval 3 4 v3 rfl rfl) h3
  obtain ⟨y, rfl, rfl, rfl⟩ := open_bool Try.underlying4 (hval 4 4 v4 rfl rfl) h4
  obtain ⟨z, rfl, rfl, rfl⟩ := open_bool Try.underlying4 (hval 5 4 v5 rfl rfl) h5
  clear hA0 hval0
  refine (walk a b out x y z W).mono fun e W' ⟨he, bel⟩ => ?_
  subst he
  exact ⟨_, rfl, _, _, _, [], _, [], hW', trodAll_mk1 (shut_bool Try.underlying4 _), (trodAll_cons_mk (shut_bool Try.underlying4 a) (trodAll_cons_mk (shut_bool Try.underlying4 b) (trodAll_cons_mk (shut_bool Try.underlying4 out) (trodAll_cons_mk (shut_bool Try.underlying4 x) (trodAll_cons_mk (shut_bool Try.underlying4 y) (trodAll_cons_mk (shut_bool Try.underlying4 z) trodAll_mk0)))))), rfl, bel.frame _, fun h => by cases h⟩

theorem joined : joinedFacts Try.prog 9 Try.f9 Rows.typCallsSpec Rows.typCallsRow = true := by
  unfold joinedFacts
  rw [jf_laid, jf_maps, jf_plain, jf_heard, jf_may, jf_lifts, jf_make]
  repeat' (with_reducible refine Bool.and_eq_true_iff.2 ⟨?_, ?_⟩)
  all_goals as_aux_lemma => kernel_rfl

theorem over : Rows.typCallsRow.holds Try.pinned (OpenSpec.ofChange Rows.typCallsSpec) :=
  OpenClaim.holds_of_wide 9 Try.f9 rfl rfl rfl rfl rfl rfl rfl ⟨rfl, rfl, rfl, rfl, rfl⟩ rfl rfl rfl rfl rfl (by kernel_rfl) Try.func9 joined
    (of_decide_eq_true (by kernel_rfl)) (by unfold Func.isWrapper; first | (rw [if_pos (by decide +kernel)]; kernel_rfl) | (rw [if_neg (by decide +kernel)]; exact ⟨rfl, rfl⟩))
    (fun os started H enc _ => lifted os started H enc)

theorem proved : Rows.TypCallsSaid := over
#print axioms proved
end Go.Proofs.Ytbgngmnpepnflaa.typCalls
