/-
  Proved: TypKnown of escapementlaw7 returns true for every input, and leaves what it was handed as it was. No conditions.
-/
import Derived.Test.YtbgngmnpepnflaaMe
import Derived.Test.YtbgngmnpepnflaaRows
import Derived.WalkKit
import Derived.ProofKit
import Derived.OpenShut
import Derived.ShutString
import Derived.ChangeOld
import Derived.SizedLaws
namespace Go.Proofs.Ytbgngmnpepnflaa.typKnown
open Go.ChangeShapes Go.WideShapes Go.ChangeAt Go.RowKit
open Go.ChangeMaps (open_string shut_string)
set_option linter.unusedVariables false

theorem own : ownKnob Try.prog.godebug = none := by kernel_rfl
theorem laidOut : laidOutB Try.prog = true := by kernel_rfl

/-- A text whose first fault is known. -/
theorem fault7_val {t : ByteArray} {L : List UInt8} {a : Nat} (ht : t.data.toList = L) (hl : L.length ≤ 1000) (h1 : (treeL L).all okNd = true) (h2 : typF (treeL L) = some a) (w : World) : Calls Try.prog 18 #[.string t] w (fun e w' => e = .returned (.agg #[.int .i64 9, .int .i64 (a : Int)]) ∧ Below w.heap.size w w') := by
  have e : treeOf t = treeL L := by rw [treeOf_list, ht]
  have hs : t.size ≤ 1000 := by
    have : t.data.toList.length = t.size := by simp
    rw [ht] at this; omega
  refine (fault7_any t w (by omega) (by rw [e]; exact okNd_all h1)).mono ?_
  rintro e9 w' ⟨rfl, hb⟩
  rw [e, h2]
  exact ⟨rfl, hb⟩
theorem k7_ok0 : (treeL [110, 111, 100, 101, 32, 102, 40, 41, 32, 114, 101, 116, 117, 114, 110, 115, 32, 40, 121, 58, 32, 105, 110, 116, 41, 59, 32, 108, 101, 116, 32, 121, 32, 61, 32, 116, 114, 117, 101, 59, 32, 116, 101, 108]).all okNd = true := by kernel_rfl
theorem k7_at0 : typF (treeL [110, 111, 100, 101, 32, 102, 40, 41, 32, 114, 101, 116, 117, 114, 110, 115, 32, 40, 121, 58, 32, 105, 110, 116, 41, 59, 32, 108, 101, 116, 32, 121, 32, 61, 32, 116, 114, 117, 101, 59, 32, 116, 101, 108]) = some 31 := by kernel_rfl
theorem k7_any0 (w : World) : Calls Try.prog 18 #[.string (⟨#[110, 111, 100, 101, 32, 102, 40, 41, 32, 114, 101, 116, 117, 114, 110, 115, 32, 40, 121, 58, 32, 105, 110, 116, 41, 59, 32, 108, 101, 116, 32, 121, 32, 61, 32, 116, 114, 117, 101, 59, 32, 116, 101, 108]⟩ : ByteArray)] w (fun e w' => e = .returned (.agg #[.int .i64 9, .int .i64 31]) ∧ Below w.heap.size w w') := fault7_val (L := [110, 111, 100, 101, 32, 102, 40, 41, 32, 114, 101, 116, 117, 114, 110, 115, 32, 40, 121, 58, 32, 105, 110, 116, 41, 59, 32, 108, 101, 116, 32, 121, 32, 61, 32, 116, 114, 117, 101, 59, 32, 116, 101, 108]) rfl (by decide) k7_ok0 k7_at0 w
theorem k7_ok1 : (treeL [110, 111, 100, 101, 32, 102, 40, 120, 58, 32, 105, 110, 116, 41, 32, 114, 101, 116, 117, 114, 110, 115, 32, 40, 121, 58, 32, 105, 110, 116, 41, 59, 32, 118, 97, 114, 32, 116, 58, 32, 105, 110, 116, 32, 119, 104, 101, 110, 32, 120, 59, 32, 108, 101, 116, 32, 121, 32, 61, 32, 49, 59, 32, 116, 32, 61, 32, 49, 59, 32, 116, 101, 108]).all okNd = true := by kernel_rfl
theorem k7_at1 : typF (treeL [110, 111, 100, 101, 32, 102, 40, 120, 58, 32, 105, 110, 116, 41, 32, 114, 101, 116, 117, 114, 110, 115, 32, 40, 121, 58, 32, 105, 110, 116, 41, 59, 32, 118, 97, 114, 32, 116, 58, 32, 105, 110, 116, 32, 119, 104, 101, 110, 32, 120, 59, 32, 108, 101, 116, 32, 121, 32, 61, 32, 49, 59, 32, 116, 32, 61, 32, 49, 59, 32, 116, 101, 108]) = some 37 := by kernel_rfl
theorem k7_any1 (w : World) : Calls Try.prog 18 #[.string (⟨#[110, 111, 100, 101, 32, 102, 40, 120, 58, 32, 105, 110, 116, 41, 32, 114, 101, 116, 117, 114, 110, 115, 32, 40, 121, 58, 32, 105, 110, 116, 41, 59, 32, 118, 97, 114, 32, 116, 58, 32, 105, 110, 116, 32, 119, 104, 101, 110, 32, 120, 59, 32, 108, 101, 116, 32, 121, 32, 61, 32, 49, 59, 32, 116, 32, 61, 32, 49, 59, 32, 116, 101, 108]⟩ : ByteArray)] w (fun e w' => e = .returned (.agg #[.int .i64 9, .int .i64 37]) ∧ Below w.heap.size w w') := fault7_val (L := [110, 111, 100, 101, 32, 102, 40, 120, 58, 32, 105, 110, 116, 41, 32, 114, 101, 116, 117, 114, 110, 115, 32, 40, 121, 58, 32, 105, 110, 116, 41, 59, 32, 118, 97, 114, 32, 116, 58, 32, 105, 110, 116, 32, 119, 104, 101, 110, 32, 120, 59, 32, 108, 101, 116, 32, 121, 32, 61, 32, 49, 59, 32, 116, 32, 61, 32, 49, 59, 32, 116, 101, 108]) rfl (by decide) k7_ok1 k7_at1 w
theorem k7_ok2 : (treeL [110, 111, 100, 101, 32, 102, 40, 120, 58, 32, 105, 110, 116, 41, 32, 114, 101, 116, 117, 114, 110, 115, 32, 40, 121, 58, 32, 105, 110, 116, 41, 59, 32, 108, 101, 116, 32, 121, 32, 61, 32, 109, 101, 114, 103, 101, 32, 120, 32, 49, 32, 50, 59, 32, 116, 101, 108]).all okNd = true := by kernel_rfl
theorem k7_at2 : typF (treeL [110, 111, 100, 101, 32, 102, 40, 120, 58, 32, 105, 110, 116, 41, 32, 114, 101, 116, 117, 114, 110, 115, 32, 40, 121, 58, 32, 105, 110, 116, 41, 59, 32, 108, 101, 116, 32, 121, 32, 61, 32, 109, 101, 114, 103, 101, 32, 120, 32, 49, 32, 50, 59, 32, 116, 101, 108]) = some 41 := by kernel_rfl
theorem k7_any2 (w : World) : Calls Try.prog 18 #[.string (⟨#[110, 111, 100, 101, 32, 102, 40, 120, 58, 32, 105, 110, 116, 41, 32, 114, 101, 116, 117, 114, 110, 115, 32, 40, 121, 58, 32, 105, 110, 116, 41, 59, 32, 108, 101, 116, 32, 121, 32, 61, 32, 109, 101, 114, 103, 101, 32, 120, 32, 49, 32, 50, 59, 32, 116, 101, 108]⟩ : ByteArray)] w (fun e w' => e = .returned (.agg #[.int .i64 9, .int .i64 41]) ∧ Below w.heap.size w w') := fault7_val (L := [110, 111, 100, 101, 32, 102, 40, 120, 58, 32, 105, 110, 116, 41, 32, 114, 101, 116, 117, 114, 110, 115, 32, 40, 121, 58, 32, 105, 110, 116, 41, 59, 32, 108, 101, 116, 32, 121, 32, 61, 32, 109, 101, 114, 103, 101, 32, 120, 32, 49, 32, 50, 59, 32, 116, 101, 108]) rfl (by decide) k7_ok2 k7_at2 w
theorem typOf_out (w : World) (o m : ByteArray) (k a : Int) (x : Option Addr) (n c : Nat) : Calls Try.prog 19 #[.slice none 0 0, .int .i64 0, .agg #[.string o, .string m, .int .i64 k, .int .i64 a, .slice x n c]] w (fun e w' => e = .returned (.int .i64 0) ∧ Below w.heap.size w w') := by
  have hb : Below w.heap.size w (w.alloc (.cells #[.string o, .string m, .int .i64 k, .int .i64 a, .slice x n c] 41)) := (Below.refl _ _).alloc (Nat.le_refl _) _
  have HB := Lib.hid hb
  clear hb
  go_enter Try.func19, Try.ntmps19
  go_wp2_with fail
  go_ret
  exact ⟨rfl, HB.out⟩

set_option maxHeartbeats 8000000 in
set_option maxRecDepth 100000 in
theorem walk (w : World) :
    Calls Try.prog 6 #[] w fun e w' => e = .returned (.bool true) ∧ Below w.heap.size w w' := by
  go_enter Try.func6, Try.ntmps6
  go_wp2_with fail
  (with_reducible refine (awake7_any w).mono ?_)
  rintro e w1 ⟨rfl, hb1⟩
  have HB1 := Lib.hid hb1
  clear hb1
  go_wp2_with fail
  (with_reducible refine (k7_any0 _).mono ?_)
  rintro e w2 ⟨rfl, hb⟩
  have HB2 := Lib.hid (HB1.out.trans (hb.mono HB1.out.size))
  have hfd0 := fun W => fld_bad1 9 31 W
  clear hb
  go_wp2_with fail
  (with_reducible refine (k7_any1 _).mono ?_)
  rintro e w3 ⟨rfl, hb⟩
  have HB3 := Lib.hid (HB2.out.trans (hb.mono HB2.out.size))
  have hfd1 := fun W => fld_bad1 9 37 W
  clear hb
  go_wp2_with fail
  (with_reducible refine (k7_any2 _).mono ?_)
  rintro e w4 ⟨rfl, hb⟩
  have HB4 := Lib.hid (HB3.out.trans (hb.mono HB3.out.size))
  have hfd2 := fun W => fld_bad1 9 41 W
  clear hb
  have kb := back_lt (SizeOf.sizeOf (Ex.mk (⟨#[105, 110, 116]⟩ : ByteArray) ⟨#[]⟩ 0 0 []) + 1) (Ex.mk (⟨#[105, 110, 116]⟩ : ByteArray) ⟨#[]⟩ 0 0 []) (Nat.lt_succ_self _) w4 (fun _ => True) none 0 (IsD.nil (Nat.zero_le _))
  unfold exV at kb
  have kb : Calls Try.prog 20 #[.agg #[.string (⟨#[105, 110, 116]⟩ : ByteArray), .string ⟨#[]⟩, .int .i64 0, .int .i64 0, .slice none 0 0]] w4 (GivesB (Ex.mk (⟨#[105, 110, 116]⟩ : ByteArray) ⟨#[]⟩ 0 0 []) w4) := kb
  unfold GivesB exV at kb
  go_wp2_with fail
  (with_reducible refine kb.mono ?_)
  rintro e w5 ⟨x, c, rfl, _, hb⟩
  have HB5 := Lib.hid (HB4.out.trans (hb.mono HB4.out.size))
  clear hb kb
  go_wp2_with fail
  (with_reducible refine (typOf_out _ _ _ _ _ _ _ _).mono ?_)
  rintro e w6 ⟨rfl, hb⟩
  have HB6 := Lib.hid (HB5.out.trans (hb.mono HB5.out.size))
  clear hb
  go_wp2_with fail
  go_ret
  exact ⟨rfl, HB6.out⟩

set_option maxRecDepth 100000 in
theorem lifted (os : Os) (started : os.Started) (H : Type) (enc : TypeId × Value → H) :
    ReturnsInHanded {} Try.checked os 6 .any (Rows.typKnownSpec.pre6 enc Try.prog Try.f6 Rows.typKnownRow.domain false) (Rows.typKnownSpec.post enc Try.prog Try.f6 false true false false) := by
  refine returnsInHanded_of_change (C := Try.checked) own started (by kernel_rfl) Try.func6
    (ChangeSpec.witness6 (enc := enc) (C := Try.checked) false ⟨#[], #[], []⟩ 8 (by kernel_rfl) (by kernel_rfl) (by kernel_rfl) (by kernel_rfl)) ?_
  intro W base args ds gs before hval0 hW hcnd _
  have hval : ∀ (j : Nat) t v, Try.f6.params[j]? = some t → args[j]? = some v → Value.okWide Try.prog W .any base t v := hval0
  have hW' := hW
  obtain ⟨p, q, hA0, hV, rfl, hfz, hnd⟩ := hW
  have hA : DataW.TrodAll enc Try.prog W 0 (fun _ => true) true Try.f6.params.toList args.toList ds p := hA0
  rw [Try.params6] at hA hval
  obtain ⟨rfl, rfl, rfl⟩ := trodAll_none hA
  obtain ⟨rfl, rfl⟩ := trodVars_none hV
  clear hA0 hval0
  refine (walk W).mono fun e W' ⟨he, bel⟩ => ?_
  subst he
  exact ⟨_, rfl, _, _, _, [], _, [], hW', trodAll_mk1 (shut_bool Try.underlying4 _), trodAll_mk0, rfl, bel.frame _, fun h => by cases h⟩

theorem joined : joinedFacts Try.prog 6 Try.f6 Rows.typKnownSpec Rows.typKnownRow = true := by
  unfold joinedFacts
  rw [jf_laid, jf_maps, jf_plain, jf_heard, jf_may, jf_lifts, jf_make]
  repeat' (with_reducible refine Bool.and_eq_true_iff.2 ⟨?_, ?_⟩)
  all_goals as_aux_lemma => kernel_rfl

theorem over : Rows.typKnownRow.holds Try.pinned (OpenSpec.ofChange Rows.typKnownSpec) :=
  OpenClaim.holds_of_wide 6 Try.f6 rfl rfl rfl rfl rfl rfl rfl ⟨rfl, rfl, rfl, rfl, rfl⟩ rfl rfl rfl rfl rfl (by kernel_rfl) Try.func6 joined
    (of_decide_eq_true (by kernel_rfl)) (by unfold Func.isWrapper; first | (rw [if_pos (by decide +kernel)]; kernel_rfl) | (rw [if_neg (by decide +kernel)]; exact ⟨rfl, rfl⟩))
    (fun os started H enc _ => lifted os started H enc)

theorem proved : Rows.TypKnownSaid := over
#print axioms proved
end Go.Proofs.Ytbgngmnpepnflaa.typKnown
