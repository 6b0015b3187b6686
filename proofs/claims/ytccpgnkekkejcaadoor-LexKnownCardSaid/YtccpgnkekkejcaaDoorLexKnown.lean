/-
  Proved: LexKnown of escapementlaw4 returns true for every input, and leaves what it was handed as it was. No conditions.
-/
import Derived.Test.YtccpgnkekkejcaaDoorRows
import Derived.Test.YtccpgnkekkejcaaDoorArg
import Derived.Test.YtccpgnkekkejcaaDoorLaw
import Derived.WalkKit
import Derived.ProofKit
import Derived.OpenShut
import Derived.ShutString
import Derived.ChangeOld
import Derived.SizedLaws
import Derived.Test.YtccpgnkekkejcaaDoorLtb
import Derived.Test.YtccpgnkekkejcaaDoorTie
import Derived.Test.YtccpgnkekkejcaaDoorCards
import Derived.LaidMore
import Derived.Lay
import Derived.SevenTiedAt
import Derived.Stop.Joined
namespace Go.Proofs.YtccpgnkekkejcaaDoor.lexKnown
open Go.ChangeShapes Go.WideShapes Go.ChangeAt Go.RowKit
open Go.ChangeMaps (open_string shut_string)
set_option linter.unusedVariables false

theorem own : ownKnob Tryd.prog.godebug = none := by kernel_rfl
theorem laidOut : laidOutB Tryd.prog = true := by kernel_rfl

def big0 : ByteArray := ⟨(List.replicate 16385 0).toArray⟩
def longName : ByteArray := ⟨#[97, 98, 99, 100, 101, 102, 103, 104, 105, 106, 107, 108, 109, 110, 111, 112, 113, 114, 115, 116, 117, 118, 119, 120, 121]⟩
def great : ByteArray := ⟨#[57, 50, 50, 51, 51, 55, 50, 48, 51, 54, 56, 53, 52, 55, 55, 53, 56, 48, 56]⟩
def nought : ByteArray := ⟨#[48, 49]⟩
def last : ByteArray := ⟨#[57, 50, 50, 51, 51, 55, 50, 48, 51, 54, 56, 53, 52, 55, 55, 53, 56, 48, 55, 32, 45, 45, 32, 120, 10, 121]⟩
def WL : List (Nat × Nat × Int × Nat) := [(3, 19, 9223372036854775807, 0), (1, 1, 0, 25), (0, 0, 0, 26)]
theorem cut1_ : cutAll longName.data.toList = .error (7, 0) := by kernel_rfl
theorem cut2_ : cutAll great.data.toList = .error (7, 0) := by kernel_rfl
theorem cut3_ : cutAll nought.data.toList = .error (7, 0) := by kernel_rfl
theorem cut4_ : cutAll last.data.toList = .ok WL := by kernel_rfl
theorem size0 : big0.size = 16385 := List.length_replicate
theorem cut0_ : cutAll big0.data.toList = .error (2, 16385) := by
  have h : big0.data.toList.length = 16385 := size0
  unfold cutAll
  rw [h, if_pos (by decide)]
theorem bad_any (s : ByteArray) (a b : Nat) (hc : cutAll s.data.toList = .error (a, b)) (w : World) (hs : s.size ≤ 140737488351232) (hE : Errs w) : Calls Tryd.prog 9 #[.string s] w fun e w' => Below w.heap.size w w' ∧ e = .returned (.tuple #[.slice none 0 0, .agg #[.int .i64 (a : Int), .int .i64 (b : Int)]]) := by
  have hB := Cut_any s w hs hE
  unfold GivesCut at hB
  rw [hc] at hB
  exact hB
theorem wl2 : (wordsC last WL)[2]? = some (.int .i64 9223372036854775807) := by kernel_rfl
theorem good_last (w : World) (hE : Errs w) : Calls Tryd.prog 9 #[.string last] w fun e w' => Below w.heap.size w w' ∧ ∃ g c, e = .returned (.tuple #[.slice (some ⟨g, 0, none⟩) 3 c, .agg #[.int .i64 0, .int .i64 0]]) ∧ 3 ≤ c ∧ c ≤ maxLen ∧ g < w'.heap.size ∧ w'.cell? ⟨g, 2, none⟩ = some (.int .i64 9223372036854775807) := by
  have hA := Cut_any last w (by decide) hE
  unfold GivesCut at hA
  rw [cut4_] at hA
  refine hA.mono ?_
  rintro e w1 ⟨hb, v, rfl, hown⟩
  obtain ⟨g, c, rfl, hc, hcm, _, hgl, hcell⟩ := own_words hown (by decide)
  exact ⟨hb, g, c, rfl, hc, hcm, hgl, (hcell 2 (by decide)).trans wl2⟩

set_option maxHeartbeats 8000000 in
set_option maxRecDepth 100000 in
theorem walk (w : World) (hT : Errs w) :
    Calls Tryd.prog 3 #[] w fun e w' => e = .returned (.bool true) ∧ Below w.heap.size w w' := by
  have HT := Lib.hid hT
  clear hT
  go_enter Tryd.func3, Tryd.ntmps3
  go_wp2_with fail
  refine (awake_any w HT.out).mono ?_
  rintro e w1 ⟨rfl, hb1⟩
  have hE1 := HT.out.below hb1 (Nat.le_refl _)
  have hm2 := run_make_bytes 16385 (by omega) 16385 16385 rfl rfl w1
  have hb2 : Below w1.heap.size w1 (w1.alloc (.cells (Lib.byteCells (List.replicate 16385 0)).toArray 5)) := (Below.refl _ _).alloc (Nat.le_refl _) _
  have t2 := lit_txt w1 (List.replicate 16385 0) _ rfl 5 (0, 0)
  have kst := run_string (P := Tryd.prog) _ 29 5 9 Tryd.underlying29 Tryd.underlying5 Tryd.underlying9 _ _ 16385 t2
  rw [List.length_replicate] at kst
  obtain ⟨S0, hS0⟩ : ∃ S, S = big0 := ⟨_, rfl⟩
  have kst' : (convert 29 9 (.slice (some ⟨w1.heap.size, 0, none⟩) 16385 16385)).run Tryd.prog (w1.alloc (.cells (Lib.byteCells (List.replicate 16385 0)).toArray 5)) = .ok (.string S0) (w1.alloc (.cells (Lib.byteCells (List.replicate 16385 0)).toArray 5)) := by rw [hS0]; exact kst
  generalize w1.alloc (.cells (Lib.byteCells (List.replicate 16385 0)).toArray 5) = w2 at hm2 hb2 kst'
  have hE2 := hE1.below hb2 (Nat.le_refl _)
  have hB2 := hb1.trans (hb2.mono hb1.size)
  have c0 := bad_any big0 2 16385 cut0_ w2 (by rw [size0]; decide) hE2
  rw [← hS0] at c0
  have HE2 := Lib.hid hE2
  have HB2 := Lib.hid hB2
  clear t2 kst hS0 hE1 hE2 hb1 hb2 hB2
  go_wp2_with fail
  refine c0.mono ?_
  rintro e w3 ⟨hb3, rfl⟩
  have hb3a : Below w3.heap.size w3 (w3.alloc (.cells #[.int .i64 2, .int .i64 16385] 26)) := (Below.refl _ _).alloc (Nat.le_refl _) _
  have hE3 := (HE2.out.below hb3 (Nat.le_refl _)).below hb3a (Nat.le_refl _)
  have hB3 := HB2.out.trans (hb3.mono HB2.out.size)
  have hB3a := hB3.trans (hb3a.mono hB3.size)
  have hn3 := heap_alloc_new w3 (.cells #[.int .i64 2, .int .i64 16385] 26)
  have hz3 : w3.heap.size < (w3.alloc (.cells #[.int .i64 2, .int .i64 16385] 26)).heap.size := by simp
  have c3 := bad_any longName 7 0 cut1_ _ (by decide) hE3
  unfold longName at c3
  have HE3 := Lib.hid hE3
  have HB3 := Lib.hid hB3a
  have HR3_3 := Lib.hid hn3
  have HZ3_3 := Lib.hid hz3
  clear hb3 hb3a hE3 hB3 hB3a hn3 hz3 c0 hm2 kst'
  go_wp2_with fail
  refine c3.mono ?_
  rintro e w4 ⟨hb4, rfl⟩
  have hb4a : Below w4.heap.size w4 (w4.alloc (.cells #[.int .i64 7, .int .i64 0] 26)) := (Below.refl _ _).alloc (Nat.le_refl _) _
  have hE4 := (HE3.out.below hb4 (Nat.le_refl _)).below hb4a (Nat.le_refl _)
  have hB4 := HB3.out.trans (hb4.mono HB3.out.size)
  have hB4a := hB4.trans (hb4a.mono hB4.size)
  have hn4 := heap_alloc_new w4 (.cells #[.int .i64 7, .int .i64 0] 26)
  have hz4 : w4.heap.size < (w4.alloc (.cells #[.int .i64 7, .int .i64 0] 26)).heap.size := by simp
  have hr3_4 := (hb4a.block w3.heap.size (Nat.lt_of_lt_of_le HZ3_3.out hb4.size)).trans ((hb4.block w3.heap.size HZ3_3.out).trans HR3_3.out)
  have hz3_4 := Nat.lt_of_lt_of_le HZ3_3.out (Nat.le_trans hb4.size hb4a.size)
  have c4 := bad_any great 7 0 cut2_ _ (by decide) hE4
  unfold great at c4
  have HE4 := Lib.hid hE4
  have HB4 := Lib.hid hB4a
  have HR4_4 := Lib.hid hn4
  have HZ4_4 := Lib.hid hz4
  have HR3_4 := Lib.hid hr3_4
  have HZ3_4 := Lib.hid hz3_4
  clear hb4 hb4a hE4 hB4 hB4a hn4 hz4 hr3_4 hz3_4 c3
  go_wp2_with fail
  refine c4.mono ?_
  rintro e w5 ⟨hb5, rfl⟩
  have hb5a : Below w5.heap.size w5 (w5.alloc (.cells #[.int .i64 7, .int .i64 0] 26)) := (Below.refl _ _).alloc (Nat.le_refl _) _
  have hE5 := (HE4.out.below hb5 (Nat.le_refl _)).below hb5a (Nat.le_refl _)
  have hB5 := HB4.out.trans (hb5.mono HB4.out.size)
  have hB5a := hB5.trans (hb5a.mono hB5.size)
  have hn5 := heap_alloc_new w5 (.cells #[.int .i64 7, .int .i64 0] 26)
  have hz5 : w5.heap.size < (w5.alloc (.cells #[.int .i64 7, .int .i64 0] 26)).heap.size := by simp
  have hr3_5 := (hb5a.block w3.heap.size (Nat.lt_of_lt_of_le HZ3_4.out hb5.size)).trans ((hb5.block w3.heap.size HZ3_4.out).trans HR3_4.out)
  have hz3_5 := Nat.lt_of_lt_of_le HZ3_4.out (Nat.le_trans hb5.size hb5a.size)
  have hr4_5 := (hb5a.block w4.heap.size (Nat.lt_of_lt_of_le HZ4_4.out hb5.size)).trans ((hb5.block w4.heap.size HZ4_4.out).trans HR4_4.out)
  have hz4_5 := Nat.lt_of_lt_of_le HZ4_4.out (Nat.le_trans hb5.size hb5a.size)
  have c5 := bad_any nought 7 0 cut3_ _ (by decide) hE5
  unfold nought at c5
  have HE5 := Lib.hid hE5
  have HB5 := Lib.hid hB5a
  have HR5_5 := Lib.hid hn5
  have HZ5_5 := Lib.hid hz5
  have HR3_5 := Lib.hid hr3_5
  have HZ3_5 := Lib.hid hz3_5
  have HR4_5 := Lib.hid hr4_5
  have HZ4_5 := Lib.hid hz4_5
  clear hb5 hb5a hE5 hB5 hB5a hn5 hz5 hr3_5 hz3_5 hr4_5 hz4_5 c4
  go_wp2_with fail
  refine c5.mono ?_
  rintro e w6 ⟨hb6, rfl⟩
  have hb6a : Below w6.heap.size w6 (w6.alloc (.cells #[.int .i64 7, .int .i64 0] 26)) := (Below.refl _ _).alloc (Nat.le_refl _) _
  have hE6 := (HE5.out.below hb6 (Nat.le_refl _)).below hb6a (Nat.le_refl _)
  have hB6 := HB5.out.trans (hb6.mono HB5.out.size)
  have hB6a := hB6.trans (hb6a.mono hB6.size)
  have hn6 := heap_alloc_new w6 (.cells #[.int .i64 7, .int .i64 0] 26)
  have hz6 : w6.heap.size < (w6.alloc (.cells #[.int .i64 7, .int .i64 0] 26)).heap.size := by simp
  have hr3_6 := (hb6a.block w3.heap.size (Nat.lt_of_lt_of_le HZ3_5.out hb6.size)).trans ((hb6.block w3.heap.size HZ3_5.out).trans HR3_5.out)
  have hz3_6 := Nat.lt_of_lt_of_le HZ3_5.out (Nat.le_trans hb6.size hb6a.size)
  have hr4_6 := (hb6a.block w4.heap.size (Nat.lt_of_lt_of_le HZ4_5.out hb6.size)).trans ((hb6.block w4.heap.size HZ4_5.out).trans HR4_5.out)
  have hz4_6 := Nat.lt_of_lt_of_le HZ4_5.out (Nat.le_trans hb6.size hb6a.size)
  have hr5_6 := (hb6a.block w5.heap.size (Nat.lt_of_lt_of_le HZ5_5.out hb6.size)).trans ((hb6.block w5.heap.size HZ5_5.out).trans HR5_5.out)
  have hz5_6 := Nat.lt_of_lt_of_le HZ5_5.out (Nat.le_trans hb6.size hb6a.size)
  have c6 := good_last _ hE6
  unfold last at c6
  have HE6 := Lib.hid hE6
  have HB6 := Lib.hid hB6a
  have HR6_6 := Lib.hid hn6
  have HZ6_6 := Lib.hid hz6
  have HR3_6 := Lib.hid hr3_6
  have HZ3_6 := Lib.hid hz3_6
  have HR4_6 := Lib.hid hr4_6
  have HZ4_6 := Lib.hid hz4_6
  have HR5_6 := Lib.hid hr5_6
  have HZ5_6 := Lib.hid hz5_6
  clear hb6 hb6a hE6 hB6 hB6a hn6 hz6 hr3_6 hz3_6 hr4_6 hz4_6 hr5_6 hz5_6 c5
  go_wp2_with fail
  refine c6.mono ?_
  rintro e w7 ⟨hb7, g, c, rfl, hc, hcm, hgl, k2⟩
  have hB7 := HB6.out.trans (hb7.mono HB6.out.size)
  have r3 := (hb7.block w3.heap.size HZ3_6.out).trans HR3_6.out
  have z3 := Nat.lt_of_lt_of_le HZ3_6.out hb7.size
  have q3 := cell_of_row _ w3.heap.size 0 _ _ _ r3
  have r4 := (hb7.block w4.heap.size HZ4_6.out).trans HR4_6.out
  have z4 := Nat.lt_of_lt_of_le HZ4_6.out hb7.size
  have q4 := cell_of_row _ w4.heap.size 0 _ _ _ r4
  have r5 := (hb7.block w5.heap.size HZ5_6.out).trans HR5_6.out
  have z5 := Nat.lt_of_lt_of_le HZ5_6.out hb7.size
  have q5 := cell_of_row _ w5.heap.size 0 _ _ _ r5
  have r6 := (hb7.block w6.heap.size HZ6_6.out).trans HR6_6.out
  have z6 := Nat.lt_of_lt_of_le HZ6_6.out hb7.size
  have q6 := cell_of_row _ w6.heap.size 0 _ _ _ r6
  have HB7 := Lib.hid hB7
  clear hb7 hB7 r3 r4 r5 r6 c6
  go_wp2_with fail
  go_ret
  exact ⟨rfl, HB7.out.alloc HB7.out.size _⟩

set_option maxRecDepth 100000 in
theorem lifted (os : Os) (started : os.Started) (H : Type) (enc : TypeId × Value → H) :
    ReturnsInHanded {} Tryd.checked os 3 .any (fun w args => (Rows.lexKnownSpec.pre enc Tryd.prog Tryd.f3 Rows.lexKnownRow.domain false w args ∧ laidMetH Tryd.prog LAID w) ∧ sizedMet enc Tryd.prog Tryd.f3 (OpenSpec.ofChange Rows.lexKnownSpec) false w args) (Rows.lexKnownSpec.post enc Tryd.prog Tryd.f3 false true false false) := by
  refine returnsInHanded_of_change_and (C := Tryd.checked) (X := fun w _ => laidMetH Tryd.prog LAID w) (fun _ _ _ hh h => h.of_heap hh) own started (by kernel_rfl) Tryd.func3
    (ChangeSpec.witness_shaped (enc := enc) (C := Tryd.checked) (os := os) (X := fun w _ => laidMetH Tryd.prog LAID w) false (World.laidAll Tryd.prog os LAID) #[] 8 (World.laidAll_os _ _ _)
      (World.shaped_of_ZipB (by kernel_rfl) (by kernel_rfl)) (by kernel_rfl) (by kernel_rfl) (by kernel_rfl)
      (by rw [MakeChecks.laidMetH_plain _ _ _ (by kernel_rfl)]; exact laidMet_laidAll _ (by kernel_rfl) (by kernel_rfl))) ?_
  intro W base args ds gs before hval0 hW hcnd hsz0 hL _
  have hT : Errs W := tab_of (by rw [MakeChecks.laidMetH_plain _ _ _ (by kernel_rfl)] at hL; exact hL)
  have hval : ∀ (j : Nat) t v, Tryd.f3.params[j]? = some t → args[j]? = some v → Value.okWide Tryd.prog W .any base t v := hval0
  have hW' := hW
  obtain ⟨p, q, hA0, hV, rfl, hfz, hnd⟩ := hW
  have hA : DataW.TrodAll enc Tryd.prog W 0 (fun _ => true) true Tryd.f3.params.toList args.toList ds p := hA0
  rw [Tryd.params3] at hA hval
  obtain ⟨rfl, rfl, rfl⟩ := trodAll_none hA
  obtain ⟨rfl, rfl⟩ := trodVars_none hV
  clear hA0 hval0
  refine (walk W hT).mono fun e W' ⟨he, bel⟩ => ?_
  subst he
  exact ⟨_, rfl, _, _, _, [], _, [], hW', trodAll_mk1 (shut_bool Tryd.underlying4 _), trodAll_mk0, rfl, bel.frame _, fun h => by cases h⟩

theorem over : Rows.lexKnownRow.holds Tryd.pinned (OpenSpec.ofChange Rows.lexKnownSpec) :=
  OpenClaim.holds_of_wide 3 Tryd.f3 rfl rfl rfl rfl rfl rfl rfl ⟨rfl, rfl, rfl, rfl, rfl⟩ rfl rfl rfl rfl rfl (by kernel_rfl) Tryd.func3 (by kernel_rfl)
    (of_decide_eq_true (by kernel_rfl)) (by unfold Func.isWrapper; first | (rw [if_pos (by decide +kernel)]; kernel_rfl) | (rw [if_neg (by decide +kernel)]; exact ⟨rfl, rfl⟩))
    (fun os started H enc _ => lifted os started H enc)

set_option maxRecDepth 100000 in
theorem proved : Rows.LexKnownCardSaid :=
  Claim7.holds_tied_plain_at .later [] [.data, .data, .data, .sentinel, .sentinel] true Rows.lexKnownCard.stood.harness true over (fun _ h => by cases h) (by kernel_rfl) (fun _ h => by cases h) lexKnown_row_tie rfl ⟨rfl, rfl⟩ (by kernel_rfl) rfl
    (fun f fn hf hfn => by
      obtain rfl : f = 3 := Option.some.inj ((show Tryd.prog.funcNamed "escapement/escapementlaw4.LexKnown" = some 3 by kernel_rfl).symm.trans hf) |>.symm
      obtain rfl : fn = Tryd.f3 := (Option.some.inj (Tryd.func3.symm.trans hfn)).symm
      exact ⟨by kernel_rfl, fun j t ht => by
        rw [Tryd.params3] at ht
        have hm : t ∈ ([] : List TypeId) := by simpa using Array.mem_of_getElem? ht
        have hall : (([] : List TypeId).all fun u => !Tryd.prog.wantsStandIn u) = true := by kernel_rfl
        exact (show Tryd.prog.wantsStandIn t = false by simpa using List.all_eq_true.1 hall t hm)⟩)
    (by kernel_rfl)
#print axioms proved
end Go.Proofs.YtccpgnkekkejcaaDoor.lexKnown
