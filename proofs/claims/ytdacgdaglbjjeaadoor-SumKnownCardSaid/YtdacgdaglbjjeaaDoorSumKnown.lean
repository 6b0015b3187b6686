/-
  Proved: SumKnown of escapementlaw2 returns true for every input, and leaves what it was handed as it was. No conditions.
-/
import Derived.Test.YtdacgdaglbjjeaaDoorRows
import Derived.Test.YtdacgdaglbjjeaaDoorArg
import Derived.Test.YtdacgdaglbjjeaaDoorSawk
import Derived.WalkKit
import Derived.ProofKit
import Derived.OpenShut
import Derived.ShutString
import Derived.ChangeOld
import Derived.SizedLaws
import Derived.Test.YtdacgdaglbjjeaaDoorStab
import Derived.Test.YtdacgdaglbjjeaaDoorTie
import Derived.Test.YtdacgdaglbjjeaaDoorCards
import Derived.LaidMore
import Derived.Lay
import Derived.SevenTiedAt
import Derived.Stop.Joined
namespace Go.Proofs.YtdacgdaglbjjeaaDoor.sumKnown
open Go.ChangeShapes Go.WideShapes Go.ChangeAt Go.RowKit
open Go.ChangeMaps (open_string shut_string)
set_option linter.unusedVariables false

theorem own : ownKnob Tryd.prog.godebug = none := by kernel_rfl
theorem laidOut : laidOutB Tryd.prog = true := by kernel_rfl

theorem known_size (L : List UInt8) (h : L.headD 0 = 91) : size1 L = 0 := by
  unfold size1
  rw [h]
  simp

theorem known_max : all1 (frameOf 18446744073709551615 [] ++ frameOf 0 []) 18446744073709551615 = ([[]], 17) := by
  have ht := take1_frame (n := 18446744073709551615) (b := []) (by decide) (by simp) (frameOf 0 [])
  have hs := size1_frame (n := 18446744073709551615) (b := []) (by simp) (frameOf 0 [])
  have hs' : size1 (frameOf 18446744073709551615 [] ++ frameOf 0 []) = 17 := hs
  unfold take1 at ht
  rw [hs', if_neg (by decide)] at ht
  have h1 := congrArg Prod.fst ht
  have h2 := congrArg (fun x => x.2.1) ht
  simp only at h1 h2
  rw [all1_last (by rw [hs']; decide) h1 rfl, hs', h2]

theorem known_one : all1 (frameOf 1 []) 0 = ([], 0) := by
  have ht := take1_frame (n := 1) (b := []) (by decide) (by simp) []
  have hs := size1_frame (n := 1) (b := []) (by simp) []
  rw [List.append_nil] at ht hs
  have hs' : size1 (frameOf 1 []) = 17 := hs
  unfold take1 at ht
  rw [hs', if_neg (by decide)] at ht
  have h1 := congrArg Prod.fst ht
  simp only at h1
  exact all1_none (.inr (by rw [h1]; decide))

set_option maxHeartbeats 8000000 in
set_option maxRecDepth 100000 in
theorem walk (w : World) (hT : Tab w) :
    Calls Tryd.prog 3 #[] w fun e w' => e = .returned (.bool true) ∧ Below w.heap.size w w' := by
  obtain ⟨i0, hi, hz0, hz1, hz2⟩ := info_parts info_byte
  have HT := Lib.hid hT
  clear hT
  go_enter Tryd.func3, Tryd.ntmps3
  go_wp2_with fail
  refine (awake_any w HT.out).mono ?_
  rintro e w1 ⟨rfl, hb1⟩
  have htk := Take_any none 0 [] w1 (HT.out.below hb1 (Nat.le_refl _)) (Txt.nil _ _) (Nat.le_refl _) (Nat.zero_le _)
  have e1 : take1 [] = (0, [], 0) := rfl
  rw [e1] at htk
  go_wp2_with fail
  refine htk.mono ?_
  rintro e w2 ⟨a2, c2, rfl, _, _, _, _, hb2⟩
  have hbel2 := hb1.trans (hb2.mono hb1.size)
  clear htk e1 hb2 hb1
  have hb3 : Below w2.heap.size w2 (w2.alloc (.cells #[.int .u8 91] 5)) := (Below.refl _ _).alloc (Nat.le_refl _) _
  have hbel3 := hbel2.trans (hb3.mono hbel2.size)
  have hown3 : (w2.alloc (.cells #[.int .u8 91] 5)).ownsRow w.heap.size 5 1 (.slice (some ⟨w2.heap.size, 0, none⟩) 1 1) 1 (Lib.byteCells [91]) := own_of_blk (L := [91]) (heap_alloc_new w2 _) hbel2.size (by decide)
  have hf3 := Frame_any 0 none 0 [] (w2.alloc (.cells #[.int .u8 91] 5)) (HT.out.below hbel3 (Nat.le_refl _)) (by decide) (Txt.nil _ _) (by simp)
  go_wp2_with fail
  refine hf3.mono ?_
  clear hf3
  generalize w2.alloc (.cells #[.int .u8 91] 5) = w3 at hb3 hbel3 hown3
  rintro e w4 ⟨rfl, hB4, hb4⟩
  have hown4 := own_below hown3 hb4
  have hbel4 := hbel3.trans (hb4.mono hbel3.size)
  have t4 := hB4.txt.piece 1 17
  have l4 : (Go.Proofs.YtdacgdaglbjjeaaDoor.piece (frameOf 0 []) 1 17).length = 16 := by rw [piece_length (by omega) (by rw [frame_length]; simp)]
  obtain ⟨F4, hF4⟩ : ∃ F, F = Go.Proofs.YtdacgdaglbjjeaaDoor.piece (frameOf 0 []) 1 17 := ⟨_, rfl⟩
  rw [← hF4] at t4 l4
  clear hF4 hB4 hb4 hown3 hb3 hbel3 hbel2
  go_wp2_with (at_builtin; refine wpList_append_txt _ rfl (.tmp 20) (.tmp 22) 24 rfl w.heap.size 5 i0 Tryd.underlying24 hi hz0 hz1 hz2 _ 1 (Lib.byteCells [91]) rfl hown4 (some ⟨w3.heap.size, 0 + 1, none⟩) 16 F4 (by rw [l4]; rfl) t4 ?c1 ?c2 ?_)
  case c1 => rw [l4]; omega
  case c2 => exact hbel4.size
  intro v5 w5 hown5 hg5
  have hbel5 : Below w.heap.size w w5 := hbel4.grown hg5 hbel4.size (fun k hk => (hown4.lt k hk).1)
  have hlen5 : ([91] ++ F4).length = 17 := by rw [List.length_append, l4]; rfl
  rw [← hlen5, ← Lib.byteCells_append] at hown5
  obtain ⟨a5, c5, rfl, t5, hc5, hm5⟩ := own_form hown5
  have htk5 := Take_any a5 c5 ([91] ++ F4) w5 (HT.out.below hbel5 (Nat.le_refl _)) t5 hc5 hm5
  have e5 : take1 ([91] ++ F4) = (0, [], 0) := by unfold take1; rw [if_pos (known_size _ rfl)]
  rw [e5, hlen5] at htk5
  rw [hlen5]
  clear hown5 hown4 t5 hg5 e5 t4 hc5 hm5
  go_wp2_with fail
  refine htk5.mono ?_
  rintro e w6 ⟨a6, c6, rfl, _, _, _, _, hb6⟩
  have hbel6 := hbel5.trans (hb6.mono hbel5.size)
  clear htk5 hlen5
  have hf6 := Frame_any 1 none 0 [] w6 (HT.out.below hbel6 (Nat.le_refl _)) (by decide) (Txt.nil _ _) (by simp)
  go_wp2_with fail
  refine hf6.mono ?_
  rintro e w7 ⟨rfl, hB7, hb7⟩
  have hbel7 := hbel6.trans (hb7.mono hbel6.size)
  have l7 := frame_length 1 []
  have hal7 := All_any (some ⟨w6.heap.size, 0, none⟩) 17 (frameOf 1 []) 0 w7 (HT.out.below hbel7 (Nat.le_refl _)) (by decide) hB7.txt (by rw [l7]; decide) (by decide) (by rw [l7]; decide)
  rw [known_one, l7] at hal7
  clear hf6 hB7 hb7 hb6 l7
  go_wp2_with fail
  refine hal7.mono ?_
  rintro e w8 ⟨v8, x8, rfl, hown8, _, hb8⟩
  obtain ⟨a8, c8, rfl, _, _, _⟩ := row_form hown8
  have hbel8 := hbel7.trans (hb8.mono hbel7.size)
  clear hown8 hal7
  have hf8 := Frame_any 18446744073709551615 none 0 [] w8 (HT.out.below hbel8 (Nat.le_refl _)) (by decide) (Txt.nil _ _) (by simp)
  go_wp2_with fail
  refine hf8.mono ?_
  rintro e w9 ⟨rfl, hB9, hb9⟩
  have hbel9 := hbel8.trans (hb9.mono hbel8.size)
  clear hf8 hb8
  have t9 := hB9.txt
  have l9 := frame_length 18446744073709551615 []
  obtain ⟨F9, hF9⟩ : ∃ F, F = frameOf 18446744073709551615 [] := ⟨_, rfl⟩
  rw [← hF9] at t9 l9
  have HF9 := Lib.hid hF9
  clear hF9 hB9 hb9
  have hb10 : Below w9.heap.size w9 (w9.alloc (.cells #[] 5)) := (Below.refl _ _).alloc (Nat.le_refl _) _
  have hbel10 := hbel9.trans (hb10.mono hbel9.size)
  have hown10 : (w9.alloc (.cells #[] 5)).ownsRow w.heap.size 5 1 (.slice (some ⟨w9.heap.size, 0, none⟩) 0 0) 0 [] := own_empty w9 _ _ hbel9.size
  have t10 := t9.below hb10
  have l9' : F9.length = 17 := l9
  go_wp2_with (at_builtin; refine wpList_append_txt _ rfl (.tmp 35) (.tmp 36) 24 rfl w.heap.size 5 i0 Tryd.underlying24 hi hz0 hz1 hz2 _ 0 [] rfl hown10 (some ⟨w8.heap.size, 0, none⟩) 17 F9 (by rw [l9']; rfl) t10 ?c1 ?c2 ?_)
  case c1 => rw [l9']; omega
  case c2 => exact hbel10.size
  clear t10 t9
  intro v11 w11 hown11 hg11
  have hbel11 : Below w.heap.size w w11 := hbel10.grown hg11 hbel10.size (fun k hk => (hown10.lt k hk).1)
  clear hown10 hg11 hb10 hbel10
  have hf11 := Frame_any 0 none 0 [] w11 (HT.out.below hbel11 (Nat.le_refl _)) (by decide) (Txt.nil _ _) (by simp)
  go_wp2_with fail
  refine hf11.mono ?_
  rintro e w12 ⟨rfl, hB12, hb12⟩
  have hown12 := own_below hown11 hb12
  have hbel12 := hbel11.trans (hb12.mono hbel11.size)
  have t12 := hB12.txt
  have l12 : (frameOf 0 []).length = 17 := frame_length 0 []
  obtain ⟨F12, hF12⟩ : ∃ F, F = frameOf 0 [] := ⟨_, rfl⟩
  rw [← hF12] at t12 l12
  have HF12 := Lib.hid hF12
  clear hF12 hB12 hf11 hb12 hown11
  go_wp2_with (at_builtin; refine wpList_append_txt _ rfl (.tmp 37) (.tmp 38) 24 rfl w.heap.size 5 i0 Tryd.underlying24 hi hz0 hz1 hz2 _ 17 (Lib.byteCells F9) rfl hown12 (some ⟨w11.heap.size, 0, none⟩) 17 F12 (by rw [l12]; rfl) t12 ?c3 ?c4 ?_)
  case c3 => rw [l12]; omega
  case c4 => exact hbel12.size
  clear t12
  intro v13 w13 hown13 hg13
  have hbel13 : Below w.heap.size w w13 := hbel12.grown hg13 hbel12.size (fun k hk => (hown12.lt k hk).1)
  have hlen13 : (F9 ++ F12).length = 34 := by rw [List.length_append, l9', l12]
  rw [← hlen13, ← Lib.byteCells_append] at hown13
  obtain ⟨a13, c13, rfl, t13, hc13, hm13⟩ := own_form hown13
  have hal13 := All_any a13 c13 (F9 ++ F12) 18446744073709551615 w13 (HT.out.below hbel13 (Nat.le_refl _)) (by decide) t13 hc13 hm13 (by rw [hlen13]; decide)
  have e13 : all1 (F9 ++ F12) 18446744073709551615 = ([[]], 17) := by rw [HF9.out, HF12.out]; exact known_max
  rw [e13, hlen13] at hal13
  rw [hlen13]
  clear hown13 hown12 t13 hg13 e13 hc13 hm13 l9 l9' l12 hbel12
  go_wp2_with fail
  refine hal13.mono ?_
  rintro e w14 ⟨v14, x14, rfl, hown14, _, hb14⟩
  obtain ⟨a14, c14, rfl, _, _, _⟩ := row_form hown14
  have hbel14 := hbel13.trans (hb14.mono hbel13.size)
  clear hown14 hal13 hlen13
  have hm15 := run_make_bytes 60001 (by omega) 60001 60001 rfl rfl w14
  have hb15 : Below w14.heap.size w14 (w14.alloc (.cells (Lib.byteCells (List.replicate 60001 0)).toArray 5)) := (Below.refl _ _).alloc (Nat.le_refl _) _
  generalize w14.alloc (.cells (Lib.byteCells (List.replicate 60001 0)).toArray 5) = w15 at hm15 hb15
  have hbel15 := hbel14.trans (hb15.mono hbel14.size)
  go_wp2_with fail
  refine (Frame_big 0 (some ⟨w14.heap.size, 0, none⟩) 60001 60001 w15 (by decide)).mono ?_
  rintro e w16 ⟨rfl, rfl⟩
  obtain ⟨Z, hZ⟩ : ∃ Z, Z = List.replicate 60000 (0 : UInt8) := ⟨_, rfl⟩
  have hZl : Z.length = 60000 := by rw [hZ, List.length_replicate]
  have hm17 := run_make_bytes 60000 (by omega) 60000 60000 rfl rfl w15
  rw [← hZ] at hm17
  have hb17 : Below w15.heap.size w15 (w15.alloc (.cells (Lib.byteCells Z).toArray 5)) := (Below.refl _ _).alloc (Nat.le_refl _) _
  have t17 : Txt (w15.alloc (.cells (Lib.byteCells Z).toArray 5)) (some ⟨w15.heap.size, 0, none⟩) Z := lit_txt w15 Z _ rfl _ _
  generalize w15.alloc (.cells (Lib.byteCells Z).toArray 5) = w17 at hm17 hb17 t17
  have hbel17 := hbel15.trans (hb17.mono hbel15.size)
  have hf17 := Frame_any 0 (some ⟨w15.heap.size, 0, none⟩) 60000 Z w17 (HT.out.below hbel17 (Nat.le_refl _)) (by decide) t17 (by omega)
  rw [hZl] at hf17
  clear hZ hm15 hb15 hb14
  go_wp2_with fail
  refine hf17.mono ?_
  rintro e w18 ⟨rfl, _, hb18⟩
  have hbel18 := hbel17.trans (hb18.mono hbel17.size)
  clear hf17 t17 hm17
  go_wp2_with fail
  go_ret
  exact ⟨rfl, hbel18⟩

set_option maxRecDepth 100000 in
theorem lifted (os : Os) (started : os.Started) (H : Type) (enc : TypeId × Value → H) :
    ReturnsInHanded {} Tryd.checked os 3 .any (fun w args => (Rows.sumKnownSpec.pre enc Tryd.prog Tryd.f3 Rows.sumKnownRow.domain false w args ∧ laidMetH Tryd.prog LAID w) ∧ sizedMet enc Tryd.prog Tryd.f3 (OpenSpec.ofChange Rows.sumKnownSpec) false w args) (Rows.sumKnownSpec.post enc Tryd.prog Tryd.f3 false true false false) := by
  refine returnsInHanded_of_change_and (C := Tryd.checked) (X := fun w _ => laidMetH Tryd.prog LAID w) (fun _ _ _ hh h => h.of_heap hh) own started (by kernel_rfl) Tryd.func3
    (ChangeSpec.witness_shaped (enc := enc) (C := Tryd.checked) (os := os) (X := fun w _ => laidMetH Tryd.prog LAID w) false (World.laidAll Tryd.prog os LAID) #[] 8 (World.laidAll_os _ _ _)
      (World.shaped_of_ZipB (by kernel_rfl) (by kernel_rfl)) (by kernel_rfl) (by kernel_rfl) (by kernel_rfl)
      (by rw [MakeChecks.laidMetH_plain _ _ _ (by kernel_rfl)]; exact laidMet_laidAll _ (by kernel_rfl) (by kernel_rfl))) ?_
  intro W base args ds gs before hval0 hW hcnd hsz0 hL _
  have hT : Tab W := tab_of (by rw [MakeChecks.laidMetH_plain _ _ _ (by kernel_rfl)] at hL; exact hL)
  have hval : ∀ (j : Nat) t v, Tryd.f3.params[j]? = some t → args[j]? = some v → Value.okWide Tryd.prog W .any base t v := hval0
  have hW' := hW
  obtain ⟨p, q, hA0, hV, rfl, hfz, hnd⟩ := hW
  have hA : DataW.TrodAll enc Tryd.prog W 0 (fun _ => true) true Tryd.f3.params.toList args.toList ds p := hA0
  rw [Tryd.params3] at hA hval
  obtain ⟨rfl, rfl, rfl⟩ := trodAll_none hA
  obtain ⟨rfl, rfl⟩ := trodVars_none hV
  clear hA0 hval0
  refine (walk W hT).mono fun e W' ⟨he, bel⟩ => ?_
  subst he
  exact ⟨_, rfl, _, _, _, [], _, [], hW', trodAll_mk1 (shut_bool Tryd.underlying4 _), trodAll_mk0, rfl, bel.frame _, fun h => by cases h⟩

theorem over : Rows.sumKnownRow.holds Tryd.pinned (OpenSpec.ofChange Rows.sumKnownSpec) :=
  OpenClaim.holds_of_wide 3 Tryd.f3 rfl rfl rfl rfl rfl rfl rfl ⟨rfl, rfl, rfl, rfl, rfl⟩ rfl rfl rfl rfl rfl (by kernel_rfl) Tryd.func3 (by kernel_rfl)
    (of_decide_eq_true (by kernel_rfl)) (by unfold Func.isWrapper; first | (rw [if_pos (by decide +kernel)]; kernel_rfl) | (rw [if_neg (by decide +kernel)]; exact ⟨rfl, rfl⟩))
    (fun os started H enc _ => lifted os started H enc)

set_option maxRecDepth 100000 in
theorem proved : Rows.SumKnownCardSaid :=
  Claim7.holds_tied_plain_at .later [] [.data] true Rows.sumKnownCard.stood.harness false over (fun _ h => by cases h) (by kernel_rfl) (fun _ h => by cases h) sumKnown_row_tie rfl ⟨rfl, rfl⟩ (by kernel_rfl) rfl
    (fun f fn hf hfn => by
      obtain rfl : f = 3 := Option.some.inj ((show Tryd.prog.funcNamed "escapement/escapementlaw2.SumKnown" = some 3 by kernel_rfl).symm.trans hf) |>.symm
      obtain rfl : fn = Tryd.f3 := (Option.some.inj (Tryd.func3.symm.trans hfn)).symm
      exact ⟨by kernel_rfl, fun j t ht => by
        rw [Tryd.params3] at ht
        have hm : t ∈ ([] : List TypeId) := by simpa using Array.mem_of_getElem? ht
        have hall : (([] : List TypeId).all fun u => !Tryd.prog.wantsStandIn u) = true := by kernel_rfl
        exact (show Tryd.prog.wantsStandIn t = false by simpa using List.all_eq_true.1 hall t hm)⟩)
    (by kernel_rfl)
#print axioms proved
end Go.Proofs.YtdacgdaglbjjeaaDoor.sumKnown
