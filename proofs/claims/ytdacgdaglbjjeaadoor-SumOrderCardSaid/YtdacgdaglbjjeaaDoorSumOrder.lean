/-
  Proved: SumOrder of escapementlaw2 returns true for every input, and leaves what it was handed as it was. No conditions.
-/
import Derived.Test.YtdacgdaglbjjeaaDoorRows
import Derived.Test.YtdacgdaglbjjeaaDoorArg
import Derived.Test.YtdacgdaglbjjeaaDoorSawk
import Derived.WalkKit
import Derived.ProofKit
import Derived.OpenShut
import Derived.ShutString
import Derived.ChangeOld
import Derived.SizedLaws
import Derived.Test.YtdacgdaglbjjeaaDoorStab
import Derived.Test.YtdacgdaglbjjeaaDoorTie
import Derived.Test.YtdacgdaglbjjeaaDoorCards
import Derived.LaidMore
import Derived.Lay
import Derived.SevenTiedAt
import Derived.Stop.Joined
namespace Go.Proofs.YtdacgdaglbjjeaaDoor.sumOrder
open Go.ChangeShapes Go.WideShapes Go.ChangeAt Go.RowKit
open Go.ChangeMaps (open_string shut_string)
set_option linter.unusedVariables false

theorem own : ownKnob Tryd.prog.godebug = none := by kernel_rfl
theorem laidOut : laidOutB Tryd.prog = true := by kernel_rfl

def num_ (wrong by_ i : Nat) : Nat := if i = wrong then (i + by_) % 18446744073709551616 else i
def fr (wrong by_ i : Nat) : List UInt8 := frameOf (num_ wrong by_ i) [i.toUInt8]
def seg (wrong by_ : Nat) : Nat → Nat → List UInt8
  | _, 0 => []
  | i, j + 1 => fr wrong by_ i ++ seg wrong by_ (i + 1) j

theorem byte_cell {i : Nat} (h : i < 256) : #[Value.int .u8 (i : Int)] = (Lib.byteCells [i.toUInt8]).toArray := by
  have e : ((i.toUInt8).toNat : Int) = (i : Int) := by rw [Lib.toUInt8_toNat h]
  simp only [Lib.byteCells, List.map_cons, List.map_nil, e]

theorem fr_length (wrong by_ i : Nat) : (fr wrong by_ i).length = 18 := by rw [fr, frame_length]; rfl
theorem seg_snoc (wrong by_ : Nat) : ∀ (j i : Nat), seg wrong by_ i (j + 1) = seg wrong by_ i j ++ fr wrong by_ (i + j)
  | 0, i => by simp [seg]
  | j + 1, i => by
    rw [seg, seg_snoc wrong by_ j (i + 1), seg, List.append_assoc, show i + 1 + j = i + (j + 1) by omega]
theorem seg_length (wrong by_ : Nat) : ∀ (j i : Nat), (seg wrong by_ i j).length = 18 * j
  | 0, i => rfl
  | j + 1, i => by rw [seg, List.length_append, fr_length, seg_length wrong by_ j (i + 1)]; omega

theorem all_seg {wrong by_ : Nat} (hb0 : 0 < by_) (hb : by_ < 18446744073709551616) : ∀ (j i : Nat), i ≤ wrong → i + j ≤ 20 → (all1 (seg wrong by_ i j) i).1.length = min j (wrong - i) ∧ (all1 (seg wrong by_ i j) i).2 = 18 * min j (wrong - i)
  | 0, i, _, _ => by
    rw [seg, all1_none (.inl rfl)]
    simp
  | j + 1, i, hi, hj => by
    rw [seg]
    by_cases h : i = wrong
    · have hn : num_ wrong by_ i < 18446744073709551616 := by unfold num_; rw [if_pos h]; omega
      have ht := take1_frame hn (b := [i.toUInt8]) (by simp) (seg wrong by_ (i + 1) j)
      have hs := size1_frame (n := num_ wrong by_ i) (b := [i.toUInt8]) (by simp) (seg wrong by_ (i + 1) j)
      have hs' : size1 (frameOf (num_ wrong by_ i) [i.toUInt8] ++ seg wrong by_ (i + 1) j) = 18 := hs
      unfold take1 at ht
      rw [hs', if_neg (by decide)] at ht
      have h1 := congrArg Prod.fst ht
      simp only at h1
      rw [fr, all1_none (.inr (by rw [h1]; unfold num_; rw [if_pos h]; omega)), h]
      simp
    · have hn : num_ wrong by_ i = i := by unfold num_; rw [if_neg h]
      have ih := all_seg (wrong := wrong) hb0 hb j (i + 1) (by omega) (by omega)
      rw [fr, all1_frame (first := i) (by rw [hn]; omega) (by simp) hn (by omega)]
      simp only [List.length_cons, List.length_nil]
      omega

set_option maxHeartbeats 8000000 in
set_option maxRecDepth 100000 in
theorem walk (n : Int) (wrong : Int) (by_ : Int) (w : World) (hT : Tab w) (w_n : (Lit.int .i64 n).wf = true) (w_wrong : (Lit.int .i64 wrong).wf = true) (w_by_ : (Lit.int .u64 by_).wf = true) :
    Calls Tryd.prog 8 #[.int .i64 n, .int .i64 wrong, .int .u64 by_] w fun e w' => e = .returned (.bool true) ∧ Below w.heap.size w w' := by
  obtain ⟨i0, hi0, hz0, hz1, hz2⟩ := info_parts info_byte
  have hn64 := i64_wf w_n
  have hw64 := i64_wf w_wrong
  obtain ⟨y0, y1⟩ := u64_wf w_by_
  obtain ⟨y, rfl⟩ := Int.eq_ofNat_of_zero_le y0
  clear w_n w_wrong w_by_ y0
  have HT := Lib.hid hT
  clear hT
  go_enter Tryd.func8, Tryd.ntmps8
  go_wp2_with fail
  refine (awake_any w HT.out).mono ?_
  rintro e w1 ⟨rfl, hb1⟩
  by_cases c1 : n < 0
  · go_wp2_with fail
    go_ret
    exact ⟨rfl, hb1⟩
  by_cases c2 : 20 < n
  · go_wp2_with fail
    go_ret
    exact ⟨rfl, hb1⟩
  by_cases c3 : wrong < 0
  · go_wp2_with fail
    go_ret
    exact ⟨rfl, hb1⟩
  by_cases c4 : y = 0
  · subst c4
    go_wp2_with fail
    go_ret
    exact ⟨rfl, hb1⟩
  obtain ⟨N, rfl⟩ := Int.eq_ofNat_of_zero_le (show 0 ≤ n by omega)
  obtain ⟨X, rfl⟩ := Int.eq_ofNat_of_zero_le (show 0 ≤ wrong by omega)
  have hy : y < 18446744073709551616 := by omega
  have c4' : ((y : Int) == 0) = false := by simp; omega
  clear c1 c3 y1 hn64
  go_wp2_with fail
  go_loopw [7, 8] (fun vb vi wr => ∃ (V : Value) (i : Nat), V = vb ∧ vi = .int .i64 i ∧ i ≤ N ∧ wr.ownsRow w.heap.size 5 1 V (18 * i) (Lib.byteCells (seg X y 0 i)) ∧ Below w.heap.size w wr)
    (fun _ vi _ => N - (intOf vi).toNat)
  case atStart => exact ⟨_, 0, rfl, rfl, Nat.zero_le _, ⟨rfl, .inl ⟨rfl, rfl⟩⟩, hb1⟩
  case round =>
    obtain ⟨V, i, hV, rfl, hiN, hown, hbel⟩ := hrel
    subst hV
    by_cases hlt : i < N
    · by_cases hx : i = X
      · subst hx
        have hnv : ((num_ i y i : Nat) : Int) = IntKind.u64.wrap ((i : Int) + (y : Int)) := by
          rw [IntKind.wrap_u64]
          unfold num_
          rw [if_pos rfl]
          omega
        go_wp2_with fail
        have t3 : Txt (wr.alloc (.cells #[.int .u8 (i : Int)] 5)) (some ⟨wr.heap.size, 0, none⟩) [i.toUInt8] := lit_txt wr [i.toUInt8] _ (byte_cell (by omega)) _ _
        have hb3 : Below wr.heap.size wr (wr.alloc (.cells #[.int .u8 (i : Int)] 5)) := (Below.refl _ _).alloc (Nat.le_refl _) _
        have hbel3 := hbel.trans (hb3.mono hbel.size)
        have hown3 := own_below hown hb3
        have hnum : num_ i y i < 18446744073709551616 := by unfold num_; split <;> omega
        have hfr := Frame_any (num_ i y i) (some ⟨wr.heap.size, 0, none⟩) 1 [i.toUInt8] _ (HT.out.below hbel3 (Nat.le_refl _)) hnum t3 (by simp)
        have hsn := seg_snoc i y i 0
        rw [Nat.zero_add] at hsn
        have hfl := fr_length i y i
        have hsl := seg_length i y i 0
        have hfe : frameOf (num_ i y i) [i.toUInt8] = fr i y i := rfl
        rw [hfe, hnv] at hfr
        have HS := Lib.hid hsn
        generalize wr.alloc (.cells #[.int .u8 (i : Int)] 5) = w3 at hfr hb3 hbel3 hown3 ⊢
        clear t3 hb3 hown hsn hnum hfe hnv
        refine hfr.mono ?_
        rintro e w4 ⟨rfl, hB4, hb4⟩
        have hown4 := own_below hown3 hb4
        have hbel4 := hbel3.trans (hb4.mono hbel3.size)
        have t4 := hB4.txt
        obtain ⟨F, hF⟩ : ∃ F, F = fr i y i := ⟨_, rfl⟩
        rw [← hF] at t4 hfl
        have HF := Lib.hid hF
        clear hfr hB4 hb4 hown3 hbel3 hF
        go_wp2_with (at_builtin; refine wpList_append_txt _ rfl _ _ 24 rfl w.heap.size 5 i0 Tryd.underlying24 hi0 hz0 hz1 hz2 V (18 * i) (Lib.byteCells (seg i y 0 i)) rfl hown4 (some ⟨w3.heap.size, 0, none⟩) 18 F (by rw [hfl]; rfl) t4 ?d1 ?d2 ?_)
        case d1 => rw [hfl]; omega
        case d2 => exact hbel4.size
        intro v5 w5 hown5 hg5
        have hbel5 : Below w.heap.size w w5 := hbel4.grown hg5 hbel4.size (fun k hk => (hown4.lt k hk).1)
        rw [← Lib.byteCells_append] at hown5
        clear hown4 t4 hg5
        go_wp2
        refine ⟨⟨v5, i + 1, rfl, by go_num, by omega, ?_, hbel5⟩, ?_⟩
        · rw [HS.out, ← HF.out, show 18 * (i + 1) = 18 * i + 18 by omega]
          exact hown5
        · simp [intOf]; omega
      · have hnv : ((num_ X y i : Nat) : Int) = (i : Int) := by unfold num_; rw [if_neg hx]
        have hx' : ((i : Int) == (X : Int)) = false := by simp; omega
        go_wp2_with fail
        have t3 : Txt (wr.alloc (.cells #[.int .u8 (i : Int)] 5)) (some ⟨wr.heap.size, 0, none⟩) [i.toUInt8] := lit_txt wr [i.toUInt8] _ (byte_cell (by omega)) _ _
        have hb3 : Below wr.heap.size wr (wr.alloc (.cells #[.int .u8 (i : Int)] 5)) := (Below.refl _ _).alloc (Nat.le_refl _) _
        have hbel3 := hbel.trans (hb3.mono hbel.size)
        have hown3 := own_below hown hb3
        have hnum : num_ X y i < 18446744073709551616 := by unfold num_; split <;> omega
        have hfr := Frame_any (num_ X y i) (some ⟨wr.heap.size, 0, none⟩) 1 [i.toUInt8] _ (HT.out.below hbel3 (Nat.le_refl _)) hnum t3 (by simp)
        have hsn := seg_snoc X y i 0
        rw [Nat.zero_add] at hsn
        have hfl := fr_length X y i
        have hsl := seg_length X y i 0
        have hfe : frameOf (num_ X y i) [i.toUInt8] = fr X y i := rfl
        rw [hfe, hnv] at hfr
        have HS := Lib.hid hsn
        generalize wr.alloc (.cells #[.int .u8 (i : Int)] 5) = w3 at hfr hb3 hbel3 hown3 ⊢
        clear t3 hb3 hown hsn hnum hfe hnv
        refine hfr.mono ?_
        rintro e w4 ⟨rfl, hB4, hb4⟩
        have hown4 := own_below hown3 hb4
        have hbel4 := hbel3.trans (hb4.mono hbel3.size)
        have t4 := hB4.txt
        obtain ⟨F, hF⟩ : ∃ F, F = fr X y i := ⟨_, rfl⟩
        rw [← hF] at t4 hfl
        have HF := Lib.hid hF
        clear hfr hB4 hb4 hown3 hbel3 hF
        go_wp2_with (at_builtin; refine wpList_append_txt _ rfl _ _ 24 rfl w.heap.size 5 i0 Tryd.underlying24 hi0 hz0 hz1 hz2 V (18 * i) (Lib.byteCells (seg X y 0 i)) rfl hown4 (some ⟨w3.heap.size, 0, none⟩) 18 F (by rw [hfl]; rfl) t4 ?d1 ?d2 ?_)
        case d1 => rw [hfl]; omega
        case d2 => exact hbel4.size
        intro v5 w5 hown5 hg5
        have hbel5 : Below w.heap.size w w5 := hbel4.grown hg5 hbel4.size (fun k hk => (hown4.lt k hk).1)
        rw [← Lib.byteCells_append] at hown5
        clear hown4 t4 hg5
        go_wp2
        refine ⟨⟨v5, i + 1, rfl, by go_num, by omega, ?_, hbel5⟩, ?_⟩
        · rw [HS.out, ← HF.out, show 18 * (i + 1) = 18 * i + 18 by omega]
          exact hown5
        · simp [intOf]; omega
    · obtain rfl : i = N := by omega
      have hsl := seg_length X y i 0
      rw [← hsl] at hown
      obtain ⟨a5, c5, rfl, t5, hc5, hm5⟩ := own_form hown
      have hal := All_any a5 c5 (seg X y 0 i) 0 wr (HT.out.below hbel (Nat.le_refl _)) (by decide) t5 hc5 hm5 (by omega)
      obtain ⟨r1, r2⟩ := all_seg (wrong := X) (by_ := y) (by omega) hy i 0 (Nat.zero_le _) (by omega)
      generalize all1 (seg X y 0 i) 0 = R at hal r1 r2
      obtain ⟨ts, sz⟩ := R
      simp only at r1 r2
      rw [Nat.sub_zero] at r1 r2
      rw [hsl] at hal
      rw [hsl]
      clear hown t5 hc5 hm5 hsl
      by_cases hXN : i < X
      · rw [Nat.min_eq_left (by omega)] at r1 r2
        go_wp2_with fail
        refine hal.mono ?_
        rintro e w6 ⟨v6, xs, rfl, hown6, _, hb6⟩
        obtain ⟨a6, c6, rfl, _, _, _⟩ := row_form hown6
        have hbel6 := hbel.trans (hb6.mono hbel.size)
        clear hown6 hal hb6
        go_wp2_with fail
        go_ret
        exact ⟨rfl, hbel6⟩
      · rw [Nat.min_eq_right (by omega)] at r1 r2
        have hge : (X : Int) ≤ (i : Int) := by omega
        go_wp2_with fail
        refine hal.mono ?_
        rintro e w6 ⟨v6, xs, rfl, hown6, _, hb6⟩
        obtain ⟨a6, c6, rfl, _, _, _⟩ := row_form hown6
        have hbel6 := hbel.trans (hb6.mono hbel.size)
        clear hown6 hal hb6
        go_wp2_with fail
        go_ret
        exact ⟨rfl, hbel6⟩

set_option maxRecDepth 100000 in
theorem lifted (os : Os) (started : os.Started) (H : Type) (enc : TypeId × Value → H) :
    ReturnsInHanded {} Tryd.checked os 8 .any (fun w args => (Rows.sumOrderSpec.pre enc Tryd.prog Tryd.f8 Rows.sumOrderRow.domain false w args ∧ laidMetH Tryd.prog LAID w) ∧ sizedMet enc Tryd.prog Tryd.f8 (OpenSpec.ofChange Rows.sumOrderSpec) false w args) (Rows.sumOrderSpec.post enc Tryd.prog Tryd.f8 false true false false) := by
  refine returnsInHanded_of_change_and (C := Tryd.checked) (X := fun w _ => laidMetH Tryd.prog LAID w) (fun _ _ _ hh h => h.of_heap hh) own started (by kernel_rfl) Tryd.func8
    (ChangeSpec.witness_shaped (enc := enc) (C := Tryd.checked) (os := os) (X := fun w _ => laidMetH Tryd.prog LAID w) false (World.laidAll Tryd.prog os LAID) #[.int .i64 0, .int .i64 0, .int .u64 0] 8 (World.laidAll_os _ _ _)
      (World.shaped_of_ZipB (by kernel_rfl) (by kernel_rfl)) (by kernel_rfl) (by kernel_rfl) (by kernel_rfl)
      (by rw [MakeChecks.laidMetH_plain _ _ _ (by kernel_rfl)]; exact laidMet_laidAll _ (by kernel_rfl) (by kernel_rfl))) ?_
  intro W base args ds gs before hval0 hW hcnd hsz0 hL _
  have hT : Tab W := tab_of (by rw [MakeChecks.laidMetH_plain _ _ _ (by kernel_rfl)] at hL; exact hL)
  have hval : ∀ (j : Nat) t v, Tryd.f8.params[j]? = some t → args[j]? = some v → Value.okWide Tryd.prog W .any base t v := hval0
  have hW' := hW
  obtain ⟨p, q, hA0, hV, rfl, hfz, hnd⟩ := hW
  have hA : DataW.TrodAll enc Tryd.prog W 0 (fun _ => true) true Tryd.f8.params.toList args.toList ds p := hA0
  rw [Tryd.params8] at hA hval
  obtain ⟨v0, vs0, d0, ds0, p0, q0, hargs, rfl, rfl, h0, r0⟩ := trodAll_cons hA
  obtain ⟨v1, vs1, d1, ds1, p1, q1, rfl, rfl, rfl, h1, r1⟩ := trodAll_cons r0
  obtain ⟨v2, vs2, d2, ds2, p2, q2, rfl, rfl, rfl, h2, r2⟩ := trodAll_cons r1
  obtain ⟨rfl, rfl, rfl⟩ := trodAll_nil r2
  obtain rfl : args = #[v0, v1, v2] := by cases args; simp_all
  obtain ⟨rfl, rfl⟩ := trodVars_none hV
  obtain ⟨n, rfl, rfl, rfl, w_n⟩ := open_int Tryd.underlying3 (hval 0 3 v0 rfl rfl) h0
  obtain ⟨wrong, rfl, rfl, rfl, w_wrong⟩ := open_int Tryd.underlying3 (hval 1 3 v1 rfl rfl) h1
  obtain ⟨by_, rfl, rfl, rfl, w_by_⟩ := open_int Tryd.underlying23 (hval 2 23 v2 rfl rfl) h2
  clear hA0 hval0
  refine (walk n wrong by_ W hT w_n w_wrong w_by_).mono fun e W' ⟨he, bel⟩ => ?_
  subst he
  exact ⟨_, rfl, _, _, _, [], _, [], hW', trodAll_mk1 (shut_bool Tryd.underlying4 _), (trodAll_cons_mk (shut_int Tryd.underlying3 w_n) (trodAll_cons_mk (shut_int Tryd.underlying3 w_wrong) (trodAll_cons_mk (shut_int Tryd.underlying23 w_by_) trodAll_mk0))), rfl, bel.frame _, fun h => by cases h⟩

theorem over : Rows.sumOrderRow.holds Tryd.pinned (OpenSpec.ofChange Rows.sumOrderSpec) :=
  OpenClaim.holds_of_wide 8 Tryd.f8 rfl rfl rfl rfl rfl rfl rfl ⟨rfl, rfl, rfl, rfl, rfl⟩ rfl rfl rfl rfl rfl (by kernel_rfl) Tryd.func8 (by kernel_rfl)
    (of_decide_eq_true (by kernel_rfl)) (by unfold Func.isWrapper; first | (rw [if_pos (by decide +kernel)]; kernel_rfl) | (rw [if_neg (by decide +kernel)]; exact ⟨rfl, rfl⟩))
    (fun os started H enc _ => lifted os started H enc)

set_option maxRecDepth 100000 in
theorem proved : Rows.SumOrderCardSaid :=
  Claim7.holds_tied_plain_at .later [] [.data] true Rows.sumOrderCard.stood.harness false over (fun _ h => by cases h) (by kernel_rfl) (fun _ h => by cases h) sumOrder_row_tie rfl ⟨rfl, rfl⟩ (by kernel_rfl) rfl
    (fun f fn hf hfn => by
      obtain rfl : f = 8 := Option.some.inj ((show Tryd.prog.funcNamed "escapement/escapementlaw2.SumOrder" = some 8 by kernel_rfl).symm.trans hf) |>.symm
      obtain rfl : fn = Tryd.f8 := (Option.some.inj (Tryd.func8.symm.trans hfn)).symm
      exact ⟨by kernel_rfl, fun j t ht => by
        rw [Tryd.params8] at ht
        have hm : t ∈ ([3, 3, 23] : List TypeId) := by simpa using Array.mem_of_getElem? ht
        have hall : (([3, 3, 23] : List TypeId).all fun u => !Tryd.prog.wantsStandIn u) = true := by kernel_rfl
        exact (show Tryd.prog.wantsStandIn t = false by simpa using List.all_eq_true.1 hall t hm)⟩)
    (by kernel_rfl)
#print axioms proved
end Go.Proofs.YtdacgdaglbjjeaaDoor.sumOrder
