/-
  Proved: PackReads of escapementlaw1 returns true for every input, and leaves what it was handed as it was. No conditions.
-/
import Derived.Test.YthgcoeienbgmhaaRows
import Derived.Test.YthgcoeienbgmhaaArg
import Derived.Test.YthgcoeienbgmhaaRef
import Derived.Test.YthgcoeienbgmhaaRefs
import Derived.Deep.QuietTactic
import Derived.BigQuiet
import Derived.WalkKit
import Derived.ProofKit
import Derived.OpenShut
import Derived.ShutString
import Derived.ChangeOld
import Derived.SizedLaws
namespace Go.Proofs.Ythgcoeienbgmhaa.packReads
open Go.ChangeShapes Go.WideShapes Go.ChangeAt Go.RowKit
open Go.ChangeMaps (open_string shut_string)
set_option linter.unusedVariables false

theorem own : ownKnob Try.prog.godebug = none := by kernel_rfl
theorem laidOut : laidOutB Try.prog = true := by kernel_rfl

theorem own_form {w : World} {base : Nat} {e : TypeId} {v : Value} {l : List UInt8} (h : w.ownsRow base e 1 v l.length (Lib.byteCells l)) :
    ∃ a c, v = .slice a l.length c ∧ Txt w a l ∧ l.length ≤ c ∧ c ≤ maxLen ∧ ∀ b o, a = some ⟨b, o, none⟩ → b < w.heap.size := by
  rcases h.2 with ⟨rfl, h0⟩ | ⟨g, cap, cur, rfl, _, hg, hnc, hcm, _⟩
  · obtain rfl : l = [] := List.eq_nil_of_length_eq_zero h0
    exact ⟨none, 0, rfl, Txt.nil _ _, Nat.le_refl _, Nat.zero_le _, fun _ _ e => by cases e⟩
  · refine ⟨_, cap, rfl, (Txt.of_own h).1, hnc, hcm, fun b o e => ?_⟩
    simp only [Option.some.injEq, Addr.mk.injEq, and_true] at e
    have := (Array.getElem?_eq_some_iff.1 hg).1
    omega

theorem below_drewN {B : Nat} {a w : World} (h : Below B a w) (n : Nat) : Below B a (w.drewN n) := ⟨h.os, h.tape, h.output, h.size, h.block⟩

set_option maxHeartbeats 4000000 in
theorem walk (a_b : Option Addr) (c_b : Nat) (b : List UInt8) (a_kinds : Option Addr) (c_kinds : Nat) (kinds : List Int) (w : World) (l_b : b.length ≤ c_b) (m_b : c_b ≤ maxLen) (t_b : Txt w a_b b) (l_kinds : kinds.length ≤ c_kinds) (m_kinds : c_kinds ≤ maxLen) (t_kinds : Row (Value.int .i64) w a_kinds kinds) (r_kinds : ∀ n ∈ kinds, (Lit.int .i64 n).wf = true) :
    Calls Try.prog 5 #[.slice a_b b.length c_b, .slice a_kinds kinds.length c_kinds] w fun e w' => e = .returned (.bool true) ∧ Below w.heap.size w w' := by
  obtain ⟨i0, hi, hz0, hz1, hz2⟩ := info_parts info_byte
  clear l_b m_b l_kinds m_kinds r_kinds
  go_enter Try.func5, Try.ntmps5
  go_wp2_with fail
  refine (awake_any w).mono ?_
  rintro e w1 ⟨rfl, hb1⟩
  by_cases h1 : 300 < b.length
  · go_wp2_with fail
    go_ret
    exact ⟨rfl, hb1⟩
  by_cases h2 : 100 < kinds.length
  · go_wp2_with fail
    go_ret
    exact ⟨rfl, hb1⟩
  have t1 : Txt (w1.alloc (.cells #[] 5)) a_b b := (t_b.below hb1).below ((Below.refl _ _).alloc (Nat.le_refl _) _)
  go_wp2_with (at_builtin; refine wpList_append_txt _ rfl (.tmp 19) (.tmp 20) 25 rfl w1.heap.size 5 i0 Try.underlying25 hi hz0 hz1 hz2 _ 0 [] rfl (own_empty w1 _ _ (Nat.le_refl _)) a_b c_b b rfl t1 ?c1 ?c2 ?_)
  case c1 => omega
  case c2 => simp
  intro v1 w2 hown hgr
  have hB2 : Below w.heap.size w w2 := (hb1.alloc hb1.size _).grown hgr (by have := hb1.size; simp; omega) (by intro k hk; simp [Value.ownBlock] at hk; have := hb1.size; omega)
  obtain ⟨a1, c1, rfl, tx1, lc1, mc1, _⟩ := own_form hown
  clear hown hgr t1 hb1
  go_wp2_with fail
  refine (Read_any a1 c1 b w2 tx1 (by omega)).mono ?_
  rintro e w3 ⟨g, rfl, g2, rg, hb3⟩
  have hB3 := hB2.trans (hb3.mono hB2.size)
  have gw : w.heap.size ≤ g := Nat.le_trans hB2.size g2
  have t3 : Txt (w3.alloc (.cells #[] 5)) a_b b := ((t_b.below hB3)).below ((Below.refl _ _).alloc (Nat.le_refl _) _)
  have rg' := rg.below (w' := w3.alloc (.cells #[] 5)) ((Below.refl _ _).alloc (Nat.le_refl _) _)
  clear tx1 hB2 hb3 g2
  go_wp2_with (at_builtin; refine wpList_append_txt _ rfl (.tmp 23) (.tmp 24) 25 rfl w3.heap.size 5 i0 Try.underlying25 hi hz0 hz1 hz2 _ 0 [] rfl (own_empty w3 _ _ (Nat.le_refl _)) a_b c_b b rfl t3 ?d1 ?d2 ?_)
  case d1 => omega
  case d2 => simp
  intro v2 w4 hown hgr
  have hglt := rg.lt
  have hB34 : Below w3.heap.size w3 w4 := ((Below.refl _ _).alloc (Nat.le_refl _) _).grown hgr (by simp) (by intro k hk; simp [Value.ownBlock] at hk; omega)
  have rg4 := rg.below hB34
  have hB4 := hB3.trans (hB34.mono hB3.size)
  obtain ⟨a2, c2, rfl, tx2, lc2, mc2, hblk⟩ := own_form hown
  clear hown hgr t3 hB3 rg rg' hB34
  have hnew : Rd 38 (w4.alloc (.cells #[.slice a2 b.length c2, .bool false] 38)) w4.heap.size (b, false) :=
    ⟨a2, c2, heap_alloc_new w4 _, tx2.below ((Below.refl _ _).alloc (Nat.le_refl _) _), lc2, mc2, fun b' o' e => by have := hblk b' o' e; omega⟩
  have rg5 := rg4.below (w' := w4.alloc (.cells #[.slice a2 b.length c2, .bool false] 38)) ((Below.refl _ _).alloc (Nat.le_refl _) _)
  have hB5 : Below w.heap.size w (w4.alloc (.cells #[.slice a2 b.length c2, .bool false] 38)) := hB4.alloc hB4.size _
  have hgh : g ≠ w4.heap.size := by have := rg4.lt; omega
  have hhw : w.heap.size ≤ w4.heap.size := hB4.size
  clear rg4 hB4 hblk tx2
  obtain ⟨h, hh⟩ : ∃ h, h = w4.heap.size := ⟨_, rfl⟩
  obtain ⟨W, hW⟩ : ∃ W, W = w4.alloc (.cells #[.slice a2 b.length c2, .bool false] 38) := ⟨_, rfl⟩
  rw [← hh] at hnew hgh hhw
  rw [← hW] at hnew rg5 hB5
  go_wp2_with fail
  rw [← hh, ← hW]
  have HW := Lib.hid hW
  have HH := Lib.hid hh
  clear hW hh lc1 mc1 lc2 mc2
  go_loopw [7, 8] (fun vi vs wr => ∃ k s, vi = .int .i64 ((k : Nat) : Int) ∧ k ≤ kinds.length ∧ Rd 50 wr g s ∧ Rd 38 wr h s ∧ Below w.heap.size w wr) (fun vi _ _ => kinds.length - (intOf vi).toNat)
  case atStart => exact ⟨0, _, rfl, Nat.zero_le _, rg5, hnew, hB5⟩
  case round =>
    clear rg5 hnew hB5
    obtain ⟨k, s, rfl, hk, rg, rh, hB⟩ := hrel
    by_cases hlt : k < kinds.length
    · obtain ⟨bk, ok, rfl, hbl, hcell⟩ := t_kinds (by rintro rfl; simp at hlt)
      have hc := (hB.cell (p := ⟨bk, ok + k, none⟩) hbl).trans (hcell k hlt)
      generalize kinds[k] = x at hc
      obtain ⟨y, hy⟩ : ∃ y, bits .and .i64 x 3 = y := ⟨_, rfl⟩
      clear hcell
      by_cases hy0 : y = 0
      · have ty : (y == 0) = true := by simp [hy0]
        have HY := Lib.hid hy0
        clear hy0
        go_wp2_with fail
        refine (RU_any g s wr rg).mono ?_
        rintro e w5 ⟨rfl, rg5, g5⟩
        have rh5 := rh.other rg (Ne.symm hgh) g5
        have hB5 := below_grown hB g5 hB.size gw
        clear rg rh hB g5
        go_wp2_with fail
        refine (rU_any h s w5 rh5).mono ?_
        rintro e w6 ⟨rfl, rh6, g6⟩
        have rg6 := rg5.other rh5 hgh g6
        have hB6 := below_grown hB5 g6 hB5.size hhw
        clear rg5 rh5 hB5 g6
        generalize (rdU s).1 = res at *
        generalize (rdU s).2 = s6 at *
        obtain ⟨a9, c9, hg9, _, _, _, _⟩ := id rh6
        obtain ⟨q0, q1, _, _⟩ := two_cells hg9
        clear hg9
        go_wp2_with fail
        go_quiet (first | (go_at_call 13; exact Calls.quiet_of_same ((Bad_any g s6 _ (rg6.drewN _)).mono fun _ _ ⟨h1, h2⟩ => ⟨h1, h2.symm⟩)) | (go_at_call 14; exact Calls.quiet_of_same ((Left_any g s6 _ (rg6.drewN _)).mono fun _ _ ⟨h1, h2⟩ => ⟨h1, h2.symm⟩)))
        go_wp2_with fail
        go_roundw
        case rel => exact ⟨k + 1, s6, by go_num, by omega, rg6.drewN _, rh6.drewN _, below_drewN hB6 _⟩
        case measure => simp [intOf]; omega
      · have ty : (y == 0) = false := by simp [hy0]
        by_cases hy1 : y = 1
        · have ty1 : (y == 1) = true := by simp [hy1]
          have HY := Lib.hid hy1
          clear hy1 hy0
          go_wp2_with fail
          refine (RI_any g s wr rg).mono ?_
          rintro e w5 ⟨rfl, rg5, g5⟩
          have rh5 := rh.other rg (Ne.symm hgh) g5
          have hB5 := below_grown hB g5 hB.size gw
          clear rg rh hB g5
          go_wp2_with fail
          refine (rI_any h s w5 rh5).mono ?_
          rintro e w6 ⟨rfl, rh6, g6⟩
          have rg6 := rg5.other rh5 hgh g6
          have hB6 := below_grown hB5 g6 hB5.size hhw
          clear rg5 rh5 hB5 g6
          generalize (rdI s).1 = res at *
          generalize (rdI s).2 = s6 at *
          obtain ⟨a9, c9, hg9, _, _, _, _⟩ := id rh6
          obtain ⟨q0, q1, _, _⟩ := two_cells hg9
          clear hg9
          go_wp2_with fail
          go_quiet (first | (go_at_call 13; exact Calls.quiet_of_same ((Bad_any g s6 _ (rg6.drewN _)).mono fun _ _ ⟨h1, h2⟩ => ⟨h1, h2.symm⟩)) | (go_at_call 14; exact Calls.quiet_of_same ((Left_any g s6 _ (rg6.drewN _)).mono fun _ _ ⟨h1, h2⟩ => ⟨h1, h2.symm⟩)))
          go_wp2_with fail
          go_roundw
          case rel => exact ⟨k + 1, s6, by go_num, by omega, rg6.drewN _, rh6.drewN _, below_drewN hB6 _⟩
          case measure => simp [intOf]; omega
        · have ty1 : (y == 1) = false := by simp [hy1]
          clear hy1 hy0
          go_wp2_with fail
          refine (RS_any g s wr rg).mono ?_
          rintro e w5 ⟨rfl, rg5, g5⟩
          have rh5 := rh.other rg (Ne.symm hgh) g5
          have hB5 := below_grown hB g5 hB.size gw
          clear rg rh hB g5
          go_wp2_with fail
          refine (rS_any h s w5 rh5).mono ?_
          rintro e w6 ⟨rfl, rh6, g6⟩
          have rg6 := rg5.other rh5 hgh g6
          have hB6 := below_grown hB5 g6 hB5.size hhw
          clear rg5 rh5 hB5 g6
          generalize (rdS s).1 = res at *
          generalize (rdS s).2 = s6 at *
          obtain ⟨a9, c9, hg9, _, _, _, _⟩ := id rh6
          obtain ⟨q0, q1, _, _⟩ := two_cells hg9
          clear hg9
          go_wp2_with fail
          go_quiet (first | (go_at_call 13; exact Calls.quiet_of_same ((Bad_any g s6 _ (rg6.drewN _)).mono fun _ _ ⟨h1, h2⟩ => ⟨h1, h2.symm⟩)) | (go_at_call 14; exact Calls.quiet_of_same ((Left_any g s6 _ (rg6.drewN _)).mono fun _ _ ⟨h1, h2⟩ => ⟨h1, h2.symm⟩)))
          go_wp2_with fail
          go_roundw
          case rel => exact ⟨k + 1, s6, by go_num, by omega, rg6.drewN _, rh6.drewN _, below_drewN hB6 _⟩
          case measure => simp [intOf]; omega
    · go_wp2_with fail
      go_ret
      exact ⟨rfl, hB⟩

set_option maxRecDepth 100000 in
theorem lifted (os : Os) (started : os.Started) (H : Type) (enc : TypeId × Value → H) :
    ReturnsInHanded {} Try.checked os 5 .any (Rows.packReadsSpec.pre6 enc Try.prog Try.f5 Rows.packReadsRow.domain false) (Rows.packReadsSpec.post enc Try.prog Try.f5 false true false false) := by
  refine returnsInHanded_of_change (C := Try.checked) own started (by kernel_rfl) Try.func5
    (ChangeSpec.witness6 (enc := enc) (C := Try.checked) false ⟨#[], #[.slice none 0 0, .slice none 0 0], []⟩ 8 (by kernel_rfl) (by kernel_rfl) (by kernel_rfl) (by kernel_rfl)) ?_
  intro W base args ds gs before hval0 hW hcnd _
  have hval : ∀ (j : Nat) t v, Try.f5.params[j]? = some t → args[j]? = some v → Value.okWide Try.prog W .any base t v := hval0
  have hW' := hW
  obtain ⟨p, q, hA0, hV, rfl, hfz, hnd⟩ := hW
  have hA : DataW.TrodAll enc Try.prog W 0 (fun _ => true) true Try.f5.params.toList args.toList ds p := hA0
  rw [Try.params5] at hA hval
  obtain ⟨v0, vs0, d0, ds0, p0, q0, hargs, rfl, rfl, h0, r0⟩ := trodAll_cons hA
  obtain ⟨v1, vs1, d1, ds1, p1, q1, rfl, rfl, rfl, h1, r1⟩ := trodAll_cons r0
  obtain ⟨rfl, rfl, rfl⟩ := trodAll_nil r1
  obtain rfl : args = #[v0, v1] := by cases args; simp_all
  obtain ⟨rfl, rfl⟩ := trodVars_none hV
  obtain ⟨a_b, len_b, c_b, rfl⟩ := okWide_slice Try.underlying25 (hval 0 25 v0 rfl rfl)
  have k0 := h0
  have lt0 : ∀ x ∈ p0, x.block < W.heap.size := by obtain ⟨m, hm⟩ := k0; exact DataW.trod_lt m _ _ _ hm
  obtain ⟨b, n_b, l_b, m_b, t_b⟩ : ∃ b : List UInt8, b.length = len_b ∧ b.length ≤ c_b ∧ c_b ≤ maxLen ∧ Txt W a_b b := by
    obtain ⟨fuel, hf⟩ := h0
    rcases open_ints Try.underlying25 Try.underlying5 (by kernel_rfl) hf with ⟨hcs, _⟩ | ⟨x, l, c, zs, hcs, _, hl, hm, hz, _, hcell, hwz⟩
    · simp [Value.cells] at hcs
      obtain ⟨rfl, rfl, rfl⟩ := hcs
      exact ⟨[], rfl, Nat.zero_le _, Nat.zero_le _, Txt.nil _ _⟩
    · simp [Value.cells] at hcs
      obtain ⟨rfl, rfl, rfl⟩ := hcs
      have hr := row_some (f := Value.int .u8) hl (by simpa using hz) hcell
      obtain ⟨r, hrl, hrt⟩ := txt_of_row hr.2 (fun n hn => hwz n (List.mem_of_mem_take hn))
      exact ⟨r, hrl.trans hr.1, by rw [hrl, hr.1]; exact hl, hm, hrt⟩
  subst n_b
  obtain ⟨a_kinds, len_kinds, c_kinds, rfl⟩ := okWide_slice Try.underlying35 (hval 1 35 v1 rfl rfl)
  have k1 := h1
  have lt1 : ∀ x ∈ p1, x.block < W.heap.size := by obtain ⟨m, hm⟩ := k1; exact DataW.trod_lt m _ _ _ hm
  obtain ⟨kinds, n_kinds, l_kinds, m_kinds, t_kinds, r_kinds⟩ : ∃ kinds : List Int, kinds.length = len_kinds ∧ kinds.length ≤ c_kinds ∧ c_kinds ≤ maxLen ∧ Row (Value.int .i64) W a_kinds kinds ∧ (∀ n ∈ kinds, (Lit.int .i64 n).wf = true) := by
    obtain ⟨fuel, hf⟩ := h1
    rcases open_ints Try.underlying35 Try.underlying3 (by kernel_rfl) hf with ⟨hcs, _⟩ | ⟨x, l, c, zs, hcs, _, hl, hm, hz, _, hcell, hwz⟩
    · simp [Value.cells] at hcs
      obtain ⟨rfl, rfl, rfl⟩ := hcs
      exact ⟨[], rfl, Nat.zero_le _, Nat.zero_le _, Row.nil _ _ _, fun _ h => by cases h⟩
    · simp [Value.cells] at hcs
      obtain ⟨rfl, rfl, rfl⟩ := hcs
      have hr := row_some (f := Value.int .i64) hl (by simpa using hz) hcell
      exact ⟨_, hr.1, by rw [hr.1]; exact hl, hm, hr.2, fun n hn => hwz n (List.mem_of_mem_take hn)⟩
  subst n_kinds
  clear hA0 hval0
  refine (walk a_b c_b b a_kinds c_kinds kinds W l_b m_b t_b l_kinds m_kinds t_kinds r_kinds).mono fun e W' ⟨he, bel⟩ => ?_
  subst he
  exact ⟨_, rfl, _, _, _, [], _, [], hW', trodAll_mk1 (shut_bool Try.underlying4 _), (trodAll_cons_mk (Below.trod laidOut (by kernel_rfl) (of_decide_eq_true (by kernel_rfl)) k0 bel lt0) (trodAll_cons_mk (Below.trod laidOut (by kernel_rfl) (of_decide_eq_true (by kernel_rfl)) k1 bel lt1) trodAll_mk0)), rfl, bel.frame _, fun h => by cases h⟩

theorem over : Rows.packReadsRow.holds Try.pinned (OpenSpec.ofChange Rows.packReadsSpec) :=
  OpenClaim.holds_of_wide 5 Try.f5 rfl rfl rfl rfl rfl rfl rfl ⟨rfl, rfl, rfl, rfl, rfl⟩ rfl rfl rfl rfl rfl (by kernel_rfl) Try.func5 (by kernel_rfl)
    (of_decide_eq_true (by kernel_rfl)) (by unfold Func.isWrapper; first | (rw [if_pos (by decide +kernel)]; kernel_rfl) | (rw [if_neg (by decide +kernel)]; exact ⟨rfl, rfl⟩))
    (fun os started H enc _ => lifted os started H enc)

theorem proved : Rows.PackReadsSaid := over
#print axioms proved
end Go.Proofs.Ythgcoeienbgmhaa.packReads
