/-
  Texts that the statements stand on, part 4.
-/
import Derived.Test.YthlhogfebicooaaMc
import Derived.Deep.DeepCutAuto
import Derived.Deep.CutBlock
import Derived.Maps.OwnSet
import Derived.Maps.Views
import Derived.StringKeys
import Derived.Deep.QuietTactic
import Derived.BigQuiet
import Derived.Laws.Rows
import Derived.Deep.MidRow
import Derived.Great.BuildSlice
import Derived.WalkKit
import Derived.Laws.BitsAllLaws
import Derived.Lib.OwnKind
import Derived.Deep.LoopGhost
import Derived.StillTailTactics
set_option linter.unusedVariables false
set_option linter.unusedSimpArgs false
namespace Go.Proofs.Ythlhogfebicooaa
open Go Go.RowKit
set_option maxHeartbeats 4000000 in
set_option maxRecDepth 100000 in
theorem Back_any (l : List Nd) (w : World) (hw : 0 < w.heap.size) (ok : Nat → Prop) (x : Option Addr) (c : Nat) (hk : IsD ok w (.slice x l.length c) (.sl l.length (ndsD l))) : Calls Try.prog 15 #[.slice x l.length c] w (GivesBN l w) := by
  have HK := Lib.hid hk
  have HW := Lib.hid hw
  have HIN6 := Lib.hid info_nS
  have HIQ7 := Lib.hid info_qS
  have HSN := Lib.hid size_nS
  clear hk hw
  go_enter Try.func15, Try.ntmps15
  go_wp2_with fail
  go_loopw [3, 4] (fun v3 v4 wr => ∃ (V : Value) (i : Nat), V = v3 ∧ v4 = .int .i64 (i : Int) ∧ i ≤ l.length ∧ Below w.heap.size w wr ∧ OwnD 49 6 wr (w.heap.size - 1) V i (ndsD (l.take i)))
    (fun _ v4 _ => l.length - (intOf v4).toNat)
  case atStart => exact ⟨_, 0, rfl, rfl, Nat.zero_le _, Below.refl _ _, by rw [List.take_zero]; exact OwnD.nil _ _ _ _⟩
  case round =>
    obtain ⟨V, i, rfl, rfl, hi, hb, hO⟩ := hrel
    obtain ⟨xv, cv, rfl, _, _⟩ := hO.slice
    have HB := Lib.hid hb
    have HO := Lib.hid hO
    have HI := Lib.hid hi
    clear hb hO hi
    by_cases hil : i < l.length
    · have d1 : decide ((i : Int) < (l.length : Int)) = true := by simp; omega
      have HIL := Lib.hid hil
      clear hil
      obtain ⟨g, rfl, hg, xi, ci, xo, co, xl, cl, xe, ce, hrg, t1, t2, t3, t4⟩ := nd_at HK.out i HIL.out
      obtain ⟨nd, hnd⟩ : ∃ nd, nd = l[i]'HIL.out := ⟨_, rfl⟩
      rw [← hnd] at hrg t1 t2 t3 t4
      have HND := Lib.hid hnd
      have keep : ∀ (u : Value) (d : Dt), IsD ok w u d → IsD (fun k => ok k ∧ k < w.heap.size) wr u d := fun u d h => IsD.keep HB.out.size (fun k _ hl => HB.out.block k hl) (fun k hk hl => ⟨hk, hl⟩) _ h
      have HIN := Lib.hid (keep _ _ t1)
      have HOU := Lib.hid (keep _ _ t2)
      have HLO := Lib.hid (keep _ _ t3)
      have HEQ := Lib.hid (keep _ _ t4)
      have HG := Lib.hid (show g < wr.heap.size from Nat.lt_of_lt_of_le hg HB.out.size)
      have HRG := Lib.hid (rangeAt_below hrg HB.out hg)
      have HBS := Lib.hid HB.out.size
      clear hrg hg hnd keep t1 t2 t3 t4
      go_wp2_with fail
      refine wp_region_steps_then (words [wIs (.slice (some ⟨g, 0, none⟩) l.length c), wIs (.int .i64 (i : Int)), wIs (.pointer (some ⟨g, i * 6, none⟩)), wIs (.pointer (some ⟨g, i * 6 + 0, none⟩)), wIs (.string nd.name), wIs (.slice (some ⟨g, 0, none⟩) l.length c), wIs (.int .i64 (i : Int)), wIs (.pointer (some ⟨g, i * 6, none⟩)), wIs (.pointer (some ⟨g, i * 6 + 1, none⟩)), wIs (.slice xi nd.ins.length ci), wVars wr.heap.size nd.ins, wIs (.slice (some ⟨g, 0, none⟩) l.length c), wIs (.int .i64 (i : Int)), wIs (.pointer (some ⟨g, i * 6, none⟩)), wIs (.pointer (some ⟨g, i * 6 + 2, none⟩)), wIs (.slice xo nd.outs.length co), wVars wr.heap.size nd.outs, wIs (.slice (some ⟨g, 0, none⟩) l.length c), wIs (.int .i64 (i : Int)), wIs (.pointer (some ⟨g, i * 6, none⟩)), wIs (.pointer (some ⟨g, i * 6 + 3, none⟩)), wIs (.slice xl nd.locs.length cl), wVars wr.heap.size nd.locs, wIs (.slice (some ⟨g, 0, none⟩) l.length c), wIs (.int .i64 (i : Int)), wIs (.pointer (some ⟨g, i * 6, none⟩)), wIs (.pointer (some ⟨g, i * 6 + 5, none⟩)), wIs (.int .i64 (nd.at_ : Int)), wNode wr.heap.size nd, wNew wr.heap.size]) wr.heap.size wr (by kernel_rfl) (Below.refl _ _) (Nat.le_refl _) (words_stable ?stab) rfl rfl (by kernel_rfl) (by kernel_rfl) _ rfl ?steps ?last
      case stab =>
        intro f hf
        simp only [List.mem_cons, List.not_mem_nil, or_false] at hf
        rcases hf with rfl | rfl | rfl | rfl | rfl | rfl | rfl | rfl | rfl | rfl | rfl | rfl | rfl | rfl | rfl | rfl | rfl | rfl | rfl | rfl | rfl | rfl | rfl | rfl | rfl | rfl | rfl | rfl | rfl | rfl <;> first | exact stable_is _ | exact stable_vars _ _ | exact stable_node _ _ | exact stable_new _
      case steps =>
          refine Steps.cons (step_value rfl fun xa W hp => ⟨wanted_none rfl, _, _, run_move (.inl rfl), hp.old 0 rfl, Below.refl _ _⟩) ?_
          refine Steps.cons (step_value rfl fun xa W hp => ⟨wanted_none rfl, _, _, run_move (.inl rfl), hp.old 4 rfl, Below.refl _ _⟩) ?_
          refine Steps.cons (step_value rfl fun xa W hp => ?_) ?_
          · have f0 : xa.tmps.getD 13 undef = .slice (some ⟨g, 0, none⟩) l.length c := (hp.on_ 0 rfl rfl rfl).2
            have f1 : xa.tmps.getD 14 undef = .int .i64 (i : Int) := (hp.on_ 1 rfl rfl rfl).2
            exact ⟨wanted_none rfl, _, _, run_idxG Try.underlying23 size_n4 rfl f0 f1 HIL.out, rfl, Below.refl _ _⟩
          refine Steps.cons (step_value rfl fun xa W hp => ?_) ?_
          · have f0 : xa.tmps.getD 15 undef = .pointer (some ⟨g, i * 6, none⟩) := (hp.on_ 2 rfl rfl rfl).2
            exact ⟨wanted_none rfl, _, _, run_fa4 rfl f0 (fa_n4_0 _ _ W), rfl, Below.refl _ _⟩
          refine Steps.cons (step_value rfl fun xa W hp => ?_) ?_
          · have f0 : xa.tmps.getD 16 undef = .pointer (some ⟨g, i * 6 + 0, none⟩) := (hp.on_ 3 rfl rfl rfl).2
            exact ⟨wanted_none rfl, _, _, run_ldv rfl f0 (rangeAt_below HRG.out hp.below HG.out 0 _ rfl) Try.underlying9 rfl (by kernel_rfl), rfl, Below.refl _ _⟩
          refine Steps.cons (step_value rfl fun xa W hp => ⟨wanted_none rfl, _, _, run_move (.inl rfl), hp.old 0 rfl, Below.refl _ _⟩) ?_
          refine Steps.cons (step_value rfl fun xa W hp => ⟨wanted_none rfl, _, _, run_move (.inl rfl), hp.old 4 rfl, Below.refl _ _⟩) ?_
          refine Steps.cons (step_value rfl fun xa W hp => ?_) ?_
          · have f0 : xa.tmps.getD 18 undef = .slice (some ⟨g, 0, none⟩) l.length c := (hp.on_ 5 rfl rfl rfl).2
            have f1 : xa.tmps.getD 19 undef = .int .i64 (i : Int) := (hp.on_ 6 rfl rfl rfl).2
            exact ⟨wanted_none rfl, _, _, run_idxG Try.underlying23 size_n4 rfl f0 f1 HIL.out, rfl, Below.refl _ _⟩
          refine Steps.cons (step_value rfl fun xa W hp => ?_) ?_
          · have f0 : xa.tmps.getD 20 undef = .pointer (some ⟨g, i * 6, none⟩) := (hp.on_ 7 rfl rfl rfl).2
            exact ⟨wanted_none rfl, _, _, run_fa4 rfl f0 (fa_n4_1 _ _ W), rfl, Below.refl _ _⟩
          refine Steps.cons (step_value rfl fun xa W hp => ?_) ?_
          · have f0 : xa.tmps.getD 21 undef = .pointer (some ⟨g, i * 6 + 1, none⟩) := (hp.on_ 8 rfl rfl rfl).2
            exact ⟨wanted_none rfl, _, _, run_ldv rfl f0 (rangeAt_below HRG.out hp.below HG.out 1 _ rfl) Try.underlying35 rfl (by kernel_rfl), rfl, Below.refl _ _⟩
          refine Steps.cons (step_enter rfl fun xa W hp => ?_) ?_
          · have f0 : xa.tmps.getD 22 undef = .slice xi nd.ins.length ci := (hp.on_ 9 rfl rfl rfl).2
            refine ⟨wanted_none rfl, 49, _, run_enter1 rfl rfl Try.call49, ?_⟩
            show Calls _ _ #[xa.tmps.getD 22 undef] W _
            rw [f0]
            refine (backVars_any nd.ins W (by have h1 := hp.below.size; have h2 := HBS.out; have h3 := HW.out; omega) _ xi ci (IsD.keep hp.below.size (fun k _ hl => hp.below.block k hl) (fun _ h _ => h) _ HIN.out)).mono (fun e' W' h => ?_)
            obtain ⟨x', c', h1, h2, h3⟩ := h
            exact ⟨_, h1, ⟨x', c', rfl, IsD.monoB hp.below.size h2⟩, h3⟩
          refine Steps.cons (step_value rfl fun xa W hp => ⟨wanted_none rfl, _, _, run_move (.inl rfl), hp.old 0 rfl, Below.refl _ _⟩) ?_
          refine Steps.cons (step_value rfl fun xa W hp => ⟨wanted_none rfl, _, _, run_move (.inl rfl), hp.old 4 rfl, Below.refl _ _⟩) ?_
          refine Steps.cons (step_value rfl fun xa W hp => ?_) ?_
          · have f0 : xa.tmps.getD 24 undef = .slice (some ⟨g, 0, none⟩) l.length c := (hp.on_ 11 rfl rfl rfl).2
            have f1 : xa.tmps.getD 25 undef = .int .i64 (i : Int) := (hp.on_ 12 rfl rfl rfl).2
            exact ⟨wanted_none rfl, _, _, run_idxG Try.underlying23 size_n4 rfl f0 f1 HIL.out, rfl, Below.refl _ _⟩
          refine Steps.cons (step_value rfl fun xa W hp => ?_) ?_
          · have f0 : xa.tmps.getD 26 undef = .pointer (some ⟨g, i * 6, none⟩) := (hp.on_ 13 rfl rfl rfl).2
            exact ⟨wanted_none rfl, _, _, run_fa4 rfl f0 (fa_n4_2 _ _ W), rfl, Below.refl _ _⟩
          refine Steps.cons (step_value rfl fun xa W hp => ?_) ?_
          · have f0 : xa.tmps.getD 27 undef = .pointer (some ⟨g, i * 6 + 2, none⟩) := (hp.on_ 14 rfl rfl rfl).2
            exact ⟨wanted_none rfl, _, _, run_ldv rfl f0 (rangeAt_below HRG.out hp.below HG.out 2 _ rfl) Try.underlying35 rfl (by kernel_rfl), rfl, Below.refl _ _⟩
          refine Steps.cons (step_enter rfl fun xa W hp => ?_) ?_
          · have f0 : xa.tmps.getD 28 undef = .slice xo nd.outs.length co := (hp.on_ 15 rfl rfl rfl).2
            refine ⟨wanted_none rfl, 49, _, run_enter1 rfl rfl Try.call49, ?_⟩
            show Calls _ _ #[xa.tmps.getD 28 undef] W _
            rw [f0]
            refine (backVars_any nd.outs W (by have h1 := hp.below.size; have h2 := HBS.out; have h3 := HW.out; omega) _ xo co (IsD.keep hp.below.size (fun k _ hl => hp.below.block k hl) (fun _ h _ => h) _ HOU.out)).mono (fun e' W' h => ?_)
            obtain ⟨x', c', h1, h2, h3⟩ := h
            exact ⟨_, h1, ⟨x', c', rfl, IsD.monoB hp.below.size h2⟩, h3⟩
          refine Steps.cons (step_value rfl fun xa W hp => ⟨wanted_none rfl, _, _, run_move (.inl rfl), hp.old 0 rfl, Below.refl _ _⟩) ?_
          refine Steps.cons (step_value rfl fun xa W hp => ⟨wanted_none rfl, _, _, run_move (.inl rfl), hp.old 4 rfl, Below.refl _ _⟩) ?_
          refine Steps.cons (step_value rfl fun xa W hp => ?_) ?_
          · have f0 : xa.tmps.getD 30 undef = .slice (some ⟨g, 0, none⟩) l.length c := (hp.on_ 17 rfl rfl rfl).2
            have f1 : xa.tmps.getD 31 undef = .int .i64 (i : Int) := (hp.on_ 18 rfl rfl rfl).2
            exact ⟨wanted_none rfl, _, _, run_idxG Try.underlying23 size_n4 rfl f0 f1 HIL.out, rfl, Below.refl _ _⟩
          refine Steps.cons (step_value rfl fun xa W hp => ?_) ?_
          · have f0 : xa.tmps.getD 32 undef = .pointer (some ⟨g, i * 6, none⟩) := (hp.on_ 19 rfl rfl rfl).2
            exact ⟨wanted_none rfl, _, _, run_fa4 rfl f0 (fa_n4_3 _ _ W), rfl, Below.refl _ _⟩
          refine Steps.cons (step_value rfl fun xa W hp => ?_) ?_
          · have f0 : xa.tmps.getD 33 undef = .pointer (some ⟨g, i * 6 + 3, none⟩) := (hp.on_ 20 rfl rfl rfl).2
            exact ⟨wanted_none rfl, _, _, run_ldv rfl f0 (rangeAt_below HRG.out hp.below HG.out 3 _ rfl) Try.underlying35 rfl (by kernel_rfl), rfl, Below.refl _ _⟩
          refine Steps.cons (step_enter rfl fun xa W hp => ?_) ?_
          · have f0 : xa.tmps.getD 34 undef = .slice xl nd.locs.length cl := (hp.on_ 21 rfl rfl rfl).2
            refine ⟨wanted_none rfl, 49, _, run_enter1 rfl rfl Try.call49, ?_⟩
            show Calls _ _ #[xa.tmps.getD 34 undef] W _
            rw [f0]
            refine (backVars_any nd.locs W (by have h1 := hp.below.size; have h2 := HBS.out; have h3 := HW.out; omega) _ xl cl (IsD.keep hp.below.size (fun k _ hl => hp.below.block k hl) (fun _ h _ => h) _ HLO.out)).mono (fun e' W' h => ?_)
            obtain ⟨x', c', h1, h2, h3⟩ := h
            exact ⟨_, h1, ⟨x', c', rfl, IsD.monoB hp.below.size h2⟩, h3⟩
          refine Steps.cons (step_value rfl fun xa W hp => ⟨wanted_none rfl, _, _, run_move (.inl rfl), hp.old 0 rfl, Below.refl _ _⟩) ?_
          refine Steps.cons (step_value rfl fun xa W hp => ⟨wanted_none rfl, _, _, run_move (.inl rfl), hp.old 4 rfl, Below.refl _ _⟩) ?_
          refine Steps.cons (step_value rfl fun xa W hp => ?_) ?_
          · have f0 : xa.tmps.getD 36 undef = .slice (some ⟨g, 0, none⟩) l.length c := (hp.on_ 23 rfl rfl rfl).2
            have f1 : xa.tmps.getD 37 undef = .int .i64 (i : Int) := (hp.on_ 24 rfl rfl rfl).2
            exact ⟨wanted_none rfl, _, _, run_idxG Try.underlying23 size_n4 rfl f0 f1 HIL.out, rfl, Below.refl _ _⟩
          refine Steps.cons (step_value rfl fun xa W hp => ?_) ?_
          · have f0 : xa.tmps.getD 38 undef = .pointer (some ⟨g, i * 6, none⟩) := (hp.on_ 25 rfl rfl rfl).2
            exact ⟨wanted_none rfl, _, _, run_fa4 rfl f0 (fa_n4_5 _ _ W), rfl, Below.refl _ _⟩
          refine Steps.cons (step_value rfl fun xa W hp => ?_) ?_
          · have f0 : xa.tmps.getD 39 undef = .pointer (some ⟨g, i * 6 + 5, none⟩) := (hp.on_ 26 rfl rfl rfl).2
            exact ⟨wanted_none rfl, _, _, run_ldv rfl f0 (rangeAt_below HRG.out hp.below HG.out 5 _ rfl) Try.underlying3 rfl (by kernel_rfl), rfl, Below.refl _ _⟩
          refine Steps.cons (step_value rfl fun xa W hp => ?_) ?_
          · have f0 : xa.tmps.getD 17 undef = .string nd.name := (hp.on_ 4 rfl rfl rfl).2
            obtain ⟨x1, c1, e1, t1⟩ : wVars wr.heap.size nd.ins (xa.tmps.getD 23 undef) W := (hp.on_ 10 rfl rfl rfl).2
            obtain ⟨x2, c2, e2, t2⟩ : wVars wr.heap.size nd.outs (xa.tmps.getD 29 undef) W := (hp.on_ 16 rfl rfl rfl).2
            obtain ⟨x3, c3, e3, t3⟩ : wVars wr.heap.size nd.locs (xa.tmps.getD 35 undef) W := (hp.on_ 22 rfl rfl rfl).2
            have f4 : xa.tmps.getD 40 undef = .int .i64 (nd.at_ : Int) := (hp.on_ 27 rfl rfl rfl).2
            refine ⟨wanted_none rfl, _, _, run_bld5 rfl ?_, ⟨x1, c1, x2, c2, x3, c3, rfl, t1, t2, t3⟩, Below.refl _ _⟩
            show (Instr.build _ #[(0, xa.tmps.getD 17 undef), (1, xa.tmps.getD 23 undef), (2, xa.tmps.getD 29 undef), (3, xa.tmps.getD 35 undef), (5, xa.tmps.getD 40 undef)]).run _ W = _
            rw [f0, e1, e2, e3, f4]
            exact build_nS _ _ _ _ _ _ _ _ _ _ _ W
          refine Steps.cons (step_value rfl fun xa W hp => ⟨wanted_none rfl, _, _, alloc_nS rfl, ⟨W.heap.size, rfl, hp.below.size, heap_alloc_new W _⟩, (Below.refl _ _).alloc (Nat.le_refl _) _⟩) ?_
          exact Steps.nil
      case last =>
          intro xa W hI
          obtain ⟨xi2, ci2, xo2, co2, xl2, cl2, h41, t1, t2, t3⟩ : wNode wr.heap.size nd (xa.tmps.getD 41 undef) W := hI.new 28 _ 41 rfl rfl rfl
          obtain ⟨b, h5_, hbB, hbr⟩ : wNew wr.heap.size (xa.tmps.getD 5 undef) W := hI.new 29 _ 5 rfl rfl rfl
          refine wpOp_of rfl (wanted_none rfl) ?_
          refine wp_store_row 49 (.tmp 5) (.tmp 41) rfl b #[.string nd.name, .slice xi2 nd.ins.length ci2, .slice xo2 nd.outs.length co2, .slice xl2 nd.locs.length cl2, .slice none 0 0, .int .i64 (nd.at_ : Int)] h5_ h41 49 _ hbr size_nS rfl (n4_one _ _ _ _ _ _ _ _ _ _ _ _ _ _) ?_
          have hset := setRow_heap W b _ #[.string nd.name, .slice xi2 nd.ins.length ci2, .slice xo2 nd.outs.length co2, .slice xl2 nd.locs.length cl2, .slice none 0 0, .int .i64 (nd.at_ : Int)] _ _ hbr
          have hgr : W.grownBy (W.setRow b #[.string nd.name, .slice xi2 nd.ins.length ci2, .slice xo2 nd.outs.length co2, .slice xl2 nd.locs.length cl2, .slice none 0 0, .int .i64 (nd.at_ : Int)]) (some b) := ⟨rfl, rfl, rfl, by rw [setRow_size]; exact Nat.le_refl _, fun k _ hk => setRow_other W b k _ (fun e => hk (by rw [e]))⟩
          have hsz1 : (W.setRow b #[.string nd.name, .slice xi2 nd.ins.length ci2, .slice xo2 nd.outs.length co2, .slice xl2 nd.locs.length cl2, .slice none 0 0, .int .i64 (nd.at_ : Int)]).heap.size = W.heap.size := setRow_size ..
          have hbW : b < W.heap.size := (Array.getElem?_eq_some_iff.1 hbr).1
          have q : wEqs wr W.heap.size b #[.string nd.name, .slice xi2 nd.ins.length ci2, .slice xo2 nd.outs.length co2, .slice xl2 nd.locs.length cl2, .slice none 0 0, .int .i64 (nd.at_ : Int)] [(.slice xi2 nd.ins.length ci2, .sl nd.ins.length (vrsD nd.ins)), (.slice xo2 nd.outs.length co2, .sl nd.outs.length (vrsD nd.outs)), (.slice xl2 nd.locs.length cl2, .sl nd.locs.length (vrsD nd.locs))] 0 (qesD (nd.eqs.take 0)) (.slice none 0 0) (W.setRow b #[.string nd.name, .slice xi2 nd.ins.length ci2, .slice xo2 nd.outs.length co2, .slice xl2 nd.locs.length cl2, .slice none 0 0, .int .i64 (nd.at_ : Int)]) := by
            refine ⟨below_setRow hI.below hbB _, by rw [hsz1]; exact Nat.le_refl _, hset, fun y hy => ?_, by rw [List.take_zero]; exact OwnD.nil _ _ _ _⟩
            simp only [List.mem_cons, List.not_mem_nil, or_false] at hy
            rcases hy with rfl | rfl | rfl
            · exact (vars_apart t1 hbr).grown hgr (fun k hk hk' => by injection hk with hk; exact hk'.2.1 hk.symm)
            · exact (vars_apart t2 hbr).grown hgr (fun k hk hk' => by injection hk with hk; exact hk'.2.1 hk.symm)
            · exact (vars_apart t3 hbr).grown hgr (fun k hk hk' => by injection hk with hk; exact hk'.2.1 hk.symm)
          obtain ⟨m, hm⟩ : ∃ m, m = W.heap.size := ⟨_, rfl⟩
          rw [← hm] at q hbW
          obtain ⟨w1, hw1⟩ : ∃ w1, w1 = W.setRow b #[.string nd.name, .slice xi2 nd.ins.length ci2, .slice xo2 nd.outs.length co2, .slice xl2 nd.locs.length cl2, .slice none 0 0, .int .i64 (nd.at_ : Int)] := ⟨_, rfl⟩
          rw [← hw1] at q ⊢
          have HQ := Lib.hid q
          have HBW := Lib.hid hbW
          have HBB := Lib.hid hbB
          clear q hset hgr hsz1 hbr t1 t2 t3 hm hw1 hbW hbB
          have h0 : xa.tmps.getD 0 undef = .slice (some ⟨g, 0, none⟩) l.length c := hI.old 0 (by simp)
          have h1 : xa.tmps.getD 1 undef = undef := hI.old 1 (by simp)
          have h2 : xa.tmps.getD 2 undef = .slice none 0 0 := hI.old 2 (by simp)
          have h3 : xa.tmps.getD 3 undef = .slice xv i cv := hI.old 3 (by simp)
          have h4 : xa.tmps.getD 4 undef = .int .i64 (i : Int) := hI.old 4 (by simp)
          have h5 : xa.tmps.getD 5 undef = .pointer (some ⟨b, 0, none⟩) := h5_
          have h90 : xa.tmps.getD 90 undef = undef := hI.old 90 (by simp)
          have hsz_ : xa.tmps.size = 91 := hI.tmps
          have hdf_ : xa.defers = [] := hI.defers
          obtain ⟨fo, hf, hx⟩ := act_eta hsz_ hdf_
          rw [hf] at h0 h1 h2 h3 h4 h5 h90
          clear hI h5_ h41 hsz_ hdf_ hf
          subst hx
          have hl : ((List.range 91).map fo).toArray = #[fo 0, fo 1, fo 2, fo 3, fo 4, fo 5, fo 6, fo 7, fo 8, fo 9, fo 10, fo 11, fo 12, fo 13, fo 14, fo 15, fo 16, fo 17, fo 18, fo 19, fo 20, fo 21, fo 22, fo 23, fo 24, fo 25, fo 26, fo 27, fo 28, fo 29, fo 30, fo 31, fo 32, fo 33, fo 34, fo 35, fo 36, fo 37, fo 38, fo 39, fo 40, fo 41, fo 42, fo 43, fo 44, fo 45, fo 46, fo 47, fo 48, fo 49, fo 50, fo 51, fo 52, fo 53, fo 54, fo 55, fo 56, fo 57, fo 58, fo 59, fo 60, fo 61, fo 62, fo 63, fo 64, fo 65, fo 66, fo 67, fo 68, fo 69, fo 70, fo 71, fo 72, fo 73, fo 74, fo 75, fo 76, fo 77, fo 78, fo 79, fo 80, fo 81, fo 82, fo 83, fo 84, fo 85, fo 86, fo 87, fo 88, fo 89, fo 90] := rfl
          simp only [Exit.inBlock, Exit.then, Act.put]
          rw [hl, h0, h1, h2, h3, h4, h5, h90]
          clear hl h0 h1 h2 h3 h4 h5 h90
          obtain ⟨wo, rfl⟩ : ∃ wo : World, wo = wr := ⟨wr, rfl⟩
          go_wp2_with fail
          go_loopw [6] (fun v6 wr => ∃ (k : Nat) (xe2 : Option Addr) (ce2 : Nat), v6 = .int .i64 (k : Int) ∧ k ≤ nd.eqs.length ∧ wEqs wo m b #[.string nd.name, .slice xi2 nd.ins.length ci2, .slice xo2 nd.outs.length co2, .slice xl2 nd.locs.length cl2, .slice xe2 k ce2, .int .i64 (nd.at_ : Int)] [(.slice xi2 nd.ins.length ci2, .sl nd.ins.length (vrsD nd.ins)), (.slice xo2 nd.outs.length co2, .sl nd.outs.length (vrsD nd.outs)), (.slice xl2 nd.locs.length cl2, .sl nd.locs.length (vrsD nd.locs))] k (qesD (nd.eqs.take k)) (.slice xe2 k ce2) wr)
            (fun v6 _ => nd.eqs.length - (intOf v6).toNat)
          case atStart => exact ⟨0, none, 0, rfl, Nat.zero_le _, HQ.out⟩
          case round =>
            clear HQ
            obtain ⟨k, xe2, ce2, rfl, hk, hq⟩ := hrel
            have HK2 := Lib.hid hk
            have HQ := Lib.hid hq
            have HRGo := HRG
            have HGo := HG
            clear hk hq HRG HG
            have HRG := Lib.hid (rangeAt_below HRGo.out HQ.out.1 HGo.out)
            have HG := Lib.hid (show g < wr.heap.size from Nat.lt_of_lt_of_le HGo.out HQ.out.1.size)
            have HRB := Lib.hid HQ.out.2.2.1
            have HBL := Lib.hid (show b < wr.heap.size from (Array.getElem?_eq_some_iff.1 HQ.out.2.2.1).1)
            have cE : wr.cell? ⟨g, i * 6 + 4, none⟩ = some (.slice xe nd.eqs.length ce) := HRG.out 4 _ rfl
            have i0 : (0 : Int) ≤ (i : Int) := by omega
            have i1 : (i : Int) < (l.length : Int) := by have := HIL.out; omega
            have i2 : (i : Int) < 1000000000 := by have := HIL.out; have := IsD.few HK.out; omega
            by_cases hkl : k < nd.eqs.length
            · have d2 : decide ((k : Int) < (nd.eqs.length : Int)) = true := by simp; omega
              have HKL := Lib.hid hkl
              clear hkl
              obtain ⟨ge, rfl, hge, xk, ck, hrq, hkd⟩ := qe_at HEQ.out k HKL.out
              obtain ⟨q, hqq⟩ : ∃ q, q = nd.eqs[k]'HKL.out := ⟨_, rfl⟩
              rw [← hqq] at hrq hkd
              have HQD := Lib.hid hqq
              have HRQ := Lib.hid (rangeAt_below hrq HQ.out.1 hge)
              have HGQ := Lib.hid (show ge < wr.heap.size from Nat.lt_of_lt_of_le hge HQ.out.1.size)
              have HKD := Lib.hid (show KidsD (fun j => (ok j ∧ j < w.heap.size) ∧ j < wo.heap.size) wr q.e xk ck from IsD.keep HQ.out.1.size (fun j _ hl => HQ.out.1.block j hl) (fun j hj hl => ⟨hj, hl⟩) _ hkd)
              clear hge hrq hkd hqq
              go_upto_if 49 with fail
              clear cE i1 i2
              go_upto_region 9 with fail
              refine wp_region_steps_then3 (words [wIs (.pointer (some ⟨b, 4, none⟩)), wIs (.slice xe2 k ce2), wIs (.slice (some ⟨g, 0, none⟩) l.length c), wIs (.int .i64 (i : Int)), wIs (.pointer (some ⟨g, i * 6, none⟩)), wIs (.pointer (some ⟨g, i * 6 + 4, none⟩)), wIs (.slice (some ⟨ge, 0, none⟩) nd.eqs.length ce), wIs (.int .i64 (k : Int)), wIs (.pointer (some ⟨ge, k * 7, none⟩)), wIs (.pointer (some ⟨ge, k * 7 + 0, none⟩)), wIs (.string q.name), wIs (.slice (some ⟨g, 0, none⟩) l.length c), wIs (.int .i64 (i : Int)), wIs (.pointer (some ⟨g, i * 6, none⟩)), wIs (.pointer (some ⟨g, i * 6 + 4, none⟩)), wIs (.slice (some ⟨ge, 0, none⟩) nd.eqs.length ce), wIs (.int .i64 (k : Int)), wIs (.pointer (some ⟨ge, k * 7, none⟩)), wIs (.pointer (some ⟨ge, k * 7 + 1, none⟩)), wIs (exV q.e xk ck), wKid wr.heap.size q.e, wIs (.slice (some ⟨g, 0, none⟩) l.length c), wIs (.int .i64 (i : Int)), wIs (.pointer (some ⟨g, i * 6, none⟩)), wIs (.pointer (some ⟨g, i * 6 + 4, none⟩)), wIs (.slice (some ⟨ge, 0, none⟩) nd.eqs.length ce), wIs (.int .i64 (k : Int)), wIs (.pointer (some ⟨ge, k * 7, none⟩)), wIs (.pointer (some ⟨ge, k * 7 + 6, none⟩)), wIs (.int .i64 (q.at_ : Int)), wEq wr.heap.size q, wRow wr.heap.size (qeD q), wEqs wo m b #[.string nd.name, .slice xi2 nd.ins.length ci2, .slice xo2 nd.outs.length co2, .slice xl2 nd.locs.length cl2, .slice xe2 k ce2, .int .i64 (nd.at_ : Int)] [(.slice xi2 nd.ins.length ci2, .sl nd.ins.length (vrsD nd.ins)), (.slice xo2 nd.outs.length co2, .sl nd.outs.length (vrsD nd.outs)), (.slice xl2 nd.locs.length cl2, .sl nd.locs.length (vrsD nd.locs))] (k + 1) (qesD (nd.eqs.take (k + 1))), wIs (.pointer (some ⟨b, 4, none⟩))]) wr.heap.size wr (by kernel_rfl) (Below.refl _ _) (Nat.le_refl _) (words_stable ?stab) rfl rfl (by kernel_rfl) 32 (by kernel_rfl) _ _ _ rfl rfl rfl 84 85 rfl rfl (.pointer (some ⟨b, 4, none⟩)) (fun v W => Iff.rfl) ?steps ?fa ?app ?fin
              case stab =>
                intro f hf
                simp only [List.mem_cons, List.not_mem_nil, or_false] at hf
                rcases hf with rfl | rfl | rfl | rfl | rfl | rfl | rfl | rfl | rfl | rfl | rfl | rfl | rfl | rfl | rfl | rfl | rfl | rfl | rfl | rfl | rfl | rfl | rfl | rfl | rfl | rfl | rfl | rfl | rfl | rfl | rfl | rfl | rfl | rfl <;> first | exact stable_is _ | exact stable_kid _ _ | exact stable_row _ _ | exact stable_eq _ _ | exact stable_eqs _ _ _ _ _ _ _
              case steps =>
                refine Steps.cons (step_value rfl fun xa W hp => ?_) ?_
                · have f0 : xa.tmps.getD 5 undef = .pointer (some ⟨b, 0, none⟩) := hp.old 5 rfl
                  exact ⟨wanted_none rfl, _, _, run_fa4 rfl f0 (fa_nS4 _ W), rfl, Below.refl _ _⟩
                refine Steps.cons (step_value rfl fun xa W hp => ?_) ?_
                · have f0 : xa.tmps.getD 52 undef = .pointer (some ⟨b, 4, none⟩) := (hp.on_ 0 rfl rfl rfl).2
                  exact ⟨wanted_none rfl, _, _, run_ldv rfl f0 (cell_of_row W b 4 _ _ _ ((hp.below.block b HBL.out).trans HRB.out)) Try.underlying47 rfl size_qsl, rfl, Below.refl _ _⟩
                refine Steps.cons (step_value rfl fun xa W hp => ⟨wanted_none rfl, _, _, run_move (.inl rfl), hp.old 0 rfl, Below.refl _ _⟩) ?_
                refine Steps.cons (step_value rfl fun xa W hp => ⟨wanted_none rfl, _, _, run_move (.inl rfl), hp.old 4 rfl, Below.refl _ _⟩) ?_
                refine Steps.cons (step_value rfl fun xa W hp => ?_) ?_
                · have f0 : xa.tmps.getD 54 undef = .slice (some ⟨g, 0, none⟩) l.length c := (hp.on_ 2 rfl rfl rfl).2
                  have f1 : xa.tmps.getD 55 undef = .int .i64 (i : Int) := (hp.on_ 3 rfl rfl rfl).2
                  exact ⟨wanted_none rfl, _, _, run_idxG Try.underlying23 size_n4 rfl f0 f1 HIL.out, rfl, Below.refl _ _⟩
                refine Steps.cons (step_value rfl fun xa W hp => ?_) ?_
                · have f0 : xa.tmps.getD 56 undef = .pointer (some ⟨g, i * 6, none⟩) := (hp.on_ 4 rfl rfl rfl).2
                  exact ⟨wanted_none rfl, _, _, run_fa4 rfl f0 (fa_n4_4 _ _ W), rfl, Below.refl _ _⟩
                refine Steps.cons (step_value rfl fun xa W hp => ?_) ?_
                · have f0 : xa.tmps.getD 57 undef = .pointer (some ⟨g, i * 6 + 4, none⟩) := (hp.on_ 5 rfl rfl rfl).2
                  exact ⟨wanted_none rfl, _, _, run_ldv rfl f0 (rangeAt_below HRG.out hp.below HG.out 4 _ rfl) Try.underlying36 rfl (by kernel_rfl), rfl, Below.refl _ _⟩
                refine Steps.cons (step_value rfl fun xa W hp => ⟨wanted_none rfl, _, _, run_move (.inl rfl), hp.old 6 rfl, Below.refl _ _⟩) ?_
                refine Steps.cons (step_value rfl fun xa W hp => ?_) ?_
                · have f0 : xa.tmps.getD 58 undef = .slice (some ⟨ge, 0, none⟩) nd.eqs.length ce := (hp.on_ 6 rfl rfl rfl).2
                  have f1 : xa.tmps.getD 59 undef = .int .i64 (k : Int) := (hp.on_ 7 rfl rfl rfl).2
                  exact ⟨wanted_none rfl, _, _, run_idxG Try.underlying36 size_q4 rfl f0 f1 HKL.out, rfl, Below.refl _ _⟩
                refine Steps.cons (step_value rfl fun xa W hp => ?_) ?_
                · have f0 : xa.tmps.getD 60 undef = .pointer (some ⟨ge, k * 7, none⟩) := (hp.on_ 8 rfl rfl rfl).2
                  exact ⟨wanted_none rfl, _, _, run_fa4 rfl f0 (fa_q4_0 _ _ W), rfl, Below.refl _ _⟩
                refine Steps.cons (step_value rfl fun xa W hp => ?_) ?_
                · have f0 : xa.tmps.getD 61 undef = .pointer (some ⟨ge, k * 7 + 0, none⟩) := (hp.on_ 9 rfl rfl rfl).2
                  exact ⟨wanted_none rfl, _, _, run_ldv rfl f0 (rangeAt_below HRQ.out hp.below HGQ.out 0 _ rfl) Try.underlying9 rfl (by kernel_rfl), rfl, Below.refl _ _⟩
                refine Steps.cons (step_value rfl fun xa W hp => ⟨wanted_none rfl, _, _, run_move (.inl rfl), hp.old 0 rfl, Below.refl _ _⟩) ?_
                refine Steps.cons (step_value rfl fun xa W hp => ⟨wanted_none rfl, _, _, run_move (.inl rfl), hp.old 4 rfl, Below.refl _ _⟩) ?_
                refine Steps.cons (step_value rfl fun xa W hp => ?_) ?_
                · have f0 : xa.tmps.getD 63 undef = .slice (some ⟨g, 0, none⟩) l.length c := (hp.on_ 11 rfl rfl rfl).2
                  have f1 : xa.tmps.getD 64 undef = .int .i64 (i : Int) := (hp.on_ 12 rfl rfl rfl).2
                  exact ⟨wanted_none rfl, _, _, run_idxG Try.underlying23 size_n4 rfl f0 f1 HIL.out, rfl, Below.refl _ _⟩
                refine Steps.cons (step_value rfl fun xa W hp => ?_) ?_
                · have f0 : xa.tmps.getD 65 undef = .pointer (some ⟨g, i * 6, none⟩) := (hp.on_ 13 rfl rfl rfl).2
                  exact ⟨wanted_none rfl, _, _, run_fa4 rfl f0 (fa_n4_4 _ _ W), rfl, Below.refl _ _⟩
                refine Steps.cons (step_value rfl fun xa W hp => ?_) ?_
                · have f0 : xa.tmps.getD 66 undef = .pointer (some ⟨g, i * 6 + 4, none⟩) := (hp.on_ 14 rfl rfl rfl).2
                  exact ⟨wanted_none rfl, _, _, run_ldv rfl f0 (rangeAt_below HRG.out hp.below HG.out 4 _ rfl) Try.underlying36 rfl (by kernel_rfl), rfl, Below.refl _ _⟩
                refine Steps.cons (step_value rfl fun xa W hp => ⟨wanted_none rfl, _, _, run_move (.inl rfl), hp.old 6 rfl, Below.refl _ _⟩) ?_
                refine Steps.cons (step_value rfl fun xa W hp => ?_) ?_
                · have f0 : xa.tmps.getD 67 undef = .slice (some ⟨ge, 0, none⟩) nd.eqs.length ce := (hp.on_ 15 rfl rfl rfl).2
                  have f1 : xa.tmps.getD 68 undef = .int .i64 (k : Int) := (hp.on_ 16 rfl rfl rfl).2
                  exact ⟨wanted_none rfl, _, _, run_idxG Try.underlying36 size_q4 rfl f0 f1 HKL.out, rfl, Below.refl _ _⟩
                refine Steps.cons (step_value rfl fun xa W hp => ?_) ?_
                · have f0 : xa.tmps.getD 69 undef = .pointer (some ⟨ge, k * 7, none⟩) := (hp.on_ 17 rfl rfl rfl).2
                  exact ⟨wanted_none rfl, _, _, run_fa4 rfl f0 (fa_q4_1 _ _ W), rfl, Below.refl _ _⟩
                refine Steps.cons (step_value rfl fun xa W hp => ?_) ?_
                · have f0 : xa.tmps.getD 70 undef = .pointer (some ⟨ge, k * 7 + 1, none⟩) := (hp.on_ 18 rfl rfl rfl).2
                  exact ⟨wanted_none rfl, _, _, run_ldmidG rfl f0 (vs := exC q.e xk ck) ((fun W' hb' => qe_mid (rangeAt_below HRQ.out hb' HGQ.out)) W hp.below) rfl Try.underlying53 (by kernel_rfl), rfl, Below.refl _ _⟩
                refine Steps.cons (step_enter rfl fun xa W hp => ?_) ?_
                · have f0 : xa.tmps.getD 71 undef = exV q.e xk ck := (hp.on_ 19 rfl rfl rfl).2
                  refine ⟨wanted_none rfl, 50, _, run_enter1 rfl rfl Try.call50, ?_⟩
                  show Calls _ _ #[xa.tmps.getD 71 undef] W _
                  rw [f0]
                  refine (back_lt _ q.e (Nat.lt_succ_self _) W _ xk ck (IsD.keep hp.below.size (fun k _ hl => hp.below.block k hl) (fun _ h _ => h) _ HKD.out)).mono (fun e' W' h => ?_)
                  obtain ⟨x', c', h1, h2, h3⟩ := h
                  exact ⟨_, h1, ⟨x', c', rfl, IsD.monoB hp.below.size h2⟩, h3⟩
                refine Steps.cons (step_value rfl fun xa W hp => ⟨wanted_none rfl, _, _, run_move (.inl rfl), hp.old 0 rfl, Below.refl _ _⟩) ?_
                refine Steps.cons (step_value rfl fun xa W hp => ⟨wanted_none rfl, _, _, run_move (.inl rfl), hp.old 4 rfl, Below.refl _ _⟩) ?_
                refine Steps.cons (step_value rfl fun xa W hp => ?_) ?_
                · have f0 : xa.tmps.getD 73 undef = .slice (some ⟨g, 0, none⟩) l.length c := (hp.on_ 21 rfl rfl rfl).2
                  have f1 : xa.tmps.getD 74 undef = .int .i64 (i : Int) := (hp.on_ 22 rfl rfl rfl).2
                  exact ⟨wanted_none rfl, _, _, run_idxG Try.underlying23 size_n4 rfl f0 f1 HIL.out, rfl, Below.refl _ _⟩
                refine Steps.cons (step_value rfl fun xa W hp => ?_) ?_
                · have f0 : xa.tmps.getD 75 undef = .pointer (some ⟨g, i * 6, none⟩) := (hp.on_ 23 rfl rfl rfl).2
                  exact ⟨wanted_none rfl, _, _, run_fa4 rfl f0 (fa_n4_4 _ _ W), rfl, Below.refl _ _⟩
                refine Steps.cons (step_value rfl fun xa W hp => ?_) ?_
                · have f0 : xa.tmps.getD 76 undef = .pointer (some ⟨g, i * 6 + 4, none⟩) := (hp.on_ 24 rfl rfl rfl).2
                  exact ⟨wanted_none rfl, _, _, run_ldv rfl f0 (rangeAt_below HRG.out hp.below HG.out 4 _ rfl) Try.underlying36 rfl (by kernel_rfl), rfl, Below.refl _ _⟩
                refine Steps.cons (step_value rfl fun xa W hp => ⟨wanted_none rfl, _, _, run_move (.inl rfl), hp.old 6 rfl, Below.refl _ _⟩) ?_
                refine Steps.cons (step_value rfl fun xa W hp => ?_) ?_
                · have f0 : xa.tmps.getD 77 undef = .slice (some ⟨ge, 0, none⟩) nd.eqs.length ce := (hp.on_ 25 rfl rfl rfl).2
                  have f1 : xa.tmps.getD 78 undef = .int .i64 (k : Int) := (hp.on_ 26 rfl rfl rfl).2
                  exact ⟨wanted_none rfl, _, _, run_idxG Try.underlying36 size_q4 rfl f0 f1 HKL.out, rfl, Below.refl _ _⟩
                refine Steps.cons (step_value rfl fun xa W hp => ?_) ?_
                · have f0 : xa.tmps.getD 79 undef = .pointer (some ⟨ge, k * 7, none⟩) := (hp.on_ 27 rfl rfl rfl).2
                  exact ⟨wanted_none rfl, _, _, run_fa4 rfl f0 (fa_q4_2 _ _ W), rfl, Below.refl _ _⟩
                refine Steps.cons (step_value rfl fun xa W hp => ?_) ?_
                · have f0 : xa.tmps.getD 80 undef = .pointer (some ⟨ge, k * 7 + 6, none⟩) := (hp.on_ 28 rfl rfl rfl).2
                  exact ⟨wanted_none rfl, _, _, run_ldv rfl f0 (rangeAt_below HRQ.out hp.below HGQ.out 6 _ rfl) Try.underlying3 rfl (by kernel_rfl), rfl, Below.refl _ _⟩
                refine Steps.cons (step_value rfl fun xa W hp => ?_) ?_
                · have f0 : xa.tmps.getD 62 undef = .string q.name := (hp.on_ 10 rfl rfl rfl).2
                  obtain ⟨x1, c1, e1, t1⟩ : wKid wr.heap.size q.e (xa.tmps.getD 72 undef) W := (hp.on_ 20 rfl rfl rfl).2
                  have f2 : xa.tmps.getD 81 undef = .int .i64 (q.at_ : Int) := (hp.on_ 29 rfl rfl rfl).2
                  refine ⟨wanted_none rfl, _, _, run_bld3 rfl ?_, ⟨x1, c1, rfl, t1⟩, Below.refl _ _⟩
                  show (Instr.build _ #[(0, xa.tmps.getD 62 undef), (1, xa.tmps.getD 72 undef), (2, xa.tmps.getD 81 undef)]).run _ W = _
                  rw [f0, e1, f2]
                  exact build_qS _ _ _ _ _ _ _ _ _ W
                refine Steps.cons (step_value rfl fun xa W hp => ?_) ?_
                · obtain ⟨x1, c1, e1, t1⟩ : wEq wr.heap.size q (xa.tmps.getD 82 undef) W := (hp.on_ 30 rfl rfl rfl).2
                  refine ⟨wanted_none rfl, _, _, run_bsl1 rfl (by
                    show (Instr.buildSlice _ 1 #[(0, xa.tmps.getD 82 undef)]).run _ W = _
                    rw [e1]
                    exact slice_oneQ _ _ _ _ _ _ _ _ _ W), ⟨W.heap.size, rfl, ?_⟩, (Below.refl _ _).alloc (Nat.le_refl _) _⟩
                  exact IsD.made 45 _ W.heap.size rfl 1 (by decide) (by decide) (qeD q) hp.below.size (qeC_rows (e := q.e) t1)
                exact Steps.nil
              case fa =>
                intro xa W hold
                have f0 : xa.tmps.getD 5 undef = .pointer (some ⟨b, 0, none⟩) := hold 5 (by simp)
                exact wpOp_value rfl (wanted_none rfl) (run_fa4 rfl f0 (fa_nS4 _ W)) ⟨rfl, rfl⟩
              case app =>
                intro xa W hI
                have f53 : xa.tmps.getD 53 undef = .slice xe2 k ce2 := hI.new 1 _ 53 rfl rfl rfl
                obtain ⟨g', f83, h83⟩ : wRow wr.heap.size (qeD q) (xa.tmps.getD 83 undef) W := hI.new 31 _ 83 rfl rfl rfl
                obtain ⟨i7, hi7, ⟨z7, hz7, hzs7⟩, hs7, hb7⟩ := HIQ7.out
                obtain ⟨q1, q2, q3, q4, q5⟩ := HQ.out
                have hOW := q5.below hI.below
                have hbs := hI.below.size
                have hbm := HBW.out
                have hwb := HBB.out
                refine wpOp_appD rfl (wanted_none rfl) (.tmp 53) (.tmp 83) 47 rfl i7 z7 96 Try.underlying47 hi7 hz7 hs7 hb7 hzs7 (by decide) (by decide) f53 hOW (by omega) (m := 1) f83 (qeD q) (by rw [qeD_len]) (by decide) h83 (qeD_one q) (fun j hj hl => ⟨by have : wr.heap.size ≤ j := hj; omega, fun e' => by have := (q5.gt j e'.symm).2; have : wr.heap.size ≤ j := hj; omega⟩) (by have := HKL.out; have := IsD.few HEQ.out; omega) (fun v' w' j1 j2 => ⟨v', rfl, ?_⟩)
                have hgt : ∀ j, Value.ownBlock (.slice xe2 k ce2) = some j → m - 1 < j := fun j hj => (q5.gt j hj).1
                refine ⟨below_own (q1.trans (hI.below.mono q1.size)) j2 (fun j hj => by have := hgt j hj; omega), Nat.le_trans q2 (Nat.le_trans hbs j2.size), ?_, ?_, ?_⟩
                · exact (j2.block b (by omega) (fun e' => by have := hgt b e'.symm; omega)).trans ((hI.below.block b HBL.out).trans q3)
                · exact (tre_below q4 hI.below).grown j2 (fun j hj hj' => by have := hgt j hj; have := hj'.2.2; omega)
                · rw [HQD.out, qesD_take HKL.out] at j1
                  exact j1
              case fin =>
                intro xa W hdf hsz hold h84 h85_
                obtain ⟨r1, r2, r3, r4, r5⟩ : wEqs wo m b #[.string nd.name, .slice xi2 nd.ins.length ci2, .slice xo2 nd.outs.length co2, .slice xl2 nd.locs.length cl2, .slice xe2 k ce2, .int .i64 (nd.at_ : Int)] [(.slice xi2 nd.ins.length ci2, .sl nd.ins.length (vrsD nd.ins)), (.slice xo2 nd.outs.length co2, .sl nd.outs.length (vrsD nd.outs)), (.slice xl2 nd.locs.length cl2, .sl nd.locs.length (vrsD nd.locs))] (k + 1) (qesD (nd.eqs.take (k + 1))) (xa.tmps.getD 84 undef) W := h84
                obtain ⟨V, hV⟩ : ∃ V, V = xa.tmps.getD 84 undef := ⟨_, rfl⟩
                rw [← hV] at r5
                obtain ⟨xn, cn, rfl, _, _⟩ := r5.slice
                refine wpOp_of rfl (wanted_none rfl) ?_
                refine wp_store_cell 47 (.tmp 85) (.tmp 84) rfl b 4 (.slice xn (k + 1) cn) _ h85_ hV.symm (cell_of_row W b 4 _ _ _ r3) (frozen_of_row W b 4 _ _ r3) size_qsl rfl ?_
                have hgs := gb_set W b 4 (.slice xn (k + 1) cn)
                have hbm := HBW.out
                have hwb := HBB.out
                have HQN := Lib.hid (show wEqs wo m b #[.string nd.name, .slice xi2 nd.ins.length ci2, .slice xo2 nd.outs.length co2, .slice xl2 nd.locs.length cl2, .slice xn (k + 1) cn, .int .i64 (nd.at_ : Int)] [(.slice xi2 nd.ins.length ci2, .sl nd.ins.length (vrsD nd.ins)), (.slice xo2 nd.outs.length co2, .sl nd.outs.length (vrsD nd.outs)), (.slice xl2 nd.locs.length cl2, .sl nd.locs.length (vrsD nd.locs))] (k + 1) (qesD (nd.eqs.take (k + 1))) (.slice xn (k + 1) cn) (W.setCell ⟨b, 4, none⟩ (.slice xn (k + 1) cn)) from
                  ⟨below_own r1 hgs (fun j hj => by injection hj with hj; omega), Nat.le_trans r2 hgs.size, heap_setCell_same W b 4 _ _ _ r3, r4.grown hgs (fun j hj hj' => by injection hj with hj; exact hj'.2.1 hj.symm), r5.kept hgs (fun j hj => by injection hj with hj; omega)⟩)
                clear r1 r2 r3 r4 r5 hgs hbm hwb
                have h0 : xa.tmps.getD 0 undef = .slice (some ⟨g, 0, none⟩) l.length c := hold 0 (by simp)
                have h1 : xa.tmps.getD 1 undef = undef := hold 1 (by simp)
                have h2 : xa.tmps.getD 2 undef = .slice none 0 0 := hold 2 (by simp)
                have h3 : xa.tmps.getD 3 undef = .slice xv i cv := hold 3 (by simp)
                have h4 : xa.tmps.getD 4 undef = .int .i64 (i : Int) := hold 4 (by simp)
                have h5 : xa.tmps.getD 5 undef = .pointer (some ⟨b, 0, none⟩) := hold 5 (by simp)
                have h6 : xa.tmps.getD 6 undef = .int .i64 (k : Int) := hold 6 (by simp)
                have h7 : xa.tmps.getD 7 undef = fo 7 := hold 7 (by simp)
                have h8 : xa.tmps.getD 8 undef = fo 8 := hold 8 (by simp)
                have h9 : xa.tmps.getD 9 undef = fo 9 := hold 9 (by simp)
                have h10 : xa.tmps.getD 10 undef = fo 10 := hold 10 (by simp)
                have h11 : xa.tmps.getD 11 undef = fo 11 := hold 11 (by simp)
                have h12 : xa.tmps.getD 12 undef = fo 12 := hold 12 (by simp)
                have h13 : xa.tmps.getD 13 undef = fo 13 := hold 13 (by simp)
                have h14 : xa.tmps.getD 14 undef = fo 14 := hold 14 (by simp)
                have h15 : xa.tmps.getD 15 undef = fo 15 := hold 15 (by simp)
                have h16 : xa.tmps.getD 16 undef = fo 16 := hold 16 (by simp)
                have h17 : xa.tmps.getD 17 undef = fo 17 := hold 17 (by simp)
                have h18 : xa.tmps.getD 18 undef = fo 18 := hold 18 (by simp)
                have h19 : xa.tmps.getD 19 undef = fo 19 := hold 19 (by simp)
                have h20 : xa.tmps.getD 20 undef = fo 20 := hold 20 (by simp)
                have h21 : xa.tmps.getD 21 undef = fo 21 := hold 21 (by simp)
                have h22 : xa.tmps.getD 22 undef = fo 22 := hold 22 (by simp)
                have h23 : xa.tmps.getD 23 undef = fo 23 := hold 23 (by simp)
                have h24 : xa.tmps.getD 24 undef = fo 24 := hold 24 (by simp)
                have h25 : xa.tmps.getD 25 undef = fo 25 := hold 25 (by simp)
                have h26 : xa.tmps.getD 26 undef = fo 26 := hold 26 (by simp)
                have h27 : xa.tmps.getD 27 undef = fo 27 := hold 27 (by simp)
                have h28 : xa.tmps.getD 28 undef = fo 28 := hold 28 (by simp)
                have h29 : xa.tmps.getD 29 undef = fo 29 := hold 29 (by simp)
                have h30 : xa.tmps.getD 30 undef = fo 30 := hold 30 (by simp)
                have h31 : xa.tmps.getD 31 undef = fo 31 := hold 31 (by simp)
                have h32 : xa.tmps.getD 32 undef = fo 32 := hold 32 (by simp)
                have h33 : xa.tmps.getD 33 undef = fo 33 := hold 33 (by simp)
                have h34 : xa.tmps.getD 34 undef = fo 34 := hold 34 (by simp)
                have h35 : xa.tmps.getD 35 undef = fo 35 := hold 35 (by simp)
                have h36 : xa.tmps.getD 36 undef = fo 36 := hold 36 (by simp)
                have h37 : xa.tmps.getD 37 undef = fo 37 := hold 37 (by simp)
                have h38 : xa.tmps.getD 38 undef = fo 38 := hold 38 (by simp)
                have h39 : xa.tmps.getD 39 undef = fo 39 := hold 39 (by simp)
                have h40 : xa.tmps.getD 40 undef = fo 40 := hold 40 (by simp)
                have h41 : xa.tmps.getD 41 undef = fo 41 := hold 41 (by simp)
                have h86 : xa.tmps.getD 86 undef = fo 86 := hold 86 (by simp)
                have h87 : xa.tmps.getD 87 undef = fo 87 := hold 87 (by simp)
                have h88 : xa.tmps.getD 88 undef = fo 88 := hold 88 (by simp)
                have h89 : xa.tmps.getD 89 undef = fo 89 := hold 89 (by simp)
                have h90 : xa.tmps.getD 90 undef = undef := hold 90 (by simp)
                have hsz_ : xa.tmps.size = 91 := hsz
                have hdf_ : xa.defers = [] := hdf
                obtain ⟨fi, hf, hx⟩ := act_eta hsz_ hdf_
                rw [hf] at h0 h1 h2 h3 h4 h5 h6 h7 h8 h9 h10 h11 h12 h13 h14 h15 h16 h17 h18 h19 h20 h21 h22 h23 h24 h25 h26 h27 h28 h29 h30 h31 h32 h33 h34 h35 h36 h37 h38 h39 h40 h41 h86 h87 h88 h89 h90
                clear hold h85_ hV hsz_ hdf_ hf
                subst hx
                have hl : ((List.range 91).map fi).toArray = #[fi 0, fi 1, fi 2, fi 3, fi 4, fi 5, fi 6, fi 7, fi 8, fi 9, fi 10, fi 11, fi 12, fi 13, fi 14, fi 15, fi 16, fi 17, fi 18, fi 19, fi 20, fi 21, fi 22, fi 23, fi 24, fi 25, fi 26, fi 27, fi 28, fi 29, fi 30, fi 31, fi 32, fi 33, fi 34, fi 35, fi 36, fi 37, fi 38, fi 39, fi 40, fi 41, fi 42, fi 43, fi 44, fi 45, fi 46, fi 47, fi 48, fi 49, fi 50, fi 51, fi 52, fi 53, fi 54, fi 55, fi 56, fi 57, fi 58, fi 59, fi 60, fi 61, fi 62, fi 63, fi 64, fi 65, fi 66, fi 67, fi 68, fi 69, fi 70, fi 71, fi 72, fi 73, fi 74, fi 75, fi 76, fi 77, fi 78, fi 79, fi 80, fi 81, fi 82, fi 83, fi 84, fi 85, fi 86, fi 87, fi 88, fi 89, fi 90] := rfl
                simp only [Exit.inBlock, Exit.then, Act.put]
                rw [hl, h0, h1, h2, h3, h4, h5, h6, h7, h8, h9, h10, h11, h12, h13, h14, h15, h16, h17, h18, h19, h20, h21, h22, h23, h24, h25, h26, h27, h28, h29, h30, h31, h32, h33, h34, h35, h36, h37, h38, h39, h40, h41, h86, h87, h88, h89, h90]
                clear hl h0 h1 h2 h3 h4 h5 h6 h7 h8 h9 h10 h11 h12 h13 h14 h15 h16 h17 h18 h19 h20 h21 h22 h23 h24 h25 h26 h27 h28 h29 h30 h31 h32 h33 h34 h35 h36 h37 h38 h39 h40 h41 h86 h87 h88 h89 h90
                have k0 : (0 : Int) ≤ (k : Int) := by omega
                have k1 : (k : Int) < (nd.eqs.length : Int) := by have := HKL.out; omega
                have k2 : (k : Int) < 1000000000 := by have := HKL.out; have := IsD.few HEQ.out; omega
                go_wp2_with fail
                refine ⟨⟨k + 1, xn, cn, by go_num, HKL.out, HQN.out⟩, ?_⟩
                simp [intOf]; omega
            · have d2 : decide ((k : Int) < (nd.eqs.length : Int)) = false := by simp; omega
              obtain rfl : k = nd.eqs.length := by have := HK2.out; omega
              clear hkl
              obtain ⟨q1, q2, q3, q4, q5⟩ := HQ.out
              rw [List.take_length] at q5
              have hbm := HBW.out
              have hwb := HBB.out
              have htr : IsD (wo.heap.size ≤ ·) (wr.alloc (.cells #[.string nd.name, .slice xi2 nd.ins.length ci2, .slice xo2 nd.outs.length co2, .slice xl2 nd.locs.length cl2, .slice xe2 nd.eqs.length ce2, .int .i64 (nd.at_ : Int)] 49)) (.slice (some ⟨wr.heap.size, 0, none⟩) 1 1) (.sl 1 (ndD nd)) := IsD.made 49 _ wr.heap.size rfl 1 (by decide) (by decide) (ndD nd) q1.size (ndC_rows (n := nd) ((q4 _ (List.mem_cons_self ..)).mono (fun j hj _ => hj.1)) ((q4 _ (List.mem_cons_of_mem _ (List.mem_cons_self ..))).mono (fun j hj _ => hj.1)) ((q4 _ (List.mem_cons_of_mem _ (List.mem_cons_of_mem _ (List.mem_cons_self ..)))).mono (fun j hj _ => hj.1)) ((q5.ends (IsD.few HEQ.out)).mono (fun j hj _ => by have : m - 1 < j := hj; show wo.heap.size ≤ j; omega)))
              have hba : Below wo.heap.size wo (wr.alloc (.cells #[.string nd.name, .slice xi2 nd.ins.length ci2, .slice xo2 nd.outs.length co2, .slice xl2 nd.locs.length cl2, .slice xe2 nd.eqs.length ce2, .int .i64 (nd.at_ : Int)] 49)) := q1.alloc q1.size _
              have HO7 := Lib.hid (HO.out.below hba)
              have HTR := Lib.hid htr
              have HBA := Lib.hid hba
              have hsb := hba.size
              have HBW2 := Lib.hid (show (w.heap.size - 1) + 1 ≤ (wr.alloc (.cells #[.string nd.name, .slice xi2 nd.ins.length ci2, .slice xo2 nd.outs.length co2, .slice xl2 nd.locs.length cl2, .slice xe2 nd.eqs.length ce2, .int .i64 (nd.at_ : Int)] 49)).heap.size by have := HW.out; have := HB.out.size; omega)
              have HOK := Lib.hid (show ∀ j, wo.heap.size ≤ j → (w.heap.size - 1) < j ∧ some j ≠ Value.ownBlock (.slice xv i cv) from fun j hj => ⟨by have := HW.out; have := HB.out.size; omega, fun e' => by have := (HO.out.gt j e'.symm).2; omega⟩)
              have HNM := Lib.hid (show i + 1 ≤ 100000000000 by have := HIL.out; have := IsD.few HK.out; omega)
              obtain ⟨i6, hi6, ⟨z6, hz6, hzs6⟩, hs6, hb6⟩ := HIN6.out
              have HI6 := Lib.hid hi6
              have HZ6 := Lib.hid hz6
              have HZS6 := Lib.hid hzs6
              have HS6 := Lib.hid hs6
              have HB6 := Lib.hid hb6
              clear q1 q2 q3 q4 q5 hbm hwb htr hba hsb hi6 hz6 hzs6 hs6 hb6
              go_wp2_with (first | (refine wpList_load_row rfl 49 (.tmp 5) rfl b rfl 49 #[.string nd.name, .slice xi2 nd.ins.length ci2, .slice xo2 nd.outs.length co2, .slice xl2 nd.locs.length cl2, .slice xe2 nd.eqs.length ce2, .int .i64 (nd.at_ : Int)] (0, 0) _ HRB.out Try.underlying49 rfl HSN.out ?_) | (refine wpList_appT rfl (.tmp 86) (.tmp 88) 26 rfl i6 z6 120 Try.underlying26 HI6.out HZ6.out HS6.out HB6.out HZS6.out (by decide) (by decide) rfl HO7.out HBW2.out wr.heap.size 1 1 rfl (ndD nd) (by rw [ndD_len]) (by decide) HTR.out (ndD_one nd) (fun k hk hl => HOK.out k hk) HNM.out ?_))
              intro v8 w8 hO8 hg8 _
              rw [HND.out, ndsD_take HIL.out] at hO8
              have HBN := Lib.hid (below_own (HB.out.trans (HBA.out.mono HB.out.size)) hg8 (fun j hj => by have := (HO7.out.gt j hj).1; omega))
              have HON := Lib.hid hO8
              clear hO8 hg8 cE
              go_wp2_with fail
              refine ⟨⟨_, i + 1, rfl, by go_num, HIL.out, HBN.out, HON.out⟩, ?_⟩
              simp [intOf]; omega
    · have d1 : decide ((i : Int) < (l.length : Int)) = false := by simp; omega
      obtain rfl : i = l.length := by have := HI.out; omega
      clear hil
      go_wp2_with fail
      go_ret
      have h := HO.out
      rw [List.take_length] at h
      exact ⟨xv, cv, rfl, (h.ends (IsD.few HK.out)).mono (fun k hk _ => by have : (w.heap.size - 1) < k := hk; show w.heap.size ≤ k; omega), HB.out⟩
end Go.Proofs.Ythlhogfebicooaa

namespace Go.Proofs.Ythlhogfebicooaa
open Go Go.RowKit
structure Fx (w0 : World) (bl : List (Nat × TypeId × Array Value)) (w : World) : Prop where
  below : Below w0.heap.size w0 w
  blk : ∀ x ∈ bl, w.heap[x.1]? = some (.cells x.2.2 x.2.1 (0, 0)) ∧ w0.heap.size ≤ x.1
  srt : bl.Pairwise (fun x y => x.1 < y.1)
theorem Fx.start (w : World) : Fx w [] w := ⟨Below.refl _ _, fun x hx => by simp at hx, List.Pairwise.nil⟩
theorem Fx.lt {w0 w : World} {bl : List (Nat × TypeId × Array Value)} (h : Fx w0 bl w) : ∀ x ∈ bl, x.1 < w.heap.size := fun x hx => (Array.getElem?_eq_some_iff.1 (h.blk x hx).1).1
theorem Fx.get {w0 w : World} {bl : List (Nat × TypeId × Array Value)} (h : Fx w0 bl w) (i : Nat) {b : Nat} {T : TypeId} {cs : Array Value} (hi : bl[i]? = some (b, T, cs)) : w.heap[b]? = some (.cells cs T (0, 0)) :=
  (h.blk _ (List.mem_of_getElem? hi)).1
theorem Fx.ge {w0 w : World} {bl : List (Nat × TypeId × Array Value)} (h : Fx w0 bl w) (i : Nat) {b : Nat} {T : TypeId} {cs : Array Value} (hi : bl[i]? = some (b, T, cs)) : w0.heap.size ≤ b :=
  (h.blk _ (List.mem_of_getElem? hi)).2
theorem Fx.lt_ {w0 w : World} {bl : List (Nat × TypeId × Array Value)} (h : Fx w0 bl w) (i : Nat) {b : Nat} {T : TypeId} {cs : Array Value} (hi : bl[i]? = some (b, T, cs)) : b < w.heap.size :=
  h.lt _ (List.mem_of_getElem? hi)
/-- Behind a call. -/
theorem Fx.call {w0 w w' : World} {bl : List (Nat × TypeId × Array Value)} (h : Fx w0 bl w) (hb : Below w.heap.size w w') : Fx w0 bl w' :=
  ⟨h.below.trans (hb.mono h.below.size), fun x hx => ⟨(hb.block x.1 (h.lt x hx)).trans (h.blk x hx).1, (h.blk x hx).2⟩, h.srt⟩
/-- Behind an operation that turns one row which is none of these. -/
theorem Fx.own {w0 w w' : World} {bl : List (Nat × TypeId × Array Value)} {row : Option Nat} (h : Fx w0 bl w) (hg : w.grownBy w' row) (hr : ∀ k, row = some k → w0.heap.size ≤ k ∧ ∀ x ∈ bl, k ≠ x.1) : Fx w0 bl w' :=
  ⟨below_own h.below hg (fun k hk => (hr k hk).1), fun x hx => ⟨(hg.block x.1 (h.lt x hx) (fun e => (hr x.1 e.symm).2 x hx rfl)).trans (h.blk x hx).1, (h.blk x hx).2⟩, h.srt⟩
theorem Fx.alloc {w0 w : World} {bl : List (Nat × TypeId × Array Value)} (h : Fx w0 bl w) (b : Nat) (hb : b = w.heap.size) (T : TypeId) (cs : Array Value) : Fx w0 (bl ++ [(b, T, cs)]) (w.alloc (.cells cs T)) := by
  subst hb
  have hbel : Below w.heap.size w (w.alloc (.cells cs T)) := (Below.refl _ _).alloc (Nat.le_refl _) _
  refine ⟨(h.call hbel).below, fun x hx => ?blk, List.pairwise_append.2 ⟨h.srt, List.pairwise_singleton _ _, fun x hx y hy => ?srt⟩⟩
  case blk =>
    rcases List.mem_append.1 hx with hx | hx
    · exact (h.call hbel).blk x hx
    · simp only [List.mem_cons, List.not_mem_nil, or_false] at hx
      subst hx
      exact ⟨heap_alloc_new w _, h.below.size⟩
  case srt =>
    simp only [List.mem_cons, List.not_mem_nil, or_false] at hy
    subst hy
    exact h.lt x hx
/-- Something else made. -/
theorem Fx.make {w0 w : World} {bl : List (Nat × TypeId × Array Value)} (h : Fx w0 bl w) (o : Obj) : Fx w0 bl (w.alloc o) :=
  h.call ((Below.refl _ _).alloc (Nat.le_refl _) _)
theorem Fx.other {w0 w : World} {bl : List (Nat × TypeId × Array Value)} (h : Fx w0 bl w) {i j : Nat} {x y : Nat × TypeId × Array Value} (hi : bl[i]? = some x) (hj : bl[j]? = some y) (hne : j ≠ i) : y.1 ≠ x.1 := by
  obtain ⟨hi1, hi2⟩ := List.getElem?_eq_some_iff.1 hi
  obtain ⟨hj1, hj2⟩ := List.getElem?_eq_some_iff.1 hj
  have hp := List.pairwise_iff_getElem.1 h.srt
  rcases Nat.lt_or_gt_of_ne hne with hl | hl
  · have := hp j i hj1 hi1 hl
    rw [hi2, hj2] at this
    omega
  · have := hp i j hi1 hj1 hl
    rw [hi2, hj2] at this
    omega
theorem Fx.turn {w0 w w' : World} {bl : List (Nat × TypeId × Array Value)} (h : Fx w0 bl w) (i : Nat) {b : Nat} {T : TypeId} {cs : Array Value} (hi : bl[i]? = some (b, T, cs)) (cs' : Array Value)
    (hs : w.heap.size = w'.heap.size) (ho : ∀ k, k ≠ b → w'.heap[k]? = w.heap[k]?) (hb : w'.heap[b]? = some (.cells cs' T (0, 0))) (h1 : w'.os = w.os) (h2 : w'.tape = w.tape) (h3 : w'.output = w.output) : Fx w0 (bl.set i (b, T, cs')) w' := by
  have hge := h.ge i hi
  have hil : i < bl.length := (List.getElem?_eq_some_iff.1 hi).1
  have hfst : ∀ (j : Nat) (x : Nat × TypeId × Array Value), (bl.set i (b, T, cs'))[j]? = some x → ∃ y, bl[j]? = some y ∧ y.1 = x.1 := fun j x hx => by
    rw [List.getElem?_set] at hx
    split at hx
    · rename_i e
      subst e
      simp only [hil, if_true, Option.some.injEq] at hx
      exact ⟨_, hi, by rw [← hx]⟩
    · exact ⟨x, hx, rfl⟩
  refine ⟨⟨h1.trans h.below.os, h2.trans h.below.tape, h3.trans h.below.output, by rw [← hs]; exact h.below.size, fun k hk => (ho k (by omega)).trans (h.below.block k hk)⟩, fun x hx => ?_, ?_⟩
  · obtain ⟨j, hj⟩ := List.getElem?_of_mem hx
    by_cases e : j = i
    · subst e
      rw [List.getElem?_set_self hil] at hj
      simp only [Option.some.injEq] at hj
      subst hj
      exact ⟨hb, hge⟩
    · rw [List.getElem?_set_ne (Ne.symm e)] at hj
      have := h.other hi hj e
      exact ⟨(ho x.1 this).trans (h.blk x (List.mem_of_getElem? hj)).1, (h.blk x (List.mem_of_getElem? hj)).2⟩
  · rw [List.pairwise_iff_getElem]
    intro a b' ha hb' hab
    obtain ⟨y1, hy1, e1⟩ := hfst a _ (List.getElem?_eq_getElem ha)
    obtain ⟨y2, hy2, e2⟩ := hfst b' _ (List.getElem?_eq_getElem hb')
    rw [← e1, ← e2]
    obtain ⟨l1, r1⟩ := List.getElem?_eq_some_iff.1 hy1
    obtain ⟨l2, r2⟩ := List.getElem?_eq_some_iff.1 hy2
    have := List.pairwise_iff_getElem.1 h.srt a b' l1 l2 hab
    rw [r1, r2] at this
    exact this
theorem Fx.store {w0 w : World} {bl : List (Nat × TypeId × Array Value)} (h : Fx w0 bl w) (i : Nat) {b : Nat} {T : TypeId} {cs : Array Value} (hi : bl[i]? = some (b, T, cs)) (cs' : Array Value) : Fx w0 (bl.set i (b, T, cs')) (w.setRow b cs') :=
  h.turn i hi cs' (by rw [setRow_size]) (fun k hk => setRow_other w b k _ hk) (setRow_heap w b _ cs' _ _ (h.get i hi)) rfl rfl rfl
theorem Fx.cell {w0 w : World} {bl : List (Nat × TypeId × Array Value)} (h : Fx w0 bl w) (i : Nat) {b : Nat} {T : TypeId} {cs : Array Value} (hi : bl[i]? = some (b, T, cs)) (j : Nat) (v : Value) : Fx w0 (bl.set i (b, T, cs.setIfInBounds j v)) (w.setCell ⟨b, j, none⟩ v) :=
  h.turn i hi _ (by simp) (fun k hk => heap_setCell_other w ⟨b, j, none⟩ k v hk) (heap_setCell_same w b j _ _ v (h.get i hi)) rfl rfl rfl
/-- Only the first blocks are looked at from here on. -/
theorem Fx.first {w0 w : World} {bl cl : List (Nat × TypeId × Array Value)} (h : Fx w0 (bl ++ cl) w) : Fx w0 bl w :=
  ⟨h.below, fun x hx => h.blk x (List.mem_append_left _ hx), (List.pairwise_append.1 h.srt).1⟩
theorem RowsD.flat {ok ok' : Nat → Prop} {w w' : World} : ∀ (xs : List Value) (ds : List Dt), RowsD ok w xs ds → (∀ d ∈ ds, ∃ x, d = .v x) → RowsD ok' w' xs ds
  | [], [], _, _ => trivial
  | x :: xs, d :: ds, ⟨h1, h2⟩, hp => by
    obtain ⟨y, rfl⟩ := hp d (List.mem_cons_self ..)
    refine ⟨?_, RowsD.flat xs ds h2 (fun d hd => hp d (List.mem_cons_of_mem _ hd))⟩
    unfold IsD at h1 ⊢
    exact h1
  | [], _ :: _, h, _ => h.elim
  | _ :: _, [], h, _ => h.elim
theorem run_append_hollow {P : Program} (w : World) (t ty e : TypeId) (i : TypeInfo) (ht : P.underlying t = some (.slice e)) (hi : P.info? e = some i) (x : Option Addr) (n c : Nat) (y : Option Addr) (c' : Nat) (hn : n ≤ c) :
    (Builtin.append_ #[t, t] ty #[.slice x n c, .slice y 0 c']).run P w = .ok (.slice x n c) w := by
  cases x <;> cases y <;> simp [Builtin.append_, run_underlying ht, sizeOf, typeInfo, hi, Builtin.lenOf, hn, Builtin.firstCells, loadCells, loadCellsFrom, storeCells]
/-- 'append(l, d...)', d a row of plain cells that stand anywhere, or nothing. -/
theorem wpList_appP {P : Program} {ops : Array Oper} {rest : List Oper} {o : Oper} {a : Act} {Q : Exit → Act → World → Prop} (hgd : o.guard = none) (s x : Operand) (t : TypeId) (ho : o.op = .call { callee := .builtin .append, args := #[s, x], argTypes := #[t, t] })
    {T : TypeId} {sz : Nat} {w : World} {b : Nat} {v : Value} {n : Nat} {ds : List Dt} (i : TypeInfo) (z : Value) (bytes : Nat) (ht : P.underlying t = some (.slice T)) (hi : P.info? T = some i) (hz : i.zero = some z)
    (hsize : i.size = sz) (hby : i.bytes = bytes) (hzs : z.cells.size = sz) (hsz : 0 < sz) (hbl : bytes ≤ 1000)
    (hs : a.eval s = v) (h : OwnD T sz w b v n ds) (hbw : b + 1 ≤ w.heap.size) {ok : Nat → Prop} {u : Value} {m : Nat} (es : List Dt) (hx : a.eval x = u) (hd : IsD ok w u (.sl m es)) (hl : es.length = m * sz) (hp : ∀ d ∈ es, ∃ x, d = .v x) (hone : ∀ d ∈ es, d.one) (hnm : n + m ≤ 100000000000)
    (hK : ∀ v' w', OwnD T sz w' b v' (n + m) (ds ++ es) → w.grownBy w' v.ownBlock → (v'.ownBlock = v.ownBlock ∨ v'.ownBlock = some w.heap.size) → wpList P ops Q rest (a.put o.dst v') w') :
    wpList P ops Q (o :: rest) a w := by
  by_cases hm : m = 0
  · subst hm
    obtain ⟨xx, cc, rfl, _, _⟩ := hd.slice
    obtain ⟨xv, cv, rfl, hnc, _⟩ := h.slice
    obtain rfl := hd.zero rfl
    have hr := run_append_hollow (P := P) w t o.type T i ht hi xv n cv xx cc hnc
    refine wpList_plain hgd fun K hK' => ?_
    unfold Oper.wp
    simp [execOp, ho, resolve, invoke, builtin, hs, hx, hr, Result.andThen]
    exact hK' _ _ (hK _ w (by rw [List.append_nil]; exact h) ⟨rfl, rfl, rfl, Nat.le_refl _, fun _ _ _ => rfl⟩ (.inl rfl))
  · obtain ⟨xx, cc, rfl, _, _⟩ := hd.slice
    obtain ⟨g, rfl, _, _, hds⟩ := hd.some_ (by omega)
    obtain ⟨news, hr, hcells⟩ := hds.rows
    obtain ⟨v', w', hrun, j1, j2, j3⟩ := h.append (P := P) t o.type i z bytes ht hi hz hsize hby hzs hsz hbl hbw (ok := fun _ => False) g 0 m cc news es hl (hr.flat _ _ hp) hcells hone (fun k hk => hk.elim) hnm
    refine wpList_plain hgd fun K hK' => ?_
    unfold Oper.wp
    simp [execOp, ho, resolve, invoke, builtin, hs, hx, hrun, Result.andThen]
    exact hK' _ _ (hK v' w' j1 j2 j3)
/-- The same, with all that is known of the row's type in one. -/
theorem wpList_appH {P : Program} {ops : Array Oper} {rest : List Oper} {o : Oper} {a : Act} {Q : Exit → Act → World → Prop} (hgd : o.guard = none) (s x : Operand) (t : TypeId) (ho : o.op = .call { callee := .builtin .append, args := #[s, x], argTypes := #[t, t] })
    {T : TypeId} {sz : Nat} {w : World} {b : Nat} {v : Value} {n : Nat} {ds : List Dt} (bytes : Nat) (ht : P.underlying t = some (.slice T)) (hin : ∃ i, P.info? T = some i ∧ (∃ z, i.zero = some z ∧ z.cells.size = sz) ∧ i.size = sz ∧ i.bytes = bytes) (hsz : 0 < sz) (hbl : bytes ≤ 1000)
    (hs : a.eval s = v) (h : OwnD T sz w b v n ds) (hbw : b + 1 ≤ w.heap.size) {ok : Nat → Prop} {u : Value} {m : Nat} (es : List Dt) (hx : a.eval x = u) (hd : IsD ok w u (.sl m es)) (hl : es.length = m * sz) (hp : ∀ d ∈ es, ∃ x, d = .v x) (hone : ∀ d ∈ es, d.one) (hnm : n + m ≤ 100000000000)
    (hK : ∀ v' w', OwnD T sz w' b v' (n + m) (ds ++ es) → w.grownBy w' v.ownBlock → (v'.ownBlock = v.ownBlock ∨ v'.ownBlock = some w.heap.size) → wpList P ops Q rest (a.put o.dst v') w') :
    wpList P ops Q (o :: rest) a w := by
  obtain ⟨i, hi, ⟨z, hz, hzs⟩, hsize, hby⟩ := hin
  exact wpList_appP hgd s x t ho i z bytes ht hi hz hsize hby hzs hsz hbl hs h hbw es hx hd hl hp hone hnm hK
/-- A struct's cells, made and stored in one. -/
theorem new_row (w : World) (T : TypeId) (z cs : Array Value) : Below w.heap.size w ((w.alloc (.cells z T)).setRow w.heap.size cs) ∧ ((w.alloc (.cells z T)).setRow w.heap.size cs).heap[w.heap.size]? = some (.cells cs T (0, 0)) :=
  ⟨below_setRow ((Below.refl _ _).alloc (Nat.le_refl _) _) (Nat.le_refl _) _, setRow_heap _ _ _ _ _ _ (heap_alloc_new w _)⟩
end Go.Proofs.Ythlhogfebicooaa

namespace Go.Proofs.Ythlhogfebicooaa
open Go Go.RowKit
def treeOf (t : ByteArray) : List Nd := match parse4 t with
  | .ok l => l
  | .error _ => []
def perOf (t : ByteArray) : Nat := match parse4 t with
  | .ok _ => 0
  | .error (e, _) => e
def patOf (t : ByteArray) : Nat := match parse4 t with
  | .ok _ => 0
  | .error (_, a) => a
/-- What Parse hands back, with what the text's tree is called. -/
theorem parse_at (t : ByteArray) (w : World) (hs : t.size ≤ 140737488351232) : Calls Try.prog 39 #[.string t] w (fun e w' => ∃ x c, e = .returned (.tuple #[.slice x (treeOf t).length c, .agg #[.int .i64 (perOf t : Int), .int .i64 (patOf t : Int)]]) ∧ IsD (w.heap.size ≤ ·) w' (.slice x (treeOf t).length c) (.sl (treeOf t).length (ndsD (treeOf t))) ∧ Below w.heap.size w w') := by
  refine (Parse4_any t w hs).mono ?_
  intro e w' h
  unfold GivesP4 at h
  unfold treeOf perOf patOf
  cases hp : parse4 t with
  | error ep =>
    obtain ⟨er, ea⟩ := ep
    rw [hp] at h
    exact ⟨none, 0, h.2, IsD.nil (Nat.zero_le _), h.1⟩
  | ok l =>
    rw [hp] at h
    obtain ⟨hb, v, he, ho, hl⟩ := h
    obtain ⟨x, c, rfl, _, _⟩ := ho.slice
    exact ⟨x, c, he, (ho.ends (by omega)).mono (fun k hk _ => Nat.le_of_lt hk), hb⟩
/-- The same parser over a row of bytes: the kernel reckons it. -/
def wordLL (s : List UInt8) (x : Nat × Nat × Int × Nat) : W4 := ⟨x.1, ⟨((s.drop x.2.2.2).take x.2.1).toArray⟩, x.2.2.1, x.2.2.2⟩
def parseL (s : List UInt8) : Except (Nat × Nat) (List Nd) :=
  match cutAll s with
  | .error e => .error e
  | .ok d => nodes4 (d.map (wordLL s))
theorem extract_list (s : ByteArray) (a n : Nat) : s.extract a (a + n) = ⟨((s.data.toList.drop a).take n).toArray⟩ := by
  apply ByteArray.ext
  rw [ByteArray.data_extract]
  apply Array.ext'
  rw [Array.toList_extract, List.extract_eq_take_drop]
  simp
theorem parse4_list (s : ByteArray) : parse4 s = parseL s.data.toList := by
  unfold parse4 parseL
  cases cutAll s.data.toList with
  | error e => rfl
  | ok d =>
    have e : words4 s d = d.map (wordLL s.data.toList) := by
      unfold words4
      refine List.map_congr_left fun x _ => ?_
      unfold wordL4 wordLL
      rw [extract_list]
    show nodes4 (words4 s d) = nodes4 (d.map (wordLL s.data.toList))
    rw [e]
def treeL (s : List UInt8) : List Nd := match parseL s with
  | .ok l => l
  | .error _ => []
def perL (s : List UInt8) : Nat := match parseL s with
  | .ok _ => 0
  | .error (e, _) => e
theorem treeOf_list (s : ByteArray) : treeOf s = treeL s.data.toList := by
  unfold treeOf treeL
  rw [parse4_list]
theorem perOf_list (s : ByteArray) : perOf s = perL s.data.toList := by
  unfold perOf perL
  rw [parse4_list]
theorem app_lst (a b : ByteArray) : (a ++ b).data.toList = a.data.toList ++ b.data.toList := by simp
end Go.Proofs.Ythlhogfebicooaa

namespace Go.Proofs.Ythlhogfebicooaa
open Go Go.RowKit Go.Maps
section
variable {P : Program} {w w' : World} {k : TypeId} {b n : Nat} {f : List UInt8 → Option Value}
/-- An element, whatever it is. -/
def readV (v : Value) : Option (DataW Value × List MemPlace) := some (.held v, [])
/-- Block b is a map of at most n entries; f tells what stands at a key. -/
def MapO (P : Program) (k : TypeId) (w : World) (b n : Nat) (f : List UInt8 → Option Value) : Prop :=
  ∃ D : DataW Value, w.ownsMap P k readV b n D ∧ ∀ s : List UInt8, Maps.has D (.string s) = (f s).isSome ∧ ∀ z, D.atKey (.string s) z = match f s with | some v => .held v | none => z
theorem MapO.made (P : Program) (k : TypeId) (w : World) : MapO P k (w.alloc (.map #[] 0)) w.heap.size 0 (fun _ => none) :=
  ⟨_, World.ownsMap_made w P k readV, fun s => ⟨rfl, fun z => rfl⟩⟩
theorem MapO.lt (h : MapO P k w b n f) : b < w.heap.size := by
  obtain ⟨D, h1, _⟩ := h
  exact h1.lt
theorem MapO.mono (h : MapO P k w b n f) {n' : Nat} (hn : n ≤ n') : MapO P k w b n' f := by
  obtain ⟨D, h1, h2⟩ := h
  exact ⟨D, h1.mono hn, h2⟩
theorem MapO.kept {row : Option Nat} (h : MapO P k w b n f) (hg : w.grownBy w' row) (hne : some b ≠ row) : MapO P k w' b n f := by
  obtain ⟨D, h1, h2⟩ := h
  exact ⟨D, h1.kept hg hne, h2⟩
theorem MapO.below (h : MapO P k w b n f) (hb : Below w.heap.size w w') : MapO P k w' b n f :=
  h.kept (row := none) ⟨hb.os, hb.tape, hb.output, hb.size, fun j hj _ => hb.block j hj⟩ (by simp)
/-- 'm[s]'. -/
theorem MapO.look {t e : TypeId} (h : MapO P k w b n f) (hk : P.underlying k = some .string) (ht : P.underlying t = some (.map k e)) {z : Value} (hz : (zeroValue e).run P w = .ok z w) (s : ByteArray) (hs : s.size ≤ maxLen) :
    (Instr.lookup t (.map (some b)) (.string s) false).run P w = .ok ((f s.data.toList).getD z) w := by
  obtain ⟨D, h1, h2⟩ := h
  obtain ⟨v, ps, hr, hv⟩ := h1.lookup (string_keyed hk) ht hz (zd := .held z) rfl (WideMaps.keyOf_string_mk hk hs)
  rw [(h2 _).2] at hv
  unfold readV at hv
  rw [hr]
  cases hf : f s.data.toList with
  | none => rw [hf] at hv; injection hv with hv; injection hv with hv; injection hv with hv; rw [hv]; rfl
  | some u => rw [hf] at hv; injection hv with hv; injection hv with hv; injection hv with hv; rw [hv]; rfl
/-- 'v, ok := m[s]'. -/
theorem MapO.look_ok {t e : TypeId} (h : MapO P k w b n f) (hk : P.underlying k = some .string) (ht : P.underlying t = some (.map k e)) {z : Value} (hz : (zeroValue e).run P w = .ok z w) (s : ByteArray) (hs : s.size ≤ maxLen) :
    (Instr.lookup t (.map (some b)) (.string s) true).run P w = .ok (.tuple #[(f s.data.toList).getD z, .bool (f s.data.toList).isSome]) w := by
  obtain ⟨D, h1, h2⟩ := h
  obtain ⟨v, ps, hr, hv⟩ := h1.look_ok (string_keyed hk) ht hz (zd := .held z) rfl (WideMaps.keyOf_string_mk hk hs)
  rw [(h2 _).2] at hv
  rw [(h2 _).1] at hr
  unfold readV at hv
  rw [hr]
  cases hf : f s.data.toList with
  | none => rw [hf] at hv; injection hv with hv; injection hv with hv; injection hv with hv; rw [hv]; rfl
  | some u => rw [hf] at hv; injection hv with hv; injection hv with hv; injection hv with hv; rw [hv]; rfl
/-- 'm[s] = v'. -/
theorem MapO.update {t e : TypeId} (h : MapO P k w b n f) (hk : P.underlying k = some .string) (ht : P.underlying t = some (.map k e)) (hn : n < maxLen) (s : ByteArray) (hs : s.size ≤ maxLen) (v : Value) :
    ∃ w', (Instr.mapUpdate t (.map (some b)) (.string s) v).run P w = .ok () w' ∧ MapO P k w' b (n + 1) (fun x => if x = s.data.toList then some v else f x) ∧ w.grownBy w' (some b) := by
  obtain ⟨D, h1, h2⟩ := h
  obtain ⟨w', hr, h3, h4⟩ := h1.update (string_keyed hk) ht hn (WideMaps.keyOf_string_mk hk hs) (val := v) (d := .held v) (ps := []) rfl
  refine ⟨w', hr, ⟨_, h3, fun x => ?_⟩, h4⟩
  by_cases hx : x = s.data.toList
  · subst hx
    simp only [if_true]
    exact ⟨has_put_same h1.isMap (show WideAt.IsKeyLit (.string s.data.toList) from True.intro) _, fun z => atKey_put_same h1.isMap (show WideAt.IsKeyLit (.string s.data.toList) from True.intro) _ _⟩
  · simp only [hx, if_false]
    have hne : Lit.string x ≠ Lit.string s.data.toList := fun e => by injection e with e; exact hx e
    rw [has_put_other hne]
    exact ⟨(h2 x).1, fun z => by rw [atKey_put_other hne]; exact (h2 x).2 z⟩
end
end Go.Proofs.Ythlhogfebicooaa

namespace Go.Proofs.Ythlhogfebicooaa
open Go Go.RowKit
theorem size_flt : (Try.prog.info? 32).map (·.size) = some 2 := by kernel_rfl
/-- A call hands back a fault. -/
def GivesF (er at_ : Int) (w : World) (e : Ending) (w' : World) : Prop := e = .returned (.agg #[.int .i64 er, .int .i64 at_]) ∧ Below w.heap.size w w'
end Go.Proofs.Ythlhogfebicooaa

namespace Go.Proofs.Ythlhogfebicooaa
open Go Go.RowKit
theorem zero_kind (w : World) : (zeroValue 39).run Try.prog w = .ok (.int .i64 0) w := by kernel_rfl
/-- The kinds of names, in a map of the call's own. -/
def Kinds (w : World) (b n : Nat) (g : List UInt8 → Option Int) : Prop := MapO Try.prog 9 w b n (fun s => (g s).map (Value.int .i64))
def kindOf (g : List UInt8 → Option Int) (s : ByteArray) : Int := (g s.data.toList).getD 0
theorem Kinds.look {w : World} {b n : Nat} {g : List UInt8 → Option Int} (h : Kinds w b n g) (s : ByteArray) (hs : s.size ≤ maxLen) : (Instr.lookup 87 (.map (some b)) (.string s) false).run Try.prog w = .ok (.int .i64 (kindOf g s)) w := by
  have := MapO.look h Try.underlying9 Try.underlying87 (zero_kind w) s hs
  rw [this]
  unfold kindOf
  cases g s.data.toList <;> rfl
end Go.Proofs.Ythlhogfebicooaa

namespace Go.Proofs.Ythlhogfebicooaa
open Go Go.RowKit
theorem run_lkp {P : Program} {W : World} {o : Oper} {ρ : Operand → Value} {t : TypeId} {m x : Operand} {c : Bool} {mv xv v : Value} (ho : o.op = .lookup t m x c) (hm : ρ m = mv) (hx : ρ x = xv) (h : (Instr.lookup t mv xv c).run P W = .ok v W) : (execOp ρ o).run P W = .ok (.value v) W := by
  simp [execOp, ho, hm, hx, h, Result.andThen]
end Go.Proofs.Ythlhogfebicooaa

namespace Go.Proofs.Ythlhogfebicooaa
open Go Go.RowKit
/-- A part's Op is one of the language's. -/
def OPSB : List (List UInt8) := [[105, 110, 116], [98, 111, 111, 108], [118, 97, 114], [110, 111, 116], [110, 101, 103], [112, 114, 101], [43], [45], [42], [47], [109, 111, 100], [61], [60, 62], [60], [60, 61], [62], [62, 61], [97, 110, 100], [111, 114], [120, 111, 114], [45, 62], [102, 98, 121], [119, 104, 101, 110], [105, 102], [109, 101, 114, 103, 101], [99, 97, 108, 108]]
def okNm (s : ByteArray) : Bool := decide (s.size ≤ 1000000)
mutual
def okE : Ex → Bool
  | .mk op nm _ _ kids => OPSB.contains op.data.toList && (okNm nm && okEs kids)
def okEs : List Ex → Bool
  | [] => true
  | e :: r => okE e && okEs r
end
theorem okE_eq (e : Ex) : okE e = (OPSB.contains e.op.data.toList && (okNm e.name && okEs e.kids)) := by
  cases e; conv => lhs; unfold okE
  rfl
theorem okEs_at : ∀ (l : List Ex) (i : Nat) (h : i < l.length), okEs l = true → okE l[i] = true
  | [], _, h, _ => absurd h (by simp)
  | e :: r, i, h, k => by
    unfold okEs at k
    simp only [Bool.and_eq_true] at k
    cases i with
    | zero => exact k.1
    | succ i => exact okEs_at r i (by simpa using h) k.2
theorem okNm_le {s : ByteArray} (h : okNm s = true) : s.size ≤ maxLen := by
  have : s.size ≤ 1000000 := by simpa [okNm] using h
  exact Nat.le_trans this (by decide)
theorem bytes_eq {s : ByteArray} {l : List UInt8} (h : s.data.toList = l) : s = ⟨l.toArray⟩ := by
  obtain ⟨a⟩ := s
  subst h
  simp
end Go.Proofs.Ythlhogfebicooaa

namespace Go.Proofs.Ythlhogfebicooaa
open Go Go.RowKit
theorem size_vS : (Try.prog.info? 127).map (·.size) = some 5 := by kernel_rfl
theorem vS_one (a b : ByteArray) (k p : Int) (t : Bool) : (#[.string a, .int .i64 k, .string b, .bool t, .int .i64 p] : Array Value).all (·.oneCell') = true := by simp [Value.oneCell']
end Go.Proofs.Ythlhogfebicooaa

namespace Go.Proofs.Ythlhogfebicooaa
open Go Go.RowKit
theorem size_qS : (Try.prog.info? 45).map (·.size) = some 7 := by kernel_rfl
theorem qS_one (a b d : ByteArray) (n p t : Int) (x : Option Addr) (l c : Nat) : (#[.string a, .string b, .string d, .int .i64 n, .int .i64 p, .slice x l c, .int .i64 t] : Array Value).all (·.oneCell') = true := by simp [Value.oneCell']
/-- A fault's place, or none: as it is handed back. -/
def ferO (c : Int) : Option Nat → Int
  | none => 0
  | some _ => c
def fatO : Option Nat → Int
  | none => 0
  | some a => a
def GivesO (c : Int) (o : Option Nat) (w : World) (e : Ending) (w' : World) : Prop := e = .returned (.agg #[.int .i64 (ferO c o), .int .i64 (fatO o)]) ∧ Below w.heap.size w w'
def qeV (q : Qe) (x : Option Addr) (c : Nat) : Value := .agg #[.string q.name, .string q.e.op, .string q.e.name, .int .i64 q.e.n, .int .i64 (q.e.at_ : Int), .slice x q.e.kids.length c, .int .i64 (q.at_ : Int)]
end Go.Proofs.Ythlhogfebicooaa

namespace Go.Proofs.Ythlhogfebicooaa
open Go Go.RowKit
def okVs (l : List Vr) : Bool := l.all (fun v => okNm v.name && okNm v.on)
def okQs (l : List Qe) : Bool := l.all (fun q => okNm q.name && okE q.e)
def okNd (n : Nd) : Bool := decide (n.ins.length + n.outs.length + n.locs.length ≤ 1000000) && (okNm n.name && (okVs n.ins && (okVs n.outs && (okVs n.locs && okQs n.eqs))))
theorem okVs_at {l : List Vr} (h : okVs l = true) (i : Nat) (hi : i < l.length) : l[i].name.size ≤ maxLen ∧ l[i].on.size ≤ maxLen := by
  have := List.all_eq_true.1 h _ (List.getElem_mem hi)
  simp only [Bool.and_eq_true] at this
  exact ⟨okNm_le this.1, okNm_le this.2⟩
theorem okQs_at {l : List Qe} (h : okQs l = true) (i : Nat) (hi : i < l.length) : okNm l[i].name = true ∧ okE l[i].e = true := by
  have := List.all_eq_true.1 h _ (List.getElem_mem hi)
  simp only [Bool.and_eq_true] at this
  exact this
theorem wrap_succ {j : Nat} (h : j < 1000000000) : Value.int .i64 (wrap64 ((j : Int) + 1)) = Value.int .i64 ((j + 1 : Nat) : Int) := by
  rw [show wrap64 ((j : Int) + 1) = ((j + 1 : Nat) : Int) by unfold wrap64; omega]
def ndV (n : Nd) (xi xo xl xe : Option Addr) (ci co cl ce : Nat) : Value := .agg #[.string n.name, .slice xi n.ins.length ci, .slice xo n.outs.length co, .slice xl n.locs.length cl, .slice xe n.eqs.length ce, .int .i64 (n.at_ : Int)]
/-- A node's rows, in memory. -/
def NdIn (ok : Nat → Prop) (w : World) (n : Nd) (xi xo xl xe : Option Addr) (ci co cl ce : Nat) : Prop := IsD ok w (.slice xi n.ins.length ci) (.sl n.ins.length (vrsD n.ins)) ∧ IsD ok w (.slice xo n.outs.length co) (.sl n.outs.length (vrsD n.outs)) ∧ IsD ok w (.slice xl n.locs.length cl) (.sl n.locs.length (vrsD n.locs)) ∧ IsD ok w (.slice xe n.eqs.length ce) (.sl n.eqs.length (qesD n.eqs))
theorem NdIn.below {ok : Nat → Prop} {w w' : World} {n : Nd} {xi xo xl xe : Option Addr} {ci co cl ce : Nat} (hb : Below w.heap.size w w') (h : NdIn ok w n xi xo xl xe ci co cl ce) : NdIn ok w' n xi xo xl xe ci co cl ce :=
  ⟨IsD.below hb h.1, IsD.below hb h.2.1, IsD.below hb h.2.2.1, IsD.below hb h.2.2.2⟩
end Go.Proofs.Ythlhogfebicooaa

namespace Go.Proofs.Ythlhogfebicooaa
open Go Go.RowKit
def PREL : List UInt8 := [112, 114, 101]
def VARL : List UInt8 := [118, 97, 114]
/-- The Ops whose kids make them late. -/
def OPSR : List (List UInt8) := [[110, 111, 116], [110, 101, 103], [43], [45], [42], [47], [109, 111, 100], [61], [60, 62], [60], [60, 61], [62], [62, 61], [97, 110, 100], [111, 114], [120, 111, 114], [105, 102], [119, 104, 101, 110]]
mutual
/-- What could make an expression late: a pre (true), a name (false). -/
def rtsI : Ex → List (Bool × List UInt8)
  | .mk op nm _ _ kids => if op.data.toList = PREL then [(true, nm.data.toList)] else if op.data.toList = VARL then [(false, nm.data.toList)] else if OPSR.contains op.data.toList = true then rtssI kids else []
def rtssI : List Ex → List (Bool × List UInt8)
  | [] => []
  | e :: r => rtsI e ++ rtssI r
end
theorem rtsI_eq (e : Ex) : rtsI e = if e.op.data.toList = PREL then [(true, e.name.data.toList)] else if e.op.data.toList = VARL then [(false, e.name.data.toList)] else if OPSR.contains e.op.data.toList = true then rtssI e.kids else [] := by
  cases e; conv => lhs; unfold rtsI
  rfl
/-- Is an expression late, these names being? -/
def lateI (g : List UInt8 → Bool) (e : Ex) : Bool := (rtsI e).any (fun r => r.1 || g r.2)
/-- Each name's own equation. -/
def defL : (List UInt8 → Bool) → List Qe → List Qe
  | _, [] => []
  | k, q :: r => if k q.name.data.toList = true then defL k r else q :: defL (fun s => (s == q.name.data.toList) || k s) r
def insI (n : Nd) (s : List UInt8) : Bool := n.ins.any (fun v => v.name.data.toList == s)
def defsI (n : Nd) : List Qe := defL (insI n) n.eqs
/-- The late names. -/
inductive LateP (D : List Qe) : List UInt8 → Prop
  | pre (q : Qe) (hq : q ∈ D) (nm : List UInt8) (hr : (true, nm) ∈ rtsI q.e) : LateP D q.name.data.toList
  | use (q : Qe) (hq : q ∈ D) (s : List UInt8) (hr : (false, s) ∈ rtsI q.e) (hs : LateP D s) : LateP D q.name.data.toList
noncomputable def lateB (n : Nd) (s : List UInt8) : Bool := @decide (LateP (defsI n) s) (Classical.propDecidable _)
theorem lateB_iff (n : Nd) (s : List UInt8) : lateB n s = true ↔ LateP (defsI n) s := by
  unfold lateB
  exact @decide_eq_true_iff _ (Classical.propDecidable _)
theorem defL_sub : ∀ (l : List Qe) (k : List UInt8 → Bool), ∀ q ∈ defL k l, q ∈ l
  | [], _, q, h => by simp [defL] at h
  | p :: r, k, q, h => by
    unfold defL at h
    split at h
    · exact List.mem_cons_of_mem _ (defL_sub r k q h)
    · rcases List.mem_cons.1 h with rfl | h
      · exact List.mem_cons_self ..
      · exact List.mem_cons_of_mem _ (defL_sub r _ q h)
/-- The kids that a part wants there. -/
def kidsI (e : Ex) : List Ex :=
  if e.op.data.toList = [45, 62] then e.kids.take 1 else
  if e.op.data.toList = PREL ∨ e.op.data.toList = [102, 98, 121] ∨ e.op.data.toList = [99, 97, 108, 108] ∨ e.op.data.toList = [109, 101, 114, 103, 101] then e.kids else []
def namedI (e : Ex) : Bool := e.op.data.toList == [119, 104, 101, 110] || e.op.data.toList == [109, 101, 114, 103, 101]
/-- Does a part use a value ahead of there being one? -/
def earlyI (g : List UInt8 → Bool) (e : Ex) : Bool := (namedI e && g e.name.data.toList) || (kidsI e).any (lateI g)
mutual
/-- The place of the first part that does. -/
def partI (g : List UInt8 → Bool) : Ex → Option Nat
  | .mk op nm n at_ kids => match partsI g kids with
    | some a => some a
    | none => if earlyI g (.mk op nm n at_ kids) = true then some at_ else none
def partsI (g : List UInt8 → Bool) : List Ex → Option Nat
  | [] => none
  | e :: r => match partI g e with
    | some a => some a
    | none => partsI g r
end
theorem partI_eq (g : List UInt8 → Bool) (e : Ex) : partI g e = match partsI g e.kids with | some a => some a | none => if earlyI g e = true then some e.at_ else none := by
  cases e; conv => lhs; unfold partI
  rfl
/-- Is a name wanted at the first tick? -/
def wantI (n : Nd) (s : List UInt8) : Bool := n.outs.any (fun v => v.name.data.toList == s) || n.locs.any (fun v => !(v.on.data.toList == []) && v.on.data.toList == s)
def eqI (g wt : List UInt8 → Bool) (q : Qe) : Option Nat := match partI g q.e with
  | some a => some a
  | none => if wt q.name.data.toList = true ∧ g q.name.data.toList = true then some q.at_ else none
def eqsI (g wt : List UInt8 → Bool) : List Qe → Option Nat
  | [] => none
  | q :: r => match eqI g wt q with
    | some a => some a
    | none => eqsI g wt r
/-- A program's first fault of what is not there yet. -/
noncomputable def iniF : List Nd → Option Nat
  | [] => none
  | n :: r => match eqsI (lateB n) (wantI n) n.eqs with
    | some a => some a
    | none => iniF r
mutual
/-- How many parts an expression has. -/
def ptsE : Ex → Nat
  | .mk _ _ _ _ kids => 1 + ptssE kids
def ptssE : List Ex → Nat
  | [] => 0
  | e :: r => ptsE e + ptssE r
end
theorem ptsE_eq (e : Ex) : ptsE e = 1 + ptssE e.kids := by
  cases e; conv => lhs; unfold ptsE
  rfl
mutual
theorem rts_pts : ∀ (e : Ex), (rtsI e).length ≤ ptsE e
  | .mk op nm n a kids => by
    unfold rtsI ptsE
    split
    · simp
    · split
      · simp
      · split
        · have := rtss_pts kids; omega
        · simp
theorem rtss_pts : ∀ (l : List Ex), (rtssI l).length ≤ ptssE l
  | [] => by simp [rtssI]
  | e :: r => by
    unfold rtssI ptssE
    rw [List.length_append]
    have := rts_pts e
    have := rtss_pts r
    omega
end
theorem ptss_at : ∀ (l : List Ex) (i : Nat) (h : i < l.length), ptsE l[i] ≤ ptssE l
  | [], _, h => absurd h (by simp)
  | e :: r, 0, _ => by unfold ptssE; exact Nat.le_add_right _ _
  | e :: r, i + 1, h => by
    unfold ptssE
    have := ptss_at r i (by simpa using h)
    exact Nat.le_trans this (Nat.le_add_left _ _)
/-- Few enough parts. -/
def fewE (e : Ex) : Bool := decide (ptsE e ≤ 1000000)
def fewQs (l : List Qe) : Bool := decide (l.length ≤ 10000) && decide ((l.map (fun q => ptsE q.e)).sum ≤ 10000)
theorem fewE_kid {e : Ex} (h : fewE e = true) (i : Nat) (hi : i < e.kids.length) : fewE e.kids[i] = true := by
  unfold fewE at h ⊢
  rw [decide_eq_true_eq, ptsE_eq] at h
  rw [decide_eq_true_eq]
  have := ptss_at e.kids i hi
  omega
theorem fewE_rts {e : Ex} (h : fewE e = true) : (rtsI e).length ≤ 1000000 := by
  unfold fewE at h
  rw [decide_eq_true_eq] at h
  exact Nat.le_trans (rts_pts e) h
theorem sum_mem {α : Type} (f : α → Nat) : ∀ (l : List α) (a : α), a ∈ l → f a ≤ (l.map f).sum
  | [], _, h => by simp at h
  | b :: r, a, h => by
    rw [List.map_cons, List.sum_cons]
    rcases List.mem_cons.1 h with rfl | h
    · omega
    · have := sum_mem f r a h; omega
theorem fewQs_mem {l : List Qe} (h : fewQs l = true) {q : Qe} (hq : q ∈ l) : fewE q.e = true := by
  unfold fewQs at h
  simp only [Bool.and_eq_true, decide_eq_true_eq] at h
  unfold fewE
  rw [decide_eq_true_eq]
  have h1 : ptsE q.e ≤ (l.map (fun q => ptsE q.e)).sum := sum_mem (fun q : Qe => ptsE q.e) l q hq
  omega
theorem defL_sum : ∀ (l : List Qe) (k : List UInt8 → Bool), ((defL k l).map (fun q => ptsE q.e)).sum ≤ (l.map (fun q => ptsE q.e)).sum
  | [], _ => by simp [defL]
  | q :: r, k => by
    unfold defL
    split
    · rw [List.map_cons, List.sum_cons]; have := defL_sum r k; omega
    · rw [List.map_cons, List.sum_cons, List.map_cons, List.sum_cons]; have := defL_sum r (fun s => (s == q.name.data.toList) || k s); omega
end Go.Proofs.Ythlhogfebicooaa

namespace Go.Proofs.Ythlhogfebicooaa
open Go Go.RowKit
structure Fg (w0 : World) (r : Nat) (bl : List (Nat × TypeId × Array Value)) (w : World) : Prop where
  grown : w0.grownBy w (some r)
  low : r < w0.heap.size
  blk : ∀ x ∈ bl, w.heap[x.1]? = some (.cells x.2.2 x.2.1 (0, 0)) ∧ w0.heap.size ≤ x.1
  srt : bl.Pairwise (fun x y => x.1 < y.1)
theorem Fg.of {w0 w : World} {r : Nat} {bl : List (Nat × TypeId × Array Value)} (h : Fx w0 bl w) (hr : r < w0.heap.size) : Fg w0 r bl w := ⟨gb_below h.below, hr, h.blk, h.srt⟩
theorem Fg.lt {w0 w : World} {r : Nat} {bl : List (Nat × TypeId × Array Value)} (h : Fg w0 r bl w) : ∀ x ∈ bl, x.1 < w.heap.size := fun x hx => (Array.getElem?_eq_some_iff.1 (h.blk x hx).1).1
theorem Fg.get {w0 w : World} {r : Nat} {bl : List (Nat × TypeId × Array Value)} (h : Fg w0 r bl w) (i : Nat) {b : Nat} {T : TypeId} {cs : Array Value} (hi : bl[i]? = some (b, T, cs)) : w.heap[b]? = some (.cells cs T (0, 0)) :=
  (h.blk _ (List.mem_of_getElem? hi)).1
theorem Fg.ge {w0 w : World} {r : Nat} {bl : List (Nat × TypeId × Array Value)} (h : Fg w0 r bl w) (i : Nat) {b : Nat} {T : TypeId} {cs : Array Value} (hi : bl[i]? = some (b, T, cs)) : w0.heap.size ≤ b :=
  (h.blk _ (List.mem_of_getElem? hi)).2
theorem Fg.lt_ {w0 w : World} {r : Nat} {bl : List (Nat × TypeId × Array Value)} (h : Fg w0 r bl w) (i : Nat) {b : Nat} {T : TypeId} {cs : Array Value} (hi : bl[i]? = some (b, T, cs)) : b < w.heap.size :=
  h.lt _ (List.mem_of_getElem? hi)
/-- Behind what only makes memory. -/
theorem Fg.call {w0 w w' : World} {r : Nat} {bl : List (Nat × TypeId × Array Value)} (h : Fg w0 r bl w) (hb : Below w.heap.size w w') : Fg w0 r bl w' :=
  ⟨gb_trans h.grown (gb_below hb), h.low, fun x hx => ⟨(hb.block x.1 (h.lt x hx)).trans (h.blk x hx).1, (h.blk x hx).2⟩, h.srt⟩
/-- Behind what turns the object. -/
theorem Fg.own {w0 w w' : World} {r : Nat} {bl : List (Nat × TypeId × Array Value)} (h : Fg w0 r bl w) (hg : w.grownBy w' (some r)) : Fg w0 r bl w' :=
  ⟨gb_trans h.grown hg, h.low, fun x hx => ⟨(hg.block x.1 (h.lt x hx) (fun e => by injection e with e; have := (h.blk x hx).2; have := h.low; omega)).trans (h.blk x hx).1, (h.blk x hx).2⟩, h.srt⟩
/-- A row of one's own, stored anew: nothing older is turned. -/
theorem gb_rowN (w : World) (b : Nat) (zs : Array Value) : w.grownBy (w.setRow b zs) (some b) :=
  ⟨rfl, rfl, rfl, by rw [setRow_size]; exact Nat.le_refl _, fun k _ hk => setRow_other w b k _ (fun e => hk (by rw [e]))⟩
theorem Fg.alloc {w0 w : World} {r : Nat} {bl : List (Nat × TypeId × Array Value)} (h : Fg w0 r bl w) (b : Nat) (hb : b = w.heap.size) (T : TypeId) (cs : Array Value) : Fg w0 r (bl ++ [(b, T, cs)]) (w.alloc (.cells cs T)) := by
  subst hb
  have hbel : Below w.heap.size w (w.alloc (.cells cs T)) := (Below.refl _ _).alloc (Nat.le_refl _) _
  refine ⟨(h.call hbel).grown, h.low, fun x hx => ?blk, List.pairwise_append.2 ⟨h.srt, List.pairwise_singleton _ _, fun x hx y hy => ?srt⟩⟩
  case blk =>
    rcases List.mem_append.1 hx with hx | hx
    · exact (h.call hbel).blk x hx
    · simp only [List.mem_cons, List.not_mem_nil, or_false] at hx
      subst hx
      exact ⟨heap_alloc_new w _, h.grown.size⟩
  case srt =>
    simp only [List.mem_cons, List.not_mem_nil, or_false] at hy
    subst hy
    exact h.lt x hx
end Go.Proofs.Ythlhogfebicooaa

namespace Go.Proofs.Ythlhogfebicooaa
open Go
theorem wpList_wanted {P : Program} {ops : Array Oper} {Q : Exit → Act → World → Prop} {a : Act} {w : World} {rest : List Oper} {o : Oper} (hw : Region.wanted o (yielded ops a.tmps) = true)
    (h : ∀ K : Act → World → Prop, (∀ a w, wpList P ops Q rest a w → K a w) → o.wp P a w K Q) : wpList P ops Q (o :: rest) a w :=
  wpList_step fun K hK => by rw [if_pos hw]; exact h K hK
theorem wanted_of {o : Oper} {ops : Array Oper} {t : Array Value} (k : Nat) (v : Bool) (hg : o.guard = some (k, v)) (hy : yielded ops t k = some v) : Region.wanted o (yielded ops t) = true := by
  unfold Region.wanted
  simp [hg, hy]
theorem wpList_load_row_g {P : Program} {ops : Array Oper} {rest : List Oper} {o : Oper} {a : Act} {w : World} {Q : Exit → Act → World → Prop} (k : Nat) (v : Bool) (hgd : o.guard = some (k, v)) (hy : yielded ops a.tmps k = some v) (ty : TypeId) (x : Operand) (ho : o.op = .load ty x)
    (g : Nat) (hx : a.eval x = .pointer (some ⟨g, 0, none⟩)) (t : TypeId) (cs : Array Value) (fr : Nat × Nat) (d : TypeDesc) (hg : w.heap[g]? = some (.cells cs t fr))
    (hu : P.underlying ty = some d) (hd : (match d with | .struct _ | .array _ _ => true | _ => false) = true) (hi : (P.info? ty).map (·.size) = some cs.size)
    (h : wpList P ops Q rest (a.put o.dst (.agg cs)) w) : wpList P ops Q (o :: rest) a w :=
  wpList_wanted (wanted_of k v hgd hy) fun _ hK => wp_load_row ty x ho g hx t cs fr d hg hu hd hi (hK _ _ h)
theorem run_lenT {P : Program} {W : World} {o : Oper} {ρ : Operand → Value} {t e : TypeId} {x : Operand} {a : Option Addr} {n c : Nat} (ho : o.op = .call { callee := .builtin .len, args := #[x], argTypes := #[t] }) (ht : P.underlying t = some (.slice e)) (hx : ρ x = .slice a n c) : (execOp ρ o).run P W = .ok (.value (.int .i64 (n : Int))) W := by
  have he : P.elem t = e := by simp [Program.elem, ht]
  have ht' : P.underlying t = some (.slice (P.elem t)) := by rw [he]; exact ht
  unfold execOp
  simp only [ho, resolve, invoke, builtin, Sem.run_bind, Sem.run_pure, Result.andThen_ok, List.map_toArray, List.map_cons, List.map_nil, hx, run_len_slice W t o.type a n c ht']
  rfl
end Go.Proofs.Ythlhogfebicooaa

namespace Go.Proofs.Ythlhogfebicooaa
open Go Go.RowKit
def UNI : Value := .agg #[]
def SetI (w : World) (b n : Nat) (g : List UInt8 → Bool) : Prop := MapO Try.prog 9 w b n (fun s => if g s = true then some UNI else none)
theorem zero_uni (w : World) : (zeroValue 179).run Try.prog w = .ok UNI w := by kernel_rfl
theorem size_uni : (Try.prog.info? 179).map (·.size) = some 0 := by kernel_rfl
theorem SetI.below {w w' : World} {b n : Nat} {g : List UInt8 → Bool} (h : SetI w b n g) (hb : Below w.heap.size w w') : SetI w' b n g := MapO.below h hb
theorem SetI.kept {w w' : World} {b n : Nat} {g : List UInt8 → Bool} {row : Option Nat} (h : SetI w b n g) (hg : w.grownBy w' row) (hne : some b ≠ row) : SetI w' b n g := MapO.kept h hg hne
theorem SetI.lt {w : World} {b n : Nat} {g : List UInt8 → Bool} (h : SetI w b n g) : b < w.heap.size := MapO.lt h
theorem SetI.look_ok {w : World} {b n : Nat} {g : List UInt8 → Bool} (h : SetI w b n g) (s : ByteArray) (hs : s.size ≤ maxLen) : (Instr.lookup 118 (.map (some b)) (.string s) true).run Try.prog w = .ok (.tuple #[UNI, .bool (g s.data.toList)]) w := by
  have := MapO.look_ok h Try.underlying9 Try.underlying118 (zero_uni w) s hs
  rw [this]
  cases g s.data.toList <;> rfl
def addI (g : List UInt8 → Bool) (s : ByteArray) : List UInt8 → Bool := fun x => (x == s.data.toList) || g x
theorem addI_map (g : List UInt8 → Bool) (s : ByteArray) : (fun x : List UInt8 => if x = s.data.toList then some UNI else if g x = true then some UNI else none) = (fun x => if addI g s x = true then some UNI else none) := by
  funext x
  unfold addI
  by_cases hx : x = s.data.toList <;> simp [hx]
theorem SetI.made (w : World) : SetI (w.alloc (.map #[] 0)) w.heap.size 0 (fun _ => false) := by
  have := MapO.made Try.prog 9 w
  unfold SetI
  simpa using this
/-- 'm[s] = v', in a row of operations. -/
theorem wpList_mapset {P : Program} {ops : Array Oper} {rest : List Oper} {o : Oper} {a : Act} {Q : Exit → Act → World → Prop} {w : World} (hgd : o.guard = none) {t k e : TypeId} (m x v : Operand) (hop : o.op = Op.mapUpdate t m x v) {b n : Nat} {f : List UInt8 → Option Value} (hm : a.eval m = .map (some b)) (s : ByteArray) (hx : a.eval x = .string s) (val : Value) (hv : a.eval v = val) (h : MapO P k w b n f) (hk : P.underlying k = some .string) (ht : P.underlying t = some (.map k e)) (hn : n < maxLen) (hs : s.size ≤ maxLen)
    (hK : ∀ w', MapO P k w' b (n + 1) (fun x => if x = s.data.toList then some val else f x) → w.grownBy w' (some b) → wpList P ops Q rest (a.put o.dst undef) w') : wpList P ops Q (o :: rest) a w := by
  refine wpList_plain hgd fun K' hK' => ?_
  obtain ⟨w', hrun, r1, r2⟩ := MapO.update h hk ht hn s hs val
  unfold Oper.wp
  simp [execOp, hop, hm, hx, hv, hrun, Result.andThen]
  exact hK' _ _ (hK w' r1 r2)
set_option maxHeartbeats 4000000 in
set_option maxRecDepth 100000 in
theorem hasI_any (w : World) (b n : Nat) (g : List UInt8 → Bool) (hS : SetI w b n g) (s : ByteArray) (hs : s.size ≤ maxLen) : Calls Try.prog 71 #[.map (some b), .string s] w (fun e w' => e = .returned (.bool (g s.data.toList)) ∧ Below w.heap.size w w') := by
  have hl := SetI.look_ok hS s hs
  obtain ⟨q, hq⟩ : ∃ q, q = g s.data.toList := ⟨_, rfl⟩
  rw [← hq] at hl ⊢
  have HB := Lib.hid ((Below.refl w.heap.size w).alloc (Nat.le_refl _) (.cells #[] 179))
  have HSU := Lib.hid size_uni
  have HN := Lib.hid (heap_alloc_new w (.cells #[] 179))
  unfold UNI at hl
  clear hS hs hq
  go_enter Try.func71, Try.ntmps71
  go_wp2_with fail
  go_ret
  exact ⟨rfl, HB.out⟩
def GivesAd (b n : Nat) (g : List UInt8 → Bool) (s : ByteArray) (w : World) (e : Ending) (w' : World) : Prop := e = .returned (.tuple #[]) ∧ SetI w' b (n + 1) (addI g s) ∧ w.grownBy w' (some b)
set_option maxHeartbeats 4000000 in
set_option maxRecDepth 100000 in
theorem addI_any (w : World) (b n : Nat) (g : List UInt8 → Bool) (hS : SetI w b n g) (hn : n < maxLen) (s : ByteArray) (hs : s.size ≤ maxLen) : Calls Try.prog 97 #[.map (some b), .string s] w (GivesAd b n g s w) := by
  have HS := Lib.hid hS
  have HN := Lib.hid hn
  have HSZ := Lib.hid hs
  have bu : ∀ W : World, (Instr.build 179 #[]).run Try.prog W = .ok (.agg #[]) W := fun W => by kernel_rfl
  clear hS hn hs
  go_enter Try.func97, Try.ntmps97
  go_wp2_with (refine wpList_mapset rfl (.tmp 4) (.tmp 5) (.tmp 6) rfl rfl s rfl (.agg #[]) rfl HS.out Try.underlying9 Try.underlying118 HN.out HSZ.out ?_)
  intro w1 h1 h2
  have h1 : SetI w1 b (n + 1) (addI g s) := by
    have h3 : MapO Try.prog 9 w1 b (n + 1) _ := h1
    unfold SetI
    rw [← addI_map]
    exact h3
  have H1 := Lib.hid h1
  have H2 := Lib.hid h2
  clear h1 h2
  go_wp2_with fail
  refine bodyPost_end (results_none rfl _ _ _) rfl ?_
  exact ⟨rfl, H1.out, H2.out⟩
set_option maxHeartbeats 4000000 in
set_option maxRecDepth 100000 in
theorem iniFault_any (at_ : Int) (w : World) : Calls Try.prog 99 #[.int .i64 at_] w (GivesF 11 at_ w) := by
  have hn := heap_alloc_new w (.cells #[.int .i64 0, .int .i64 0] 32)
  have HB := Lib.hid ((Below.refl w.heap.size w).alloc (Nat.le_refl _) (.cells #[.int .i64 0, .int .i64 0] 32))
  have HN := Lib.hid hn
  have HSF := Lib.hid size_flt
  have HST := Lib.hid (setRow_heap (w.alloc (.cells #[.int .i64 0, .int .i64 0] 32)) w.heap.size _ #[.int .i64 11, .int .i64 at_] _ _ hn)
  clear hn
  go_enter Try.func99, Try.ntmps99
  go_wp2_with (refine wpList_store_row rfl 32 (.tmp 2) (.tmp 4) rfl w.heap.size #[.int .i64 11, .int .i64 at_] rfl rfl 32 _ HN.out HSF.out rfl (fault_one _ _) ?_)
  refine bodyPost_ret (v := .agg #[.int .i64 11, .int .i64 at_]) (results_cell_row (p := 2) (ty := 32) rfl _ _ w.heap.size 32 _ (0, 0) _ rfl HST.out Try.underlying32 rfl HSF.out) rfl ?_
  exact ⟨rfl, below_setRow HB.out (Nat.le_refl _) _⟩
end Go.Proofs.Ythlhogfebicooaa

namespace Go.Proofs.Ythlhogfebicooaa
open Go Go.RowKit
/-- A part that was added, as it stands in its row: its kids are not looked at. -/
structure RtV where
  op : ByteArray
  name : ByteArray
  n : Int
  at_ : Int
  x : Option Addr
  l : Nat
  c : Nat
def rtC (r : RtV) : List Value := [.string r.op, .string r.name, .int .i64 r.n, .int .i64 r.at_, .slice r.x r.l r.c]
def rtD (r : RtV) : List Dt := [.v (.string r.op), .v (.string r.name), .v (.int .i64 r.n), .v (.int .i64 r.at_), .v (.slice r.x r.l r.c)]
def rtsD (l : List RtV) : List Dt := l.flatMap rtD
def RtV.key (r : RtV) : Bool × List UInt8 := (r.op.data.toList == PREL, r.name.data.toList)
theorem rtsD_app (a b : List RtV) : rtsD (a ++ b) = rtsD a ++ rtsD b := by simp [rtsD]
theorem rt_plain (l : List RtV) : ∀ d ∈ rtsD l, ∃ x, d = .v x := fun d hd => by
  simp only [rtsD, List.mem_flatMap, rtD, List.mem_cons, List.not_mem_nil, or_false] at hd
  obtain ⟨r, _, h⟩ := hd
  rcases h with rfl | rfl | rfl | rfl | rfl <;> exact ⟨_, rfl⟩
theorem rt_ones (l : List RtV) : ∀ d ∈ rtsD l, d.one := fun d hd => by
  simp only [rtsD, List.mem_flatMap, rtD, List.mem_cons, List.not_mem_nil, or_false] at hd
  obtain ⟨r, _, h⟩ := hd
  rcases h with rfl | rfl | rfl | rfl | rfl <;> exact rfl
theorem RowsD.rt {ok : Nat → Prop} {w : World} {xs : List Value} {v : RtV} (h : RowsD ok w xs (rtD v)) : xs = rtC v := by
  match xs, h with
  | [a, b, c, d, e], ⟨h1, h2, h3, h4, h5, _⟩ =>
    unfold IsD at h1 h2 h3 h4 h5
    rw [h1, h2, h3, h4, h5]; rfl
theorem rt_at {ok : Nat → Prop} {w : World} {l : List RtV} {x : Option Addr} {c : Nat} (h : IsD ok w (.slice x l.length c) (.sl l.length (rtsD l))) (i : Nat) (hi : i < l.length) : ∃ g, x = some ⟨g, 0, none⟩ ∧ g < w.heap.size ∧ w.rangeAt g (i * 5) (rtC l[i]) := by
  obtain ⟨g, e1, _, e3, e4⟩ := IsD.some_ h (by omega)
  have h5 := IsDs.nth (f := rtD) (sz := 5) (fun _ => rfl) l i 0 hi e4
  rw [Nat.zero_add] at h5
  obtain ⟨xs, h7, h6⟩ := h5.rows
  have e := h7.rt
  subst e
  exact ⟨g, e1, e3, h6⟩
theorem belowB_own {B : Nat} {w W W' : World} {row : Option Nat} (h : Below B w W) (hg : W.grownBy W' row) (hr : ∀ k, row = some k → B ≤ k) (hB : B ≤ W.heap.size) : Below B w W' :=
  ⟨hg.os.trans h.os, hg.tape.trans h.tape, hg.output.trans h.output, Nat.le_trans h.size hg.size, fun k hk => (hg.block k (Nat.lt_of_lt_of_le hk hB) (fun e => by have := hr k e.symm; omega)).trans (h.block k hk)⟩
theorem rtssI_app : ∀ (a b : List Ex), rtssI (a ++ b) = rtssI a ++ rtssI b
  | [], b => by simp [rtssI]
  | e :: r, b => by rw [List.cons_append, rtssI, rtssI, rtssI_app r b, List.append_assoc]
theorem IsD.belowB {B : Nat} {ok : Nat → Prop} {w w' : World} (hb : Below B w w') (hk : ∀ k, ok k → k < B) {u : Value} {d : Dt} (h : IsD ok w u d) : IsD ok w' u d :=
  h.keep hb.size (fun k ho _ => hb.block k (hk k ho)) (fun _ h _ => h)
def GivesRo (b : Nat) (n : Nat) (ds : List Dt) (ks : List (Bool × List UInt8)) (w : World) (e : Ending) (w' : World) : Prop := ∃ v' rs, e = .returned v' ∧ OwnD 43 5 w' b v' (n + rs.length) (ds ++ rtsD rs) ∧ rs.map RtV.key = ks ∧ Below (b + 1) w w'
set_option maxHeartbeats 4000000 in
set_option maxRecDepth 100000 in
theorem roots_pre (nm : ByteArray) (k at_ : Int) (x : Option Addr) (l c : Nat) (w : World) (b : Nat) (V : Value) (n : Nat) (ds : List Dt) (hO : OwnD 43 5 w b V n ds) (hb : b + 1 ≤ w.heap.size) (hn : n + 1 ≤ 100000000000) : Calls Try.prog 101 #[V, .agg #[.string ⟨#[112, 114, 101]⟩, .string nm, .int .i64 k, .int .i64 at_, .slice x l c]] w (GivesRo b n ds [(true, nm.data.toList)] w) := by
  have HSE := Lib.hid size_eS
  have HIE := Lib.hid info_eS
  have HN := Lib.hid hn
  have P1 := (Fx.start w).alloc w.heap.size rfl 43 #[.string ⟨#[112, 114, 101]⟩, .string nm, .int .i64 k, .int .i64 at_, .slice x l c]
  obtain ⟨W1, hW1⟩ : ∃ W1, W1 = w.alloc (.cells #[.string ⟨#[112, 114, 101]⟩, .string nm, .int .i64 k, .int .i64 at_, .slice x l c] 43) := ⟨_, rfl⟩
  have c0 := cell_of_row _ w.heap.size 0 _ _ _ (P1.get 0 rfl)
  rw [← hW1] at P1
  have HL := Lib.hid (P1.get 0 rfl)
  have bs := fun W => slice_oneS ⟨#[112, 114, 101]⟩ nm k at_ x l c W
  obtain ⟨xv, cv, rfl, _, _⟩ := hO.slice
  have P2 := P1.call (w' := (W1.alloc (.cells #[.string ⟨#[112, 114, 101]⟩, .string nm, .int .i64 k, .int .i64 at_, .slice x l c] 43))) ((Below.refl _ _).alloc (Nat.le_refl _) _)
  have HO2 := Lib.hid (hO.below P2.below)
  have HB2 := Lib.hid P2.below
  have HBB := Lib.hid hb
  have HW1 := Lib.hid hW1
  have HD : Hid (IsD (fun _ => True) (W1.alloc (.cells #[.string ⟨#[112, 114, 101]⟩, .string nm, .int .i64 k, .int .i64 at_, .slice x l c] 43)) (.slice (some ⟨W1.heap.size, 0, none⟩) 1 1) (.sl 1 (rtsD [⟨⟨#[112, 114, 101]⟩, nm, k, at_, x, l, c⟩]))) := Lib.hid (IsD.made 43 _ _ rfl 1 (by decide) (by decide) _ trivial ⟨by unfold IsD; rfl, by unfold IsD; rfl, by unfold IsD; rfl, by unfold IsD; rfl, by unfold IsD; rfl, trivial⟩)
  have HBW := Lib.hid (show b + 1 ≤ (W1.alloc (.cells #[.string ⟨#[112, 114, 101]⟩, .string nm, .int .i64 k, .int .i64 at_, .slice x l c] 43)).heap.size from Nat.le_trans hb P2.below.size)
  clear P1 P2 hO hb hn hW1
  go_enter Try.func101, Try.ntmps101
  go_upto_region 4 with fail
  rw [← HW1.out]
  go_wp2_with (first | (refine wpList_load_row rfl 43 (.tmp 3) rfl w.heap.size rfl 43 #[.string ⟨#[112, 114, 101]⟩, .string nm, .int .i64 k, .int .i64 at_, .slice x l c] (0, 0) _ ?_ Try.underlying43 rfl HSE.out ?_; (exact HL.out)) | (at_builtin; refine wpList_appH rfl (.tmp 12) (.tmp 14) 41 rfl 72 Try.underlying41 HIE.out (by decide) (by decide) rfl HO2.out HBW.out (rtsD [⟨⟨#[112, 114, 101]⟩, nm, k, at_, x, l, c⟩]) rfl HD.out rfl (rt_plain _) (rt_ones _) HN.out ?_))
  intro v' w' hO' hg' _
  have HO3 := Lib.hid hO'
  have HB3 := Lib.hid (belowB_own (HB2.out.mono HBB.out) hg' (fun j hj => (HO2.out.gt j hj).1) HBW.out)
  clear hO' hg' bs c0
  go_wp2_with fail
  go_ret
  exact ⟨v', [⟨⟨#[112, 114, 101]⟩, nm, k, at_, x, l, c⟩], rfl, HO3.out, rfl, HB3.out⟩
set_option maxHeartbeats 4000000 in
set_option maxRecDepth 100000 in
theorem roots_var (nm : ByteArray) (k at_ : Int) (x : Option Addr) (l c : Nat) (w : World) (b : Nat) (V : Value) (n : Nat) (ds : List Dt) (hO : OwnD 43 5 w b V n ds) (hb : b + 1 ≤ w.heap.size) (hn : n + 1 ≤ 100000000000) : Calls Try.prog 101 #[V, .agg #[.string ⟨#[118, 97, 114]⟩, .string nm, .int .i64 k, .int .i64 at_, .slice x l c]] w (GivesRo b n ds [(false, nm.data.toList)] w) := by
  have HSE := Lib.hid size_eS
  have HIE := Lib.hid info_eS
  have HN := Lib.hid hn
  have P1 := (Fx.start w).alloc w.heap.size rfl 43 #[.string ⟨#[118, 97, 114]⟩, .string nm, .int .i64 k, .int .i64 at_, .slice x l c]
  obtain ⟨W1, hW1⟩ : ∃ W1, W1 = w.alloc (.cells #[.string ⟨#[118, 97, 114]⟩, .string nm, .int .i64 k, .int .i64 at_, .slice x l c] 43) := ⟨_, rfl⟩
  have c0 := cell_of_row _ w.heap.size 0 _ _ _ (P1.get 0 rfl)
  rw [← hW1] at P1
  have HL := Lib.hid (P1.get 0 rfl)
  have bs := fun W => slice_oneS ⟨#[118, 97, 114]⟩ nm k at_ x l c W
  obtain ⟨xv, cv, rfl, _, _⟩ := hO.slice
  have P2 := P1.call (w' := (W1.alloc (.cells #[.string ⟨#[118, 97, 114]⟩, .string nm, .int .i64 k, .int .i64 at_, .slice x l c] 43))) ((Below.refl _ _).alloc (Nat.le_refl _) _)
  have HO2 := Lib.hid (hO.below P2.below)
  have HB2 := Lib.hid P2.below
  have HBB := Lib.hid hb
  have HW1 := Lib.hid hW1
  have HD : Hid (IsD (fun _ => True) (W1.alloc (.cells #[.string ⟨#[118, 97, 114]⟩, .string nm, .int .i64 k, .int .i64 at_, .slice x l c] 43)) (.slice (some ⟨W1.heap.size, 0, none⟩) 1 1) (.sl 1 (rtsD [⟨⟨#[118, 97, 114]⟩, nm, k, at_, x, l, c⟩]))) := Lib.hid (IsD.made 43 _ _ rfl 1 (by decide) (by decide) _ trivial ⟨by unfold IsD; rfl, by unfold IsD; rfl, by unfold IsD; rfl, by unfold IsD; rfl, by unfold IsD; rfl, trivial⟩)
  have HBW := Lib.hid (show b + 1 ≤ (W1.alloc (.cells #[.string ⟨#[118, 97, 114]⟩, .string nm, .int .i64 k, .int .i64 at_, .slice x l c] 43)).heap.size from Nat.le_trans hb P2.below.size)
  clear P1 P2 hO hb hn hW1
  go_enter Try.func101, Try.ntmps101
  go_upto_region 4 with fail
  rw [← HW1.out]
  go_wp2_with (first | (refine wpList_load_row rfl 43 (.tmp 3) rfl w.heap.size rfl 43 #[.string ⟨#[118, 97, 114]⟩, .string nm, .int .i64 k, .int .i64 at_, .slice x l c] (0, 0) _ ?_ Try.underlying43 rfl HSE.out ?_; (exact HL.out)) | (at_builtin; refine wpList_appH rfl (.tmp 12) (.tmp 14) 41 rfl 72 Try.underlying41 HIE.out (by decide) (by decide) rfl HO2.out HBW.out (rtsD [⟨⟨#[118, 97, 114]⟩, nm, k, at_, x, l, c⟩]) rfl HD.out rfl (rt_plain _) (rt_ones _) HN.out ?_))
  intro v' w' hO' hg' _
  have HO3 := Lib.hid hO'
  have HB3 := Lib.hid (belowB_own (HB2.out.mono HBB.out) hg' (fun j hj => (HO2.out.gt j hj).1) HBW.out)
  clear hO' hg' bs c0
  go_wp2_with fail
  go_ret
  exact ⟨v', [⟨⟨#[118, 97, 114]⟩, nm, k, at_, x, l, c⟩], rfl, HO3.out, rfl, HB3.out⟩
set_option maxHeartbeats 4000000 in
set_option maxRecDepth 100000 in
theorem roots_lt : ∀ (d : Nat) (e : Ex), SizeOf.sizeOf e < d → ∀ (w : World) (b : Nat) (V : Value) (n : Nat) (ds : List Dt) (x : Option Addr) (c : Nat), OwnD 43 5 w b V n ds → b + 1 ≤ w.heap.size → n + (rtsI e).length ≤ 100000000000 → KidsD (· ≤ b) w e x c → Calls Try.prog 101 #[V, exV e x c] w (GivesRo b n ds (rtsI e) w) := by
  intro d
  induction d with
  | zero => intro e h; omega
  | succ d ih =>
    intro e hd w b V n ds x c hO hb hn hkk
    rw [rtsI_eq] at hn ⊢
    by_cases h1 : e.op.data.toList = PREL
    · rw [if_pos h1] at hn ⊢
      unfold exV
      rw [bytes_eq h1]
      exact roots_pre _ _ _ _ _ _ w b V n ds hO hb hn
    rw [if_neg h1] at hn ⊢
    by_cases h2 : e.op.data.toList = VARL
    · rw [if_pos h2] at hn ⊢
      unfold exV
      rw [bytes_eq h2]
      exact roots_var _ _ _ _ _ _ w b V n ds hO hb hn
    rw [if_neg h2] at hn ⊢
    obtain ⟨R, hR⟩ : ∃ R, R = OPSR.contains e.op.data.toList := ⟨_, rfl⟩
    rw [← hR] at hn ⊢
    obtain ⟨b1, hb1⟩ : ∃ b, b = (e.op.data.toList == [110, 111, 116]) := ⟨_, rfl⟩
    obtain ⟨b2, hb2⟩ : ∃ b, b = (e.op.data.toList == [110, 101, 103]) := ⟨_, rfl⟩
    obtain ⟨b3, hb3⟩ : ∃ b, b = (e.op.data.toList == [43]) := ⟨_, rfl⟩
    obtain ⟨b4, hb4⟩ : ∃ b, b = (e.op.data.toList == [45]) := ⟨_, rfl⟩
    obtain ⟨b5, hb5⟩ : ∃ b, b = (e.op.data.toList == [42]) := ⟨_, rfl⟩
    obtain ⟨b6, hb6⟩ : ∃ b, b = (e.op.data.toList == [47]) := ⟨_, rfl⟩
    obtain ⟨b7, hb7⟩ : ∃ b, b = (e.op.data.toList == [109, 111, 100]) := ⟨_, rfl⟩
    obtain ⟨b8, hb8⟩ : ∃ b, b = (e.op.data.toList == [61]) := ⟨_, rfl⟩
    obtain ⟨b9, hb9⟩ : ∃ b, b = (e.op.data.toList == [60, 62]) := ⟨_, rfl⟩
    obtain ⟨b10, hb10⟩ : ∃ b, b = (e.op.data.toList == [60]) := ⟨_, rfl⟩
    obtain ⟨b11, hb11⟩ : ∃ b, b = (e.op.data.toList == [60, 61]) := ⟨_, rfl⟩
    obtain ⟨b12, hb12⟩ : ∃ b, b = (e.op.data.toList == [62]) := ⟨_, rfl⟩
    obtain ⟨b13, hb13⟩ : ∃ b, b = (e.op.data.toList == [62, 61]) := ⟨_, rfl⟩
    obtain ⟨b14, hb14⟩ : ∃ b, b = (e.op.data.toList == [97, 110, 100]) := ⟨_, rfl⟩
    obtain ⟨b15, hb15⟩ : ∃ b, b = (e.op.data.toList == [111, 114]) := ⟨_, rfl⟩
    obtain ⟨b16, hb16⟩ : ∃ b, b = (e.op.data.toList == [120, 111, 114]) := ⟨_, rfl⟩
    obtain ⟨b17, hb17⟩ : ∃ b, b = (e.op.data.toList == [105, 102]) := ⟨_, rfl⟩
    obtain ⟨b18, hb18⟩ : ∃ b, b = (e.op.data.toList == [119, 104, 101, 110]) := ⟨_, rfl⟩
    have hRR : R = (b1 || b2 || b3 || b4 || b5 || b6 || b7 || b8 || b9 || b10 || b11 || b12 || b13 || b14 || b15 || b16 || b17 || b18) := by
      rw [hR]
      simp only [OPSR, List.contains_cons, List.contains_nil, Bool.or_false, ← hb1, ← hb2, ← hb3, ← hb4, ← hb5, ← hb6, ← hb7, ← hb8, ← hb9, ← hb10, ← hb11, ← hb12, ← hb13, ← hb14, ← hb15, ← hb16, ← hb17, ← hb18, Bool.or_assoc]
    have k1 : (e.op.toList == [110, 111, 116]) = b1 := by rw [Lib.toList_data]; exact hb1.symm
    have k2 : (e.op.toList == [110, 101, 103]) = b2 := by rw [Lib.toList_data]; exact hb2.symm
    have k3 : (e.op.toList == [43]) = b3 := by rw [Lib.toList_data]; exact hb3.symm
    have k4 : (e.op.toList == [45]) = b4 := by rw [Lib.toList_data]; exact hb4.symm
    have k5 : (e.op.toList == [42]) = b5 := by rw [Lib.toList_data]; exact hb5.symm
    have k6 : (e.op.toList == [47]) = b6 := by rw [Lib.toList_data]; exact hb6.symm
    have k7 : (e.op.toList == [109, 111, 100]) = b7 := by rw [Lib.toList_data]; exact hb7.symm
    have k8 : (e.op.toList == [61]) = b8 := by rw [Lib.toList_data]; exact hb8.symm
    have k9 : (e.op.toList == [60, 62]) = b9 := by rw [Lib.toList_data]; exact hb9.symm
    have k10 : (e.op.toList == [60]) = b10 := by rw [Lib.toList_data]; exact hb10.symm
    have k11 : (e.op.toList == [60, 61]) = b11 := by rw [Lib.toList_data]; exact hb11.symm
    have k12 : (e.op.toList == [62]) = b12 := by rw [Lib.toList_data]; exact hb12.symm
    have k13 : (e.op.toList == [62, 61]) = b13 := by rw [Lib.toList_data]; exact hb13.symm
    have k14 : (e.op.toList == [97, 110, 100]) = b14 := by rw [Lib.toList_data]; exact hb14.symm
    have k15 : (e.op.toList == [111, 114]) = b15 := by rw [Lib.toList_data]; exact hb15.symm
    have k16 : (e.op.toList == [120, 111, 114]) = b16 := by rw [Lib.toList_data]; exact hb16.symm
    have k17 : (e.op.toList == [105, 102]) = b17 := by rw [Lib.toList_data]; exact hb17.symm
    have k18 : (e.op.toList == [119, 104, 101, 110]) = b18 := by rw [Lib.toList_data]; exact hb18.symm
    have kp : (e.op.toList == [112, 114, 101]) = false := by rw [Lib.toList_data]; simpa [PREL] using h1
    have kv : (e.op.toList == [118, 97, 114]) = false := by rw [Lib.toList_data]; simpa [VARL] using h2
    have HRR := Lib.hid hRR
    have P1 := (Fx.start w).alloc w.heap.size rfl 43 #[.string e.op, .string e.name, .int .i64 e.n, .int .i64 (e.at_ : Int), .slice x e.kids.length c]
    have c0 := cell_of_row _ w.heap.size 0 _ _ _ (P1.get 0 rfl)
    have c4 := cell_of_row _ w.heap.size 4 _ _ _ (P1.get 0 rfl)
    have HO := Lib.hid hO
    have HBB := Lib.hid hb
    have HNN := Lib.hid hn
    have HKK := Lib.hid hkk
    have HP1 := Lib.hid P1
    have IH := Lib.hid (fun (i : Nat) (hi : i < e.kids.length) => ih e.kids[i] (by have := kid_less hi; omega))
    have HSE := Lib.hid size_eS
    clear hR hRR P1 hO hb hn hkk ih hd h1 h2 hb1 hb2 hb3 hb4 hb5 hb6 hb7 hb8 hb9 hb10 hb11 hb12 hb13 hb14 hb15 hb16 hb17 hb18
    unfold exV
    obtain ⟨W1, hW1⟩ : ∃ W1, W1 = w.alloc (.cells #[.string e.op, .string e.name, .int .i64 e.n, .int .i64 (e.at_ : Int), .slice x e.kids.length c] 43) := ⟨_, rfl⟩
    have HW1 := Lib.hid hW1
    rw [← hW1] at HP1
    have HC4 := Lib.hid (hW1 ▸ c4)
    clear hW1 c4
    go_enter Try.func101, Try.ntmps101
    go_upto_if 16 with fail
    rw [← HW1.out]
    go_cut [16] (fun v wx => v = .bool R ∧ wx = W1)
    case first =>
      go_wp2_with fail
      all_goals (go_meet; exact ⟨congrArg Value.bool (by rw [HRR.out]; simp only [*, Bool.or_true, Bool.true_or, Bool.false_or, Bool.or_false]), rfl⟩)
    case rest =>
      obtain ⟨rfl, rfl⟩ := hcut
      clear k1 k2 k3 k4 k5 k6 k7 k8 k9 k10 k11 k12 k13 k14 k15 k16 k17 k18 kp kv HRR HW1
      have HB1 := Lib.hid (HP1.out.below.mono HBB.out)
      have HO1 := Lib.hid (HO.out.below HP1.out.below)
      cases R with
      | false =>
        go_wp2_with fail
        go_ret
        exact ⟨V, [], rfl, by simpa [rtsD] using HO1.out, rfl, HB1.out⟩
      | true =>
        have c4 := HC4.out
        have HN2 := Lib.hid (show n + (rtssI e.kids).length ≤ 100000000000 from HNN.out)
        clear HC4 HNN
        obtain ⟨w1, hw1⟩ : ∃ w1, w1 = wc := ⟨_, rfl⟩
        have HK1 := Lib.hid (IsD.below HP1.out.below HKK.out)
        rw [← hw1] at HO1 HB1 HK1
        have HW1 := Lib.hid hw1
        have HBW := Lib.hid (show b + 1 ≤ w1.heap.size from Nat.le_trans HBB.out HB1.out.size)
        clear hw1
        go_upto_region 24 with fail
        rw [← HW1.out]
        go_loopw [0, 38] (fun v0 v38 wr => ∃ (V1 : Value) (i : Nat) (rs : List RtV), V1 = v0 ∧ v38 = .int .i64 (i : Int) ∧ i ≤ e.kids.length ∧ OwnD 43 5 wr b V1 (n + rs.length) (ds ++ rtsD rs) ∧ rs.map RtV.key = rtssI (e.kids.take i) ∧ Below (b + 1) w1 wr)
          (fun _ v38 _ => e.kids.length - (intOf v38).toNat)
        case atStart => exact ⟨_, 0, [], rfl, rfl, Nat.zero_le _, by simpa [rtsD] using HO1.out, rfl, Below.refl _ _⟩
        case round =>
          clear c4
          obtain ⟨V1, i, rs, rfl, rfl, hi, hO, hks, hb⟩ := hrel
          have HI := Lib.hid hi
          have HO2 := Lib.hid hO
          have HKS := Lib.hid hks
          have HB2 := Lib.hid hb
          clear hi hO hks hb
          by_cases hil : i < e.kids.length
          · have d1 : decide ((i : Int) < (e.kids.length : Int)) = true := by simp; omega
            have HIL := Lib.hid hil
            have hkw := HK1.out.belowB HB2.out (fun k hk => by omega)
            obtain ⟨g1, rfl, hg1, xk, ck, hrg, hkk⟩ := KidsD.at_ hkw i hil
            have hcat : rtssI (e.kids.take (i + 1)) = rtssI (e.kids.take i) ++ rtsI (e.kids[i]'hil) := by
              rw [List.take_add_one, List.getElem?_eq_getElem hil, rtssI_app]
              simp [rtssI]
            have hle : (rtssI (e.kids.take (i + 1))).length ≤ (rtssI e.kids).length := by
              conv => rhs; rw [← List.take_append_drop (i + 1) e.kids]
              rw [rtssI_app, List.length_append]
              omega
            have ih := IH.out i hil
            obtain ⟨ek, hek⟩ : ∃ ek, ek = e.kids[i]'hil := ⟨_, rfl⟩
            rw [← hek] at hrg hkk ih hcat
            have HAL := Lib.hid (heap_alloc_new wr (.cells #[.string ⟨#[]⟩, .string ⟨#[]⟩, .int .i64 0, .int .i64 0, .slice none 0 0] 43))
            obtain ⟨hnb, hnr⟩ := new_row wr 43 #[.string ⟨#[]⟩, .string ⟨#[]⟩, .int .i64 0, .int .i64 0, .slice none 0 0] #[.string ek.op, .string ek.name, .int .i64 ek.n, .int .i64 (ek.at_ : Int), .slice xk ek.kids.length ck]
            have HRK := Lib.hid hrg
            have HN1 := Lib.hid hnr
            have HNB := Lib.hid hnb
            have hbw : b + 1 ≤ wr.heap.size := Nat.le_trans HBW.out HB2.out.size
            have kk := ih ((wr.alloc (.cells #[.string ⟨#[]⟩, .string ⟨#[]⟩, .int .i64 0, .int .i64 0, .slice none 0 0] 43)).setRow wr.heap.size #[.string ek.op, .string ek.name, .int .i64 ek.n, .int .i64 (ek.at_ : Int), .slice xk ek.kids.length ck]) b _ (n + rs.length) _ xk ck (HO2.out.below hnb) (Nat.le_trans hbw hnb.size) (by have h1 := HN2.out; have h2 := congrArg List.length HKS.out; rw [List.length_map] at h2; rw [hcat, List.length_append] at hle; omega) (IsD.below hnb hkk)
            unfold exV GivesRo at kk
            have HCAT := Lib.hid hcat
            have HBW2 := Lib.hid hbw
            have i0 : (0 : Int) ≤ (i : Int) := by omega
            have i1 : (i : Int) < (e.kids.length : Int) := by omega
            clear hil hkw hrg hkk hcat hle ih hek hnb hnr hbw
            go_wp2_with (first | (refine wpList_load_mid rfl 43 (.tmp 40) rfl g1 (i * 5) rfl (exC ek xk ck) _ ?_ Try.underlying43 rfl HSE.out ?_; (exact HRK.out)) | (refine wpList_store_row rfl 43 (.tmp 6) (.tmp 41) rfl wr.heap.size #[.string ek.op, .string ek.name, .int .i64 ek.n, .int .i64 (ek.at_ : Int), .slice xk ek.kids.length ck] rfl rfl 43 #[.string ⟨#[]⟩, .string ⟨#[]⟩, .int .i64 0, .int .i64 0, .slice none 0 0] ?_ HSE.out rfl (e4_one _ _ _ _ _ _ _) ?_; (exact HAL.out)) | (refine wpList_load_row rfl 43 (.tmp 6) rfl wr.heap.size rfl 43 #[.string ek.op, .string ek.name, .int .i64 ek.n, .int .i64 (ek.at_ : Int), .slice xk ek.kids.length ck] (0, 0) _ ?_ Try.underlying43 rfl HSE.out ?_; (exact HN1.out)))
            (with_reducible refine kk.mono ?_)
            rintro e9 w2 ⟨v', rs', rfl, hO', hk', hb'⟩
            have hO3 : OwnD 43 5 w2 b v' (n + (rs ++ rs').length) (ds ++ rtsD (rs ++ rs')) := by
              rw [rtsD_app, List.length_append, ← Nat.add_assoc, ← List.append_assoc]; exact hO'
            have HO3 := Lib.hid hO3
            have HK3 := Lib.hid (show (rs ++ rs').map RtV.key = rtssI (e.kids.take (i + 1)) by rw [List.map_append, HKS.out, hk', HCAT.out])
            have HB3 := Lib.hid ((HB2.out.trans (HNB.out.mono HBW2.out)).trans hb')
            have HFEW := Lib.hid (IsD.few HKK.out)
            clear kk hO' hk' hb' hO3
            go_wp2_with fail
            refine ⟨⟨_, i + 1, rs ++ rs', rfl, wrap_succ (by have := HIL.out; have := HFEW.out; omega), HIL.out, HO3.out, HK3.out, HB3.out⟩, ?_⟩
            rw [wrap_succ (by have := HIL.out; have := HFEW.out; omega)]
            have := HIL.out
            simp [intOf]; omega
          · have d1 : decide ((i : Int) < (e.kids.length : Int)) = false := by simp; omega
            have HK2 := Lib.hid (show rs.map RtV.key = rtssI e.kids by have := HKS.out; rwa [List.take_of_length_le (by omega)] at this)
            obtain rfl : i = e.kids.length := by have := HI.out; omega
            clear hil
            go_wp2_with fail
            go_ret
            exact ⟨_, rs, rfl, HO2.out, HK2.out, HB1.out.trans HB2.out⟩
end Go.Proofs.Ythlhogfebicooaa

namespace Go.Proofs.Ythlhogfebicooaa
open Go Go.RowKit
/-- A box of a set. -/
def BoxI (w : World) (p b : Nat) : Prop := w.heap[p]? = some (.cells #[.map (some b)] 118 (0, 0))
theorem BoxI.below {w w' : World} {p b : Nat} (h : BoxI w p b) (hb : Below w.heap.size w w') : BoxI w' p b := (hb.block p (Array.getElem?_eq_some_iff.1 h).1).trans h
def lateK (g : List UInt8 → Bool) (k : Bool × List UInt8) : Bool := k.1 || g k.2
set_option maxHeartbeats 4000000 in
set_option maxRecDepth 100000 in
theorem late1_any (w : World) (p b n : Nat) (g : List UInt8 → Bool) (hS : SetI w b n g) (hp : BoxI w p b) (r : RtV) (hr : r.name.size ≤ maxLen) : Calls Try.prog 104 #[.agg #[.string r.op, .string r.name, .int .i64 r.n, .int .i64 r.at_, .slice r.x r.l r.c], .pointer (some ⟨p, 0, none⟩)] w (fun e w' => e = .returned (.bool (lateK g r.key)) ∧ Below w.heap.size w w') := by
  have P1 := (Fx.start w).alloc w.heap.size rfl 43 #[.string r.op, .string r.name, .int .i64 r.n, .int .i64 r.at_, .slice r.x r.l r.c]
  have c0 := cell_of_row _ w.heap.size 0 _ _ _ (P1.get 0 rfl)
  have c1 := cell_of_row _ w.heap.size 1 _ _ _ (P1.get 0 rfl)
  have cp := cell_of_row _ p 0 _ _ _ (BoxI.below hp P1.below)
  have kh := hasI_any _ b n g (SetI.below hS P1.below) r.name hr
  have HB1 := Lib.hid P1.below
  have HQ := Lib.hid (show lateK g r.key = ((r.op.data.toList == [112, 114, 101]) || g r.name.data.toList) from rfl)
  rw [HQ.out]
  have d0 : (r.op.toList == [112, 114, 101]) = (r.op.data.toList == [112, 114, 101]) := by rw [Lib.toList_data]
  obtain ⟨q, hq⟩ : ∃ q, q = (r.op.data.toList == [112, 114, 101]) := ⟨_, rfl⟩
  obtain ⟨y, hy⟩ : ∃ y, y = g r.name.data.toList := ⟨_, rfl⟩
  rw [← hq] at d0
  rw [← hq, ← hy]
  rw [← hy] at kh
  clear P1 hS hp hr hq hy HQ
  cases q with
  | true =>
    clear kh
    go_enter Try.func104, Try.ntmps104
    go_wp2_with fail
    go_ret
    exact ⟨rfl, HB1.out⟩
  | false =>
    go_enter Try.func104, Try.ntmps104
    go_wp2_with fail
    (with_reducible refine kh.mono ?_)
    rintro e9 w2 ⟨rfl, hb⟩
    have HB2 := Lib.hid (HB1.out.trans (hb.mono HB1.out.size))
    clear kh hb
    go_wp2_with fail
    go_ret
    exact ⟨rfl, HB2.out⟩
set_option maxHeartbeats 4000000 in
set_option maxRecDepth 100000 in
theorem idxA_any (l : List RtV) (pr : RtV → Bool) (w : World) (x : Option Addr) (c p : Nat) (hfew : l.length ≤ 1000000000) (hr : ∀ (i : Nat) (h : i < l.length), ∃ g, x = some ⟨g, 0, none⟩ ∧ g < w.heap.size ∧ w.rangeAt g (i * 5) (rtC l[i])) (kf : ∀ (i : Nat) (h : i < l.length) (W : World), Below w.heap.size w W → Calls Try.prog 104 #[.agg #[.string l[i].op, .string l[i].name, .int .i64 l[i].n, .int .i64 l[i].at_, .slice l[i].x l[i].l l[i].c], .pointer (some ⟨p, 0, none⟩)] W (fun e w' => e = .returned (.bool (pr l[i])) ∧ Below W.heap.size W w')) : Calls Try.prog 134 #[.slice x l.length c, .func (.func 104) #[] #[.pointer (some ⟨p, 0, none⟩)]] w (fun e w' => ∃ k : Int, e = .returned (.int .i64 k) ∧ decide (0 ≤ k) = l.any pr ∧ Below w.heap.size w w') := by
  have HSE := Lib.hid size_eS
  have HR := Lib.hid hr
  have KF := Lib.hid kf
  have HFEW := Lib.hid hfew
  clear hr kf hfew
  go_enter Try.func134, Try.ntmps134
  go_wp2_with fail
  go_loopw [8] (fun v8 wr => ∃ (i : Nat), v8 = .int .i64 (i : Int) ∧ i ≤ l.length ∧ Below w.heap.size w wr ∧ (l.take i).any pr = false)
    (fun v8 _ => l.length - (intOf v8).toNat)
  case atStart => exact ⟨0, rfl, Nat.zero_le _, Below.refl _ _, rfl⟩
  case round =>
    obtain ⟨i, rfl, hi, hb, hq⟩ := hrel
    have HI := Lib.hid hi
    have HB := Lib.hid hb
    have HQ := Lib.hid hq
    clear hi hb hq
    by_cases hil : i < l.length
    · have d1 : decide ((i : Int) < (l.length : Int)) = true := by simp; omega
      have HIL := Lib.hid hil
      obtain ⟨g1, rfl, hg1, hrg⟩ := HR.out i hil
      have kk := KF.out i hil wr HB.out
      have hnx : (l.take (i + 1)).any pr = pr (l[i]'hil) := by
        rw [List.take_add_one, List.any_append, HQ.out, List.getElem?_eq_getElem hil]
        simp
      have hhit : pr (l[i]'hil) = true → l.any pr = true := fun h => List.any_eq_true.2 ⟨_, List.getElem_mem hil, h⟩
      obtain ⟨r, hr⟩ : ∃ r, r = l[i]'hil := ⟨_, rfl⟩
      rw [← hr] at hrg kk hnx hhit
      have HRG := Lib.hid (rangeAt_below hrg HB.out hg1)
      have i0 : (0 : Int) ≤ (i : Int) := by omega
      have i1 : (i : Int) < (l.length : Int) := by omega
      obtain ⟨q, hpq⟩ : ∃ q, q = pr r := ⟨_, rfl⟩
      rw [← hpq] at kk hnx hhit
      have kk : Calls Try.prog 104 #[.agg (rtC r).toArray, .pointer (some ⟨p, 0, none⟩)] wr (fun e w' => e = .returned (.bool q) ∧ Below wr.heap.size wr w') := kk
      have HNX := Lib.hid hnx
      have HHIT := Lib.hid hhit
      clear hil hrg hg1 hr hpq hnx hhit
      go_wp2_with (refine wpList_load_mid rfl 43 (.tmp 14) rfl g1 (i * 5) rfl (rtC r) _ ?_ Try.underlying43 rfl HSE.out ?_; (exact HRG.out))
      (with_reducible refine kk.mono ?_)
      rintro e9 w4 ⟨rfl, hb⟩
      have HB4 := Lib.hid (HB.out.trans (hb.mono HB.out.size))
      clear kk hb
      cases q with
      | true =>
        have HH := Lib.hid (show l.any pr = true from HHIT.out rfl)
        clear HHIT
        go_wp2_with fail
        go_ret
        exact ⟨(i : Int), rfl, by rw [HH.out]; simp, HB4.out⟩
      | false =>
        go_wp2_with fail
        refine ⟨⟨i + 1, wrap_succ (by have := HIL.out; have := HFEW.out; omega), HIL.out, HB4.out, HNX.out⟩, ?_⟩
        rw [wrap_succ (by have := HIL.out; have := HFEW.out; omega)]
        have := HIL.out
        simp [intOf]; omega
    · have d1 : decide ((i : Int) < (l.length : Int)) = false := by simp; omega
      have HQ2 := Lib.hid (show l.any pr = false by have := HQ.out; rwa [List.take_of_length_le (by omega)] at this)
      obtain rfl : i = l.length := by have := HI.out; omega
      clear hil
      go_wp2_with fail
      go_ret
      exact ⟨-1, rfl, by rw [HQ2.out]; decide, HB.out⟩
set_option maxHeartbeats 4000000 in
set_option maxRecDepth 100000 in
theorem conA_any (l : List RtV) (pr : RtV → Bool) (w : World) (x : Option Addr) (c p : Nat) (hfew : l.length ≤ 1000000000) (hr : ∀ (i : Nat) (h : i < l.length), ∃ g, x = some ⟨g, 0, none⟩ ∧ g < w.heap.size ∧ w.rangeAt g (i * 5) (rtC l[i])) (kf : ∀ (i : Nat) (h : i < l.length) (W : World), Below w.heap.size w W → Calls Try.prog 104 #[.agg #[.string l[i].op, .string l[i].name, .int .i64 l[i].n, .int .i64 l[i].at_, .slice l[i].x l[i].l l[i].c], .pointer (some ⟨p, 0, none⟩)] W (fun e w' => e = .returned (.bool (pr l[i])) ∧ Below W.heap.size W w')) : Calls Try.prog 103 #[.slice x l.length c, .func (.func 104) #[] #[.pointer (some ⟨p, 0, none⟩)]] w (fun e w' => e = .returned (.bool (l.any pr)) ∧ Below w.heap.size w w') := by
  have ki := idxA_any l pr w x c p hfew hr kf
  obtain ⟨q, hq⟩ : ∃ q, q = l.any pr := ⟨_, rfl⟩
  rw [← hq] at ki ⊢
  clear hfew hr kf hq
  go_enter Try.func103, Try.ntmps103
  go_wp2_with fail
  (with_reducible refine ki.mono ?_)
  rintro e9 w4 ⟨k, rfl, hk, hb⟩
  have HB := Lib.hid hb
  clear ki hb
  go_wp2_with fail
  go_ret
  exact ⟨rfl, HB.out⟩
mutual
theorem rts_short : ∀ (e : Ex), okE e = true → ∀ k ∈ rtsI e, k.2.length ≤ 1000000
  | .mk op nm n a kids, h, k, hk => by
    unfold rtsI at hk
    rw [okE_eq] at h
    simp only [Bool.and_eq_true] at h
    have hn : nm.data.toList.length ≤ 1000000 := by
      have h2 : okNm nm = true := h.2.1
      have : nm.size ≤ 1000000 := by simpa [okNm] using h2
      simpa using this
    split at hk
    · simp only [List.mem_cons, List.not_mem_nil, or_false] at hk
      subst hk; exact hn
    · split at hk
      · simp only [List.mem_cons, List.not_mem_nil, or_false] at hk
        subst hk; exact hn
      · split at hk
        · exact rtss_short kids h.2.2 k hk
        · simp at hk
theorem rtss_short : ∀ (l : List Ex), okEs l = true → ∀ k ∈ rtssI l, k.2.length ≤ 1000000
  | [], _, k, hk => by simp [rtssI] at hk
  | e :: r, h, k, hk => by
    unfold okEs at h
    simp only [Bool.and_eq_true] at h
    unfold rtssI at hk
    rcases List.mem_append.1 hk with hk | hk
    · exact rts_short e h.1 k hk
    · exact rtss_short r h.2 k hk
end
theorem any_key (g : List UInt8 → Bool) (rs : List RtV) (e : Ex) (h : rs.map RtV.key = rtsI e) : rs.any (fun r => lateK g r.key) = lateI g e := by
  unfold lateI
  rw [← h, List.any_map]
  rfl
theorem key_short {rs : List RtV} {e : Ex} (h : rs.map RtV.key = rtsI e) (hoe : okE e = true) (i : Nat) (hi : i < rs.length) : rs[i].name.size ≤ maxLen := by
  have h1 : rs[i].key ∈ rtsI e := by rw [← h]; exact List.mem_map_of_mem (List.getElem_mem hi)
  have h2 := rts_short e hoe _ h1
  have h3 : rs[i].name.size ≤ 1000000 := by simpa [RtV.key] using h2
  exact Nat.le_trans h3 (by decide)
set_option maxHeartbeats 4000000 in
set_option maxRecDepth 100000 in
theorem isLate_any (w : World) (b n : Nat) (g : List UInt8 → Bool) (hS : SetI w b n g) (e : Ex) (hoe : okE e = true) (hfe : fewE e = true) (ok : Nat → Prop) (x : Option Addr) (c : Nat) (hkk : KidsD ok w e x c) : Calls Try.prog 73 #[.map (some b), exV e x c] w (fun e' w' => e' = .returned (.bool (lateI g e)) ∧ Below w.heap.size w w') := by
  have HSE := Lib.hid size_eS
  have hfe := fewE_rts hfe
  have P1 := ((Fx.start w).alloc w.heap.size rfl 118 #[.map (some b)]).alloc (w.heap.size + 1) (by simp) 43 #[.string e.op, .string e.name, .int .i64 e.n, .int .i64 (e.at_ : Int), .slice x e.kids.length c]
  have hsz : ((w.alloc (.cells #[.map (some b)] 118)).alloc (.cells #[.string e.op, .string e.name, .int .i64 e.n, .int .i64 (e.at_ : Int), .slice x e.kids.length c] 43)).heap.size = w.heap.size + 1 + 1 := by simp
  have kr := roots_lt _ e (Nat.lt_succ_self _) ((w.alloc (.cells #[.map (some b)] 118)).alloc (.cells #[.string e.op, .string e.name, .int .i64 e.n, .int .i64 (e.at_ : Int), .slice x e.kids.length c] 43)) (w.heap.size + 1) (.slice none 0 0) 0 [] x c (OwnD.nil _ _ _ _) (by rw [hsz]; exact Nat.le_refl _) (by omega) (IsD.mono (fun k _ hl => by rw [hsz] at hl; omega) (IsD.below P1.below hkk))
  unfold exV GivesRo at kr
  unfold exV
  have HL := Lib.hid (P1.get 1 rfl)
  have HBX := Lib.hid (P1.get 0 rfl)
  have HB1 := Lib.hid P1.below
  have HSZ := Lib.hid hsz
  have HS := Lib.hid hS
  have HOE := Lib.hid hoe
  have HFE := Lib.hid hfe
  clear P1 hsz hS hoe hfe hkk
  go_enter Try.func73, Try.ntmps73
  go_wp2_with (refine wpList_load_row rfl 43 (.tmp 3) rfl (w.heap.size + 1) rfl 43 #[.string e.op, .string e.name, .int .i64 e.n, .int .i64 (e.at_ : Int), .slice x e.kids.length c] (0, 0) _ ?_ Try.underlying43 rfl HSE.out ?_; (exact HL.out))
  (with_reducible refine kr.mono ?_)
  rintro e9 w2 ⟨v, rs, rfl, hO, hks, hb⟩
  clear kr
  obtain ⟨xv, cv, rfl, _, _⟩ := hO.slice
  rw [Nat.zero_add, List.nil_append] at hO
  have hlen : rs.length ≤ 1000000 := by have := congrArg List.length hks; rw [List.length_map] at this; have := HFE.out; omega
  have hbx : BoxI w2 w.heap.size b := (hb.block _ (by omega)).trans HBX.out
  have hb2 : Below w.heap.size w w2 := HB1.out.trans (hb.mono (by omega))
  have kc := conA_any rs (fun r => lateK g r.key) w2 xv cv w.heap.size (by omega) (fun i hi => rt_at (hO.ends (by omega)) i hi) (fun i hi W hbW => late1_any W w.heap.size b n g (SetI.below (SetI.below HS.out hb2) hbW) (hbx.below hbW) rs[i] (key_short hks HOE.out i hi))
  rw [any_key g rs e hks] at kc
  have HB2 := Lib.hid hb2
  rw [show 0 + rs.length = rs.length from Nat.zero_add _]
  clear hO hks hb hlen hbx hb2
  go_wp2_with fail
  (with_reducible refine kc.mono ?_)
  rintro e9 w4 ⟨rfl, hb⟩
  have HB := Lib.hid (HB2.out.trans (hb.mono HB2.out.size))
  clear kc hb
  go_wp2_with fail
  go_ret
  exact ⟨rfl, HB.out⟩
end Go.Proofs.Ythlhogfebicooaa

namespace Go.Proofs.Ythlhogfebicooaa
open Go Go.RowKit
/-- An equation that was added, as it stands in its row: its expression's kids lie where they lay. -/
structure QrV where
  q : Qe
  x : Option Addr
  c : Nat
def qrC (r : QrV) : List Value := [.string r.q.name, .string r.q.e.op, .string r.q.e.name, .int .i64 r.q.e.n, .int .i64 (r.q.e.at_ : Int), .slice r.x r.q.e.kids.length r.c, .int .i64 (r.q.at_ : Int)]
def qrD (r : QrV) : List Dt := [.v (.string r.q.name), .v (.string r.q.e.op), .v (.string r.q.e.name), .v (.int .i64 r.q.e.n), .v (.int .i64 (r.q.e.at_ : Int)), .v (.slice r.x r.q.e.kids.length r.c), .v (.int .i64 (r.q.at_ : Int))]
def qrsD (l : List QrV) : List Dt := l.flatMap qrD
theorem qrsD_app (a b : List QrV) : qrsD (a ++ b) = qrsD a ++ qrsD b := by simp [qrsD]
theorem qr_plain (l : List QrV) : ∀ d ∈ qrsD l, ∃ x, d = .v x := fun d hd => by
  simp only [qrsD, List.mem_flatMap, qrD, List.mem_cons, List.not_mem_nil, or_false] at hd
  obtain ⟨r, _, h⟩ := hd
  rcases h with rfl | rfl | rfl | rfl | rfl | rfl | rfl <;> exact ⟨_, rfl⟩
theorem qr_ones (l : List QrV) : ∀ d ∈ qrsD l, d.one := fun d hd => by
  simp only [qrsD, List.mem_flatMap, qrD, List.mem_cons, List.not_mem_nil, or_false] at hd
  obtain ⟨r, _, h⟩ := hd
  rcases h with rfl | rfl | rfl | rfl | rfl | rfl | rfl <;> exact rfl
theorem RowsD.qr {ok : Nat → Prop} {w : World} {xs : List Value} {v : QrV} (h : RowsD ok w xs (qrD v)) : xs = qrC v := by
  match xs, h with
  | [a, b, c, d, e, f, g], ⟨h1, h2, h3, h4, h5, h6, h7, _⟩ =>
    unfold IsD at h1 h2 h3 h4 h5 h6 h7
    rw [h1, h2, h3, h4, h5, h6, h7]; rfl
theorem qr_at {ok : Nat → Prop} {w : World} {l : List QrV} {x : Option Addr} {c : Nat} (h : IsD ok w (.slice x l.length c) (.sl l.length (qrsD l))) (i : Nat) (hi : i < l.length) : ∃ g, x = some ⟨g, 0, none⟩ ∧ g < w.heap.size ∧ w.rangeAt g (i * 7) (qrC l[i]) := by
  obtain ⟨g, e1, _, e3, e4⟩ := IsD.some_ h (by omega)
  have h5 := IsDs.nth (f := qrD) (sz := 7) (fun _ => rfl) l i 0 hi e4
  rw [Nat.zero_add] at h5
  obtain ⟨xs, h7, h6⟩ := h5.rows
  have e := h7.qr
  subst e
  exact ⟨g, e1, e3, h6⟩
theorem sl_oneQ (a b d : ByteArray) (k p t : Int) (x : Option Addr) (l c : Nat) (W : World) : (Instr.buildSlice 47 1 #[(0, .agg #[.string a, .string b, .string d, .int .i64 k, .int .i64 p, .slice x l c, .int .i64 t])]).run Try.prog W = .ok (.slice (some ⟨W.heap.size, 0, none⟩) 1 1) (W.alloc (.cells #[.string a, .string b, .string d, .int .i64 k, .int .i64 p, .slice x l c, .int .i64 t] 45)) := by kernel_rfl
theorem defL_skip {k : List UInt8 → Bool} {q : Qe} {r : List Qe} (h : k q.name.data.toList = true) : defL k (q :: r) = defL k r := by
  conv => lhs; unfold defL
  rw [if_pos h]
theorem defL_take {k : List UInt8 → Bool} {q : Qe} {r : List Qe} (h : k q.name.data.toList = false) : defL k (q :: r) = q :: defL (addI k q.name) r := by
  conv => lhs; unfold defL
  rw [if_neg (by rw [h]; decide)]
  rfl
theorem offI {bl : List (Nat × TypeId × Array Value)} {b0 k : Nat} {T : TypeId} {cs : Array Value} (h : bl = [(b0, T, cs)]) (hk : k ≠ b0) : ∀ x ∈ bl, k ≠ x.1 := fun x hx => by
  subst h
  simp only [List.mem_cons, List.not_mem_nil, or_false] at hx
  subst hx
  exact hk
theorem any_add (l : List Vr) (v : Vr) : addI (fun s => l.any (fun u => u.name.data.toList == s)) v.name = fun s => (l ++ [v]).any (fun u => u.name.data.toList == s) := by
  funext s
  unfold addI
  rw [List.any_append, Bool.or_comm]
  simp [Bool.beq_comm]
def GivesDf (n : Nd) (ok : Nat → Prop) (w : World) (e : Ending) (w' : World) : Prop := ∃ x c rows, e = .returned (.slice x rows.length c) ∧ OwnD 45 7 w' (w.heap.size + 1) (.slice x rows.length c) rows.length (qrsD rows) ∧ rows.length ≤ 10000 ∧ rows.map QrV.q = defsI n ∧ (∀ r ∈ rows, KidsD (fun k => ok k ∧ k < w.heap.size) w' r.q.e r.x r.c) ∧ Below w.heap.size w w'
set_option maxHeartbeats 4000000 in
set_option maxRecDepth 100000 in
theorem defining_any (n : Nd) (hon : okNd n = true) (hfq : fewQs n.eqs = true) (w : World) (ok : Nat → Prop) (xi xo xl xe : Option Addr) (ci co cl ce : Nat) (hkn : NdIn ok w n xi xo xl xe ci co cl ce) : Calls Try.prog 100 #[ndV n xi xo xl xe ci co cl ce] w (GivesDf n ok w) := by
  have HSV := Lib.hid size_vS
  have HSQ := Lib.hid size_qS
  have HIQ := Lib.hid info_qS
  have F0 := (Fx.start w).alloc w.heap.size rfl 49 #[.string n.name, .slice xi n.ins.length ci, .slice xo n.outs.length co, .slice xl n.locs.length cl, .slice xe n.eqs.length ce, .int .i64 (n.at_ : Int)]
  have hMp := SetI.made (w.alloc (.cells #[.string n.name, .slice xi n.ins.length ci, .slice xo n.outs.length co, .slice xl n.locs.length cl, .slice xe n.eqs.length ce, .int .i64 (n.at_ : Int)] 49))
  have hs1 : (w.alloc (.cells #[.string n.name, .slice xi n.ins.length ci, .slice xo n.outs.length co, .slice xl n.locs.length cl, .slice xe n.eqs.length ce, .int .i64 (n.at_ : Int)] 49)).heap.size = w.heap.size + 1 := by simp
  rw [hs1] at hMp
  have hmm : (Instr.makeMap 118 none).run Try.prog (w.alloc (.cells #[.string n.name, .slice xi n.ins.length ci, .slice xo n.outs.length co, .slice xl n.locs.length cl, .slice xe n.eqs.length ce, .int .i64 (n.at_ : Int)] 49)) = .ok (.map (some (w.heap.size + 1))) ((w.alloc (.cells #[.string n.name, .slice xi n.ins.length ci, .slice xo n.outs.length co, .slice xl n.locs.length cl, .slice xe n.eqs.length ce, .int .i64 (n.at_ : Int)] 49)).alloc (.map #[] 0)) := by
    have := run_makeMap (P := Try.prog) 118 (w.alloc (.cells #[.string n.name, .slice xi n.ins.length ci, .slice xo n.outs.length co, .slice xl n.locs.length cl, .slice xe n.eqs.length ce, .int .i64 (n.at_ : Int)] 49))
    rw [hs1] at this
    exact this
  have F1 := F0.make (.map #[] 0)
  have n1 := cell_of_row _ w.heap.size 1 _ _ _ (F1.get 0 rfl)
  have HF1 := Lib.hid F1
  have HMP := Lib.hid hMp
  have hon' := hon
  simp only [okNd, Bool.and_eq_true, decide_eq_true_eq] at hon'
  have HOI := Lib.hid hon'.2.2.1
  have HOQ := Lib.hid hon'.2.2.2.2.2
  have HKI := Lib.hid hkn.1
  have HKE := Lib.hid hkn.2.2.2
  have HLI := Lib.hid (show n.ins.length ≤ 1000000 by have := hon'.1; omega)
  have HLQ := Lib.hid (show n.eqs.length ≤ 10000 by unfold fewQs at hfq; simp only [Bool.and_eq_true, decide_eq_true_eq] at hfq; exact hfq.1)
  clear F0 F1 hMp hs1 hon hon' hfq hkn
  unfold ndV
  go_enter Try.func100, Try.ntmps100
  go_wp2_with fail
  clear n1 hmm
  go_loopw [13] (fun v13 wr => ∃ (i : Nat), v13 = .int .i64 (i : Int) ∧ i ≤ n.ins.length ∧ Fx w [(w.heap.size, 49, #[.string n.name, .slice xi n.ins.length ci, .slice xo n.outs.length co, .slice xl n.locs.length cl, .slice xe n.eqs.length ce, .int .i64 (n.at_ : Int)])] wr ∧ SetI wr (w.heap.size + 1) i (fun s => (n.ins.take i).any (fun u => u.name.data.toList == s)))
    (fun v13 _ => n.ins.length - (intOf v13).toNat)
  case atStart => exact ⟨0, rfl, Nat.zero_le _, HF1.out, HMP.out⟩
  case round =>
    clear HF1 HMP
    obtain ⟨i, rfl, hi, hF, hS⟩ := hrel
    have HI := Lib.hid hi
    have HF := Lib.hid hF
    have HS := Lib.hid hS
    clear hi hF hS
    by_cases hil : i < n.ins.length
    · have d1 : decide ((i : Int) < (n.ins.length : Int)) = true := by simp; omega
      have HIL := Lib.hid hil
      obtain ⟨g1, rfl, hg1, hrg1⟩ := var_at (IsD.below HF.out.below HKI.out) i hil
      have hov := (okVs_at HOI.out i hil).1
      have htk : n.ins.take (i + 1) = n.ins.take i ++ [n.ins[i]'hil] := by rw [List.take_add_one, List.getElem?_eq_getElem hil]; rfl
      obtain ⟨v, hv⟩ : ∃ v, v = n.ins[i]'hil := ⟨_, rfl⟩
      rw [← hv] at hrg1 hov htk
      have HRV := Lib.hid hrg1
      have HTK := Lib.hid htk
      have HAL := Lib.hid (heap_alloc_new wr (.cells #[.string ⟨#[]⟩, .int .i64 0, .string ⟨#[]⟩, .bool false, .int .i64 0] 127))
      obtain ⟨hnb, hnr⟩ := new_row wr 127 #[.string ⟨#[]⟩, .int .i64 0, .string ⟨#[]⟩, .bool false, .int .i64 0] #[.string v.name, .int .i64 (v.kind : Int), .string v.on, .bool v.not_, .int .i64 (v.at_ : Int)]
      have HF1 := Lib.hid (HF.out.call hnb)
      have HS1 := Lib.hid (SetI.below HS.out hnb)
      have c0 := cell_of_row _ wr.heap.size 0 _ _ _ hnr
      have hml : maxLen = 9223372036854775807 := rfl
      have ka := addI_any _ _ _ _ HS1.out (by have := HIL.out; have := HLI.out; omega) v.name hov
      unfold GivesAd at ka
      rw [any_add, ← HTK.out] at ka
      have i0 : (0 : Int) ≤ (i : Int) := by omega
      have i1 : (i : Int) < (n.ins.length : Int) := by omega
      clear hil hv hrg1 hnb hnr hov hg1 htk hml
      go_wp2_with (first | (refine wpList_load_mid rfl 127 (.tmp 15) rfl g1 (i * 5) rfl (vrC v) _ ?_ Try.underlying127 rfl HSV.out ?_; (exact HRV.out)) | (refine wpList_store_row rfl 127 (.tmp 5) (.tmp 16) rfl wr.heap.size #[.string v.name, .int .i64 (v.kind : Int), .string v.on, .bool v.not_, .int .i64 (v.at_ : Int)] rfl rfl 127 #[.string ⟨#[]⟩, .int .i64 0, .string ⟨#[]⟩, .bool false, .int .i64 0] ?_ HSV.out rfl (vS_one _ _ _ _ _) ?_; (exact HAL.out)))
      (with_reducible refine ka.mono ?_)
      rintro e9 w2 ⟨rfl, hS2, hg2⟩
      have HS2 := Lib.hid hS2
      have HF2 := Lib.hid (HF1.out.own hg2 (fun k hk => by
        injection hk with hk
        subst hk
        exact ⟨by omega, offI rfl (by omega)⟩))
      clear hS2 hg2 ka c0
      go_wp2_with fail
      refine ⟨⟨i + 1, wrap_succ (by have := HIL.out; have := HLI.out; omega), HIL.out, HF2.out, HS2.out⟩, ?_⟩
      rw [wrap_succ (by have := HIL.out; have := HLI.out; omega)]
      have := HIL.out
      simp [intOf]; omega
    · have d1 : decide ((i : Int) < (n.ins.length : Int)) = false := by simp; omega
      have HS2 : Hid (SetI wr (w.heap.size + 1) i (insI n)) := Lib.hid (by have := HS.out; rw [List.take_of_length_le (by omega)] at this; exact this)
      obtain rfl : i = n.ins.length := by have := HI.out; omega
      have n4 := cell_of_row _ w.heap.size 4 _ _ _ (HF.out.get 0 rfl)
      have HDF := Lib.hid (show defsI n = ([] : List QrV).map QrV.q ++ defL (insI n) (n.eqs.drop 0) from rfl)
      have hbs : w.heap.size + 1 < wr.heap.size := SetI.lt HS2.out
      have HBS := Lib.hid hbs
      clear hil HS hbs
      go_wp2_with fail
      obtain ⟨w6, rfl⟩ : ∃ w6 : World, w6 = wr := ⟨_, rfl⟩
      clear n4
      go_loopw [6, 25] (fun v6 v25 wr => ∃ (V : Value) (j m : Nat) (rows : List QrV) (g : List UInt8 → Bool), V = v6 ∧ v25 = .int .i64 (j : Int) ∧ j ≤ n.eqs.length ∧ rows.length ≤ j ∧ m ≤ n.ins.length + j ∧ Fx w [(w.heap.size, 49, #[.string n.name, .slice xi n.ins.length ci, .slice xo n.outs.length co, .slice xl n.locs.length cl, .slice xe n.eqs.length ce, .int .i64 (n.at_ : Int)])] wr ∧ SetI wr (w.heap.size + 1) m g ∧ OwnD 45 7 wr (w.heap.size + 1) V rows.length (qrsD rows) ∧ defsI n = rows.map QrV.q ++ defL g (n.eqs.drop j) ∧ (∀ r ∈ rows, KidsD (fun k => ok k ∧ k < w.heap.size) wr r.q.e r.x r.c))
        (fun _ v25 _ => n.eqs.length - (intOf v25).toNat)
      case atStart => exact ⟨_, 0, _, [], _, rfl, rfl, Nat.zero_le _, Nat.le_refl _, Nat.le_refl _, HF.out, HS2.out, OwnD.nil _ _ _ _, HDF.out, fun r hr => by simp at hr⟩
      case round =>
        clear HF HS2 HDF HI HKI HOI
        obtain ⟨V, j, m, rows, g, rfl, rfl, hj, hrl, hm, hF, hS, hO, hq, hkr⟩ := hrel
        have HJ := Lib.hid hj
        have HRL := Lib.hid hrl
        have HM := Lib.hid hm
        have HF := Lib.hid hF
        have HS := Lib.hid hS
        have HO := Lib.hid hO
        have HKR := Lib.hid hkr
        clear hj hrl hm hF hS hO hkr
        obtain ⟨xv, cv, rfl, _, _⟩ := HO.out.slice
        by_cases hjl : j < n.eqs.length
        · have d1 : decide ((j : Int) < (n.eqs.length : Int)) = true := by simp; omega
          have HJL := Lib.hid hjl
          rw [List.drop_eq_getElem_cons hjl] at hq
          obtain ⟨g1, rfl, hg1, xk, ck, hrg1, hkk⟩ := qe_at (IsD.below HF.out.below (IsD.mono (ok' := fun k => ok k ∧ k < w.heap.size) (fun k h hl => ⟨h, hl⟩) HKE.out)) j hjl
          have hoq := okQs_at HOQ.out j hjl
          obtain ⟨q, hqq⟩ : ∃ q, q = n.eqs[j]'HJL.out := ⟨_, rfl⟩
          rw [← hqq] at hrg1 hq hoq hkk
          have HRQ := Lib.hid hrg1
          have HAL := Lib.hid (heap_alloc_new wr (.cells #[.string ⟨#[]⟩, .string ⟨#[]⟩, .string ⟨#[]⟩, .int .i64 0, .int .i64 0, .slice none 0 0, .int .i64 0] 45))
          obtain ⟨hnb, hnr⟩ := new_row wr 45 #[.string ⟨#[]⟩, .string ⟨#[]⟩, .string ⟨#[]⟩, .int .i64 0, .int .i64 0, .slice none 0 0, .int .i64 0] #[.string q.name, .string q.e.op, .string q.e.name, .int .i64 q.e.n, .int .i64 (q.e.at_ : Int), .slice xk q.e.kids.length ck, .int .i64 (q.at_ : Int)]
          have F1 : Fx w [(w.heap.size, 49, #[.string n.name, .slice xi n.ins.length ci, .slice xo n.outs.length co, .slice xl n.locs.length cl, .slice (some ⟨g1, 0, none⟩) n.eqs.length ce, .int .i64 (n.at_ : Int)]), (wr.heap.size, 45, #[.string q.name, .string q.e.op, .string q.e.name, .int .i64 q.e.n, .int .i64 (q.e.at_ : Int), .slice xk q.e.kids.length ck, .int .i64 (q.at_ : Int)])] ((wr.alloc (.cells #[.string ⟨#[]⟩, .string ⟨#[]⟩, .string ⟨#[]⟩, .int .i64 0, .int .i64 0, .slice none 0 0, .int .i64 0] 45)).setRow wr.heap.size #[.string q.name, .string q.e.op, .string q.e.name, .int .i64 q.e.n, .int .i64 (q.e.at_ : Int), .slice xk q.e.kids.length ck, .int .i64 (q.at_ : Int)]) := (HF.out.alloc wr.heap.size rfl 45 #[.string ⟨#[]⟩, .string ⟨#[]⟩, .string ⟨#[]⟩, .int .i64 0, .int .i64 0, .slice none 0 0, .int .i64 0]).store 1 rfl #[.string q.name, .string q.e.op, .string q.e.name, .int .i64 q.e.n, .int .i64 (q.e.at_ : Int), .slice xk q.e.kids.length ck, .int .i64 (q.at_ : Int)]
          have HF1 := Lib.hid F1
          have HS1 := Lib.hid (SetI.below HS.out hnb)
          have HO1 := Lib.hid (HO.out.below hnb)
          have HN1 := Lib.hid hnr
          have HKR1 := Lib.hid (fun r hr => IsD.below hnb (HKR.out r hr))
          have HKK1 := Lib.hid (IsD.below hnb hkk)
          have c0 := cell_of_row _ wr.heap.size 0 _ _ _ hnr
          have hsz := okNm_le hoq.1
          have kh := hasI_any _ _ _ _ HS1.out q.name hsz
          have HSZ := Lib.hid hsz
          have HNE := Lib.hid (show w.heap.size + 1 < wr.heap.size from SetI.lt HS.out)
          have i0 : (0 : Int) ≤ (j : Int) := by omega
          have i1 : (j : Int) < (n.eqs.length : Int) := by omega
          obtain ⟨W1, hW1⟩ : ∃ W1, W1 = ((wr.alloc (.cells #[.string ⟨#[]⟩, .string ⟨#[]⟩, .string ⟨#[]⟩, .int .i64 0, .int .i64 0, .slice none 0 0, .int .i64 0] 45)).setRow wr.heap.size #[.string q.name, .string q.e.op, .string q.e.name, .int .i64 q.e.n, .int .i64 (q.e.at_ : Int), .slice xk q.e.kids.length ck, .int .i64 (q.at_ : Int)]) := ⟨_, rfl⟩
          have HW1 := Lib.hid hW1
          rw [← hW1] at HF1 HS1 HO1 HN1 HKR1 HKK1 kh
          clear hjl hqq hrg1 hg1 hkk hoq hnb hnr F1 hsz hW1
          cases hhas : g q.name.data.toList with
          | true =>
            have HQ2 := Lib.hid (show defsI n = rows.map QrV.q ++ defL g (n.eqs.drop (j + 1)) by rw [hq, defL_skip hhas])
            rw [hhas] at kh
            clear hq hhas
            go_upto_region 11 with (first | (refine wpList_load_mid rfl 45 (.tmp 27) rfl g1 (j * 7) rfl (qeC q.name q.e xk ck (q.at_ : Int)) _ ?_ Try.underlying45 rfl HSQ.out ?_; (exact HRQ.out)) | (refine wpList_store_row rfl 45 (.tmp 8) (.tmp 28) rfl wr.heap.size #[.string q.name, .string q.e.op, .string q.e.name, .int .i64 q.e.n, .int .i64 (q.e.at_ : Int), .slice xk q.e.kids.length ck, .int .i64 (q.at_ : Int)] rfl rfl 45 #[.string ⟨#[]⟩, .string ⟨#[]⟩, .string ⟨#[]⟩, .int .i64 0, .int .i64 0, .slice none 0 0, .int .i64 0] ?_ HSQ.out rfl (qS_one _ _ _ _ _ _ _ _ _) ?_; (exact HAL.out)))
            rw [← HW1.out] at c0 ⊢
            go_wp2_with fail
            (with_reducible refine kh.mono ?_)
            rintro e9 w2 ⟨rfl, hb⟩
            have HF2 := Lib.hid (Fx.first (bl := [_]) (cl := [_]) (HF1.out.call hb))
            have HS2 := Lib.hid (SetI.below HS1.out hb)
            have HO2 := Lib.hid (HO1.out.below hb)
            have HKR2 := Lib.hid (fun r hr => IsD.below hb (HKR1.out r hr))
            clear kh hb c0
            go_wp2_with fail
            refine ⟨⟨_, j + 1, m, rows, g, rfl, wrap_succ (by have := HJL.out; have := HLQ.out; omega), HJL.out, by have := HRL.out; omega, by have := HM.out; omega, HF2.out, HS2.out, HO2.out, HQ2.out, HKR2.out⟩, ?_⟩
            rw [wrap_succ (by have := HJL.out; have := HLQ.out; omega)]
            have := HJL.out
            simp [intOf]; omega
          | false =>
            have HQ2 := Lib.hid (show defsI n = (rows ++ [(⟨q, xk, ck⟩ : QrV)]).map QrV.q ++ defL (addI g q.name) (n.eqs.drop (j + 1)) by rw [hq, defL_take hhas]; simp)
            rw [hhas] at kh
            clear hq hhas
            go_upto_region 11 with (first | (refine wpList_load_mid rfl 45 (.tmp 27) rfl g1 (j * 7) rfl (qeC q.name q.e xk ck (q.at_ : Int)) _ ?_ Try.underlying45 rfl HSQ.out ?_; (exact HRQ.out)) | (refine wpList_store_row rfl 45 (.tmp 8) (.tmp 28) rfl wr.heap.size #[.string q.name, .string q.e.op, .string q.e.name, .int .i64 q.e.n, .int .i64 (q.e.at_ : Int), .slice xk q.e.kids.length ck, .int .i64 (q.at_ : Int)] rfl rfl 45 #[.string ⟨#[]⟩, .string ⟨#[]⟩, .string ⟨#[]⟩, .int .i64 0, .int .i64 0, .slice none 0 0, .int .i64 0] ?_ HSQ.out rfl (qS_one _ _ _ _ _ _ _ _ _) ?_; (exact HAL.out)))
            rw [← HW1.out] at c0 ⊢
            go_wp2_with fail
            (with_reducible refine kh.mono ?_)
            rintro e9 w2 ⟨rfl, hb⟩
            have HF2 := Lib.hid (HF1.out.call hb)
            have HS2 := Lib.hid (SetI.below HS1.out hb)
            have HO2 := Lib.hid (HO1.out.below hb)
            have HKR2 := Lib.hid (fun r hr => IsD.below hb (HKR1.out r hr))
            have HKK2 := Lib.hid (IsD.below hb HKK1.out)
            have e0 := cell_of_row _ wr.heap.size 0 _ _ _ (HF2.out.get 1 rfl)
            have hml : maxLen = 9223372036854775807 := rfl
            have ka := addI_any w2 _ _ _ HS2.out (by have := HM.out; have := HJL.out; have := HLI.out; have := HLQ.out; omega) q.name HSZ.out
            unfold GivesAd at ka
            clear kh hb c0 hml
            go_wp2_with fail
            (with_reducible refine ka.mono ?_)
            rintro e9 w3 ⟨rfl, hS3, hg3⟩
            have F3 := HF2.out.own hg3 (fun k hk => by
              injection hk with hk
              subst hk
              refine ⟨by omega, fun x hx => ?_⟩
              simp only [List.mem_cons, List.not_mem_nil, or_false] at hx
              rcases hx with rfl | rfl
              · show w.heap.size + 1 ≠ w.heap.size; omega
              · show w.heap.size + 1 ≠ wr.heap.size; have := HNE.out; omega)
            have hnk : ∀ k, some (w.heap.size + 1) = some k → ¬ (ok k ∧ k < w.heap.size) := fun k hk => by injection hk with hk; omega
            have hO3 := HO2.out.kept hg3 (fun k hk => by injection hk with hk; omega)
            have P4 := F3.call (w' := (w3.alloc (.cells #[.string q.name, .string q.e.op, .string q.e.name, .int .i64 q.e.n, .int .i64 (q.e.at_ : Int), .slice xk q.e.kids.length ck, .int .i64 (q.at_ : Int)] 45))) ((Below.refl _ _).alloc (Nat.le_refl _) _)
            have hb4 : Below w3.heap.size w3 (w3.alloc (.cells #[.string q.name, .string q.e.op, .string q.e.name, .int .i64 q.e.n, .int .i64 (q.e.at_ : Int), .slice xk q.e.kids.length ck, .int .i64 (q.at_ : Int)] 45)) := (Below.refl _ _).alloc (Nat.le_refl _) _
            have HF3 := Lib.hid F3
            have HF4 := Lib.hid P4
            have HS4 := Lib.hid (SetI.below hS3 hb4)
            have HO4 := Lib.hid (hO3.below hb4)
            have HL3 := Lib.hid (F3.get 1 rfl)
            have HKR4 := Lib.hid (fun r hr => IsD.below hb4 (IsD.grown hg3 hnk (HKR2.out r hr)))
            have HKK4 := Lib.hid (IsD.below hb4 (IsD.grown hg3 hnk HKK2.out))
            have bs := fun W => sl_oneQ q.name q.e.op q.e.name q.e.n (q.e.at_ : Int) (q.at_ : Int) xk q.e.kids.length ck W
            have HD : Hid (IsD (fun _ => True) (w3.alloc (.cells #[.string q.name, .string q.e.op, .string q.e.name, .int .i64 q.e.n, .int .i64 (q.e.at_ : Int), .slice xk q.e.kids.length ck, .int .i64 (q.at_ : Int)] 45)) (.slice (some ⟨w3.heap.size, 0, none⟩) 1 1) (.sl 1 (qrsD [(⟨q, xk, ck⟩ : QrV)]))) := Lib.hid (IsD.made 45 _ _ rfl 1 (by decide) (by decide) _ trivial ⟨by unfold IsD; rfl, by unfold IsD; rfl, by unfold IsD; rfl, by unfold IsD; rfl, by unfold IsD; rfl, by unfold IsD; rfl, by unfold IsD; rfl, trivial⟩)
            have HBW := Lib.hid (show w.heap.size + 1 + 1 ≤ (w3.alloc (.cells #[.string q.name, .string q.e.op, .string q.e.name, .int .i64 q.e.n, .int .i64 (q.e.at_ : Int), .slice xk q.e.kids.length ck, .int .i64 (q.at_ : Int)] 45)).heap.size from SetI.lt HS4.out)
            have HNI := Lib.hid (show rows.length + 1 ≤ 100000000000 by have := HRL.out; have := HJL.out; have := HLQ.out; omega)
            clear ka hS3 hg3 F3 hnk hO3 P4 hb4 e0
            go_wp2_with (first | (refine wpList_load_row rfl 45 (.tmp 8) rfl wr.heap.size rfl 45 #[.string q.name, .string q.e.op, .string q.e.name, .int .i64 q.e.n, .int .i64 (q.e.at_ : Int), .slice xk q.e.kids.length ck, .int .i64 (q.at_ : Int)] (0, 0) _ ?_ Try.underlying45 rfl HSQ.out ?_; (exact HL3.out)) | (at_builtin; refine wpList_appH rfl (.tmp 38) (.tmp 40) 47 rfl 96 Try.underlying47 HIQ.out (by decide) (by decide) rfl HO4.out HBW.out (qrsD [(⟨q, xk, ck⟩ : QrV)]) rfl HD.out rfl (qr_plain _) (qr_ones _) HNI.out ?_))
            intro v' w' hO' hg' _
            have hO5 : OwnD 45 7 w' (w.heap.size + 1) v' (rows ++ [(⟨q, xk, ck⟩ : QrV)]).length (qrsD (rows ++ [(⟨q, xk, ck⟩ : QrV)])) := by
              rw [qrsD_app, List.length_append]; exact hO'
            have hgt := HO4.out.gt
            have HF5 := Lib.hid (Fx.first (bl := [_]) (cl := [_]) HF4.out |>.own hg' (fun k hk => ⟨by have := (hgt k hk).1; omega, fun x hx => by
              have := (hgt k hk).1
              simp only [List.mem_cons, List.not_mem_nil, or_false] at hx
              subst hx
              show k ≠ w.heap.size; omega⟩))
            have HS5 := Lib.hid (SetI.kept HS4.out hg' (fun e => by have := (hgt _ e.symm).1; omega))
            have hnk : ∀ k, (Value.slice xv rows.length cv).ownBlock = some k → ¬ (ok k ∧ k < w.heap.size) := fun k hk => by have := (hgt k hk).1; omega
            have HKR5 : Hid (∀ r ∈ rows ++ [(⟨q, xk, ck⟩ : QrV)], KidsD (fun k => ok k ∧ k < w.heap.size) w' r.q.e r.x r.c) := Lib.hid (fun r hr => by
              rcases List.mem_append.1 hr with hr | hr
              · exact IsD.grown hg' hnk (HKR4.out r hr)
              · simp only [List.mem_cons, List.not_mem_nil, or_false] at hr
                subst hr
                exact IsD.grown hg' hnk HKK4.out)
            have HO5 := Lib.hid hO5
            have HRL5 := Lib.hid (show (rows ++ [(⟨q, xk, ck⟩ : QrV)]).length ≤ j + 1 by rw [List.length_append]; have := HRL.out; simp; omega)
            clear hO' hg' hO5 hgt hnk bs
            go_wp2_with fail
            refine ⟨⟨_, j + 1, m + 1, rows ++ [(⟨q, xk, ck⟩ : QrV)], addI g q.name, rfl, wrap_succ (by have := HJL.out; have := HLQ.out; omega), HJL.out, HRL5.out, by have := HM.out; omega, HF5.out, HS5.out, HO5.out, HQ2.out, HKR5.out⟩, ?_⟩
            rw [wrap_succ (by have := HJL.out; have := HLQ.out; omega)]
            have := HJL.out
            simp [intOf]; omega
        · have d1 : decide ((j : Int) < (n.eqs.length : Int)) = false := by simp; omega
          have HQ2 := Lib.hid (show rows.map QrV.q = defsI n by rw [hq, List.drop_of_length_le (by omega)]; simp [defL])
          have HFW := Lib.hid (show rows.length ≤ 10000 by have := HRL.out; have := HJ.out; have := HLQ.out; omega)
          obtain rfl : j = n.eqs.length := by have := HJ.out; omega
          clear hjl hq
          go_wp2_with fail
          go_ret
          exact ⟨xv, cv, rows, rfl, HO.out, HFW.out, HQ2.out, HKR.out, HF.out.below⟩
end Go.Proofs.Ythlhogfebicooaa

namespace Go.Proofs.Ythlhogfebicooaa
open Go Go.RowKit
section
variable {P : Program} {Q : Exit → Act → World → Prop} {md : Region.Mode} {lo l : List Oper} {Sp : Nat → Value → World → Prop} {Rel : World → World → Prop} {R : Nat → World → World → Prop} {F : Nat → World → Prop} {w0 : World} {a0 : Act}
/-- What an operation finds. -/
structure PreM (md : Region.Mode) (lo l : List Oper) (Sp : Nat → Value → World → Prop) (Rel : World → World → Prop) (w0 : World) (a0 : Act) (o : Oper) (a : Act) (W : World) : Prop where
  rel : Rel w0 W
  old : ∀ j, (lo.all fun x => !(x.dst == some j)) = true → a.tmps.getD j undef = a0.tmps.getD j undef
  pre : ∀ e ∈ o.after.toList, Region.binds md e = true → ∀ x, l[e.on]? = some x → ∀ d, x.dst = some d → d < a.tmps.size ∧ Sp e.on (a.tmps.getD d undef) W
theorem PreM.on_ {o : Oper} {a : Act} {W : World} (h : PreM md lo l Sp Rel w0 a0 o a W) (n : Nat) {x : Oper} {d : Tmp} (he : (o.after.toList.any fun e => e.on == n && Region.binds md e) = true) (hx : l[n]? = some x) (hd : x.dst = some d) :
    d < a.tmps.size ∧ Sp n (a.tmps.getD d undef) W := by
  obtain ⟨e, he1, he2⟩ := List.any_eq_true.1 he
  rw [Bool.and_eq_true, beq_iff_eq] at he2
  obtain ⟨rfl, h2⟩ := he2
  exact h.pre e he1 h2 x hx d hd
def StepM (P : Program) (md : Region.Mode) (Q : Exit → Act → World → Prop) (lo l : List Oper) (Sp : Nat → Value → World → Prop) (Rel : World → World → Prop) (R : Nat → World → World → Prop) (F : Nat → World → Prop) (w0 : World) (a0 : Act) (i : Nat) (o : Oper) : Prop :=
  ∀ (a : Act) (W : World), PreM md lo l Sp Rel w0 a0 o a W → F i W → wpOp P l.toArray Q i (fun a' W' => ∃ v, a' = a.put o.dst v ∧ Sp i v W' ∧ R i W W') a W
def StepsM (P : Program) (md : Region.Mode) (Q : Exit → Act → World → Prop) (lo l : List Oper) (Sp : Nat → Value → World → Prop) (Rel : World → World → Prop) (R : Nat → World → World → Prop) (F : Nat → World → Prop) (w0 : World) (a0 : Act) : Nat → List Oper → Prop
  | _, [] => True
  | i, o :: r => StepM P md Q lo l Sp Rel R F w0 a0 i o ∧ StepsM P md Q lo l Sp Rel R F w0 a0 (i + 1) r
theorem StepsM.cons {i : Nat} {o : Oper} {r : List Oper} (h : StepM P md Q lo l Sp Rel R F w0 a0 i o) (hr : StepsM P md Q lo l Sp Rel R F w0 a0 (i + 1) r) : StepsM P md Q lo l Sp Rel R F w0 a0 i (o :: r) := ⟨h, hr⟩
theorem StepsM.nil {i : Nat} : StepsM P md Q lo l Sp Rel R F w0 a0 i [] := trivial
theorem StepsM.at_ : ∀ (r : List Oper) (i : Nat), StepsM P md Q lo l Sp Rel R F w0 a0 i r → ∀ (k : Nat) (o : Oper), r[k]? = some o → StepM P md Q lo l Sp Rel R F w0 a0 (i + k) o
  | [], _, _, k, o, h => by simp at h
  | x :: r, i, hs, 0, o, h => by
    simp only [List.getElem?_cons_zero, Option.some.injEq] at h
    subst h
    exact hs.1
  | x :: r, i, hs, k + 1, o, h => by
    have := StepsM.at_ r (i + 1) hs.2 k o (by simpa using h)
    rwa [show i + 1 + k = i + (k + 1) by omega] at this
structure InvM (lo l : List Oper) (Sp : Nat → Value → World → Prop) (Rel : World → World → Prop) (R : Nat → World → World → Prop) (F : Nat → World → Prop) (w0 : World) (a0 : Act) (listed : Array Bool) (a : Act) (W : World) : Prop where
  size : listed.size = l.length
  rel : Rel w0 W
  fst : ∀ i, i < l.length → listed.getD i false = false → F i W
  defers : a.defers = a0.defers
  tmps : a.tmps.size = a0.tmps.size
  old : ∀ j, (∀ x ∈ lo, x.dst ≠ some j) → a.tmps.getD j undef = a0.tmps.getD j undef
  new : ∀ i x d, l[i]? = some x → listed.getD i false = true → x.dst = some d → Sp i (a.tmps.getD d undef) W
theorem InvM.step (hRt : ∀ a b c, Rel a b → Rel b c → Rel a c) (hRR : ∀ i W W', R i W W' → Rel W W') (hF : ∀ i j W W', j ≠ i → F j W → R i W W' → F j W')
    (hst : ∀ i j v W W', j ≠ i → Sp j v W → R i W W' → Sp j v W') (h1 : single l = true) (h2 : within l a0.tmps.size = true)
    {listed : Array Bool} {a : Act} {W : World} (h : InvM lo l Sp Rel R F w0 a0 listed a W) {i : Nat} {o : Oper} (hi : l[i]? = some o) (hlo : o ∈ lo) (hun : listed.getD i false = false) {v : Value} {W' : World} (hv : Sp i v W') (hr : R i W W') :
    InvM lo l Sp Rel R F w0 a0 (listed.setIfInBounds i true) (a.put o.dst v) W' := by
  have hil : i < l.length := (List.getElem?_eq_some_iff.1 hi).1
  refine ⟨by simpa using h.size, hRt _ _ _ h.rel (hRR _ _ _ hr), fun k hkl hk => ?_, put_defers.trans h.defers, put_size.trans h.tmps, fun j hj => ?_, fun k x d hk hl hd => ?_⟩
  · by_cases e : i = k
    · subst e
      have hlt : i < listed.size := by rw [h.size]; exact hil
      simp [Array.getD, hlt] at hk
    · rw [getD_set_ne _ e] at hk
      exact hF i k _ _ (Ne.symm e) (h.fst k hkl hk) hr
  · rw [put_other (hj o hlo), h.old j hj]
  · by_cases hki : k = i
    · subst hki
      rw [hi] at hk
      injection hk with hk
      subst hk
      rw [hd, put_same (by rw [h.tmps]; exact within_spec h2 (List.mem_of_getElem? hi) hd)]
      exact hv
    · rw [put_other (fun e => hki (single_spec h1 hk hi hd e))]
      rw [getD_set_ne _ (Ne.symm hki)] at hl
      exact hst i k _ _ _ hki (h.new k x d hk hl hd) hr
theorem wpAny_stepsM_then (hRt : ∀ a b c, Rel a b → Rel b c → Rel a c) (hRR : ∀ i W W', R i W W' → Rel W W') (hF : ∀ i j W W', j ≠ i → F j W → R i W W' → F j W')
    (hst : ∀ i j v W W', j ≠ i → Sp j v W → R i W W' → Sp j v W') (h1 : single l = true) (h2 : within l a0.tmps.size = true) (h3 : aheadOps md l = true) (h4 : covers md l = true) (l0 : List Oper) (o0 : Oper) (hl : l = l0 ++ [o0]) (hs : StepsM P md Q l0 l Sp Rel R F w0 a0 0 l0)
    (hlast : ∀ a W, InvM l0 l Sp Rel R F w0 a0 ((Array.replicate l.length true).setIfInBounds l0.length false) a W → wpOp P l.toArray Q l0.length (fun a' W' => Q .normal a' W') a W) :
    ∀ (fuel : Nat) (listed : Array Bool) (a : Act) (W : World), InvM l0 l Sp Rel R F w0 a0 listed a W → listed.getD l0.length true = false →
      (∀ i, listed.getD i false = true → ∀ o, l[i]? = some o → ∀ e ∈ o.after.toList, Region.binds md e = true → listed.getD e.on false = true) → listed.toList.count false ≤ fuel → wpAny P md l.toArray Q fuel listed a W := by
  have hlen : l.length = l0.length + 1 := by rw [hl]; simp
  have hol : l[l0.length]? = some o0 := by rw [hl]; simp
  -- there is always one that may come up
  have some_ready : ∀ (listed : Array Bool), listed.size = l.length → listed.getD l0.length true = false → Region.ready md l.toArray listed ≠ [] := by
    intro listed hsz hlast0 hr
    have all : ∀ n i, i < n → i < l.length → listed.getD i false = true := by
      intro n
      induction n with
      | zero => intro i hi; omega
      | succ n ih =>
        intro i hi hil
        by_cases hin : i < n
        · exact ih i hin hil
        · cases hb : listed.getD i false with
          | true => rfl
          | false =>
            have hlt : i < listed.size := by omega
            have hmem : i ∈ Region.ready md l.toArray listed := by
              rw [mem_ready]
              refine ⟨by simpa [Array.getD, hlt] using hb, l[i], by simp [hil], fun e he hbe => ?_⟩
              have hlt' := aheadOps_spec h3 (i := i) (o := l[i]) (by simp [hil]) (Array.mem_toList_iff.2 he) hbe
              exact ih e.on (by omega) (by omega)
            rw [hr] at hmem
            cases hmem
    have hlt : l0.length < listed.size := by omega
    have := all (l0.length + 1) l0.length (Nat.lt_succ_self _) (by omega)
    simp [Array.getD, hlt] at this hlast0
    rw [this] at hlast0
    cases hlast0
  intro fuel
  induction fuel with
  | zero =>
    intro listed a W hI hlast0 _ hc
    exfalso
    have hlt : l0.length < listed.size := by rw [hI.size]; omega
    have hv : listed[l0.length] = false := by simpa [Array.getD, hlt] using hlast0
    have hpos : 0 < listed.toList.count false := List.count_pos_iff.2 (by rw [← hv]; simp)
    omega
  | succ fuel ih =>
    intro listed a W hI hlast0 hcl hc
    refine ⟨fun hr => absurd hr (some_ready listed hI.size hlast0), fun i hi => ?_⟩
    rw [mem_ready] at hi
    obtain ⟨hf, o, ho, hpre⟩ := hi
    have hio : l[i]? = some o := by simpa using ho
    have hil : i < l.length := (List.getElem?_eq_some_iff.1 hio).1
    by_cases hi0 : i < l0.length
    · have hio0 : l0[i]? = some o := by
        rw [hl, List.getElem?_append_left hi0] at hio
        exact hio
      have hst' := StepsM.at_ l0 0 hs i o hio0
      rw [Nat.zero_add] at hst'
      have hun : listed.getD i false = false := by
        have hlt : i < listed.size := by rw [hI.size]; exact hil
        simpa [Array.getD, hlt] using hf
      refine wpOp_mono ?_ (hst' a W ⟨hI.rel, fun j hj => hI.old j (fun x hx hd => by
        have := (List.all_eq_true.1 hj) x hx
        simp [hd] at this), fun e he hb x hx d hd => ⟨by rw [hI.tmps]; exact within_spec h2 (List.mem_of_getElem? hx) hd, hI.new e.on x d hx (hpre e (Array.mem_toList_iff.1 he) hb) hd⟩⟩ (hI.fst i hil hun))
      rintro a' W' ⟨v, rfl, hv, hr⟩
      have := count_set hf
      refine ih _ _ _ (hI.step hRt hRR hF hst h1 h2 hio (List.mem_of_getElem? hio0) hun hv hr) ?_ ?_ (by omega)
      · simp only [Array.getD, Array.size_setIfInBounds]
        have hlt : l0.length < listed.size := by rw [hI.size]; omega
        simp only [hlt, dite_true]
        rw [Array.getInternal_eq_getElem, Array.getElem_setIfInBounds_ne (by assumption) (by omega)]
        simpa [Array.getD, hlt] using hlast0
      · intro j hj x hx e he hb'
        have mono : ∀ k, listed.getD k false = true → (listed.setIfInBounds i true).getD k false = true := by
          intro k hk
          by_cases hki : k = i
          · subst hki
            have hlt : k < listed.size := by rw [hI.size]; omega
            simp [Array.getD, hlt]
          · rw [getD_set_ne _ (Ne.symm hki)]
            exact hk
        by_cases hji : j = i
        · subst hji
          rw [hio] at hx
          injection hx with hx
          subst hx
          exact mono _ (hpre e (Array.mem_toList_iff.1 he) hb')
        · rw [getD_set_ne _ (Ne.symm hji)] at hj
          exact mono _ (hcl j hj x hx e he hb')
    · obtain rfl : i = l0.length := by omega
      rw [hol] at hio
      injection hio with hio
      subst hio
      have good := reaches_good md l (fun i => i = l0.length ∨ listed.getD i false = true) (fun j hj x hx e he hb => by
        rcases hj with rfl | hj
        · rw [hol] at hx
          injection hx with hx
          subst hx
          exact .inr (hpre e (Array.mem_toList_iff.1 he) hb)
        · exact .inr (hcl j hj x hx e he hb)) l.length [l.length - 1] (fun j hj => by
          rw [List.mem_singleton] at hj
          exact .inl (by omega))
      have hall : ∀ j, j < l.length → j = l0.length ∨ listed.getD j false = true := by
        intro j hj
        unfold covers at h4
        rw [List.all_eq_true] at h4
        exact good j (List.contains_iff_mem.1 (h4 j (List.mem_range.2 hj)))
      have hlisted : listed = (Array.replicate l.length true).setIfInBounds l0.length false := by
        apply Array.ext
        · simp [hI.size]
        · intro j hj1 hj2
          by_cases hj : j = l0.length
          · subst hj
            have : listed[l0.length] = false := by simpa [Array.getD, hj1] using hlast0
            simp [this]
          · rw [Array.getElem_setIfInBounds_ne (by simpa using (by rw [← hI.size]; exact hj1)) (by omega)]
            rcases hall j (by rw [← hI.size]; exact hj1) with h | h
            · exact absurd h hj
            · simpa [Array.getD, hj1] using h
      have hrep : (listed.setIfInBounds l0.length true) = Array.replicate l.length true := by
        rw [hlisted]
        apply Array.ext
        · simp
        · intro j hj1 hj2
          by_cases hj : j = l0.length
          · subst hj; simp
          · rw [Array.getElem_setIfInBounds_ne (by simpa using hj2) (by omega), Array.getElem_setIfInBounds_ne (by simpa using hj2) (by omega)]
      have hready : Region.ready md l.toArray (Array.replicate l.length true) = [] := by
        cases hr : Region.ready md l.toArray (Array.replicate l.length true) with
        | nil => rfl
        | cons j js =>
          have hj : j ∈ Region.ready md l.toArray (Array.replicate l.length true) := by rw [hr]; exact List.mem_cons_self ..
          rw [mem_ready] at hj
          have hlt : j < l.length := by
            rcases Nat.lt_or_ge j l.length with h' | h'
            · exact h'
            · have := hj.1; simp [Array.getD, Nat.not_lt.2 h'] at this
          have := hj.1
          simp [Array.getD, hlt] at this
      have hop := hlast a W (by rw [← hlisted]; exact hI)
      refine wpOp_mono ?_ hop
      intro a' W' hQ
      rw [hrep]
      cases fuel with
      | zero => exact ⟨hready, hQ⟩
      | succ f => exact ⟨fun _ => hQ, fun i hi => by rw [hready] at hi; cases hi⟩
/-- THE REGION WHOSE LAST OPERATION MAY DO WHAT IT WANTS. -/
theorem wp_region_stepsM_then {id : Nat} {a0 : Act} {w : World} (Sp : Nat → Value → World → Prop) (Rel : World → World → Prop) (R : Nat → World → World → Prop) (F : Nat → World → Prop) (hm : P.follows .mixedOrders = true)
    (hRt : ∀ a b c, Rel a b → Rel b c → Rel a c) (hRR : ∀ i W W', R i W W' → Rel W W') (hF : ∀ i j W W', j ≠ i → F j W → R i W W' → F j W') (hd : Rel w w.drew) (hF0 : ∀ i, F i w.drew)
    (hst : ∀ i j v W W', j ≠ i → Sp j v W → R i W W' → Sp j v W') (h1 : single l = true) (h2 : within l a0.tmps.size = true) (h3 : aheadOps .any l = true) (h4 : covers .any l = true) (n : Nat) (o0 : Oper) (ho0 : l[n]? = some o0) (hln : l.length = n + 1) (hs : StepsM P .any Q (l.take n) l Sp Rel R F w a0 0 (l.take n))
    (hlast : ∀ a W, InvM (l.take n) l Sp Rel R F w a0 ((Array.replicate l.length true).setIfInBounds n false) a W → wpOp P l.toArray Q n (fun a' W' => Q .normal a' W') a W) : (Code.region id l.toArray true).wp P Q a0 w := by
  obtain ⟨l0, hl0⟩ : ∃ l0, l0 = l.take n := ⟨_, rfl⟩
  rw [← hl0] at hs hlast
  have hn : l0.length = n := by rw [hl0, List.length_take]; omega
  have hl : l = l0 ++ [o0] := by
    have e0 : l[n]'(by omega) = o0 := by rw [List.getElem?_eq_getElem (by omega)] at ho0; exact Option.some.inj ho0
    conv => lhs; rw [← List.take_append_drop n l]
    rw [← hl0, List.drop_eq_getElem_cons (by omega), List.drop_of_length_le (by omega), e0]
  clear hl0 ho0 hln
  subst hn
  refine wp_region_any hm ?_
  have hlen : l.length = l0.length + 1 := by rw [hl]; simp
  have hfalse : ∀ i, (Array.replicate l.toArray.size false).getD i false = false := by
    intro i
    simp [Array.getD]
  refine wpAny_stepsM_then hRt hRR hF hst h1 h2 h3 h4 l0 o0 hl hs hlast _ _ _ _ ⟨by simp, hd, fun i _ _ => hF0 i, rfl, rfl, fun _ _ => rfl, fun i x d _ hl _ => ?_⟩ ?_ ?_ ?_
  · rw [hfalse] at hl
    cases hl
  · simp [Array.getD, hlen]
  · intro i hi
    rw [hfalse] at hi
    cases hi
  · simp
/-- An operation that yields at once. -/
theorem stepM_value {i : Nat} {o : Oper} (hi : l[i]? = some o) (h : ∀ a W, PreM md lo l Sp Rel w0 a0 o a W → F i W → Region.wanted o (yielded l.toArray a.tmps) = true ∧ ∃ v W', (execOp a.eval o).run P W = .ok (.value v) W' ∧ Sp i v W' ∧ R i W W') :
    StepM P md Q lo l Sp Rel R F w0 a0 i o := fun a W hp hF => by
  obtain ⟨hw, v, W', hr, hs, hb⟩ := h a W hp hF
  exact wpOp_value hi hw hr ⟨v, rfl, hs, hb⟩
end
end Go.Proofs.Ythlhogfebicooaa

namespace Go.Proofs.Ythlhogfebicooaa
open Go Go.RowKit
section
variable {P : Program} {W : World} {o : Oper} {ρ : Operand → Value}
end
theorem put_getD (a : Act) (s j : Nat) (v : Value) : (a.put (some s) v).tmps.getD j undef = if s = j ∧ j < a.tmps.size then v else a.tmps.getD j undef := by
  by_cases h : s = j
  · subst h
    by_cases hs : s < a.tmps.size
    · rw [put_same hs, if_pos ⟨rfl, hs⟩]
    · rw [if_neg (fun h => hs h.2)]
      simp [Act.put, Array.getD, hs]
  · rw [put_other (by intro e; injection e with e; exact h e), if_neg (fun e => h e.1)]
theorem puts_size (f : Nat → Value) : ∀ (S : List Nat) (a : Act), (S.foldl (fun x j => x.put (some j) (f j)) a).tmps.size = a.tmps.size
  | [], _ => rfl
  | s :: S, a => by rw [List.foldl_cons, puts_size f S, put_size]
theorem puts_defers (f : Nat → Value) : ∀ (S : List Nat) (a : Act), (S.foldl (fun x j => x.put (some j) (f j)) a).defers = a.defers
  | [], _ => rfl
  | s :: S, a => by rw [List.foldl_cons, puts_defers f S, put_defers]
theorem puts_getD (f : Nat → Value) (j : Nat) : ∀ (S : List Nat) (a : Act), (S.foldl (fun x j => x.put (some j) (f j)) a).tmps.getD j undef = if j ∈ S ∧ j < a.tmps.size then f j else a.tmps.getD j undef
  | [], _ => by simp
  | s :: S, a => by
    rw [List.foldl_cons, puts_getD f j S, put_size, put_getD]
    by_cases h1 : j < a.tmps.size
    · by_cases h2 : j ∈ S
      · simp [h1, h2]
      · by_cases h3 : s = j
        · subst h3
          simp [h1, h2]
        · simp [h1, h2, h3, Ne.symm h3]
    · simp [h1]
/-- The frame of slots behind a region: what stood before, and what the region wrote. -/
theorem puts_of {l : List Oper} {a0 a : Act} (htm : a.tmps.size = a0.tmps.size) (hdf : a.defers = a0.defers) (hold : ∀ j, (∀ x ∈ l, x.dst ≠ some j) → a.tmps.getD j undef = a0.tmps.getD j undef) (S : List Nat) (hS : l.filterMap (·.dst) = S) :
    ∃ f : Nat → Value, (∀ j, a.tmps.getD j undef = f j) ∧ a = S.foldl (fun x j => x.put (some j) (f j)) a0 := by
  refine ⟨fun j => a.tmps.getD j undef, fun _ => rfl, ?_⟩
  have ext : ∀ b : Act, a.tmps.size = b.tmps.size → a.defers = b.defers → (∀ j, a.tmps.getD j undef = b.tmps.getD j undef) → a = b := by
    intro b h1 h2 h3
    obtain ⟨ta, da⟩ := a
    obtain ⟨tb, db⟩ := b
    simp only at h1 h2 h3
    subst h2
    congr 1
    apply Array.ext
    · exact h1
    · intro i hi hi2
      have := h3 i
      simpa [Array.getD, hi, hi2] using this
  refine ext _ (by rw [puts_size, htm]) (by rw [puts_defers, hdf]) fun j => ?_
  rw [puts_getD]
  split
  · rfl
  · rename_i hn
    by_cases hj : j ∈ S
    · have hlt : ¬ j < a0.tmps.size := fun hlt => hn ⟨hj, hlt⟩
      simp [Array.getD, hlt, htm]
    · exact hold j fun x hx hd => hj (by rw [← hS]; exact List.mem_filterMap.2 ⟨x, hx, hd⟩)
end Go.Proofs.Ythlhogfebicooaa

namespace Go.Proofs.Ythlhogfebicooaa
open Go Go.RowKit
def TxD (l : List ByteArray) : List Dt := l.map (fun s => Dt.v (.string s))
theorem TxD_app (a b : List ByteArray) : TxD (a ++ b) = TxD a ++ TxD b := by simp [TxD]
theorem TxD_len (l : List ByteArray) : (TxD l).length = l.length * 1 := by simp [TxD]
theorem TxD_plain (l : List ByteArray) : ∀ d ∈ TxD l, ∃ x, d = .v x := fun d hd => by
  simp only [TxD, List.mem_map] at hd
  obtain ⟨k, _, rfl⟩ := hd
  exact ⟨_, rfl⟩
theorem TxD_ones (l : List ByteArray) : ∀ d ∈ TxD l, d.one := fun d hd => by
  simp only [TxD, List.mem_map] at hd
  obtain ⟨k, _, rfl⟩ := hd
  rfl
theorem OwnD.keptR {T : TypeId} {sz : Nat} {w w' : World} {b : Nat} {v : Value} {n : Nat} {ds : List Dt} {row : Option Nat} (h : OwnD T sz w b v n ds) (hp : ∀ d ∈ ds, ∃ x, d = .v x) (hg : w.grownBy w' row) (hne : v.ownBlock = none ∨ v.ownBlock ≠ row) : OwnD T sz w' b v n ds := by
  obtain ⟨xs, h1, h2⟩ := h
  exact ⟨xs, h1.kept hg hne, h2.flat _ _ hp⟩
theorem RowsD.takeN {ok : Nat → Prop} {w : World} : ∀ (n : Nat) (xs : List Value) (ds : List Dt), RowsD ok w xs ds → RowsD ok w (xs.take n) (ds.take n)
  | 0, _, _, _ => by simp only [List.take_zero]; trivial
  | _ + 1, [], [], _ => trivial
  | n + 1, _ :: xs, _ :: ds, ⟨h1, h2⟩ => ⟨h1, RowsD.takeN n xs ds h2⟩
  | _ + 1, [], _ :: _, h => h.elim
  | _ + 1, _ :: _, [], h => h.elim
/-- A row's beginning. -/
theorem OwnD.less {T : TypeId} {w : World} {b : Nat} {x : Option Addr} {n c : Nat} {ds : List Dt} (h : OwnD T 1 w b (.slice x (n + 1) c) (n + 1) ds) : OwnD T 1 w b (.slice x n c) n (ds.take n) := by
  obtain ⟨xs, h1, h2⟩ := h
  have hob : (Value.slice x n c).ownBlock = (Value.slice x (n + 1) c).ownBlock := by cases x <;> rfl
  refine ⟨xs.take n, ⟨by rw [List.length_take]; have := h1.1; omega, ?_⟩, by rw [hob]; exact h2.takeN n _ _⟩
  rcases h1.2 with ⟨e, h0⟩ | ⟨g, cap, cur, e, hbg, hg, hn, hc, hcs, ht⟩
  · omega
  · injection e with e1 e2 e3
    subst e1; subst e3
    exact .inr ⟨g, c, cur, rfl, hbg, hg, by omega, hc, hcs, by rw [← ht, List.take_take]; congr 1; omega⟩
/-- A row's cell. -/
theorem OwnD.cell {T : TypeId} {w : World} {b : Nat} {x : Option Addr} {n c : Nat} {l : List ByteArray} (h : OwnD T 1 w b (.slice x n c) n (TxD l)) (i : Nat) (hi : i < l.length) : ∃ g, x = some ⟨g, 0, none⟩ ∧ w.cell? ⟨g, i, none⟩ = some (.string l[i]) := by
  have hlen := h.len
  rw [TxD_len] at hlen
  obtain ⟨xs, h1, h2⟩ := h
  have hx : xs = l.map Value.string := by
    clear h1 hlen hi
    revert l
    induction xs with
    | nil =>
      intro l h2
      cases l with
      | nil => rfl
      | cons a r => exact h2.elim
    | cons u r ih =>
      intro l h2
      cases l with
      | nil => exact h2.elim
      | cons a r' =>
        obtain ⟨h3, h4⟩ := h2
        unfold IsD at h3
        rw [h3, ih h4]; rfl
  subst hx
  rcases h1.2 with ⟨e, h0⟩ | ⟨g, cap, cur, e, hbg, hg, hn, hc, hcs, ht⟩
  · omega
  · injection e with e1 e2 e3
    subst e1
    have := h1.cells (g := g) rfl i (.string l[i]) (by simp [hi])
    rw [Addr.add_lit] at this
    exact ⟨g, rfl, by simpa using this⟩
theorem OwnD.ne {T T' : TypeId} {sz : Nat} {w : World} {b : Nat} {v : Value} {n : Nat} {ds : List Dt} (h : OwnD T sz w b v n ds) {c : Nat} {cs : Array Value} {fr : Nat × Nat} (hc : w.heap[c]? = some (.cells cs T' fr)) (hne : T ≠ T') : ∀ k, v.ownBlock = some k → k ≠ c := fun k hk e => by
  obtain ⟨xs, h1, _⟩ := h
  obtain ⟨c', fz, h2⟩ := Lib.ownsRow_kind h1 k hk
  rw [e, hc] at h2
  injection h2 with h2
  injection h2 with _ h2 _
  exact hne h2.symm
theorem OwnD.ne2 {T T' : TypeId} {sz sz' : Nat} {w : World} {b b' : Nat} {v v' : Value} {n n' : Nat} {ds ds' : List Dt} (h : OwnD T sz w b v n ds) (h' : OwnD T' sz' w b' v' n' ds') (hne : T ≠ T') : v'.ownBlock = none ∨ v'.ownBlock ≠ v.ownBlock := by
  cases ho : v'.ownBlock with
  | none => exact .inl rfl
  | some k =>
    obtain ⟨xs, h1, _⟩ := h'
    obtain ⟨c', fz, h2⟩ := Lib.ownsRow_kind h1 k ho
    exact .inr (fun e => h.ne h2 hne k e.symm rfl)
/-- A row grown: the call's own blocks are others. -/
theorem Fx.push {w0 w w' : World} {bl : List (Nat × TypeId × Array Value)} (hF : Fx w0 bl w) {T : TypeId} {sz : Nat} {b : Nat} {v : Value} {n : Nat} {ds : List Dt} (h : OwnD T sz w b v n ds) (hb : w0.heap.size ≤ b) (hT : ∀ x ∈ bl, T ≠ x.2.1) (hg : w.grownBy w' v.ownBlock) : Fx w0 bl w' :=
  hF.own hg (fun k hk => ⟨by have := (h.gt k hk).1; omega, fun x hx => h.ne (hF.blk x hx).1 (hT x hx) k hk⟩)
theorem range_of_row {w : World} {b : Nat} {cs : Array Value} {T : TypeId} {fr : Nat × Nat} (h : w.heap[b]? = some (.cells cs T fr)) (off : Nat) (vs : List Value) (hv : ∀ j v, vs[j]? = some v → cs[off + j]? = some v) : w.rangeAt b off vs := fun j v hj => by
  rw [cell_of_row w b (off + j) _ _ _ h]
  exact hv j v hj
theorem InvM.putsI {lo l : List Oper} {Sp : Nat → Value → World → Prop} {Rel : World → World → Prop} {R : Nat → World → World → Prop} {F : Nat → World → Prop} {w0 W : World} {a0 a : Act} {listed : Array Bool} (h : InvM lo l Sp Rel R F w0 a0 listed a W) (S : List Nat) (hS : lo.filterMap (·.dst) = S) :
    ∃ f : Nat → Value, (∀ j, a.tmps.getD j undef = f j) ∧ a = S.foldl (fun x j => x.put (some j) (f j)) a0 := puts_of h.tmps h.defers h.old S hS
/-- 'm[s] = v', as an operation. -/
theorem wp_mapsetI {P : Program} {o : Oper} {a : Act} {K : Act → World → Prop} {Q : Exit → Act → World → Prop} {W : World} {t k e : TypeId} (m x v : Operand) (hop : o.op = Op.mapUpdate t m x v) {b n : Nat} {f : List UInt8 → Option Value} (hm : a.eval m = .map (some b)) (s : ByteArray) (hx : a.eval x = .string s) (val : Value) (hv : a.eval v = val) (h : MapO P k W b n f) (hk : P.underlying k = some .string) (ht : P.underlying t = some (.map k e)) (hn : n < maxLen) (hs : s.size ≤ maxLen)
    (hK : ∀ W', MapO P k W' b (n + 1) (fun x => if x = s.data.toList then some val else f x) → W.grownBy W' (some b) → K (a.put o.dst undef) W') : o.wp P a W K Q := by
  obtain ⟨w', hrun, r1, r2⟩ := MapO.update h hk ht hn s hs val
  unfold Oper.wp
  simp [execOp, hop, hm, hx, hv, hrun, Result.andThen]
  exact hK w' r1 r2
/-- What the operations of 'm[s] = append(m[s], q)' yield. -/
def wSq (B : Nat) (s : ByteArray) (v : Value) (X : World) : Prop := ∃ g, v = .slice (some ⟨g, 0, none⟩) 1 1 ∧ B ≤ g ∧ X.heap[g]? = some (.cells #[.string s] 9 (0, 0))
def wAu (B bu : Nat) (A : Value) (L : List ByteArray) (v : Value) (X : World) : Prop := OwnD 9 1 X bu v L.length (TxD L) ∧ (v.ownBlock = A.ownBlock ∨ ∃ k, v.ownBlock = some k ∧ B ≤ k)
def RU (A : Value) (i : Nat) (X X' : World) : Prop := if i = 10 then X.grownBy X' A.ownBlock else Below X.heap.size X X'
def FU (B bu : Nat) (A : Value) (L : List ByteArray) (i : Nat) (X : World) : Prop := i = 10 → OwnD 9 1 X bu A L.length (TxD L) ∧ B ≤ X.heap.size
theorem RU.rel {A : Value} {i : Nat} {X X' : World} (h : RU A i X X') : X.grownBy X' A.ownBlock := by
  unfold RU at h
  split at h
  · exact h
  · exact ⟨h.os, h.tape, h.output, h.size, fun k hk _ => h.block k hk⟩
theorem RU.below {A : Value} {i : Nat} {X X' : World} (h : Below X.heap.size X X') : RU A i X X' := by
  unfold RU
  split
  · exact ⟨h.os, h.tape, h.output, h.size, fun k hk _ => h.block k hk⟩
  · exact h
theorem FU.keep {B bu : Nat} {A : Value} {L : List ByteArray} (i j : Nat) (X X' : World) (hne : j ≠ i) (h : FU B bu A L j X) (hr : RU A i X X') : FU B bu A L j X' := fun hj => by
  obtain ⟨h1, h2⟩ := h hj
  subst hj
  unfold RU at hr
  rw [if_neg (Ne.symm hne)] at hr
  exact ⟨h1.below hr, Nat.le_trans h2 hr.size⟩
theorem grown_trI {a b c : World} {r : Option Nat} (h1 : a.grownBy b r) (h2 : b.grownBy c r) : a.grownBy c r := gb_trans h1 h2
theorem info_strI : ∃ i, Try.prog.info? 9 = some i ∧ (∃ z, i.zero = some z ∧ z.cells.size = 1) ∧ i.size = 1 ∧ i.bytes = 16 := by
  have h : (Try.prog.info? 9).map (fun i => (i.zero.map (·.cells.size), i.size, i.bytes)) = some (some 1, 1, 16) := by kernel_rfl
  cases hi : Try.prog.info? 9 with
  | none => rw [hi] at h; simp at h
  | some i =>
    rw [hi] at h
    simp only [Option.map_some, Option.some.injEq, Prod.mk.injEq] at h
    obtain ⟨hz, hs, hb⟩ := h
    cases hzz : i.zero with
    | none => rw [hzz] at hz; simp at hz
    | some z => exact ⟨i, rfl, ⟨z, hzz, by rw [hzz] at hz; simpa using hz⟩, hs, hb⟩
theorem sl_oneS (s : ByteArray) (W : World) : (Instr.buildSlice 71 1 #[(0, .string s)]).run Try.prog W = .ok (.slice (some ⟨W.heap.size, 0, none⟩) 1 1) (W.alloc (.cells #[.string s] 9)) := by kernel_rfl
theorem app_oneS {o : Oper} {ρ : Operand → Value} {s x : Operand} (ho : o.op = .call { callee := .builtin .append, args := #[s, x], argTypes := #[71, 71] }) {w : World} {bu : Nat} {A : Value} {L : List ByteArray} {q : ByteArray} {B : Nat} {v : Value} (hs : ρ s = A) (hx : ρ x = v) (hA : OwnD 9 1 w bu A L.length (TxD L)) (hbw : bu + 1 ≤ w.heap.size) (hv : wSq B q v w) (hB : B ≤ w.heap.size) (hn : L.length + 1 ≤ 100000000000) :
    ∃ v' w', (execOp ρ o).run Try.prog w = .ok (.value v') w' ∧ wAu B bu A (L ++ [q]) v' w' ∧ w.grownBy w' A.ownBlock := by
  obtain ⟨i, hi, ⟨z, hz, hzs⟩, hsize, hby⟩ := info_strI
  obtain ⟨g, rfl, hg, hc⟩ := hv
  obtain ⟨v', w', hrun, h1, h2, h3⟩ := hA.append (P := Try.prog) (ok := fun _ => False) 71 o.type i z 16 Try.underlying71 hi hz hsize hby hzs (by decide) (by decide) hbw g 0 1 1 [.string q] (TxD [q]) rfl ⟨by unfold IsD; rfl, trivial⟩ (fun j u hj => by
    have hlt : j < 1 := by have := (List.getElem?_eq_some_iff.1 hj).1; simpa using this
    obtain rfl : j = 0 := by omega
    rw [cell_of_row w g 0 _ _ _ hc]
    exact hj) (TxD_ones _) (fun k hk => hk.elim) hn
  refine ⟨v', w', ?_, ⟨by rw [TxD_app, List.length_append]; exact h1, ?_⟩, h2⟩
  · simp [execOp, ho, resolve, invoke, builtin, hs, hx, hrun, Result.andThen]
  · rcases h3 with e | e
    · exact .inl e
    · exact .inr ⟨_, e, hB⟩
/-- A map of rows of names, all of the call's own, and one more row; no two of them lie in one block. -/
structure UsI (w : World) (bu m : Nat) (F : List UInt8 → Option Value) (f : List UInt8 → List ByteArray) (V : Value) (nx : List ByteArray) : Prop where
  map : MapO Try.prog 9 w bu m F
  nil : ∀ s, F s = none → f s = []
  row : ∀ s v, F s = some v → OwnD 9 1 w bu v (f s).length (TxD (f s))
  next : OwnD 9 1 w bu V nx.length (TxD nx)
  apart : ∀ s v k, F s = some v → v.ownBlock = some k → V.ownBlock ≠ some k
  apart2 : ∀ s s' v v' k, s ≠ s' → F s = some v → F s' = some v' → v.ownBlock = some k → v'.ownBlock ≠ some k
section
variable {w w' : World} {bu m : Nat} {F : List UInt8 → Option Value} {f : List UInt8 → List ByteArray} {V : Value} {nx : List ByteArray}
theorem UsI.made (w : World) : UsI (w.alloc (.map #[] 0)) w.heap.size 0 (fun _ => none) (fun _ => []) (.slice none 0 0) [] :=
  ⟨MapO.made _ _ w, fun _ _ => rfl, (fun _ _ h => by cases h), OwnD.nil _ _ _ _, (fun _ _ _ h => by cases h), (fun _ _ _ _ _ _ h => by cases h)⟩
/-- Behind what turns none of these. -/
theorem UsI.old {row : Option Nat} (h : UsI w bu m F f V nx) (hg : w.grownBy w' row) (hr : ∀ k, row = some k → k < bu) : UsI w' bu m F f V nx := by
  have hn : some bu ≠ row := fun e => by have := hr bu e.symm; omega
  refine ⟨h.map.kept hg hn, h.nil, fun s v hv => (h.row s v hv).kept hg (fun k hk => by have := hr k hk; omega), h.next.kept hg (fun k hk => by have := hr k hk; omega), h.apart, h.apart2⟩
theorem UsI.below (h : UsI w bu m F f V nx) (hb : Below w.heap.size w w') : UsI w' bu m F f V nx :=
  h.old (row := none) ⟨hb.os, hb.tape, hb.output, hb.size, fun k hk _ => hb.block k hk⟩ (fun k hk => by cases hk)
theorem UsI.lt (h : UsI w bu m F f V nx) : bu < w.heap.size := h.map.lt
/-- The one more row grown. -/
theorem UsI.push (h : UsI w bu m F f V nx) {V' : Value} {es : List ByteArray} (hO : OwnD 9 1 w' bu V' (nx ++ es).length (TxD (nx ++ es))) (hg : w.grownBy w' V.ownBlock) (hown : V'.ownBlock = V.ownBlock ∨ V'.ownBlock = some w.heap.size) : UsI w' bu m F f V' (nx ++ es) := by
  have hn : some bu ≠ V.ownBlock := fun e => by have := (h.next.gt bu e.symm).1; omega
  refine ⟨h.map.kept hg hn, h.nil, fun s v hv => (h.row s v hv).keptR (TxD_plain _) hg ?_, hO, fun s v k hv hk => ?_, h.apart2⟩
  · cases ho : v.ownBlock with
    | none => exact .inl rfl
    | some k => exact .inr (fun e => h.apart s v k hv ho e.symm)
  · rcases hown with e | e
    · rw [e]; exact h.apart s v k hv hk
    · rw [e]
      have := ((h.row s v hv).gt k hk).2
      intro e2
      injection e2 with e2
      omega
/-- The one more row shortened. -/
theorem UsI.pop {x : Option Addr} {n c : Nat} (h : UsI w bu m F f (.slice x (n + 1) c) nx) (hl : nx.length = n + 1) : UsI w bu m F f (.slice x n c) (nx.take n) := by
  have hob : (Value.slice x n c).ownBlock = (Value.slice x (n + 1) c).ownBlock := by cases x <;> rfl
  have h1 := h.next
  rw [hl] at h1
  have h2 := h1.less
  have e1 : (TxD nx).take n = TxD (nx.take n) := by unfold TxD; rw [List.map_take]
  have e2 : (nx.take n).length = n := by rw [List.length_take]; omega
  rw [e1] at h2
  refine ⟨h.map, h.nil, h.row, by rw [e2]; exact h2, fun s v k hv hk => ?_, h.apart2⟩
  rw [hob]; exact h.apart s v k hv hk
/-- What stands at a name. -/
def atU (F : List UInt8 → Option Value) (s : List UInt8) : Value := (F s).getD (.slice none 0 0)
theorem UsI.at_ (h : UsI w bu m F f V nx) (s : List UInt8) : OwnD 9 1 w bu (atU F s) (f s).length (TxD (f s)) := by
  unfold atU
  cases hF : F s with
  | none => rw [h.nil s hF]; exact OwnD.nil _ _ _ _
  | some v => exact h.row s v hF
def setU (F : List UInt8 → Option Value) (s : List UInt8) (v : Value) : List UInt8 → Option Value := fun x => if x = s then some v else F x
def addU (f : List UInt8 → List ByteArray) (s : List UInt8) (q : ByteArray) : List UInt8 → List ByteArray := fun x => if x = s then f s ++ [q] else f x
/-- One name more at a name: the row grown, and put back. -/
theorem UsI.put {w2 : World} (h : UsI w bu m F f V nx) (s : List UInt8) (q : ByteArray) {v' : Value} (hO : OwnD 9 1 w' bu v' (f s ++ [q]).length (TxD (f s ++ [q]))) (hg : w.grownBy w' (atU F s).ownBlock) (hown : v'.ownBlock = (atU F s).ownBlock ∨ ∃ k, v'.ownBlock = some k ∧ w.heap.size ≤ k)
    (hm : MapO Try.prog 9 w2 bu (m + 1) (setU F s v')) (hg2 : w'.grownBy w2 (some bu)) : UsI w2 bu (m + 1) (setU F s v') (addU f s q) V nx := by
  have hout : ∀ (s' : List UInt8) (v : Value), s' ≠ s → F s' = some v → ∀ k, v.ownBlock = some k → (atU F s).ownBlock ≠ some k ∧ v'.ownBlock ≠ some k := fun s' v hne hv k hk => by
    have h1 : (atU F s).ownBlock ≠ some k := by
      unfold atU
      cases hF : F s with
      | none => simp [Value.ownBlock]
      | some u => exact h.apart2 s' s v u k hne hv hF hk
    refine ⟨h1, ?_⟩
    rcases hown with e | ⟨j, e, hj⟩
    · rw [e]; exact h1
    · rw [e]
      have := ((h.row s' v hv).gt k hk).2
      intro e2
      injection e2 with e2
      omega
  have hnx : ∀ k, V.ownBlock = some k → (atU F s).ownBlock ≠ some k ∧ v'.ownBlock ≠ some k := fun k hk => by
    have h1 : (atU F s).ownBlock ≠ some k := by
      unfold atU
      cases hF : F s with
      | none => simp [Value.ownBlock]
      | some u => exact fun e => h.apart s u k hF e hk
    refine ⟨h1, ?_⟩
    rcases hown with e | ⟨j, e, hj⟩
    · rw [e]; exact h1
    · rw [e]
      have := (h.next.gt k hk).2
      intro e2
      injection e2 with e2
      omega
  have hlow : ∀ k, some bu = some k → k ≤ bu := fun k hk => by injection hk with hk; omega
  refine ⟨hm, fun x hx => ?_, fun x v hv => ?_, ?_, fun x v k hv hk => ?_, fun x x' v u k hne hv hu hk => ?_⟩
  · unfold setU at hx
    unfold addU
    by_cases e : x = s
    · rw [if_pos e] at hx; cases hx
    · rw [if_neg e] at hx ⊢
      exact h.nil x hx
  · unfold setU at hv
    unfold addU
    by_cases e : x = s
    · rw [if_pos e] at hv ⊢
      injection hv with hv
      subst hv
      exact hO.kept hg2 hlow
    · rw [if_neg e] at hv ⊢
      refine ((h.row x v hv).keptR (TxD_plain _) hg ?_).kept hg2 hlow
      cases ho : v.ownBlock with
      | none => exact .inl rfl
      | some k => exact .inr (fun e2 => (hout x v e hv k ho).1 e2.symm)
  · refine (h.next.keptR (TxD_plain _) hg ?_).kept hg2 hlow
    cases ho : V.ownBlock with
    | none => exact .inl rfl
    | some k => exact .inr (fun e2 => (hnx k ho).1 e2.symm)
  · unfold setU at hv
    by_cases e : x = s
    · rw [if_pos e] at hv
      injection hv with hv
      subst hv
      exact fun e2 => (hnx k e2).2 hk
    · rw [if_neg e] at hv
      exact h.apart x v k hv hk
  · unfold setU at hv hu
    by_cases e : x = s
    · rw [if_pos e] at hv
      injection hv with hv
      subst hv
      have e' : x' ≠ s := fun e2 => hne (e.trans e2.symm)
      rw [if_neg e'] at hu
      exact fun e2 => (hout x' u e' hu k e2).2 hk
    · rw [if_neg e] at hv
      by_cases e' : x' = s
      · rw [if_pos e'] at hu
        injection hu with hu
        subst hu
        exact (hout x v e hv k hk).2
      · rw [if_neg e'] at hu
        exact h.apart2 x x' v u k hne hv hu hk
end
end Go.Proofs.Ythlhogfebicooaa

namespace Go.Proofs.Ythlhogfebicooaa
open Go Go.RowKit
abbrev PrI := Qe × (Bool × List UInt8)
/-- What each equation's expression could be late by. -/
def prsI (D : List Qe) : List PrI := D.flatMap (fun q => (rtsI q.e).map (fun k => (q, k)))
def nxP (P : List PrI) : List ByteArray := (P.filter (fun p => p.2.1)).map (fun p => p.1.name)
def fP (P : List PrI) (s : List UInt8) : List ByteArray := (P.filter (fun p => !p.2.1 && p.2.2 == s)).map (fun p => p.1.name)
theorem nxP_pre (P : List PrI) (q : Qe) (nm : List UInt8) : nxP (P ++ [(q, (true, nm))]) = nxP P ++ [q.name] := by simp [nxP]
theorem nxP_use (P : List PrI) (q : Qe) (nm : List UInt8) : nxP (P ++ [(q, (false, nm))]) = nxP P := by simp [nxP]
theorem fP_pre (P : List PrI) (q : Qe) (nm : List UInt8) : fP (P ++ [(q, (true, nm))]) = fP P := by funext s; simp [fP]
theorem fP_use (P : List PrI) (q : Qe) (nm : List UInt8) : fP (P ++ [(q, (false, nm))]) = addU (fP P) nm q.name := by
  funext s
  unfold addU
  by_cases h : s = nm
  · subst h; simp [fP]
  · rw [if_neg h]
    have : (nm == s) = false := by simp [Ne.symm h]
    simp [fP, this]
theorem prsI_app (a b : List Qe) : prsI (a ++ b) = prsI a ++ prsI b := by simp [prsI]
theorem prsI_one (q : Qe) : prsI [q] = (rtsI q.e).map (fun k => (q, k)) := by simp [prsI]
theorem mem_prs {D : List Qe} {p : PrI} : p ∈ prsI D ↔ p.1 ∈ D ∧ p.2 ∈ rtsI p.1.e := by
  unfold prsI
  rw [List.mem_flatMap]
  constructor
  · rintro ⟨q, hq, hp⟩
    obtain ⟨k, hk, rfl⟩ := List.mem_map.1 hp
    exact ⟨hq, hk⟩
  · rintro ⟨h1, h2⟩
    exact ⟨p.1, h1, List.mem_map.2 ⟨p.2, h2, rfl⟩⟩
theorem mem_nxP {D : List Qe} {t : ByteArray} : t ∈ nxP (prsI D) ↔ ∃ q ∈ D, t = q.name ∧ ∃ nm, (true, nm) ∈ rtsI q.e := by
  unfold nxP
  simp only [List.mem_map, List.mem_filter]
  constructor
  · rintro ⟨⟨q, b, nm⟩, ⟨h1, h2⟩, rfl⟩
    obtain ⟨h3, h4⟩ := mem_prs.1 h1
    have hb : b = true := h2
    subst hb
    exact ⟨q, h3, rfl, nm, h4⟩
  · rintro ⟨q, hq, rfl, nm, h⟩
    exact ⟨(q, (true, nm)), ⟨mem_prs.2 ⟨hq, h⟩, rfl⟩, rfl⟩
theorem mem_fP {D : List Qe} {s : List UInt8} {t : ByteArray} : t ∈ fP (prsI D) s ↔ ∃ q ∈ D, t = q.name ∧ (false, s) ∈ rtsI q.e := by
  unfold fP
  simp only [List.mem_map, List.mem_filter]
  constructor
  · rintro ⟨⟨q, b, nm⟩, ⟨h1, h2⟩, rfl⟩
    obtain ⟨h3, h4⟩ := mem_prs.1 h1
    simp only [Bool.and_eq_true, Bool.not_eq_true', beq_iff_eq] at h2
    obtain ⟨hb, hn⟩ := h2
    subst hb; subst hn
    exact ⟨q, h3, rfl, h4⟩
  · rintro ⟨q, hq, rfl, h⟩
    exact ⟨(q, (false, s)), ⟨mem_prs.2 ⟨hq, h⟩, by simp⟩, rfl⟩
theorem prsI_len (D : List Qe) : (prsI D).length ≤ (D.map (fun q => ptsE q.e)).sum := by
  induction D with
  | nil => simp [prsI]
  | cons q r ih =>
    have e : prsI (q :: r) = prsI [q] ++ prsI r := prsI_app [q] r
    rw [e, prsI_one, List.length_append, List.length_map, List.map_cons, List.sum_cons]
    have := rts_pts q.e
    omega
theorem nxP_len (P : List PrI) : (nxP P).length ≤ P.length := by unfold nxP; rw [List.length_map]; exact List.length_filter_le _ _
theorem fP_len (P : List PrI) (s : List UInt8) : (fP P s).length ≤ P.length := by unfold fP; rw [List.length_map]; exact List.length_filter_le _ _
/-- What is still to come. -/
def potI (g : List UInt8 → Bool) (f : List UInt8 → List ByteArray) (D : List Qe) : Nat := (D.map (fun q => if g q.name.data.toList = true then 0 else 1 + (f q.name.data.toList).length)).sum
theorem potI_le (g : List UInt8 → Bool) (f : List UInt8 → List ByteArray) (s : ByteArray) (D : List Qe) : potI (addI g s) f D ≤ potI g f D := by
  unfold potI
  induction D with
  | nil => simp
  | cons q r ih =>
    rw [List.map_cons, List.sum_cons, List.map_cons, List.sum_cons]
    unfold addI at ih ⊢
    by_cases h : q.name.data.toList = s.data.toList
    · simp only [h, beq_self_eq_true, Bool.true_or, if_true] at ih ⊢
      omega
    · have e : (q.name.data.toList == s.data.toList) = false := beq_eq_false_iff_ne.2 h
      rw [e, Bool.false_or]
      omega
theorem potI_add (g : List UInt8 → Bool) (f : List UInt8 → List ByteArray) (s : ByteArray) (D : List Qe) (hs : ∃ q ∈ D, q.name.data.toList = s.data.toList) (hg : g s.data.toList = false) : potI (addI g s) f D + (1 + (f s.data.toList).length) ≤ potI g f D := by
  induction D with
  | nil => obtain ⟨q, hq, _⟩ := hs; simp at hq
  | cons q r ih =>
    by_cases h : q.name.data.toList = s.data.toList
    · have h1 := potI_le g f s r
      unfold potI at h1 ⊢
      rw [List.map_cons, List.sum_cons, List.map_cons, List.sum_cons, if_pos (show addI g s q.name.data.toList = true by unfold addI; rw [h]; simp), if_neg (by rw [h, hg]; decide), h]
      omega
    · have h1 := ih (by
        obtain ⟨p, hp, hn⟩ := hs
        rcases List.mem_cons.1 hp with rfl | hp
        · exact absurd hn h
        · exact ⟨p, hp, hn⟩)
      unfold potI at h1 ⊢
      rw [List.map_cons, List.sum_cons, List.map_cons, List.sum_cons]
      have e : addI g s q.name.data.toList = g q.name.data.toList := by unfold addI; rw [beq_eq_false_iff_ne.2 h, Bool.false_or]
      rw [e]
      omega
theorem potI_bound (g : List UInt8 → Bool) (f : List UInt8 → List ByteArray) (B : Nat) (hf : ∀ s, (f s).length ≤ B) : ∀ (D : List Qe), potI g f D ≤ D.length * (1 + B)
  | [] => by simp [potI]
  | q :: r => by
    have h1 := potI_bound g f B hf r
    unfold potI at h1 ⊢
    rw [List.map_cons, List.sum_cons, List.length_cons, Nat.succ_mul]
    have := hf q.name.data.toList
    split <;> omega
theorem LateP.eq_of {D : List Qe} {s : List UInt8} (h : LateP D s) : ∃ q ∈ D, q.name.data.toList = s := by
  cases h with
  | pre q hq nm hr => exact ⟨q, hq, rfl⟩
  | use q hq s' hr hs => exact ⟨q, hq, rfl⟩
/-- What holds all through the search. -/
structure SrchI (D : List Qe) (g : List UInt8 → Bool) (nx : List ByteArray) : Prop where
  sound : ∀ s, g s = true → LateP D s
  late : ∀ t ∈ nx, LateP D t.data.toList
  pres : ∀ q ∈ D, ∀ nm, (true, nm) ∈ rtsI q.e → g q.name.data.toList = true ∨ q.name ∈ nx
  uses : ∀ q ∈ D, ∀ s, (false, s) ∈ rtsI q.e → g s = true → g q.name.data.toList = true ∨ q.name ∈ nx
theorem SrchI.start (D : List Qe) : SrchI D (fun _ => false) (nxP (prsI D)) :=
  ⟨(fun s h => by cases h), (fun t ht => by
    obtain ⟨q, hq, rfl, nm, hr⟩ := mem_nxP.1 ht
    exact .pre q hq nm hr), fun q hq nm hr => .inr (mem_nxP.2 ⟨q, hq, rfl, nm, hr⟩), (fun q hq s hr h => by cases h)⟩
theorem SrchI.skip {D : List Qe} {g : List UInt8 → Bool} {nx : List ByteArray} {t : ByteArray} (h : SrchI D g (nx ++ [t])) (ht : g t.data.toList = true) : SrchI D g nx :=
  ⟨h.sound, fun u hu => h.late u (List.mem_append_left _ hu), fun q hq nm hr => by
    rcases h.pres q hq nm hr with h1 | h1
    · exact .inl h1
    · rcases List.mem_append.1 h1 with h1 | h1
      · exact .inr h1
      · simp only [List.mem_cons, List.not_mem_nil, or_false] at h1
        exact .inl (by rw [h1]; exact ht), fun q hq s hr hs => by
    rcases h.uses q hq s hr hs with h1 | h1
    · exact .inl h1
    · rcases List.mem_append.1 h1 with h1 | h1
      · exact .inr h1
      · simp only [List.mem_cons, List.not_mem_nil, or_false] at h1
        exact .inl (by rw [h1]; exact ht)⟩
theorem SrchI.step {D : List Qe} {g : List UInt8 → Bool} {nx : List ByteArray} {t : ByteArray} (h : SrchI D g (nx ++ [t])) : SrchI D (addI g t) (nx ++ fP (prsI D) t.data.toList) := by
  have hself : addI g t t.data.toList = true := by unfold addI; simp
  have hup : ∀ s, g s = true → addI g t s = true := fun s hs => by unfold addI; rw [hs, Bool.or_true]
  have hlt : LateP D t.data.toList := h.late t (List.mem_append_right _ (List.mem_singleton.2 rfl))
  refine ⟨fun s hs => ?_, fun u hu => ?_, fun q hq nm hr => ?_, fun q hq s hr hs => ?_⟩
  · unfold addI at hs
    rw [Bool.or_eq_true] at hs
    rcases hs with hs | hs
    · rw [beq_iff_eq] at hs
      rw [hs]; exact hlt
    · exact h.sound s hs
  · rcases List.mem_append.1 hu with hu | hu
    · exact h.late u (List.mem_append_left _ hu)
    · obtain ⟨q, hq, rfl, hr⟩ := mem_fP.1 hu
      exact .use q hq _ hr hlt
  · rcases h.pres q hq nm hr with h1 | h1
    · exact .inl (hup _ h1)
    · rcases List.mem_append.1 h1 with h1 | h1
      · exact .inr (List.mem_append_left _ h1)
      · simp only [List.mem_cons, List.not_mem_nil, or_false] at h1
        exact .inl (by rw [h1]; exact hself)
  · by_cases hst : s = t.data.toList
    · subst hst
      exact .inr (List.mem_append_right _ (mem_fP.2 ⟨q, hq, rfl, hr⟩))
    · have hs' : g s = true := by
        unfold addI at hs
        rw [Bool.or_eq_true] at hs
        rcases hs with hs | hs
        · exact absurd (by simpa using hs) hst
        · exact hs
      rcases h.uses q hq s hr hs' with h1 | h1
      · exact .inl (hup _ h1)
      · rcases List.mem_append.1 h1 with h1 | h1
        · exact .inr (List.mem_append_left _ h1)
        · simp only [List.mem_cons, List.not_mem_nil, or_false] at h1
          exact .inl (by rw [h1]; exact hself)
theorem SrchI.done {n : Nd} {g : List UInt8 → Bool} (h : SrchI (defsI n) g []) : g = lateB n := by
  have hc : ∀ s, LateP (defsI n) s → g s = true := fun s hs => by
    induction hs with
    | pre q hq nm hr =>
      rcases h.pres q hq nm hr with h1 | h1
      · exact h1
      · simp at h1
    | use q hq s' hr hs ih =>
      rcases h.uses q hq s' hr ih with h1 | h1
      · exact h1
      · simp at h1
  funext s
  have h1 := lateB_iff n s
  cases hg : g s with
  | true => rw [h1.2 (h.sound s hg)]
  | false =>
    cases hb : lateB n s with
    | false => rfl
    | true =>
      have := hc s (h1.1 hb)
      rw [hg] at this
      cases this
end Go.Proofs.Ythlhogfebicooaa

namespace Go.Proofs.Ythlhogfebicooaa
open Go Go.RowKit
theorem zero_sl (w : World) : (zeroValue 71).run Try.prog w = .ok (.slice none 0 0) w := by kernel_rfl
theorem size_strI : (Try.prog.info? 9).map (·.size) = some 1 := by kernel_rfl
theorem UsI.look {w : World} {bu m : Nat} {F : List UInt8 → Option Value} {f : List UInt8 → List ByteArray} {V : Value} {nx : List ByteArray} (h : UsI w bu m F f V nx) (s : ByteArray) (hs : s.size ≤ maxLen) : (Instr.lookup 174 (.map (some bu)) (.string s) false).run Try.prog w = .ok (atU F s.data.toList) w := by
  have := MapO.look h.map Try.underlying9 Try.underlying174 (zero_sl w) s hs
  rw [this]
  rfl
theorem rt_one (a b : ByteArray) (n t : Int) (x : Option Addr) (l c : Nat) : (#[.string a, .string b, .int .i64 n, .int .i64 t, .slice x l c] : Array Value).all (·.oneCell') = true := by simp [Value.oneCell']
theorem prsI_take_len (rows : List QrV) (i : Nat) : (prsI ((rows.take i).map QrV.q)).length ≤ (prsI (rows.map QrV.q)).length := by
  conv => rhs; rw [← List.take_append_drop i rows]
  rw [List.map_append, prsI_app, List.length_append]
  omega
def GivesLo (n : Nd) (w : World) (e : Ending) (w' : World) : Prop := ∃ b k, e = .returned (.map (some b)) ∧ SetI w' b k (lateB n) ∧ k ≤ 1000000000 ∧ w.heap.size ≤ b ∧ Below w.heap.size w w'
set_option maxHeartbeats 8000000 in
set_option maxRecDepth 100000 in
theorem lateOf_any (n : Nd) (hon : okNd n = true) (hfq : fewQs n.eqs = true) (w : World) (ok : Nat → Prop) (xi xo xl xe : Option Addr) (ci co cl ce : Nat) (hkn : NdIn ok w n xi xo xl xe ci co cl ce) : Calls Try.prog 69 #[ndV n xi xo xl xe ci co cl ce] w (GivesLo n w) := by
  have HSN := Lib.hid size_nS
  have HSQ := Lib.hid size_qS
  have HSE := Lib.hid size_eS
  have HIS := Lib.hid info_strI
  have F0 := (Fx.start w).alloc w.heap.size rfl 49 #[.string n.name, .slice xi n.ins.length ci, .slice xo n.outs.length co, .slice xl n.locs.length cl, .slice xe n.eqs.length ce, .int .i64 (n.at_ : Int)]
  have hs1 : (w.alloc (.cells #[.string n.name, .slice xi n.ins.length ci, .slice xo n.outs.length co, .slice xl n.locs.length cl, .slice xe n.eqs.length ce, .int .i64 (n.at_ : Int)] 49)).heap.size = w.heap.size + 1 := by simp
  have hs2 : ((w.alloc (.cells #[.string n.name, .slice xi n.ins.length ci, .slice xo n.outs.length co, .slice xl n.locs.length cl, .slice xe n.eqs.length ce, .int .i64 (n.at_ : Int)] 49)).alloc (.map #[] 0)).heap.size = w.heap.size + 1 + 1 := by simp
  have hs3 : (((w.alloc (.cells #[.string n.name, .slice xi n.ins.length ci, .slice xo n.outs.length co, .slice xl n.locs.length cl, .slice xe n.eqs.length ce, .int .i64 (n.at_ : Int)] 49)).alloc (.map #[] 0)).alloc (.map #[] 0)).heap.size = w.heap.size + 1 + 1 + 1 := by simp
  have hb2 : Below ((w.alloc (.cells #[.string n.name, .slice xi n.ins.length ci, .slice xo n.outs.length co, .slice xl n.locs.length cl, .slice xe n.eqs.length ce, .int .i64 (n.at_ : Int)] 49)).alloc (.map #[] 0)).heap.size ((w.alloc (.cells #[.string n.name, .slice xi n.ins.length ci, .slice xo n.outs.length co, .slice xl n.locs.length cl, .slice xe n.eqs.length ce, .int .i64 (n.at_ : Int)] 49)).alloc (.map #[] 0)) (((w.alloc (.cells #[.string n.name, .slice xi n.ins.length ci, .slice xo n.outs.length co, .slice xl n.locs.length cl, .slice xe n.eqs.length ce, .int .i64 (n.at_ : Int)] 49)).alloc (.map #[] 0)).alloc (.map #[] 0)) := (Below.refl _ _).alloc (Nat.le_refl _) _
  have hSM := SetI.below (SetI.made (w.alloc (.cells #[.string n.name, .slice xi n.ins.length ci, .slice xo n.outs.length co, .slice xl n.locs.length cl, .slice xe n.eqs.length ce, .int .i64 (n.at_ : Int)] 49))) hb2
  have hUM := UsI.made ((w.alloc (.cells #[.string n.name, .slice xi n.ins.length ci, .slice xo n.outs.length co, .slice xl n.locs.length cl, .slice xe n.eqs.length ce, .int .i64 (n.at_ : Int)] 49)).alloc (.map #[] 0))
  rw [hs1] at hSM
  rw [hs2] at hUM
  have hmm1 : (Instr.makeMap 118 none).run Try.prog (w.alloc (.cells #[.string n.name, .slice xi n.ins.length ci, .slice xo n.outs.length co, .slice xl n.locs.length cl, .slice xe n.eqs.length ce, .int .i64 (n.at_ : Int)] 49)) = .ok (.map (some (w.heap.size + 1))) ((w.alloc (.cells #[.string n.name, .slice xi n.ins.length ci, .slice xo n.outs.length co, .slice xl n.locs.length cl, .slice xe n.eqs.length ce, .int .i64 (n.at_ : Int)] 49)).alloc (.map #[] 0)) := by
    have := run_makeMap (P := Try.prog) 118 (w.alloc (.cells #[.string n.name, .slice xi n.ins.length ci, .slice xo n.outs.length co, .slice xl n.locs.length cl, .slice xe n.eqs.length ce, .int .i64 (n.at_ : Int)] 49))
    rw [hs1] at this
    exact this
  have hmm2 : (Instr.makeMap 174 none).run Try.prog ((w.alloc (.cells #[.string n.name, .slice xi n.ins.length ci, .slice xo n.outs.length co, .slice xl n.locs.length cl, .slice xe n.eqs.length ce, .int .i64 (n.at_ : Int)] 49)).alloc (.map #[] 0)) = .ok (.map (some (w.heap.size + 1 + 1))) (((w.alloc (.cells #[.string n.name, .slice xi n.ins.length ci, .slice xo n.outs.length co, .slice xl n.locs.length cl, .slice xe n.eqs.length ce, .int .i64 (n.at_ : Int)] 49)).alloc (.map #[] 0)).alloc (.map #[] 0)) := by
    have := run_makeMap (P := Try.prog) 174 ((w.alloc (.cells #[.string n.name, .slice xi n.ins.length ci, .slice xo n.outs.length co, .slice xl n.locs.length cl, .slice xe n.eqs.length ce, .int .i64 (n.at_ : Int)] 49)).alloc (.map #[] 0))
    rw [hs2] at this
    exact this
  have F3 : Fx w [(w.heap.size, 49, #[.string n.name, .slice xi n.ins.length ci, .slice xo n.outs.length co, .slice xl n.locs.length cl, .slice xe n.eqs.length ce, .int .i64 (n.at_ : Int)])] (((w.alloc (.cells #[.string n.name, .slice xi n.ins.length ci, .slice xo n.outs.length co, .slice xl n.locs.length cl, .slice xe n.eqs.length ce, .int .i64 (n.at_ : Int)] 49)).alloc (.map #[] 0)).alloc (.map #[] 0)) := (F0.make (.map #[] 0)).make (.map #[] 0)
  have mo : ∀ k, ok k → k < w.heap.size → (fun k => ok k ∧ k < w.heap.size) k := fun k h hl => ⟨h, hl⟩
  have kd := defining_any n hon hfq (((w.alloc (.cells #[.string n.name, .slice xi n.ins.length ci, .slice xo n.outs.length co, .slice xl n.locs.length cl, .slice xe n.eqs.length ce, .int .i64 (n.at_ : Int)] 49)).alloc (.map #[] 0)).alloc (.map #[] 0)) (fun k => ok k ∧ k < w.heap.size) xi xo xl xe ci co cl ce ⟨IsD.below F3.below (hkn.1.mono mo), IsD.below F3.below (hkn.2.1.mono mo), IsD.below F3.below (hkn.2.2.1.mono mo), IsD.below F3.below (hkn.2.2.2.mono mo)⟩
  unfold GivesDf ndV at kd
  rw [hs3] at kd
  have HL3 := Lib.hid (F3.get 0 rfl)
  have HF3 := Lib.hid F3
  have HSM := Lib.hid hSM
  have HUM := Lib.hid hUM
  have HFQ := Lib.hid hfq
  have hon' := hon
  simp only [okNd, Bool.and_eq_true, decide_eq_true_eq] at hon'
  have HOQ := Lib.hid hon'.2.2.2.2.2
  have HS3 := Lib.hid hs3
  clear F0 hs1 hs2 hs3 hb2 hSM hUM F3 mo hon hon' hfq hkn
  unfold ndV
  go_enter Try.func69, Try.ntmps69
  go_wp2_with (refine wpList_load_row rfl 49 (.tmp 1) rfl w.heap.size rfl 49 #[.string n.name, .slice xi n.ins.length ci, .slice xo n.outs.length co, .slice xl n.locs.length cl, .slice xe n.eqs.length ce, .int .i64 (n.at_ : Int)] (0, 0) _ ?_ Try.underlying49 rfl HSN.out ?_; (exact HL3.out))
  (with_reducible refine kd.mono ?_)
  rintro e9 w4 ⟨xr, cr, rows, rfl, hR, hrl, hrq, hkr, hb⟩
  have hb : Below (((w.alloc (.cells #[.string n.name, .slice xi n.ins.length ci, .slice xo n.outs.length co, .slice xl n.locs.length cl, .slice xe n.eqs.length ce, .int .i64 (n.at_ : Int)] 49)).alloc (.map #[] 0)).alloc (.map #[] 0)).heap.size (((w.alloc (.cells #[.string n.name, .slice xi n.ins.length ci, .slice xo n.outs.length co, .slice xl n.locs.length cl, .slice xe n.eqs.length ce, .int .i64 (n.at_ : Int)] 49)).alloc (.map #[] 0)).alloc (.map #[] 0)) w4 := by rw [HS3.out]; exact hb
  have HF4 := Lib.hid (HF3.out.call hb)
  have HS4 := Lib.hid (SetI.below HSM.out hb)
  have HU4 := Lib.hid (UsI.below HUM.out hb)
  have HR4 := Lib.hid hR
  have HRL := Lib.hid hrl
  have HRQ := Lib.hid hrq
  have HKR4 := Lib.hid hkr
  have HQF := Lib.hid (show ∀ r ∈ rows, fewE r.q.e = true ∧ okNm r.q.name = true ∧ okE r.q.e = true from fun r hr => by
    have h1 : r.q ∈ defsI n := by rw [← hrq]; exact List.mem_map_of_mem hr
    have h2 := defL_sub _ _ _ h1
    refine ⟨fewQs_mem HFQ.out h2, ?_⟩
    have h3 := List.all_eq_true.1 HOQ.out _ h2
    simp only [Bool.and_eq_true] at h3
    exact h3)
  have HPL := Lib.hid (show (prsI (defsI n)).length ≤ 10000 from by
    have h1 := prsI_len (defsI n)
    have h2 := defL_sum n.eqs (insI n)
    have h3 := HFQ.out
    unfold fewQs at h3
    simp only [Bool.and_eq_true, decide_eq_true_eq] at h3
    have h4 : ((defsI n).map (fun q => ptsE q.e)).sum ≤ (n.eqs.map (fun q => ptsE q.e)).sum := h2
    omega)
  clear kd hb hR hrl hrq hkr hmm1 hmm2 HF3 HSM HUM HL3
  go_wp2_with fail
  go_loopw [5, 16] (fun v5 v16 wr => ∃ (V : Value) (i m : Nat) (F : List UInt8 → Option Value), V = v5 ∧ v16 = .int .i64 (i : Int) ∧ i ≤ rows.length ∧ Fx w [(w.heap.size, 49, #[.string n.name, .slice xi n.ins.length ci, .slice xo n.outs.length co, .slice xl n.locs.length cl, .slice xe n.eqs.length ce, .int .i64 (n.at_ : Int)])] wr ∧ SetI wr (w.heap.size + 1) 0 (fun _ => false) ∧ UsI wr (w.heap.size + 1 + 1) m F (fP (prsI ((rows.take i).map QrV.q))) V (nxP (prsI ((rows.take i).map QrV.q))) ∧ m ≤ (prsI ((rows.take i).map QrV.q)).length ∧ OwnD 45 7 wr (w.heap.size + 1 + 1 + 1 + 1) (.slice xr rows.length cr) rows.length (qrsD rows) ∧ (∀ r ∈ rows, KidsD (fun k => (ok k ∧ k < w.heap.size) ∧ k < w.heap.size + 1 + 1 + 1) wr r.q.e r.x r.c))
    (fun _ v16 _ => rows.length - (intOf v16).toNat)
  case atStart => exact ⟨_, 0, 0, _, rfl, rfl, Nat.zero_le _, HF4.out, HS4.out, HU4.out, Nat.le_refl _, HR4.out, HKR4.out⟩
  case round =>
    clear HF4 HS4 HU4 HR4 HKR4
    obtain ⟨V, i, m, F, rfl, rfl, hi, hF, hS, hU, hm, hR, hkr⟩ := hrel
    have HI := Lib.hid hi
    have HF := Lib.hid hF
    have HS := Lib.hid hS
    have HU := Lib.hid hU
    have HM := Lib.hid hm
    have HR := Lib.hid hR
    have HKR := Lib.hid hkr
    clear hi hF hS hU hm hR hkr
    by_cases hil : i < rows.length
    · --
      have d1 : decide ((i : Int) < (rows.length : Int)) = true := by simp; omega
      have HIL := Lib.hid hil
      obtain ⟨g1, rfl, hg1, hrg1⟩ := qr_at (HR.out.ends (by have := HRL.out; omega)) i hil
      have hqf := HQF.out _ (List.getElem_mem hil)
      have hkk := HKR.out _ (List.getElem_mem hil)
      have hpl := prsI_take_len rows (i + 1)
      rw [HRQ.out] at hpl
      obtain ⟨⟨q, xk, ck⟩, hq⟩ : ∃ r, r = rows[i]'hil := ⟨_, rfl⟩
      rw [← hq] at hrg1 hqf hkk
      have hqf : fewE q.e = true ∧ okNm q.name = true ∧ okE q.e = true := hqf
      have hkk : KidsD (fun k => (ok k ∧ k < w.heap.size) ∧ k < w.heap.size + 1 + 1 + 1) wr q.e xk ck := hkk
      have htk : prsI ((rows.take (i + 1)).map QrV.q) = prsI ((rows.take i).map QrV.q) ++ (rtsI q.e).map (fun k => (q, k)) := by
        rw [List.take_add_one, List.getElem?_eq_getElem hil, ← hq, List.map_append, prsI_app]
        congr 1
        exact prsI_one q
      obtain ⟨P0, hP0⟩ : ∃ P0, P0 = prsI ((rows.take i).map QrV.q) := ⟨_, rfl⟩
      rw [← hP0] at htk
      have HTK := Lib.hid htk
      have HP0 := Lib.hid hP0
      have HRQ1 := Lib.hid hrg1
      have HQF1 := Lib.hid hqf
      have HPL1 := Lib.hid (show (prsI ((rows.take (i + 1)).map QrV.q)).length ≤ 10000 by have := HPL.out; omega)
      have HAL := Lib.hid (heap_alloc_new wr (.cells #[.string ⟨#[]⟩, .string ⟨#[]⟩, .string ⟨#[]⟩, .int .i64 0, .int .i64 0, .slice none 0 0, .int .i64 0] 45))
      have F1 : Fx w [(w.heap.size, 49, #[.string n.name, .slice xi n.ins.length ci, .slice xo n.outs.length co, .slice xl n.locs.length cl, .slice xe n.eqs.length ce, .int .i64 (n.at_ : Int)]), (wr.heap.size, 45, #[.string q.name, .string q.e.op, .string q.e.name, .int .i64 q.e.n, .int .i64 (q.e.at_ : Int), .slice xk q.e.kids.length ck, .int .i64 (q.at_ : Int)])] ((wr.alloc (.cells #[.string ⟨#[]⟩, .string ⟨#[]⟩, .string ⟨#[]⟩, .int .i64 0, .int .i64 0, .slice none 0 0, .int .i64 0] 45)).setRow wr.heap.size #[.string q.name, .string q.e.op, .string q.e.name, .int .i64 q.e.n, .int .i64 (q.e.at_ : Int), .slice xk q.e.kids.length ck, .int .i64 (q.at_ : Int)]) := (HF.out.alloc wr.heap.size rfl 45 #[.string ⟨#[]⟩, .string ⟨#[]⟩, .string ⟨#[]⟩, .int .i64 0, .int .i64 0, .slice none 0 0, .int .i64 0]).store 1 rfl #[.string q.name, .string q.e.op, .string q.e.name, .int .i64 q.e.n, .int .i64 (q.e.at_ : Int), .slice xk q.e.kids.length ck, .int .i64 (q.at_ : Int)]
      obtain ⟨hnb, hnr⟩ := new_row wr 45 #[.string ⟨#[]⟩, .string ⟨#[]⟩, .string ⟨#[]⟩, .int .i64 0, .int .i64 0, .slice none 0 0, .int .i64 0] #[.string q.name, .string q.e.op, .string q.e.name, .int .i64 q.e.n, .int .i64 (q.e.at_ : Int), .slice xk q.e.kids.length ck, .int .i64 (q.at_ : Int)]
      obtain ⟨w5, hw5⟩ : ∃ w5, w5 = ((wr.alloc (.cells #[.string ⟨#[]⟩, .string ⟨#[]⟩, .string ⟨#[]⟩, .int .i64 0, .int .i64 0, .slice none 0 0, .int .i64 0] 45)).setRow wr.heap.size #[.string q.name, .string q.e.op, .string q.e.name, .int .i64 q.e.n, .int .i64 (q.e.at_ : Int), .slice xk q.e.kids.length ck, .int .i64 (q.at_ : Int)]) := ⟨_, rfl⟩
      rw [← hw5] at F1 hnb hnr
      have hs5 : w5.heap.size = wr.heap.size + 1 := by rw [hw5, setRow_size]; simp
      have HW5 := Lib.hid hw5
      have HF1 := Lib.hid F1
      have HS1 := Lib.hid (SetI.below HS.out hnb)
      have HU1 := Lib.hid (UsI.below HU.out hnb)
      have HR1 := Lib.hid (HR.out.below hnb)
      have HKR1 := Lib.hid (fun r hr => IsD.below hnb (HKR.out r hr))
      have HRE : Hid (w5.rangeAt wr.heap.size 1 (exC q.e xk ck)) := Lib.hid (range_of_row hnr 1 _ (fun j v hj => by
        have hlt : j < 5 := (List.getElem?_eq_some_iff.1 hj).1
        rcases j with _ | _ | _ | _ | _ | j
        all_goals first | exact hj | omega))
      have kr : Calls Try.prog 101 #[.slice none 0 0, .agg (exC q.e xk ck).toArray] w5 (GivesRo wr.heap.size 0 [] (rtsI q.e) w5) := roots_lt _ q.e (Nat.lt_succ_self _) w5 wr.heap.size (.slice none 0 0) 0 [] xk ck (OwnD.nil _ _ _ _) (by rw [hs5]; exact Nat.le_refl _) (by have := fewE_rts hqf.1; omega) (IsD.mono (fun k _ hl => by omega) (IsD.below hnb hkk))
      unfold GivesRo at kr
      have HBO := Lib.hid (show (w.heap.size + 1 + 1) < wr.heap.size from UsI.lt HU.out)
      have HLT := Lib.hid (show wr.heap.size + 1 = w5.heap.size from hs5.symm)
      have i0 : (0 : Int) ≤ (i : Int) := by omega
      have i1 : (i : Int) < (rows.length : Int) := by omega
      clear hil hg1 hrg1 hqf hkk htk hpl hq hP0 F1 hnb hnr hs5 hw5
      go_upto_region 7 with (first | (refine wpList_load_mid rfl 45 (.tmp 18) rfl g1 (i * 7) rfl (qrC ⟨q, xk, ck⟩) _ ?_ Try.underlying45 rfl HSQ.out ?_; (exact HRQ1.out)) | (refine wpList_store_row rfl 45 (.tmp 7) (.tmp 19) rfl wr.heap.size #[.string q.name, .string q.e.op, .string q.e.name, .int .i64 q.e.n, .int .i64 (q.e.at_ : Int), .slice xk q.e.kids.length ck, .int .i64 (q.at_ : Int)] rfl rfl 45 #[.string ⟨#[]⟩, .string ⟨#[]⟩, .string ⟨#[]⟩, .int .i64 0, .int .i64 0, .slice none 0 0, .int .i64 0] ?_ HSQ.out rfl (qS_one _ _ _ _ _ _ _ _ _) ?_; (exact HAL.out)))
      rw [← HW5.out]
      go_wp2_with (refine wpList_load_mid rfl 43 (.tmp 20) rfl wr.heap.size 1 rfl (exC q.e xk ck) _ ?_ Try.underlying43 rfl HSE.out ?_; (exact HRE.out))
      (with_reducible refine kr.mono ?_)
      rintro e9 w6 ⟨v, rs, rfl, hO, hks, hb⟩
      obtain ⟨xv, cv, rfl, _, _⟩ := hO.slice
      rw [Nat.zero_add, List.nil_append] at hO
      rw [show 0 + rs.length = rs.length from Nat.zero_add _]
      have hb : Below w5.heap.size w5 w6 := by rw [← HLT.out]; exact hb
      have HF6 := Lib.hid (HF1.out.call hb)
      have HS6 := Lib.hid (SetI.below HS1.out hb)
      have HU6 := Lib.hid (UsI.below HU1.out hb)
      have HR6 := Lib.hid (HR1.out.below hb)
      have HKR6 := Lib.hid (fun r hr => IsD.below hb (HKR1.out r hr))
      have HO6 := Lib.hid hO
      have HKS := Lib.hid hks
      have HRSL := Lib.hid (show rs.length ≤ 1000000 by have h1 := congrArg List.length hks; rw [List.length_map] at h1; have := fewE_rts HQF1.out.1; omega)
      clear kr hO hks hb HLT HRE HW5 HAL
      go_wp2_with fail
      obtain ⟨wo, rfl⟩ : ∃ wo : World, wo = wr := ⟨_, rfl⟩
      go_loopw [5, 24] (fun v5 v24 wr => ∃ (V : Value) (j m : Nat) (F : List UInt8 → Option Value), V = v5 ∧ v24 = .int .i64 (j : Int) ∧ j ≤ rs.length ∧ Fx w [(w.heap.size, 49, #[.string n.name, .slice xi n.ins.length ci, .slice xo n.outs.length co, .slice xl n.locs.length cl, .slice xe n.eqs.length ce, .int .i64 (n.at_ : Int)]), (wo.heap.size, 45, #[.string q.name, .string q.e.op, .string q.e.name, .int .i64 q.e.n, .int .i64 (q.e.at_ : Int), .slice xk q.e.kids.length ck, .int .i64 (q.at_ : Int)])] wr ∧ SetI wr (w.heap.size + 1) 0 (fun _ => false) ∧ UsI wr (w.heap.size + 1 + 1) m F (fP (P0 ++ (rs.take j).map (fun r => (q, r.key)))) V (nxP (P0 ++ (rs.take j).map (fun r => (q, r.key)))) ∧ m ≤ (P0 ++ (rs.take j).map (fun r => (q, r.key))).length ∧ OwnD 45 7 wr (w.heap.size + 1 + 1 + 1 + 1) (.slice (some ⟨g1, 0, none⟩) rows.length cr) rows.length (qrsD rows) ∧ (∀ r ∈ rows, KidsD (fun k => (ok k ∧ k < w.heap.size) ∧ k < w.heap.size + 1 + 1 + 1) wr r.q.e r.x r.c) ∧ OwnD 43 5 wr wo.heap.size (.slice xv rs.length cv) rs.length (rtsD rs))
        (fun _ v24 _ => rs.length - (intOf v24).toNat)
      case atStart => exact ⟨_, 0, m, F, rfl, rfl, Nat.zero_le _, HF6.out, HS6.out, by simpa [HP0.out] using HU6.out, by simpa [HP0.out] using HM.out, HR6.out, HKR6.out, HO6.out⟩
      case round =>
        clear HF6 HS6 HU6 HR6 HKR6 HO6
        obtain ⟨V, j, m, F, rfl, rfl, hj, hF, hS, hU, hm, hR, hkr, hO⟩ := hrel
        have HJ := Lib.hid hj
        have HF := Lib.hid hF
        have HS := Lib.hid hS
        have HU := Lib.hid hU
        have HM := Lib.hid hm
        have HR := Lib.hid hR
        have HKR := Lib.hid hkr
        have HO := Lib.hid hO
        clear hj hF hS hU hm hR hkr hO
        by_cases hjl : j < rs.length
        · have d1 : decide ((j : Int) < (rs.length : Int)) = true := by simp; omega
          have HJL := Lib.hid hjl
          obtain ⟨g2, rfl, hg2, hrg2⟩ := rt_at (HO.out.ends (by have := HRSL.out; omega)) j hjl
          have hks := key_short HKS.out HQF1.out.2.2 j hjl
          have htk2 : (rs.take (j + 1)).map (fun r => (q, r.key)) = (rs.take j).map (fun r => (q, r.key)) ++ [(q, (rs[j]'hjl).key)] := by
            rw [List.take_add_one, List.getElem?_eq_getElem hjl, List.map_append]; rfl
          obtain ⟨r, hr⟩ : ∃ r, r = rs[j]'hjl := ⟨_, rfl⟩
          rw [← hr] at hrg2 hks htk2
          obtain ⟨P, hP⟩ : ∃ P, P = P0 ++ (rs.take j).map (fun r => (q, r.key)) := ⟨_, rfl⟩
          have hP1 : P0 ++ (rs.take (j + 1)).map (fun r => (q, r.key)) = P ++ [(q, r.key)] := by rw [htk2, ← List.append_assoc, ← hP]
          have hU := HU.out
          have hM := HM.out
          rw [← hP] at hU hM
          have HBR := Lib.hid (show (w.heap.size + 1 + 1) < wr.heap.size from UsI.lt hU)
          have HPJ := Lib.hid (show P.length + 1 ≤ 10000 by
            have h1 := HPL1.out
            rw [HTK.out, List.length_append, List.length_map, ← HKS.out, List.length_map] at h1
            rw [hP, List.length_append, List.length_map, List.length_take]
            omega)
          have HP1 := Lib.hid hP1
          have HM2 := Lib.hid hM
          have HRG := Lib.hid hrg2
          have HKZ := Lib.hid hks
          have HAL := Lib.hid (heap_alloc_new wr (.cells #[.string ⟨#[]⟩, .string ⟨#[]⟩, .int .i64 0, .int .i64 0, .slice none 0 0] 43))
          have F2 : Fx w [(w.heap.size, 49, #[.string n.name, .slice xi n.ins.length ci, .slice xo n.outs.length co, .slice xl n.locs.length cl, .slice xe n.eqs.length ce, .int .i64 (n.at_ : Int)]), (wo.heap.size, 45, #[.string q.name, .string q.e.op, .string q.e.name, .int .i64 q.e.n, .int .i64 (q.e.at_ : Int), .slice xk q.e.kids.length ck, .int .i64 (q.at_ : Int)]), (wr.heap.size, 43, #[.string r.op, .string r.name, .int .i64 r.n, .int .i64 r.at_, .slice r.x r.l r.c])] ((wr.alloc (.cells #[.string ⟨#[]⟩, .string ⟨#[]⟩, .int .i64 0, .int .i64 0, .slice none 0 0] 43)).setRow wr.heap.size #[.string r.op, .string r.name, .int .i64 r.n, .int .i64 r.at_, .slice r.x r.l r.c]) := (HF.out.alloc wr.heap.size rfl 43 #[.string ⟨#[]⟩, .string ⟨#[]⟩, .int .i64 0, .int .i64 0, .slice none 0 0]).store 2 rfl #[.string r.op, .string r.name, .int .i64 r.n, .int .i64 r.at_, .slice r.x r.l r.c]
          obtain ⟨hnb, hnr⟩ := new_row wr 43 #[.string ⟨#[]⟩, .string ⟨#[]⟩, .int .i64 0, .int .i64 0, .slice none 0 0] #[.string r.op, .string r.name, .int .i64 r.n, .int .i64 r.at_, .slice r.x r.l r.c]
          have c0 := cell_of_row _ wr.heap.size 0 _ _ _ hnr
          obtain ⟨w7, hw7⟩ : ∃ w7, w7 = ((wr.alloc (.cells #[.string ⟨#[]⟩, .string ⟨#[]⟩, .int .i64 0, .int .i64 0, .slice none 0 0] 43)).setRow wr.heap.size #[.string r.op, .string r.name, .int .i64 r.n, .int .i64 r.at_, .slice r.x r.l r.c]) := ⟨_, rfl⟩
          rw [← hw7] at F2 hnb hnr
          have HW7 := Lib.hid hw7
          have HF2 := Lib.hid F2
          have HS2 := Lib.hid (SetI.below HS.out hnb)
          have HU2 := Lib.hid (UsI.below hU hnb)
          have HR2 := Lib.hid (HR.out.below hnb)
          have HKR2 := Lib.hid (fun r hr => IsD.below hnb (HKR.out r hr))
          have HO2 := Lib.hid (HO.out.below hnb)
          have c7 := cell_of_row _ wo.heap.size 0 _ _ _ (F2.get 1 rfl)
          have i0 : (0 : Int) ≤ (j : Int) := by omega
          have i1 : (j : Int) < (rs.length : Int) := by omega
          have HLB := Lib.hid (show (w.heap.size + 1 + 1) + 1 ≤ w7.heap.size from UsI.lt HU2.out)
          clear hjl hg2 hrg2 hks htk2 hr hP hP1 hU hM F2 hnb hnr hw7 HF HS HU HM HR HKR HO
          cases hpre : (r.op.data.toList == [112, 114, 101]) with
          | true =>
            have hop : (r.op.toList == [112, 114, 101]) = true := by rw [Lib.toList_data]; exact hpre
            have HKEY := Lib.hid (show r.key = (true, r.name.data.toList) by unfold RtV.key PREL; rw [hpre])
            clear hpre
            obtain ⟨xn, cn, rfl, _, _⟩ := HU2.out.next.slice
            have hb8 : Below w7.heap.size w7 (w7.alloc (.cells #[.string q.name] 9)) := (Below.refl _ _).alloc (Nat.le_refl _) _
            have HF8 := Lib.hid (HF2.out.call hb8)
            have HS8 := Lib.hid (SetI.below HS2.out hb8)
            have HU8 := Lib.hid (UsI.below HU2.out hb8)
            have HR8 := Lib.hid (HR2.out.below hb8)
            have HKR8 := Lib.hid (fun r hr => IsD.below hb8 (HKR2.out r hr))
            have HO8 := Lib.hid (HO2.out.below hb8)
            have HN8 := Lib.hid HU8.out.next
            have HBW := Lib.hid (Nat.le_trans HLB.out hb8.size)
            have HD : Hid (IsD (fun _ => True) (w7.alloc (.cells #[.string q.name] 9)) (.slice (some ⟨w7.heap.size, 0, none⟩) 1 1) (.sl 1 (TxD [q.name]))) := Lib.hid (IsD.made 9 _ _ rfl 1 (by decide) (by decide) _ trivial ⟨by unfold IsD; rfl, trivial⟩)
            have bs := fun W => sl_oneS q.name W
            have HNI := Lib.hid (show (nxP P).length + 1 ≤ 100000000000 by have := nxP_len P; have := HPJ.out; omega)
            clear hb8
            go_upto_region 10 with (first | (refine wpList_load_mid rfl 43 (.tmp 26) rfl g2 (j * 5) rfl (rtC r) _ ?_ Try.underlying43 rfl HSE.out ?_; (exact HRG.out)) | (refine wpList_store_row rfl 43 (.tmp 9) (.tmp 27) rfl wr.heap.size #[.string r.op, .string r.name, .int .i64 r.n, .int .i64 r.at_, .slice r.x r.l r.c] rfl rfl 43 #[.string ⟨#[]⟩, .string ⟨#[]⟩, .int .i64 0, .int .i64 0, .slice none 0 0] ?_ HSE.out rfl (rt_one _ _ _ _ _ _ _) ?_; (exact HAL.out)))
            rw [← HW7.out] at c0 ⊢
            go_wp2_with (at_builtin; refine wpList_appH rfl (.tmp 31) (.tmp 34) 71 rfl 16 Try.underlying71 HIS.out (by decide) (by decide) rfl HN8.out HBW.out (TxD [q.name]) rfl HD.out rfl (TxD_plain _) (TxD_ones _) HNI.out ?_)
            intro v' w' hO' hg' hown
            have hO5 : OwnD 9 1 w' (w.heap.size + 1 + 1) v' (nxP P ++ [q.name]).length (TxD (nxP P ++ [q.name])) := by
              rw [TxD_app, List.length_append]; exact hO'
            have hU9 := UsI.push HU8.out hO5 hg' (by rcases hown with e | e; exact .inl e; exact .inr (by rw [e]; simp))
            rw [← fP_pre P q r.name.data.toList, ← nxP_pre P q r.name.data.toList, ← HKEY.out, ← HP1.out] at hU9
            have hgt := HN8.out.gt
            have F9 := Fx.push HF8.out HN8.out (by omega) (by intro x hx; simp only [List.mem_cons, List.not_mem_nil, or_false] at hx; rcases hx with rfl | rfl | rfl; (show 9 ≠ 49; decide); (show 9 ≠ 45; decide); (show 9 ≠ 43; decide)) hg'
            have HF9 := Lib.hid (Fx.first (bl := [_, _]) (cl := [_]) F9)
            have HS9 := Lib.hid (SetI.kept HS8.out hg' (fun e => by have := (hgt _ e.symm).1; omega))
            have HU9 := Lib.hid hU9
            have HM9 := Lib.hid (show m ≤ (P0 ++ (rs.take (j + 1)).map (fun r => (q, r.key))).length by rw [HP1.out, List.length_append]; have := HM2.out; omega)
            have HR9 := Lib.hid (HR8.out.keptR (qr_plain _) hg' (HN8.out.ne2 HR8.out (by decide)))
            have HKR9 := Lib.hid (fun r hr => IsD.grown hg' (fun k hk => by have := (hgt k hk).1; omega) (HKR8.out r hr))
            have HO9 := Lib.hid (HO8.out.keptR (rt_plain _) hg' (HN8.out.ne2 HO8.out (by decide)))
            clear hO' hg' hown hO5 hU9 hgt bs c0 c7 hop F9
            go_wp2_with fail
            refine ⟨⟨_, j + 1, m, F, rfl, wrap_succ (by have := HJL.out; have := HRSL.out; omega), HJL.out, HF9.out, HS9.out, HU9.out, HM9.out, HR9.out, HKR9.out, HO9.out⟩, ?_⟩
            rw [wrap_succ (by have := HJL.out; have := HRSL.out; omega)]
            have := HJL.out
            simp [intOf]; omega
          | false =>
            have hop : (r.op.toList == [112, 114, 101]) = false := by rw [Lib.toList_data]; exact hpre
            have HKEY := Lib.hid (show r.key = (false, r.name.data.toList) by unfold RtV.key PREL; rw [hpre])
            clear hpre
            go_upto_region 10 with (first | (refine wpList_load_mid rfl 43 (.tmp 26) rfl g2 (j * 5) rfl (rtC r) _ ?_ Try.underlying43 rfl HSE.out ?_; (exact HRG.out)) | (refine wpList_store_row rfl 43 (.tmp 9) (.tmp 27) rfl wr.heap.size #[.string r.op, .string r.name, .int .i64 r.n, .int .i64 r.at_, .slice r.x r.l r.c] rfl rfl 43 #[.string ⟨#[]⟩, .string ⟨#[]⟩, .int .i64 0, .int .i64 0, .slice none 0 0] ?_ HSE.out rfl (rt_one _ _ _ _ _ _ _) ?_; (exact HAL.out)))
            rw [← HW7.out] at c0 ⊢
            go_upto_region 12 with fail
            obtain ⟨A, hA⟩ : ∃ A, A = atU F r.name.data.toList := ⟨_, rfl⟩
            obtain ⟨L, hL⟩ : ∃ L, L = fP P r.name.data.toList := ⟨_, rfl⟩
            have hoA := HU2.out.at_ r.name.data.toList
            rw [← hA, ← hL] at hoA
            have hLL : L.length + 1 ≤ 100000000000 := by have := fP_len P r.name.data.toList; rw [← hL] at this; have := HPJ.out; omega
            have hgtA := hoA.gt
            have hbA : ∀ (X : World), w7.grownBy X A.ownBlock → X.heap[wr.heap.size]? = some (.cells #[.string r.op, .string r.name, .int .i64 r.n, .int .i64 r.at_, .slice r.x r.l r.c] 43 (0, 0)) ∧ X.heap[wo.heap.size]? = some (.cells #[.string q.name, .string q.e.op, .string q.e.name, .int .i64 q.e.n, .int .i64 (q.e.at_ : Int), .slice xk q.e.kids.length ck, .int .i64 (q.at_ : Int)] 45 (0, 0)) := fun X hX => by
              have h2 := HF2.out.get 2 rfl
              have h1 := HF2.out.get 1 rfl
              exact ⟨(hX.block _ (HF2.out.lt_ 2 rfl) (fun e => hoA.ne h2 (by decide) _ e.symm rfl)).trans h2, (hX.block _ (HF2.out.lt_ 1 rfl) (fun e => hoA.ne h1 (by decide) _ e.symm rfl)).trans h1⟩
            have hmA : ∀ (X : World), w7.grownBy X A.ownBlock → MapO Try.prog 9 X (w.heap.size + 1 + 1) m F := fun X hX => HU2.out.map.kept hX (fun e => by have := (hgtA _ e.symm).1; omega)
            refine wp_region_stepsM_then (words [wIs (.map (some (w.heap.size + 1 + 1))), wIs (.pointer (some ⟨wr.heap.size, 1, none⟩)), wIs (.string r.name), wIs (.map (some (w.heap.size + 1 + 1))), wIs (.pointer (some ⟨wr.heap.size, 1, none⟩)), wIs (.string r.name), wIs A, wIs (.pointer (some ⟨wo.heap.size, 0, none⟩)), wIs (.string q.name), wSq w7.heap.size q.name, wAu w7.heap.size (w.heap.size + 1 + 1) A (L ++ [q.name])]) (fun X X' => X.grownBy X' A.ownBlock) (RU A) (FU w7.heap.size (w.heap.size + 1 + 1) A L) (by kernel_rfl) (fun _ _ _ h1 h2 => grown_trI h1 h2) (fun i X X' h => h.rel) (fun i j X X' hne h hr => FU.keep i j X X' hne h hr) (RU.rel (i := 0) (RU.below (Below.refl _ _).drew)) (fun i hi => ⟨hoA.below (Below.refl _ _).drew, (Below.refl w7.heap.size w7).drew.size⟩) ?hst rfl rfl rfl (by kernel_rfl) 11 _ rfl rfl ?steps ?last
            case hst =>
              intro i j' v X X' hne hv hr
              match j', hne, hv with
              | 0, _, hv => exact hv
              | 1, _, hv => exact hv
              | 2, _, hv => exact hv
              | 3, _, hv => exact hv
              | 4, _, hv => exact hv
              | 5, _, hv => exact hv
              | 6, _, hv => exact hv
              | 7, _, hv => exact hv
              | 8, _, hv => exact hv
              | 9, _, hv =>
                obtain ⟨g, e1, e2, e3⟩ := hv
                refine ⟨g, e1, e2, (hr.rel.block g (Array.getElem?_eq_some_iff.1 e3).1 (fun e => ?_)).trans e3⟩
                have := (hgtA g e.symm).2
                omega
              | 10, hne, hv =>
                unfold RU at hr
                rw [if_neg (Ne.symm hne)] at hr
                exact ⟨hv.1.below hr, hv.2⟩
              | _ + 11, _, _ => trivial
            case steps =>
              refine StepsM.cons (stepM_value rfl fun a W hp _ => ⟨wanted_none rfl, _, _, run_move (.inl rfl), hp.old 4 rfl, RU.below (Below.refl _ _)⟩) ?_
              refine StepsM.cons (stepM_value rfl fun a W hp _ => ?_) ?_
              · have f1 : a.tmps.getD 9 undef = .pointer (some ⟨wr.heap.size, 0, none⟩) := hp.old 9 rfl
                have f2 : (Instr.fieldAt 43 (.pointer (some ⟨wr.heap.size, 0, none⟩)) 1).run Try.prog W = .ok (.pointer (some ⟨wr.heap.size, 1, none⟩)) W := by kernel_rfl
                exact ⟨wanted_none rfl, _, _, run_fa4 rfl f1 f2, rfl, RU.below (Below.refl _ _)⟩
              refine StepsM.cons (stepM_value rfl fun a W hp _ => ?_) ?_
              · have f1 : a.tmps.getD 37 undef = .pointer (some ⟨wr.heap.size, 1, none⟩) := (hp.on_ 1 rfl rfl rfl).2
                exact ⟨wanted_none rfl, _, _, run_ldv rfl f1 (cell_of_row W wr.heap.size 1 _ _ _ (hbA W hp.rel).1) Try.underlying9 rfl (by kernel_rfl), rfl, RU.below (Below.refl _ _)⟩
              refine StepsM.cons (stepM_value rfl fun a W hp _ => ⟨wanted_none rfl, _, _, run_move (.inl rfl), hp.old 4 rfl, RU.below (Below.refl _ _)⟩) ?_
              refine StepsM.cons (stepM_value rfl fun a W hp _ => ?_) ?_
              · have f1 : a.tmps.getD 9 undef = .pointer (some ⟨wr.heap.size, 0, none⟩) := hp.old 9 rfl
                have f2 : (Instr.fieldAt 43 (.pointer (some ⟨wr.heap.size, 0, none⟩)) 1).run Try.prog W = .ok (.pointer (some ⟨wr.heap.size, 1, none⟩)) W := by kernel_rfl
                exact ⟨wanted_none rfl, _, _, run_fa4 rfl f1 f2, rfl, RU.below (Below.refl _ _)⟩
              refine StepsM.cons (stepM_value rfl fun a W hp _ => ?_) ?_
              · have f1 : a.tmps.getD 40 undef = .pointer (some ⟨wr.heap.size, 1, none⟩) := (hp.on_ 4 rfl rfl rfl).2
                exact ⟨wanted_none rfl, _, _, run_ldv rfl f1 (cell_of_row W wr.heap.size 1 _ _ _ (hbA W hp.rel).1) Try.underlying9 rfl (by kernel_rfl), rfl, RU.below (Below.refl _ _)⟩
              refine StepsM.cons (stepM_value rfl fun a W hp _ => ?_) ?_
              · have f1 : a.tmps.getD 39 undef = .map (some (w.heap.size + 1 + 1)) := (hp.on_ 3 rfl rfl rfl).2
                have f2 : a.tmps.getD 41 undef = .string r.name := (hp.on_ 5 rfl rfl rfl).2
                have hl : (Instr.lookup 174 (.map (some (w.heap.size + 1 + 1))) (.string r.name) false).run Try.prog W = .ok A W := by
                  have := MapO.look (hmA W hp.rel) Try.underlying9 Try.underlying174 (zero_sl W) r.name HKZ.out
                  rw [this, hA]; rfl
                exact ⟨wanted_none rfl, _, _, run_lkp rfl f1 f2 hl, rfl, RU.below (Below.refl _ _)⟩
              refine StepsM.cons (stepM_value rfl fun a W hp _ => ?_) ?_
              · have f1 : a.tmps.getD 7 undef = .pointer (some ⟨wo.heap.size, 0, none⟩) := hp.old 7 rfl
                have f2 : (Instr.fieldAt 45 (.pointer (some ⟨wo.heap.size, 0, none⟩)) 0).run Try.prog W = .ok (.pointer (some ⟨wo.heap.size, 0, none⟩)) W := by kernel_rfl
                exact ⟨wanted_none rfl, _, _, run_fa4 rfl f1 f2, rfl, RU.below (Below.refl _ _)⟩
              refine StepsM.cons (stepM_value rfl fun a W hp _ => ?_) ?_
              · have f1 : a.tmps.getD 43 undef = .pointer (some ⟨wo.heap.size, 0, none⟩) := (hp.on_ 7 rfl rfl rfl).2
                exact ⟨wanted_none rfl, _, _, run_ldv rfl f1 (cell_of_row W wo.heap.size 0 _ _ _ (hbA W hp.rel).2) Try.underlying9 rfl (by kernel_rfl), rfl, RU.below (Below.refl _ _)⟩
              refine StepsM.cons (stepM_value rfl fun a W hp _ => ?_) ?_
              · have f1 : a.tmps.getD 44 undef = .string q.name := (hp.on_ 8 rfl rfl rfl).2
                refine ⟨wanted_none rfl, _, _, run_bsl1 rfl ?_, ⟨W.heap.size, rfl, hp.rel.size, heap_alloc_new W _⟩, RU.below ((Below.refl _ _).alloc (Nat.le_refl _) _)⟩
                show (Instr.buildSlice _ 1 #[(0, a.tmps.getD 44 undef)]).run _ W = _
                rw [f1]
                exact sl_oneS q.name W
              refine StepsM.cons (stepM_value rfl fun a W hp hF => ?_) ?_
              · have f1 : a.tmps.getD 42 undef = A := (hp.on_ 6 rfl rfl rfl).2
                have f2 : wSq w7.heap.size q.name (a.tmps.getD 45 undef) W := (hp.on_ 9 rfl rfl rfl).2
                obtain ⟨h1, h2⟩ := hF rfl
                exact ⟨wanted_none rfl, (app_oneS (ρ := a.eval) (s := .tmp 42) (x := .tmp 45) (v := a.tmps.getD 45 undef) (by rfl) f1 rfl h1 (Nat.le_trans HLB.out h2) f2 h2 hLL).imp fun _ h => h.imp fun _ h => ⟨h.1, h.2.1, by unfold RU; rw [if_pos rfl]; exact h.2.2⟩⟩
              exact StepsM.nil
            case last =>
              intro a W hI
              have f36 : a.tmps.getD 36 undef = .map (some (w.heap.size + 1 + 1)) := hI.new 0 _ 36 rfl rfl rfl
              have f38 : a.tmps.getD 38 undef = .string r.name := hI.new 2 _ 38 rfl rfl rfl
              obtain ⟨hO5, hown⟩ : wAu w7.heap.size (w.heap.size + 1 + 1) A (L ++ [q.name]) (a.tmps.getD 46 undef) W := hI.new 10 _ 46 rfl rfl rfl
              obtain ⟨v', hv'⟩ : ∃ v', a.tmps.getD 46 undef = v' := ⟨_, rfl⟩
              rw [hv'] at hO5 hown
              have hgW := hI.rel
              obtain ⟨fo, _, hx⟩ := hI.putsI [36, 37, 38, 39, 40, 41, 42, 43, 44, 45, 46] rfl
              clear hI
              refine wpOp_of rfl (wanted_none rfl) ?_
              refine wp_mapsetI (t := 174) (.tmp 36) (.tmp 38) (.tmp 46) rfl f36 r.name f38 v' hv' (hmA W hgW) Try.underlying9 Try.underlying174 (by have := HM2.out; have := HPJ.out; have : maxLen = 9223372036854775807 := rfl; omega) HKZ.out ?_
              intro w9 hM9 hg9
              have hU9 : UsI w9 (w.heap.size + 1 + 1) (m + 1) (setU F r.name.data.toList v') (addU (fP P) r.name.data.toList q.name) V (nxP P) := UsI.put HU2.out r.name.data.toList q.name (v' := v') (w' := W) (w2 := w9) (by rw [← hL]; exact hO5) (by rw [← hA]; exact hgW) (by rw [← hA]; exact hown) hM9 hg9
              rw [← fP_use P q r.name.data.toList, ← nxP_use P q r.name.data.toList, ← HKEY.out, ← HP1.out] at hU9
              have hgt2 : ∀ k, some (w.heap.size + 1 + 1) = some k → k = w.heap.size + 1 + 1 := fun k hk => by injection hk with hk; exact hk.symm
              have F9 := (Fx.push HF2.out hoA (by omega) (by intro x hx; simp only [List.mem_cons, List.not_mem_nil, or_false] at hx; rcases hx with rfl | rfl | rfl; (show 9 ≠ 49; decide); (show 9 ≠ 45; decide); (show 9 ≠ 43; decide)) hgW).own hg9 (fun k hk => ⟨by have := hgt2 k hk; omega, fun x hx => by
                have h1 := hgt2 k hk
                have h2 := HBO.out
                have h3 := HBR.out
                simp only [List.mem_cons, List.not_mem_nil, or_false] at hx
                rcases hx with rfl | rfl | rfl
                · show k ≠ w.heap.size; omega
                · show k ≠ wo.heap.size; omega
                · show k ≠ wr.heap.size; omega⟩)
              have HF9 := Lib.hid (Fx.first (bl := [_, _]) (cl := [_]) F9)
              have HS9 := Lib.hid (SetI.kept (SetI.kept HS2.out hgW (fun e => by have := (hgtA _ e.symm).1; omega)) hg9 (fun e => by have := hgt2 _ e.symm; omega))
              have HU9 := Lib.hid hU9
              have HM9 := Lib.hid (show m + 1 ≤ (P0 ++ (rs.take (j + 1)).map (fun r => (q, r.key))).length by rw [HP1.out, List.length_append]; have := HM2.out; simp; omega)
              have HR9 := Lib.hid ((HR2.out.keptR (qr_plain _) hgW (hoA.ne2 HR2.out (by decide))).kept hg9 (fun k hk => by have := hgt2 k hk; omega))
              have HKR9 := Lib.hid (fun r hr => IsD.grown hg9 (fun k hk => by have := hgt2 k hk; omega) (IsD.grown hgW (fun k hk => by have := (hgtA k hk).1; omega) (HKR2.out r hr)))
              have HO9 := Lib.hid ((HO2.out.keptR (rt_plain _) hgW (hoA.ne2 HO2.out (by decide))).kept hg9 (fun k hk => by have := hgt2 k hk; have := HBO.out; omega))
              clear hU9 hgt2 F9 hM9 hg9 hgW hO5 hown hv' f36 f38 hmA hbA hgtA hoA hLL hL hA c0 c7 hop
              subst hx
              simp only [List.foldl_cons, List.foldl_nil]
              simp only [Act.put, List.setIfInBounds_toArray, List.set_cons_succ, List.set_cons_zero]
              simp only [Exit.inBlock, Exit.then]
              go_wp2_with fail
              refine ⟨⟨_, j + 1, m + 1, _, rfl, wrap_succ (by have := HJL.out; have := HRSL.out; omega), HJL.out, HF9.out, HS9.out, HU9.out, HM9.out, HR9.out, HKR9.out, HO9.out⟩, ?_⟩
              rw [wrap_succ (by have := HJL.out; have := HRSL.out; omega)]
              have := HJL.out
              simp [intOf]; omega
        · have d1 : decide ((j : Int) < (rs.length : Int)) = false := by simp; omega
          obtain rfl : j = rs.length := by have := HJ.out; omega
          have hPP : prsI ((rows.take (i + 1)).map QrV.q) = P0 ++ (rs.take rs.length).map (fun r => (q, r.key)) := by
            rw [HTK.out, List.take_length, ← HKS.out, List.map_map]
            rfl
          have HU2 := Lib.hid (hPP ▸ HU.out)
          have HM2 := Lib.hid (hPP ▸ HM.out)
          have HF2 := Lib.hid (Fx.first (bl := [_]) (cl := [_]) HF.out)
          clear hjl hPP
          go_wp2_with fail
          refine ⟨⟨_, i + 1, m, F, rfl, wrap_succ (by have := HIL.out; have := HRL.out; omega), HIL.out, HF2.out, HS.out, HU2.out, HM2.out, HR.out, HKR.out⟩, ?_⟩
          rw [wrap_succ (by have := HIL.out; have := HRL.out; omega)]
          have := HIL.out
          simp [intOf]; omega
      --
    · have d1 : decide ((i : Int) < (rows.length : Int)) = false := by simp; omega
      obtain rfl : i = rows.length := by have := HI.out; omega
      have hPD : prsI ((rows.take rows.length).map QrV.q) = prsI (defsI n) := by rw [List.take_length, HRQ.out]
      obtain ⟨D, hD⟩ : ∃ D, D = defsI n := ⟨_, rfl⟩
      have hU := HU.out
      rw [hPD, ← hD] at hU
      have hSR := SrchI.start D
      obtain ⟨f, hf⟩ : ∃ f, f = fP (prsI D) := ⟨_, rfl⟩
      obtain ⟨n0, hn0⟩ : ∃ n0, n0 = nxP (prsI D) := ⟨_, rfl⟩
      have hPLD : (prsI D).length ≤ 10000 := by rw [hD]; exact HPL.out
      have hC : n0.length + potI (fun _ => false) f D ≤ 1000000000 := by
        have h1 := potI_bound (fun _ => false) f 10000 (fun s => by rw [hf]; exact Nat.le_trans (fP_len _ s) hPLD) D
        have h2 := nxP_len (prsI D)
        rw [← hn0] at h2
        have h3 : D.length ≤ 10000 := by rw [hD, ← HRQ.out, List.length_map]; exact HRL.out
        have h4 : D.length * (1 + 10000) ≤ 10000 * (1 + 10000) := Nat.mul_le_mul_right _ h3
        omega
      rw [← hf, ← hn0] at hU
      rw [← hn0] at hSR
      have HNM := Lib.hid (show ∀ s, LateP D s → s.length ≤ 1000000 from fun s hs => by
        obtain ⟨q, hq, rfl⟩ := hs.eq_of
        rw [hD, ← HRQ.out] at hq
        obtain ⟨r, hr, rfl⟩ := List.mem_map.1 hq
        have : r.q.name.size ≤ 1000000 := by simpa [okNm] using (HQF.out r hr).2.1
        simpa using this)
      have HFL := Lib.hid (show ∀ s, (f s).length ≤ 10000 from fun s => by rw [hf]; exact Nat.le_trans (fP_len _ s) hPLD)
      have HU8 := Lib.hid hU
      have HSR := Lib.hid hSR
      have HC := Lib.hid hC
      have HDD := Lib.hid hD
      have HFF := Lib.hid hf
      clear hil hPD hU hSR hn0 hPLD hC hD hf HU HM HR HKR HI
      go_upto_region 15 with fail
      obtain ⟨w8, rfl⟩ : ∃ w8 : World, w8 = wr := ⟨_, rfl⟩
      go_loopg [5] (n0.length + potI (fun _ => false) f D) (fun gm v5 wr => ∃ (V : Value) (nx : List ByteArray) (k : Nat) (g : List UInt8 → Bool), V = v5 ∧ gm = nx.length + potI g f D ∧ k + gm ≤ 1000000000 ∧ Fx w [(w.heap.size, 49, #[.string n.name, .slice xi n.ins.length ci, .slice xo n.outs.length co, .slice xl n.locs.length cl, .slice xe n.eqs.length ce, .int .i64 (n.at_ : Int)])] wr ∧ SetI wr (w.heap.size + 1) k g ∧ UsI wr (w.heap.size + 1 + 1) m F f V nx ∧ SrchI D g nx)
      case atStart => exact ⟨_, n0, 0, _, rfl, rfl, by have := HC.out; omega, HF.out, HS.out, HU8.out, HSR.out⟩
      case round =>
        clear HF HS HU8 HSR HC
        obtain ⟨V, nx, k, g, rfl, hgm, hkc, hF, hS, hU, hR⟩ := hrel
        have HGM := Lib.hid hgm
        have HKC := Lib.hid hkc
        have HF := Lib.hid hF
        have HS := Lib.hid hS
        have HU := Lib.hid hU
        have HR := Lib.hid hR
        clear hgm hkc hF hS hU hR
        obtain ⟨xv, cv, rfl, _, _⟩ := HU.out.next.slice
        have hcase : nx = [] ∨ ∃ l t, nx = l ++ [t] := by
          rcases List.eq_nil_or_concat nx with h | ⟨l, t, h⟩
          · exact .inl h
          · exact .inr ⟨l, t, by simpa using h⟩
        rcases hcase with rfl | ⟨l, t, rfl⟩
        · have HLB := Lib.hid (show g = lateB n from SrchI.done (by rw [← HDD.out]; exact HR.out))
          have HBL := Lib.hid HF.out.below
          go_wp2_with fail
          go_ret
          exact ⟨_, k, rfl, by rw [← HLB.out]; exact HS.out, by have := HKC.out; omega, by omega, HBL.out⟩
        · have hlen : (l ++ [t]).length = l.length + 1 := by simp
          obtain ⟨N, hN⟩ : ∃ N, N = l.length := ⟨_, rfl⟩
          rw [hlen, ← hN]
          have hU := HU.out
          rw [hlen, ← hN] at hU
          obtain ⟨gx, rfl, hcell⟩ := OwnD.cell (by have := hU.next; rw [hlen, ← hN] at this; exact this) N (by rw [hlen, ← hN]; omega)
          have ht : (l ++ [t])[N]'(by rw [hlen, ← hN]; omega) = t := by subst hN; simp
          rw [ht] at hcell
          have hpop := UsI.pop hU (by rw [hlen, ← hN])
          have htk : (l ++ [t]).take N = l := by subst hN; simp
          rw [htk] at hpop
          have hts : t.size ≤ maxLen := by
            have h1 := HNM.out _ (HR.out.late t (by simp))
            have h2 : t.size ≤ 1000000 := by simpa using h1
            exact Nat.le_trans h2 (by decide)
          have kh := hasI_any wr (w.heap.size + 1) k g HS.out t hts
          have HPOP := Lib.hid hpop
          have HNN := Lib.hid hN
          have HTS := Lib.hid hts
          have HGM2 := Lib.hid (show gk = l.length + 1 + potI g f D by rw [HGM.out, hlen])
          have n0 : (0 : Int) ≤ (N : Int) := by omega
          have n1 : (N : Int) < (N : Int) + 1 := by omega
          have n2 : (0 : Int) < (N : Int) + 1 := by omega
          have hcc : N + 1 ≤ cv := by
            obtain ⟨x', c', e1, e2, _⟩ := hU.next.slice
            injection e1 with _ _ e1
            subst e1
            rw [hlen, ← hN] at e2
            exact e2
          have HCC := Lib.hid hcc
          have n3 : (N : Int) ≤ (cv : Int) := by omega
          clear hlen hN hU ht hpop htk hts hcc
          cases hg : g t.data.toList with
          | true =>
            rw [hg] at kh
            have HG := Lib.hid hg
            clear hg
            go_upto_region 16 with fail
            have n4 : (N : Int) < 1000000000 := by have := HKC.out; have := HGM2.out; have := HNN.out; omega
            go_upto_region 18 with fail
            clear hcell n4
            go_wp2_with fail
            (with_reducible refine kh.mono ?_)
            rintro e9 w2 ⟨rfl, hb⟩
            have HF2 := Lib.hid (HF.out.call hb)
            have HS2 := Lib.hid (SetI.below HS.out hb)
            have HU2 := Lib.hid (UsI.below HPOP.out hb)
            have HR2 := Lib.hid (SrchI.skip HR.out HG.out)
            clear kh hb
            go_wp2_with fail
            go_roundg (l.length + potI g f D)
            case measure => rw [HGM2.out]; omega
            case rel => exact ⟨_, l, k, g, by rw [HNN.out], rfl, by have := HKC.out; have := HGM2.out; omega, HF2.out, HS2.out, HU2.out, HR2.out⟩
          | false =>
            rw [hg] at kh
            have HG := Lib.hid hg
            have HPOT := Lib.hid (potI_add g f t D (by obtain ⟨q, hq, e⟩ := (HR.out.late t (by simp)).eq_of; exact ⟨q, hq, e⟩) hg)
            clear hg
            go_upto_region 16 with fail
            have n4 : (N : Int) < 1000000000 := by have := HKC.out; have := HGM2.out; have := HNN.out; omega
            go_upto_region 18 with fail
            clear hcell n4
            go_wp2_with fail
            (with_reducible refine kh.mono ?_)
            rintro e9 w2 ⟨rfl, hb⟩
            have HF2 := Lib.hid (HF.out.call hb)
            have HS2 := Lib.hid (SetI.below HS.out hb)
            have HU2 := Lib.hid (UsI.below HPOP.out hb)
            have hml : maxLen = 9223372036854775807 := rfl
            have ka := addI_any w2 (w.heap.size + 1) k g HS2.out (by have := HKC.out; have := HGM2.out; omega) t HTS.out
            unfold GivesAd at ka
            clear kh hb hml
            go_wp2_with fail
            (with_reducible refine ka.mono ?_)
            rintro e9 w3 ⟨rfl, hS3, hg3⟩
            have hU3 := UsI.old HU2.out hg3 (fun k hk => by injection hk with hk; omega)
            have HF3 := Lib.hid (HF2.out.own hg3 (fun k hk => by
              injection hk with hk
              subst hk
              exact ⟨by omega, offI rfl (by omega)⟩))
            have HS3' := Lib.hid hS3
            have hl := UsI.look hU3 t HTS.out
            have hoA := hU3.at_ t.data.toList
            obtain ⟨xu, cu, hA, _, _⟩ := hoA.slice
            rw [hA] at hl hoA
            have HU3 := Lib.hid hU3
            have HN3 : Hid (OwnD 9 1 w3 (w.heap.size + 1 + 1) (.slice (some ⟨gx, 0, none⟩) N cv) N (TxD l)) := Lib.hid (by have := hU3.next; rw [← HNN.out] at this; exact this)
            have HBW := Lib.hid (show (w.heap.size + 1 + 1) + 1 ≤ w3.heap.size from UsI.lt hU3)
            have HD := Lib.hid (hoA.ends (by have := HFL.out t.data.toList; omega))
            have HNI := Lib.hid (show N + (f t.data.toList).length ≤ 100000000000 by have h1 := HFL.out t.data.toList; have h2 := HKC.out; have h3 := HGM2.out; have h4 := HNN.out; omega)
            obtain ⟨M, hM⟩ : ∃ M, M = (f t.data.toList).length := ⟨_, rfl⟩
            have HMM := Lib.hid hM
            have HTL := Lib.hid (show (TxD (f t.data.toList)).length = M * 1 by rw [hM]; exact TxD_len _)
            rw [← hM] at HD HNI hl
            clear ka hU3 hS3 hg3 hoA hA hM
            go_wp2_with (at_builtin; refine wpList_appH rfl (.tmp 70) (.tmp 73) 71 rfl 16 Try.underlying71 HIS.out (by decide) (by decide) rfl HN3.out HBW.out (TxD (f t.data.toList)) rfl HD.out HTL.out (TxD_plain _) (TxD_ones _) HNI.out ?_)
            intro v' w' hO' hg' hown
            have hO5 : OwnD 9 1 w' (w.heap.size + 1 + 1) v' (l ++ f t.data.toList).length (TxD (l ++ f t.data.toList)) := by
              rw [TxD_app, List.length_append, ← HNN.out, ← HMM.out]; exact hO'
            have hgt := HN3.out.gt
            have HU4 := Lib.hid (UsI.push HU3.out hO5 hg' hown)
            have HF4 := Lib.hid (Fx.push HF3.out HN3.out (by omega) (by intro x hx; simp only [List.mem_cons, List.not_mem_nil, or_false] at hx; subst hx; (show 9 ≠ 49; decide)) hg')
            have HS4 := Lib.hid (SetI.kept HS3'.out hg' (fun e => by have := (hgt _ e.symm).1; omega))
            have HR4 : Hid (SrchI D (addI g t) (l ++ f t.data.toList)) := Lib.hid (by rw [HFF.out]; exact SrchI.step HR.out)
            clear hO' hg' hown hO5 hgt hl
            go_wp2_with fail
            go_roundg ((l ++ f t.data.toList).length + potI (addI g t) f D)
            case measure =>
              rw [HGM2.out, List.length_append]
              have := HPOT.out
              omega
            case rel =>
              refine ⟨_, l ++ f t.data.toList, k + 1, addI g t, rfl, rfl, ?_, HF4.out, HS4.out, HU4.out, HR4.out⟩
              rw [List.length_append]
              have h1 := HPOT.out
              have h2 := HKC.out
              have h3 := HGM2.out
              omega
end Go.Proofs.Ythlhogfebicooaa

namespace Go.Proofs.Ythlhogfebicooaa
open Go Go.RowKit
theorem size_ckI : (Try.prog.info? 120).map (·.size) = some 2 := by kernel_rfl
theorem ck_oneI (a b : Option Nat) : (#[.map a, .map b] : Array Value).all (·.oneCell') = true := by simp [Value.oneCell']
theorem kids_pick {ok : Nat → Prop} {w : World} {e : Ex} {x : Option Addr} {c : Nat} (h : KidsD ok w e x c) : ∃ (X : Nat → Option Addr) (C : Nat → Nat), ∀ (i : Nat) (hi : i < e.kids.length), ∃ g, x = some ⟨g, 0, none⟩ ∧ g < w.heap.size ∧ w.rangeAt g (i * 5) (exC e.kids[i] (X i) (C i)) ∧ KidsD ok w e.kids[i] (X i) (C i) := by
  have h1 : ∀ i, ∃ p : Option Addr × Nat, ∀ (hi : i < e.kids.length), ∃ g, x = some ⟨g, 0, none⟩ ∧ g < w.heap.size ∧ w.rangeAt g (i * 5) (exC e.kids[i] p.1 p.2) ∧ KidsD ok w e.kids[i] p.1 p.2 := fun i => by
    by_cases hi : i < e.kids.length
    · obtain ⟨g, e1, e2, xk, ck, e3, e4⟩ := KidsD.at_ h i hi
      exact ⟨(xk, ck), fun _ => ⟨g, e1, e2, e3, e4⟩⟩
    · exact ⟨(none, 0), fun h => absurd h hi⟩
  exact ⟨fun i => (Classical.choose (h1 i)).1, fun i => (Classical.choose (h1 i)).2, fun i hi => Classical.choose_spec (h1 i) hi⟩
set_option maxHeartbeats 4000000 in
set_option maxRecDepth 100000 in
theorem late2_any (w : World) (p bl bw n : Nat) (g : List UInt8 → Bool) (hS : SetI w bl n g) (hp : w.heap[p]? = some (.cells #[.map (some bl), .map (some bw)] 120 (0, 0))) (e : Ex) (hoe : okE e = true) (hfe : fewE e = true) (ok : Nat → Prop) (x : Option Addr) (c : Nat) (hkk : KidsD ok w e x c) : Calls Try.prog 150 #[.agg #[.string e.op, .string e.name, .int .i64 e.n, .int .i64 (e.at_ : Int), .slice x e.kids.length c], .pointer (some ⟨p, 0, none⟩)] w (fun e' w' => e' = .returned (.bool (lateI g e)) ∧ Below w.heap.size w w') := by
  have HSE := Lib.hid size_eS
  have P1 := (Fx.start w).alloc w.heap.size rfl 43 #[.string e.op, .string e.name, .int .i64 e.n, .int .i64 (e.at_ : Int), .slice x e.kids.length c]
  have hp1 := (P1.below.block p (Array.getElem?_eq_some_iff.1 hp).1).trans hp
  have cp := cell_of_row _ p 0 _ _ _ hp1
  have HL := Lib.hid (P1.get 0 rfl)
  have kl := isLate_any (w.alloc (.cells #[.string e.op, .string e.name, .int .i64 e.n, .int .i64 (e.at_ : Int), .slice x e.kids.length c] 43)) bl n g (SetI.below hS P1.below) e hoe hfe ok x c (IsD.below P1.below hkk)
  unfold exV at kl
  have HB1 := Lib.hid P1.below
  clear P1 hp1 hS hp hoe hfe hkk
  go_enter Try.func150, Try.ntmps150
  go_wp2_with (refine wpList_load_row rfl 43 (.tmp 2) rfl w.heap.size rfl 43 #[.string e.op, .string e.name, .int .i64 e.n, .int .i64 (e.at_ : Int), .slice x e.kids.length c] (0, 0) _ ?_ Try.underlying43 rfl HSE.out ?_; (exact HL.out))
  (with_reducible refine kl.mono ?_)
  rintro e9 w2 ⟨rfl, hb⟩
  have HB2 := Lib.hid (HB1.out.trans (hb.mono HB1.out.size))
  clear kl hb cp
  go_wp2_with fail
  go_ret
  exact ⟨rfl, HB2.out⟩
set_option maxHeartbeats 4000000 in
set_option maxRecDepth 100000 in
theorem idxK_any (n : Nat) (R : Nat → RtV) (pr : Nat → Bool) (w : World) (x : Option Addr) (c p : Nat) (hfew : n ≤ 1000000000) (hr : ∀ i, i < n → ∃ g, x = some ⟨g, 0, none⟩ ∧ g < w.heap.size ∧ w.rangeAt g (i * 5) (rtC (R i))) (kf : ∀ i, i < n → ∀ (W : World), Below w.heap.size w W → Calls Try.prog 150 #[.agg #[.string (R i).op, .string (R i).name, .int .i64 (R i).n, .int .i64 (R i).at_, .slice (R i).x (R i).l (R i).c], .pointer (some ⟨p, 0, none⟩)] W (fun e w' => e = .returned (.bool (pr i)) ∧ Below W.heap.size W w')) : Calls Try.prog 134 #[.slice x n c, .func (.func 150) #[] #[.pointer (some ⟨p, 0, none⟩)]] w (fun e w' => ∃ k : Int, e = .returned (.int .i64 k) ∧ decide (0 ≤ k) = (List.range n).any pr ∧ Below w.heap.size w w') := by
  have HSE := Lib.hid size_eS
  have HR := Lib.hid hr
  have KF := Lib.hid kf
  have HFEW := Lib.hid hfew
  clear hr kf hfew
  go_enter Try.func134, Try.ntmps134
  go_wp2_with fail
  go_loopw [8] (fun v8 wr => ∃ (i : Nat), v8 = .int .i64 (i : Int) ∧ i ≤ n ∧ Below w.heap.size w wr ∧ (∀ j, j < i → pr j = false))
    (fun v8 _ => n - (intOf v8).toNat)
  case atStart => exact ⟨0, rfl, Nat.zero_le _, Below.refl _ _, fun j h => by omega⟩
  case round =>
    obtain ⟨i, rfl, hi, hb, hq⟩ := hrel
    have HI := Lib.hid hi
    have HB := Lib.hid hb
    have HQ := Lib.hid hq
    clear hi hb hq
    by_cases hil : i < n
    · have d1 : decide ((i : Int) < (n : Int)) = true := by simp; omega
      have HIL := Lib.hid hil
      obtain ⟨g1, rfl, hg1, hrg⟩ := HR.out i hil
      have kk := KF.out i hil wr HB.out
      have hhit : pr i = true → (List.range n).any pr = true := fun h => List.any_eq_true.2 ⟨i, List.mem_range.2 hil, h⟩
      obtain ⟨r, hr⟩ : ∃ r, r = R i := ⟨_, rfl⟩
      rw [← hr] at hrg kk
      have HRG := Lib.hid (rangeAt_below hrg HB.out hg1)
      have i0 : (0 : Int) ≤ (i : Int) := by omega
      have i1 : (i : Int) < (n : Int) := by omega
      obtain ⟨q, hpq⟩ : ∃ q, q = pr i := ⟨_, rfl⟩
      rw [← hpq] at kk hhit
      have kk : Calls Try.prog 150 #[.agg (rtC r).toArray, .pointer (some ⟨p, 0, none⟩)] wr (fun e w' => e = .returned (.bool q) ∧ Below wr.heap.size wr w') := kk
      have HHIT := Lib.hid hhit
      have HPQ := Lib.hid hpq
      clear hil hrg hg1 hr hpq hhit
      go_wp2_with (refine wpList_load_mid rfl 43 (.tmp 14) rfl g1 (i * 5) rfl (rtC r) _ ?_ Try.underlying43 rfl HSE.out ?_; (exact HRG.out))
      (with_reducible refine kk.mono ?_)
      rintro e9 w4 ⟨rfl, hb⟩
      have HB4 := Lib.hid (HB.out.trans (hb.mono HB.out.size))
      clear kk hb
      cases q with
      | true =>
        have HH := Lib.hid (show (List.range n).any pr = true from HHIT.out rfl)
        clear HHIT HPQ
        go_wp2_with fail
        go_ret
        exact ⟨(i : Int), rfl, by rw [HH.out]; simp, HB4.out⟩
      | false =>
        have HNX := Lib.hid (show ∀ j, j < i + 1 → pr j = false from fun j hj => by
          by_cases e : j = i
          · rw [e]; exact HPQ.out.symm
          · exact HQ.out j (by omega))
        clear HHIT HPQ
        go_wp2_with fail
        refine ⟨⟨i + 1, wrap_succ (by have := HIL.out; have := HFEW.out; omega), HIL.out, HB4.out, HNX.out⟩, ?_⟩
        rw [wrap_succ (by have := HIL.out; have := HFEW.out; omega)]
        have := HIL.out
        simp [intOf]; omega
    · have d1 : decide ((i : Int) < (n : Int)) = false := by simp; omega
      have HQ2 := Lib.hid (show (List.range n).any pr = false from List.any_eq_false.2 (fun j hj => by rw [HQ.out j (by have := List.mem_range.1 hj; omega)]; decide))
      obtain rfl : i = n := by have := HI.out; omega
      clear hil
      go_wp2_with fail
      go_ret
      exact ⟨-1, rfl, by rw [HQ2.out]; decide, HB.out⟩
set_option maxHeartbeats 4000000 in
set_option maxRecDepth 100000 in
theorem conK_any (n : Nat) (R : Nat → RtV) (pr : Nat → Bool) (w : World) (x : Option Addr) (c p : Nat) (hfew : n ≤ 1000000000) (hr : ∀ i, i < n → ∃ g, x = some ⟨g, 0, none⟩ ∧ g < w.heap.size ∧ w.rangeAt g (i * 5) (rtC (R i))) (kf : ∀ i, i < n → ∀ (W : World), Below w.heap.size w W → Calls Try.prog 150 #[.agg #[.string (R i).op, .string (R i).name, .int .i64 (R i).n, .int .i64 (R i).at_, .slice (R i).x (R i).l (R i).c], .pointer (some ⟨p, 0, none⟩)] W (fun e w' => e = .returned (.bool (pr i)) ∧ Below W.heap.size W w')) : Calls Try.prog 103 #[.slice x n c, .func (.func 150) #[] #[.pointer (some ⟨p, 0, none⟩)]] w (fun e w' => e = .returned (.bool ((List.range n).any pr)) ∧ Below w.heap.size w w') := by
  have ki := idxK_any n R pr w x c p hfew hr kf
  obtain ⟨q, hq⟩ : ∃ q, q = (List.range n).any pr := ⟨_, rfl⟩
  rw [← hq] at ki ⊢
  clear hfew hr kf hq
  go_enter Try.func103, Try.ntmps103
  go_wp2_with fail
  (with_reducible refine ki.mono ?_)
  rintro e9 w4 ⟨k, rfl, hk, hb⟩
  have HB := Lib.hid hb
  clear ki hb
  go_wp2_with fail
  go_ret
  exact ⟨rfl, HB.out⟩
theorem range_any (g : List UInt8 → Bool) (l : List Ex) (m : Nat) (hm : m ≤ l.length) : (List.range m).any (fun i => lateI g (l.getD i exZ)) = (l.take m).any (lateI g) := by
  have e : l.take m = (List.range m).map (fun i => l.getD i exZ) := by
    apply List.ext_getElem
    · simp; omega
    · intro i h1 h2
      have hi : i < l.length := by simp at h1; omega
      simp [hi]
  rw [e, List.any_map]
  rfl
set_option maxHeartbeats 4000000 in
set_option maxRecDepth 100000 in
theorem someLate_any (w : World) (bl bw k : Nat) (g : List UInt8 → Bool) (hS : SetI w bl k g) (e : Ex) (hoe : okE e = true) (hfe : fewE e = true) (ok : Nat → Prop) (x : Option Addr) (c : Nat) (hkk : KidsD ok w e x c) (m : Nat) (hm : m ≤ e.kids.length) : Calls Try.prog 145 #[.agg #[.map (some bl), .map (some bw)], .slice x m c] w (fun e' w' => e' = .returned (.bool ((e.kids.take m).any (lateI g))) ∧ Below w.heap.size w w') := by
  have P1 := (Fx.start w).alloc w.heap.size rfl 120 #[.map (some bl), .map (some bw)]
  obtain ⟨X, C, hXC⟩ := kids_pick (IsD.below P1.below hkk : KidsD ok (w.alloc (.cells #[.map (some bl), .map (some bw)] 120)) e x c)
  have hoe' := hoe
  rw [okE_eq] at hoe'
  simp only [Bool.and_eq_true] at hoe'
  have kc := conK_any m (fun i => ⟨(e.kids.getD i exZ).op, (e.kids.getD i exZ).name, (e.kids.getD i exZ).n, ((e.kids.getD i exZ).at_ : Int), X i, (e.kids.getD i exZ).kids.length, C i⟩) (fun i => lateI g (e.kids.getD i exZ)) (w.alloc (.cells #[.map (some bl), .map (some bw)] 120)) x c w.heap.size (by have := IsD.few hkk; omega) (fun i hi => by
      obtain ⟨gg, e1, e2, e3, _⟩ := hXC i (by omega)
      have hd : e.kids.getD i exZ = e.kids[i]'(by omega) := by simp [show i < e.kids.length by omega]
      refine ⟨gg, e1, e2, ?_⟩
      rw [hd]
      exact e3) (fun i hi W hb => by
      obtain ⟨gg, e1, e2, e3, e4⟩ := hXC i (by omega)
      have hd : e.kids.getD i exZ = e.kids[i]'(by omega) := by simp [show i < e.kids.length by omega]
      rw [hd]
      exact late2_any W w.heap.size bl bw k g (SetI.below (SetI.below hS P1.below) hb) ((hb.block _ (P1.lt_ 0 rfl)).trans (P1.get 0 rfl)) e.kids[i] (okEs_at _ i (by omega) hoe'.2.2) (fewE_kid hfe i (by omega)) ok (X i) (C i) (IsD.below hb e4))
  rw [range_any g e.kids m hm] at kc
  obtain ⟨q, hq⟩ : ∃ q, q = (e.kids.take m).any (lateI g) := ⟨_, rfl⟩
  rw [← hq] at kc ⊢
  have HB1 := Lib.hid P1.below
  clear P1 hXC hoe' hS hoe hfe hkk hm hq
  go_enter Try.func145, Try.ntmps145
  go_wp2_with fail
  (with_reducible refine kc.mono ?_)
  rintro e9 w4 ⟨rfl, hb⟩
  have HB := Lib.hid (HB1.out.trans (hb.mono HB1.out.size))
  clear kc hb
  go_wp2_with fail
  go_ret
  exact ⟨rfl, HB.out⟩
end Go.Proofs.Ythlhogfebicooaa
