/-
  Texts that the statements stand on, part 4.
-/
import Derived.Test.YtfajafjikpmgpaaMc
import Derived.Deep.DeepCutAuto
import Derived.Deep.CutBlock
import Derived.Maps.OwnSet
import Derived.Maps.Views
import Derived.StringKeys
import Derived.Deep.QuietTactic
import Derived.BigQuiet
import Derived.Lib.AppendZeros
import Derived.Laws.Rows
import Derived.Deep.MidRow
import Derived.Great.BuildSlice
import Derived.Ground.SlgfProg
import Derived.Shelf.SlicesQ.IndexFunc
import Derived.Ground.SlgnProg
import Derived.Shelf.SlicesQ.Reverse
import Derived.Test.YtfajafjikpmgpaaProg
set_option linter.unusedVariables false
set_option linter.unusedSimpArgs false
namespace Go.Proofs.Ytfajafjikpmgpaa
open Go Go.RowKit
set_option maxHeartbeats 4000000 in
set_option maxRecDepth 100000 in
theorem Back_any (l : List Nd) (w : World) (hw : 0 < w.heap.size) (ok : Nat → Prop) (x : Option Addr) (c : Nat) (hk : IsD ok w (.slice x l.length c) (.sl l.length (ndsD l))) : Calls Try.prog 16 #[.slice x l.length c] w (GivesBN l w) := by
  have HK := Lib.hid hk
  have HW := Lib.hid hw
  have HIN6 := Lib.hid info_nS
  have HIQ7 := Lib.hid info_qS
  have HSN := Lib.hid size_nS
  clear hk hw
  go_enter Try.func16, Try.ntmps16
  go_wp2_with fail
  go_loopw [3, 4] (fun v3 v4 wr => ∃ (V : Value) (i : Nat), V = v3 ∧ v4 = .int .i64 (i : Int) ∧ i ≤ l.length ∧ Below w.heap.size w wr ∧ OwnD 49 6 wr (w.heap.size - 1) V i (ndsD (l.take i)))
    (fun _ v4 _ => l.length - (intOf v4).toNat)
  case atStart => exact ⟨_, 0, rfl, rfl, Nat.zero_le _, Below.refl _ _, by rw [List.take_zero]; exact OwnD.nil _ _ _ _⟩
  case round =>
    obtain ⟨V, i, rfl, rfl, hi, hb, hO⟩ := hrel
    obtain ⟨xv, cv, rfl, _, _⟩ := hO.slice
    have HB := Lib.hid hb
    have HO := Lib.hid hO
    have HI := Lib.hid hi
    clear hb hO hi
    by_cases hil : i < l.length
    · have d1 : decide ((i : Int) < (l.length : Int)) = true := by simp; omega
      have HIL := Lib.hid hil
      clear hil
      obtain ⟨g, rfl, hg, xi, ci, xo, co, xl, cl, xe, ce, hrg, t1, t2, t3, t4⟩ := nd_at HK.out i HIL.out
      obtain ⟨nd, hnd⟩ : ∃ nd, nd = l[i]'HIL.out := ⟨_, rfl⟩
      rw [← hnd] at hrg t1 t2 t3 t4
      have HND := Lib.hid hnd
      have keep : ∀ (u : Value) (d : Dt), IsD ok w u d → IsD (fun k => ok k ∧ k < w.heap.size) wr u d := fun u d h => IsD.keep HB.out.size (fun k _ hl => HB.out.block k hl) (fun k hk hl => ⟨hk, hl⟩) _ h
      have HIN := Lib.hid (keep _ _ t1)
      have HOU := Lib.hid (keep _ _ t2)
      have HLO := Lib.hid (keep _ _ t3)
      have HEQ := Lib.hid (keep _ _ t4)
      have HG := Lib.hid (show g < wr.heap.size from Nat.lt_of_lt_of_le hg HB.out.size)
      have HRG := Lib.hid (rangeAt_below hrg HB.out hg)
      have HBS := Lib.hid HB.out.size
      clear hrg hg hnd keep t1 t2 t3 t4
      go_wp2_with fail
      refine wp_region_steps_then (words [wIs (.slice (some ⟨g, 0, none⟩) l.length c), wIs (.int .i64 (i : Int)), wIs (.pointer (some ⟨g, i * 6, none⟩)), wIs (.pointer (some ⟨g, i * 6 + 0, none⟩)), wIs (.string nd.name), wIs (.slice (some ⟨g, 0, none⟩) l.length c), wIs (.int .i64 (i : Int)), wIs (.pointer (some ⟨g, i * 6, none⟩)), wIs (.pointer (some ⟨g, i * 6 + 1, none⟩)), wIs (.slice xi nd.ins.length ci), wVars wr.heap.size nd.ins, wIs (.slice (some ⟨g, 0, none⟩) l.length c), wIs (.int .i64 (i : Int)), wIs (.pointer (some ⟨g, i * 6, none⟩)), wIs (.pointer (some ⟨g, i * 6 + 2, none⟩)), wIs (.slice xo nd.outs.length co), wVars wr.heap.size nd.outs, wIs (.slice (some ⟨g, 0, none⟩) l.length c), wIs (.int .i64 (i : Int)), wIs (.pointer (some ⟨g, i * 6, none⟩)), wIs (.pointer (some ⟨g, i * 6 + 3, none⟩)), wIs (.slice xl nd.locs.length cl), wVars wr.heap.size nd.locs, wIs (.slice (some ⟨g, 0, none⟩) l.length c), wIs (.int .i64 (i : Int)), wIs (.pointer (some ⟨g, i * 6, none⟩)), wIs (.pointer (some ⟨g, i * 6 + 5, none⟩)), wIs (.int .i64 (nd.at_ : Int)), wNode wr.heap.size nd, wNew wr.heap.size]) wr.heap.size wr (by kernel_rfl) (Below.refl _ _) (Nat.le_refl _) (words_stable ?stab) rfl rfl (by kernel_rfl) (by kernel_rfl) _ rfl ?steps ?last
      case stab =>
        intro f hf
        simp only [List.mem_cons, List.not_mem_nil, or_false] at hf
        rcases hf with rfl | rfl | rfl | rfl | rfl | rfl | rfl | rfl | rfl | rfl | rfl | rfl | rfl | rfl | rfl | rfl | rfl | rfl | rfl | rfl | rfl | rfl | rfl | rfl | rfl | rfl | rfl | rfl | rfl | rfl <;> first | exact stable_is _ | exact stable_vars _ _ | exact stable_node _ _ | exact stable_new _
      case steps =>
          refine Steps.cons (step_value rfl fun xa W hp => ⟨wanted_none rfl, _, _, run_move (.inl rfl), hp.old 0 rfl, Below.refl _ _⟩) ?_
          refine Steps.cons (step_value rfl fun xa W hp => ⟨wanted_none rfl, _, _, run_move (.inl rfl), hp.old 4 rfl, Below.refl _ _⟩) ?_
          refine Steps.cons (step_value rfl fun xa W hp => ?_) ?_
          · have f0 : xa.tmps.getD 13 undef = .slice (some ⟨g, 0, none⟩) l.length c := (hp.on_ 0 rfl rfl rfl).2
            have f1 : xa.tmps.getD 14 undef = .int .i64 (i : Int) := (hp.on_ 1 rfl rfl rfl).2
            exact ⟨wanted_none rfl, _, _, run_idxG Try.underlying23 size_n4 rfl f0 f1 HIL.out, rfl, Below.refl _ _⟩
          refine Steps.cons (step_value rfl fun xa W hp => ?_) ?_
          · have f0 : xa.tmps.getD 15 undef = .pointer (some ⟨g, i * 6, none⟩) := (hp.on_ 2 rfl rfl rfl).2
            exact ⟨wanted_none rfl, _, _, run_fa4 rfl f0 (fa_n4_0 _ _ W), rfl, Below.refl _ _⟩
          refine Steps.cons (step_value rfl fun xa W hp => ?_) ?_
          · have f0 : xa.tmps.getD 16 undef = .pointer (some ⟨g, i * 6 + 0, none⟩) := (hp.on_ 3 rfl rfl rfl).2
            exact ⟨wanted_none rfl, _, _, run_ldv rfl f0 (rangeAt_below HRG.out hp.below HG.out 0 _ rfl) Try.underlying9 rfl (by kernel_rfl), rfl, Below.refl _ _⟩
          refine Steps.cons (step_value rfl fun xa W hp => ⟨wanted_none rfl, _, _, run_move (.inl rfl), hp.old 0 rfl, Below.refl _ _⟩) ?_
          refine Steps.cons (step_value rfl fun xa W hp => ⟨wanted_none rfl, _, _, run_move (.inl rfl), hp.old 4 rfl, Below.refl _ _⟩) ?_
          refine Steps.cons (step_value rfl fun xa W hp => ?_) ?_
          · have f0 : xa.tmps.getD 18 undef = .slice (some ⟨g, 0, none⟩) l.length c := (hp.on_ 5 rfl rfl rfl).2
            have f1 : xa.tmps.getD 19 undef = .int .i64 (i : Int) := (hp.on_ 6 rfl rfl rfl).2
            exact ⟨wanted_none rfl, _, _, run_idxG Try.underlying23 size_n4 rfl f0 f1 HIL.out, rfl, Below.refl _ _⟩
          refine Steps.cons (step_value rfl fun xa W hp => ?_) ?_
          · have f0 : xa.tmps.getD 20 undef = .pointer (some ⟨g, i * 6, none⟩) := (hp.on_ 7 rfl rfl rfl).2
            exact ⟨wanted_none rfl, _, _, run_fa4 rfl f0 (fa_n4_1 _ _ W), rfl, Below.refl _ _⟩
          refine Steps.cons (step_value rfl fun xa W hp => ?_) ?_
          · have f0 : xa.tmps.getD 21 undef = .pointer (some ⟨g, i * 6 + 1, none⟩) := (hp.on_ 8 rfl rfl rfl).2
            exact ⟨wanted_none rfl, _, _, run_ldv rfl f0 (rangeAt_below HRG.out hp.below HG.out 1 _ rfl) Try.underlying35 rfl (by kernel_rfl), rfl, Below.refl _ _⟩
          refine Steps.cons (step_enter rfl fun xa W hp => ?_) ?_
          · have f0 : xa.tmps.getD 22 undef = .slice xi nd.ins.length ci := (hp.on_ 9 rfl rfl rfl).2
            refine ⟨wanted_none rfl, 46, _, run_enter1 rfl rfl Try.call46, ?_⟩
            show Calls _ _ #[xa.tmps.getD 22 undef] W _
            rw [f0]
            refine (backVars_any nd.ins W (by have h1 := hp.below.size; have h2 := HBS.out; have h3 := HW.out; omega) _ xi ci (IsD.keep hp.below.size (fun k _ hl => hp.below.block k hl) (fun _ h _ => h) _ HIN.out)).mono (fun e' W' h => ?_)
            obtain ⟨x', c', h1, h2, h3⟩ := h
            exact ⟨_, h1, ⟨x', c', rfl, IsD.monoB hp.below.size h2⟩, h3⟩
          refine Steps.cons (step_value rfl fun xa W hp => ⟨wanted_none rfl, _, _, run_move (.inl rfl), hp.old 0 rfl, Below.refl _ _⟩) ?_
          refine Steps.cons (step_value rfl fun xa W hp => ⟨wanted_none rfl, _, _, run_move (.inl rfl), hp.old 4 rfl, Below.refl _ _⟩) ?_
          refine Steps.cons (step_value rfl fun xa W hp => ?_) ?_
          · have f0 : xa.tmps.getD 24 undef = .slice (some ⟨g, 0, none⟩) l.length c := (hp.on_ 11 rfl rfl rfl).2
            have f1 : xa.tmps.getD 25 undef = .int .i64 (i : Int) := (hp.on_ 12 rfl rfl rfl).2
            exact ⟨wanted_none rfl, _, _, run_idxG Try.underlying23 size_n4 rfl f0 f1 HIL.out, rfl, Below.refl _ _⟩
          refine Steps.cons (step_value rfl fun xa W hp => ?_) ?_
          · have f0 : xa.tmps.getD 26 undef = .pointer (some ⟨g, i * 6, none⟩) := (hp.on_ 13 rfl rfl rfl).2
            exact ⟨wanted_none rfl, _, _, run_fa4 rfl f0 (fa_n4_2 _ _ W), rfl, Below.refl _ _⟩
          refine Steps.cons (step_value rfl fun xa W hp => ?_) ?_
          · have f0 : xa.tmps.getD 27 undef = .pointer (some ⟨g, i * 6 + 2, none⟩) := (hp.on_ 14 rfl rfl rfl).2
            exact ⟨wanted_none rfl, _, _, run_ldv rfl f0 (rangeAt_below HRG.out hp.below HG.out 2 _ rfl) Try.underlying35 rfl (by kernel_rfl), rfl, Below.refl _ _⟩
          refine Steps.cons (step_enter rfl fun xa W hp => ?_) ?_
          · have f0 : xa.tmps.getD 28 undef = .slice xo nd.outs.length co := (hp.on_ 15 rfl rfl rfl).2
            refine ⟨wanted_none rfl, 46, _, run_enter1 rfl rfl Try.call46, ?_⟩
            show Calls _ _ #[xa.tmps.getD 28 undef] W _
            rw [f0]
            refine (backVars_any nd.outs W (by have h1 := hp.below.size; have h2 := HBS.out; have h3 := HW.out; omega) _ xo co (IsD.keep hp.below.size (fun k _ hl => hp.below.block k hl) (fun _ h _ => h) _ HOU.out)).mono (fun e' W' h => ?_)
            obtain ⟨x', c', h1, h2, h3⟩ := h
            exact ⟨_, h1, ⟨x', c', rfl, IsD.monoB hp.below.size h2⟩, h3⟩
          refine Steps.cons (step_value rfl fun xa W hp => ⟨wanted_none rfl, _, _, run_move (.inl rfl), hp.old 0 rfl, Below.refl _ _⟩) ?_
          refine Steps.cons (step_value rfl fun xa W hp => ⟨wanted_none rfl, _, _, run_move (.inl rfl), hp.old 4 rfl, Below.refl _ _⟩) ?_
          refine Steps.cons (step_value rfl fun xa W hp => ?_) ?_
          · have f0 : xa.tmps.getD 30 undef = .slice (some ⟨g, 0, none⟩) l.length c := (hp.on_ 17 rfl rfl rfl).2
            have f1 : xa.tmps.getD 31 undef = .int .i64 (i : Int) := (hp.on_ 18 rfl rfl rfl).2
            exact ⟨wanted_none rfl, _, _, run_idxG Try.underlying23 size_n4 rfl f0 f1 HIL.out, rfl, Below.refl _ _⟩
          refine Steps.cons (step_value rfl fun xa W hp => ?_) ?_
          · have f0 : xa.tmps.getD 32 undef = .pointer (some ⟨g, i * 6, none⟩) := (hp.on_ 19 rfl rfl rfl).2
            exact ⟨wanted_none rfl, _, _, run_fa4 rfl f0 (fa_n4_3 _ _ W), rfl, Below.refl _ _⟩
          refine Steps.cons (step_value rfl fun xa W hp => ?_) ?_
          · have f0 : xa.tmps.getD 33 undef = .pointer (some ⟨g, i * 6 + 3, none⟩) := (hp.on_ 20 rfl rfl rfl).2
            exact ⟨wanted_none rfl, _, _, run_ldv rfl f0 (rangeAt_below HRG.out hp.below HG.out 3 _ rfl) Try.underlying35 rfl (by kernel_rfl), rfl, Below.refl _ _⟩
          refine Steps.cons (step_enter rfl fun xa W hp => ?_) ?_
          · have f0 : xa.tmps.getD 34 undef = .slice xl nd.locs.length cl := (hp.on_ 21 rfl rfl rfl).2
            refine ⟨wanted_none rfl, 46, _, run_enter1 rfl rfl Try.call46, ?_⟩
            show Calls _ _ #[xa.tmps.getD 34 undef] W _
            rw [f0]
            refine (backVars_any nd.locs W (by have h1 := hp.below.size; have h2 := HBS.out; have h3 := HW.out; omega) _ xl cl (IsD.keep hp.below.size (fun k _ hl => hp.below.block k hl) (fun _ h _ => h) _ HLO.out)).mono (fun e' W' h => ?_)
            obtain ⟨x', c', h1, h2, h3⟩ := h
            exact ⟨_, h1, ⟨x', c', rfl, IsD.monoB hp.below.size h2⟩, h3⟩
          refine Steps.cons (step_value rfl fun xa W hp => ⟨wanted_none rfl, _, _, run_move (.inl rfl), hp.old 0 rfl, Below.refl _ _⟩) ?_
          refine Steps.cons (step_value rfl fun xa W hp => ⟨wanted_none rfl, _, _, run_move (.inl rfl), hp.old 4 rfl, Below.refl _ _⟩) ?_
          refine Steps.cons (step_value rfl fun xa W hp => ?_) ?_
          · have f0 : xa.tmps.getD 36 undef = .slice (some ⟨g, 0, none⟩) l.length c := (hp.on_ 23 rfl rfl rfl).2
            have f1 : xa.tmps.getD 37 undef = .int .i64 (i : Int) := (hp.on_ 24 rfl rfl rfl).2
            exact ⟨wanted_none rfl, _, _, run_idxG Try.underlying23 size_n4 rfl f0 f1 HIL.out, rfl, Below.refl _ _⟩
          refine Steps.cons (step_value rfl fun xa W hp => ?_) ?_
          · have f0 : xa.tmps.getD 38 undef = .pointer (some ⟨g, i * 6, none⟩) := (hp.on_ 25 rfl rfl rfl).2
            exact ⟨wanted_none rfl, _, _, run_fa4 rfl f0 (fa_n4_5 _ _ W), rfl, Below.refl _ _⟩
          refine Steps.cons (step_value rfl fun xa W hp => ?_) ?_
          · have f0 : xa.tmps.getD 39 undef = .pointer (some ⟨g, i * 6 + 5, none⟩) := (hp.on_ 26 rfl rfl rfl).2
            exact ⟨wanted_none rfl, _, _, run_ldv rfl f0 (rangeAt_below HRG.out hp.below HG.out 5 _ rfl) Try.underlying3 rfl (by kernel_rfl), rfl, Below.refl _ _⟩
          refine Steps.cons (step_value rfl fun xa W hp => ?_) ?_
          · have f0 : xa.tmps.getD 17 undef = .string nd.name := (hp.on_ 4 rfl rfl rfl).2
            obtain ⟨x1, c1, e1, t1⟩ : wVars wr.heap.size nd.ins (xa.tmps.getD 23 undef) W := (hp.on_ 10 rfl rfl rfl).2
            obtain ⟨x2, c2, e2, t2⟩ : wVars wr.heap.size nd.outs (xa.tmps.getD 29 undef) W := (hp.on_ 16 rfl rfl rfl).2
            obtain ⟨x3, c3, e3, t3⟩ : wVars wr.heap.size nd.locs (xa.tmps.getD 35 undef) W := (hp.on_ 22 rfl rfl rfl).2
            have f4 : xa.tmps.getD 40 undef = .int .i64 (nd.at_ : Int) := (hp.on_ 27 rfl rfl rfl).2
            refine ⟨wanted_none rfl, _, _, run_bld5 rfl ?_, ⟨x1, c1, x2, c2, x3, c3, rfl, t1, t2, t3⟩, Below.refl _ _⟩
            show (Instr.build _ #[(0, xa.tmps.getD 17 undef), (1, xa.tmps.getD 23 undef), (2, xa.tmps.getD 29 undef), (3, xa.tmps.getD 35 undef), (5, xa.tmps.getD 40 undef)]).run _ W = _
            rw [f0, e1, e2, e3, f4]
            exact build_nS _ _ _ _ _ _ _ _ _ _ _ W
          refine Steps.cons (step_value rfl fun xa W hp => ⟨wanted_none rfl, _, _, alloc_nS rfl, ⟨W.heap.size, rfl, hp.below.size, heap_alloc_new W _⟩, (Below.refl _ _).alloc (Nat.le_refl _) _⟩) ?_
          exact Steps.nil
      case last =>
          intro xa W hI
          obtain ⟨xi2, ci2, xo2, co2, xl2, cl2, h41, t1, t2, t3⟩ : wNode wr.heap.size nd (xa.tmps.getD 41 undef) W := hI.new 28 _ 41 rfl rfl rfl
          obtain ⟨b, h5_, hbB, hbr⟩ : wNew wr.heap.size (xa.tmps.getD 5 undef) W := hI.new 29 _ 5 rfl rfl rfl
          refine wpOp_of rfl (wanted_none rfl) ?_
          refine wp_store_row 49 (.tmp 5) (.tmp 41) rfl b #[.string nd.name, .slice xi2 nd.ins.length ci2, .slice xo2 nd.outs.length co2, .slice xl2 nd.locs.length cl2, .slice none 0 0, .int .i64 (nd.at_ : Int)] h5_ h41 49 _ hbr size_nS rfl (n4_one _ _ _ _ _ _ _ _ _ _ _ _ _ _) ?_
          have hset := setRow_heap W b _ #[.string nd.name, .slice xi2 nd.ins.length ci2, .slice xo2 nd.outs.length co2, .slice xl2 nd.locs.length cl2, .slice none 0 0, .int .i64 (nd.at_ : Int)] _ _ hbr
          have hgr : W.grownBy (W.setRow b #[.string nd.name, .slice xi2 nd.ins.length ci2, .slice xo2 nd.outs.length co2, .slice xl2 nd.locs.length cl2, .slice none 0 0, .int .i64 (nd.at_ : Int)]) (some b) := ⟨rfl, rfl, rfl, by rw [setRow_size]; exact Nat.le_refl _, fun k _ hk => setRow_other W b k _ (fun e => hk (by rw [e]))⟩
          have hsz1 : (W.setRow b #[.string nd.name, .slice xi2 nd.ins.length ci2, .slice xo2 nd.outs.length co2, .slice xl2 nd.locs.length cl2, .slice none 0 0, .int .i64 (nd.at_ : Int)]).heap.size = W.heap.size := setRow_size ..
          have hbW : b < W.heap.size := (Array.getElem?_eq_some_iff.1 hbr).1
          have q : wEqs wr W.heap.size b #[.string nd.name, .slice xi2 nd.ins.length ci2, .slice xo2 nd.outs.length co2, .slice xl2 nd.locs.length cl2, .slice none 0 0, .int .i64 (nd.at_ : Int)] [(.slice xi2 nd.ins.length ci2, .sl nd.ins.length (vrsD nd.ins)), (.slice xo2 nd.outs.length co2, .sl nd.outs.length (vrsD nd.outs)), (.slice xl2 nd.locs.length cl2, .sl nd.locs.length (vrsD nd.locs))] 0 (qesD (nd.eqs.take 0)) (.slice none 0 0) (W.setRow b #[.string nd.name, .slice xi2 nd.ins.length ci2, .slice xo2 nd.outs.length co2, .slice xl2 nd.locs.length cl2, .slice none 0 0, .int .i64 (nd.at_ : Int)]) := by
            refine ⟨below_setRow hI.below hbB _, by rw [hsz1]; exact Nat.le_refl _, hset, fun y hy => ?_, by rw [List.take_zero]; exact OwnD.nil _ _ _ _⟩
            simp only [List.mem_cons, List.not_mem_nil, or_false] at hy
            rcases hy with rfl | rfl | rfl
            · exact (vars_apart t1 hbr).grown hgr (fun k hk hk' => by injection hk with hk; exact hk'.2.1 hk.symm)
            · exact (vars_apart t2 hbr).grown hgr (fun k hk hk' => by injection hk with hk; exact hk'.2.1 hk.symm)
            · exact (vars_apart t3 hbr).grown hgr (fun k hk hk' => by injection hk with hk; exact hk'.2.1 hk.symm)
          obtain ⟨m, hm⟩ : ∃ m, m = W.heap.size := ⟨_, rfl⟩
          rw [← hm] at q hbW
          obtain ⟨w1, hw1⟩ : ∃ w1, w1 = W.setRow b #[.string nd.name, .slice xi2 nd.ins.length ci2, .slice xo2 nd.outs.length co2, .slice xl2 nd.locs.length cl2, .slice none 0 0, .int .i64 (nd.at_ : Int)] := ⟨_, rfl⟩
          rw [← hw1] at q ⊢
          have HQ := Lib.hid q
          have HBW := Lib.hid hbW
          have HBB := Lib.hid hbB
          clear q hset hgr hsz1 hbr t1 t2 t3 hm hw1 hbW hbB
          have h0 : xa.tmps.getD 0 undef = .slice (some ⟨g, 0, none⟩) l.length c := hI.old 0 (by simp)
          have h1 : xa.tmps.getD 1 undef = undef := hI.old 1 (by simp)
          have h2 : xa.tmps.getD 2 undef = .slice none 0 0 := hI.old 2 (by simp)
          have h3 : xa.tmps.getD 3 undef = .slice xv i cv := hI.old 3 (by simp)
          have h4 : xa.tmps.getD 4 undef = .int .i64 (i : Int) := hI.old 4 (by simp)
          have h5 : xa.tmps.getD 5 undef = .pointer (some ⟨b, 0, none⟩) := h5_
          have h90 : xa.tmps.getD 90 undef = undef := hI.old 90 (by simp)
          have hsz_ : xa.tmps.size = 91 := hI.tmps
          have hdf_ : xa.defers = [] := hI.defers
          obtain ⟨fo, hf, hx⟩ := act_eta hsz_ hdf_
          rw [hf] at h0 h1 h2 h3 h4 h5 h90
          clear hI h5_ h41 hsz_ hdf_ hf
          subst hx
          have hl : ((List.range 91).map fo).toArray = #[fo 0, fo 1, fo 2, fo 3, fo 4, fo 5, fo 6, fo 7, fo 8, fo 9, fo 10, fo 11, fo 12, fo 13, fo 14, fo 15, fo 16, fo 17, fo 18, fo 19, fo 20, fo 21, fo 22, fo 23, fo 24, fo 25, fo 26, fo 27, fo 28, fo 29, fo 30, fo 31, fo 32, fo 33, fo 34, fo 35, fo 36, fo 37, fo 38, fo 39, fo 40, fo 41, fo 42, fo 43, fo 44, fo 45, fo 46, fo 47, fo 48, fo 49, fo 50, fo 51, fo 52, fo 53, fo 54, fo 55, fo 56, fo 57, fo 58, fo 59, fo 60, fo 61, fo 62, fo 63, fo 64, fo 65, fo 66, fo 67, fo 68, fo 69, fo 70, fo 71, fo 72, fo 73, fo 74, fo 75, fo 76, fo 77, fo 78, fo 79, fo 80, fo 81, fo 82, fo 83, fo 84, fo 85, fo 86, fo 87, fo 88, fo 89, fo 90] := rfl
          simp only [Exit.inBlock, Exit.then, Act.put]
          rw [hl, h0, h1, h2, h3, h4, h5, h90]
          clear hl h0 h1 h2 h3 h4 h5 h90
          obtain ⟨wo, rfl⟩ : ∃ wo : World, wo = wr := ⟨wr, rfl⟩
          go_wp2_with fail
          go_loopw [6] (fun v6 wr => ∃ (k : Nat) (xe2 : Option Addr) (ce2 : Nat), v6 = .int .i64 (k : Int) ∧ k ≤ nd.eqs.length ∧ wEqs wo m b #[.string nd.name, .slice xi2 nd.ins.length ci2, .slice xo2 nd.outs.length co2, .slice xl2 nd.locs.length cl2, .slice xe2 k ce2, .int .i64 (nd.at_ : Int)] [(.slice xi2 nd.ins.length ci2, .sl nd.ins.length (vrsD nd.ins)), (.slice xo2 nd.outs.length co2, .sl nd.outs.length (vrsD nd.outs)), (.slice xl2 nd.locs.length cl2, .sl nd.locs.length (vrsD nd.locs))] k (qesD (nd.eqs.take k)) (.slice xe2 k ce2) wr)
            (fun v6 _ => nd.eqs.length - (intOf v6).toNat)
          case atStart => exact ⟨0, none, 0, rfl, Nat.zero_le _, HQ.out⟩
          case round =>
            clear HQ
            obtain ⟨k, xe2, ce2, rfl, hk, hq⟩ := hrel
            have HK2 := Lib.hid hk
            have HQ := Lib.hid hq
            have HRGo := HRG
            have HGo := HG
            clear hk hq HRG HG
            have HRG := Lib.hid (rangeAt_below HRGo.out HQ.out.1 HGo.out)
            have HG := Lib.hid (show g < wr.heap.size from Nat.lt_of_lt_of_le HGo.out HQ.out.1.size)
            have HRB := Lib.hid HQ.out.2.2.1
            have HBL := Lib.hid (show b < wr.heap.size from (Array.getElem?_eq_some_iff.1 HQ.out.2.2.1).1)
            have cE : wr.cell? ⟨g, i * 6 + 4, none⟩ = some (.slice xe nd.eqs.length ce) := HRG.out 4 _ rfl
            have i0 : (0 : Int) ≤ (i : Int) := by omega
            have i1 : (i : Int) < (l.length : Int) := by have := HIL.out; omega
            have i2 : (i : Int) < 1000000000 := by have := HIL.out; have := IsD.few HK.out; omega
            by_cases hkl : k < nd.eqs.length
            · have d2 : decide ((k : Int) < (nd.eqs.length : Int)) = true := by simp; omega
              have HKL := Lib.hid hkl
              clear hkl
              obtain ⟨ge, rfl, hge, xk, ck, hrq, hkd⟩ := qe_at HEQ.out k HKL.out
              obtain ⟨q, hqq⟩ : ∃ q, q = nd.eqs[k]'HKL.out := ⟨_, rfl⟩
              rw [← hqq] at hrq hkd
              have HQD := Lib.hid hqq
              have HRQ := Lib.hid (rangeAt_below hrq HQ.out.1 hge)
              have HGQ := Lib.hid (show ge < wr.heap.size from Nat.lt_of_lt_of_le hge HQ.out.1.size)
              have HKD := Lib.hid (show KidsD (fun j => (ok j ∧ j < w.heap.size) ∧ j < wo.heap.size) wr q.e xk ck from IsD.keep HQ.out.1.size (fun j _ hl => HQ.out.1.block j hl) (fun j hj hl => ⟨hj, hl⟩) _ hkd)
              clear hge hrq hkd hqq
              go_upto_if 49 with fail
              clear cE i1 i2
              go_upto_region 9 with fail
              refine wp_region_steps_then3 (words [wIs (.pointer (some ⟨b, 4, none⟩)), wIs (.slice xe2 k ce2), wIs (.slice (some ⟨g, 0, none⟩) l.length c), wIs (.int .i64 (i : Int)), wIs (.pointer (some ⟨g, i * 6, none⟩)), wIs (.pointer (some ⟨g, i * 6 + 4, none⟩)), wIs (.slice (some ⟨ge, 0, none⟩) nd.eqs.length ce), wIs (.int .i64 (k : Int)), wIs (.pointer (some ⟨ge, k * 7, none⟩)), wIs (.pointer (some ⟨ge, k * 7 + 0, none⟩)), wIs (.string q.name), wIs (.slice (some ⟨g, 0, none⟩) l.length c), wIs (.int .i64 (i : Int)), wIs (.pointer (some ⟨g, i * 6, none⟩)), wIs (.pointer (some ⟨g, i * 6 + 4, none⟩)), wIs (.slice (some ⟨ge, 0, none⟩) nd.eqs.length ce), wIs (.int .i64 (k : Int)), wIs (.pointer (some ⟨ge, k * 7, none⟩)), wIs (.pointer (some ⟨ge, k * 7 + 1, none⟩)), wIs (exV q.e xk ck), wKid wr.heap.size q.e, wIs (.slice (some ⟨g, 0, none⟩) l.length c), wIs (.int .i64 (i : Int)), wIs (.pointer (some ⟨g, i * 6, none⟩)), wIs (.pointer (some ⟨g, i * 6 + 4, none⟩)), wIs (.slice (some ⟨ge, 0, none⟩) nd.eqs.length ce), wIs (.int .i64 (k : Int)), wIs (.pointer (some ⟨ge, k * 7, none⟩)), wIs (.pointer (some ⟨ge, k * 7 + 6, none⟩)), wIs (.int .i64 (q.at_ : Int)), wEq wr.heap.size q, wRow wr.heap.size (qeD q), wEqs wo m b #[.string nd.name, .slice xi2 nd.ins.length ci2, .slice xo2 nd.outs.length co2, .slice xl2 nd.locs.length cl2, .slice xe2 k ce2, .int .i64 (nd.at_ : Int)] [(.slice xi2 nd.ins.length ci2, .sl nd.ins.length (vrsD nd.ins)), (.slice xo2 nd.outs.length co2, .sl nd.outs.length (vrsD nd.outs)), (.slice xl2 nd.locs.length cl2, .sl nd.locs.length (vrsD nd.locs))] (k + 1) (qesD (nd.eqs.take (k + 1))), wIs (.pointer (some ⟨b, 4, none⟩))]) wr.heap.size wr (by kernel_rfl) (Below.refl _ _) (Nat.le_refl _) (words_stable ?stab) rfl rfl (by kernel_rfl) 32 (by kernel_rfl) _ _ _ rfl rfl rfl 84 85 rfl rfl (.pointer (some ⟨b, 4, none⟩)) (fun v W => Iff.rfl) ?steps ?fa ?app ?fin
              case stab =>
                intro f hf
                simp only [List.mem_cons, List.not_mem_nil, or_false] at hf
                rcases hf with rfl | rfl | rfl | rfl | rfl | rfl | rfl | rfl | rfl | rfl | rfl | rfl | rfl | rfl | rfl | rfl | rfl | rfl | rfl | rfl | rfl | rfl | rfl | rfl | rfl | rfl | rfl | rfl | rfl | rfl | rfl | rfl | rfl | rfl <;> first | exact stable_is _ | exact stable_kid _ _ | exact stable_row _ _ | exact stable_eq _ _ | exact stable_eqs _ _ _ _ _ _ _
              case steps =>
                refine Steps.cons (step_value rfl fun xa W hp => ?_) ?_
                · have f0 : xa.tmps.getD 5 undef = .pointer (some ⟨b, 0, none⟩) := hp.old 5 rfl
                  exact ⟨wanted_none rfl, _, _, run_fa4 rfl f0 (fa_nS4 _ W), rfl, Below.refl _ _⟩
                refine Steps.cons (step_value rfl fun xa W hp => ?_) ?_
                · have f0 : xa.tmps.getD 52 undef = .pointer (some ⟨b, 4, none⟩) := (hp.on_ 0 rfl rfl rfl).2
                  exact ⟨wanted_none rfl, _, _, run_ldv rfl f0 (cell_of_row W b 4 _ _ _ ((hp.below.block b HBL.out).trans HRB.out)) Try.underlying47 rfl size_qsl, rfl, Below.refl _ _⟩
                refine Steps.cons (step_value rfl fun xa W hp => ⟨wanted_none rfl, _, _, run_move (.inl rfl), hp.old 0 rfl, Below.refl _ _⟩) ?_
                refine Steps.cons (step_value rfl fun xa W hp => ⟨wanted_none rfl, _, _, run_move (.inl rfl), hp.old 4 rfl, Below.refl _ _⟩) ?_
                refine Steps.cons (step_value rfl fun xa W hp => ?_) ?_
                · have f0 : xa.tmps.getD 54 undef = .slice (some ⟨g, 0, none⟩) l.length c := (hp.on_ 2 rfl rfl rfl).2
                  have f1 : xa.tmps.getD 55 undef = .int .i64 (i : Int) := (hp.on_ 3 rfl rfl rfl).2
                  exact ⟨wanted_none rfl, _, _, run_idxG Try.underlying23 size_n4 rfl f0 f1 HIL.out, rfl, Below.refl _ _⟩
                refine Steps.cons (step_value rfl fun xa W hp => ?_) ?_
                · have f0 : xa.tmps.getD 56 undef = .pointer (some ⟨g, i * 6, none⟩) := (hp.on_ 4 rfl rfl rfl).2
                  exact ⟨wanted_none rfl, _, _, run_fa4 rfl f0 (fa_n4_4 _ _ W), rfl, Below.refl _ _⟩
                refine Steps.cons (step_value rfl fun xa W hp => ?_) ?_
                · have f0 : xa.tmps.getD 57 undef = .pointer (some ⟨g, i * 6 + 4, none⟩) := (hp.on_ 5 rfl rfl rfl).2
                  exact ⟨wanted_none rfl, _, _, run_ldv rfl f0 (rangeAt_below HRG.out hp.below HG.out 4 _ rfl) Try.underlying36 rfl (by kernel_rfl), rfl, Below.refl _ _⟩
                refine Steps.cons (step_value rfl fun xa W hp => ⟨wanted_none rfl, _, _, run_move (.inl rfl), hp.old 6 rfl, Below.refl _ _⟩) ?_
                refine Steps.cons (step_value rfl fun xa W hp => ?_) ?_
                · have f0 : xa.tmps.getD 58 undef = .slice (some ⟨ge, 0, none⟩) nd.eqs.length ce := (hp.on_ 6 rfl rfl rfl).2
                  have f1 : xa.tmps.getD 59 undef = .int .i64 (k : Int) := (hp.on_ 7 rfl rfl rfl).2
                  exact ⟨wanted_none rfl, _, _, run_idxG Try.underlying36 size_q4 rfl f0 f1 HKL.out, rfl, Below.refl _ _⟩
                refine Steps.cons (step_value rfl fun xa W hp => ?_) ?_
                · have f0 : xa.tmps.getD 60 undef = .pointer (some ⟨ge, k * 7, none⟩) := (hp.on_ 8 rfl rfl rfl).2
                  exact ⟨wanted_none rfl, _, _, run_fa4 rfl f0 (fa_q4_0 _ _ W), rfl, Below.refl _ _⟩
                refine Steps.cons (step_value rfl fun xa W hp => ?_) ?_
                · have f0 : xa.tmps.getD 61 undef = .pointer (some ⟨ge, k * 7 + 0, none⟩) := (hp.on_ 9 rfl rfl rfl).2
                  exact ⟨wanted_none rfl, _, _, run_ldv rfl f0 (rangeAt_below HRQ.out hp.below HGQ.out 0 _ rfl) Try.underlying9 rfl (by kernel_rfl), rfl, Below.refl _ _⟩
                refine Steps.cons (step_value rfl fun xa W hp => ⟨wanted_none rfl, _, _, run_move (.inl rfl), hp.old 0 rfl, Below.refl _ _⟩) ?_
                refine Steps.cons (step_value rfl fun xa W hp => ⟨wanted_none rfl, _, _, run_move (.inl rfl), hp.old 4 rfl, Below.refl _ _⟩) ?_
                refine Steps.cons (step_value rfl fun xa W hp => ?_) ?_
                · have f0 : xa.tmps.getD 63 undef = .slice (some ⟨g, 0, none⟩) l.length c := (hp.on_ 11 rfl rfl rfl).2
                  have f1 : xa.tmps.getD 64 undef = .int .i64 (i : Int) := (hp.on_ 12 rfl rfl rfl).2
                  exact ⟨wanted_none rfl, _, _, run_idxG Try.underlying23 size_n4 rfl f0 f1 HIL.out, rfl, Below.refl _ _⟩
                refine Steps.cons (step_value rfl fun xa W hp => ?_) ?_
                · have f0 : xa.tmps.getD 65 undef = .pointer (some ⟨g, i * 6, none⟩) := (hp.on_ 13 rfl rfl rfl).2
                  exact ⟨wanted_none rfl, _, _, run_fa4 rfl f0 (fa_n4_4 _ _ W), rfl, Below.refl _ _⟩
                refine Steps.cons (step_value rfl fun xa W hp => ?_) ?_
                · have f0 : xa.tmps.getD 66 undef = .pointer (some ⟨g, i * 6 + 4, none⟩) := (hp.on_ 14 rfl rfl rfl).2
                  exact ⟨wanted_none rfl, _, _, run_ldv rfl f0 (rangeAt_below HRG.out hp.below HG.out 4 _ rfl) Try.underlying36 rfl (by kernel_rfl), rfl, Below.refl _ _⟩
                refine Steps.cons (step_value rfl fun xa W hp => ⟨wanted_none rfl, _, _, run_move (.inl rfl), hp.old 6 rfl, Below.refl _ _⟩) ?_
                refine Steps.cons (step_value rfl fun xa W hp => ?_) ?_
                · have f0 : xa.tmps.getD 67 undef = .slice (some ⟨ge, 0, none⟩) nd.eqs.length ce := (hp.on_ 15 rfl rfl rfl).2
                  have f1 : xa.tmps.getD 68 undef = .int .i64 (k : Int) := (hp.on_ 16 rfl rfl rfl).2
                  exact ⟨wanted_none rfl, _, _, run_idxG Try.underlying36 size_q4 rfl f0 f1 HKL.out, rfl, Below.refl _ _⟩
                refine Steps.cons (step_value rfl fun xa W hp => ?_) ?_
                · have f0 : xa.tmps.getD 69 undef = .pointer (some ⟨ge, k * 7, none⟩) := (hp.on_ 17 rfl rfl rfl).2
                  exact ⟨wanted_none rfl, _, _, run_fa4 rfl f0 (fa_q4_1 _ _ W), rfl, Below.refl _ _⟩
                refine Steps.cons (step_value rfl fun xa W hp => ?_) ?_
                · have f0 : xa.tmps.getD 70 undef = .pointer (some ⟨ge, k * 7 + 1, none⟩) := (hp.on_ 18 rfl rfl rfl).2
                  exact ⟨wanted_none rfl, _, _, run_ldmidG rfl f0 (vs := exC q.e xk ck) ((fun W' hb' => qe_mid (rangeAt_below HRQ.out hb' HGQ.out)) W hp.below) rfl Try.underlying53 (by kernel_rfl), rfl, Below.refl _ _⟩
                refine Steps.cons (step_enter rfl fun xa W hp => ?_) ?_
                · have f0 : xa.tmps.getD 71 undef = exV q.e xk ck := (hp.on_ 19 rfl rfl rfl).2
                  refine ⟨wanted_none rfl, 47, _, run_enter1 rfl rfl Try.call47, ?_⟩
                  show Calls _ _ #[xa.tmps.getD 71 undef] W _
                  rw [f0]
                  refine (back_lt _ q.e (Nat.lt_succ_self _) W _ xk ck (IsD.keep hp.below.size (fun k _ hl => hp.below.block k hl) (fun _ h _ => h) _ HKD.out)).mono (fun e' W' h => ?_)
                  obtain ⟨x', c', h1, h2, h3⟩ := h
                  exact ⟨_, h1, ⟨x', c', rfl, IsD.monoB hp.below.size h2⟩, h3⟩
                refine Steps.cons (step_value rfl fun xa W hp => ⟨wanted_none rfl, _, _, run_move (.inl rfl), hp.old 0 rfl, Below.refl _ _⟩) ?_
                refine Steps.cons (step_value rfl fun xa W hp => ⟨wanted_none rfl, _, _, run_move (.inl rfl), hp.old 4 rfl, Below.refl _ _⟩) ?_
                refine Steps.cons (step_value rfl fun xa W hp => ?_) ?_
                · have f0 : xa.tmps.getD 73 undef = .slice (some ⟨g, 0, none⟩) l.length c := (hp.on_ 21 rfl rfl rfl).2
                  have f1 : xa.tmps.getD 74 undef = .int .i64 (i : Int) := (hp.on_ 22 rfl rfl rfl).2
                  exact ⟨wanted_none rfl, _, _, run_idxG Try.underlying23 size_n4 rfl f0 f1 HIL.out, rfl, Below.refl _ _⟩
                refine Steps.cons (step_value rfl fun xa W hp => ?_) ?_
                · have f0 : xa.tmps.getD 75 undef = .pointer (some ⟨g, i * 6, none⟩) := (hp.on_ 23 rfl rfl rfl).2
                  exact ⟨wanted_none rfl, _, _, run_fa4 rfl f0 (fa_n4_4 _ _ W), rfl, Below.refl _ _⟩
                refine Steps.cons (step_value rfl fun xa W hp => ?_) ?_
                · have f0 : xa.tmps.getD 76 undef = .pointer (some ⟨g, i * 6 + 4, none⟩) := (hp.on_ 24 rfl rfl rfl).2
                  exact ⟨wanted_none rfl, _, _, run_ldv rfl f0 (rangeAt_below HRG.out hp.below HG.out 4 _ rfl) Try.underlying36 rfl (by kernel_rfl), rfl, Below.refl _ _⟩
                refine Steps.cons (step_value rfl fun xa W hp => ⟨wanted_none rfl, _, _, run_move (.inl rfl), hp.old 6 rfl, Below.refl _ _⟩) ?_
                refine Steps.cons (step_value rfl fun xa W hp => ?_) ?_
                · have f0 : xa.tmps.getD 77 undef = .slice (some ⟨ge, 0, none⟩) nd.eqs.length ce := (hp.on_ 25 rfl rfl rfl).2
                  have f1 : xa.tmps.getD 78 undef = .int .i64 (k : Int) := (hp.on_ 26 rfl rfl rfl).2
                  exact ⟨wanted_none rfl, _, _, run_idxG Try.underlying36 size_q4 rfl f0 f1 HKL.out, rfl, Below.refl _ _⟩
                refine Steps.cons (step_value rfl fun xa W hp => ?_) ?_
                · have f0 : xa.tmps.getD 79 undef = .pointer (some ⟨ge, k * 7, none⟩) := (hp.on_ 27 rfl rfl rfl).2
                  exact ⟨wanted_none rfl, _, _, run_fa4 rfl f0 (fa_q4_2 _ _ W), rfl, Below.refl _ _⟩
                refine Steps.cons (step_value rfl fun xa W hp => ?_) ?_
                · have f0 : xa.tmps.getD 80 undef = .pointer (some ⟨ge, k * 7 + 6, none⟩) := (hp.on_ 28 rfl rfl rfl).2
                  exact ⟨wanted_none rfl, _, _, run_ldv rfl f0 (rangeAt_below HRQ.out hp.below HGQ.out 6 _ rfl) Try.underlying3 rfl (by kernel_rfl), rfl, Below.refl _ _⟩
                refine Steps.cons (step_value rfl fun xa W hp => ?_) ?_
                · have f0 : xa.tmps.getD 62 undef = .string q.name := (hp.on_ 10 rfl rfl rfl).2
                  obtain ⟨x1, c1, e1, t1⟩ : wKid wr.heap.size q.e (xa.tmps.getD 72 undef) W := (hp.on_ 20 rfl rfl rfl).2
                  have f2 : xa.tmps.getD 81 undef = .int .i64 (q.at_ : Int) := (hp.on_ 29 rfl rfl rfl).2
                  refine ⟨wanted_none rfl, _, _, run_bld3 rfl ?_, ⟨x1, c1, rfl, t1⟩, Below.refl _ _⟩
                  show (Instr.build _ #[(0, xa.tmps.getD 62 undef), (1, xa.tmps.getD 72 undef), (2, xa.tmps.getD 81 undef)]).run _ W = _
                  rw [f0, e1, f2]
                  exact build_qS _ _ _ _ _ _ _ _ _ W
                refine Steps.cons (step_value rfl fun xa W hp => ?_) ?_
                · obtain ⟨x1, c1, e1, t1⟩ : wEq wr.heap.size q (xa.tmps.getD 82 undef) W := (hp.on_ 30 rfl rfl rfl).2
                  refine ⟨wanted_none rfl, _, _, run_bsl1 rfl (by
                    show (Instr.buildSlice _ 1 #[(0, xa.tmps.getD 82 undef)]).run _ W = _
                    rw [e1]
                    exact slice_oneQ _ _ _ _ _ _ _ _ _ W), ⟨W.heap.size, rfl, ?_⟩, (Below.refl _ _).alloc (Nat.le_refl _) _⟩
                  exact IsD.made 45 _ W.heap.size rfl 1 (by decide) (by decide) (qeD q) hp.below.size (qeC_rows (e := q.e) t1)
                exact Steps.nil
              case fa =>
                intro xa W hold
                have f0 : xa.tmps.getD 5 undef = .pointer (some ⟨b, 0, none⟩) := hold 5 (by simp)
                exact wpOp_value rfl (wanted_none rfl) (run_fa4 rfl f0 (fa_nS4 _ W)) ⟨rfl, rfl⟩
              case app =>
                intro xa W hI
                have f53 : xa.tmps.getD 53 undef = .slice xe2 k ce2 := hI.new 1 _ 53 rfl rfl rfl
                obtain ⟨g', f83, h83⟩ : wRow wr.heap.size (qeD q) (xa.tmps.getD 83 undef) W := hI.new 31 _ 83 rfl rfl rfl
                obtain ⟨i7, hi7, ⟨z7, hz7, hzs7⟩, hs7, hb7⟩ := HIQ7.out
                obtain ⟨q1, q2, q3, q4, q5⟩ := HQ.out
                have hOW := q5.below hI.below
                have hbs := hI.below.size
                have hbm := HBW.out
                have hwb := HBB.out
                refine wpOp_appD rfl (wanted_none rfl) (.tmp 53) (.tmp 83) 47 rfl i7 z7 96 Try.underlying47 hi7 hz7 hs7 hb7 hzs7 (by decide) (by decide) f53 hOW (by omega) (m := 1) f83 (qeD q) (by rw [qeD_len]) (by decide) h83 (qeD_one q) (fun j hj hl => ⟨by have : wr.heap.size ≤ j := hj; omega, fun e' => by have := (q5.gt j e'.symm).2; have : wr.heap.size ≤ j := hj; omega⟩) (by have := HKL.out; have := IsD.few HEQ.out; omega) (fun v' w' j1 j2 => ⟨v', rfl, ?_⟩)
                have hgt : ∀ j, Value.ownBlock (.slice xe2 k ce2) = some j → m - 1 < j := fun j hj => (q5.gt j hj).1
                refine ⟨below_own (q1.trans (hI.below.mono q1.size)) j2 (fun j hj => by have := hgt j hj; omega), Nat.le_trans q2 (Nat.le_trans hbs j2.size), ?_, ?_, ?_⟩
                · exact (j2.block b (by omega) (fun e' => by have := hgt b e'.symm; omega)).trans ((hI.below.block b HBL.out).trans q3)
                · exact (tre_below q4 hI.below).grown j2 (fun j hj hj' => by have := hgt j hj; have := hj'.2.2; omega)
                · rw [HQD.out, qesD_take HKL.out] at j1
                  exact j1
              case fin =>
                intro xa W hdf hsz hold h84 h85_
                obtain ⟨r1, r2, r3, r4, r5⟩ : wEqs wo m b #[.string nd.name, .slice xi2 nd.ins.length ci2, .slice xo2 nd.outs.length co2, .slice xl2 nd.locs.length cl2, .slice xe2 k ce2, .int .i64 (nd.at_ : Int)] [(.slice xi2 nd.ins.length ci2, .sl nd.ins.length (vrsD nd.ins)), (.slice xo2 nd.outs.length co2, .sl nd.outs.length (vrsD nd.outs)), (.slice xl2 nd.locs.length cl2, .sl nd.locs.length (vrsD nd.locs))] (k + 1) (qesD (nd.eqs.take (k + 1))) (xa.tmps.getD 84 undef) W := h84
                obtain ⟨V, hV⟩ : ∃ V, V = xa.tmps.getD 84 undef := ⟨_, rfl⟩
                rw [← hV] at r5
                obtain ⟨xn, cn, rfl, _, _⟩ := r5.slice
                refine wpOp_of rfl (wanted_none rfl) ?_
                refine wp_store_cell 47 (.tmp 85) (.tmp 84) rfl b 4 (.slice xn (k + 1) cn) _ h85_ hV.symm (cell_of_row W b 4 _ _ _ r3) (frozen_of_row W b 4 _ _ r3) size_qsl rfl ?_
                have hgs := gb_set W b 4 (.slice xn (k + 1) cn)
                have hbm := HBW.out
                have hwb := HBB.out
                have HQN := Lib.hid (show wEqs wo m b #[.string nd.name, .slice xi2 nd.ins.length ci2, .slice xo2 nd.outs.length co2, .slice xl2 nd.locs.length cl2, .slice xn (k + 1) cn, .int .i64 (nd.at_ : Int)] [(.slice xi2 nd.ins.length ci2, .sl nd.ins.length (vrsD nd.ins)), (.slice xo2 nd.outs.length co2, .sl nd.outs.length (vrsD nd.outs)), (.slice xl2 nd.locs.length cl2, .sl nd.locs.length (vrsD nd.locs))] (k + 1) (qesD (nd.eqs.take (k + 1))) (.slice xn (k + 1) cn) (W.setCell ⟨b, 4, none⟩ (.slice xn (k + 1) cn)) from
                  ⟨below_own r1 hgs (fun j hj => by injection hj with hj; omega), Nat.le_trans r2 hgs.size, heap_setCell_same W b 4 _ _ _ r3, r4.grown hgs (fun j hj hj' => by injection hj with hj; exact hj'.2.1 hj.symm), r5.kept hgs (fun j hj => by injection hj with hj; omega)⟩)
                clear r1 r2 r3 r4 r5 hgs hbm hwb
                have h0 : xa.tmps.getD 0 undef = .slice (some ⟨g, 0, none⟩) l.length c := hold 0 (by simp)
                have h1 : xa.tmps.getD 1 undef = undef := hold 1 (by simp)
                have h2 : xa.tmps.getD 2 undef = .slice none 0 0 := hold 2 (by simp)
                have h3 : xa.tmps.getD 3 undef = .slice xv i cv := hold 3 (by simp)
                have h4 : xa.tmps.getD 4 undef = .int .i64 (i : Int) := hold 4 (by simp)
                have h5 : xa.tmps.getD 5 undef = .pointer (some ⟨b, 0, none⟩) := hold 5 (by simp)
                have h6 : xa.tmps.getD 6 undef = .int .i64 (k : Int) := hold 6 (by simp)
                have h7 : xa.tmps.getD 7 undef = fo 7 := hold 7 (by simp)
                have h8 : xa.tmps.getD 8 undef = fo 8 := hold 8 (by simp)
                have h9 : xa.tmps.getD 9 undef = fo 9 := hold 9 (by simp)
                have h10 : xa.tmps.getD 10 undef = fo 10 := hold 10 (by simp)
                have h11 : xa.tmps.getD 11 undef = fo 11 := hold 11 (by simp)
                have h12 : xa.tmps.getD 12 undef = fo 12 := hold 12 (by simp)
                have h13 : xa.tmps.getD 13 undef = fo 13 := hold 13 (by simp)
                have h14 : xa.tmps.getD 14 undef = fo 14 := hold 14 (by simp)
                have h15 : xa.tmps.getD 15 undef = fo 15 := hold 15 (by simp)
                have h16 : xa.tmps.getD 16 undef = fo 16 := hold 16 (by simp)
                have h17 : xa.tmps.getD 17 undef = fo 17 := hold 17 (by simp)
                have h18 : xa.tmps.getD 18 undef = fo 18 := hold 18 (by simp)
                have h19 : xa.tmps.getD 19 undef = fo 19 := hold 19 (by simp)
                have h20 : xa.tmps.getD 20 undef = fo 20 := hold 20 (by simp)
                have h21 : xa.tmps.getD 21 undef = fo 21 := hold 21 (by simp)
                have h22 : xa.tmps.getD 22 undef = fo 22 := hold 22 (by simp)
                have h23 : xa.tmps.getD 23 undef = fo 23 := hold 23 (by simp)
                have h24 : xa.tmps.getD 24 undef = fo 24 := hold 24 (by simp)
                have h25 : xa.tmps.getD 25 undef = fo 25 := hold 25 (by simp)
                have h26 : xa.tmps.getD 26 undef = fo 26 := hold 26 (by simp)
                have h27 : xa.tmps.getD 27 undef = fo 27 := hold 27 (by simp)
                have h28 : xa.tmps.getD 28 undef = fo 28 := hold 28 (by simp)
                have h29 : xa.tmps.getD 29 undef = fo 29 := hold 29 (by simp)
                have h30 : xa.tmps.getD 30 undef = fo 30 := hold 30 (by simp)
                have h31 : xa.tmps.getD 31 undef = fo 31 := hold 31 (by simp)
                have h32 : xa.tmps.getD 32 undef = fo 32 := hold 32 (by simp)
                have h33 : xa.tmps.getD 33 undef = fo 33 := hold 33 (by simp)
                have h34 : xa.tmps.getD 34 undef = fo 34 := hold 34 (by simp)
                have h35 : xa.tmps.getD 35 undef = fo 35 := hold 35 (by simp)
                have h36 : xa.tmps.getD 36 undef = fo 36 := hold 36 (by simp)
                have h37 : xa.tmps.getD 37 undef = fo 37 := hold 37 (by simp)
                have h38 : xa.tmps.getD 38 undef = fo 38 := hold 38 (by simp)
                have h39 : xa.tmps.getD 39 undef = fo 39 := hold 39 (by simp)
                have h40 : xa.tmps.getD 40 undef = fo 40 := hold 40 (by simp)
                have h41 : xa.tmps.getD 41 undef = fo 41 := hold 41 (by simp)
                have h86 : xa.tmps.getD 86 undef = fo 86 := hold 86 (by simp)
                have h87 : xa.tmps.getD 87 undef = fo 87 := hold 87 (by simp)
                have h88 : xa.tmps.getD 88 undef = fo 88 := hold 88 (by simp)
                have h89 : xa.tmps.getD 89 undef = fo 89 := hold 89 (by simp)
                have h90 : xa.tmps.getD 90 undef = undef := hold 90 (by simp)
                have hsz_ : xa.tmps.size = 91 := hsz
                have hdf_ : xa.defers = [] := hdf
                obtain ⟨fi, hf, hx⟩ := act_eta hsz_ hdf_
                rw [hf] at h0 h1 h2 h3 h4 h5 h6 h7 h8 h9 h10 h11 h12 h13 h14 h15 h16 h17 h18 h19 h20 h21 h22 h23 h24 h25 h26 h27 h28 h29 h30 h31 h32 h33 h34 h35 h36 h37 h38 h39 h40 h41 h86 h87 h88 h89 h90
                clear hold h85_ hV hsz_ hdf_ hf
                subst hx
                have hl : ((List.range 91).map fi).toArray = #[fi 0, fi 1, fi 2, fi 3, fi 4, fi 5, fi 6, fi 7, fi 8, fi 9, fi 10, fi 11, fi 12, fi 13, fi 14, fi 15, fi 16, fi 17, fi 18, fi 19, fi 20, fi 21, fi 22, fi 23, fi 24, fi 25, fi 26, fi 27, fi 28, fi 29, fi 30, fi 31, fi 32, fi 33, fi 34, fi 35, fi 36, fi 37, fi 38, fi 39, fi 40, fi 41, fi 42, fi 43, fi 44, fi 45, fi 46, fi 47, fi 48, fi 49, fi 50, fi 51, fi 52, fi 53, fi 54, fi 55, fi 56, fi 57, fi 58, fi 59, fi 60, fi 61, fi 62, fi 63, fi 64, fi 65, fi 66, fi 67, fi 68, fi 69, fi 70, fi 71, fi 72, fi 73, fi 74, fi 75, fi 76, fi 77, fi 78, fi 79, fi 80, fi 81, fi 82, fi 83, fi 84, fi 85, fi 86, fi 87, fi 88, fi 89, fi 90] := rfl
                simp only [Exit.inBlock, Exit.then, Act.put]
                rw [hl, h0, h1, h2, h3, h4, h5, h6, h7, h8, h9, h10, h11, h12, h13, h14, h15, h16, h17, h18, h19, h20, h21, h22, h23, h24, h25, h26, h27, h28, h29, h30, h31, h32, h33, h34, h35, h36, h37, h38, h39, h40, h41, h86, h87, h88, h89, h90]
                clear hl h0 h1 h2 h3 h4 h5 h6 h7 h8 h9 h10 h11 h12 h13 h14 h15 h16 h17 h18 h19 h20 h21 h22 h23 h24 h25 h26 h27 h28 h29 h30 h31 h32 h33 h34 h35 h36 h37 h38 h39 h40 h41 h86 h87 h88 h89 h90
                have k0 : (0 : Int) ≤ (k : Int) := by omega
                have k1 : (k : Int) < (nd.eqs.length : Int) := by have := HKL.out; omega
                have k2 : (k : Int) < 1000000000 := by have := HKL.out; have := IsD.few HEQ.out; omega
                go_wp2_with fail
                refine ⟨⟨k + 1, xn, cn, by go_num, HKL.out, HQN.out⟩, ?_⟩
                simp [intOf]; omega
            · have d2 : decide ((k : Int) < (nd.eqs.length : Int)) = false := by simp; omega
              obtain rfl : k = nd.eqs.length := by have := HK2.out; omega
              clear hkl
              obtain ⟨q1, q2, q3, q4, q5⟩ := HQ.out
              rw [List.take_length] at q5
              have hbm := HBW.out
              have hwb := HBB.out
              have htr : IsD (wo.heap.size ≤ ·) (wr.alloc (.cells #[.string nd.name, .slice xi2 nd.ins.length ci2, .slice xo2 nd.outs.length co2, .slice xl2 nd.locs.length cl2, .slice xe2 nd.eqs.length ce2, .int .i64 (nd.at_ : Int)] 49)) (.slice (some ⟨wr.heap.size, 0, none⟩) 1 1) (.sl 1 (ndD nd)) := IsD.made 49 _ wr.heap.size rfl 1 (by decide) (by decide) (ndD nd) q1.size (ndC_rows (n := nd) ((q4 _ (List.mem_cons_self ..)).mono (fun j hj _ => hj.1)) ((q4 _ (List.mem_cons_of_mem _ (List.mem_cons_self ..))).mono (fun j hj _ => hj.1)) ((q4 _ (List.mem_cons_of_mem _ (List.mem_cons_of_mem _ (List.mem_cons_self ..)))).mono (fun j hj _ => hj.1)) ((q5.ends (IsD.few HEQ.out)).mono (fun j hj _ => by have : m - 1 < j := hj; show wo.heap.size ≤ j; omega)))
              have hba : Below wo.heap.size wo (wr.alloc (.cells #[.string nd.name, .slice xi2 nd.ins.length ci2, .slice xo2 nd.outs.length co2, .slice xl2 nd.locs.length cl2, .slice xe2 nd.eqs.length ce2, .int .i64 (nd.at_ : Int)] 49)) := q1.alloc q1.size _
              have HO7 := Lib.hid (HO.out.below hba)
              have HTR := Lib.hid htr
              have HBA := Lib.hid hba
              have hsb := hba.size
              have HBW2 := Lib.hid (show (w.heap.size - 1) + 1 ≤ (wr.alloc (.cells #[.string nd.name, .slice xi2 nd.ins.length ci2, .slice xo2 nd.outs.length co2, .slice xl2 nd.locs.length cl2, .slice xe2 nd.eqs.length ce2, .int .i64 (nd.at_ : Int)] 49)).heap.size by have := HW.out; have := HB.out.size; omega)
              have HOK := Lib.hid (show ∀ j, wo.heap.size ≤ j → (w.heap.size - 1) < j ∧ some j ≠ Value.ownBlock (.slice xv i cv) from fun j hj => ⟨by have := HW.out; have := HB.out.size; omega, fun e' => by have := (HO.out.gt j e'.symm).2; omega⟩)
              have HNM := Lib.hid (show i + 1 ≤ 100000000000 by have := HIL.out; have := IsD.few HK.out; omega)
              obtain ⟨i6, hi6, ⟨z6, hz6, hzs6⟩, hs6, hb6⟩ := HIN6.out
              have HI6 := Lib.hid hi6
              have HZ6 := Lib.hid hz6
              have HZS6 := Lib.hid hzs6
              have HS6 := Lib.hid hs6
              have HB6 := Lib.hid hb6
              clear q1 q2 q3 q4 q5 hbm hwb htr hba hsb hi6 hz6 hzs6 hs6 hb6
              go_wp2_with (first | (refine wpList_load_row rfl 49 (.tmp 5) rfl b rfl 49 #[.string nd.name, .slice xi2 nd.ins.length ci2, .slice xo2 nd.outs.length co2, .slice xl2 nd.locs.length cl2, .slice xe2 nd.eqs.length ce2, .int .i64 (nd.at_ : Int)] (0, 0) _ HRB.out Try.underlying49 rfl HSN.out ?_) | (refine wpList_appT rfl (.tmp 86) (.tmp 88) 26 rfl i6 z6 120 Try.underlying26 HI6.out HZ6.out HS6.out HB6.out HZS6.out (by decide) (by decide) rfl HO7.out HBW2.out wr.heap.size 1 1 rfl (ndD nd) (by rw [ndD_len]) (by decide) HTR.out (ndD_one nd) (fun k hk hl => HOK.out k hk) HNM.out ?_))
              intro v8 w8 hO8 hg8 _
              rw [HND.out, ndsD_take HIL.out] at hO8
              have HBN := Lib.hid (below_own (HB.out.trans (HBA.out.mono HB.out.size)) hg8 (fun j hj => by have := (HO7.out.gt j hj).1; omega))
              have HON := Lib.hid hO8
              clear hO8 hg8 cE
              go_wp2_with fail
              refine ⟨⟨_, i + 1, rfl, by go_num, HIL.out, HBN.out, HON.out⟩, ?_⟩
              simp [intOf]; omega
    · have d1 : decide ((i : Int) < (l.length : Int)) = false := by simp; omega
      obtain rfl : i = l.length := by have := HI.out; omega
      clear hil
      go_wp2_with fail
      go_ret
      have h := HO.out
      rw [List.take_length] at h
      exact ⟨xv, cv, rfl, (h.ends (IsD.few HK.out)).mono (fun k hk _ => by have : (w.heap.size - 1) < k := hk; show w.heap.size ≤ k; omega), HB.out⟩
end Go.Proofs.Ytfajafjikpmgpaa

namespace Go.Proofs.Ytfajafjikpmgpaa
open Go Go.RowKit
structure Fx (w0 : World) (bl : List (Nat × TypeId × Array Value)) (w : World) : Prop where
  below : Below w0.heap.size w0 w
  blk : ∀ x ∈ bl, w.heap[x.1]? = some (.cells x.2.2 x.2.1 (0, 0)) ∧ w0.heap.size ≤ x.1
  srt : bl.Pairwise (fun x y => x.1 < y.1)
theorem Fx.start (w : World) : Fx w [] w := ⟨Below.refl _ _, fun x hx => by simp at hx, List.Pairwise.nil⟩
theorem Fx.lt {w0 w : World} {bl : List (Nat × TypeId × Array Value)} (h : Fx w0 bl w) : ∀ x ∈ bl, x.1 < w.heap.size := fun x hx => (Array.getElem?_eq_some_iff.1 (h.blk x hx).1).1
theorem Fx.get {w0 w : World} {bl : List (Nat × TypeId × Array Value)} (h : Fx w0 bl w) (i : Nat) {b : Nat} {T : TypeId} {cs : Array Value} (hi : bl[i]? = some (b, T, cs)) : w.heap[b]? = some (.cells cs T (0, 0)) :=
  (h.blk _ (List.mem_of_getElem? hi)).1
theorem Fx.ge {w0 w : World} {bl : List (Nat × TypeId × Array Value)} (h : Fx w0 bl w) (i : Nat) {b : Nat} {T : TypeId} {cs : Array Value} (hi : bl[i]? = some (b, T, cs)) : w0.heap.size ≤ b :=
  (h.blk _ (List.mem_of_getElem? hi)).2
theorem Fx.lt_ {w0 w : World} {bl : List (Nat × TypeId × Array Value)} (h : Fx w0 bl w) (i : Nat) {b : Nat} {T : TypeId} {cs : Array Value} (hi : bl[i]? = some (b, T, cs)) : b < w.heap.size :=
  h.lt _ (List.mem_of_getElem? hi)
/-- Behind a call. -/
theorem Fx.call {w0 w w' : World} {bl : List (Nat × TypeId × Array Value)} (h : Fx w0 bl w) (hb : Below w.heap.size w w') : Fx w0 bl w' :=
  ⟨h.below.trans (hb.mono h.below.size), fun x hx => ⟨(hb.block x.1 (h.lt x hx)).trans (h.blk x hx).1, (h.blk x hx).2⟩, h.srt⟩
/-- Behind an operation that turns one row which is none of these. -/
theorem Fx.own {w0 w w' : World} {bl : List (Nat × TypeId × Array Value)} {row : Option Nat} (h : Fx w0 bl w) (hg : w.grownBy w' row) (hr : ∀ k, row = some k → w0.heap.size ≤ k ∧ ∀ x ∈ bl, k ≠ x.1) : Fx w0 bl w' :=
  ⟨below_own h.below hg (fun k hk => (hr k hk).1), fun x hx => ⟨(hg.block x.1 (h.lt x hx) (fun e => (hr x.1 e.symm).2 x hx rfl)).trans (h.blk x hx).1, (h.blk x hx).2⟩, h.srt⟩
theorem Fx.alloc {w0 w : World} {bl : List (Nat × TypeId × Array Value)} (h : Fx w0 bl w) (b : Nat) (hb : b = w.heap.size) (T : TypeId) (cs : Array Value) : Fx w0 (bl ++ [(b, T, cs)]) (w.alloc (.cells cs T)) := by
  subst hb
  have hbel : Below w.heap.size w (w.alloc (.cells cs T)) := (Below.refl _ _).alloc (Nat.le_refl _) _
  refine ⟨(h.call hbel).below, fun x hx => ?blk, List.pairwise_append.2 ⟨h.srt, List.pairwise_singleton _ _, fun x hx y hy => ?srt⟩⟩
  case blk =>
    rcases List.mem_append.1 hx with hx | hx
    · exact (h.call hbel).blk x hx
    · simp only [List.mem_cons, List.not_mem_nil, or_false] at hx
      subst hx
      exact ⟨heap_alloc_new w _, h.below.size⟩
  case srt =>
    simp only [List.mem_cons, List.not_mem_nil, or_false] at hy
    subst hy
    exact h.lt x hx
/-- Something else made. -/
theorem Fx.make {w0 w : World} {bl : List (Nat × TypeId × Array Value)} (h : Fx w0 bl w) (o : Obj) : Fx w0 bl (w.alloc o) :=
  h.call ((Below.refl _ _).alloc (Nat.le_refl _) _)
theorem Fx.other {w0 w : World} {bl : List (Nat × TypeId × Array Value)} (h : Fx w0 bl w) {i j : Nat} {x y : Nat × TypeId × Array Value} (hi : bl[i]? = some x) (hj : bl[j]? = some y) (hne : j ≠ i) : y.1 ≠ x.1 := by
  obtain ⟨hi1, hi2⟩ := List.getElem?_eq_some_iff.1 hi
  obtain ⟨hj1, hj2⟩ := List.getElem?_eq_some_iff.1 hj
  have hp := List.pairwise_iff_getElem.1 h.srt
  rcases Nat.lt_or_gt_of_ne hne with hl | hl
  · have := hp j i hj1 hi1 hl
    rw [hi2, hj2] at this
    omega
  · have := hp i j hi1 hj1 hl
    rw [hi2, hj2] at this
    omega
theorem Fx.turn {w0 w w' : World} {bl : List (Nat × TypeId × Array Value)} (h : Fx w0 bl w) (i : Nat) {b : Nat} {T : TypeId} {cs : Array Value} (hi : bl[i]? = some (b, T, cs)) (cs' : Array Value)
    (hs : w.heap.size = w'.heap.size) (ho : ∀ k, k ≠ b → w'.heap[k]? = w.heap[k]?) (hb : w'.heap[b]? = some (.cells cs' T (0, 0))) (h1 : w'.os = w.os) (h2 : w'.tape = w.tape) (h3 : w'.output = w.output) : Fx w0 (bl.set i (b, T, cs')) w' := by
  have hge := h.ge i hi
  have hil : i < bl.length := (List.getElem?_eq_some_iff.1 hi).1
  have hfst : ∀ (j : Nat) (x : Nat × TypeId × Array Value), (bl.set i (b, T, cs'))[j]? = some x → ∃ y, bl[j]? = some y ∧ y.1 = x.1 := fun j x hx => by
    rw [List.getElem?_set] at hx
    split at hx
    · rename_i e
      subst e
      simp only [hil, if_true, Option.some.injEq] at hx
      exact ⟨_, hi, by rw [← hx]⟩
    · exact ⟨x, hx, rfl⟩
  refine ⟨⟨h1.trans h.below.os, h2.trans h.below.tape, h3.trans h.below.output, by rw [← hs]; exact h.below.size, fun k hk => (ho k (by omega)).trans (h.below.block k hk)⟩, fun x hx => ?_, ?_⟩
  · obtain ⟨j, hj⟩ := List.getElem?_of_mem hx
    by_cases e : j = i
    · subst e
      rw [List.getElem?_set_self hil] at hj
      simp only [Option.some.injEq] at hj
      subst hj
      exact ⟨hb, hge⟩
    · rw [List.getElem?_set_ne (Ne.symm e)] at hj
      have := h.other hi hj e
      exact ⟨(ho x.1 this).trans (h.blk x (List.mem_of_getElem? hj)).1, (h.blk x (List.mem_of_getElem? hj)).2⟩
  · rw [List.pairwise_iff_getElem]
    intro a b' ha hb' hab
    obtain ⟨y1, hy1, e1⟩ := hfst a _ (List.getElem?_eq_getElem ha)
    obtain ⟨y2, hy2, e2⟩ := hfst b' _ (List.getElem?_eq_getElem hb')
    rw [← e1, ← e2]
    obtain ⟨l1, r1⟩ := List.getElem?_eq_some_iff.1 hy1
    obtain ⟨l2, r2⟩ := List.getElem?_eq_some_iff.1 hy2
    have := List.pairwise_iff_getElem.1 h.srt a b' l1 l2 hab
    rw [r1, r2] at this
    exact this
theorem Fx.store {w0 w : World} {bl : List (Nat × TypeId × Array Value)} (h : Fx w0 bl w) (i : Nat) {b : Nat} {T : TypeId} {cs : Array Value} (hi : bl[i]? = some (b, T, cs)) (cs' : Array Value) : Fx w0 (bl.set i (b, T, cs')) (w.setRow b cs') :=
  h.turn i hi cs' (by rw [setRow_size]) (fun k hk => setRow_other w b k _ hk) (setRow_heap w b _ cs' _ _ (h.get i hi)) rfl rfl rfl
theorem Fx.cell {w0 w : World} {bl : List (Nat × TypeId × Array Value)} (h : Fx w0 bl w) (i : Nat) {b : Nat} {T : TypeId} {cs : Array Value} (hi : bl[i]? = some (b, T, cs)) (j : Nat) (v : Value) : Fx w0 (bl.set i (b, T, cs.setIfInBounds j v)) (w.setCell ⟨b, j, none⟩ v) :=
  h.turn i hi _ (by simp) (fun k hk => heap_setCell_other w ⟨b, j, none⟩ k v hk) (heap_setCell_same w b j _ _ v (h.get i hi)) rfl rfl rfl
/-- Only the first blocks are looked at from here on. -/
theorem Fx.first {w0 w : World} {bl cl : List (Nat × TypeId × Array Value)} (h : Fx w0 (bl ++ cl) w) : Fx w0 bl w :=
  ⟨h.below, fun x hx => h.blk x (List.mem_append_left _ hx), (List.pairwise_append.1 h.srt).1⟩
theorem RowsD.flat {ok ok' : Nat → Prop} {w w' : World} : ∀ (xs : List Value) (ds : List Dt), RowsD ok w xs ds → (∀ d ∈ ds, ∃ x, d = .v x) → RowsD ok' w' xs ds
  | [], [], _, _ => trivial
  | x :: xs, d :: ds, ⟨h1, h2⟩, hp => by
    obtain ⟨y, rfl⟩ := hp d (List.mem_cons_self ..)
    refine ⟨?_, RowsD.flat xs ds h2 (fun d hd => hp d (List.mem_cons_of_mem _ hd))⟩
    unfold IsD at h1 ⊢
    exact h1
  | [], _ :: _, h, _ => h.elim
  | _ :: _, [], h, _ => h.elim
theorem run_append_hollow {P : Program} (w : World) (t ty e : TypeId) (i : TypeInfo) (ht : P.underlying t = some (.slice e)) (hi : P.info? e = some i) (x : Option Addr) (n c : Nat) (y : Option Addr) (c' : Nat) (hn : n ≤ c) :
    (Builtin.append_ #[t, t] ty #[.slice x n c, .slice y 0 c']).run P w = .ok (.slice x n c) w := by
  cases x <;> cases y <;> simp [Builtin.append_, run_underlying ht, sizeOf, typeInfo, hi, Builtin.lenOf, hn, Builtin.firstCells, loadCells, loadCellsFrom, storeCells]
/-- 'append(l, d...)', d a row of plain cells that stand anywhere, or nothing. -/
theorem wpList_appP {P : Program} {ops : Array Oper} {rest : List Oper} {o : Oper} {a : Act} {Q : Exit → Act → World → Prop} (hgd : o.guard = none) (s x : Operand) (t : TypeId) (ho : o.op = .call { callee := .builtin .append, args := #[s, x], argTypes := #[t, t] })
    {T : TypeId} {sz : Nat} {w : World} {b : Nat} {v : Value} {n : Nat} {ds : List Dt} (i : TypeInfo) (z : Value) (bytes : Nat) (ht : P.underlying t = some (.slice T)) (hi : P.info? T = some i) (hz : i.zero = some z)
    (hsize : i.size = sz) (hby : i.bytes = bytes) (hzs : z.cells.size = sz) (hsz : 0 < sz) (hbl : bytes ≤ 1000)
    (hs : a.eval s = v) (h : OwnD T sz w b v n ds) (hbw : b + 1 ≤ w.heap.size) {ok : Nat → Prop} {u : Value} {m : Nat} (es : List Dt) (hx : a.eval x = u) (hd : IsD ok w u (.sl m es)) (hl : es.length = m * sz) (hp : ∀ d ∈ es, ∃ x, d = .v x) (hone : ∀ d ∈ es, d.one) (hnm : n + m ≤ 100000000000)
    (hK : ∀ v' w', OwnD T sz w' b v' (n + m) (ds ++ es) → w.grownBy w' v.ownBlock → (v'.ownBlock = v.ownBlock ∨ v'.ownBlock = some w.heap.size) → wpList P ops Q rest (a.put o.dst v') w') :
    wpList P ops Q (o :: rest) a w := by
  by_cases hm : m = 0
  · subst hm
    obtain ⟨xx, cc, rfl, _, _⟩ := hd.slice
    obtain ⟨xv, cv, rfl, hnc, _⟩ := h.slice
    obtain rfl := hd.zero rfl
    have hr := run_append_hollow (P := P) w t o.type T i ht hi xv n cv xx cc hnc
    refine wpList_plain hgd fun K hK' => ?_
    unfold Oper.wp
    simp [execOp, ho, resolve, invoke, builtin, hs, hx, hr, Result.andThen]
    exact hK' _ _ (hK _ w (by rw [List.append_nil]; exact h) ⟨rfl, rfl, rfl, Nat.le_refl _, fun _ _ _ => rfl⟩ (.inl rfl))
  · obtain ⟨xx, cc, rfl, _, _⟩ := hd.slice
    obtain ⟨g, rfl, _, _, hds⟩ := hd.some_ (by omega)
    obtain ⟨news, hr, hcells⟩ := hds.rows
    obtain ⟨v', w', hrun, j1, j2, j3⟩ := h.append (P := P) t o.type i z bytes ht hi hz hsize hby hzs hsz hbl hbw (ok := fun _ => False) g 0 m cc news es hl (hr.flat _ _ hp) hcells hone (fun k hk => hk.elim) hnm
    refine wpList_plain hgd fun K hK' => ?_
    unfold Oper.wp
    simp [execOp, ho, resolve, invoke, builtin, hs, hx, hrun, Result.andThen]
    exact hK' _ _ (hK v' w' j1 j2 j3)
/-- The same, with all that is known of the row's type in one. -/
theorem wpList_appH {P : Program} {ops : Array Oper} {rest : List Oper} {o : Oper} {a : Act} {Q : Exit → Act → World → Prop} (hgd : o.guard = none) (s x : Operand) (t : TypeId) (ho : o.op = .call { callee := .builtin .append, args := #[s, x], argTypes := #[t, t] })
    {T : TypeId} {sz : Nat} {w : World} {b : Nat} {v : Value} {n : Nat} {ds : List Dt} (bytes : Nat) (ht : P.underlying t = some (.slice T)) (hin : ∃ i, P.info? T = some i ∧ (∃ z, i.zero = some z ∧ z.cells.size = sz) ∧ i.size = sz ∧ i.bytes = bytes) (hsz : 0 < sz) (hbl : bytes ≤ 1000)
    (hs : a.eval s = v) (h : OwnD T sz w b v n ds) (hbw : b + 1 ≤ w.heap.size) {ok : Nat → Prop} {u : Value} {m : Nat} (es : List Dt) (hx : a.eval x = u) (hd : IsD ok w u (.sl m es)) (hl : es.length = m * sz) (hp : ∀ d ∈ es, ∃ x, d = .v x) (hone : ∀ d ∈ es, d.one) (hnm : n + m ≤ 100000000000)
    (hK : ∀ v' w', OwnD T sz w' b v' (n + m) (ds ++ es) → w.grownBy w' v.ownBlock → (v'.ownBlock = v.ownBlock ∨ v'.ownBlock = some w.heap.size) → wpList P ops Q rest (a.put o.dst v') w') :
    wpList P ops Q (o :: rest) a w := by
  obtain ⟨i, hi, ⟨z, hz, hzs⟩, hsize, hby⟩ := hin
  exact wpList_appP hgd s x t ho i z bytes ht hi hz hsize hby hzs hsz hbl hs h hbw es hx hd hl hp hone hnm hK
/-- A struct's cells, made and stored in one. -/
theorem new_row (w : World) (T : TypeId) (z cs : Array Value) : Below w.heap.size w ((w.alloc (.cells z T)).setRow w.heap.size cs) ∧ ((w.alloc (.cells z T)).setRow w.heap.size cs).heap[w.heap.size]? = some (.cells cs T (0, 0)) :=
  ⟨below_setRow ((Below.refl _ _).alloc (Nat.le_refl _) _) (Nat.le_refl _) _, setRow_heap _ _ _ _ _ _ (heap_alloc_new w _)⟩
end Go.Proofs.Ytfajafjikpmgpaa

namespace Go.Proofs.Ytfajafjikpmgpaa
open Go Go.RowKit
def treeOf (t : ByteArray) : List Nd := match parse4 t with
  | .ok l => l
  | .error _ => []
def perOf (t : ByteArray) : Nat := match parse4 t with
  | .ok _ => 0
  | .error (e, _) => e
def patOf (t : ByteArray) : Nat := match parse4 t with
  | .ok _ => 0
  | .error (_, a) => a
/-- What Parse hands back, with what the text's tree is called. -/
theorem parse_at (t : ByteArray) (w : World) (hs : t.size ≤ 140737488351232) : Calls Try.prog 32 #[.string t] w (fun e w' => ∃ x c, e = .returned (.tuple #[.slice x (treeOf t).length c, .agg #[.int .i64 (perOf t : Int), .int .i64 (patOf t : Int)]]) ∧ IsD (w.heap.size ≤ ·) w' (.slice x (treeOf t).length c) (.sl (treeOf t).length (ndsD (treeOf t))) ∧ Below w.heap.size w w') := by
  refine (Parse4_any t w hs).mono ?_
  intro e w' h
  unfold GivesP4 at h
  unfold treeOf perOf patOf
  cases hp : parse4 t with
  | error ep =>
    obtain ⟨er, ea⟩ := ep
    rw [hp] at h
    exact ⟨none, 0, h.2, IsD.nil (Nat.zero_le _), h.1⟩
  | ok l =>
    rw [hp] at h
    obtain ⟨hb, v, he, ho, hl⟩ := h
    obtain ⟨x, c, rfl, _, _⟩ := ho.slice
    exact ⟨x, c, he, (ho.ends (by omega)).mono (fun k hk _ => Nat.le_of_lt hk), hb⟩
/-- The same parser over a row of bytes: the kernel reckons it. -/
def wordLL (s : List UInt8) (x : Nat × Nat × Int × Nat) : W4 := ⟨x.1, ⟨((s.drop x.2.2.2).take x.2.1).toArray⟩, x.2.2.1, x.2.2.2⟩
def parseL (s : List UInt8) : Except (Nat × Nat) (List Nd) :=
  match cutAll s with
  | .error e => .error e
  | .ok d => nodes4 (d.map (wordLL s))
theorem extract_list (s : ByteArray) (a n : Nat) : s.extract a (a + n) = ⟨((s.data.toList.drop a).take n).toArray⟩ := by
  apply ByteArray.ext
  rw [ByteArray.data_extract]
  apply Array.ext'
  rw [Array.toList_extract, List.extract_eq_take_drop]
  simp
theorem parse4_list (s : ByteArray) : parse4 s = parseL s.data.toList := by
  unfold parse4 parseL
  cases cutAll s.data.toList with
  | error e => rfl
  | ok d =>
    have e : words4 s d = d.map (wordLL s.data.toList) := by
      unfold words4
      refine List.map_congr_left fun x _ => ?_
      unfold wordL4 wordLL
      rw [extract_list]
    show nodes4 (words4 s d) = nodes4 (d.map (wordLL s.data.toList))
    rw [e]
def treeL (s : List UInt8) : List Nd := match parseL s with
  | .ok l => l
  | .error _ => []
def perL (s : List UInt8) : Nat := match parseL s with
  | .ok _ => 0
  | .error (e, _) => e
theorem treeOf_list (s : ByteArray) : treeOf s = treeL s.data.toList := by
  unfold treeOf treeL
  rw [parse4_list]
theorem perOf_list (s : ByteArray) : perOf s = perL s.data.toList := by
  unfold perOf perL
  rw [parse4_list]
theorem app_lst (a b : ByteArray) : (a ++ b).data.toList = a.data.toList ++ b.data.toList := by simp
end Go.Proofs.Ytfajafjikpmgpaa

namespace Go.Proofs.Ytfajafjikpmgpaa
open Go Go.RowKit Go.Maps
section
variable {P : Program} {w w' : World} {k : TypeId} {b n : Nat} {f : List UInt8 → Option Value}
/-- An element, whatever it is. -/
def readV (v : Value) : Option (DataW Value × List MemPlace) := some (.held v, [])
/-- Block b is a map of at most n entries; f tells what stands at a key. -/
def MapO (P : Program) (k : TypeId) (w : World) (b n : Nat) (f : List UInt8 → Option Value) : Prop :=
  ∃ D : DataW Value, w.ownsMap P k readV b n D ∧ ∀ s : List UInt8, Maps.has D (.string s) = (f s).isSome ∧ ∀ z, D.atKey (.string s) z = match f s with | some v => .held v | none => z
theorem MapO.made (P : Program) (k : TypeId) (w : World) : MapO P k (w.alloc (.map #[] 0)) w.heap.size 0 (fun _ => none) :=
  ⟨_, World.ownsMap_made w P k readV, fun s => ⟨rfl, fun z => rfl⟩⟩
theorem MapO.lt (h : MapO P k w b n f) : b < w.heap.size := by
  obtain ⟨D, h1, _⟩ := h
  exact h1.lt
theorem MapO.mono (h : MapO P k w b n f) {n' : Nat} (hn : n ≤ n') : MapO P k w b n' f := by
  obtain ⟨D, h1, h2⟩ := h
  exact ⟨D, h1.mono hn, h2⟩
theorem MapO.kept {row : Option Nat} (h : MapO P k w b n f) (hg : w.grownBy w' row) (hne : some b ≠ row) : MapO P k w' b n f := by
  obtain ⟨D, h1, h2⟩ := h
  exact ⟨D, h1.kept hg hne, h2⟩
theorem MapO.below (h : MapO P k w b n f) (hb : Below w.heap.size w w') : MapO P k w' b n f :=
  h.kept (row := none) ⟨hb.os, hb.tape, hb.output, hb.size, fun j hj _ => hb.block j hj⟩ (by simp)
/-- 'm[s]'. -/
theorem MapO.look {t e : TypeId} (h : MapO P k w b n f) (hk : P.underlying k = some .string) (ht : P.underlying t = some (.map k e)) {z : Value} (hz : (zeroValue e).run P w = .ok z w) (s : ByteArray) (hs : s.size ≤ maxLen) :
    (Instr.lookup t (.map (some b)) (.string s) false).run P w = .ok ((f s.data.toList).getD z) w := by
  obtain ⟨D, h1, h2⟩ := h
  obtain ⟨v, ps, hr, hv⟩ := h1.lookup (string_keyed hk) ht hz (zd := .held z) rfl (WideMaps.keyOf_string_mk hk hs)
  rw [(h2 _).2] at hv
  unfold readV at hv
  rw [hr]
  cases hf : f s.data.toList with
  | none => rw [hf] at hv; injection hv with hv; injection hv with hv; injection hv with hv; rw [hv]; rfl
  | some u => rw [hf] at hv; injection hv with hv; injection hv with hv; injection hv with hv; rw [hv]; rfl
/-- 'v, ok := m[s]'. -/
theorem MapO.look_ok {t e : TypeId} (h : MapO P k w b n f) (hk : P.underlying k = some .string) (ht : P.underlying t = some (.map k e)) {z : Value} (hz : (zeroValue e).run P w = .ok z w) (s : ByteArray) (hs : s.size ≤ maxLen) :
    (Instr.lookup t (.map (some b)) (.string s) true).run P w = .ok (.tuple #[(f s.data.toList).getD z, .bool (f s.data.toList).isSome]) w := by
  obtain ⟨D, h1, h2⟩ := h
  obtain ⟨v, ps, hr, hv⟩ := h1.look_ok (string_keyed hk) ht hz (zd := .held z) rfl (WideMaps.keyOf_string_mk hk hs)
  rw [(h2 _).2] at hv
  rw [(h2 _).1] at hr
  unfold readV at hv
  rw [hr]
  cases hf : f s.data.toList with
  | none => rw [hf] at hv; injection hv with hv; injection hv with hv; injection hv with hv; rw [hv]; rfl
  | some u => rw [hf] at hv; injection hv with hv; injection hv with hv; injection hv with hv; rw [hv]; rfl
/-- 'm[s] = v'. -/
theorem MapO.update {t e : TypeId} (h : MapO P k w b n f) (hk : P.underlying k = some .string) (ht : P.underlying t = some (.map k e)) (hn : n < maxLen) (s : ByteArray) (hs : s.size ≤ maxLen) (v : Value) :
    ∃ w', (Instr.mapUpdate t (.map (some b)) (.string s) v).run P w = .ok () w' ∧ MapO P k w' b (n + 1) (fun x => if x = s.data.toList then some v else f x) ∧ w.grownBy w' (some b) := by
  obtain ⟨D, h1, h2⟩ := h
  obtain ⟨w', hr, h3, h4⟩ := h1.update (string_keyed hk) ht hn (WideMaps.keyOf_string_mk hk hs) (val := v) (d := .held v) (ps := []) rfl
  refine ⟨w', hr, ⟨_, h3, fun x => ?_⟩, h4⟩
  by_cases hx : x = s.data.toList
  · subst hx
    simp only [if_true]
    exact ⟨has_put_same h1.isMap (show WideAt.IsKeyLit (.string s.data.toList) from True.intro) _, fun z => atKey_put_same h1.isMap (show WideAt.IsKeyLit (.string s.data.toList) from True.intro) _ _⟩
  · simp only [hx, if_false]
    have hne : Lit.string x ≠ Lit.string s.data.toList := fun e => by injection e with e; exact hx e
    rw [has_put_other hne]
    exact ⟨(h2 x).1, fun z => by rw [atKey_put_other hne]; exact (h2 x).2 z⟩
end
end Go.Proofs.Ytfajafjikpmgpaa

namespace Go.Proofs.Ytfajafjikpmgpaa
open Go Go.RowKit
theorem size_flt : (Try.prog.info? 32).map (·.size) = some 2 := by kernel_rfl
/-- A call hands back a fault. -/
def GivesF (er at_ : Int) (w : World) (e : Ending) (w' : World) : Prop := e = .returned (.agg #[.int .i64 er, .int .i64 at_]) ∧ Below w.heap.size w w'
end Go.Proofs.Ytfajafjikpmgpaa

namespace Go.Proofs.Ytfajafjikpmgpaa
open Go Go.RowKit
theorem zero_kind (w : World) : (zeroValue 39).run Try.prog w = .ok (.int .i64 0) w := by kernel_rfl
/-- The kinds of names, in a map of the call's own. -/
def Kinds (w : World) (b n : Nat) (g : List UInt8 → Option Int) : Prop := MapO Try.prog 9 w b n (fun s => (g s).map (Value.int .i64))
def kindOf (g : List UInt8 → Option Int) (s : ByteArray) : Int := (g s.data.toList).getD 0
theorem Kinds.look {w : World} {b n : Nat} {g : List UInt8 → Option Int} (h : Kinds w b n g) (s : ByteArray) (hs : s.size ≤ maxLen) : (Instr.lookup 89 (.map (some b)) (.string s) false).run Try.prog w = .ok (.int .i64 (kindOf g s)) w := by
  have := MapO.look h Try.underlying9 Try.underlying89 (zero_kind w) s hs
  rw [this]
  unfold kindOf
  cases g s.data.toList <;> rfl
end Go.Proofs.Ytfajafjikpmgpaa

namespace Go.Proofs.Ytfajafjikpmgpaa
open Go Go.RowKit
/-- A part's Op is one of the language's. -/
def OPSB : List (List UInt8) := [[105, 110, 116], [98, 111, 111, 108], [118, 97, 114], [110, 111, 116], [110, 101, 103], [112, 114, 101], [43], [45], [42], [47], [109, 111, 100], [61], [60, 62], [60], [60, 61], [62], [62, 61], [97, 110, 100], [111, 114], [120, 111, 114], [45, 62], [102, 98, 121], [119, 104, 101, 110], [105, 102], [109, 101, 114, 103, 101], [99, 97, 108, 108]]
def okNm (s : ByteArray) : Bool := decide (s.size ≤ 1000000)
mutual
def okE : Ex → Bool
  | .mk op nm _ _ kids => OPSB.contains op.data.toList && (okNm nm && okEs kids)
def okEs : List Ex → Bool
  | [] => true
  | e :: r => okE e && okEs r
end
theorem okE_eq (e : Ex) : okE e = (OPSB.contains e.op.data.toList && (okNm e.name && okEs e.kids)) := by
  cases e; conv => lhs; unfold okE
  rfl
theorem okEs_at : ∀ (l : List Ex) (i : Nat) (h : i < l.length), okEs l = true → okE l[i] = true
  | [], _, h, _ => absurd h (by simp)
  | e :: r, i, h, k => by
    unfold okEs at k
    simp only [Bool.and_eq_true] at k
    cases i with
    | zero => exact k.1
    | succ i => exact okEs_at r i (by simpa using h) k.2
theorem okNm_le {s : ByteArray} (h : okNm s = true) : s.size ≤ maxLen := by
  have : s.size ≤ 1000000 := by simpa [okNm] using h
  exact Nat.le_trans this (by decide)
theorem bytes_eq {s : ByteArray} {l : List UInt8} (h : s.data.toList = l) : s = ⟨l.toArray⟩ := by
  obtain ⟨a⟩ := s
  subst h
  simp
end Go.Proofs.Ytfajafjikpmgpaa

namespace Go.Proofs.Ytfajafjikpmgpaa
open Go Go.RowKit
theorem size_vS : (Try.prog.info? 138).map (·.size) = some 5 := by kernel_rfl
theorem vS_one (a b : ByteArray) (k p : Int) (t : Bool) : (#[.string a, .int .i64 k, .string b, .bool t, .int .i64 p] : Array Value).all (·.oneCell') = true := by simp [Value.oneCell']
end Go.Proofs.Ytfajafjikpmgpaa

namespace Go.Proofs.Ytfajafjikpmgpaa
open Go Go.RowKit
theorem size_qS : (Try.prog.info? 45).map (·.size) = some 7 := by kernel_rfl
theorem qS_one (a b d : ByteArray) (n p t : Int) (x : Option Addr) (l c : Nat) : (#[.string a, .string b, .string d, .int .i64 n, .int .i64 p, .slice x l c, .int .i64 t] : Array Value).all (·.oneCell') = true := by simp [Value.oneCell']
/-- The cells of a struct of a struct's. -/
theorem row_range {w : World} {g : Nat} {cs : Array Value} {T : TypeId} {fr : Nat × Nat} (h : w.heap[g]? = some (.cells cs T fr)) (o : Nat) (vs : List Value) (hv : ∀ j v, vs[j]? = some v → cs[o + j]? = some v) : w.rangeAt g o vs := fun j v hj => by
  rw [cell_of_row w g (o + j) _ _ _ h]
  exact hv j v hj
theorem qe_range (nm : ByteArray) (e : Ex) (x : Option Addr) (c : Nat) (at_ : Int) : ∀ j v, (exC e x c)[j]? = some v → (#[.string nm, .string e.op, .string e.name, .int .i64 e.n, .int .i64 (e.at_ : Int), .slice x e.kids.length c, .int .i64 at_] : Array Value)[1 + j]? = some v := by
  intro j v hv
  rcases j with _ | _ | _ | _ | _ | j <;> first | exact hv | (simp [exC] at hv)
/-- A fault's place, or none: as it is handed back. -/
def ferO (c : Int) : Option Nat → Int
  | none => 0
  | some _ => c
def fatO : Option Nat → Int
  | none => 0
  | some a => a
def GivesO (c : Int) (o : Option Nat) (w : World) (e : Ending) (w' : World) : Prop := e = .returned (.agg #[.int .i64 (ferO c o), .int .i64 (fatO o)]) ∧ Below w.heap.size w w'
def qeV (q : Qe) (x : Option Addr) (c : Nat) : Value := .agg #[.string q.name, .string q.e.op, .string q.e.name, .int .i64 q.e.n, .int .i64 (q.e.at_ : Int), .slice x q.e.kids.length c, .int .i64 (q.at_ : Int)]
end Go.Proofs.Ytfajafjikpmgpaa

namespace Go.Proofs.Ytfajafjikpmgpaa
open Go Go.RowKit
def okVs (l : List Vr) : Bool := l.all (fun v => okNm v.name && okNm v.on)
def okQs (l : List Qe) : Bool := l.all (fun q => okNm q.name && okE q.e)
def okNd (n : Nd) : Bool := decide (n.ins.length + n.outs.length + n.locs.length ≤ 1000000) && (okNm n.name && (okVs n.ins && (okVs n.outs && (okVs n.locs && okQs n.eqs))))
theorem okVs_at {l : List Vr} (h : okVs l = true) (i : Nat) (hi : i < l.length) : l[i].name.size ≤ maxLen ∧ l[i].on.size ≤ maxLen := by
  have := List.all_eq_true.1 h _ (List.getElem_mem hi)
  simp only [Bool.and_eq_true] at this
  exact ⟨okNm_le this.1, okNm_le this.2⟩
theorem okQs_at {l : List Qe} (h : okQs l = true) (i : Nat) (hi : i < l.length) : okNm l[i].name = true ∧ okE l[i].e = true := by
  have := List.all_eq_true.1 h _ (List.getElem_mem hi)
  simp only [Bool.and_eq_true] at this
  exact this
theorem wrap_succ {j : Nat} (h : j < 1000000000) : Value.int .i64 (wrap64 ((j : Int) + 1)) = Value.int .i64 ((j + 1 : Nat) : Int) := by
  rw [show wrap64 ((j : Int) + 1) = ((j + 1 : Nat) : Int) by unfold wrap64; omega]
def ndV (n : Nd) (xi xo xl xe : Option Addr) (ci co cl ce : Nat) : Value := .agg #[.string n.name, .slice xi n.ins.length ci, .slice xo n.outs.length co, .slice xl n.locs.length cl, .slice xe n.eqs.length ce, .int .i64 (n.at_ : Int)]
/-- A node's rows, in memory. -/
def NdIn (ok : Nat → Prop) (w : World) (n : Nd) (xi xo xl xe : Option Addr) (ci co cl ce : Nat) : Prop := IsD ok w (.slice xi n.ins.length ci) (.sl n.ins.length (vrsD n.ins)) ∧ IsD ok w (.slice xo n.outs.length co) (.sl n.outs.length (vrsD n.outs)) ∧ IsD ok w (.slice xl n.locs.length cl) (.sl n.locs.length (vrsD n.locs)) ∧ IsD ok w (.slice xe n.eqs.length ce) (.sl n.eqs.length (qesD n.eqs))
theorem NdIn.below {ok : Nat → Prop} {w w' : World} {n : Nd} {xi xo xl xe : Option Addr} {ci co cl ce : Nat} (hb : Below w.heap.size w w') (h : NdIn ok w n xi xo xl xe ci co cl ce) : NdIn ok w' n xi xo xl xe ci co cl ce :=
  ⟨IsD.below hb h.1, IsD.below hb h.2.1, IsD.below hb h.2.2.1, IsD.below hb h.2.2.2⟩
end Go.Proofs.Ytfajafjikpmgpaa

namespace Go.Proofs.Ytfajafjikpmgpaa
open Go Go.RowKit
set_option maxHeartbeats 4000000 in
set_option maxRecDepth 100000 in
theorem clkFault_any (at_ : Int) (w : World) : Calls Try.prog 83 #[.int .i64 at_] w (GivesF 10 at_ w) := by
  have hn := heap_alloc_new w (.cells #[.int .i64 0, .int .i64 0] 32)
  have HB := Lib.hid ((Below.refl w.heap.size w).alloc (Nat.le_refl _) (.cells #[.int .i64 0, .int .i64 0] 32))
  have HN := Lib.hid hn
  have HSF := Lib.hid size_flt
  have HST := Lib.hid (setRow_heap (w.alloc (.cells #[.int .i64 0, .int .i64 0] 32)) w.heap.size _ #[.int .i64 10, .int .i64 at_] _ _ hn)
  clear hn
  go_enter Try.func83, Try.ntmps83
  go_wp2_with (refine wpList_store_row rfl 32 (.tmp 2) (.tmp 4) rfl w.heap.size #[.int .i64 10, .int .i64 at_] rfl rfl 32 _ HN.out HSF.out rfl (fault_one _ _) ?_)
  refine bodyPost_ret (v := .agg #[.int .i64 10, .int .i64 at_]) (results_cell_row (p := 2) (ty := 32) rfl _ _ w.heap.size 32 _ (0, 0) _ rfl HST.out Try.underlying32 rfl HSF.out) rfl ?_
  exact ⟨rfl, below_setRow HB.out (Nat.le_refl _) _⟩
end Go.Proofs.Ytfajafjikpmgpaa

namespace Go.Proofs.Ytfajafjikpmgpaa
open Go Go.RowKit
/-- A clock's last step: a name, and whether its falsehood. -/
structure Stp where
  name : ByteArray
  not_ : Bool
def stpZ : Stp := ⟨⟨#[]⟩, false⟩
def stpEq (a b : Stp) : Bool := a.name.data.toList == b.name.data.toList && a.not_ == b.not_
/-- An expression's clock, or any. -/
structure Clc where
  last : Stp
  any : Bool
def clcZ : Clc := ⟨stpZ, false⟩
def clcEq (a b : Clc) : Bool := stpEq a.last b.last && a.any == b.any
abbrev ClkG := List UInt8 → Option Stp
def cset (g : ClkG) (s : ByteArray) (v : Stp) : ClkG := fun x => if x = s.data.toList then some v else g x
def ioC (g : ClkG) : List Vr → ClkG
  | [] => g
  | v :: r => ioC (cset g v.name stpZ) r
def loc1C (g : ClkG) (v : Vr) : ClkG :=
  if (g v.name.data.toList).isSome = true then g else
  if v.on.data.toList = [] then cset g v.name stpZ else
  if (g v.on.data.toList).isSome = true then cset g v.name ⟨v.on, v.not_⟩ else g
def locC (g : ClkG) : List Vr → ClkG
  | [] => g
  | v :: r => locC (loc1C g v) r
def scopeC (n : Nd) : ClkG := locC (ioC (fun _ => none) [n.ins, n.outs].flatten) n.locs
def stOf (g : ClkG) (s : ByteArray) : Stp := (g s.data.toList).getD stpZ
/-- As many clocks as wanted ones, each that one, or any. -/
def fitC : List Clc → List Stp → Bool
  | [], [] => true
  | c :: l, w :: r => (c.any || stpEq c.last w) && fitC l r
  | _, _ => false
def meetC : Clc → List Clc → Clc × Bool
  | one, [] => (one, true)
  | one, c :: r =>
    let one' := if one.any = true then c else one
    if c.any = false ∧ clcEq c one' = false then (clcZ, false) else meetC one' r
def ruleC (g : ClkG) (op nm : ByteArray) (n : Int) (ks : List Clc) : Clc × Bool :=
  if op.data.toList = [118, 97, 114] then (⟨stOf g nm, false⟩, (g nm.data.toList).isSome) else
  if op.data.toList = [119, 104, 101, 110] then (⟨⟨nm, n == 0⟩, false⟩, (g nm.data.toList).isSome && fitC ks [stOf g nm]) else
  if op.data.toList = [109, 101, 114, 103, 101] then (⟨stOf g nm, false⟩, (g nm.data.toList).isSome && fitC ks [⟨nm, false⟩, ⟨nm, true⟩]) else
  meetC ⟨stpZ, true⟩ ks
mutual
/-- An expression's clock, or the place of its first fault. -/
def clockC (g : ClkG) : Ex → Except Nat Clc
  | .mk op nm n at_ kids => match clocksC g kids with
    | .error a => .error a
    | .ok ks => if (ruleC g op nm n ks).2 = true then .ok (ruleC g op nm n ks).1 else .error at_
def clocksC (g : ClkG) : List Ex → Except Nat (List Clc)
  | [] => .ok []
  | e :: r => match clockC g e with
    | .error a => .error a
    | .ok k => match clocksC g r with
      | .error a => .error a
      | .ok ks => .ok (k :: ks)
end
def eqC (g : ClkG) (q : Qe) : Option Nat := match clockC g q.e with
  | .error a => some a
  | .ok c => if (g q.name.data.toList).isSome = true ∧ fitC [c] [stOf g q.name] = true then none else some q.at_
def eqsC (g : ClkG) : List Qe → Option Nat
  | [] => none
  | q :: r => match eqC g q with
    | some a => some a
    | none => eqsC g r
/-- A program's first fault of clocks. -/
def clkF : List Nd → Option Nat
  | [] => none
  | n :: r => match eqsC (scopeC n) n.eqs with
    | some a => some a
    | none => clkF r
/-- All steps of the clock whose last step that is, the last one first. -/
inductive Chn (g : ClkG) : Stp → List Stp → Prop
  | nil (t : Stp) (h : t.name.data.toList = []) : Chn g t []
  | cons (t : Stp) (h : t.name.data.toList ≠ []) (l : List Stp) (hr : Chn g (stOf g t.name) l) : Chn g t (t :: l)
end Go.Proofs.Ytfajafjikpmgpaa

namespace Go.Proofs.Ytfajafjikpmgpaa
open Go Go.RowKit
theorem zeroCells_size (z : Array Value) (n : Nat) : (Builtin.zeroCells z n).size = n * z.size := by simp [Builtin.zeroCells]
/-- A new row of noughts, cut to nothing: a row of one's own. -/
theorem OwnD.zeros (w : World) (T : TypeId) (sz b n cap : Nat) (z : Array Value) (hz : z.size = sz) (hb : b + 1 ≤ w.heap.size) (hc : cap ≤ maxLen) (hn : n ≤ cap) : OwnD T sz (w.drew.alloc (.cells (Builtin.zeroCells z n ++ Builtin.zeroCells z (cap - n)) T)) b (.slice (some ⟨w.heap.size, 0, none⟩) 0 cap) 0 [] := by
  refine ⟨[], ⟨by simp, .inr ⟨w.heap.size, cap, _, rfl, hb, heap_alloc_new w.drew _, Nat.zero_le _, hc, ?_, by simp⟩⟩, trivial⟩
  rw [Array.size_append, zeroCells_size, zeroCells_size, hz, ← Nat.add_mul]
  congr 1
  omega
set_option maxHeartbeats 4000000 in
set_option maxRecDepth 100000 in
theorem Grow_any (n b : Nat) (hn : n ≤ 1000000000) (w : World) (hb : b + 1 ≤ w.heap.size) : Calls Try.prog 103 #[.slice none 0 0, .int .i64 (n : Int)] w (fun e w' => ∃ v, e = .returned v ∧ OwnD 138 5 w' b v 0 [] ∧ Below w.heap.size w w') := by
  have d0 : decide ((n : Int) < 0) = false := by simp
  have hw : wrap64 (n : Int) = (n : Int) := by unfold wrap64; omega
  by_cases hz : n = 0
  · subst hz
    go_enter Try.func103, Try.ntmps103
    go_wp2_with fail
    go_ret
    exact ⟨_, rfl, OwnD.nil _ _ _ _, Below.refl _ _⟩
  · have d1 : 0 < n := by omega
    obtain ⟨i, hi, ⟨z, hz0, hz1⟩, hsi, hby⟩ := info_vS
    have hr := fun ty => Lib.run_append_nil_zeros (P := Try.prog) w 46 3 ty 138 i z .i64 .i64 Try.underlying46 Try.underlying3 hi hz0 n (by omega) (by omega) (by omega) (by rw [hby]; omega)
    obtain ⟨cap, hcap⟩ : ∃ cap, cap = grownCap w n 0 138 := ⟨_, rfl⟩
    have hge := grownCap_ge w n 0 138
    have hle := grownCap_le_maxLen w n 0 138 (Nat.le_trans hn (by decide))
    rw [← hcap] at hr hge hle
    have HO := Lib.hid (OwnD.zeros w 138 5 b n cap z.cells hz1 hb hle hge)
    have HBE := Lib.hid ((Below.refl w.heap.size w).drew.alloc (Nat.le_refl _) (.cells (Builtin.zeroCells z.cells n ++ Builtin.zeroCells z.cells (cap - n)) 138))
    have HR := Lib.hid hr
    have HGE := Lib.hid hge
    obtain ⟨cs, hcs⟩ : ∃ cs, cs = Builtin.zeroCells z.cells n ++ Builtin.zeroCells z.cells (cap - n) := ⟨_, rfl⟩
    rw [← hcs] at HO HBE HR
    clear hr hge hle hcap hz hcs
    go_enter Try.func103, Try.ntmps103
    go_wp2_with (at_builtin; refine Lib.wpList_append_run _ rfl _ _ _ _ rfl _ _ rfl rfl _ _ (HR.out _) ?_)
    go_ret
    exact ⟨_, rfl, HO.out, HBE.out⟩
end Go.Proofs.Ytfajafjikpmgpaa

namespace Go.Proofs.Ytfajafjikpmgpaa
open Go Go.RowKit
def rowD (l : List Vr) : Dt := .sl l.length (vrsD l)
theorem rowD_flat (L : List (List Vr)) : L.map rowD = L.flatMap (fun l => [rowD l]) := by
  induction L with
  | nil => rfl
  | cons a r ih => rw [List.flatMap_cons, ← ih]; rfl
theorem rows_at {ok : Nat → Prop} {w : World} {L : List (List Vr)} {x : Option Addr} {c : Nat} (h : IsD ok w (.slice x L.length c) (.sl L.length (L.map rowD))) (i : Nat) (hi : i < L.length) : ∃ g, x = some ⟨g, 0, none⟩ ∧ g < w.heap.size ∧ ∃ xl cl, w.cell? ⟨g, i, none⟩ = some (.slice xl L[i].length cl) ∧ IsD ok w (.slice xl L[i].length cl) (.sl L[i].length (vrsD L[i])) := by
  obtain ⟨g, e1, _, e3, e4⟩ := IsD.some_ h (by omega)
  rw [rowD_flat] at e4
  have h5 := IsDs.nth (f := fun l : List Vr => [rowD l]) (sz := 1) (fun _ => rfl) L i 0 hi e4
  rw [Nat.zero_add, Nat.mul_one] at h5
  unfold IsDs at h5
  obtain ⟨⟨u, q1, q2⟩, _⟩ := h5
  obtain ⟨xl, cl, rfl, _, _⟩ := IsD.slice q2
  exact ⟨g, e1, e3, xl, cl, q1, q2⟩
def lens (L : List (List Vr)) : Nat := (L.map List.length).sum
theorem lens_take {L : List (List Vr)} {i : Nat} (h : i < L.length) : lens (L.take (i + 1)) = lens (L.take i) + L[i].length := by
  have e : L.take (i + 1) = L.take i ++ [L[i]] := by rw [List.take_add_one, List.getElem?_eq_getElem h]; rfl
  rw [e]
  unfold lens
  rw [List.map_append, List.sum_append]
  simp
theorem lens_le (L : List (List Vr)) (i : Nat) : lens (L.take i) ≤ lens L := by
  have : lens L = lens (L.take i) + lens (L.drop i) := by
    unfold lens
    rw [← List.sum_append, ← List.map_append, List.take_append_drop]
  omega
theorem flat_take {L : List (List Vr)} {i : Nat} (h : i < L.length) : vrsD (L.take i).flatten ++ vrsD L[i] = vrsD (L.take (i + 1)).flatten := by
  have e : L.take (i + 1) = L.take i ++ [L[i]] := by rw [List.take_add_one, List.getElem?_eq_getElem h]; rfl
  rw [← vrsD_app, e, List.flatten_append]
  simp
theorem lens_flat (L : List (List Vr)) : lens L = L.flatten.length := by
  unfold lens
  rw [List.length_flatten]
def GivesVs (l : List Vr) (w : World) (e : Ending) (w' : World) : Prop := ∃ x c, e = .returned (.slice x l.length c) ∧ IsD (w.heap.size ≤ ·) w' (.slice x l.length c) (.sl l.length (vrsD l)) ∧ Below w.heap.size w w'
set_option maxHeartbeats 4000000 in
set_option maxRecDepth 100000 in
theorem Concat_any (L : List (List Vr)) (hT : lens L ≤ 1000000000) (w : World) (hw : 0 < w.heap.size) (ok : Nat → Prop) (x : Option Addr) (c : Nat) (hk : IsD ok w (.slice x L.length c) (.sl L.length (L.map rowD))) : Calls Try.prog 70 #[.slice x L.length c] w (GivesVs L.flatten w) := by
  have HK := Lib.hid hk
  have HT := Lib.hid hT
  have HW := Lib.hid hw
  have HIV := Lib.hid info_vS
  clear hk hT hw
  go_enter Try.func70, Try.ntmps70
  go_wp2_with fail
  go_loopw [3, 11] (fun v3 v11 wr => ∃ (j S : Nat), v3 = .int .i64 (S : Int) ∧ v11 = .int .i64 (j : Int) ∧ j ≤ L.length ∧ S = lens (L.take j) ∧ w = wr)
    (fun _ v11 _ => L.length - (intOf v11).toNat)
  case atStart => exact ⟨0, 0, rfl, rfl, Nat.zero_le _, rfl, rfl⟩
  case round =>
    obtain ⟨j, S, rfl, rfl, hj, hS, rfl⟩ := hrel
    have HJ := Lib.hid hj
    have HS := Lib.hid hS
    clear hj hS
    by_cases hjl : j < L.length
    · have d1 : decide ((j : Int) < (L.length : Int)) = true := by simp; omega
      have HJL := Lib.hid hjl
      obtain ⟨g, rfl, hg, xl, cl, hc, hl⟩ := rows_at HK.out j hjl
      obtain ⟨l, hll⟩ : ∃ l, l = L[j]'HJL.out := ⟨_, rfl⟩
      rw [← hll] at hc hl
      have HLL := Lib.hid hll
      obtain ⟨S', hS'⟩ : ∃ S', S' = S + l.length := ⟨_, rfl⟩
      have hle := lens_le L (j + 1)
      have hlt := lens_take hjl
      rw [← hll, ← HS.out, ← hS'] at hlt
      rw [hlt] at hle
      have hw1 : wrap64 ((S : Int) + (l.length : Int)) = (S' : Int) := by have := HT.out; unfold wrap64; omega
      have HW1 := Lib.hid hw1
      have d2 : decide ((S' : Int) < 0) = false := by simp
      have HLT := Lib.hid hlt.symm
      have i0 : (0 : Int) ≤ (j : Int) := by omega
      have i1 : (j : Int) < (L.length : Int) := by omega
      clear hjl hg hl hll hS' hle hlt
      go_wp2_with fail
      refine ⟨⟨j + 1, S', by rw [HW1.out], wrap_succ (by have := HJL.out; have := IsD.few HK.out; omega), HJL.out, HLT.out, trivial⟩, ?_⟩
      rw [wrap_succ (by have := HJL.out; have := IsD.few HK.out; omega)]
      simp [intOf]; omega
    · have d1 : decide ((j : Int) < (L.length : Int)) = false := by simp; omega
      obtain rfl : j = L.length := by have := HJ.out; omega
      have hS2 : S = lens L := by rw [HS.out, List.take_length]
      have HS2 := Lib.hid hS2
      have kg := Grow_any S (w.heap.size - 1) (by rw [hS2]; exact HT.out) w (by have := HW.out; omega)
      clear hjl HS hS2
      go_wp2_with fail
      (with_reducible refine kg.mono ?_)
      rintro e9 w1 ⟨v, rfl, hO, hb⟩
      have HO := Lib.hid hO
      have HB := Lib.hid hb
      clear kg hO hb
      go_wp2_with fail
      go_loopw [6, 27] (fun v6 v27 wr => ∃ (V : Value) (j : Nat), V = v6 ∧ v27 = .int .i64 (j : Int) ∧ j ≤ L.length ∧ OwnD 138 5 wr (w.heap.size - 1) V (lens (L.take j)) (vrsD (L.take j).flatten) ∧ Below w.heap.size w wr)
        (fun _ v27 _ => L.length - (intOf v27).toNat)
      case atStart => exact ⟨_, 0, rfl, rfl, Nat.zero_le _, HO.out, HB.out⟩
      case round =>
        clear HO HB
        obtain ⟨V, j, rfl, rfl, hj, hO, hb⟩ := hrel
        have HO := Lib.hid hO
        have HB := Lib.hid hb
        have HJ := Lib.hid hj
        obtain ⟨S, hS⟩ : ∃ S, S = lens (L.take j) := ⟨_, rfl⟩
        rw [← hS] at hO
        obtain ⟨xv, cv, rfl, _, _⟩ := hO.slice
        have HS := Lib.hid hS
        have HO := Lib.hid hO
        clear hO hb hj hS
        by_cases hjl : j < L.length
        · have d1 : decide ((j : Int) < (L.length : Int)) = true := by simp; omega
          have HJL := Lib.hid hjl
          obtain ⟨g, rfl, hg, xl, cl, hc, hl⟩ := rows_at HK.out j hjl
          obtain ⟨l, hll⟩ : ∃ l, l = L[j]'HJL.out := ⟨_, rfl⟩
          rw [← hll] at hc hl
          have HLL := Lib.hid hll
          have hc' : wr.cell? ⟨g, j, none⟩ = some (.slice xl l.length cl) := by
            have e := HB.out.block g hg
            simp only [World.cell?] at hc ⊢
            rw [e]; exact hc
          have HD := Lib.hid (IsD.below HB.out hl)
          have HBW := Lib.hid (show w.heap.size - 1 + 1 ≤ wr.heap.size by have := HB.out.size; have := HW.out; omega)
          have hlt := lens_take hjl
          have hle := lens_le L (j + 1)
          rw [← hll, ← HS.out] at hlt
          have HLT := Lib.hid hlt
          have HNM := Lib.hid (show S + l.length ≤ 100000000000 by have := HT.out; omega)
          have i0 : (0 : Int) ≤ (j : Int) := by omega
          have i1 : (j : Int) < (L.length : Int) := by omega
          clear hjl hg hc hl hll hlt hle
          go_wp2_with (at_builtin; refine wpList_appH rfl (.tmp 31) (.tmp 32) 46 rfl 56 Try.underlying46 HIV.out (by decide) (by decide) rfl HO.out HBW.out (vrsD l) rfl HD.out (vrsD_len l) (vrsD_plain l) (vrsD_ones l) HNM.out ?_)
          intro v' w' hO' hg' _
          rw [HLL.out, flat_take HJL.out, ← HLL.out, ← HLT.out] at hO'
          have HO2 := Lib.hid hO'
          have HB2 := Lib.hid (below_own HB.out hg' (fun k hk => by have := (HO.out.gt k hk).1; omega))
          clear hO' hg' hc'
          go_wp2_with fail
          refine ⟨⟨_, j + 1, rfl, wrap_succ (by have := HJL.out; have := IsD.few HK.out; omega), HJL.out, HO2.out, HB2.out⟩, ?_⟩
          rw [wrap_succ (by have := HJL.out; have := IsD.few HK.out; omega)]
          simp [intOf]; omega
        · have d1 : decide ((j : Int) < (L.length : Int)) = false := by simp; omega
          obtain rfl : j = L.length := by have := HJ.out; omega
          have HZ := Lib.hid HO.out
          clear hjl
          go_wp2_with fail
          go_ret
          have h := HZ.out
          rw [List.take_length] at h
          have hs : S = L.flatten.length := by rw [HS.out, List.take_length, lens_flat]
          subst hs
          exact ⟨xv, cv, rfl, (h.ends (by rw [← lens_flat]; exact HT.out)).mono (fun k hk _ => by have : w.heap.size - 1 < k := hk; show w.heap.size ≤ k; omega), HB.out⟩
end Go.Proofs.Ytfajafjikpmgpaa

namespace Go.Proofs.Ytfajafjikpmgpaa
open Go Go.RowKit
theorem size_st : (Try.prog.info? 75).map (·.size) = some 2 := by kernel_rfl
theorem size_cl : (Try.prog.info? 114).map (·.size) = some 3 := by kernel_rfl
theorem st_one (a : ByteArray) (b : Bool) : (#[.string a, .bool b] : Array Value).all (·.oneCell') = true := by simp [Value.oneCell']
theorem cl_one (a : ByteArray) (b c : Bool) : (#[.string a, .bool b, .bool c] : Array Value).all (·.oneCell') = true := by simp [Value.oneCell']
def stV (s : Stp) : Value := .agg #[.string s.name, .bool s.not_]
def stC (s : Stp) : List Value := [.string s.name, .bool s.not_]
def ckC (c : Clc) : List Value := [.string c.last.name, .bool c.last.not_, .bool c.any]
def stD (s : Stp) : List Dt := [.v (.string s.name), .v (.bool s.not_)]
def ckD (c : Clc) : List Dt := [.v (.string c.last.name), .v (.bool c.last.not_), .v (.bool c.any)]
def stsD (l : List Stp) : List Dt := l.flatMap stD
def cksD (l : List Clc) : List Dt := l.flatMap ckD
theorem RowsD.st {ok : Nat → Prop} {w : World} {xs : List Value} {v : Stp} (h : RowsD ok w xs (stD v)) : xs = stC v := by
  match xs, h with
  | [a, b], ⟨h1, h2, _⟩ =>
    unfold IsD at h1 h2
    rw [h1, h2]; rfl
theorem RowsD.ck {ok : Nat → Prop} {w : World} {xs : List Value} {v : Clc} (h : RowsD ok w xs (ckD v)) : xs = ckC v := by
  match xs, h with
  | [a, b, c], ⟨h1, h2, h3, _⟩ =>
    unfold IsD at h1 h2 h3
    rw [h1, h2, h3]; rfl
theorem st_at {ok : Nat → Prop} {w : World} {l : List Stp} {x : Option Addr} {c : Nat} (h : IsD ok w (.slice x l.length c) (.sl l.length (stsD l))) (i : Nat) (hi : i < l.length) : ∃ g, x = some ⟨g, 0, none⟩ ∧ g < w.heap.size ∧ w.rangeAt g (i * 2) (stC l[i]) := by
  obtain ⟨g, e1, _, e3, e4⟩ := IsD.some_ h (by omega)
  have h5 := IsDs.nth (f := stD) (sz := 2) (fun _ => rfl) l i 0 hi e4
  rw [Nat.zero_add] at h5
  obtain ⟨xs, h7, h6⟩ := h5.rows
  have e := h7.st
  subst e
  exact ⟨g, e1, e3, h6⟩
theorem ck_at {ok : Nat → Prop} {w : World} {l : List Clc} {x : Option Addr} {c : Nat} (h : IsD ok w (.slice x l.length c) (.sl l.length (cksD l))) (i : Nat) (hi : i < l.length) : ∃ g, x = some ⟨g, 0, none⟩ ∧ g < w.heap.size ∧ w.rangeAt g (i * 3) (ckC l[i]) := by
  obtain ⟨g, e1, _, e3, e4⟩ := IsD.some_ h (by omega)
  have h5 := IsDs.nth (f := ckD) (sz := 3) (fun _ => rfl) l i 0 hi e4
  rw [Nat.zero_add] at h5
  obtain ⟨xs, h7, h6⟩ := h5.rows
  have e := h7.ck
  subst e
  exact ⟨g, e1, e3, h6⟩
/-- The scope, in memory. -/
def Scp (w : World) (b n : Nat) (g : ClkG) : Prop := MapO Try.prog 9 w b n (fun s => (g s).map stV)
theorem zero_stp (w : World) : (zeroValue 75).run Try.prog w = .ok (.agg #[.string ⟨#[]⟩, .bool false]) w := by kernel_rfl
theorem Scp.look {w : World} {b n : Nat} {g : ClkG} (h : Scp w b n g) (s : ByteArray) (hs : s.size ≤ maxLen) : (Instr.lookup 105 (.map (some b)) (.string s) false).run Try.prog w = .ok (.agg #[.string (stOf g s).name, .bool (stOf g s).not_]) w := by
  have := MapO.look h Try.underlying9 Try.underlying105 (zero_stp w) s hs
  rw [this]
  unfold stOf
  cases g s.data.toList <;> rfl
theorem Scp.look_ok {w : World} {b n : Nat} {g : ClkG} (h : Scp w b n g) (s : ByteArray) (hs : s.size ≤ maxLen) : (Instr.lookup 105 (.map (some b)) (.string s) true).run Try.prog w = .ok (.tuple #[.agg #[.string (stOf g s).name, .bool (stOf g s).not_], .bool (g s.data.toList).isSome]) w := by
  have := MapO.look_ok h Try.underlying9 Try.underlying105 (zero_stp w) s hs
  rw [this]
  unfold stOf
  cases g s.data.toList <;> rfl
theorem cset_map (g : ClkG) (s : ByteArray) (v : Stp) : (fun x : List UInt8 => if x = s.data.toList then some (stV v) else (g x).map stV) = (fun x => (cset g s v x).map stV) := by
  funext x
  unfold cset
  by_cases hx : x = s.data.toList <;> simp [hx]
theorem Scp.below {w w' : World} {b n : Nat} {g : ClkG} (h : Scp w b n g) (hb : Below w.heap.size w w') : Scp w' b n g := MapO.below h hb
theorem wpList_scp {ops : Array Oper} {rest : List Oper} {o : Oper} {a : Act} {Q : Exit → Act → World → Prop} {w : World} (hgd : o.guard = none) (m x v : Operand) (hop : o.op = Op.mapUpdate 105 m x v) {b n : Nat} {g : ClkG} (hm : a.eval m = .map (some b)) (s : ByteArray) (hx : a.eval x = .string s) (k : Stp) (hv : a.eval v = .agg #[.string k.name, .bool k.not_]) (h : Scp w b n g) (hn : n < maxLen) (hs : s.size ≤ maxLen)
    (hK : ∀ w', Scp w' b (n + 1) (cset g s k) → w.grownBy w' (some b) → wpList Try.prog ops Q rest (a.put o.dst undef) w') : wpList Try.prog ops Q (o :: rest) a w := by
  refine wpList_plain hgd fun K' hK' => ?_
  obtain ⟨w', hrun, r1, r2⟩ := MapO.update h Try.underlying9 Try.underlying105 hn s hs (stV k)
  rw [cset_map] at r1
  unfold Oper.wp
  simp [execOp, hop, hm, hx, hv, Result.andThen]
  have hrun : (Instr.mapUpdate 105 (.map (some b)) (.string s) (.agg #[.string k.name, .bool k.not_])).run Try.prog w = .ok () w' := hrun
  rw [hrun]
  exact hK' _ _ (hK w' r1 r2)
theorem part_st0 (a : ByteArray) (b : Bool) (W : World) : (part 9 #[.string a, .bool b] 0).run Try.prog W = .ok (.string a) W := by kernel_rfl
theorem part_st1 (a : ByteArray) (b : Bool) (W : World) : (part 4 #[.string a, .bool b] 1).run Try.prog W = .ok (.bool b) W := by kernel_rfl
theorem part_cl0 (a : ByteArray) (b c : Bool) (W : World) : (part 75 #[.string a, .bool b, .bool c] 0).run Try.prog W = .ok (.agg #[.string a, .bool b]) W := by kernel_rfl
theorem part_cl1 (a : ByteArray) (b c : Bool) (W : World) : (part 4 #[.string a, .bool b, .bool c] 2).run Try.prog W = .ok (.bool c) W := by kernel_rfl
theorem two_fields {l : List Field} {t1 t2 : TypeId} {o1 o2 : Nat} (h : l.map (fun f => (f.name == "_", f.type, f.offset)) = [(false, t1, o1), (false, t2, o2)]) : ∃ f1 f2 : Field, l = [f1, f2] ∧ f1.name ≠ "_" ∧ f1.type = t1 ∧ f1.offset = o1 ∧ f2.name ≠ "_" ∧ f2.type = t2 ∧ f2.offset = o2 := by
  rcases l with _ | ⟨f1, _ | ⟨f2, _ | ⟨f3, r⟩⟩⟩
  · simp at h
  · simp at h
  · simp only [List.map_cons, List.map_nil, List.cons.injEq, Prod.mk.injEq, and_true, beq_eq_false_iff_ne] at h
    exact ⟨f1, f2, rfl, h.1.1, h.1.2.1, h.1.2.2, h.2.1, h.2.2.1, h.2.2.2⟩
  · simp at h
theorem st_fields : (Try.prog.fieldsOf 75).toList.map (fun f => (f.name == "_", f.type, f.offset)) = [(false, 9, 0), (false, 4, 1)] := by kernel_rfl
theorem cl_fields : (Try.prog.fieldsOf 114).toList.map (fun f => (f.name == "_", f.type, f.offset)) = [(false, 75, 0), (false, 4, 2)] := by kernel_rfl
/-- Two steps compared. -/
theorem stp_in (d : Nat) (a b : Stp) (W : World) : (Op.equalIn (d + 2) 75 (.agg #[.string a.name, .bool a.not_]) (.agg #[.string b.name, .bool b.not_])).run Try.prog W = .ok (stpEq a b) W := by
  obtain ⟨f1, f2, hl, n1, t1, o1, n2, t2, o2⟩ := two_fields st_fields
  rw [run_equalIn_agg W (d + 1) 75 _ _ (by kernel_rfl) (by kernel_rfl), hl]
  unfold stpEq
  simp only [Op.eqFields, n1, n2, t1, t2, o1, o2, ne_eq, not_false_eq_true, if_true, Sem.run_bind, Sem.run_ite, Sem.run_pure, part_st0, part_st1, Result.andThen_ok, run_equalIn_string W d 9 _ _ Try.underlying9, run_equalIn_bool' W d 4 _ _ Try.underlying4, Lib.toList_data]
  cases (a.name.data.toList == b.name.data.toList) <;> cases (a.not_ == b.not_) <;> simp
theorem stp_eq (a b : Stp) (W : World) : (binOp .eql 75 (.agg #[.string a.name, .bool a.not_]) (.agg #[.string b.name, .bool b.not_])).run Try.prog W = .ok (.bool (stpEq a b)) W := by
  rw [run_eql_struct, stp_in 9998]
  rfl
/-- Two clocks compared. -/
theorem clc_ne (a b : Clc) (W : World) : (binOp .neq 114 (.agg #[.string a.last.name, .bool a.last.not_, .bool a.any]) (.agg #[.string b.last.name, .bool b.last.not_, .bool b.any])).run Try.prog W = .ok (.bool (!clcEq a b)) W := by
  obtain ⟨f1, f2, hl, n1, t1, o1, n2, t2, o2⟩ := two_fields cl_fields
  rw [run_neq_struct, run_equalIn_agg W 9999 114 _ _ (by kernel_rfl) (by kernel_rfl), hl]
  unfold clcEq
  simp only [Op.eqFields, n1, n2, t1, t2, o1, o2, ne_eq, not_false_eq_true, if_true, Sem.run_bind, Sem.run_ite, Sem.run_pure, part_cl0, part_cl1, Result.andThen_ok, stp_in 9997 a.last b.last W, run_equalIn_bool' W 9998 4 _ _ Try.underlying4]
  cases stpEq a.last b.last <;> cases (a.any == b.any) <;> simp
end Go.Proofs.Ytfajafjikpmgpaa

namespace Go.Proofs.Ytfajafjikpmgpaa
open Go Go.RowKit
set_option maxHeartbeats 4000000 in
set_option maxRecDepth 100000 in
theorem fit1_raw (a s : ByteArray) (b y z : Bool) (w : World) : Calls Try.prog 110 #[.agg #[.string a, .bool b, .bool y], .agg #[.string s, .bool z]] w (fun e w' => e = .returned (.bool (y || stpEq ⟨a, b⟩ ⟨s, z⟩)) ∧ Below w.heap.size w w') := by
  have F0 := ((Fx.start w).alloc w.heap.size rfl 114 #[.string a, .bool b, .bool y]).alloc (w.heap.size + 1) (by simp) 75 #[.string s, .bool z]
  have c0 := cell_of_row _ w.heap.size 0 _ _ _ (F0.get 0 rfl)
  have c1 := cell_of_row _ w.heap.size 1 _ _ _ (F0.get 0 rfl)
  have c2 := cell_of_row _ w.heap.size 2 _ _ _ (F0.get 0 rfl)
  have d0 := cell_of_row _ (w.heap.size + 1) 0 _ _ _ (F0.get 1 rfl)
  have d1 := cell_of_row _ (w.heap.size + 1) 1 _ _ _ (F0.get 1 rfl)
  have he : ∀ W, (binOp .eql 75 (.agg #[.string a, .bool b]) (.agg #[.string s, .bool z])).run Try.prog W = .ok (.bool (stpEq ⟨a, b⟩ ⟨s, z⟩)) W := fun W => stp_eq ⟨a, b⟩ ⟨s, z⟩ W
  have HB := Lib.hid F0.below
  obtain ⟨r, hr⟩ : ∃ r, r = stpEq ⟨a, b⟩ ⟨s, z⟩ := ⟨_, rfl⟩
  rw [← hr] at he ⊢
  clear F0 hr
  cases y with
  | true =>
    clear c0 c1 d0 d1 he
    go_enter Try.func110, Try.ntmps110
    go_wp2_with fail
    go_ret
    exact ⟨rfl, HB.out⟩
  | false =>
    go_enter Try.func110, Try.ntmps110
    go_wp2_with fail
    go_ret
    exact ⟨rfl, HB.out⟩
theorem fit1_any (c : Clc) (s : Stp) (w : World) : Calls Try.prog 110 #[.agg #[.string c.last.name, .bool c.last.not_, .bool c.any], .agg #[.string s.name, .bool s.not_]] w (fun e w' => e = .returned (.bool (c.any || stpEq c.last s)) ∧ Below w.heap.size w w') := fit1_raw _ _ _ _ _ w
theorem fitC_cons (c : Clc) (l : List Clc) (t : Stp) (r : List Stp) : fitC (c :: l) (t :: r) = ((c.any || stpEq c.last t) && fitC l r) := by conv => lhs; unfold fitC
theorem fitC_len : ∀ (l : List Clc) (r : List Stp), l.length ≠ r.length → fitC l r = false
  | [], [], h => absurd rfl h
  | [], _ :: _, _ => by unfold fitC; rfl
  | _ :: _, [], _ => by unfold fitC; rfl
  | c :: l, t :: r, h => by rw [fitC_cons, fitC_len l r (by simpa using h), Bool.and_false]
set_option maxHeartbeats 4000000 in
set_option maxRecDepth 100000 in
theorem eqfn_any (l : List Clc) (ws : List Stp) (w : World) (ok ok2 : Nat → Prop) (x y : Option Addr) (c d : Nat) (hk : IsD ok w (.slice x l.length c) (.sl l.length (cksD l))) (hk2 : IsD ok2 w (.slice y ws.length d) (.sl ws.length (stsD ws))) : Calls Try.prog 109 #[.slice x l.length c, .slice y ws.length d, .func (.func 110) #[] #[]] w (fun e w' => e = .returned (.bool (fitC l ws)) ∧ Below w.heap.size w w') := by
  have HSC := Lib.hid size_cl
  have HST := Lib.hid size_st
  have HK := Lib.hid hk
  have HK2 := Lib.hid hk2
  have HFEW := Lib.hid (IsD.few hk)
  obtain ⟨R, hR⟩ : ∃ R, R = fitC l ws := ⟨_, rfl⟩
  rw [← hR]
  by_cases hlen : l.length = ws.length
  · have d0 : ((l.length : Int) != (ws.length : Int)) = false := by simp; omega
    have HLN := Lib.hid hlen
    have HR0 := Lib.hid (show R = fitC (l.drop 0) (ws.drop 0) from hR)
    clear hk hk2 hR hlen
    go_enter Try.func109, Try.ntmps109
    go_wp2_with fail
    go_loopw [17] (fun v17 wr => ∃ (i : Nat), v17 = .int .i64 (i : Int) ∧ i ≤ l.length ∧ Below w.heap.size w wr ∧ R = fitC (l.drop i) (ws.drop i))
      (fun v17 _ => l.length - (intOf v17).toNat)
    case atStart => exact ⟨0, rfl, Nat.zero_le _, Below.refl _ _, HR0.out⟩
    case round =>
      clear HR0 d0
      obtain ⟨i, rfl, hi, hb, hq⟩ := hrel
      have HI_ := Lib.hid hi
      have HB := Lib.hid hb
      clear hi
      by_cases hil : i < l.length
      · have d1 : decide ((i : Int) < (l.length : Int)) = true := by simp; omega
        have HIL := Lib.hid hil
        have hil2 : i < ws.length := by have := HLN.out; omega
        rw [List.drop_eq_getElem_cons hil, List.drop_eq_getElem_cons hil2, fitC_cons] at hq
        obtain ⟨g1, rfl, hg1, hr1⟩ := ck_at (IsD.below hb HK.out) i hil
        obtain ⟨g2, rfl, hg2, hr2⟩ := st_at (IsD.below hb HK2.out) i hil2
        obtain ⟨cc, hcc⟩ : ∃ cc, cc = l[i]'hil := ⟨_, rfl⟩
        obtain ⟨tt, htt⟩ : ∃ tt, tt = ws[i]'hil2 := ⟨_, rfl⟩
        rw [← hcc] at hq hr1
        rw [← htt] at hq hr2
        have FA := (Fx.start wr).alloc wr.heap.size rfl 114 #[.string ⟨#[]⟩, .bool false, .bool false]
        have FB := FA.store 0 rfl #[.string cc.last.name, .bool cc.last.not_, .bool cc.any]
        have hsz : (((wr.alloc (.cells #[.string ⟨#[]⟩, .bool false, .bool false] 114)).setRow wr.heap.size #[.string cc.last.name, .bool cc.last.not_, .bool cc.any])).heap.size = wr.heap.size + 1 := by rw [setRow_size]; simp
        have FC := FB.alloc (wr.heap.size + 1) hsz.symm 75 #[.string ⟨#[]⟩, .bool false]
        have FD := FC.store 1 rfl #[.string tt.name, .bool tt.not_]
        have HR1 := Lib.hid hr1
        have HR2 := Lib.hid (rangeAt_below hr2 FB.below hg2)
        have HA1 := Lib.hid (FA.get 0 rfl)
        have HA2 := Lib.hid (FC.get 1 rfl)
        have HL1 := Lib.hid (FD.get 0 rfl)
        have HL2 := Lib.hid (FD.get 1 rfl)
        have HBD := Lib.hid (hb.trans (FD.below.mono hb.size))
        have hd1 : (i : Int) < (ws.length : Int) := by omega
        have i0 : (0 : Int) ≤ (i : Int) := by omega
        have i1 : (i : Int) < (l.length : Int) := by omega
        obtain ⟨W3, hW3⟩ : ∃ W3, W3 = (((wr.alloc (.cells #[.string ⟨#[]⟩, .bool false, .bool false] 114)).setRow wr.heap.size #[.string cc.last.name, .bool cc.last.not_, .bool cc.any]).alloc (.cells #[.string ⟨#[]⟩, .bool false] 75)).setRow (wr.heap.size + 1) #[.string tt.name, .bool tt.not_] := ⟨_, rfl⟩
        have kf := fit1_any cc tt W3
        rw [hW3] at kf
        obtain ⟨r, hr⟩ : ∃ r, r = (cc.any || stpEq cc.last tt) := ⟨_, rfl⟩
        rw [← hr] at hq kf
        have HQ := Lib.hid hq
        have HW3 := Lib.hid hW3
        rw [← hW3] at HBD
        clear hil hil2 hcc htt FA FB FC FD hr1 hr2 hg1 hg2 hb hq hr hW3 hsz
        go_wp2_with (first | (refine wpList_load_mid rfl 114 (.tmp 20) rfl g1 (i * 3) rfl (ckC cc) _ ?_ Try.underlying114 rfl HSC.out ?_; (exact HR1.out)) | (refine wpList_store_row rfl 114 (.tmp 8) (.tmp 21) rfl wr.heap.size #[.string cc.last.name, .bool cc.last.not_, .bool cc.any] rfl rfl 114 _ HA1.out HSC.out rfl (cl_one _ _ _) ?_) | (refine wpList_load_mid rfl 75 (.tmp 24) rfl g2 (i * 2) rfl (stC tt) _ ?_ Try.underlying75 rfl HST.out ?_; (exact HR2.out)) | (refine wpList_store_row rfl 75 (.tmp 9) (.tmp 25) rfl (wr.heap.size + 1) #[.string tt.name, .bool tt.not_] rfl rfl 75 _ HA2.out HST.out rfl (st_one _ _) ?_) | (refine wpList_load_row rfl 114 (.tmp 8) rfl wr.heap.size rfl 114 #[.string cc.last.name, .bool cc.last.not_, .bool cc.any] (0, 0) _ HL1.out Try.underlying114 rfl HSC.out ?_) | (refine wpList_load_row rfl 75 (.tmp 9) rfl (wr.heap.size + 1) rfl 75 #[.string tt.name, .bool tt.not_] (0, 0) _ HL2.out Try.underlying75 rfl HST.out ?_))
        (with_reducible refine kf.mono ?_)
        rw [← HW3.out]
        rintro e9 w4 ⟨rfl, hb⟩
        have HB4 := Lib.hid (HBD.out.trans (hb.mono HBD.out.size))
        clear kf hb
        cases r with
        | true =>
          have HQ2 := Lib.hid (show R = fitC (l.drop (i + 1)) (ws.drop (i + 1)) by rw [HQ.out, Bool.true_and])
          go_wp2_with fail
          refine ⟨⟨i + 1, wrap_succ (by have := HIL.out; have := HFEW.out; omega), HIL.out, HB4.out, HQ2.out⟩, ?_⟩
          rw [wrap_succ (by have := HIL.out; have := HFEW.out; omega)]
          have := HIL.out
          simp [intOf]; omega
        | false =>
          have HQ2 := Lib.hid (show R = false by rw [HQ.out, Bool.false_and])
          go_wp2_with fail
          go_ret
          exact ⟨by rw [HQ2.out]; rfl, HB4.out⟩
      · have d1 : decide ((i : Int) < (l.length : Int)) = false := by simp; omega
        have HQ2 := Lib.hid (show R = true by rw [hq, List.drop_of_length_le (by omega), List.drop_of_length_le (by have := HLN.out; omega)]; unfold fitC; rfl)
        obtain rfl : i = l.length := by have := HI_.out; omega
        clear hil hq hb
        go_wp2_with fail
        go_ret
        exact ⟨by rw [HQ2.out]; rfl, HB.out⟩
  · have d0 : ((l.length : Int) != (ws.length : Int)) = true := by simp; omega
    have HQ2 := Lib.hid (show R = false by rw [hR, fitC_len l ws hlen])
    clear hk hk2 hR hlen
    go_enter Try.func109, Try.ntmps109
    go_wp2_with fail
    go_ret
    exact ⟨by rw [HQ2.out]; rfl, Below.refl _ _⟩
set_option maxHeartbeats 4000000 in
set_option maxRecDepth 100000 in
theorem fit_any (l : List Clc) (ws : List Stp) (w : World) (ok ok2 : Nat → Prop) (x y : Option Addr) (c d : Nat) (hk : IsD ok w (.slice x l.length c) (.sl l.length (cksD l))) (hk2 : IsD ok2 w (.slice y ws.length d) (.sl ws.length (stsD ws))) : Calls Try.prog 82 #[.slice x l.length c, .slice y ws.length d] w (fun e w' => e = .returned (.bool (fitC l ws)) ∧ Below w.heap.size w w') := by
  have kf := eqfn_any l ws w ok ok2 x y c d hk hk2
  obtain ⟨r, hr⟩ : ∃ r, r = fitC l ws := ⟨_, rfl⟩
  rw [← hr] at kf ⊢
  clear hk hk2 hr
  go_enter Try.func82, Try.ntmps82
  go_wp2_with fail
  (with_reducible refine kf.mono ?_)
  rintro e9 w4 ⟨rfl, hb⟩
  have HB := Lib.hid hb
  clear kf hb
  go_wp2_with fail
  go_ret
  exact ⟨rfl, HB.out⟩
end Go.Proofs.Ytfajafjikpmgpaa

namespace Go.Proofs.Ytfajafjikpmgpaa
open Go Go.RowKit
theorem results_cell_tmp2 {P : Program} {fn : Func} {q p : Tmp} {ty : TypeId} (h : fn.results = #[.cell p ty, .tmp q]) (tmps : Array Value) (w : World) (g : Nat) (t : TypeId) (cs : Array Value) (fr : Nat × Nat) (d : TypeDesc)
    (hp : tmps.getD p undef = .pointer (some ⟨g, 0, none⟩)) (hg : w.heap[g]? = some (.cells cs t fr))
    (hu : P.underlying ty = some d) (hd : (match d with | .struct _ | .array _ _ => true | _ => false) = true) (hi : (P.info? ty).map (·.size) = some cs.size) :
    (results fn tmps).run P w = .ok (.tuple #[.agg cs, tmps.getD q undef]) w := by
  have hp' : tmps[p]?.getD undef = .pointer (some ⟨g, 0, none⟩) := by simpa using hp
  simp [results, h, hp', asAddr, run_loadVar_row w g t ty cs fr d hg hu hd hi]
theorem stpEq_refl (a : Stp) : stpEq a a = true := by unfold stpEq; simp
theorem clcEq_refl (a : Clc) : clcEq a a = true := by unfold clcEq; rw [stpEq_refl]; simp
theorem meetC_cons (one c : Clc) (r : List Clc) : meetC one (c :: r) = if c.any = false ∧ clcEq c (if one.any = true then c else one) = false then (clcZ, false) else meetC (if one.any = true then c else one) r := by
  conv => lhs; unfold meetC
def clcA (c : Clc) : Array Value := #[.string c.last.name, .bool c.last.not_, .bool c.any]
def GivesMt (R : Clc × Bool) (w : World) (e : Ending) (w' : World) : Prop := e = .returned (.tuple #[.agg (clcA R.1), .bool R.2]) ∧ Below w.heap.size w w'
set_option maxHeartbeats 4000000 in
set_option maxRecDepth 100000 in
theorem meet_any (l : List Clc) (w : World) (ok : Nat → Prop) (x : Option Addr) (c : Nat) (hk : IsD ok w (.slice x l.length c) (.sl l.length (cksD l))) : Calls Try.prog 111 #[.slice x l.length c] w (GivesMt (meetC ⟨stpZ, true⟩ l) w) := by
  have HSC := Lib.hid size_cl
  have HK := Lib.hid hk
  have HFEW := Lib.hid (IsD.few hk)
  obtain ⟨R, hR⟩ : ∃ R, R = meetC ⟨stpZ, true⟩ l := ⟨_, rfl⟩
  rw [← hR]
  have FA := ((Fx.start w).alloc (w.heap.size) rfl 114 #[.string ⟨#[]⟩, .bool false, .bool false]).alloc (w.heap.size + 1) (by simp) 114 #[.string ⟨#[]⟩, .bool false, .bool false]
  have HA1 := Lib.hid (FA.get 1 rfl)
  have HF0 := Lib.hid (FA.store 1 rfl #[.string ⟨#[]⟩, .bool false, .bool true])
  have HR0 := Lib.hid (show R = meetC ⟨stpZ, true⟩ (l.drop 0) from hR)
  have b1 : ∀ W : World, (Instr.build 114 #[(1, .bool true)]).run Try.prog W = .ok (.agg #[.string ⟨#[]⟩, .bool false, .bool true]) W := fun W => by kernel_rfl
  have b2 : ∀ W : World, (Instr.build 114 #[]).run Try.prog W = .ok (.agg #[.string ⟨#[]⟩, .bool false, .bool false]) W := fun W => by kernel_rfl
  have HB2 := Lib.hid b2
  clear hk hR FA b2
  go_enter Try.func111, Try.ntmps111
  go_wp2_with (refine wpList_store_row rfl 114 (.tmp 4) (.tmp 7) rfl (w.heap.size + 1) #[.string ⟨#[]⟩, .bool false, .bool true] rfl rfl 114 _ HA1.out HSC.out rfl (cl_one _ _ _) ?_)
  clear b1
  go_loopw [10] (fun v10 wr => ∃ (i : Nat) (one : Clc), v10 = .int .i64 (i : Int) ∧ i ≤ l.length ∧ Fx w [(w.heap.size, 114, #[.string ⟨#[]⟩, .bool false, .bool false]), (w.heap.size + 1, 114, #[.string one.last.name, .bool one.last.not_, .bool one.any])] wr ∧ R = meetC one (l.drop i))
    (fun v10 _ => l.length - (intOf v10).toNat)
  case atStart => exact ⟨0, ⟨stpZ, true⟩, rfl, Nat.zero_le _, HF0.out, HR0.out⟩
  case round =>
    clear HF0 HR0
    obtain ⟨i, one, rfl, hi, hF, hq⟩ := hrel
    have HI_ := Lib.hid hi
    clear hi
    by_cases hil : i < l.length
    · have d1 : decide ((i : Int) < (l.length : Int)) = true := by simp; omega
      have HIL := Lib.hid hil
      rw [List.drop_eq_getElem_cons hil, meetC_cons] at hq
      obtain ⟨g1, rfl, hg1, hr1⟩ := ck_at (IsD.below hF.below HK.out) i hil
      obtain ⟨cc, hcc⟩ : ∃ cc, cc = l[i]'hil := ⟨_, rfl⟩
      rw [← hcc] at hq hr1
      have i0 : (0 : Int) ≤ (i : Int) := by omega
      have i1 : (i : Int) < (l.length : Int) := by omega
      obtain ⟨⟨cn, cb⟩, ca⟩ := cc
      obtain ⟨⟨on_, ob⟩, oa⟩ := one
      clear hil hcc hg1
      cases oa <;> cases ca
      · have HQ := Lib.hid (show R = if (⟨⟨cn, cb⟩, false⟩ : Clc).any = false ∧ clcEq (⟨⟨cn, cb⟩, false⟩ : Clc) (⟨⟨on_, ob⟩, false⟩ : Clc) = false then (clcZ, false) else meetC (⟨⟨on_, ob⟩, false⟩ : Clc) (l.drop (i + 1)) from hq)
        have hr1 : wr.rangeAt g1 (i * 3) [.string cn, .bool cb, .bool false] := hr1
        have HR1 := Lib.hid hr1
        have hF : Fx w [(w.heap.size, 114, #[.string ⟨#[]⟩, .bool false, .bool false]), (w.heap.size + 1, 114, #[.string on_, .bool ob, .bool false])] wr := hF
        have FB := hF.alloc wr.heap.size rfl 114 #[.string ⟨#[]⟩, .bool false, .bool false]
        have FC := FB.store 2 rfl #[.string cn, .bool cb, .bool false]
        have HA2 := Lib.hid (FB.get 2 rfl)
        have HL6 := Lib.hid (FC.get 2 rfl)
        have HL4 := Lib.hid (FC.get 1 rfl)
        have HL2 := Lib.hid (FC.get 0 rfl)
        have o2 := cell_of_row _ (w.heap.size + 1) 2 _ _ _ (FC.get 1 rfl)
        have a0 := cell_of_row _ wr.heap.size 0 _ _ _ (FC.get 2 rfl)
        have e0 := cell_of_row _ (w.heap.size + 1) 0 _ _ _ (FC.get 1 rfl)
        have a1 := cell_of_row _ wr.heap.size 1 _ _ _ (FC.get 2 rfl)
        have e1 := cell_of_row _ (w.heap.size + 1) 1 _ _ _ (FC.get 1 rfl)
        have a2 := cell_of_row _ wr.heap.size 2 _ _ _ (FC.get 2 rfl)
        have e2 := cell_of_row _ (w.heap.size + 1) 2 _ _ _ (FC.get 1 rfl)
        have HFC : Hid (Fx w [(w.heap.size, 114, #[.string ⟨#[]⟩, .bool false, .bool false]), (w.heap.size + 1, 114, #[.string on_, .bool ob, .bool false])] _) := Lib.hid (Fx.first (cl := [(wr.heap.size, 114, #[.string cn, .bool cb, .bool false])]) FC)
        have HZ := HB2.out
        clear hq hr1 hF FB FC
        have ne : ∀ W, (binOp .neq 114 (.agg #[.string cn, .bool cb, .bool false]) (.agg #[.string on_, .bool ob, .bool false])).run Try.prog W = .ok (.bool (!clcEq (⟨⟨cn, cb⟩, false⟩ : Clc) (⟨⟨on_, ob⟩, false⟩ : Clc))) W := fun W => clc_ne (⟨⟨cn, cb⟩, false⟩ : Clc) (⟨⟨on_, ob⟩, false⟩ : Clc) W
        cases hce : clcEq (⟨⟨cn, cb⟩, false⟩ : Clc) (⟨⟨on_, ob⟩, false⟩ : Clc) with
        | true =>
          rw [hce] at ne
          have HQ2 := Lib.hid (show R = meetC (⟨⟨on_, ob⟩, false⟩ : Clc) (l.drop (i + 1)) by rw [HQ.out, hce, if_neg (by rintro ⟨_, h⟩; cases h)])
          clear hce
          go_wp2_with (first | (refine wpList_load_mid rfl 114 (.tmp 12) rfl g1 (i * 3) rfl [.string cn, .bool cb, .bool false] _ ?_ Try.underlying114 rfl HSC.out ?_; (exact HR1.out)) | (refine wpList_store_row rfl 114 (.tmp 6) (.tmp 13) rfl wr.heap.size #[.string cn, .bool cb, .bool false] rfl rfl 114 _ HA2.out HSC.out rfl (cl_one _ _ _) ?_) | (refine wpList_load_row rfl 114 (.tmp 6) rfl wr.heap.size rfl 114 #[.string cn, .bool cb, .bool false] (0, 0) _ HL6.out Try.underlying114 rfl HSC.out ?_) | (refine wpList_store_row rfl 114 (.tmp 4) (.tmp 16) rfl (w.heap.size + 1) #[.string cn, .bool cb, .bool false] rfl rfl 114 _ HL4.out HSC.out rfl (cl_one _ _ _) ?_) | (refine wpList_store_row rfl 114 (.tmp 2) (.tmp 25) rfl (w.heap.size) #[.string ⟨#[]⟩, .bool false, .bool false] rfl rfl 114 _ HL2.out HSC.out rfl (cl_one _ _ _) ?_))
          refine ⟨⟨i + 1, (⟨⟨on_, ob⟩, false⟩ : Clc), wrap_succ (by have := HIL.out; have := HFEW.out; omega), HIL.out, HFC.out, HQ2.out⟩, ?_⟩
          rw [wrap_succ (by have := HIL.out; have := HFEW.out; omega)]
          have := HIL.out
          simp [intOf]; omega
        | false =>
          rw [hce] at ne
          have HQ2 := Lib.hid (show R = (clcZ, false) by rw [HQ.out, hce, if_pos ⟨rfl, rfl⟩])
          clear hce
          go_wp2_with (first | (refine wpList_load_mid rfl 114 (.tmp 12) rfl g1 (i * 3) rfl [.string cn, .bool cb, .bool false] _ ?_ Try.underlying114 rfl HSC.out ?_; (exact HR1.out)) | (refine wpList_store_row rfl 114 (.tmp 6) (.tmp 13) rfl wr.heap.size #[.string cn, .bool cb, .bool false] rfl rfl 114 _ HA2.out HSC.out rfl (cl_one _ _ _) ?_) | (refine wpList_load_row rfl 114 (.tmp 6) rfl wr.heap.size rfl 114 #[.string cn, .bool cb, .bool false] (0, 0) _ HL6.out Try.underlying114 rfl HSC.out ?_) | (refine wpList_store_row rfl 114 (.tmp 4) (.tmp 16) rfl (w.heap.size + 1) #[.string cn, .bool cb, .bool false] rfl rfl 114 _ HL4.out HSC.out rfl (cl_one _ _ _) ?_) | (refine wpList_store_row rfl 114 (.tmp 2) (.tmp 25) rfl (w.heap.size) #[.string ⟨#[]⟩, .bool false, .bool false] rfl rfl 114 _ HL2.out HSC.out rfl (cl_one _ _ _) ?_))
          refine bodyPost_ret (results_cell_tmp2 (q := 3) (p := 2) (ty := 114) rfl _ _ (w.heap.size) 114 #[.string ⟨#[]⟩, .bool false, .bool false] (0, 0) _ rfl (setRow_heap _ (w.heap.size) _ _ _ _ HL2.out) Try.underlying114 rfl HSC.out) rfl ?_
          rw [HQ2.out]
          exact ⟨rfl, below_setRow HFC.out.below (Nat.le_refl _) _⟩
      · have HQ := Lib.hid (show R = if (⟨⟨cn, cb⟩, true⟩ : Clc).any = false ∧ clcEq (⟨⟨cn, cb⟩, true⟩ : Clc) (⟨⟨on_, ob⟩, false⟩ : Clc) = false then (clcZ, false) else meetC (⟨⟨on_, ob⟩, false⟩ : Clc) (l.drop (i + 1)) from hq)
        have hr1 : wr.rangeAt g1 (i * 3) [.string cn, .bool cb, .bool true] := hr1
        have HR1 := Lib.hid hr1
        have hF : Fx w [(w.heap.size, 114, #[.string ⟨#[]⟩, .bool false, .bool false]), (w.heap.size + 1, 114, #[.string on_, .bool ob, .bool false])] wr := hF
        have FB := hF.alloc wr.heap.size rfl 114 #[.string ⟨#[]⟩, .bool false, .bool false]
        have FC := FB.store 2 rfl #[.string cn, .bool cb, .bool true]
        have HA2 := Lib.hid (FB.get 2 rfl)
        have HL6 := Lib.hid (FC.get 2 rfl)
        have HL4 := Lib.hid (FC.get 1 rfl)
        have HL2 := Lib.hid (FC.get 0 rfl)
        have o2 := cell_of_row _ (w.heap.size + 1) 2 _ _ _ (FC.get 1 rfl)
        have a0 := cell_of_row _ wr.heap.size 0 _ _ _ (FC.get 2 rfl)
        have e0 := cell_of_row _ (w.heap.size + 1) 0 _ _ _ (FC.get 1 rfl)
        have a1 := cell_of_row _ wr.heap.size 1 _ _ _ (FC.get 2 rfl)
        have e1 := cell_of_row _ (w.heap.size + 1) 1 _ _ _ (FC.get 1 rfl)
        have a2 := cell_of_row _ wr.heap.size 2 _ _ _ (FC.get 2 rfl)
        have e2 := cell_of_row _ (w.heap.size + 1) 2 _ _ _ (FC.get 1 rfl)
        have HFC : Hid (Fx w [(w.heap.size, 114, #[.string ⟨#[]⟩, .bool false, .bool false]), (w.heap.size + 1, 114, #[.string on_, .bool ob, .bool false])] _) := Lib.hid (Fx.first (cl := [(wr.heap.size, 114, #[.string cn, .bool cb, .bool true])]) FC)
        have HZ := HB2.out
        clear hq hr1 hF FB FC
        have HQ2 := Lib.hid (show R = meetC (⟨⟨on_, ob⟩, false⟩ : Clc) (l.drop (i + 1)) by rw [HQ.out, if_neg (by rintro ⟨h, _⟩; cases h)])
        go_wp2_with (first | (refine wpList_load_mid rfl 114 (.tmp 12) rfl g1 (i * 3) rfl [.string cn, .bool cb, .bool true] _ ?_ Try.underlying114 rfl HSC.out ?_; (exact HR1.out)) | (refine wpList_store_row rfl 114 (.tmp 6) (.tmp 13) rfl wr.heap.size #[.string cn, .bool cb, .bool true] rfl rfl 114 _ HA2.out HSC.out rfl (cl_one _ _ _) ?_) | (refine wpList_load_row rfl 114 (.tmp 6) rfl wr.heap.size rfl 114 #[.string cn, .bool cb, .bool true] (0, 0) _ HL6.out Try.underlying114 rfl HSC.out ?_) | (refine wpList_store_row rfl 114 (.tmp 4) (.tmp 16) rfl (w.heap.size + 1) #[.string cn, .bool cb, .bool true] rfl rfl 114 _ HL4.out HSC.out rfl (cl_one _ _ _) ?_) | (refine wpList_store_row rfl 114 (.tmp 2) (.tmp 25) rfl (w.heap.size) #[.string ⟨#[]⟩, .bool false, .bool false] rfl rfl 114 _ HL2.out HSC.out rfl (cl_one _ _ _) ?_))
        refine ⟨⟨i + 1, (⟨⟨on_, ob⟩, false⟩ : Clc), wrap_succ (by have := HIL.out; have := HFEW.out; omega), HIL.out, HFC.out, HQ2.out⟩, ?_⟩
        rw [wrap_succ (by have := HIL.out; have := HFEW.out; omega)]
        have := HIL.out
        simp [intOf]; omega
      · have HQ := Lib.hid (show R = if (⟨⟨cn, cb⟩, false⟩ : Clc).any = false ∧ clcEq (⟨⟨cn, cb⟩, false⟩ : Clc) (⟨⟨cn, cb⟩, false⟩ : Clc) = false then (clcZ, false) else meetC (⟨⟨cn, cb⟩, false⟩ : Clc) (l.drop (i + 1)) from hq)
        have hr1 : wr.rangeAt g1 (i * 3) [.string cn, .bool cb, .bool false] := hr1
        have HR1 := Lib.hid hr1
        have hF : Fx w [(w.heap.size, 114, #[.string ⟨#[]⟩, .bool false, .bool false]), (w.heap.size + 1, 114, #[.string on_, .bool ob, .bool true])] wr := hF
        have FB := hF.alloc wr.heap.size rfl 114 #[.string ⟨#[]⟩, .bool false, .bool false]
        have FC := FB.store 2 rfl #[.string cn, .bool cb, .bool false]
        have HA2 := Lib.hid (FB.get 2 rfl)
        have HL6 := Lib.hid (FC.get 2 rfl)
        have HL4 := Lib.hid (FC.get 1 rfl)
        have HL2 := Lib.hid (FC.get 0 rfl)
        have o2 := cell_of_row _ (w.heap.size + 1) 2 _ _ _ (FC.get 1 rfl)
        have FD := FC.store 1 rfl #[.string cn, .bool cb, .bool false]
        have a0 := cell_of_row _ wr.heap.size 0 _ _ _ (FD.get 2 rfl)
        have e0 := cell_of_row _ (w.heap.size + 1) 0 _ _ _ (FD.get 1 rfl)
        have a1 := cell_of_row _ wr.heap.size 1 _ _ _ (FD.get 2 rfl)
        have e1 := cell_of_row _ (w.heap.size + 1) 1 _ _ _ (FD.get 1 rfl)
        have a2 := cell_of_row _ wr.heap.size 2 _ _ _ (FD.get 2 rfl)
        have e2 := cell_of_row _ (w.heap.size + 1) 2 _ _ _ (FD.get 1 rfl)
        have HFC : Hid (Fx w [(w.heap.size, 114, #[.string ⟨#[]⟩, .bool false, .bool false]), (w.heap.size + 1, 114, #[.string cn, .bool cb, .bool false])] _) := Lib.hid (Fx.first (cl := [(wr.heap.size, 114, #[.string cn, .bool cb, .bool false])]) FD)
        have HZ := HB2.out
        clear hq hr1 hF FB FC FD
        have ne : ∀ W, (binOp .neq 114 (.agg #[.string cn, .bool cb, .bool false]) (.agg #[.string cn, .bool cb, .bool false])).run Try.prog W = .ok (.bool false) W := fun W => by have := clc_ne (⟨⟨cn, cb⟩, false⟩ : Clc) (⟨⟨cn, cb⟩, false⟩ : Clc) W; rw [clcEq_refl] at this; exact this
        have HQ2 := Lib.hid (show R = meetC (⟨⟨cn, cb⟩, false⟩ : Clc) (l.drop (i + 1)) by rw [HQ.out, clcEq_refl, if_neg (by rintro ⟨_, h⟩; cases h)])
        go_wp2_with (first | (refine wpList_load_mid rfl 114 (.tmp 12) rfl g1 (i * 3) rfl [.string cn, .bool cb, .bool false] _ ?_ Try.underlying114 rfl HSC.out ?_; (exact HR1.out)) | (refine wpList_store_row rfl 114 (.tmp 6) (.tmp 13) rfl wr.heap.size #[.string cn, .bool cb, .bool false] rfl rfl 114 _ HA2.out HSC.out rfl (cl_one _ _ _) ?_) | (refine wpList_load_row rfl 114 (.tmp 6) rfl wr.heap.size rfl 114 #[.string cn, .bool cb, .bool false] (0, 0) _ HL6.out Try.underlying114 rfl HSC.out ?_) | (refine wpList_store_row rfl 114 (.tmp 4) (.tmp 16) rfl (w.heap.size + 1) #[.string cn, .bool cb, .bool false] rfl rfl 114 _ HL4.out HSC.out rfl (cl_one _ _ _) ?_) | (refine wpList_store_row rfl 114 (.tmp 2) (.tmp 25) rfl (w.heap.size) #[.string ⟨#[]⟩, .bool false, .bool false] rfl rfl 114 _ HL2.out HSC.out rfl (cl_one _ _ _) ?_))
        refine ⟨⟨i + 1, (⟨⟨cn, cb⟩, false⟩ : Clc), wrap_succ (by have := HIL.out; have := HFEW.out; omega), HIL.out, HFC.out, HQ2.out⟩, ?_⟩
        rw [wrap_succ (by have := HIL.out; have := HFEW.out; omega)]
        have := HIL.out
        simp [intOf]; omega
      · have HQ := Lib.hid (show R = if (⟨⟨cn, cb⟩, true⟩ : Clc).any = false ∧ clcEq (⟨⟨cn, cb⟩, true⟩ : Clc) (⟨⟨cn, cb⟩, true⟩ : Clc) = false then (clcZ, false) else meetC (⟨⟨cn, cb⟩, true⟩ : Clc) (l.drop (i + 1)) from hq)
        have hr1 : wr.rangeAt g1 (i * 3) [.string cn, .bool cb, .bool true] := hr1
        have HR1 := Lib.hid hr1
        have hF : Fx w [(w.heap.size, 114, #[.string ⟨#[]⟩, .bool false, .bool false]), (w.heap.size + 1, 114, #[.string on_, .bool ob, .bool true])] wr := hF
        have FB := hF.alloc wr.heap.size rfl 114 #[.string ⟨#[]⟩, .bool false, .bool false]
        have FC := FB.store 2 rfl #[.string cn, .bool cb, .bool true]
        have HA2 := Lib.hid (FB.get 2 rfl)
        have HL6 := Lib.hid (FC.get 2 rfl)
        have HL4 := Lib.hid (FC.get 1 rfl)
        have HL2 := Lib.hid (FC.get 0 rfl)
        have o2 := cell_of_row _ (w.heap.size + 1) 2 _ _ _ (FC.get 1 rfl)
        have FD := FC.store 1 rfl #[.string cn, .bool cb, .bool true]
        have a0 := cell_of_row _ wr.heap.size 0 _ _ _ (FD.get 2 rfl)
        have e0 := cell_of_row _ (w.heap.size + 1) 0 _ _ _ (FD.get 1 rfl)
        have a1 := cell_of_row _ wr.heap.size 1 _ _ _ (FD.get 2 rfl)
        have e1 := cell_of_row _ (w.heap.size + 1) 1 _ _ _ (FD.get 1 rfl)
        have a2 := cell_of_row _ wr.heap.size 2 _ _ _ (FD.get 2 rfl)
        have e2 := cell_of_row _ (w.heap.size + 1) 2 _ _ _ (FD.get 1 rfl)
        have HFC : Hid (Fx w [(w.heap.size, 114, #[.string ⟨#[]⟩, .bool false, .bool false]), (w.heap.size + 1, 114, #[.string cn, .bool cb, .bool true])] _) := Lib.hid (Fx.first (cl := [(wr.heap.size, 114, #[.string cn, .bool cb, .bool true])]) FD)
        have HZ := HB2.out
        clear hq hr1 hF FB FC FD
        have HQ2 := Lib.hid (show R = meetC (⟨⟨cn, cb⟩, true⟩ : Clc) (l.drop (i + 1)) by rw [HQ.out, if_neg (by rintro ⟨h, _⟩; cases h)])
        go_wp2_with (first | (refine wpList_load_mid rfl 114 (.tmp 12) rfl g1 (i * 3) rfl [.string cn, .bool cb, .bool true] _ ?_ Try.underlying114 rfl HSC.out ?_; (exact HR1.out)) | (refine wpList_store_row rfl 114 (.tmp 6) (.tmp 13) rfl wr.heap.size #[.string cn, .bool cb, .bool true] rfl rfl 114 _ HA2.out HSC.out rfl (cl_one _ _ _) ?_) | (refine wpList_load_row rfl 114 (.tmp 6) rfl wr.heap.size rfl 114 #[.string cn, .bool cb, .bool true] (0, 0) _ HL6.out Try.underlying114 rfl HSC.out ?_) | (refine wpList_store_row rfl 114 (.tmp 4) (.tmp 16) rfl (w.heap.size + 1) #[.string cn, .bool cb, .bool true] rfl rfl 114 _ HL4.out HSC.out rfl (cl_one _ _ _) ?_) | (refine wpList_store_row rfl 114 (.tmp 2) (.tmp 25) rfl (w.heap.size) #[.string ⟨#[]⟩, .bool false, .bool false] rfl rfl 114 _ HL2.out HSC.out rfl (cl_one _ _ _) ?_))
        refine ⟨⟨i + 1, (⟨⟨cn, cb⟩, true⟩ : Clc), wrap_succ (by have := HIL.out; have := HFEW.out; omega), HIL.out, HFC.out, HQ2.out⟩, ?_⟩
        rw [wrap_succ (by have := HIL.out; have := HFEW.out; omega)]
        have := HIL.out
        simp [intOf]; omega
    · have d1 : decide ((i : Int) < (l.length : Int)) = false := by simp; omega
      have HQ2 := Lib.hid (show R = (one, true) by rw [hq, List.drop_of_length_le (by omega)]; unfold meetC; rfl)
      obtain rfl : i = l.length := by have := HI_.out; omega
      have HL2 := Lib.hid (hF.get 0 rfl)
      have HL4 := Lib.hid (hF.get 1 rfl)
      have HF := Lib.hid hF
      clear hil hq hF
      go_wp2_with (first | (refine wpList_load_row rfl 114 (.tmp 4) rfl (w.heap.size + 1) rfl 114 #[.string one.last.name, .bool one.last.not_, .bool one.any] (0, 0) _ HL4.out Try.underlying114 rfl HSC.out ?_) | (refine wpList_store_row rfl 114 (.tmp 2) (.tmp 27) rfl (w.heap.size) #[.string one.last.name, .bool one.last.not_, .bool one.any] rfl rfl 114 _ HL2.out HSC.out rfl (cl_one _ _ _) ?_))
      refine bodyPost_ret (results_cell_tmp2 (q := 3) (p := 2) (ty := 114) rfl _ _ (w.heap.size) 114 #[.string one.last.name, .bool one.last.not_, .bool one.any] (0, 0) _ rfl (setRow_heap _ (w.heap.size) _ _ _ _ HL2.out) Try.underlying114 rfl HSC.out) rfl ?_
      rw [HQ2.out]
      exact ⟨rfl, below_setRow HF.out.below (Nat.le_refl _) _⟩
end Go.Proofs.Ytfajafjikpmgpaa

namespace Go.Proofs.Ytfajafjikpmgpaa
open Go Go.RowKit
theorem Kinds.look_ok {w : World} {b n : Nat} {g : List UInt8 → Option Int} (h : Kinds w b n g) (s : ByteArray) (hs : s.size ≤ maxLen) : (Instr.lookup 89 (.map (some b)) (.string s) true).run Try.prog w = .ok (.tuple #[.int .i64 (kindOf g s), .bool (g s.data.toList).isSome]) w := by
  have := MapO.look_ok h Try.underlying9 Try.underlying89 (zero_kind w) s hs
  rw [this]
  unfold kindOf
  cases g s.data.toList <;> rfl
theorem okVs_app {a b : List Vr} (ha : okVs a = true) (hb : okVs b = true) : okVs (a ++ b) = true := by
  unfold okVs at *
  rw [List.all_append, ha, hb]; rfl
end Go.Proofs.Ytfajafjikpmgpaa

namespace Go.Proofs.Ytfajafjikpmgpaa
open Go Go.RowKit
def GivesSc (g : ClkG) (w : World) (e : Ending) (w' : World) : Prop := ∃ b m, e = .returned (.map (some b)) ∧ Scp w' b m g ∧ m ≤ 3000000 ∧ w.heap.size ≤ b ∧ Below w.heap.size w w'
theorem ioC_cons (g : ClkG) (v : Vr) (r : List Vr) : ioC g (v :: r) = ioC (cset g v.name stpZ) r := rfl
theorem locC_cons (g : ClkG) (v : Vr) (r : List Vr) : locC g (v :: r) = locC (loc1C g v) r := rfl
theorem own_off {bl : List (Nat × TypeId × Array Value)} {b0 k : Nat} {T : TypeId} {cs : Array Value} (h : bl = [(b0, T, cs)]) (hk : k ≠ b0) : ∀ x ∈ bl, k ≠ x.1 := fun x hx => by
  subst h
  simp only [List.mem_cons, List.not_mem_nil, or_false] at hx
  subst hx
  exact hk
set_option maxHeartbeats 4000000 in
set_option maxRecDepth 100000 in
theorem clkScopeOf_any (n : Nd) (hon : okNd n = true) (w : World) (ok : Nat → Prop) (xi xo xl xe : Option Addr) (ci co cl ce : Nat) (hkn : NdIn ok w n xi xo xl xe ci co cl ce) : Calls Try.prog 55 #[ndV n xi xo xl xe ci co cl ce] w (GivesSc (scopeC n) w) := by
  have hon' := hon
  unfold okNd at hon
  simp only [Bool.and_eq_true, decide_eq_true_eq] at hon
  obtain ⟨h0, _, h1, h2, h3, _⟩ := hon
  have hod : okVs ([n.ins, n.outs].flatten) = true := by
    show okVs (n.ins ++ (n.outs ++ [])) = true
    exact okVs_app h1 (okVs_app h2 rfl)
  have hol : ([n.ins, n.outs].flatten).length ≤ 1000000 := by
    show (n.ins ++ (n.outs ++ [])).length ≤ _
    simp; omega
  have HSV := Lib.hid size_vS
  have HST := Lib.hid size_st
  have FA := (Fx.start w).alloc (w.heap.size) rfl 49 #[.string n.name, .slice xi n.ins.length ci, .slice xo n.outs.length co, .slice xl n.locs.length cl, .slice xe n.eqs.length ce, .int .i64 (n.at_ : Int)]
  have hsA : (w.alloc (.cells #[.string n.name, .slice xi n.ins.length ci, .slice xo n.outs.length co, .slice xl n.locs.length cl, .slice xe n.eqs.length ce, .int .i64 (n.at_ : Int)] 49)).heap.size = w.heap.size + 1 := by simp
  have hmm : (Instr.makeMap 105 none).run Try.prog (w.alloc (.cells #[.string n.name, .slice xi n.ins.length ci, .slice xo n.outs.length co, .slice xl n.locs.length cl, .slice xe n.eqs.length ce, .int .i64 (n.at_ : Int)] 49)) = .ok (.map (some (w.heap.size + 1))) ((w.alloc (.cells #[.string n.name, .slice xi n.ins.length ci, .slice xo n.outs.length co, .slice xl n.locs.length cl, .slice xe n.eqs.length ce, .int .i64 (n.at_ : Int)] 49)).alloc (.map #[] 0)) := by
    have := run_makeMap (P := Try.prog) 105 (w.alloc (.cells #[.string n.name, .slice xi n.ins.length ci, .slice xo n.outs.length co, .slice xl n.locs.length cl, .slice xe n.eqs.length ce, .int .i64 (n.at_ : Int)] 49))
    rw [hsA] at this
    exact this
  have hMp : Scp ((w.alloc (.cells #[.string n.name, .slice xi n.ins.length ci, .slice xo n.outs.length co, .slice xl n.locs.length cl, .slice xe n.eqs.length ce, .int .i64 (n.at_ : Int)] 49)).alloc (.map #[] 0)) (w.heap.size + 1) 0 (fun _ => none) := by
    have := MapO.made Try.prog 9 (w.alloc (.cells #[.string n.name, .slice xi n.ins.length ci, .slice xo n.outs.length co, .slice xl n.locs.length cl, .slice xe n.eqs.length ce, .int .i64 (n.at_ : Int)] 49))
    rw [hsA] at this
    exact this
  have FB := FA.make (.map #[] 0)
  have hsB : ((w.alloc (.cells #[.string n.name, .slice xi n.ins.length ci, .slice xo n.outs.length co, .slice xl n.locs.length cl, .slice xe n.eqs.length ce, .int .i64 (n.at_ : Int)] 49)).alloc (.map #[] 0)).heap.size = w.heap.size + 1 + 1 := by simp
  have hcd : Below ((w.alloc (.cells #[.string n.name, .slice xi n.ins.length ci, .slice xo n.outs.length co, .slice xl n.locs.length cl, .slice xe n.eqs.length ce, .int .i64 (n.at_ : Int)] 49)).alloc (.map #[] 0)).heap.size ((w.alloc (.cells #[.string n.name, .slice xi n.ins.length ci, .slice xo n.outs.length co, .slice xl n.locs.length cl, .slice xe n.eqs.length ce, .int .i64 (n.at_ : Int)] 49)).alloc (.map #[] 0)) (((w.alloc (.cells #[.string n.name, .slice xi n.ins.length ci, .slice xo n.outs.length co, .slice xl n.locs.length cl, .slice xe n.eqs.length ce, .int .i64 (n.at_ : Int)] 49)).alloc (.map #[] 0)).alloc (.cells #[.slice xi n.ins.length ci, .slice xo n.outs.length co] 46)) := (Below.refl _ _).alloc (Nat.le_refl _) _
  have HFD : Hid (Fx w [(w.heap.size, 49, #[.string n.name, .slice xi n.ins.length ci, .slice xo n.outs.length co, .slice xl n.locs.length cl, .slice xe n.eqs.length ce, .int .i64 (n.at_ : Int)])] (((w.alloc (.cells #[.string n.name, .slice xi n.ins.length ci, .slice xo n.outs.length co, .slice xl n.locs.length cl, .slice xe n.eqs.length ce, .int .i64 (n.at_ : Int)] 49)).alloc (.map #[] 0)).alloc (.cells #[.slice xi n.ins.length ci, .slice xo n.outs.length co] 46))) := Lib.hid (FB.call hcd)
  have HKD := Lib.hid (MapO.below hMp hcd)
  have n1 := cell_of_row _ (w.heap.size) 1 _ _ _ (FB.get 0 rfl)
  have n2 := cell_of_row _ (w.heap.size) 2 _ _ _ (FB.get 0 rfl)
  have hd : IsD (fun k => ok k ∨ k = ((w.alloc (.cells #[.string n.name, .slice xi n.ins.length ci, .slice xo n.outs.length co, .slice xl n.locs.length cl, .slice xe n.eqs.length ce, .int .i64 (n.at_ : Int)] 49)).alloc (.map #[] 0)).heap.size) (((w.alloc (.cells #[.string n.name, .slice xi n.ins.length ci, .slice xo n.outs.length co, .slice xl n.locs.length cl, .slice xe n.eqs.length ce, .int .i64 (n.at_ : Int)] 49)).alloc (.map #[] 0)).alloc (.cells #[.slice xi n.ins.length ci, .slice xo n.outs.length co] 46)) (.slice (some ⟨w.heap.size + 1 + 1, 0, none⟩) 2 2) (.sl 2 ([n.ins, n.outs].map rowD)) := IsD.made 46 _ _ hsB.symm 2 (by decide) (by decide) _ (.inr rfl) ⟨IsD.mono (fun _ h _ => .inl h) (IsD.below FB.below hkn.1), IsD.mono (fun _ h _ => .inl h) (IsD.below FB.below hkn.2.1), trivial⟩
  have kc := Concat_any [n.ins, n.outs] (by rw [lens_flat]; exact Nat.le_trans hol (by decide)) (((w.alloc (.cells #[.string n.name, .slice xi n.ins.length ci, .slice xo n.outs.length co, .slice xl n.locs.length cl, .slice xe n.eqs.length ce, .int .i64 (n.at_ : Int)] 49)).alloc (.map #[] 0)).alloc (.cells #[.slice xi n.ins.length ci, .slice xo n.outs.length co] 46)) (by simp) _ _ 2 hd
  obtain ⟨D, hD⟩ : ∃ D, D = [n.ins, n.outs].flatten := ⟨_, rfl⟩
  have kc2 : Calls Try.prog 70 #[.slice (some ⟨w.heap.size + 1 + 1, 0, none⟩) 2 2] (((w.alloc (.cells #[.string n.name, .slice xi n.ins.length ci, .slice xo n.outs.length co, .slice xl n.locs.length cl, .slice xe n.eqs.length ce, .int .i64 (n.at_ : Int)] 49)).alloc (.map #[] 0)).alloc (.cells #[.slice xi n.ins.length ci, .slice xo n.outs.length co] 46)) (GivesVs D (((w.alloc (.cells #[.string n.name, .slice xi n.ins.length ci, .slice xo n.outs.length co, .slice xl n.locs.length cl, .slice xe n.eqs.length ce, .int .i64 (n.at_ : Int)] 49)).alloc (.map #[] 0)).alloc (.cells #[.slice xi n.ins.length ci, .slice xo n.outs.length co] 46))) := by rw [hD]; exact kc
  obtain ⟨G, hG⟩ : ∃ G, G = scopeC n := ⟨_, rfl⟩
  rw [← hG]
  unfold scopeC at hG
  rw [← hD] at hod hol hG
  have HOD := Lib.hid hod
  have HOL := Lib.hid hol
  have HOV := Lib.hid h3
  have HLL := Lib.hid (show n.locs.length ≤ 1000000 by omega)
  have HKL := Lib.hid hkn.2.2.1
  obtain ⟨G1, hG1⟩ : ∃ G1, G1 = ioC (fun _ => none) D := ⟨_, rfl⟩
  rw [← hG1] at hG
  have HG := Lib.hid hG
  have HG1 := Lib.hid hG1
  have HSD := Lib.hid (show (((w.alloc (.cells #[.string n.name, .slice xi n.ins.length ci, .slice xo n.outs.length co, .slice xl n.locs.length cl, .slice xe n.eqs.length ce, .int .i64 (n.at_ : Int)] 49)).alloc (.map #[] 0)).alloc (.cells #[.slice xi n.ins.length ci, .slice xo n.outs.length co] 46)).heap.size = w.heap.size + 1 + 1 + 1 by simp)
  have HBLD := Lib.hid (HFD.out.below)
  clear kc hd hcd hsB hMp FB FA hsA hkn h0 h1 h2 h3 hon' hod hol hD hG hG1
  unfold ndV
  go_enter Try.func55, Try.ntmps55
  go_wp2_with fail
  (with_reducible refine kc2.mono ?_)
  rintro e9 w5 ⟨xr, cr, rfl, hR, hb⟩
  have HF5 := Lib.hid (HFD.out.call hb)
  have HK5 := Lib.hid (MapO.below HKD.out hb)
  have HR5 : Hid (IsD (fun k => w.heap.size + 1 + 1 + 1 ≤ k) w5 (.slice xr D.length cr) (.sl D.length (vrsD D))) := Lib.hid (by have := HSD.out; rw [this] at hR; exact hR)
  clear kc2 hR hb n1 n2 hmm
  go_wp2_with fail
  go_loopw [20] (fun v20 wr => ∃ (j m : Nat) (g : ClkG), v20 = .int .i64 (j : Int) ∧ j ≤ D.length ∧ m ≤ j ∧ Fx w [(w.heap.size, 49, #[.string n.name, .slice xi n.ins.length ci, .slice xo n.outs.length co, .slice xl n.locs.length cl, .slice xe n.eqs.length ce, .int .i64 (n.at_ : Int)])] wr ∧ Scp wr (w.heap.size + 1) m g ∧ IsD (fun k => w.heap.size + 1 + 1 + 1 ≤ k) wr (.slice xr D.length cr) (.sl D.length (vrsD D)) ∧ G1 = ioC g (D.drop j))
    (fun v20 _ => D.length - (intOf v20).toNat)
  case atStart => exact ⟨0, 0, _, rfl, Nat.zero_le _, Nat.le_refl _, HF5.out, HK5.out, HR5.out, HG1.out⟩
  case round =>
    clear HF5 HK5 HR5 HG1
    obtain ⟨j, m, g, rfl, hj, hm, hF, hK, hR, hq⟩ := hrel
    have HJ := Lib.hid hj
    have HM := Lib.hid hm
    clear hj hm
    by_cases hjl : j < D.length
    · have d1 : decide ((j : Int) < (D.length : Int)) = true := by simp; omega
      have HJL := Lib.hid hjl
      obtain ⟨g1, rfl, hg1, hrg1⟩ := var_at hR j hjl
      have hov := (okVs_at HOD.out j hjl).1
      rw [List.drop_eq_getElem_cons hjl, ioC_cons] at hq
      obtain ⟨v, hv⟩ : ∃ v, v = D[j]'hjl := ⟨_, rfl⟩
      rw [← hv] at hrg1 hov hq
      have HRV := Lib.hid hrg1
      have HAL := Lib.hid (heap_alloc_new wr (.cells #[.string ⟨#[]⟩, .int .i64 0, .string ⟨#[]⟩, .bool false, .int .i64 0] 138))
      obtain ⟨hnb, hnr⟩ := new_row wr 138 #[.string ⟨#[]⟩, .int .i64 0, .string ⟨#[]⟩, .bool false, .int .i64 0] #[.string v.name, .int .i64 (v.kind : Int), .string v.on, .bool v.not_, .int .i64 (v.at_ : Int)]
      have HF1 := Lib.hid (hF.call hnb)
      have HK1 := Lib.hid (Scp.below hK hnb)
      have HR1 := Lib.hid (IsD.below hnb hR)
      have c0 := cell_of_row _ wr.heap.size 0 _ _ _ hnr
      have HOVV := Lib.hid hov
      have HQ := Lib.hid hq
      have HMX := Lib.hid (show m < maxLen by have := HM.out; have := HJL.out; have := HOL.out; have : maxLen = 9223372036854775807 := rfl; omega)
      have i0 : (0 : Int) ≤ (j : Int) := by omega
      have i1 : (j : Int) < (D.length : Int) := by omega
      have bz : ∀ W : World, (Instr.build 75 #[]).run Try.prog W = .ok (.agg #[.string ⟨#[]⟩, .bool false]) W := fun W => by kernel_rfl
      clear hjl hv hrg1 hnb hnr hov hg1 hF hK hR hq
      go_wp2_with (first | (refine wpList_load_mid rfl 138 (.tmp 22) rfl g1 (j * 5) rfl (vrC v) _ ?_ Try.underlying138 rfl HSV.out ?_; (exact HRV.out)) | (refine wpList_store_row rfl 138 (.tmp 5) (.tmp 23) rfl wr.heap.size #[.string v.name, .int .i64 (v.kind : Int), .string v.on, .bool v.not_, .int .i64 (v.at_ : Int)] rfl rfl 138 #[.string ⟨#[]⟩, .int .i64 0, .string ⟨#[]⟩, .bool false, .int .i64 0] ?_ HSV.out rfl (vS_one _ _ _ _ _) ?_; (exact HAL.out)) | (refine wpList_scp rfl (.tmp 24) (.tmp 26) (.tmp 27) rfl rfl v.name rfl stpZ rfl HK1.out HMX.out HOVV.out ?_))
      intro w6 hK6 hg6
      have HK2 := Lib.hid hK6
      have HF2 := Lib.hid (HF1.out.own hg6 (fun k hk => by
        injection hk with hk
        subst hk
        exact ⟨by omega, own_off rfl (by omega)⟩))
      have HR2 := Lib.hid (IsD.grown hg6 (fun k hk => by injection hk with hk; subst hk; show ¬ (w.heap.size + 1 + 1 + 1 ≤ w.heap.size + 1); omega) HR1.out)
      clear hK6 hg6 c0 bz
      go_wp2_with fail
      refine ⟨⟨j + 1, m + 1, _, wrap_succ (by have := HJL.out; have := HOL.out; omega), HJL.out, by have := HM.out; omega, HF2.out, HK2.out, HR2.out, HQ.out⟩, ?_⟩
      rw [wrap_succ (by have := HJL.out; have := HOL.out; omega)]
      have := HJL.out
      simp [intOf]; omega
    · have d1 : decide ((j : Int) < (D.length : Int)) = false := by simp; omega
      have HGG := Lib.hid (show G = locC g (n.locs.drop 0) by rw [HG.out, hq, List.drop_of_length_le (by omega)]; rfl)
      obtain rfl : j = D.length := by have := HJ.out; omega
      have n3 := cell_of_row _ (w.heap.size) 3 _ _ _ (hF.get 0 rfl)
      have HF := Lib.hid hF
      have HK := Lib.hid hK
      have HMM := Lib.hid (show m ≤ 1000000 by have := HM.out; have := HOL.out; omega)
      clear hjl hq hF hK hR HM HJ HG
      go_wp2_with fail
      obtain ⟨w6, rfl⟩ : ∃ w6 : World, w6 = wr := ⟨_, rfl⟩
      clear n3
      go_loopw [32] (fun v32 wr => ∃ (k m : Nat) (g : ClkG), v32 = .int .i64 (k : Int) ∧ k ≤ n.locs.length ∧ m ≤ 1000000 + k ∧ Fx w [(w.heap.size, 49, #[.string n.name, .slice xi n.ins.length ci, .slice xo n.outs.length co, .slice xl n.locs.length cl, .slice xe n.eqs.length ce, .int .i64 (n.at_ : Int)])] wr ∧ Scp wr (w.heap.size + 1) m g ∧ G = locC g (n.locs.drop k))
        (fun v32 _ => n.locs.length - (intOf v32).toNat)
      case atStart => exact ⟨0, m, g, rfl, Nat.zero_le _, by have := HMM.out; omega, HF.out, HK.out, HGG.out⟩
      case round =>
        clear HF HK HGG HMM
        obtain ⟨k, m, g, rfl, hj, hm, hF, hK, hq⟩ := hrel
        have HJ := Lib.hid hj
        have HM := Lib.hid hm
        clear hj hm
        by_cases hjl : k < n.locs.length
        · have d1 : decide ((k : Int) < (n.locs.length : Int)) = true := by simp; omega
          have HJL := Lib.hid hjl
          obtain ⟨g1, hx1, hg1, hrg1⟩ := var_at (IsD.below hF.below HKL.out) k hjl
          subst hx1
          obtain ⟨hov, hoo⟩ := okVs_at HOV.out k hjl
          rw [List.drop_eq_getElem_cons hjl, locC_cons] at hq
          obtain ⟨v, hv⟩ : ∃ v, v = n.locs[k]'hjl := ⟨_, rfl⟩
          rw [← hv] at hrg1 hov hoo hq
          obtain ⟨s1, hs1⟩ : ∃ s, s = stOf g v.name := ⟨_, rfl⟩
          obtain ⟨s2, hs2⟩ : ∃ s, s = stOf g v.on := ⟨_, rfl⟩
          have P1 := (Fx.start wr).alloc wr.heap.size rfl 138 #[.string ⟨#[]⟩, .int .i64 0, .string ⟨#[]⟩, .bool false, .int .i64 0]
          have FS1 := P1.store 0 rfl #[.string v.name, .int .i64 (v.kind : Int), .string v.on, .bool v.not_, .int .i64 (v.at_ : Int)]
          have P2 := FS1.alloc (wr.heap.size + 1) (by rw [setRow_size]; simp) 75 #[.string ⟨#[]⟩, .bool false]
          have FS2 := P2.store 1 rfl #[.string s1.name, .bool s1.not_]
          have P3 := FS2.alloc (wr.heap.size + 1 + 1) (by rw [setRow_size]; simp [setRow_size]) 75 #[.string ⟨#[]⟩, .bool false]
          have FS3 := P3.store 2 rfl #[.string s2.name, .bool s2.not_]
          have HRV := Lib.hid hrg1
          have HA1 := Lib.hid (P1.get 0 rfl)
          have HA2 := Lib.hid (P2.get 1 rfl)
          have HA3 := Lib.hid (P3.get 2 rfl)
          have c10 := cell_of_row _ wr.heap.size 0 _ _ _ (FS1.get 0 rfl)
          have c22 := cell_of_row _ wr.heap.size 2 _ _ _ (FS2.get 0 rfl)
          have c30 := cell_of_row _ wr.heap.size 0 _ _ _ (FS3.get 0 rfl)
          have c32 := cell_of_row _ wr.heap.size 2 _ _ _ (FS3.get 0 rfl)
          have c33 := cell_of_row _ wr.heap.size 3 _ _ _ (FS3.get 0 rfl)
          have hl1 := Scp.look_ok (Scp.below hK FS1.below) v.name hov
          have hl2 := Scp.look_ok (Scp.below hK FS2.below) v.on hoo
          rw [← hs1] at hl1
          rw [← hs2] at hl2
          have HF3 := Lib.hid (hF.call FS3.below)
          have HK3 := Lib.hid (Scp.below hK FS3.below)
          have HOVV := Lib.hid hov
          have HQ := Lib.hid hq
          have HMX := Lib.hid (show m < maxLen by have := HM.out; have := HJL.out; have := HLL.out; have : maxLen = 9223372036854775807 := rfl; omega)
          have i0 : (0 : Int) ≤ (k : Int) := by omega
          have i1 : (k : Int) < (n.locs.length : Int) := by omega
          have bz : ∀ W : World, (Instr.build 75 #[]).run Try.prog W = .ok (.agg #[.string ⟨#[]⟩, .bool false]) W := fun W => by kernel_rfl
          clear hjl hv hrg1 hg1 hov hoo hF hK hq hs1 hs2 P1 P2 P3 FS1 FS2 FS3
          cases ht1 : (g v.name.data.toList).isSome with
          | true =>
            rw [ht1] at hl1
            have HQ2 := Lib.hid (show G = locC g (n.locs.drop (k + 1)) by rw [HQ.out]; unfold loc1C; rw [if_pos ht1])
            clear ht1 bz c30 c32 c33
            go_wp2_with (first | (refine wpList_load_mid rfl 138 (.tmp 34) rfl g1 (k * 5) rfl (vrC v) _ ?_ Try.underlying138 rfl HSV.out ?_; (exact HRV.out)) | (refine wpList_store_row rfl 138 (.tmp 7) (.tmp 35) rfl wr.heap.size #[.string v.name, .int .i64 (v.kind : Int), .string v.on, .bool v.not_, .int .i64 (v.at_ : Int)] rfl rfl 138 #[.string ⟨#[]⟩, .int .i64 0, .string ⟨#[]⟩, .bool false, .int .i64 0] ?_ HSV.out rfl (vS_one _ _ _ _ _) ?_; (exact HA1.out)) | (refine wpList_store_row rfl 75 (.tmp 8) (.tmp 41) rfl (wr.heap.size + 1) #[.string s1.name, .bool s1.not_] rfl rfl 75 #[.string ⟨#[]⟩, .bool false] ?_ HST.out rfl (st_one _ _) ?_; (exact HA2.out)) | (refine wpList_store_row rfl 75 (.tmp 10) (.tmp 48) rfl (wr.heap.size + 1 + 1) #[.string s2.name, .bool s2.not_] rfl rfl 75 #[.string ⟨#[]⟩, .bool false] ?_ HST.out rfl (st_one _ _) ?_; (exact HA3.out)))
            refine ⟨⟨k + 1, m, g, wrap_succ (by have := HJL.out; have := HLL.out; omega), HJL.out, by have := HM.out; omega, HF3.out, HK3.out, HQ2.out⟩, ?_⟩
            rw [wrap_succ (by have := HJL.out; have := HLL.out; omega)]
            have := HJL.out
            simp [intOf]; omega
          | false =>
            rw [ht1] at hl1
            cases hon : (v.on.data.toList == ([] : List UInt8)) with
            | true =>
              have ho1 : (v.on.toList == []) = true := by rw [Lib.toList_data]; exact hon
              have HQ2 := Lib.hid (show G = locC (cset g v.name stpZ) (n.locs.drop (k + 1)) by rw [HQ.out]; unfold loc1C; rw [if_neg (by rw [ht1]; decide), if_pos (by simpa using hon)])
              clear ht1 hon c33
              go_wp2_with (first | (refine wpList_load_mid rfl 138 (.tmp 34) rfl g1 (k * 5) rfl (vrC v) _ ?_ Try.underlying138 rfl HSV.out ?_; (exact HRV.out)) | (refine wpList_store_row rfl 138 (.tmp 7) (.tmp 35) rfl wr.heap.size #[.string v.name, .int .i64 (v.kind : Int), .string v.on, .bool v.not_, .int .i64 (v.at_ : Int)] rfl rfl 138 #[.string ⟨#[]⟩, .int .i64 0, .string ⟨#[]⟩, .bool false, .int .i64 0] ?_ HSV.out rfl (vS_one _ _ _ _ _) ?_; (exact HA1.out)) | (refine wpList_store_row rfl 75 (.tmp 8) (.tmp 41) rfl (wr.heap.size + 1) #[.string s1.name, .bool s1.not_] rfl rfl 75 #[.string ⟨#[]⟩, .bool false] ?_ HST.out rfl (st_one _ _) ?_; (exact HA2.out)) | (refine wpList_store_row rfl 75 (.tmp 10) (.tmp 48) rfl (wr.heap.size + 1 + 1) #[.string s2.name, .bool s2.not_] rfl rfl 75 #[.string ⟨#[]⟩, .bool false] ?_ HST.out rfl (st_one _ _) ?_; (exact HA3.out)) | (refine wpList_scp (n := m) (g := g) rfl (.tmp 56) (.tmp 58) (.tmp 59) rfl rfl v.name rfl stpZ rfl ?_ HMX.out HOVV.out ?_; (exact HK3.out)))
              intro w7 hK7 hg7
              have HK7 := Lib.hid hK7
              have HF7 := Lib.hid (HF3.out.own hg7 (fun k hk => by
                injection hk with hk
                subst hk
                exact ⟨by omega, own_off rfl (by omega)⟩))
              clear hK7 hg7 bz c10 c22 c30 c32 hl1 hl2
              go_wp2_with fail
              refine ⟨⟨k + 1, m + 1, _, wrap_succ (by have := HJL.out; have := HLL.out; omega), HJL.out, by have := HM.out; omega, HF7.out, HK7.out, HQ2.out⟩, ?_⟩
              rw [wrap_succ (by have := HJL.out; have := HLL.out; omega)]
              have := HJL.out
              simp [intOf]; omega
            | false =>
              have ho1 : (v.on.toList == []) = false := by rw [Lib.toList_data]; exact hon
              cases ht2 : (g v.on.data.toList).isSome with
              | true =>
                rw [ht2] at hl2
                have HQ2 := Lib.hid (show G = locC (cset g v.name ⟨v.on, v.not_⟩) (n.locs.drop (k + 1)) by rw [HQ.out]; unfold loc1C; rw [if_neg (by rw [ht1]; decide), if_neg (by intro h; rw [h] at hon; cases hon), if_pos ht2])
                clear ht1 ht2 hon bz
                have bs : ∀ W : World, (Instr.build 75 #[(0, .string v.on), (1, .bool v.not_)]).run Try.prog W = .ok (.agg #[.string v.on, .bool v.not_]) W := fun W => by kernel_rfl
                go_wp2_with (first | (refine wpList_load_mid rfl 138 (.tmp 34) rfl g1 (k * 5) rfl (vrC v) _ ?_ Try.underlying138 rfl HSV.out ?_; (exact HRV.out)) | (refine wpList_store_row rfl 138 (.tmp 7) (.tmp 35) rfl wr.heap.size #[.string v.name, .int .i64 (v.kind : Int), .string v.on, .bool v.not_, .int .i64 (v.at_ : Int)] rfl rfl 138 #[.string ⟨#[]⟩, .int .i64 0, .string ⟨#[]⟩, .bool false, .int .i64 0] ?_ HSV.out rfl (vS_one _ _ _ _ _) ?_; (exact HA1.out)) | (refine wpList_store_row rfl 75 (.tmp 8) (.tmp 41) rfl (wr.heap.size + 1) #[.string s1.name, .bool s1.not_] rfl rfl 75 #[.string ⟨#[]⟩, .bool false] ?_ HST.out rfl (st_one _ _) ?_; (exact HA2.out)) | (refine wpList_store_row rfl 75 (.tmp 10) (.tmp 48) rfl (wr.heap.size + 1 + 1) #[.string s2.name, .bool s2.not_] rfl rfl 75 #[.string ⟨#[]⟩, .bool false] ?_ HST.out rfl (st_one _ _) ?_; (exact HA3.out)) | (refine wpList_scp (n := m) (g := g) rfl (.tmp 62) (.tmp 64) (.tmp 69) rfl rfl v.name rfl ⟨v.on, v.not_⟩ rfl ?_ HMX.out HOVV.out ?_; (exact HK3.out)))
                intro w7 hK7 hg7
                have HK7 := Lib.hid hK7
                have HF7 := Lib.hid (HF3.out.own hg7 (fun k hk => by
                  injection hk with hk
                  subst hk
                  exact ⟨by omega, own_off rfl (by omega)⟩))
                clear hK7 hg7 bs c10 c22 c30 c32 c33 hl1 hl2
                go_wp2_with fail
                refine ⟨⟨k + 1, m + 1, _, wrap_succ (by have := HJL.out; have := HLL.out; omega), HJL.out, by have := HM.out; omega, HF7.out, HK7.out, HQ2.out⟩, ?_⟩
                rw [wrap_succ (by have := HJL.out; have := HLL.out; omega)]
                have := HJL.out
                simp [intOf]; omega
              | false =>
                rw [ht2] at hl2
                have HQ2 := Lib.hid (show G = locC g (n.locs.drop (k + 1)) by rw [HQ.out]; unfold loc1C; rw [if_neg (by rw [ht1]; decide), if_neg (by intro h; rw [h] at hon; cases hon), if_neg (by rw [ht2]; decide)])
                clear ht1 ht2 hon bz c30 c33
                go_wp2_with (first | (refine wpList_load_mid rfl 138 (.tmp 34) rfl g1 (k * 5) rfl (vrC v) _ ?_ Try.underlying138 rfl HSV.out ?_; (exact HRV.out)) | (refine wpList_store_row rfl 138 (.tmp 7) (.tmp 35) rfl wr.heap.size #[.string v.name, .int .i64 (v.kind : Int), .string v.on, .bool v.not_, .int .i64 (v.at_ : Int)] rfl rfl 138 #[.string ⟨#[]⟩, .int .i64 0, .string ⟨#[]⟩, .bool false, .int .i64 0] ?_ HSV.out rfl (vS_one _ _ _ _ _) ?_; (exact HA1.out)) | (refine wpList_store_row rfl 75 (.tmp 8) (.tmp 41) rfl (wr.heap.size + 1) #[.string s1.name, .bool s1.not_] rfl rfl 75 #[.string ⟨#[]⟩, .bool false] ?_ HST.out rfl (st_one _ _) ?_; (exact HA2.out)) | (refine wpList_store_row rfl 75 (.tmp 10) (.tmp 48) rfl (wr.heap.size + 1 + 1) #[.string s2.name, .bool s2.not_] rfl rfl 75 #[.string ⟨#[]⟩, .bool false] ?_ HST.out rfl (st_one _ _) ?_; (exact HA3.out)))
                refine ⟨⟨k + 1, m, g, wrap_succ (by have := HJL.out; have := HLL.out; omega), HJL.out, by have := HM.out; omega, HF3.out, HK3.out, HQ2.out⟩, ?_⟩
                rw [wrap_succ (by have := HJL.out; have := HLL.out; omega)]
                have := HJL.out
                simp [intOf]; omega
        · have d1 : decide ((k : Int) < (n.locs.length : Int)) = false := by simp; omega
          have HGG := Lib.hid (show G = g by rw [hq, List.drop_of_length_le (by omega)]; rfl)
          obtain rfl : k = n.locs.length := by have := HJ.out; omega
          have HF := Lib.hid hF
          have HK := Lib.hid hK
          clear hjl hq hF hK
          go_wp2_with fail
          go_ret
          exact ⟨_, m, rfl, by rw [HGG.out]; exact HK.out, by have := HM.out; have := HLL.out; omega, by omega, HF.out.below⟩
end Go.Proofs.Ytfajafjikpmgpaa

namespace Go.Proofs.Ytfajafjikpmgpaa
open Go Go.RowKit
def GivesRl (R : Clc × Bool) (w : World) (e : Ending) (w' : World) : Prop := e = .returned (.tuple #[.agg (clcA R.1), .bool R.2]) ∧ Below w.heap.size w w'
theorem st_row1 (W : World) (a : ByteArray) (b : Bool) : IsD (fun _ => True) (W.alloc (.cells #[.string a, .bool b] 75)) (.slice (some ⟨W.heap.size, 0, none⟩) 1 1) (.sl 1 (stsD [⟨a, b⟩])) := IsD.made 75 _ _ rfl 1 (by decide) (by decide) _ trivial ⟨by unfold IsD; rfl, by unfold IsD; rfl, trivial⟩
theorem st_row2 (W : World) (a a' : ByteArray) (b b' : Bool) : IsD (fun _ => True) (W.alloc (.cells #[.string a, .bool b, .string a', .bool b'] 75)) (.slice (some ⟨W.heap.size, 0, none⟩) 2 2) (.sl 2 (stsD [⟨a, b⟩, ⟨a', b'⟩])) := IsD.made 75 _ _ rfl 2 (by decide) (by decide) _ trivial ⟨by unfold IsD; rfl, by unfold IsD; rfl, by unfold IsD; rfl, by unfold IsD; rfl, trivial⟩
set_option maxHeartbeats 4000000 in
set_option maxRecDepth 100000 in
theorem rule_varC (w : World) (b m : Nat) (g : ClkG) (hS : Scp w b m g) (nm : ByteArray) (hs : nm.size ≤ maxLen) (n at_ : Int) (x : Option Addr) (l c : Nat) (ks : List Clc) (ok : Nat → Prop) (xk : Option Addr) (ck : Nat) (hk : IsD ok w (.slice xk ks.length ck) (.sl ks.length (cksD ks))) : Calls Try.prog 86 #[.map (some b), .agg #[.string (⟨#[118, 97, 114]⟩ : ByteArray), .string nm, .int .i64 n, .int .i64 at_, .slice x l c], .slice xk ks.length ck] w (GivesRl (ruleC g (⟨#[118, 97, 114]⟩ : ByteArray) nm n ks) w) := by
  obtain ⟨own, how⟩ : ∃ s, s = stOf g nm := ⟨_, rfl⟩
  have P1 := ((Fx.start w).alloc (w.heap.size) rfl 43 #[.string (⟨#[118, 97, 114]⟩ : ByteArray), .string nm, .int .i64 n, .int .i64 at_, .slice x l c]).alloc (w.heap.size + 1) (by simp) 114 #[.string ⟨#[]⟩, .bool false, .bool false]
  have P2 := P1.alloc (w.heap.size + 1 + 1) (by simp) 75 #[.string ⟨#[]⟩, .bool false]
  have P3 := P2.store 2 rfl #[.string own.name, .bool own.not_]
  have HSC := Lib.hid size_cl
  have HST := Lib.hid size_st
  have HA := Lib.hid (P2.get 2 rfl)
  have c1 := cell_of_row _ (w.heap.size) 1 _ _ _ (P1.get 0 rfl)
  have o0 := cell_of_row _ (w.heap.size) 0 _ _ _ (P3.get 0 rfl)
  have hl := Scp.look_ok (Scp.below hS P1.below) nm hs
  rw [← how] at hl
  have HOW := Lib.hid how
  have HF3 := Lib.hid P3
  have HE := Lib.hid (P3.get 0 rfl)
  have HCL := Lib.hid (P3.get 1 rfl)
  have HOWN := Lib.hid (P3.get 2 rfl)
  have HK3 := Lib.hid (IsD.below P3.below hk)
  obtain ⟨dd, hdd⟩ : ∃ d, d = (g nm.data.toList).isSome := ⟨_, rfl⟩
  rw [← hdd] at hl
  have HDD := Lib.hid hdd
  clear hS hs how P1 P2 P3 hk hdd
  have b1 : ∀ W : World, (Instr.build 114 #[(0, .agg #[.string own.name, .bool own.not_])]).run Try.prog W = .ok (.agg #[.string own.name, .bool own.not_, .bool false]) W := fun W => by kernel_rfl
  go_enter Try.func86, Try.ntmps86
  go_wp2_with (first | (refine wpList_store_row rfl 75 (.tmp 8) (.tmp 15) rfl (w.heap.size + 1 + 1) #[.string own.name, .bool own.not_] rfl rfl 75 #[.string ⟨#[]⟩, .bool false] ?_ HST.out rfl (st_one _ _) ?_; (exact HA.out)) | (refine wpList_load_row rfl 75 (.tmp 8) rfl (w.heap.size + 1 + 1) rfl 75 #[.string own.name, .bool own.not_] (0, 0) _ ?_ Try.underlying75 rfl HST.out ?_; (exact HOWN.out)) | (refine wpList_store_row rfl 114 (.tmp 6) (.tmp 22) rfl (w.heap.size + 1) #[.string own.name, .bool own.not_, .bool false] rfl rfl 114 #[.string ⟨#[]⟩, .bool false, .bool false] ?_ HSC.out rfl (cl_one _ _ _) ?_; (exact HCL.out)))
  refine bodyPost_ret (results_cell_tmp2 (q := 7) (p := 6) (ty := 114) rfl _ _ (w.heap.size + 1) 114 #[.string own.name, .bool own.not_, .bool false] (0, 0) _ rfl (setRow_heap _ (w.heap.size + 1) _ _ _ _ HCL.out) Try.underlying114 rfl HSC.out) rfl ?_
  unfold ruleC
  rw [if_pos rfl, ← HOW.out, ← HDD.out]
  exact ⟨rfl, below_setRow HF3.out.below (by omega) _⟩
set_option maxHeartbeats 4000000 in
set_option maxRecDepth 100000 in
theorem rule_whenF (w : World) (b m : Nat) (g : ClkG) (hS : Scp w b m g) (nm : ByteArray) (hs : nm.size ≤ maxLen) (n at_ : Int) (x : Option Addr) (l c : Nat) (ks : List Clc) (ok : Nat → Prop) (xk : Option Addr) (ck : Nat) (hk : IsD ok w (.slice xk ks.length ck) (.sl ks.length (cksD ks))) (hdec : (g nm.data.toList).isSome = false) : Calls Try.prog 86 #[.map (some b), .agg #[.string (⟨#[119, 104, 101, 110]⟩ : ByteArray), .string nm, .int .i64 n, .int .i64 at_, .slice x l c], .slice xk ks.length ck] w (GivesRl (ruleC g (⟨#[119, 104, 101, 110]⟩ : ByteArray) nm n ks) w) := by
  obtain ⟨own, how⟩ : ∃ s, s = stOf g nm := ⟨_, rfl⟩
  have P1 := ((Fx.start w).alloc (w.heap.size) rfl 43 #[.string (⟨#[119, 104, 101, 110]⟩ : ByteArray), .string nm, .int .i64 n, .int .i64 at_, .slice x l c]).alloc (w.heap.size + 1) (by simp) 114 #[.string ⟨#[]⟩, .bool false, .bool false]
  have P2 := P1.alloc (w.heap.size + 1 + 1) (by simp) 75 #[.string ⟨#[]⟩, .bool false]
  have P3 := P2.store 2 rfl #[.string own.name, .bool own.not_]
  have HSC := Lib.hid size_cl
  have HST := Lib.hid size_st
  have HA := Lib.hid (P2.get 2 rfl)
  have c1 := cell_of_row _ (w.heap.size) 1 _ _ _ (P1.get 0 rfl)
  have o0 := cell_of_row _ (w.heap.size) 0 _ _ _ (P3.get 0 rfl)
  have hl := Scp.look_ok (Scp.below hS P1.below) nm hs
  rw [← how] at hl
  have HOW := Lib.hid how
  have HF3 := Lib.hid P3
  have HE := Lib.hid (P3.get 0 rfl)
  have HCL := Lib.hid (P3.get 1 rfl)
  have HOWN := Lib.hid (P3.get 2 rfl)
  have HK3 := Lib.hid (IsD.below P3.below hk)
  have HDE := Lib.hid hdec
  obtain ⟨dd, hdd⟩ : ∃ d, d = (g nm.data.toList).isSome := ⟨_, rfl⟩
  rw [← hdd] at hl
  rw [hdec] at hdd
  subst hdd
  clear hdec hS hs how P1 P2 P3 hk
  go_enter Try.func86, Try.ntmps86
  go_upto_region 6 with (refine wpList_store_row rfl 75 (.tmp 8) (.tmp 15) rfl (w.heap.size + 1 + 1) #[.string own.name, .bool own.not_] rfl rfl 75 #[.string ⟨#[]⟩, .bool false] ?_ HST.out rfl (st_one _ _) ?_; (exact HA.out))
  have F1 := HF3.out
  obtain ⟨w1, hw1⟩ : ∃ w1, w1 = ((((w.alloc (.cells #[.string (⟨#[119, 104, 101, 110]⟩ : ByteArray), .string nm, .int .i64 n, .int .i64 at_, .slice x l c] 43)).alloc (.cells #[.string ⟨#[]⟩, .bool false, .bool false] 114)).alloc (.cells #[.string ⟨#[]⟩, .bool false] 75)).setRow (w.heap.size + 1 + 1) #[.string own.name, .bool own.not_]) := ⟨_, rfl⟩
  rw [← hw1] at F1
  have HE1 := Lib.hid (F1.get 0 rfl)
  have HC1 := Lib.hid (F1.get 1 rfl)
  have HO1 := Lib.hid (F1.get 2 rfl)
  have HK1 : Hid (IsD ok w1 _ _) := Lib.hid (by rw [hw1]; exact HK3.out)
  have HF1 := Lib.hid F1
  have e1 := cell_of_row w1 (w.heap.size) 1 _ _ _ (F1.get 0 rfl)
  have e2 := cell_of_row w1 (w.heap.size) 2 _ _ _ (F1.get 0 rfl)
  have q0 := cell_of_row w1 (w.heap.size + 1 + 1) 0 _ _ _ (F1.get 2 rfl)
  have q1 := cell_of_row w1 (w.heap.size + 1 + 1) 1 _ _ _ (F1.get 2 rfl)
  have r0 := cell_of_row w1 (w.heap.size + 1) 0 _ _ _ (F1.get 1 rfl)
  have r1 := cell_of_row w1 (w.heap.size + 1) 1 _ _ _ (F1.get 1 rfl)
  have r2 := cell_of_row w1 (w.heap.size + 1) 2 _ _ _ (F1.get 1 rfl)
  have z0 := frozen_of_row w1 (w.heap.size + 1) 0 _ _ (F1.get 1 rfl)
  have z1 := frozen_of_row w1 (w.heap.size + 1) 1 _ _ (F1.get 1 rfl)
  have z2 := frozen_of_row w1 (w.heap.size + 1) 2 _ _ (F1.get 1 rfl)
  clear F1 HE HCL HOWN HF3 HK3 HA c1 o0 hl
  rw [← hw1]
  clear hw1
  go_region
  have F2 := (((HF1.out.cell 1 rfl 0 (.string nm)).cell 1 rfl 1 (.bool (n == 0))).cell 1 rfl 2 (.bool false)).call ((Below.refl _ _).drew)
  have HROW := Lib.hid (F2.get 1 rfl)
  have HBZ := Lib.hid F2.below
  clear F2 e1 e2 q0 q1 r0 r1 r2 z0 z1 z2
  go_wp2_with fail
  refine bodyPost_ret (results_cell_tmp2 (q := 7) (p := 6) (ty := 114) rfl _ _ (w.heap.size + 1) 114 #[.string nm, .bool (n == 0), .bool false] (0, 0) _ rfl HROW.out Try.underlying114 rfl HSC.out) rfl ?_
  unfold ruleC
  rw [if_neg (by decide), if_pos rfl, HDE.out]
  exact ⟨rfl, HBZ.out⟩
set_option maxHeartbeats 4000000 in
set_option maxRecDepth 100000 in
theorem rule_whenT (w : World) (b m : Nat) (g : ClkG) (hS : Scp w b m g) (nm : ByteArray) (hs : nm.size ≤ maxLen) (n at_ : Int) (x : Option Addr) (l c : Nat) (ks : List Clc) (ok : Nat → Prop) (xk : Option Addr) (ck : Nat) (hk : IsD ok w (.slice xk ks.length ck) (.sl ks.length (cksD ks))) (hdec : (g nm.data.toList).isSome = true) : Calls Try.prog 86 #[.map (some b), .agg #[.string (⟨#[119, 104, 101, 110]⟩ : ByteArray), .string nm, .int .i64 n, .int .i64 at_, .slice x l c], .slice xk ks.length ck] w (GivesRl (ruleC g (⟨#[119, 104, 101, 110]⟩ : ByteArray) nm n ks) w) := by
  obtain ⟨own, how⟩ : ∃ s, s = stOf g nm := ⟨_, rfl⟩
  have P1 := ((Fx.start w).alloc (w.heap.size) rfl 43 #[.string (⟨#[119, 104, 101, 110]⟩ : ByteArray), .string nm, .int .i64 n, .int .i64 at_, .slice x l c]).alloc (w.heap.size + 1) (by simp) 114 #[.string ⟨#[]⟩, .bool false, .bool false]
  have P2 := P1.alloc (w.heap.size + 1 + 1) (by simp) 75 #[.string ⟨#[]⟩, .bool false]
  have P3 := P2.store 2 rfl #[.string own.name, .bool own.not_]
  have HSC := Lib.hid size_cl
  have HST := Lib.hid size_st
  have HA := Lib.hid (P2.get 2 rfl)
  have c1 := cell_of_row _ (w.heap.size) 1 _ _ _ (P1.get 0 rfl)
  have o0 := cell_of_row _ (w.heap.size) 0 _ _ _ (P3.get 0 rfl)
  have hl := Scp.look_ok (Scp.below hS P1.below) nm hs
  rw [← how] at hl
  have HOW := Lib.hid how
  have HF3 := Lib.hid P3
  have HE := Lib.hid (P3.get 0 rfl)
  have HCL := Lib.hid (P3.get 1 rfl)
  have HOWN := Lib.hid (P3.get 2 rfl)
  have HK3 := Lib.hid (IsD.below P3.below hk)
  have HDE := Lib.hid hdec
  obtain ⟨dd, hdd⟩ : ∃ d, d = (g nm.data.toList).isSome := ⟨_, rfl⟩
  rw [← hdd] at hl
  rw [hdec] at hdd
  subst hdd
  clear hdec hS hs how P1 P2 P3 hk
  go_enter Try.func86, Try.ntmps86
  go_upto_region 6 with (refine wpList_store_row rfl 75 (.tmp 8) (.tmp 15) rfl (w.heap.size + 1 + 1) #[.string own.name, .bool own.not_] rfl rfl 75 #[.string ⟨#[]⟩, .bool false] ?_ HST.out rfl (st_one _ _) ?_; (exact HA.out))
  have F1 := HF3.out
  obtain ⟨w1, hw1⟩ : ∃ w1, w1 = ((((w.alloc (.cells #[.string (⟨#[119, 104, 101, 110]⟩ : ByteArray), .string nm, .int .i64 n, .int .i64 at_, .slice x l c] 43)).alloc (.cells #[.string ⟨#[]⟩, .bool false, .bool false] 114)).alloc (.cells #[.string ⟨#[]⟩, .bool false] 75)).setRow (w.heap.size + 1 + 1) #[.string own.name, .bool own.not_]) := ⟨_, rfl⟩
  rw [← hw1] at F1
  have HE1 := Lib.hid (F1.get 0 rfl)
  have HC1 := Lib.hid (F1.get 1 rfl)
  have HO1 := Lib.hid (F1.get 2 rfl)
  have HK1 : Hid (IsD ok w1 _ _) := Lib.hid (by rw [hw1]; exact HK3.out)
  have HF1 := Lib.hid F1
  have e1 := cell_of_row w1 (w.heap.size) 1 _ _ _ (F1.get 0 rfl)
  have e2 := cell_of_row w1 (w.heap.size) 2 _ _ _ (F1.get 0 rfl)
  have q0 := cell_of_row w1 (w.heap.size + 1 + 1) 0 _ _ _ (F1.get 2 rfl)
  have q1 := cell_of_row w1 (w.heap.size + 1 + 1) 1 _ _ _ (F1.get 2 rfl)
  have r0 := cell_of_row w1 (w.heap.size + 1) 0 _ _ _ (F1.get 1 rfl)
  have r1 := cell_of_row w1 (w.heap.size + 1) 1 _ _ _ (F1.get 1 rfl)
  have r2 := cell_of_row w1 (w.heap.size + 1) 2 _ _ _ (F1.get 1 rfl)
  have z0 := frozen_of_row w1 (w.heap.size + 1) 0 _ _ (F1.get 1 rfl)
  have z1 := frozen_of_row w1 (w.heap.size + 1) 1 _ _ (F1.get 1 rfl)
  have z2 := frozen_of_row w1 (w.heap.size + 1) 2 _ _ (F1.get 1 rfl)
  clear F1 HE HCL HOWN HF3 HK3 HA c1 o0 hl
  rw [← hw1]
  clear hw1
  go_region_held3 (fun w' => w'.cell? ⟨w.heap.size, 1, none⟩ = some (.string nm) ∧ w'.cell? ⟨w.heap.size, 2, none⟩ = some (.int .i64 n) ∧ w'.cell? ⟨w.heap.size + 1 + 1, 0, none⟩ = some (.string own.name) ∧ w'.cell? ⟨w.heap.size + 1 + 1, 1, none⟩ = some (.bool own.not_)) (first | exact ⟨e1, e2, q0, q1⟩ | exact ⟨cell_of_row _ (w.heap.size) 1 _ _ _ ((HF1.out.call ((Below.refl _ _).drew.alloc (Nat.le_refl _) _)).get 0 rfl), cell_of_row _ (w.heap.size) 2 _ _ _ ((HF1.out.call ((Below.refl _ _).drew.alloc (Nat.le_refl _) _)).get 0 rfl), cell_of_row _ (w.heap.size + 1 + 1) 0 _ _ _ ((HF1.out.call ((Below.refl _ _).drew.alloc (Nat.le_refl _) _)).get 2 rfl), cell_of_row _ (w.heap.size + 1 + 1) 1 _ _ _ ((HF1.out.call ((Below.refl _ _).drew.alloc (Nat.le_refl _) _)).get 2 rfl)⟩ | exact ⟨cell_of_row _ (w.heap.size) 1 _ _ _ (HFB.out.get 0 rfl), cell_of_row _ (w.heap.size) 2 _ _ _ (HFB.out.get 0 rfl), cell_of_row _ (w.heap.size + 1 + 1) 0 _ _ _ (HFB.out.get 2 rfl), cell_of_row _ (w.heap.size + 1 + 1) 1 _ _ _ (HFB.out.get 2 rfl)⟩ | exact ⟨cell_of_row _ (w.heap.size) 1 _ _ _ ((((HFB.out.cell 1 rfl 0 (.string nm)).cell 1 rfl 1 (.bool (n == 0))).cell 1 rfl 2 (.bool false)).get 0 rfl), cell_of_row _ (w.heap.size) 2 _ _ _ ((((HFB.out.cell 1 rfl 0 (.string nm)).cell 1 rfl 1 (.bool (n == 0))).cell 1 rfl 2 (.bool false)).get 0 rfl), cell_of_row _ (w.heap.size + 1 + 1) 0 _ _ _ ((((HFB.out.cell 1 rfl 0 (.string nm)).cell 1 rfl 1 (.bool (n == 0))).cell 1 rfl 2 (.bool false)).get 2 rfl), cell_of_row _ (w.heap.size + 1 + 1) 1 _ _ _ ((((HFB.out.cell 1 rfl 0 (.string nm)).cell 1 rfl 1 (.bool (n == 0))).cell 1 rfl 2 (.bool false)).get 2 rfl)⟩)
    (first | (go_at_call 82; refine (fit_any ks [own] _ _ _ _ _ _ _ (IsD.below ((Below.refl _ _).drew.alloc (Nat.le_refl _) _) HK1.out) (st_row1 w1.drew _ _)).mono ?_; rintro e9 w2 ⟨rfl, hb⟩; have FB := (HF1.out.call ((Below.refl _ _).drew.alloc (Nat.le_refl _) _)).call hb; have r0' := cell_of_row w2 (w.heap.size + 1) 0 _ _ _ (FB.get 1 rfl); have r1' := cell_of_row w2 (w.heap.size + 1) 1 _ _ _ (FB.get 1 rfl); have r2' := cell_of_row w2 (w.heap.size + 1) 2 _ _ _ (FB.get 1 rfl); have z0' := frozen_of_row w2 (w.heap.size + 1) 0 _ _ (FB.get 1 rfl); have z1' := frozen_of_row w2 (w.heap.size + 1) 1 _ _ (FB.get 1 rfl); have z2' := frozen_of_row w2 (w.heap.size + 1) 2 _ _ (FB.get 1 rfl); have HFB := Lib.hid FB; clear hb FB))
  have F2 := (((HFB.out.cell 1 rfl 0 (.string nm)).cell 1 rfl 1 (.bool (n == 0))).cell 1 rfl 2 (.bool false))
  have HROW := Lib.hid (F2.get 1 rfl)
  have HBZ := Lib.hid F2.below
  clear F2 e1 e2 q0 q1 r0 r1 r2 z0 z1 z2 r0' r1' r2' z0' z1' z2'
  go_wp2_with fail
  refine bodyPost_ret (results_cell_tmp2 (q := 7) (p := 6) (ty := 114) rfl _ _ (w.heap.size + 1) 114 #[.string nm, .bool (n == 0), .bool false] (0, 0) _ rfl HROW.out Try.underlying114 rfl HSC.out) rfl ?_
  unfold ruleC
  rw [if_neg (by decide), if_pos rfl, HDE.out, ← HOW.out]
  exact ⟨rfl, HBZ.out⟩
set_option maxHeartbeats 4000000 in
set_option maxRecDepth 100000 in
theorem rule_mergeF (w : World) (b m : Nat) (g : ClkG) (hS : Scp w b m g) (nm : ByteArray) (hs : nm.size ≤ maxLen) (n at_ : Int) (x : Option Addr) (l c : Nat) (ks : List Clc) (ok : Nat → Prop) (xk : Option Addr) (ck : Nat) (hk : IsD ok w (.slice xk ks.length ck) (.sl ks.length (cksD ks))) (hdec : (g nm.data.toList).isSome = false) : Calls Try.prog 86 #[.map (some b), .agg #[.string (⟨#[109, 101, 114, 103, 101]⟩ : ByteArray), .string nm, .int .i64 n, .int .i64 at_, .slice x l c], .slice xk ks.length ck] w (GivesRl (ruleC g (⟨#[109, 101, 114, 103, 101]⟩ : ByteArray) nm n ks) w) := by
  obtain ⟨own, how⟩ : ∃ s, s = stOf g nm := ⟨_, rfl⟩
  have P1 := ((Fx.start w).alloc (w.heap.size) rfl 43 #[.string (⟨#[109, 101, 114, 103, 101]⟩ : ByteArray), .string nm, .int .i64 n, .int .i64 at_, .slice x l c]).alloc (w.heap.size + 1) (by simp) 114 #[.string ⟨#[]⟩, .bool false, .bool false]
  have P2 := P1.alloc (w.heap.size + 1 + 1) (by simp) 75 #[.string ⟨#[]⟩, .bool false]
  have P3 := P2.store 2 rfl #[.string own.name, .bool own.not_]
  have HSC := Lib.hid size_cl
  have HST := Lib.hid size_st
  have HA := Lib.hid (P2.get 2 rfl)
  have c1 := cell_of_row _ (w.heap.size) 1 _ _ _ (P1.get 0 rfl)
  have o0 := cell_of_row _ (w.heap.size) 0 _ _ _ (P3.get 0 rfl)
  have hl := Scp.look_ok (Scp.below hS P1.below) nm hs
  rw [← how] at hl
  have HOW := Lib.hid how
  have HF3 := Lib.hid P3
  have HE := Lib.hid (P3.get 0 rfl)
  have HCL := Lib.hid (P3.get 1 rfl)
  have HOWN := Lib.hid (P3.get 2 rfl)
  have HK3 := Lib.hid (IsD.below P3.below hk)
  have HDE := Lib.hid hdec
  obtain ⟨dd, hdd⟩ : ∃ d, d = (g nm.data.toList).isSome := ⟨_, rfl⟩
  rw [← hdd] at hl
  rw [hdec] at hdd
  subst hdd
  clear hdec hS hs how P1 P2 P3 hk
  go_enter Try.func86, Try.ntmps86
  go_upto_region 8 with (refine wpList_store_row rfl 75 (.tmp 8) (.tmp 15) rfl (w.heap.size + 1 + 1) #[.string own.name, .bool own.not_] rfl rfl 75 #[.string ⟨#[]⟩, .bool false] ?_ HST.out rfl (st_one _ _) ?_; (exact HA.out))
  have F1 := HF3.out
  obtain ⟨w1, hw1⟩ : ∃ w1, w1 = ((((w.alloc (.cells #[.string (⟨#[109, 101, 114, 103, 101]⟩ : ByteArray), .string nm, .int .i64 n, .int .i64 at_, .slice x l c] 43)).alloc (.cells #[.string ⟨#[]⟩, .bool false, .bool false] 114)).alloc (.cells #[.string ⟨#[]⟩, .bool false] 75)).setRow (w.heap.size + 1 + 1) #[.string own.name, .bool own.not_]) := ⟨_, rfl⟩
  rw [← hw1] at F1
  have HE1 := Lib.hid (F1.get 0 rfl)
  have HC1 := Lib.hid (F1.get 1 rfl)
  have HO1 := Lib.hid (F1.get 2 rfl)
  have HK1 : Hid (IsD ok w1 _ _) := Lib.hid (by rw [hw1]; exact HK3.out)
  have HF1 := Lib.hid F1
  have e1 := cell_of_row w1 (w.heap.size) 1 _ _ _ (F1.get 0 rfl)
  have e2 := cell_of_row w1 (w.heap.size) 2 _ _ _ (F1.get 0 rfl)
  have q0 := cell_of_row w1 (w.heap.size + 1 + 1) 0 _ _ _ (F1.get 2 rfl)
  have q1 := cell_of_row w1 (w.heap.size + 1 + 1) 1 _ _ _ (F1.get 2 rfl)
  have r0 := cell_of_row w1 (w.heap.size + 1) 0 _ _ _ (F1.get 1 rfl)
  have r1 := cell_of_row w1 (w.heap.size + 1) 1 _ _ _ (F1.get 1 rfl)
  have r2 := cell_of_row w1 (w.heap.size + 1) 2 _ _ _ (F1.get 1 rfl)
  have z0 := frozen_of_row w1 (w.heap.size + 1) 0 _ _ (F1.get 1 rfl)
  have z1 := frozen_of_row w1 (w.heap.size + 1) 1 _ _ (F1.get 1 rfl)
  have z2 := frozen_of_row w1 (w.heap.size + 1) 2 _ _ (F1.get 1 rfl)
  clear F1 HE HCL HOWN HF3 HK3 HA c1 o0 hl
  rw [← hw1]
  clear hw1
  go_region
  have F2 := (((HF1.out.cell 1 rfl 0 (.string own.name)).cell 1 rfl 1 (.bool own.not_)).cell 1 rfl 2 (.bool false)).call ((Below.refl _ _).drew)
  have HROW := Lib.hid (F2.get 1 rfl)
  have HBZ := Lib.hid F2.below
  clear F2 e1 e2 q0 q1 r0 r1 r2 z0 z1 z2
  go_wp2_with fail
  refine bodyPost_ret (results_cell_tmp2 (q := 7) (p := 6) (ty := 114) rfl _ _ (w.heap.size + 1) 114 #[.string own.name, .bool own.not_, .bool false] (0, 0) _ rfl HROW.out Try.underlying114 rfl HSC.out) rfl ?_
  unfold ruleC
  rw [if_neg (by decide), if_neg (by decide), if_pos rfl, HDE.out]
  exact ⟨by rw [← HOW.out]; rfl, HBZ.out⟩
set_option maxHeartbeats 4000000 in
set_option maxRecDepth 100000 in
theorem rule_mergeT (w : World) (b m : Nat) (g : ClkG) (hS : Scp w b m g) (nm : ByteArray) (hs : nm.size ≤ maxLen) (n at_ : Int) (x : Option Addr) (l c : Nat) (ks : List Clc) (ok : Nat → Prop) (xk : Option Addr) (ck : Nat) (hk : IsD ok w (.slice xk ks.length ck) (.sl ks.length (cksD ks))) (hdec : (g nm.data.toList).isSome = true) : Calls Try.prog 86 #[.map (some b), .agg #[.string (⟨#[109, 101, 114, 103, 101]⟩ : ByteArray), .string nm, .int .i64 n, .int .i64 at_, .slice x l c], .slice xk ks.length ck] w (GivesRl (ruleC g (⟨#[109, 101, 114, 103, 101]⟩ : ByteArray) nm n ks) w) := by
  obtain ⟨own, how⟩ : ∃ s, s = stOf g nm := ⟨_, rfl⟩
  have P1 := ((Fx.start w).alloc (w.heap.size) rfl 43 #[.string (⟨#[109, 101, 114, 103, 101]⟩ : ByteArray), .string nm, .int .i64 n, .int .i64 at_, .slice x l c]).alloc (w.heap.size + 1) (by simp) 114 #[.string ⟨#[]⟩, .bool false, .bool false]
  have P2 := P1.alloc (w.heap.size + 1 + 1) (by simp) 75 #[.string ⟨#[]⟩, .bool false]
  have P3 := P2.store 2 rfl #[.string own.name, .bool own.not_]
  have HSC := Lib.hid size_cl
  have HST := Lib.hid size_st
  have HA := Lib.hid (P2.get 2 rfl)
  have c1 := cell_of_row _ (w.heap.size) 1 _ _ _ (P1.get 0 rfl)
  have o0 := cell_of_row _ (w.heap.size) 0 _ _ _ (P3.get 0 rfl)
  have hl := Scp.look_ok (Scp.below hS P1.below) nm hs
  rw [← how] at hl
  have HOW := Lib.hid how
  have HF3 := Lib.hid P3
  have HE := Lib.hid (P3.get 0 rfl)
  have HCL := Lib.hid (P3.get 1 rfl)
  have HOWN := Lib.hid (P3.get 2 rfl)
  have HK3 := Lib.hid (IsD.below P3.below hk)
  have HDE := Lib.hid hdec
  obtain ⟨dd, hdd⟩ : ∃ d, d = (g nm.data.toList).isSome := ⟨_, rfl⟩
  rw [← hdd] at hl
  rw [hdec] at hdd
  subst hdd
  clear hdec hS hs how P1 P2 P3 hk
  go_enter Try.func86, Try.ntmps86
  go_upto_region 8 with (refine wpList_store_row rfl 75 (.tmp 8) (.tmp 15) rfl (w.heap.size + 1 + 1) #[.string own.name, .bool own.not_] rfl rfl 75 #[.string ⟨#[]⟩, .bool false] ?_ HST.out rfl (st_one _ _) ?_; (exact HA.out))
  have F1 := HF3.out
  obtain ⟨w1, hw1⟩ : ∃ w1, w1 = ((((w.alloc (.cells #[.string (⟨#[109, 101, 114, 103, 101]⟩ : ByteArray), .string nm, .int .i64 n, .int .i64 at_, .slice x l c] 43)).alloc (.cells #[.string ⟨#[]⟩, .bool false, .bool false] 114)).alloc (.cells #[.string ⟨#[]⟩, .bool false] 75)).setRow (w.heap.size + 1 + 1) #[.string own.name, .bool own.not_]) := ⟨_, rfl⟩
  rw [← hw1] at F1
  have HE1 := Lib.hid (F1.get 0 rfl)
  have HC1 := Lib.hid (F1.get 1 rfl)
  have HO1 := Lib.hid (F1.get 2 rfl)
  have HK1 : Hid (IsD ok w1 _ _) := Lib.hid (by rw [hw1]; exact HK3.out)
  have HF1 := Lib.hid F1
  have e1 := cell_of_row w1 (w.heap.size) 1 _ _ _ (F1.get 0 rfl)
  have e2 := cell_of_row w1 (w.heap.size) 2 _ _ _ (F1.get 0 rfl)
  have q0 := cell_of_row w1 (w.heap.size + 1 + 1) 0 _ _ _ (F1.get 2 rfl)
  have q1 := cell_of_row w1 (w.heap.size + 1 + 1) 1 _ _ _ (F1.get 2 rfl)
  have r0 := cell_of_row w1 (w.heap.size + 1) 0 _ _ _ (F1.get 1 rfl)
  have r1 := cell_of_row w1 (w.heap.size + 1) 1 _ _ _ (F1.get 1 rfl)
  have r2 := cell_of_row w1 (w.heap.size + 1) 2 _ _ _ (F1.get 1 rfl)
  have z0 := frozen_of_row w1 (w.heap.size + 1) 0 _ _ (F1.get 1 rfl)
  have z1 := frozen_of_row w1 (w.heap.size + 1) 1 _ _ (F1.get 1 rfl)
  have z2 := frozen_of_row w1 (w.heap.size + 1) 2 _ _ (F1.get 1 rfl)
  clear F1 HE HCL HOWN HF3 HK3 HA c1 o0 hl
  rw [← hw1]
  clear hw1
  go_region_held3 (fun w' => w'.cell? ⟨w.heap.size, 1, none⟩ = some (.string nm) ∧ w'.cell? ⟨w.heap.size, 2, none⟩ = some (.int .i64 n) ∧ w'.cell? ⟨w.heap.size + 1 + 1, 0, none⟩ = some (.string own.name) ∧ w'.cell? ⟨w.heap.size + 1 + 1, 1, none⟩ = some (.bool own.not_)) (first | exact ⟨e1, e2, q0, q1⟩ | exact ⟨cell_of_row _ (w.heap.size) 1 _ _ _ ((HF1.out.call ((Below.refl _ _).drew.alloc (Nat.le_refl _) _)).get 0 rfl), cell_of_row _ (w.heap.size) 2 _ _ _ ((HF1.out.call ((Below.refl _ _).drew.alloc (Nat.le_refl _) _)).get 0 rfl), cell_of_row _ (w.heap.size + 1 + 1) 0 _ _ _ ((HF1.out.call ((Below.refl _ _).drew.alloc (Nat.le_refl _) _)).get 2 rfl), cell_of_row _ (w.heap.size + 1 + 1) 1 _ _ _ ((HF1.out.call ((Below.refl _ _).drew.alloc (Nat.le_refl _) _)).get 2 rfl)⟩ | exact ⟨cell_of_row _ (w.heap.size) 1 _ _ _ (HFB.out.get 0 rfl), cell_of_row _ (w.heap.size) 2 _ _ _ (HFB.out.get 0 rfl), cell_of_row _ (w.heap.size + 1 + 1) 0 _ _ _ (HFB.out.get 2 rfl), cell_of_row _ (w.heap.size + 1 + 1) 1 _ _ _ (HFB.out.get 2 rfl)⟩ | exact ⟨cell_of_row _ (w.heap.size) 1 _ _ _ ((((HFB.out.cell 1 rfl 0 (.string own.name)).cell 1 rfl 1 (.bool own.not_)).cell 1 rfl 2 (.bool false)).get 0 rfl), cell_of_row _ (w.heap.size) 2 _ _ _ ((((HFB.out.cell 1 rfl 0 (.string own.name)).cell 1 rfl 1 (.bool own.not_)).cell 1 rfl 2 (.bool false)).get 0 rfl), cell_of_row _ (w.heap.size + 1 + 1) 0 _ _ _ ((((HFB.out.cell 1 rfl 0 (.string own.name)).cell 1 rfl 1 (.bool own.not_)).cell 1 rfl 2 (.bool false)).get 2 rfl), cell_of_row _ (w.heap.size + 1 + 1) 1 _ _ _ ((((HFB.out.cell 1 rfl 0 (.string own.name)).cell 1 rfl 1 (.bool own.not_)).cell 1 rfl 2 (.bool false)).get 2 rfl)⟩)
    (first | (go_at_call 82; refine (fit_any ks [⟨nm, false⟩, ⟨nm, true⟩] _ _ _ _ _ _ _ (IsD.below ((Below.refl _ _).drew.alloc (Nat.le_refl _) _) HK1.out) (st_row2 w1.drew _ _ _ _)).mono ?_; rintro e9 w2 ⟨rfl, hb⟩; have FB := (HF1.out.call ((Below.refl _ _).drew.alloc (Nat.le_refl _) _)).call hb; have r0' := cell_of_row w2 (w.heap.size + 1) 0 _ _ _ (FB.get 1 rfl); have r1' := cell_of_row w2 (w.heap.size + 1) 1 _ _ _ (FB.get 1 rfl); have r2' := cell_of_row w2 (w.heap.size + 1) 2 _ _ _ (FB.get 1 rfl); have z0' := frozen_of_row w2 (w.heap.size + 1) 0 _ _ (FB.get 1 rfl); have z1' := frozen_of_row w2 (w.heap.size + 1) 1 _ _ (FB.get 1 rfl); have z2' := frozen_of_row w2 (w.heap.size + 1) 2 _ _ (FB.get 1 rfl); have HFB := Lib.hid FB; clear hb FB))
  have F2 := (((HFB.out.cell 1 rfl 0 (.string own.name)).cell 1 rfl 1 (.bool own.not_)).cell 1 rfl 2 (.bool false))
  have HROW := Lib.hid (F2.get 1 rfl)
  have HBZ := Lib.hid F2.below
  clear F2 e1 e2 q0 q1 r0 r1 r2 z0 z1 z2 r0' r1' r2' z0' z1' z2'
  go_wp2_with fail
  refine bodyPost_ret (results_cell_tmp2 (q := 7) (p := 6) (ty := 114) rfl _ _ (w.heap.size + 1) 114 #[.string own.name, .bool own.not_, .bool false] (0, 0) _ rfl HROW.out Try.underlying114 rfl HSC.out) rfl ?_
  unfold ruleC
  rw [if_neg (by decide), if_neg (by decide), if_pos rfl, HDE.out, ← HOW.out]
  exact ⟨rfl, HBZ.out⟩
set_option maxHeartbeats 4000000 in
set_option maxRecDepth 100000 in
theorem rule_otherC (o : ByteArray) (h1 : (o.data.toList == [118, 97, 114]) = false) (h2 : (o.data.toList == [119, 104, 101, 110]) = false) (h3 : (o.data.toList == [109, 101, 114, 103, 101]) = false) (w : World) (b m : Nat) (g : ClkG) (hS : Scp w b m g) (nm : ByteArray) (hs : nm.size ≤ maxLen) (n at_ : Int) (x : Option Addr) (l c : Nat) (ks : List Clc) (ok : Nat → Prop) (xk : Option Addr) (ck : Nat) (hk : IsD ok w (.slice xk ks.length ck) (.sl ks.length (cksD ks))) : Calls Try.prog 86 #[.map (some b), .agg #[.string o, .string nm, .int .i64 n, .int .i64 at_, .slice x l c], .slice xk ks.length ck] w (GivesRl (ruleC g o nm n ks) w) := by
  have g1 : (o.toList == [118, 97, 114]) = false := by rw [Lib.toList_data]; exact h1
  have g2 : (o.toList == [119, 104, 101, 110]) = false := by rw [Lib.toList_data]; exact h2
  have g3 : (o.toList == [109, 101, 114, 103, 101]) = false := by rw [Lib.toList_data]; exact h3
  have HH := Lib.hid (show ruleC g o nm n ks = meetC ⟨stpZ, true⟩ ks by
    unfold ruleC
    rw [if_neg (by intro h; rw [h] at h1; cases h1), if_neg (by intro h; rw [h] at h2; cases h2), if_neg (by intro h; rw [h] at h3; cases h3)])
  clear h1 h2 h3
  obtain ⟨own, how⟩ : ∃ s, s = stOf g nm := ⟨_, rfl⟩
  have P1 := ((Fx.start w).alloc (w.heap.size) rfl 43 #[.string o, .string nm, .int .i64 n, .int .i64 at_, .slice x l c]).alloc (w.heap.size + 1) (by simp) 114 #[.string ⟨#[]⟩, .bool false, .bool false]
  have P2 := P1.alloc (w.heap.size + 1 + 1) (by simp) 75 #[.string ⟨#[]⟩, .bool false]
  have P3 := P2.store 2 rfl #[.string own.name, .bool own.not_]
  have HSC := Lib.hid size_cl
  have HST := Lib.hid size_st
  have HA := Lib.hid (P2.get 2 rfl)
  have c1 := cell_of_row _ (w.heap.size) 1 _ _ _ (P1.get 0 rfl)
  have o0 := cell_of_row _ (w.heap.size) 0 _ _ _ (P3.get 0 rfl)
  have hl := Scp.look_ok (Scp.below hS P1.below) nm hs
  rw [← how] at hl
  have HOW := Lib.hid how
  have HF3 := Lib.hid P3
  have HE := Lib.hid (P3.get 0 rfl)
  have HCL := Lib.hid (P3.get 1 rfl)
  have HOWN := Lib.hid (P3.get 2 rfl)
  have HK3 := Lib.hid (IsD.below P3.below hk)
  obtain ⟨dd, hdd⟩ : ∃ d, d = (g nm.data.toList).isSome := ⟨_, rfl⟩
  rw [← hdd] at hl
  have HDD := Lib.hid hdd
  clear hS hs how P1 P2 P3 hk hdd
  have km := meet_any ks _ ok xk ck HK3.out
  obtain ⟨R, hR⟩ : ∃ R, R = meetC ⟨stpZ, true⟩ ks := ⟨_, rfl⟩
  rw [← hR] at km HH
  rw [HH.out]
  unfold GivesMt at km
  clear HH hR
  go_enter Try.func86, Try.ntmps86
  go_wp2_with (refine wpList_store_row rfl 75 (.tmp 8) (.tmp 15) rfl (w.heap.size + 1 + 1) #[.string own.name, .bool own.not_] rfl rfl 75 #[.string ⟨#[]⟩, .bool false] ?_ HST.out rfl (st_one _ _) ?_; (exact HA.out))
  (with_reducible refine km.mono ?_)
  rintro e9 w2 ⟨rfl, hb⟩
  have F2 := HF3.out.call hb
  have HC2 := Lib.hid (F2.get 1 rfl)
  have HB2 := Lib.hid F2.below
  clear km hb F2 hl c1 o0
  unfold clcA
  go_wp2_with (refine wpList_store_row rfl 114 (.tmp 6) (.tmp 58) rfl (w.heap.size + 1) #[.string R.1.last.name, .bool R.1.last.not_, .bool R.1.any] rfl rfl 114 #[.string ⟨#[]⟩, .bool false, .bool false] ?_ HSC.out rfl (cl_one _ _ _) ?_; (exact HC2.out))
  refine bodyPost_ret (results_cell_tmp2 (q := 7) (p := 6) (ty := 114) rfl _ _ (w.heap.size + 1) 114 #[.string R.1.last.name, .bool R.1.last.not_, .bool R.1.any] (0, 0) _ rfl (setRow_heap _ (w.heap.size + 1) _ _ _ _ HC2.out) Try.underlying114 rfl HSC.out) rfl ?_
  exact ⟨rfl, below_setRow HB2.out (by omega) _⟩
theorem clkRule_any (w : World) (b m : Nat) (g : ClkG) (hS : Scp w b m g) (e : Ex) (hs : e.name.size ≤ maxLen) (x : Option Addr) (c : Nat) (ks : List Clc) (ok : Nat → Prop) (xk : Option Addr) (ck : Nat) (hk : IsD ok w (.slice xk ks.length ck) (.sl ks.length (cksD ks))) : Calls Try.prog 86 #[.map (some b), exV e x c, .slice xk ks.length ck] w (GivesRl (ruleC g e.op e.name e.n ks) w) := by
  unfold exV
  by_cases h1 : e.op.data.toList = [118, 97, 114]
  · rw [bytes_eq h1]
    exact rule_varC w b m g hS e.name hs e.n _ x _ c ks ok xk ck hk
  by_cases h2 : e.op.data.toList = [119, 104, 101, 110]
  · rw [bytes_eq h2]
    cases hd : (g e.name.data.toList).isSome with
    | true => exact rule_whenT w b m g hS e.name hs e.n _ x _ c ks ok xk ck hk hd
    | false => exact rule_whenF w b m g hS e.name hs e.n _ x _ c ks ok xk ck hk hd
  by_cases h3 : e.op.data.toList = [109, 101, 114, 103, 101]
  · rw [bytes_eq h3]
    cases hd : (g e.name.data.toList).isSome with
    | true => exact rule_mergeT w b m g hS e.name hs e.n _ x _ c ks ok xk ck hk hd
    | false => exact rule_mergeF w b m g hS e.name hs e.n _ x _ c ks ok xk ck hk hd
  exact rule_otherC e.op (by simpa using h1) (by simpa using h2) (by simpa using h3) w b m g hS e.name hs e.n _ x _ c ks ok xk ck hk
end Go.Proofs.Ytfajafjikpmgpaa

namespace Go.Proofs.Ytfajafjikpmgpaa
open Go Go.RowKit
theorem results_cell_cell {P : Program} {fn : Func} {p q : Tmp} {ty ty2 : TypeId} (h : fn.results = #[.cell p ty, .cell q ty2]) (tmps : Array Value) (w : World) (g : Nat) (t : TypeId) (cs : Array Value) (fr : Nat × Nat) (d : TypeDesc)
    (hp : tmps.getD p undef = .pointer (some ⟨g, 0, none⟩)) (hg : w.heap[g]? = some (.cells cs t fr)) (hu : P.underlying ty = some d) (hd : (match d with | .struct _ | .array _ _ => true | _ => false) = true) (hi : (P.info? ty).map (·.size) = some cs.size)
    (g2 : Nat) (t2 : TypeId) (cs2 : Array Value) (fr2 : Nat × Nat) (d2 : TypeDesc)
    (hp2 : tmps.getD q undef = .pointer (some ⟨g2, 0, none⟩)) (hg2 : w.heap[g2]? = some (.cells cs2 t2 fr2)) (hu2 : P.underlying ty2 = some d2) (hd2 : (match d2 with | .struct _ | .array _ _ => true | _ => false) = true) (hi2 : (P.info? ty2).map (·.size) = some cs2.size) :
    (results fn tmps).run P w = .ok (.tuple #[.agg cs, .agg cs2]) w := by
  have hp' : tmps[p]?.getD undef = .pointer (some ⟨g, 0, none⟩) := by simpa using hp
  have hp2' : tmps[q]?.getD undef = .pointer (some ⟨g2, 0, none⟩) := by simpa using hp2
  simp [results, h, hp', hp2', asAddr, run_loadVar_row w g t ty cs fr d hg hu hd hi, run_loadVar_row w g2 t2 ty2 cs2 fr2 d2 hg2 hu2 hd2 hi2]
def ckOf : Except Nat Clc → Clc
  | .error _ => clcZ
  | .ok c => c
def ferC : Except Nat Clc → Int
  | .error _ => 10
  | .ok _ => 0
def fatC : Except Nat Clc → Int
  | .error a => a
  | .ok _ => 0
def GivesCx (r : Except Nat Clc) (w : World) (e : Ending) (w' : World) : Prop := e = .returned (.tuple #[.agg (clcA (ckOf r)), .agg #[.int .i64 (ferC r), .int .i64 (fatC r)]]) ∧ Below w.heap.size w w'
def glueC (a : List Clc) : Except Nat (List Clc) → Except Nat (List Clc)
  | .error e => .error e
  | .ok l => .ok (a ++ l)
theorem clockC_eq (g : ClkG) (e : Ex) : clockC g e = match clocksC g e.kids with | .error a => .error a | .ok ks => if (ruleC g e.op e.name e.n ks).2 = true then .ok (ruleC g e.op e.name e.n ks).1 else .error e.at_ := by
  cases e; conv => lhs; unfold clockC
  rfl
theorem glueC_ok {g : ClkG} {e : Ex} {r : List Ex} {k : Clc} (h : clockC g e = .ok k) (a : List Clc) : glueC a (clocksC g (e :: r)) = glueC (a ++ [k]) (clocksC g r) := by
  conv => lhs; unfold clocksC
  rw [h]
  cases clocksC g r with
  | error x => rfl
  | ok l => simp [glueC]
theorem glueC_error {g : ClkG} {e : Ex} {r : List Ex} {x : Nat} (h : clockC g e = .error x) (a : List Clc) : glueC a (clocksC g (e :: r)) = .error x := by
  conv => lhs; unfold clocksC
  rw [h]
  rfl
theorem glueC_nil (r : Except Nat (List Clc)) : glueC [] r = r := by cases r <;> rfl
theorem cksD_app (a b : List Clc) : cksD (a ++ b) = cksD a ++ cksD b := by simp [cksD]
theorem cksD_one : ∀ l : List Clc, ∀ d ∈ cksD l, d.one := by
  intro l d h
  simp only [cksD, List.mem_flatMap, ckD, List.mem_cons, List.not_mem_nil, or_false] at h
  obtain ⟨c, _, h⟩ := h
  rcases h with rfl | rfl | rfl <;> exact rfl
theorem wpList_appY {P : Program} {ops : Array Oper} {rest : List Oper} {o : Oper} {a : Act} {Q : Exit → Act → World → Prop} (hgd : o.guard = none) (s x : Operand) (t : TypeId) (ho : o.op = .call { callee := .builtin .append, args := #[s, x], argTypes := #[t, t] })
    {T : TypeId} {sz : Nat} {w : World} {b : Nat} {v : Value} {n : Nat} {ds : List Dt} (bytes : Nat) (ht : P.underlying t = some (.slice T)) (hin : ∃ i, P.info? T = some i ∧ (∃ z, i.zero = some z ∧ z.cells.size = sz) ∧ i.size = sz ∧ i.bytes = bytes) (hsz : 0 < sz) (hbl : bytes ≤ 1000)
    (hs : a.eval s = v) (h : OwnD T sz w b v n ds) (hbw : b + 1 ≤ w.heap.size) {ok : Nat → Prop} {u : Value} {m : Nat} (es : List Dt) (hx : a.eval x = u) (hd : IsD ok w u (.sl m es)) (hl : es.length = m * sz) (hm : 0 < m) (hone : ∀ d ∈ es, d.one) (hok : ∀ k, ok k → k < w.heap.size → b < k ∧ some k ≠ v.ownBlock) (hnm : n + m ≤ 100000000000)
    (hK : ∀ v' w', OwnD T sz w' b v' (n + m) (ds ++ es) → w.grownBy w' v.ownBlock → (v'.ownBlock = v.ownBlock ∨ v'.ownBlock = some w.heap.size) → wpList P ops Q rest (a.put o.dst v') w') :
    wpList P ops Q (o :: rest) a w := by
  obtain ⟨i, hi, ⟨z, hz, hzs⟩, hsize, hby⟩ := hin
  obtain ⟨v', w', hrun, j1, j2, j3⟩ := run_appD (P := P) ho i z bytes ht hi hz hsize hby hzs hsz hbl hs h hbw hx es hl hm hd hone hok hnm
  refine wpList_plain hgd fun K hK' => ?_
  unfold Oper.wp
  rw [hrun]
  exact hK' _ _ (hK v' w' j1 j2 j3)
theorem info_cl : ∃ i, Try.prog.info? 114 = some i ∧ (∃ z, i.zero = some z ∧ z.cells.size = 3) ∧ i.size = 3 ∧ i.bytes = 32 := by
  have h : (Try.prog.info? 114).map (fun i => (i.zero.map (·.cells.size), i.size, i.bytes)) = some (some 3, 3, 32) := by kernel_rfl
  cases hi : Try.prog.info? 114 with
  | none => rw [hi] at h; simp at h
  | some i =>
    rw [hi] at h
    simp only [Option.map_some, Option.some.injEq, Prod.mk.injEq] at h
    obtain ⟨hz, hs, hb⟩ := h
    cases hzz : i.zero with
    | none => rw [hzz] at hz; simp at hz
    | some z => exact ⟨i, rfl, ⟨z, hzz, by rw [hzz] at hz; simpa using hz⟩, hs, hb⟩
set_option maxHeartbeats 4000000 in
set_option maxRecDepth 100000 in
theorem expr_lt (g : ClkG) : ∀ (d : Nat) (e : Ex), SizeOf.sizeOf e < d → okE e = true → ∀ (w : World) (b m : Nat) (okk : Nat → Prop) (x : Option Addr) (c : Nat), Scp w b m g → KidsD okk w e x c → Calls Try.prog 60 #[.map (some b), exV e x c] w (GivesCx (clockC g e) w) := by
  intro d
  induction d with
  | zero => intro e h; omega
  | succ d ih =>
    intro e hd hoe w b m okk x c hS hkk
    have hoe' := hoe
    rw [okE_eq] at hoe'
    simp only [Bool.and_eq_true] at hoe'
    have hkids := hoe'.2.2
    have HNM := Lib.hid (okNm_le hoe'.2.1)
    have IH := Lib.hid (fun (i : Nat) (hi : i < e.kids.length) => ih e.kids[i] (by have := kid_less hi; omega) (okEs_at _ i hi hkids))
    have HKK := Lib.hid hkk
    have HSE := Lib.hid size_eS
    have HSC := Lib.hid size_cl
    have HSF := Lib.hid size_flt
    have HIC := Lib.hid info_cl
    have F0 := (((Fx.start w).alloc (w.heap.size) rfl 43 #[.string e.op, .string e.name, .int .i64 e.n, .int .i64 (e.at_ : Int), .slice x e.kids.length c]).alloc (w.heap.size + 1) (by simp) 114 #[.string ⟨#[]⟩, .bool false, .bool false]).alloc (w.heap.size + 1 + 1) (by simp) 32 #[.int .i64 0, .int .i64 0]
    have c4 := cell_of_row _ (w.heap.size) 4 _ _ _ (F0.get 0 rfl)
    have HF0 : Hid (Fx w [(w.heap.size, 43, #[.string e.op, .string e.name, .int .i64 e.n, .int .i64 (e.at_ : Int), .slice x e.kids.length c]), (w.heap.size + 1, 114, #[.string ⟨#[]⟩, .bool false, .bool false]), (w.heap.size + 1 + 1, 32, #[.int .i64 0, .int .i64 0])] _) := Lib.hid F0
    have HS := Lib.hid hS
    obtain ⟨R, hR⟩ : ∃ R, R = clockC g e := ⟨_, rfl⟩
    rw [← hR]
    rw [clockC_eq] at hR
    obtain ⟨Q, hQ⟩ : ∃ Q, Q = clocksC g e.kids := ⟨_, rfl⟩
    rw [← hQ] at hR
    have HR := Lib.hid hR
    have HQ0 := Lib.hid (show Q = glueC [] (clocksC g (e.kids.drop 0)) by rw [glueC_nil]; exact hQ)
    clear hkk ih hd F0 hS hR hQ hoe hoe' hkids
    unfold exV
    go_enter Try.func60, Try.ntmps60
    go_wp2_with fail
    go_loopw [6, 16] (fun v6 v16 wr => ∃ (V : Value) (i : Nat) (ks : List Clc), V = v6 ∧ v16 = .int .i64 (i : Int) ∧ i ≤ e.kids.length ∧ ks.length = i ∧ Fx w [(w.heap.size, 43, #[.string e.op, .string e.name, .int .i64 e.n, .int .i64 (e.at_ : Int), .slice x e.kids.length c]), (w.heap.size + 1, 114, #[.string ⟨#[]⟩, .bool false, .bool false]), (w.heap.size + 1 + 1, 32, #[.int .i64 0, .int .i64 0])] wr ∧ OwnD 114 3 wr (w.heap.size + 1 + 1) V ks.length (cksD ks) ∧ Q = glueC ks (clocksC g (e.kids.drop i)))
      (fun _ v16 _ => e.kids.length - (intOf v16).toNat)
    case atStart => exact ⟨_, 0, [], rfl, rfl, Nat.zero_le _, rfl, HF0.out, OwnD.nil _ _ _ _, HQ0.out⟩
    case round =>
      clear HF0 c4 HQ0
      obtain ⟨V, i, ks, rfl, rfl, hi, hks, hF, hO, hq⟩ := hrel
      obtain ⟨xv, cv, rfl, _, _⟩ := hO.slice
      have HF := Lib.hid hF
      have HO := Lib.hid hO
      have HI_ := Lib.hid hi
      have HKS := Lib.hid hks
      clear hF hO hi hks
      by_cases hil : i < e.kids.length
      · have d1 : decide ((i : Int) < (e.kids.length : Int)) = true := by simp; omega
        have HIL := Lib.hid hil
        rw [List.drop_eq_getElem_cons hil] at hq
        obtain ⟨ek, hek⟩ : ∃ ek, ek = e.kids[i]'HIL.out := ⟨_, rfl⟩
        obtain ⟨g1, rfl, hg1, xk, ck, hrg, hkk⟩ := HKK.out.at_ i HIL.out
        have ih := IH.out i HIL.out
        rw [← hek] at hrg hkk ih hq
        have HRK := Lib.hid (rangeAt_below hrg HF.out.below hg1)
        have HAL := Lib.hid (heap_alloc_new wr (.cells #[.string ⟨#[]⟩, .string ⟨#[]⟩, .int .i64 0, .int .i64 0, .slice none 0 0] 43))
        obtain ⟨hnb, hnr⟩ := new_row wr 43 #[.string ⟨#[]⟩, .string ⟨#[]⟩, .int .i64 0, .int .i64 0, .slice none 0 0] #[.string ek.op, .string ek.name, .int .i64 ek.n, .int .i64 (ek.at_ : Int), .slice xk ek.kids.length ck]
        have HF1 := Lib.hid (HF.out.call hnb)
        have HO1 := Lib.hid (HO.out.below hnb)
        have HN1 := Lib.hid hnr
        have kk := ih ((wr.alloc (.cells #[.string ⟨#[]⟩, .string ⟨#[]⟩, .int .i64 0, .int .i64 0, .slice none 0 0] 43)).setRow wr.heap.size #[.string ek.op, .string ek.name, .int .i64 ek.n, .int .i64 (ek.at_ : Int), .slice xk ek.kids.length ck]) b m okk xk ck (Scp.below HS.out HF1.out.below) (IsD.below HF1.out.below hkk)
        unfold exV GivesCx at kk
        obtain ⟨r, hr⟩ : ∃ r, r = clockC g ek := ⟨_, rfl⟩
        rw [← hr] at kk
        have HRR := Lib.hid hr
        obtain ⟨kn, kb, ka, hkn⟩ : ∃ kn kb ka, clcA (ckOf r) = #[.string kn, .bool kb, .bool ka] := ⟨_, _, _, rfl⟩
        obtain ⟨er, her⟩ : ∃ er, er = ferC r := ⟨_, rfl⟩
        obtain ⟨ea, hea⟩ : ∃ ea, ea = fatC r := ⟨_, rfl⟩
        rw [hkn, ← her, ← hea] at kk
        have HKN := Lib.hid hkn
        have HER := Lib.hid her
        have HEA := Lib.hid hea
        have HQ := Lib.hid hq
        have i0 : (0 : Int) ≤ (i : Int) := by omega
        have i1 : (i : Int) < (e.kids.length : Int) := by omega
        clear hil hek hrg hkk hnb hnr ih hg1 hr hkn her hea hq
        go_wp2_with (first | (refine wpList_load_mid rfl 43 (.tmp 18) rfl g1 (i * 5) rfl (exC ek xk ck) _ ?_ Try.underlying43 rfl HSE.out ?_; (exact HRK.out)) | (refine wpList_store_row rfl 43 (.tmp 8) (.tmp 19) rfl wr.heap.size #[.string ek.op, .string ek.name, .int .i64 ek.n, .int .i64 (ek.at_ : Int), .slice xk ek.kids.length ck] rfl rfl 43 #[.string ⟨#[]⟩, .string ⟨#[]⟩, .int .i64 0, .int .i64 0, .slice none 0 0] ?_ HSE.out rfl (e4_one _ _ _ _ _ _ _) ?_; (exact HAL.out)) | (refine wpList_load_row rfl 43 (.tmp 8) rfl wr.heap.size rfl 43 #[.string ek.op, .string ek.name, .int .i64 ek.n, .int .i64 (ek.at_ : Int), .slice xk ek.kids.length ck] (0, 0) _ ?_ Try.underlying43 rfl HSE.out ?_; (exact HN1.out)))
        (with_reducible refine kk.mono ?_)
        rintro e9 w2 ⟨rfl, hb⟩
        have P1 := ((HF1.out.call hb).alloc w2.heap.size rfl 114 #[.string ⟨#[]⟩, .bool false, .bool false]).alloc (w2.heap.size + 1) (by simp) 32 #[.int .i64 0, .int .i64 0]
        have P2 := P1.store 3 rfl #[.string kn, .bool kb, .bool ka]
        have P3 := P2.store 4 rfl #[.int .i64 er, .int .i64 ea]
        have HA1 := Lib.hid (P1.get 3 rfl)
        have HA2 := Lib.hid (P2.get 4 rfl)
        have HL1 := Lib.hid (P3.get 3 rfl)
        have q0 := cell_of_row _ (w2.heap.size + 1) 0 _ _ _ (P3.get 4 rfl)
        have q1 := cell_of_row _ (w2.heap.size + 1) 1 _ _ _ (P3.get 4 rfl)
        have HF3 : Hid (Fx w [(w.heap.size, 43, #[.string e.op, .string e.name, .int .i64 e.n, .int .i64 (e.at_ : Int), .slice (some ⟨g1, 0, none⟩) e.kids.length c]), (w.heap.size + 1, 114, #[.string ⟨#[]⟩, .bool false, .bool false]), (w.heap.size + 1 + 1, 32, #[.int .i64 0, .int .i64 0])] _) := Lib.hid (Fx.first (cl := [(w2.heap.size, 114, #[.string kn, .bool kb, .bool ka]), (w2.heap.size + 1, 32, #[.int .i64 er, .int .i64 ea])]) P3)
        have hbw : Below w2.heap.size w2 (((((w2.alloc (.cells #[.string ⟨#[]⟩, .bool false, .bool false] 114)).alloc (.cells #[.int .i64 0, .int .i64 0] 32)).setRow w2.heap.size #[.string kn, .bool kb, .bool ka]).setRow (w2.heap.size + 1) #[.int .i64 er, .int .i64 ea])) := ((((Fx.start w2).alloc w2.heap.size rfl 114 #[.string ⟨#[]⟩, .bool false, .bool false]).alloc (w2.heap.size + 1) (by simp) 32 #[.int .i64 0, .int .i64 0]).store 0 rfl #[.string kn, .bool kb, .bool ka]).store 1 rfl #[.int .i64 er, .int .i64 ea] |>.below
        have HO3 := Lib.hid ((HO1.out.below hb).below hbw)
        have HNE := Lib.hid (show w.heap.size + 1 + 1 < w2.heap.size from (HF1.out.call hb).lt_ 2 rfl)
        clear P1 P2 P3 hb hbw kk
        cases hrr : r with
        | error a =>
          have e0 : er = 10 := by rw [HER.out, hrr]; rfl
          have HR2 := Lib.hid (show R = .error a by rw [HR.out, HQ.out, glueC_error (by rw [← HRR.out]; exact hrr)])
          have e1 : ea = (a : Int) := by rw [HEA.out, hrr]; rfl
          have HE0 := Lib.hid e0
          have HE1 := Lib.hid e1
          have d3 : (er != 0) = true := by rw [e0]; rfl
          have r0 := cell_of_row _ (w.heap.size + 1) 0 _ _ _ (HF3.out.get 1 rfl)
          have r1 := cell_of_row _ (w.heap.size + 1) 1 _ _ _ (HF3.out.get 1 rfl)
          have r2 := cell_of_row _ (w.heap.size + 1) 2 _ _ _ (HF3.out.get 1 rfl)
          have z0 := frozen_of_row _ (w.heap.size + 1) 0 _ _ (HF3.out.get 1 rfl)
          have z1 := frozen_of_row _ (w.heap.size + 1) 1 _ _ (HF3.out.get 1 rfl)
          have z2 := frozen_of_row _ (w.heap.size + 1) 2 _ _ (HF3.out.get 1 rfl)
          have s0 := cell_of_row _ (w.heap.size + 1 + 1) 0 _ _ _ (HF3.out.get 2 rfl)
          have s1 := cell_of_row _ (w.heap.size + 1 + 1) 1 _ _ _ (HF3.out.get 2 rfl)
          have y0 := frozen_of_row _ (w.heap.size + 1 + 1) 0 _ _ (HF3.out.get 2 rfl)
          have y1 := frozen_of_row _ (w.heap.size + 1 + 1) 1 _ _ (HF3.out.get 2 rfl)
          clear hrr e0 e1
          go_upto_region 7 with (first | (refine wpList_store_row rfl 114 (.tmp 9) (.tmp 24) rfl w2.heap.size #[.string kn, .bool kb, .bool ka] rfl rfl 114 #[.string ⟨#[]⟩, .bool false, .bool false] ?_ HSC.out rfl (cl_one _ _ _) ?_; (exact HA1.out)) | (refine wpList_store_row rfl 32 (.tmp 10) (.tmp 25) rfl (w2.heap.size + 1) #[.int .i64 er, .int .i64 ea] rfl rfl 32 #[.int .i64 0, .int .i64 0] ?_ HSF.out rfl (fault_one _ _) ?_; (exact HA2.out)))
          obtain ⟨w3, hw3⟩ : ∃ w3, w3 = (((((w2.alloc (.cells #[.string ⟨#[]⟩, .bool false, .bool false] 114)).alloc (.cells #[.int .i64 0, .int .i64 0] 32)).setRow w2.heap.size #[.string kn, .bool kb, .bool ka]).setRow (w2.heap.size + 1) #[.int .i64 er, .int .i64 ea])) := ⟨_, rfl⟩
          rw [← hw3] at q0 q1 r0 r1 r2 z0 z1 z2 s0 s1 y0 y1 HF3 ⊢
          clear hw3
          have m1 : ¬ w2.heap.size = w.heap.size := by have := HNE.out; omega
          have m2 : ¬ w.heap.size = w2.heap.size := by have := HNE.out; omega
          have m3 : ¬ w2.heap.size = w.heap.size + 1 := by have := HNE.out; omega
          have m4 : ¬ w.heap.size + 1 = w2.heap.size := by have := HNE.out; omega
          go_region
          have X5 := (((((HF3.out.cell 1 rfl 0 (.string ⟨#[]⟩)).cell 1 rfl 1 (.bool false)).cell 1 rfl 2 (.bool false)).cell 2 rfl 0 (.int .i64 er)).cell 2 rfl 1 (.int .i64 ea)).call ((Below.refl _ _).drew)
          obtain ⟨w4, hw4⟩ : ∃ w4, w4 = (((((w3.setCell ⟨w.heap.size + 1, 0, none⟩ (.string ⟨#[]⟩)).setCell ⟨w.heap.size + 1, 1, none⟩ (.bool false)).setCell ⟨w.heap.size + 1, 2, none⟩ (.bool false)).setCell ⟨w.heap.size + 1 + 1, 0, none⟩ (.int .i64 er)).setCell ⟨w.heap.size + 1 + 1, 1, none⟩ (.int .i64 ea)).drew := ⟨_, rfl⟩
          rw [← hw4] at X5 ⊢
          clear hw4
          have HROW1 := Lib.hid (show w4.heap[w.heap.size + 1]? = some (.cells #[.string ⟨#[]⟩, .bool false, .bool false] 114 (0, 0)) from X5.get 1 rfl)
          have HROW2 := Lib.hid (show w4.heap[w.heap.size + 1 + 1]? = some (.cells #[.int .i64 er, .int .i64 ea] 32 (0, 0)) from X5.get 2 rfl)
          have HX := Lib.hid X5.below
          clear X5
          go_wp2
          refine bodyPost_ret (results_cell_cell (p := 4) (q := 5) (ty := 114) (ty2 := 32) rfl _ _ (w.heap.size + 1) 114 #[.string ⟨#[]⟩, .bool false, .bool false] (0, 0) _ rfl HROW1.out Try.underlying114 rfl HSC.out (w.heap.size + 1 + 1) 32 #[.int .i64 er, .int .i64 ea] (0, 0) _ rfl HROW2.out Try.underlying32 rfl HSF.out) rfl ?_
          rw [HR2.out, HE0.out, HE1.out]
          exact ⟨rfl, HX.out⟩

        | ok k =>
          have e0 : er = 0 := by rw [HER.out, hrr]; rfl
          have HQ2 := Lib.hid (show Q = glueC (ks ++ [k]) (clocksC g (e.kids.drop (i + 1))) by rw [HQ.out, glueC_ok (by rw [← HRR.out]; exact hrr)])
          have d3 : (er != 0) = false := by rw [e0]; rfl
          have hkk : (#[.string kn, .bool kb, .bool ka] : Array Value) = #[.string k.last.name, .bool k.last.not_, .bool k.any] := by rw [← HKN.out, hrr]; rfl
          have HKQ := Lib.hid hkk
          have bs : ∀ W : World, (Instr.buildSlice 155 1 #[(0, .agg #[.string kn, .bool kb, .bool ka])]).run Try.prog W = .ok (.slice (some ⟨W.heap.size, 0, none⟩) 1 1) (W.alloc (.cells #[.string kn, .bool kb, .bool ka] 114)) := fun W => by kernel_rfl
          obtain ⟨w3, hw3⟩ : ∃ w3, w3 = (((((w2.alloc (.cells #[.string ⟨#[]⟩, .bool false, .bool false] 114)).alloc (.cells #[.int .i64 0, .int .i64 0] 32)).setRow w2.heap.size #[.string kn, .bool kb, .bool ka]).setRow (w2.heap.size + 1) #[.int .i64 er, .int .i64 ea])) := ⟨_, rfl⟩
          have HW3 := Lib.hid hw3
          rw [← hw3] at HL1 HF3 HO3
          have hmk : Below w3.heap.size w3 (w3.alloc (.cells #[.string kn, .bool kb, .bool ka] 114)) := (Below.refl _ _).alloc (Nat.le_refl _) _
          have HF4 := Lib.hid (HF3.out.call hmk)
          have HO4 := Lib.hid (HO3.out.below hmk)
          have HLS := Lib.hid (show w3.heap.size = w2.heap.size + 1 + 1 by rw [hw3]; simp [setRow_size])
          have HD4 : Hid (IsD (w3.heap.size ≤ ·) (w3.alloc (.cells #[.string kn, .bool kb, .bool ka] 114)) (.slice (some ⟨w3.heap.size, 0, none⟩) 1 1) (.sl 1 (cksD [k]))) := Lib.hid (by rw [hkk]; exact IsD.made 114 _ w3.heap.size rfl 1 (by decide) (by decide) (cksD [k]) (Nat.le_refl _) ⟨by unfold IsD; rfl, by unfold IsD; rfl, by unfold IsD; rfl, trivial⟩)
          have HBW := Lib.hid (show w.heap.size + 1 + 1 + 1 ≤ (w3.alloc (.cells #[.string kn, .bool kb, .bool ka] 114)).heap.size from HF4.out.lt_ 2 rfl)
          have HNI := Lib.hid (show ks.length + 1 ≤ 100000000000 by have := IsD.few HKK.out; have := HIL.out; have := HKS.out; omega)
          have HOK := Lib.hid (show ∀ j, w3.heap.size ≤ j → j < (w3.alloc (.cells #[.string kn, .bool kb, .bool ka] 114)).heap.size → w.heap.size + 1 + 1 < j ∧ some j ≠ (Value.slice xv ks.length cv).ownBlock from fun j hj _ => ⟨by have := HF3.out.lt_ 2 rfl; omega, fun e' => by have := (HO3.out.gt j e'.symm).2; omega⟩)
          clear hrr e0 hkk hmk hw3
          go_upto_region 8 with (first | (refine wpList_store_row rfl 114 (.tmp 9) (.tmp 24) rfl w2.heap.size #[.string kn, .bool kb, .bool ka] rfl rfl 114 #[.string ⟨#[]⟩, .bool false, .bool false] ?_ HSC.out rfl (cl_one _ _ _) ?_; (exact HA1.out)) | (refine wpList_store_row rfl 32 (.tmp 10) (.tmp 25) rfl (w2.heap.size + 1) #[.int .i64 er, .int .i64 ea] rfl rfl 32 #[.int .i64 0, .int .i64 0] ?_ HSF.out rfl (fault_one _ _) ?_; (exact HA2.out)))
          rw [← HW3.out]
          go_wp2_with (first | (refine wpList_load_row rfl 114 (.tmp 9) rfl w2.heap.size rfl 114 #[.string kn, .bool kb, .bool ka] (0, 0) _ ?_ Try.underlying114 rfl HSC.out ?_; (exact HL1.out)) | (at_builtin; refine wpList_appY rfl (.tmp 31) (.tmp 33) 155 rfl 32 Try.underlying155 HIC.out (by decide) (by decide) rfl HO4.out HBW.out (cksD [k]) rfl HD4.out rfl (by decide) (cksD_one _) HOK.out HNI.out ?_))
          intro v' w' hO' hg' _
          have hO5 : OwnD 114 3 w' (w.heap.size + 1 + 1) v' (ks ++ [k]).length (cksD (ks ++ [k])) := by
            rw [cksD_app, List.length_append]; exact hO'
          have HF5 := Lib.hid (HF4.out.own hg' (fun j hj => ⟨by have := (HO4.out.gt j hj).1; omega, fun x hx => by
            have := (HO4.out.gt j hj).1
            simp only [List.mem_cons, List.not_mem_nil, or_false] at hx
            rcases hx with rfl | rfl | rfl
            · show j ≠ w.heap.size; omega
            · show j ≠ w.heap.size + 1; omega
            · show j ≠ w.heap.size + 1 + 1; omega⟩))
          have HO5 := Lib.hid hO5
          have HL5 := Lib.hid (show (ks ++ [k]).length = i + 1 by rw [List.length_append, HKS.out]; rfl)
          have i2 : (i : Int) < 1000000000 := by have := HIL.out; have := IsD.few HKK.out; omega
          clear hO' hg' bs hO5
          go_wp2_with fail
          refine ⟨⟨_, i + 1, ks ++ [k], rfl, by go_num, HIL.out, HL5.out, HF5.out, HO5.out, HQ2.out⟩, ?_⟩
          simp [intOf]; omega
      · have d1 : decide ((i : Int) < (e.kids.length : Int)) = false := by simp; omega
        obtain rfl : i = e.kids.length := by have := HI_.out; omega
        have HQ2 := Lib.hid (show Q = .ok ks by rw [hq, List.drop_of_length_le (by omega)]; unfold clocksC glueC; simp)
        clear hil hq
        have kk := clkRule_any wr b m g (Scp.below HS.out HF.out.below) e HNM.out x c ks _ xv cv (HO.out.ends (by have := IsD.few HKK.out; have := HKS.out; omega))
        have HL0 := Lib.hid (HF.out.get 0 rfl)
        unfold exV GivesRl at kk
        obtain ⟨P, hP⟩ : ∃ P, P = ruleC g e.op e.name e.n ks := ⟨_, rfl⟩
        rw [← hP] at kk
        obtain ⟨kn, kb, ka, hkn⟩ : ∃ kn kb ka, clcA P.1 = #[.string kn, .bool kb, .bool ka] := ⟨_, _, _, rfl⟩
        obtain ⟨pk, hpk⟩ : ∃ pk, pk = P.2 := ⟨_, rfl⟩
        rw [hkn, ← hpk] at kk
        have HP := Lib.hid hP
        have HKN := Lib.hid hkn
        have HPK := Lib.hid hpk
        clear hP hkn hpk
        go_upto_region 10 with fail
        go_wp2_with (refine wpList_load_row rfl 43 (.tmp 3) rfl (w.heap.size) rfl 43 #[.string e.op, .string e.name, .int .i64 e.n, .int .i64 (e.at_ : Int), .slice x e.kids.length c] (0, 0) _ ?_ Try.underlying43 rfl HSE.out ?_; (exact HL0.out))
        (with_reducible refine kk.mono ?_)
        rintro e9 w2 ⟨rfl, hb⟩
        have P1 := (HF.out.call hb).alloc w2.heap.size rfl 114 #[.string ⟨#[]⟩, .bool false, .bool false]
        have P2 := P1.store 3 rfl #[.string kn, .bool kb, .bool ka]
        have HA1 := Lib.hid (P1.get 3 rfl)
        have HL1 := Lib.hid (P2.get 3 rfl)
        have HF3 := Lib.hid P2
        have HNE := Lib.hid (show w.heap.size + 1 + 1 < w2.heap.size from (HF.out.call hb).lt_ 2 rfl)
        clear P1 P2 hb kk
        have c3 := cell_of_row _ (w.heap.size) 3 _ _ _ (HF3.out.get 0 rfl)
        have z3 := frozen_of_row _ (w.heap.size) 3 _ _ (HF3.out.get 0 rfl)
        cases pk with
        | false =>
          have HR2 := Lib.hid (show R = .error e.at_ by
            rw [HR.out, HQ2.out]
            show (if (ruleC g e.op e.name e.n ks).2 = true then _ else _) = _
            rw [← HP.out, ← HPK.out]
            rfl)
          go_wp2_with (refine wpList_store_row rfl 114 (.tmp 11) (.tmp 41) rfl w2.heap.size #[.string kn, .bool kb, .bool ka] rfl rfl 114 #[.string ⟨#[]⟩, .bool false, .bool false] ?_ HSC.out rfl (cl_one _ _ _) ?_; (exact HA1.out))
          (with_reducible refine (clkFault_any (e.at_ : Int) _).mono ?_)
          unfold GivesF
          rintro e9 w4 ⟨rfl, hb⟩
          have X1 := HF3.out.call hb
          have X2 := X1.store 1 rfl #[.string ⟨#[]⟩, .bool false, .bool false]
          have X3 := X2.store 2 rfl #[.int .i64 10, .int .i64 (e.at_ : Int)]
          have HB1 := Lib.hid (X1.get 1 rfl)
          have HB2 := Lib.hid (X2.get 2 rfl)
          have HX1 := Lib.hid (X3.get 1 rfl)
          have HX2 := Lib.hid (X3.get 2 rfl)
          have HX := Lib.hid X3.below
          clear X1 X2 X3 hb c3 z3
          go_wp2_with (first | (refine wpList_store_row rfl 114 (.tmp 4) (.tmp 45) rfl (w.heap.size + 1) #[.string ⟨#[]⟩, .bool false, .bool false] rfl rfl 114 #[.string ⟨#[]⟩, .bool false, .bool false] ?_ HSC.out rfl (cl_one _ _ _) ?_; (exact HB1.out)) | (refine wpList_store_row rfl 32 (.tmp 5) (.tmp 48) rfl (w.heap.size + 1 + 1) #[.int .i64 10, .int .i64 (e.at_ : Int)] rfl rfl 32 #[.int .i64 0, .int .i64 0] ?_ HSF.out rfl (fault_one _ _) ?_; (exact HB2.out)))
          refine bodyPost_ret (results_cell_cell (p := 4) (q := 5) (ty := 114) (ty2 := 32) rfl _ _ (w.heap.size + 1) 114 #[.string ⟨#[]⟩, .bool false, .bool false] (0, 0) _ rfl HX1.out Try.underlying114 rfl HSC.out (w.heap.size + 1 + 1) 32 #[.int .i64 10, .int .i64 (e.at_ : Int)] (0, 0) _ rfl HX2.out Try.underlying32 rfl HSF.out) rfl ?_
          rw [HR2.out]
          exact ⟨rfl, HX.out⟩
        | true =>
          have HR2 := Lib.hid (show R = .ok P.1 by
            rw [HR.out, HQ2.out]
            show (if (ruleC g e.op e.name e.n ks).2 = true then _ else _) = _
            rw [← HP.out, ← HPK.out]
            rfl)
          have X2 := HF3.out.store 1 rfl #[.string kn, .bool kb, .bool ka]
          have X3 := X2.store 2 rfl #[.int .i64 0, .int .i64 0]
          have HB1 := Lib.hid (HF3.out.get 1 rfl)
          have HB2 := Lib.hid (X2.get 2 rfl)
          have HX1 := Lib.hid (X3.get 1 rfl)
          have HX2 := Lib.hid (X3.get 2 rfl)
          have HX := Lib.hid X3.below
          clear X2 X3 c3 z3
          go_wp2_with (first | (refine wpList_store_row rfl 114 (.tmp 11) (.tmp 41) rfl w2.heap.size #[.string kn, .bool kb, .bool ka] rfl rfl 114 #[.string ⟨#[]⟩, .bool false, .bool false] ?_ HSC.out rfl (cl_one _ _ _) ?_; (exact HA1.out)) | (refine wpList_load_row rfl 114 (.tmp 11) rfl w2.heap.size rfl 114 #[.string kn, .bool kb, .bool ka] (0, 0) _ ?_ Try.underlying114 rfl HSC.out ?_; (exact HL1.out)) | (refine wpList_store_row rfl 114 (.tmp 4) (.tmp 49) rfl (w.heap.size + 1) #[.string kn, .bool kb, .bool ka] rfl rfl 114 #[.string ⟨#[]⟩, .bool false, .bool false] ?_ HSC.out rfl (cl_one _ _ _) ?_; (exact HB1.out)) | (refine wpList_store_row rfl 32 (.tmp 5) (.tmp 50) rfl (w.heap.size + 1 + 1) #[.int .i64 0, .int .i64 0] rfl rfl 32 #[.int .i64 0, .int .i64 0] ?_ HSF.out rfl (fault_one _ _) ?_; (exact HB2.out)))
          refine bodyPost_ret (results_cell_cell (p := 4) (q := 5) (ty := 114) (ty2 := 32) rfl _ _ (w.heap.size + 1) 114 #[.string kn, .bool kb, .bool ka] (0, 0) _ rfl HX1.out Try.underlying114 rfl HSC.out (w.heap.size + 1 + 1) 32 #[.int .i64 0, .int .i64 0] (0, 0) _ rfl HX2.out Try.underlying32 rfl HSF.out) rfl ?_
          rw [HR2.out]
          refine ⟨?_, HX.out⟩
          show _ = Ending.returned (.tuple #[.agg (clcA P.1), .agg #[.int .i64 0, .int .i64 0]])
          rw [HKN.out]
end Go.Proofs.Ytfajafjikpmgpaa

namespace Go.Proofs.Ytfajafjikpmgpaa
open Go
theorem wpList_wanted {P : Program} {ops : Array Oper} {Q : Exit → Act → World → Prop} {a : Act} {w : World} {rest : List Oper} {o : Oper} (hw : Region.wanted o (yielded ops a.tmps) = true)
    (h : ∀ K : Act → World → Prop, (∀ a w, wpList P ops Q rest a w → K a w) → o.wp P a w K Q) : wpList P ops Q (o :: rest) a w :=
  wpList_step fun K hK => by rw [if_pos hw]; exact h K hK
theorem wanted_of {o : Oper} {ops : Array Oper} {t : Array Value} (k : Nat) (v : Bool) (hg : o.guard = some (k, v)) (hy : yielded ops t k = some v) : Region.wanted o (yielded ops t) = true := by
  unfold Region.wanted
  simp [hg, hy]
theorem wpList_load_row_g {P : Program} {ops : Array Oper} {rest : List Oper} {o : Oper} {a : Act} {w : World} {Q : Exit → Act → World → Prop} (k : Nat) (v : Bool) (hgd : o.guard = some (k, v)) (hy : yielded ops a.tmps k = some v) (ty : TypeId) (x : Operand) (ho : o.op = .load ty x)
    (g : Nat) (hx : a.eval x = .pointer (some ⟨g, 0, none⟩)) (t : TypeId) (cs : Array Value) (fr : Nat × Nat) (d : TypeDesc) (hg : w.heap[g]? = some (.cells cs t fr))
    (hu : P.underlying ty = some d) (hd : (match d with | .struct _ | .array _ _ => true | _ => false) = true) (hi : (P.info? ty).map (·.size) = some cs.size)
    (h : wpList P ops Q rest (a.put o.dst (.agg cs)) w) : wpList P ops Q (o :: rest) a w :=
  wpList_wanted (wanted_of k v hgd hy) fun _ hK => wp_load_row ty x ho g hx t cs fr d hg hu hd hi (hK _ _ h)
theorem run_lenT {P : Program} {W : World} {o : Oper} {ρ : Operand → Value} {t e : TypeId} {x : Operand} {a : Option Addr} {n c : Nat} (ho : o.op = .call { callee := .builtin .len, args := #[x], argTypes := #[t] }) (ht : P.underlying t = some (.slice e)) (hx : ρ x = .slice a n c) : (execOp ρ o).run P W = .ok (.value (.int .i64 (n : Int))) W := by
  have he : P.elem t = e := by simp [Program.elem, ht]
  have ht' : P.underlying t = some (.slice (P.elem t)) := by rw [he]; exact ht
  unfold execOp
  simp only [ho, resolve, invoke, builtin, Sem.run_bind, Sem.run_pure, Result.andThen_ok, List.map_toArray, List.map_cons, List.map_nil, hx, run_len_slice W t o.type a n c ht']
  rfl
end Go.Proofs.Ytfajafjikpmgpaa

namespace Go.Proofs.Ytfajafjikpmgpaa
open Go Go.RowKit
theorem ck_row1 (W : World) (a : ByteArray) (b c : Bool) : IsD (fun _ => True) (W.alloc (.cells #[.string a, .bool b, .bool c] 114)) (.slice (some ⟨W.heap.size, 0, none⟩) 1 1) (.sl 1 (cksD [⟨⟨a, b⟩, c⟩])) := IsD.made 114 _ _ rfl 1 (by decide) (by decide) _ trivial ⟨by unfold IsD; rfl, by unfold IsD; rfl, by unfold IsD; rfl, trivial⟩
set_option maxHeartbeats 4000000 in
set_option maxRecDepth 100000 in
theorem clkEquation_any (g : ClkG) (q : Qe) (hoe : okE q.e = true) (hon : okNm q.name = true) (w : World) (b m : Nat) (okk : Nat → Prop) (x : Option Addr) (c : Nat) (hS : Scp w b m g) (hkk : KidsD okk w q.e x c) :
    Calls Try.prog 56 #[.map (some b), qeV q x c] w (GivesO 10 (eqC g q) w) := by
  have HSF := Lib.hid size_flt
  have HSE := Lib.hid size_eS
  have HSC := Lib.hid size_cl
  have HSS := Lib.hid (show (Try.prog.info? 75).map (·.size) = some 2 by kernel_rfl)
  have F0 := ((Fx.start w).alloc (w.heap.size) rfl 45 #[.string q.name, .string q.e.op, .string q.e.name, .int .i64 q.e.n, .int .i64 (q.e.at_ : Int), .slice x q.e.kids.length c, .int .i64 (q.at_ : Int)]).alloc (w.heap.size + 1) (by simp) 32 #[.int .i64 0, .int .i64 0]
  have HF0 := Lib.hid F0
  have HRE_ := Lib.hid (row_range (F0.get 0 rfl) 1 (exC q.e x c) (qe_range q.name q.e x c (q.at_ : Int)))
  have kk := expr_lt g _ q.e (Nat.lt_succ_self _) hoe _ b m okk x c (Scp.below hS F0.below) (IsD.below F0.below hkk)
  rw [show exV q.e x c = .agg (exC q.e x c).toArray from rfl] at kk
  unfold GivesCx at kk
  have HS := Lib.hid hS
  have HNM := Lib.hid (okNm_le hon)
  obtain ⟨R, hR⟩ : ∃ R, R = eqC g q := ⟨_, rfl⟩
  rw [← hR]
  unfold eqC at hR
  obtain ⟨r, hr⟩ : ∃ r, r = clockC g q.e := ⟨_, rfl⟩
  rw [← hr] at kk hR
  have HR := Lib.hid hR
  obtain ⟨kn, kb, ka, hkn⟩ : ∃ kn kb ka, clcA (ckOf r) = #[.string kn, .bool kb, .bool ka] := ⟨_, _, _, rfl⟩
  obtain ⟨er, her⟩ : ∃ er, er = ferC r := ⟨_, rfl⟩
  obtain ⟨ea, hea⟩ : ∃ ea, ea = fatC r := ⟨_, rfl⟩
  rw [hkn, ← her, ← hea] at kk
  have HKN := Lib.hid hkn
  have HER := Lib.hid her
  have HEA := Lib.hid hea
  clear F0 hkk hoe hon hS hR hr hkn her hea
  unfold qeV
  go_enter Try.func56, Try.ntmps56
  go_wp2_with (refine wpList_load_mid rfl 43 (.tmp 11) rfl (w.heap.size) 1 rfl (exC q.e x c) _ ?_ Try.underlying43 rfl HSE.out ?_; (exact HRE_.out))
  (with_reducible refine kk.mono ?_)
  rintro e9 w2 ⟨rfl, hb⟩
  have P1 := ((HF0.out.call hb).alloc w2.heap.size rfl 114 #[.string ⟨#[]⟩, .bool false, .bool false]).alloc (w2.heap.size + 1) (by simp) 32 #[.int .i64 0, .int .i64 0]
  have P2 := P1.store 2 rfl #[.string kn, .bool kb, .bool ka]
  have P3 := P2.store 3 rfl #[.int .i64 er, .int .i64 ea]
  have HA1 := Lib.hid (P1.get 2 rfl)
  have HA2 := Lib.hid (P2.get 3 rfl)
  have HL1 := Lib.hid (P3.get 2 rfl)
  have HL2 := Lib.hid (P3.get 3 rfl)
  have HB1 := Lib.hid (P3.get 1 rfl)
  have q0 := cell_of_row _ (w2.heap.size + 1) 0 _ _ _ (P3.get 3 rfl)
  have HF3 := Lib.hid P3
  clear P1 P2 P3 hb kk
  cases hrr : r with
  | error a =>
    have e0 : er = 10 := by rw [HER.out, hrr]; rfl
    have e1 : ea = (a : Int) := by rw [HEA.out, hrr]; rfl
    have HR2 := Lib.hid (show R = some a by rw [HR.out, hrr])
    have HE0 := Lib.hid e0
    have HE1 := Lib.hid e1
    have d3 : (er != 0) = true := by rw [e0]; rfl
    clear hrr e0 e1
    go_wp2_with (first | (refine wpList_store_row rfl 114 (.tmp 5) (.tmp 14) rfl w2.heap.size #[.string kn, .bool kb, .bool ka] rfl rfl 114 #[.string ⟨#[]⟩, .bool false, .bool false] ?_ HSC.out rfl (cl_one _ _ _) ?_; (exact HA1.out)) | (refine wpList_store_row rfl 32 (.tmp 6) (.tmp 15) rfl (w2.heap.size + 1) #[.int .i64 er, .int .i64 ea] rfl rfl 32 #[.int .i64 0, .int .i64 0] ?_ HSF.out rfl (fault_one _ _) ?_; (exact HA2.out)) | (refine wpList_load_row rfl 32 (.tmp 6) rfl (w2.heap.size + 1) rfl 32 #[.int .i64 er, .int .i64 ea] (0, 0) _ ?_ Try.underlying32 rfl HSF.out ?_; (exact HL2.out)) | (refine wpList_store_row rfl 32 (.tmp 4) (.tmp 19) rfl (w.heap.size + 1) #[.int .i64 er, .int .i64 ea] rfl rfl 32 #[.int .i64 0, .int .i64 0] ?_ HSF.out rfl (fault_one _ _) ?_; (exact HB1.out)))
    refine bodyPost_ret (v := .agg #[.int .i64 er, .int .i64 ea]) (results_cell_row (p := 4) (ty := 32) rfl _ _ (w.heap.size + 1) 32 _ (0, 0) _ rfl (setRow_heap _ (w.heap.size + 1) _ _ _ _ HB1.out) Try.underlying32 rfl HSF.out) rfl ?_
    rw [HR2.out]
    refine ⟨?_, below_setRow HF3.out.below (by omega) _⟩
    rw [HE0.out, HE1.out]
    rfl
  | ok k =>
    have e0 : er = 0 := by rw [HER.out, hrr]; rfl
    have d3 : (er != 0) = false := by rw [e0]; rfl
    have hkk : (#[.string kn, .bool kb, .bool ka] : Array Value) = #[.string k.last.name, .bool k.last.not_, .bool k.any] := by rw [← HKN.out, hrr]; rfl
    have HKQ := Lib.hid hkk
    have HRK := Lib.hid (show R = if (g q.name.data.toList).isSome = true ∧ fitC [k] [stOf g q.name] = true then none else some q.at_ by rw [HR.out, hrr])
    have hl := Scp.look_ok (Scp.below HS.out HF3.out.below) q.name HNM.out
    have cn := cell_of_row _ (w.heap.size) 0 _ _ _ (HF3.out.get 0 rfl)
    obtain ⟨own, how⟩ : ∃ own, own = stOf g q.name := ⟨_, rfl⟩
    rw [← how] at hl
    have HOW := Lib.hid how
    obtain ⟨dcl, hdc⟩ : ∃ dcl, dcl = (g q.name.data.toList).isSome := ⟨_, rfl⟩
    rw [← hdc] at hl
    have HDC := Lib.hid hdc
    obtain ⟨on_, ob⟩ := own
    clear hrr e0 hkk how hdc
    go_upto_region 4 with (first | (refine wpList_store_row rfl 114 (.tmp 5) (.tmp 14) rfl w2.heap.size #[.string kn, .bool kb, .bool ka] rfl rfl 114 #[.string ⟨#[]⟩, .bool false, .bool false] ?_ HSC.out rfl (cl_one _ _ _) ?_; (exact HA1.out)) | (refine wpList_store_row rfl 32 (.tmp 6) (.tmp 15) rfl (w2.heap.size + 1) #[.int .i64 er, .int .i64 ea] rfl rfl 32 #[.int .i64 0, .int .i64 0] ?_ HSF.out rfl (fault_one _ _) ?_; (exact HA2.out)))
    have P4 := HF3.out.alloc (w2.heap.size + 1 + 1) (by simp [setRow_size]) 75 #[.string ⟨#[]⟩, .bool false]
    have P5 := P4.store 4 rfl #[.string on_, .bool ob]
    have HA3 := Lib.hid (P4.get 4 rfl)
    have HF5 := Lib.hid P5
    have HS5 := Lib.hid (P5.get 4 rfl)
    have HC5 := Lib.hid (P5.get 2 rfl)
    have HB5 := Lib.hid (P5.get 1 rfl)
    have c6 := cell_of_row _ (w.heap.size) 6 _ _ _ (P5.get 0 rfl)
    clear P4 P5
    cases dcl with
    | false =>
      have HR2 := Lib.hid (show R = some q.at_ by rw [HRK.out, if_neg (by rw [← HDC.out]; rintro ⟨h, _⟩; cases h)])
      go_wp2_with (refine wpList_store_row rfl 75 (.tmp 7) (.tmp 25) rfl (w2.heap.size + 1 + 1) #[.string on_, .bool ob] rfl rfl 75 #[.string ⟨#[]⟩, .bool false] ?_ HSS.out rfl (st_one _ _) ?_; (exact HA3.out))
      (with_reducible refine (clkFault_any (q.at_ : Int) _).mono ?_)
      unfold GivesF
      rintro e9 w4 ⟨rfl, hb⟩
      have HF6 := Lib.hid (HF5.out.call hb)
      have HB6 := Lib.hid (HF6.out.get 1 rfl)
      clear hb c6 cn hl q0
      go_wp2_with (refine wpList_store_row rfl 32 (.tmp 4) (.tmp 39) rfl (w.heap.size + 1) #[.int .i64 10, .int .i64 (q.at_ : Int)] rfl rfl 32 #[.int .i64 0, .int .i64 0] ?_ HSF.out rfl (fault_one _ _) ?_; (exact HB6.out))
      refine bodyPost_ret (v := .agg #[.int .i64 10, .int .i64 (q.at_ : Int)]) (results_cell_row (p := 4) (ty := 32) rfl _ _ (w.heap.size + 1) 32 _ (0, 0) _ rfl (setRow_heap _ (w.heap.size + 1) _ _ _ _ HB6.out) Try.underlying32 rfl HSF.out) rfl ?_
      rw [HR2.out]
      exact ⟨rfl, below_setRow HF6.out.below (by omega) _⟩
    | true =>
      go_upto_region 5 with (refine wpList_store_row rfl 75 (.tmp 7) (.tmp 25) rfl (w2.heap.size + 1 + 1) #[.string on_, .bool ob] rfl rfl 75 #[.string ⟨#[]⟩, .bool false] ?_ HSS.out rfl (st_one _ _) ?_; (exact HA3.out))
      have F5 := HF5.out
      obtain ⟨W5, hW5⟩ : ∃ W5, W5 = ((((((w2.alloc (.cells #[.string ⟨#[]⟩, .bool false, .bool false] 114)).alloc (.cells #[.int .i64 0, .int .i64 0] 32)).setRow w2.heap.size #[.string kn, .bool kb, .bool ka]).setRow (w2.heap.size + 1) #[.int .i64 er, .int .i64 ea]).alloc (.cells #[.string ⟨#[]⟩, .bool false] 75)).setRow (w2.heap.size + 1 + 1) #[.string on_, .bool ob]) := ⟨_, rfl⟩
      rw [← hW5] at F5
      rw [← hW5]
      have HC6 := Lib.hid (F5.get 2 rfl)
      have HS6 := Lib.hid ((heap_alloc_old W5 (.cells #[.string kn, .bool kb, .bool ka] 114) (F5.lt_ 4 rfl)).trans (F5.get 4 rfl))
      have HF6 := Lib.hid F5
      have c7 := cell_of_row W5 (w.heap.size) 6 _ _ _ (F5.get 0 rfl)
      obtain ⟨fr, hfr⟩ : ∃ fr, fr = fitC [k] [⟨on_, ob⟩] := ⟨_, rfl⟩
      have hkq : kn = k.last.name ∧ kb = k.last.not_ ∧ ka = k.any := by have h := HKQ.out; simp only [Array.mk.injEq, List.cons.injEq, Value.string.injEq, Value.bool.injEq, and_true] at h; exact h
      have kf : Calls Try.prog 82 #[.slice (some ⟨W5.heap.size, 0, none⟩) 1 1, .slice (some ⟨W5.heap.size + 1, 0, none⟩) 1 1] ((W5.alloc (.cells #[.string kn, .bool kb, .bool ka] 114)).alloc (.cells #[.string on_, .bool ob] 75)) (fun e w' => e = .returned (.bool fr) ∧ Below W5.heap.size W5 w') := by
        have h := fit_any [⟨⟨kn, kb⟩, ka⟩] [⟨on_, ob⟩] _ _ _ _ _ 1 1 (IsD.below ((Below.refl _ _).alloc (Nat.le_refl _) (.cells #[.string on_, .bool ob] 75)) (ck_row1 W5 kn kb ka)) (st_row1 (W5.alloc (.cells #[.string kn, .bool kb, .bool ka] 114)) on_ ob)
        rw [show fitC [⟨⟨kn, kb⟩, ka⟩] [⟨on_, ob⟩] = fr by rw [hfr, hkq.1, hkq.2.1, hkq.2.2]] at h
        have hsz : (W5.alloc (.cells #[.string kn, .bool kb, .bool ka] 114)).heap.size = W5.heap.size + 1 := by simp
        rw [hsz] at h
        refine h.mono ?_
        rintro e9 w' ⟨rfl, hb⟩
        have hb1 : Below W5.heap.size W5 ((W5.alloc (.cells #[.string kn, .bool kb, .bool ka] 114)).alloc (.cells #[.string on_, .bool ob] 75)) := ((Below.refl _ _).alloc (Nat.le_refl _) _).alloc (by simp) _
        exact ⟨rfl, hb1.trans (hb.mono hb1.size)⟩
      have HFR := Lib.hid hfr
      have bs1 : ∀ W : World, (Instr.buildSlice 155 1 #[(0, .agg #[.string kn, .bool kb, .bool ka])]).run Try.prog W = .ok (.slice (some ⟨W.heap.size, 0, none⟩) 1 1) (W.alloc (.cells #[.string kn, .bool kb, .bool ka] 114)) := fun W => by kernel_rfl
      have bs2 : ∀ W : World, (Instr.buildSlice 60 1 #[(0, .agg #[.string on_, .bool ob])]).run Try.prog W = .ok (.slice (some ⟨W.heap.size, 0, none⟩) 1 1) (W.alloc (.cells #[.string on_, .bool ob] 75)) := fun W => by kernel_rfl
      clear F5 hW5 hfr hkq c6 cn hl q0
      go_wp2_with (first | (refine wpList_load_row_g 2 false rfl rfl 114 (.tmp 5) rfl w2.heap.size rfl 114 #[.string kn, .bool kb, .bool ka] (0, 0) _ ?_ Try.underlying114 rfl HSC.out ?_; (exact HC6.out)) | (refine wpList_load_row_g 2 false rfl rfl 75 (.tmp 7) rfl (w2.heap.size + 1 + 1) rfl 75 #[.string on_, .bool ob] (0, 0) _ ?_ Try.underlying75 rfl HSS.out ?_; (exact HS6.out)))
      (with_reducible refine kf.mono ?_)
      rintro e9 w4 ⟨rfl, hb⟩
      have HF7 := Lib.hid (HF6.out.call hb)
      have HB7 := Lib.hid (HF7.out.get 1 rfl)
      have c8 := cell_of_row w4 (w.heap.size) 6 _ _ _ (HF7.out.get 0 rfl)
      clear hb kf c7 bs1 bs2
      cases fr with
      | true =>
        have HR2 := Lib.hid (show R = none by rw [HRK.out, if_pos ⟨HDC.out.symm, by rw [← HOW.out]; exact HFR.out.symm⟩])
        go_wp2_with (refine wpList_store_row rfl 32 (.tmp 4) (.tmp 40) rfl (w.heap.size + 1) #[.int .i64 0, .int .i64 0] rfl rfl 32 #[.int .i64 0, .int .i64 0] ?_ HSF.out rfl (fault_one _ _) ?_; (exact HB7.out))
        refine bodyPost_ret (v := .agg #[.int .i64 0, .int .i64 0]) (results_cell_row (p := 4) (ty := 32) rfl _ _ (w.heap.size + 1) 32 _ (0, 0) _ rfl (setRow_heap _ (w.heap.size + 1) _ _ _ _ HB7.out) Try.underlying32 rfl HSF.out) rfl ?_
        rw [HR2.out]
        exact ⟨rfl, below_setRow HF7.out.below (by omega) _⟩
      | false =>
        have HR2 := Lib.hid (show R = some q.at_ by rw [HRK.out, if_neg (by rw [← HOW.out, ← HFR.out]; rintro ⟨_, h⟩; cases h)])
        go_wp2_with fail
        (with_reducible refine (clkFault_any (q.at_ : Int) _).mono ?_)
        unfold GivesF
        rintro e9 w5 ⟨rfl, hb⟩
        have HF8 := Lib.hid (HF7.out.call hb)
        have HB8 := Lib.hid (HF8.out.get 1 rfl)
        clear hb c8
        go_wp2_with (refine wpList_store_row rfl 32 (.tmp 4) (.tmp 39) rfl (w.heap.size + 1) #[.int .i64 10, .int .i64 (q.at_ : Int)] rfl rfl 32 #[.int .i64 0, .int .i64 0] ?_ HSF.out rfl (fault_one _ _) ?_; (exact HB8.out))
        refine bodyPost_ret (v := .agg #[.int .i64 10, .int .i64 (q.at_ : Int)]) (results_cell_row (p := 4) (ty := 32) rfl _ _ (w.heap.size + 1) 32 _ (0, 0) _ rfl (setRow_heap _ (w.heap.size + 1) _ _ _ _ HB8.out) Try.underlying32 rfl HSF.out) rfl ?_
        rw [HR2.out]
        exact ⟨rfl, below_setRow HF8.out.below (by omega) _⟩
end Go.Proofs.Ytfajafjikpmgpaa

namespace Go.Proofs.Ytfajafjikpmgpaa
open Go Go.RowKit
theorem clkF_skip {n : Nd} {r : List Nd} (h : eqsC (scopeC n) n.eqs = none) : clkF (n :: r) = clkF r := by
  conv => lhs; unfold clkF
  rw [h]
theorem clkF_hit {n : Nd} {r : List Nd} {a : Nat} (h : eqsC (scopeC n) n.eqs = some a) : clkF (n :: r) = some a := by
  unfold clkF
  rw [h]
theorem eqsC_skip {g : ClkG} {q : Qe} {r : List Qe} (h : eqC g q = none) : eqsC g (q :: r) = eqsC g r := by
  conv => lhs; unfold eqsC
  rw [h]
theorem eqsC_hit {g : ClkG} {q : Qe} {r : List Qe} {a : Nat} (h : eqC g q = some a) : eqsC g (q :: r) = some a := by
  unfold eqsC
  rw [h]
set_option maxHeartbeats 4000000 in
set_option maxRecDepth 100000 in
theorem clkCheck_any (l : List Nd) (hall : ∀ (i : Nat) (h : i < l.length), okNd l[i] = true) (w : World) (ok : Nat → Prop) (x : Option Addr) (c : Nat) (hk : IsD ok w (.slice x l.length c) (.sl l.length (ndsD l))) : Calls Try.prog 24 #[.slice x l.length c] w (GivesO 10 (clkF l) w) := by
  have HK := Lib.hid hk
  have HALL := Lib.hid hall
  have HSF := Lib.hid size_flt
  have HSN := Lib.hid size_nS
  have HSQ := Lib.hid size_qS
  have F0 := (Fx.start w).alloc w.heap.size rfl 32 #[.int .i64 0, .int .i64 0]
  have HF0 : Hid (Fx w [(w.heap.size, 32, #[.int .i64 0, .int .i64 0])] _) := Lib.hid F0
  obtain ⟨R, hR⟩ : ∃ R, R = clkF l := ⟨_, rfl⟩
  rw [← hR]
  have HRR := Lib.hid hR
  clear hk hall F0 hR
  go_enter Try.func24, Try.ntmps24
  go_wp2_with fail
  go_loopw [11] (fun v11 wr => ∃ (i : Nat), v11 = .int .i64 (i : Int) ∧ i ≤ l.length ∧ Fx w [(w.heap.size, 32, #[.int .i64 0, .int .i64 0])] wr ∧ clkF l = clkF (l.drop i))
    (fun v11 _ => l.length - (intOf v11).toNat)
  case atStart => exact ⟨0, rfl, Nat.zero_le _, HF0.out, rfl⟩
  case round =>
    clear HF0
    obtain ⟨i, rfl, hi, hF, hq⟩ := hrel
    have HF := Lib.hid hF
    have HI := Lib.hid hi
    clear hF hi
    by_cases hil : i < l.length
    · have d1 : decide ((i : Int) < (l.length : Int)) = true := by simp; omega
      have HIL := Lib.hid hil
      have hon := HALL.out i hil
      obtain ⟨g, rfl, hg, xi, ci, xo, co, xl, cl, xe, ce, hrg, t1, t2, t3, t4⟩ := nd_at HK.out i hil
      rw [List.drop_eq_getElem_cons hil] at hq
      obtain ⟨n, hn⟩ : ∃ n, n = l[i]'HIL.out := ⟨_, rfl⟩
      rw [← hn] at hrg t1 t2 t3 t4 hon hq
      have HRG := Lib.hid (rangeAt_below hrg HF.out.below hg)
      have HAL := Lib.hid (heap_alloc_new wr (.cells #[.string ⟨#[]⟩, .slice none 0 0, .slice none 0 0, .slice none 0 0, .slice none 0 0, .int .i64 0] 49))
      obtain ⟨hnb, hnr⟩ := new_row wr 49 #[.string ⟨#[]⟩, .slice none 0 0, .slice none 0 0, .slice none 0 0, .slice none 0 0, .int .i64 0] #[.string n.name, .slice xi n.ins.length ci, .slice xo n.outs.length co, .slice xl n.locs.length cl, .slice xe n.eqs.length ce, .int .i64 (n.at_ : Int)]
      have HN1 := Lib.hid hnr
      have FN : Fx w [(w.heap.size, 32, #[.int .i64 0, .int .i64 0]), (wr.heap.size, 49, #[.string n.name, .slice xi n.ins.length ci, .slice xo n.outs.length co, .slice xl n.locs.length cl, .slice xe n.eqs.length ce, .int .i64 (n.at_ : Int)])] ((wr.alloc (.cells #[.string ⟨#[]⟩, .slice none 0 0, .slice none 0 0, .slice none 0 0, .slice none 0 0, .int .i64 0] 49)).setRow wr.heap.size #[.string n.name, .slice xi n.ins.length ci, .slice xo n.outs.length co, .slice xl n.locs.length cl, .slice xe n.eqs.length ce, .int .i64 (n.at_ : Int)]) := (HF.out.alloc wr.heap.size rfl 49 #[.string ⟨#[]⟩, .slice none 0 0, .slice none 0 0, .slice none 0 0, .slice none 0 0, .int .i64 0]).store 1 rfl #[.string n.name, .slice xi n.ins.length ci, .slice xo n.outs.length co, .slice xl n.locs.length cl, .slice xe n.eqs.length ce, .int .i64 (n.at_ : Int)]
      have ks := clkScopeOf_any n hon ((wr.alloc (.cells #[.string ⟨#[]⟩, .slice none 0 0, .slice none 0 0, .slice none 0 0, .slice none 0 0, .int .i64 0] 49)).setRow wr.heap.size #[.string n.name, .slice xi n.ins.length ci, .slice xo n.outs.length co, .slice xl n.locs.length cl, .slice xe n.eqs.length ce, .int .i64 (n.at_ : Int)]) ok xi xo xl xe ci co cl ce (NdIn.below FN.below ⟨t1, t2, t3, t4⟩)
      obtain ⟨G, hG⟩ : ∃ G, G = scopeC n := ⟨_, rfl⟩
      rw [← hG] at ks
      unfold ndV GivesSc at ks
      have HOE := Lib.hid (show okQs n.eqs = true by simp only [okNd, Bool.and_eq_true] at hon; exact hon.2.2.2.2.2)
      have HQ := Lib.hid hq
      have HG := Lib.hid hG
      have HTE := Lib.hid t4
      have HF1 := Lib.hid FN
      have i0 : (0 : Int) ≤ (i : Int) := by omega
      have i1 : (i : Int) < (l.length : Int) := by omega
      clear hil hon hrg hg t1 t2 t3 t4 hn hq hG hnb hnr FN HF
      go_wp2_with (first | (refine wpList_load_mid rfl 49 (.tmp 13) rfl g (i * 6) rfl (ndC n xi xo xl xe ci co cl ce) _ ?_ Try.underlying49 rfl HSN.out ?_; (exact HRG.out)) | (refine wpList_store_row rfl 49 (.tmp 4) (.tmp 14) rfl wr.heap.size #[.string n.name, .slice xi n.ins.length ci, .slice xo n.outs.length co, .slice xl n.locs.length cl, .slice xe n.eqs.length ce, .int .i64 (n.at_ : Int)] rfl rfl 49 #[.string ⟨#[]⟩, .slice none 0 0, .slice none 0 0, .slice none 0 0, .slice none 0 0, .int .i64 0] ?_ HSN.out rfl (n4_one _ _ _ _ _ _ _ _ _ _ _ _ _ _) ?_; (exact HAL.out)) | (refine wpList_load_row rfl 49 (.tmp 4) rfl wr.heap.size rfl 49 #[.string n.name, .slice xi n.ins.length ci, .slice xo n.outs.length co, .slice xl n.locs.length cl, .slice xe n.eqs.length ce, .int .i64 (n.at_ : Int)] (0, 0) _ ?_ Try.underlying49 rfl HSN.out ?_; (exact HN1.out)))
      (with_reducible refine ks.mono ?_)
      rintro e9 w1 ⟨b, m, rfl, hS, _, _, hb⟩
      have F2 := HF1.out.call hb
      have c4 := cell_of_row w1 (wr.heap.size) 4 _ _ _ (F2.get 1 rfl)
      have HF2 := Lib.hid F2
      have HS2 := Lib.hid hS
      clear F2 hb hS ks HRG HAL HN1 HF1 i0 i1
      go_wp2_with fail
      obtain ⟨w5, rfl⟩ : ∃ w5 : World, w5 = wr := ⟨_, rfl⟩
      go_loopw [20] (fun v20 wr => ∃ (j : Nat), v20 = .int .i64 (j : Int) ∧ j ≤ n.eqs.length ∧ Fx w [(w.heap.size, 32, #[.int .i64 0, .int .i64 0]), (w5.heap.size, 49, #[.string n.name, .slice xi n.ins.length ci, .slice xo n.outs.length co, .slice xl n.locs.length cl, .slice xe n.eqs.length ce, .int .i64 (n.at_ : Int)])] wr ∧ Scp wr b m G ∧ eqsC G n.eqs = eqsC G (n.eqs.drop j))
        (fun v20 _ => n.eqs.length - (intOf v20).toNat)
      case atStart => exact ⟨0, rfl, Nat.zero_le _, HF2.out, HS2.out, by rw [List.drop_zero]⟩
      case round =>
        clear c4 HF2 HS2
        obtain ⟨j, rfl, hj, hF, hS, hq⟩ := hrel
        have HF := Lib.hid hF
        have HS := Lib.hid hS
        have HJE := Lib.hid hj
        clear hF hj hS
        by_cases hjl : j < n.eqs.length
        · have d1 : decide ((j : Int) < (n.eqs.length : Int)) = true := by simp; omega
          have HJL := Lib.hid hjl
          rw [List.drop_eq_getElem_cons hjl] at hq
          obtain ⟨g1, rfl, hg1, x, c, hrg1, hkk⟩ := qe_at HTE.out j hjl
          have hoq := okQs_at HOE.out j hjl
          obtain ⟨q, hqq⟩ : ∃ q, q = n.eqs[j]'HJL.out := ⟨_, rfl⟩
          rw [← hqq] at hrg1 hq hoq hkk
          have HRQ := Lib.hid (rangeAt_below hrg1 HF.out.below hg1)
          have HAL := Lib.hid (heap_alloc_new wr (.cells #[.string ⟨#[]⟩, .string ⟨#[]⟩, .string ⟨#[]⟩, .int .i64 0, .int .i64 0, .slice none 0 0, .int .i64 0] 45))
          obtain ⟨hnb, hnr⟩ := new_row wr 45 #[.string ⟨#[]⟩, .string ⟨#[]⟩, .string ⟨#[]⟩, .int .i64 0, .int .i64 0, .slice none 0 0, .int .i64 0] #[.string q.name, .string q.e.op, .string q.e.name, .int .i64 q.e.n, .int .i64 (q.e.at_ : Int), .slice x q.e.kids.length c, .int .i64 (q.at_ : Int)]
          have HF1 := Lib.hid (HF.out.call hnb)
          have HN1 := Lib.hid hnr
          have HS1 := Lib.hid (Scp.below HS.out hnb)
          have ke := clkEquation_any G q hoq.2 hoq.1 ((wr.alloc (.cells #[.string ⟨#[]⟩, .string ⟨#[]⟩, .string ⟨#[]⟩, .int .i64 0, .int .i64 0, .slice none 0 0, .int .i64 0] 45)).setRow wr.heap.size #[.string q.name, .string q.e.op, .string q.e.name, .int .i64 q.e.n, .int .i64 (q.e.at_ : Int), .slice x q.e.kids.length c, .int .i64 (q.at_ : Int)]) b m ok x c HS1.out (IsD.below HF1.out.below hkk)
          unfold qeV at ke
          have i0 : (0 : Int) ≤ (j : Int) := by omega
          have i1 : (j : Int) < (n.eqs.length : Int) := by omega
          have HQ2 := Lib.hid hq
          clear hjl hqq hrg1 hg1 hnb hnr hoq hq hkk
          cases hke : eqC G q with
          | none =>
            have HQN := Lib.hid (HQ2.out.trans (eqsC_skip hke))
            rw [hke] at ke
            have ke2 : Calls Try.prog 56 #[.map (some b), .agg #[.string q.name, .string q.e.op, .string q.e.name, .int .i64 q.e.n, .int .i64 (q.e.at_ : Int), .slice x q.e.kids.length c, .int .i64 (q.at_ : Int)]] ((wr.alloc (.cells #[.string ⟨#[]⟩, .string ⟨#[]⟩, .string ⟨#[]⟩, .int .i64 0, .int .i64 0, .slice none 0 0, .int .i64 0] 45)).setRow wr.heap.size #[.string q.name, .string q.e.op, .string q.e.name, .int .i64 q.e.n, .int .i64 (q.e.at_ : Int), .slice x q.e.kids.length c, .int .i64 (q.at_ : Int)]) (fun e w' => e = .returned (.agg #[.int .i64 0, .int .i64 0]) ∧ Below ((wr.alloc (.cells #[.string ⟨#[]⟩, .string ⟨#[]⟩, .string ⟨#[]⟩, .int .i64 0, .int .i64 0, .slice none 0 0, .int .i64 0] 45)).setRow wr.heap.size #[.string q.name, .string q.e.op, .string q.e.name, .int .i64 q.e.n, .int .i64 (q.e.at_ : Int), .slice x q.e.kids.length c, .int .i64 (q.at_ : Int)]).heap.size ((wr.alloc (.cells #[.string ⟨#[]⟩, .string ⟨#[]⟩, .string ⟨#[]⟩, .int .i64 0, .int .i64 0, .slice none 0 0, .int .i64 0] 45)).setRow wr.heap.size #[.string q.name, .string q.e.op, .string q.e.name, .int .i64 q.e.n, .int .i64 (q.e.at_ : Int), .slice x q.e.kids.length c, .int .i64 (q.at_ : Int)]) w') := ke
            clear ke hke HQ2
            go_wp2_with (first | (refine wpList_load_mid rfl 45 (.tmp 22) rfl g1 (j * 7) rfl (qeC q.name q.e x c (q.at_ : Int)) _ ?_ Try.underlying45 rfl HSQ.out ?_; (exact HRQ.out)) | (refine wpList_store_row rfl 45 (.tmp 7) (.tmp 23) rfl wr.heap.size #[.string q.name, .string q.e.op, .string q.e.name, .int .i64 q.e.n, .int .i64 (q.e.at_ : Int), .slice x q.e.kids.length c, .int .i64 (q.at_ : Int)] rfl rfl 45 #[.string ⟨#[]⟩, .string ⟨#[]⟩, .string ⟨#[]⟩, .int .i64 0, .int .i64 0, .slice none 0 0, .int .i64 0] ?_ HSQ.out rfl (qS_one _ _ _ _ _ _ _ _ _) ?_; (exact HAL.out)) | (refine wpList_load_row rfl 45 (.tmp 7) rfl wr.heap.size rfl 45 #[.string q.name, .string q.e.op, .string q.e.name, .int .i64 q.e.n, .int .i64 (q.e.at_ : Int), .slice x q.e.kids.length c, .int .i64 (q.at_ : Int)] (0, 0) _ ?_ Try.underlying45 rfl HSQ.out ?_; (exact HN1.out)))
            (with_reducible refine ke2.mono ?_)
            rintro e9 w2 ⟨rfl, hb⟩
            have HF2 := Lib.hid (HF1.out.call hb)
            have HS2 := Lib.hid (Scp.below HS1.out hb)
            have HAF := Lib.hid (heap_alloc_new w2 (.cells #[.int .i64 0, .int .i64 0] 32))
            obtain ⟨hnb, hnr⟩ := new_row w2 32 #[.int .i64 0, .int .i64 0] #[.int .i64 0, .int .i64 0]
            have c0 := cell_of_row _ w2.heap.size 0 _ _ _ hnr
            have HF3 := Lib.hid (HF2.out.call hnb)
            have HS3 := Lib.hid (Scp.below HS2.out hnb)
            clear ke2 hb hnb hnr
            go_wp2_with (refine wpList_store_row rfl 32 (.tmp 8) (.tmp 26) rfl w2.heap.size #[.int .i64 0, .int .i64 0] rfl rfl 32 #[.int .i64 0, .int .i64 0] ?_ HSF.out rfl (fault_one _ _) ?_; (exact HAF.out))
            refine ⟨⟨j + 1, wrap_succ (by have := HJL.out; have := IsD.few HTE.out; omega), HJL.out, HF3.out, HS3.out, HQN.out⟩, ?_⟩
            rw [wrap_succ (by have := HJL.out; have := IsD.few HTE.out; omega)]
            simp [intOf]; omega
          | some a =>
            have HR : Hid (R = some a) := Lib.hid (by rw [HRR.out, HQ.out, clkF_hit (by rw [← HG.out, HQ2.out, eqsC_hit hke])])
            rw [hke] at ke
            have ke2 : Calls Try.prog 56 #[.map (some b), .agg #[.string q.name, .string q.e.op, .string q.e.name, .int .i64 q.e.n, .int .i64 (q.e.at_ : Int), .slice x q.e.kids.length c, .int .i64 (q.at_ : Int)]] ((wr.alloc (.cells #[.string ⟨#[]⟩, .string ⟨#[]⟩, .string ⟨#[]⟩, .int .i64 0, .int .i64 0, .slice none 0 0, .int .i64 0] 45)).setRow wr.heap.size #[.string q.name, .string q.e.op, .string q.e.name, .int .i64 q.e.n, .int .i64 (q.e.at_ : Int), .slice x q.e.kids.length c, .int .i64 (q.at_ : Int)]) (fun e w' => e = .returned (.agg #[.int .i64 10, .int .i64 (a : Int)]) ∧ Below ((wr.alloc (.cells #[.string ⟨#[]⟩, .string ⟨#[]⟩, .string ⟨#[]⟩, .int .i64 0, .int .i64 0, .slice none 0 0, .int .i64 0] 45)).setRow wr.heap.size #[.string q.name, .string q.e.op, .string q.e.name, .int .i64 q.e.n, .int .i64 (q.e.at_ : Int), .slice x q.e.kids.length c, .int .i64 (q.at_ : Int)]).heap.size ((wr.alloc (.cells #[.string ⟨#[]⟩, .string ⟨#[]⟩, .string ⟨#[]⟩, .int .i64 0, .int .i64 0, .slice none 0 0, .int .i64 0] 45)).setRow wr.heap.size #[.string q.name, .string q.e.op, .string q.e.name, .int .i64 q.e.n, .int .i64 (q.e.at_ : Int), .slice x q.e.kids.length c, .int .i64 (q.at_ : Int)]) w') := ke
            clear ke hke HQ2 HQ HRR
            go_wp2_with (first | (refine wpList_load_mid rfl 45 (.tmp 22) rfl g1 (j * 7) rfl (qeC q.name q.e x c (q.at_ : Int)) _ ?_ Try.underlying45 rfl HSQ.out ?_; (exact HRQ.out)) | (refine wpList_store_row rfl 45 (.tmp 7) (.tmp 23) rfl wr.heap.size #[.string q.name, .string q.e.op, .string q.e.name, .int .i64 q.e.n, .int .i64 (q.e.at_ : Int), .slice x q.e.kids.length c, .int .i64 (q.at_ : Int)] rfl rfl 45 #[.string ⟨#[]⟩, .string ⟨#[]⟩, .string ⟨#[]⟩, .int .i64 0, .int .i64 0, .slice none 0 0, .int .i64 0] ?_ HSQ.out rfl (qS_one _ _ _ _ _ _ _ _ _) ?_; (exact HAL.out)) | (refine wpList_load_row rfl 45 (.tmp 7) rfl wr.heap.size rfl 45 #[.string q.name, .string q.e.op, .string q.e.name, .int .i64 q.e.n, .int .i64 (q.e.at_ : Int), .slice x q.e.kids.length c, .int .i64 (q.at_ : Int)] (0, 0) _ ?_ Try.underlying45 rfl HSQ.out ?_; (exact HN1.out)))
            (with_reducible refine ke2.mono ?_)
            rintro e9 w2 ⟨rfl, hb⟩
            have HF2 := Lib.hid (HF1.out.call hb)
            have HAF := Lib.hid (heap_alloc_new w2 (.cells #[.int .i64 0, .int .i64 0] 32))
            obtain ⟨hnb, hnr⟩ := new_row w2 32 #[.int .i64 0, .int .i64 0] #[.int .i64 10, .int .i64 (a : Int)]
            have c0 := cell_of_row _ w2.heap.size 0 _ _ _ hnr
            have HF3 := Lib.hid (HF2.out.call hnb)
            have HN3 := Lib.hid hnr
            have HL2 := Lib.hid (HF3.out.get 0 rfl)
            clear ke2 hb hnb hnr
            go_wp2_with (first | (refine wpList_store_row rfl 32 (.tmp 8) (.tmp 26) rfl w2.heap.size #[.int .i64 10, .int .i64 (a : Int)] rfl rfl 32 #[.int .i64 0, .int .i64 0] ?_ HSF.out rfl (fault_one _ _) ?_; (exact HAF.out)) | (refine wpList_load_row rfl 32 (.tmp 8) rfl w2.heap.size rfl 32 #[.int .i64 10, .int .i64 (a : Int)] (0, 0) _ ?_ Try.underlying32 rfl HSF.out ?_; (exact HN3.out)) | (refine wpList_store_row rfl 32 (.tmp 2) (.tmp 30) rfl w.heap.size #[.int .i64 10, .int .i64 (a : Int)] rfl rfl 32 #[.int .i64 0, .int .i64 0] ?_ HSF.out rfl (fault_one _ _) ?_; (exact HL2.out)))
            refine bodyPost_ret (v := .agg #[.int .i64 10, .int .i64 (a : Int)]) (results_cell_row (p := 2) (ty := 32) rfl _ _ w.heap.size 32 _ (0, 0) _ rfl (setRow_heap _ w.heap.size _ _ _ _ HL2.out) Try.underlying32 rfl HSF.out) rfl ?_
            rw [HR.out]
            exact ⟨rfl, below_setRow HF3.out.below (by omega) _⟩
        · have d1 : decide ((j : Int) < (n.eqs.length : Int)) = false := by simp; omega
          have hnil : n.eqs.drop j = [] := List.drop_of_length_le (by omega)
          have HQN := Lib.hid (show clkF l = clkF (l.drop (i + 1)) by rw [HQ.out, clkF_skip (by rw [← HG.out, hq, hnil]; rfl)])
          obtain rfl : j = n.eqs.length := by have := HJE.out; omega
          have HFE : Hid (Fx w [(w.heap.size, 32, #[.int .i64 0, .int .i64 0])] wr) := Lib.hid (Fx.first (bl := [_]) (cl := [_]) HF.out)
          clear hjl hnil hq
          go_wp2_with fail
          refine ⟨⟨i + 1, wrap_succ (by have := HIL.out; have := IsD.few HK.out; omega), HIL.out, HFE.out, HQN.out⟩, ?_⟩
          rw [wrap_succ (by have := HIL.out; have := IsD.few HK.out; omega)]
          have := HIL.out
          simp [intOf]; omega
    · have d1 : decide ((i : Int) < (l.length : Int)) = false := by simp; omega
      obtain rfl : i = l.length := by have := HI.out; omega
      have HR : Hid (R = none) := Lib.hid (by rw [HRR.out, hq, List.drop_length]; rfl)
      have HL2 := Lib.hid (HF.out.get 0 rfl)
      clear hil hq
      go_wp2_with (refine wpList_store_row rfl 32 (.tmp 2) (.tmp 33) rfl w.heap.size #[.int .i64 0, .int .i64 0] rfl rfl 32 #[.int .i64 0, .int .i64 0] ?_ HSF.out rfl (fault_one _ _) ?_; (exact HL2.out))
      refine bodyPost_ret (v := .agg #[.int .i64 0, .int .i64 0]) (results_cell_row (p := 2) (ty := 32) rfl _ _ w.heap.size 32 _ (0, 0) _ rfl (setRow_heap _ w.heap.size _ _ _ _ HL2.out) Try.underlying32 rfl HSF.out) rfl ?_
      rw [HR.out]
      exact ⟨rfl, below_setRow HF.out.below (by omega) _⟩
end Go.Proofs.Ytfajafjikpmgpaa

namespace Go.Proofs.Ytfajafjikpmgpaa
open Go Go.RowKit
set_option maxHeartbeats 4000000 in
set_option maxRecDepth 100000 in
theorem fault8_any (t : ByteArray) (w : World) (hs : t.size ≤ 140737488351232) (hall : ∀ (i : Nat) (h : i < (treeOf t).length), okNd (treeOf t)[i] = true) : Calls Try.prog 23 #[.string t] w (GivesO 10 (clkF (treeOf t)) w) := by
  have HSB := Lib.hid size_bad
  have kp := fun (W : World) => parse_at t W hs
  have F0 := (Fx.start w).alloc w.heap.size rfl 30 #[.int .i64 0, .int .i64 0]
  obtain ⟨L, hL⟩ : ∃ L, L = treeOf t := ⟨_, rfl⟩
  obtain ⟨q1, hq1⟩ : ∃ q, q = perOf t := ⟨_, rfl⟩
  obtain ⟨q2, hq2⟩ : ∃ q, q = patOf t := ⟨_, rfl⟩
  rw [← hL] at hall ⊢
  rw [← hL, ← hq1, ← hq2] at kp
  have HF0 := Lib.hid F0
  have HALL := Lib.hid hall
  have kp1 := kp (w.alloc (.cells #[.int .i64 0, .int .i64 0] 30))
  clear hL hq1 hq2 hs hall F0 kp
  go_enter Try.func23, Try.ntmps23
  go_wp2_with fail
  (with_reducible refine kp1.mono ?_)
  rintro e9 w1 ⟨x, c, rfl, hI, hb⟩
  have F1 := (HF0.out.call hb).alloc w1.heap.size rfl 30 #[.int .i64 0, .int .i64 0]
  have F2 := F1.store 1 rfl #[.int .i64 (q1 : Int), .int .i64 (q2 : Int)]
  have HN1 := Lib.hid (F1.get 1 rfl)
  have hI2 := IsD.below (new_row w1 30 #[.int .i64 0, .int .i64 0] #[.int .i64 (q1 : Int), .int .i64 (q2 : Int)]).1 hI
  obtain ⟨W2, hW2⟩ : ∃ W2, W2 = ((w1.alloc (.cells #[.int .i64 0, .int .i64 0] 30)).setRow w1.heap.size #[.int .i64 (q1 : Int), .int .i64 (q2 : Int)]) := ⟨_, rfl⟩
  rw [← hW2] at F2 hI2
  have kb := Back_any L W2 (by have := F2.below.size; have := F2.lt_ 0 rfl; omega) _ x c hI2
  rw [hW2] at kb
  have HF2 := Lib.hid F2
  have HI2 := Lib.hid hI2
  have HW2 := Lib.hid hW2
  clear F1 F2 hI hI2 hb kp1 hW2
  go_wp2_with (refine wpList_store_row rfl 30 (.tmp 4) (.tmp 9) rfl w1.heap.size #[.int .i64 (q1 : Int), .int .i64 (q2 : Int)] rfl rfl 30 _ HN1.out HSB.out rfl (fault_one _ _) ?_)
  (with_reducible refine kb.mono ?_)
  rw [← HW2.out]
  rintro e9 w3 ⟨x3, c3, rfl, hI3, hb⟩
  have HF3 := Lib.hid (HF2.out.call hb)
  have kc : Calls Try.prog 24 #[.slice x3 L.length c3] w3 (GivesO 10 (clkF L) w3) := clkCheck_any L HALL.out w3 _ x3 c3 hI3
  unfold GivesO at kc
  obtain ⟨er, her⟩ : ∃ er, er = ferO 10 (clkF L) := ⟨_, rfl⟩
  obtain ⟨ea, hea⟩ : ∃ ea, ea = fatO (clkF L) := ⟨_, rfl⟩
  rw [← her, ← hea] at kc
  have HER := Lib.hid her
  have HEA := Lib.hid hea
  clear hb hI3 kb her hea
  go_wp2_with fail
  (with_reducible refine kc.mono ?_)
  rintro e9 w4 ⟨rfl, hb⟩
  have HF4 := Lib.hid (HF3.out.call hb)
  have kd := Bad_any er ea w4
  clear hb kc
  go_wp2_with fail
  (with_reducible refine kd.mono ?_)
  rintro e9 w5 ⟨rfl, hb⟩
  have HF5 := Lib.hid (HF4.out.call hb)
  have HL5 := Lib.hid (HF5.out.get 0 rfl)
  clear hb kd
  go_wp2_with (refine wpList_store_row rfl 30 (.tmp 2) (.tmp 13) rfl w.heap.size #[.int .i64 er, .int .i64 ea] rfl rfl 30 _ HL5.out HSB.out rfl (fault_one _ _) ?_)
  refine bodyPost_ret (v := .agg #[.int .i64 er, .int .i64 ea]) (results_cell_row (p := 2) (ty := 30) rfl _ _ w.heap.size 30 _ (0, 0) _ rfl (setRow_heap _ w.heap.size _ _ _ _ HL5.out) Try.underlying30 rfl HSB.out) rfl ?_
  exact ⟨by rw [HER.out, HEA.out], below_setRow HF5.out.below (Nat.le_refl _) _⟩
end Go.Proofs.Ytfajafjikpmgpaa

namespace Go.Proofs
open Go.Shelf
def Try.laysSlE035_f85_ren : Go.Shelf.Ren := ⟨fun | 35 => 85 | n => n, fun | 22 => 60 | 23 => 75 | 3 => 3 | 4 => 4 | 0 => 0 | n => n, fun | n => n⟩
theorem Try.laysSlE035_f85 : Go.Proofs.SlLaysE0.n35 Try.prog Try.laysSlE035_f85_ren := {
  mixed := by kernel_rfl
  f35 := ⟨Try.f85.name, by decide, Try.func85.trans (congrArg some (by kernel_rfl))⟩
  t0 := Try.underlying0
  a0 := Try.isAgg0
  z0 := Try.sizeOf0
  v0 := Try.zeroValue0
  t3 := Try.underlying3
  a3 := Try.isAgg3
  z3 := Try.sizeOf3
  v3 := Try.zeroValue3
  t4 := Try.underlying4
  a4 := Try.isAgg4
  z4 := Try.sizeOf4
  v4 := Try.zeroValue4
  t22 := Try.underlying60
  a22 := Try.isAgg60
  z22 := Try.sizeOf60
  v22 := Try.zeroValue60 }
open Go.RowKit Go.Lib Go.Sort in
theorem Try.slices_Reverse {α : Type} [Inhabited α] (k : Nat) (aE : ∀ w, (isAgg (Try.laysSlE035_f85_ren.t 23)).run Try.prog w = .ok true w) (zE : ∀ w, (Go.sizeOf (Try.laysSlE035_f85_ren.t 23)).run Try.prog w = .ok k w) (enc : α → List Value) (hk : ∀ x, (enc x).length = k) (h1 : ∀ x, ∀ v ∈ enc x, v.oneCell' = true) (blk off cap : Nat) (d : Array α) (w : World) (hH : HoldsK enc k w blk off d) (hsz : d.size ≤ 9223372036854775807) :
    Calls Try.prog 85 #[.slice (some ⟨blk, off, none⟩) d.size cap] w fun e w' => e = .returned (.tuple #[]) ∧ ∃ n, w' = putRowK enc k (Sort.ahead w n) blk off d.reverse := AnyQ.slices_Reverse Try.laysSlE035_f85 k aE zE enc hk h1 blk off cap d w hH hsz
open Go.RowKit Go.Lib Go.Sort in
theorem Try.slices_Reverse_empty {α : Type} [Inhabited α] (a : Option Addr) (cap : Nat) (w : World) :
    Calls Try.prog 85 #[.slice a 0 cap] w fun e w' => e = .returned (.tuple #[]) ∧ w' = w := AnyQ.slices_Reverse_empty Try.laysSlE035_f85 a cap w
end Go.Proofs

namespace Go.Proofs.Ytfajafjikpmgpaa
open Go Go.RowKit Go.Lib Go.Sort
instance : Inhabited Stp := ⟨stpZ⟩
theorem rowsD_v {ok : Nat → Prop} {w : World} : ∀ (xs vs : List Value), RowsD ok w xs (vs.map Dt.v) → xs = vs
  | [], [], _ => rfl
  | [], _ :: _, h => by exact absurd h (by simp [RowsD])
  | _ :: _, [], h => by exact absurd h (by simp [RowsD])
  | x :: xs, v :: vs, h => by
    obtain ⟨h1, h2⟩ := h
    unfold IsD at h1
    rw [h1, rowsD_v xs vs h2]
theorem rowsD_of {ok : Nat → Prop} {w : World} : ∀ (vs : List Value), RowsD ok w vs (vs.map Dt.v)
  | [] => trivial
  | v :: vs => ⟨by unfold IsD; rfl, rowsD_of vs⟩
theorem stsD_v (l : List Stp) : stsD l = (l.flatMap stC).map Dt.v := by
  induction l with
  | nil => rfl
  | cons a r ih =>
    unfold stsD at ih ⊢
    rw [List.flatMap_cons, List.flatMap_cons, List.map_append, ih]
    rfl
theorem flat_get (l : List Stp) : ∀ t, t < l.length * 2 → (l.flatMap stC)[t]? = some ((stC (l[t / 2]!))[t % 2]!) := by
  induction l with
  | nil => intro t h; simp at h
  | cons a r ih =>
    intro t h
    rw [List.flatMap_cons]
    rcases t with _ | _ | u
    · rfl
    · rfl
    · have e : (stC a ++ r.flatMap stC)[u + 1 + 1]? = (r.flatMap stC)[u]? := by rw [List.getElem?_append_right (by simp [stC])]; simp [stC]
      rw [e, ih u (by simp at h; omega)]
      have e1 : (u + 1 + 1) / 2 = u / 2 + 1 := by omega
      have e2 : (u + 1 + 1) % 2 = u % 2 := by omega
      rw [e1, e2]
      rfl
theorem flatMap_st_len (l : List Stp) : (l.flatMap stC).length = l.length * 2 := by
  induction l with
  | nil => rfl
  | cons a r ih => rw [List.flatMap_cons, List.length_append, ih]; simp [stC]; omega
theorem flatK_st (l : List Stp) : (flatK stC 2 l.toArray).toList = l.flatMap stC := by
  apply List.ext_getElem?
  intro t
  by_cases h : t < l.length * 2
  · rw [flat_get l t h]
    simp [flatK, h]
  · rw [List.getElem?_eq_none (by simp [flatK]; omega), List.getElem?_eq_none (by rw [flatMap_st_len]; omega)]
theorem stC_one (x : Stp) : ∀ v ∈ stC x, v.oneCell' = true := by simp [stC, Value.oneCell']
theorem agg_stp (w : World) : (isAgg 75).run Try.prog w = .ok true w := by kernel_rfl
theorem sizeOf_stp (w : World) : (Go.sizeOf 75).run Try.prog w = .ok 2 w := by kernel_rfl
theorem Reverse_any (l : List Stp) (w : World) (B : Nat) (v : Value) (h : OwnD 75 2 w B v l.length (stsD l)) (hf : l.length ≤ 1000000000) : Calls Try.prog 85 #[v] w (fun e w' => e = .returned (.tuple #[]) ∧ OwnD 75 2 w' B v l.length (stsD l.reverse) ∧ w.grownBy w' v.ownBlock) := by
  obtain ⟨xs, ⟨hl, hv⟩, hr⟩ := h
  rw [stsD_v] at hr
  obtain rfl := rowsD_v _ _ hr
  rcases hv with ⟨rfl, h0⟩ | ⟨g, cap, cur, rfl, hg, hb, hc, hm, hs, ht⟩
  · obtain rfl := List.length_eq_zero_iff.1 h0
    refine (Try.slices_Reverse_empty (α := Stp) none 0 w).mono ?_
    rintro e w' ⟨rfl, rfl⟩
    exact ⟨rfl, OwnD.nil _ _ _ _, ⟨rfl, rfl, rfl, Nat.le_refl _, fun _ _ _ => rfl⟩⟩
  · have hcell : ∀ j, j < l.length * 2 → cur[j]? = some ((flatK stC 2 l.toArray)[j]!) := fun j hj => by
      have e1 : cur.toList[j]? = (l.flatMap stC)[j]? := by
        rw [← ht, List.getElem?_take, if_pos hj]
      rw [← Array.getElem?_toList, e1, flat_get l j hj]
      rw [get_flatK _ _ _ _ (by simpa using hj)]
      simp
    have hH : HoldsK stC 2 w g 0 l.toArray := fun j hj => by
      have hj' : j < l.length * 2 := by simpa using hj
      refine ⟨?_, ?_⟩
      · rw [Nat.zero_add, cell_of_row w g j cur _ _ hb, hcell j hj']
        rfl
      · exact frozen_of_row w g _ cur _ hb
    refine (Try.slices_Reverse 2 agg_stp sizeOf_stp stC (fun _ => rfl) stC_one g 0 cap l.toArray w hH (by simp; omega)).mono ?_
    rintro e w' ⟨rfl, n, rfl⟩
    have hsz : (flatK stC 2 l.toArray.reverse).size = l.length * 2 := by simp
    have hlt : g < w.heap.size := (Array.getElem?_eq_some_iff.1 hb).1
    have hb' : (putRowK stC 2 (Sort.ahead w n) g 0 l.toArray.reverse).heap[g]? = some (.cells (Sort.putCells id 0 (flatK stC 2 l.toArray.reverse) cur) 75 (0, 0)) := by
      unfold putRowK Sort.putRow Sort.mapBlock
      simp only [Sort.heap_ahead, Array.getElem?_modify, if_true, hb, Option.map_some]
      rfl
    refine ⟨rfl, ⟨l.reverse.flatMap stC, ⟨by rw [flatMap_st_len, List.length_reverse], .inr ⟨g, cap, _, rfl, hg, hb', hc, hm, by unfold Sort.putCells; rw [Array.size_mapIdx, hs], ?_⟩⟩, by rw [stsD_v]; exact rowsD_of _⟩, ⟨rfl, rfl, rfl, ?_, ?_⟩⟩
    · have e2 : l.reverse.flatMap stC = (flatK stC 2 l.toArray.reverse).toList := by rw [List.reverse_toArray, flatK_st]
      rw [e2]
      apply List.ext_getElem?
      intro j
      rw [List.getElem?_take]
      by_cases hj : j < l.length * 2
      · rw [if_pos hj]
        simp only [Sort.putCells, Array.getElem?_toList, Array.getElem?_mapIdx, hcell j hj, Option.map_some, Nat.zero_le, true_and, Nat.zero_add, hsz, hj, if_true, Nat.sub_zero, id]
        rw [getElem!_pos _ j (by rw [hsz]; exact hj), Array.getElem?_eq_getElem (by rw [hsz]; exact hj)]
      · rw [if_neg hj, Array.getElem?_toList, Array.getElem?_eq_none (by rw [hsz]; omega)]
    · show w.heap.size ≤ (Sort.putRow id (Sort.ahead w n) g 0 _).heap.size
      simp
    · intro k hk hne
      have hkg : k ≠ g := fun e => hne (by rw [e]; rfl)
      show (Sort.putRow id (Sort.ahead w n) g 0 _).heap[k]? = _
      unfold Sort.putRow Sort.mapBlock
      simp [Array.getElem?_modify, Ne.symm hkg]
end Go.Proofs.Ytfajafjikpmgpaa

namespace Go.Proofs.Ytfajafjikpmgpaa
open Go Go.RowKit
theorem info_st : ∃ i, Try.prog.info? 75 = some i ∧ (∃ z, i.zero = some z ∧ z.cells.size = 2) ∧ i.size = 2 ∧ i.bytes = 24 := by
  have h : (Try.prog.info? 75).map (fun i => (i.zero.map (·.cells.size), i.size, i.bytes)) = some (some 2, 2, 24) := by kernel_rfl
  cases hi : Try.prog.info? 75 with
  | none => rw [hi] at h; simp at h
  | some i =>
    rw [hi] at h
    simp only [Option.map_some, Option.some.injEq, Prod.mk.injEq] at h
    obtain ⟨h1, h2, h3⟩ := h
    cases hz : i.zero with
    | none => rw [hz] at h1; simp at h1
    | some z => rw [hz] at h1; exact ⟨i, rfl, ⟨z, hz, by simpa using h1⟩, h2, h3⟩
theorem stsD_app (l r : List Stp) : stsD (l ++ r) = stsD l ++ stsD r := by unfold stsD; rw [List.flatMap_append]
theorem stsD_one (k : Stp) : ∀ d ∈ stsD [k], d.one := by
  intro d hd
  simp only [stsD, stD, List.flatMap_cons, List.flatMap_nil, List.append_nil, List.mem_cons, List.not_mem_nil, or_false] at hd
  rcases hd with rfl | rfl <;> exact rfl
theorem grown_setRow (w : World) (g : Nat) (cs : Array Value) : w.grownBy (w.setRow g cs) (some g) :=
  ⟨rfl, rfl, rfl, by rw [setRow_size]; exact Nat.le_refl _, fun k _ hk => setRow_other w g k _ (fun e => hk (by rw [e]))⟩
def lenV : Value → Nat
  | .slice _ n _ => n
  | _ => 0
def GivesRw (l : List Stp) (w : World) (e : Ending) (w' : World) : Prop := ∃ x c, e = .returned (.slice x l.length c) ∧ IsD (w.heap.size ≤ ·) w' (.slice x l.length c) (.sl l.length (stsD l)) ∧ Below w.heap.size w w'
set_option maxHeartbeats 4000000 in
set_option maxRecDepth 100000 in
theorem row_any (g : ClkG) (t : Stp) (ch : List Stp) (hch : Chn g t ch) (hlen : ch.length ≤ 10000000) (hnm : ∀ s ∈ ch, s.name.size ≤ maxLen) (w : World) (b m : Nat) (hS : Scp w b m g) : Calls Try.prog 59 #[.map (some b), .agg #[.string t.name, .bool t.not_]] w (GivesRw ch.reverse w) := by
  have HS := Lib.hid hS
  have HST := Lib.hid size_st
  have HIS := Lib.hid info_st
  have HLEN := Lib.hid hlen
  have HNM := Lib.hid hnm
  have F0 := (Fx.start w).alloc w.heap.size rfl 75 #[.string t.name, .bool t.not_]
  have HF0 : Hid (Fx w [(w.heap.size, 75, #[.string t.name, .bool t.not_])] _) := Lib.hid F0
  have HCH := Lib.hid hch
  clear hS hlen hnm F0 hch
  go_enter Try.func59, Try.ntmps59
  go_wp2_with fail
  go_loopw [5] (fun v5 wr => ∃ (V : Value) (t' : Stp) (done rest : List Stp), V = v5 ∧ ch = done ++ rest ∧ Chn g t' rest ∧ Fx w [(w.heap.size, 75, #[.string t'.name, .bool t'.not_])] wr ∧ OwnD 75 2 wr w.heap.size V done.length (stsD done))
    (fun v5 _ => ch.length - lenV v5)
  case atStart => exact ⟨_, t, [], ch, rfl, rfl, HCH.out, HF0.out, OwnD.nil _ _ _ _⟩
  case round =>
    clear HF0 HCH
    obtain ⟨V, t', done, rest, rfl, hcr, hch, hF, hO⟩ := hrel
    obtain ⟨xv, cv, rfl, _, _⟩ := hO.slice
    have HF := Lib.hid hF
    have HO := Lib.hid hO
    have HCR := Lib.hid hcr
    have c0 := cell_of_row wr w.heap.size 0 _ _ _ (hF.get 0 rfl)
    clear hF hO hcr
    cases hch with
    | nil _ hz =>
      have hne : t'.name = (⟨#[]⟩ : ByteArray) := bytes_eq hz
      have HCR2 := Lib.hid (show ch = done by rw [HCR.out, List.append_nil])
      have kr := Reverse_any done wr w.heap.size _ HO.out (by have h1 := HLEN.out; rw [HCR2.out] at h1; omega)
      rw [hne] at c0
      clear hne hz
      go_wp2_with fail
      (with_reducible refine kr.mono ?_)
      rintro e9 w' ⟨rfl, hO', hg'⟩
      have HO6 := Lib.hid hO'
      have HB6 := Lib.hid (below_own HF.out.below hg' (fun j hj => by have := (HO.out.gt j hj).1; omega))
      clear kr hO' hg' c0
      go_wp2_with fail
      go_ret
      have hl : done.length = ch.reverse.length := by rw [List.length_reverse, HCR2.out]
      refine ⟨xv, cv, by rw [hl]; rfl, ?_, HB6.out⟩
      have hE := (HO6.out.ends (by have h1 := HLEN.out; rw [HCR2.out] at h1; omega)).mono (ok' := (w.heap.size ≤ ·)) (fun k hk _ => by omega)
      rw [hl, ← HCR2.out] at hE
      exact hE
    | cons _ hz r hr =>
      have e1 : ¬ t'.name.toList = [] := by rw [Lib.toList_data]; exact hz
      have e2 : (!t'.name.toList.isEmpty) = true := by simpa using e1
      have bs : ∀ W : World, (Instr.buildSlice 60 1 #[(0, .agg #[.string t'.name, .bool t'.not_])]).run Try.prog W = .ok (.slice (some ⟨W.heap.size, 0, none⟩) 1 1) (W.alloc (.cells #[.string t'.name, .bool t'.not_] 75)) := fun W => by kernel_rfl
      have HL0 := Lib.hid (HF.out.get 0 rfl)
      have hmk : Below wr.heap.size wr (wr.alloc (.cells #[.string t'.name, .bool t'.not_] 75)) := (Below.refl _ _).alloc (Nat.le_refl _) _
      have HF4 := Lib.hid (HF.out.call hmk)
      have HO4 := Lib.hid (HO.out.below hmk)
      have HD4 : Hid (IsD (wr.heap.size ≤ ·) (wr.alloc (.cells #[.string t'.name, .bool t'.not_] 75)) (.slice (some ⟨wr.heap.size, 0, none⟩) 1 1) (.sl 1 (stsD [t']))) := Lib.hid (IsD.made 75 _ wr.heap.size rfl 1 (by decide) (by decide) (stsD [t']) (Nat.le_refl _) ⟨by unfold IsD; rfl, by unfold IsD; rfl, trivial⟩)
      have HBW := Lib.hid (show w.heap.size + 1 ≤ (wr.alloc (.cells #[.string t'.name, .bool t'.not_] 75)).heap.size from HF4.out.lt_ 0 rfl)
      have HDL := Lib.hid (show done.length + 1 ≤ ch.length by rw [HCR.out]; simp)
      have HNI := Lib.hid (show done.length + 1 ≤ 100000000000 by have := HLEN.out; have := HDL.out; omega)
      have HOK := Lib.hid (show ∀ j, wr.heap.size ≤ j → j < (wr.alloc (.cells #[.string t'.name, .bool t'.not_] 75)).heap.size → w.heap.size < j ∧ some j ≠ (Value.slice xv done.length cv).ownBlock from fun j hj _ => ⟨by have := HF.out.lt_ 0 rfl; omega, fun e' => by have := (HO.out.gt j e'.symm).2; omega⟩)
      have hnt := HNM.out t' (by rw [HCR.out]; simp)
      have HR := Lib.hid hr
      have HNT := Lib.hid hnt
      clear hz hmk hr hnt
      go_wp2_with (first | (refine wpList_load_row rfl 75 (.tmp 3) rfl w.heap.size rfl 75 #[.string t'.name, .bool t'.not_] (0, 0) _ ?_ Try.underlying75 rfl HST.out ?_; (exact HL0.out)) | (at_builtin; refine wpList_appY rfl (.tmp 9) (.tmp 11) 60 rfl 24 Try.underlying60 HIS.out (by decide) (by decide) rfl HO4.out HBW.out (stsD [t']) rfl HD4.out rfl (by decide) (stsD_one _) HOK.out HNI.out ?_))
      intro v' w' hO' hg' _
      have hO5 : OwnD 75 2 w' w.heap.size v' (done ++ [t']).length (stsD (done ++ [t'])) := by
        rw [stsD_app, List.length_append]; exact hO'
      have HF5 := Lib.hid (HF4.out.own hg' (fun j hj => ⟨by have := (HO4.out.gt j hj).1; omega, fun x hx => by
        have := (HO4.out.gt j hj).1
        simp only [List.mem_cons, List.not_mem_nil, or_false] at hx
        subst hx
        show j ≠ w.heap.size; omega⟩))
      have HO5 := Lib.hid hO5
      have c5 := cell_of_row w' w.heap.size 0 _ _ _ (HF5.out.get 0 rfl)
      have hl := Scp.look (Scp.below HS.out HF5.out.below) t'.name HNT.out
      have HL5 := Lib.hid (HF5.out.get 0 rfl)
      obtain ⟨nx, hnx⟩ : ∃ nx, nx = stOf g t'.name := ⟨_, rfl⟩
      rw [← hnx] at hl
      have HNX := Lib.hid hnx
      obtain ⟨xv', cv', rfl, _, _⟩ := hO5.slice
      clear hO' hg' bs hO5 c0 hnx e1 e2
      go_wp2_with (refine wpList_store_row rfl 75 (.tmp 3) (.tmp 16) rfl w.heap.size #[.string nx.name, .bool nx.not_] rfl rfl 75 #[.string t'.name, .bool t'.not_] ?_ HST.out rfl (st_one _ _) ?_; (exact HL5.out))
      have HF6 := HF5.out.store 0 rfl #[.string nx.name, .bool nx.not_]
      refine ⟨⟨_, _, _, _, _, _, _, _, _, _, _, _, ⟨_, nx, done ++ [t'], r, rfl, by rw [HCR.out]; simp, by rw [HNX.out]; exact HR.out, HF6, ?_⟩, rfl⟩, ?_⟩
      · refine HO5.out.kept (row := some w.heap.size) (grown_setRow _ _ _) (fun k hk => by injection hk with hk; omega)
      · have := HDL.out
        show ch.length - (done ++ [t']).length < ch.length - done.length
        rw [List.length_append, List.length_cons, List.length_nil]
        omega
end Go.Proofs.Ytfajafjikpmgpaa

namespace Go.Proofs.Ytfajafjikpmgpaa
open Go Go.RowKit
theorem run_ext {P : Program} {W : World} {o : Oper} {ρ : Operand → Value} {x : Operand} {i : Nat} {vs : Array Value} {v : Value} (ho : o.op = .extract x i) (hx : ρ x = .tuple vs) (hv : vs[i]? = some v) : (execOp ρ o).run P W = .ok (.value v) W := by
  simp [execOp, ho, hx, hv, Instr.extract, Result.andThen]
end Go.Proofs.Ytfajafjikpmgpaa
