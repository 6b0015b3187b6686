/-
  Texts that the statements stand on, part 4.
-/
import Derived.Test.YtejljfoacbpliaaMc
import Derived.Deep.DeepCutAuto
import Derived.Deep.CutBlock
import Derived.Maps.OwnSet
import Derived.Maps.Views
import Derived.StringKeys
import Derived.Deep.QuietTactic
import Derived.BigQuiet
import Derived.Lib.Strings
import Derived.Lib.AppendZeros
set_option linter.unusedVariables false
set_option linter.unusedSimpArgs false
namespace Go.Proofs.Ytejljfoacbpliaa
open Go Go.RowKit
set_option maxHeartbeats 4000000 in
set_option maxRecDepth 100000 in
theorem Back_any (l : List Nd) (w : World) (hw : 0 < w.heap.size) (ok : Nat → Prop) (x : Option Addr) (c : Nat) (hk : IsD ok w (.slice x l.length c) (.sl l.length (ndsD l))) : Calls Try.prog 12 #[.slice x l.length c] w (GivesBN l w) := by
  have HK := Lib.hid hk
  have HW := Lib.hid hw
  have HIN6 := Lib.hid info_nS
  have HIQ7 := Lib.hid info_qS
  have HSN := Lib.hid size_nS
  clear hk hw
  go_enter Try.func12, Try.ntmps12
  go_wp2_with fail
  go_loopw [3, 4] (fun v3 v4 wr => ∃ (V : Value) (i : Nat), V = v3 ∧ v4 = .int .i64 (i : Int) ∧ i ≤ l.length ∧ Below w.heap.size w wr ∧ OwnD 49 6 wr (w.heap.size - 1) V i (ndsD (l.take i)))
    (fun _ v4 _ => l.length - (intOf v4).toNat)
  case atStart => exact ⟨_, 0, rfl, rfl, Nat.zero_le _, Below.refl _ _, by rw [List.take_zero]; exact OwnD.nil _ _ _ _⟩
  case round =>
    obtain ⟨V, i, rfl, rfl, hi, hb, hO⟩ := hrel
    obtain ⟨xv, cv, rfl, _, _⟩ := hO.slice
    have HB := Lib.hid hb
    have HO := Lib.hid hO
    have HI := Lib.hid hi
    clear hb hO hi
    by_cases hil : i < l.length
    · have d1 : decide ((i : Int) < (l.length : Int)) = true := by simp; omega
      have HIL := Lib.hid hil
      clear hil
      obtain ⟨g, rfl, hg, xi, ci, xo, co, xl, cl, xe, ce, hrg, t1, t2, t3, t4⟩ := nd_at HK.out i HIL.out
      obtain ⟨nd, hnd⟩ : ∃ nd, nd = l[i]'HIL.out := ⟨_, rfl⟩
      rw [← hnd] at hrg t1 t2 t3 t4
      have HND := Lib.hid hnd
      have keep : ∀ (u : Value) (d : Dt), IsD ok w u d → IsD (fun k => ok k ∧ k < w.heap.size) wr u d := fun u d h => IsD.keep HB.out.size (fun k _ hl => HB.out.block k hl) (fun k hk hl => ⟨hk, hl⟩) _ h
      have HIN := Lib.hid (keep _ _ t1)
      have HOU := Lib.hid (keep _ _ t2)
      have HLO := Lib.hid (keep _ _ t3)
      have HEQ := Lib.hid (keep _ _ t4)
      have HG := Lib.hid (show g < wr.heap.size from Nat.lt_of_lt_of_le hg HB.out.size)
      have HRG := Lib.hid (rangeAt_below hrg HB.out hg)
      have HBS := Lib.hid HB.out.size
      clear hrg hg hnd keep t1 t2 t3 t4
      go_wp2_with fail
      refine wp_region_steps_then (words [wIs (.slice (some ⟨g, 0, none⟩) l.length c), wIs (.int .i64 (i : Int)), wIs (.pointer (some ⟨g, i * 6, none⟩)), wIs (.pointer (some ⟨g, i * 6 + 0, none⟩)), wIs (.string nd.name), wIs (.slice (some ⟨g, 0, none⟩) l.length c), wIs (.int .i64 (i : Int)), wIs (.pointer (some ⟨g, i * 6, none⟩)), wIs (.pointer (some ⟨g, i * 6 + 1, none⟩)), wIs (.slice xi nd.ins.length ci), wVars wr.heap.size nd.ins, wIs (.slice (some ⟨g, 0, none⟩) l.length c), wIs (.int .i64 (i : Int)), wIs (.pointer (some ⟨g, i * 6, none⟩)), wIs (.pointer (some ⟨g, i * 6 + 2, none⟩)), wIs (.slice xo nd.outs.length co), wVars wr.heap.size nd.outs, wIs (.slice (some ⟨g, 0, none⟩) l.length c), wIs (.int .i64 (i : Int)), wIs (.pointer (some ⟨g, i * 6, none⟩)), wIs (.pointer (some ⟨g, i * 6 + 3, none⟩)), wIs (.slice xl nd.locs.length cl), wVars wr.heap.size nd.locs, wIs (.slice (some ⟨g, 0, none⟩) l.length c), wIs (.int .i64 (i : Int)), wIs (.pointer (some ⟨g, i * 6, none⟩)), wIs (.pointer (some ⟨g, i * 6 + 5, none⟩)), wIs (.int .i64 (nd.at_ : Int)), wNode wr.heap.size nd, wNew wr.heap.size]) wr.heap.size wr (by kernel_rfl) (Below.refl _ _) (Nat.le_refl _) (words_stable ?stab) rfl rfl (by kernel_rfl) (by kernel_rfl) _ rfl ?steps ?last
      case stab =>
        intro f hf
        simp only [List.mem_cons, List.not_mem_nil, or_false] at hf
        rcases hf with rfl | rfl | rfl | rfl | rfl | rfl | rfl | rfl | rfl | rfl | rfl | rfl | rfl | rfl | rfl | rfl | rfl | rfl | rfl | rfl | rfl | rfl | rfl | rfl | rfl | rfl | rfl | rfl | rfl | rfl <;> first | exact stable_is _ | exact stable_vars _ _ | exact stable_node _ _ | exact stable_new _
      case steps =>
          refine Steps.cons (step_value rfl fun xa W hp => ⟨wanted_none rfl, _, _, run_move (.inl rfl), hp.old 0 rfl, Below.refl _ _⟩) ?_
          refine Steps.cons (step_value rfl fun xa W hp => ⟨wanted_none rfl, _, _, run_move (.inl rfl), hp.old 4 rfl, Below.refl _ _⟩) ?_
          refine Steps.cons (step_value rfl fun xa W hp => ?_) ?_
          · have f0 : xa.tmps.getD 13 undef = .slice (some ⟨g, 0, none⟩) l.length c := (hp.on_ 0 rfl rfl rfl).2
            have f1 : xa.tmps.getD 14 undef = .int .i64 (i : Int) := (hp.on_ 1 rfl rfl rfl).2
            exact ⟨wanted_none rfl, _, _, run_idxG Try.underlying23 size_n4 rfl f0 f1 HIL.out, rfl, Below.refl _ _⟩
          refine Steps.cons (step_value rfl fun xa W hp => ?_) ?_
          · have f0 : xa.tmps.getD 15 undef = .pointer (some ⟨g, i * 6, none⟩) := (hp.on_ 2 rfl rfl rfl).2
            exact ⟨wanted_none rfl, _, _, run_fa4 rfl f0 (fa_n4_0 _ _ W), rfl, Below.refl _ _⟩
          refine Steps.cons (step_value rfl fun xa W hp => ?_) ?_
          · have f0 : xa.tmps.getD 16 undef = .pointer (some ⟨g, i * 6 + 0, none⟩) := (hp.on_ 3 rfl rfl rfl).2
            exact ⟨wanted_none rfl, _, _, run_ldv rfl f0 (rangeAt_below HRG.out hp.below HG.out 0 _ rfl) Try.underlying9 rfl (by kernel_rfl), rfl, Below.refl _ _⟩
          refine Steps.cons (step_value rfl fun xa W hp => ⟨wanted_none rfl, _, _, run_move (.inl rfl), hp.old 0 rfl, Below.refl _ _⟩) ?_
          refine Steps.cons (step_value rfl fun xa W hp => ⟨wanted_none rfl, _, _, run_move (.inl rfl), hp.old 4 rfl, Below.refl _ _⟩) ?_
          refine Steps.cons (step_value rfl fun xa W hp => ?_) ?_
          · have f0 : xa.tmps.getD 18 undef = .slice (some ⟨g, 0, none⟩) l.length c := (hp.on_ 5 rfl rfl rfl).2
            have f1 : xa.tmps.getD 19 undef = .int .i64 (i : Int) := (hp.on_ 6 rfl rfl rfl).2
            exact ⟨wanted_none rfl, _, _, run_idxG Try.underlying23 size_n4 rfl f0 f1 HIL.out, rfl, Below.refl _ _⟩
          refine Steps.cons (step_value rfl fun xa W hp => ?_) ?_
          · have f0 : xa.tmps.getD 20 undef = .pointer (some ⟨g, i * 6, none⟩) := (hp.on_ 7 rfl rfl rfl).2
            exact ⟨wanted_none rfl, _, _, run_fa4 rfl f0 (fa_n4_1 _ _ W), rfl, Below.refl _ _⟩
          refine Steps.cons (step_value rfl fun xa W hp => ?_) ?_
          · have f0 : xa.tmps.getD 21 undef = .pointer (some ⟨g, i * 6 + 1, none⟩) := (hp.on_ 8 rfl rfl rfl).2
            exact ⟨wanted_none rfl, _, _, run_ldv rfl f0 (rangeAt_below HRG.out hp.below HG.out 1 _ rfl) Try.underlying35 rfl (by kernel_rfl), rfl, Below.refl _ _⟩
          refine Steps.cons (step_enter rfl fun xa W hp => ?_) ?_
          · have f0 : xa.tmps.getD 22 undef = .slice xi nd.ins.length ci := (hp.on_ 9 rfl rfl rfl).2
            refine ⟨wanted_none rfl, 45, _, run_enter1 rfl rfl Try.call45, ?_⟩
            show Calls _ _ #[xa.tmps.getD 22 undef] W _
            rw [f0]
            refine (backVars_any nd.ins W (by have h1 := hp.below.size; have h2 := HBS.out; have h3 := HW.out; omega) _ xi ci (IsD.keep hp.below.size (fun k _ hl => hp.below.block k hl) (fun _ h _ => h) _ HIN.out)).mono (fun e' W' h => ?_)
            obtain ⟨x', c', h1, h2, h3⟩ := h
            exact ⟨_, h1, ⟨x', c', rfl, IsD.monoB hp.below.size h2⟩, h3⟩
          refine Steps.cons (step_value rfl fun xa W hp => ⟨wanted_none rfl, _, _, run_move (.inl rfl), hp.old 0 rfl, Below.refl _ _⟩) ?_
          refine Steps.cons (step_value rfl fun xa W hp => ⟨wanted_none rfl, _, _, run_move (.inl rfl), hp.old 4 rfl, Below.refl _ _⟩) ?_
          refine Steps.cons (step_value rfl fun xa W hp => ?_) ?_
          · have f0 : xa.tmps.getD 24 undef = .slice (some ⟨g, 0, none⟩) l.length c := (hp.on_ 11 rfl rfl rfl).2
            have f1 : xa.tmps.getD 25 undef = .int .i64 (i : Int) := (hp.on_ 12 rfl rfl rfl).2
            exact ⟨wanted_none rfl, _, _, run_idxG Try.underlying23 size_n4 rfl f0 f1 HIL.out, rfl, Below.refl _ _⟩
          refine Steps.cons (step_value rfl fun xa W hp => ?_) ?_
          · have f0 : xa.tmps.getD 26 undef = .pointer (some ⟨g, i * 6, none⟩) := (hp.on_ 13 rfl rfl rfl).2
            exact ⟨wanted_none rfl, _, _, run_fa4 rfl f0 (fa_n4_2 _ _ W), rfl, Below.refl _ _⟩
          refine Steps.cons (step_value rfl fun xa W hp => ?_) ?_
          · have f0 : xa.tmps.getD 27 undef = .pointer (some ⟨g, i * 6 + 2, none⟩) := (hp.on_ 14 rfl rfl rfl).2
            exact ⟨wanted_none rfl, _, _, run_ldv rfl f0 (rangeAt_below HRG.out hp.below HG.out 2 _ rfl) Try.underlying35 rfl (by kernel_rfl), rfl, Below.refl _ _⟩
          refine Steps.cons (step_enter rfl fun xa W hp => ?_) ?_
          · have f0 : xa.tmps.getD 28 undef = .slice xo nd.outs.length co := (hp.on_ 15 rfl rfl rfl).2
            refine ⟨wanted_none rfl, 45, _, run_enter1 rfl rfl Try.call45, ?_⟩
            show Calls _ _ #[xa.tmps.getD 28 undef] W _
            rw [f0]
            refine (backVars_any nd.outs W (by have h1 := hp.below.size; have h2 := HBS.out; have h3 := HW.out; omega) _ xo co (IsD.keep hp.below.size (fun k _ hl => hp.below.block k hl) (fun _ h _ => h) _ HOU.out)).mono (fun e' W' h => ?_)
            obtain ⟨x', c', h1, h2, h3⟩ := h
            exact ⟨_, h1, ⟨x', c', rfl, IsD.monoB hp.below.size h2⟩, h3⟩
          refine Steps.cons (step_value rfl fun xa W hp => ⟨wanted_none rfl, _, _, run_move (.inl rfl), hp.old 0 rfl, Below.refl _ _⟩) ?_
          refine Steps.cons (step_value rfl fun xa W hp => ⟨wanted_none rfl, _, _, run_move (.inl rfl), hp.old 4 rfl, Below.refl _ _⟩) ?_
          refine Steps.cons (step_value rfl fun xa W hp => ?_) ?_
          · have f0 : xa.tmps.getD 30 undef = .slice (some ⟨g, 0, none⟩) l.length c := (hp.on_ 17 rfl rfl rfl).2
            have f1 : xa.tmps.getD 31 undef = .int .i64 (i : Int) := (hp.on_ 18 rfl rfl rfl).2
            exact ⟨wanted_none rfl, _, _, run_idxG Try.underlying23 size_n4 rfl f0 f1 HIL.out, rfl, Below.refl _ _⟩
          refine Steps.cons (step_value rfl fun xa W hp => ?_) ?_
          · have f0 : xa.tmps.getD 32 undef = .pointer (some ⟨g, i * 6, none⟩) := (hp.on_ 19 rfl rfl rfl).2
            exact ⟨wanted_none rfl, _, _, run_fa4 rfl f0 (fa_n4_3 _ _ W), rfl, Below.refl _ _⟩
          refine Steps.cons (step_value rfl fun xa W hp => ?_) ?_
          · have f0 : xa.tmps.getD 33 undef = .pointer (some ⟨g, i * 6 + 3, none⟩) := (hp.on_ 20 rfl rfl rfl).2
            exact ⟨wanted_none rfl, _, _, run_ldv rfl f0 (rangeAt_below HRG.out hp.below HG.out 3 _ rfl) Try.underlying35 rfl (by kernel_rfl), rfl, Below.refl _ _⟩
          refine Steps.cons (step_enter rfl fun xa W hp => ?_) ?_
          · have f0 : xa.tmps.getD 34 undef = .slice xl nd.locs.length cl := (hp.on_ 21 rfl rfl rfl).2
            refine ⟨wanted_none rfl, 45, _, run_enter1 rfl rfl Try.call45, ?_⟩
            show Calls _ _ #[xa.tmps.getD 34 undef] W _
            rw [f0]
            refine (backVars_any nd.locs W (by have h1 := hp.below.size; have h2 := HBS.out; have h3 := HW.out; omega) _ xl cl (IsD.keep hp.below.size (fun k _ hl => hp.below.block k hl) (fun _ h _ => h) _ HLO.out)).mono (fun e' W' h => ?_)
            obtain ⟨x', c', h1, h2, h3⟩ := h
            exact ⟨_, h1, ⟨x', c', rfl, IsD.monoB hp.below.size h2⟩, h3⟩
          refine Steps.cons (step_value rfl fun xa W hp => ⟨wanted_none rfl, _, _, run_move (.inl rfl), hp.old 0 rfl, Below.refl _ _⟩) ?_
          refine Steps.cons (step_value rfl fun xa W hp => ⟨wanted_none rfl, _, _, run_move (.inl rfl), hp.old 4 rfl, Below.refl _ _⟩) ?_
          refine Steps.cons (step_value rfl fun xa W hp => ?_) ?_
          · have f0 : xa.tmps.getD 36 undef = .slice (some ⟨g, 0, none⟩) l.length c := (hp.on_ 23 rfl rfl rfl).2
            have f1 : xa.tmps.getD 37 undef = .int .i64 (i : Int) := (hp.on_ 24 rfl rfl rfl).2
            exact ⟨wanted_none rfl, _, _, run_idxG Try.underlying23 size_n4 rfl f0 f1 HIL.out, rfl, Below.refl _ _⟩
          refine Steps.cons (step_value rfl fun xa W hp => ?_) ?_
          · have f0 : xa.tmps.getD 38 undef = .pointer (some ⟨g, i * 6, none⟩) := (hp.on_ 25 rfl rfl rfl).2
            exact ⟨wanted_none rfl, _, _, run_fa4 rfl f0 (fa_n4_5 _ _ W), rfl, Below.refl _ _⟩
          refine Steps.cons (step_value rfl fun xa W hp => ?_) ?_
          · have f0 : xa.tmps.getD 39 undef = .pointer (some ⟨g, i * 6 + 5, none⟩) := (hp.on_ 26 rfl rfl rfl).2
            exact ⟨wanted_none rfl, _, _, run_ldv rfl f0 (rangeAt_below HRG.out hp.below HG.out 5 _ rfl) Try.underlying3 rfl (by kernel_rfl), rfl, Below.refl _ _⟩
          refine Steps.cons (step_value rfl fun xa W hp => ?_) ?_
          · have f0 : xa.tmps.getD 17 undef = .string nd.name := (hp.on_ 4 rfl rfl rfl).2
            obtain ⟨x1, c1, e1, t1⟩ : wVars wr.heap.size nd.ins (xa.tmps.getD 23 undef) W := (hp.on_ 10 rfl rfl rfl).2
            obtain ⟨x2, c2, e2, t2⟩ : wVars wr.heap.size nd.outs (xa.tmps.getD 29 undef) W := (hp.on_ 16 rfl rfl rfl).2
            obtain ⟨x3, c3, e3, t3⟩ : wVars wr.heap.size nd.locs (xa.tmps.getD 35 undef) W := (hp.on_ 22 rfl rfl rfl).2
            have f4 : xa.tmps.getD 40 undef = .int .i64 (nd.at_ : Int) := (hp.on_ 27 rfl rfl rfl).2
            refine ⟨wanted_none rfl, _, _, run_bld5 rfl ?_, ⟨x1, c1, x2, c2, x3, c3, rfl, t1, t2, t3⟩, Below.refl _ _⟩
            show (Instr.build _ #[(0, xa.tmps.getD 17 undef), (1, xa.tmps.getD 23 undef), (2, xa.tmps.getD 29 undef), (3, xa.tmps.getD 35 undef), (5, xa.tmps.getD 40 undef)]).run _ W = _
            rw [f0, e1, e2, e3, f4]
            exact build_nS _ _ _ _ _ _ _ _ _ _ _ W
          refine Steps.cons (step_value rfl fun xa W hp => ⟨wanted_none rfl, _, _, alloc_nS rfl, ⟨W.heap.size, rfl, hp.below.size, heap_alloc_new W _⟩, (Below.refl _ _).alloc (Nat.le_refl _) _⟩) ?_
          exact Steps.nil
      case last =>
          intro xa W hI
          obtain ⟨xi2, ci2, xo2, co2, xl2, cl2, h41, t1, t2, t3⟩ : wNode wr.heap.size nd (xa.tmps.getD 41 undef) W := hI.new 28 _ 41 rfl rfl rfl
          obtain ⟨b, h5_, hbB, hbr⟩ : wNew wr.heap.size (xa.tmps.getD 5 undef) W := hI.new 29 _ 5 rfl rfl rfl
          refine wpOp_of rfl (wanted_none rfl) ?_
          refine wp_store_row 49 (.tmp 5) (.tmp 41) rfl b #[.string nd.name, .slice xi2 nd.ins.length ci2, .slice xo2 nd.outs.length co2, .slice xl2 nd.locs.length cl2, .slice none 0 0, .int .i64 (nd.at_ : Int)] h5_ h41 49 _ hbr size_nS rfl (n4_one _ _ _ _ _ _ _ _ _ _ _ _ _ _) ?_
          have hset := setRow_heap W b _ #[.string nd.name, .slice xi2 nd.ins.length ci2, .slice xo2 nd.outs.length co2, .slice xl2 nd.locs.length cl2, .slice none 0 0, .int .i64 (nd.at_ : Int)] _ _ hbr
          have hgr : W.grownBy (W.setRow b #[.string nd.name, .slice xi2 nd.ins.length ci2, .slice xo2 nd.outs.length co2, .slice xl2 nd.locs.length cl2, .slice none 0 0, .int .i64 (nd.at_ : Int)]) (some b) := ⟨rfl, rfl, rfl, by rw [setRow_size]; exact Nat.le_refl _, fun k _ hk => setRow_other W b k _ (fun e => hk (by rw [e]))⟩
          have hsz1 : (W.setRow b #[.string nd.name, .slice xi2 nd.ins.length ci2, .slice xo2 nd.outs.length co2, .slice xl2 nd.locs.length cl2, .slice none 0 0, .int .i64 (nd.at_ : Int)]).heap.size = W.heap.size := setRow_size ..
          have hbW : b < W.heap.size := (Array.getElem?_eq_some_iff.1 hbr).1
          have q : wEqs wr W.heap.size b #[.string nd.name, .slice xi2 nd.ins.length ci2, .slice xo2 nd.outs.length co2, .slice xl2 nd.locs.length cl2, .slice none 0 0, .int .i64 (nd.at_ : Int)] [(.slice xi2 nd.ins.length ci2, .sl nd.ins.length (vrsD nd.ins)), (.slice xo2 nd.outs.length co2, .sl nd.outs.length (vrsD nd.outs)), (.slice xl2 nd.locs.length cl2, .sl nd.locs.length (vrsD nd.locs))] 0 (qesD (nd.eqs.take 0)) (.slice none 0 0) (W.setRow b #[.string nd.name, .slice xi2 nd.ins.length ci2, .slice xo2 nd.outs.length co2, .slice xl2 nd.locs.length cl2, .slice none 0 0, .int .i64 (nd.at_ : Int)]) := by
            refine ⟨below_setRow hI.below hbB _, by rw [hsz1]; exact Nat.le_refl _, hset, fun y hy => ?_, by rw [List.take_zero]; exact OwnD.nil _ _ _ _⟩
            simp only [List.mem_cons, List.not_mem_nil, or_false] at hy
            rcases hy with rfl | rfl | rfl
            · exact (vars_apart t1 hbr).grown hgr (fun k hk hk' => by injection hk with hk; exact hk'.2.1 hk.symm)
            · exact (vars_apart t2 hbr).grown hgr (fun k hk hk' => by injection hk with hk; exact hk'.2.1 hk.symm)
            · exact (vars_apart t3 hbr).grown hgr (fun k hk hk' => by injection hk with hk; exact hk'.2.1 hk.symm)
          obtain ⟨m, hm⟩ : ∃ m, m = W.heap.size := ⟨_, rfl⟩
          rw [← hm] at q hbW
          obtain ⟨w1, hw1⟩ : ∃ w1, w1 = W.setRow b #[.string nd.name, .slice xi2 nd.ins.length ci2, .slice xo2 nd.outs.length co2, .slice xl2 nd.locs.length cl2, .slice none 0 0, .int .i64 (nd.at_ : Int)] := ⟨_, rfl⟩
          rw [← hw1] at q ⊢
          have HQ := Lib.hid q
          have HBW := Lib.hid hbW
          have HBB := Lib.hid hbB
          clear q hset hgr hsz1 hbr t1 t2 t3 hm hw1 hbW hbB
          have h0 : xa.tmps.getD 0 undef = .slice (some ⟨g, 0, none⟩) l.length c := hI.old 0 (by simp)
          have h1 : xa.tmps.getD 1 undef = undef := hI.old 1 (by simp)
          have h2 : xa.tmps.getD 2 undef = .slice none 0 0 := hI.old 2 (by simp)
          have h3 : xa.tmps.getD 3 undef = .slice xv i cv := hI.old 3 (by simp)
          have h4 : xa.tmps.getD 4 undef = .int .i64 (i : Int) := hI.old 4 (by simp)
          have h5 : xa.tmps.getD 5 undef = .pointer (some ⟨b, 0, none⟩) := h5_
          have h90 : xa.tmps.getD 90 undef = undef := hI.old 90 (by simp)
          have hsz_ : xa.tmps.size = 91 := hI.tmps
          have hdf_ : xa.defers = [] := hI.defers
          obtain ⟨fo, hf, hx⟩ := act_eta hsz_ hdf_
          rw [hf] at h0 h1 h2 h3 h4 h5 h90
          clear hI h5_ h41 hsz_ hdf_ hf
          subst hx
          have hl : ((List.range 91).map fo).toArray = #[fo 0, fo 1, fo 2, fo 3, fo 4, fo 5, fo 6, fo 7, fo 8, fo 9, fo 10, fo 11, fo 12, fo 13, fo 14, fo 15, fo 16, fo 17, fo 18, fo 19, fo 20, fo 21, fo 22, fo 23, fo 24, fo 25, fo 26, fo 27, fo 28, fo 29, fo 30, fo 31, fo 32, fo 33, fo 34, fo 35, fo 36, fo 37, fo 38, fo 39, fo 40, fo 41, fo 42, fo 43, fo 44, fo 45, fo 46, fo 47, fo 48, fo 49, fo 50, fo 51, fo 52, fo 53, fo 54, fo 55, fo 56, fo 57, fo 58, fo 59, fo 60, fo 61, fo 62, fo 63, fo 64, fo 65, fo 66, fo 67, fo 68, fo 69, fo 70, fo 71, fo 72, fo 73, fo 74, fo 75, fo 76, fo 77, fo 78, fo 79, fo 80, fo 81, fo 82, fo 83, fo 84, fo 85, fo 86, fo 87, fo 88, fo 89, fo 90] := rfl
          simp only [Exit.inBlock, Exit.then, Act.put]
          rw [hl, h0, h1, h2, h3, h4, h5, h90]
          clear hl h0 h1 h2 h3 h4 h5 h90
          obtain ⟨wo, rfl⟩ : ∃ wo : World, wo = wr := ⟨wr, rfl⟩
          go_wp2_with fail
          go_loopw [6] (fun v6 wr => ∃ (k : Nat) (xe2 : Option Addr) (ce2 : Nat), v6 = .int .i64 (k : Int) ∧ k ≤ nd.eqs.length ∧ wEqs wo m b #[.string nd.name, .slice xi2 nd.ins.length ci2, .slice xo2 nd.outs.length co2, .slice xl2 nd.locs.length cl2, .slice xe2 k ce2, .int .i64 (nd.at_ : Int)] [(.slice xi2 nd.ins.length ci2, .sl nd.ins.length (vrsD nd.ins)), (.slice xo2 nd.outs.length co2, .sl nd.outs.length (vrsD nd.outs)), (.slice xl2 nd.locs.length cl2, .sl nd.locs.length (vrsD nd.locs))] k (qesD (nd.eqs.take k)) (.slice xe2 k ce2) wr)
            (fun v6 _ => nd.eqs.length - (intOf v6).toNat)
          case atStart => exact ⟨0, none, 0, rfl, Nat.zero_le _, HQ.out⟩
          case round =>
            clear HQ
            obtain ⟨k, xe2, ce2, rfl, hk, hq⟩ := hrel
            have HK2 := Lib.hid hk
            have HQ := Lib.hid hq
            have HRGo := HRG
            have HGo := HG
            clear hk hq HRG HG
            have HRG := Lib.hid (rangeAt_below HRGo.out HQ.out.1 HGo.out)
            have HG := Lib.hid (show g < wr.heap.size from Nat.lt_of_lt_of_le HGo.out HQ.out.1.size)
            have HRB := Lib.hid HQ.out.2.2.1
            have HBL := Lib.hid (show b < wr.heap.size from (Array.getElem?_eq_some_iff.1 HQ.out.2.2.1).1)
            have cE : wr.cell? ⟨g, i * 6 + 4, none⟩ = some (.slice xe nd.eqs.length ce) := HRG.out 4 _ rfl
            have i0 : (0 : Int) ≤ (i : Int) := by omega
            have i1 : (i : Int) < (l.length : Int) := by have := HIL.out; omega
            have i2 : (i : Int) < 1000000000 := by have := HIL.out; have := IsD.few HK.out; omega
            by_cases hkl : k < nd.eqs.length
            · have d2 : decide ((k : Int) < (nd.eqs.length : Int)) = true := by simp; omega
              have HKL := Lib.hid hkl
              clear hkl
              obtain ⟨ge, rfl, hge, xk, ck, hrq, hkd⟩ := qe_at HEQ.out k HKL.out
              obtain ⟨q, hqq⟩ : ∃ q, q = nd.eqs[k]'HKL.out := ⟨_, rfl⟩
              rw [← hqq] at hrq hkd
              have HQD := Lib.hid hqq
              have HRQ := Lib.hid (rangeAt_below hrq HQ.out.1 hge)
              have HGQ := Lib.hid (show ge < wr.heap.size from Nat.lt_of_lt_of_le hge HQ.out.1.size)
              have HKD := Lib.hid (show KidsD (fun j => (ok j ∧ j < w.heap.size) ∧ j < wo.heap.size) wr q.e xk ck from IsD.keep HQ.out.1.size (fun j _ hl => HQ.out.1.block j hl) (fun j hj hl => ⟨hj, hl⟩) _ hkd)
              clear hge hrq hkd hqq
              go_upto_if 49 with fail
              clear cE i1 i2
              go_upto_region 9 with fail
              refine wp_region_steps_then3 (words [wIs (.pointer (some ⟨b, 4, none⟩)), wIs (.slice xe2 k ce2), wIs (.slice (some ⟨g, 0, none⟩) l.length c), wIs (.int .i64 (i : Int)), wIs (.pointer (some ⟨g, i * 6, none⟩)), wIs (.pointer (some ⟨g, i * 6 + 4, none⟩)), wIs (.slice (some ⟨ge, 0, none⟩) nd.eqs.length ce), wIs (.int .i64 (k : Int)), wIs (.pointer (some ⟨ge, k * 7, none⟩)), wIs (.pointer (some ⟨ge, k * 7 + 0, none⟩)), wIs (.string q.name), wIs (.slice (some ⟨g, 0, none⟩) l.length c), wIs (.int .i64 (i : Int)), wIs (.pointer (some ⟨g, i * 6, none⟩)), wIs (.pointer (some ⟨g, i * 6 + 4, none⟩)), wIs (.slice (some ⟨ge, 0, none⟩) nd.eqs.length ce), wIs (.int .i64 (k : Int)), wIs (.pointer (some ⟨ge, k * 7, none⟩)), wIs (.pointer (some ⟨ge, k * 7 + 1, none⟩)), wIs (exV q.e xk ck), wKid wr.heap.size q.e, wIs (.slice (some ⟨g, 0, none⟩) l.length c), wIs (.int .i64 (i : Int)), wIs (.pointer (some ⟨g, i * 6, none⟩)), wIs (.pointer (some ⟨g, i * 6 + 4, none⟩)), wIs (.slice (some ⟨ge, 0, none⟩) nd.eqs.length ce), wIs (.int .i64 (k : Int)), wIs (.pointer (some ⟨ge, k * 7, none⟩)), wIs (.pointer (some ⟨ge, k * 7 + 6, none⟩)), wIs (.int .i64 (q.at_ : Int)), wEq wr.heap.size q, wRow wr.heap.size (qeD q), wEqs wo m b #[.string nd.name, .slice xi2 nd.ins.length ci2, .slice xo2 nd.outs.length co2, .slice xl2 nd.locs.length cl2, .slice xe2 k ce2, .int .i64 (nd.at_ : Int)] [(.slice xi2 nd.ins.length ci2, .sl nd.ins.length (vrsD nd.ins)), (.slice xo2 nd.outs.length co2, .sl nd.outs.length (vrsD nd.outs)), (.slice xl2 nd.locs.length cl2, .sl nd.locs.length (vrsD nd.locs))] (k + 1) (qesD (nd.eqs.take (k + 1))), wIs (.pointer (some ⟨b, 4, none⟩))]) wr.heap.size wr (by kernel_rfl) (Below.refl _ _) (Nat.le_refl _) (words_stable ?stab) rfl rfl (by kernel_rfl) 32 (by kernel_rfl) _ _ _ rfl rfl rfl 84 85 rfl rfl (.pointer (some ⟨b, 4, none⟩)) (fun v W => Iff.rfl) ?steps ?fa ?app ?fin
              case stab =>
                intro f hf
                simp only [List.mem_cons, List.not_mem_nil, or_false] at hf
                rcases hf with rfl | rfl | rfl | rfl | rfl | rfl | rfl | rfl | rfl | rfl | rfl | rfl | rfl | rfl | rfl | rfl | rfl | rfl | rfl | rfl | rfl | rfl | rfl | rfl | rfl | rfl | rfl | rfl | rfl | rfl | rfl | rfl | rfl | rfl <;> first | exact stable_is _ | exact stable_kid _ _ | exact stable_row _ _ | exact stable_eq _ _ | exact stable_eqs _ _ _ _ _ _ _
              case steps =>
                refine Steps.cons (step_value rfl fun xa W hp => ?_) ?_
                · have f0 : xa.tmps.getD 5 undef = .pointer (some ⟨b, 0, none⟩) := hp.old 5 rfl
                  exact ⟨wanted_none rfl, _, _, run_fa4 rfl f0 (fa_nS4 _ W), rfl, Below.refl _ _⟩
                refine Steps.cons (step_value rfl fun xa W hp => ?_) ?_
                · have f0 : xa.tmps.getD 52 undef = .pointer (some ⟨b, 4, none⟩) := (hp.on_ 0 rfl rfl rfl).2
                  exact ⟨wanted_none rfl, _, _, run_ldv rfl f0 (cell_of_row W b 4 _ _ _ ((hp.below.block b HBL.out).trans HRB.out)) Try.underlying47 rfl size_qsl, rfl, Below.refl _ _⟩
                refine Steps.cons (step_value rfl fun xa W hp => ⟨wanted_none rfl, _, _, run_move (.inl rfl), hp.old 0 rfl, Below.refl _ _⟩) ?_
                refine Steps.cons (step_value rfl fun xa W hp => ⟨wanted_none rfl, _, _, run_move (.inl rfl), hp.old 4 rfl, Below.refl _ _⟩) ?_
                refine Steps.cons (step_value rfl fun xa W hp => ?_) ?_
                · have f0 : xa.tmps.getD 54 undef = .slice (some ⟨g, 0, none⟩) l.length c := (hp.on_ 2 rfl rfl rfl).2
                  have f1 : xa.tmps.getD 55 undef = .int .i64 (i : Int) := (hp.on_ 3 rfl rfl rfl).2
                  exact ⟨wanted_none rfl, _, _, run_idxG Try.underlying23 size_n4 rfl f0 f1 HIL.out, rfl, Below.refl _ _⟩
                refine Steps.cons (step_value rfl fun xa W hp => ?_) ?_
                · have f0 : xa.tmps.getD 56 undef = .pointer (some ⟨g, i * 6, none⟩) := (hp.on_ 4 rfl rfl rfl).2
                  exact ⟨wanted_none rfl, _, _, run_fa4 rfl f0 (fa_n4_4 _ _ W), rfl, Below.refl _ _⟩
                refine Steps.cons (step_value rfl fun xa W hp => ?_) ?_
                · have f0 : xa.tmps.getD 57 undef = .pointer (some ⟨g, i * 6 + 4, none⟩) := (hp.on_ 5 rfl rfl rfl).2
                  exact ⟨wanted_none rfl, _, _, run_ldv rfl f0 (rangeAt_below HRG.out hp.below HG.out 4 _ rfl) Try.underlying36 rfl (by kernel_rfl), rfl, Below.refl _ _⟩
                refine Steps.cons (step_value rfl fun xa W hp => ⟨wanted_none rfl, _, _, run_move (.inl rfl), hp.old 6 rfl, Below.refl _ _⟩) ?_
                refine Steps.cons (step_value rfl fun xa W hp => ?_) ?_
                · have f0 : xa.tmps.getD 58 undef = .slice (some ⟨ge, 0, none⟩) nd.eqs.length ce := (hp.on_ 6 rfl rfl rfl).2
                  have f1 : xa.tmps.getD 59 undef = .int .i64 (k : Int) := (hp.on_ 7 rfl rfl rfl).2
                  exact ⟨wanted_none rfl, _, _, run_idxG Try.underlying36 size_q4 rfl f0 f1 HKL.out, rfl, Below.refl _ _⟩
                refine Steps.cons (step_value rfl fun xa W hp => ?_) ?_
                · have f0 : xa.tmps.getD 60 undef = .pointer (some ⟨ge, k * 7, none⟩) := (hp.on_ 8 rfl rfl rfl).2
                  exact ⟨wanted_none rfl, _, _, run_fa4 rfl f0 (fa_q4_0 _ _ W), rfl, Below.refl _ _⟩
                refine Steps.cons (step_value rfl fun xa W hp => ?_) ?_
                · have f0 : xa.tmps.getD 61 undef = .pointer (some ⟨ge, k * 7 + 0, none⟩) := (hp.on_ 9 rfl rfl rfl).2
                  exact ⟨wanted_none rfl, _, _, run_ldv rfl f0 (rangeAt_below HRQ.out hp.below HGQ.out 0 _ rfl) Try.underlying9 rfl (by kernel_rfl), rfl, Below.refl _ _⟩
                refine Steps.cons (step_value rfl fun xa W hp => ⟨wanted_none rfl, _, _, run_move (.inl rfl), hp.old 0 rfl, Below.refl _ _⟩) ?_
                refine Steps.cons (step_value rfl fun xa W hp => ⟨wanted_none rfl, _, _, run_move (.inl rfl), hp.old 4 rfl, Below.refl _ _⟩) ?_
                refine Steps.cons (step_value rfl fun xa W hp => ?_) ?_
                · have f0 : xa.tmps.getD 63 undef = .slice (some ⟨g, 0, none⟩) l.length c := (hp.on_ 11 rfl rfl rfl).2
                  have f1 : xa.tmps.getD 64 undef = .int .i64 (i : Int) := (hp.on_ 12 rfl rfl rfl).2
                  exact ⟨wanted_none rfl, _, _, run_idxG Try.underlying23 size_n4 rfl f0 f1 HIL.out, rfl, Below.refl _ _⟩
                refine Steps.cons (step_value rfl fun xa W hp => ?_) ?_
                · have f0 : xa.tmps.getD 65 undef = .pointer (some ⟨g, i * 6, none⟩) := (hp.on_ 13 rfl rfl rfl).2
                  exact ⟨wanted_none rfl, _, _, run_fa4 rfl f0 (fa_n4_4 _ _ W), rfl, Below.refl _ _⟩
                refine Steps.cons (step_value rfl fun xa W hp => ?_) ?_
                · have f0 : xa.tmps.getD 66 undef = .pointer (some ⟨g, i * 6 + 4, none⟩) := (hp.on_ 14 rfl rfl rfl).2
                  exact ⟨wanted_none rfl, _, _, run_ldv rfl f0 (rangeAt_below HRG.out hp.below HG.out 4 _ rfl) Try.underlying36 rfl (by kernel_rfl), rfl, Below.refl _ _⟩
                refine Steps.cons (step_value rfl fun xa W hp => ⟨wanted_none rfl, _, _, run_move (.inl rfl), hp.old 6 rfl, Below.refl _ _⟩) ?_
                refine Steps.cons (step_value rfl fun xa W hp => ?_) ?_
                · have f0 : xa.tmps.getD 67 undef = .slice (some ⟨ge, 0, none⟩) nd.eqs.length ce := (hp.on_ 15 rfl rfl rfl).2
                  have f1 : xa.tmps.getD 68 undef = .int .i64 (k : Int) := (hp.on_ 16 rfl rfl rfl).2
                  exact ⟨wanted_none rfl, _, _, run_idxG Try.underlying36 size_q4 rfl f0 f1 HKL.out, rfl, Below.refl _ _⟩
                refine Steps.cons (step_value rfl fun xa W hp => ?_) ?_
                · have f0 : xa.tmps.getD 69 undef = .pointer (some ⟨ge, k * 7, none⟩) := (hp.on_ 17 rfl rfl rfl).2
                  exact ⟨wanted_none rfl, _, _, run_fa4 rfl f0 (fa_q4_1 _ _ W), rfl, Below.refl _ _⟩
                refine Steps.cons (step_value rfl fun xa W hp => ?_) ?_
                · have f0 : xa.tmps.getD 70 undef = .pointer (some ⟨ge, k * 7 + 1, none⟩) := (hp.on_ 18 rfl rfl rfl).2
                  exact ⟨wanted_none rfl, _, _, run_ldmidG rfl f0 (vs := exC q.e xk ck) ((fun W' hb' => qe_mid (rangeAt_below HRQ.out hb' HGQ.out)) W hp.below) rfl Try.underlying53 (by kernel_rfl), rfl, Below.refl _ _⟩
                refine Steps.cons (step_enter rfl fun xa W hp => ?_) ?_
                · have f0 : xa.tmps.getD 71 undef = exV q.e xk ck := (hp.on_ 19 rfl rfl rfl).2
                  refine ⟨wanted_none rfl, 46, _, run_enter1 rfl rfl Try.call46, ?_⟩
                  show Calls _ _ #[xa.tmps.getD 71 undef] W _
                  rw [f0]
                  refine (back_lt _ q.e (Nat.lt_succ_self _) W _ xk ck (IsD.keep hp.below.size (fun k _ hl => hp.below.block k hl) (fun _ h _ => h) _ HKD.out)).mono (fun e' W' h => ?_)
                  obtain ⟨x', c', h1, h2, h3⟩ := h
                  exact ⟨_, h1, ⟨x', c', rfl, IsD.monoB hp.below.size h2⟩, h3⟩
                refine Steps.cons (step_value rfl fun xa W hp => ⟨wanted_none rfl, _, _, run_move (.inl rfl), hp.old 0 rfl, Below.refl _ _⟩) ?_
                refine Steps.cons (step_value rfl fun xa W hp => ⟨wanted_none rfl, _, _, run_move (.inl rfl), hp.old 4 rfl, Below.refl _ _⟩) ?_
                refine Steps.cons (step_value rfl fun xa W hp => ?_) ?_
                · have f0 : xa.tmps.getD 73 undef = .slice (some ⟨g, 0, none⟩) l.length c := (hp.on_ 21 rfl rfl rfl).2
                  have f1 : xa.tmps.getD 74 undef = .int .i64 (i : Int) := (hp.on_ 22 rfl rfl rfl).2
                  exact ⟨wanted_none rfl, _, _, run_idxG Try.underlying23 size_n4 rfl f0 f1 HIL.out, rfl, Below.refl _ _⟩
                refine Steps.cons (step_value rfl fun xa W hp => ?_) ?_
                · have f0 : xa.tmps.getD 75 undef = .pointer (some ⟨g, i * 6, none⟩) := (hp.on_ 23 rfl rfl rfl).2
                  exact ⟨wanted_none rfl, _, _, run_fa4 rfl f0 (fa_n4_4 _ _ W), rfl, Below.refl _ _⟩
                refine Steps.cons (step_value rfl fun xa W hp => ?_) ?_
                · have f0 : xa.tmps.getD 76 undef = .pointer (some ⟨g, i * 6 + 4, none⟩) := (hp.on_ 24 rfl rfl rfl).2
                  exact ⟨wanted_none rfl, _, _, run_ldv rfl f0 (rangeAt_below HRG.out hp.below HG.out 4 _ rfl) Try.underlying36 rfl (by kernel_rfl), rfl, Below.refl _ _⟩
                refine Steps.cons (step_value rfl fun xa W hp => ⟨wanted_none rfl, _, _, run_move (.inl rfl), hp.old 6 rfl, Below.refl _ _⟩) ?_
                refine Steps.cons (step_value rfl fun xa W hp => ?_) ?_
                · have f0 : xa.tmps.getD 77 undef = .slice (some ⟨ge, 0, none⟩) nd.eqs.length ce := (hp.on_ 25 rfl rfl rfl).2
                  have f1 : xa.tmps.getD 78 undef = .int .i64 (k : Int) := (hp.on_ 26 rfl rfl rfl).2
                  exact ⟨wanted_none rfl, _, _, run_idxG Try.underlying36 size_q4 rfl f0 f1 HKL.out, rfl, Below.refl _ _⟩
                refine Steps.cons (step_value rfl fun xa W hp => ?_) ?_
                · have f0 : xa.tmps.getD 79 undef = .pointer (some ⟨ge, k * 7, none⟩) := (hp.on_ 27 rfl rfl rfl).2
                  exact ⟨wanted_none rfl, _, _, run_fa4 rfl f0 (fa_q4_2 _ _ W), rfl, Below.refl _ _⟩
                refine Steps.cons (step_value rfl fun xa W hp => ?_) ?_
                · have f0 : xa.tmps.getD 80 undef = .pointer (some ⟨ge, k * 7 + 6, none⟩) := (hp.on_ 28 rfl rfl rfl).2
                  exact ⟨wanted_none rfl, _, _, run_ldv rfl f0 (rangeAt_below HRQ.out hp.below HGQ.out 6 _ rfl) Try.underlying3 rfl (by kernel_rfl), rfl, Below.refl _ _⟩
                refine Steps.cons (step_value rfl fun xa W hp => ?_) ?_
                · have f0 : xa.tmps.getD 62 undef = .string q.name := (hp.on_ 10 rfl rfl rfl).2
                  obtain ⟨x1, c1, e1, t1⟩ : wKid wr.heap.size q.e (xa.tmps.getD 72 undef) W := (hp.on_ 20 rfl rfl rfl).2
                  have f2 : xa.tmps.getD 81 undef = .int .i64 (q.at_ : Int) := (hp.on_ 29 rfl rfl rfl).2
                  refine ⟨wanted_none rfl, _, _, run_bld3 rfl ?_, ⟨x1, c1, rfl, t1⟩, Below.refl _ _⟩
                  show (Instr.build _ #[(0, xa.tmps.getD 62 undef), (1, xa.tmps.getD 72 undef), (2, xa.tmps.getD 81 undef)]).run _ W = _
                  rw [f0, e1, f2]
                  exact build_qS _ _ _ _ _ _ _ _ _ W
                refine Steps.cons (step_value rfl fun xa W hp => ?_) ?_
                · obtain ⟨x1, c1, e1, t1⟩ : wEq wr.heap.size q (xa.tmps.getD 82 undef) W := (hp.on_ 30 rfl rfl rfl).2
                  refine ⟨wanted_none rfl, _, _, run_bsl1 rfl (by
                    show (Instr.buildSlice _ 1 #[(0, xa.tmps.getD 82 undef)]).run _ W = _
                    rw [e1]
                    exact slice_oneQ _ _ _ _ _ _ _ _ _ W), ⟨W.heap.size, rfl, ?_⟩, (Below.refl _ _).alloc (Nat.le_refl _) _⟩
                  exact IsD.made 45 _ W.heap.size rfl 1 (by decide) (by decide) (qeD q) hp.below.size (qeC_rows (e := q.e) t1)
                exact Steps.nil
              case fa =>
                intro xa W hold
                have f0 : xa.tmps.getD 5 undef = .pointer (some ⟨b, 0, none⟩) := hold 5 (by simp)
                exact wpOp_value rfl (wanted_none rfl) (run_fa4 rfl f0 (fa_nS4 _ W)) ⟨rfl, rfl⟩
              case app =>
                intro xa W hI
                have f53 : xa.tmps.getD 53 undef = .slice xe2 k ce2 := hI.new 1 _ 53 rfl rfl rfl
                obtain ⟨g', f83, h83⟩ : wRow wr.heap.size (qeD q) (xa.tmps.getD 83 undef) W := hI.new 31 _ 83 rfl rfl rfl
                obtain ⟨i7, hi7, ⟨z7, hz7, hzs7⟩, hs7, hb7⟩ := HIQ7.out
                obtain ⟨q1, q2, q3, q4, q5⟩ := HQ.out
                have hOW := q5.below hI.below
                have hbs := hI.below.size
                have hbm := HBW.out
                have hwb := HBB.out
                refine wpOp_appD rfl (wanted_none rfl) (.tmp 53) (.tmp 83) 47 rfl i7 z7 96 Try.underlying47 hi7 hz7 hs7 hb7 hzs7 (by decide) (by decide) f53 hOW (by omega) (m := 1) f83 (qeD q) (by rw [qeD_len]) (by decide) h83 (qeD_one q) (fun j hj hl => ⟨by have : wr.heap.size ≤ j := hj; omega, fun e' => by have := (q5.gt j e'.symm).2; have : wr.heap.size ≤ j := hj; omega⟩) (by have := HKL.out; have := IsD.few HEQ.out; omega) (fun v' w' j1 j2 => ⟨v', rfl, ?_⟩)
                have hgt : ∀ j, Value.ownBlock (.slice xe2 k ce2) = some j → m - 1 < j := fun j hj => (q5.gt j hj).1
                refine ⟨below_own (q1.trans (hI.below.mono q1.size)) j2 (fun j hj => by have := hgt j hj; omega), Nat.le_trans q2 (Nat.le_trans hbs j2.size), ?_, ?_, ?_⟩
                · exact (j2.block b (by omega) (fun e' => by have := hgt b e'.symm; omega)).trans ((hI.below.block b HBL.out).trans q3)
                · exact (tre_below q4 hI.below).grown j2 (fun j hj hj' => by have := hgt j hj; have := hj'.2.2; omega)
                · rw [HQD.out, qesD_take HKL.out] at j1
                  exact j1
              case fin =>
                intro xa W hdf hsz hold h84 h85_
                obtain ⟨r1, r2, r3, r4, r5⟩ : wEqs wo m b #[.string nd.name, .slice xi2 nd.ins.length ci2, .slice xo2 nd.outs.length co2, .slice xl2 nd.locs.length cl2, .slice xe2 k ce2, .int .i64 (nd.at_ : Int)] [(.slice xi2 nd.ins.length ci2, .sl nd.ins.length (vrsD nd.ins)), (.slice xo2 nd.outs.length co2, .sl nd.outs.length (vrsD nd.outs)), (.slice xl2 nd.locs.length cl2, .sl nd.locs.length (vrsD nd.locs))] (k + 1) (qesD (nd.eqs.take (k + 1))) (xa.tmps.getD 84 undef) W := h84
                obtain ⟨V, hV⟩ : ∃ V, V = xa.tmps.getD 84 undef := ⟨_, rfl⟩
                rw [← hV] at r5
                obtain ⟨xn, cn, rfl, _, _⟩ := r5.slice
                refine wpOp_of rfl (wanted_none rfl) ?_
                refine wp_store_cell 47 (.tmp 85) (.tmp 84) rfl b 4 (.slice xn (k + 1) cn) _ h85_ hV.symm (cell_of_row W b 4 _ _ _ r3) (frozen_of_row W b 4 _ _ r3) size_qsl rfl ?_
                have hgs := gb_set W b 4 (.slice xn (k + 1) cn)
                have hbm := HBW.out
                have hwb := HBB.out
                have HQN := Lib.hid (show wEqs wo m b #[.string nd.name, .slice xi2 nd.ins.length ci2, .slice xo2 nd.outs.length co2, .slice xl2 nd.locs.length cl2, .slice xn (k + 1) cn, .int .i64 (nd.at_ : Int)] [(.slice xi2 nd.ins.length ci2, .sl nd.ins.length (vrsD nd.ins)), (.slice xo2 nd.outs.length co2, .sl nd.outs.length (vrsD nd.outs)), (.slice xl2 nd.locs.length cl2, .sl nd.locs.length (vrsD nd.locs))] (k + 1) (qesD (nd.eqs.take (k + 1))) (.slice xn (k + 1) cn) (W.setCell ⟨b, 4, none⟩ (.slice xn (k + 1) cn)) from
                  ⟨below_own r1 hgs (fun j hj => by injection hj with hj; omega), Nat.le_trans r2 hgs.size, heap_setCell_same W b 4 _ _ _ r3, r4.grown hgs (fun j hj hj' => by injection hj with hj; exact hj'.2.1 hj.symm), r5.kept hgs (fun j hj => by injection hj with hj; omega)⟩)
                clear r1 r2 r3 r4 r5 hgs hbm hwb
                have h0 : xa.tmps.getD 0 undef = .slice (some ⟨g, 0, none⟩) l.length c := hold 0 (by simp)
                have h1 : xa.tmps.getD 1 undef = undef := hold 1 (by simp)
                have h2 : xa.tmps.getD 2 undef = .slice none 0 0 := hold 2 (by simp)
                have h3 : xa.tmps.getD 3 undef = .slice xv i cv := hold 3 (by simp)
                have h4 : xa.tmps.getD 4 undef = .int .i64 (i : Int) := hold 4 (by simp)
                have h5 : xa.tmps.getD 5 undef = .pointer (some ⟨b, 0, none⟩) := hold 5 (by simp)
                have h6 : xa.tmps.getD 6 undef = .int .i64 (k : Int) := hold 6 (by simp)
                have h7 : xa.tmps.getD 7 undef = fo 7 := hold 7 (by simp)
                have h8 : xa.tmps.getD 8 undef = fo 8 := hold 8 (by simp)
                have h9 : xa.tmps.getD 9 undef = fo 9 := hold 9 (by simp)
                have h10 : xa.tmps.getD 10 undef = fo 10 := hold 10 (by simp)
                have h11 : xa.tmps.getD 11 undef = fo 11 := hold 11 (by simp)
                have h12 : xa.tmps.getD 12 undef = fo 12 := hold 12 (by simp)
                have h13 : xa.tmps.getD 13 undef = fo 13 := hold 13 (by simp)
                have h14 : xa.tmps.getD 14 undef = fo 14 := hold 14 (by simp)
                have h15 : xa.tmps.getD 15 undef = fo 15 := hold 15 (by simp)
                have h16 : xa.tmps.getD 16 undef = fo 16 := hold 16 (by simp)
                have h17 : xa.tmps.getD 17 undef = fo 17 := hold 17 (by simp)
                have h18 : xa.tmps.getD 18 undef = fo 18 := hold 18 (by simp)
                have h19 : xa.tmps.getD 19 undef = fo 19 := hold 19 (by simp)
                have h20 : xa.tmps.getD 20 undef = fo 20 := hold 20 (by simp)
                have h21 : xa.tmps.getD 21 undef = fo 21 := hold 21 (by simp)
                have h22 : xa.tmps.getD 22 undef = fo 22 := hold 22 (by simp)
                have h23 : xa.tmps.getD 23 undef = fo 23 := hold 23 (by simp)
                have h24 : xa.tmps.getD 24 undef = fo 24 := hold 24 (by simp)
                have h25 : xa.tmps.getD 25 undef = fo 25 := hold 25 (by simp)
                have h26 : xa.tmps.getD 26 undef = fo 26 := hold 26 (by simp)
                have h27 : xa.tmps.getD 27 undef = fo 27 := hold 27 (by simp)
                have h28 : xa.tmps.getD 28 undef = fo 28 := hold 28 (by simp)
                have h29 : xa.tmps.getD 29 undef = fo 29 := hold 29 (by simp)
                have h30 : xa.tmps.getD 30 undef = fo 30 := hold 30 (by simp)
                have h31 : xa.tmps.getD 31 undef = fo 31 := hold 31 (by simp)
                have h32 : xa.tmps.getD 32 undef = fo 32 := hold 32 (by simp)
                have h33 : xa.tmps.getD 33 undef = fo 33 := hold 33 (by simp)
                have h34 : xa.tmps.getD 34 undef = fo 34 := hold 34 (by simp)
                have h35 : xa.tmps.getD 35 undef = fo 35 := hold 35 (by simp)
                have h36 : xa.tmps.getD 36 undef = fo 36 := hold 36 (by simp)
                have h37 : xa.tmps.getD 37 undef = fo 37 := hold 37 (by simp)
                have h38 : xa.tmps.getD 38 undef = fo 38 := hold 38 (by simp)
                have h39 : xa.tmps.getD 39 undef = fo 39 := hold 39 (by simp)
                have h40 : xa.tmps.getD 40 undef = fo 40 := hold 40 (by simp)
                have h41 : xa.tmps.getD 41 undef = fo 41 := hold 41 (by simp)
                have h86 : xa.tmps.getD 86 undef = fo 86 := hold 86 (by simp)
                have h87 : xa.tmps.getD 87 undef = fo 87 := hold 87 (by simp)
                have h88 : xa.tmps.getD 88 undef = fo 88 := hold 88 (by simp)
                have h89 : xa.tmps.getD 89 undef = fo 89 := hold 89 (by simp)
                have h90 : xa.tmps.getD 90 undef = undef := hold 90 (by simp)
                have hsz_ : xa.tmps.size = 91 := hsz
                have hdf_ : xa.defers = [] := hdf
                obtain ⟨fi, hf, hx⟩ := act_eta hsz_ hdf_
                rw [hf] at h0 h1 h2 h3 h4 h5 h6 h7 h8 h9 h10 h11 h12 h13 h14 h15 h16 h17 h18 h19 h20 h21 h22 h23 h24 h25 h26 h27 h28 h29 h30 h31 h32 h33 h34 h35 h36 h37 h38 h39 h40 h41 h86 h87 h88 h89 h90
                clear hold h85_ hV hsz_ hdf_ hf
                subst hx
                have hl : ((List.range 91).map fi).toArray = #[fi 0, fi 1, fi 2, fi 3, fi 4, fi 5, fi 6, fi 7, fi 8, fi 9, fi 10, fi 11, fi 12, fi 13, fi 14, fi 15, fi 16, fi 17, fi 18, fi 19, fi 20, fi 21, fi 22, fi 23, fi 24, fi 25, fi 26, fi 27, fi 28, fi 29, fi 30, fi 31, fi 32, fi 33, fi 34, fi 35, fi 36, fi 37, fi 38, fi 39, fi 40, fi 41, fi 42, fi 43, fi 44, fi 45, fi 46, fi 47, fi 48, fi 49, fi 50, fi 51, fi 52, fi 53, fi 54, fi 55, fi 56, fi 57, fi 58, fi 59, fi 60, fi 61, fi 62, fi 63, fi 64, fi 65, fi 66, fi 67, fi 68, fi 69, fi 70, fi 71, fi 72, fi 73, fi 74, fi 75, fi 76, fi 77, fi 78, fi 79, fi 80, fi 81, fi 82, fi 83, fi 84, fi 85, fi 86, fi 87, fi 88, fi 89, fi 90] := rfl
                simp only [Exit.inBlock, Exit.then, Act.put]
                rw [hl, h0, h1, h2, h3, h4, h5, h6, h7, h8, h9, h10, h11, h12, h13, h14, h15, h16, h17, h18, h19, h20, h21, h22, h23, h24, h25, h26, h27, h28, h29, h30, h31, h32, h33, h34, h35, h36, h37, h38, h39, h40, h41, h86, h87, h88, h89, h90]
                clear hl h0 h1 h2 h3 h4 h5 h6 h7 h8 h9 h10 h11 h12 h13 h14 h15 h16 h17 h18 h19 h20 h21 h22 h23 h24 h25 h26 h27 h28 h29 h30 h31 h32 h33 h34 h35 h36 h37 h38 h39 h40 h41 h86 h87 h88 h89 h90
                have k0 : (0 : Int) ≤ (k : Int) := by omega
                have k1 : (k : Int) < (nd.eqs.length : Int) := by have := HKL.out; omega
                have k2 : (k : Int) < 1000000000 := by have := HKL.out; have := IsD.few HEQ.out; omega
                go_wp2_with fail
                refine ⟨⟨k + 1, xn, cn, by go_num, HKL.out, HQN.out⟩, ?_⟩
                simp [intOf]; omega
            · have d2 : decide ((k : Int) < (nd.eqs.length : Int)) = false := by simp; omega
              obtain rfl : k = nd.eqs.length := by have := HK2.out; omega
              clear hkl
              obtain ⟨q1, q2, q3, q4, q5⟩ := HQ.out
              rw [List.take_length] at q5
              have hbm := HBW.out
              have hwb := HBB.out
              have htr : IsD (wo.heap.size ≤ ·) (wr.alloc (.cells #[.string nd.name, .slice xi2 nd.ins.length ci2, .slice xo2 nd.outs.length co2, .slice xl2 nd.locs.length cl2, .slice xe2 nd.eqs.length ce2, .int .i64 (nd.at_ : Int)] 49)) (.slice (some ⟨wr.heap.size, 0, none⟩) 1 1) (.sl 1 (ndD nd)) := IsD.made 49 _ wr.heap.size rfl 1 (by decide) (by decide) (ndD nd) q1.size (ndC_rows (n := nd) ((q4 _ (List.mem_cons_self ..)).mono (fun j hj _ => hj.1)) ((q4 _ (List.mem_cons_of_mem _ (List.mem_cons_self ..))).mono (fun j hj _ => hj.1)) ((q4 _ (List.mem_cons_of_mem _ (List.mem_cons_of_mem _ (List.mem_cons_self ..)))).mono (fun j hj _ => hj.1)) ((q5.ends (IsD.few HEQ.out)).mono (fun j hj _ => by have : m - 1 < j := hj; show wo.heap.size ≤ j; omega)))
              have hba : Below wo.heap.size wo (wr.alloc (.cells #[.string nd.name, .slice xi2 nd.ins.length ci2, .slice xo2 nd.outs.length co2, .slice xl2 nd.locs.length cl2, .slice xe2 nd.eqs.length ce2, .int .i64 (nd.at_ : Int)] 49)) := q1.alloc q1.size _
              have HO7 := Lib.hid (HO.out.below hba)
              have HTR := Lib.hid htr
              have HBA := Lib.hid hba
              have hsb := hba.size
              have HBW2 := Lib.hid (show (w.heap.size - 1) + 1 ≤ (wr.alloc (.cells #[.string nd.name, .slice xi2 nd.ins.length ci2, .slice xo2 nd.outs.length co2, .slice xl2 nd.locs.length cl2, .slice xe2 nd.eqs.length ce2, .int .i64 (nd.at_ : Int)] 49)).heap.size by have := HW.out; have := HB.out.size; omega)
              have HOK := Lib.hid (show ∀ j, wo.heap.size ≤ j → (w.heap.size - 1) < j ∧ some j ≠ Value.ownBlock (.slice xv i cv) from fun j hj => ⟨by have := HW.out; have := HB.out.size; omega, fun e' => by have := (HO.out.gt j e'.symm).2; omega⟩)
              have HNM := Lib.hid (show i + 1 ≤ 100000000000 by have := HIL.out; have := IsD.few HK.out; omega)
              obtain ⟨i6, hi6, ⟨z6, hz6, hzs6⟩, hs6, hb6⟩ := HIN6.out
              have HI6 := Lib.hid hi6
              have HZ6 := Lib.hid hz6
              have HZS6 := Lib.hid hzs6
              have HS6 := Lib.hid hs6
              have HB6 := Lib.hid hb6
              clear q1 q2 q3 q4 q5 hbm hwb htr hba hsb hi6 hz6 hzs6 hs6 hb6
              go_wp2_with (first | (refine wpList_load_row rfl 49 (.tmp 5) rfl b rfl 49 #[.string nd.name, .slice xi2 nd.ins.length ci2, .slice xo2 nd.outs.length co2, .slice xl2 nd.locs.length cl2, .slice xe2 nd.eqs.length ce2, .int .i64 (nd.at_ : Int)] (0, 0) _ HRB.out Try.underlying49 rfl HSN.out ?_) | (refine wpList_appT rfl (.tmp 86) (.tmp 88) 26 rfl i6 z6 120 Try.underlying26 HI6.out HZ6.out HS6.out HB6.out HZS6.out (by decide) (by decide) rfl HO7.out HBW2.out wr.heap.size 1 1 rfl (ndD nd) (by rw [ndD_len]) (by decide) HTR.out (ndD_one nd) (fun k hk hl => HOK.out k hk) HNM.out ?_))
              intro v8 w8 hO8 hg8 _
              rw [HND.out, ndsD_take HIL.out] at hO8
              have HBN := Lib.hid (below_own (HB.out.trans (HBA.out.mono HB.out.size)) hg8 (fun j hj => by have := (HO7.out.gt j hj).1; omega))
              have HON := Lib.hid hO8
              clear hO8 hg8 cE
              go_wp2_with fail
              refine ⟨⟨_, i + 1, rfl, by go_num, HIL.out, HBN.out, HON.out⟩, ?_⟩
              simp [intOf]; omega
    · have d1 : decide ((i : Int) < (l.length : Int)) = false := by simp; omega
      obtain rfl : i = l.length := by have := HI.out; omega
      clear hil
      go_wp2_with fail
      go_ret
      have h := HO.out
      rw [List.take_length] at h
      exact ⟨xv, cv, rfl, (h.ends (IsD.few HK.out)).mono (fun k hk _ => by have : (w.heap.size - 1) < k := hk; show w.heap.size ≤ k; omega), HB.out⟩
end Go.Proofs.Ytejljfoacbpliaa

namespace Go.Proofs.Ytejljfoacbpliaa
open Go Go.RowKit
structure Fx (w0 : World) (bl : List (Nat × TypeId × Array Value)) (w : World) : Prop where
  below : Below w0.heap.size w0 w
  blk : ∀ x ∈ bl, w.heap[x.1]? = some (.cells x.2.2 x.2.1 (0, 0)) ∧ w0.heap.size ≤ x.1
  srt : bl.Pairwise (fun x y => x.1 < y.1)
theorem Fx.start (w : World) : Fx w [] w := ⟨Below.refl _ _, fun x hx => by simp at hx, List.Pairwise.nil⟩
theorem Fx.lt {w0 w : World} {bl : List (Nat × TypeId × Array Value)} (h : Fx w0 bl w) : ∀ x ∈ bl, x.1 < w.heap.size := fun x hx => (Array.getElem?_eq_some_iff.1 (h.blk x hx).1).1
theorem Fx.get {w0 w : World} {bl : List (Nat × TypeId × Array Value)} (h : Fx w0 bl w) (i : Nat) {b : Nat} {T : TypeId} {cs : Array Value} (hi : bl[i]? = some (b, T, cs)) : w.heap[b]? = some (.cells cs T (0, 0)) :=
  (h.blk _ (List.mem_of_getElem? hi)).1
theorem Fx.ge {w0 w : World} {bl : List (Nat × TypeId × Array Value)} (h : Fx w0 bl w) (i : Nat) {b : Nat} {T : TypeId} {cs : Array Value} (hi : bl[i]? = some (b, T, cs)) : w0.heap.size ≤ b :=
  (h.blk _ (List.mem_of_getElem? hi)).2
theorem Fx.lt_ {w0 w : World} {bl : List (Nat × TypeId × Array Value)} (h : Fx w0 bl w) (i : Nat) {b : Nat} {T : TypeId} {cs : Array Value} (hi : bl[i]? = some (b, T, cs)) : b < w.heap.size :=
  h.lt _ (List.mem_of_getElem? hi)
theorem Fx.call {w0 w w' : World} {bl : List (Nat × TypeId × Array Value)} (h : Fx w0 bl w) (hb : Below w.heap.size w w') : Fx w0 bl w' :=
  ⟨h.below.trans (hb.mono h.below.size), fun x hx => ⟨(hb.block x.1 (h.lt x hx)).trans (h.blk x hx).1, (h.blk x hx).2⟩, h.srt⟩
theorem Fx.own {w0 w w' : World} {bl : List (Nat × TypeId × Array Value)} {row : Option Nat} (h : Fx w0 bl w) (hg : w.grownBy w' row) (hr : ∀ k, row = some k → w0.heap.size ≤ k ∧ ∀ x ∈ bl, k ≠ x.1) : Fx w0 bl w' :=
  ⟨below_own h.below hg (fun k hk => (hr k hk).1), fun x hx => ⟨(hg.block x.1 (h.lt x hx) (fun e => (hr x.1 e.symm).2 x hx rfl)).trans (h.blk x hx).1, (h.blk x hx).2⟩, h.srt⟩
theorem Fx.alloc {w0 w : World} {bl : List (Nat × TypeId × Array Value)} (h : Fx w0 bl w) (b : Nat) (hb : b = w.heap.size) (T : TypeId) (cs : Array Value) : Fx w0 (bl ++ [(b, T, cs)]) (w.alloc (.cells cs T)) := by
  subst hb
  have hbel : Below w.heap.size w (w.alloc (.cells cs T)) := (Below.refl _ _).alloc (Nat.le_refl _) _
  refine ⟨(h.call hbel).below, fun x hx => ?blk, List.pairwise_append.2 ⟨h.srt, List.pairwise_singleton _ _, fun x hx y hy => ?srt⟩⟩
  case blk =>
    rcases List.mem_append.1 hx with hx | hx
    · exact (h.call hbel).blk x hx
    · simp only [List.mem_cons, List.not_mem_nil, or_false] at hx
      subst hx
      exact ⟨heap_alloc_new w _, h.below.size⟩
  case srt =>
    simp only [List.mem_cons, List.not_mem_nil, or_false] at hy
    subst hy
    exact h.lt x hx
theorem Fx.make {w0 w : World} {bl : List (Nat × TypeId × Array Value)} (h : Fx w0 bl w) (o : Obj) : Fx w0 bl (w.alloc o) :=
  h.call ((Below.refl _ _).alloc (Nat.le_refl _) _)
theorem Fx.other {w0 w : World} {bl : List (Nat × TypeId × Array Value)} (h : Fx w0 bl w) {i j : Nat} {x y : Nat × TypeId × Array Value} (hi : bl[i]? = some x) (hj : bl[j]? = some y) (hne : j ≠ i) : y.1 ≠ x.1 := by
  obtain ⟨hi1, hi2⟩ := List.getElem?_eq_some_iff.1 hi
  obtain ⟨hj1, hj2⟩ := List.getElem?_eq_some_iff.1 hj
  have hp := List.pairwise_iff_getElem.1 h.srt
  rcases Nat.lt_or_gt_of_ne hne with hl | hl
  · have := hp j i hj1 hi1 hl
    rw [hi2, hj2] at this
    omega
  · have := hp i j hi1 hj1 hl
    rw [hi2, hj2] at this
    omega
theorem Fx.turn {w0 w w' : World} {bl : List (Nat × TypeId × Array Value)} (h : Fx w0 bl w) (i : Nat) {b : Nat} {T : TypeId} {cs : Array Value} (hi : bl[i]? = some (b, T, cs)) (cs' : Array Value)
    (hs : w.heap.size = w'.heap.size) (ho : ∀ k, k ≠ b → w'.heap[k]? = w.heap[k]?) (hb : w'.heap[b]? = some (.cells cs' T (0, 0))) (h1 : w'.os = w.os) (h2 : w'.tape = w.tape) (h3 : w'.output = w.output) : Fx w0 (bl.set i (b, T, cs')) w' := by
  have hge := h.ge i hi
  have hil : i < bl.length := (List.getElem?_eq_some_iff.1 hi).1
  have hfst : ∀ (j : Nat) (x : Nat × TypeId × Array Value), (bl.set i (b, T, cs'))[j]? = some x → ∃ y, bl[j]? = some y ∧ y.1 = x.1 := fun j x hx => by
    rw [List.getElem?_set] at hx
    split at hx
    · rename_i e
      subst e
      simp only [hil, if_true, Option.some.injEq] at hx
      exact ⟨_, hi, by rw [← hx]⟩
    · exact ⟨x, hx, rfl⟩
  refine ⟨⟨h1.trans h.below.os, h2.trans h.below.tape, h3.trans h.below.output, by rw [← hs]; exact h.below.size, fun k hk => (ho k (by omega)).trans (h.below.block k hk)⟩, fun x hx => ?_, ?_⟩
  · obtain ⟨j, hj⟩ := List.getElem?_of_mem hx
    by_cases e : j = i
    · subst e
      rw [List.getElem?_set_self hil] at hj
      simp only [Option.some.injEq] at hj
      subst hj
      exact ⟨hb, hge⟩
    · rw [List.getElem?_set_ne (Ne.symm e)] at hj
      have := h.other hi hj e
      exact ⟨(ho x.1 this).trans (h.blk x (List.mem_of_getElem? hj)).1, (h.blk x (List.mem_of_getElem? hj)).2⟩
  · rw [List.pairwise_iff_getElem]
    intro a b' ha hb' hab
    obtain ⟨y1, hy1, e1⟩ := hfst a _ (List.getElem?_eq_getElem ha)
    obtain ⟨y2, hy2, e2⟩ := hfst b' _ (List.getElem?_eq_getElem hb')
    rw [← e1, ← e2]
    obtain ⟨l1, r1⟩ := List.getElem?_eq_some_iff.1 hy1
    obtain ⟨l2, r2⟩ := List.getElem?_eq_some_iff.1 hy2
    have := List.pairwise_iff_getElem.1 h.srt a b' l1 l2 hab
    rw [r1, r2] at this
    exact this
theorem Fx.store {w0 w : World} {bl : List (Nat × TypeId × Array Value)} (h : Fx w0 bl w) (i : Nat) {b : Nat} {T : TypeId} {cs : Array Value} (hi : bl[i]? = some (b, T, cs)) (cs' : Array Value) : Fx w0 (bl.set i (b, T, cs')) (w.setRow b cs') :=
  h.turn i hi cs' (by rw [setRow_size]) (fun k hk => setRow_other w b k _ hk) (setRow_heap w b _ cs' _ _ (h.get i hi)) rfl rfl rfl
theorem Fx.cell {w0 w : World} {bl : List (Nat × TypeId × Array Value)} (h : Fx w0 bl w) (i : Nat) {b : Nat} {T : TypeId} {cs : Array Value} (hi : bl[i]? = some (b, T, cs)) (j : Nat) (v : Value) : Fx w0 (bl.set i (b, T, cs.setIfInBounds j v)) (w.setCell ⟨b, j, none⟩ v) :=
  h.turn i hi _ (by simp) (fun k hk => heap_setCell_other w ⟨b, j, none⟩ k v hk) (heap_setCell_same w b j _ _ v (h.get i hi)) rfl rfl rfl
theorem Fx.first {w0 w : World} {bl cl : List (Nat × TypeId × Array Value)} (h : Fx w0 (bl ++ cl) w) : Fx w0 bl w :=
  ⟨h.below, fun x hx => h.blk x (List.mem_append_left _ hx), (List.pairwise_append.1 h.srt).1⟩
theorem RowsD.flat {ok ok' : Nat → Prop} {w w' : World} : ∀ (xs : List Value) (ds : List Dt), RowsD ok w xs ds → (∀ d ∈ ds, ∃ x, d = .v x) → RowsD ok' w' xs ds
  | [], [], _, _ => trivial
  | x :: xs, d :: ds, ⟨h1, h2⟩, hp => by
    obtain ⟨y, rfl⟩ := hp d (List.mem_cons_self ..)
    refine ⟨?_, RowsD.flat xs ds h2 (fun d hd => hp d (List.mem_cons_of_mem _ hd))⟩
    unfold IsD at h1 ⊢
    exact h1
  | [], _ :: _, h, _ => h.elim
  | _ :: _, [], h, _ => h.elim
theorem run_append_hollow {P : Program} (w : World) (t ty e : TypeId) (i : TypeInfo) (ht : P.underlying t = some (.slice e)) (hi : P.info? e = some i) (x : Option Addr) (n c : Nat) (y : Option Addr) (c' : Nat) (hn : n ≤ c) :
    (Builtin.append_ #[t, t] ty #[.slice x n c, .slice y 0 c']).run P w = .ok (.slice x n c) w := by
  cases x <;> cases y <;> simp [Builtin.append_, run_underlying ht, sizeOf, typeInfo, hi, Builtin.lenOf, hn, Builtin.firstCells, loadCells, loadCellsFrom, storeCells]
theorem wpList_appP {P : Program} {ops : Array Oper} {rest : List Oper} {o : Oper} {a : Act} {Q : Exit → Act → World → Prop} (hgd : o.guard = none) (s x : Operand) (t : TypeId) (ho : o.op = .call { callee := .builtin .append, args := #[s, x], argTypes := #[t, t] })
    {T : TypeId} {sz : Nat} {w : World} {b : Nat} {v : Value} {n : Nat} {ds : List Dt} (i : TypeInfo) (z : Value) (bytes : Nat) (ht : P.underlying t = some (.slice T)) (hi : P.info? T = some i) (hz : i.zero = some z)
    (hsize : i.size = sz) (hby : i.bytes = bytes) (hzs : z.cells.size = sz) (hsz : 0 < sz) (hbl : bytes ≤ 1000)
    (hs : a.eval s = v) (h : OwnD T sz w b v n ds) (hbw : b + 1 ≤ w.heap.size) {ok : Nat → Prop} {u : Value} {m : Nat} (es : List Dt) (hx : a.eval x = u) (hd : IsD ok w u (.sl m es)) (hl : es.length = m * sz) (hp : ∀ d ∈ es, ∃ x, d = .v x) (hone : ∀ d ∈ es, d.one) (hnm : n + m ≤ 100000000000)
    (hK : ∀ v' w', OwnD T sz w' b v' (n + m) (ds ++ es) → w.grownBy w' v.ownBlock → (v'.ownBlock = v.ownBlock ∨ v'.ownBlock = some w.heap.size) → wpList P ops Q rest (a.put o.dst v') w') :
    wpList P ops Q (o :: rest) a w := by
  by_cases hm : m = 0
  · subst hm
    obtain ⟨xx, cc, rfl, _, _⟩ := hd.slice
    obtain ⟨xv, cv, rfl, hnc, _⟩ := h.slice
    obtain rfl := hd.zero rfl
    have hr := run_append_hollow (P := P) w t o.type T i ht hi xv n cv xx cc hnc
    refine wpList_plain hgd fun K hK' => ?_
    unfold Oper.wp
    simp [execOp, ho, resolve, invoke, builtin, hs, hx, hr, Result.andThen]
    exact hK' _ _ (hK _ w (by rw [List.append_nil]; exact h) ⟨rfl, rfl, rfl, Nat.le_refl _, fun _ _ _ => rfl⟩ (.inl rfl))
  · obtain ⟨xx, cc, rfl, _, _⟩ := hd.slice
    obtain ⟨g, rfl, _, _, hds⟩ := hd.some_ (by omega)
    obtain ⟨news, hr, hcells⟩ := hds.rows
    obtain ⟨v', w', hrun, j1, j2, j3⟩ := h.append (P := P) t o.type i z bytes ht hi hz hsize hby hzs hsz hbl hbw (ok := fun _ => False) g 0 m cc news es hl (hr.flat _ _ hp) hcells hone (fun k hk => hk.elim) hnm
    refine wpList_plain hgd fun K hK' => ?_
    unfold Oper.wp
    simp [execOp, ho, resolve, invoke, builtin, hs, hx, hrun, Result.andThen]
    exact hK' _ _ (hK v' w' j1 j2 j3)
theorem wpList_appH {P : Program} {ops : Array Oper} {rest : List Oper} {o : Oper} {a : Act} {Q : Exit → Act → World → Prop} (hgd : o.guard = none) (s x : Operand) (t : TypeId) (ho : o.op = .call { callee := .builtin .append, args := #[s, x], argTypes := #[t, t] })
    {T : TypeId} {sz : Nat} {w : World} {b : Nat} {v : Value} {n : Nat} {ds : List Dt} (bytes : Nat) (ht : P.underlying t = some (.slice T)) (hin : ∃ i, P.info? T = some i ∧ (∃ z, i.zero = some z ∧ z.cells.size = sz) ∧ i.size = sz ∧ i.bytes = bytes) (hsz : 0 < sz) (hbl : bytes ≤ 1000)
    (hs : a.eval s = v) (h : OwnD T sz w b v n ds) (hbw : b + 1 ≤ w.heap.size) {ok : Nat → Prop} {u : Value} {m : Nat} (es : List Dt) (hx : a.eval x = u) (hd : IsD ok w u (.sl m es)) (hl : es.length = m * sz) (hp : ∀ d ∈ es, ∃ x, d = .v x) (hone : ∀ d ∈ es, d.one) (hnm : n + m ≤ 100000000000)
    (hK : ∀ v' w', OwnD T sz w' b v' (n + m) (ds ++ es) → w.grownBy w' v.ownBlock → (v'.ownBlock = v.ownBlock ∨ v'.ownBlock = some w.heap.size) → wpList P ops Q rest (a.put o.dst v') w') :
    wpList P ops Q (o :: rest) a w := by
  obtain ⟨i, hi, ⟨z, hz, hzs⟩, hsize, hby⟩ := hin
  exact wpList_appP hgd s x t ho i z bytes ht hi hz hsize hby hzs hsz hbl hs h hbw es hx hd hl hp hone hnm hK
theorem new_row (w : World) (T : TypeId) (z cs : Array Value) : Below w.heap.size w ((w.alloc (.cells z T)).setRow w.heap.size cs) ∧ ((w.alloc (.cells z T)).setRow w.heap.size cs).heap[w.heap.size]? = some (.cells cs T (0, 0)) :=
  ⟨below_setRow ((Below.refl _ _).alloc (Nat.le_refl _) _) (Nat.le_refl _) _, setRow_heap _ _ _ _ _ _ (heap_alloc_new w _)⟩
end Go.Proofs.Ytejljfoacbpliaa

namespace Go.Proofs.Ytejljfoacbpliaa
open Go Go.RowKit
def treeOf (t : ByteArray) : List Nd := match parse4 t with
  | .ok l => l
  | .error _ => []
def perOf (t : ByteArray) : Nat := match parse4 t with
  | .ok _ => 0
  | .error (e, _) => e
def patOf (t : ByteArray) : Nat := match parse4 t with
  | .ok _ => 0
  | .error (_, a) => a
theorem parse_at (t : ByteArray) (w : World) (hs : t.size ≤ 140737488351232) : Calls Try.prog 41 #[.string t] w (fun e w' => ∃ x c, e = .returned (.tuple #[.slice x (treeOf t).length c, .agg #[.int .i64 (perOf t : Int), .int .i64 (patOf t : Int)]]) ∧ IsD (w.heap.size ≤ ·) w' (.slice x (treeOf t).length c) (.sl (treeOf t).length (ndsD (treeOf t))) ∧ Below w.heap.size w w') := by
  refine (Parse4_any t w hs).mono ?_
  intro e w' h
  unfold GivesP4 at h
  unfold treeOf perOf patOf
  cases hp : parse4 t with
  | error ep =>
    obtain ⟨er, ea⟩ := ep
    rw [hp] at h
    exact ⟨none, 0, h.2, IsD.nil (Nat.zero_le _), h.1⟩
  | ok l =>
    rw [hp] at h
    obtain ⟨hb, v, he, ho, hl⟩ := h
    obtain ⟨x, c, rfl, _, _⟩ := ho.slice
    exact ⟨x, c, he, (ho.ends (by omega)).mono (fun k hk _ => Nat.le_of_lt hk), hb⟩
def wordLL (s : List UInt8) (x : Nat × Nat × Int × Nat) : W4 := ⟨x.1, ⟨((s.drop x.2.2.2).take x.2.1).toArray⟩, x.2.2.1, x.2.2.2⟩
def parseL (s : List UInt8) : Except (Nat × Nat) (List Nd) :=
  match cutAll s with
  | .error e => .error e
  | .ok d => nodes4 (d.map (wordLL s))
theorem extract_list (s : ByteArray) (a n : Nat) : s.extract a (a + n) = ⟨((s.data.toList.drop a).take n).toArray⟩ := by
  apply ByteArray.ext
  rw [ByteArray.data_extract]
  apply Array.ext'
  rw [Array.toList_extract, List.extract_eq_take_drop]
  simp
theorem parse4_list (s : ByteArray) : parse4 s = parseL s.data.toList := by
  unfold parse4 parseL
  cases cutAll s.data.toList with
  | error e => rfl
  | ok d =>
    have e : words4 s d = d.map (wordLL s.data.toList) := by
      unfold words4
      refine List.map_congr_left fun x _ => ?_
      unfold wordL4 wordLL
      rw [extract_list]
    show nodes4 (words4 s d) = nodes4 (d.map (wordLL s.data.toList))
    rw [e]
def treeL (s : List UInt8) : List Nd := match parseL s with
  | .ok l => l
  | .error _ => []
theorem treeOf_list (s : ByteArray) : treeOf s = treeL s.data.toList := by
  unfold treeOf treeL
  rw [parse4_list]
end Go.Proofs.Ytejljfoacbpliaa

namespace Go.Proofs.Ytejljfoacbpliaa
open Go Go.RowKit Go.Maps
section
variable {P : Program} {w w' : World} {k : TypeId} {b n : Nat} {f : List UInt8 → Option Value}
def readV (v : Value) : Option (DataW Value × List MemPlace) := some (.held v, [])
def MapO (P : Program) (k : TypeId) (w : World) (b n : Nat) (f : List UInt8 → Option Value) : Prop :=
  ∃ D : DataW Value, w.ownsMap P k readV b n D ∧ ∀ s : List UInt8, Maps.has D (.string s) = (f s).isSome ∧ ∀ z, D.atKey (.string s) z = match f s with | some v => .held v | none => z
theorem MapO.made (P : Program) (k : TypeId) (w : World) : MapO P k (w.alloc (.map #[] 0)) w.heap.size 0 (fun _ => none) :=
  ⟨_, World.ownsMap_made w P k readV, fun s => ⟨rfl, fun z => rfl⟩⟩
theorem MapO.lt (h : MapO P k w b n f) : b < w.heap.size := by
  obtain ⟨D, h1, _⟩ := h
  exact h1.lt
theorem MapO.mono (h : MapO P k w b n f) {n' : Nat} (hn : n ≤ n') : MapO P k w b n' f := by
  obtain ⟨D, h1, h2⟩ := h
  exact ⟨D, h1.mono hn, h2⟩
theorem MapO.kept {row : Option Nat} (h : MapO P k w b n f) (hg : w.grownBy w' row) (hne : some b ≠ row) : MapO P k w' b n f := by
  obtain ⟨D, h1, h2⟩ := h
  exact ⟨D, h1.kept hg hne, h2⟩
theorem MapO.below (h : MapO P k w b n f) (hb : Below w.heap.size w w') : MapO P k w' b n f :=
  h.kept (row := none) ⟨hb.os, hb.tape, hb.output, hb.size, fun j hj _ => hb.block j hj⟩ (by simp)
theorem MapO.look {t e : TypeId} (h : MapO P k w b n f) (hk : P.underlying k = some .string) (ht : P.underlying t = some (.map k e)) {z : Value} (hz : (zeroValue e).run P w = .ok z w) (s : ByteArray) (hs : s.size ≤ maxLen) :
    (Instr.lookup t (.map (some b)) (.string s) false).run P w = .ok ((f s.data.toList).getD z) w := by
  obtain ⟨D, h1, h2⟩ := h
  obtain ⟨v, ps, hr, hv⟩ := h1.lookup (string_keyed hk) ht hz (zd := .held z) rfl (WideMaps.keyOf_string_mk hk hs)
  rw [(h2 _).2] at hv
  unfold readV at hv
  rw [hr]
  cases hf : f s.data.toList with
  | none => rw [hf] at hv; injection hv with hv; injection hv with hv; injection hv with hv; rw [hv]; rfl
  | some u => rw [hf] at hv; injection hv with hv; injection hv with hv; injection hv with hv; rw [hv]; rfl
theorem MapO.look_ok {t e : TypeId} (h : MapO P k w b n f) (hk : P.underlying k = some .string) (ht : P.underlying t = some (.map k e)) {z : Value} (hz : (zeroValue e).run P w = .ok z w) (s : ByteArray) (hs : s.size ≤ maxLen) :
    (Instr.lookup t (.map (some b)) (.string s) true).run P w = .ok (.tuple #[(f s.data.toList).getD z, .bool (f s.data.toList).isSome]) w := by
  obtain ⟨D, h1, h2⟩ := h
  obtain ⟨v, ps, hr, hv⟩ := h1.look_ok (string_keyed hk) ht hz (zd := .held z) rfl (WideMaps.keyOf_string_mk hk hs)
  rw [(h2 _).2] at hv
  rw [(h2 _).1] at hr
  unfold readV at hv
  rw [hr]
  cases hf : f s.data.toList with
  | none => rw [hf] at hv; injection hv with hv; injection hv with hv; injection hv with hv; rw [hv]; rfl
  | some u => rw [hf] at hv; injection hv with hv; injection hv with hv; injection hv with hv; rw [hv]; rfl
theorem MapO.update {t e : TypeId} (h : MapO P k w b n f) (hk : P.underlying k = some .string) (ht : P.underlying t = some (.map k e)) (hn : n < maxLen) (s : ByteArray) (hs : s.size ≤ maxLen) (v : Value) :
    ∃ w', (Instr.mapUpdate t (.map (some b)) (.string s) v).run P w = .ok () w' ∧ MapO P k w' b (n + 1) (fun x => if x = s.data.toList then some v else f x) ∧ w.grownBy w' (some b) := by
  obtain ⟨D, h1, h2⟩ := h
  obtain ⟨w', hr, h3, h4⟩ := h1.update (string_keyed hk) ht hn (WideMaps.keyOf_string_mk hk hs) (val := v) (d := .held v) (ps := []) rfl
  refine ⟨w', hr, ⟨_, h3, fun x => ?_⟩, h4⟩
  by_cases hx : x = s.data.toList
  · subst hx
    simp only [if_true]
    exact ⟨has_put_same h1.isMap (show WideAt.IsKeyLit (.string s.data.toList) from True.intro) _, fun z => atKey_put_same h1.isMap (show WideAt.IsKeyLit (.string s.data.toList) from True.intro) _ _⟩
  · simp only [hx, if_false]
    have hne : Lit.string x ≠ Lit.string s.data.toList := fun e => by injection e with e; exact hx e
    rw [has_put_other hne]
    exact ⟨(h2 x).1, fun z => by rw [atKey_put_other hne]; exact (h2 x).2 z⟩
end
end Go.Proofs.Ytejljfoacbpliaa

namespace Go.Proofs.Ytejljfoacbpliaa
open Go Go.RowKit
theorem size_flt : (Try.prog.info? 32).map (·.size) = some 2 := by kernel_rfl
def GivesF (er at_ : Int) (w : World) (e : Ending) (w' : World) : Prop := e = .returned (.agg #[.int .i64 er, .int .i64 at_]) ∧ Below w.heap.size w w'
set_option maxHeartbeats 4000000 in
set_option maxRecDepth 100000 in
theorem typFault_any (at_ : Int) (w : World) : Calls Try.prog 85 #[.int .i64 at_] w (GivesF 9 at_ w) := by
  have hn := heap_alloc_new w (.cells #[.int .i64 0, .int .i64 0] 32)
  have HB := Lib.hid ((Below.refl w.heap.size w).alloc (Nat.le_refl _) (.cells #[.int .i64 0, .int .i64 0] 32))
  have HN := Lib.hid hn
  have HSF := Lib.hid size_flt
  have HST := Lib.hid (setRow_heap (w.alloc (.cells #[.int .i64 0, .int .i64 0] 32)) w.heap.size _ #[.int .i64 9, .int .i64 at_] _ _ hn)
  clear hn
  go_enter Try.func85, Try.ntmps85
  go_wp2_with (refine wpList_store_row rfl 32 (.tmp 2) (.tmp 4) rfl w.heap.size #[.int .i64 9, .int .i64 at_] rfl rfl 32 _ HN.out HSF.out rfl (fault_one _ _) ?_)
  refine bodyPost_ret (v := .agg #[.int .i64 9, .int .i64 at_]) (results_cell_row (p := 2) (ty := 32) rfl _ _ w.heap.size 32 _ (0, 0) _ rfl HST.out Try.underlying32 rfl HSF.out) rfl ?_
  exact ⟨rfl, below_setRow HB.out (Nat.le_refl _) _⟩
end Go.Proofs.Ytejljfoacbpliaa

namespace Go.Proofs.Ytejljfoacbpliaa
open Go Go.RowKit
theorem zero_kind (w : World) : (zeroValue 39).run Try.prog w = .ok (.int .i64 0) w := by kernel_rfl
def Kinds (w : World) (b n : Nat) (g : List UInt8 → Option Int) : Prop := MapO Try.prog 9 w b n (fun s => (g s).map (Value.int .i64))
def kindOf (g : List UInt8 → Option Int) (s : ByteArray) : Int := (g s.data.toList).getD 0
theorem Kinds.look {w : World} {b n : Nat} {g : List UInt8 → Option Int} (h : Kinds w b n g) (s : ByteArray) (hs : s.size ≤ maxLen) : (Instr.lookup 86 (.map (some b)) (.string s) false).run Try.prog w = .ok (.int .i64 (kindOf g s)) w := by
  have := MapO.look h Try.underlying9 Try.underlying86 (zero_kind w) s hs
  rw [this]
  unfold kindOf
  cases g s.data.toList <;> rfl
def chosenK (g : List UInt8 → Option Int) (s : ByteArray) (k : Int) : Int := if kindOf g s = 1 then k else 0
set_option maxHeartbeats 4000000 in
set_option maxRecDepth 100000 in
theorem chosen_any (w : World) (x : Option Addr) (l c b n : Nat) (g : List UInt8 → Option Int) (h : Kinds w b n g) (nm : ByteArray) (hs : nm.size ≤ maxLen) (k : Int) : Calls Try.prog 125 #[.agg #[.slice x l c, .map (some b)], .string nm, .int .i64 k] w (fun e w' => e = .returned (.int .i64 (chosenK g nm k)) ∧ Below w.heap.size w w') := by
  have hb : Below w.heap.size w (w.alloc (.cells #[.slice x l c, .map (some b)] 88)) := (Below.refl _ _).alloc (Nat.le_refl _) _
  have hn := heap_alloc_new w (.cells #[.slice x l c, .map (some b)] 88)
  have c1 := cell_of_row _ w.heap.size 1 _ _ _ hn
  have hl := Kinds.look (MapO.below h hb) nm hs
  have HB := Lib.hid hb
  unfold chosenK
  obtain ⟨q, hq⟩ : ∃ q, q = kindOf g nm := ⟨_, rfl⟩
  rw [← hq] at hl ⊢
  clear hn hb h hq
  by_cases h1 : q = 1
  · have d1 : (q != 1) = false := by simp [h1]
    rw [if_pos h1]
    clear h1
    go_enter Try.func125, Try.ntmps125
    go_wp2_with fail
    go_ret
    exact ⟨rfl, HB.out⟩
  · have d1 : (q != 1) = true := by simp [h1]
    rw [if_neg h1]
    clear h1
    go_enter Try.func125, Try.ntmps125
    go_wp2_with fail
    go_ret
    exact ⟨rfl, HB.out⟩
end Go.Proofs.Ytejljfoacbpliaa

namespace Go.Proofs.Ytejljfoacbpliaa
open Go Go.RowKit
def ksD (l : List Int) : List Dt := l.map (fun k => .v (.int .i64 k))
theorem ksD_flat (l : List Int) : ksD l = l.flatMap (fun k => [Dt.v (.int .i64 k)]) := by
  induction l with
  | nil => rfl
  | cons a r ih => rw [List.flatMap_cons, ← ih]; rfl
theorem ks_at {ok : Nat → Prop} {w : World} {l : List Int} {x : Option Addr} {c : Nat} (h : IsD ok w (.slice x l.length c) (.sl l.length (ksD l))) (i : Nat) (hi : i < l.length) : ∃ g, x = some ⟨g, 0, none⟩ ∧ g < w.heap.size ∧ w.cell? ⟨g, i, none⟩ = some (.int .i64 l[i]) := by
  obtain ⟨g, e1, _, e3, e4⟩ := IsD.some_ h (by omega)
  rw [ksD_flat] at e4
  have h5 := IsDs.nth (f := fun k : Int => [Dt.v (.int .i64 k)]) (sz := 1) (fun _ => rfl) l i 0 hi e4
  rw [Nat.zero_add, Nat.mul_one] at h5
  unfold IsDs at h5
  obtain ⟨⟨u, q1, q2⟩, _⟩ := h5
  unfold IsD at q2
  subst q2
  exact ⟨g, e1, e3, q1⟩
theorem belowN {B : Nat} {w w' : World} (h : Below B w w') (n : Nat) : Below B w (w'.drewN n) := ⟨h.os, h.tape, h.output, h.size, h.block⟩
set_option maxHeartbeats 4000000 in
set_option maxRecDepth 100000 in
theorem equalK_any (a b : List Int) (w : World) (ok ok' : Nat → Prop) (x y : Option Addr) (c d : Nat) (ha : IsD ok w (.slice x a.length c) (.sl a.length (ksD a))) (hb : IsD ok' w (.slice y b.length d) (.sl b.length (ksD b))) :
    Calls Try.prog 88 #[.slice x a.length c, .slice y b.length d] w (fun e w' => e = .returned (.bool (a == b)) ∧ Below w.heap.size w w') := by
  have HA := Lib.hid ha
  have HB := Lib.hid hb
  obtain ⟨R, hR⟩ : ∃ R, R = (a == b) := ⟨_, rfl⟩
  rw [← hR]
  have HR := Lib.hid hR
  clear ha hb hR
  by_cases hn : a.length = b.length
  · have d1 : ((a.length : Int) != (b.length : Int)) = false := by rw [hn]; simp
    have HN := Lib.hid hn
    clear hn
    go_enter Try.func88, Try.ntmps88
    go_wp2_with fail
    go_loopw [13] (fun v13 wr => ∃ i : Nat, v13 = .int .i64 (i : Int) ∧ i ≤ a.length ∧ Below w.heap.size w wr ∧ (a.drop i == b.drop i) = R)
      (fun v13 _ => a.length - (intOf v13).toNat)
    case atStart => exact ⟨0, rfl, Nat.zero_le _, Below.refl _ _, HR.out.symm⟩
    case round =>
      obtain ⟨i, rfl, hi, hbw, hq⟩ := hrel
      have HBW := Lib.hid hbw
      have HI := Lib.hid hi
      clear hbw hi
      by_cases hil : i < a.length
      · have d2 : decide ((i : Int) < (a.length : Int)) = true := by simp; omega
        have HIL := Lib.hid hil
        have HIB := Lib.hid (show i < b.length by have := HN.out; omega)
        rw [List.drop_eq_getElem_cons hil, List.drop_eq_getElem_cons HIB.out] at hq
        obtain ⟨g1, rfl, l1, k1⟩ := ks_at HA.out i hil
        obtain ⟨g2, rfl, l2, k2⟩ := ks_at HB.out i HIB.out
        obtain ⟨p, hp⟩ : ∃ p, p = a[i]'HIL.out := ⟨_, rfl⟩
        obtain ⟨q, hqq⟩ : ∃ q, q = b[i]'HIB.out := ⟨_, rfl⟩
        rw [← hp] at k1 hq
        rw [← hqq] at k2 hq
        have e1 := HBW.out.block g1 l1
        have e2 := HBW.out.block g2 l2
        have j1 : wr.cell? ⟨g1, i, none⟩ = some (.int .i64 p) := by simp only [World.cell?] at k1 ⊢; rw [e1]; exact k1
        have j2 : wr.cell? ⟨g2, i, none⟩ = some (.int .i64 q) := by simp only [World.cell?] at k2 ⊢; rw [e2]; exact k2
        have HQ := Lib.hid hq
        clear hil hq k1 k2 e1 e2 hp hqq l1 l2
        go_upto_region 6 with fail
        have i0 : (0 : Int) ≤ (i : Int) := by omega
        have i1 : (i : Int) < (a.length : Int) := by have := HIL.out; omega
        have i3 : (i : Int) < (b.length : Int) := by have := HIB.out; omega
        by_cases hpq : p = q
        · have d3 : (p != q) = false := by simp [hpq]
          have HE := Lib.hid (show (a.drop (i + 1) == b.drop (i + 1)) = R by rw [← HQ.out, hpq]; simp)
          clear hpq
          go_quiet (fail)
          clear i1 i3
          have HBN := Lib.hid (belowN HBW.out nq)
          go_upto_region 8 with fail
          have i0 : (0 : Int) ≤ (i : Int) := by omega
          have i1 : (i : Int) < (a.length : Int) := by have := HIL.out; omega
          have i2 : (i : Int) < 1000000000 := by have := HIL.out; have := IsD.few HA.out; omega
          go_wp2_with fail
          refine ⟨⟨i + 1, by go_num, HIL.out, HBN.out, HE.out⟩, ?_⟩
          simp [intOf]; omega
        · have d3 : (p != q) = true := by simp [hpq]
          have HE := Lib.hid (show R = false by rw [← HQ.out]; simp [hpq])
          clear hpq
          go_quiet (fail)
          clear i1 i3
          have HBN := Lib.hid (belowN HBW.out nq)
          go_wp2_with fail
          go_ret
          exact ⟨by rw [HE.out]; rfl, HBN.out⟩
      · have d2 : decide ((i : Int) < (a.length : Int)) = false := by simp; omega
        obtain rfl : i = a.length := by have := HI.out; omega
        rw [List.drop_of_length_le (Nat.le_refl _), List.drop_of_length_le (by rw [← HN.out]; exact Nat.le_refl _)] at hq
        have HQ := Lib.hid hq
        clear hq hil
        go_wp2_with fail
        go_ret
        exact ⟨by rw [← HQ.out]; rfl, HBW.out⟩
  · have d1 : ((a.length : Int) != (b.length : Int)) = true := by simp; omega
    have HE := Lib.hid (show R = false by rw [HR.out]; exact beq_eq_false_iff_ne.2 (fun e => hn (by rw [e])))
    clear hn
    go_enter Try.func88, Try.ntmps88
    go_wp2_with fail
    go_ret
    exact ⟨by rw [HE.out]; rfl, Below.refl _ _⟩
end Go.Proofs.Ytejljfoacbpliaa

namespace Go.Proofs.Ytejljfoacbpliaa
open Go Go.RowKit
def GivesR (ks : List Int) (kd : Int) (w : World) (e : Ending) (w' : World) : Prop := ∃ x c, e = .returned (.tuple #[.slice x ks.length c, .int .i64 kd]) ∧ IsD (w.heap.size ≤ ·) w' (.slice x ks.length c) (.sl ks.length (ksD ks)) ∧ Below w.heap.size w w'
theorem two_new (w : World) (a b : Obj) : Below w.heap.size w ((w.alloc a).alloc b) ∧ ((w.alloc a).alloc b).heap[w.heap.size]? = some a ∧ ((w.alloc a).alloc b).heap[w.heap.size + 1]? = some b := by
  have s1 : (w.alloc a).heap.size = w.heap.size + 1 := by simp
  have n1 := heap_alloc_new w a
  have n2 := heap_alloc_new (w.alloc a) b
  rw [s1] at n2
  have hb1 : Below w.heap.size w (w.alloc a) := (Below.refl _ _).alloc (Nat.le_refl _) _
  have hb2 : Below (w.alloc a).heap.size (w.alloc a) ((w.alloc a).alloc b) := (Below.refl _ _).alloc (Nat.le_refl _) _
  exact ⟨hb1.trans (hb2.mono (by omega)), (hb2.block w.heap.size (by omega)).trans n1, n2⟩
theorem ksD_rows {ok : Nat → Prop} {w : World} : ∀ l : List Int, RowsD ok w (l.map (Value.int .i64)) (ksD l)
  | [] => trivial
  | a :: r => ⟨by unfold IsD; rfl, ksD_rows r⟩
end Go.Proofs.Ytejljfoacbpliaa

namespace Go.Proofs.Ytejljfoacbpliaa
open Go Go.RowKit
set_option maxHeartbeats 4000000 in
set_option maxRecDepth 100000 in
theorem rule_int (w : World) (x : Option Addr) (l c b : Nat) (nm : ByteArray) (n at_ last : Int) (xk : Option Addr) (lk ck : Nat) : Calls Try.prog 87 #[.agg #[.slice x l c, .map (some b)], .agg #[.string (⟨#[105, 110, 116]⟩ : ByteArray), .string nm, .int .i64 n, .int .i64 at_, .slice xk lk ck], .int .i64 last] w (GivesR [] 2 w) := by
  obtain ⟨hb, hA, hE⟩ := two_new w (.cells #[.slice x l c, .map (some b)] 88) (.cells #[.string (⟨#[105, 110, 116]⟩ : ByteArray), .string nm, .int .i64 n, .int .i64 at_, .slice xk lk ck] 43)
  have c0 := cell_of_row _ (w.heap.size + 1) 0 _ _ _ hE
  have HB := Lib.hid hb
  clear hb hA hE
  go_enter Try.func87, Try.ntmps87
  go_wp2_with fail
  go_ret2
  exact ⟨none, 0, rfl, IsD.nil (Nat.zero_le _), HB.out⟩
set_option maxHeartbeats 4000000 in
set_option maxRecDepth 100000 in
theorem rule_bool (w : World) (x : Option Addr) (l c b : Nat) (nm : ByteArray) (n at_ last : Int) (xk : Option Addr) (lk ck : Nat) : Calls Try.prog 87 #[.agg #[.slice x l c, .map (some b)], .agg #[.string (⟨#[98, 111, 111, 108]⟩ : ByteArray), .string nm, .int .i64 n, .int .i64 at_, .slice xk lk ck], .int .i64 last] w (GivesR [] 1 w) := by
  obtain ⟨hb, hA, hE⟩ := two_new w (.cells #[.slice x l c, .map (some b)] 88) (.cells #[.string (⟨#[98, 111, 111, 108]⟩ : ByteArray), .string nm, .int .i64 n, .int .i64 at_, .slice xk lk ck] 43)
  have c0 := cell_of_row _ (w.heap.size + 1) 0 _ _ _ hE
  have HB := Lib.hid hb
  clear hb hA hE
  go_enter Try.func87, Try.ntmps87
  go_wp2_with fail
  go_ret2
  exact ⟨none, 0, rfl, IsD.nil (Nat.zero_le _), HB.out⟩
set_option maxHeartbeats 4000000 in
set_option maxRecDepth 100000 in
theorem rule_not (w : World) (x : Option Addr) (l c b : Nat) (nm : ByteArray) (n at_ last : Int) (xk : Option Addr) (lk ck : Nat) : Calls Try.prog 87 #[.agg #[.slice x l c, .map (some b)], .agg #[.string (⟨#[110, 111, 116]⟩ : ByteArray), .string nm, .int .i64 n, .int .i64 at_, .slice xk lk ck], .int .i64 last] w (GivesR [1] 1 w) := by
  obtain ⟨hb, hA, hE⟩ := two_new w (.cells #[.slice x l c, .map (some b)] 88) (.cells #[.string (⟨#[110, 111, 116]⟩ : ByteArray), .string nm, .int .i64 n, .int .i64 at_, .slice xk lk ck] 43)
  have c0 := cell_of_row _ (w.heap.size + 1) 0 _ _ _ hE
  have HB := Lib.hid hb
  clear hb hA hE
  go_enter Try.func87, Try.ntmps87
  go_wp2_with fail
  go_ret2
  exact ⟨_, 1, rfl, IsD.made 39 _ _ (by simp) 1 (by decide) (by decide) (ksD [1]) (by simp; omega) (ksD_rows [1]), HB.out.alloc HB.out.size _⟩
set_option maxHeartbeats 4000000 in
set_option maxRecDepth 100000 in
theorem rule_neg (w : World) (x : Option Addr) (l c b : Nat) (nm : ByteArray) (n at_ last : Int) (xk : Option Addr) (lk ck : Nat) : Calls Try.prog 87 #[.agg #[.slice x l c, .map (some b)], .agg #[.string (⟨#[110, 101, 103]⟩ : ByteArray), .string nm, .int .i64 n, .int .i64 at_, .slice xk lk ck], .int .i64 last] w (GivesR [2] 2 w) := by
  obtain ⟨hb, hA, hE⟩ := two_new w (.cells #[.slice x l c, .map (some b)] 88) (.cells #[.string (⟨#[110, 101, 103]⟩ : ByteArray), .string nm, .int .i64 n, .int .i64 at_, .slice xk lk ck] 43)
  have c0 := cell_of_row _ (w.heap.size + 1) 0 _ _ _ hE
  have HB := Lib.hid hb
  clear hb hA hE
  go_enter Try.func87, Try.ntmps87
  go_wp2_with fail
  go_ret2
  exact ⟨_, 1, rfl, IsD.made 39 _ _ (by simp) 1 (by decide) (by decide) (ksD [2]) (by simp; omega) (ksD_rows [2]), HB.out.alloc HB.out.size _⟩
set_option maxHeartbeats 4000000 in
set_option maxRecDepth 100000 in
theorem rule_pre (w : World) (x : Option Addr) (l c b : Nat) (nm : ByteArray) (n at_ last : Int) (xk : Option Addr) (lk ck : Nat) : Calls Try.prog 87 #[.agg #[.slice x l c, .map (some b)], .agg #[.string (⟨#[112, 114, 101]⟩ : ByteArray), .string nm, .int .i64 n, .int .i64 at_, .slice xk lk ck], .int .i64 last] w (GivesR [last] last w) := by
  obtain ⟨hb, hA, hE⟩ := two_new w (.cells #[.slice x l c, .map (some b)] 88) (.cells #[.string (⟨#[112, 114, 101]⟩ : ByteArray), .string nm, .int .i64 n, .int .i64 at_, .slice xk lk ck] 43)
  have c0 := cell_of_row _ (w.heap.size + 1) 0 _ _ _ hE
  have HB := Lib.hid hb
  clear hb hA hE
  go_enter Try.func87, Try.ntmps87
  go_wp2_with fail
  go_ret2
  exact ⟨_, 1, rfl, IsD.made 39 _ _ (by simp) 1 (by decide) (by decide) (ksD [last]) (by simp; omega) (ksD_rows [last]), HB.out.alloc HB.out.size _⟩
set_option maxHeartbeats 4000000 in
set_option maxRecDepth 100000 in
theorem rule_add (w : World) (x : Option Addr) (l c b : Nat) (nm : ByteArray) (n at_ last : Int) (xk : Option Addr) (lk ck : Nat) : Calls Try.prog 87 #[.agg #[.slice x l c, .map (some b)], .agg #[.string (⟨#[43]⟩ : ByteArray), .string nm, .int .i64 n, .int .i64 at_, .slice xk lk ck], .int .i64 last] w (GivesR [2, 2] 2 w) := by
  obtain ⟨hb, hA, hE⟩ := two_new w (.cells #[.slice x l c, .map (some b)] 88) (.cells #[.string (⟨#[43]⟩ : ByteArray), .string nm, .int .i64 n, .int .i64 at_, .slice xk lk ck] 43)
  have c0 := cell_of_row _ (w.heap.size + 1) 0 _ _ _ hE
  have HB := Lib.hid hb
  clear hb hA hE
  go_enter Try.func87, Try.ntmps87
  go_wp2_with fail
  go_ret2
  exact ⟨_, 2, rfl, IsD.made 39 _ _ (by simp) 2 (by decide) (by decide) (ksD [2, 2]) (by simp; omega) (ksD_rows [2, 2]), HB.out.alloc HB.out.size _⟩
set_option maxHeartbeats 4000000 in
set_option maxRecDepth 100000 in
theorem rule_sub (w : World) (x : Option Addr) (l c b : Nat) (nm : ByteArray) (n at_ last : Int) (xk : Option Addr) (lk ck : Nat) : Calls Try.prog 87 #[.agg #[.slice x l c, .map (some b)], .agg #[.string (⟨#[45]⟩ : ByteArray), .string nm, .int .i64 n, .int .i64 at_, .slice xk lk ck], .int .i64 last] w (GivesR [2, 2] 2 w) := by
  obtain ⟨hb, hA, hE⟩ := two_new w (.cells #[.slice x l c, .map (some b)] 88) (.cells #[.string (⟨#[45]⟩ : ByteArray), .string nm, .int .i64 n, .int .i64 at_, .slice xk lk ck] 43)
  have c0 := cell_of_row _ (w.heap.size + 1) 0 _ _ _ hE
  have HB := Lib.hid hb
  clear hb hA hE
  go_enter Try.func87, Try.ntmps87
  go_wp2_with fail
  go_ret2
  exact ⟨_, 2, rfl, IsD.made 39 _ _ (by simp) 2 (by decide) (by decide) (ksD [2, 2]) (by simp; omega) (ksD_rows [2, 2]), HB.out.alloc HB.out.size _⟩
set_option maxHeartbeats 4000000 in
set_option maxRecDepth 100000 in
theorem rule_mul (w : World) (x : Option Addr) (l c b : Nat) (nm : ByteArray) (n at_ last : Int) (xk : Option Addr) (lk ck : Nat) : Calls Try.prog 87 #[.agg #[.slice x l c, .map (some b)], .agg #[.string (⟨#[42]⟩ : ByteArray), .string nm, .int .i64 n, .int .i64 at_, .slice xk lk ck], .int .i64 last] w (GivesR [2, 2] 2 w) := by
  obtain ⟨hb, hA, hE⟩ := two_new w (.cells #[.slice x l c, .map (some b)] 88) (.cells #[.string (⟨#[42]⟩ : ByteArray), .string nm, .int .i64 n, .int .i64 at_, .slice xk lk ck] 43)
  have c0 := cell_of_row _ (w.heap.size + 1) 0 _ _ _ hE
  have HB := Lib.hid hb
  clear hb hA hE
  go_enter Try.func87, Try.ntmps87
  go_wp2_with fail
  go_ret2
  exact ⟨_, 2, rfl, IsD.made 39 _ _ (by simp) 2 (by decide) (by decide) (ksD [2, 2]) (by simp; omega) (ksD_rows [2, 2]), HB.out.alloc HB.out.size _⟩
set_option maxHeartbeats 4000000 in
set_option maxRecDepth 100000 in
theorem rule_div (w : World) (x : Option Addr) (l c b : Nat) (nm : ByteArray) (n at_ last : Int) (xk : Option Addr) (lk ck : Nat) : Calls Try.prog 87 #[.agg #[.slice x l c, .map (some b)], .agg #[.string (⟨#[47]⟩ : ByteArray), .string nm, .int .i64 n, .int .i64 at_, .slice xk lk ck], .int .i64 last] w (GivesR [2, 2] 2 w) := by
  obtain ⟨hb, hA, hE⟩ := two_new w (.cells #[.slice x l c, .map (some b)] 88) (.cells #[.string (⟨#[47]⟩ : ByteArray), .string nm, .int .i64 n, .int .i64 at_, .slice xk lk ck] 43)
  have c0 := cell_of_row _ (w.heap.size + 1) 0 _ _ _ hE
  have HB := Lib.hid hb
  clear hb hA hE
  go_enter Try.func87, Try.ntmps87
  go_wp2_with fail
  go_ret2
  exact ⟨_, 2, rfl, IsD.made 39 _ _ (by simp) 2 (by decide) (by decide) (ksD [2, 2]) (by simp; omega) (ksD_rows [2, 2]), HB.out.alloc HB.out.size _⟩
set_option maxHeartbeats 4000000 in
set_option maxRecDepth 100000 in
theorem rule_mod (w : World) (x : Option Addr) (l c b : Nat) (nm : ByteArray) (n at_ last : Int) (xk : Option Addr) (lk ck : Nat) : Calls Try.prog 87 #[.agg #[.slice x l c, .map (some b)], .agg #[.string (⟨#[109, 111, 100]⟩ : ByteArray), .string nm, .int .i64 n, .int .i64 at_, .slice xk lk ck], .int .i64 last] w (GivesR [2, 2] 2 w) := by
  obtain ⟨hb, hA, hE⟩ := two_new w (.cells #[.slice x l c, .map (some b)] 88) (.cells #[.string (⟨#[109, 111, 100]⟩ : ByteArray), .string nm, .int .i64 n, .int .i64 at_, .slice xk lk ck] 43)
  have c0 := cell_of_row _ (w.heap.size + 1) 0 _ _ _ hE
  have HB := Lib.hid hb
  clear hb hA hE
  go_enter Try.func87, Try.ntmps87
  go_wp2_with fail
  go_ret2
  exact ⟨_, 2, rfl, IsD.made 39 _ _ (by simp) 2 (by decide) (by decide) (ksD [2, 2]) (by simp; omega) (ksD_rows [2, 2]), HB.out.alloc HB.out.size _⟩
set_option maxHeartbeats 4000000 in
set_option maxRecDepth 100000 in
theorem rule_eq (w : World) (x : Option Addr) (l c b : Nat) (nm : ByteArray) (n at_ last : Int) (xk : Option Addr) (lk ck : Nat) : Calls Try.prog 87 #[.agg #[.slice x l c, .map (some b)], .agg #[.string (⟨#[61]⟩ : ByteArray), .string nm, .int .i64 n, .int .i64 at_, .slice xk lk ck], .int .i64 last] w (GivesR [last, last] 1 w) := by
  obtain ⟨hb, hA, hE⟩ := two_new w (.cells #[.slice x l c, .map (some b)] 88) (.cells #[.string (⟨#[61]⟩ : ByteArray), .string nm, .int .i64 n, .int .i64 at_, .slice xk lk ck] 43)
  have c0 := cell_of_row _ (w.heap.size + 1) 0 _ _ _ hE
  have HB := Lib.hid hb
  clear hb hA hE
  go_enter Try.func87, Try.ntmps87
  go_wp2_with fail
  go_ret2
  exact ⟨_, 2, rfl, IsD.made 39 _ _ (by simp) 2 (by decide) (by decide) (ksD [last, last]) (by simp; omega) (ksD_rows [last, last]), HB.out.alloc HB.out.size _⟩
set_option maxHeartbeats 4000000 in
set_option maxRecDepth 100000 in
theorem rule_ne (w : World) (x : Option Addr) (l c b : Nat) (nm : ByteArray) (n at_ last : Int) (xk : Option Addr) (lk ck : Nat) : Calls Try.prog 87 #[.agg #[.slice x l c, .map (some b)], .agg #[.string (⟨#[60, 62]⟩ : ByteArray), .string nm, .int .i64 n, .int .i64 at_, .slice xk lk ck], .int .i64 last] w (GivesR [last, last] 1 w) := by
  obtain ⟨hb, hA, hE⟩ := two_new w (.cells #[.slice x l c, .map (some b)] 88) (.cells #[.string (⟨#[60, 62]⟩ : ByteArray), .string nm, .int .i64 n, .int .i64 at_, .slice xk lk ck] 43)
  have c0 := cell_of_row _ (w.heap.size + 1) 0 _ _ _ hE
  have HB := Lib.hid hb
  clear hb hA hE
  go_enter Try.func87, Try.ntmps87
  go_wp2_with fail
  go_ret2
  exact ⟨_, 2, rfl, IsD.made 39 _ _ (by simp) 2 (by decide) (by decide) (ksD [last, last]) (by simp; omega) (ksD_rows [last, last]), HB.out.alloc HB.out.size _⟩
set_option maxHeartbeats 4000000 in
set_option maxRecDepth 100000 in
theorem rule_lt (w : World) (x : Option Addr) (l c b : Nat) (nm : ByteArray) (n at_ last : Int) (xk : Option Addr) (lk ck : Nat) : Calls Try.prog 87 #[.agg #[.slice x l c, .map (some b)], .agg #[.string (⟨#[60]⟩ : ByteArray), .string nm, .int .i64 n, .int .i64 at_, .slice xk lk ck], .int .i64 last] w (GivesR [2, 2] 1 w) := by
  obtain ⟨hb, hA, hE⟩ := two_new w (.cells #[.slice x l c, .map (some b)] 88) (.cells #[.string (⟨#[60]⟩ : ByteArray), .string nm, .int .i64 n, .int .i64 at_, .slice xk lk ck] 43)
  have c0 := cell_of_row _ (w.heap.size + 1) 0 _ _ _ hE
  have HB := Lib.hid hb
  clear hb hA hE
  go_enter Try.func87, Try.ntmps87
  go_wp2_with fail
  go_ret2
  exact ⟨_, 2, rfl, IsD.made 39 _ _ (by simp) 2 (by decide) (by decide) (ksD [2, 2]) (by simp; omega) (ksD_rows [2, 2]), HB.out.alloc HB.out.size _⟩
set_option maxHeartbeats 4000000 in
set_option maxRecDepth 100000 in
theorem rule_le (w : World) (x : Option Addr) (l c b : Nat) (nm : ByteArray) (n at_ last : Int) (xk : Option Addr) (lk ck : Nat) : Calls Try.prog 87 #[.agg #[.slice x l c, .map (some b)], .agg #[.string (⟨#[60, 61]⟩ : ByteArray), .string nm, .int .i64 n, .int .i64 at_, .slice xk lk ck], .int .i64 last] w (GivesR [2, 2] 1 w) := by
  obtain ⟨hb, hA, hE⟩ := two_new w (.cells #[.slice x l c, .map (some b)] 88) (.cells #[.string (⟨#[60, 61]⟩ : ByteArray), .string nm, .int .i64 n, .int .i64 at_, .slice xk lk ck] 43)
  have c0 := cell_of_row _ (w.heap.size + 1) 0 _ _ _ hE
  have HB := Lib.hid hb
  clear hb hA hE
  go_enter Try.func87, Try.ntmps87
  go_wp2_with fail
  go_ret2
  exact ⟨_, 2, rfl, IsD.made 39 _ _ (by simp) 2 (by decide) (by decide) (ksD [2, 2]) (by simp; omega) (ksD_rows [2, 2]), HB.out.alloc HB.out.size _⟩
set_option maxHeartbeats 4000000 in
set_option maxRecDepth 100000 in
theorem rule_gt (w : World) (x : Option Addr) (l c b : Nat) (nm : ByteArray) (n at_ last : Int) (xk : Option Addr) (lk ck : Nat) : Calls Try.prog 87 #[.agg #[.slice x l c, .map (some b)], .agg #[.string (⟨#[62]⟩ : ByteArray), .string nm, .int .i64 n, .int .i64 at_, .slice xk lk ck], .int .i64 last] w (GivesR [2, 2] 1 w) := by
  obtain ⟨hb, hA, hE⟩ := two_new w (.cells #[.slice x l c, .map (some b)] 88) (.cells #[.string (⟨#[62]⟩ : ByteArray), .string nm, .int .i64 n, .int .i64 at_, .slice xk lk ck] 43)
  have c0 := cell_of_row _ (w.heap.size + 1) 0 _ _ _ hE
  have HB := Lib.hid hb
  clear hb hA hE
  go_enter Try.func87, Try.ntmps87
  go_wp2_with fail
  go_ret2
  exact ⟨_, 2, rfl, IsD.made 39 _ _ (by simp) 2 (by decide) (by decide) (ksD [2, 2]) (by simp; omega) (ksD_rows [2, 2]), HB.out.alloc HB.out.size _⟩
set_option maxHeartbeats 4000000 in
set_option maxRecDepth 100000 in
theorem rule_ge (w : World) (x : Option Addr) (l c b : Nat) (nm : ByteArray) (n at_ last : Int) (xk : Option Addr) (lk ck : Nat) : Calls Try.prog 87 #[.agg #[.slice x l c, .map (some b)], .agg #[.string (⟨#[62, 61]⟩ : ByteArray), .string nm, .int .i64 n, .int .i64 at_, .slice xk lk ck], .int .i64 last] w (GivesR [2, 2] 1 w) := by
  obtain ⟨hb, hA, hE⟩ := two_new w (.cells #[.slice x l c, .map (some b)] 88) (.cells #[.string (⟨#[62, 61]⟩ : ByteArray), .string nm, .int .i64 n, .int .i64 at_, .slice xk lk ck] 43)
  have c0 := cell_of_row _ (w.heap.size + 1) 0 _ _ _ hE
  have HB := Lib.hid hb
  clear hb hA hE
  go_enter Try.func87, Try.ntmps87
  go_wp2_with fail
  go_ret2
  exact ⟨_, 2, rfl, IsD.made 39 _ _ (by simp) 2 (by decide) (by decide) (ksD [2, 2]) (by simp; omega) (ksD_rows [2, 2]), HB.out.alloc HB.out.size _⟩
set_option maxHeartbeats 4000000 in
set_option maxRecDepth 100000 in
theorem rule_and (w : World) (x : Option Addr) (l c b : Nat) (nm : ByteArray) (n at_ last : Int) (xk : Option Addr) (lk ck : Nat) : Calls Try.prog 87 #[.agg #[.slice x l c, .map (some b)], .agg #[.string (⟨#[97, 110, 100]⟩ : ByteArray), .string nm, .int .i64 n, .int .i64 at_, .slice xk lk ck], .int .i64 last] w (GivesR [1, 1] 1 w) := by
  obtain ⟨hb, hA, hE⟩ := two_new w (.cells #[.slice x l c, .map (some b)] 88) (.cells #[.string (⟨#[97, 110, 100]⟩ : ByteArray), .string nm, .int .i64 n, .int .i64 at_, .slice xk lk ck] 43)
  have c0 := cell_of_row _ (w.heap.size + 1) 0 _ _ _ hE
  have HB := Lib.hid hb
  clear hb hA hE
  go_enter Try.func87, Try.ntmps87
  go_wp2_with fail
  go_ret2
  exact ⟨_, 2, rfl, IsD.made 39 _ _ (by simp) 2 (by decide) (by decide) (ksD [1, 1]) (by simp; omega) (ksD_rows [1, 1]), HB.out.alloc HB.out.size _⟩
set_option maxHeartbeats 4000000 in
set_option maxRecDepth 100000 in
theorem rule_or (w : World) (x : Option Addr) (l c b : Nat) (nm : ByteArray) (n at_ last : Int) (xk : Option Addr) (lk ck : Nat) : Calls Try.prog 87 #[.agg #[.slice x l c, .map (some b)], .agg #[.string (⟨#[111, 114]⟩ : ByteArray), .string nm, .int .i64 n, .int .i64 at_, .slice xk lk ck], .int .i64 last] w (GivesR [1, 1] 1 w) := by
  obtain ⟨hb, hA, hE⟩ := two_new w (.cells #[.slice x l c, .map (some b)] 88) (.cells #[.string (⟨#[111, 114]⟩ : ByteArray), .string nm, .int .i64 n, .int .i64 at_, .slice xk lk ck] 43)
  have c0 := cell_of_row _ (w.heap.size + 1) 0 _ _ _ hE
  have HB := Lib.hid hb
  clear hb hA hE
  go_enter Try.func87, Try.ntmps87
  go_wp2_with fail
  go_ret2
  exact ⟨_, 2, rfl, IsD.made 39 _ _ (by simp) 2 (by decide) (by decide) (ksD [1, 1]) (by simp; omega) (ksD_rows [1, 1]), HB.out.alloc HB.out.size _⟩
set_option maxHeartbeats 4000000 in
set_option maxRecDepth 100000 in
theorem rule_xor (w : World) (x : Option Addr) (l c b : Nat) (nm : ByteArray) (n at_ last : Int) (xk : Option Addr) (lk ck : Nat) : Calls Try.prog 87 #[.agg #[.slice x l c, .map (some b)], .agg #[.string (⟨#[120, 111, 114]⟩ : ByteArray), .string nm, .int .i64 n, .int .i64 at_, .slice xk lk ck], .int .i64 last] w (GivesR [1, 1] 1 w) := by
  obtain ⟨hb, hA, hE⟩ := two_new w (.cells #[.slice x l c, .map (some b)] 88) (.cells #[.string (⟨#[120, 111, 114]⟩ : ByteArray), .string nm, .int .i64 n, .int .i64 at_, .slice xk lk ck] 43)
  have c0 := cell_of_row _ (w.heap.size + 1) 0 _ _ _ hE
  have HB := Lib.hid hb
  clear hb hA hE
  go_enter Try.func87, Try.ntmps87
  go_wp2_with fail
  go_ret2
  exact ⟨_, 2, rfl, IsD.made 39 _ _ (by simp) 2 (by decide) (by decide) (ksD [1, 1]) (by simp; omega) (ksD_rows [1, 1]), HB.out.alloc HB.out.size _⟩
set_option maxHeartbeats 4000000 in
set_option maxRecDepth 100000 in
theorem rule_arrow (w : World) (x : Option Addr) (l c b : Nat) (nm : ByteArray) (n at_ last : Int) (xk : Option Addr) (lk ck : Nat) : Calls Try.prog 87 #[.agg #[.slice x l c, .map (some b)], .agg #[.string (⟨#[45, 62]⟩ : ByteArray), .string nm, .int .i64 n, .int .i64 at_, .slice xk lk ck], .int .i64 last] w (GivesR [last, last] last w) := by
  obtain ⟨hb, hA, hE⟩ := two_new w (.cells #[.slice x l c, .map (some b)] 88) (.cells #[.string (⟨#[45, 62]⟩ : ByteArray), .string nm, .int .i64 n, .int .i64 at_, .slice xk lk ck] 43)
  have c0 := cell_of_row _ (w.heap.size + 1) 0 _ _ _ hE
  have HB := Lib.hid hb
  clear hb hA hE
  go_enter Try.func87, Try.ntmps87
  go_wp2_with fail
  go_ret2
  exact ⟨_, 2, rfl, IsD.made 39 _ _ (by simp) 2 (by decide) (by decide) (ksD [last, last]) (by simp; omega) (ksD_rows [last, last]), HB.out.alloc HB.out.size _⟩
set_option maxHeartbeats 4000000 in
set_option maxRecDepth 100000 in
theorem rule_fby (w : World) (x : Option Addr) (l c b : Nat) (nm : ByteArray) (n at_ last : Int) (xk : Option Addr) (lk ck : Nat) : Calls Try.prog 87 #[.agg #[.slice x l c, .map (some b)], .agg #[.string (⟨#[102, 98, 121]⟩ : ByteArray), .string nm, .int .i64 n, .int .i64 at_, .slice xk lk ck], .int .i64 last] w (GivesR [last, last] last w) := by
  obtain ⟨hb, hA, hE⟩ := two_new w (.cells #[.slice x l c, .map (some b)] 88) (.cells #[.string (⟨#[102, 98, 121]⟩ : ByteArray), .string nm, .int .i64 n, .int .i64 at_, .slice xk lk ck] 43)
  have c0 := cell_of_row _ (w.heap.size + 1) 0 _ _ _ hE
  have HB := Lib.hid hb
  clear hb hA hE
  go_enter Try.func87, Try.ntmps87
  go_wp2_with fail
  go_ret2
  exact ⟨_, 2, rfl, IsD.made 39 _ _ (by simp) 2 (by decide) (by decide) (ksD [last, last]) (by simp; omega) (ksD_rows [last, last]), HB.out.alloc HB.out.size _⟩
set_option maxHeartbeats 4000000 in
set_option maxRecDepth 100000 in
theorem rule_if (w : World) (x : Option Addr) (l c b : Nat) (nm : ByteArray) (n at_ last : Int) (xk : Option Addr) (lk ck : Nat) : Calls Try.prog 87 #[.agg #[.slice x l c, .map (some b)], .agg #[.string (⟨#[105, 102]⟩ : ByteArray), .string nm, .int .i64 n, .int .i64 at_, .slice xk lk ck], .int .i64 last] w (GivesR [1, last, last] last w) := by
  obtain ⟨hb, hA, hE⟩ := two_new w (.cells #[.slice x l c, .map (some b)] 88) (.cells #[.string (⟨#[105, 102]⟩ : ByteArray), .string nm, .int .i64 n, .int .i64 at_, .slice xk lk ck] 43)
  have c0 := cell_of_row _ (w.heap.size + 1) 0 _ _ _ hE
  have HB := Lib.hid hb
  clear hb hA hE
  go_enter Try.func87, Try.ntmps87
  go_wp2_with fail
  go_ret2
  exact ⟨_, 3, rfl, IsD.made 39 _ _ (by simp) 3 (by decide) (by decide) (ksD [1, last, last]) (by simp; omega) (ksD_rows [1, last, last]), HB.out.alloc HB.out.size _⟩
end Go.Proofs.Ytejljfoacbpliaa

namespace Go.Proofs.Ytejljfoacbpliaa
open Go Go.RowKit
theorem fa_sc1 (g : Nat) (W : World) : (Instr.fieldAt 88 (.pointer (some ⟨g, 0, none⟩)) 1).run Try.prog W = .ok (.pointer (some ⟨g, 1, none⟩)) W := by kernel_rfl
theorem fa_eS1 (g : Nat) (W : World) : (Instr.fieldAt 43 (.pointer (some ⟨g, 0, none⟩)) 1).run Try.prog W = .ok (.pointer (some ⟨g, 1, none⟩)) W := by kernel_rfl
theorem run_lkp {P : Program} {W : World} {o : Oper} {ρ : Operand → Value} {t : TypeId} {m x : Operand} {c : Bool} {mv xv v : Value} (ho : o.op = .lookup t m x c) (hm : ρ m = mv) (hx : ρ x = xv) (h : (Instr.lookup t mv xv c).run P W = .ok v W) : (execOp ρ o).run P W = .ok (.value v) W := by
  simp [execOp, ho, hm, hx, h, Result.andThen]
set_option maxHeartbeats 4000000 in
set_option maxRecDepth 100000 in
theorem rule_var (w : World) (x : Option Addr) (l c b m : Nat) (g : List UInt8 → Option Int) (hg : Kinds w b m g) (nm : ByteArray) (hs : nm.size ≤ maxLen) (n at_ last : Int) (xk : Option Addr) (lk ck : Nat) : Calls Try.prog 87 #[.agg #[.slice x l c, .map (some b)], .agg #[.string (⟨#[118, 97, 114]⟩ : ByteArray), .string nm, .int .i64 n, .int .i64 at_, .slice xk lk ck], .int .i64 last] w (GivesR [] (kindOf g nm) w) := by
  obtain ⟨hb, hA, hE⟩ := two_new w (.cells #[.slice x l c, .map (some b)] 88) (.cells #[.string (⟨#[118, 97, 114]⟩ : ByteArray), .string nm, .int .i64 n, .int .i64 at_, .slice xk lk ck] 43)
  have c0 := cell_of_row _ (w.heap.size + 1) 0 _ _ _ hE
  have c1 := cell_of_row _ (w.heap.size + 1) 1 _ _ _ hE
  have m1 := cell_of_row _ w.heap.size 1 _ _ _ hA
  have hl := Kinds.look (MapO.below hg hb) nm hs
  have HB := Lib.hid hb
  obtain ⟨w0, hw0⟩ : ∃ w0, w0 = ((w.alloc (.cells #[.slice x l c, .map (some b)] 88)).alloc (.cells #[.string (⟨#[118, 97, 114]⟩ : ByteArray), .string nm, .int .i64 n, .int .i64 at_, .slice xk lk ck] 43)) := ⟨_, rfl⟩
  have hsz : w0.heap.size = w.heap.size + 1 + 1 := by rw [hw0]; simp
  have HG := Lib.hid (show Kinds w0 b m g by rw [hw0]; exact MapO.below hg hb)
  rw [← hw0] at hA hE hb
  have HA := Lib.hid hA
  have HE := Lib.hid hE
  have HB0 := Lib.hid hb
  have HSZ := Lib.hid hsz
  have HW0 := Lib.hid hw0
  clear hb hA hE hg hl hw0 hsz c1 m1
  go_enter Try.func87, Try.ntmps87
  go_wp2_with fail
  rw [← HW0.out]
  refine wp_region_steps (words [wIs (.pointer (some ⟨w.heap.size, 1, none⟩)), wIs (.map (some b)), wIs (.pointer (some ⟨w.heap.size + 1, 1, none⟩)), wIs (.string nm), wIs (.int .i64 (kindOf g nm)), wIs (.slice none 0 0), wIs (.int .i64 (kindOf g nm))]) w0.heap.size w0 (by kernel_rfl) (Below.refl _ _) (Nat.le_refl _) (words_stable ?stab) rfl rfl rfl ?steps ?rest
  case stab =>
    intro f hf
    simp only [List.mem_cons, List.not_mem_nil, or_false] at hf
    rcases hf with rfl | rfl | rfl | rfl | rfl | rfl | rfl <;> exact stable_is _
  case steps =>
    refine Steps.cons (step_value rfl fun xa W hp => ?_) ?_
    · have f0 : xa.tmps.getD 3 undef = .pointer (some ⟨w.heap.size, 0, none⟩) := hp.old 3 rfl
      exact ⟨wanted_none rfl, _, _, run_fa4 rfl f0 (fa_sc1 _ W), rfl, Below.refl _ _⟩
    refine Steps.cons (step_value rfl fun xa W hp => ?_) ?_
    · have f0 : xa.tmps.getD 16 undef = .pointer (some ⟨w.heap.size, 1, none⟩) := (hp.on_ 0 rfl rfl rfl).2
      exact ⟨wanted_none rfl, _, _, run_ldv rfl f0 (cell_of_row W w.heap.size 1 _ _ _ ((hp.below.block w.heap.size (by have := HSZ.out; omega)).trans HA.out)) Try.underlying86 rfl (by kernel_rfl), rfl, Below.refl _ _⟩
    refine Steps.cons (step_value rfl fun xa W hp => ?_) ?_
    · have f0 : xa.tmps.getD 4 undef = .pointer (some ⟨w.heap.size + 1, 0, none⟩) := hp.old 4 rfl
      exact ⟨wanted_none rfl, _, _, run_fa4 rfl f0 (fa_eS1 _ W), rfl, Below.refl _ _⟩
    refine Steps.cons (step_value rfl fun xa W hp => ?_) ?_
    · have f0 : xa.tmps.getD 18 undef = .pointer (some ⟨w.heap.size + 1, 1, none⟩) := (hp.on_ 2 rfl rfl rfl).2
      exact ⟨wanted_none rfl, _, _, run_ldv rfl f0 (cell_of_row W (w.heap.size + 1) 1 _ _ _ ((hp.below.block (w.heap.size + 1) (by have := HSZ.out; omega)).trans HE.out)) Try.underlying9 rfl (by kernel_rfl), rfl, Below.refl _ _⟩
    refine Steps.cons (step_value rfl fun xa W hp => ?_) ?_
    · have f0 : xa.tmps.getD 17 undef = .map (some b) := (hp.on_ 1 rfl rfl rfl).2
      have f1 : xa.tmps.getD 19 undef = .string nm := (hp.on_ 3 rfl rfl rfl).2
      exact ⟨wanted_none rfl, _, _, run_lkp rfl f0 f1 (Kinds.look (MapO.below HG.out hp.below) nm hs), rfl, Below.refl _ _⟩
    refine Steps.cons (step_value rfl fun xa W hp => ⟨wanted_none rfl, _, _, run_move (.inr rfl), rfl, Below.refl _ _⟩) ?_
    refine Steps.cons (step_value rfl fun xa W hp => ⟨wanted_none rfl, _, _, run_move (.inr rfl), (hp.on_ 4 rfl rfl rfl).2, Below.refl _ _⟩) ?_
    exact Steps.nil
  case rest =>
    intro xa W hI
    have h6 : xa.tmps.getD 6 undef = .slice none 0 0 := hI.new 5 _ 6 rfl rfl rfl
    have h7 : xa.tmps.getD 7 undef = .int .i64 (kindOf g nm) := hI.new 6 _ 7 rfl rfl rfl
    have HBZ := Lib.hid (HB0.out.trans (hI.below.mono HB0.out.size))
    have hsz : xa.tmps.size = 96 := hI.tmps
    have hdf : xa.defers = [] := hI.defers
    obtain ⟨f, hf, hx⟩ := act_eta hsz hdf
    rw [hf] at h6 h7
    clear hI hsz hdf hf
    subst hx
    have hl : ((List.range 96).map f).toArray = #[f 0, f 1, f 2, f 3, f 4, f 5, f 6, f 7, f 8, f 9, f 10, f 11, f 12, f 13, f 14, f 15, f 16, f 17, f 18, f 19, f 20, f 21, f 22, f 23, f 24, f 25, f 26, f 27, f 28, f 29, f 30, f 31, f 32, f 33, f 34, f 35, f 36, f 37, f 38, f 39, f 40, f 41, f 42, f 43, f 44, f 45, f 46, f 47, f 48, f 49, f 50, f 51, f 52, f 53, f 54, f 55, f 56, f 57, f 58, f 59, f 60, f 61, f 62, f 63, f 64, f 65, f 66, f 67, f 68, f 69, f 70, f 71, f 72, f 73, f 74, f 75, f 76, f 77, f 78, f 79, f 80, f 81, f 82, f 83, f 84, f 85, f 86, f 87, f 88, f 89, f 90, f 91, f 92, f 93, f 94, f 95] := rfl
    simp only [Exit.then]
    rw [hl, h6, h7]
    clear hl h6 h7
    go_wp2_with fail
    go_ret2
    exact ⟨none, 0, rfl, IsD.nil (Nat.zero_le _), HBZ.out⟩
set_option maxHeartbeats 4000000 in
set_option maxRecDepth 100000 in
theorem rule_when (w : World) (x : Option Addr) (l c b m : Nat) (g : List UInt8 → Option Int) (hg : Kinds w b m g) (nm : ByteArray) (hs : nm.size ≤ maxLen) (n at_ last : Int) (xk : Option Addr) (lk ck : Nat) : Calls Try.prog 87 #[.agg #[.slice x l c, .map (some b)], .agg #[.string (⟨#[119, 104, 101, 110]⟩ : ByteArray), .string nm, .int .i64 n, .int .i64 at_, .slice xk lk ck], .int .i64 last] w (GivesR [last] (chosenK g nm last) w) := by
  obtain ⟨hb, hA, hE⟩ := two_new w (.cells #[.slice x l c, .map (some b)] 88) (.cells #[.string (⟨#[119, 104, 101, 110]⟩ : ByteArray), .string nm, .int .i64 n, .int .i64 at_, .slice xk lk ck] 43)
  have c0 := cell_of_row _ (w.heap.size + 1) 0 _ _ _ hE
  have c1 := cell_of_row _ (w.heap.size + 1) 1 _ _ _ hE
  have m1 := cell_of_row _ w.heap.size 1 _ _ _ hA
  have hb3 : Below w.heap.size w (((w.alloc (.cells #[.slice x l c, .map (some b)] 88)).alloc (.cells #[.string (⟨#[119, 104, 101, 110]⟩ : ByteArray), .string nm, .int .i64 n, .int .i64 at_, .slice xk lk ck] 43)).alloc (.cells #[.int .i64 last] 39)) := hb.alloc hb.size _
  have hbk : Below ((w.alloc (.cells #[.slice x l c, .map (some b)] 88)).alloc (.cells #[.string (⟨#[119, 104, 101, 110]⟩ : ByteArray), .string nm, .int .i64 n, .int .i64 at_, .slice xk lk ck] 43)).heap.size ((w.alloc (.cells #[.slice x l c, .map (some b)] 88)).alloc (.cells #[.string (⟨#[119, 104, 101, 110]⟩ : ByteArray), .string nm, .int .i64 n, .int .i64 at_, .slice xk lk ck] 43)) (((w.alloc (.cells #[.slice x l c, .map (some b)] 88)).alloc (.cells #[.string (⟨#[119, 104, 101, 110]⟩ : ByteArray), .string nm, .int .i64 n, .int .i64 at_, .slice xk lk ck] 43)).alloc (.cells #[.int .i64 last] 39)) := (Below.refl _ _).alloc (Nat.le_refl _) _
  have s2 : ((w.alloc (.cells #[.slice x l c, .map (some b)] 88)).alloc (.cells #[.string (⟨#[119, 104, 101, 110]⟩ : ByteArray), .string nm, .int .i64 n, .int .i64 at_, .slice xk lk ck] 43)).heap.size = w.heap.size + 1 + 1 := by simp
  have hA3 := (hbk.block w.heap.size (by omega)).trans hA
  have c1' := cell_of_row _ (w.heap.size + 1) 1 _ _ _ ((hbk.block (w.heap.size + 1) (by omega)).trans hE)
  have HA3 := Lib.hid hA3
  have HSC := Lib.hid (show (Try.prog.info? 88).map (·.size) = some 2 by kernel_rfl)
  have kc := chosen_any _ x l c b m g (MapO.below hg hb3) nm hs last
  have ht : IsD (w.heap.size ≤ ·) (((w.alloc (.cells #[.slice x l c, .map (some b)] 88)).alloc (.cells #[.string (⟨#[119, 104, 101, 110]⟩ : ByteArray), .string nm, .int .i64 n, .int .i64 at_, .slice xk lk ck] 43)).alloc (.cells #[.int .i64 last] 39)) (.slice (some ⟨w.heap.size + 1 + 1, 0, none⟩) 1 1) (.sl 1 (ksD [last])) := IsD.made 39 _ _ (by simp) 1 (by decide) (by decide) (ksD [last]) (by simp; omega) (ksD_rows [last])
  have HB3 := Lib.hid hb3
  have HT := Lib.hid ht
  obtain ⟨q, hq⟩ : ∃ q, q = chosenK g nm last := ⟨_, rfl⟩
  rw [← hq] at kc ⊢
  clear hb hA hE hg hq hb3 hbk s2 hA3 ht
  go_enter Try.func87, Try.ntmps87
  go_wp2_with (refine wpList_load_row rfl 88 (.tmp 3) rfl w.heap.size rfl 88 #[.slice x l c, .map (some b)] (0, 0) _ HA3.out Try.underlying88 rfl HSC.out ?_)
  (with_reducible refine kc.mono ?_)
  rintro e w3 ⟨rfl, hb⟩
  have HBZ := Lib.hid (HB3.out.trans (hb.mono HB3.out.size))
  have HTZ := Lib.hid (IsD.below hb HT.out)
  clear hb kc
  go_wp2_with fail
  go_ret2
  exact ⟨_, 1, rfl, HTZ.out, HBZ.out⟩
set_option maxHeartbeats 4000000 in
set_option maxRecDepth 100000 in
theorem rule_merge (w : World) (x : Option Addr) (l c b m : Nat) (g : List UInt8 → Option Int) (hg : Kinds w b m g) (nm : ByteArray) (hs : nm.size ≤ maxLen) (n at_ last : Int) (xk : Option Addr) (lk ck : Nat) : Calls Try.prog 87 #[.agg #[.slice x l c, .map (some b)], .agg #[.string (⟨#[109, 101, 114, 103, 101]⟩ : ByteArray), .string nm, .int .i64 n, .int .i64 at_, .slice xk lk ck], .int .i64 last] w (GivesR [last, last] (chosenK g nm last) w) := by
  obtain ⟨hb, hA, hE⟩ := two_new w (.cells #[.slice x l c, .map (some b)] 88) (.cells #[.string (⟨#[109, 101, 114, 103, 101]⟩ : ByteArray), .string nm, .int .i64 n, .int .i64 at_, .slice xk lk ck] 43)
  have c0 := cell_of_row _ (w.heap.size + 1) 0 _ _ _ hE
  have c1 := cell_of_row _ (w.heap.size + 1) 1 _ _ _ hE
  have m1 := cell_of_row _ w.heap.size 1 _ _ _ hA
  have hb3 : Below w.heap.size w (((w.alloc (.cells #[.slice x l c, .map (some b)] 88)).alloc (.cells #[.string (⟨#[109, 101, 114, 103, 101]⟩ : ByteArray), .string nm, .int .i64 n, .int .i64 at_, .slice xk lk ck] 43)).alloc (.cells #[.int .i64 last, .int .i64 last] 39)) := hb.alloc hb.size _
  have hbk : Below ((w.alloc (.cells #[.slice x l c, .map (some b)] 88)).alloc (.cells #[.string (⟨#[109, 101, 114, 103, 101]⟩ : ByteArray), .string nm, .int .i64 n, .int .i64 at_, .slice xk lk ck] 43)).heap.size ((w.alloc (.cells #[.slice x l c, .map (some b)] 88)).alloc (.cells #[.string (⟨#[109, 101, 114, 103, 101]⟩ : ByteArray), .string nm, .int .i64 n, .int .i64 at_, .slice xk lk ck] 43)) (((w.alloc (.cells #[.slice x l c, .map (some b)] 88)).alloc (.cells #[.string (⟨#[109, 101, 114, 103, 101]⟩ : ByteArray), .string nm, .int .i64 n, .int .i64 at_, .slice xk lk ck] 43)).alloc (.cells #[.int .i64 last, .int .i64 last] 39)) := (Below.refl _ _).alloc (Nat.le_refl _) _
  have s2 : ((w.alloc (.cells #[.slice x l c, .map (some b)] 88)).alloc (.cells #[.string (⟨#[109, 101, 114, 103, 101]⟩ : ByteArray), .string nm, .int .i64 n, .int .i64 at_, .slice xk lk ck] 43)).heap.size = w.heap.size + 1 + 1 := by simp
  have hA3 := (hbk.block w.heap.size (by omega)).trans hA
  have c1' := cell_of_row _ (w.heap.size + 1) 1 _ _ _ ((hbk.block (w.heap.size + 1) (by omega)).trans hE)
  have HA3 := Lib.hid hA3
  have HSC := Lib.hid (show (Try.prog.info? 88).map (·.size) = some 2 by kernel_rfl)
  have kc := chosen_any _ x l c b m g (MapO.below hg hb3) nm hs last
  have ht : IsD (w.heap.size ≤ ·) (((w.alloc (.cells #[.slice x l c, .map (some b)] 88)).alloc (.cells #[.string (⟨#[109, 101, 114, 103, 101]⟩ : ByteArray), .string nm, .int .i64 n, .int .i64 at_, .slice xk lk ck] 43)).alloc (.cells #[.int .i64 last, .int .i64 last] 39)) (.slice (some ⟨w.heap.size + 1 + 1, 0, none⟩) 2 2) (.sl 2 (ksD [last, last])) := IsD.made 39 _ _ (by simp) 2 (by decide) (by decide) (ksD [last, last]) (by simp; omega) (ksD_rows [last, last])
  have HB3 := Lib.hid hb3
  have HT := Lib.hid ht
  obtain ⟨q, hq⟩ : ∃ q, q = chosenK g nm last := ⟨_, rfl⟩
  rw [← hq] at kc ⊢
  clear hb hA hE hg hq hb3 hbk s2 hA3 ht
  go_enter Try.func87, Try.ntmps87
  go_wp2_with (refine wpList_load_row rfl 88 (.tmp 3) rfl w.heap.size rfl 88 #[.slice x l c, .map (some b)] (0, 0) _ HA3.out Try.underlying88 rfl HSC.out ?_)
  (with_reducible refine kc.mono ?_)
  rintro e w3 ⟨rfl, hb⟩
  have HBZ := Lib.hid (HB3.out.trans (hb.mono HB3.out.size))
  have HTZ := Lib.hid (IsD.below hb HT.out)
  clear hb kc
  go_wp2_with fail
  go_ret2
  exact ⟨_, 2, rfl, HTZ.out, HBZ.out⟩
end Go.Proofs.Ytejljfoacbpliaa

namespace Go.Proofs.Ytejljfoacbpliaa
open Go Go.RowKit
def nodeFrom (nm : ByteArray) : List Nd → Nat → Int
  | [], _ => -1
  | n :: r, i => if (n.name.data.toList == nm.data.toList) = true then (i : Int) else nodeFrom nm r (i + 1)
set_option maxHeartbeats 4000000 in
set_option maxRecDepth 100000 in
theorem namesNode_any (l : List Nd) (nm : ByteArray) (w : World) (ok : Nat → Prop) (x : Option Addr) (c : Nat) (hk : IsD ok w (.slice x l.length c) (.sl l.length (ndsD l))) : Calls Try.prog 141 #[.slice x l.length c, .string nm] w (fun e w' => e = .returned (.int .i64 (nodeFrom nm l 0)) ∧ Below w.heap.size w w') := by
  have HK := Lib.hid hk
  have HSN := Lib.hid size_nS
  obtain ⟨R, hR⟩ : ∃ R, R = nodeFrom nm l 0 := ⟨_, rfl⟩
  rw [← hR]
  have HR := Lib.hid hR
  clear hk hR
  go_enter Try.func141, Try.ntmps141
  go_wp2_with fail
  go_loopw [9] (fun v9 wr => ∃ i : Nat, v9 = .int .i64 (i : Int) ∧ i ≤ l.length ∧ Below w.heap.size w wr ∧ nodeFrom nm (l.drop i) i = R)
    (fun v9 _ => l.length - (intOf v9).toNat)
  case atStart => exact ⟨0, rfl, Nat.zero_le _, Below.refl _ _, HR.out.symm⟩
  case round =>
    obtain ⟨i, rfl, hi, hb, hq⟩ := hrel
    have HB := Lib.hid hb
    have HI := Lib.hid hi
    clear hb hi
    by_cases hil : i < l.length
    · have d1 : decide ((i : Int) < (l.length : Int)) = true := by simp; omega
      have HIL := Lib.hid hil
      obtain ⟨g, rfl, hg, xi, ci, xo, co, xl, cl, xe, ce, hrg, t1, t2, t3, t4⟩ := nd_at HK.out i HIL.out
      rw [List.drop_eq_getElem_cons hil] at hq
      unfold nodeFrom at hq
      obtain ⟨nd, hnd⟩ : ∃ nd, nd = l[i]'HIL.out := ⟨_, rfl⟩
      rw [← hnd] at hrg hq
      have HRG := Lib.hid (rangeAt_below hrg HB.out hg)
      have HQ := Lib.hid hq
      have hal := heap_alloc_new wr (.cells #[.string ⟨#[]⟩, .slice none 0 0, .slice none 0 0, .slice none 0 0, .slice none 0 0, .int .i64 0] 49)
      have HAL := Lib.hid hal
      have hset := setRow_heap (wr.alloc (.cells #[.string ⟨#[]⟩, .slice none 0 0, .slice none 0 0, .slice none 0 0, .slice none 0 0, .int .i64 0] 49)) wr.heap.size _ #[.string nd.name, .slice xi nd.ins.length ci, .slice xo nd.outs.length co, .slice xl nd.locs.length cl, .slice xe nd.eqs.length ce, .int .i64 (nd.at_ : Int)] _ _ hal
      have c0 := cell_of_row _ wr.heap.size 0 _ _ _ hset
      have HBN := Lib.hid (below_setRow (HB.out.alloc HB.out.size (.cells #[.string ⟨#[]⟩, .slice none 0 0, .slice none 0 0, .slice none 0 0, .slice none 0 0, .int .i64 0] 49)) HB.out.size #[.string nd.name, .slice xi nd.ins.length ci, .slice xo nd.outs.length co, .slice xl nd.locs.length cl, .slice xe nd.eqs.length ce, .int .i64 (nd.at_ : Int)])
      clear hil hrg hg hnd t1 t2 t3 t4 hal hset
      have i0 : (0 : Int) ≤ (i : Int) := by omega
      have i1 : (i : Int) < (l.length : Int) := by have := HIL.out; omega
      rw [← Lib.toList_data, ← Lib.toList_data] at hq
      have HQ := Lib.hid hq
      clear hq
      cases hb : (nd.name.toList == nm.toList) with
      | true =>
        have HE := Lib.hid (show R = (i : Int) by rw [← HQ.out, if_pos hb])
        go_wp2_with (first | (refine wpList_load_mid rfl 49 (.tmp 12) rfl g (i * 6) rfl (ndC nd xi xo xl xe ci co cl ce) _ ?_ Try.underlying49 rfl HSN.out ?_; (exact HRG.out)) | (refine wpList_store_row rfl 49 (.tmp 6) (.tmp 13) rfl wr.heap.size #[.string nd.name, .slice xi nd.ins.length ci, .slice xo nd.outs.length co, .slice xl nd.locs.length cl, .slice xe nd.eqs.length ce, .int .i64 (nd.at_ : Int)] rfl rfl 49 _ HAL.out HSN.out rfl (n4_one _ _ _ _ _ _ _ _ _ _ _ _ _ _) ?_))
        go_ret
        exact ⟨by rw [HE.out]; rfl, HBN.out⟩
      | false =>
        have HE := Lib.hid (show nodeFrom nm (l.drop (i + 1)) (i + 1) = R by rw [← HQ.out, if_neg (by rw [hb]; decide)])
        go_upto_region 6 with (first | (refine wpList_load_mid rfl 49 (.tmp 12) rfl g (i * 6) rfl (ndC nd xi xo xl xe ci co cl ce) _ ?_ Try.underlying49 rfl HSN.out ?_; (exact HRG.out)) | (refine wpList_store_row rfl 49 (.tmp 6) (.tmp 13) rfl wr.heap.size #[.string nd.name, .slice xi nd.ins.length ci, .slice xo nd.outs.length co, .slice xl nd.locs.length cl, .slice xe nd.eqs.length ce, .int .i64 (nd.at_ : Int)] rfl rfl 49 _ HAL.out HSN.out rfl (n4_one _ _ _ _ _ _ _ _ _ _ _ _ _ _) ?_))
        have i0 : (0 : Int) ≤ (i : Int) := by omega
        have i1 : (i : Int) < (l.length : Int) := by have := HIL.out; omega
        have i2 : (i : Int) < 1000000000 := by have := HIL.out; have := IsD.few HK.out; omega
        go_wp2_with fail
        refine ⟨⟨i + 1, by go_num, HIL.out, HBN.out, HE.out⟩, ?_⟩
        simp [intOf]; omega
    · have d1 : decide ((i : Int) < (l.length : Int)) = false := by simp; omega
      have hn : l.drop i = [] := List.drop_of_length_le (by omega)
      rw [hn] at hq
      have HE := Lib.hid (show R = -1 from hq.symm)
      obtain rfl : i = l.length := by have := HI.out; omega
      clear hn hq hil
      go_wp2_with fail
      go_ret
      exact ⟨by rw [HE.out]; rfl, HB.out⟩
end Go.Proofs.Ytejljfoacbpliaa

namespace Go.Proofs.Ytejljfoacbpliaa
open Go Go.RowKit
def vkinds (l : List Vr) : List Int := l.map (fun v => (v.kind : Int))
def callF (ah : List Nd) (nm : ByteArray) : List Int × Int :=
  if nodeFrom nm ah 0 < 0 then ([], 0) else
    match (ah.getD (nodeFrom nm ah 0).toNat ⟨⟨#[]⟩, [], [], [], [], 0⟩).outs with
    | [o] => (vkinds (ah.getD (nodeFrom nm ah 0).toNat ⟨⟨#[]⟩, [], [], [], [], 0⟩).ins, (o.kind : Int))
    | _ => ([], 0)
theorem nodeFrom_cases (nm : ByteArray) : ∀ (l : List Nd) (k : Nat), nodeFrom nm l k = -1 ∨ ∃ i, i < l.length ∧ nodeFrom nm l k = ((k + i : Nat) : Int)
  | [], _ => .inl rfl
  | n :: r, k => by
    unfold nodeFrom
    by_cases h : (n.name.data.toList == nm.data.toList) = true
    · rw [if_pos h]
      exact .inr ⟨0, by simp, by simp⟩
    · rw [if_neg h]
      rcases nodeFrom_cases nm r (k + 1) with h | ⟨i, h1, h2⟩
      · exact .inl h
      · exact .inr ⟨i + 1, by simpa using h1, by rw [h2]; congr 1; omega⟩
def ruleF (ah : List Nd) (g : List UInt8 → Option Int) (op nm : ByteArray) (last : Int) : List Int × Int :=
  if op.data.toList = [105, 110, 116] then ([], 2) else
  if op.data.toList = [98, 111, 111, 108] then ([], 1) else
  if op.data.toList = [118, 97, 114] then ([], kindOf g nm) else
  if op.data.toList = [110, 111, 116] then ([1], 1) else
  if op.data.toList = [110, 101, 103] then ([2], 2) else
  if op.data.toList = [112, 114, 101] then ([last], last) else
  if op.data.toList = [43] then ([2, 2], 2) else
  if op.data.toList = [45] then ([2, 2], 2) else
  if op.data.toList = [42] then ([2, 2], 2) else
  if op.data.toList = [47] then ([2, 2], 2) else
  if op.data.toList = [109, 111, 100] then ([2, 2], 2) else
  if op.data.toList = [61] then ([last, last], 1) else
  if op.data.toList = [60, 62] then ([last, last], 1) else
  if op.data.toList = [60] then ([2, 2], 1) else
  if op.data.toList = [60, 61] then ([2, 2], 1) else
  if op.data.toList = [62] then ([2, 2], 1) else
  if op.data.toList = [62, 61] then ([2, 2], 1) else
  if op.data.toList = [97, 110, 100] then ([1, 1], 1) else
  if op.data.toList = [111, 114] then ([1, 1], 1) else
  if op.data.toList = [120, 111, 114] then ([1, 1], 1) else
  if op.data.toList = [45, 62] then ([last, last], last) else
  if op.data.toList = [102, 98, 121] then ([last, last], last) else
  if op.data.toList = [119, 104, 101, 110] then ([last], chosenK g nm last) else
  if op.data.toList = [105, 102] then ([1, last, last], last) else
  if op.data.toList = [109, 101, 114, 103, 101] then ([last, last], chosenK g nm last) else
  if op.data.toList = [99, 97, 108, 108] then callF ah nm else ([], 0)
def kindE (ah : List Nd) (g : List UInt8 → Option Int) (op nm : ByteArray) (at_ : Nat) (ks : List Int) : Except Nat Int :=
  if (ruleF ah g op nm (ks.getLastD 0)).2 = 0 ∨ (ks == (ruleF ah g op nm (ks.getLastD 0)).1) = false then .error at_ else .ok (ruleF ah g op nm (ks.getLastD 0)).2
mutual
def kindF (ah : List Nd) (g : List UInt8 → Option Int) : Ex → Except Nat Int
  | .mk op nm _ at_ kids => match kindsF ah g kids with
    | .error a => .error a
    | .ok ks => kindE ah g op nm at_ ks
def kindsF (ah : List Nd) (g : List UInt8 → Option Int) : List Ex → Except Nat (List Int)
  | [] => .ok []
  | e :: r => match kindF ah g e with
    | .error a => .error a
    | .ok k => match kindsF ah g r with
      | .error a => .error a
      | .ok ks => .ok (k :: ks)
end
def glueK (a : List Int) : Except Nat (List Int) → Except Nat (List Int)
  | .error e => .error e
  | .ok l => .ok (a ++ l)
theorem kindF_eq (ah : List Nd) (g : List UInt8 → Option Int) (e : Ex) : kindF ah g e = match kindsF ah g e.kids with | .error a => .error a | .ok ks => kindE ah g e.op e.name e.at_ ks := by
  cases e; conv => lhs; unfold kindF
  rfl
theorem glueK_cons_ok {ah : List Nd} {g : List UInt8 → Option Int} {e : Ex} {r : List Ex} {k : Int} (h : kindF ah g e = .ok k) (a : List Int) : glueK a (kindsF ah g (e :: r)) = glueK (a ++ [k]) (kindsF ah g r) := by
  conv => lhs; unfold kindsF
  rw [h]
  cases kindsF ah g r with
  | error x => rfl
  | ok l => simp [glueK]
theorem glueK_cons_error {ah : List Nd} {g : List UInt8 → Option Int} {e : Ex} {r : List Ex} {x : Nat} (h : kindF ah g e = .error x) (a : List Int) : glueK a (kindsF ah g (e :: r)) = .error x := by
  conv => lhs; unfold kindsF
  rw [h]
  rfl
def kdOf : Except Nat Int → Int
  | .error _ => 0
  | .ok k => k
def ferOf (c : Int) : Except Nat Int → Int
  | .error _ => c
  | .ok _ => 0
def fatOf : Except Nat Int → Int
  | .error a => a
  | .ok _ => 0
def OPSB : List (List UInt8) := [[105, 110, 116], [98, 111, 111, 108], [118, 97, 114], [110, 111, 116], [110, 101, 103], [112, 114, 101], [43], [45], [42], [47], [109, 111, 100], [61], [60, 62], [60], [60, 61], [62], [62, 61], [97, 110, 100], [111, 114], [120, 111, 114], [45, 62], [102, 98, 121], [119, 104, 101, 110], [105, 102], [109, 101, 114, 103, 101], [99, 97, 108, 108]]
def okNm (s : ByteArray) : Bool := decide (s.size ≤ 1000000)
mutual
def okE : Ex → Bool
  | .mk op nm _ _ kids => OPSB.contains op.data.toList && (okNm nm && okEs kids)
def okEs : List Ex → Bool
  | [] => true
  | e :: r => okE e && okEs r
end
theorem okE_eq (e : Ex) : okE e = (OPSB.contains e.op.data.toList && (okNm e.name && okEs e.kids)) := by
  cases e; conv => lhs; unfold okE
  rfl
theorem okEs_at : ∀ (l : List Ex) (i : Nat) (h : i < l.length), okEs l = true → okE l[i] = true
  | [], _, h, _ => absurd h (by simp)
  | e :: r, i, h, k => by
    unfold okEs at k
    simp only [Bool.and_eq_true] at k
    cases i with
    | zero => exact k.1
    | succ i => exact okEs_at r i (by simpa using h) k.2
theorem okNm_le {s : ByteArray} (h : okNm s = true) : s.size ≤ maxLen := by
  have : s.size ≤ 1000000 := by simpa [okNm] using h
  exact Nat.le_trans this (by decide)
theorem bytes_eq {s : ByteArray} {l : List UInt8} (h : s.data.toList = l) : s = ⟨l.toArray⟩ := by
  obtain ⟨a⟩ := s
  subst h
  simp
theorem info_kd : ∃ i, Try.prog.info? 39 = some i ∧ (∃ z, i.zero = some z ∧ z.cells.size = 1) ∧ i.size = 1 ∧ i.bytes = 8 := by
  have h : (Try.prog.info? 39).map (fun i => (i.zero.map (·.cells.size), i.size, i.bytes)) = some (some 1, 1, 8) := by kernel_rfl
  cases hi : Try.prog.info? 39 with
  | none => rw [hi] at h; simp at h
  | some i =>
    rw [hi] at h
    simp only [Option.map_some, Option.some.injEq, Prod.mk.injEq] at h
    obtain ⟨hz, hs, hb⟩ := h
    cases hzz : i.zero with
    | none => rw [hzz] at hz; simp at hz
    | some z => exact ⟨i, rfl, ⟨z, hzz, by rw [hzz] at hz; simpa using hz⟩, hs, hb⟩
theorem kd_one (k : Int) : ∀ d ∈ ksD [k], d.one := fun d hd => by
  simp only [ksD, List.map_cons, List.map_nil, List.mem_cons, List.not_mem_nil, or_false] at hd
  subst hd; rfl
theorem kd_plain (l : List Int) : ∀ d ∈ ksD l, ∃ x, d = .v x := fun d hd => by
  simp only [ksD, List.mem_map] at hd
  obtain ⟨k, _, rfl⟩ := hd
  exact ⟨_, rfl⟩
end Go.Proofs.Ytejljfoacbpliaa

namespace Go.Proofs.Ytejljfoacbpliaa
open Go Go.RowKit
theorem size_vS : (Try.prog.info? 126).map (·.size) = some 5 := by kernel_rfl
theorem vS_one (a b : ByteArray) (k p : Int) (t : Bool) : (#[.string a, .int .i64 k, .string b, .bool t, .int .i64 p] : Array Value).all (·.oneCell') = true := by simp [Value.oneCell']
theorem callF_none {ah : List Nd} {nm : ByteArray} (h : nodeFrom nm ah 0 = -1) : callF ah nm = ([], 0) := by
  unfold callF; rw [h]; rfl
theorem callF_at {ah : List Nd} {nm : ByteArray} {i : Nat} (h : nodeFrom nm ah 0 = ((0 + i : Nat) : Int)) (hi : i < ah.length) : (∀ o, ah[i].outs = [o] → callF ah nm = (vkinds ah[i].ins, (o.kind : Int))) ∧ (ah[i].outs.length ≠ 1 → callF ah nm = ([], 0)) := by
  unfold callF
  rw [h]
  have e : ah.getD ((0 + i : Nat) : Int).toNat ⟨⟨#[]⟩, [], [], [], [], 0⟩ = ah[i] := by simp [hi]
  rw [e, if_neg (by omega)]
  refine ⟨fun o ho => by rw [ho], fun ho => ?_⟩
  match h : ah[i].outs, ho with
  | [], _ => rfl
  | [o], ho => simp at ho
  | _ :: _ :: _, _ => rfl
theorem kindsTake {l : List Vr} {j : Nat} (h : j < l.length) : ksD (vkinds (l.take j)) ++ ksD [((l[j]).kind : Int)] = ksD (vkinds (l.take (j + 1))) := by
  have e : l.take (j + 1) = l.take j ++ [l[j]] := by rw [List.take_add_one, List.getElem?_eq_getElem h]; rfl
  rw [e]
  simp only [vkinds, ksD, List.map_append]
  rfl
set_option maxHeartbeats 4000000 in
set_option maxRecDepth 100000 in
theorem call_any (ah : List Nd) (w : World) (ok : Nat → Prop) (xs : Option Addr) (cs b : Nat) (hk : IsD ok w (.slice xs ah.length cs) (.sl ah.length (ndsD ah))) (nm : ByteArray) : Calls Try.prog 126 #[.agg #[.slice xs ah.length cs, .map (some b)], .string nm] w (GivesR (callF ah nm).1 (callF ah nm).2 w) := by
  have F0 := (Fx.start w).alloc w.heap.size rfl 88 #[.slice xs ah.length cs, .map (some b)]
  have hk0 := IsD.below F0.below hk
  have cz := cell_of_row _ w.heap.size 0 _ _ _ (F0.get 0 rfl)
  have kn := namesNode_any ah nm _ ok xs cs hk0
  have HF0 := Lib.hid F0
  have hcs := nodeFrom_cases nm ah 0
  rcases hcs with h | ⟨i, hi, h⟩
  · rw [callF_none h]
    rw [h] at kn
    clear h hk hk0 F0
    go_enter Try.func126, Try.ntmps126
    go_wp2_with fail
    (with_reducible refine kn.mono ?_)
    rintro e w1 ⟨rfl, hb⟩
    have HB := Lib.hid (HF0.out.call hb).below
    clear hb kn
    go_wp2_with fail
    go_ret2
    exact ⟨none, 0, rfl, IsD.nil (Nat.zero_le _), HB.out⟩
  · obtain ⟨hc1, hc2⟩ := callF_at h hi
    obtain ⟨g, rfl, hg, xi, ci, xo, co, xl, cl, xe, ce, hrg, t1, t2, t3, t4⟩ := nd_at hk i hi
    obtain ⟨n, hn⟩ : ∃ n, n = ah[i] := ⟨_, rfl⟩
    rw [← hn] at hc1 hc2 hrg t1 t2 t3 t4
    rw [h, Nat.zero_add] at kn
    have HIL := Lib.hid hi
    have HN1000 := Lib.hid (IsD.few hk)
    have q0 : decide ((i : Int) < 0) = false := by simp
    have i0 : (0 : Int) ≤ (i : Int) := by omega
    have i1 : (i : Int) < (ah.length : Int) := by omega
    have HRG := Lib.hid hrg
    have HT1 := Lib.hid t1
    have HT2 := Lib.hid t2
    have HG := Lib.hid hg
    clear h hi hk hk0 F0 hn hrg t1 t2 t3 t4 hg
    by_cases ho : n.outs.length = 1
    · obtain ⟨o, hoo⟩ := List.length_eq_one_iff.1 ho
      rw [hc1 o hoo]
      obtain ⟨g2, hx2, hg2, hrg2⟩ := var_at HT2.out 0 (by omega)
      have hrg2' : w.rangeAt g2 0 (vrC o) := by
        have : n.outs[0]'(by omega) = o := by simp [hoo]
        rw [this, Nat.zero_mul] at hrg2
        exact hrg2
      subst hx2
      have d2 : ((n.outs.length : Int) != 1) = false := by rw [ho]; rfl
      have HG2 := Lib.hid hg2
      have HRG2 := Lib.hid hrg2'
      have HO1 := Lib.hid ho
      have HSV := Lib.hid size_vS
      have HIK := Lib.hid info_kd
      clear hc1 hc2 hrg2 hrg2' ho hoo hg2
      go_enter Try.func126, Try.ntmps126
      go_wp2_with fail
      (with_reducible refine kn.mono ?_)
      rintro e w1 ⟨rfl, hb⟩
      have F1 := HF0.out.call hb
      have c0 := cell_of_row w1 w.heap.size 0 _ _ _ (F1.get 0 rfl)
      have hr1 := rangeAt_below HRG.out F1.below HG.out
      have k1 : w1.cell? ⟨g, i * 6 + 1, none⟩ = _ := hr1 1 _ rfl
      have k2 : w1.cell? ⟨g, i * 6 + 2, none⟩ = _ := hr1 2 _ rfl
      have HF1 := Lib.hid F1
      clear hb kn F1 hr1 cz
      go_wp2_with fail
      go_loopw [7, 33] (fun v7 v33 wr => ∃ (V : Value) (j : Nat), V = v7 ∧ v33 = .int .i64 (j : Int) ∧ j ≤ n.ins.length ∧ Fx w [(w.heap.size, 88, #[.slice (some ⟨g, 0, none⟩) ah.length cs, .map (some b)])] wr ∧ OwnD 39 1 wr w.heap.size V j (ksD (vkinds (n.ins.take j))))
        (fun _ v33 _ => n.ins.length - (intOf v33).toNat)
      case atStart => exact ⟨_, 0, rfl, rfl, Nat.zero_le _, HF1.out, by rw [List.take_zero]; exact OwnD.nil _ _ _ _⟩
      case round =>
        clear c0 k1 k2 HF1
        obtain ⟨V, j, rfl, rfl, hj, hF, hO⟩ := hrel
        obtain ⟨xv, cv, rfl, _, _⟩ := hO.slice
        have HF := Lib.hid hF
        have HO := Lib.hid hO
        have HJ := Lib.hid hj
        clear hF hO hj
        by_cases hjl : j < n.ins.length
        · have d1 : decide ((j : Int) < (n.ins.length : Int)) = true := by simp; omega
          have HJL := Lib.hid hjl
          obtain ⟨g1, rfl, hg1, hrg1⟩ := var_at HT1.out j hjl
          obtain ⟨v, hv⟩ : ∃ v, v = n.ins[j]'HJL.out := ⟨_, rfl⟩
          rw [← hv] at hrg1
          have HV := Lib.hid hv
          have HRV := Lib.hid (rangeAt_below hrg1 HF.out.below hg1)
          have hal := heap_alloc_new wr (.cells #[.string ⟨#[]⟩, .int .i64 0, .string ⟨#[]⟩, .bool false, .int .i64 0] 126)
          have HAL := Lib.hid hal
          obtain ⟨hnb, hnr⟩ := new_row wr 126 #[.string ⟨#[]⟩, .int .i64 0, .string ⟨#[]⟩, .bool false, .int .i64 0] #[.string v.name, .int .i64 (v.kind : Int), .string v.on, .bool v.not_, .int .i64 (v.at_ : Int)]
          have c1 := cell_of_row _ wr.heap.size 1 _ _ _ hnr
          have HB1 := Lib.hid hnb
          have HB2 := Lib.hid ((Below.refl ((wr.alloc (.cells #[.string ⟨#[]⟩, .int .i64 0, .string ⟨#[]⟩, .bool false, .int .i64 0] 126)).setRow wr.heap.size #[.string v.name, .int .i64 (v.kind : Int), .string v.on, .bool v.not_, .int .i64 (v.at_ : Int)]).heap.size ((wr.alloc (.cells #[.string ⟨#[]⟩, .int .i64 0, .string ⟨#[]⟩, .bool false, .int .i64 0] 126)).setRow wr.heap.size #[.string v.name, .int .i64 (v.kind : Int), .string v.on, .bool v.not_, .int .i64 (v.at_ : Int)])).alloc (Nat.le_refl _) (.cells #[.int .i64 (v.kind : Int)] 39))
          have HO2 := Lib.hid ((HO.out.below HB1.out).below HB2.out)
          have HF2 := Lib.hid ((HF.out.call HB1.out).call HB2.out)
          have HD2 : Hid (IsD (fun _ => True) (((wr.alloc (.cells #[.string ⟨#[]⟩, .int .i64 0, .string ⟨#[]⟩, .bool false, .int .i64 0] 126)).setRow wr.heap.size #[.string v.name, .int .i64 (v.kind : Int), .string v.on, .bool v.not_, .int .i64 (v.at_ : Int)]).alloc (.cells #[.int .i64 (v.kind : Int)] 39)) (.slice (some ⟨wr.heap.size + 1, 0, none⟩) 1 1) (.sl 1 (ksD [(v.kind : Int)]))) := Lib.hid (IsD.made 39 _ _ (by rw [setRow_size]; simp) 1 (by decide) (by decide) (ksD [(v.kind : Int)]) trivial (ksD_rows [(v.kind : Int)]))
          have HBW := Lib.hid (show w.heap.size + 1 ≤ (((wr.alloc (.cells #[.string ⟨#[]⟩, .int .i64 0, .string ⟨#[]⟩, .bool false, .int .i64 0] 126)).setRow wr.heap.size #[.string v.name, .int .i64 (v.kind : Int), .string v.on, .bool v.not_, .int .i64 (v.at_ : Int)]).alloc (.cells #[.int .i64 (v.kind : Int)] 39)).heap.size from HF2.out.lt_ 0 rfl)
          have HNM := Lib.hid (show j + 1 ≤ 100000000000 by have := IsD.few HT1.out; omega)
          clear hjl hg1 hrg1 hv hal hnb hnr
          have i0' : (0 : Int) ≤ (j : Int) := by omega
          have i1' : (j : Int) < (n.ins.length : Int) := by have := HJL.out; omega
          go_wp2_with (first | (refine wpList_load_mid rfl 126 (.tmp 35) rfl g1 (j * 5) rfl (vrC v) _ ?_ Try.underlying126 rfl HSV.out ?_; (exact HRV.out)) | (refine wpList_store_row rfl 126 (.tmp 9) (.tmp 36) rfl wr.heap.size #[.string v.name, .int .i64 (v.kind : Int), .string v.on, .bool v.not_, .int .i64 (v.at_ : Int)] rfl rfl 126 _ HAL.out HSV.out rfl (vS_one _ _ _ _ _) ?_) | (at_builtin; refine wpList_appH rfl (.tmp 37) (.tmp 40) 159 rfl 8 Try.underlying159 HIK.out (by decide) (by decide) rfl HO2.out HBW.out (ksD [(v.kind : Int)]) rfl HD2.out rfl (kd_plain _) (kd_one _) HNM.out ?_))
          intro v' w' hO' hg' _
          rw [HV.out, kindsTake HJL.out] at hO'
          have HF3 := Lib.hid (HF2.out.own hg' (fun k hk => ⟨Nat.le_of_lt (HO2.out.gt k hk).1, fun x hx => by
            simp only [List.mem_cons, List.not_mem_nil, or_false] at hx
            subst hx
            have := (HO2.out.gt k hk).1
            show k ≠ w.heap.size
            omega⟩))
          have HO3 := Lib.hid hO'
          have i2 : (j : Int) < 1000000000 := by have := HJL.out; have := IsD.few HT1.out; omega
          clear hO' hg' c1
          go_wp2_with fail
          refine ⟨⟨_, j + 1, rfl, by go_num, HJL.out, HF3.out, HO3.out⟩, ?_⟩
          simp [intOf]; omega
        · have d1 : decide ((j : Int) < (n.ins.length : Int)) = false := by simp; omega
          obtain rfl : j = n.ins.length := by have := HJ.out; omega
          have c0 := cell_of_row wr w.heap.size 0 _ _ _ (HF.out.get 0 rfl)
          have hr1 := rangeAt_below HRG.out HF.out.below HG.out
          have k2 : wr.cell? ⟨g, i * 6 + 2, none⟩ = some (.slice (some ⟨g2, 0, none⟩) n.outs.length co) := hr1 2 _ rfl
          have hr2 := rangeAt_below HRG2.out HF.out.below HG2.out
          have k3 : wr.cell? ⟨g2, 1, none⟩ = some (.int .i64 (o.kind : Int)) := by have := hr2 1 _ rfl; rwa [Nat.zero_add] at this
          have i2 : (0 : Int) < (n.outs.length : Int) := by have := HO1.out; omega
          have HOZ := Lib.hid HO.out
          clear hjl hr1 hr2
          go_wp2_with fail
          go_quiet (fail)
          go_wp2_with fail
          go_ret2
          have hz := HOZ.out
          rw [List.take_length] at hz
          have hlz : (vkinds n.ins).length = n.ins.length := by simp [vkinds]
          refine ⟨xv, cv, by rw [hlz]; rfl, ?_, belowN HF.out.below nq⟩
          rw [hlz]
          exact IsD.mono (fun k hk _ => Nat.le_of_lt hk) (IsD.below (belowN (Below.refl _ _) nq) (hz.ends (IsD.few HT1.out)))
    · rw [hc2 ho]
      have d2 : ((n.outs.length : Int) != 1) = true := by simp; omega
      clear hc1 hc2 ho
      go_enter Try.func126, Try.ntmps126
      go_wp2_with fail
      (with_reducible refine kn.mono ?_)
      rintro e w1 ⟨rfl, hb⟩
      have F1 := HF0.out.call hb
      have c0 := cell_of_row w1 w.heap.size 0 _ _ _ (F1.get 0 rfl)
      have hr1 := rangeAt_below HRG.out F1.below HG.out
      have k2 : w1.cell? ⟨g, i * 6 + 2, none⟩ = _ := hr1 2 _ rfl
      have HB := Lib.hid F1.below
      clear hb kn F1 hr1
      go_wp2_with fail
      go_ret2
      exact ⟨none, 0, rfl, IsD.nil (Nat.zero_le _), HB.out⟩
end Go.Proofs.Ytejljfoacbpliaa

namespace Go.Proofs.Ytejljfoacbpliaa
open Go Go.RowKit
set_option maxHeartbeats 4000000 in
set_option maxRecDepth 100000 in
theorem rule_call (ah : List Nd) (w : World) (ok : Nat → Prop) (xs : Option Addr) (cs b : Nat) (hk : IsD ok w (.slice xs ah.length cs) (.sl ah.length (ndsD ah))) (nm : ByteArray) (n at_ last : Int) (xk : Option Addr) (lk ck : Nat) : Calls Try.prog 87 #[.agg #[.slice xs ah.length cs, .map (some b)], .agg #[.string (⟨#[99, 97, 108, 108]⟩ : ByteArray), .string nm, .int .i64 n, .int .i64 at_, .slice xk lk ck], .int .i64 last] w (GivesR (callF ah nm).1 (callF ah nm).2 w) := by
  obtain ⟨hb, hA, hE⟩ := two_new w (.cells #[.slice xs ah.length cs, .map (some b)] 88) (.cells #[.string (⟨#[99, 97, 108, 108]⟩ : ByteArray), .string nm, .int .i64 n, .int .i64 at_, .slice xk lk ck] 43)
  have c0 := cell_of_row _ (w.heap.size + 1) 0 _ _ _ hE
  have c1 := cell_of_row _ (w.heap.size + 1) 1 _ _ _ hE
  have kc := call_any ah ((w.alloc (.cells #[.slice xs ah.length cs, .map (some b)] 88)).alloc (.cells #[.string (⟨#[99, 97, 108, 108]⟩ : ByteArray), .string nm, .int .i64 n, .int .i64 at_, .slice xk lk ck] 43)) ok xs cs b (hk.below hb) nm
  have HA := Lib.hid hA
  have HSC := Lib.hid (show (Try.prog.info? 88).map (·.size) = some 2 by kernel_rfl)
  have HB := Lib.hid hb
  obtain ⟨R, hR⟩ : ∃ R, R = callF ah nm := ⟨_, rfl⟩
  rw [← hR] at kc ⊢
  clear hb hA hE hk hR
  go_enter Try.func87, Try.ntmps87
  go_wp2_with (refine wpList_load_row rfl 88 (.tmp 3) rfl w.heap.size rfl 88 #[.slice xs ah.length cs, .map (some b)] (0, 0) _ HA.out Try.underlying88 rfl HSC.out ?_)
  (with_reducible refine kc.mono ?_)
  rintro e w3 ⟨x, c, rfl, ht, hb⟩
  have HBZ := Lib.hid (HB.out.trans (hb.mono HB.out.size))
  have HTZ := Lib.hid (IsD.monoB HB.out.size ht)
  clear hb kc ht
  go_wp2_with fail
  go_ret2
  exact ⟨x, c, rfl, HTZ.out, HBZ.out⟩
theorem rule_any (ah : List Nd) (g : List UInt8 → Option Int) (op : ByteArray) (hop : OPSB.contains op.data.toList = true) (w : World) (ok : Nat → Prop) (xs : Option Addr) (cs b m : Nat) (hk : IsD ok w (.slice xs ah.length cs) (.sl ah.length (ndsD ah))) (hg : Kinds w b m g) (nm : ByteArray) (hs : nm.size ≤ maxLen) (n at_ last : Int) (xk : Option Addr) (lk ck : Nat) :
    Calls Try.prog 87 #[.agg #[.slice xs ah.length cs, .map (some b)], .agg #[.string op, .string nm, .int .i64 n, .int .i64 at_, .slice xk lk ck], .int .i64 last] w (GivesR (ruleF ah g op nm last).1 (ruleF ah g op nm last).2 w) := by
  simp only [OPSB, List.contains_cons, List.contains_nil, Bool.or_eq_true, Bool.or_false, beq_iff_eq] at hop
  rcases hop with h | h | h | h | h | h | h | h | h | h | h | h | h | h | h | h | h | h | h | h | h | h | h | h | h | h
  · obtain rfl := bytes_eq h
    rw [show ruleF ah g (⟨#[105, 110, 116]⟩ : ByteArray) nm last = ([], 2) by kernel_rfl]
    exact rule_int w xs ah.length cs b nm n at_ last xk lk ck
  · obtain rfl := bytes_eq h
    rw [show ruleF ah g (⟨#[98, 111, 111, 108]⟩ : ByteArray) nm last = ([], 1) by kernel_rfl]
    exact rule_bool w xs ah.length cs b nm n at_ last xk lk ck
  · obtain rfl := bytes_eq h
    rw [show ruleF ah g (⟨#[118, 97, 114]⟩ : ByteArray) nm last = ([], kindOf g nm) by kernel_rfl]
    exact rule_var w xs ah.length cs b m g hg nm hs n at_ last xk lk ck
  · obtain rfl := bytes_eq h
    rw [show ruleF ah g (⟨#[110, 111, 116]⟩ : ByteArray) nm last = ([1], 1) by kernel_rfl]
    exact rule_not w xs ah.length cs b nm n at_ last xk lk ck
  · obtain rfl := bytes_eq h
    rw [show ruleF ah g (⟨#[110, 101, 103]⟩ : ByteArray) nm last = ([2], 2) by kernel_rfl]
    exact rule_neg w xs ah.length cs b nm n at_ last xk lk ck
  · obtain rfl := bytes_eq h
    rw [show ruleF ah g (⟨#[112, 114, 101]⟩ : ByteArray) nm last = ([last], last) by kernel_rfl]
    exact rule_pre w xs ah.length cs b nm n at_ last xk lk ck
  · obtain rfl := bytes_eq h
    rw [show ruleF ah g (⟨#[43]⟩ : ByteArray) nm last = ([2, 2], 2) by kernel_rfl]
    exact rule_add w xs ah.length cs b nm n at_ last xk lk ck
  · obtain rfl := bytes_eq h
    rw [show ruleF ah g (⟨#[45]⟩ : ByteArray) nm last = ([2, 2], 2) by kernel_rfl]
    exact rule_sub w xs ah.length cs b nm n at_ last xk lk ck
  · obtain rfl := bytes_eq h
    rw [show ruleF ah g (⟨#[42]⟩ : ByteArray) nm last = ([2, 2], 2) by kernel_rfl]
    exact rule_mul w xs ah.length cs b nm n at_ last xk lk ck
  · obtain rfl := bytes_eq h
    rw [show ruleF ah g (⟨#[47]⟩ : ByteArray) nm last = ([2, 2], 2) by kernel_rfl]
    exact rule_div w xs ah.length cs b nm n at_ last xk lk ck
  · obtain rfl := bytes_eq h
    rw [show ruleF ah g (⟨#[109, 111, 100]⟩ : ByteArray) nm last = ([2, 2], 2) by kernel_rfl]
    exact rule_mod w xs ah.length cs b nm n at_ last xk lk ck
  · obtain rfl := bytes_eq h
    rw [show ruleF ah g (⟨#[61]⟩ : ByteArray) nm last = ([last, last], 1) by kernel_rfl]
    exact rule_eq w xs ah.length cs b nm n at_ last xk lk ck
  · obtain rfl := bytes_eq h
    rw [show ruleF ah g (⟨#[60, 62]⟩ : ByteArray) nm last = ([last, last], 1) by kernel_rfl]
    exact rule_ne w xs ah.length cs b nm n at_ last xk lk ck
  · obtain rfl := bytes_eq h
    rw [show ruleF ah g (⟨#[60]⟩ : ByteArray) nm last = ([2, 2], 1) by kernel_rfl]
    exact rule_lt w xs ah.length cs b nm n at_ last xk lk ck
  · obtain rfl := bytes_eq h
    rw [show ruleF ah g (⟨#[60, 61]⟩ : ByteArray) nm last = ([2, 2], 1) by kernel_rfl]
    exact rule_le w xs ah.length cs b nm n at_ last xk lk ck
  · obtain rfl := bytes_eq h
    rw [show ruleF ah g (⟨#[62]⟩ : ByteArray) nm last = ([2, 2], 1) by kernel_rfl]
    exact rule_gt w xs ah.length cs b nm n at_ last xk lk ck
  · obtain rfl := bytes_eq h
    rw [show ruleF ah g (⟨#[62, 61]⟩ : ByteArray) nm last = ([2, 2], 1) by kernel_rfl]
    exact rule_ge w xs ah.length cs b nm n at_ last xk lk ck
  · obtain rfl := bytes_eq h
    rw [show ruleF ah g (⟨#[97, 110, 100]⟩ : ByteArray) nm last = ([1, 1], 1) by kernel_rfl]
    exact rule_and w xs ah.length cs b nm n at_ last xk lk ck
  · obtain rfl := bytes_eq h
    rw [show ruleF ah g (⟨#[111, 114]⟩ : ByteArray) nm last = ([1, 1], 1) by kernel_rfl]
    exact rule_or w xs ah.length cs b nm n at_ last xk lk ck
  · obtain rfl := bytes_eq h
    rw [show ruleF ah g (⟨#[120, 111, 114]⟩ : ByteArray) nm last = ([1, 1], 1) by kernel_rfl]
    exact rule_xor w xs ah.length cs b nm n at_ last xk lk ck
  · obtain rfl := bytes_eq h
    rw [show ruleF ah g (⟨#[45, 62]⟩ : ByteArray) nm last = ([last, last], last) by kernel_rfl]
    exact rule_arrow w xs ah.length cs b nm n at_ last xk lk ck
  · obtain rfl := bytes_eq h
    rw [show ruleF ah g (⟨#[102, 98, 121]⟩ : ByteArray) nm last = ([last, last], last) by kernel_rfl]
    exact rule_fby w xs ah.length cs b nm n at_ last xk lk ck
  · obtain rfl := bytes_eq h
    rw [show ruleF ah g (⟨#[119, 104, 101, 110]⟩ : ByteArray) nm last = ([last], chosenK g nm last) by kernel_rfl]
    exact rule_when w xs ah.length cs b m g hg nm hs n at_ last xk lk ck
  · obtain rfl := bytes_eq h
    rw [show ruleF ah g (⟨#[105, 102]⟩ : ByteArray) nm last = ([1, last, last], last) by kernel_rfl]
    exact rule_if w xs ah.length cs b nm n at_ last xk lk ck
  · obtain rfl := bytes_eq h
    rw [show ruleF ah g (⟨#[109, 101, 114, 103, 101]⟩ : ByteArray) nm last = ([last, last], chosenK g nm last) by kernel_rfl]
    exact rule_merge w xs ah.length cs b m g hg nm hs n at_ last xk lk ck
  · obtain rfl := bytes_eq h
    rw [show ruleF ah g (⟨#[99, 97, 108, 108]⟩ : ByteArray) nm last = callF ah nm by kernel_rfl]
    exact rule_call ah w ok xs cs b hk nm n at_ last xk lk ck
end Go.Proofs.Ytejljfoacbpliaa

namespace Go.Proofs.Ytejljfoacbpliaa
open Go Go.RowKit
def GivesK (r : Except Nat Int) (w : World) (e : Ending) (w' : World) : Prop := e = .returned (.tuple #[.int .i64 (kdOf r), .agg #[.int .i64 (ferOf 9 r), .int .i64 (fatOf r)]]) ∧ Below w.heap.size w w'
theorem kindE_ok {ah : List Nd} {g : List UInt8 → Option Int} {op nm : ByteArray} {at_ : Nat} {ks : List Int} (h0 : (ruleF ah g op nm (ks.getLastD 0)).2 ≠ 0) (h1 : (ks == (ruleF ah g op nm (ks.getLastD 0)).1) = true) : kindE ah g op nm at_ ks = .ok (ruleF ah g op nm (ks.getLastD 0)).2 := by
  unfold kindE; rw [if_neg (by rintro (h | h); exact h0 h; rw [h1] at h; cases h)]
theorem kindE_zero {ah : List Nd} {g : List UInt8 → Option Int} {op nm : ByteArray} {at_ : Nat} {ks : List Int} (h0 : (ruleF ah g op nm (ks.getLastD 0)).2 = 0) : kindE ah g op nm at_ ks = .error at_ := by
  unfold kindE; rw [if_pos (.inl h0)]
theorem kindE_apart {ah : List Nd} {g : List UInt8 → Option Int} {op nm : ByteArray} {at_ : Nat} {ks : List Int} (h1 : (ks == (ruleF ah g op nm (ks.getLastD 0)).1) = false) : kindE ah g op nm at_ ks = .error at_ := by
  unfold kindE; rw [if_pos (.inr h1)]
theorem getLastD_snoc (ks : List Int) (k : Int) : (ks ++ [k]).getLastD 0 = k := by simp
theorem ksD_snoc (ks : List Int) (k : Int) : ksD ks ++ ksD [k] = ksD (ks ++ [k]) := by simp [ksD]
set_option maxHeartbeats 4000000 in
set_option maxRecDepth 100000 in
theorem kind_lt (ah : List Nd) (g : List UInt8 → Option Int) : ∀ (d : Nat) (e : Ex), SizeOf.sizeOf e < d → okE e = true → ∀ (w : World) (ok okk : Nat → Prop) (xs : Option Addr) (cs b m : Nat) (x : Option Addr) (c : Nat), IsD ok w (.slice xs ah.length cs) (.sl ah.length (ndsD ah)) → Kinds w b m g → KidsD okk w e x c →
    Calls Try.prog 52 #[.agg #[.slice xs ah.length cs, .map (some b)], exV e x c] w (GivesK (kindF ah g e) w) := by
  intro d
  induction d with
  | zero => intro e h; omega
  | succ d ih =>
    intro e hd hoe w ok okk xs cs b m x c hk hg hkk
    rw [okE_eq] at hoe
    simp only [Bool.and_eq_true] at hoe
    obtain ⟨ho1, ho2, ho3⟩ := hoe
    have IH := Lib.hid (fun (i : Nat) (hi : i < e.kids.length) => ih e.kids[i] (by have := kid_less hi; omega) (okEs_at e.kids i hi ho3))
    have HK := Lib.hid hk
    have HKK := Lib.hid hkk
    have HG := Lib.hid hg
    have HOP := Lib.hid ho1
    have HNM := Lib.hid (okNm_le ho2)
    have HSF := Lib.hid size_flt
    have HSE := Lib.hid size_eS
    have HIK := Lib.hid info_kd
    have HSC := Lib.hid (show (Try.prog.info? 88).map (·.size) = some 2 by kernel_rfl)
    have F0 := (((Fx.start w).alloc w.heap.size rfl 88 #[.slice xs ah.length cs, .map (some b)]).alloc (w.heap.size + 1) (by simp) 43 #[.string e.op, .string e.name, .int .i64 e.n, .int .i64 (e.at_ : Int), .slice x e.kids.length c]).alloc (w.heap.size + 1 + 1) (by simp) 32 #[.int .i64 0, .int .i64 0]
    have c14 := cell_of_row _ (w.heap.size + 1) 4 _ _ _ (F0.get 1 rfl)
    have HF0 : Hid (Fx w [(w.heap.size, 88, #[.slice xs ah.length cs, .map (some b)]), (w.heap.size + 1, 43, #[.string e.op, .string e.name, .int .i64 e.n, .int .i64 (e.at_ : Int), .slice x e.kids.length c]), (w.heap.size + 1 + 1, 32, #[.int .i64 0, .int .i64 0])] _) := Lib.hid F0
    have HR0 := Lib.hid (kindF_eq ah g e)
    obtain ⟨R, hR⟩ : ∃ R, R = kindF ah g e := ⟨_, rfl⟩
    rw [← hR] at HR0 ⊢
    clear hk hkk hg ho1 ho2 ho3 ih hd F0 hR
    unfold exV
    go_enter Try.func52, Try.ntmps52
    go_wp2_with fail
    go_loopw [6, 7, 17] (fun v6 v7 v17 wr => ∃ (V : Value) (i : Nat) (ks : List Int), V = v6 ∧ v7 = .int .i64 (ks.getLastD 0) ∧ v17 = .int .i64 (i : Int) ∧ i ≤ e.kids.length ∧ ks.length = i ∧ Fx w [(w.heap.size, 88, #[.slice xs ah.length cs, .map (some b)]), (w.heap.size + 1, 43, #[.string e.op, .string e.name, .int .i64 e.n, .int .i64 (e.at_ : Int), .slice x e.kids.length c]), (w.heap.size + 1 + 1, 32, #[.int .i64 0, .int .i64 0])] wr ∧ OwnD 39 1 wr (w.heap.size + 1 + 1) V i (ksD ks) ∧ kindsF ah g e.kids = glueK ks (kindsF ah g (e.kids.drop i)))
      (fun _ _ v17 _ => e.kids.length - (intOf v17).toNat)
    case atStart =>
      refine ⟨_, 0, [], rfl, rfl, rfl, Nat.zero_le _, rfl, HF0.out, OwnD.nil _ _ _ _, ?_⟩
      rw [List.drop_zero]
      cases kindsF ah g e.kids <;> rfl
    case round =>
      clear c14 HF0
      obtain ⟨V, i, ks, rfl, rfl, rfl, hi, hks, hF, hO, hq⟩ := hrel
      obtain ⟨xv, cv, rfl, _, _⟩ := hO.slice
      obtain ⟨last, hlast⟩ : ∃ last, last = ks.getLastD 0 := ⟨_, rfl⟩
      rw [← hlast]
      have HLA := Lib.hid hlast
      have HF := Lib.hid hF
      have HO := Lib.hid hO
      have HI := Lib.hid hi
      have HKL := Lib.hid hks
      clear hF hO hi hks hlast
      by_cases hil : i < e.kids.length
      · have d1 : decide ((i : Int) < (e.kids.length : Int)) = true := by simp; omega
        have HIL := Lib.hid hil
        rw [List.drop_eq_getElem_cons hil] at hq
        obtain ⟨ek, hek⟩ : ∃ ek, ek = e.kids[i]'HIL.out := ⟨_, rfl⟩
        obtain ⟨g1, rfl, hg1, xk, ck, hrg, hkk⟩ := HKK.out.at_ i HIL.out
        have ih := IH.out i HIL.out
        rw [← hek] at hq hrg hkk ih
        have HRK := Lib.hid (rangeAt_below hrg HF.out.below hg1)
        have HAL := Lib.hid (heap_alloc_new wr (.cells #[.string ⟨#[]⟩, .string ⟨#[]⟩, .int .i64 0, .int .i64 0, .slice none 0 0] 43))
        obtain ⟨hnb, hnr⟩ := new_row wr 43 #[.string ⟨#[]⟩, .string ⟨#[]⟩, .int .i64 0, .int .i64 0, .slice none 0 0] #[.string ek.op, .string ek.name, .int .i64 ek.n, .int .i64 (ek.at_ : Int), .slice xk ek.kids.length ck]
        have HF1 := Lib.hid (HF.out.call hnb)
        have HO1 := Lib.hid (HO.out.below hnb)
        have HN1 := Lib.hid hnr
        have HL0 := Lib.hid ((HF.out.call hnb).get 0 rfl)
        have hs1 : ((wr.alloc (.cells #[.string ⟨#[]⟩, .string ⟨#[]⟩, .int .i64 0, .int .i64 0, .slice none 0 0] 43)).setRow wr.heap.size #[.string ek.op, .string ek.name, .int .i64 ek.n, .int .i64 (ek.at_ : Int), .slice xk ek.kids.length ck]).heap.size = wr.heap.size + 1 := by rw [setRow_size]; simp
        have HS1 := Lib.hid hs1
        have kk := ih ((wr.alloc (.cells #[.string ⟨#[]⟩, .string ⟨#[]⟩, .int .i64 0, .int .i64 0, .slice none 0 0] 43)).setRow wr.heap.size #[.string ek.op, .string ek.name, .int .i64 ek.n, .int .i64 (ek.at_ : Int), .slice xk ek.kids.length ck]) ok okk xs cs b m xk ck (IsD.below HF1.out.below HK.out) (MapO.below HG.out HF1.out.below) (IsD.below HF1.out.below hkk)
        unfold exV at kk
        have i0 : (0 : Int) ≤ (i : Int) := by omega
        have i1 : (i : Int) < (e.kids.length : Int) := by omega
        clear hil hek hrg hkk hnb hnr ih hg1 hs1
        cases hkq : kindF ah g ek with
        | error a =>
          rw [hkq] at kk
          have hRe : R = .error a := by rw [HR0.out, hq, glueK_cons_error hkq]
          have HRE := Lib.hid hRe
          have kk2 : Calls Try.prog 52 #[.agg #[.slice xs ah.length cs, .map (some b)], .agg #[.string ek.op, .string ek.name, .int .i64 ek.n, .int .i64 (ek.at_ : Int), .slice xk ek.kids.length ck]] ((wr.alloc (.cells #[.string ⟨#[]⟩, .string ⟨#[]⟩, .int .i64 0, .int .i64 0, .slice none 0 0] 43)).setRow wr.heap.size #[.string ek.op, .string ek.name, .int .i64 ek.n, .int .i64 (ek.at_ : Int), .slice xk ek.kids.length ck]) (fun e w' => e = .returned (.tuple #[.int .i64 0, .agg #[.int .i64 9, .int .i64 (a : Int)]]) ∧ Below ((wr.alloc (.cells #[.string ⟨#[]⟩, .string ⟨#[]⟩, .int .i64 0, .int .i64 0, .slice none 0 0] 43)).setRow wr.heap.size #[.string ek.op, .string ek.name, .int .i64 ek.n, .int .i64 (ek.at_ : Int), .slice xk ek.kids.length ck]).heap.size ((wr.alloc (.cells #[.string ⟨#[]⟩, .string ⟨#[]⟩, .int .i64 0, .int .i64 0, .slice none 0 0] 43)).setRow wr.heap.size #[.string ek.op, .string ek.name, .int .i64 ek.n, .int .i64 (ek.at_ : Int), .slice xk ek.kids.length ck]) w') := kk
          clear kk hq hkq hRe
          go_wp2_with (first | (refine wpList_load_mid rfl 43 (.tmp 19) rfl g1 (i * 5) rfl (exC ek xk ck) _ ?_ Try.underlying43 rfl HSE.out ?_; (exact HRK.out)) | (refine wpList_store_row rfl 43 (.tmp 9) (.tmp 20) rfl wr.heap.size #[.string ek.op, .string ek.name, .int .i64 ek.n, .int .i64 (ek.at_ : Int), .slice xk ek.kids.length ck] rfl rfl 43 _ HAL.out HSE.out rfl (e4_one _ _ _ _ _ _ _) ?_) | (refine wpList_load_row rfl 88 (.tmp 2) rfl w.heap.size rfl 88 #[.slice xs ah.length cs, .map (some b)] (0, 0) _ HL0.out Try.underlying88 rfl HSC.out ?_) | (refine wpList_load_row rfl 43 (.tmp 9) rfl wr.heap.size rfl 43 #[.string ek.op, .string ek.name, .int .i64 ek.n, .int .i64 (ek.at_ : Int), .slice xk ek.kids.length ck] (0, 0) _ HN1.out Try.underlying43 rfl HSE.out ?_))
          (with_reducible refine kk2.mono ?_)
          rintro e9 w2 ⟨rfl, hb⟩
          have HF2 := Lib.hid (HF1.out.call hb)
          have HAF := Lib.hid (heap_alloc_new w2 (.cells #[.int .i64 0, .int .i64 0] 32))
          obtain ⟨hnb, hnr⟩ := new_row w2 32 #[.int .i64 0, .int .i64 0] #[.int .i64 9, .int .i64 (a : Int)]
          have c0 := cell_of_row _ w2.heap.size 0 _ _ _ hnr
          have HF3 := Lib.hid (HF2.out.call hnb)
          have HN3 := Lib.hid hnr
          clear kk2 hb hnb hnr
          go_wp2_with (refine wpList_store_row rfl 32 (.tmp 11) (.tmp 26) rfl w2.heap.size #[.int .i64 9, .int .i64 (a : Int)] rfl rfl 32 _ HAF.out HSF.out rfl (fault_one _ _) ?_)
          clear c0
          obtain ⟨w9, hw9⟩ : ∃ w9, w9 = ((w2.alloc (.cells #[.int .i64 0, .int .i64 0] 32)).setRow w2.heap.size #[.int .i64 9, .int .i64 (a : Int)]) := ⟨_, rfl⟩
          have LF := Lib.hid (show w9.heap[(w2.heap.size)]? = some (.cells #[.int .i64 9, .int .i64 (a : Int)] 32 (0, 0)) by rw [hw9]; exact HN3.out)
          have LR := Lib.hid (show w9.heap[(w.heap.size + 1 + 1)]? = some (.cells #[.int .i64 0, .int .i64 0] 32 (0, 0)) by rw [hw9]; exact HF3.out.get 2 rfl)
          have LB := Lib.hid (show Below w.heap.size w w9 by rw [hw9]; exact HF3.out.below)
          have HRB := Lib.hid (show w.heap.size ≤ w.heap.size + 1 + 1 by omega)
          rw [← hw9]
          clear hw9
          refine wp_region_steps_then (words [wIs (.agg #[.int .i64 9, .int .i64 (a : Int)]), wIs (.int .i64 0)]) w9.heap.size w9 (by kernel_rfl) (Below.refl _ _) (Nat.le_refl _) (words_stable ?stab) rfl rfl rfl (by kernel_rfl) _ rfl ?steps ?last
          case stab =>
            intro f hf
            simp only [List.mem_cons, List.not_mem_nil, or_false] at hf
            rcases hf with rfl | rfl <;> exact stable_is _
          case steps =>
            refine Steps.cons (step_value rfl fun act W hp => ?_) ?_
            · have f1 : act.tmps.getD 11 undef = .pointer (some ⟨w2.heap.size, 0, none⟩) := hp.old 11 rfl
              exact ⟨wanted_none rfl, _, _, run_ldrow rfl f1 ((hp.below.block (w2.heap.size) (Array.getElem?_eq_some_iff.1 LF.out).1).trans LF.out) Try.underlying32 rfl HSF.out, rfl, Below.refl _ _⟩
            refine Steps.cons (step_value rfl fun act W hp => ⟨wanted_none rfl, _, _, run_move (.inr rfl), rfl, Below.refl _ _⟩) ?_
            exact Steps.nil
          case last =>
            intro act W hI
            have f16 : act.tmps.getD 30 undef = .agg #[.int .i64 9, .int .i64 (a : Int)] := hI.new 0 _ 30 rfl rfl rfl
            have f2 : act.tmps.getD 4 undef = .int .i64 0 := hI.new 1 _ 4 rfl rfl rfl
            have f3 : act.tmps.getD 5 undef = .pointer (some ⟨w.heap.size + 1 + 1, 0, none⟩) := hI.old 5 (by simp)
            have hdf : act.defers = [] := hI.defers
            have lr := (hI.below.block (w.heap.size + 1 + 1) (Array.getElem?_eq_some_iff.1 LR.out).1).trans LR.out
            have hbW := LB.out.trans (hI.below.mono LB.out.size)
            clear hI
            refine wpOp_of rfl (wanted_none rfl) ?_
            refine wp_store_row 32 (.tmp 5) (.tmp 30) rfl (w.heap.size + 1 + 1) #[.int .i64 9, .int .i64 (a : Int)] f3 f16 32 _ lr HSF.out rfl (fault_one _ _) ?_
            have hset := setRow_heap W (w.heap.size + 1 + 1) _ #[.int .i64 9, .int .i64 (a : Int)] _ _ lr
            obtain ⟨a2, ha2⟩ : ∃ a2, a2 = act.put none undef := ⟨_, rfl⟩
            have g3 : a2.tmps.getD 5 undef = .pointer (some ⟨w.heap.size + 1 + 1, 0, none⟩) := by rw [ha2]; exact f3
            have g2 : a2.tmps.getD 4 undef = .int .i64 0 := by rw [ha2]; exact f2
            have gd : a2.defers = [] := by rw [ha2]; exact hdf
            rw [← ha2]
            clear ha2
            go_wp2_with fail
            refine bodyPost_ret (results_tmp_cell (q := 4) (p := 5) (ty := 32) rfl _ _ (w.heap.size + 1 + 1) 32 #[.int .i64 9, .int .i64 (a : Int)] (0, 0) _ g3 hset Try.underlying32 rfl HSF.out) gd ?_
            rw [g2]
            rw [HRE.out]
            exact ⟨rfl, below_setRow hbW HRB.out _⟩

        | ok k =>
          rw [hkq] at kk
          rw [glueK_cons_ok hkq] at hq
          have HQ := Lib.hid hq
          have kk2 : Calls Try.prog 52 #[.agg #[.slice xs ah.length cs, .map (some b)], .agg #[.string ek.op, .string ek.name, .int .i64 ek.n, .int .i64 (ek.at_ : Int), .slice xk ek.kids.length ck]] ((wr.alloc (.cells #[.string ⟨#[]⟩, .string ⟨#[]⟩, .int .i64 0, .int .i64 0, .slice none 0 0] 43)).setRow wr.heap.size #[.string ek.op, .string ek.name, .int .i64 ek.n, .int .i64 (ek.at_ : Int), .slice xk ek.kids.length ck]) (fun e w' => e = .returned (.tuple #[.int .i64 k, .agg #[.int .i64 0, .int .i64 0]]) ∧ Below ((wr.alloc (.cells #[.string ⟨#[]⟩, .string ⟨#[]⟩, .int .i64 0, .int .i64 0, .slice none 0 0] 43)).setRow wr.heap.size #[.string ek.op, .string ek.name, .int .i64 ek.n, .int .i64 (ek.at_ : Int), .slice xk ek.kids.length ck]).heap.size ((wr.alloc (.cells #[.string ⟨#[]⟩, .string ⟨#[]⟩, .int .i64 0, .int .i64 0, .slice none 0 0] 43)).setRow wr.heap.size #[.string ek.op, .string ek.name, .int .i64 ek.n, .int .i64 (ek.at_ : Int), .slice xk ek.kids.length ck]) w') := kk
          clear kk hq hkq
          go_wp2_with (first | (refine wpList_load_mid rfl 43 (.tmp 19) rfl g1 (i * 5) rfl (exC ek xk ck) _ ?_ Try.underlying43 rfl HSE.out ?_; (exact HRK.out)) | (refine wpList_store_row rfl 43 (.tmp 9) (.tmp 20) rfl wr.heap.size #[.string ek.op, .string ek.name, .int .i64 ek.n, .int .i64 (ek.at_ : Int), .slice xk ek.kids.length ck] rfl rfl 43 _ HAL.out HSE.out rfl (e4_one _ _ _ _ _ _ _) ?_) | (refine wpList_load_row rfl 88 (.tmp 2) rfl w.heap.size rfl 88 #[.slice xs ah.length cs, .map (some b)] (0, 0) _ HL0.out Try.underlying88 rfl HSC.out ?_) | (refine wpList_load_row rfl 43 (.tmp 9) rfl wr.heap.size rfl 43 #[.string ek.op, .string ek.name, .int .i64 ek.n, .int .i64 (ek.at_ : Int), .slice xk ek.kids.length ck] (0, 0) _ HN1.out Try.underlying43 rfl HSE.out ?_))
          (with_reducible refine kk2.mono ?_)
          rintro e9 w2 ⟨rfl, hb⟩
          have HF2 := Lib.hid (HF1.out.call hb)
          have HO2 := Lib.hid (HO1.out.below hb)
          have HAF := Lib.hid (heap_alloc_new w2 (.cells #[.int .i64 0, .int .i64 0] 32))
          obtain ⟨hnb, hnr⟩ := new_row w2 32 #[.int .i64 0, .int .i64 0] #[.int .i64 0, .int .i64 0]
          have c0 := cell_of_row _ w2.heap.size 0 _ _ _ hnr
          have HF3 := Lib.hid ((HF2.out.call hnb).make (.cells #[.int .i64 k] 39))
          have hkb : Below ((w2.alloc (.cells #[.int .i64 0, .int .i64 0] 32)).setRow w2.heap.size #[.int .i64 0, .int .i64 0]).heap.size ((w2.alloc (.cells #[.int .i64 0, .int .i64 0] 32)).setRow w2.heap.size #[.int .i64 0, .int .i64 0]) (((w2.alloc (.cells #[.int .i64 0, .int .i64 0] 32)).setRow w2.heap.size #[.int .i64 0, .int .i64 0]).alloc (.cells #[.int .i64 k] 39)) := (Below.refl _ _).alloc (Nat.le_refl _) _
          have HO3 := Lib.hid ((HO2.out.below hnb).below hkb)
          have HD3 : Hid (IsD (fun _ => True) (((w2.alloc (.cells #[.int .i64 0, .int .i64 0] 32)).setRow w2.heap.size #[.int .i64 0, .int .i64 0]).alloc (.cells #[.int .i64 k] 39)) (.slice (some ⟨w2.heap.size + 1, 0, none⟩) 1 1) (.sl 1 (ksD [k]))) := Lib.hid (IsD.made 39 _ _ (by rw [setRow_size]; simp) 1 (by decide) (by decide) (ksD [k]) trivial (ksD_rows [k]))
          have HBW := Lib.hid (show w.heap.size + 1 + 1 + 1 ≤ (((w2.alloc (.cells #[.int .i64 0, .int .i64 0] 32)).setRow w2.heap.size #[.int .i64 0, .int .i64 0]).alloc (.cells #[.int .i64 k] 39)).heap.size from HF3.out.lt_ 2 rfl)
          have HNI := Lib.hid (show i + 1 ≤ 100000000000 by have := IsD.few HKK.out; have := HIL.out; omega)
          have i0 : (0 : Int) ≤ (i : Int) := by omega
          clear kk2 hb hnb hnr hkb
          go_wp2_with (first | (refine wpList_store_row rfl 32 (.tmp 11) (.tmp 26) rfl w2.heap.size #[.int .i64 0, .int .i64 0] rfl rfl 32 _ HAF.out HSF.out rfl (fault_one _ _) ?_) | (at_builtin; refine wpList_appH rfl (.tmp 31) (.tmp 33) 159 rfl 8 Try.underlying159 HIK.out (by decide) (by decide) rfl HO3.out HBW.out (ksD [k]) rfl HD3.out rfl (kd_plain _) (kd_one _) HNI.out ?_))
          intro v' w' hO' hg' _
          rw [ksD_snoc] at hO'
          have HF4 := Lib.hid (HF3.out.own hg' (fun k hk => ⟨by have := (HO3.out.gt k hk).1; omega, fun x hx => by
            have := (HO3.out.gt k hk).1
            simp only [List.mem_cons, List.not_mem_nil, or_false] at hx
            rcases hx with rfl | rfl | rfl
            · show k ≠ w.heap.size; omega
            · show k ≠ w.heap.size + 1; omega
            · show k ≠ w.heap.size + 1 + 1; omega⟩))
          have HO4 := Lib.hid hO'
          have i2 : (i : Int) < 1000000000 := by have := HIL.out; have := IsD.few HKK.out; omega
          clear hO' hg' c0
          go_wp2_with fail
          refine ⟨⟨_, i + 1, ks ++ [k], rfl, by rw [getLastD_snoc], by go_num, HIL.out, by rw [List.length_append, HKL.out]; rfl, HF4.out, HO4.out, HQ.out⟩, ?_⟩
          simp [intOf]; omega
      · have d1 : decide ((i : Int) < (e.kids.length : Int)) = false := by simp; omega
        have hn : e.kids.drop i = [] := List.drop_of_length_le (by omega)
        obtain rfl : i = e.kids.length := by have := HI.out; omega
        have hq2 : kindsF ah g e.kids = .ok ks := by rw [hq, hn]; simp [kindsF, glueK]
        have HR1 : Hid (R = kindE ah g e.op e.name e.at_ ks) := Lib.hid (by rw [HR0.out, hq2])
        have kr := rule_any ah g e.op HOP.out wr ok xs cs b m (IsD.below HF.out.below HK.out) (MapO.below HG.out HF.out.below) e.name HNM.out e.n (e.at_ : Int) last x e.kids.length c
        rw [HLA.out] at kr
        obtain ⟨ru, hru⟩ : ∃ ru, ru = ruleF ah g e.op e.name (ks.getLastD 0) := ⟨_, rfl⟩
        have HRU := Lib.hid hru
        rw [← hru, ← HLA.out] at kr
        obtain ⟨wa, k⟩ := ru
        have HL0 := Lib.hid (HF.out.get 0 rfl)
        have HL1 := Lib.hid (HF.out.get 1 rfl)
        clear hil hn hq hq2 hru
        simp only at kr
        go_wp2_with (first | (refine wpList_load_row rfl 88 (.tmp 2) rfl w.heap.size rfl 88 #[.slice xs ah.length cs, .map (some b)] (0, 0) _ HL0.out Try.underlying88 rfl HSC.out ?_) | (refine wpList_load_row rfl 43 (.tmp 3) rfl (w.heap.size + 1) rfl 43 #[.string e.op, .string e.name, .int .i64 e.n, .int .i64 (e.at_ : Int), .slice x e.kids.length c] (0, 0) _ HL1.out Try.underlying43 rfl HSE.out ?_))
        (with_reducible refine kr.mono ?_)
        rintro e9 w2 ⟨xw, cw, rfl, hwa, hb⟩
        have HF2 := Lib.hid (HF.out.call hb)
        have HO2 := Lib.hid (HO.out.below hb)
        have HWA := Lib.hid hwa
        clear kr hb hwa
        by_cases hk0 : k = 0
        · have HRE : Hid (R = .error e.at_) := Lib.hid (by rw [HR1.out, kindE_zero (by rw [← HRU.out]; exact hk0)])
          have q0 : (k == 0) = true := by simp [hk0]
          have c13 := cell_of_row w2 (w.heap.size + 1) 3 _ _ _ (HF2.out.get 1 rfl)
          have kf := typFault_any (e.at_ : Int) w2
          clear hk0 HR1
          go_wp2_with fail
          (with_reducible refine kf.mono ?_)
          rintro e9 w3 ⟨rfl, hb⟩
          have HF3 := Lib.hid (HF2.out.call hb)
          have HL2 := Lib.hid (HF3.out.get 2 rfl)
          clear kf hb c13
          go_wp2_with (refine wpList_store_row rfl 32 (.tmp 5) (.tmp 54) rfl (w.heap.size + 1 + 1) #[.int .i64 9, .int .i64 (e.at_ : Int)] rfl rfl 32 _ HL2.out HSF.out rfl (fault_one _ _) ?_)
          refine bodyPost_ret (results_tmp_cell (q := 4) (p := 5) (ty := 32) rfl _ _ (w.heap.size + 1 + 1) 32 #[.int .i64 9, .int .i64 (e.at_ : Int)] (0, 0) _ rfl (setRow_heap _ (w.heap.size + 1 + 1) _ _ _ _ HL2.out) Try.underlying32 rfl HSF.out) rfl ?_
          rw [HRE.out]
          exact ⟨rfl, below_setRow HF3.out.below (by omega) _⟩
        · have q0 : (k == 0) = false := by simp [hk0]
          have HK0 := Lib.hid hk0
          have hO2 : IsD (fun k => w.heap.size + 1 + 1 < k) w2 (.slice xv e.kids.length cv) (.sl e.kids.length (ksD ks)) := HO2.out.ends (by have := IsD.few HKK.out; have := HI.out; omega)
          have ke := equalK_any ks wa w2 _ _ xv xw cv cw (by rw [HKL.out]; exact hO2) HWA.out
          rw [HKL.out] at ke
          clear hk0 hO2
          cases hke : (ks == wa) with
          | true =>
            have HRE : Hid (R = .ok k) := Lib.hid (by rw [HR1.out, kindE_ok (by rw [← HRU.out]; exact HK0.out) (by rw [← HRU.out]; exact hke), ← HRU.out])
            rw [hke] at ke
            clear hke HR1
            go_wp2_with fail
            (with_reducible refine ke.mono ?_)
            rintro e9 w3 ⟨rfl, hb⟩
            have HF3 := Lib.hid (HF2.out.call hb)
            have HL2 := Lib.hid (HF3.out.get 2 rfl)
            clear ke hb
            go_wp2_with (refine wpList_store_row rfl 32 (.tmp 5) (.tmp 56) rfl (w.heap.size + 1 + 1) #[.int .i64 0, .int .i64 0] rfl rfl 32 _ HL2.out HSF.out rfl (fault_one _ _) ?_)
            refine bodyPost_ret (results_tmp_cell (q := 4) (p := 5) (ty := 32) rfl _ _ (w.heap.size + 1 + 1) 32 #[.int .i64 0, .int .i64 0] (0, 0) _ rfl (setRow_heap _ (w.heap.size + 1 + 1) _ _ _ _ HL2.out) Try.underlying32 rfl HSF.out) rfl ?_
            rw [HRE.out]
            exact ⟨rfl, below_setRow HF3.out.below (by omega) _⟩
          | false =>
            have HRE : Hid (R = .error e.at_) := Lib.hid (by rw [HR1.out, kindE_apart (by rw [← HRU.out]; exact hke)])
            rw [hke] at ke
            clear hke HR1
            go_wp2_with fail
            (with_reducible refine ke.mono ?_)
            rintro e9 w3 ⟨rfl, hb⟩
            have HF3 := Lib.hid (HF2.out.call hb)
            have c13 := cell_of_row w3 (w.heap.size + 1) 3 _ _ _ (HF3.out.get 1 rfl)
            have kf := typFault_any (e.at_ : Int) w3
            clear ke hb
            go_wp2_with fail
            (with_reducible refine kf.mono ?_)
            rintro e9 w4 ⟨rfl, hb⟩
            have HF4 := Lib.hid (HF3.out.call hb)
            have HL2 := Lib.hid (HF4.out.get 2 rfl)
            clear kf hb c13
            go_wp2_with (refine wpList_store_row rfl 32 (.tmp 5) (.tmp 54) rfl (w.heap.size + 1 + 1) #[.int .i64 9, .int .i64 (e.at_ : Int)] rfl rfl 32 _ HL2.out HSF.out rfl (fault_one _ _) ?_)
            refine bodyPost_ret (results_tmp_cell (q := 4) (p := 5) (ty := 32) rfl _ _ (w.heap.size + 1 + 1) 32 #[.int .i64 9, .int .i64 (e.at_ : Int)] (0, 0) _ rfl (setRow_heap _ (w.heap.size + 1 + 1) _ _ _ _ HL2.out) Try.underlying32 rfl HSF.out) rfl ?_
            rw [HRE.out]
            exact ⟨rfl, below_setRow HF4.out.below (by omega) _⟩
theorem kind_any (ah : List Nd) (g : List UInt8 → Option Int) (e : Ex) (hoe : okE e = true) (w : World) (ok okk : Nat → Prop) (xs : Option Addr) (cs b m : Nat) (x : Option Addr) (c : Nat) (hk : IsD ok w (.slice xs ah.length cs) (.sl ah.length (ndsD ah))) (hg : Kinds w b m g) (hkk : KidsD okk w e x c) :
    Calls Try.prog 52 #[.agg #[.slice xs ah.length cs, .map (some b)], exV e x c] w (GivesK (kindF ah g e) w) :=
  kind_lt ah g (SizeOf.sizeOf e + 1) e (Nat.lt_succ_self _) hoe w ok okk xs cs b m x c hk hg hkk
end Go.Proofs.Ytejljfoacbpliaa

namespace Go.Proofs.Ytejljfoacbpliaa
open Go Go.RowKit
theorem size_qS : (Try.prog.info? 45).map (·.size) = some 7 := by kernel_rfl
theorem qS_one (a b d : ByteArray) (n p t : Int) (x : Option Addr) (l c : Nat) : (#[.string a, .string b, .string d, .int .i64 n, .int .i64 p, .slice x l c, .int .i64 t] : Array Value).all (·.oneCell') = true := by simp [Value.oneCell']
theorem row_range {w : World} {g : Nat} {cs : Array Value} {T : TypeId} {fr : Nat × Nat} (h : w.heap[g]? = some (.cells cs T fr)) (o : Nat) (vs : List Value) (hv : ∀ j v, vs[j]? = some v → cs[o + j]? = some v) : w.rangeAt g o vs := fun j v hj => by
  rw [cell_of_row w g (o + j) _ _ _ h]
  exact hv j v hj
theorem qe_range (nm : ByteArray) (e : Ex) (x : Option Addr) (c : Nat) (at_ : Int) : ∀ j v, (exC e x c)[j]? = some v → (#[.string nm, .string e.op, .string e.name, .int .i64 e.n, .int .i64 (e.at_ : Int), .slice x e.kids.length c, .int .i64 at_] : Array Value)[1 + j]? = some v := by
  intro j v hv
  rcases j with _ | _ | _ | _ | _ | j <;> first | exact hv | (simp [exC] at hv)
def ferO (c : Int) : Option Nat → Int
  | none => 0
  | some _ => c
def fatO : Option Nat → Int
  | none => 0
  | some a => a
def GivesO (c : Int) (o : Option Nat) (w : World) (e : Ending) (w' : World) : Prop := e = .returned (.agg #[.int .i64 (ferO c o), .int .i64 (fatO o)]) ∧ Below w.heap.size w w'
def eqF (ah : List Nd) (g : List UInt8 → Option Int) (q : Qe) : Option Nat := match kindF ah g q.e with
  | .error a => some a
  | .ok k => if k = kindOf g q.name then none else some q.at_
def qeV (q : Qe) (x : Option Addr) (c : Nat) : Value := .agg #[.string q.name, .string q.e.op, .string q.e.name, .int .i64 q.e.n, .int .i64 (q.e.at_ : Int), .slice x q.e.kids.length c, .int .i64 (q.at_ : Int)]
set_option maxHeartbeats 4000000 in
set_option maxRecDepth 100000 in
theorem equation_any (ah : List Nd) (g : List UInt8 → Option Int) (q : Qe) (hoe : okE q.e = true) (hon : okNm q.name = true) (w : World) (ok okk : Nat → Prop) (xs : Option Addr) (cs b m : Nat) (x : Option Addr) (c : Nat) (hk : IsD ok w (.slice xs ah.length cs) (.sl ah.length (ndsD ah))) (hg : Kinds w b m g) (hkk : KidsD okk w q.e x c) :
    Calls Try.prog 86 #[.agg #[.slice xs ah.length cs, .map (some b)], qeV q x c] w (GivesO 9 (eqF ah g q) w) := by
  have HSF := Lib.hid size_flt
  have HSE := Lib.hid size_eS
  have HSC := Lib.hid (show (Try.prog.info? 88).map (·.size) = some 2 by kernel_rfl)
  have F0 := (((Fx.start w).alloc w.heap.size rfl 88 #[.slice xs ah.length cs, .map (some b)]).alloc (w.heap.size + 1) (by simp) 45 #[.string q.name, .string q.e.op, .string q.e.name, .int .i64 q.e.n, .int .i64 (q.e.at_ : Int), .slice x q.e.kids.length c, .int .i64 (q.at_ : Int)]).alloc (w.heap.size + 1 + 1) (by simp) 32 #[.int .i64 0, .int .i64 0]
  have HF0 := Lib.hid F0
  have HL0 := Lib.hid (F0.get 0 rfl)
  have HRE_ := Lib.hid (row_range (F0.get 1 rfl) 1 (exC q.e x c) (qe_range q.name q.e x c (q.at_ : Int)))
  have kk := kind_any ah g q.e hoe _ ok okk xs cs b m x c (IsD.below F0.below hk) (MapO.below hg F0.below) (IsD.below F0.below hkk)
  unfold exV at kk
  have HG := Lib.hid hg
  have HNM := Lib.hid (okNm_le hon)
  obtain ⟨R, hR⟩ : ∃ R, R = eqF ah g q := ⟨_, rfl⟩
  rw [← hR]
  unfold eqF at hR
  clear F0 hk hkk hoe hon hg
  unfold qeV
  cases hkq : kindF ah g q.e with
  | error a =>
    rw [hkq] at kk hR
    have HR : Hid (R = some a) := Lib.hid hR
    have kk2 : Calls Try.prog 52 #[.agg #[.slice xs ah.length cs, .map (some b)], .agg (exC q.e x c).toArray] (((w.alloc (.cells #[.slice xs ah.length cs, .map (some b)] 88)).alloc (.cells #[.string q.name, .string q.e.op, .string q.e.name, .int .i64 q.e.n, .int .i64 (q.e.at_ : Int), .slice x q.e.kids.length c, .int .i64 (q.at_ : Int)] 45)).alloc (.cells #[.int .i64 0, .int .i64 0] 32)) (fun e w' => e = .returned (.tuple #[.int .i64 0, .agg #[.int .i64 9, .int .i64 (a : Int)]]) ∧ Below (((w.alloc (.cells #[.slice xs ah.length cs, .map (some b)] 88)).alloc (.cells #[.string q.name, .string q.e.op, .string q.e.name, .int .i64 q.e.n, .int .i64 (q.e.at_ : Int), .slice x q.e.kids.length c, .int .i64 (q.at_ : Int)] 45)).alloc (.cells #[.int .i64 0, .int .i64 0] 32)).heap.size (((w.alloc (.cells #[.slice xs ah.length cs, .map (some b)] 88)).alloc (.cells #[.string q.name, .string q.e.op, .string q.e.name, .int .i64 q.e.n, .int .i64 (q.e.at_ : Int), .slice x q.e.kids.length c, .int .i64 (q.at_ : Int)] 45)).alloc (.cells #[.int .i64 0, .int .i64 0] 32)) w') := kk
    clear kk hR hkq
    go_enter Try.func86, Try.ntmps86
    go_wp2_with (first | (refine wpList_load_row rfl 88 (.tmp 2) rfl w.heap.size rfl 88 #[.slice xs ah.length cs, .map (some b)] (0, 0) _ HL0.out Try.underlying88 rfl HSC.out ?_) | (refine wpList_load_mid rfl 43 (.tmp 9) rfl (w.heap.size + 1) 1 rfl (exC q.e x c) _ ?_ Try.underlying43 rfl HSE.out ?_; (exact HRE_.out)))
    (with_reducible refine kk2.mono ?_)
    rintro e9 w2 ⟨rfl, hb⟩
    have HF2 := Lib.hid (HF0.out.call hb)
    have HAF := Lib.hid (heap_alloc_new w2 (.cells #[.int .i64 0, .int .i64 0] 32))
    obtain ⟨hnb, hnr⟩ := new_row w2 32 #[.int .i64 0, .int .i64 0] #[.int .i64 9, .int .i64 (a : Int)]
    have c0 := cell_of_row _ w2.heap.size 0 _ _ _ hnr
    have HF3 := Lib.hid (HF2.out.call hnb)
    have HN3 := Lib.hid hnr
    have HL2 := Lib.hid (HF3.out.get 2 rfl)
    clear kk2 hb hnb hnr
    go_wp2_with (first | (refine wpList_store_row rfl 32 (.tmp 6) (.tmp 13) rfl w2.heap.size #[.int .i64 9, .int .i64 (a : Int)] rfl rfl 32 _ HAF.out HSF.out rfl (fault_one _ _) ?_) | (refine wpList_load_row rfl 32 (.tmp 6) rfl w2.heap.size rfl 32 #[.int .i64 9, .int .i64 (a : Int)] (0, 0) _ HN3.out Try.underlying32 rfl HSF.out ?_) | (refine wpList_store_row rfl 32 (.tmp 4) (.tmp 29) rfl (w.heap.size + 1 + 1) #[.int .i64 9, .int .i64 (a : Int)] rfl rfl 32 _ HL2.out HSF.out rfl (fault_one _ _) ?_))
    refine bodyPost_ret (v := .agg #[.int .i64 9, .int .i64 (a : Int)]) (results_cell_row (p := 4) (ty := 32) rfl _ _ (w.heap.size + 1 + 1) 32 _ (0, 0) _ rfl (setRow_heap _ (w.heap.size + 1 + 1) _ _ _ _ HL2.out) Try.underlying32 rfl HSF.out) rfl ?_
    rw [HR.out]
    exact ⟨rfl, below_setRow HF3.out.below (by omega) _⟩
  | ok k =>
    rw [hkq] at kk hR
    have kk2 : Calls Try.prog 52 #[.agg #[.slice xs ah.length cs, .map (some b)], .agg (exC q.e x c).toArray] (((w.alloc (.cells #[.slice xs ah.length cs, .map (some b)] 88)).alloc (.cells #[.string q.name, .string q.e.op, .string q.e.name, .int .i64 q.e.n, .int .i64 (q.e.at_ : Int), .slice x q.e.kids.length c, .int .i64 (q.at_ : Int)] 45)).alloc (.cells #[.int .i64 0, .int .i64 0] 32)) (fun e w' => e = .returned (.tuple #[.int .i64 k, .agg #[.int .i64 0, .int .i64 0]]) ∧ Below (((w.alloc (.cells #[.slice xs ah.length cs, .map (some b)] 88)).alloc (.cells #[.string q.name, .string q.e.op, .string q.e.name, .int .i64 q.e.n, .int .i64 (q.e.at_ : Int), .slice x q.e.kids.length c, .int .i64 (q.at_ : Int)] 45)).alloc (.cells #[.int .i64 0, .int .i64 0] 32)).heap.size (((w.alloc (.cells #[.slice xs ah.length cs, .map (some b)] 88)).alloc (.cells #[.string q.name, .string q.e.op, .string q.e.name, .int .i64 q.e.n, .int .i64 (q.e.at_ : Int), .slice x q.e.kids.length c, .int .i64 (q.at_ : Int)] 45)).alloc (.cells #[.int .i64 0, .int .i64 0] 32)) w') := kk
    clear kk hkq
    have HRR := Lib.hid hR
    clear hR
    go_enter Try.func86, Try.ntmps86
    go_wp2_with (first | (refine wpList_load_row rfl 88 (.tmp 2) rfl w.heap.size rfl 88 #[.slice xs ah.length cs, .map (some b)] (0, 0) _ HL0.out Try.underlying88 rfl HSC.out ?_) | (refine wpList_load_mid rfl 43 (.tmp 9) rfl (w.heap.size + 1) 1 rfl (exC q.e x c) _ ?_ Try.underlying43 rfl HSE.out ?_; (exact HRE_.out)))
    (with_reducible refine kk2.mono ?_)
    rintro e9 w2 ⟨rfl, hb⟩
    have HF2 := Lib.hid (HF0.out.call hb)
    have HAF := Lib.hid (heap_alloc_new w2 (.cells #[.int .i64 0, .int .i64 0] 32))
    obtain ⟨hnb, hnr⟩ := new_row w2 32 #[.int .i64 0, .int .i64 0] #[.int .i64 0, .int .i64 0]
    have c0 := cell_of_row _ w2.heap.size 0 _ _ _ hnr
    have HF3 := Lib.hid (HF2.out.call hnb)
    have HN3 := Lib.hid hnr
    have HL2 := Lib.hid (HF3.out.get 2 rfl)
    have cm := cell_of_row _ w.heap.size 1 _ _ _ (HF3.out.get 0 rfl)
    have cn := cell_of_row _ (w.heap.size + 1) 0 _ _ _ (HF3.out.get 1 rfl)
    have hl := Kinds.look (MapO.below HG.out HF3.out.below) q.name HNM.out
    obtain ⟨kq, hkq⟩ : ∃ kq, kq = kindOf g q.name := ⟨_, rfl⟩
    rw [← hkq] at hl
    have HKQ := Lib.hid hkq
    clear kk2 hb hnb hnr hkq
    by_cases hkk : k = kq
    · have HR : Hid (R = none) := Lib.hid (by rw [HRR.out]; exact if_pos (by rw [hkk, HKQ.out]))
      have d1 : (k != kq) = false := by simp [hkk]
      clear hkk HRR
      go_wp2_with (first | (refine wpList_store_row rfl 32 (.tmp 6) (.tmp 13) rfl w2.heap.size #[.int .i64 0, .int .i64 0] rfl rfl 32 _ HAF.out HSF.out rfl (fault_one _ _) ?_) | (refine wpList_load_row rfl 32 (.tmp 6) rfl w2.heap.size rfl 32 #[.int .i64 0, .int .i64 0] (0, 0) _ HN3.out Try.underlying32 rfl HSF.out ?_) | (refine wpList_store_row rfl 32 (.tmp 4) (.tmp 29) rfl (w.heap.size + 1 + 1) #[.int .i64 0, .int .i64 0] rfl rfl 32 _ HL2.out HSF.out rfl (fault_one _ _) ?_))
      refine bodyPost_ret (v := .agg #[.int .i64 0, .int .i64 0]) (results_cell_row (p := 4) (ty := 32) rfl _ _ (w.heap.size + 1 + 1) 32 _ (0, 0) _ rfl (setRow_heap _ (w.heap.size + 1 + 1) _ _ _ _ HL2.out) Try.underlying32 rfl HSF.out) rfl ?_
      rw [HR.out]
      exact ⟨rfl, below_setRow HF3.out.below (by omega) _⟩
    · have HR : Hid (R = some q.at_) := Lib.hid (by rw [HRR.out]; exact if_neg (by rw [← HKQ.out]; exact hkk))
      have d1 : (k != kq) = true := by simp [hkk]
      have c6 := cell_of_row _ (w.heap.size + 1) 6 _ _ _ (HF3.out.get 1 rfl)
      have kf := typFault_any (q.at_ : Int) ((w2.alloc (.cells #[.int .i64 0, .int .i64 0] 32)).setRow w2.heap.size #[.int .i64 0, .int .i64 0])
      clear hkk HRR
      go_wp2_with (refine wpList_store_row rfl 32 (.tmp 6) (.tmp 13) rfl w2.heap.size #[.int .i64 0, .int .i64 0] rfl rfl 32 _ HAF.out HSF.out rfl (fault_one _ _) ?_)
      (with_reducible refine kf.mono ?_)
      rintro e9 w4 ⟨rfl, hb⟩
      have HF4 := Lib.hid (HF3.out.call hb)
      have HL3 := Lib.hid (HF4.out.get 2 rfl)
      clear kf hb c6 c0 cm cn hl
      go_wp2_with (refine wpList_store_row rfl 32 (.tmp 4) (.tmp 28) rfl (w.heap.size + 1 + 1) #[.int .i64 9, .int .i64 (q.at_ : Int)] rfl rfl 32 _ HL3.out HSF.out rfl (fault_one _ _) ?_)
      refine bodyPost_ret (v := .agg #[.int .i64 9, .int .i64 (q.at_ : Int)]) (results_cell_row (p := 4) (ty := 32) rfl _ _ (w.heap.size + 1 + 1) 32 _ (0, 0) _ rfl (setRow_heap _ (w.heap.size + 1 + 1) _ _ _ _ HL3.out) Try.underlying32 rfl HSF.out) rfl ?_
      rw [HR.out]
      exact ⟨rfl, below_setRow HF4.out.below (by omega) _⟩
end Go.Proofs.Ytejljfoacbpliaa

namespace Go.Proofs.Ytejljfoacbpliaa
open Go Go.RowKit
def localsT (g : List UInt8 → Option Int) : List Vr → Option Nat
  | [] => none
  | v :: r => if v.on.data.toList ≠ [] ∧ kindOf g v.on ≠ 1 then some v.at_ else localsT g r
def eqsT (ah : List Nd) (g : List UInt8 → Option Int) : List Qe → Option Nat
  | [] => none
  | q :: r => match eqF ah g q with
    | some a => some a
    | none => eqsT ah g r
def nodeT (ah : List Nd) (g : List UInt8 → Option Int) (n : Nd) : Option Nat := match localsT g n.locs with
  | some a => some a
  | none => eqsT ah g n.eqs
def okVs (l : List Vr) : Bool := l.all (fun v => okNm v.name && okNm v.on)
def okQs (l : List Qe) : Bool := l.all (fun q => okNm q.name && okE q.e)
def okNd (n : Nd) : Bool := decide (n.ins.length + n.outs.length + n.locs.length ≤ 1000000) && (okNm n.name && (okVs n.ins && (okVs n.outs && (okVs n.locs && okQs n.eqs))))
theorem okVs_at {l : List Vr} (h : okVs l = true) (i : Nat) (hi : i < l.length) : l[i].name.size ≤ maxLen ∧ l[i].on.size ≤ maxLen := by
  have := List.all_eq_true.1 h _ (List.getElem_mem hi)
  simp only [Bool.and_eq_true] at this
  exact ⟨okNm_le this.1, okNm_le this.2⟩
theorem okQs_at {l : List Qe} (h : okQs l = true) (i : Nat) (hi : i < l.length) : okNm l[i].name = true ∧ okE l[i].e = true := by
  have := List.all_eq_true.1 h _ (List.getElem_mem hi)
  simp only [Bool.and_eq_true] at this
  exact this
theorem localsT_skip {g : List UInt8 → Option Int} {v : Vr} {r : List Vr} (h : v.on.data.toList = [] ∨ kindOf g v.on = 1) : localsT g (v :: r) = localsT g r := by
  unfold localsT
  rw [if_neg]
  · cases r <;> rfl
  · rintro ⟨h1, h2⟩
    rcases h with h | h
    · exact h1 h
    · exact h2 h
theorem localsT_hit {g : List UInt8 → Option Int} {v : Vr} {r : List Vr} (h1 : v.on.data.toList ≠ []) (h2 : kindOf g v.on ≠ 1) : localsT g (v :: r) = some v.at_ := by
  unfold localsT
  rw [if_pos ⟨h1, h2⟩]
theorem eqsT_skip {ah : List Nd} {g : List UInt8 → Option Int} {q : Qe} {r : List Qe} (h : eqF ah g q = none) : eqsT ah g (q :: r) = eqsT ah g r := by
  conv => lhs; unfold eqsT
  rw [h]
theorem eqsT_hit {ah : List Nd} {g : List UInt8 → Option Int} {q : Qe} {r : List Qe} {a : Nat} (h : eqF ah g q = some a) : eqsT ah g (q :: r) = some a := by
  unfold eqsT
  rw [h]
theorem wrap_succ {j : Nat} (h : j < 1000000000) : Value.int .i64 (wrap64 ((j : Int) + 1)) = Value.int .i64 ((j + 1 : Nat) : Int) := by
  rw [show wrap64 ((j : Int) + 1) = ((j + 1 : Nat) : Int) by unfold wrap64; omega]
def ndV (n : Nd) (xi xo xl xe : Option Addr) (ci co cl ce : Nat) : Value := .agg #[.string n.name, .slice xi n.ins.length ci, .slice xo n.outs.length co, .slice xl n.locs.length cl, .slice xe n.eqs.length ce, .int .i64 (n.at_ : Int)]
def NdIn (ok : Nat → Prop) (w : World) (n : Nd) (xi xo xl xe : Option Addr) (ci co cl ce : Nat) : Prop := IsD ok w (.slice xi n.ins.length ci) (.sl n.ins.length (vrsD n.ins)) ∧ IsD ok w (.slice xo n.outs.length co) (.sl n.outs.length (vrsD n.outs)) ∧ IsD ok w (.slice xl n.locs.length cl) (.sl n.locs.length (vrsD n.locs)) ∧ IsD ok w (.slice xe n.eqs.length ce) (.sl n.eqs.length (qesD n.eqs))
theorem NdIn.below {ok : Nat → Prop} {w w' : World} {n : Nd} {xi xo xl xe : Option Addr} {ci co cl ce : Nat} (hb : Below w.heap.size w w') (h : NdIn ok w n xi xo xl xe ci co cl ce) : NdIn ok w' n xi xo xl xe ci co cl ce :=
  ⟨IsD.below hb h.1, IsD.below hb h.2.1, IsD.below hb h.2.2.1, IsD.below hb h.2.2.2⟩
set_option maxHeartbeats 4000000 in
set_option maxRecDepth 100000 in
theorem typNode_any (ah : List Nd) (g : List UInt8 → Option Int) (n : Nd) (hon : okNd n = true) (w : World) (ok okk : Nat → Prop) (xs : Option Addr) (cs b m : Nat) (xi xo xl xe : Option Addr) (ci co cl ce : Nat) (hk : IsD ok w (.slice xs ah.length cs) (.sl ah.length (ndsD ah))) (hg : Kinds w b m g) (hn : NdIn okk w n xi xo xl xe ci co cl ce) :
    Calls Try.prog 48 #[.agg #[.slice xs ah.length cs, .map (some b)], ndV n xi xo xl xe ci co cl ce] w (GivesO 9 (nodeT ah g n) w) := by
  have HSF := Lib.hid size_flt
  have HSV := Lib.hid size_vS
  have HSQ := Lib.hid size_qS
  have HSC := Lib.hid (show (Try.prog.info? 88).map (·.size) = some 2 by kernel_rfl)
  have F0 := (((Fx.start w).alloc w.heap.size rfl 88 #[.slice xs ah.length cs, .map (some b)]).alloc (w.heap.size + 1) (by simp) 49 #[.string n.name, .slice xi n.ins.length ci, .slice xo n.outs.length co, .slice xl n.locs.length cl, .slice xe n.eqs.length ce, .int .i64 (n.at_ : Int)]).alloc (w.heap.size + 1 + 1) (by simp) 32 #[.int .i64 0, .int .i64 0]
  have cl3 := cell_of_row _ (w.heap.size + 1) 3 _ _ _ (F0.get 1 rfl)
  have HF0 : Hid (Fx w [(w.heap.size, 88, #[.slice xs ah.length cs, .map (some b)]), (w.heap.size + 1, 49, #[.string n.name, .slice xi n.ins.length ci, .slice xo n.outs.length co, .slice xl n.locs.length cl, .slice xe n.eqs.length ce, .int .i64 (n.at_ : Int)]), (w.heap.size + 1 + 1, 32, #[.int .i64 0, .int .i64 0])] _) := Lib.hid F0
  have HK := Lib.hid hk
  have HG := Lib.hid hg
  have HTL := Lib.hid hn.2.2.1
  have HTE := Lib.hid hn.2.2.2
  simp only [okNd, Bool.and_eq_true] at hon
  have HOL := Lib.hid hon.2.2.2.2.1
  have HOE := Lib.hid hon.2.2.2.2.2
  obtain ⟨R, hR⟩ : ∃ R, R = nodeT ah g n := ⟨_, rfl⟩
  rw [← hR]
  unfold nodeT at hR
  have HRR := Lib.hid hR
  clear hk hg hn hon F0 hR
  unfold ndV
  go_enter Try.func48, Try.ntmps48
  go_wp2_with fail
  go_loopw [13] (fun v13 wr => ∃ (j : Nat), v13 = .int .i64 (j : Int) ∧ j ≤ n.locs.length ∧ Fx w [(w.heap.size, 88, #[.slice xs ah.length cs, .map (some b)]), (w.heap.size + 1, 49, #[.string n.name, .slice xi n.ins.length ci, .slice xo n.outs.length co, .slice xl n.locs.length cl, .slice xe n.eqs.length ce, .int .i64 (n.at_ : Int)]), (w.heap.size + 1 + 1, 32, #[.int .i64 0, .int .i64 0])] wr ∧ localsT g n.locs = localsT g (n.locs.drop j))
    (fun v13 _ => n.locs.length - (intOf v13).toNat)
  case atStart => exact ⟨0, rfl, Nat.zero_le _, HF0.out, by rw [List.drop_zero]⟩
  case round =>
    clear cl3 HF0
    obtain ⟨j, rfl, hj, hF, hq⟩ := hrel
    have HF := Lib.hid hF
    have HJ := Lib.hid hj
    clear hF hj
    by_cases hjl : j < n.locs.length
    · have d1 : decide ((j : Int) < (n.locs.length : Int)) = true := by simp; omega
      have HJL := Lib.hid hjl
      rw [List.drop_eq_getElem_cons hjl] at hq
      obtain ⟨g1, rfl, hg1, hrg1⟩ := var_at HTL.out j hjl
      have hov := (okVs_at HOL.out j hjl).2
      obtain ⟨v, hv⟩ : ∃ v, v = n.locs[j]'HJL.out := ⟨_, rfl⟩
      rw [← hv] at hrg1 hq hov
      have HRV := Lib.hid (rangeAt_below hrg1 HF.out.below hg1)
      have HAL := Lib.hid (heap_alloc_new wr (.cells #[.string ⟨#[]⟩, .int .i64 0, .string ⟨#[]⟩, .bool false, .int .i64 0] 126))
      obtain ⟨hnb, hnr⟩ := new_row wr 126 #[.string ⟨#[]⟩, .int .i64 0, .string ⟨#[]⟩, .bool false, .int .i64 0] #[.string v.name, .int .i64 (v.kind : Int), .string v.on, .bool v.not_, .int .i64 (v.at_ : Int)]
      have c2 := cell_of_row _ wr.heap.size 2 _ _ _ hnr
      have HF1 := Lib.hid (HF.out.call hnb)
      have HN1 := Lib.hid hnr
      have i0 : (0 : Int) ≤ (j : Int) := by omega
      have i1 : (j : Int) < (n.locs.length : Int) := by omega
      have cm := cell_of_row _ w.heap.size 1 _ _ _ (HF1.out.get 0 rfl)
      have hl := Kinds.look (MapO.below HG.out HF1.out.below) v.on hov
      obtain ⟨kq, hkq⟩ : ∃ kq, kq = kindOf g v.on := ⟨_, rfl⟩
      rw [← hkq] at hl
      have HKQ := Lib.hid hkq
      have HQ := Lib.hid hq
      clear hjl hv hrg1 hg1 hnb hnr hov hkq hq
      by_cases hz : v.on.data.toList = []
      · have HQN := Lib.hid (HQ.out.trans (localsT_skip (.inl hz)))
        have e1 : v.on.toList = [] := by rw [Lib.toList_data]; exact hz
        clear hz hl
        go_wp2_with (first | (refine wpList_load_mid rfl 126 (.tmp 15) rfl g1 (j * 5) rfl (vrC v) _ ?_ Try.underlying126 rfl HSV.out ?_; (exact HRV.out)) | (refine wpList_store_row rfl 126 (.tmp 6) (.tmp 16) rfl wr.heap.size #[.string v.name, .int .i64 (v.kind : Int), .string v.on, .bool v.not_, .int .i64 (v.at_ : Int)] rfl rfl 126 _ HAL.out HSV.out rfl (vS_one _ _ _ _ _) ?_))
        refine ⟨⟨j + 1, wrap_succ (by have := HJL.out; have := IsD.few HTL.out; omega), HJL.out, HF1.out, HQN.out⟩, ?_⟩
        rw [wrap_succ (by have := HJL.out; have := IsD.few HTL.out; omega)]
        simp [intOf]; omega
      · have HZ := Lib.hid hz
        by_cases h1 : kq = 1
        · have HQN := Lib.hid (HQ.out.trans (localsT_skip (.inr (by rw [← HKQ.out]; exact h1))))
          have d2 : (kq != 1) = false := by simp [h1]
          have e1 : ¬ v.on.toList = [] := by rw [Lib.toList_data]; exact hz
          clear hz h1
          go_wp2_with (first | (refine wpList_load_mid rfl 126 (.tmp 15) rfl g1 (j * 5) rfl (vrC v) _ ?_ Try.underlying126 rfl HSV.out ?_; (exact HRV.out)) | (refine wpList_store_row rfl 126 (.tmp 6) (.tmp 16) rfl wr.heap.size #[.string v.name, .int .i64 (v.kind : Int), .string v.on, .bool v.not_, .int .i64 (v.at_ : Int)] rfl rfl 126 _ HAL.out HSV.out rfl (vS_one _ _ _ _ _) ?_))
          refine ⟨⟨j + 1, wrap_succ (by have := HJL.out; have := IsD.few HTL.out; omega), HJL.out, HF1.out, HQN.out⟩, ?_⟩
          rw [wrap_succ (by have := HJL.out; have := IsD.few HTL.out; omega)]
          simp [intOf]; omega
        · have HR : Hid (R = some v.at_) := Lib.hid (by rw [HRR.out, HQ.out, localsT_hit HZ.out (by rw [← HKQ.out]; exact h1)])
          have d2 : (kq != 1) = true := by simp [h1]
          have e1 : ¬ v.on.toList = [] := by rw [Lib.toList_data]; exact hz
          have e2 : (!v.on.toList.isEmpty) = true := by simpa using e1
          have c4 := cell_of_row _ wr.heap.size 4 _ _ _ HN1.out
          have kf := typFault_any (v.at_ : Int) ((wr.alloc (.cells #[.string ⟨#[]⟩, .int .i64 0, .string ⟨#[]⟩, .bool false, .int .i64 0] 126)).setRow wr.heap.size #[.string v.name, .int .i64 (v.kind : Int), .string v.on, .bool v.not_, .int .i64 (v.at_ : Int)])
          clear hz h1 HRR
          go_wp2_with (first | (refine wpList_load_mid rfl 126 (.tmp 15) rfl g1 (j * 5) rfl (vrC v) _ ?_ Try.underlying126 rfl HSV.out ?_; (exact HRV.out)) | (refine wpList_store_row rfl 126 (.tmp 6) (.tmp 16) rfl wr.heap.size #[.string v.name, .int .i64 (v.kind : Int), .string v.on, .bool v.not_, .int .i64 (v.at_ : Int)] rfl rfl 126 _ HAL.out HSV.out rfl (vS_one _ _ _ _ _) ?_))
          (with_reducible refine kf.mono ?_)
          rintro e9 w4 ⟨rfl, hb⟩
          have HF4 := Lib.hid (HF1.out.call hb)
          have HL3 := Lib.hid (HF4.out.get 2 rfl)
          clear kf hb c4 c2 cm hl
          go_wp2_with (refine wpList_store_row rfl 32 (.tmp 4) (.tmp 30) rfl (w.heap.size + 1 + 1) #[.int .i64 9, .int .i64 (v.at_ : Int)] rfl rfl 32 _ HL3.out HSF.out rfl (fault_one _ _) ?_)
          refine bodyPost_ret (v := .agg #[.int .i64 9, .int .i64 (v.at_ : Int)]) (results_cell_row (p := 4) (ty := 32) rfl _ _ (w.heap.size + 1 + 1) 32 _ (0, 0) _ rfl (setRow_heap _ (w.heap.size + 1 + 1) _ _ _ _ HL3.out) Try.underlying32 rfl HSF.out) rfl ?_
          rw [HR.out]
          exact ⟨rfl, below_setRow HF4.out.below (by omega) _⟩
    · have d1 : decide ((j : Int) < (n.locs.length : Int)) = false := by simp; omega
      have hnil : n.locs.drop j = [] := List.drop_of_length_le (by omega)
      obtain rfl : j = n.locs.length := by have := HJ.out; omega
      have HRE := Lib.hid (show R = eqsT ah g n.eqs by rw [HRR.out, hq, hnil]; rfl)
      have cl4 := cell_of_row _ (w.heap.size + 1) 4 _ _ _ (HF.out.get 1 rfl)
      clear hjl hnil hq HRR
      go_wp2_with fail
      obtain ⟨w5, rfl⟩ : ∃ w5 : World, w5 = wr := ⟨_, rfl⟩
      go_loopw [35] (fun v35 wr => ∃ (j : Nat), v35 = .int .i64 (j : Int) ∧ j ≤ n.eqs.length ∧ Fx w [(w.heap.size, 88, #[.slice xs ah.length cs, .map (some b)]), (w.heap.size + 1, 49, #[.string n.name, .slice xi n.ins.length ci, .slice xo n.outs.length co, .slice xl n.locs.length cl, .slice xe n.eqs.length ce, .int .i64 (n.at_ : Int)]), (w.heap.size + 1 + 1, 32, #[.int .i64 0, .int .i64 0])] wr ∧ eqsT ah g n.eqs = eqsT ah g (n.eqs.drop j))
        (fun v35 _ => n.eqs.length - (intOf v35).toNat)
      case atStart => exact ⟨0, rfl, Nat.zero_le _, HF.out, by rw [List.drop_zero]⟩
      case round =>
        clear cl4 HF
        obtain ⟨j, rfl, hj, hF, hq⟩ := hrel
        have HF := Lib.hid hF
        have HJE := Lib.hid hj
        clear hF hj
        by_cases hjl : j < n.eqs.length
        · have d1 : decide ((j : Int) < (n.eqs.length : Int)) = true := by simp; omega
          have HJL := Lib.hid hjl
          rw [List.drop_eq_getElem_cons hjl] at hq
          obtain ⟨g1, rfl, hg1, x, c, hrg1, hkk⟩ := qe_at HTE.out j hjl
          have hoq := okQs_at HOE.out j hjl
          obtain ⟨q, hqq⟩ : ∃ q, q = n.eqs[j]'HJL.out := ⟨_, rfl⟩
          rw [← hqq] at hrg1 hq hoq hkk
          have HRQ := Lib.hid (rangeAt_below hrg1 HF.out.below hg1)
          have HAL := Lib.hid (heap_alloc_new wr (.cells #[.string ⟨#[]⟩, .string ⟨#[]⟩, .string ⟨#[]⟩, .int .i64 0, .int .i64 0, .slice none 0 0, .int .i64 0] 45))
          obtain ⟨hnb, hnr⟩ := new_row wr 45 #[.string ⟨#[]⟩, .string ⟨#[]⟩, .string ⟨#[]⟩, .int .i64 0, .int .i64 0, .slice none 0 0, .int .i64 0] #[.string q.name, .string q.e.op, .string q.e.name, .int .i64 q.e.n, .int .i64 (q.e.at_ : Int), .slice x q.e.kids.length c, .int .i64 (q.at_ : Int)]
          have HF1 := Lib.hid (HF.out.call hnb)
          have HN1 := Lib.hid hnr
          have HL0 := Lib.hid (HF1.out.get 0 rfl)
          have ke := equation_any ah g q hoq.2 hoq.1 ((wr.alloc (.cells #[.string ⟨#[]⟩, .string ⟨#[]⟩, .string ⟨#[]⟩, .int .i64 0, .int .i64 0, .slice none 0 0, .int .i64 0] 45)).setRow wr.heap.size #[.string q.name, .string q.e.op, .string q.e.name, .int .i64 q.e.n, .int .i64 (q.e.at_ : Int), .slice x q.e.kids.length c, .int .i64 (q.at_ : Int)]) ok okk xs cs b m x c (IsD.below HF1.out.below HK.out) (MapO.below HG.out HF1.out.below) (IsD.below HF1.out.below hkk)
          unfold qeV at ke
          have i0 : (0 : Int) ≤ (j : Int) := by omega
          have i1 : (j : Int) < (n.eqs.length : Int) := by omega
          have HQ := Lib.hid hq
          clear hjl hqq hrg1 hg1 hnb hnr hoq hq hkk
          cases hke : eqF ah g q with
          | none =>
            have HQN := Lib.hid (HQ.out.trans (eqsT_skip hke))
            rw [hke] at ke
            have ke2 : Calls Try.prog 86 #[.agg #[.slice xs ah.length cs, .map (some b)], .agg #[.string q.name, .string q.e.op, .string q.e.name, .int .i64 q.e.n, .int .i64 (q.e.at_ : Int), .slice x q.e.kids.length c, .int .i64 (q.at_ : Int)]] ((wr.alloc (.cells #[.string ⟨#[]⟩, .string ⟨#[]⟩, .string ⟨#[]⟩, .int .i64 0, .int .i64 0, .slice none 0 0, .int .i64 0] 45)).setRow wr.heap.size #[.string q.name, .string q.e.op, .string q.e.name, .int .i64 q.e.n, .int .i64 (q.e.at_ : Int), .slice x q.e.kids.length c, .int .i64 (q.at_ : Int)]) (fun e w' => e = .returned (.agg #[.int .i64 0, .int .i64 0]) ∧ Below ((wr.alloc (.cells #[.string ⟨#[]⟩, .string ⟨#[]⟩, .string ⟨#[]⟩, .int .i64 0, .int .i64 0, .slice none 0 0, .int .i64 0] 45)).setRow wr.heap.size #[.string q.name, .string q.e.op, .string q.e.name, .int .i64 q.e.n, .int .i64 (q.e.at_ : Int), .slice x q.e.kids.length c, .int .i64 (q.at_ : Int)]).heap.size ((wr.alloc (.cells #[.string ⟨#[]⟩, .string ⟨#[]⟩, .string ⟨#[]⟩, .int .i64 0, .int .i64 0, .slice none 0 0, .int .i64 0] 45)).setRow wr.heap.size #[.string q.name, .string q.e.op, .string q.e.name, .int .i64 q.e.n, .int .i64 (q.e.at_ : Int), .slice x q.e.kids.length c, .int .i64 (q.at_ : Int)]) w') := ke
            clear ke hke HQ
            go_wp2_with (first | (refine wpList_load_mid rfl 45 (.tmp 37) rfl g1 (j * 7) rfl (qeC q.name q.e x c (q.at_ : Int)) _ ?_ Try.underlying45 rfl HSQ.out ?_; (exact HRQ.out)) | (refine wpList_store_row rfl 45 (.tmp 8) (.tmp 38) rfl wr.heap.size #[.string q.name, .string q.e.op, .string q.e.name, .int .i64 q.e.n, .int .i64 (q.e.at_ : Int), .slice x q.e.kids.length c, .int .i64 (q.at_ : Int)] rfl rfl 45 _ HAL.out HSQ.out rfl (qS_one _ _ _ _ _ _ _ _ _) ?_) | (refine wpList_load_row rfl 88 (.tmp 2) rfl w.heap.size rfl 88 #[.slice xs ah.length cs, .map (some b)] (0, 0) _ HL0.out Try.underlying88 rfl HSC.out ?_) | (refine wpList_load_row rfl 45 (.tmp 8) rfl wr.heap.size rfl 45 #[.string q.name, .string q.e.op, .string q.e.name, .int .i64 q.e.n, .int .i64 (q.e.at_ : Int), .slice x q.e.kids.length c, .int .i64 (q.at_ : Int)] (0, 0) _ HN1.out Try.underlying45 rfl HSQ.out ?_))
            (with_reducible refine ke2.mono ?_)
            rintro e9 w2 ⟨rfl, hb⟩
            have HF2 := Lib.hid (HF1.out.call hb)
            have HAF := Lib.hid (heap_alloc_new w2 (.cells #[.int .i64 0, .int .i64 0] 32))
            obtain ⟨hnb, hnr⟩ := new_row w2 32 #[.int .i64 0, .int .i64 0] #[.int .i64 0, .int .i64 0]
            have c0 := cell_of_row _ w2.heap.size 0 _ _ _ hnr
            have HF3 := Lib.hid (HF2.out.call hnb)
            clear ke2 hb hnb hnr
            go_wp2_with (refine wpList_store_row rfl 32 (.tmp 9) (.tmp 41) rfl w2.heap.size #[.int .i64 0, .int .i64 0] rfl rfl 32 _ HAF.out HSF.out rfl (fault_one _ _) ?_)
            refine ⟨⟨j + 1, wrap_succ (by have := HJL.out; have := IsD.few HTE.out; omega), HJL.out, HF3.out, HQN.out⟩, ?_⟩
            rw [wrap_succ (by have := HJL.out; have := IsD.few HTE.out; omega)]
            simp [intOf]; omega
          | some a =>
            have HR : Hid (R = some a) := Lib.hid (by rw [HRE.out, HQ.out, eqsT_hit hke])
            rw [hke] at ke
            have ke2 : Calls Try.prog 86 #[.agg #[.slice xs ah.length cs, .map (some b)], .agg #[.string q.name, .string q.e.op, .string q.e.name, .int .i64 q.e.n, .int .i64 (q.e.at_ : Int), .slice x q.e.kids.length c, .int .i64 (q.at_ : Int)]] ((wr.alloc (.cells #[.string ⟨#[]⟩, .string ⟨#[]⟩, .string ⟨#[]⟩, .int .i64 0, .int .i64 0, .slice none 0 0, .int .i64 0] 45)).setRow wr.heap.size #[.string q.name, .string q.e.op, .string q.e.name, .int .i64 q.e.n, .int .i64 (q.e.at_ : Int), .slice x q.e.kids.length c, .int .i64 (q.at_ : Int)]) (fun e w' => e = .returned (.agg #[.int .i64 9, .int .i64 (a : Int)]) ∧ Below ((wr.alloc (.cells #[.string ⟨#[]⟩, .string ⟨#[]⟩, .string ⟨#[]⟩, .int .i64 0, .int .i64 0, .slice none 0 0, .int .i64 0] 45)).setRow wr.heap.size #[.string q.name, .string q.e.op, .string q.e.name, .int .i64 q.e.n, .int .i64 (q.e.at_ : Int), .slice x q.e.kids.length c, .int .i64 (q.at_ : Int)]).heap.size ((wr.alloc (.cells #[.string ⟨#[]⟩, .string ⟨#[]⟩, .string ⟨#[]⟩, .int .i64 0, .int .i64 0, .slice none 0 0, .int .i64 0] 45)).setRow wr.heap.size #[.string q.name, .string q.e.op, .string q.e.name, .int .i64 q.e.n, .int .i64 (q.e.at_ : Int), .slice x q.e.kids.length c, .int .i64 (q.at_ : Int)]) w') := ke
            clear ke hke HQ HRE
            go_wp2_with (first | (refine wpList_load_mid rfl 45 (.tmp 37) rfl g1 (j * 7) rfl (qeC q.name q.e x c (q.at_ : Int)) _ ?_ Try.underlying45 rfl HSQ.out ?_; (exact HRQ.out)) | (refine wpList_store_row rfl 45 (.tmp 8) (.tmp 38) rfl wr.heap.size #[.string q.name, .string q.e.op, .string q.e.name, .int .i64 q.e.n, .int .i64 (q.e.at_ : Int), .slice x q.e.kids.length c, .int .i64 (q.at_ : Int)] rfl rfl 45 _ HAL.out HSQ.out rfl (qS_one _ _ _ _ _ _ _ _ _) ?_) | (refine wpList_load_row rfl 88 (.tmp 2) rfl w.heap.size rfl 88 #[.slice xs ah.length cs, .map (some b)] (0, 0) _ HL0.out Try.underlying88 rfl HSC.out ?_) | (refine wpList_load_row rfl 45 (.tmp 8) rfl wr.heap.size rfl 45 #[.string q.name, .string q.e.op, .string q.e.name, .int .i64 q.e.n, .int .i64 (q.e.at_ : Int), .slice x q.e.kids.length c, .int .i64 (q.at_ : Int)] (0, 0) _ HN1.out Try.underlying45 rfl HSQ.out ?_))
            (with_reducible refine ke2.mono ?_)
            rintro e9 w2 ⟨rfl, hb⟩
            have HF2 := Lib.hid (HF1.out.call hb)
            have HAF := Lib.hid (heap_alloc_new w2 (.cells #[.int .i64 0, .int .i64 0] 32))
            obtain ⟨hnb, hnr⟩ := new_row w2 32 #[.int .i64 0, .int .i64 0] #[.int .i64 9, .int .i64 (a : Int)]
            have c0 := cell_of_row _ w2.heap.size 0 _ _ _ hnr
            have HF3 := Lib.hid (HF2.out.call hnb)
            have HN3 := Lib.hid hnr
            have HL2 := Lib.hid (HF3.out.get 2 rfl)
            clear ke2 hb hnb hnr
            go_wp2_with (first | (refine wpList_store_row rfl 32 (.tmp 9) (.tmp 41) rfl w2.heap.size #[.int .i64 9, .int .i64 (a : Int)] rfl rfl 32 _ HAF.out HSF.out rfl (fault_one _ _) ?_) | (refine wpList_load_row rfl 32 (.tmp 9) rfl w2.heap.size rfl 32 #[.int .i64 9, .int .i64 (a : Int)] (0, 0) _ HN3.out Try.underlying32 rfl HSF.out ?_) | (refine wpList_store_row rfl 32 (.tmp 4) (.tmp 45) rfl (w.heap.size + 1 + 1) #[.int .i64 9, .int .i64 (a : Int)] rfl rfl 32 _ HL2.out HSF.out rfl (fault_one _ _) ?_))
            refine bodyPost_ret (v := .agg #[.int .i64 9, .int .i64 (a : Int)]) (results_cell_row (p := 4) (ty := 32) rfl _ _ (w.heap.size + 1 + 1) 32 _ (0, 0) _ rfl (setRow_heap _ (w.heap.size + 1 + 1) _ _ _ _ HL2.out) Try.underlying32 rfl HSF.out) rfl ?_
            rw [HR.out]
            exact ⟨rfl, below_setRow HF3.out.below (by omega) _⟩
        · have d1 : decide ((j : Int) < (n.eqs.length : Int)) = false := by simp; omega
          have hnil : n.eqs.drop j = [] := List.drop_of_length_le (by omega)
          obtain rfl : j = n.eqs.length := by have := HJE.out; omega
          have HR : Hid (R = none) := Lib.hid (by rw [HRE.out, hq, hnil]; rfl)
          have HL2 := Lib.hid (HF.out.get 2 rfl)
          clear hjl hnil hq HRE
          go_wp2_with (refine wpList_store_row rfl 32 (.tmp 4) (.tmp 47) rfl (w.heap.size + 1 + 1) #[.int .i64 0, .int .i64 0] rfl rfl 32 _ HL2.out HSF.out rfl (fault_one _ _) ?_)
          refine bodyPost_ret (v := .agg #[.int .i64 0, .int .i64 0]) (results_cell_row (p := 4) (ty := 32) rfl _ _ (w.heap.size + 1 + 1) 32 _ (0, 0) _ rfl (setRow_heap _ (w.heap.size + 1 + 1) _ _ _ _ HL2.out) Try.underlying32 rfl HSF.out) rfl ?_
          rw [HR.out]
          exact ⟨rfl, below_setRow HF.out.below (by omega) _⟩
end Go.Proofs.Ytejljfoacbpliaa

namespace Go.Proofs.Ytejljfoacbpliaa
open Go Go.RowKit
theorem zeroCells_size (z : Array Value) (n : Nat) : (Builtin.zeroCells z n).size = n * z.size := by simp [Builtin.zeroCells]
theorem OwnD.zeros (w : World) (T : TypeId) (sz b n cap : Nat) (z : Array Value) (hz : z.size = sz) (hb : b + 1 ≤ w.heap.size) (hc : cap ≤ maxLen) (hn : n ≤ cap) : OwnD T sz (w.drew.alloc (.cells (Builtin.zeroCells z n ++ Builtin.zeroCells z (cap - n)) T)) b (.slice (some ⟨w.heap.size, 0, none⟩) 0 cap) 0 [] := by
  refine ⟨[], ⟨by simp, .inr ⟨w.heap.size, cap, _, rfl, hb, heap_alloc_new w.drew _, Nat.zero_le _, hc, ?_, by simp⟩⟩, trivial⟩
  rw [Array.size_append, zeroCells_size, zeroCells_size, hz, ← Nat.add_mul]
  congr 1
  omega
set_option maxHeartbeats 4000000 in
set_option maxRecDepth 100000 in
theorem Grow_any (n b : Nat) (hn : n ≤ 1000000000) (w : World) (hb : b + 1 ≤ w.heap.size) : Calls Try.prog 99 #[.slice none 0 0, .int .i64 (n : Int)] w (fun e w' => ∃ v, e = .returned v ∧ OwnD 126 5 w' b v 0 [] ∧ Below w.heap.size w w') := by
  have d0 : decide ((n : Int) < 0) = false := by simp
  have hw : wrap64 (n : Int) = (n : Int) := by unfold wrap64; omega
  by_cases hz : n = 0
  · subst hz
    go_enter Try.func99, Try.ntmps99
    go_wp2_with fail
    go_ret
    exact ⟨_, rfl, OwnD.nil _ _ _ _, Below.refl _ _⟩
  · have d1 : 0 < n := by omega
    obtain ⟨i, hi, ⟨z, hz0, hz1⟩, hsi, hby⟩ := info_vS
    have hr := fun ty => Lib.run_append_nil_zeros (P := Try.prog) w 46 3 ty 126 i z .i64 .i64 Try.underlying46 Try.underlying3 hi hz0 n (by omega) (by omega) (by omega) (by rw [hby]; omega)
    obtain ⟨cap, hcap⟩ : ∃ cap, cap = grownCap w n 0 126 := ⟨_, rfl⟩
    have hge := grownCap_ge w n 0 126
    have hle := grownCap_le_maxLen w n 0 126 (Nat.le_trans hn (by decide))
    rw [← hcap] at hr hge hle
    have HO := Lib.hid (OwnD.zeros w 126 5 b n cap z.cells hz1 hb hle hge)
    have HBE := Lib.hid ((Below.refl w.heap.size w).drew.alloc (Nat.le_refl _) (.cells (Builtin.zeroCells z.cells n ++ Builtin.zeroCells z.cells (cap - n)) 126))
    have HR := Lib.hid hr
    have HGE := Lib.hid hge
    obtain ⟨cs, hcs⟩ : ∃ cs, cs = Builtin.zeroCells z.cells n ++ Builtin.zeroCells z.cells (cap - n) := ⟨_, rfl⟩
    rw [← hcs] at HO HBE HR
    clear hr hge hle hcap hz hcs
    go_enter Try.func99, Try.ntmps99
    go_wp2_with (at_builtin; refine Lib.wpList_append_run _ rfl _ _ _ _ rfl _ _ rfl rfl _ _ (HR.out _) ?_)
    go_ret
    exact ⟨_, rfl, HO.out, HBE.out⟩
end Go.Proofs.Ytejljfoacbpliaa

namespace Go.Proofs.Ytejljfoacbpliaa
open Go Go.RowKit
def rowD (l : List Vr) : Dt := .sl l.length (vrsD l)
theorem rowD_flat (L : List (List Vr)) : L.map rowD = L.flatMap (fun l => [rowD l]) := by
  induction L with
  | nil => rfl
  | cons a r ih => rw [List.flatMap_cons, ← ih]; rfl
theorem rows_at {ok : Nat → Prop} {w : World} {L : List (List Vr)} {x : Option Addr} {c : Nat} (h : IsD ok w (.slice x L.length c) (.sl L.length (L.map rowD))) (i : Nat) (hi : i < L.length) : ∃ g, x = some ⟨g, 0, none⟩ ∧ g < w.heap.size ∧ ∃ xl cl, w.cell? ⟨g, i, none⟩ = some (.slice xl L[i].length cl) ∧ IsD ok w (.slice xl L[i].length cl) (.sl L[i].length (vrsD L[i])) := by
  obtain ⟨g, e1, _, e3, e4⟩ := IsD.some_ h (by omega)
  rw [rowD_flat] at e4
  have h5 := IsDs.nth (f := fun l : List Vr => [rowD l]) (sz := 1) (fun _ => rfl) L i 0 hi e4
  rw [Nat.zero_add, Nat.mul_one] at h5
  unfold IsDs at h5
  obtain ⟨⟨u, q1, q2⟩, _⟩ := h5
  obtain ⟨xl, cl, rfl, _, _⟩ := IsD.slice q2
  exact ⟨g, e1, e3, xl, cl, q1, q2⟩
def lens (L : List (List Vr)) : Nat := (L.map List.length).sum
theorem lens_take {L : List (List Vr)} {i : Nat} (h : i < L.length) : lens (L.take (i + 1)) = lens (L.take i) + L[i].length := by
  have e : L.take (i + 1) = L.take i ++ [L[i]] := by rw [List.take_add_one, List.getElem?_eq_getElem h]; rfl
  rw [e]
  unfold lens
  rw [List.map_append, List.sum_append]
  simp
theorem lens_le (L : List (List Vr)) (i : Nat) : lens (L.take i) ≤ lens L := by
  have : lens L = lens (L.take i) + lens (L.drop i) := by
    unfold lens
    rw [← List.sum_append, ← List.map_append, List.take_append_drop]
  omega
theorem flat_take {L : List (List Vr)} {i : Nat} (h : i < L.length) : vrsD (L.take i).flatten ++ vrsD L[i] = vrsD (L.take (i + 1)).flatten := by
  have e : L.take (i + 1) = L.take i ++ [L[i]] := by rw [List.take_add_one, List.getElem?_eq_getElem h]; rfl
  rw [← vrsD_app, e, List.flatten_append]
  simp
theorem lens_flat (L : List (List Vr)) : lens L = L.flatten.length := by
  unfold lens
  rw [List.length_flatten]
def GivesVs (l : List Vr) (w : World) (e : Ending) (w' : World) : Prop := ∃ x c, e = .returned (.slice x l.length c) ∧ IsD (w.heap.size ≤ ·) w' (.slice x l.length c) (.sl l.length (vrsD l)) ∧ Below w.heap.size w w'
set_option maxHeartbeats 4000000 in
set_option maxRecDepth 100000 in
theorem Concat_any (L : List (List Vr)) (hT : lens L ≤ 1000000000) (w : World) (hw : 0 < w.heap.size) (ok : Nat → Prop) (x : Option Addr) (c : Nat) (hk : IsD ok w (.slice x L.length c) (.sl L.length (L.map rowD))) : Calls Try.prog 67 #[.slice x L.length c] w (GivesVs L.flatten w) := by
  have HK := Lib.hid hk
  have HT := Lib.hid hT
  have HW := Lib.hid hw
  have HIV := Lib.hid info_vS
  clear hk hT hw
  go_enter Try.func67, Try.ntmps67
  go_wp2_with fail
  go_loopw [3, 11] (fun v3 v11 wr => ∃ (j S : Nat), v3 = .int .i64 (S : Int) ∧ v11 = .int .i64 (j : Int) ∧ j ≤ L.length ∧ S = lens (L.take j) ∧ w = wr)
    (fun _ v11 _ => L.length - (intOf v11).toNat)
  case atStart => exact ⟨0, 0, rfl, rfl, Nat.zero_le _, rfl, rfl⟩
  case round =>
    obtain ⟨j, S, rfl, rfl, hj, hS, rfl⟩ := hrel
    have HJ := Lib.hid hj
    have HS := Lib.hid hS
    clear hj hS
    by_cases hjl : j < L.length
    · have d1 : decide ((j : Int) < (L.length : Int)) = true := by simp; omega
      have HJL := Lib.hid hjl
      obtain ⟨g, rfl, hg, xl, cl, hc, hl⟩ := rows_at HK.out j hjl
      obtain ⟨l, hll⟩ : ∃ l, l = L[j]'HJL.out := ⟨_, rfl⟩
      rw [← hll] at hc hl
      have HLL := Lib.hid hll
      obtain ⟨S', hS'⟩ : ∃ S', S' = S + l.length := ⟨_, rfl⟩
      have hle := lens_le L (j + 1)
      have hlt := lens_take hjl
      rw [← hll, ← HS.out, ← hS'] at hlt
      rw [hlt] at hle
      have hw1 : wrap64 ((S : Int) + (l.length : Int)) = (S' : Int) := by have := HT.out; unfold wrap64; omega
      have HW1 := Lib.hid hw1
      have d2 : decide ((S' : Int) < 0) = false := by simp
      have HLT := Lib.hid hlt.symm
      have i0 : (0 : Int) ≤ (j : Int) := by omega
      have i1 : (j : Int) < (L.length : Int) := by omega
      clear hjl hg hl hll hS' hle hlt
      go_wp2_with fail
      refine ⟨⟨j + 1, S', by rw [HW1.out], wrap_succ (by have := HJL.out; have := IsD.few HK.out; omega), HJL.out, HLT.out, trivial⟩, ?_⟩
      rw [wrap_succ (by have := HJL.out; have := IsD.few HK.out; omega)]
      simp [intOf]; omega
    · have d1 : decide ((j : Int) < (L.length : Int)) = false := by simp; omega
      obtain rfl : j = L.length := by have := HJ.out; omega
      have hS2 : S = lens L := by rw [HS.out, List.take_length]
      have HS2 := Lib.hid hS2
      have kg := Grow_any S (w.heap.size - 1) (by rw [hS2]; exact HT.out) w (by have := HW.out; omega)
      clear hjl HS hS2
      go_wp2_with fail
      (with_reducible refine kg.mono ?_)
      rintro e9 w1 ⟨v, rfl, hO, hb⟩
      have HO := Lib.hid hO
      have HB := Lib.hid hb
      clear kg hO hb
      go_wp2_with fail
      go_loopw [6, 27] (fun v6 v27 wr => ∃ (V : Value) (j : Nat), V = v6 ∧ v27 = .int .i64 (j : Int) ∧ j ≤ L.length ∧ OwnD 126 5 wr (w.heap.size - 1) V (lens (L.take j)) (vrsD (L.take j).flatten) ∧ Below w.heap.size w wr)
        (fun _ v27 _ => L.length - (intOf v27).toNat)
      case atStart => exact ⟨_, 0, rfl, rfl, Nat.zero_le _, HO.out, HB.out⟩
      case round =>
        clear HO HB
        obtain ⟨V, j, rfl, rfl, hj, hO, hb⟩ := hrel
        have HO := Lib.hid hO
        have HB := Lib.hid hb
        have HJ := Lib.hid hj
        obtain ⟨S, hS⟩ : ∃ S, S = lens (L.take j) := ⟨_, rfl⟩
        rw [← hS] at hO
        obtain ⟨xv, cv, rfl, _, _⟩ := hO.slice
        have HS := Lib.hid hS
        have HO := Lib.hid hO
        clear hO hb hj hS
        by_cases hjl : j < L.length
        · have d1 : decide ((j : Int) < (L.length : Int)) = true := by simp; omega
          have HJL := Lib.hid hjl
          obtain ⟨g, rfl, hg, xl, cl, hc, hl⟩ := rows_at HK.out j hjl
          obtain ⟨l, hll⟩ : ∃ l, l = L[j]'HJL.out := ⟨_, rfl⟩
          rw [← hll] at hc hl
          have HLL := Lib.hid hll
          have hc' : wr.cell? ⟨g, j, none⟩ = some (.slice xl l.length cl) := by
            have e := HB.out.block g hg
            simp only [World.cell?] at hc ⊢
            rw [e]; exact hc
          have HD := Lib.hid (IsD.below HB.out hl)
          have HBW := Lib.hid (show w.heap.size - 1 + 1 ≤ wr.heap.size by have := HB.out.size; have := HW.out; omega)
          have hlt := lens_take hjl
          have hle := lens_le L (j + 1)
          rw [← hll, ← HS.out] at hlt
          have HLT := Lib.hid hlt
          have HNM := Lib.hid (show S + l.length ≤ 100000000000 by have := HT.out; omega)
          have i0 : (0 : Int) ≤ (j : Int) := by omega
          have i1 : (j : Int) < (L.length : Int) := by omega
          clear hjl hg hc hl hll hlt hle
          go_wp2_with (at_builtin; refine wpList_appH rfl (.tmp 31) (.tmp 32) 46 rfl 56 Try.underlying46 HIV.out (by decide) (by decide) rfl HO.out HBW.out (vrsD l) rfl HD.out (vrsD_len l) (vrsD_plain l) (vrsD_ones l) HNM.out ?_)
          intro v' w' hO' hg' _
          rw [HLL.out, flat_take HJL.out, ← HLL.out, ← HLT.out] at hO'
          have HO2 := Lib.hid hO'
          have HB2 := Lib.hid (below_own HB.out hg' (fun k hk => by have := (HO.out.gt k hk).1; omega))
          clear hO' hg' hc'
          go_wp2_with fail
          refine ⟨⟨_, j + 1, rfl, wrap_succ (by have := HJL.out; have := IsD.few HK.out; omega), HJL.out, HO2.out, HB2.out⟩, ?_⟩
          rw [wrap_succ (by have := HJL.out; have := IsD.few HK.out; omega)]
          simp [intOf]; omega
        · have d1 : decide ((j : Int) < (L.length : Int)) = false := by simp; omega
          obtain rfl : j = L.length := by have := HJ.out; omega
          have HZ := Lib.hid HO.out
          clear hjl
          go_wp2_with fail
          go_ret
          have h := HZ.out
          rw [List.take_length] at h
          have hs : S = L.flatten.length := by rw [HS.out, List.take_length, lens_flat]
          subst hs
          exact ⟨xv, cv, rfl, (h.ends (by rw [← lens_flat]; exact HT.out)).mono (fun k hk _ => by have : w.heap.size - 1 < k := hk; show w.heap.size ≤ k; omega), HB.out⟩
end Go.Proofs.Ytejljfoacbpliaa

namespace Go.Proofs.Ytejljfoacbpliaa
open Go Go.RowKit
def gset (g : List UInt8 → Option Int) (s : ByteArray) (k : Int) : List UInt8 → Option Int := fun x => if x = s.data.toList then some k else g x
theorem Kinds.look_ok {w : World} {b n : Nat} {g : List UInt8 → Option Int} (h : Kinds w b n g) (s : ByteArray) (hs : s.size ≤ maxLen) : (Instr.lookup 86 (.map (some b)) (.string s) true).run Try.prog w = .ok (.tuple #[.int .i64 (kindOf g s), .bool (g s.data.toList).isSome]) w := by
  have := MapO.look_ok h Try.underlying9 Try.underlying86 (zero_kind w) s hs
  rw [this]
  unfold kindOf
  cases g s.data.toList <;> rfl
theorem wpList_kinds {ops : Array Oper} {rest : List Oper} {o : Oper} {a : Act} {Q : Exit → Act → World → Prop} {w : World} (hgd : o.guard = none) (m x v : Operand) (hop : o.op = Op.mapUpdate 86 m x v) {b n : Nat} {g : List UInt8 → Option Int} (hm : a.eval m = .map (some b)) (s : ByteArray) (hx : a.eval x = .string s) (k : Int) (hv : a.eval v = .int .i64 k) (h : Kinds w b n g) (hn : n < maxLen) (hs : s.size ≤ maxLen)
    (hK : ∀ w', Kinds w' b (n + 1) (gset g s k) → w.grownBy w' (some b) → wpList Try.prog ops Q rest (a.put o.dst undef) w') : wpList Try.prog ops Q (o :: rest) a w := by
  refine wpList_plain hgd fun K' hK' => ?_
  obtain ⟨w', hrun, r1, r2⟩ := MapO.update h Try.underlying9 Try.underlying86 hn s hs (.int .i64 k)
  unfold Oper.wp
  simp [execOp, hop, hm, hx, hv, hrun, Result.andThen]
  refine hK' _ _ (hK w' ?_ r2)
  have e : (fun x : List UInt8 => if x = s.data.toList then some (Value.int .i64 k) else (g x).map (Value.int .i64)) = (fun x => (gset g s k x).map (Value.int .i64)) := by
    funext x
    unfold gset
    by_cases hx : x = s.data.toList <;> simp [hx]
  unfold Kinds
  rw [← e]
  exact r1
def declK (l : List Vr) : List UInt8 → Option Int := fun s => (l.find? (fun v => v.name.data.toList == s)).map (fun v => (v.kind : Int))
theorem declK_old {l : List Vr} {j : Nat} (h : j < l.length) (hk : (declK (l.take j) (l[j]).name.data.toList).isSome = true) : declK (l.take (j + 1)) = declK (l.take j) := by
  have e : l.take (j + 1) = l.take j ++ [l[j]] := by rw [List.take_add_one, List.getElem?_eq_getElem h]; rfl
  rw [e]
  funext s
  unfold declK at hk ⊢
  rw [List.find?_append]
  cases hf : (l.take j).find? (fun v => v.name.data.toList == s) with
  | some v => rfl
  | none =>
    by_cases hs : l[j].name.data.toList = s
    · subst hs
      rw [hf] at hk
      simp at hk
    · have hb : (l[j].name.data.toList == s) = false := beq_eq_false_iff_ne.2 hs
      simp [List.find?, hb]
theorem declK_new {l : List Vr} {j : Nat} (h : j < l.length) (hk : (declK (l.take j) (l[j]).name.data.toList).isSome = false) : declK (l.take (j + 1)) = gset (declK (l.take j)) (l[j]).name (l[j].kind : Int) := by
  have e : l.take (j + 1) = l.take j ++ [l[j]] := by rw [List.take_add_one, List.getElem?_eq_getElem h]; rfl
  rw [e]
  funext s
  unfold gset
  unfold declK at hk ⊢
  rw [List.find?_append]
  by_cases hs : s = l[j].name.data.toList
  · subst hs
    rw [if_pos rfl]
    cases hf : (l.take j).find? (fun v => v.name.data.toList == l[j].name.data.toList) with
    | some v => rw [hf] at hk; simp at hk
    | none => simp [List.find?]
  · rw [if_neg hs]
    have hs' : ¬ l[j].name.data.toList = s := fun e => hs e.symm
    have hb : (l[j].name.data.toList == s) = false := beq_eq_false_iff_ne.2 hs'
    simp [List.find?, hb]
def declsOf (n : Nd) : List Vr := [n.ins, n.outs, n.locs].flatten
theorem IsD.taken {ok : Nat → Prop} {w : World} {l : List Nd} {x : Option Addr} {c : Nat} (h : IsD ok w (.slice x l.length c) (.sl l.length (ndsD l))) (k : Nat) (hk : k ≤ l.length) : IsD ok w (.slice x (l.take k).length c) (.sl (l.take k).length (ndsD (l.take k))) := by
  have hl : (l.take k).length = k := by simp; omega
  rw [hl]
  unfold IsD at h ⊢
  obtain ⟨x', c', h1, h2, h3, h4, h5⟩ := h
  injection h1 with e1 e2 e3
  subst e1 e3
  refine ⟨x, c, rfl, ⟨by omega, by omega⟩, h3, fun h0 => by subst h0; rw [List.take_zero]; rfl, fun h0 => ?_⟩
  obtain ⟨g, q1, q2, q3, q4⟩ := h5 (by omega)
  refine ⟨g, q1, q2, q3, ?_⟩
  rw [← List.take_append_drop k l, ndsD_app] at q4
  exact IsDs.take _ _ _ q4
theorem okVs_app {a b : List Vr} (ha : okVs a = true) (hb : okVs b = true) : okVs (a ++ b) = true := by
  unfold okVs at *
  rw [List.all_append, ha, hb]; rfl
theorem declsOf_ok {n : Nd} (h : okNd n = true) : okVs (declsOf n) = true ∧ (declsOf n).length ≤ 1000000 := by
  unfold okNd at h
  simp only [Bool.and_eq_true, decide_eq_true_eq] at h
  obtain ⟨h0, _, h1, h2, h3, _⟩ := h
  refine ⟨?_, ?_⟩
  · show okVs (n.ins ++ (n.outs ++ (n.locs ++ []))) = true
    exact okVs_app h1 (okVs_app h2 (okVs_app h3 rfl))
  · show (n.ins ++ (n.outs ++ (n.locs ++ []))).length ≤ _
    simp; omega
end Go.Proofs.Ytejljfoacbpliaa

namespace Go.Proofs.Ytejljfoacbpliaa
open Go Go.RowKit
def GivesS (l : List Nd) (i : Nat) (hi : i < l.length) (x : Option Addr) (c : Nat) (w : World) (e : Ending) (w' : World) : Prop := ∃ mb m, e = .returned (.agg #[.slice x i c, .map (some mb)]) ∧ Kinds w' mb m (declK (declsOf l[i])) ∧ Below w.heap.size w w'
theorem size_scS : (Try.prog.info? 88).map (·.size) = some 2 := by kernel_rfl
theorem sc_one (x : Option Addr) (l c : Nat) (m : Option Nat) : (#[.slice x l c, .map m] : Array Value).all (·.oneCell') = true := by simp [Value.oneCell']
set_option maxHeartbeats 4000000 in
set_option maxRecDepth 100000 in
theorem scopeOf_any (l : List Nd) (i : Nat) (hi : i < l.length) (hon : okNd l[i] = true) (w : World) (ok : Nat → Prop) (x : Option Addr) (c : Nat) (hk : IsD ok w (.slice x l.length c) (.sl l.length (ndsD l))) : Calls Try.prog 47 #[.slice x l.length c, .int .i64 (i : Int)] w (GivesS l i hi x c w) := by
  obtain ⟨hod, hol⟩ := declsOf_ok hon
  obtain ⟨g, rfl, hg, xi, ci, xo, co, xl, cl, xe, ce, hrg, t1, t2, t3, t4⟩ := nd_at hk i hi
  have hfew := IsD.few hk
  have hlc : l.length ≤ c ∧ c ≤ maxLen := by obtain ⟨x', c', h1, h2, h3⟩ := IsD.slice hk; injection h1 with _ _ h; subst h; exact ⟨h2, h3⟩
  obtain ⟨n, hn⟩ : ∃ n, n = l[i]'hi := ⟨_, rfl⟩
  unfold GivesS
  rw [← hn] at hrg t1 t2 t3 t4 hod hol ⊢
  have HSN := Lib.hid size_nS
  have HSC := Lib.hid size_scS
  have HSV := Lib.hid size_vS
  have HRG := Lib.hid (rangeAt_below hrg ((Fx.start w).alloc w.heap.size rfl 88 #[.slice none 0 0, .map none]).below hg)
  have FA := (((Fx.start w).alloc w.heap.size rfl 88 #[.slice none 0 0, .map none]).alloc (w.heap.size + 1) (by simp) 49 #[.string ⟨#[]⟩, .slice none 0 0, .slice none 0 0, .slice none 0 0, .slice none 0 0, .int .i64 0])
  have HA1 := Lib.hid (FA.get 1 rfl)
  have FB := FA.store 1 rfl #[.string n.name, .slice xi n.ins.length ci, .slice xo n.outs.length co, .slice xl n.locs.length cl, .slice xe n.eqs.length ce, .int .i64 (n.at_ : Int)]
  have hsA : (((w.alloc (.cells #[.slice none 0 0, .map none] 88)).alloc (.cells #[.string ⟨#[]⟩, .slice none 0 0, .slice none 0 0, .slice none 0 0, .slice none 0 0, .int .i64 0] 49)).setRow (w.heap.size + 1) #[.string n.name, .slice xi n.ins.length ci, .slice xo n.outs.length co, .slice xl n.locs.length cl, .slice xe n.eqs.length ce, .int .i64 (n.at_ : Int)]).heap.size = w.heap.size + 1 + 1 := by rw [setRow_size]; simp
  have hmm : (Instr.makeMap 86 none).run Try.prog (((w.alloc (.cells #[.slice none 0 0, .map none] 88)).alloc (.cells #[.string ⟨#[]⟩, .slice none 0 0, .slice none 0 0, .slice none 0 0, .slice none 0 0, .int .i64 0] 49)).setRow (w.heap.size + 1) #[.string n.name, .slice xi n.ins.length ci, .slice xo n.outs.length co, .slice xl n.locs.length cl, .slice xe n.eqs.length ce, .int .i64 (n.at_ : Int)]) = .ok (.map (some (w.heap.size + 1 + 1))) ((((w.alloc (.cells #[.slice none 0 0, .map none] 88)).alloc (.cells #[.string ⟨#[]⟩, .slice none 0 0, .slice none 0 0, .slice none 0 0, .slice none 0 0, .int .i64 0] 49)).setRow (w.heap.size + 1) #[.string n.name, .slice xi n.ins.length ci, .slice xo n.outs.length co, .slice xl n.locs.length cl, .slice xe n.eqs.length ce, .int .i64 (n.at_ : Int)]).alloc (.map #[] 0)) := by
    have := run_makeMap (P := Try.prog) 86 (((w.alloc (.cells #[.slice none 0 0, .map none] 88)).alloc (.cells #[.string ⟨#[]⟩, .slice none 0 0, .slice none 0 0, .slice none 0 0, .slice none 0 0, .int .i64 0] 49)).setRow (w.heap.size + 1) #[.string n.name, .slice xi n.ins.length ci, .slice xo n.outs.length co, .slice xl n.locs.length cl, .slice xe n.eqs.length ce, .int .i64 (n.at_ : Int)])
    rw [hsA] at this
    exact this
  have HMp : Kinds ((((w.alloc (.cells #[.slice none 0 0, .map none] 88)).alloc (.cells #[.string ⟨#[]⟩, .slice none 0 0, .slice none 0 0, .slice none 0 0, .slice none 0 0, .int .i64 0] 49)).setRow (w.heap.size + 1) #[.string n.name, .slice xi n.ins.length ci, .slice xo n.outs.length co, .slice xl n.locs.length cl, .slice xe n.eqs.length ce, .int .i64 (n.at_ : Int)]).alloc (.map #[] 0)) (w.heap.size + 1 + 1) 0 (fun _ => none) := by
    have := MapO.made Try.prog 9 (((w.alloc (.cells #[.slice none 0 0, .map none] 88)).alloc (.cells #[.string ⟨#[]⟩, .slice none 0 0, .slice none 0 0, .slice none 0 0, .slice none 0 0, .int .i64 0] 49)).setRow (w.heap.size + 1) #[.string n.name, .slice xi n.ins.length ci, .slice xo n.outs.length co, .slice xl n.locs.length cl, .slice xe n.eqs.length ce, .int .i64 (n.at_ : Int)])
    rw [hsA] at this
    exact this
  have FC := (FB.make (.map #[] 0)).alloc (w.heap.size + 1 + 1 + 1) (by simp [setRow_size]) 88 #[.slice none 0 0, .map none]
  have HA2 := Lib.hid (FC.get 2 rfl)
  have FD : Fx w [(w.heap.size, 88, #[.slice none 0 0, .map none]), (w.heap.size + 1, 49, #[.string n.name, .slice xi n.ins.length ci, .slice xo n.outs.length co, .slice xl n.locs.length cl, .slice xe n.eqs.length ce, .int .i64 (n.at_ : Int)]), (w.heap.size + 1 + 1 + 1, 88, #[.slice (some ⟨g, 0, none⟩) i c, .map (some (w.heap.size + 1 + 1))])] ((((((w.alloc (.cells #[.slice none 0 0, .map none] 88)).alloc (.cells #[.string ⟨#[]⟩, .slice none 0 0, .slice none 0 0, .slice none 0 0, .slice none 0 0, .int .i64 0] 49)).setRow (w.heap.size + 1) #[.string n.name, .slice xi n.ins.length ci, .slice xo n.outs.length co, .slice xl n.locs.length cl, .slice xe n.eqs.length ce, .int .i64 (n.at_ : Int)]).alloc (.map #[] 0)).alloc (.cells #[.slice none 0 0, .map none] 88)).setRow (w.heap.size + 1 + 1 + 1) #[.slice (some ⟨g, 0, none⟩) i c, .map (some (w.heap.size + 1 + 1))]) := FC.store 2 rfl #[.slice (some ⟨g, 0, none⟩) i c, .map (some (w.heap.size + 1 + 1))]
  have hsB : ((((w.alloc (.cells #[.slice none 0 0, .map none] 88)).alloc (.cells #[.string ⟨#[]⟩, .slice none 0 0, .slice none 0 0, .slice none 0 0, .slice none 0 0, .int .i64 0] 49)).setRow (w.heap.size + 1) #[.string n.name, .slice xi n.ins.length ci, .slice xo n.outs.length co, .slice xl n.locs.length cl, .slice xe n.eqs.length ce, .int .i64 (n.at_ : Int)]).alloc (.map #[] 0)).heap.size = w.heap.size + 1 + 1 + 1 := by simp [setRow_size]
  have hbc : Below ((((w.alloc (.cells #[.slice none 0 0, .map none] 88)).alloc (.cells #[.string ⟨#[]⟩, .slice none 0 0, .slice none 0 0, .slice none 0 0, .slice none 0 0, .int .i64 0] 49)).setRow (w.heap.size + 1) #[.string n.name, .slice xi n.ins.length ci, .slice xo n.outs.length co, .slice xl n.locs.length cl, .slice xe n.eqs.length ce, .int .i64 (n.at_ : Int)]).alloc (.map #[] 0)).heap.size ((((w.alloc (.cells #[.slice none 0 0, .map none] 88)).alloc (.cells #[.string ⟨#[]⟩, .slice none 0 0, .slice none 0 0, .slice none 0 0, .slice none 0 0, .int .i64 0] 49)).setRow (w.heap.size + 1) #[.string n.name, .slice xi n.ins.length ci, .slice xo n.outs.length co, .slice xl n.locs.length cl, .slice xe n.eqs.length ce, .int .i64 (n.at_ : Int)]).alloc (.map #[] 0)) ((((((w.alloc (.cells #[.slice none 0 0, .map none] 88)).alloc (.cells #[.string ⟨#[]⟩, .slice none 0 0, .slice none 0 0, .slice none 0 0, .slice none 0 0, .int .i64 0] 49)).setRow (w.heap.size + 1) #[.string n.name, .slice xi n.ins.length ci, .slice xo n.outs.length co, .slice xl n.locs.length cl, .slice xe n.eqs.length ce, .int .i64 (n.at_ : Int)]).alloc (.map #[] 0)).alloc (.cells #[.slice none 0 0, .map none] 88)).setRow (w.heap.size + 1 + 1 + 1) #[.slice (some ⟨g, 0, none⟩) i c, .map (some (w.heap.size + 1 + 1))]) := by
    have := (new_row ((((w.alloc (.cells #[.slice none 0 0, .map none] 88)).alloc (.cells #[.string ⟨#[]⟩, .slice none 0 0, .slice none 0 0, .slice none 0 0, .slice none 0 0, .int .i64 0] 49)).setRow (w.heap.size + 1) #[.string n.name, .slice xi n.ins.length ci, .slice xo n.outs.length co, .slice xl n.locs.length cl, .slice xe n.eqs.length ce, .int .i64 (n.at_ : Int)]).alloc (.map #[] 0)) 88 #[.slice none 0 0, .map none] #[.slice (some ⟨g, 0, none⟩) i c, .map (some (w.heap.size + 1 + 1))]).1
    rw [hsB] at this ⊢
    exact this
  have hkC : Kinds ((((((w.alloc (.cells #[.slice none 0 0, .map none] 88)).alloc (.cells #[.string ⟨#[]⟩, .slice none 0 0, .slice none 0 0, .slice none 0 0, .slice none 0 0, .int .i64 0] 49)).setRow (w.heap.size + 1) #[.string n.name, .slice xi n.ins.length ci, .slice xo n.outs.length co, .slice xl n.locs.length cl, .slice xe n.eqs.length ce, .int .i64 (n.at_ : Int)]).alloc (.map #[] 0)).alloc (.cells #[.slice none 0 0, .map none] 88)).setRow (w.heap.size + 1 + 1 + 1) #[.slice (some ⟨g, 0, none⟩) i c, .map (some (w.heap.size + 1 + 1))]) (w.heap.size + 1 + 1) 0 (fun _ => none) := MapO.below HMp hbc
  have hcd : Below ((((((w.alloc (.cells #[.slice none 0 0, .map none] 88)).alloc (.cells #[.string ⟨#[]⟩, .slice none 0 0, .slice none 0 0, .slice none 0 0, .slice none 0 0, .int .i64 0] 49)).setRow (w.heap.size + 1) #[.string n.name, .slice xi n.ins.length ci, .slice xo n.outs.length co, .slice xl n.locs.length cl, .slice xe n.eqs.length ce, .int .i64 (n.at_ : Int)]).alloc (.map #[] 0)).alloc (.cells #[.slice none 0 0, .map none] 88)).setRow (w.heap.size + 1 + 1 + 1) #[.slice (some ⟨g, 0, none⟩) i c, .map (some (w.heap.size + 1 + 1))]).heap.size ((((((w.alloc (.cells #[.slice none 0 0, .map none] 88)).alloc (.cells #[.string ⟨#[]⟩, .slice none 0 0, .slice none 0 0, .slice none 0 0, .slice none 0 0, .int .i64 0] 49)).setRow (w.heap.size + 1) #[.string n.name, .slice xi n.ins.length ci, .slice xo n.outs.length co, .slice xl n.locs.length cl, .slice xe n.eqs.length ce, .int .i64 (n.at_ : Int)]).alloc (.map #[] 0)).alloc (.cells #[.slice none 0 0, .map none] 88)).setRow (w.heap.size + 1 + 1 + 1) #[.slice (some ⟨g, 0, none⟩) i c, .map (some (w.heap.size + 1 + 1))]) (((((((w.alloc (.cells #[.slice none 0 0, .map none] 88)).alloc (.cells #[.string ⟨#[]⟩, .slice none 0 0, .slice none 0 0, .slice none 0 0, .slice none 0 0, .int .i64 0] 49)).setRow (w.heap.size + 1) #[.string n.name, .slice xi n.ins.length ci, .slice xo n.outs.length co, .slice xl n.locs.length cl, .slice xe n.eqs.length ce, .int .i64 (n.at_ : Int)]).alloc (.map #[] 0)).alloc (.cells #[.slice none 0 0, .map none] 88)).setRow (w.heap.size + 1 + 1 + 1) #[.slice (some ⟨g, 0, none⟩) i c, .map (some (w.heap.size + 1 + 1))]).alloc (.cells #[.slice xi n.ins.length ci, .slice xo n.outs.length co, .slice xl n.locs.length cl] 46)) := (Below.refl _ _).alloc (Nat.le_refl _) _
  have hsC : ((((((w.alloc (.cells #[.slice none 0 0, .map none] 88)).alloc (.cells #[.string ⟨#[]⟩, .slice none 0 0, .slice none 0 0, .slice none 0 0, .slice none 0 0, .int .i64 0] 49)).setRow (w.heap.size + 1) #[.string n.name, .slice xi n.ins.length ci, .slice xo n.outs.length co, .slice xl n.locs.length cl, .slice xe n.eqs.length ce, .int .i64 (n.at_ : Int)]).alloc (.map #[] 0)).alloc (.cells #[.slice none 0 0, .map none] 88)).setRow (w.heap.size + 1 + 1 + 1) #[.slice (some ⟨g, 0, none⟩) i c, .map (some (w.heap.size + 1 + 1))]).heap.size = w.heap.size + 1 + 1 + 1 + 1 := by rw [setRow_size]; simp
  have HFD := Lib.hid (FD.call hcd)
  have HKD := Lib.hid (MapO.below hkC hcd)
  have n1 := cell_of_row _ (w.heap.size + 1) 1 _ _ _ (FD.get 1 rfl)
  have n2 := cell_of_row _ (w.heap.size + 1) 2 _ _ _ (FD.get 1 rfl)
  have n3 := cell_of_row _ (w.heap.size + 1) 3 _ _ _ (FD.get 1 rfl)
  have hd : IsD (fun k => ok k ∨ k = ((((((w.alloc (.cells #[.slice none 0 0, .map none] 88)).alloc (.cells #[.string ⟨#[]⟩, .slice none 0 0, .slice none 0 0, .slice none 0 0, .slice none 0 0, .int .i64 0] 49)).setRow (w.heap.size + 1) #[.string n.name, .slice xi n.ins.length ci, .slice xo n.outs.length co, .slice xl n.locs.length cl, .slice xe n.eqs.length ce, .int .i64 (n.at_ : Int)]).alloc (.map #[] 0)).alloc (.cells #[.slice none 0 0, .map none] 88)).setRow (w.heap.size + 1 + 1 + 1) #[.slice (some ⟨g, 0, none⟩) i c, .map (some (w.heap.size + 1 + 1))]).heap.size) (((((((w.alloc (.cells #[.slice none 0 0, .map none] 88)).alloc (.cells #[.string ⟨#[]⟩, .slice none 0 0, .slice none 0 0, .slice none 0 0, .slice none 0 0, .int .i64 0] 49)).setRow (w.heap.size + 1) #[.string n.name, .slice xi n.ins.length ci, .slice xo n.outs.length co, .slice xl n.locs.length cl, .slice xe n.eqs.length ce, .int .i64 (n.at_ : Int)]).alloc (.map #[] 0)).alloc (.cells #[.slice none 0 0, .map none] 88)).setRow (w.heap.size + 1 + 1 + 1) #[.slice (some ⟨g, 0, none⟩) i c, .map (some (w.heap.size + 1 + 1))]).alloc (.cells #[.slice xi n.ins.length ci, .slice xo n.outs.length co, .slice xl n.locs.length cl] 46)) (.slice (some ⟨w.heap.size + 1 + 1 + 1 + 1, 0, none⟩) 3 3) (.sl 3 ([n.ins, n.outs, n.locs].map rowD)) := IsD.made 46 _ _ hsC.symm 3 (by decide) (by decide) _ (.inr rfl) ⟨IsD.mono (fun _ h _ => .inl h) (IsD.below FD.below t1), IsD.mono (fun _ h _ => .inl h) (IsD.below FD.below t2), IsD.mono (fun _ h _ => .inl h) (IsD.below FD.below t3), trivial⟩
  have kc := Concat_any [n.ins, n.outs, n.locs] (by rw [lens_flat]; exact Nat.le_trans hol (by decide)) (((((((w.alloc (.cells #[.slice none 0 0, .map none] 88)).alloc (.cells #[.string ⟨#[]⟩, .slice none 0 0, .slice none 0 0, .slice none 0 0, .slice none 0 0, .int .i64 0] 49)).setRow (w.heap.size + 1) #[.string n.name, .slice xi n.ins.length ci, .slice xo n.outs.length co, .slice xl n.locs.length cl, .slice xe n.eqs.length ce, .int .i64 (n.at_ : Int)]).alloc (.map #[] 0)).alloc (.cells #[.slice none 0 0, .map none] 88)).setRow (w.heap.size + 1 + 1 + 1) #[.slice (some ⟨g, 0, none⟩) i c, .map (some (w.heap.size + 1 + 1))]).alloc (.cells #[.slice xi n.ins.length ci, .slice xo n.outs.length co, .slice xl n.locs.length cl] 46)) (by simp) _ _ 3 hd
  have hvs : ∃ D, D = declsOf n := ⟨_, rfl⟩
  obtain ⟨D, hD⟩ := hvs
  have kc2 : Calls Try.prog 67 #[.slice (some ⟨w.heap.size + 1 + 1 + 1 + 1, 0, none⟩) 3 3] (((((((w.alloc (.cells #[.slice none 0 0, .map none] 88)).alloc (.cells #[.string ⟨#[]⟩, .slice none 0 0, .slice none 0 0, .slice none 0 0, .slice none 0 0, .int .i64 0] 49)).setRow (w.heap.size + 1) #[.string n.name, .slice xi n.ins.length ci, .slice xo n.outs.length co, .slice xl n.locs.length cl, .slice xe n.eqs.length ce, .int .i64 (n.at_ : Int)]).alloc (.map #[] 0)).alloc (.cells #[.slice none 0 0, .map none] 88)).setRow (w.heap.size + 1 + 1 + 1) #[.slice (some ⟨g, 0, none⟩) i c, .map (some (w.heap.size + 1 + 1))]).alloc (.cells #[.slice xi n.ins.length ci, .slice xo n.outs.length co, .slice xl n.locs.length cl] 46)) (GivesVs D (((((((w.alloc (.cells #[.slice none 0 0, .map none] 88)).alloc (.cells #[.string ⟨#[]⟩, .slice none 0 0, .slice none 0 0, .slice none 0 0, .slice none 0 0, .int .i64 0] 49)).setRow (w.heap.size + 1) #[.string n.name, .slice xi n.ins.length ci, .slice xo n.outs.length co, .slice xl n.locs.length cl, .slice xe n.eqs.length ce, .int .i64 (n.at_ : Int)]).alloc (.map #[] 0)).alloc (.cells #[.slice none 0 0, .map none] 88)).setRow (w.heap.size + 1 + 1 + 1) #[.slice (some ⟨g, 0, none⟩) i c, .map (some (w.heap.size + 1 + 1))]).alloc (.cells #[.slice xi n.ins.length ci, .slice xo n.outs.length co, .slice xl n.locs.length cl] 46))) := by rw [hD]; exact kc
  rw [← hD] at hod hol ⊢
  have HOD := Lib.hid hod
  have HOL := Lib.hid hol
  have HSD := Lib.hid (show (((((((w.alloc (.cells #[.slice none 0 0, .map none] 88)).alloc (.cells #[.string ⟨#[]⟩, .slice none 0 0, .slice none 0 0, .slice none 0 0, .slice none 0 0, .int .i64 0] 49)).setRow (w.heap.size + 1) #[.string n.name, .slice xi n.ins.length ci, .slice xo n.outs.length co, .slice xl n.locs.length cl, .slice xe n.eqs.length ce, .int .i64 (n.at_ : Int)]).alloc (.map #[] 0)).alloc (.cells #[.slice none 0 0, .map none] 88)).setRow (w.heap.size + 1 + 1 + 1) #[.slice (some ⟨g, 0, none⟩) i c, .map (some (w.heap.size + 1 + 1))]).alloc (.cells #[.slice xi n.ins.length ci, .slice xo n.outs.length co, .slice xl n.locs.length cl] 46)).heap.size = w.heap.size + 1 + 1 + 1 + 1 + 1 by simp [setRow_size])
  have i0 : (0 : Int) ≤ (i : Int) := by omega
  have i1 : (i : Int) < (l.length : Int) := by omega
  have i2 : i ≤ c := by omega
  clear kc hd hcd hsC hkC hbc hsB HMp FC FD FB FA hsA t1 t2 t3 t4 hon hk hg hrg hol hod hD hfew hlc hn hi
  go_enter Try.func47, Try.ntmps47
  go_wp2_with (first | (refine wpList_load_mid rfl 49 (.tmp 13) rfl g (i * 6) rfl (ndC n xi xo xl xe ci co cl ce) _ ?_ Try.underlying49 rfl HSN.out ?_; (exact HRG.out)) | (refine wpList_store_row rfl 49 (.tmp 5) (.tmp 14) rfl (w.heap.size + 1) #[.string n.name, .slice xi n.ins.length ci, .slice xo n.outs.length co, .slice xl n.locs.length cl, .slice xe n.eqs.length ce, .int .i64 (n.at_ : Int)] rfl rfl 49 _ HA1.out HSN.out rfl (n4_one _ _ _ _ _ _ _ _ _ _ _ _ _ _) ?_) | (refine wpList_store_row rfl 88 (.tmp 6) (.tmp 19) rfl (w.heap.size + 1 + 1 + 1) #[.slice (some ⟨g, 0, none⟩) i c, .map (some (w.heap.size + 1 + 1))] rfl rfl 88 _ HA2.out HSC.out rfl (sc_one _ _ _ _) ?_))
  (with_reducible refine kc2.mono ?_)
  rintro e9 w5 ⟨xr, cr, rfl, hR, hb⟩
  have HF5 := Lib.hid (HFD.out.call hb)
  have HK5 := Lib.hid (MapO.below HKD.out hb)
  have HR5 : Hid (IsD (fun k => w.heap.size + 1 + 1 + 1 + 1 + 1 ≤ k) w5 (.slice xr D.length cr) (.sl D.length (vrsD D))) := Lib.hid (by have := HSD.out; rw [this] at hR; exact hR)
  clear kc2 hR hb n1 n2 n3 hmm
  go_wp2_with fail
  go_loopw [29] (fun v29 wr => ∃ (j m : Nat), v29 = .int .i64 (j : Int) ∧ j ≤ D.length ∧ m ≤ j ∧ Fx w [(w.heap.size, 88, #[.slice none 0 0, .map none]), (w.heap.size + 1, 49, #[.string n.name, .slice xi n.ins.length ci, .slice xo n.outs.length co, .slice xl n.locs.length cl, .slice xe n.eqs.length ce, .int .i64 (n.at_ : Int)]), (w.heap.size + 1 + 1 + 1, 88, #[.slice (some ⟨g, 0, none⟩) i c, .map (some (w.heap.size + 1 + 1))])] wr ∧ Kinds wr (w.heap.size + 1 + 1) m (declK (D.take j)) ∧ IsD (fun k => w.heap.size + 1 + 1 + 1 + 1 + 1 ≤ k) wr (.slice xr D.length cr) (.sl D.length (vrsD D)))
    (fun v29 _ => D.length - (intOf v29).toNat)
  case atStart => exact ⟨0, 0, rfl, Nat.zero_le _, Nat.le_refl _, HF5.out, HK5.out, HR5.out⟩
  case round =>
    clear HF5 HK5 HR5
    obtain ⟨j, m, rfl, hj, hm, hF, hK, hR⟩ := hrel
    have HF := Lib.hid hF
    have HJ := Lib.hid hj
    have HM := Lib.hid hm
    have HK := Lib.hid hK
    have HR := Lib.hid hR
    clear hF hj hm hK hR
    by_cases hjl : j < D.length
    · have d1 : decide ((j : Int) < (D.length : Int)) = true := by simp; omega
      have HJL := Lib.hid hjl
      obtain ⟨g1, rfl, hg1, hrg1⟩ := var_at HR.out j hjl
      have hov := (okVs_at HOD.out j hjl).1
      obtain ⟨v, hv⟩ : ∃ v, v = D[j]'HJL.out := ⟨_, rfl⟩
      rw [← hv] at hrg1 hov
      have HV := Lib.hid hv
      have HRV := Lib.hid hrg1
      have HAL := Lib.hid (heap_alloc_new wr (.cells #[.string ⟨#[]⟩, .int .i64 0, .string ⟨#[]⟩, .bool false, .int .i64 0] 126))
      obtain ⟨hnb, hnr⟩ := new_row wr 126 #[.string ⟨#[]⟩, .int .i64 0, .string ⟨#[]⟩, .bool false, .int .i64 0] #[.string v.name, .int .i64 (v.kind : Int), .string v.on, .bool v.not_, .int .i64 (v.at_ : Int)]
      have HF1 := Lib.hid (HF.out.call hnb)
      have HK1 := Lib.hid (MapO.below HK.out hnb)
      have HR1 := Lib.hid (IsD.below hnb HR.out)
      have HN1 := Lib.hid hnr
      have c0 := cell_of_row _ wr.heap.size 0 _ _ _ hnr
      have c1 := cell_of_row _ wr.heap.size 1 _ _ _ hnr
      have cm := cell_of_row _ (w.heap.size + 1 + 1 + 1) 1 _ _ _ (HF1.out.get 2 rfl)
      have hl := Kinds.look_ok HK1.out v.name hov
      have HOV := Lib.hid hov
      have i0 : (0 : Int) ≤ (j : Int) := by omega
      have i1' : (j : Int) < (D.length : Int) := by omega
      clear hjl hv hrg1 hnb hnr hov hg1
      obtain ⟨kk, hkk⟩ : ∃ kk, kk = kindOf (declK (D.take j)) v.name := ⟨_, rfl⟩
      rw [← hkk] at hl
      cases hs : (declK (D.take j) v.name.data.toList).isSome with
      | true =>
        rw [hs] at hl
        have HK2 : Hid (Kinds (((wr.alloc (.cells #[.string ⟨#[]⟩, .int .i64 0, .string ⟨#[]⟩, .bool false, .int .i64 0] 126)).setRow wr.heap.size #[.string v.name, .int .i64 (v.kind : Int), .string v.on, .bool v.not_, .int .i64 (v.at_ : Int)])) (w.heap.size + 1 + 1) m (declK (D.take (j + 1)))) := Lib.hid (by rw [declK_old HJL.out (by rw [← HV.out]; exact hs)]; exact HK1.out)
        clear hs hkk
        go_wp2_with (first | (refine wpList_load_mid rfl 126 (.tmp 31) rfl g1 (j * 5) rfl (vrC v) _ ?_ Try.underlying126 rfl HSV.out ?_; (exact HRV.out)) | (refine wpList_store_row rfl 126 (.tmp 8) (.tmp 32) rfl wr.heap.size #[.string v.name, .int .i64 (v.kind : Int), .string v.on, .bool v.not_, .int .i64 (v.at_ : Int)] rfl rfl 126 _ HAL.out HSV.out rfl (vS_one _ _ _ _ _) ?_))
        refine ⟨⟨j + 1, m, wrap_succ (by have := HJL.out; have := HOL.out; omega), HJL.out, Nat.le_succ_of_le HM.out, HF1.out, HK2.out, HR1.out⟩, ?_⟩
        rw [wrap_succ (by have := HJL.out; have := HOL.out; omega)]
        simp [intOf]; omega
      | false =>
        rw [hs] at hl
        have HDN := Lib.hid (declK_new HJL.out (by rw [← HV.out]; exact hs))
        have HMX := Lib.hid (show m < maxLen by have := HM.out; have := HJL.out; have := HOL.out; have : maxLen = 9223372036854775807 := rfl; omega)
        clear hs hkk
        go_wp2_with (first | (refine wpList_load_mid rfl 126 (.tmp 31) rfl g1 (j * 5) rfl (vrC v) _ ?_ Try.underlying126 rfl HSV.out ?_; (exact HRV.out)) | (refine wpList_store_row rfl 126 (.tmp 8) (.tmp 32) rfl wr.heap.size #[.string v.name, .int .i64 (v.kind : Int), .string v.on, .bool v.not_, .int .i64 (v.at_ : Int)] rfl rfl 126 _ HAL.out HSV.out rfl (vS_one _ _ _ _ _) ?_) | (refine wpList_kinds rfl (.tmp 44) (.tmp 46) (.tmp 48) rfl rfl v.name rfl (v.kind : Int) rfl HK1.out HMX.out HOV.out ?_))
        intro w6 hK6 hg6
        rw [HV.out, ← HDN.out] at hK6
        have HK2 := Lib.hid hK6
        have HF2 := Lib.hid (HF1.out.own hg6 (fun k hk => by
          injection hk with hk
          subst hk
          refine ⟨by omega, fun x hx => ?_⟩
          simp only [List.mem_cons, List.not_mem_nil, or_false] at hx
          rcases hx with rfl | rfl | rfl
          · show w.heap.size + 1 + 1 ≠ w.heap.size; omega
          · show w.heap.size + 1 + 1 ≠ w.heap.size + 1; omega
          · show w.heap.size + 1 + 1 ≠ w.heap.size + 1 + 1 + 1; omega))
        have HR2 := Lib.hid (IsD.grown hg6 (fun k hk => by injection hk with hk; subst hk; show ¬ (w.heap.size + 1 + 1 + 1 + 1 + 1 ≤ w.heap.size + 1 + 1); omega) HR1.out)
        clear hK6 hg6 c0 c1 cm hl
        go_wp2_with fail
        refine ⟨⟨j + 1, m + 1, wrap_succ (by have := HJL.out; have := HOL.out; omega), HJL.out, Nat.succ_le_succ HM.out, HF2.out, HK2.out, HR2.out⟩, ?_⟩
        rw [wrap_succ (by have := HJL.out; have := HOL.out; omega)]
        simp [intOf]; omega
    · have d1 : decide ((j : Int) < (D.length : Int)) = false := by simp; omega
      obtain rfl : j = D.length := by have := HJ.out; omega
      have HL2 := Lib.hid (HF.out.get 2 rfl)
      have HL0 := Lib.hid (HF.out.get 0 rfl)
      have hset := setRow_heap wr w.heap.size _ #[.slice (some ⟨g, 0, none⟩) i c, .map (some (w.heap.size + 1 + 1))] _ _ HL0.out
      have HST := Lib.hid hset
      have hgr : wr.grownBy (wr.setRow w.heap.size #[.slice (some ⟨g, 0, none⟩) i c, .map (some (w.heap.size + 1 + 1))]) (some w.heap.size) := ⟨rfl, rfl, rfl, by rw [setRow_size]; exact Nat.le_refl _, fun k _ hk => setRow_other wr w.heap.size k _ (fun e => hk (by rw [e]))⟩
      have HKZ := Lib.hid (MapO.kept HK.out hgr (fun e => by injection e with e; omega))
      have HBZ := Lib.hid (below_setRow HF.out.below (Nat.le_refl _) #[.slice (some ⟨g, 0, none⟩) i c, .map (some (w.heap.size + 1 + 1))])
      clear hjl hset hgr
      go_wp2_with (first | (refine wpList_load_row rfl 88 (.tmp 6) rfl (w.heap.size + 1 + 1 + 1) rfl 88 #[.slice (some ⟨g, 0, none⟩) i c, .map (some (w.heap.size + 1 + 1))] (0, 0) _ HL2.out Try.underlying88 rfl HSC.out ?_) | (refine wpList_store_row rfl 88 (.tmp 4) (.tmp 50) rfl w.heap.size #[.slice (some ⟨g, 0, none⟩) i c, .map (some (w.heap.size + 1 + 1))] rfl rfl 88 _ HL0.out HSC.out rfl (sc_one _ _ _ _) ?_))
      refine bodyPost_ret (v := .agg #[.slice (some ⟨g, 0, none⟩) i c, .map (some (w.heap.size + 1 + 1))]) (results_cell_row (p := 4) (ty := 88) rfl _ _ w.heap.size 88 _ (0, 0) _ rfl HST.out Try.underlying88 rfl HSC.out) rfl ?_
      have h := HKZ.out
      rw [List.take_length] at h
      exact ⟨_, m, rfl, h, HBZ.out⟩
end Go.Proofs.Ytejljfoacbpliaa

namespace Go.Proofs.Ytejljfoacbpliaa
open Go Go.RowKit
def typFrom (pre : List Nd) : List Nd → Option Nat
  | [] => none
  | n :: r => match nodeT pre (declK (declsOf n)) n with
    | some a => some a
    | none => typFrom (pre ++ [n]) r
def typF (l : List Nd) : Option Nat := typFrom [] l
theorem typFrom_skip {pre : List Nd} {n : Nd} {r : List Nd} (h : nodeT pre (declK (declsOf n)) n = none) : typFrom pre (n :: r) = typFrom (pre ++ [n]) r := by
  conv => lhs; unfold typFrom
  rw [h]
theorem typFrom_hit {pre : List Nd} {n : Nd} {r : List Nd} {a : Nat} (h : nodeT pre (declK (declsOf n)) n = some a) : typFrom pre (n :: r) = some a := by
  unfold typFrom
  rw [h]
def wSc (x : Option Addr) (i c : Nat) (G : List UInt8 → Option Int) (v : Value) (W : World) : Prop := ∃ mb m, v = .agg #[.slice x i c, .map (some mb)] ∧ Kinds W mb m G
theorem stable_sc (x : Option Addr) (i c : Nat) (G : List UInt8 → Option Int) : Stable (wSc x i c G) := fun _ _ _ ⟨mb, m, h1, h2⟩ hb => ⟨mb, m, h1, MapO.below h2 hb⟩
def wFl (B : Nat) (v : Value) (W : World) : Prop := ∃ b, v = .pointer (some ⟨b, 0, none⟩) ∧ B ≤ b ∧ W.heap[b]? = some (.cells #[.int .i64 0, .int .i64 0] 32 (0, 0))
theorem stable_fl (B : Nat) : Stable (wFl B) := fun _ _ _ ⟨b, h1, h2, h3⟩ hb => ⟨b, h1, h2, (hb.block b (Array.getElem?_eq_some_iff.1 h3).1).trans h3⟩
theorem alloc_flt {o : Oper} {ρ : Operand → Value} {W : World} (ho : o.op = .alloc 32) : (execOp ρ o).run Try.prog W = .ok (.value (.pointer (some ⟨W.heap.size, 0, none⟩))) (W.alloc (.cells #[.int .i64 0, .int .i64 0] 32)) := by
  unfold execOp
  rw [ho]
  kernel_rfl
theorem take_len {l : List Nd} {i : Nat} (h : i ≤ l.length) : (l.take i).length = i := by simp; omega
set_option maxHeartbeats 4000000 in
set_option maxRecDepth 100000 in
theorem typCheck_any (l : List Nd) (hall : ∀ (i : Nat) (h : i < l.length), okNd l[i] = true) (w : World) (ok : Nat → Prop) (x : Option Addr) (c : Nat) (hk : IsD ok w (.slice x l.length c) (.sl l.length (ndsD l))) : Calls Try.prog 14 #[.slice x l.length c] w (GivesO 9 (typF l) w) := by
  have HK := Lib.hid hk
  have HALL := Lib.hid hall
  have HSF := Lib.hid size_flt
  have HSN := Lib.hid size_nS
  have F0 := (Fx.start w).alloc w.heap.size rfl 32 #[.int .i64 0, .int .i64 0]
  have HF0 : Hid (Fx w [(w.heap.size, 32, #[.int .i64 0, .int .i64 0])] _) := Lib.hid F0
  obtain ⟨R, hR⟩ : ∃ R, R = typF l := ⟨_, rfl⟩
  rw [← hR]
  have HRR := Lib.hid hR
  clear hk hall F0 hR
  go_enter Try.func14, Try.ntmps14
  go_wp2_with fail
  go_loopw [8] (fun v8 wr => ∃ (i : Nat), v8 = .int .i64 (i : Int) ∧ i ≤ l.length ∧ Fx w [(w.heap.size, 32, #[.int .i64 0, .int .i64 0])] wr ∧ typF l = typFrom (l.take i) (l.drop i))
    (fun v8 _ => l.length - (intOf v8).toNat)
  case atStart => exact ⟨0, rfl, Nat.zero_le _, HF0.out, rfl⟩
  case round =>
    clear HF0
    obtain ⟨i, rfl, hi, hF, hq⟩ := hrel
    have HF := Lib.hid hF
    have HI := Lib.hid hi
    have HQ := Lib.hid hq
    clear hF hi hq
    by_cases hil : i < l.length
    · have d1 : decide ((i : Int) < (l.length : Int)) = true := by simp; omega
      have HIL := Lib.hid hil
      have hon := HALL.out i hil
      obtain ⟨g, rfl, hg, xi, ci, xo, co, xl, cl, xe, ce, hrg, t1, t2, t3, t4⟩ := nd_at HK.out i hil
      have hdrop := List.drop_eq_getElem_cons hil
      have ks := fun W (hb : Below w.heap.size w W) => scopeOf_any l i hil hon W ok (some ⟨g, 0, none⟩) c (IsD.below hb HK.out)
      unfold GivesS at ks
      obtain ⟨n, hn⟩ : ∃ n, n = l[i]'HIL.out := ⟨_, rfl⟩
      rw [← hn] at hrg t1 t2 t3 t4 hon ks hdrop
      have htake : l.take (i + 1) = l.take i ++ [n] := by rw [List.take_add_one, List.getElem?_eq_getElem hil, hn]; rfl
      obtain ⟨G, hG⟩ : ∃ G, G = declK (declsOf n) := ⟨_, rfl⟩
      rw [← hG] at ks
      have kn := fun W (hb : Below w.heap.size w W) mb m (hK : Kinds W mb m G) => typNode_any (l.take i) G n hon W ok ok (some ⟨g, 0, none⟩) c mb m xi xo xl xe ci co cl ce ((IsD.taken HK.out i HI.out).below hb) hK (NdIn.below hb ⟨t1, t2, t3, t4⟩)
      obtain ⟨P, hP⟩ : ∃ P, P = nodeT (l.take i) G n := ⟨_, rfl⟩
      rw [take_len HI.out, ← hP] at kn
      unfold ndV GivesO at kn
      obtain ⟨er, her⟩ : ∃ er, er = ferO 9 P := ⟨_, rfl⟩
      obtain ⟨ea, hea⟩ : ∃ ea, ea = fatO P := ⟨_, rfl⟩
      rw [← her, ← hea] at kn
      have HKS := Lib.hid ks
      have HKN := Lib.hid kn
      have HER := Lib.hid her
      have HEA := Lib.hid hea
      have HP := Lib.hid hP
      have HGG := Lib.hid hG
      have HDR := Lib.hid hdrop
      have HTK := Lib.hid htake
      have HRG := Lib.hid (rangeAt_below hrg HF.out.below hg)
      have hal := heap_alloc_new wr (.cells #[.string ⟨#[]⟩, .slice none 0 0, .slice none 0 0, .slice none 0 0, .slice none 0 0, .int .i64 0] 49)
      have HAL := Lib.hid hal
      obtain ⟨hnb, hnr⟩ := new_row wr 49 #[.string ⟨#[]⟩, .slice none 0 0, .slice none 0 0, .slice none 0 0, .slice none 0 0, .int .i64 0] #[.string n.name, .slice xi n.ins.length ci, .slice xo n.outs.length co, .slice xl n.locs.length cl, .slice xe n.eqs.length ce, .int .i64 (n.at_ : Int)]
      have HF1 := Lib.hid (HF.out.call hnb)
      have HN1 := Lib.hid hnr
      have hbs : wr.heap.size < ((wr.alloc (.cells #[.string ⟨#[]⟩, .slice none 0 0, .slice none 0 0, .slice none 0 0, .slice none 0 0, .int .i64 0] 49)).setRow wr.heap.size #[.string n.name, .slice xi n.ins.length ci, .slice xo n.outs.length co, .slice xl n.locs.length cl, .slice xe n.eqs.length ce, .int .i64 (n.at_ : Int)]).heap.size := by rw [setRow_size]; simp
      have HBS := Lib.hid hbs
      have i0 : (0 : Int) ≤ (i : Int) := by omega
      have i1 : (i : Int) < (l.length : Int) := by omega
      clear hil hon hg hrg t1 t2 t3 t4 hdrop htake ks kn hn hG hP her hea hal hnb hnr hbs
      go_wp2_with (first | (refine wpList_load_mid rfl 49 (.tmp 11) rfl g (i * 6) rfl (ndC n xi xo xl xe ci co cl ce) _ ?_ Try.underlying49 rfl HSN.out ?_; (exact HRG.out)) | (refine wpList_store_row rfl 49 (.tmp 4) (.tmp 12) rfl wr.heap.size #[.string n.name, .slice xi n.ins.length ci, .slice xo n.outs.length co, .slice xl n.locs.length cl, .slice xe n.eqs.length ce, .int .i64 (n.at_ : Int)] rfl rfl 49 _ HAL.out HSN.out rfl (n4_one _ _ _ _ _ _ _ _ _ _ _ _ _ _) ?_))
      obtain ⟨W0, hW0⟩ : ∃ W0, W0 = (wr.alloc (.cells #[.string ⟨#[]⟩, .slice none 0 0, .slice none 0 0, .slice none 0 0, .slice none 0 0, .int .i64 0] 49)).setRow wr.heap.size #[.string n.name, .slice xi n.ins.length ci, .slice xo n.outs.length co, .slice xl n.locs.length cl, .slice xe n.eqs.length ce, .int .i64 (n.at_ : Int)] := ⟨_, rfl⟩
      rw [← hW0] at HF1 HN1 HBS ⊢
      clear HAL hW0 HRG
      refine wp_region_steps_then (words [wIs (.slice (some ⟨g, 0, none⟩) l.length c), wIs (.int .i64 (i : Int)), wSc (some ⟨g, 0, none⟩) i c G, wIs (.agg #[.string n.name, .slice xi n.ins.length ci, .slice xo n.outs.length co, .slice xl n.locs.length cl, .slice xe n.eqs.length ce, .int .i64 (n.at_ : Int)]), wIs (.agg #[.int .i64 er, .int .i64 ea]), wFl W0.heap.size]) W0.heap.size W0 (by kernel_rfl) (Below.refl _ _) (Nat.le_refl _) (words_stable ?stab) rfl rfl rfl (by kernel_rfl) _ rfl ?steps ?last
      case stab =>
        intro f hf
        simp only [List.mem_cons, List.not_mem_nil, or_false] at hf
        rcases hf with rfl | rfl | rfl | rfl | rfl | rfl <;> first | exact stable_is _ | exact stable_sc _ _ _ _ | exact stable_fl _
      case steps =>
        refine Steps.cons (step_value rfl fun xa W hp => ⟨wanted_none rfl, _, _, run_move (.inl rfl), hp.old 0 rfl, Below.refl _ _⟩) ?_
        refine Steps.cons (step_value rfl fun xa W hp => ⟨wanted_none rfl, _, _, run_move (.inl rfl), hp.old 3 rfl, Below.refl _ _⟩) ?_
        refine Steps.cons (step_enter rfl fun xa W hp => ?_) ?_
        · have f0 : xa.tmps.getD 13 undef = .slice (some ⟨g, 0, none⟩) l.length c := (hp.on_ 0 rfl rfl rfl).2
          have f1 : xa.tmps.getD 14 undef = .int .i64 (i : Int) := (hp.on_ 1 rfl rfl rfl).2
          refine ⟨wanted_none rfl, 47, _, run_enter2 rfl rfl Try.call47, ?_⟩
          show Calls _ _ #[xa.tmps.getD 13 undef, xa.tmps.getD 14 undef] W _
          rw [f0, f1]
          refine (HKS.out W (HF1.out.call hp.below).below).mono (fun e' W' h => ?_)
          obtain ⟨mb, m, h1, h2, h3⟩ := h
          exact ⟨_, h1, ⟨mb, m, rfl, h2⟩, h3⟩
        refine Steps.cons (step_value rfl fun xa W hp => ?_) ?_
        · have f0 : xa.tmps.getD 4 undef = .pointer (some ⟨wr.heap.size, 0, none⟩) := hp.old 4 rfl
          exact ⟨wanted_none rfl, _, _, run_ldrow rfl f0 ((hp.below.block wr.heap.size HBS.out).trans HN1.out) Try.underlying49 rfl HSN.out, rfl, Below.refl _ _⟩
        refine Steps.cons (step_enter rfl fun xa W hp => ?_) ?_
        · obtain ⟨mb, m, f0, hK⟩ : wSc (some ⟨g, 0, none⟩) i c G (xa.tmps.getD 15 undef) W := (hp.on_ 2 rfl rfl rfl).2
          have f1 : xa.tmps.getD 16 undef = .agg #[.string n.name, .slice xi n.ins.length ci, .slice xo n.outs.length co, .slice xl n.locs.length cl, .slice xe n.eqs.length ce, .int .i64 (n.at_ : Int)] := (hp.on_ 3 rfl rfl rfl).2
          refine ⟨wanted_none rfl, 48, _, run_enter2 rfl rfl Try.call48, ?_⟩
          show Calls _ _ #[xa.tmps.getD 15 undef, xa.tmps.getD 16 undef] W _
          rw [f0, f1]
          refine (HKN.out W (HF1.out.call hp.below).below mb m hK).mono (fun e' W' h => ?_)
          exact ⟨_, h.1, rfl, h.2⟩
        refine Steps.cons (step_value rfl fun xa W hp => ⟨wanted_none rfl, _, _, alloc_flt rfl, ⟨W.heap.size, rfl, hp.below.size, heap_alloc_new W _⟩, (Below.refl _ _).alloc (Nat.le_refl _) _⟩) ?_
        exact Steps.nil
      case last =>
        intro act W hI
        have f17 : act.tmps.getD 17 undef = .agg #[.int .i64 er, .int .i64 ea] := hI.new 4 _ 17 rfl rfl rfl
        obtain ⟨b, f5, hbB, hbr⟩ : wFl W0.heap.size (act.tmps.getD 5 undef) W := hI.new 5 _ 5 rfl rfl rfl
        refine wpOp_of rfl (wanted_none rfl) ?_
        refine wp_store_row 32 (.tmp 5) (.tmp 17) rfl b #[.int .i64 er, .int .i64 ea] f5 f17 32 _ hbr HSF.out rfl (fault_one _ _) ?_
        have hset := setRow_heap W b _ #[.int .i64 er, .int .i64 ea] _ _ hbr
        have hbel := below_setRow hI.below hbB #[.int .i64 er, .int .i64 ea]
        obtain ⟨w1, hw1⟩ : ∃ w1, w1 = W.setRow b #[.int .i64 er, .int .i64 ea] := ⟨_, rfl⟩
        rw [← hw1] at hset hbel ⊢
        have HF2 := Lib.hid (HF1.out.call hbel)
        have c0 := cell_of_row w1 b 0 _ _ _ hset
        have HST := Lib.hid hset
        have HL2 := Lib.hid (HF2.out.get 0 rfl)
        clear hset hbel hw1 hbr hbB
        have h0 : act.tmps.getD 0 undef = .slice (some ⟨g, 0, none⟩) l.length c := hI.old 0 (by simp)
        have h2 : act.tmps.getD 2 undef = .pointer (some ⟨w.heap.size, 0, none⟩) := hI.old 2 (by simp)
        have h5 : act.tmps.getD 5 undef = .pointer (some ⟨b, 0, none⟩) := f5
        have h6 : act.tmps.getD 6 undef = .slice (some ⟨g, 0, none⟩) l.length c := hI.old 6 (by simp)
        have h7 : act.tmps.getD 7 undef = .int .i64 (l.length : Int) := hI.old 7 (by simp)
        have h8 : act.tmps.getD 8 undef = .int .i64 (i : Int) := hI.old 8 (by simp)
        have h1 : act.tmps.getD 1 undef = undef := hI.old 1 (by simp)
        have h23 : act.tmps.getD 23 undef = undef := hI.old 23 (by simp)
        have hsz_ : act.tmps.size = 24 := hI.tmps
        have hdf_ : act.defers = [] := hI.defers
        obtain ⟨fo, hf, hx⟩ := act_eta hsz_ hdf_
        rw [hf] at h0 h2 h5 h6 h7 h8 h1 h23
        clear hI hsz_ hdf_ hf f17 f5
        subst hx
        have hl : ((List.range 24).map fo).toArray = #[fo 0, fo 1, fo 2, fo 3, fo 4, fo 5, fo 6, fo 7, fo 8, fo 9, fo 10, fo 11, fo 12, fo 13, fo 14, fo 15, fo 16, fo 17, fo 18, fo 19, fo 20, fo 21, fo 22, fo 23] := rfl
        simp only [Exit.inBlock, Exit.then, Act.put]
        rw [hl, h0, h2, h5, h6, h7, h8, h1, h23]
        clear hl h0 h2 h5 h6 h7 h8 h1 h23
        cases hPc : P with
        | none =>
          have e0 : er = 0 := by rw [HER.out, hPc]; rfl
          have d3 : (er != 0) = false := by rw [e0]; rfl
          have HQN := Lib.hid (show typF l = typFrom (l.take (i + 1)) (l.drop (i + 1)) by rw [HQ.out, HDR.out, typFrom_skip (by rw [← HGG.out, ← HP.out]; exact hPc), HTK.out])
          clear e0 hPc
          go_wp2_with fail
          refine ⟨⟨i + 1, wrap_succ (by have := HIL.out; have := IsD.few HK.out; omega), HIL.out, HF2.out, HQN.out⟩, ?_⟩
          rw [wrap_succ (by have := HIL.out; have := IsD.few HK.out; omega)]
          simp [intOf]; omega
        | some a =>
          have e0 : er = 9 := by rw [HER.out, hPc]; rfl
          have e1 : ea = (a : Int) := by rw [HEA.out, hPc]; rfl
          have d3 : (er != 0) = true := by rw [e0]; rfl
          have HR : Hid (R = some a) := Lib.hid (by rw [HRR.out, HQ.out, HDR.out, typFrom_hit (by rw [← HGG.out, ← HP.out]; exact hPc)])
          have HE0 := Lib.hid e0
          have HE1 := Lib.hid e1
          clear e0 e1 hPc
          go_wp2_with (first | (refine wpList_load_row rfl 32 (.tmp 5) rfl b rfl 32 #[.int .i64 er, .int .i64 ea] (0, 0) _ HST.out Try.underlying32 rfl HSF.out ?_) | (refine wpList_store_row rfl 32 (.tmp 2) (.tmp 21) rfl w.heap.size #[.int .i64 er, .int .i64 ea] rfl rfl 32 _ HL2.out HSF.out rfl (fault_one _ _) ?_))
          refine bodyPost_ret (v := .agg #[.int .i64 er, .int .i64 ea]) (results_cell_row (p := 2) (ty := 32) rfl _ _ w.heap.size 32 _ (0, 0) _ rfl (setRow_heap _ w.heap.size _ _ _ _ HL2.out) Try.underlying32 rfl HSF.out) rfl ?_
          rw [HR.out, HE0.out, HE1.out]
          exact ⟨rfl, below_setRow HF2.out.below (Nat.le_refl _) _⟩
    · have d1 : decide ((i : Int) < (l.length : Int)) = false := by simp; omega
      obtain rfl : i = l.length := by have := HI.out; omega
      have HR : Hid (R = none) := Lib.hid (by rw [HRR.out, HQ.out, List.drop_length]; rfl)
      have HL2 := Lib.hid (HF.out.get 0 rfl)
      clear hil
      go_wp2_with (refine wpList_store_row rfl 32 (.tmp 2) (.tmp 23) rfl w.heap.size #[.int .i64 0, .int .i64 0] rfl rfl 32 _ HL2.out HSF.out rfl (fault_one _ _) ?_)
      refine bodyPost_ret (v := .agg #[.int .i64 0, .int .i64 0]) (results_cell_row (p := 2) (ty := 32) rfl _ _ w.heap.size 32 _ (0, 0) _ rfl (setRow_heap _ w.heap.size _ _ _ _ HL2.out) Try.underlying32 rfl HSF.out) rfl ?_
      rw [HR.out]
      exact ⟨rfl, below_setRow HF.out.below (Nat.le_refl _) _⟩
end Go.Proofs.Ytejljfoacbpliaa

namespace Go.Proofs.Ytejljfoacbpliaa
open Go Go.RowKit
set_option maxHeartbeats 4000000 in
set_option maxRecDepth 100000 in
theorem fault7_any (t : ByteArray) (w : World) (hs : t.size ≤ 140737488351232) (hall : ∀ (i : Nat) (h : i < (treeOf t).length), okNd (treeOf t)[i] = true) : Calls Try.prog 42 #[.string t] w (GivesO 9 (typF (treeOf t)) w) := by
  have HSB := Lib.hid size_bad
  have kp := fun (W : World) => parse_at t W hs
  have F0 := (Fx.start w).alloc w.heap.size rfl 30 #[.int .i64 0, .int .i64 0]
  obtain ⟨L, hL⟩ : ∃ L, L = treeOf t := ⟨_, rfl⟩
  obtain ⟨q1, hq1⟩ : ∃ q, q = perOf t := ⟨_, rfl⟩
  obtain ⟨q2, hq2⟩ : ∃ q, q = patOf t := ⟨_, rfl⟩
  rw [← hL] at hall ⊢
  rw [← hL, ← hq1, ← hq2] at kp
  have HF0 := Lib.hid F0
  have HALL := Lib.hid hall
  have kp1 := kp (w.alloc (.cells #[.int .i64 0, .int .i64 0] 30))
  clear hL hq1 hq2 hs hall F0 kp
  go_enter Try.func42, Try.ntmps42
  go_wp2_with fail
  (with_reducible refine kp1.mono ?_)
  rintro e9 w1 ⟨x, c, rfl, hI, hb⟩
  have F1 := (HF0.out.call hb).alloc w1.heap.size rfl 30 #[.int .i64 0, .int .i64 0]
  have F2 := F1.store 1 rfl #[.int .i64 (q1 : Int), .int .i64 (q2 : Int)]
  have HN1 := Lib.hid (F1.get 1 rfl)
  have hI2 := IsD.below (new_row w1 30 #[.int .i64 0, .int .i64 0] #[.int .i64 (q1 : Int), .int .i64 (q2 : Int)]).1 hI
  obtain ⟨W2, hW2⟩ : ∃ W2, W2 = ((w1.alloc (.cells #[.int .i64 0, .int .i64 0] 30)).setRow w1.heap.size #[.int .i64 (q1 : Int), .int .i64 (q2 : Int)]) := ⟨_, rfl⟩
  rw [← hW2] at F2 hI2
  have kb := Back_any L W2 (by have := F2.below.size; have := F2.lt_ 0 rfl; omega) _ x c hI2
  rw [hW2] at kb
  have HF2 := Lib.hid F2
  have HI2 := Lib.hid hI2
  have HW2 := Lib.hid hW2
  clear F1 F2 hI hI2 hb kp1 hW2
  go_wp2_with (refine wpList_store_row rfl 30 (.tmp 4) (.tmp 9) rfl w1.heap.size #[.int .i64 (q1 : Int), .int .i64 (q2 : Int)] rfl rfl 30 _ HN1.out HSB.out rfl (fault_one _ _) ?_)
  (with_reducible refine kb.mono ?_)
  rw [← HW2.out]
  rintro e9 w3 ⟨x3, c3, rfl, hI3, hb⟩
  have HF3 := Lib.hid (HF2.out.call hb)
  have kc : Calls Try.prog 14 #[.slice x3 L.length c3] w3 (GivesO 9 (typF L) w3) := typCheck_any L HALL.out w3 _ x3 c3 hI3
  unfold GivesO at kc
  obtain ⟨er, her⟩ : ∃ er, er = ferO 9 (typF L) := ⟨_, rfl⟩
  obtain ⟨ea, hea⟩ : ∃ ea, ea = fatO (typF L) := ⟨_, rfl⟩
  rw [← her, ← hea] at kc
  have HER := Lib.hid her
  have HEA := Lib.hid hea
  clear hb hI3 kb her hea
  go_wp2_with fail
  (with_reducible refine kc.mono ?_)
  rintro e9 w4 ⟨rfl, hb⟩
  have HF4 := Lib.hid (HF3.out.call hb)
  have kd := Bad_any er ea w4
  clear hb kc
  go_wp2_with fail
  (with_reducible refine kd.mono ?_)
  rintro e9 w5 ⟨rfl, hb⟩
  have HF5 := Lib.hid (HF4.out.call hb)
  have HL5 := Lib.hid (HF5.out.get 0 rfl)
  clear hb kd
  go_wp2_with (refine wpList_store_row rfl 30 (.tmp 2) (.tmp 13) rfl w.heap.size #[.int .i64 er, .int .i64 ea] rfl rfl 30 _ HL5.out HSB.out rfl (fault_one _ _) ?_)
  refine bodyPost_ret (v := .agg #[.int .i64 er, .int .i64 ea]) (results_cell_row (p := 2) (ty := 30) rfl _ _ w.heap.size 30 _ (0, 0) _ rfl (setRow_heap _ w.heap.size _ _ _ _ HL5.out) Try.underlying30 rfl HSB.out) rfl ?_
  exact ⟨by rw [HER.out, HEA.out], below_setRow HF5.out.below (Nat.le_refl _) _⟩
end Go.Proofs.Ytejljfoacbpliaa

namespace Go.Proofs.Ytejljfoacbpliaa
open Go Go.RowKit
theorem run_ext {P : Program} {W : World} {o : Oper} {ρ : Operand → Value} {x : Operand} {i : Nat} {vs : Array Value} {v : Value} (ho : o.op = .extract x i) (hx : ρ x = .tuple vs) (hv : vs[i]? = some v) : (execOp ρ o).run P W = .ok (.value v) W := by
  simp [execOp, ho, hx, hv, Instr.extract, Result.andThen]
set_option maxHeartbeats 4000000 in
set_option maxRecDepth 100000 in
theorem typOf_any (l : List Nd) (i : Nat) (hi : i < l.length) (hon : okNd l[i] = true) (e : Ex) (hoe : okE e = true) (w : World) (ok okk : Nat → Prop) (x : Option Addr) (c : Nat) (hk : IsD ok w (.slice x l.length c) (.sl l.length (ndsD l))) (xe : Option Addr) (ce : Nat) (hkk : KidsD okk w e xe ce) :
    Calls Try.prog 16 #[.slice x l.length c, .int .i64 (i : Int), exV e xe ce] w (fun en w' => en = .returned (.int .i64 (kdOf (kindF (l.take i) (declK (declsOf l[i])) e))) ∧ Below w.heap.size w w') := by
  obtain ⟨g, hgx⟩ : ∃ g, x = some ⟨g, 0, none⟩ := by obtain ⟨g, h, _⟩ := nd_at hk i hi; exact ⟨g, h⟩
  subst hgx
  have HSF := Lib.hid size_flt
  have HSE := Lib.hid size_eS
  have F0 := (Fx.start w).alloc w.heap.size rfl 43 #[.string e.op, .string e.name, .int .i64 e.n, .int .i64 (e.at_ : Int), .slice xe e.kids.length ce]
  have HN1 := Lib.hid (F0.get 0 rfl)
  have HBS := Lib.hid (F0.lt_ 0 rfl)
  have HF1 := Lib.hid F0
  have ks := fun W (hb : Below w.heap.size w W) => scopeOf_any l i hi hon W ok (some ⟨g, 0, none⟩) c (IsD.below hb hk)
  unfold GivesS at ks
  obtain ⟨G, hG⟩ : ∃ G, G = declK (declsOf l[i]) := ⟨_, rfl⟩
  rw [← hG] at ks ⊢
  have kn := fun W (hb : Below w.heap.size w W) mb m (hK : Kinds W mb m G) => kind_any (l.take i) G e hoe W ok okk (some ⟨g, 0, none⟩) c mb m xe ce ((IsD.taken hk i (Nat.le_of_lt hi)).below hb) hK (IsD.below hb hkk)
  rw [take_len (Nat.le_of_lt hi)] at kn
  unfold exV GivesK at kn
  obtain ⟨k, hkd⟩ : ∃ k, k = kdOf (kindF (l.take i) G e) := ⟨_, rfl⟩
  obtain ⟨er, her⟩ : ∃ er, er = ferOf 9 (kindF (l.take i) G e) := ⟨_, rfl⟩
  obtain ⟨ea, hea⟩ : ∃ ea, ea = fatOf (kindF (l.take i) G e) := ⟨_, rfl⟩
  rw [← hkd, ← her, ← hea] at kn
  rw [← hkd]
  have HKS := Lib.hid ks
  have HKN := Lib.hid kn
  have d1 : decide ((i : Int) < 0) = false := by simp
  have d2 : ¬ l.length ≤ i := by omega
  clear hk hkk hoe hon F0 ks kn hG hkd her hea hi
  unfold exV
  go_enter Try.func16, Try.ntmps16
  go_wp2_with fail
  obtain ⟨W0, hW0⟩ : ∃ W0, W0 = w.alloc (.cells #[.string e.op, .string e.name, .int .i64 e.n, .int .i64 (e.at_ : Int), .slice xe e.kids.length ce] 43) := ⟨_, rfl⟩
  rw [← hW0] at HF1 HN1 HBS ⊢
  clear hW0
  refine wp_region_steps_then (words [wIs (.slice (some ⟨g, 0, none⟩) l.length c), wIs (.int .i64 (i : Int)), wSc (some ⟨g, 0, none⟩) i c G, wIs (.agg #[.string e.op, .string e.name, .int .i64 e.n, .int .i64 (e.at_ : Int), .slice xe e.kids.length ce]), wIs (.tuple #[.int .i64 k, .agg #[.int .i64 er, .int .i64 ea]]), wIs (.tuple #[.int .i64 k, .agg #[.int .i64 er, .int .i64 ea]]), wIs (.int .i64 k), wIs (.agg #[.int .i64 er, .int .i64 ea]), wFl W0.heap.size, wIs (.int .i64 k)]) W0.heap.size W0 (by kernel_rfl) (Below.refl _ _) (Nat.le_refl _) (words_stable ?stab) rfl rfl rfl (by kernel_rfl) _ rfl ?steps ?last
  case stab =>
    intro f hf
    simp only [List.mem_cons, List.not_mem_nil, or_false] at hf
    rcases hf with rfl | rfl | rfl | rfl | rfl | rfl | rfl | rfl | rfl | rfl <;> first | exact stable_is _ | exact stable_sc _ _ _ _ | exact stable_fl _
  case steps =>
    refine Steps.cons (step_value rfl fun xa W hp => ⟨wanted_none rfl, _, _, run_move (.inl rfl), hp.old 0 rfl, Below.refl _ _⟩) ?_
    refine Steps.cons (step_value rfl fun xa W hp => ⟨wanted_none rfl, _, _, run_move (.inl rfl), hp.old 1 rfl, Below.refl _ _⟩) ?_
    refine Steps.cons (step_enter rfl fun xa W hp => ?_) ?_
    · have f0 : xa.tmps.getD 18 undef = .slice (some ⟨g, 0, none⟩) l.length c := (hp.on_ 0 rfl rfl rfl).2
      have f1 : xa.tmps.getD 19 undef = .int .i64 (i : Int) := (hp.on_ 1 rfl rfl rfl).2
      refine ⟨wanted_none rfl, 47, _, run_enter2 rfl rfl Try.call47, ?_⟩
      show Calls _ _ #[xa.tmps.getD 18 undef, xa.tmps.getD 19 undef] W _
      rw [f0, f1]
      refine (HKS.out W (HF1.out.call hp.below).below).mono (fun e' W' h => ?_)
      obtain ⟨mb, m, h1, h2, h3⟩ := h
      exact ⟨_, h1, ⟨mb, m, rfl, h2⟩, h3⟩
    refine Steps.cons (step_value rfl fun xa W hp => ?_) ?_
    · have f0 : xa.tmps.getD 5 undef = .pointer (some ⟨w.heap.size, 0, none⟩) := hp.old 5 rfl
      exact ⟨wanted_none rfl, _, _, run_ldrow rfl f0 ((hp.below.block w.heap.size HBS.out).trans HN1.out) Try.underlying43 rfl HSE.out, rfl, Below.refl _ _⟩
    refine Steps.cons (step_enter rfl fun xa W hp => ?_) ?_
    · obtain ⟨mb, m, f0, hK⟩ : wSc (some ⟨g, 0, none⟩) i c G (xa.tmps.getD 20 undef) W := (hp.on_ 2 rfl rfl rfl).2
      have f1 : xa.tmps.getD 21 undef = .agg #[.string e.op, .string e.name, .int .i64 e.n, .int .i64 (e.at_ : Int), .slice xe e.kids.length ce] := (hp.on_ 3 rfl rfl rfl).2
      refine ⟨wanted_none rfl, 52, _, run_enter2 rfl rfl Try.call52, ?_⟩
      show Calls _ _ #[xa.tmps.getD 20 undef, xa.tmps.getD 21 undef] W _
      rw [f0, f1]
      refine (HKN.out W (HF1.out.call hp.below).below mb m hK).mono (fun e' W' h => ?_)
      exact ⟨_, h.1, rfl, h.2⟩
    refine Steps.cons (step_value rfl fun xa W hp => ⟨wanted_none rfl, _, _, run_move (.inl rfl), (hp.on_ 4 rfl rfl rfl).2, Below.refl _ _⟩) ?_
    refine Steps.cons (step_value rfl fun xa W hp => ?_) ?_
    · have f0 : xa.tmps.getD 17 undef = .tuple #[.int .i64 k, .agg #[.int .i64 er, .int .i64 ea]] := (hp.on_ 5 rfl rfl rfl).2
      exact ⟨wanted_none rfl, _, _, run_ext rfl f0 rfl, rfl, Below.refl _ _⟩
    refine Steps.cons (step_value rfl fun xa W hp => ?_) ?_
    · have f0 : xa.tmps.getD 17 undef = .tuple #[.int .i64 k, .agg #[.int .i64 er, .int .i64 ea]] := (hp.on_ 5 rfl rfl rfl).2
      exact ⟨wanted_none rfl, _, _, run_ext rfl f0 rfl, rfl, Below.refl _ _⟩
    refine Steps.cons (step_value rfl fun xa W hp => ⟨wanted_none rfl, _, _, alloc_flt rfl, ⟨W.heap.size, rfl, hp.below.size, heap_alloc_new W _⟩, (Below.refl _ _).alloc (Nat.le_refl _) _⟩) ?_
    refine Steps.cons (step_value rfl fun xa W hp => ⟨wanted_none rfl, _, _, run_move (.inr rfl), (hp.on_ 6 rfl rfl rfl).2, Below.refl _ _⟩) ?_
    exact Steps.nil
  case last =>
    intro act W hI
    have f24 : act.tmps.getD 24 undef = .agg #[.int .i64 er, .int .i64 ea] := hI.new 7 _ 24 rfl rfl rfl
    have f7 : act.tmps.getD 7 undef = .int .i64 k := hI.new 9 _ 7 rfl rfl rfl
    obtain ⟨b, f8, hbB, hbr⟩ : wFl W0.heap.size (act.tmps.getD 8 undef) W := hI.new 8 _ 8 rfl rfl rfl
    refine wpOp_of rfl (wanted_none rfl) ?_
    refine wp_store_row 32 (.tmp 8) (.tmp 24) rfl b #[.int .i64 er, .int .i64 ea] f8 f24 32 _ hbr HSF.out rfl (fault_one _ _) ?_
    have hbel := below_setRow hI.below hbB #[.int .i64 er, .int .i64 ea]
    obtain ⟨w1, hw1⟩ : ∃ w1, w1 = W.setRow b #[.int .i64 er, .int .i64 ea] := ⟨_, rfl⟩
    rw [← hw1] at hbel ⊢
    have HF2 := Lib.hid (HF1.out.call hbel)
    clear hbel hw1 hbr hbB
    have h7 : act.tmps.getD 7 undef = .int .i64 k := f7
    have hsz_ : act.tmps.size = 26 := hI.tmps
    have hdf_ : act.defers = [] := hI.defers
    obtain ⟨fo, hf, hx⟩ := act_eta hsz_ hdf_
    rw [hf] at h7
    clear hI hsz_ hdf_ hf f24 f8 f7
    subst hx
    have hl : ((List.range 26).map fo).toArray = #[fo 0, fo 1, fo 2, fo 3, fo 4, fo 5, fo 6, fo 7, fo 8, fo 9, fo 10, fo 11, fo 12, fo 13, fo 14, fo 15, fo 16, fo 17, fo 18, fo 19, fo 20, fo 21, fo 22, fo 23, fo 24, fo 25] := rfl
    simp only [Exit.inBlock, Exit.then, Act.put]
    rw [hl, h7]
    clear hl h7
    go_wp2_with fail
    go_ret
    exact ⟨rfl, HF2.out.below⟩
end Go.Proofs.Ytejljfoacbpliaa
