/-
  Texts that the statements stand on, part 5.
-/
import Derived.Test.YtfajafjikpmgpaaMd
set_option linter.unusedVariables false
set_option linter.unusedSimpArgs false
namespace Go.Proofs.Ytfajafjikpmgpaa
open Go Go.RowKit
set_option maxHeartbeats 4000000 in
set_option maxRecDepth 100000 in
theorem clkOf_any (n : Nd) (hon : okNd n = true) (w : World) (ok : Nat → Prop) (xi xo xl xe : Option Addr) (ci co cl ce : Nat) (hkn : NdIn ok w n xi xo xl xe ci co cl ce) (name : ByteArray) (hs : name.size ≤ maxLen) (ch : List Stp) (hch : Chn (scopeC n) (stOf (scopeC n) name) ch) (hlen : ch.length ≤ 10000000) (hnm : ∀ s ∈ ch, s.name.size ≤ maxLen) : Calls Try.prog 28 #[ndV n xi xo xl xe ci co cl ce, .string name] w (GivesRw ch.reverse w) := by
  have HSN := Lib.hid size_nS
  have F0 := (Fx.start w).alloc w.heap.size rfl 49 #[.string n.name, .slice xi n.ins.length ci, .slice xo n.outs.length co, .slice xl n.locs.length cl, .slice xe n.eqs.length ce, .int .i64 (n.at_ : Int)]
  have ks := clkScopeOf_any n hon _ ok xi xo xl xe ci co cl ce (NdIn.below F0.below hkn)
  unfold ndV GivesSc at ks
  have HL0 := Lib.hid (F0.get 0 rfl)
  have HF0 := Lib.hid F0
  have HCH := Lib.hid hch
  have HLEN := Lib.hid hlen
  have HNM := Lib.hid hnm
  have HSZ := Lib.hid hs
  obtain ⟨L, hL⟩ : ∃ L, L = ch.reverse := ⟨_, rfl⟩
  rw [← hL]
  have HLL := Lib.hid hL
  clear hch hlen hnm hs F0 hkn hL
  unfold ndV
  go_enter Try.func28, Try.ntmps28
  go_wp2_with (refine wpList_load_row rfl 49 (.tmp 2) rfl w.heap.size rfl 49 #[.string n.name, .slice xi n.ins.length ci, .slice xo n.outs.length co, .slice xl n.locs.length cl, .slice xe n.eqs.length ce, .int .i64 (n.at_ : Int)] (0, 0) _ ?_ Try.underlying49 rfl HSN.out ?_; (exact HL0.out))
  (with_reducible refine ks.mono ?_)
  rintro e9 w1 ⟨b, m, rfl, hS, _, _, hb⟩
  have HB1 := Lib.hid (HF0.out.call hb).below
  have hl := Scp.look hS name HSZ.out
  have kr := row_any (scopeC n) (stOf (scopeC n) name) ch HCH.out HLEN.out HNM.out w1 b m hS
  rw [← HLL.out] at kr
  obtain ⟨own, how⟩ : ∃ own, own = stOf (scopeC n) name := ⟨_, rfl⟩
  rw [← how] at hl kr
  unfold GivesRw at kr
  clear hb hS ks how
  go_wp2_with fail
  (with_reducible refine kr.mono ?_)
  rintro e9 w2 ⟨x, c, rfl, hI, hb⟩
  have HB2 := Lib.hid (HB1.out.trans (hb.mono HB1.out.size))
  have HI2 := Lib.hid (hI.mono (ok' := (w.heap.size ≤ ·)) (fun k hk _ => Nat.le_trans HB1.out.size hk))
  clear hb hI kr hl
  go_wp2_with fail
  go_ret
  exact ⟨x, c, rfl, HI2.out, HB2.out⟩
def GivesCe (l : List Stp) (any ok : Bool) (w : World) (e : Ending) (w' : World) : Prop := ∃ x c, e = .returned (.tuple #[.slice x l.length c, .bool any, .bool ok]) ∧ IsD (w.heap.size ≤ ·) w' (.slice x l.length c) (.sl l.length (stsD l)) ∧ Below w.heap.size w w'
def wRw (B : Nat) (l : List Stp) (v : Value) (W : World) : Prop := ∃ x c, v = .slice x l.length c ∧ IsD (B ≤ ·) W (.slice x l.length c) (.sl l.length (stsD l))
theorem stable_rw (B : Nat) (l : List Stp) : Stable (wRw B l) := fun _ _ _ ⟨x, c, h1, h2⟩ hb => ⟨x, c, h1, IsD.below hb h2⟩
set_option maxHeartbeats 4000000 in
set_option maxRecDepth 100000 in
theorem clkExpr_ok (n : Nd) (hon : okNd n = true) (w : World) (ok : Nat → Prop) (xi xo xl xe : Option Addr) (ci co cl ce : Nat) (hkn : NdIn ok w n xi xo xl xe ci co cl ce) (e : Ex) (hoe : okE e = true) (okk : Nat → Prop) (x : Option Addr) (c : Nat) (hkk : KidsD okk w e x c) (k : Clc) (hr : clockC (scopeC n) e = .ok k) (ch : List Stp) (hch : Chn (scopeC n) k.last ch) (hlen : ch.length ≤ 10000000) (hnm : ∀ s ∈ ch, s.name.size ≤ maxLen) : Calls Try.prog 30 #[ndV n xi xo xl xe ci co cl ce, exV e x c] w (GivesCe ch.reverse k.any true w) := by
  have HSN := Lib.hid size_nS
  have HSE := Lib.hid size_eS
  have HSC := Lib.hid size_cl
  have HSF := Lib.hid size_flt
  have F0 := ((Fx.start w).alloc w.heap.size rfl 49 #[.string n.name, .slice xi n.ins.length ci, .slice xo n.outs.length co, .slice xl n.locs.length cl, .slice xe n.eqs.length ce, .int .i64 (n.at_ : Int)]).alloc (w.heap.size + 1) (by simp) 43 #[.string e.op, .string e.name, .int .i64 e.n, .int .i64 (e.at_ : Int), .slice x e.kids.length c]
  have ks := clkScopeOf_any n hon _ ok xi xo xl xe ci co cl ce (NdIn.below F0.below hkn)
  unfold ndV GivesSc at ks
  have HL0 := Lib.hid (F0.get 0 rfl)
  have HF0 := Lib.hid F0
  have HKK := Lib.hid hkk
  have HST := Lib.hid size_st
  have HR := Lib.hid hr
  have HCH := Lib.hid hch
  have HLEN := Lib.hid hlen
  have HNM := Lib.hid hnm
  obtain ⟨L, hL⟩ : ∃ L, L = ch.reverse := ⟨_, rfl⟩
  rw [← hL]
  have HLL := Lib.hid hL
  clear F0 hkn hkk hr hch hlen hnm hL
  unfold ndV exV
  go_enter Try.func30, Try.ntmps30
  go_wp2_with (refine wpList_load_row rfl 49 (.tmp 2) rfl w.heap.size rfl 49 #[.string n.name, .slice xi n.ins.length ci, .slice xo n.outs.length co, .slice xl n.locs.length cl, .slice xe n.eqs.length ce, .int .i64 (n.at_ : Int)] (0, 0) _ ?_ Try.underlying49 rfl HSN.out ?_; (exact HL0.out))
  (with_reducible refine ks.mono ?_)
  rintro e9 w1 ⟨b, m, rfl, hS, _, _, hb⟩
  have F1 := HF0.out.call hb
  have HL1 := Lib.hid (F1.get 1 rfl)
  have kk := expr_lt (scopeC n) _ e (Nat.lt_succ_self _) hoe w1 b m okk x c hS (IsD.below F1.below HKK.out)
  rw [show clockC (scopeC n) e = .ok k from HR.out] at kk
  unfold GivesCx exV at kk
  have z1 : clcA (ckOf (.ok k)) = #[.string k.last.name, .bool k.last.not_, .bool k.any] := rfl
  have z2 : ferC (.ok k) = 0 := rfl
  have z3 : fatC (.ok k) = 0 := rfl
  rw [z1, z2, z3] at kk
  have HF1 := Lib.hid F1
  have HS := Lib.hid hS
  clear hb hS ks z1 z2 z3 F1
  go_wp2_with (refine wpList_load_row rfl 43 (.tmp 3) rfl (w.heap.size + 1) rfl 43 #[.string e.op, .string e.name, .int .i64 e.n, .int .i64 (e.at_ : Int), .slice x e.kids.length c] (0, 0) _ ?_ Try.underlying43 rfl HSE.out ?_; (exact HL1.out))
  (with_reducible refine kk.mono ?_)
  rintro e9 w2 ⟨rfl, hb⟩
  have HS2 := Lib.hid (Scp.below HS.out hb)
  have P1 := ((HF1.out.call hb).alloc w2.heap.size rfl 114 #[.string ⟨#[]⟩, .bool false, .bool false]).alloc (w2.heap.size + 1) (by simp) 32 #[.int .i64 0, .int .i64 0]
  have P2 := P1.store 2 rfl #[.string k.last.name, .bool k.last.not_, .bool k.any]
  have P3 := P2.store 3 rfl #[.int .i64 0, .int .i64 0]
  have HA1 := Lib.hid (P1.get 2 rfl)
  have HA2 := Lib.hid (P2.get 3 rfl)
  have q0 := cell_of_row _ (w2.heap.size + 1) 0 _ _ _ (P3.get 3 rfl)
  have hb3 := (((Below.refl w2.heap.size w2).alloc (Nat.le_refl _) (.cells #[.string ⟨#[]⟩, .bool false, .bool false] 114)).alloc (by simp) (.cells #[.int .i64 0, .int .i64 0] 32))
  have hb4 := below_setRow (below_setRow hb3 (Nat.le_refl _) #[.string k.last.name, .bool k.last.not_, .bool k.any]) (Nat.le_succ _) #[.int .i64 0, .int .i64 0]
  have HS3 := Lib.hid (Scp.below HS2.out hb4)
  have HF3 := Lib.hid P3
  clear P1 P2 P3 hb kk hb3 hb4
  go_upto_region 5 with (first | (refine wpList_store_row rfl 114 (.tmp 8) (.tmp 16) rfl w2.heap.size #[.string k.last.name, .bool k.last.not_, .bool k.any] rfl rfl 114 #[.string ⟨#[]⟩, .bool false, .bool false] ?_ HSC.out rfl (cl_one _ _ _) ?_; (exact HA1.out)) | (refine wpList_store_row rfl 32 (.tmp 9) (.tmp 17) rfl (w2.heap.size + 1) #[.int .i64 0, .int .i64 0] rfl rfl 32 #[.int .i64 0, .int .i64 0] ?_ HSF.out rfl (fault_one _ _) ?_; (exact HA2.out)))
  obtain ⟨W0, hW0⟩ : ∃ W0, W0 = ((((w2.alloc (.cells #[.string ⟨#[]⟩, .bool false, .bool false] 114)).alloc (.cells #[.int .i64 0, .int .i64 0] 32)).setRow w2.heap.size #[.string k.last.name, .bool k.last.not_, .bool k.any]).setRow (w2.heap.size + 1) #[.int .i64 0, .int .i64 0]) := ⟨_, rfl⟩
  rw [← hW0] at HF3 HS3 ⊢
  have HC0 : Hid (∀ W, Below W0.heap.size W0 W → W.rangeAt w2.heap.size 0 [.string k.last.name, .bool k.last.not_, .bool k.any]) := Lib.hid (fun W hb j v hj => by
    rw [Nat.zero_add, cell_of_row W w2.heap.size j _ _ _ ((HF3.out.call hb).get 2 rfl)]
    rw [← hj]; simp)
  have KR : Hid (∀ W, Below W0.heap.size W0 W → _) := Lib.hid (fun W (hb : Below W0.heap.size W0 W) => row_any (scopeC n) k.last ch HCH.out HLEN.out HNM.out W b m (Scp.below HS3.out hb))
  have HBS := Lib.hid HF3.out.below.size
  rw [← HLL.out] at KR
  clear hW0 q0
  refine wp_region_steps (words [wIs (.map (some b)), wIs (.pointer (some ⟨w2.heap.size, 0, none⟩)), wIs (.agg #[.string k.last.name, .bool k.last.not_]), wRw w.heap.size L, wIs (.pointer (some ⟨w2.heap.size, 2, none⟩)), wIs (.bool k.any), wRw w.heap.size L, wIs (.bool k.any), wIs (.bool true)]) W0.heap.size W0 (by kernel_rfl) (Below.refl _ _) (Nat.le_refl _) (words_stable ?stab) rfl rfl rfl ?steps ?rest
  case stab =>
    intro f hf
    simp only [List.mem_cons, List.not_mem_nil, or_false] at hf
    rcases hf with rfl | rfl | rfl | rfl | rfl | rfl | rfl | rfl | rfl <;> first | exact stable_is _ | exact stable_rw _ _
  case steps =>
    refine Steps.cons (step_value rfl fun xa W hp => ⟨wanted_none rfl, _, _, run_move (.inl rfl), hp.old 7 rfl, Below.refl _ _⟩) ?_
    refine Steps.cons (step_value rfl fun xa W hp => ?_) ?_
    · have f0 : xa.tmps.getD 8 undef = .pointer (some ⟨w2.heap.size, 0, none⟩) := hp.old 8 rfl
      have f1 : (Instr.fieldAt 114 (.pointer (some ⟨w2.heap.size, 0, none⟩)) 0).run Try.prog W = .ok (.pointer (some ⟨w2.heap.size, 0, none⟩)) W := by kernel_rfl
      exact ⟨wanted_none rfl, _, _, run_fa4 rfl f0 f1, rfl, Below.refl _ _⟩
    refine Steps.cons (step_value rfl fun xa W hp => ?_) ?_
    · have f0 : xa.tmps.getD 22 undef = .pointer (some ⟨w2.heap.size, 0, none⟩) := (hp.on_ 1 rfl rfl rfl).2
      have hr : W.rangeAt w2.heap.size 0 [.string k.last.name, .bool k.last.not_] := fun j v hj => by
        have hlt : j < 2 := by have := (List.getElem?_eq_some_iff.1 hj).1; simpa using this
        rcases j with _ | _ | j
        · exact (HC0.out W hp.below) 0 v hj
        · exact (HC0.out W hp.below) 1 v hj
        · omega
      exact ⟨wanted_none rfl, _, _, run_ldmidG rfl f0 hr rfl Try.underlying75 HST.out, rfl, Below.refl _ _⟩
    refine Steps.cons (step_enter rfl fun xa W hp => ?_) ?_
    · have f0 : xa.tmps.getD 21 undef = .map (some b) := (hp.on_ 0 rfl rfl rfl).2
      have f1 : xa.tmps.getD 23 undef = .agg #[.string k.last.name, .bool k.last.not_] := (hp.on_ 2 rfl rfl rfl).2
      refine ⟨wanted_none rfl, 59, _, run_enter2 rfl rfl Try.call59, ?_⟩
      show Calls _ _ #[xa.tmps.getD 21 undef, xa.tmps.getD 23 undef] W _
      rw [f0, f1]
      refine (KR.out W hp.below).mono (fun e' W' h => ?_)
      obtain ⟨x9, c9, h1, h2, h3⟩ := h
      exact ⟨_, h1, ⟨x9, c9, rfl, h2.mono (ok' := (w.heap.size ≤ ·)) (fun j hj _ => by have := HBS.out; have := hp.below.size; omega)⟩, h3⟩
    refine Steps.cons (step_value rfl fun xa W hp => ?_) ?_
    · have f0 : xa.tmps.getD 8 undef = .pointer (some ⟨w2.heap.size, 0, none⟩) := hp.old 8 rfl
      have f1 : (Instr.fieldAt 114 (.pointer (some ⟨w2.heap.size, 0, none⟩)) 1).run Try.prog W = .ok (.pointer (some ⟨w2.heap.size, 2, none⟩)) W := by kernel_rfl
      exact ⟨wanted_none rfl, _, _, run_fa4 rfl f0 f1, rfl, Below.refl _ _⟩
    refine Steps.cons (step_value rfl fun xa W hp => ?_) ?_
    · have f0 : xa.tmps.getD 25 undef = .pointer (some ⟨w2.heap.size, 2, none⟩) := (hp.on_ 4 rfl rfl rfl).2
      exact ⟨wanted_none rfl, _, _, run_ldv rfl f0 ((HC0.out W hp.below) 2 _ rfl) Try.underlying4 rfl (by kernel_rfl), rfl, Below.refl _ _⟩
    refine Steps.cons (step_value rfl fun xa W hp => ⟨wanted_none rfl, _, _, run_move (.inr rfl), (hp.on_ 3 rfl rfl rfl).2, Below.refl _ _⟩) ?_
    refine Steps.cons (step_value rfl fun xa W hp => ⟨wanted_none rfl, _, _, run_move (.inr rfl), (hp.on_ 5 rfl rfl rfl).2, Below.refl _ _⟩) ?_
    refine Steps.cons (step_value rfl fun xa W hp => ⟨wanted_none rfl, _, _, run_move (.inr rfl), rfl, Below.refl _ _⟩) ?_
    exact Steps.nil
  case rest =>
    intro act W hI
    have HBE := Lib.hid (HF3.out.call hI.below).below
    obtain ⟨x9, c9, h4, t9⟩ : wRw w.heap.size L (act.tmps.getD 4 undef) W := hI.new 6 _ 4 rfl rfl rfl
    have h5 : act.tmps.getD 5 undef = .bool k.any := hI.new 7 _ 5 rfl rfl rfl
    have h6 : act.tmps.getD 6 undef = .bool true := hI.new 8 _ 6 rfl rfl rfl
    have hsz_ : act.tmps.size = 27 := hI.tmps
    have hdf_ : act.defers = [] := hI.defers
    obtain ⟨fo, hf, hx⟩ := act_eta hsz_ hdf_
    rw [hf] at h4 h5 h6
    have HT9 := Lib.hid t9
    clear hI hsz_ hdf_ hf t9
    subst hx
    have hl : ((List.range 27).map fo).toArray = #[fo 0, fo 1, fo 2, fo 3, fo 4, fo 5, fo 6, fo 7, fo 8, fo 9, fo 10, fo 11, fo 12, fo 13, fo 14, fo 15, fo 16, fo 17, fo 18, fo 19, fo 20, fo 21, fo 22, fo 23, fo 24, fo 25, fo 26] := rfl
    simp only [Exit.inBlock, Exit.then, Act.put]
    rw [hl, h4, h5, h6]
    clear hl h4 h5 h6
    go_wp2_with fail
    go_ret3
    exact ⟨x9, c9, rfl, HT9.out, HBE.out⟩
end Go.Proofs.Ytfajafjikpmgpaa

namespace Go.Proofs.Ytfajafjikpmgpaa
open Go Go.RowKit
def sC8 : Stp := ⟨⟨#[99]⟩, true⟩
def aw8N : Nd := (treeL [110, 111, 100, 101, 32, 102, 40, 99, 58, 32, 98, 111, 111, 108, 59, 32, 120, 58, 32, 105, 110, 116, 41, 32, 114, 101, 116, 117, 114, 110, 115, 32, 40, 121, 58, 32, 105, 110, 116, 41, 59, 32, 118, 97, 114, 32, 116, 58, 32, 105, 110, 116, 32, 119, 104, 101, 110, 32, 110, 111, 116, 32, 99, 59, 32, 108, 101, 116, 32, 116, 32, 61, 32, 120, 32, 119, 104, 101, 110, 32, 110, 111, 116, 32, 99, 59, 32, 121, 32, 61, 32, 109, 101, 114, 103, 101, 32, 99, 32, 48, 32, 40, 116, 41, 59, 32, 116, 101, 108]).getD 0 (⟨⟨#[]⟩, [], [], [], [], 0⟩ : Nd)
def aw8Q : Qe := aw8N.eqs.getD 0 (⟨⟨#[]⟩, exZ, 0⟩ : Qe)
def aw8R : Qe := aw8N.eqs.getD 1 (⟨⟨#[]⟩, exZ, 0⟩ : Qe)
theorem aw8_tree : treeL [110, 111, 100, 101, 32, 102, 40, 99, 58, 32, 98, 111, 111, 108, 59, 32, 120, 58, 32, 105, 110, 116, 41, 32, 114, 101, 116, 117, 114, 110, 115, 32, 40, 121, 58, 32, 105, 110, 116, 41, 59, 32, 118, 97, 114, 32, 116, 58, 32, 105, 110, 116, 32, 119, 104, 101, 110, 32, 110, 111, 116, 32, 99, 59, 32, 108, 101, 116, 32, 116, 32, 61, 32, 120, 32, 119, 104, 101, 110, 32, 110, 111, 116, 32, 99, 59, 32, 121, 32, 61, 32, 109, 101, 114, 103, 101, 32, 99, 32, 48, 32, 40, 116, 41, 59, 32, 116, 101, 108] = [aw8N] := by kernel_rfl
theorem aw8_eqs : aw8N.eqs = [aw8Q, aw8R] := by kernel_rfl
theorem aw8_ok : okNd aw8N = true := by kernel_rfl
theorem aw8_okE : okE aw8Q.e = true := by kernel_rfl
theorem aw8_clk : clkF [aw8N] = none := by kernel_rfl
theorem aw8_t : stOf (scopeC aw8N) ⟨#[116]⟩ = sC8 := by kernel_rfl
theorem aw8_x : (stOf (scopeC aw8N) ⟨#[120]⟩).name.data.toList = [] := by kernel_rfl
theorem aw8_c : (stOf (scopeC aw8N) ⟨#[99]⟩).name.data.toList = [] := by kernel_rfl
theorem aw8_e : clockC (scopeC aw8N) aw8Q.e = .ok ⟨sC8, false⟩ := by kernel_rfl
theorem aw8_bad : clkF (treeL [110, 111, 100, 101, 32, 102, 40, 99, 58, 32, 98, 111, 111, 108, 59, 32, 120, 58, 32, 105, 110, 116, 41, 32, 114, 101, 116, 117, 114, 110, 115, 32, 40, 121, 58, 32, 105, 110, 116, 41, 59, 32, 108, 101, 116, 32, 121, 32, 61, 32, 120, 32, 43, 32, 40, 120, 32, 119, 104, 101, 110, 32, 99, 41, 59, 32, 116, 101, 108]) = some 52 := by kernel_rfl
theorem aw8_okB : (treeL [110, 111, 100, 101, 32, 102, 40, 99, 58, 32, 98, 111, 111, 108, 59, 32, 120, 58, 32, 105, 110, 116, 41, 32, 114, 101, 116, 117, 114, 110, 115, 32, 40, 121, 58, 32, 105, 110, 116, 41, 59, 32, 108, 101, 116, 32, 121, 32, 61, 32, 120, 32, 43, 32, 40, 120, 32, 119, 104, 101, 110, 32, 99, 41, 59, 32, 116, 101, 108]).all okNd = true := by kernel_rfl
theorem okNd_all8 {l : List Nd} (h : l.all okNd = true) : ∀ (i : Nat) (hi : i < l.length), okNd l[i] = true := fun i hi => List.all_eq_true.1 h _ (List.getElem_mem hi)
theorem aw8_facts : ∃ (nd : Nd) (q r : Qe), treeOf (⟨#[110, 111, 100, 101, 32, 102, 40, 99, 58, 32, 98, 111, 111, 108, 59, 32, 120, 58, 32, 105, 110, 116, 41, 32, 114, 101, 116, 117, 114, 110, 115, 32, 40, 121, 58, 32, 105, 110, 116, 41, 59, 32, 118, 97, 114, 32, 116, 58, 32, 105, 110, 116, 32, 119, 104, 101, 110, 32, 110, 111, 116, 32, 99, 59, 32, 108, 101, 116, 32, 116, 32, 61, 32, 120, 32, 119, 104, 101, 110, 32, 110, 111, 116, 32, 99, 59, 32, 121, 32, 61, 32, 109, 101, 114, 103, 101, 32, 99, 32, 48, 32, 40, 116, 41, 59, 32, 116, 101, 108]⟩ : ByteArray) = [nd] ∧ nd.eqs = [q, r] ∧ okNd nd = true ∧ okE q.e = true ∧ clkF [nd] = none ∧ Chn (scopeC nd) (stOf (scopeC nd) ⟨#[116]⟩) [sC8] ∧ Chn (scopeC nd) (stOf (scopeC nd) ⟨#[120]⟩) [] ∧ clockC (scopeC nd) q.e = .ok ⟨sC8, false⟩ ∧ Chn (scopeC nd) sC8 [sC8] := by
  have hc : Chn (scopeC aw8N) sC8 [sC8] := .cons sC8 (by decide) [] (.nil _ aw8_c)
  exact ⟨aw8N, aw8Q, aw8R, by rw [treeOf_list]; exact aw8_tree, aw8_eqs, aw8_ok, aw8_okE, aw8_clk, by rw [aw8_t]; exact hc, .nil _ aw8_x, aw8_e, hc⟩
theorem aw8_factB : clkF (treeOf (⟨#[110, 111, 100, 101, 32, 102, 40, 99, 58, 32, 98, 111, 111, 108, 59, 32, 120, 58, 32, 105, 110, 116, 41, 32, 114, 101, 116, 117, 114, 110, 115, 32, 40, 121, 58, 32, 105, 110, 116, 41, 59, 32, 108, 101, 116, 32, 121, 32, 61, 32, 120, 32, 43, 32, 40, 120, 32, 119, 104, 101, 110, 32, 99, 41, 59, 32, 116, 101, 108]⟩ : ByteArray)) = some 52 ∧ ∀ (i : Nat) (h : i < (treeOf (⟨#[110, 111, 100, 101, 32, 102, 40, 99, 58, 32, 98, 111, 111, 108, 59, 32, 120, 58, 32, 105, 110, 116, 41, 32, 114, 101, 116, 117, 114, 110, 115, 32, 40, 121, 58, 32, 105, 110, 116, 41, 59, 32, 108, 101, 116, 32, 121, 32, 61, 32, 120, 32, 43, 32, 40, 120, 32, 119, 104, 101, 110, 32, 99, 41, 59, 32, 116, 101, 108]⟩ : ByteArray)).length), okNd (treeOf (⟨#[110, 111, 100, 101, 32, 102, 40, 99, 58, 32, 98, 111, 111, 108, 59, 32, 120, 58, 32, 105, 110, 116, 41, 32, 114, 101, 116, 117, 114, 110, 115, 32, 40, 121, 58, 32, 105, 110, 116, 41, 59, 32, 108, 101, 116, 32, 121, 32, 61, 32, 120, 32, 43, 32, 40, 120, 32, 119, 104, 101, 110, 32, 99, 41, 59, 32, 116, 101, 108]⟩ : ByteArray))[i] = true := by
  have e : treeOf (⟨#[110, 111, 100, 101, 32, 102, 40, 99, 58, 32, 98, 111, 111, 108, 59, 32, 120, 58, 32, 105, 110, 116, 41, 32, 114, 101, 116, 117, 114, 110, 115, 32, 40, 121, 58, 32, 105, 110, 116, 41, 59, 32, 108, 101, 116, 32, 121, 32, 61, 32, 120, 32, 43, 32, 40, 120, 32, 119, 104, 101, 110, 32, 99, 41, 59, 32, 116, 101, 108]⟩ : ByteArray) = treeL [110, 111, 100, 101, 32, 102, 40, 99, 58, 32, 98, 111, 111, 108, 59, 32, 120, 58, 32, 105, 110, 116, 41, 32, 114, 101, 116, 117, 114, 110, 115, 32, 40, 121, 58, 32, 105, 110, 116, 41, 59, 32, 108, 101, 116, 32, 121, 32, 61, 32, 120, 32, 43, 32, 40, 120, 32, 119, 104, 101, 110, 32, 99, 41, 59, 32, 116, 101, 108] := treeOf_list _
  rw [e]
  exact ⟨aw8_bad, okNd_all8 aw8_okB⟩
theorem one_at8 {nd : Nd} (h : okNd nd = true) : ∀ (i : Nat) (hi : i < [nd].length), okNd [nd][i] = true := fun i hi => by
  have : i = 0 := by simp at hi; omega
  subst this
  exact h
def wCe (B : Nat) (l : List Stp) (any ok : Bool) (v : Value) (W : World) : Prop := ∃ x c, v = .tuple #[.slice x l.length c, .bool any, .bool ok] ∧ IsD (B ≤ ·) W (.slice x l.length c) (.sl l.length (stsD l))
theorem stable_ce (B : Nat) (l : List Stp) (any ok : Bool) : Stable (wCe B l any ok) := fun _ _ _ ⟨x, c, h1, h2⟩ hb => ⟨x, c, h1, IsD.below hb h2⟩
theorem ex_range {w : World} {g : Nat} {q : Qe} {xk : Option Addr} {ck : Nat} (h : w.rangeAt g 0 (qeC q.name q.e xk ck (q.at_ : Int))) : w.rangeAt g 1 (exC q.e xk ck) := fun j v hj => by
  have hlt : j < 5 := by have := (List.getElem?_eq_some_iff.1 hj).1; simpa [exC] using this
  rcases j with _ | _ | _ | _ | _ | j
  · exact h 1 v hj
  · exact h 2 v hj
  · exact h 3 v hj
  · exact h 4 v hj
  · exact h 5 v hj
  · omega
set_option maxHeartbeats 8000000 in
set_option maxRecDepth 100000 in
theorem awake8_any (w : World) : Calls Try.prog 22 #[] w (fun e w' => e = .returned (.bool true) ∧ Below w.heap.size w w') := by
  obtain ⟨nd, q, r, e1, e2, e3, e4, e5, e6, e7, e8, e9⟩ := aw8_facts
  obtain ⟨ea, eb⟩ := aw8_factB
  have kp := parse_at (⟨#[110, 111, 100, 101, 32, 102, 40, 99, 58, 32, 98, 111, 111, 108, 59, 32, 120, 58, 32, 105, 110, 116, 41, 32, 114, 101, 116, 117, 114, 110, 115, 32, 40, 121, 58, 32, 105, 110, 116, 41, 59, 32, 118, 97, 114, 32, 116, 58, 32, 105, 110, 116, 32, 119, 104, 101, 110, 32, 110, 111, 116, 32, 99, 59, 32, 108, 101, 116, 32, 116, 32, 61, 32, 120, 32, 119, 104, 101, 110, 32, 110, 111, 116, 32, 99, 59, 32, 121, 32, 61, 32, 109, 101, 114, 103, 101, 32, 99, 32, 48, 32, 40, 116, 41, 59, 32, 116, 101, 108]⟩ : ByteArray) w (by decide)
  have kf := fun W => fault8_any (⟨#[110, 111, 100, 101, 32, 102, 40, 99, 58, 32, 98, 111, 111, 108, 59, 32, 120, 58, 32, 105, 110, 116, 41, 32, 114, 101, 116, 117, 114, 110, 115, 32, 40, 121, 58, 32, 105, 110, 116, 41, 59, 32, 108, 101, 116, 32, 121, 32, 61, 32, 120, 32, 43, 32, 40, 120, 32, 119, 104, 101, 110, 32, 99, 41, 59, 32, 116, 101, 108]⟩ : ByteArray) W (by decide) eb
  rw [e1] at kp
  unfold GivesO at kf
  rw [ea] at kf
  obtain ⟨q1, hq1⟩ : ∃ q, q = perOf (⟨#[110, 111, 100, 101, 32, 102, 40, 99, 58, 32, 98, 111, 111, 108, 59, 32, 120, 58, 32, 105, 110, 116, 41, 32, 114, 101, 116, 117, 114, 110, 115, 32, 40, 121, 58, 32, 105, 110, 116, 41, 59, 32, 118, 97, 114, 32, 116, 58, 32, 105, 110, 116, 32, 119, 104, 101, 110, 32, 110, 111, 116, 32, 99, 59, 32, 108, 101, 116, 32, 116, 32, 61, 32, 120, 32, 119, 104, 101, 110, 32, 110, 111, 116, 32, 99, 59, 32, 121, 32, 61, 32, 109, 101, 114, 103, 101, 32, 99, 32, 48, 32, 40, 116, 41, 59, 32, 116, 101, 108]⟩ : ByteArray) := ⟨_, rfl⟩
  obtain ⟨q2, hq2⟩ : ∃ q, q = patOf (⟨#[110, 111, 100, 101, 32, 102, 40, 99, 58, 32, 98, 111, 111, 108, 59, 32, 120, 58, 32, 105, 110, 116, 41, 32, 114, 101, 116, 117, 114, 110, 115, 32, 40, 121, 58, 32, 105, 110, 116, 41, 59, 32, 118, 97, 114, 32, 116, 58, 32, 105, 110, 116, 32, 119, 104, 101, 110, 32, 110, 111, 116, 32, 99, 59, 32, 108, 101, 116, 32, 116, 32, 61, 32, 120, 32, 119, 104, 101, 110, 32, 110, 111, 116, 32, 99, 59, 32, 121, 32, 61, 32, 109, 101, 114, 103, 101, 32, 99, 32, 48, 32, 40, 116, 41, 59, 32, 116, 101, 108]⟩ : ByteArray) := ⟨_, rfl⟩
  rw [← hq1, ← hq2] at kp
  have h1l : ([nd] : List Nd).length = 1 := rfl
  have HSB := Lib.hid size_bad
  have HSN := Lib.hid size_nS
  have HSQ := Lib.hid size_qS
  have HST := Lib.hid size_st
  have E2 := Lib.hid e2
  have E3 := Lib.hid e3
  have E4 := Lib.hid e4
  have E5 := Lib.hid e5
  have E6 := Lib.hid e6
  have E7 := Lib.hid e7
  have E8 := Lib.hid e8
  have E9 := Lib.hid e9
  have KF := Lib.hid kf
  clear e1 e2 e3 e4 e5 e6 e7 e8 e9 ea eb kf hq1 hq2
  go_enter Try.func22, Try.ntmps22
  go_wp2_with fail
  (with_reducible refine kp.mono ?_)
  rintro e9 w1 ⟨x, c, rfl, hI, hb⟩
  have F1 := ((Fx.start w).call hb).alloc w1.heap.size rfl 30 #[.int .i64 0, .int .i64 0]
  have F2 := F1.store 0 rfl #[.int .i64 (q1 : Int), .int .i64 (q2 : Int)]
  have HN1 := Lib.hid (F1.get 0 rfl)
  have hI2 := IsD.below (new_row w1 30 #[.int .i64 0, .int .i64 0] #[.int .i64 (q1 : Int), .int .i64 (q2 : Int)]).1 hI
  obtain ⟨W2, hW2⟩ : ∃ W2, W2 = ((w1.alloc (.cells #[.int .i64 0, .int .i64 0] 30)).setRow w1.heap.size #[.int .i64 (q1 : Int), .int .i64 (q2 : Int)]) := ⟨_, rfl⟩
  rw [← hW2] at F2 hI2
  have kb := Back_any [nd] W2 (by have := F2.lt_ 0 rfl; omega) _ x c hI2
  rw [hW2, h1l] at kb
  have HB2 := Lib.hid F2.below
  have HW2 := Lib.hid hW2
  clear F1 F2 hI hI2 hb kp hW2
  go_wp2_with (refine wpList_store_row rfl 30 (.tmp 2) (.tmp 11) rfl w1.heap.size #[.int .i64 (q1 : Int), .int .i64 (q2 : Int)] rfl rfl 30 _ HN1.out HSB.out rfl (fault_one _ _) ?_)
  (with_reducible refine kb.mono ?_)
  rw [← HW2.out]
  rintro e9 w3 ⟨x3, c3, rfl, hI3, hb⟩
  have HB3 := Lib.hid (HB2.out.trans (hb.mono HB2.out.size))
  obtain ⟨g, rfl, hg, xi, ci, xo, co, xl, cl, xe, ce, hrg, t1, t2, t3, t4⟩ := nd_at (l := [nd]) hI3 0 (by simp)
  simp only [List.getElem_cons_zero, Nat.zero_mul] at hrg t1 t2 t3 t4
  have ko : Calls Try.prog 28 #[.agg (ndC nd xi xo xl xe ci co cl ce).toArray, .string ⟨#[116]⟩] w3 (fun e w' => ∃ x c, e = .returned (.slice x 1 c) ∧ IsD (w3.heap.size ≤ ·) w' (.slice x 1 c) (.sl 1 (stsD [sC8])) ∧ Below w3.heap.size w3 w') := clkOf_any nd E3.out w3 _ xi xo xl xe ci co cl ce ⟨t1, t2, t3, t4⟩ ⟨#[116]⟩ (by decide) [sC8] E6.out (by decide) (by simp [sC8]; decide)
  have hc3 : 1 ≤ c3 := by obtain ⟨x', c', h1, h2, h3⟩ := IsD.slice hI3; injection h1 with _ _ h; subst h; exact h2
  have HRG3 := Lib.hid hrg
  have HTT := Lib.hid (show NdIn _ w3 nd xi xo xl xe ci co cl ce from ⟨t1, t2, t3, t4⟩)
  have HI3 := Lib.hid hI3
  have HG3 := Lib.hid hg
  clear hb hI3 kb hrg t1 t2 t3 t4 hg
  go_wp2_with (refine wpList_load_mid rfl 49 (.tmp 15) rfl g 0 rfl (ndC nd xi xo xl xe ci co cl ce) _ ?_ Try.underlying49 rfl HSN.out ?_; (exact HRG3.out))
  (with_reducible refine ko.mono ?_)
  rintro e9 W4 ⟨x4, c4, rfl, hI4, hb⟩
  have HB4 := Lib.hid (HB3.out.trans (hb.mono HB3.out.size))
  obtain ⟨g4, rfl, hg4, hr4⟩ := st_at (l := [sC8]) hI4 0 (by decide)
  simp only [List.getElem_cons_zero, Nat.zero_mul] at hr4
  have HT4 := Lib.hid (NdIn.below hb HTT.out)
  have t4 := HT4.out.2.2.2
  rw [E2.out] at t4
  obtain ⟨ge, rfl, hge, xk, ck, hre, hkk⟩ := qe_at (l := [q, r]) t4 0 (by simp)
  simp only [List.getElem_cons_zero, Nat.zero_mul] at hre hkk
  have HI4 := Lib.hid (IsD.below hb HI3.out)
  have HGL := Lib.hid (Nat.lt_of_lt_of_le HG3.out hb.size)
  have HRG := Lib.hid (rangeAt_below HRG3.out hb HG3.out)
  have HC4 := Lib.hid (show W4.cell? ⟨g, 4, none⟩ = some (.slice (some ⟨ge, 0, none⟩) 2 ce) by
    have := HRG.out 4 _ (show (ndC nd xi xo xl (some ⟨ge, 0, none⟩) ci co cl ce)[4]? = some (.slice (some ⟨ge, 0, none⟩) nd.eqs.length ce) from rfl)
    rw [E2.out] at this
    exact this)
  have HRE := Lib.hid (ex_range hre)
  have HGE := Lib.hid hge
  have KE : Hid (∀ W, Below W4.heap.size W4 W → Calls Try.prog 30 #[.agg #[.string nd.name, .slice xi nd.ins.length ci, .slice xo nd.outs.length co, .slice xl nd.locs.length cl, .slice (some ⟨ge, 0, none⟩) nd.eqs.length ce, .int .i64 (nd.at_ : Int)], .agg #[.string q.e.op, .string q.e.name, .int .i64 q.e.n, .int .i64 (q.e.at_ : Int), .slice xk q.e.kids.length ck]] W (GivesCe [sC8] false true W)) := Lib.hid (fun W hb => clkExpr_ok nd E3.out W _ xi xo xl _ ci co cl ce (NdIn.below hb HT4.out) q.e E4.out _ xk ck (IsD.below hb hkk) _ E8.out [sC8] E9.out (by decide) (by simp [sC8]; decide))
  have HR4 := Lib.hid hr4
  have HG4 := Lib.hid hg4
  clear hb hI4 ko hr4 hg4 t4 hre hkk hge
  go_upto_region 4 with fail
  refine wp_region_steps (words [wIs (.slice (some ⟨g, 0, none⟩) 1 c3), wIs (.pointer (some ⟨g, 0, none⟩)), wIs (.agg #[.string nd.name, .slice xi nd.ins.length ci, .slice xo nd.outs.length co, .slice xl nd.locs.length cl, .slice (some ⟨ge, 0, none⟩) nd.eqs.length ce, .int .i64 (nd.at_ : Int)]), wIs (.slice (some ⟨g, 0, none⟩) 1 c3), wIs (.pointer (some ⟨g, 0, none⟩)), wIs (.pointer (some ⟨g, 4, none⟩)), wIs (.slice (some ⟨ge, 0, none⟩) 2 ce), wIs (.pointer (some ⟨ge, 0, none⟩)), wIs (.pointer (some ⟨ge, 1, none⟩)), wIs (.agg #[.string q.e.op, .string q.e.name, .int .i64 q.e.n, .int .i64 (q.e.at_ : Int), .slice xk q.e.kids.length ck]), wCe W4.heap.size [sC8] false true, wCe W4.heap.size [sC8] false true, wRw W4.heap.size [sC8], wIs (.bool false), wIs (.bool true), wRw W4.heap.size [sC8], wIs (.bool false), wIs (.bool true)]) W4.heap.size W4 (by kernel_rfl) (Below.refl _ _) (Nat.le_refl _) (words_stable ?stab) rfl rfl rfl ?steps ?rest
  case stab =>
    intro f hf
    simp only [List.mem_cons, List.not_mem_nil, or_false] at hf
    rcases hf with rfl | rfl | rfl | rfl | rfl | rfl | rfl | rfl | rfl | rfl | rfl | rfl | rfl | rfl | rfl | rfl | rfl | rfl <;> first | exact stable_is _ | exact stable_rw _ _ | exact stable_ce _ _ _ _
  case steps =>
    refine Steps.cons (step_value rfl fun xa W hp => ⟨wanted_none rfl, _, _, run_move (.inl rfl), hp.old 3 rfl, Below.refl _ _⟩) ?_
    refine Steps.cons (step_value rfl fun xa W hp => ?_) ?_
    · have f0 : xa.tmps.getD 19 undef = .slice (some ⟨g, 0, none⟩) 1 c3 := (hp.on_ 0 rfl rfl rfl).2
      exact ⟨wanted_none rfl, _, _, run_idxG (k := 0) Try.underlying26 HSN.out rfl f0 rfl (by decide), rfl, Below.refl _ _⟩
    refine Steps.cons (step_value rfl fun xa W hp => ?_) ?_
    · have f0 : xa.tmps.getD 20 undef = .pointer (some ⟨g, 0, none⟩) := (hp.on_ 1 rfl rfl rfl).2
      exact ⟨wanted_none rfl, _, _, run_ldmidG rfl f0 (rangeAt_below HRG.out hp.below HGL.out) rfl Try.underlying49 (by kernel_rfl), rfl, Below.refl _ _⟩
    refine Steps.cons (step_value rfl fun xa W hp => ⟨wanted_none rfl, _, _, run_move (.inl rfl), hp.old 3 rfl, Below.refl _ _⟩) ?_
    refine Steps.cons (step_value rfl fun xa W hp => ?_) ?_
    · have f0 : xa.tmps.getD 22 undef = .slice (some ⟨g, 0, none⟩) 1 c3 := (hp.on_ 3 rfl rfl rfl).2
      exact ⟨wanted_none rfl, _, _, run_idxG (k := 0) Try.underlying26 HSN.out rfl f0 rfl (by decide), rfl, Below.refl _ _⟩
    refine Steps.cons (step_value rfl fun xa W hp => ?_) ?_
    · have f0 : xa.tmps.getD 23 undef = .pointer (some ⟨g, 0, none⟩) := (hp.on_ 4 rfl rfl rfl).2
      have f1 : (Instr.fieldAt 49 (.pointer (some ⟨g, 0, none⟩)) 4).run Try.prog W = .ok (.pointer (some ⟨g, 4, none⟩)) W := by kernel_rfl
      exact ⟨wanted_none rfl, _, _, run_fa4 rfl f0 f1, rfl, Below.refl _ _⟩
    refine Steps.cons (step_value rfl fun xa W hp => ?_) ?_
    · have f0 : xa.tmps.getD 24 undef = .pointer (some ⟨g, 4, none⟩) := (hp.on_ 5 rfl rfl rfl).2
      exact ⟨wanted_none rfl, _, _, run_ldv rfl f0 ((World.cell?_of_block (a := ⟨g, 4, none⟩) (hp.below.block g HGL.out)).trans HC4.out) Try.underlying47 rfl (by kernel_rfl), rfl, Below.refl _ _⟩
    refine Steps.cons (step_value rfl fun xa W hp => ?_) ?_
    · have f0 : xa.tmps.getD 25 undef = .slice (some ⟨ge, 0, none⟩) 2 ce := (hp.on_ 6 rfl rfl rfl).2
      exact ⟨wanted_none rfl, _, _, run_idxG (k := 0) Try.underlying47 HSQ.out rfl f0 rfl (by decide), rfl, Below.refl _ _⟩
    refine Steps.cons (step_value rfl fun xa W hp => ?_) ?_
    · have f0 : xa.tmps.getD 26 undef = .pointer (some ⟨ge, 0, none⟩) := (hp.on_ 7 rfl rfl rfl).2
      have f1 : (Instr.fieldAt 45 (.pointer (some ⟨ge, 0, none⟩)) 1).run Try.prog W = .ok (.pointer (some ⟨ge, 1, none⟩)) W := by kernel_rfl
      exact ⟨wanted_none rfl, _, _, run_fa4 rfl f0 f1, rfl, Below.refl _ _⟩
    refine Steps.cons (step_value rfl fun xa W hp => ?_) ?_
    · have f0 : xa.tmps.getD 27 undef = .pointer (some ⟨ge, 1, none⟩) := (hp.on_ 8 rfl rfl rfl).2
      exact ⟨wanted_none rfl, _, _, run_ldmidG rfl f0 (rangeAt_below HRE.out hp.below HGE.out) rfl Try.underlying43 (by kernel_rfl), rfl, Below.refl _ _⟩
    refine Steps.cons (step_enter rfl fun xa W hp => ?_) ?_
    · have f0 : xa.tmps.getD 21 undef = .agg #[.string nd.name, .slice xi nd.ins.length ci, .slice xo nd.outs.length co, .slice xl nd.locs.length cl, .slice (some ⟨ge, 0, none⟩) nd.eqs.length ce, .int .i64 (nd.at_ : Int)] := (hp.on_ 2 rfl rfl rfl).2
      have f1 : xa.tmps.getD 28 undef = .agg #[.string q.e.op, .string q.e.name, .int .i64 q.e.n, .int .i64 (q.e.at_ : Int), .slice xk q.e.kids.length ck] := (hp.on_ 9 rfl rfl rfl).2
      refine ⟨wanted_none rfl, 30, _, run_enter2 rfl rfl Try.call30, ?_⟩
      show Calls _ _ #[xa.tmps.getD 21 undef, xa.tmps.getD 28 undef] W _
      rw [f0, f1]
      refine (KE.out W hp.below).mono (fun e' W' h => ?_)
      obtain ⟨x9, c9, h1, h2, h3⟩ := h
      exact ⟨_, h1, ⟨x9, c9, rfl, h2.mono (ok' := (W4.heap.size ≤ ·)) (fun j hj _ => Nat.le_trans hp.below.size hj)⟩, h3⟩
    refine Steps.cons (step_value rfl fun xa W hp => ⟨wanted_none rfl, _, _, run_move (.inl rfl), (hp.on_ 10 rfl rfl rfl).2, Below.refl _ _⟩) ?_
    refine Steps.cons (step_value rfl fun xa W hp => ?_) ?_
    · have f0 : wCe W4.heap.size [sC8] false true (xa.tmps.getD 18 undef) W := (hp.on_ 11 rfl rfl rfl).2
      obtain ⟨x0, c0, e0, t0⟩ := f0
      exact ⟨wanted_none rfl, _, _, run_ext rfl e0 rfl, ⟨x0, c0, rfl, t0⟩, Below.refl _ _⟩
    refine Steps.cons (step_value rfl fun xa W hp => ?_) ?_
    · have f0 : wCe W4.heap.size [sC8] false true (xa.tmps.getD 18 undef) W := (hp.on_ 11 rfl rfl rfl).2
      obtain ⟨x0, c0, e0, t0⟩ := f0
      exact ⟨wanted_none rfl, _, _, run_ext rfl e0 rfl, rfl, Below.refl _ _⟩
    refine Steps.cons (step_value rfl fun xa W hp => ?_) ?_
    · have f0 : wCe W4.heap.size [sC8] false true (xa.tmps.getD 18 undef) W := (hp.on_ 11 rfl rfl rfl).2
      obtain ⟨x0, c0, e0, t0⟩ := f0
      exact ⟨wanted_none rfl, _, _, run_ext rfl e0 rfl, rfl, Below.refl _ _⟩
    refine Steps.cons (step_value rfl fun xa W hp => ⟨wanted_none rfl, _, _, run_move (.inr rfl), (hp.on_ 12 rfl rfl rfl).2, Below.refl _ _⟩) ?_
    refine Steps.cons (step_value rfl fun xa W hp => ⟨wanted_none rfl, _, _, run_move (.inr rfl), (hp.on_ 13 rfl rfl rfl).2, Below.refl _ _⟩) ?_
    refine Steps.cons (step_value rfl fun xa W hp => ⟨wanted_none rfl, _, _, run_move (.inr rfl), (hp.on_ 14 rfl rfl rfl).2, Below.refl _ _⟩) ?_
    exact Steps.nil
  case rest =>
    intro act W hI
    have HBE := Lib.hid hI.below
    obtain ⟨x5, c5, j5, t5⟩ : wRw W4.heap.size [sC8] (act.tmps.getD 5 undef) W := hI.new 15 _ 5 rfl rfl rfl
    obtain ⟨g5, rfl, hg5, hr5⟩ := st_at (l := [sC8]) t5 0 (by decide)
    simp only [List.getElem_cons_zero, Nat.zero_mul] at hr5
    have HR5 := Lib.hid hr5
    have HG5 := Lib.hid hg5
    have h6 : act.tmps.getD 6 undef = .bool false := hI.new 16 _ 6 rfl rfl rfl
    have h7 : act.tmps.getD 7 undef = .bool true := hI.new 17 _ 7 rfl rfl rfl
    have h5 : act.tmps.getD 5 undef = .slice (some ⟨g5, 0, none⟩) 1 c5 := j5
    have h3 : act.tmps.getD 3 undef = .slice (some ⟨g, 0, none⟩) 1 c3 := hI.old 3 (by simp)
    have h4 : act.tmps.getD 4 undef = .slice (some ⟨g4, 0, none⟩) 1 c4 := hI.old 4 (by simp)
    have h0 : act.tmps.getD 0 undef = .bool false := hI.old 0 (by simp)
    have hsz_ : act.tmps.size = 83 := hI.tmps
    have hdf_ : act.defers = [] := hI.defers
    obtain ⟨fo, hf, hx⟩ := act_eta hsz_ hdf_
    rw [hf] at h6 h7 h5 h3 h4 h0
    clear hI hsz_ hdf_ hf hr5 hg5 t5 j5
    subst hx
    have hl : ((List.range 83).map fo).toArray = (fo 0 :: fo 1 :: fo 2 :: fo 3 :: fo 4 :: fo 5 :: fo 6 :: fo 7 :: fo 8 :: fo 9 :: fo 10 :: fo 11 :: fo 12 :: fo 13 :: fo 14 :: fo 15 :: fo 16 :: fo 17 :: fo 18 :: fo 19 :: fo 20 :: fo 21 :: fo 22 :: fo 23 :: fo 24 :: fo 25 :: fo 26 :: fo 27 :: fo 28 :: fo 29 :: fo 30 :: fo 31 :: fo 32 :: fo 33 :: fo 34 :: fo 35 :: fo 36 :: fo 37 :: fo 38 :: fo 39 :: fo 40 :: fo 41 :: fo 42 :: fo 43 :: fo 44 :: fo 45 :: fo 46 :: fo 47 :: fo 48 :: fo 49 :: fo 50 :: fo 51 :: fo 52 :: fo 53 :: fo 54 :: fo 55 :: fo 56 :: fo 57 :: fo 58 :: fo 59 :: fo 60 :: fo 61 :: fo 62 :: fo 63 :: fo 64 :: fo 65 :: fo 66 :: fo 67 :: fo 68 :: fo 69 :: fo 70 :: fo 71 :: fo 72 :: fo 73 :: fo 74 :: fo 75 :: fo 76 :: fo 77 :: fo 78 :: fo 79 :: fo 80 :: fo 81 :: fo 82 :: []).toArray := rfl
    simp only [Exit.inBlock, Exit.then, Act.put]
    rw [hl, h6, h7, h5, h3, h4, h0]
    clear hl h6 h7 h5 h3 h4 h0
    obtain ⟨W5, hW5⟩ : ∃ W5, W5 = W := ⟨_, rfl⟩
    rw [← hW5] at HBE HR5 HG5 ⊢
    have HR4 := Lib.hid (rangeAt_below HR4.out HBE.out HG4.out)
    have HRG5 := Lib.hid (rangeAt_below HRG.out HBE.out HGL.out)
    have HGL5 := Lib.hid (Nat.lt_of_lt_of_le HGL.out HBE.out.size)
    have HG4 := Lib.hid (Nat.lt_of_lt_of_le HG4.out HBE.out.size)
    have HB5 := Lib.hid (HB4.out.trans (HBE.out.mono HB4.out.size))
    have KC : Hid (∀ W, Below W5.heap.size W5 W → Calls Try.prog 24 #[.slice (some ⟨g, 0, none⟩) 1 c3] W (fun e w' => e = .returned (.agg #[.int .i64 0, .int .i64 0]) ∧ Below W.heap.size W w')) := Lib.hid (fun W hb => by
      have kc := clkCheck_any [nd] (one_at8 E3.out) W _ (some ⟨g, 0, none⟩) c3 (IsD.below hb (IsD.below HBE.out HI4.out))
      unfold GivesO at kc
      rw [E5.out] at kc
      exact kc)
    have KO : Hid (∀ W, Below W5.heap.size W5 W → Calls Try.prog 28 #[.agg #[.string nd.name, .slice xi nd.ins.length ci, .slice xo nd.outs.length co, .slice xl nd.locs.length cl, .slice (some ⟨ge, 0, none⟩) nd.eqs.length ce, .int .i64 (nd.at_ : Int)], .string ⟨#[120]⟩] W (GivesRw [] W)) := Lib.hid (fun W hb => clkOf_any nd E3.out W _ xi xo xl _ ci co cl ce (NdIn.below hb (NdIn.below HBE.out HT4.out)) ⟨#[120]⟩ (by decide) [] E7.out (by decide) (by simp))
    clear hW5
    go_upto_region 5 with fail
    simp only [List.append]
    refine wp_region_steps (words [wIs (.agg #[.int .i64 10, .int .i64 52]), wIs (.agg #[.int .i64 10, .int .i64 52]), wIs (.bool true), wIs (.bool true), wIs (.slice (some ⟨g, 0, none⟩) 1 c3), wIs (.agg #[.int .i64 0, .int .i64 0]), wIs (.agg #[.int .i64 0, .int .i64 0]), wIs (.bool true), wIs (.bool true), wIs (.bool true), wIs (.slice (some ⟨g4, 0, none⟩) 1 c4), wIs (.int .i64 1), wIs (.bool true), wIs (.bool true), wIs (.bool true), wIs (.slice (some ⟨g4, 0, none⟩) 1 c4), wIs (.pointer (some ⟨g4, 0, none⟩)), wIs (.agg #[.string ⟨#[99]⟩, .bool true]), wIs (.agg #[.string ⟨#[99]⟩, .bool true]), wIs (.bool true), wIs (.bool true), wIs (.bool true), wIs (.bool true), wIs (.bool true), wIs (.bool true), wIs (.bool false), wIs (.bool true), wIs (.bool true), wIs (.bool true), wIs (.slice (some ⟨g5, 0, none⟩) 1 c5), wIs (.int .i64 1), wIs (.bool true), wIs (.bool true), wIs (.bool true), wIs (.slice (some ⟨g5, 0, none⟩) 1 c5), wIs (.pointer (some ⟨g5, 0, none⟩)), wIs (.agg #[.string ⟨#[99]⟩, .bool true]), wIs (.slice (some ⟨g4, 0, none⟩) 1 c4), wIs (.pointer (some ⟨g4, 0, none⟩)), wIs (.agg #[.string ⟨#[99]⟩, .bool true]), wIs (.bool true), wIs (.bool true), wIs (.bool true), wIs (.slice (some ⟨g, 0, none⟩) 1 c3), wIs (.pointer (some ⟨g, 0, none⟩)), wIs (.agg #[.string nd.name, .slice xi nd.ins.length ci, .slice xo nd.outs.length co, .slice xl nd.locs.length cl, .slice (some ⟨ge, 0, none⟩) nd.eqs.length ce, .int .i64 (nd.at_ : Int)]), wRw W5.heap.size [], wIs (.int .i64 0), wIs (.bool true), wIs (.bool true), wIs (.bool true)]) W5.heap.size W5 (by kernel_rfl) (Below.refl _ _) (Nat.le_refl _) (words_stable ?stab) rfl rfl rfl ?steps ?rest
    case stab =>
      intro f hf
      simp only [List.mem_cons, List.not_mem_nil, or_false] at hf
      rcases hf with rfl | rfl | rfl | rfl | rfl | rfl | rfl | rfl | rfl | rfl | rfl | rfl | rfl | rfl | rfl | rfl | rfl | rfl | rfl | rfl | rfl | rfl | rfl | rfl | rfl | rfl | rfl | rfl | rfl | rfl | rfl | rfl | rfl | rfl | rfl | rfl | rfl | rfl | rfl | rfl | rfl | rfl | rfl | rfl | rfl | rfl | rfl | rfl | rfl | rfl | rfl <;> first | exact stable_is _ | exact stable_rw _ _
    case steps =>
      refine Steps.cons (step_enter rfl fun xa W hp => ?_) ?_
      · refine ⟨wanted_none rfl, 23, _, run_enter1 rfl rfl Try.call23, ?_⟩
        refine (KF.out W).mono (fun e' W' h => ?_)
        exact ⟨_, h.1, rfl, h.2⟩
      refine Steps.cons (step_value rfl fun xa W hp => ?_) ?_
      · exact ⟨wanted_none rfl, _, _, run_bld rfl (v := .agg #[.int .i64 10, .int .i64 52]) (by kernel_rfl), rfl, Below.refl _ _⟩
      refine Steps.cons (step_value rfl fun xa W hp => ?_) ?_
      · have f0 : xa.tmps.getD 33 undef = .agg #[.int .i64 10, .int .i64 52] := (hp.on_ 0 rfl rfl rfl).2
        have f1 : xa.tmps.getD 34 undef = .agg #[.int .i64 10, .int .i64 52] := (hp.on_ 1 rfl rfl rfl).2
        refine ⟨wanted_none rfl, _, _, run_bin3 rfl (v := .bool true) ?_ ?_, rfl, Below.refl _ _⟩
        · show (eqGuard .eql _ _ _ (xa.tmps.getD 33 undef) (xa.tmps.getD 34 undef)).run _ W = _
          rw [f0, f1]; first | rfl | kernel_rfl
        · show (binOp .eql _ (xa.tmps.getD 33 undef) (xa.tmps.getD 34 undef)).run _ W = _
          rw [f0, f1]; kernel_rfl
      refine Steps.cons (step_value rfl fun xa W hp => ⟨wanted_none rfl, _, _, run_move (.inl rfl), (hp.on_ 2 rfl rfl rfl).2, Below.refl _ _⟩) ?_
      refine Steps.cons (step_value rfl fun xa W hp => ⟨wanted_some rfl rfl rfl (hp.on_ 3 rfl rfl rfl).1 (hp.on_ 3 rfl rfl rfl).2, _, _, run_move (.inl rfl), hp.old 3 rfl, Below.refl _ _⟩) ?_
      refine Steps.cons (step_enter rfl fun xa W hp => ?_) ?_
      · have f0 : xa.tmps.getD 37 undef = .slice (some ⟨g, 0, none⟩) 1 c3 := (hp.on_ 4 rfl rfl rfl).2
        refine ⟨wanted_some rfl rfl rfl (hp.on_ 3 rfl rfl rfl).1 (hp.on_ 3 rfl rfl rfl).2, 24, _, run_enter1 rfl rfl Try.call24, ?_⟩
        show Calls _ _ #[xa.tmps.getD 37 undef] W _
        rw [f0]
        refine (KC.out W hp.below).mono (fun e' W' h => ?_)
        exact ⟨_, h.1, rfl, h.2⟩
      refine Steps.cons (step_value rfl fun xa W hp => ?_) ?_
      · exact ⟨wanted_some rfl rfl rfl (hp.on_ 3 rfl rfl rfl).1 (hp.on_ 3 rfl rfl rfl).2, _, _, run_bld rfl (v := .agg #[.int .i64 0, .int .i64 0]) (by kernel_rfl), rfl, Below.refl _ _⟩
      refine Steps.cons (step_value rfl fun xa W hp => ?_) ?_
      · have f0 : xa.tmps.getD 38 undef = .agg #[.int .i64 0, .int .i64 0] := (hp.on_ 5 rfl rfl rfl).2
        have f1 : xa.tmps.getD 39 undef = .agg #[.int .i64 0, .int .i64 0] := (hp.on_ 6 rfl rfl rfl).2
        refine ⟨wanted_some rfl rfl rfl (hp.on_ 3 rfl rfl rfl).1 (hp.on_ 3 rfl rfl rfl).2, _, _, run_bin3 rfl (v := .bool true) ?_ ?_, rfl, Below.refl _ _⟩
        · show (eqGuard .eql _ _ _ (xa.tmps.getD 38 undef) (xa.tmps.getD 39 undef)).run _ W = _
          rw [f0, f1]; first | rfl | kernel_rfl
        · show (binOp .eql _ (xa.tmps.getD 38 undef) (xa.tmps.getD 39 undef)).run _ W = _
          rw [f0, f1]; kernel_rfl
      refine Steps.cons (step_value rfl fun xa W hp => ⟨wanted_none rfl, _, _, run_pick rfl (hp.on_ 3 rfl rfl rfl).2, (hp.on_ 7 rfl rfl rfl).2, Below.refl _ _⟩) ?_
      refine Steps.cons (step_value rfl fun xa W hp => ⟨wanted_none rfl, _, _, run_move (.inl rfl), (hp.on_ 8 rfl rfl rfl).2, Below.refl _ _⟩) ?_
      refine Steps.cons (step_value rfl fun xa W hp => ⟨wanted_some rfl rfl rfl (hp.on_ 9 rfl rfl rfl).1 (hp.on_ 9 rfl rfl rfl).2, _, _, run_move (.inl rfl), hp.old 4 rfl, Below.refl _ _⟩) ?_
      refine Steps.cons (step_value rfl fun xa W hp => ?_) ?_
      · have f0 : xa.tmps.getD 43 undef = .slice (some ⟨g4, 0, none⟩) 1 c4 := (hp.on_ 10 rfl rfl rfl).2
        exact ⟨wanted_some rfl rfl rfl (hp.on_ 9 rfl rfl rfl).1 (hp.on_ 9 rfl rfl rfl).2, _, _, run_lenT rfl Try.underlying60 f0, rfl, Below.refl _ _⟩
      refine Steps.cons (step_value rfl fun xa W hp => ?_) ?_
      · have f0 : xa.tmps.getD 44 undef = .int .i64 1 := (hp.on_ 11 rfl rfl rfl).2
        refine ⟨wanted_some rfl rfl rfl (hp.on_ 9 rfl rfl rfl).1 (hp.on_ 9 rfl rfl rfl).2, _, _, run_bin3 rfl (v := .bool true) ?_ ?_, rfl, Below.refl _ _⟩
        · show (eqGuard .eql _ _ _ (xa.tmps.getD 44 undef) _).run _ W = _
          rw [f0]; first | rfl | kernel_rfl
        · show (binOp .eql _ (xa.tmps.getD 44 undef) _).run _ W = _
          rw [f0]; kernel_rfl
      refine Steps.cons (step_value rfl fun xa W hp => ⟨wanted_none rfl, _, _, run_pick rfl (hp.on_ 9 rfl rfl rfl).2, (hp.on_ 12 rfl rfl rfl).2, Below.refl _ _⟩) ?_
      refine Steps.cons (step_value rfl fun xa W hp => ⟨wanted_none rfl, _, _, run_move (.inl rfl), (hp.on_ 13 rfl rfl rfl).2, Below.refl _ _⟩) ?_
      refine Steps.cons (step_value rfl fun xa W hp => ⟨wanted_some rfl rfl rfl (hp.on_ 14 rfl rfl rfl).1 (hp.on_ 14 rfl rfl rfl).2, _, _, run_move (.inl rfl), hp.old 4 rfl, Below.refl _ _⟩) ?_
      refine Steps.cons (step_value rfl fun xa W hp => ?_) ?_
      · have f0 : xa.tmps.getD 48 undef = .slice (some ⟨g4, 0, none⟩) 1 c4 := (hp.on_ 15 rfl rfl rfl).2
        exact ⟨wanted_some rfl rfl rfl (hp.on_ 14 rfl rfl rfl).1 (hp.on_ 14 rfl rfl rfl).2, _, _, run_idxG (k := 0) Try.underlying60 HST.out rfl f0 rfl (by decide), rfl, Below.refl _ _⟩
      refine Steps.cons (step_value rfl fun xa W hp => ?_) ?_
      · have f0 : xa.tmps.getD 49 undef = .pointer (some ⟨g4, 0, none⟩) := (hp.on_ 16 rfl rfl rfl).2
        exact ⟨wanted_some rfl rfl rfl (hp.on_ 14 rfl rfl rfl).1 (hp.on_ 14 rfl rfl rfl).2, _, _, run_ldmidG rfl f0 (rangeAt_below HR4.out hp.below HG4.out) rfl Try.underlying75 (by kernel_rfl), rfl, Below.refl _ _⟩
      refine Steps.cons (step_value rfl fun xa W hp => ?_) ?_
      · exact ⟨wanted_some rfl rfl rfl (hp.on_ 14 rfl rfl rfl).1 (hp.on_ 14 rfl rfl rfl).2, _, _, run_bld rfl (v := .agg #[.string ⟨#[99]⟩, .bool true]) (by kernel_rfl), rfl, Below.refl _ _⟩
      refine Steps.cons (step_value rfl fun xa W hp => ?_) ?_
      · have f0 : xa.tmps.getD 50 undef = .agg #[.string ⟨#[99]⟩, .bool true] := (hp.on_ 17 rfl rfl rfl).2
        have f1 : xa.tmps.getD 51 undef = .agg #[.string ⟨#[99]⟩, .bool true] := (hp.on_ 18 rfl rfl rfl).2
        refine ⟨wanted_some rfl rfl rfl (hp.on_ 14 rfl rfl rfl).1 (hp.on_ 14 rfl rfl rfl).2, _, _, run_bin3 rfl (v := .bool true) ?_ ?_, rfl, Below.refl _ _⟩
        · show (eqGuard .eql _ _ _ (xa.tmps.getD 50 undef) (xa.tmps.getD 51 undef)).run _ W = _
          rw [f0, f1]; first | rfl | kernel_rfl
        · show (binOp .eql _ (xa.tmps.getD 50 undef) (xa.tmps.getD 51 undef)).run _ W = _
          rw [f0, f1]; kernel_rfl
      refine Steps.cons (step_value rfl fun xa W hp => ⟨wanted_none rfl, _, _, run_pick rfl (hp.on_ 14 rfl rfl rfl).2, (hp.on_ 19 rfl rfl rfl).2, Below.refl _ _⟩) ?_
      refine Steps.cons (step_value rfl fun xa W hp => ⟨wanted_none rfl, _, _, run_move (.inl rfl), (hp.on_ 20 rfl rfl rfl).2, Below.refl _ _⟩) ?_
      refine Steps.cons (step_value rfl fun xa W hp => ⟨wanted_some rfl rfl rfl (hp.on_ 21 rfl rfl rfl).1 (hp.on_ 21 rfl rfl rfl).2, _, _, run_move (.inl rfl), hp.old 7 rfl, Below.refl _ _⟩) ?_
      refine Steps.cons (step_value rfl fun xa W hp => ⟨wanted_none rfl, _, _, run_pick rfl (hp.on_ 21 rfl rfl rfl).2, (hp.on_ 22 rfl rfl rfl).2, Below.refl _ _⟩) ?_
      refine Steps.cons (step_value rfl fun xa W hp => ⟨wanted_none rfl, _, _, run_move (.inl rfl), (hp.on_ 23 rfl rfl rfl).2, Below.refl _ _⟩) ?_
      refine Steps.cons (step_value rfl fun xa W hp => ⟨wanted_some rfl rfl rfl (hp.on_ 24 rfl rfl rfl).1 (hp.on_ 24 rfl rfl rfl).2, _, _, run_move (.inl rfl), hp.old 6 rfl, Below.refl _ _⟩) ?_
      refine Steps.cons (step_value rfl fun xa W hp => ?_) ?_
      · have f0 : xa.tmps.getD 58 undef = .bool false := (hp.on_ 25 rfl rfl rfl).2
        exact ⟨wanted_some rfl rfl rfl (hp.on_ 24 rfl rfl rfl).1 (hp.on_ 24 rfl rfl rfl).2, _, _, run_not rfl f0, rfl, Below.refl _ _⟩
      refine Steps.cons (step_value rfl fun xa W hp => ⟨wanted_none rfl, _, _, run_pick rfl (hp.on_ 24 rfl rfl rfl).2, (hp.on_ 26 rfl rfl rfl).2, Below.refl _ _⟩) ?_
      refine Steps.cons (step_value rfl fun xa W hp => ⟨wanted_none rfl, _, _, run_move (.inl rfl), (hp.on_ 27 rfl rfl rfl).2, Below.refl _ _⟩) ?_
      refine Steps.cons (step_value rfl fun xa W hp => ⟨wanted_some rfl rfl rfl (hp.on_ 28 rfl rfl rfl).1 (hp.on_ 28 rfl rfl rfl).2, _, _, run_move (.inl rfl), hp.old 5 rfl, Below.refl _ _⟩) ?_
      refine Steps.cons (step_value rfl fun xa W hp => ?_) ?_
      · have f0 : xa.tmps.getD 62 undef = .slice (some ⟨g5, 0, none⟩) 1 c5 := (hp.on_ 29 rfl rfl rfl).2
        exact ⟨wanted_some rfl rfl rfl (hp.on_ 28 rfl rfl rfl).1 (hp.on_ 28 rfl rfl rfl).2, _, _, run_lenT rfl Try.underlying60 f0, rfl, Below.refl _ _⟩
      refine Steps.cons (step_value rfl fun xa W hp => ?_) ?_
      · have f0 : xa.tmps.getD 63 undef = .int .i64 1 := (hp.on_ 30 rfl rfl rfl).2
        refine ⟨wanted_some rfl rfl rfl (hp.on_ 28 rfl rfl rfl).1 (hp.on_ 28 rfl rfl rfl).2, _, _, run_bin3 rfl (v := .bool true) ?_ ?_, rfl, Below.refl _ _⟩
        · show (eqGuard .eql _ _ _ (xa.tmps.getD 63 undef) _).run _ W = _
          rw [f0]; first | rfl | kernel_rfl
        · show (binOp .eql _ (xa.tmps.getD 63 undef) _).run _ W = _
          rw [f0]; kernel_rfl
      refine Steps.cons (step_value rfl fun xa W hp => ⟨wanted_none rfl, _, _, run_pick rfl (hp.on_ 28 rfl rfl rfl).2, (hp.on_ 31 rfl rfl rfl).2, Below.refl _ _⟩) ?_
      refine Steps.cons (step_value rfl fun xa W hp => ⟨wanted_none rfl, _, _, run_move (.inl rfl), (hp.on_ 32 rfl rfl rfl).2, Below.refl _ _⟩) ?_
      refine Steps.cons (step_value rfl fun xa W hp => ⟨wanted_some rfl rfl rfl (hp.on_ 33 rfl rfl rfl).1 (hp.on_ 33 rfl rfl rfl).2, _, _, run_move (.inl rfl), hp.old 5 rfl, Below.refl _ _⟩) ?_
      refine Steps.cons (step_value rfl fun xa W hp => ?_) ?_
      · have f0 : xa.tmps.getD 67 undef = .slice (some ⟨g5, 0, none⟩) 1 c5 := (hp.on_ 34 rfl rfl rfl).2
        exact ⟨wanted_some rfl rfl rfl (hp.on_ 33 rfl rfl rfl).1 (hp.on_ 33 rfl rfl rfl).2, _, _, run_idxG (k := 0) Try.underlying60 HST.out rfl f0 rfl (by decide), rfl, Below.refl _ _⟩
      refine Steps.cons (step_value rfl fun xa W hp => ?_) ?_
      · have f0 : xa.tmps.getD 68 undef = .pointer (some ⟨g5, 0, none⟩) := (hp.on_ 35 rfl rfl rfl).2
        exact ⟨wanted_some rfl rfl rfl (hp.on_ 33 rfl rfl rfl).1 (hp.on_ 33 rfl rfl rfl).2, _, _, run_ldmidG rfl f0 (rangeAt_below HR5.out hp.below HG5.out) rfl Try.underlying75 (by kernel_rfl), rfl, Below.refl _ _⟩
      refine Steps.cons (step_value rfl fun xa W hp => ⟨wanted_some rfl rfl rfl (hp.on_ 33 rfl rfl rfl).1 (hp.on_ 33 rfl rfl rfl).2, _, _, run_move (.inl rfl), hp.old 4 rfl, Below.refl _ _⟩) ?_
      refine Steps.cons (step_value rfl fun xa W hp => ?_) ?_
      · have f0 : xa.tmps.getD 70 undef = .slice (some ⟨g4, 0, none⟩) 1 c4 := (hp.on_ 37 rfl rfl rfl).2
        exact ⟨wanted_some rfl rfl rfl (hp.on_ 33 rfl rfl rfl).1 (hp.on_ 33 rfl rfl rfl).2, _, _, run_idxG (k := 0) Try.underlying60 HST.out rfl f0 rfl (by decide), rfl, Below.refl _ _⟩
      refine Steps.cons (step_value rfl fun xa W hp => ?_) ?_
      · have f0 : xa.tmps.getD 71 undef = .pointer (some ⟨g4, 0, none⟩) := (hp.on_ 38 rfl rfl rfl).2
        exact ⟨wanted_some rfl rfl rfl (hp.on_ 33 rfl rfl rfl).1 (hp.on_ 33 rfl rfl rfl).2, _, _, run_ldmidG rfl f0 (rangeAt_below HR4.out hp.below HG4.out) rfl Try.underlying75 (by kernel_rfl), rfl, Below.refl _ _⟩
      refine Steps.cons (step_value rfl fun xa W hp => ?_) ?_
      · have f0 : xa.tmps.getD 69 undef = .agg #[.string ⟨#[99]⟩, .bool true] := (hp.on_ 36 rfl rfl rfl).2
        have f1 : xa.tmps.getD 72 undef = .agg #[.string ⟨#[99]⟩, .bool true] := (hp.on_ 39 rfl rfl rfl).2
        refine ⟨wanted_some rfl rfl rfl (hp.on_ 33 rfl rfl rfl).1 (hp.on_ 33 rfl rfl rfl).2, _, _, run_bin3 rfl (v := .bool true) ?_ ?_, rfl, Below.refl _ _⟩
        · show (eqGuard .eql _ _ _ (xa.tmps.getD 69 undef) (xa.tmps.getD 72 undef)).run _ W = _
          rw [f0, f1]; first | rfl | kernel_rfl
        · show (binOp .eql _ (xa.tmps.getD 69 undef) (xa.tmps.getD 72 undef)).run _ W = _
          rw [f0, f1]; kernel_rfl
      refine Steps.cons (step_value rfl fun xa W hp => ⟨wanted_none rfl, _, _, run_pick rfl (hp.on_ 33 rfl rfl rfl).2, (hp.on_ 40 rfl rfl rfl).2, Below.refl _ _⟩) ?_
      refine Steps.cons (step_value rfl fun xa W hp => ⟨wanted_none rfl, _, _, run_move (.inl rfl), (hp.on_ 41 rfl rfl rfl).2, Below.refl _ _⟩) ?_
      refine Steps.cons (step_value rfl fun xa W hp => ⟨wanted_some rfl rfl rfl (hp.on_ 42 rfl rfl rfl).1 (hp.on_ 42 rfl rfl rfl).2, _, _, run_move (.inl rfl), hp.old 3 rfl, Below.refl _ _⟩) ?_
      refine Steps.cons (step_value rfl fun xa W hp => ?_) ?_
      · have f0 : xa.tmps.getD 76 undef = .slice (some ⟨g, 0, none⟩) 1 c3 := (hp.on_ 43 rfl rfl rfl).2
        exact ⟨wanted_some rfl rfl rfl (hp.on_ 42 rfl rfl rfl).1 (hp.on_ 42 rfl rfl rfl).2, _, _, run_idxG (k := 0) Try.underlying26 HSN.out rfl f0 rfl (by decide), rfl, Below.refl _ _⟩
      refine Steps.cons (step_value rfl fun xa W hp => ?_) ?_
      · have f0 : xa.tmps.getD 77 undef = .pointer (some ⟨g, 0, none⟩) := (hp.on_ 44 rfl rfl rfl).2
        exact ⟨wanted_some rfl rfl rfl (hp.on_ 42 rfl rfl rfl).1 (hp.on_ 42 rfl rfl rfl).2, _, _, run_ldmidG rfl f0 (rangeAt_below HRG5.out hp.below HGL5.out) rfl Try.underlying49 (by kernel_rfl), rfl, Below.refl _ _⟩
      refine Steps.cons (step_enter rfl fun xa W hp => ?_) ?_
      · have f0 : xa.tmps.getD 78 undef = .agg #[.string nd.name, .slice xi nd.ins.length ci, .slice xo nd.outs.length co, .slice xl nd.locs.length cl, .slice (some ⟨ge, 0, none⟩) nd.eqs.length ce, .int .i64 (nd.at_ : Int)] := (hp.on_ 45 rfl rfl rfl).2
        refine ⟨wanted_some rfl rfl rfl (hp.on_ 42 rfl rfl rfl).1 (hp.on_ 42 rfl rfl rfl).2, 28, _, run_enter2 rfl rfl Try.call28, ?_⟩
        show Calls _ _ #[xa.tmps.getD 78 undef, _] W _
        rw [f0]
        refine (KO.out W hp.below).mono (fun e' W' h => ?_)
        obtain ⟨x9, c9, h1, h2, h3⟩ := h
        exact ⟨_, h1, ⟨x9, c9, rfl, h2.mono (ok' := (W5.heap.size ≤ ·)) (fun j hj _ => Nat.le_trans hp.below.size hj)⟩, h3⟩
      refine Steps.cons (step_value rfl fun xa W hp => ?_) ?_
      · have f0 : wRw W5.heap.size [] (xa.tmps.getD 79 undef) W := (hp.on_ 46 rfl rfl rfl).2
        obtain ⟨x0, c0, e0, t0⟩ := f0
        exact ⟨wanted_some rfl rfl rfl (hp.on_ 42 rfl rfl rfl).1 (hp.on_ 42 rfl rfl rfl).2, _, _, run_lenT rfl Try.underlying60 e0, rfl, Below.refl _ _⟩
      refine Steps.cons (step_value rfl fun xa W hp => ?_) ?_
      · have f0 : xa.tmps.getD 80 undef = .int .i64 0 := (hp.on_ 47 rfl rfl rfl).2
        refine ⟨wanted_some rfl rfl rfl (hp.on_ 42 rfl rfl rfl).1 (hp.on_ 42 rfl rfl rfl).2, _, _, run_bin3 rfl (v := .bool true) ?_ ?_, rfl, Below.refl _ _⟩
        · show (eqGuard .eql _ _ _ (xa.tmps.getD 80 undef) _).run _ W = _
          rw [f0]; first | rfl | kernel_rfl
        · show (binOp .eql _ (xa.tmps.getD 80 undef) _).run _ W = _
          rw [f0]; kernel_rfl
      refine Steps.cons (step_value rfl fun xa W hp => ⟨wanted_none rfl, _, _, run_pick rfl (hp.on_ 42 rfl rfl rfl).2, (hp.on_ 48 rfl rfl rfl).2, Below.refl _ _⟩) ?_
      refine Steps.cons (step_value rfl fun xa W hp => ⟨wanted_none rfl, _, _, run_move (.inr rfl), (hp.on_ 49 rfl rfl rfl).2, Below.refl _ _⟩) ?_
      exact Steps.nil
    case rest =>
      intro act W hI
      have HBF := Lib.hid hI.below
      have h0 : act.tmps.getD 0 undef = .bool true := hI.new 50 _ 0 rfl rfl rfl
      have hsz_ : act.tmps.size = 83 := hI.tmps
      have hdf_ : act.defers = [] := hI.defers
      obtain ⟨fo, hf, hx⟩ := act_eta hsz_ hdf_
      rw [hf] at h0
      clear hI hsz_ hdf_ hf
      subst hx
      have hl : ((List.range 83).map fo).toArray = (fo 0 :: fo 1 :: fo 2 :: fo 3 :: fo 4 :: fo 5 :: fo 6 :: fo 7 :: fo 8 :: fo 9 :: fo 10 :: fo 11 :: fo 12 :: fo 13 :: fo 14 :: fo 15 :: fo 16 :: fo 17 :: fo 18 :: fo 19 :: fo 20 :: fo 21 :: fo 22 :: fo 23 :: fo 24 :: fo 25 :: fo 26 :: fo 27 :: fo 28 :: fo 29 :: fo 30 :: fo 31 :: fo 32 :: fo 33 :: fo 34 :: fo 35 :: fo 36 :: fo 37 :: fo 38 :: fo 39 :: fo 40 :: fo 41 :: fo 42 :: fo 43 :: fo 44 :: fo 45 :: fo 46 :: fo 47 :: fo 48 :: fo 49 :: fo 50 :: fo 51 :: fo 52 :: fo 53 :: fo 54 :: fo 55 :: fo 56 :: fo 57 :: fo 58 :: fo 59 :: fo 60 :: fo 61 :: fo 62 :: fo 63 :: fo 64 :: fo 65 :: fo 66 :: fo 67 :: fo 68 :: fo 69 :: fo 70 :: fo 71 :: fo 72 :: fo 73 :: fo 74 :: fo 75 :: fo 76 :: fo 77 :: fo 78 :: fo 79 :: fo 80 :: fo 81 :: fo 82 :: []).toArray := rfl
      simp only [Exit.inBlock, Exit.then, Act.put]
      rw [hl, h0]
      clear hl h0
      go_wp2_with fail
      go_ret
      exact ⟨rfl, HB5.out.trans (HBF.out.mono HB5.out.size)⟩
end Go.Proofs.Ytfajafjikpmgpaa

namespace Go.Proofs.Ytfajafjikpmgpaa
open Go Go.RowKit
/-- A text whose bytes are known, and what its first fault is. -/
theorem fault8_val {t : ByteArray} {L : List UInt8} {o : Option Nat} (ht : t.data.toList = L) (hl : L.length ≤ 1000) (h1 : (treeL L).all okNd = true) (h2 : clkF (treeL L) = o) (w : World) : Calls Try.prog 23 #[.string t] w (GivesO 10 o w) := by
  have e : treeOf t = treeL L := by rw [treeOf_list, ht]
  have hs : t.size ≤ 1000 := by have : t.data.toList.length = t.size := by simp
                                rw [ht] at this; omega
  have h := fault8_any t w (by omega) (by rw [e]; exact okNd_all8 h1)
  rw [e, h2] at h
  exact h
theorem fault8_ok {t : ByteArray} {L : List UInt8} {ok : Bool} (ht : t.data.toList = L) (hl : L.length ≤ 1000) (h1 : (treeL L).all okNd = true) (h2 : (clkF (treeL L)).isNone = ok) (w : World) : Calls Try.prog 23 #[.string t] w (fun e w' => ∃ er ea : Int, e = .returned (.agg #[.int .i64 er, .int .i64 ea]) ∧ (er == 0) = ok ∧ Below w.heap.size w w') := by
  refine (fault8_val ht hl h1 rfl w).mono ?_
  rintro e9 w' ⟨rfl, hb⟩
  refine ⟨_, _, rfl, ?_, hb⟩
  rw [← h2]
  cases clkF (treeL L) with
  | none => rfl
  | some a => rfl
def fine8 (L : List UInt8) (ok : Bool) : Bool := (treeL L).all okNd && ((clkF (treeL L)).isNone == ok && (perL L == 0 && (decide (L.length ≤ 1000) && (treeL L).length == 1)))
theorem fine8_spec {L : List UInt8} {ok : Bool} (h : fine8 L ok = true) : (treeL L).all okNd = true ∧ (clkF (treeL L)).isNone = ok ∧ perL L = 0 ∧ L.length ≤ 1000 ∧ (treeL L).length = 1 := by
  unfold fine8 at h
  simp only [Bool.and_eq_true, beq_iff_eq, decide_eq_true_eq] at h
  exact h
theorem fault8_fine {t : ByteArray} {L : List UInt8} {ok : Bool} (ht : t.data.toList = L) (h : fine8 L ok = true) (w : World) : Calls Try.prog 23 #[.string t] w (fun e w' => ∃ er ea : Int, e = .returned (.agg #[.int .i64 er, .int .i64 ea]) ∧ (er == 0) = ok ∧ Below w.heap.size w w') := fault8_ok ht (fine8_spec h).2.2.2.1 (fine8_spec h).1 (fine8_spec h).2.1 w
theorem parse8_fine {t : ByteArray} {L : List UInt8} {ok : Bool} (ht : t.data.toList = L) (h : fine8 L ok = true) (w : World) : Calls Try.prog 32 #[.string t] w (fun e w' => ∃ x c q, e = .returned (.tuple #[.slice x 1 c, .agg #[.int .i64 0, .int .i64 q]]) ∧ Below w.heap.size w w') := by
  have hl := (fine8_spec h).2.2.2.1
  have hs : t.size ≤ 1000 := by
    have : t.data.toList.length = t.size := by simp
    rw [ht] at this; omega
  refine (parse_at t w (by omega)).mono ?_
  rintro e9 w' ⟨x, c, rfl, _, hb⟩
  rw [perOf_list, treeOf_list, ht, (fine8_spec h).2.2.1, (fine8_spec h).2.2.2.2]
  exact ⟨_, _, _, rfl, hb⟩
theorem fld8_bad0 (a b : Int) (W : World) : (Instr.field 30 (.agg #[.int .i64 a, .int .i64 b]) 0).run Try.prog W = .ok (.int .i64 a) W := by kernel_rfl
theorem fld8_bad1 (a b : Int) (W : World) : (Instr.field 30 (.agg #[.int .i64 a, .int .i64 b]) 1).run Try.prog W = .ok (.int .i64 b) W := by kernel_rfl
theorem k8_ok0 : (treeL [110, 111, 100, 101, 32, 102, 40, 99, 58, 32, 98, 111, 111, 108, 59, 32, 120, 58, 32, 105, 110, 116, 41, 32, 114, 101, 116, 117, 114, 110, 115, 32, 40, 121, 58, 32, 105, 110, 116, 41, 59, 32, 108, 101, 116, 32, 121, 32, 61, 32, 120, 32, 119, 104, 101, 110, 32, 99, 59, 32, 116, 101, 108]).all okNd = true := by kernel_rfl
theorem k8_at0 : clkF (treeL [110, 111, 100, 101, 32, 102, 40, 99, 58, 32, 98, 111, 111, 108, 59, 32, 120, 58, 32, 105, 110, 116, 41, 32, 114, 101, 116, 117, 114, 110, 115, 32, 40, 121, 58, 32, 105, 110, 116, 41, 59, 32, 108, 101, 116, 32, 121, 32, 61, 32, 120, 32, 119, 104, 101, 110, 32, 99, 59, 32, 116, 101, 108]) = some 46 := by kernel_rfl
theorem k8_any0 (w : World) : Calls Try.prog 23 #[.string (⟨(110 :: 111 :: 100 :: 101 :: 32 :: 102 :: 40 :: 99 :: 58 :: 32 :: 98 :: 111 :: 111 :: 108 :: 59 :: 32 :: 120 :: 58 :: 32 :: 105 :: 110 :: 116 :: 41 :: 32 :: 114 :: 101 :: 116 :: 117 :: 114 :: 110 :: 115 :: 32 :: 40 :: 121 :: 58 :: 32 :: 105 :: 110 :: 116 :: 41 :: 59 :: 32 :: 108 :: 101 :: 116 :: 32 :: 121 :: 32 :: 61 :: 32 :: 120 :: 32 :: 119 :: 104 :: 101 :: 110 :: 32 :: 99 :: 59 :: 32 :: 116 :: 101 :: 108 :: []).toArray⟩ : ByteArray)] w (fun e w' => e = .returned (.agg #[.int .i64 10, .int .i64 46]) ∧ Below w.heap.size w w') := fault8_val (L := [110, 111, 100, 101, 32, 102, 40, 99, 58, 32, 98, 111, 111, 108, 59, 32, 120, 58, 32, 105, 110, 116, 41, 32, 114, 101, 116, 117, 114, 110, 115, 32, 40, 121, 58, 32, 105, 110, 116, 41, 59, 32, 108, 101, 116, 32, 121, 32, 61, 32, 120, 32, 119, 104, 101, 110, 32, 99, 59, 32, 116, 101, 108]) rfl (by decide) k8_ok0 k8_at0 w
theorem k8_ok1 : (treeL [110, 111, 100, 101, 32, 102, 40, 99, 58, 32, 98, 111, 111, 108, 59, 32, 120, 58, 32, 105, 110, 116, 41, 32, 114, 101, 116, 117, 114, 110, 115, 32, 40, 121, 58, 32, 105, 110, 116, 41, 59, 32, 108, 101, 116, 32, 121, 32, 61, 32, 109, 101, 114, 103, 101, 32, 99, 32, 40, 120, 41, 32, 49, 59, 32, 116, 101, 108]).all okNd = true := by kernel_rfl
theorem k8_at1 : clkF (treeL [110, 111, 100, 101, 32, 102, 40, 99, 58, 32, 98, 111, 111, 108, 59, 32, 120, 58, 32, 105, 110, 116, 41, 32, 114, 101, 116, 117, 114, 110, 115, 32, 40, 121, 58, 32, 105, 110, 116, 41, 59, 32, 108, 101, 116, 32, 121, 32, 61, 32, 109, 101, 114, 103, 101, 32, 99, 32, 40, 120, 41, 32, 49, 59, 32, 116, 101, 108]) = some 50 := by kernel_rfl
theorem k8_any1 (w : World) : Calls Try.prog 23 #[.string (⟨(110 :: 111 :: 100 :: 101 :: 32 :: 102 :: 40 :: 99 :: 58 :: 32 :: 98 :: 111 :: 111 :: 108 :: 59 :: 32 :: 120 :: 58 :: 32 :: 105 :: 110 :: 116 :: 41 :: 32 :: 114 :: 101 :: 116 :: 117 :: 114 :: 110 :: 115 :: 32 :: 40 :: 121 :: 58 :: 32 :: 105 :: 110 :: 116 :: 41 :: 59 :: 32 :: 108 :: 101 :: 116 :: 32 :: 121 :: 32 :: 61 :: 32 :: 109 :: 101 :: 114 :: 103 :: 101 :: 32 :: 99 :: 32 :: 40 :: 120 :: 41 :: 32 :: 49 :: 59 :: 32 :: 116 :: 101 :: 108 :: []).toArray⟩ : ByteArray)] w (fun e w' => e = .returned (.agg #[.int .i64 10, .int .i64 50]) ∧ Below w.heap.size w w') := fault8_val (L := [110, 111, 100, 101, 32, 102, 40, 99, 58, 32, 98, 111, 111, 108, 59, 32, 120, 58, 32, 105, 110, 116, 41, 32, 114, 101, 116, 117, 114, 110, 115, 32, 40, 121, 58, 32, 105, 110, 116, 41, 59, 32, 108, 101, 116, 32, 121, 32, 61, 32, 109, 101, 114, 103, 101, 32, 99, 32, 40, 120, 41, 32, 49, 59, 32, 116, 101, 108]) rfl (by decide) k8_ok1 k8_at1 w
theorem k8_ok2 : (treeL [110, 111, 100, 101, 32, 102, 40, 99, 58, 32, 98, 111, 111, 108, 59, 32, 120, 58, 32, 105, 110, 116, 41, 32, 114, 101, 116, 117, 114, 110, 115, 32, 40, 121, 58, 32, 105, 110, 116, 41, 59, 32, 108, 101, 116, 32, 121, 32, 61, 32, 109, 101, 114, 103, 101, 32, 99, 32, 40, 120, 32, 119, 104, 101, 110, 32, 99, 41, 32, 40, 48, 32, 45, 62, 32, 49, 41, 59, 32, 116, 101, 108]).all okNd = true := by kernel_rfl
theorem k8_at2 : clkF (treeL [110, 111, 100, 101, 32, 102, 40, 99, 58, 32, 98, 111, 111, 108, 59, 32, 120, 58, 32, 105, 110, 116, 41, 32, 114, 101, 116, 117, 114, 110, 115, 32, 40, 121, 58, 32, 105, 110, 116, 41, 59, 32, 108, 101, 116, 32, 121, 32, 61, 32, 109, 101, 114, 103, 101, 32, 99, 32, 40, 120, 32, 119, 104, 101, 110, 32, 99, 41, 32, 40, 48, 32, 45, 62, 32, 49, 41, 59, 32, 116, 101, 108]) = none := by kernel_rfl
theorem k8_any2 (w : World) : Calls Try.prog 23 #[.string (⟨(110 :: 111 :: 100 :: 101 :: 32 :: 102 :: 40 :: 99 :: 58 :: 32 :: 98 :: 111 :: 111 :: 108 :: 59 :: 32 :: 120 :: 58 :: 32 :: 105 :: 110 :: 116 :: 41 :: 32 :: 114 :: 101 :: 116 :: 117 :: 114 :: 110 :: 115 :: 32 :: 40 :: 121 :: 58 :: 32 :: 105 :: 110 :: 116 :: 41 :: 59 :: 32 :: 108 :: 101 :: 116 :: 32 :: 121 :: 32 :: 61 :: 32 :: 109 :: 101 :: 114 :: 103 :: 101 :: 32 :: 99 :: 32 :: 40 :: 120 :: 32 :: 119 :: 104 :: 101 :: 110 :: 32 :: 99 :: 41 :: 32 :: 40 :: 48 :: 32 :: 45 :: 62 :: 32 :: 49 :: 41 :: 59 :: 32 :: 116 :: 101 :: 108 :: []).toArray⟩ : ByteArray)] w (fun e w' => e = .returned (.agg #[.int .i64 0, .int .i64 0]) ∧ Below w.heap.size w w') := fault8_val (L := [110, 111, 100, 101, 32, 102, 40, 99, 58, 32, 98, 111, 111, 108, 59, 32, 120, 58, 32, 105, 110, 116, 41, 32, 114, 101, 116, 117, 114, 110, 115, 32, 40, 121, 58, 32, 105, 110, 116, 41, 59, 32, 108, 101, 116, 32, 121, 32, 61, 32, 109, 101, 114, 103, 101, 32, 99, 32, 40, 120, 32, 119, 104, 101, 110, 32, 99, 41, 32, 40, 48, 32, 45, 62, 32, 49, 41, 59, 32, 116, 101, 108]) rfl (by decide) k8_ok2 k8_at2 w
theorem k8_ok3 : (treeL [110, 111, 100, 101, 32, 102, 40, 99, 58, 32, 98, 111, 111, 108, 41, 32, 114, 101, 116, 117, 114, 110, 115, 32, 40, 121, 58, 32, 98, 111, 111, 108, 41, 59, 32, 108, 101, 116, 32, 121, 32, 61, 32, 40, 99, 32, 119, 104, 101, 110, 32, 99, 41, 32, 119, 104, 101, 110, 32, 99, 59, 32, 116, 101, 108]).all okNd = true := by kernel_rfl
theorem k8_at3 : (clkF (treeL [110, 111, 100, 101, 32, 102, 40, 99, 58, 32, 98, 111, 111, 108, 41, 32, 114, 101, 116, 117, 114, 110, 115, 32, 40, 121, 58, 32, 98, 111, 111, 108, 41, 59, 32, 108, 101, 116, 32, 121, 32, 61, 32, 40, 99, 32, 119, 104, 101, 110, 32, 99, 41, 32, 119, 104, 101, 110, 32, 99, 59, 32, 116, 101, 108])).isSome = true := by kernel_rfl
theorem k8_any3 (w : World) : Calls Try.prog 23 #[.string (⟨(110 :: 111 :: 100 :: 101 :: 32 :: 102 :: 40 :: 99 :: 58 :: 32 :: 98 :: 111 :: 111 :: 108 :: 41 :: 32 :: 114 :: 101 :: 116 :: 117 :: 114 :: 110 :: 115 :: 32 :: 40 :: 121 :: 58 :: 32 :: 98 :: 111 :: 111 :: 108 :: 41 :: 59 :: 32 :: 108 :: 101 :: 116 :: 32 :: 121 :: 32 :: 61 :: 32 :: 40 :: 99 :: 32 :: 119 :: 104 :: 101 :: 110 :: 32 :: 99 :: 41 :: 32 :: 119 :: 104 :: 101 :: 110 :: 32 :: 99 :: 59 :: 32 :: 116 :: 101 :: 108 :: []).toArray⟩ : ByteArray)] w (fun e w' => ∃ a : Int, e = .returned (.agg #[.int .i64 10, .int .i64 a]) ∧ Below w.heap.size w w') := by
  obtain ⟨a, ha⟩ := Option.isSome_iff_exists.1 k8_at3
  refine (fault8_val (L := [110, 111, 100, 101, 32, 102, 40, 99, 58, 32, 98, 111, 111, 108, 41, 32, 114, 101, 116, 117, 114, 110, 115, 32, 40, 121, 58, 32, 98, 111, 111, 108, 41, 59, 32, 108, 101, 116, 32, 121, 32, 61, 32, 40, 99, 32, 119, 104, 101, 110, 32, 99, 41, 32, 119, 104, 101, 110, 32, 99, 59, 32, 116, 101, 108]) rfl (by decide) k8_ok3 ha w).mono ?_
  rintro e9 w' ⟨rfl, hb⟩
  exact ⟨_, rfl, hb⟩
end Go.Proofs.Ytfajafjikpmgpaa

namespace Go.Proofs.Ytfajafjikpmgpaa
open Go Go.RowKit
def e8A : List ByteArray := [⟨#[120]⟩, ⟨#[40, 120, 32, 119, 104, 101, 110, 32, 99, 41]⟩, ⟨#[40, 120, 32, 119, 104, 101, 110, 32, 110, 111, 116, 32, 99, 41]⟩, ⟨#[40, 120, 32, 119, 104, 101, 110, 32, 100, 41]⟩, ⟨#[49]⟩, ⟨#[40, 50, 32, 45, 62, 32, 51, 41]⟩]
def e8B (i : Nat) : ByteArray := e8A.getD i ⟨#[]⟩
def e8L (i : Nat) : List UInt8 := (e8A.map (fun s => s.data.toList)).getD i []
theorem e8_at (j : Nat) (h : j < 6) : (#[.string ⟨#[120]⟩, .string ⟨#[40, 120, 32, 119, 104, 101, 110, 32, 99, 41]⟩, .string ⟨#[40, 120, 32, 119, 104, 101, 110, 32, 110, 111, 116, 32, 99, 41]⟩, .string ⟨#[40, 120, 32, 119, 104, 101, 110, 32, 100, 41]⟩, .string ⟨#[49]⟩, .string ⟨#[40, 50, 32, 45, 62, 32, 51, 41]⟩] : Array Value)[j]? = some (.string (e8B j)) := by
  have e : (#[.string ⟨#[120]⟩, .string ⟨#[40, 120, 32, 119, 104, 101, 110, 32, 99, 41]⟩, .string ⟨#[40, 120, 32, 119, 104, 101, 110, 32, 110, 111, 116, 32, 99, 41]⟩, .string ⟨#[40, 120, 32, 119, 104, 101, 110, 32, 100, 41]⟩, .string ⟨#[49]⟩, .string ⟨#[40, 50, 32, 45, 62, 32, 51, 41]⟩] : Array Value) = (e8A.map Value.string).toArray := rfl
  rw [e, List.getElem?_toArray, List.getElem?_map]
  unfold e8B
  rw [List.getD_eq_getElem?_getD]
  have hl : j < e8A.length := h
  rw [List.getElem?_eq_getElem hl]
  rfl
theorem e8_list (j : Nat) (h : j < 6) : (e8B j).data.toList = e8L j := by
  unfold e8B e8L
  rw [List.getD_eq_getElem?_getD, List.getD_eq_getElem?_getD, List.getElem?_map]
  have hl : j < e8A.length := h
  rw [List.getElem?_eq_getElem hl]
  rfl
theorem e8_size (j : Nat) : (e8B j).size ≤ 14 := by
  by_cases h : j < 6
  · match j, h with
    | 0, _ | 1, _ | 2, _ | 3, _ | 4, _ | 5, _ => decide
    | _ + 6, h => omega
  · unfold e8B
    rw [List.getD_eq_getElem?_getD, List.getElem?_eq_none (by show 6 ≤ j; omega)]
    decide
def on8A : List ByteArray := [⟨#[]⟩, ⟨#[32, 119, 104, 101, 110, 32, 99]⟩, ⟨#[32, 119, 104, 101, 110, 32, 110, 111, 116, 32, 99]⟩, ⟨#[32, 119, 104, 101, 110, 32, 100]⟩, ⟨#[]⟩, ⟨#[]⟩]
def on8B (i : Nat) : ByteArray := on8A.getD i ⟨#[]⟩
def on8L (i : Nat) : List UInt8 := (on8A.map (fun s => s.data.toList)).getD i []
theorem on8_at (j : Nat) (h : j < 6) : (#[.string ⟨#[]⟩, .string ⟨#[32, 119, 104, 101, 110, 32, 99]⟩, .string ⟨#[32, 119, 104, 101, 110, 32, 110, 111, 116, 32, 99]⟩, .string ⟨#[32, 119, 104, 101, 110, 32, 100]⟩, .string ⟨#[]⟩, .string ⟨#[]⟩] : Array Value)[j]? = some (.string (on8B j)) := by
  have e : (#[.string ⟨#[]⟩, .string ⟨#[32, 119, 104, 101, 110, 32, 99]⟩, .string ⟨#[32, 119, 104, 101, 110, 32, 110, 111, 116, 32, 99]⟩, .string ⟨#[32, 119, 104, 101, 110, 32, 100]⟩, .string ⟨#[]⟩, .string ⟨#[]⟩] : Array Value) = (on8A.map Value.string).toArray := rfl
  rw [e, List.getElem?_toArray, List.getElem?_map]
  unfold on8B
  rw [List.getD_eq_getElem?_getD]
  have hl : j < on8A.length := h
  rw [List.getElem?_eq_getElem hl]
  rfl
theorem on8_list (j : Nat) (h : j < 6) : (on8B j).data.toList = on8L j := by
  unfold on8B on8L
  rw [List.getD_eq_getElem?_getD, List.getD_eq_getElem?_getD, List.getElem?_map]
  have hl : j < on8A.length := h
  rw [List.getElem?_eq_getElem hl]
  rfl
theorem on8_size (j : Nat) : (on8B j).size ≤ 12 := by
  by_cases h : j < 6
  · match j, h with
    | 0, _ | 1, _ | 2, _ | 3, _ | 4, _ | 5, _ => decide
    | _ + 6, h => omega
  · unfold on8B
    rw [List.getD_eq_getElem?_getD, List.getElem?_eq_none (by show 6 ≤ j; omega)]
    decide
def op8A : List ByteArray := [⟨#[43]⟩, ⟨#[45, 62]⟩, ⟨#[102, 98, 121]⟩, ⟨#[42]⟩, ⟨#[60]⟩]
def op8B (i : Nat) : ByteArray := op8A.getD i ⟨#[]⟩
def op8L (i : Nat) : List UInt8 := (op8A.map (fun s => s.data.toList)).getD i []
theorem op8_at (j : Nat) (h : j < 5) : (#[.string ⟨#[43]⟩, .string ⟨#[45, 62]⟩, .string ⟨#[102, 98, 121]⟩, .string ⟨#[42]⟩, .string ⟨#[60]⟩] : Array Value)[j]? = some (.string (op8B j)) := by
  have e : (#[.string ⟨#[43]⟩, .string ⟨#[45, 62]⟩, .string ⟨#[102, 98, 121]⟩, .string ⟨#[42]⟩, .string ⟨#[60]⟩] : Array Value) = (op8A.map Value.string).toArray := rfl
  rw [e, List.getElem?_toArray, List.getElem?_map]
  unfold op8B
  rw [List.getD_eq_getElem?_getD]
  have hl : j < op8A.length := h
  rw [List.getElem?_eq_getElem hl]
  rfl
theorem op8_list (j : Nat) (h : j < 5) : (op8B j).data.toList = op8L j := by
  unfold op8B op8L
  rw [List.getD_eq_getElem?_getD, List.getD_eq_getElem?_getD, List.getElem?_map]
  have hl : j < op8A.length := h
  rw [List.getElem?_eq_getElem hl]
  rfl
theorem op8_size (j : Nat) : (op8B j).size ≤ 3 := by
  by_cases h : j < 5
  · match j, h with
    | 0, _ | 1, _ | 2, _ | 3, _ | 4, _ => decide
    | _ + 5, h => omega
  · unfold op8B
    rw [List.getD_eq_getElem?_getD, List.getElem?_eq_none (by show 5 ≤ j; omega)]
    decide
theorem op8_lt (o : Nat) (h : o < 4) : ((op8B o).toList == [60]) = false := by
  rw [Lib.toList_data]
  match o, h with
  | 0, _ | 1, _ | 2, _ | 3, _ => rfl
  | _ + 4, h => omega
theorem op8_is : ((op8B 4).toList == [60]) = true := by rw [Lib.toList_data]; rfl
def kd8L (o : Nat) : List UInt8 := if o = 4 then [98, 111, 111, 108] else [105, 110, 116]
def w8 (i k : Nat) : Nat := if i ≤ 3 then i else k
def ok8 (i k : Nat) : Bool := i == k || (decide (3 < i) || decide (3 < k))
def top8L (i k o : Nat) : List UInt8 := [110, 111, 100, 101, 32, 102, 40, 99, 44, 32, 100, 58, 32, 98, 111, 111, 108, 59, 32, 120, 58, 32, 105, 110, 116, 41, 32, 114, 101, 116, 117, 114, 110, 115, 32, 40, 121, 58, 32, 105, 110, 116, 41, 59, 32, 118, 97, 114, 32, 117, 58, 32] ++ (kd8L o ++ (on8L (w8 i k) ++ ([59, 32, 108, 101, 116, 32, 117, 32, 61, 32] ++ (e8L i ++ ([32] ++ (op8L o ++ ([32] ++ (e8L k ++ [59, 32, 121, 32, 61, 32, 120, 59, 32, 116, 101, 108]))))))))
set_option maxRecDepth 100000 in
theorem top8_all0 : ((List.range 6).all fun k => (List.range 5).all fun o => fine8 (top8L 0 k o) (ok8 0 k)) = true := by kernel_rfl
set_option maxRecDepth 100000 in
theorem top8_all1 : ((List.range 6).all fun k => (List.range 5).all fun o => fine8 (top8L 1 k o) (ok8 1 k)) = true := by kernel_rfl
set_option maxRecDepth 100000 in
theorem top8_all2 : ((List.range 6).all fun k => (List.range 5).all fun o => fine8 (top8L 2 k o) (ok8 2 k)) = true := by kernel_rfl
set_option maxRecDepth 100000 in
theorem top8_all3 : ((List.range 6).all fun k => (List.range 5).all fun o => fine8 (top8L 3 k o) (ok8 3 k)) = true := by kernel_rfl
set_option maxRecDepth 100000 in
theorem top8_all4 : ((List.range 6).all fun k => (List.range 5).all fun o => fine8 (top8L 4 k o) (ok8 4 k)) = true := by kernel_rfl
set_option maxRecDepth 100000 in
theorem top8_all5 : ((List.range 6).all fun k => (List.range 5).all fun o => fine8 (top8L 5 k o) (ok8 5 k)) = true := by kernel_rfl
theorem top8_fine (i k o : Nat) (hi : i < 6) (hk : k < 6) (ho : o < 5) : fine8 (top8L i k o) (ok8 i k) = true := by
  match i, hi with
  | 0, _ => exact List.all_eq_true.1 (List.all_eq_true.1 top8_all0 k (List.mem_range.2 hk)) o (List.mem_range.2 ho)
  | 1, _ => exact List.all_eq_true.1 (List.all_eq_true.1 top8_all1 k (List.mem_range.2 hk)) o (List.mem_range.2 ho)
  | 2, _ => exact List.all_eq_true.1 (List.all_eq_true.1 top8_all2 k (List.mem_range.2 hk)) o (List.mem_range.2 ho)
  | 3, _ => exact List.all_eq_true.1 (List.all_eq_true.1 top8_all3 k (List.mem_range.2 hk)) o (List.mem_range.2 ho)
  | 4, _ => exact List.all_eq_true.1 (List.all_eq_true.1 top8_all4 k (List.mem_range.2 hk)) o (List.mem_range.2 ho)
  | 5, _ => exact List.all_eq_true.1 (List.all_eq_true.1 top8_all5 k (List.mem_range.2 hk)) o (List.mem_range.2 ho)
  | _ + 6, h => omega
theorem top8_int_i (i k o : Nat) (hi : i < 6) (hk : k < 6) (ho : o < 5) (hw : i ≤ 3) (hd : ¬ o = 4) : (((((((((((⟨#[110, 111, 100, 101, 32, 102, 40, 99, 44, 32, 100, 58, 32, 98, 111, 111, 108, 59, 32, 120, 58, 32, 105, 110, 116, 41, 32, 114, 101, 116, 117, 114, 110, 115, 32, 40, 121, 58, 32, 105, 110, 116, 41, 59, 32, 118, 97, 114, 32, 117, 58, 32]⟩ : ByteArray) ++ (⟨#[105, 110, 116]⟩ : ByteArray)) ++ on8B i) ++ (⟨#[59, 32, 108, 101, 116, 32, 117, 32, 61, 32]⟩ : ByteArray)) ++ e8B i) ++ (⟨#[32]⟩ : ByteArray)) ++ op8B o) ++ (⟨#[32]⟩ : ByteArray)) ++ e8B k) ++ (⟨#[59, 32, 121, 32, 61, 32, 120, 59, 32, 116, 101, 108]⟩ : ByteArray)) : ByteArray).data.toList = top8L i k o := by
  unfold top8L kd8L w8
  rw [if_pos hw, if_neg hd]
  simp only [app_lst, op8_list o ho, e8_list i hi, e8_list k hk, on8_list i hi, List.append_assoc]
theorem top8_int_k (i k o : Nat) (hi : i < 6) (hk : k < 6) (ho : o < 5) (hw : ¬ i ≤ 3) (hd : ¬ o = 4) : (((((((((((⟨#[110, 111, 100, 101, 32, 102, 40, 99, 44, 32, 100, 58, 32, 98, 111, 111, 108, 59, 32, 120, 58, 32, 105, 110, 116, 41, 32, 114, 101, 116, 117, 114, 110, 115, 32, 40, 121, 58, 32, 105, 110, 116, 41, 59, 32, 118, 97, 114, 32, 117, 58, 32]⟩ : ByteArray) ++ (⟨#[105, 110, 116]⟩ : ByteArray)) ++ on8B k) ++ (⟨#[59, 32, 108, 101, 116, 32, 117, 32, 61, 32]⟩ : ByteArray)) ++ e8B i) ++ (⟨#[32]⟩ : ByteArray)) ++ op8B o) ++ (⟨#[32]⟩ : ByteArray)) ++ e8B k) ++ (⟨#[59, 32, 121, 32, 61, 32, 120, 59, 32, 116, 101, 108]⟩ : ByteArray)) : ByteArray).data.toList = top8L i k o := by
  unfold top8L kd8L w8
  rw [if_neg hw, if_neg hd]
  simp only [app_lst, op8_list o ho, e8_list i hi, e8_list k hk, on8_list k hk, List.append_assoc]
theorem top8_bool_i (i k o : Nat) (hi : i < 6) (hk : k < 6) (ho : o < 5) (hw : i ≤ 3) (hd : o = 4) : (((((((((((⟨#[110, 111, 100, 101, 32, 102, 40, 99, 44, 32, 100, 58, 32, 98, 111, 111, 108, 59, 32, 120, 58, 32, 105, 110, 116, 41, 32, 114, 101, 116, 117, 114, 110, 115, 32, 40, 121, 58, 32, 105, 110, 116, 41, 59, 32, 118, 97, 114, 32, 117, 58, 32]⟩ : ByteArray) ++ (⟨#[98, 111, 111, 108]⟩ : ByteArray)) ++ on8B i) ++ (⟨#[59, 32, 108, 101, 116, 32, 117, 32, 61, 32]⟩ : ByteArray)) ++ e8B i) ++ (⟨#[32]⟩ : ByteArray)) ++ op8B o) ++ (⟨#[32]⟩ : ByteArray)) ++ e8B k) ++ (⟨#[59, 32, 121, 32, 61, 32, 120, 59, 32, 116, 101, 108]⟩ : ByteArray)) : ByteArray).data.toList = top8L i k o := by
  unfold top8L kd8L w8
  rw [if_pos hw, if_pos hd]
  simp only [app_lst, op8_list o ho, e8_list i hi, e8_list k hk, on8_list i hi, List.append_assoc]
theorem top8_bool_k (i k o : Nat) (hi : i < 6) (hk : k < 6) (ho : o < 5) (hw : ¬ i ≤ 3) (hd : o = 4) : (((((((((((⟨#[110, 111, 100, 101, 32, 102, 40, 99, 44, 32, 100, 58, 32, 98, 111, 111, 108, 59, 32, 120, 58, 32, 105, 110, 116, 41, 32, 114, 101, 116, 117, 114, 110, 115, 32, 40, 121, 58, 32, 105, 110, 116, 41, 59, 32, 118, 97, 114, 32, 117, 58, 32]⟩ : ByteArray) ++ (⟨#[98, 111, 111, 108]⟩ : ByteArray)) ++ on8B k) ++ (⟨#[59, 32, 108, 101, 116, 32, 117, 32, 61, 32]⟩ : ByteArray)) ++ e8B i) ++ (⟨#[32]⟩ : ByteArray)) ++ op8B o) ++ (⟨#[32]⟩ : ByteArray)) ++ e8B k) ++ (⟨#[59, 32, 121, 32, 61, 32, 120, 59, 32, 116, 101, 108]⟩ : ByteArray)) : ByteArray).data.toList = top8L i k o := by
  unfold top8L kd8L w8
  rw [if_neg hw, if_pos hd]
  simp only [app_lst, op8_list o ho, e8_list i hi, e8_list k hk, on8_list k hk, List.append_assoc]
end Go.Proofs.Ytfajafjikpmgpaa
