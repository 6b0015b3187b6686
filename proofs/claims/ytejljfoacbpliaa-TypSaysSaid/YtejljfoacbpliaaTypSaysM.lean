/-
  Proved: TypSays of escapementlaw7 returns true for every input, and leaves what it was handed as it was. No conditions.
-/
import Derived.Test.YtejljfoacbpliaaMf
import Derived.Test.YtejljfoacbpliaaRows
import Derived.WalkKit
import Derived.ProofKit
import Derived.OpenShut
import Derived.ShutString
import Derived.ChangeOld
import Derived.SizedLaws
namespace Go.Proofs.Ytejljfoacbpliaa.typSays
open Go.ChangeShapes Go.WideShapes Go.ChangeAt Go.RowKit
open Go.ChangeMaps (open_string shut_string)
set_option linter.unusedVariables false

theorem own : ownKnob Try.prog.godebug = none := by kernel_rfl
theorem laidOut : laidOutB Try.prog = true := by kernel_rfl

theorem run_enter3s {P : Program} {o : Oper} {ρ : Operand → Value} {f : FuncId} {x y z : Operand} {ts : Array TypeId} {W : World} (ho : o.op = .call { callee := .value (.func f), args := #[x, y, z], argTypes := ts }) (hf : ρ (.func f) = .func (.func f) #[] #[]) (hcf : ∀ (args : Array Value) (w : World), (callFunc f args).run P w = .ok (.enter f args) w) :
    (execOp ρ o).run P W = .ok (.enter f #[ρ x, ρ y, ρ z]) W := by
  simp [execOp, ho, resolve, hf, invoke, Deferred.ofValue, hcf]

set_option maxHeartbeats 8000000 in
set_option maxRecDepth 100000 in
theorem walk (t : ByteArray) (w : World) (w_t : t.size ≤ 140737488351232) :
    Calls Try.prog 3 #[.string t] w fun e w' => e = .returned (.bool true) ∧ Below w.heap.size w w' := by
  have HA := Lib.hid (awake7_any w)
  by_cases h25 : t.size ≤ 2500
  · have d0 : decide ((2500 : Int) < (t.size : Int)) = false := by simp; omega
    have HT := Lib.hid (show t.size ≤ 1000000 by omega)
    obtain ⟨U, hU⟩ : ∃ U, U = upto6 t := ⟨_, rfl⟩
    have HKU : Hid (∀ W : World, Calls Try.prog 11 #[.string t, .int .i64 6] W (GivesU U W)) := Lib.hid (fun W => by rw [hU]; exact Upto_6 t HT.out W)
    have HUU := Lib.hid hU
    clear h25 hU
    go_enter Try.func3, Try.ntmps3
    go_wp2_with fail
    (with_reducible refine HA.out.mono ?_)
    rintro e w1 ⟨rfl, hb1⟩
    have HB1 := Lib.hid hb1
    have ku := HKU.out w1
    unfold GivesU at ku
    clear hb1 HA HKU
    cases U with
    | none =>
      go_wp2_with fail
      (with_reducible refine ku.mono ?_)
      rintro e w2 ⟨⟨hb2, _⟩, rfl⟩
      have HB2 := Lib.hid (HB1.out.trans (hb2.mono HB1.out.size))
      clear ku hb2
      go_wp2_with fail
      go_ret
      exact ⟨rfl, HB2.out⟩
    | some l =>
      obtain ⟨hgood, hfine⟩ := upto6_ok HT.out HUU.out.symm
      have HGD := Lib.hid hgood
      have HFI := Lib.hid hfine
      have HON : Hid (∀ (i : Nat) (h : i < l.length), okNd l[i] = true) := Lib.hid (fun i h => (hgood _ (List.getElem_mem h)).1)
      clear hgood hfine
      go_wp2_with fail
      (with_reducible refine ku.mono ?_)
      rintro e w2 ⟨⟨hb2, hz2⟩, xl, cl, rfl, hE, hL⟩
      have HB2 := Lib.hid (HB1.out.trans (hb2.mono HB1.out.size))
      have HE2 := Lib.hid hE
      have HL := Lib.hid hL
      have kb := Back_any l w2 hz2 _ xl cl hE
      unfold GivesBN at kb
      clear ku hb2 hz2 hE hL
      go_wp2_with fail
      (with_reducible refine kb.mono ?_)
      rintro e w3 ⟨xp, cp, rfl, hP, hb3⟩
      have HB3 := Lib.hid (HB2.out.trans (hb3.mono HB2.out.size))
      have HP3 := Lib.hid hP
      have HE3 := Lib.hid (IsD.below hb3 HE2.out)
      have kc := typCheck_any l HON.out w3 _ xp cp HP3.out
      unfold GivesO at kc
      obtain ⟨o, ho⟩ : ∃ o, o = typF l := ⟨_, rfl⟩
      rw [← ho] at kc
      have HO := Lib.hid ho
      clear kb hb3 hP ho
      go_wp2_with fail
      (with_reducible refine kc.mono ?_)
      rintro e w4 ⟨rfl, hb4⟩
      have HB4 := Lib.hid (HB3.out.trans (hb4.mono HB3.out.size))
      have HP4 := Lib.hid (IsD.below hb4 HP3.out)
      have HE4 := Lib.hid (IsD.below hb4 HE3.out)
      have kd := Bad_any (ferO 9 o) (fatO o) w4
      clear kc hb4
      go_wp2_with fail
      (with_reducible refine kd.mono ?_)
      rintro e w5 ⟨rfl, hb5⟩
      have HB5 := Lib.hid (HB4.out.trans (hb5.mono HB4.out.size))
      have HP5 := Lib.hid (IsD.below hb5 HP4.out)
      have HE5 := Lib.hid (IsD.below hb5 HE4.out)
      have kt : Calls Try.prog 15 #[.slice xl l.length cl] w5 (fun e w' => e = .returned (.agg #[.int .i64 (ferO 9 o), .int .i64 (fatO o)]) ∧ Below w5.heap.size w5 w') := by
        have h := Types_any l HON.out (fun i h q hq => HFI.out.wk i h q hq) w5 _ xl cl HE5.out
        rw [types_same HFI.out, ← HO.out, (out6_fer 9 o).1, (out6_fer 9 o).2] at h
        exact h
      obtain ⟨va, hva⟩ : ∃ va, va = ferO 9 o := ⟨_, rfl⟩
      obtain ⟨vb, hvb⟩ : ∃ vb, vb = fatO o := ⟨_, rfl⟩
      rw [← hva, ← hvb] at kt ⊢
      clear kd hb5 hva hvb
      go_wp2_with fail
      (with_reducible refine kt.mono ?_)
      rintro e w6 ⟨rfl, hb6⟩
      have HB6 := Lib.hid (HB5.out.trans (hb6.mono HB5.out.size))
      have HP6 := Lib.hid (IsD.below hb6 HP5.out)
      have HE6 := Lib.hid (IsD.below hb6 HE5.out)
      clear kt hb6
      go_wp2_with fail
      obtain ⟨w7, rfl⟩ : ∃ w7 : World, w7 = w6 := ⟨_, rfl⟩
      go_loopw [6] (fun v6 wr => ∃ i : Nat, v6 = .int .i64 (i : Int) ∧ i ≤ l.length ∧ Below w7.heap.size w7 wr)
        (fun v6 _ => l.length - (intOf v6).toNat)
      case atStart => exact ⟨0, rfl, Nat.zero_le _, Below.refl _ _⟩
      case round =>
        obtain ⟨i, rfl, hi, hbr⟩ := hrel
        have HI := Lib.hid hi
        have HBR := Lib.hid hbr
        clear hi hbr
        by_cases hil : i < l.length
        · have d1 : decide ((i : Int) < (l.length : Int)) = true := by simp; omega
          have HIL := Lib.hid hil
          obtain ⟨gp, rfl, hgp, pi, pci, po, pco, pl, pcl, pe, cpe, hrp, p1, p2, p3, hpe⟩ := nd_at HP6.out i hil
          obtain ⟨gl, rfl, hgl, li, lci, lo, lco, ll, lcl, le, cle, hrl, p4, p5, p6, hle⟩ := nd_at HE6.out i hil
          obtain ⟨n, hn⟩ : ∃ n, n = l[i]'HIL.out := ⟨_, rfl⟩
          rw [← hn] at hrp hpe hrl hle
          have HNN := Lib.hid hn
          have HGP := Lib.hid hgp
          have HGL := Lib.hid hgl
          have HCP := Lib.hid (show w7.cell? ⟨gp, i * 6 + 4, none⟩ = some (.slice pe n.eqs.length cpe) from hrp 4 _ rfl)
          have HCL := Lib.hid (show w7.cell? ⟨gl, i * 6 + 4, none⟩ = some (.slice le n.eqs.length cle) from hrl 4 _ rfl)
          have HQP := Lib.hid hpe
          have HQL := Lib.hid hle
          have HFQ := Lib.hid (IsD.few hle)
          clear p1 p2 p3 p4 p5 p6 hil hgp hrp hpe hgl hrl hle hn
          go_wp2_with fail
          obtain ⟨w8, rfl⟩ : ∃ w8 : World, w8 = wr := ⟨_, rfl⟩
          go_loopw [7] (fun v7 wx => ∃ k : Nat, v7 = .int .i64 (k : Int) ∧ k ≤ n.eqs.length ∧ Below w7.heap.size w7 wx)
            (fun v7 _ => n.eqs.length - (intOf v7).toNat)
          case atStart => exact ⟨0, rfl, Nat.zero_le _, HBR.out⟩
          case round =>
            obtain ⟨k, rfl, hk, hbk⟩ := hrel
            have HKI := Lib.hid hk
            have HBK := Lib.hid hbk
            have c4 := (hbk.cell (p := ⟨gl, i * 6 + 4, none⟩) HGL.out).trans HCL.out
            have i0 : (0 : Int) ≤ (i : Int) := by omega
            have i1 : (i : Int) < (l.length : Int) := by have := HIL.out; omega
            clear hk hbk
            by_cases hkl : k < n.eqs.length
            · have d7 : decide ((k : Int) < (n.eqs.length : Int)) = true := by simp; omega
              have HKL := Lib.hid hkl
              obtain ⟨pe, rfl, hpe, px, pc, hrp, hkp⟩ := qe_at HQP.out k hkl
              obtain ⟨le, rfl, hle, lx, lc, hrl, hkq⟩ := qe_at HQL.out k hkl
              obtain ⟨q, hq⟩ : ∃ q, q = n.eqs[k]'hkl := ⟨_, rfl⟩
              rw [← hq] at hrp hkp hrl hkq
              have hmem : q ∈ (l[i]'HIL.out).eqs := by rw [← HNN.out, hq]; exact List.getElem_mem _
              have hwf := HFI.out.wf _ (List.getElem_mem HIL.out) q hmem
              obtain ⟨KD, hKD⟩ : ∃ KD, KD = kindOf6 l i q.e := ⟨_, rfl⟩
              have hks := kindOf_same HFI.out i HIL.out q hmem
              have sub : ∀ {g : Nat} {x : Option Addr} {c : Nat} {W : World}, W.rangeAt g (k * 7) (qeC q.name q.e x c (q.at_ : Int)) → W.rangeAt g (k * 7 + 1) (exC q.e x c) := fun h j v hj => by
                have := h (1 + j) v (qe_range6 q.name q.e _ _ (q.at_ : Int) j v hj)
                rwa [← Nat.add_assoc] at this
              have HRP := Lib.hid (rangeAt_below (sub hrp) HBK.out hpe)
              have HRL := Lib.hid (rangeAt_below (sub hrl) HBK.out hle)
              have HPE := Lib.hid (Nat.lt_of_lt_of_le hpe HBK.out.size)
              have HLE := Lib.hid (Nat.lt_of_lt_of_le hle HBK.out.size)
              have hgpk := Nat.lt_of_lt_of_le HGP.out HBK.out.size
              have hglk := Nat.lt_of_lt_of_le HGL.out HBK.out.size
              have HCPK := Lib.hid ((HBK.out.cell (p := ⟨gp, i * 6 + 4, none⟩) HGP.out).trans HCP.out)
              have HCLK := Lib.hid ((HBK.out.cell (p := ⟨gl, i * 6 + 4, none⟩) HGL.out).trans HCL.out)
              have hlv : (vars6 (l.getD i ndZ6)).length ≤ 1000000 := by
                rw [show l.getD i ndZ6 = l[i]'HIL.out by simp [List.getD, HIL.out]]
                have hon := HON.out i HIL.out
                simp only [okNd, Bool.and_eq_true, decide_eq_true_eq] at hon
                have := hon.1
                unfold vars6; rw [List.length_append, List.length_append]; exact this
              have KO : Hid (∀ W, Below wr.heap.size wr W → Calls Try.prog 16 #[.slice (some ⟨gp, 0, none⟩) l.length cp, .int .i64 (i : Int), .agg (exC q.e px pc).toArray] W (fun e w' => e = .returned (.int .i64 KD) ∧ Below W.heap.size W w')) := Lib.hid (fun W hb => by
                have h := typOf_any l i HIL.out (HON.out i HIL.out) q.e (wf_ok _ hwf) W _ _ (some ⟨gp, 0, none⟩) cp (IsD.below hb (IsD.below HBK.out HP6.out)) px pc (IsD.below hb (IsD.below HBK.out hkp))
                rw [← hks, ← hKD] at h
                exact h)
              have KF : Hid (∀ W, Below wr.heap.size wr W → Calls Try.prog 17 #[.slice (some ⟨gl, 0, none⟩) l.length cl, .int .i64 (i : Int), .agg (exC q.e lx lc).toArray] W (fun e w' => e = .returned (.int .i64 KD) ∧ Below W.heap.size W w')) := Lib.hid (fun W hb => by
                have h := KindOf_any l i HIL.out q.e hlv (wf_ok _ hwf) (fun _ => HFI.out.wk i HIL.out q hmem) W _ _ (some ⟨gl, 0, none⟩) cl (IsD.below hb (IsD.below HBK.out HE6.out)) lx lc (IsD.below hb (IsD.below HBK.out hkq))
                rw [← hKD] at h
                exact h)
              have HGP := Lib.hid hgpk
              have HGL := Lib.hid hglk
              clear hkl hpe hrp hkp hle hrl hkq hq hmem hwf hKD hks sub hgpk hglk hlv HCP HCL
              have HCP := HCPK
              have HCL := HCLK
              go_upto_region 17 with fail
              refine wp_region_steps (words [wIs (.slice (some ⟨gp, 0, none⟩) l.length cp), wIs (.int .i64 (i : Int)), wIs (.slice (some ⟨gp, 0, none⟩) l.length cp), wIs (.int .i64 (i : Int)), wIs (.pointer (some ⟨gp, i * 6, none⟩)), wIs (.pointer (some ⟨gp, i * 6 + 4, none⟩)), wIs (.slice (some ⟨pe, 0, none⟩) n.eqs.length cpe), wIs (.int .i64 (k : Int)), wIs (.pointer (some ⟨pe, k * 7, none⟩)), wIs (.pointer (some ⟨pe, k * 7 + 1, none⟩)), wIs (.agg (exC q.e px pc).toArray), wIs (.int .i64 KD), wIs (.slice (some ⟨gl, 0, none⟩) l.length cl), wIs (.int .i64 (i : Int)), wIs (.slice (some ⟨gl, 0, none⟩) l.length cl), wIs (.int .i64 (i : Int)), wIs (.pointer (some ⟨gl, i * 6, none⟩)), wIs (.pointer (some ⟨gl, i * 6 + 4, none⟩)), wIs (.slice (some ⟨le, 0, none⟩) n.eqs.length cle), wIs (.int .i64 (k : Int)), wIs (.pointer (some ⟨le, k * 7, none⟩)), wIs (.pointer (some ⟨le, k * 7 + 1, none⟩)), wIs (.agg (exC q.e lx lc).toArray), wIs (.int .i64 KD), wIs (.bool (KD != KD))]) wr.heap.size wr (by kernel_rfl) (Below.refl _ _) (Nat.le_refl _) (words_stable ?stab) rfl rfl rfl ?steps ?done
              case stab =>
                intro f hf
                simp only [List.mem_cons, List.not_mem_nil, or_false] at hf
                rcases hf with rfl | rfl | rfl | rfl | rfl | rfl | rfl | rfl | rfl | rfl | rfl | rfl | rfl | rfl | rfl | rfl | rfl | rfl | rfl | rfl | rfl | rfl | rfl | rfl | rfl <;> exact stable_is _
              case steps =>
                refine Steps.cons (step_value rfl fun xa Z hp => ⟨wanted_none rfl, _, _, run_move (.inl rfl), hp.old 5 rfl, Below.refl _ _⟩) ?_
                refine Steps.cons (step_value rfl fun xa Z hp => ⟨wanted_none rfl, _, _, run_move (.inl rfl), hp.old 6 rfl, Below.refl _ _⟩) ?_
                refine Steps.cons (step_value rfl fun xa Z hp => ⟨wanted_none rfl, _, _, run_move (.inl rfl), hp.old 5 rfl, Below.refl _ _⟩) ?_
                refine Steps.cons (step_value rfl fun xa Z hp => ⟨wanted_none rfl, _, _, run_move (.inl rfl), hp.old 6 rfl, Below.refl _ _⟩) ?_
                refine Steps.cons (step_value rfl fun xa Z hp => ?_) ?_
                · have f0 : xa.tmps.getD 46 undef = .slice (some ⟨gp, 0, none⟩) l.length cp := (hp.on_ 2 rfl rfl rfl).2
                  have f1 : xa.tmps.getD 47 undef = .int .i64 (i : Int) := (hp.on_ 3 rfl rfl rfl).2
                  exact ⟨wanted_none rfl, _, _, run_idxG (k := i) Try.underlying26 size_nS rfl f0 f1 HIL.out, rfl, Below.refl _ _⟩
                refine Steps.cons (step_value rfl fun xa Z hp => ?_) ?_
                · have f0 : xa.tmps.getD 48 undef = .pointer (some ⟨gp, i * 6, none⟩) := (hp.on_ 4 rfl rfl rfl).2
                  have f1 : (Instr.fieldAt 49 (.pointer (some ⟨gp, i * 6, none⟩)) 4).run Try.prog Z = .ok (.pointer (some ⟨gp, i * 6 + 4, none⟩)) Z := by kernel_rfl
                  exact ⟨wanted_none rfl, _, _, run_fa4 rfl f0 f1, rfl, Below.refl _ _⟩
                refine Steps.cons (step_value rfl fun xa Z hp => ?_) ?_
                · have f0 : xa.tmps.getD 49 undef = .pointer (some ⟨gp, i * 6 + 4, none⟩) := (hp.on_ 5 rfl rfl rfl).2
                  exact ⟨wanted_none rfl, _, _, run_ldv rfl f0 ((hp.below.cell (p := ⟨gp, i * 6 + 4, none⟩) HGP.out).trans HCP.out) Try.underlying47 rfl (by kernel_rfl), rfl, Below.refl _ _⟩
                refine Steps.cons (step_value rfl fun xa Z hp => ⟨wanted_none rfl, _, _, run_move (.inl rfl), hp.old 7 rfl, Below.refl _ _⟩) ?_
                refine Steps.cons (step_value rfl fun xa Z hp => ?_) ?_
                · have f0 : xa.tmps.getD 50 undef = .slice (some ⟨pe, 0, none⟩) n.eqs.length cpe := (hp.on_ 6 rfl rfl rfl).2
                  have f1 : xa.tmps.getD 51 undef = .int .i64 (k : Int) := (hp.on_ 7 rfl rfl rfl).2
                  exact ⟨wanted_none rfl, _, _, run_idxG (k := k) Try.underlying47 size_qS rfl f0 f1 HKL.out, rfl, Below.refl _ _⟩
                refine Steps.cons (step_value rfl fun xa Z hp => ?_) ?_
                · have f0 : xa.tmps.getD 52 undef = .pointer (some ⟨pe, k * 7, none⟩) := (hp.on_ 8 rfl rfl rfl).2
                  have f1 : (Instr.fieldAt 45 (.pointer (some ⟨pe, k * 7, none⟩)) 1).run Try.prog Z = .ok (.pointer (some ⟨pe, k * 7 + 1, none⟩)) Z := by kernel_rfl
                  exact ⟨wanted_none rfl, _, _, run_fa4 rfl f0 f1, rfl, Below.refl _ _⟩
                refine Steps.cons (step_value rfl fun xa Z hp => ?_) ?_
                · have f0 : xa.tmps.getD 53 undef = .pointer (some ⟨pe, k * 7 + 1, none⟩) := (hp.on_ 9 rfl rfl rfl).2
                  exact ⟨wanted_none rfl, _, _, run_ldmidG rfl f0 (rangeAt_below HRP.out hp.below HPE.out) rfl Try.underlying43 size_eS, rfl, Below.refl _ _⟩
                refine Steps.cons (step_enter rfl fun xa Z hp => ?_) ?_
                · have f0 : xa.tmps.getD 44 undef = .slice (some ⟨gp, 0, none⟩) l.length cp := (hp.on_ 0 rfl rfl rfl).2
                  have f1 : xa.tmps.getD 45 undef = .int .i64 (i : Int) := (hp.on_ 1 rfl rfl rfl).2
                  have f2 : xa.tmps.getD 54 undef = .agg (exC q.e px pc).toArray := (hp.on_ 10 rfl rfl rfl).2
                  refine ⟨wanted_none rfl, 16, _, run_enter3s rfl rfl Try.call16, ?_⟩
                  show Calls _ _ #[xa.tmps.getD 44 undef, xa.tmps.getD 45 undef, xa.tmps.getD 54 undef] Z _
                  rw [f0, f1, f2]
                  exact (KO.out Z hp.below).mono (fun e' W' ⟨he, hb⟩ => ⟨_, he, rfl, hb⟩)
                refine Steps.cons (step_value rfl fun xa Z hp => ⟨wanted_none rfl, _, _, run_move (.inl rfl), hp.old 3 rfl, Below.refl _ _⟩) ?_
                refine Steps.cons (step_value rfl fun xa Z hp => ⟨wanted_none rfl, _, _, run_move (.inl rfl), hp.old 6 rfl, Below.refl _ _⟩) ?_
                refine Steps.cons (step_value rfl fun xa Z hp => ⟨wanted_none rfl, _, _, run_move (.inl rfl), hp.old 3 rfl, Below.refl _ _⟩) ?_
                refine Steps.cons (step_value rfl fun xa Z hp => ⟨wanted_none rfl, _, _, run_move (.inl rfl), hp.old 6 rfl, Below.refl _ _⟩) ?_
                refine Steps.cons (step_value rfl fun xa Z hp => ?_) ?_
                · have f0 : xa.tmps.getD 58 undef = .slice (some ⟨gl, 0, none⟩) l.length cl := (hp.on_ 14 rfl rfl rfl).2
                  have f1 : xa.tmps.getD 59 undef = .int .i64 (i : Int) := (hp.on_ 15 rfl rfl rfl).2
                  exact ⟨wanted_none rfl, _, _, run_idxG (k := i) Try.underlying23 size_n4 rfl f0 f1 HIL.out, rfl, Below.refl _ _⟩
                refine Steps.cons (step_value rfl fun xa Z hp => ?_) ?_
                · have f0 : xa.tmps.getD 60 undef = .pointer (some ⟨gl, i * 6, none⟩) := (hp.on_ 16 rfl rfl rfl).2
                  have f1 : (Instr.fieldAt 38 (.pointer (some ⟨gl, i * 6, none⟩)) 4).run Try.prog Z = .ok (.pointer (some ⟨gl, i * 6 + 4, none⟩)) Z := by kernel_rfl
                  exact ⟨wanted_none rfl, _, _, run_fa4 rfl f0 f1, rfl, Below.refl _ _⟩
                refine Steps.cons (step_value rfl fun xa Z hp => ?_) ?_
                · have f0 : xa.tmps.getD 61 undef = .pointer (some ⟨gl, i * 6 + 4, none⟩) := (hp.on_ 17 rfl rfl rfl).2
                  exact ⟨wanted_none rfl, _, _, run_ldv rfl f0 ((hp.below.cell (p := ⟨gl, i * 6 + 4, none⟩) HGL.out).trans HCL.out) Try.underlying36 rfl (by kernel_rfl), rfl, Below.refl _ _⟩
                refine Steps.cons (step_value rfl fun xa Z hp => ⟨wanted_none rfl, _, _, run_move (.inl rfl), hp.old 7 rfl, Below.refl _ _⟩) ?_
                refine Steps.cons (step_value rfl fun xa Z hp => ?_) ?_
                · have f0 : xa.tmps.getD 62 undef = .slice (some ⟨le, 0, none⟩) n.eqs.length cle := (hp.on_ 18 rfl rfl rfl).2
                  have f1 : xa.tmps.getD 63 undef = .int .i64 (k : Int) := (hp.on_ 19 rfl rfl rfl).2
                  exact ⟨wanted_none rfl, _, _, run_idxG (k := k) Try.underlying36 size_q4 rfl f0 f1 HKL.out, rfl, Below.refl _ _⟩
                refine Steps.cons (step_value rfl fun xa Z hp => ?_) ?_
                · have f0 : xa.tmps.getD 64 undef = .pointer (some ⟨le, k * 7, none⟩) := (hp.on_ 20 rfl rfl rfl).2
                  have f1 : (Instr.fieldAt 55 (.pointer (some ⟨le, k * 7, none⟩)) 1).run Try.prog Z = .ok (.pointer (some ⟨le, k * 7 + 1, none⟩)) Z := by kernel_rfl
                  exact ⟨wanted_none rfl, _, _, run_fa4 rfl f0 f1, rfl, Below.refl _ _⟩
                refine Steps.cons (step_value rfl fun xa Z hp => ?_) ?_
                · have f0 : xa.tmps.getD 65 undef = .pointer (some ⟨le, k * 7 + 1, none⟩) := (hp.on_ 21 rfl rfl rfl).2
                  exact ⟨wanted_none rfl, _, _, run_ldmidG rfl f0 (rangeAt_below HRL.out hp.below HLE.out) rfl Try.underlying53 size_e4, rfl, Below.refl _ _⟩
                refine Steps.cons (step_enter rfl fun xa Z hp => ?_) ?_
                · have f0 : xa.tmps.getD 56 undef = .slice (some ⟨gl, 0, none⟩) l.length cl := (hp.on_ 12 rfl rfl rfl).2
                  have f1 : xa.tmps.getD 57 undef = .int .i64 (i : Int) := (hp.on_ 13 rfl rfl rfl).2
                  have f2 : xa.tmps.getD 66 undef = .agg (exC q.e lx lc).toArray := (hp.on_ 22 rfl rfl rfl).2
                  refine ⟨wanted_none rfl, 17, _, run_enter3s rfl rfl Try.call17, ?_⟩
                  show Calls _ _ #[xa.tmps.getD 56 undef, xa.tmps.getD 57 undef, xa.tmps.getD 66 undef] Z _
                  rw [f0, f1, f2]
                  exact (KF.out Z hp.below).mono (fun e' W' ⟨he, hb⟩ => ⟨_, he, rfl, hb⟩)
                refine Steps.cons (step_value rfl fun xa Z hp => ?_) ?_
                · have f0 : xa.tmps.getD 55 undef = .int .i64 KD := (hp.on_ 11 rfl rfl rfl).2
                  have f1 : xa.tmps.getD 67 undef = .int .i64 KD := (hp.on_ 23 rfl rfl rfl).2
                  refine ⟨wanted_none rfl, _, _, run_bin3 rfl ?_ ?_, rfl, Below.refl _ _⟩
                  · show (eqGuard _ _ _ _ (xa.tmps.getD 55 undef) (xa.tmps.getD 67 undef)).run _ Z = _
                    rw [f0, f1]; rfl
                  · show (binOp _ _ (xa.tmps.getD 55 undef) (xa.tmps.getD 67 undef)).run _ Z = _
                    rw [f0, f1]; rfl
                exact Steps.nil
              case done =>
                intro act Z hI
                have hbZ := hI.below
                have h68 : act.tmps.getD 68 undef = .bool (KD != KD) := hI.new 24 _ 68 rfl rfl rfl
                obtain ⟨fo, hf, hx⟩ := puts_of hI.tmps hI.defers hI.old [44, 45, 46, 47, 48, 49, 50, 51, 52, 53, 54, 55, 56, 57, 58, 59, 60, 61, 62, 63, 64, 65, 66, 67, 68] rfl
                rw [hf, show (KD != KD) = false by simp] at h68
                have HBZ := Lib.hid (HBK.out.trans (hbZ.mono HBK.out.size))
                clear hI hf hbZ c4
                subst hx
                simp only [Exit.inBlock, Exit.then, List.foldl, Act.put, List.setIfInBounds_toArray, List.set_cons_succ, List.set_cons_zero]
                rw [h68]
                clear h68
                go_wp2_with fail
                refine ⟨⟨k + 1, wrap_succ (by have := HKL.out; have := HFQ.out; omega), HKL.out, HBZ.out⟩, ?_⟩
                rw [wrap_succ (by have := HKL.out; have := HFQ.out; omega)]
                have := HKL.out
                simp [intOf]; omega
            · have d7 : decide ((k : Int) < (n.eqs.length : Int)) = false := by simp; omega
              obtain rfl : k = n.eqs.length := by have := HKI.out; omega
              clear hkl
              go_wp2_with fail
              refine ⟨⟨i + 1, wrap_succ (by have := HIL.out; have := HL.out; omega), HIL.out, HBK.out⟩, ?_⟩
              rw [wrap_succ (by have := HIL.out; have := HL.out; omega)]
              have := HIL.out
              simp [intOf]; omega
        · have d1 : decide ((i : Int) < (l.length : Int)) = false := by simp; omega
          obtain rfl : i = l.length := by have := HI.out; omega
          clear hil
          go_wp2_with fail
          have hfin := HB6.out.trans (HBR.out.mono HB6.out.size)
          go_ret
          exact ⟨rfl, hfin⟩
  · have d0 : decide ((2500 : Int) < (t.size : Int)) = true := by simp; omega
    clear h25
    go_enter Try.func3, Try.ntmps3
    go_wp2_with fail
    (with_reducible refine HA.out.mono ?_)
    rintro e w1 ⟨rfl, hb1⟩
    clear HA
    go_wp2_with fail
    go_ret
    exact ⟨rfl, hb1⟩

set_option maxRecDepth 100000 in
theorem lifted (os : Os) (started : os.Started) (H : Type) (enc : TypeId × Value → H) :
    ReturnsInHanded {} Try.checked os 3 .any (Rows.typSaysSpec.pre6 enc Try.prog Try.f3 Rows.typSaysRow.domain false) (Rows.typSaysSpec.post enc Try.prog Try.f3 false true false false) := by
  refine returnsInHanded_of_change_sized (C := Try.checked) own started (by kernel_rfl) Try.func3
    (ChangeSpec.witness6 (enc := enc) (C := Try.checked) false ⟨#[], #[.string ByteArray.empty], []⟩ 8 (by kernel_rfl) (by kernel_rfl) (by kernel_rfl) (by kernel_rfl)) ?_
  intro W base args ds gs before hval0 hW hcnd hsz0 _
  have hsz : (DataW.weightsEach Try.prog (Try.f3.params.toList ++ Rows.typSaysSpec.plain.varTypes Try.prog) (ds ++ gs)).all (· ≤ reachBytes) = true := hsz0
  clear hsz0
  have hval : ∀ (j : Nat) t v, Try.f3.params[j]? = some t → args[j]? = some v → Value.okWide Try.prog W .any base t v := hval0
  have hW' := hW
  obtain ⟨p, q, hA0, hV, rfl, hfz, hnd⟩ := hW
  have hA : DataW.TrodAll enc Try.prog W 0 (fun _ => true) true Try.f3.params.toList args.toList ds p := hA0
  rw [Try.params3] at hA hval hsz
  obtain ⟨v0, vs0, d0, ds0, p0, q0, hargs, rfl, rfl, h0, r0⟩ := trodAll_cons hA
  obtain ⟨rfl, rfl, rfl⟩ := trodAll_nil r0
  obtain rfl : args = #[v0] := by cases args; simp_all
  obtain ⟨rfl, rfl⟩ := trodVars_none hV
  obtain ⟨t, rfl, rfl, rfl, m_t⟩ := open_string Try.underlying9 (hval 0 9 v0 rfl rfl) h0
  have w_t : t.size ≤ 140737488351232 := by have h := sized_string hsz (j := 0) rfl rfl; simpa [reachBytes] using h
  clear hA0 hval0
  refine (walk t W w_t).mono fun e W' ⟨he, bel⟩ => ?_
  subst he
  exact ⟨_, rfl, _, _, _, [], _, [], hW', trodAll_mk1 (shut_bool Try.underlying4 _), (trodAll_cons_mk (shut_string Try.underlying9 m_t) trodAll_mk0), rfl, bel.frame _, fun h => by cases h⟩

theorem over : Rows.typSaysRow.holds Try.pinned (OpenSpec.ofChange Rows.typSaysSpec) :=
  OpenClaim.holds_of_wide 3 Try.f3 rfl rfl rfl rfl rfl rfl rfl ⟨rfl, rfl, rfl, rfl, rfl⟩ rfl rfl rfl rfl rfl (by kernel_rfl) Try.func3 (by kernel_rfl)
    (of_decide_eq_true (by kernel_rfl)) (by unfold Func.isWrapper; first | (rw [if_pos (by decide +kernel)]; kernel_rfl) | (rw [if_neg (by decide +kernel)]; exact ⟨rfl, rfl⟩))
    (fun os started H enc _ => lifted os started H enc)

theorem proved : Rows.TypSaysSaid := over
#print axioms proved
end Go.Proofs.Ytejljfoacbpliaa.typSays
