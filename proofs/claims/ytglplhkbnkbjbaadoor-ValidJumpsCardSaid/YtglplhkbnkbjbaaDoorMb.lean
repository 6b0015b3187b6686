/-
  Texts that the statements stand on, part 2.
-/
import Derived.Test.YtglplhkbnkbjbaaDoorMa
import Derived.Deep.MidRow
import Derived.ChangeKeysEq
import Derived.Laws.StructEq
set_option linter.unusedVariables false
set_option linter.unusedSimpArgs false
namespace Go.Proofs.YtglplhkbnkbjbaaDoor
open Go Go.RowKit
set_option maxRecDepth 100000
/-- Alike behind an instruction. -/
def Alike (pc : Nat) (D D' : Done) : Prop := D'.length = D.length ∧ ∀ j, pc < j → D'.getD j none = D.getD j none
theorem Alike.put {pc : Nat} {D D' : Done} (h : Alike pc D D') (k : Nat) (hk : pc < k) (l : List Bool) : Alike pc (putD D k l) (putD D' k l) := by
  refine ⟨by rw [flow_put_length, flow_put_length]; exact h.1, fun j hj => ?_⟩
  unfold putD
  rw [h.2 k hk]
  by_cases hkj : k = j
  · subst hkj
    by_cases hkl : k < D.length
    · rw [getD_set_self _ _ _ _ (by rw [h.1]; exact hkl), getD_set_self _ _ _ _ hkl]
    · rw [List.getD_eq_getElem?_getD, List.getElem?_eq_none (by rw [List.length_set, h.1]; omega), List.getD_eq_getElem?_getD, List.getElem?_eq_none (by rw [List.length_set]; omega)]
  · rw [getD_set_ne _ _ _ _ _ hkj, getD_set_ne _ _ _ _ _ hkj]
    exact h.2 j hj
theorem Alike.set (pc : Nat) (D : Done) (v : Option (List Bool)) : Alike pc D (D.set pc v) := ⟨by rw [List.length_set], fun j hj => getD_set_ne _ _ _ _ _ (by omega)⟩
theorem FlatD.set {D : Done} {n : Nat} (h : FlatD D n) (pc : Nat) {l : List Bool} (hl : l.length = n) : FlatD (D.set pc (some l)) n := by
  intro j a hj
  by_cases hkj : pc = j
  · subst hkj
    by_cases hkl : pc < D.length
    · rw [getD_set_self _ _ _ _ hkl] at hj
      rw [← Option.some.inj hj]; exact hl
    · rw [List.getD_eq_getElem?_getD, List.getElem?_eq_none (by rw [List.length_set]; omega)] at hj
      exact absurd hj (by simp)
  · rw [getD_set_ne _ _ _ _ _ hkj] at hj
    exact h j a hj
/-- What kinds of instructions there are, by what the first operand is. -/
theorem step_kinds {p : Pg} {pc : Nat} {x : In4} (h : namedP p pc x = true) :
    (roleO x.op 0 = 7 ∧ (x.op = 19 ∨ x.op = 20) ∧ ∃ t : Nat, x.a = (t : Int) ∧ pc < t ∧ t ≤ p.code.length) ∨ (roleO x.op 0 = 1 ∧ x.op ≠ 20 ∧ ∃ t : Nat, x.a = (t : Int) ∧ t < p.slots.length) ∨ (roleO x.op 0 = 6 ∧ x.op ≠ 20 ∧ ∃ t : Nat, x.a = (t : Int) ∧ t < p.outs.length) ∨ (roleO x.op 0 = 4 ∧ x.op ≠ 20) := by
  have hr := op_range h
  rw [← placed_named] at h
  unfold placedL at h
  simp only [Bool.and_eq_true] at h
  have h1 := h.2.1
  clear h
  obtain ⟨op, a, b, c⟩ := x
  simp only at hr ⊢
  have hA : roleO op 0 = 7 ∧ (op = 19 ∨ op = 20) ∨ roleO op 0 = 1 ∧ op ≠ 20 ∨ roleO op 0 = 6 ∧ op ≠ 20 ∨ roleO op 0 = 4 ∧ op ≠ 20 := by
    rcases op_cases hr.1 hr.2 with h | h | h | h | h | h | h | h | h | h | h | h | h | h | h | h | h | h | h | h | h <;> subst h <;> simp [roleO, rolesT]
  unfold placed1 at h1
  simp only [opnd] at h1
  rcases hA with ⟨e, h2⟩ | ⟨e, h2⟩ | ⟨e, h2⟩ | ⟨e, h2⟩
  · rw [e] at h1
    simp [placesO] at h1
    exact .inl ⟨e, h2, a.toNat, by omega, by omega, by omega⟩
  · rw [e] at h1
    simp [placesO, kindsO] at h1
    exact .inr (.inl ⟨e, h2, a.toNat, by omega, by omega⟩)
  · rw [e] at h1
    simp [placesO, kindsO] at h1
    exact .inr (.inr (.inl ⟨e, h2, a.toNat, by omega, by omega⟩))
  · exact .inr (.inr (.inr ⟨e, h2⟩))
theorem stepL_alike (p : Pg) (x : In4) (pc : Nat) (D D' : Done) (l : List Bool) (h : Alike pc D D') (ht : roleO x.op 0 = 7 → pc < x.a.toNat) : Alike pc (stepL p x pc D l) (stepL p x pc D' l) := by
  unfold stepL
  dsimp only
  generalize (if roleO x.op 0 = 1 then l.set x.a.toNat true else if roleO x.op 0 = 6 then l.set (p.slots.length + x.a.toNat) true else l) = l2
  by_cases h20 : x.op = 20 <;> by_cases h7 : roleO x.op 0 = 7
  · rw [if_pos h20, if_pos h20, if_pos h7, if_pos h7]
    exact h.put _ (ht h7) _
  · rw [if_pos h20, if_pos h20, if_neg h7, if_neg h7]
    exact h
  · rw [if_neg h20, if_neg h20, if_pos h7, if_pos h7]
    exact (h.put _ (ht h7) _).put _ (by omega) _
  · rw [if_neg h20, if_neg h20, if_neg h7, if_neg h7]
    exact h.put _ (by omega) _
set_option maxHeartbeats 16000000 in
theorem step_any (p : Pg) (x0 x1 x2 x3 x4 x5 : Option Addr) (c0 c1 c2 c3 c4 c5 : Nat) (hp : p.sum ≤ 100000) (pc : Nat) (hpc : pc < p.code.length) (x : In4) (hn : namedP p pc x = true) (w : World) (hT : VTab w) (B g m cw : Nat) (D : Done) (l : List Bool) (hW : WaysIn w B g m D pc) (hD : D.length = p.code.length + 1) (hl : D.getD pc none = some l) (hll : l.length = p.slots.length + p.outs.length) (hfl : FlatD D l.length) (hB : B ≤ w.heap.size) (hGB : 0 < B) :
    Calls Tryd.prog 29 #[.slice (some ⟨g, 0, none⟩) (p.code.length + 1) cw, pgV p x0 x1 x2 x3 x4 x5 c0 c1 c2 c3 c4 c5, .int .i64 (pc : Int), inV x] w fun e w' => e = .returned (.tuple #[]) ∧ WaysIn w' B g m (stepL p x pc D l) (pc + 1) ∧ VK B w w' := by
  obtain ⟨bs, hA⟩ := hW
  obtain ⟨xs, hxs, hsw, hxB, hm⟩ := hA.sw (Nat.le_refl _) (by omega) hl
  have hcell : w.cell? ⟨g, pc, none⟩ = some (.slice (some ⟨xs.1, 0, none⟩) m xs.2) := by
    have h := hA.cell pc (by omega)
    rw [hxs] at h
    exact h
  have hsk := step_kinds hn
  have hor := op_range hn
  obtain ⟨W0, hW0⟩ : ∃ W0, W0 = w.alloc (.cells #[.slice x0 p.ins.length c0, .slice x1 p.outs.length c1, .slice x2 p.slots.length c2, .slice x3 p.mems.length c3, .slice x4 p.consts.length c4, .slice x5 p.code.length c5] 32) := ⟨_, rfl⟩
  have hb0 : Below w.heap.size w W0 := by rw [hW0]; exact (Below.refl _ _).alloc (Nat.le_refl _) _
  have k0 := heap_alloc_new w (.cells #[.slice x0 p.ins.length c0, .slice x1 p.outs.length c1, .slice x2 p.slots.length c2, .slice x3 p.mems.length c3, .slice x4 p.consts.length c4, .slice x5 p.code.length c5] 32)
  rw [← hW0] at k0
  obtain ⟨Bp, hBp⟩ : ∃ b, b = w.heap.size := ⟨_, rfl⟩
  rw [← hBp] at k0
  obtain ⟨W1, hW1⟩ : ∃ W1, W1 = W0.alloc (.cells #[.int .i64 x.op, .int .i64 x.a, .int .i64 x.b, .int .i64 x.c] 34) := ⟨_, rfl⟩
  have hb1 : Below W0.heap.size W0 W1 := by rw [hW1]; exact (Below.refl _ _).alloc (Nat.le_refl _) _
  have k1 := heap_alloc_new W0 (.cells #[.int .i64 x.op, .int .i64 x.a, .int .i64 x.b, .int .i64 x.c] 34)
  rw [← hW1] at k1
  obtain ⟨R, hR⟩ : ∃ R, R = w.heap.size + 1 := ⟨_, rfl⟩
  have hRW : W0.heap.size = R := by rw [hW0, hR]; simp
  rw [hRW] at k1
  have k0' := (hb1.block Bp (Array.getElem?_eq_some_iff.1 k0).1).trans k0
  have hb01 := hb0.trans (hb1.mono hb0.size)
  have hA1 : WaysAt W1 B g m D pc bs := by
    have hlo : ∀ j, pc ≤ j → ∀ y, bs.getD j none = some y → y.1 < w.heap.size := fun j hj y hy => by
      by_cases hjD : j < D.length
      · have hc := hA.2.2.2.1 j hj hjD
        rw [hy] at hc
        cases hd : D.getD j none with
        | none => rw [hd] at hc; exact hc.elim
        | some a => rw [hd] at hc; exact hc.1.lt
      · rw [List.getD_eq_getElem?_getD, List.getElem?_eq_none (by rw [hA.2.1]; omega)] at hy
        exact absurd hy (by simp)
    exact ⟨(hb01.block g hA.lt).trans hA.1, hA.2.1, hA.2.2.1, fun j hj hjD => (hA.2.2.2.1 j hj hjD).same fun y hy => hb01.block _ (hlo j hj y hy), hA.2.2.2.2⟩
  have hcell1 : W1.cell? ⟨g, pc, none⟩ = some (.slice (some ⟨xs.1, 0, none⟩) m xs.2) := (hb01.cell (p := ⟨g, pc, none⟩) hA.lt).trans hcell
  have hsw1 := hsw.same (hb01.block _ hsw.lt)
  have hT1 := hT.below hb01
  have hvk0 : VK B w W1 := VK.ofBelow hb01
  have hB1 : B ≤ W1.heap.size := Nat.le_trans hB hb01.size
  have i0 : (0 : Int) ≤ (pc : Int) := by omega
  have i1 : (pc : Int) < ((p.code.length + 1 : Nat) : Int) := by omega
  have hpD : pc < D.length := by omega
  -- behind add
  have KADD : Hid (∀ (w2 : World) (l2 : List Bool), l2.length = l.length → SW w2 xs.1 l2 → W1.grownBy w2 (some xs.1) → WaysAt w2 B g m (D.set pc (some l2)) pc bs ∧ VK B W1 w2 ∧ B ≤ w2.heap.size) := Lib.hid fun w2 l2 h1 h2 h3 =>
    ⟨hA1.turn (Nat.le_refl _) hpD hxs hsw1 h3 h2 hxB (by rw [h1]; exact hm), VK.grown h3 hxB (Classical.choose_spec hsw1.type) (.inr rfl), Nat.le_trans hB1 h3.size⟩
  have hl1 : D.set pc (some l) = D := by
    apply List.ext_getElem?
    intro i
    by_cases h : pc = i
    · subst h
      rw [List.getElem?_set_self hpD]
      rw [List.getD_eq_getElem?_getD, List.getElem?_eq_getElem hpD] at hl
      rw [List.getElem?_eq_getElem hpD]
      simpa using hl.symm
    · rw [List.getElem?_set_ne h]
  -- the next instruction
  have KNX : Hid (∀ (w2 : World) (D2 : Done) (bs2 : List (Option (Nat × Nat))) (l2 : List Bool), WaysAt w2 B g m D2 pc bs2 → bs2.getD pc none = some xs → D2.length = D.length → D2.getD pc none = some l2 → l2.length = l.length → FlatD D2 l.length → B ≤ w2.heap.size → ∀ k : Nat, pc < k → k ≤ p.code.length →
      Calls Tryd.prog 35 #[.slice (some ⟨g, 0, none⟩) (p.code.length + 1) cw, .int .i64 (k : Int), .slice (some ⟨xs.1, 0, none⟩) m xs.2] w2 fun e w' => e = .returned (.tuple #[]) ∧ MeetOk w' B g m (putD D2 k l2) pc pc xs ∧ VK B w2 w') := Lib.hid fun w2 D2 bs2 l2 h1 h2 h3 h4 h5 h6 h7 k h8 h9 => by
    have hs : l.length ≤ 100000 := by unfold Pg.sum at hp; omega
    exact meet_any w2 B g m _ cw D2 pc pc k l2 bs2 h1 (by omega) (Nat.le_refl _) (by omega) (by omega) (by omega) (by omega) xs h2 h4 (by omega) (by rw [h5]; exact h6) h7
  -- all that is told at the end
  have KEND : Hid (∀ (w2 : World) (bs2 : List (Option (Nat × Nat))) (l2 : List Bool), WaysAt w2 B g m (stepL p x pc (D.set pc (some l2)) l) pc bs2 → VK B w w2 → WaysIn w2 B g m (stepL p x pc D l) (pc + 1) ∧ VK B w w2) := Lib.hid fun w2 bs2 l2 h1 h2 => by
    have ha : Alike pc (stepL p x pc D l) (stepL p x pc (D.set pc (some l2)) l) := stepL_alike p x pc D _ l (Alike.set pc D _) (fun h7 => by
      rcases hsk with ⟨_, _, t, ht, h3, _⟩ | ⟨h, _⟩ | ⟨h, _⟩ | ⟨h, _⟩
      · rw [ht]; simpa using h3
      all_goals (rw [h7] at h; exact absurd h (by decide)))
    exact ⟨WaysIn.on ⟨bs2, h1⟩ (by omega) ha.1.symm (fun k hk => (ha.2 k (by omega)).symm), h2⟩
  have HSUM : Hid (p.slots.length ≤ 100000 ∧ p.outs.length + p.slots.length ≤ 100000 ∧ p.code.length ≤ 100000) := Lib.hid (by unfold Pg.sum at hp; omega)
  have HA1 := Lib.hid hA1
  have HB01 := Lib.hid hb01
  have HVK0 := Lib.hid hvk0
  have HB1 := Lib.hid hB1
  have HPD := Lib.hid hpD
  have HSW1 := Lib.hid hsw1
  have HM := Lib.hid hm
  have HLL := Lib.hid hll
  have HFL := Lib.hid hfl
  have HXS := Lib.hid hxs
  have HL1 := Lib.hid hl1
  have HDL := Lib.hid (Eq.refl D.length)
  have HLD := Lib.hid hl
  have HPC := Lib.hid hpc
  have HW0 := Lib.hid hW0
  have HW1 := Lib.hid hW1
  have HBB := Lib.hid hBp
  have HRR := Lib.hid hR
  have HX := Lib.hid k0'
  have HI := Lib.hid k1
  have HT1 := Lib.hid hT1
  have HGB := Lib.hid hGB
  have HSI := Lib.hid size_in4v
  obtain ⟨op, a, b, c⟩ := x
  simp only at hor hsk HW1 HI
  obtain ⟨hor1, hor2⟩ := hor
  obtain ⟨q, rfl⟩ : ∃ q : Nat, op = (q : Int) := ⟨op.toNat, by omega⟩
  have HQ : Hid (q < 21) := Lib.hid (by omega)
  obtain ⟨X, hX⟩ : ∃ X : In4, X = ⟨(q : Int), a, b, c⟩ := ⟨_, rfl⟩
  rw [← hX] at KEND
  have hXop : X.op = (q : Int) := by rw [hX]
  have hXa : X.a = a := by rw [hX]
  have hro : W1.cell? ⟨0, q * 3, none⟩ = some (.int .i64 (roleO (q : Int) 0)) := by have h := hT1 q 0 HQ.out (by decide); rwa [Nat.add_zero] at h
  obtain ⟨r, hr⟩ : ∃ r, r = roleO (q : Int) 0 := ⟨_, rfl⟩
  rw [← hr] at hro hsk
  have HRL := Lib.hid hr
  have hwr : wrap64 ((pc : Int) + 1) = ((pc + 1 : Nat) : Int) := wrap_succV (by have := HSUM.out.2.2; omega)
  have HWR := Lib.hid hwr
  have q0 := cell_of_row W1 R 0 _ _ _ k1
  have q1 := cell_of_row W1 R 1 _ _ _ k1
  have p2 := cell_of_row W1 Bp 2 _ _ _ k0'
  obtain ⟨n2, hn2⟩ : ∃ n, n = p.slots.length := ⟨_, rfl⟩
  obtain ⟨nc, hnc⟩ : ∃ n, n = p.code.length + 1 := ⟨_, rfl⟩
  -- the set's own value behind a call
  have KI : Hid (∀ w2, VK B W1 w2 → w2.heap[R]? = some (.cells #[.int .i64 (q : Int), .int .i64 a, .int .i64 b, .int .i64 c] 34 (0, 0)) ∧ w2.heap[Bp]? = W1.heap[Bp]?) := Lib.hid fun w2 h => by
    have hRlt := (Array.getElem?_eq_some_iff.1 HI.out).1
    have hPlt := (Array.getElem?_eq_some_iff.1 HX.out).1
    exact ⟨(h.block R hRlt (.inr ⟨_, _, _, HI.out, by decide, by decide⟩)).trans HI.out, h.block Bp hPlt (.inr ⟨_, _, _, HX.out, by decide, by decide⟩)⟩
  rw [show inV ⟨(q : Int), a, b, c⟩ = .agg #[.int .i64 (q : Int), .int .i64 a, .int .i64 b, .int .i64 c] from rfl, ← hX]
  unfold pgV
  rw [← hnc] at i1 KNX ⊢
  clear hA hA1 hsw hsw1 hxB hm hl hll hfl hB hGB hxs hl1 hD hpc hW0 hW1 hBp hR hRW k0 k0' k1 hb0 hb1 hb01 hT hT1 hvk0 hB1 hpD hp hn hX hr hwr hcell hor1 hor2
  rcases hsk with ⟨hr7, hq1, t, hta, ht1, ht2⟩ | ⟨hr1, hq1, t, hta, ht1⟩ | ⟨hr6, hq1, t, hta, ht1⟩ | ⟨hr4, hq1⟩
  · subst hta
    subst hr7
    have km := KNX.out W1 D bs l HA1.out HXS.out HDL.out HLD.out rfl HFL.out HB1.out t ht1 ht2
    have HT12 := Lib.hid (And.intro ht1 ht2)
    have HST : Hid (∀ D2, stepL p X pc D2 l = if (q : Int) = 20 then putD D2 t l else putD (putD D2 t l) (pc + 1) l) := Lib.hid fun D2 => by
      unfold stepL
      rw [hXop, hXa, ← HRL.out]
      simp
    clear ht1 ht2 hn2 hnc hXop hXa
    go_enter Tryd.func29, Tryd.ntmps29
    go_upto_region 1 with fail
    rw [← HW0.out, ← HRR.out, ← HBB.out, ← HW1.out]
    go_wp2_with (first | refine wpList_val rfl (run_rolesA rfl rfl rfl HQ.out) ?_ | refine wpList_val rfl (run_rolesB (k := 0) rfl rfl rfl (by decide)) ?_)
    
    (with_reducible refine km.mono ?_)
    rintro e w4 ⟨rfl, ⟨bs4, h41, h42⟩, hv4⟩
    clear km
    have H41 := Lib.hid h41
    have H42 := Lib.hid h42
    have HV4 := Lib.hid hv4
    clear h41 h42 hv4
    by_cases hq20 : (q : Int) = 20
    · have hk := (KI.out w4 HV4.out).1
      have z0 := cell_of_row w4 R 0 _ _ _ hk
      have e20 : ((q : Int) != 20) = false := by simp [hq20]
      have HE : Hid (WaysIn w4 B g m (stepL p X pc D l) (pc + 1) ∧ VK B w w4) := Lib.hid (KEND.out w4 bs4 l (by rw [HL1.out, HST.out, if_pos hq20]; exact H41.out) (HVK0.out.trans HV4.out))
      clear hk hq20
      go_wp2_with fail
      (try simp only [Exit.inBlock, Exit.then])
      first | refine bodyPost_ret (results_none rfl _ _ _) rfl ?_ | refine bodyPost_end (results_none rfl _ _ _) rfl ?_
      exact ⟨rfl, HE.out⟩
    · have HNE : Hid (((q : Int) != 20) = true) := Lib.hid (by simp [hq20])
      have HD4 : Hid ((putD D t l).length = D.length) := Lib.hid (flow_put_length D t l)
      have HL4 : Hid ((putD D t l).getD pc none = some l) := Lib.hid (by unfold putD; rw [getD_set_ne _ _ _ _ _ (by have := HT12.out.1; omega)]; exact HLD.out)
      have HF4 : Hid (FlatD (putD D t l) l.length) := Lib.hid (HFL.out.put rfl t)
      have HS2 : Hid (stepL p X pc D l = putD (putD D t l) (pc + 1) l) := Lib.hid (by rw [HST.out, if_neg hq20])
      clear hq20
      have kn := KNX.out w4 (putD D t l) bs4 l H41.out H42.out HD4.out HL4.out rfl HF4.out (Nat.le_trans HB1.out HV4.out.size) (pc + 1) (by omega) (by have := HPC.out; omega)
      obtain ⟨pn, hpn⟩ : ∃ n, n = pc + 1 := ⟨_, rfl⟩
      have hwr : wrap64 ((pc : Int) + 1) = (pn : Int) := by rw [hpn]; exact HWR.out
      rw [← hpn] at kn
      have HPN := Lib.hid hpn
      have hk := (KI.out w4 HV4.out).1
      have z0 := cell_of_row w4 R 0 _ _ _ hk
      have e20 : ((q : Int) != 20) = true := HNE.out
      clear hk hpn
      go_wp2_with fail
      (with_reducible refine kn.mono ?_)
      rintro e w9 ⟨rfl, ⟨bs9, h91, h92⟩, hv9⟩
      clear kn
      have HE : Hid (WaysIn w9 B g m (stepL p X pc D l) (pc + 1) ∧ VK B w w9) := Lib.hid (KEND.out w9 bs9 l (by rw [HL1.out, HS2.out]; have h := h91; rwa [HPN.out] at h) ((HVK0.out.trans HV4.out).trans hv9))
      clear h91 h92 hv9
      go_wp2_with fail
      (try simp only [Exit.inBlock, Exit.then])
      first | refine bodyPost_ret (results_none rfl _ _ _) rfl ?_ | refine bodyPost_end (results_none rfl _ _ _) rfl ?_
      exact ⟨rfl, HE.out⟩
  · subst hta
    subst hr1
    obtain ⟨l2, hl2⟩ : ∃ l2, l2 = l.set t true := ⟨_, rfl⟩
    have hl2l : l2.length = l.length := by rw [hl2, List.length_set]
    have ka := setAdd_any W1 xs.1 m xs.2 t l HSW1.out HM.out (by have := HLL.out; omega) (by have := HLL.out; have := HSUM.out; omega)
    rw [← hl2] at ka
    have HNE : Hid (((q : Int) != 20) = true) := Lib.hid (by simp [hq1])
    have HS2 : Hid (∀ D2, stepL p X pc D2 l = putD D2 (pc + 1) l2) := Lib.hid fun D2 => by
      unfold stepL
      rw [hXop, hXa, ← HRL.out, hl2]
      simp [hq1]
    have HLL2 := Lib.hid hl2l
    clear ht1 hnc hXop hXa hq1 hl2 hl2l hn2
    go_enter Tryd.func29, Tryd.ntmps29
    go_upto_region 1 with fail
    rw [← HW0.out, ← HRR.out, ← HBB.out, ← HW1.out]
    go_wp2_with (first | refine wpList_val rfl (run_rolesA rfl rfl rfl HQ.out) ?_ | refine wpList_val rfl (run_rolesB (k := 0) rfl rfl rfl (by decide)) ?_)
    (with_reducible refine ka.mono ?_)
    rintro e w4 ⟨rfl, hs4, hg4⟩
    clear ka
    have H4 := Lib.hid (KADD.out w4 l2 HLL2.out hs4 hg4)
    have HV4 := Lib.hid H4.out.2.1
    have HD4 : Hid ((D.set pc (some l2)).length = D.length) := Lib.hid List.length_set
    have HL4 : Hid ((D.set pc (some l2)).getD pc none = some l2) := Lib.hid (getD_set_self _ _ _ _ HPD.out)
    have HF4 : Hid (FlatD (D.set pc (some l2)) l.length) := Lib.hid (HFL.out.set pc HLL2.out)
    clear hs4 hg4
    have kn := KNX.out w4 (D.set pc (some l2)) bs l2 H4.out.1 HXS.out HD4.out HL4.out HLL2.out HF4.out H4.out.2.2 (pc + 1) (by omega) (by have := HPC.out; omega)
    obtain ⟨pn, hpn⟩ : ∃ n, n = pc + 1 := ⟨_, rfl⟩
    have hwr : wrap64 ((pc : Int) + 1) = (pn : Int) := by rw [hpn]; exact HWR.out
    rw [← hpn] at kn
    have HPN := Lib.hid hpn
    have hk := (KI.out w4 HV4.out).1
    have z0 := cell_of_row w4 R 0 _ _ _ hk
    have e20 : ((q : Int) != 20) = true := HNE.out
    clear hk hpn
    go_wp2_with fail
    (with_reducible refine kn.mono ?_)
    rintro e w9 ⟨rfl, ⟨bs9, h91, h92⟩, hv9⟩
    clear kn
    have HE : Hid (WaysIn w9 B g m (stepL p X pc D l) (pc + 1) ∧ VK B w w9) := Lib.hid (KEND.out w9 bs9 l2 (by rw [HS2.out]; have h := h91; rwa [HPN.out] at h) ((HVK0.out.trans HV4.out).trans hv9))
    clear h91 h92 hv9
    go_wp2_with fail
    (try simp only [Exit.inBlock, Exit.then])
    first | refine bodyPost_ret (results_none rfl _ _ _) rfl ?_ | refine bodyPost_end (results_none rfl _ _ _) rfl ?_
    exact ⟨rfl, HE.out⟩
  · subst hta
    subst hr6
    obtain ⟨l2, hl2⟩ : ∃ l2, l2 = l.set (n2 + t) true := ⟨_, rfl⟩
    have hl2l : l2.length = l.length := by rw [hl2, List.length_set]
    have ka := setAdd_any W1 xs.1 m xs.2 (n2 + t) l HSW1.out HM.out (by have := HLL.out; omega) (by have := HLL.out; have := HSUM.out; omega)
    rw [← hl2] at ka
    have HNE : Hid (((q : Int) != 20) = true) := Lib.hid (by simp [hq1])
    have HS2 : Hid (∀ D2, stepL p X pc D2 l = putD D2 (pc + 1) l2) := Lib.hid fun D2 => by
      unfold stepL
      rw [hXop, hXa, ← HRL.out, hl2]
      simp [hq1, hn2]
    have HLL2 := Lib.hid hl2l
    obtain ⟨nt, hnt⟩ : ∃ n, n = n2 + t := ⟨_, rfl⟩
    have hwa : wrap64 ((n2 : Int) + (t : Int)) = (nt : Int) := by
      have h1 := HSUM.out.2.1
      rw [← hn2] at h1
      rw [wrap_in14 _ (by omega)]; omega
    rw [← hnt] at ka
    rw [← hn2] at p2
    clear ht1 hnc hXop hXa hq1 hl2 hl2l hn2 hnt
    go_enter Tryd.func29, Tryd.ntmps29
    go_upto_region 1 with fail
    rw [← HW0.out, ← HRR.out, ← HBB.out, ← HW1.out]
    go_wp2_with (first | refine wpList_val rfl (run_rolesA rfl rfl rfl HQ.out) ?_ | refine wpList_val rfl (run_rolesB (k := 0) rfl rfl rfl (by decide)) ?_)
    (with_reducible refine ka.mono ?_)
    rintro e w4 ⟨rfl, hs4, hg4⟩
    clear ka
    have H4 := Lib.hid (KADD.out w4 l2 HLL2.out hs4 hg4)
    have HV4 := Lib.hid H4.out.2.1
    have HD4 : Hid ((D.set pc (some l2)).length = D.length) := Lib.hid List.length_set
    have HL4 : Hid ((D.set pc (some l2)).getD pc none = some l2) := Lib.hid (getD_set_self _ _ _ _ HPD.out)
    have HF4 : Hid (FlatD (D.set pc (some l2)) l.length) := Lib.hid (HFL.out.set pc HLL2.out)
    clear hs4 hg4
    have kn := KNX.out w4 (D.set pc (some l2)) bs l2 H4.out.1 HXS.out HD4.out HL4.out HLL2.out HF4.out H4.out.2.2 (pc + 1) (by omega) (by have := HPC.out; omega)
    obtain ⟨pn, hpn⟩ : ∃ n, n = pc + 1 := ⟨_, rfl⟩
    have hwr : wrap64 ((pc : Int) + 1) = (pn : Int) := by rw [hpn]; exact HWR.out
    rw [← hpn] at kn
    have HPN := Lib.hid hpn
    have hk := (KI.out w4 HV4.out).1
    have z0 := cell_of_row w4 R 0 _ _ _ hk
    have e20 : ((q : Int) != 20) = true := HNE.out
    clear hk hpn
    go_wp2_with fail
    (with_reducible refine kn.mono ?_)
    rintro e w9 ⟨rfl, ⟨bs9, h91, h92⟩, hv9⟩
    clear kn
    have HE : Hid (WaysIn w9 B g m (stepL p X pc D l) (pc + 1) ∧ VK B w w9) := Lib.hid (KEND.out w9 bs9 l2 (by rw [HS2.out]; have h := h91; rwa [HPN.out] at h) ((HVK0.out.trans HV4.out).trans hv9))
    clear h91 h92 hv9
    go_wp2_with fail
    (try simp only [Exit.inBlock, Exit.then])
    first | refine bodyPost_ret (results_none rfl _ _ _) rfl ?_ | refine bodyPost_end (results_none rfl _ _ _) rfl ?_
    exact ⟨rfl, HE.out⟩
  · subst hr4
    have HNE : Hid (((q : Int) != 20) = true) := Lib.hid (by simp [hq1])
    have HS2 : Hid (stepL p X pc D l = putD D (pc + 1) l) := Lib.hid (by
      unfold stepL
      rw [hXop, hXa, ← HRL.out]
      simp [hq1])
    clear hn2 hnc hXop hXa hq1
    go_enter Tryd.func29, Tryd.ntmps29
    go_upto_region 1 with fail
    rw [← HW0.out, ← HRR.out, ← HBB.out, ← HW1.out]
    go_upto_region 9 with (first | refine wpList_val rfl (run_rolesA rfl rfl rfl HQ.out) ?_ | refine wpList_val rfl (run_rolesB (k := 0) rfl rfl rfl (by decide)) ?_)
    have kn := KNX.out W1 D bs l HA1.out HXS.out HDL.out HLD.out rfl HFL.out HB1.out (pc + 1) (by omega) (by have := HPC.out; omega)
    obtain ⟨pn, hpn⟩ : ∃ n, n = pc + 1 := ⟨_, rfl⟩
    have hwr : wrap64 ((pc : Int) + 1) = (pn : Int) := by rw [hpn]; exact HWR.out
    rw [← hpn] at kn
    have HPN := Lib.hid hpn
    have hk := (KI.out W1 (VK.refl B W1)).1
    skip
    have e20 : ((q : Int) != 20) = true := HNE.out
    clear hk hpn
    go_wp2_with fail
    (with_reducible refine kn.mono ?_)
    rintro e w9 ⟨rfl, ⟨bs9, h91, h92⟩, hv9⟩
    clear kn
    have HE : Hid (WaysIn w9 B g m (stepL p X pc D l) (pc + 1) ∧ VK B w w9) := Lib.hid (KEND.out w9 bs9 l (by rw [HL1.out, HS2.out]; have h := h91; rwa [HPN.out] at h) (HVK0.out.trans hv9))
    clear h91 h92 hv9
    go_wp2_with fail
    (try simp only [Exit.inBlock, Exit.then])
    first | refine bodyPost_ret (results_none rfl _ _ _) rfl ?_ | refine bodyPost_end (results_none rfl _ _ _) rfl ?_
    exact ⟨rfl, HE.out⟩
end Go.Proofs.YtglplhkbnkbjbaaDoor

namespace Go.Proofs.YtglplhkbnkbjbaaDoor
open Go Go.RowKit
section
variable {P : Program} {W : World} {o : Oper} {ρ : Operand → Value}
theorem run_not {x : Operand} {t : TypeId} {b : Bool} (ho : o.op = .unOp .not t x) (hx : ρ x = .bool b) : (execOp ρ o).run P W = .ok (.value (.bool (!b))) W := by
  simp [execOp, ho, hx, go_sem]
theorem run_fa4 {t : TypeId} {x : Operand} {k : Nat} {u v : Value} (ho : o.op = .fieldAddr t x k) (hx : ρ x = u) (h : (Instr.fieldAt t u k).run P W = .ok v W) : (execOp ρ o).run P W = .ok (.value v) W := by
  subst hx
  simp only [execOp, ho]
  simp [h, Result.andThen]
theorem run_ldv {ty : TypeId} {x : Operand} {a : Addr} {v : Value} {d : TypeDesc} (ho : o.op = .load ty x) (hx : ρ x = .pointer (some a)) (hc : W.cell? a = some v) (hu : P.underlying ty = some d) (hd : d.isRow = false) (hs : (P.info? ty).map (·.size) = some 1) : (execOp ρ o).run P W = .ok (.value v) W := by
  cases hi : P.info? ty with
  | none => rw [hi] at hs; simp at hs
  | some i =>
    rw [hi] at hs
    simp at hs
    cases d <;> simp [TypeDesc.isRow] at hd <;> simp [execOp, ho, hx, Instr.loadAt, hc, sizeOf, typeInfo, hi, hs, Result.andThen, go_sem, isAgg, run_underlying hu]
end
end Go.Proofs.YtglplhkbnkbjbaaDoor

namespace Go.Proofs.YtglplhkbnkbjbaaDoor
open Go Go.RowKit
set_option maxRecDepth 100000
theorem run_bld14 {P : Program} {o : Oper} {ρ : Operand → Value} {t : TypeId} {parts : Array (Nat × Operand)} {v : Value} {W W' : World} (ho : o.op = .build t parts) (h : (Instr.build t (parts.map fun (i, x) => (i, ρ x))).run P W = .ok v W') : (execOp ρ o).run P W = .ok (.value v) W' := by
  simp only [execOp, ho]
  simp [h, Result.andThen]
theorem run_idx14 {P : Program} {ts t : TypeId} {sz : Nat} {W : World} {o : Oper} {ρ : Operand → Value} {x ix : Operand} {g off n c k : Nat} (hu : P.underlying ts = some (.slice t)) (hs : (P.info? t).map (·.size) = some sz) (ho : o.op = .indexAddr ts x ix) (hx : ρ x = .slice (some ⟨g, off, none⟩) n c) (hk : ρ ix = .int .i64 (k : Int)) (hlt : k < n) : (execOp ρ o).run P W = .ok (.value (.pointer (some ⟨g, off + k * sz, none⟩))) W := by
  cases hi : P.info? t with
  | none => rw [hi] at hs; simp at hs
  | some i =>
    rw [hi] at hs
    simp at hs
    have he : P.elem ts = t := by simp [Program.elem, hu]
    have ht' : P.underlying ts = some (.slice (P.elem ts)) := by rw [he]; exact hu
    simp [execOp, ho, hx, hk, run_indexAt_slice W ts ⟨g, off, none⟩ n c .i64 (k : Int) ht', he, sizeOf, typeInfo, hi, hs, hlt, Result.andThen, Addr.add_lit]
theorem run_ldmid14 {P : Program} {t : TypeId} {d : TypeDesc} {o : Oper} {ρ : Operand → Value} {x : Operand} {g off : Nat} {vs : List Value} {W : World} (ho : o.op = .load t x) (hx : ρ x = .pointer (some ⟨g, off, none⟩)) (hr : W.rangeAt g off vs) (hd : (match d with | .struct _ | .array _ _ => true | _ => false) = true) (hu : P.underlying t = some d) (hs : (P.info? t).map (·.size) = some vs.length) : (execOp ρ o).run P W = .ok (.value (.agg vs.toArray)) W := by
  have h := run_loadVar_mid (P := P) W g off t vs _ hr hu hd hs
  unfold execOp
  simp only [ho, hx, Instr.loadAt, Instr.sureAddr, Sem.run_bind, Sem.run_pure, Result.andThen_ok, h]
theorem run_len14 {P : Program} {W : World} {o : Oper} {ρ : Operand → Value} {t e : TypeId} {x : Operand} {a : Option Addr} {n c : Nat} (ho : o.op = .call { callee := .builtin .len, args := #[x], argTypes := #[t] }) (ht : P.underlying t = some (.slice e)) (hx : ρ x = .slice a n c) : (execOp ρ o).run P W = .ok (.value (.int .i64 (n : Int))) W := by
  have he : P.elem t = e := by simp [Program.elem, ht]
  have ht' : P.underlying t = some (.slice (P.elem t)) := by rw [he]; exact ht
  unfold execOp
  simp only [ho, resolve, invoke, builtin, Sem.run_bind, Sem.run_pure, Result.andThen_ok, List.map_toArray, List.map_cons, List.map_nil, hx, run_len_slice W t o.type a n c ht']
  rfl
end Go.Proofs.YtglplhkbnkbjbaaDoor

namespace Go.Proofs.YtglplhkbnkbjbaaDoor
open Go Go.RowKit
set_option maxRecDepth 100000
set_option maxHeartbeats 16000000 in
theorem isPlaced_any (p : Pg) (x0 x1 x2 x3 x4 x5 : Option Addr) (c0 c1 c2 c3 c4 c5 : Nat) (hp : p.sum ≤ 100000) (pc : Nat) (hpc : pc ≤ 100000) (x : In4) (w : World) (hT : VTab w) : Calls Tryd.prog 15 #[pgV p x0 x1 x2 x3 x4 x5 c0 c1 c2 c3 c4 c5, .int .i64 (pc : Int), inV x] w fun e w' => e = .returned (.bool (placedL p pc x)) ∧ Below w.heap.size w w' := by
  obtain ⟨op, a, b, c⟩ := x
  obtain ⟨W0, hW0⟩ : ∃ W0, W0 = w.alloc (.cells #[.slice x0 p.ins.length c0, .slice x1 p.outs.length c1, .slice x2 p.slots.length c2, .slice x3 p.mems.length c3, .slice x4 p.consts.length c4, .slice x5 p.code.length c5] 32) := ⟨_, rfl⟩
  have hb0 : Below w.heap.size w W0 := by rw [hW0]; exact (Below.refl _ _).alloc (Nat.le_refl _) _
  have k0 := heap_alloc_new w (.cells #[.slice x0 p.ins.length c0, .slice x1 p.outs.length c1, .slice x2 p.slots.length c2, .slice x3 p.mems.length c3, .slice x4 p.consts.length c4, .slice x5 p.code.length c5] 32)
  rw [← hW0] at k0
  obtain ⟨B, hB⟩ : ∃ B, B = w.heap.size := ⟨_, rfl⟩
  rw [← hB] at k0
  obtain ⟨W1, hW1⟩ : ∃ W1, W1 = W0.alloc (.cells #[.int .i64 op, .int .i64 a, .int .i64 b, .int .i64 c] 34) := ⟨_, rfl⟩
  have hb1 : Below W0.heap.size W0 W1 := by rw [hW1]; exact (Below.refl _ _).alloc (Nat.le_refl _) _
  have k1 := heap_alloc_new W0 (.cells #[.int .i64 op, .int .i64 a, .int .i64 b, .int .i64 c] 34)
  rw [← hW1] at k1
  obtain ⟨R, hR⟩ : ∃ R, R = w.heap.size + 1 := ⟨_, rfl⟩
  have hRW : W0.heap.size = R := by rw [hW0, hR]; simp
  rw [hRW] at k1
  have k0' := (hb1.block B (Array.getElem?_eq_some_iff.1 k0).1).trans k0
  have hb01 := hb0.trans (hb1.mono hb0.size)
  have HB01 := Lib.hid hb01
  have HW0 := Lib.hid hW0
  have HW1 := Lib.hid hW1
  have HBB := Lib.hid hB
  have HRR := Lib.hid hR
  have HX := Lib.hid k0'
  have HI := Lib.hid k1
  have q0 := cell_of_row W1 R 0 _ _ _ k1
  have HSP := Lib.hid size_progv
  have HSI := Lib.hid size_in4v
  have HT := Lib.hid (hT.below hb01)
  have HSUM := Lib.hid hp
  have HPC := Lib.hid hpc
  clear k0 k0' k1 hb0 hb1 hb01 hW0 hW1 hB hR hRW hT hp hpc
  rw [show inV ⟨op, a, b, c⟩ = .agg #[.int .i64 op, .int .i64 a, .int .i64 b, .int .i64 c] from rfl]
  unfold pgV
  by_cases hneg : op < 0
  · have HV : Hid (placedL p pc ⟨op, a, b, c⟩ = false) := Lib.hid (by unfold placedL; simp [hneg])
    rw [HV.out]
    have d1 : decide (op < 0) = true := by simp [hneg]
    clear hneg HV
    go_enter Tryd.func15, Tryd.ntmps15
    go_upto_region 1 with fail
    rw [← HW0.out, ← HRR.out, ← HBB.out, ← HW1.out]
    go_wp2_with fail
    go_ret
    exact ⟨rfl, HB01.out⟩
  by_cases hbig : 21 ≤ op
  · have HV : Hid (placedL p pc ⟨op, a, b, c⟩ = false) := Lib.hid (by unfold placedL; simp [hbig])
    rw [HV.out]
    have d1 : decide (op < 0) = false := by simp; omega
    have d2 : decide (op ≥ 21) = true := by simp [hbig]
    have d3 : decide (21 ≤ op) = true := by simp [hbig]
    clear hneg hbig HV
    go_enter Tryd.func15, Tryd.ntmps15
    go_upto_region 1 with fail
    rw [← HW0.out, ← HRR.out, ← HBB.out, ← HW1.out]
    go_wp2_with fail
    go_ret
    exact ⟨rfl, HB01.out⟩
  obtain ⟨q, rfl⟩ : ∃ q : Nat, op = (q : Int) := ⟨op.toNat, by omega⟩
  have HQ : Hid (q < 21) := Lib.hid (by omega)
  have d1 : decide ((q : Int) < 0) = false := by simp
  have d2 : decide ((q : Int) ≥ 21) = false := by simp; omega
  have d3 : decide (21 ≤ (q : Int)) = false := by simp; omega
  have hpl : placedL p pc ⟨(q : Int), a, b, c⟩ = (placed1 p pc ⟨(q : Int), a, b, c⟩ 0 && (placed1 p pc ⟨(q : Int), a, b, c⟩ 1 && placed1 p pc ⟨(q : Int), a, b, c⟩ 2)) := by unfold placedL; simp only [d1, d3]; rfl
  rw [hpl]
  obtain ⟨X, hX⟩ : ∃ X : In4, X = ⟨(q : Int), a, b, c⟩ := ⟨_, rfl⟩
  rw [← hX]
  have ko := operands_any X W1
  have hXop : X.op = (q : Int) := by rw [hX]
  have hXin : inV X = .agg #[.int .i64 (q : Int), .int .i64 a, .int .i64 b, .int .i64 c] := by rw [hX]; rfl
  rw [hXin] at ko
  have HXO := Lib.hid hXop
  have HOI := Lib.hid (fun (k : Nat) (hk : k < 3) (W : World) => ops_index X k hk W)
  obtain ⟨ov, hov⟩ : ∃ v, v = opsV X := ⟨_, rfl⟩
  rw [← hov] at ko HOI
  clear hneg hbig hpl hX hXop hXin hov
  go_enter Tryd.func15, Tryd.ntmps15
  go_upto_region 1 with fail
  rw [← HW0.out, ← HRR.out, ← HBB.out, ← HW1.out]
  go_wp2_with (refine wpList_load_row rfl 34 (.tmp 5) rfl R rfl 34 #[.int .i64 (q : Int), .int .i64 a, .int .i64 b, .int .i64 c] (0, 0) _ ?_ Tryd.underlying34 rfl HSI.out ?_; (exact HI.out))
  (with_reducible refine ko.mono ?_)
  rintro e w2 ⟨rfl, hb2⟩
  have HB2 := Lib.hid hb2
  clear ko hb2 q0 d1 d2 d3
  go_wp2_with fail
  go_loopw [21] (fun v wr => ∃ k : Nat, v = .int .i64 (k : Int) ∧ k ≤ 3 ∧ Below W1.heap.size W1 wr ∧ ∀ j, j < k → placed1 p pc X j = true)
    (fun v _ => 3 - (intOf v).toNat)
  case atStart => exact ⟨0, rfl, by omega, HB2.out, fun j hj => by omega⟩
  case round =>
    obtain ⟨k, rfl, hk, hb, hq⟩ := hrel
    have HB := Lib.hid hb
    have HPR := Lib.hid hq
    clear hb hq
    by_cases hk3 : k < 3
    · have HK3 := Lib.hid hk3
      have d1 : decide ((k : Int) < 3) = true := by simp; omega
      have hix := HOI.out k hk3
      obtain ⟨v, hv⟩ : ∃ v, v = opnd X k := ⟨_, rfl⟩
      rw [← hv] at hix
      have hrr := role_range q k HQ.out hk3
      have hro := (HT.out.below HB.out) q k HQ.out hk3
      obtain ⟨r, hr⟩ : ∃ r, r = roleO (q : Int) k := ⟨_, rfl⟩
      rw [← hr] at hrr hro
      have kp := fun W => places_any p x0 x1 x2 x3 x4 x5 c0 c1 c2 c3 c4 c5 HSUM.out pc HPC.out r hrr.1 hrr.2 W
      have hp1 : placed1 p pc X k = !(!(r == 0) && (decide (v < (placesO p pc r).1) || decide ((placesO p pc r).2 ≤ v))) := by
        unfold placed1
        rw [HXO.out, ← hr, ← hv]
      obtain ⟨fr, hfr⟩ : ∃ f, f = (placesO p pc r).1 := ⟨_, rfl⟩
      obtain ⟨to_, hto⟩ : ∃ f, f = (placesO p pc r).2 := ⟨_, rfl⟩
      unfold pgV at kp
      rw [← hfr, ← hto] at hp1
      simp only [← hfr, ← hto] at kp
      have KP := Lib.hid kp
      have HP1 := Lib.hid hp1
      have HRO := Lib.hid hro
      have HGL := Lib.hid ((HT.out.below HB.out).lt)
      have HXr := Lib.hid ((HB.out.block B (Array.getElem?_eq_some_iff.1 HX.out).1).trans HX.out)
      have HIr := Lib.hid ((HB.out.block R (Array.getElem?_eq_some_iff.1 HI.out).1).trans HI.out)
      clear hk hk3 hv hrr hro hr kp hp1 hfr hto
      go_upto_region 6 with fail
      refine wp_region_steps (words [wIs (.agg #[.slice x0 p.ins.length c0, .slice x1 p.outs.length c1, .slice x2 p.slots.length c2, .slice x3 p.mems.length c3, .slice x4 p.consts.length c4, .slice x5 p.code.length c5]), wIs (.int .i64 (pc : Int)), wIs (.pointer (some ⟨R, 0, none⟩)), wIs (.int .i64 (q : Int)), wIs (.int .i64 (k : Int)), wIs (.pointer (some ⟨0, q * 3, none⟩)), wIs (.pointer (some ⟨0, q * 3 + k, none⟩)), wIs (.int .i64 r), wIs (.tuple #[.int .i64 fr, .int .i64 to_]), wIs (.tuple #[.int .i64 fr, .int .i64 to_]), wIs (.int .i64 fr), wIs (.int .i64 to_), wIs (.int .i64 fr), wIs (.int .i64 to_)]) wr.heap.size wr (by kernel_rfl) (Below.refl _ _) (Nat.le_refl _) (words_stable ?stab) rfl rfl (by kernel_rfl) ?steps ?rest2
      case stab =>
        intro f hf
        simp only [List.mem_cons, List.not_mem_nil, or_false] at hf
        rcases hf with rfl | rfl | rfl | rfl | rfl | rfl | rfl | rfl | rfl | rfl | rfl | rfl | rfl | rfl <;> first | exact stable_is _
      case steps =>
        refine Steps.cons (step_value rfl fun xa W hp => ?_) ?_
        · have e0 : xa.tmps.getD 3 undef = .pointer (some ⟨B, 0, none⟩) := hp.old 3 rfl
          exact ⟨(wanted_none rfl), _, _, run_ldrow rfl e0 ((hp.below.block (B) (Array.getElem?_eq_some_iff.1 HXr.out).1).trans HXr.out) Tryd.underlying32 rfl HSP.out, rfl, Below.refl _ _⟩
        refine Steps.cons (step_value rfl fun xa W hp => ⟨(wanted_none rfl), _, _, run_move (.inl rfl), hp.old 1 rfl, Below.refl _ _⟩) ?_
        refine Steps.cons (step_value rfl fun xa W hp => ?_) ?_
        · have e0 : xa.tmps.getD 5 undef = .pointer (some ⟨R, 0, none⟩) := hp.old 5 rfl
          have e1 : (Instr.fieldAt 34 (.pointer (some ⟨R, 0, none⟩)) 0).run Tryd.prog W = .ok (.pointer (some ⟨R, 0, none⟩)) W := by kernel_rfl
          exact ⟨(wanted_none rfl), _, _, run_fa4 rfl e0 e1, rfl, Below.refl _ _⟩
        refine Steps.cons (step_value rfl fun xa W hp => ?_) ?_
        · have e0 : xa.tmps.getD 28 undef = .pointer (some ⟨R, 0, none⟩) := (hp.on_ 2 rfl rfl rfl).2
          exact ⟨(wanted_none rfl), _, _, run_ldv rfl e0 (cell_of_row W (R) 0 _ _ _ ((hp.below.block (R) (Array.getElem?_eq_some_iff.1 HIr.out).1).trans HIr.out)) Tryd.underlying3 rfl (by kernel_rfl), rfl, Below.refl _ _⟩
        refine Steps.cons (step_value rfl fun xa W hp => ⟨(wanted_none rfl), _, _, run_move (.inl rfl), hp.old 7 rfl, Below.refl _ _⟩) ?_
        refine Steps.cons (step_value rfl fun xa W hp => ?_) ?_
        · have e1 : xa.tmps.getD 29 undef = .int .i64 (q : Int) := (hp.on_ 3 rfl rfl rfl).2
          exact ⟨(wanted_none rfl), _, _, run_rolesA rfl rfl e1 HQ.out, rfl, Below.refl _ _⟩
        refine Steps.cons (step_value rfl fun xa W hp => ?_) ?_
        · have e0 : xa.tmps.getD 31 undef = .pointer (some ⟨0, q * 3, none⟩) := (hp.on_ 5 rfl rfl rfl).2
          have e1 : xa.tmps.getD 30 undef = .int .i64 (k : Int) := (hp.on_ 4 rfl rfl rfl).2
          exact ⟨(wanted_none rfl), _, _, run_rolesB rfl e0 e1 HK3.out, rfl, Below.refl _ _⟩
        refine Steps.cons (step_value rfl fun xa W hp => ?_) ?_
        · have e0 : xa.tmps.getD 32 undef = .pointer (some ⟨0, q * 3 + k, none⟩) := (hp.on_ 6 rfl rfl rfl).2
          exact ⟨(wanted_none rfl), _, _, run_ldv rfl e0 ((hp.below.cell (p := ⟨0, q * 3 + k, none⟩) HGL.out).trans HRO.out) Tryd.underlying56 rfl (by kernel_rfl), rfl, Below.refl _ _⟩
        refine Steps.cons (step_enter rfl fun xa W hp => ?_) ?_
        · have e0 : xa.tmps.getD 26 undef = .agg #[.slice x0 p.ins.length c0, .slice x1 p.outs.length c1, .slice x2 p.slots.length c2, .slice x3 p.mems.length c3, .slice x4 p.consts.length c4, .slice x5 p.code.length c5] := (hp.on_ 0 rfl rfl rfl).2
          have e1 : xa.tmps.getD 27 undef = .int .i64 (pc : Int) := (hp.on_ 1 rfl rfl rfl).2
          have e2 : xa.tmps.getD 33 undef = .int .i64 r := (hp.on_ 7 rfl rfl rfl).2
          refine ⟨(wanted_none rfl), 25, _, run_enter3 rfl rfl Tryd.call25, ?_⟩
          show Calls _ _ #[xa.tmps.getD 26 undef, xa.tmps.getD 27 undef, xa.tmps.getD 33 undef] W _
          rw [e0, e1, e2]
          refine (KP.out W).mono ?_
          rintro e W' ⟨he, hbe⟩
          exact ⟨_, he, rfl, hbe⟩
        refine Steps.cons (step_value rfl fun xa W hp => ⟨(wanted_none rfl), _, _, run_move (.inl rfl), (hp.on_ 8 rfl rfl rfl).2, Below.refl _ _⟩) ?_
        refine Steps.cons (step_value rfl fun xa W hp => ?_) ?_
        · have e0 : xa.tmps.getD 25 undef = .tuple #[.int .i64 fr, .int .i64 to_] := (hp.on_ 9 rfl rfl rfl).2
          exact ⟨(wanted_none rfl), _, _, run_ext rfl e0 rfl, rfl, Below.refl _ _⟩
        refine Steps.cons (step_value rfl fun xa W hp => ?_) ?_
        · have e0 : xa.tmps.getD 25 undef = .tuple #[.int .i64 fr, .int .i64 to_] := (hp.on_ 9 rfl rfl rfl).2
          exact ⟨(wanted_none rfl), _, _, run_ext rfl e0 rfl, rfl, Below.refl _ _⟩
        refine Steps.cons (step_value rfl fun xa W hp => ⟨(wanted_none rfl), _, _, run_move (.inr rfl), (hp.on_ 10 rfl rfl rfl).2, Below.refl _ _⟩) ?_
        refine Steps.cons (step_value rfl fun xa W hp => ⟨(wanted_none rfl), _, _, run_move (.inr rfl), (hp.on_ 11 rfl rfl rfl).2, Below.refl _ _⟩) ?_
        exact Steps.nil
      case rest2 =>
        intro act W hI
        have hbW := hI.below
        have h9 : act.tmps.getD 9 undef = .int .i64 fr := hI.new 12 _ 9 rfl rfl rfl
        have h10 : act.tmps.getD 10 undef = .int .i64 to_ := hI.new 13 _ 10 rfl rfl rfl
        obtain ⟨fo, hfo, hx⟩ := puts_of hI.tmps hI.defers hI.old [26, 27, 28, 29, 30, 31, 32, 33, 34, 25, 35, 36, 9, 10] rfl
        rw [hfo] at h9 h10
        have HBW := Lib.hid (HB.out.trans (hbW.mono HB.out.size))
        have hro2 := (HT.out.below HBW.out) q k HQ.out HK3.out
        have HIw := Lib.hid ((HBW.out.block R (Array.getElem?_eq_some_iff.1 HI.out).1).trans HI.out)
        have hro3 : W.cell? ⟨0, q * 3 + k, none⟩ = some (.int .i64 r) := by
          have h1 := HRO.out
          have h2 := hbW.cell (p := ⟨0, q * 3 + k, none⟩) HGL.out
          exact h2.trans h1
        have z0 := cell_of_row W R 0 _ _ _ HIw.out
        clear hI hfo hbW hro2
        subst hx
        simp only [Exit.inBlock, Exit.then, List.foldl, Act.put, List.setIfInBounds_toArray, List.set_cons_succ, List.set_cons_zero]
        rw [h9, h10]
        clear h9 h10
        have HNX : Hid (placed1 p pc X k = true → ∀ j, j < k + 1 → placed1 p pc X j = true) := Lib.hid fun h j hj => by
          by_cases hjk : j = k
          · rw [hjk]; exact h
          · exact HPR.out j (by omega)
        have HNO : Hid (placed1 p pc X k = false → (placed1 p pc X 0 && (placed1 p pc X 1 && placed1 p pc X 2)) = false) := Lib.hid fun h => by
          have := HK3.out
          have hk : k = 0 ∨ k = 1 ∨ k = 2 := by omega
          rcases hk with rfl | rfl | rfl <;> rw [h] <;> simp
        by_cases hr0 : r = 0
        · have HY : Hid (placed1 p pc X k = true) := Lib.hid (by rw [HP1.out, hr0]; rfl)
          subst hr0
          go_wp2_with (first | refine wpList_val rfl (run_rolesA rfl rfl rfl HQ.out) ?_ | refine wpList_val rfl (run_rolesB rfl rfl rfl HK3.out) ?_)
          have hwr := wrap_succV (i := k) (by have := HK3.out; omega)
          exact ⟨⟨k + 1, by rw [hwr], HK3.out, HBW.out, HNX.out HY.out⟩, by have := HK3.out; rw [hwr]; simp only [intOf]; omega⟩
        · have e1 : (r == 0) = false := by simp [hr0]
          have e2 : (r != 0) = true := by simp [hr0]
          by_cases hlt : v < fr
          · have HY : Hid (placed1 p pc X k = false) := Lib.hid (by rw [HP1.out, e1]; simp [hlt])
            have e3 : decide (v < fr) = true := by simp [hlt]
            clear hr0 hlt e1
            go_wp2_with (first | refine wpList_val rfl (run_rolesA rfl rfl rfl HQ.out) ?_ | refine wpList_val rfl (run_rolesB rfl rfl rfl HK3.out) ?_)
            go_ret
            exact ⟨by rw [HNO.out HY.out]; rfl, HB01.out.trans (HBW.out.mono HB01.out.size)⟩
          · have e3 : decide (v < fr) = false := by simp; omega
            by_cases hge : to_ ≤ v
            · have HY : Hid (placed1 p pc X k = false) := Lib.hid (by rw [HP1.out, e1]; simp [hge])
              have e4 : decide (v ≥ to_) = true := by simp [hge]
              have e5 : decide (to_ ≤ v) = true := by simp [hge]
              clear hr0 hlt hge e1
              go_wp2_with (first | refine wpList_val rfl (run_rolesA rfl rfl rfl HQ.out) ?_ | refine wpList_val rfl (run_rolesB rfl rfl rfl HK3.out) ?_)
              go_ret
              exact ⟨by rw [HNO.out HY.out]; rfl, HB01.out.trans (HBW.out.mono HB01.out.size)⟩
            · have HY : Hid (placed1 p pc X k = true) := Lib.hid (by rw [HP1.out, e1, e3]; simp; omega)
              have e4 : decide (v ≥ to_) = false := by simp; omega
              have e5 : decide (to_ ≤ v) = false := by simp; omega
              clear hr0 hlt hge e1
              go_wp2_with (first | refine wpList_val rfl (run_rolesA rfl rfl rfl HQ.out) ?_ | refine wpList_val rfl (run_rolesB rfl rfl rfl HK3.out) ?_)
              have hwr := wrap_succV (i := k) (by have := HK3.out; omega)
              exact ⟨⟨k + 1, by rw [hwr], HK3.out, HBW.out, HNX.out HY.out⟩, by have := HK3.out; rw [hwr]; simp only [intOf]; omega⟩
    · obtain rfl : k = 3 := by omega
      have HALL : Hid ((placed1 p pc X 0 && (placed1 p pc X 1 && placed1 p pc X 2)) = true) := Lib.hid (by rw [HPR.out 0 (by omega), HPR.out 1 (by omega), HPR.out 2 (by omega)]; rfl)
      clear hk hk3
      go_wp2_with fail
      go_ret
      exact ⟨by rw [HALL.out]; rfl, HB01.out.trans (HB.out.mono HB01.out.size)⟩
end Go.Proofs.YtglplhkbnkbjbaaDoor

namespace Go.Proofs.YtglplhkbnkbjbaaDoor
open Go Go.RowKit
set_option maxRecDepth 100000
theorem k3_part0 (a b c : Int) (W : World) : (part 23 #[.int .i64 a, .int .i64 b, .int .i64 c] 0).run Tryd.prog W = .ok (.int .i64 a) W := by kernel_rfl
theorem k3_part1 (a b c : Int) (W : World) : (part 23 #[.int .i64 a, .int .i64 b, .int .i64 c] 1).run Tryd.prog W = .ok (.int .i64 b) W := by kernel_rfl
theorem k3_part2 (a b c : Int) (W : World) : (part 23 #[.int .i64 a, .int .i64 b, .int .i64 c] 2).run Tryd.prog W = .ok (.int .i64 c) W := by kernel_rfl
theorem cells_kind : Tryd.prog.cellsOf 23 = 1 := by kernel_rfl
theorem size_kinds3 : (Tryd.prog.info? 59).map (·.size) = some 3 := by kernel_rfl
theorem info_kind1 : (Tryd.prog.info? 23).map (·.size) = some 1 := by kernel_rfl
theorem k3_eql (a b c d e f : Int) (W : World) : (binOp .eql 59 (.agg #[.int .i64 a, .int .i64 b, .int .i64 c]) (.agg #[.int .i64 d, .int .i64 e, .int .i64 f])).run Tryd.prog W = .ok (.bool ((a == d) && ((b == e) && (c == f)))) W := by
  obtain ⟨i, hi, _⟩ : ∃ i, Tryd.prog.info? 23 = some i ∧ i.size = 1 := by
    have h0 := info_kind1
    cases h : Tryd.prog.info? 23 with
    | none => rw [h] at h0; cases h0
    | some i => rw [h] at h0; exact ⟨i, rfl, by simpa using h0⟩
  rw [run_eql_struct, run_equalIn_array W 9999 _ _ Tryd.underlying59 hi, cells_kind, show List.range 3 = [0, 1, 2] from by decide]
  simp only [Op.eqItems, Nat.mul_one, Sem.run_bind, Sem.run_ite, Sem.run_pure, k3_part0, k3_part1, k3_part2, Result.andThen_ok, run_equalIn_int W 9998 23 .i64 _ _ _ Tryd.underlying23]
  cases (a == d) <;> cases (b == e) <;> cases (c == f) <;> simp
theorem row_ne (a : Addr) (n c : Nat) (W : World) : (binOp .neq 24 (.slice (some a) n c) (.slice none 0 0)).run Tryd.prog W = .ok (.bool true) W := by first | kernel_rfl | simp [go_sem, binOp]
theorem row_nil (W : World) : (binOp .neq 24 (.slice none 0 0) (.slice none 0 0)).run Tryd.prog W = .ok (.bool false) W := by first | kernel_rfl | simp [go_sem, binOp]
/-- The row that a role names, in memory. -/
theorem row_of {p : Pg} {x0 x1 x2 x3 x4 x5 : Option Addr} {w : World} (h : PgIn w p x0 x1 x2 x3 x4 x5) (c0 c1 c2 c3 : Nat) (r : Int) : match kindsO p r with
    | none => rowV p x0 x1 x2 x3 c0 c1 c2 c3 r = .slice none 0 0
    | some l => ∃ xr cr, rowV p x0 x1 x2 x3 c0 c1 c2 c3 r = .slice xr l.length cr ∧ Row (Value.int .i64) w xr l := by
  unfold kindsO rowV
  by_cases h1 : r = 1 ∨ r = 2
  · rw [if_pos h1, if_pos h1]; exact ⟨x2, c2, rfl, h.slots⟩
  · rw [if_neg h1, if_neg h1]
    by_cases h2 : r = 4
    · rw [if_pos h2, if_pos h2]; exact ⟨x3, c3, rfl, h.mems⟩
    · rw [if_neg h2, if_neg h2]
      by_cases h3 : r = 5
      · rw [if_pos h3, if_pos h3]; exact ⟨x0, c0, rfl, h.ins⟩
      · rw [if_neg h3, if_neg h3]
        by_cases h4 : r = 6
        · rw [if_pos h4, if_pos h4]; exact ⟨x1, c1, rfl, h.outs⟩
        · rw [if_neg h4, if_neg h4]
theorem kind_bound {p : Pg} {pc : Nat} {x : In4} (h : namedP p pc x = true) (k : Nat) (hk : k < 3) {l : List Int} (hr : kindsO p (roleO x.op k) = some l) : ∃ j : Nat, opnd x k = (j : Int) ∧ j < l.length := by
  rw [← placed_named] at h
  have hp : placed1 p pc x k = true := by
    unfold placedL at h
    simp only [Bool.and_eq_true] at h
    rcases k with _ | _ | _ | k
    · exact h.2.1
    · exact h.2.2.1
    · exact h.2.2.2
    · omega
  unfold placed1 at hp
  obtain ⟨r, hrr⟩ : ∃ r, r = roleO x.op k := ⟨_, rfl⟩
  rw [← hrr] at hp hr
  have hn : r ≠ 0 ∧ r ≠ 3 ∧ r ≠ 7 := by
    refine ⟨?_, ?_, ?_⟩ <;> (rintro rfl; simp [kindsO] at hr)
  have hpl : placesO p pc r = (0, (l.length : Int)) := by
    unfold placesO
    rw [if_neg hn.2.1, if_neg hn.2.2, hr]
    rfl
  rw [hpl] at hp
  have h0 : (r == 0) = false := by simp [hn.1]
  rw [h0] at hp
  simp at hp
  exact ⟨(opnd x k).toNat, by omega, by omega⟩
/-- The kinds found so far. -/
def kcell (p : Pg) (x : In4) (i j : Nat) : Int := if j < i then kindL p x j else 0
def kcells (p : Pg) (x : In4) (i : Nat) : Array Value := #[.int .i64 (kcell p x i 0), .int .i64 (kcell p x i 1), .int .i64 (kcell p x i 2)]
theorem kcells_next (p : Pg) (x : In4) (k : Nat) (hk : k < 3) : (kcells p x k).setIfInBounds k (.int .i64 (kindL p x k)) = kcells p x (k + 1) := by
  have h : k = 0 ∨ k = 1 ∨ k = 2 := by omega
  rcases h with rfl | rfl | rfl <;> simp [kcells, kcell]
theorem kcells_same (p : Pg) (x : In4) (k : Nat) (hk : k < 3) (h0 : kindL p x k = 0) : kcells p x k = kcells p x (k + 1) := by
  have h : k = 0 ∨ k = 1 ∨ k = 2 := by omega
  rcases h with rfl | rfl | rfl <;> simp [kcells, kcell, h0]
end Go.Proofs.YtglplhkbnkbjbaaDoor

namespace Go.Proofs.YtglplhkbnkbjbaaDoor
open Go Go.RowKit
set_option maxRecDepth 100000
theorem grownV_below {a b c : World} {r : Option Nat} (h : a.grownBy b r) (k : Below b.heap.size b c) : a.grownBy c r :=
  ⟨k.os.trans h.os, k.tape.trans h.tape, k.output.trans h.output, Nat.le_trans h.size k.size, fun i hi hr => (k.block i (Nat.lt_of_lt_of_le hi h.size)).trans (h.block i hi hr)⟩
set_option maxHeartbeats 40000000 in
theorem fits_any (p : Pg) (x0 x1 x2 x3 x4 x5 : Option Addr) (c0 c1 c2 c3 c4 c5 : Nat) (pc : Nat) (x : In4) (hn : namedP p pc x = true) (w : World) (hT : VTab w) (in_p : PgIn w p x0 x1 x2 x3 x4 x5) : Calls Tryd.prog 16 #[pgV p x0 x1 x2 x3 x4 x5 c0 c1 c2 c3 c4 c5, inV x] w fun e w' => e = .returned (.bool (fitsL p x)) ∧ Below w.heap.size w w' := by
  have hor := op_range hn
  have hb0' : x.op = 0 → ∃ j : Nat, x.b = (j : Int) ∧ j < p.consts.length := by
    intro h0
    rw [← placed_named] at hn
    unfold placedL at hn
    simp only [Bool.and_eq_true] at hn
    have h1 := hn.2.2.1
    unfold placed1 at h1
    rw [h0, show roleO 0 1 = 3 from by decide] at h1
    simp [placesO, opnd] at h1
    exact ⟨x.b.toNat, by omega, by omega⟩
  have hkb := fun (k : Nat) (hk : k < 3) (l : List Int) (h : kindsO p (roleO x.op k) = some l) => kind_bound hn k hk h
  have ko0 := fun W => operands_any x W
  have hoi0 := fun (k : Nat) (hk : k < 3) (W : World) => ops_index x k hk W
  obtain ⟨X, hX⟩ : ∃ X, X = x := ⟨_, rfl⟩
  obtain ⟨ov, hov⟩ : ∃ v, v = opsV x := ⟨_, rfl⟩
  rw [← hov] at hoi0
  have ko : ∀ W, Calls Tryd.prog 24 #[inV x] W fun e w' => e = .returned ov ∧ Below W.heap.size W w' := by rw [hov]; exact ko0
  rw [← hX] at hoi0 hkb hb0'
  obtain ⟨op, a, b, c⟩ := x
  have hop1 : 0 ≤ op := hor.1
  have hop2 : op ≤ 20 := hor.2
  obtain ⟨q, rfl⟩ : ∃ q : Nat, op = (q : Int) := ⟨op.toNat, by omega⟩
  have HQ : Hid (q < 21) := Lib.hid (by omega)
  have hXop : X.op = (q : Int) := by rw [hX]
  have hXb : X.b = b := by rw [hX]
  have hin : inV ⟨(q : Int), a, b, c⟩ = .agg #[.int .i64 (q : Int), .int .i64 a, .int .i64 b, .int .i64 c] := rfl
  rw [hin] at ko
  rw [hin, ← hX]
  obtain ⟨W0, hW0⟩ : ∃ W0, W0 = w.alloc (.cells #[.slice x0 p.ins.length c0, .slice x1 p.outs.length c1, .slice x2 p.slots.length c2, .slice x3 p.mems.length c3, .slice x4 p.consts.length c4, .slice x5 p.code.length c5] 32) := ⟨_, rfl⟩
  have hb0 : Below w.heap.size w W0 := by rw [hW0]; exact (Below.refl _ _).alloc (Nat.le_refl _) _
  have k0 := heap_alloc_new w (.cells #[.slice x0 p.ins.length c0, .slice x1 p.outs.length c1, .slice x2 p.slots.length c2, .slice x3 p.mems.length c3, .slice x4 p.consts.length c4, .slice x5 p.code.length c5] 32)
  rw [← hW0] at k0
  obtain ⟨B, hB⟩ : ∃ B, B = w.heap.size := ⟨_, rfl⟩
  rw [← hB] at k0
  obtain ⟨W1, hW1⟩ : ∃ W1, W1 = W0.alloc (.cells #[.int .i64 (q : Int), .int .i64 a, .int .i64 b, .int .i64 c] 34) := ⟨_, rfl⟩
  have hb1 : Below W0.heap.size W0 W1 := by rw [hW1]; exact (Below.refl _ _).alloc (Nat.le_refl _) _
  have k1 := heap_alloc_new W0 (.cells #[.int .i64 (q : Int), .int .i64 a, .int .i64 b, .int .i64 c] 34)
  rw [← hW1] at k1
  obtain ⟨R, hR⟩ : ∃ R, R = w.heap.size + 1 := ⟨_, rfl⟩
  have hRW : W0.heap.size = R := by rw [hW0, hR]; simp
  rw [hRW] at k1
  have k0' := (hb1.block B (Array.getElem?_eq_some_iff.1 k0).1).trans k0
  have hb01 := hb0.trans (hb1.mono hb0.size)
  obtain ⟨W2, hW2⟩ : ∃ W2, W2 = W1.alloc (.cells #[.int .i64 0, .int .i64 0, .int .i64 0] 59) := ⟨_, rfl⟩
  have hb2 : Below W1.heap.size W1 W2 := by rw [hW2]; exact (Below.refl _ _).alloc (Nat.le_refl _) _
  have k2 := heap_alloc_new W1 (.cells #[.int .i64 0, .int .i64 0, .int .i64 0] 59)
  rw [← hW2] at k2
  obtain ⟨K, hK⟩ : ∃ K, K = w.heap.size + 1 + 1 := ⟨_, rfl⟩
  have hKW : W1.heap.size = K := by rw [hW1, hK]; simp [hRW, hR]
  rw [hKW] at k2
  have kx := (hb2.block B (by have := hb1.size; have := (Array.getElem?_eq_some_iff.1 k0).1; omega)).trans k0'
  have ki := (hb2.block R (Array.getElem?_eq_some_iff.1 k1).1).trans k1
  have hb012 := hb01.trans (hb2.mono hb01.size)
  have hBK : B < K ∧ R < K ∧ R < W2.heap.size ∧ w.heap.size ≤ K ∧ B < W2.heap.size := by
    have := (Array.getElem?_eq_some_iff.1 ki).1
    have := (Array.getElem?_eq_some_iff.1 kx).1
    omega
  have hkz : W2.heap[K]? = some (.cells (kcells p X 0) 59 (0, 0)) := by rw [k2]; simp [kcells, kcell]
  have kr := ko W2
  have HB012 := Lib.hid hb012
  have HBK := Lib.hid hBK
  have HW0 := Lib.hid hW0
  have HW1 := Lib.hid hW1
  have HW2 := Lib.hid hW2
  have HBB := Lib.hid hB
  have HRR := Lib.hid hR
  have HKK := Lib.hid hK
  have HX := Lib.hid kx
  have HI := Lib.hid ki
  have HK0 := Lib.hid hkz
  have HSP := Lib.hid size_progv
  have HSI := Lib.hid size_in4v
  have HSK := Lib.hid size_kinds3
  have HT := Lib.hid hT
  have HP := Lib.hid in_p
  have HKB := Lib.hid hkb
  have HB0 := Lib.hid hb0'
  have HXO := Lib.hid hXop
  have HXB := Lib.hid hXb
  have HOI := Lib.hid hoi0
  clear hor hb0' hkb ko0 hoi0 hov ko hop1 hop2 hXop hXb hin hX hn k0 k0' k1 k2 kx ki hb0 hb1 hb01 hb2 hb012 hBK hkz hW0 hW1 hW2 hB hR hK hRW hKW hT in_p
  unfold pgV
  go_enter Tryd.func16, Tryd.ntmps16
  go_upto_region 2 with fail
  rw [← HW0.out, ← HKK.out, ← HRR.out, ← HBB.out, ← HW1.out, ← HW2.out]
  go_wp2_with (refine wpList_load_row rfl 34 (.tmp 3) rfl R rfl 34 #[.int .i64 (q : Int), .int .i64 a, .int .i64 b, .int .i64 c] (0, 0) _ ?_ Tryd.underlying34 rfl HSI.out ?_; (exact HI.out))
  (with_reducible refine kr.mono ?_)
  rintro e w2 ⟨rfl, hbk2⟩
  have HB2 := Lib.hid hbk2
  clear kr hbk2
  go_wp2_with fail
  go_loopw [11] (fun v wr => ∃ k : Nat, v = .int .i64 (k : Int) ∧ k ≤ 3 ∧ W2.grownBy wr (some K) ∧ wr.heap[K]? = some (.cells (kcells p X k) 59 (0, 0)))
    (fun v _ => 3 - (intOf v).toNat)
  case atStart => exact ⟨0, rfl, by omega, grownV_below (World.grownBy.refl _ _) HB2.out, (HB2.out.block K (Array.getElem?_eq_some_iff.1 HK0.out).1).trans HK0.out⟩
  case round =>
    obtain ⟨k, rfl, hk, hg, hkc⟩ := hrel
    have HG := Lib.hid hg
    have HKC := Lib.hid hkc
    have hbel : Below w.heap.size w wr := HB012.out.grown hg (by have := HB012.out.size; omega) (by intro j hj; have := HBK.out.2.2.2.1; injection hj with hj; omega)
    have HB := Lib.hid hbel
    have HXr := Lib.hid ((hg.block B (by have := HBK.out; omega) (by have := HBK.out; simp; omega)).trans HX.out)
    have HIr := Lib.hid ((hg.block R HBK.out.2.2.1 (by have := HBK.out; simp; omega)).trans HI.out)
    clear hg hkc hbel
    by_cases hk3 : k < 3
    · have HK3 := Lib.hid hk3
      have d1 : decide ((k : Int) < 3) = true := by simp; omega
      have hix := HOI.out k hk3
      have hro := (HT.out.below HB.out) q k HQ.out hk3
      have hrr := role_range q k HQ.out hk3
      have hkb := HKB.out k hk3
      have hro2 := row_of (HP.out.below HB.out) c0 c1 c2 c3 (roleO (q : Int) k)
      have hkl : kindL p X k = match kindsO p (roleO (q : Int) k) with | some l => atI l (opnd X k) | none => 0 := by unfold kindL; rw [HXO.out]; first | rfl | (cases kindsO p (roleO (q : Int) k) <;> rfl)
      rw [HXO.out] at hkb
      obtain ⟨v, hv⟩ : ∃ v, v = opnd X k := ⟨_, rfl⟩
      rw [← hv] at hix hkb hkl
      obtain ⟨r, hr⟩ : ∃ r, r = roleO (q : Int) k := ⟨_, rfl⟩
      rw [← hr] at hrr hro hkb hro2 hkl
      have kp := fun W => kinds_any p x0 x1 x2 x3 x4 x5 c0 c1 c2 c3 c4 c5 r hrr.1 hrr.2 W
      obtain ⟨rv, hrv⟩ : ∃ v, v = rowV p x0 x1 x2 x3 c0 c1 c2 c3 r := ⟨_, rfl⟩
      rw [← hrv] at kp hro2
      unfold pgV at kp
      have KP := Lib.hid kp
      have HRO := Lib.hid hro
      have HRO2 := Lib.hid hro2
      have HKBk := Lib.hid hkb
      have HKL := Lib.hid hkl
      have HGL := Lib.hid ((HT.out.below HB.out).lt)
      have hwr := wrap_succV (i := k) (by omega)
      have HWR := Lib.hid hwr
      clear hk hk3 hv hrr hro hr kp hkb hro2 hkl hrv hwr
      go_upto_region 5 with fail
      refine wp_region_steps (words [wIs (.agg #[.slice x0 p.ins.length c0, .slice x1 p.outs.length c1, .slice x2 p.slots.length c2, .slice x3 p.mems.length c3, .slice x4 p.consts.length c4, .slice x5 p.code.length c5]), wIs (.pointer (some ⟨R, 0, none⟩)), wIs (.int .i64 (q : Int)), wIs (.int .i64 (k : Int)), wIs (.pointer (some ⟨0, q * 3, none⟩)), wIs (.pointer (some ⟨0, q * 3 + k, none⟩)), wIs (.int .i64 r), wIs (rv), wIs (rv)]) wr.heap.size wr (by kernel_rfl) (Below.refl _ _) (Nat.le_refl _) (words_stable ?stab) rfl rfl (by kernel_rfl) ?steps ?rest2
      case stab =>
        intro f hf
        simp only [List.mem_cons, List.not_mem_nil, or_false] at hf
        rcases hf with rfl | rfl | rfl | rfl | rfl | rfl | rfl | rfl | rfl <;> first | exact stable_is _
      case steps =>
        refine Steps.cons (step_value rfl fun xa W hp => ?_) ?_
        · have e0 : xa.tmps.getD 2 undef = .pointer (some ⟨B, 0, none⟩) := hp.old 2 rfl
          exact ⟨(wanted_none rfl), _, _, run_ldrow rfl e0 ((hp.below.block (B) (Array.getElem?_eq_some_iff.1 HXr.out).1).trans HXr.out) Tryd.underlying32 rfl HSP.out, rfl, Below.refl _ _⟩
        refine Steps.cons (step_value rfl fun xa W hp => ?_) ?_
        · have e0 : xa.tmps.getD 3 undef = .pointer (some ⟨R, 0, none⟩) := hp.old 3 rfl
          have e1 : (Instr.fieldAt 34 (.pointer (some ⟨R, 0, none⟩)) 0).run Tryd.prog W = .ok (.pointer (some ⟨R, 0, none⟩)) W := by kernel_rfl
          exact ⟨(wanted_none rfl), _, _, run_fa4 rfl e0 e1, rfl, Below.refl _ _⟩
        refine Steps.cons (step_value rfl fun xa W hp => ?_) ?_
        · have e0 : xa.tmps.getD 16 undef = .pointer (some ⟨R, 0, none⟩) := (hp.on_ 1 rfl rfl rfl).2
          exact ⟨(wanted_none rfl), _, _, run_ldv rfl e0 (cell_of_row W (R) 0 _ _ _ ((hp.below.block (R) (Array.getElem?_eq_some_iff.1 HIr.out).1).trans HIr.out)) Tryd.underlying3 rfl (by kernel_rfl), rfl, Below.refl _ _⟩
        refine Steps.cons (step_value rfl fun xa W hp => ⟨(wanted_none rfl), _, _, run_move (.inl rfl), hp.old 6 rfl, Below.refl _ _⟩) ?_
        refine Steps.cons (step_value rfl fun xa W hp => ?_) ?_
        · have e1 : xa.tmps.getD 17 undef = .int .i64 (q : Int) := (hp.on_ 2 rfl rfl rfl).2
          exact ⟨(wanted_none rfl), _, _, run_rolesA rfl rfl e1 HQ.out, rfl, Below.refl _ _⟩
        refine Steps.cons (step_value rfl fun xa W hp => ?_) ?_
        · have e0 : xa.tmps.getD 19 undef = .pointer (some ⟨0, q * 3, none⟩) := (hp.on_ 4 rfl rfl rfl).2
          have e1 : xa.tmps.getD 18 undef = .int .i64 (k : Int) := (hp.on_ 3 rfl rfl rfl).2
          exact ⟨(wanted_none rfl), _, _, run_rolesB rfl e0 e1 HK3.out, rfl, Below.refl _ _⟩
        refine Steps.cons (step_value rfl fun xa W hp => ?_) ?_
        · have e0 : xa.tmps.getD 20 undef = .pointer (some ⟨0, q * 3 + k, none⟩) := (hp.on_ 5 rfl rfl rfl).2
          exact ⟨(wanted_none rfl), _, _, run_ldv rfl e0 ((hp.below.cell (p := ⟨0, q * 3 + k, none⟩) HGL.out).trans HRO.out) Tryd.underlying56 rfl (by kernel_rfl), rfl, Below.refl _ _⟩
        refine Steps.cons (step_enter rfl fun xa W hp => ?_) ?_
        · have e0 : xa.tmps.getD 15 undef = .agg #[.slice x0 p.ins.length c0, .slice x1 p.outs.length c1, .slice x2 p.slots.length c2, .slice x3 p.mems.length c3, .slice x4 p.consts.length c4, .slice x5 p.code.length c5] := (hp.on_ 0 rfl rfl rfl).2
          have e1 : xa.tmps.getD 21 undef = .int .i64 r := (hp.on_ 6 rfl rfl rfl).2
          refine ⟨(wanted_none rfl), 26, _, run_enter2 rfl rfl Tryd.call26, ?_⟩
          show Calls _ _ #[xa.tmps.getD 15 undef, xa.tmps.getD 21 undef] W _
          rw [e0, e1]
          refine (KP.out W).mono ?_
          rintro e W' ⟨he, hbe⟩
          exact ⟨_, he, rfl, hbe⟩
        refine Steps.cons (step_value rfl fun xa W hp => ⟨(wanted_none rfl), _, _, run_move (.inr rfl), (hp.on_ 7 rfl rfl rfl).2, Below.refl _ _⟩) ?_
        exact Steps.nil
      case rest2 =>
        intro act W hI
        have hbW := hI.below
        have h8 : act.tmps.getD 8 undef = rv := hI.new 8 _ 8 rfl rfl rfl
        obtain ⟨fo, hfo, hx⟩ := puts_of hI.tmps hI.defers hI.old [15, 16, 17, 18, 19, 20, 21, 22, 8] rfl
        rw [hfo] at h8
        have HBW := Lib.hid hbW
        have HGW := Lib.hid (grownV_below HG.out hbW)
        have HKW := Lib.hid ((hbW.block K (Array.getElem?_eq_some_iff.1 HKC.out).1).trans HKC.out)
        have HBw := Lib.hid (HB.out.trans (hbW.mono HB.out.size))
        clear hI hfo hbW
        subst hx
        simp only [Exit.inBlock, Exit.then, List.foldl, Act.put, List.setIfInBounds_toArray, List.set_cons_succ, List.set_cons_zero]
        rw [h8]
        clear h8
        cases hkr : kindsO p r with
        | none =>
          have hz : kindL p X k = 0 := by rw [HKL.out, hkr]
          have hrv : rv = .slice none 0 0 := by have h := HRO2.out; rw [hkr] at h; exact h
          have HSM := Lib.hid (kcells_same p X k HK3.out hz)
          subst hrv
          have hne := row_nil W
          have HWR' := HWR
          clear hz hkr
          go_wp2_with fail
          exact ⟨⟨k + 1, by rw [HWR.out], HK3.out, HGW.out, by rw [← HSM.out]; exact HKW.out⟩, by have := HK3.out; rw [HWR.out]; simp only [intOf]; omega⟩
        | some l =>
          obtain ⟨j, hj, hjl⟩ := HKBk.out l hkr
          have hz : kindL p X k = l[j]'hjl := by
            rw [HKL.out, hkr, hj]
            show l.getD (Int.toNat (j : Int)) 0 = _
            rw [Int.toNat_natCast, List.getD_eq_getElem?_getD, List.getElem?_eq_getElem hjl]; rfl
          obtain ⟨xr, cr, hrv, hrow⟩ : ∃ xr cr, rv = .slice xr l.length cr ∧ Row (Value.int .i64) wr xr l := by have h := HRO2.out; rw [hkr] at h; exact h
          obtain ⟨gb, go_, hxr, hgb, hgc⟩ := hrow (by intro h; rw [h] at hjl; simp at hjl)
          have hcj := (HBW.out.cell (p := ⟨gb, go_ + j, none⟩) hgb).trans (hgc j hjl)
          obtain ⟨n, hnl⟩ : ∃ n, n = l.length := ⟨_, rfl⟩
          rw [← hnl] at hrv
          rw [← hz] at hcj
          subst hxr
          subst hrv
          subst hj
          have HNX := Lib.hid (kcells_next p X k HK3.out)
          have hck := cell_of_row W K k _ _ _ HKW.out
          have hfk := frozen_of_row W K k _ _ HKW.out
          have hck2 : W.cell? ⟨K, k, none⟩ = some (.int .i64 (kcell p X k k)) := by
            rw [hck]
            have hh := HK3.out
            have : k = 0 ∨ k = 1 ∨ k = 2 := by omega
            rcases this with rfl | rfl | rfl <;> rfl
          have hset := heap_setCell_same W K k _ _ (.int .i64 (kindL p X k)) HKW.out
          rw [HNX.out] at hset
          obtain ⟨z, hzz⟩ : ∃ z, z = kindL p X k := ⟨_, rfl⟩
          obtain ⟨z0, hz0⟩ : ∃ z, z = kcell p X k k := ⟨_, rfl⟩
          rw [← hzz] at hset hcj
          rw [← hz0] at hck2
          have hgs : W2.grownBy (W.setCell ⟨K, k, none⟩ (.int .i64 z)) (some K) := grownV_set HGW.out _ _ (.inl rfl)
          have HSET := Lib.hid hset
          have HGS := Lib.hid hgs
          have hne := row_ne ⟨gb, go_, none⟩ n cr W
          have j0 : (0 : Int) ≤ (j : Int) := by omega
          have j1 : (j : Int) < (n : Int) := by omega
          have i0 : (0 : Int) ≤ (k : Int) := by omega
          have i1 : (k : Int) < 3 := by have := HK3.out; omega
          clear hz hkr hrow hgb hgc hjl hnl hck hset hgs hzz hz0 d1
          go_wp2_with fail
          exact ⟨⟨k + 1, by first | rw [HWR.out] | simp, HK3.out, HGS.out, HSET.out⟩, by have := HK3.out; (try rw [HWR.out]); simp only [intOf]; omega⟩
    · obtain rfl : k = 3 := by omega
      have d1 : decide ((3 : Int) < 3) = false := by decide
      obtain ⟨a0, ha0⟩ : ∃ z, z = kindL p X 0 := ⟨_, rfl⟩
      obtain ⟨a1, ha1⟩ : ∃ z, z = kindL p X 1 := ⟨_, rfl⟩
      obtain ⟨a2, ha2⟩ : ∃ z, z = kindL p X 2 := ⟨_, rfl⟩
      have hkk : wr.heap[K]? = some (.cells #[.int .i64 a0, .int .i64 a1, .int .i64 a2] 59 (0, 0)) := by
        have h := HKC.out
        rw [show kcells p X 3 = #[.int .i64 (kindL p X 0), .int .i64 (kindL p X 1), .int .i64 (kindL p X 2)] from by simp [kcells, kcell], ← ha0, ← ha1, ← ha2] at h
        exact h
      have HKF := Lib.hid hkk
      have y0 := cell_of_row wr K 0 _ _ _ hkk
      have y1 := cell_of_row wr K 1 _ _ _ hkk
      have y2 := cell_of_row wr K 2 _ _ _ hkk
      have z0 := cell_of_row wr R 0 _ _ _ HIr.out
      have z2 := cell_of_row wr R 2 _ _ _ HIr.out
      have z4 := cell_of_row wr B 4 _ _ _ HXr.out
      have HA0 := Lib.hid ha0
      have HA1 := Lib.hid ha1
      have HA2 := Lib.hid ha2
      have HRC := Lib.hid ((HP.out.below HB.out).consts)
      clear hk hk3 ha0 ha1 ha2 hkk
      obtain ⟨qi, hqi⟩ : ∃ qi : Int, qi = (q : Int) := ⟨_, rfl⟩
      have HQ2 : Hid (0 ≤ qi ∧ qi ≤ 20) := Lib.hid (by have := HQ.out; omega)
      have HXO2 : Hid (X.op = qi) := Lib.hid (HXO.out.trans hqi.symm)
      rw [← hqi] at z0
      clear hqi
      rcases op_cases HQ2.out.1 HQ2.out.2 with h | h | h | h | h | h | h | h | h | h | h | h | h | h | h | h | h | h | h | h | h
      · as_aux_lemma =>
          subst h
          have hvv : fitsL p X = ((a0 == 2) || ((atI p.consts X.b == 0) || (atI p.consts X.b == 1))) := by unfold fitsL; rw [HXO2.out, HA0.out]; simp
          obtain ⟨j, hj, hjl⟩ := HB0.out HXO2.out
          obtain ⟨gb, go_, hxr, hgb, hgc⟩ := HRC.out (by intro h; rw [h] at hjl; simp at hjl)
          have hcj := hgc j hjl
          have hz : atI p.consts X.b = p.consts[j]'hjl := by
            rw [hj]
            show p.consts.getD (Int.toNat (j : Int)) 0 = _
            rw [Int.toNat_natCast, List.getD_eq_getElem?_getD, List.getElem?_eq_getElem hjl]; rfl
          rw [← hz] at hcj
          have hbj : b = (j : Int) := by rw [← HXB.out]; exact hj
          obtain ⟨z, hzz⟩ : ∃ z, z = atI p.consts X.b := ⟨_, rfl⟩
          rw [← hzz] at hcj hvv
          obtain ⟨n, hnl⟩ : ∃ n, n = p.consts.length := ⟨_, rfl⟩
          rw [← hnl] at z4
          have j0 : (0 : Int) ≤ (j : Int) := by omega
          have j1 : (j : Int) < (n : Int) := by omega
          subst hbj
          subst hxr
          clear hgb hgc hz hzz hnl hjl hj
          by_cases e0 : a0 = 2
          · have f0 : (a0 == 2) = true := by simp [e0]
            have HV : Hid (fitsL p X = true) := Lib.hid (by rw [hvv, f0]; rfl)
            clear e0 hvv
            go_wp2_with fail
            go_ret
            exact ⟨by rw [HV.out]; rfl, HB.out⟩
          · have f0 : (a0 == 2) = false := by simp [e0]
            by_cases e1 : z = 0
            · have f1 : (z == 0) = true := by simp [e1]
              have HV : Hid (fitsL p X = true) := Lib.hid (by rw [hvv, f0, f1]; rfl)
              clear e0 e1 hvv
              go_wp2_with fail
              go_ret
              exact ⟨by rw [HV.out]; rfl, HB.out⟩
            · have f1 : (z == 0) = false := by simp [e1]
              have HV : Hid (fitsL p X = (z == 1)) := Lib.hid (by rw [hvv, f0, f1]; rfl)
              clear e0 e1 hvv
              go_wp2_with fail
              go_ret
              exact ⟨by rw [HV.out]; rfl, HB.out⟩
      · as_aux_lemma =>
          subst h
          have HV : Hid (fitsL p X = (a0 == a1)) := Lib.hid (by unfold fitsL; rw [HXO2.out]; (try rw [HA0.out]); (try rw [HA1.out]); (try rw [HA2.out]); simp)
          go_wp2_with fail
          go_ret
          exact ⟨by rw [HV.out]; first | rfl | simp, HB.out⟩
      · as_aux_lemma =>
          subst h
          have HV : Hid (fitsL p X = (a0 == a1)) := Lib.hid (by unfold fitsL; rw [HXO2.out]; (try rw [HA0.out]); (try rw [HA1.out]); (try rw [HA2.out]); simp)
          go_wp2_with fail
          go_ret
          exact ⟨by rw [HV.out]; first | rfl | simp, HB.out⟩
      · as_aux_lemma =>
          subst h
          have HV : Hid (fitsL p X = (a0 == a1)) := Lib.hid (by unfold fitsL; rw [HXO2.out]; (try rw [HA0.out]); (try rw [HA1.out]); (try rw [HA2.out]); simp)
          go_wp2_with fail
          go_ret
          exact ⟨by rw [HV.out]; first | rfl | simp, HB.out⟩
      · as_aux_lemma =>
          subst h
          have HV : Hid (fitsL p X = (a0 == a1)) := Lib.hid (by unfold fitsL; rw [HXO2.out]; (try rw [HA0.out]); (try rw [HA1.out]); (try rw [HA2.out]); simp)
          go_wp2_with fail
          go_ret
          exact ⟨by rw [HV.out]; first | rfl | simp, HB.out⟩
      · as_aux_lemma =>
          subst h
          have HV : Hid (fitsL p X = (a0 == a1)) := Lib.hid (by unfold fitsL; rw [HXO2.out]; (try rw [HA0.out]); (try rw [HA1.out]); (try rw [HA2.out]); simp)
          go_wp2_with fail
          go_ret
          exact ⟨by rw [HV.out]; first | rfl | simp, HB.out⟩
      · as_aux_lemma =>
          subst h
          have HV : Hid (fitsL p X = ((a0 == 1) && ((a1 == 1) && (a2 == 0)))) := Lib.hid (by unfold fitsL; rw [HXO2.out]; (try rw [HA0.out]); (try rw [HA1.out]); (try rw [HA2.out]); simp)
          have bz : ∀ W : World, (Instr.build 59 #[(0, .int .i64 1), (1, .int .i64 1), (2, .int .i64 0)]).run Tryd.prog W = .ok (.agg #[.int .i64 1, .int .i64 1, .int .i64 0]) W := fun W => by kernel_rfl
          have qe : ∀ W : World, (binOp .eql 59 (.agg #[.int .i64 a0, .int .i64 a1, .int .i64 a2]) (.agg #[.int .i64 1, .int .i64 1, .int .i64 0])).run Tryd.prog W = .ok (.bool ((a0 == 1) && ((a1 == 1) && (a2 == 0)))) W := fun W => k3_eql _ _ _ _ _ _ W
          go_wp2_with (refine wpList_load_row rfl 59 (.tmp 5) rfl K rfl 59 #[.int .i64 a0, .int .i64 a1, .int .i64 a2] (0, 0) _ ?_ Tryd.underlying59 rfl HSK.out ?_; (exact HKF.out))
          go_ret
          exact ⟨by rw [HV.out]; first | rfl | simp, HB.out⟩
      · as_aux_lemma =>
          subst h
          have HV : Hid (fitsL p X = ((a0 == 2) && ((a1 == 2) && (a2 == 0)))) := Lib.hid (by unfold fitsL; rw [HXO2.out]; (try rw [HA0.out]); (try rw [HA1.out]); (try rw [HA2.out]); simp)
          have bz : ∀ W : World, (Instr.build 59 #[(0, .int .i64 2), (1, .int .i64 2), (2, .int .i64 0)]).run Tryd.prog W = .ok (.agg #[.int .i64 2, .int .i64 2, .int .i64 0]) W := fun W => by kernel_rfl
          have qe : ∀ W : World, (binOp .eql 59 (.agg #[.int .i64 a0, .int .i64 a1, .int .i64 a2]) (.agg #[.int .i64 2, .int .i64 2, .int .i64 0])).run Tryd.prog W = .ok (.bool ((a0 == 2) && ((a1 == 2) && (a2 == 0)))) W := fun W => k3_eql _ _ _ _ _ _ W
          go_wp2_with (refine wpList_load_row rfl 59 (.tmp 5) rfl K rfl 59 #[.int .i64 a0, .int .i64 a1, .int .i64 a2] (0, 0) _ ?_ Tryd.underlying59 rfl HSK.out ?_; (exact HKF.out))
          go_ret
          exact ⟨by rw [HV.out]; first | rfl | simp, HB.out⟩
      · as_aux_lemma =>
          subst h
          have HV : Hid (fitsL p X = ((a0 == 2) && ((a1 == 2) && (a2 == 2)))) := Lib.hid (by unfold fitsL; rw [HXO2.out]; (try rw [HA0.out]); (try rw [HA1.out]); (try rw [HA2.out]); simp)
          have bz : ∀ W : World, (Instr.build 59 #[(0, .int .i64 2), (1, .int .i64 2), (2, .int .i64 2)]).run Tryd.prog W = .ok (.agg #[.int .i64 2, .int .i64 2, .int .i64 2]) W := fun W => by kernel_rfl
          have qe : ∀ W : World, (binOp .eql 59 (.agg #[.int .i64 a0, .int .i64 a1, .int .i64 a2]) (.agg #[.int .i64 2, .int .i64 2, .int .i64 2])).run Tryd.prog W = .ok (.bool ((a0 == 2) && ((a1 == 2) && (a2 == 2)))) W := fun W => k3_eql _ _ _ _ _ _ W
          go_wp2_with (refine wpList_load_row rfl 59 (.tmp 5) rfl K rfl 59 #[.int .i64 a0, .int .i64 a1, .int .i64 a2] (0, 0) _ ?_ Tryd.underlying59 rfl HSK.out ?_; (exact HKF.out))
          go_ret
          exact ⟨by rw [HV.out]; first | rfl | simp, HB.out⟩
      · as_aux_lemma =>
          subst h
          have HV : Hid (fitsL p X = ((a0 == 2) && ((a1 == 2) && (a2 == 2)))) := Lib.hid (by unfold fitsL; rw [HXO2.out]; (try rw [HA0.out]); (try rw [HA1.out]); (try rw [HA2.out]); simp)
          have bz : ∀ W : World, (Instr.build 59 #[(0, .int .i64 2), (1, .int .i64 2), (2, .int .i64 2)]).run Tryd.prog W = .ok (.agg #[.int .i64 2, .int .i64 2, .int .i64 2]) W := fun W => by kernel_rfl
          have qe : ∀ W : World, (binOp .eql 59 (.agg #[.int .i64 a0, .int .i64 a1, .int .i64 a2]) (.agg #[.int .i64 2, .int .i64 2, .int .i64 2])).run Tryd.prog W = .ok (.bool ((a0 == 2) && ((a1 == 2) && (a2 == 2)))) W := fun W => k3_eql _ _ _ _ _ _ W
          go_wp2_with (refine wpList_load_row rfl 59 (.tmp 5) rfl K rfl 59 #[.int .i64 a0, .int .i64 a1, .int .i64 a2] (0, 0) _ ?_ Tryd.underlying59 rfl HSK.out ?_; (exact HKF.out))
          go_ret
          exact ⟨by rw [HV.out]; first | rfl | simp, HB.out⟩
      · as_aux_lemma =>
          subst h
          have HV : Hid (fitsL p X = ((a0 == 2) && ((a1 == 2) && (a2 == 2)))) := Lib.hid (by unfold fitsL; rw [HXO2.out]; (try rw [HA0.out]); (try rw [HA1.out]); (try rw [HA2.out]); simp)
          have bz : ∀ W : World, (Instr.build 59 #[(0, .int .i64 2), (1, .int .i64 2), (2, .int .i64 2)]).run Tryd.prog W = .ok (.agg #[.int .i64 2, .int .i64 2, .int .i64 2]) W := fun W => by kernel_rfl
          have qe : ∀ W : World, (binOp .eql 59 (.agg #[.int .i64 a0, .int .i64 a1, .int .i64 a2]) (.agg #[.int .i64 2, .int .i64 2, .int .i64 2])).run Tryd.prog W = .ok (.bool ((a0 == 2) && ((a1 == 2) && (a2 == 2)))) W := fun W => k3_eql _ _ _ _ _ _ W
          go_wp2_with (refine wpList_load_row rfl 59 (.tmp 5) rfl K rfl 59 #[.int .i64 a0, .int .i64 a1, .int .i64 a2] (0, 0) _ ?_ Tryd.underlying59 rfl HSK.out ?_; (exact HKF.out))
          go_ret
          exact ⟨by rw [HV.out]; first | rfl | simp, HB.out⟩
      · as_aux_lemma =>
          subst h
          have HV : Hid (fitsL p X = ((a0 == 2) && ((a1 == 2) && (a2 == 2)))) := Lib.hid (by unfold fitsL; rw [HXO2.out]; (try rw [HA0.out]); (try rw [HA1.out]); (try rw [HA2.out]); simp)
          have bz : ∀ W : World, (Instr.build 59 #[(0, .int .i64 2), (1, .int .i64 2), (2, .int .i64 2)]).run Tryd.prog W = .ok (.agg #[.int .i64 2, .int .i64 2, .int .i64 2]) W := fun W => by kernel_rfl
          have qe : ∀ W : World, (binOp .eql 59 (.agg #[.int .i64 a0, .int .i64 a1, .int .i64 a2]) (.agg #[.int .i64 2, .int .i64 2, .int .i64 2])).run Tryd.prog W = .ok (.bool ((a0 == 2) && ((a1 == 2) && (a2 == 2)))) W := fun W => k3_eql _ _ _ _ _ _ W
          go_wp2_with (refine wpList_load_row rfl 59 (.tmp 5) rfl K rfl 59 #[.int .i64 a0, .int .i64 a1, .int .i64 a2] (0, 0) _ ?_ Tryd.underlying59 rfl HSK.out ?_; (exact HKF.out))
          go_ret
          exact ⟨by rw [HV.out]; first | rfl | simp, HB.out⟩
      · as_aux_lemma =>
          subst h
          have HV : Hid (fitsL p X = ((a0 == 2) && ((a1 == 2) && (a2 == 2)))) := Lib.hid (by unfold fitsL; rw [HXO2.out]; (try rw [HA0.out]); (try rw [HA1.out]); (try rw [HA2.out]); simp)
          have bz : ∀ W : World, (Instr.build 59 #[(0, .int .i64 2), (1, .int .i64 2), (2, .int .i64 2)]).run Tryd.prog W = .ok (.agg #[.int .i64 2, .int .i64 2, .int .i64 2]) W := fun W => by kernel_rfl
          have qe : ∀ W : World, (binOp .eql 59 (.agg #[.int .i64 a0, .int .i64 a1, .int .i64 a2]) (.agg #[.int .i64 2, .int .i64 2, .int .i64 2])).run Tryd.prog W = .ok (.bool ((a0 == 2) && ((a1 == 2) && (a2 == 2)))) W := fun W => k3_eql _ _ _ _ _ _ W
          go_wp2_with (refine wpList_load_row rfl 59 (.tmp 5) rfl K rfl 59 #[.int .i64 a0, .int .i64 a1, .int .i64 a2] (0, 0) _ ?_ Tryd.underlying59 rfl HSK.out ?_; (exact HKF.out))
          go_ret
          exact ⟨by rw [HV.out]; first | rfl | simp, HB.out⟩
      · as_aux_lemma =>
          subst h
          have hvv : fitsL p X = ((a0 == 1) && (a1 == a2)) := by unfold fitsL; rw [HXO2.out, HA0.out, HA1.out, HA2.out]; simp
          by_cases e0 : a0 = 1
          · have f0 : (a0 == 1) = true := by simp [e0]
            have HV : Hid (fitsL p X = (a1 == a2)) := Lib.hid (by rw [hvv, f0]; rfl)
            clear e0 hvv
            go_wp2_with fail
            go_ret
            exact ⟨by rw [HV.out]; rfl, HB.out⟩
          · have f0 : (a0 == 1) = false := by simp [e0]
            have HV : Hid (fitsL p X = false) := Lib.hid (by rw [hvv, f0]; rfl)
            clear e0 hvv
            go_wp2_with fail
            go_ret
            exact ⟨by rw [HV.out]; rfl, HB.out⟩
      · as_aux_lemma =>
          subst h
          have HV : Hid (fitsL p X = ((a0 == 1) && ((a1 == 2) && (a2 == 2)))) := Lib.hid (by unfold fitsL; rw [HXO2.out]; (try rw [HA0.out]); (try rw [HA1.out]); (try rw [HA2.out]); simp)
          have bz : ∀ W : World, (Instr.build 59 #[(0, .int .i64 1), (1, .int .i64 2), (2, .int .i64 2)]).run Tryd.prog W = .ok (.agg #[.int .i64 1, .int .i64 2, .int .i64 2]) W := fun W => by kernel_rfl
          have qe : ∀ W : World, (binOp .eql 59 (.agg #[.int .i64 a0, .int .i64 a1, .int .i64 a2]) (.agg #[.int .i64 1, .int .i64 2, .int .i64 2])).run Tryd.prog W = .ok (.bool ((a0 == 1) && ((a1 == 2) && (a2 == 2)))) W := fun W => k3_eql _ _ _ _ _ _ W
          go_wp2_with (refine wpList_load_row rfl 59 (.tmp 5) rfl K rfl 59 #[.int .i64 a0, .int .i64 a1, .int .i64 a2] (0, 0) _ ?_ Tryd.underlying59 rfl HSK.out ?_; (exact HKF.out))
          go_ret
          exact ⟨by rw [HV.out]; first | rfl | simp, HB.out⟩
      · as_aux_lemma =>
          subst h
          have HV : Hid (fitsL p X = ((a0 == 1) && ((a1 == 2) && (a2 == 2)))) := Lib.hid (by unfold fitsL; rw [HXO2.out]; (try rw [HA0.out]); (try rw [HA1.out]); (try rw [HA2.out]); simp)
          have bz : ∀ W : World, (Instr.build 59 #[(0, .int .i64 1), (1, .int .i64 2), (2, .int .i64 2)]).run Tryd.prog W = .ok (.agg #[.int .i64 1, .int .i64 2, .int .i64 2]) W := fun W => by kernel_rfl
          have qe : ∀ W : World, (binOp .eql 59 (.agg #[.int .i64 a0, .int .i64 a1, .int .i64 a2]) (.agg #[.int .i64 1, .int .i64 2, .int .i64 2])).run Tryd.prog W = .ok (.bool ((a0 == 1) && ((a1 == 2) && (a2 == 2)))) W := fun W => k3_eql _ _ _ _ _ _ W
          go_wp2_with (refine wpList_load_row rfl 59 (.tmp 5) rfl K rfl 59 #[.int .i64 a0, .int .i64 a1, .int .i64 a2] (0, 0) _ ?_ Tryd.underlying59 rfl HSK.out ?_; (exact HKF.out))
          go_ret
          exact ⟨by rw [HV.out]; first | rfl | simp, HB.out⟩
      · as_aux_lemma =>
          subst h
          have HV : Hid (fitsL p X = ((a0 == 1) && ((a1 == 1) && (a2 == 1)))) := Lib.hid (by unfold fitsL; rw [HXO2.out]; (try rw [HA0.out]); (try rw [HA1.out]); (try rw [HA2.out]); simp)
          have bz : ∀ W : World, (Instr.build 59 #[(0, .int .i64 1), (1, .int .i64 1), (2, .int .i64 1)]).run Tryd.prog W = .ok (.agg #[.int .i64 1, .int .i64 1, .int .i64 1]) W := fun W => by kernel_rfl
          have qe : ∀ W : World, (binOp .eql 59 (.agg #[.int .i64 a0, .int .i64 a1, .int .i64 a2]) (.agg #[.int .i64 1, .int .i64 1, .int .i64 1])).run Tryd.prog W = .ok (.bool ((a0 == 1) && ((a1 == 1) && (a2 == 1)))) W := fun W => k3_eql _ _ _ _ _ _ W
          go_wp2_with (refine wpList_load_row rfl 59 (.tmp 5) rfl K rfl 59 #[.int .i64 a0, .int .i64 a1, .int .i64 a2] (0, 0) _ ?_ Tryd.underlying59 rfl HSK.out ?_; (exact HKF.out))
          go_ret
          exact ⟨by rw [HV.out]; first | rfl | simp, HB.out⟩
      · as_aux_lemma =>
          subst h
          have HV : Hid (fitsL p X = ((a0 == 1) && ((a1 == 1) && (a2 == 1)))) := Lib.hid (by unfold fitsL; rw [HXO2.out]; (try rw [HA0.out]); (try rw [HA1.out]); (try rw [HA2.out]); simp)
          have bz : ∀ W : World, (Instr.build 59 #[(0, .int .i64 1), (1, .int .i64 1), (2, .int .i64 1)]).run Tryd.prog W = .ok (.agg #[.int .i64 1, .int .i64 1, .int .i64 1]) W := fun W => by kernel_rfl
          have qe : ∀ W : World, (binOp .eql 59 (.agg #[.int .i64 a0, .int .i64 a1, .int .i64 a2]) (.agg #[.int .i64 1, .int .i64 1, .int .i64 1])).run Tryd.prog W = .ok (.bool ((a0 == 1) && ((a1 == 1) && (a2 == 1)))) W := fun W => k3_eql _ _ _ _ _ _ W
          go_wp2_with (refine wpList_load_row rfl 59 (.tmp 5) rfl K rfl 59 #[.int .i64 a0, .int .i64 a1, .int .i64 a2] (0, 0) _ ?_ Tryd.underlying59 rfl HSK.out ?_; (exact HKF.out))
          go_ret
          exact ⟨by rw [HV.out]; first | rfl | simp, HB.out⟩
      · as_aux_lemma =>
          subst h
          have HV : Hid (fitsL p X = ((a0 == 1) && ((a1 == 1) && (a2 == 1)))) := Lib.hid (by unfold fitsL; rw [HXO2.out]; (try rw [HA0.out]); (try rw [HA1.out]); (try rw [HA2.out]); simp)
          have bz : ∀ W : World, (Instr.build 59 #[(0, .int .i64 1), (1, .int .i64 1), (2, .int .i64 1)]).run Tryd.prog W = .ok (.agg #[.int .i64 1, .int .i64 1, .int .i64 1]) W := fun W => by kernel_rfl
          have qe : ∀ W : World, (binOp .eql 59 (.agg #[.int .i64 a0, .int .i64 a1, .int .i64 a2]) (.agg #[.int .i64 1, .int .i64 1, .int .i64 1])).run Tryd.prog W = .ok (.bool ((a0 == 1) && ((a1 == 1) && (a2 == 1)))) W := fun W => k3_eql _ _ _ _ _ _ W
          go_wp2_with (refine wpList_load_row rfl 59 (.tmp 5) rfl K rfl 59 #[.int .i64 a0, .int .i64 a1, .int .i64 a2] (0, 0) _ ?_ Tryd.underlying59 rfl HSK.out ?_; (exact HKF.out))
          go_ret
          exact ⟨by rw [HV.out]; first | rfl | simp, HB.out⟩
      · as_aux_lemma =>
          subst h
          have HV : Hid (fitsL p X = (a1 == 1)) := Lib.hid (by unfold fitsL; rw [HXO2.out]; (try rw [HA0.out]); (try rw [HA1.out]); (try rw [HA2.out]); simp)
          go_wp2_with fail
          go_ret
          exact ⟨by rw [HV.out]; first | rfl | simp, HB.out⟩
      · as_aux_lemma =>
          subst h
          have HV : Hid (fitsL p X = true) := Lib.hid (by unfold fitsL; rw [HXO2.out]; (try rw [HA0.out]); (try rw [HA1.out]); (try rw [HA2.out]); simp)
          go_wp2_with fail
          go_ret
          exact ⟨by rw [HV.out]; first | rfl | simp, HB.out⟩
end Go.Proofs.YtglplhkbnkbjbaaDoor

namespace Go.Proofs.YtglplhkbnkbjbaaDoor
open Go Go.RowKit
set_option maxRecDepth 100000
/-- What follow tells: where, which rule. -/
def followP (p : Pg) : Int × Int := match flowV p p.code 0 (done0 p) with
  | .inr k => ((k : Int), 4)
  | .inl D => if outsV p D then (0, 0) else ((p.code.length : Int), 5)
/-- Some way comes to an instruction that is not behind, or to the end. -/
def Live (n k : Nat) (D : Done) : Prop := ∃ j, k ≤ j ∧ j ≤ n ∧ ∃ l, D.getD j none = some l
theorem putD_live (D : Done) (k : Nat) (hk : k < D.length) (l : List Bool) : ∃ a, (putD D k l).getD k none = some a := by
  unfold putD
  exact ⟨_, getD_set_self _ _ _ _ hk⟩
theorem putD_other (D : Done) (k j : Nat) (l : List Bool) (h : ∃ a, D.getD j none = some a) (hk : k < D.length) : ∃ a, (putD D k l).getD j none = some a := by
  by_cases hkj : k = j
  · subst hkj; exact putD_live D k hk l
  · unfold putD
    rw [getD_set_ne _ _ _ _ _ hkj]
    exact h
theorem stepL_live {p : Pg} {x : In4} {pc : Nat} (hn : namedP p pc x = true) (hpc : pc < p.code.length) (D : Done) (hD : D.length = p.code.length + 1) (l : List Bool) : Live p.code.length (pc + 1) (stepL p x pc D l) := by
  unfold stepL
  dsimp only
  generalize (if roleO x.op 0 = 1 then l.set x.a.toNat true else if roleO x.op 0 = 6 then l.set (p.slots.length + x.a.toNat) true else l) = l2
  rcases step_kinds hn with ⟨h7, _, t, ht, h1, h2⟩ | ⟨h1, h20, _⟩ | ⟨h1, h20, _⟩ | ⟨h1, h20⟩
  · rw [if_pos h7]
    have hta : x.a.toNat = t := by rw [ht]; simp
    rw [hta]
    refine ⟨t, by omega, h2, ?_⟩
    split
    · exact putD_live D t (by omega) l2
    · exact putD_other _ _ _ _ (putD_live D t (by omega) l2) (by rw [flow_put_length]; omega)
  all_goals
    rw [if_neg h20]
    exact ⟨pc + 1, by omega, by omega, putD_live _ _ (by first | (rw [flow_put_length]; omega) | (split <;> first | omega | (rw [flow_put_length]; omega))) l2⟩
theorem done0_length (p : Pg) : (done0 p).length = p.code.length + 1 := by simp [done0]
theorem done0_zero (p : Pg) : (done0 p).getD 0 none = some (List.replicate (p.slots.length + p.outs.length) false) := rfl
theorem done0_succ (p : Pg) (k : Nat) : (done0 p).getD (k + 1) none = none := by
  unfold done0
  rw [List.getD_eq_getElem?_getD, List.getElem?_cons_succ, List.getElem?_replicate]
  split <;> rfl
theorem done0_flat (p : Pg) : FlatD (done0 p) (p.slots.length + p.outs.length) := by
  intro k l h
  cases k with
  | zero => rw [done0_zero] at h; rw [← Option.some.inj h]; simp
  | succ k => rw [done0_succ] at h; cases h
theorem WaysAt.below {w w' : World} {B g m : Nat} {D : Done} {k0 : Nat} {bs : List (Option (Nat × Nat))} (h : WaysAt w B g m D k0 bs) (hb : Below w.heap.size w w') : WaysAt w' B g m D k0 bs := by
  refine ⟨(hb.block g h.lt).trans h.1, h.2.1, h.2.2.1, fun j hj hjD => (h.2.2.2.1 j hj hjD).same fun y hy => hb.block _ ?_, h.2.2.2.2⟩
  have hc := h.2.2.2.1 j hj hjD
  rw [hy] at hc
  cases hd : D.getD j none with
  | none => rw [hd] at hc; exact hc.elim
  | some a => rw [hd] at hc; exact hc.1.lt
theorem WaysIn.below {w w' : World} {B g m : Nat} {D : Done} {k0 : Nat} (h : WaysIn w B g m D k0) (hb : Below w.heap.size w w') : WaysIn w' B g m D k0 := by
  obtain ⟨bs, h⟩ := h
  exact ⟨bs, h.below hb⟩
/-- The ways as they are made: nil all over. -/
theorem ways_none (w : World) (B m n : Nat) (hB : B ≤ w.heap.size) : WaysAt (w.alloc (.cells (List.replicate n (Value.slice none 0 0)).toArray 64)) B w.heap.size m (List.replicate n none) 0 (List.replicate n none) := by
  refine ⟨?_, by simp, hB, fun k _ hk => ?_, fun j k x y _ _ hx _ => ?_⟩
  · rw [heap_alloc_new w]
    simp [svV]
  · rw [List.length_replicate] at hk
    simp [List.getD_eq_getElem?_getD, List.getElem?_replicate, hk, WCell]
  · rw [List.getD_eq_getElem?_getD, List.getElem?_replicate] at hx
    split at hx <;> simp at hx
theorem info_set : (Tryd.prog.info? 64).map (fun i => (i.zero, i.size, i.bytes)) = some (some (.slice none 0 0), 1, 24) := by kernel_rfl
theorem run_make_ways (n : Nat) (hn : n ≤ 200000) (W : World) :
    (Instr.makeSlice 62 (.int .i64 (n : Int)) (.int .i64 (n : Int))).run Tryd.prog W = .ok (.slice (some ⟨W.heap.size, 0, none⟩) n n) (W.alloc (.cells (List.replicate n (Value.slice none 0 0)).toArray 64)) := by
  obtain ⟨i0, hi, hz0, hz1, hz2⟩ := info_parts info_set
  have h := run_make (P := Tryd.prog) W 62 64 i0 (.slice none 0 0) Tryd.underlying62 hi hz0 .i64 .i64 (n : Int) (n : Int) (by omega) (by omega) (by rw [hz2]; omega) (by omega)
  rw [h, hz1]
  have e : madeCells #[.slice none 0 0] n = (List.replicate n (Value.slice none 0 0)).toArray := by
    apply Array.ext
    · simp [madeCells]
    · intro i h1 h2
      simp [madeCells, Nat.mod_one]
  rw [← e]
  simp [Value.cells]
theorem outs_take (l : List Bool) (s n : Nat) (hl : l.length = s + n) (h : ∀ j, j < n → l.getD (s + j) false = true) : ((l.drop s).take n).all id = true := by
  rw [List.all_eq_true]
  intro b hb
  obtain ⟨i, hi, rfl⟩ := List.mem_iff_getElem.1 hb
  rw [List.getElem_take, List.getElem_drop]
  have hin : i < n := by rw [List.length_take, List.length_drop] at hi; omega
  have := h i hin
  rw [List.getD_eq_getElem?_getD, List.getElem?_eq_getElem (by omega)] at this
  exact this
theorem outs_not (l : List Bool) (s n j : Nat) (hl : l.length = s + n) (hj : j < n) (h : l.getD (s + j) false = false) : ((l.drop s).take n).all id = false := by
  rw [List.all_eq_false]
  refine ⟨false, ?_, by simp⟩
  have hi : j < ((l.drop s).take n).length := by rw [List.length_take, List.length_drop]; omega
  have : ((l.drop s).take n)[j] = false := by
    rw [List.getElem_take, List.getElem_drop]
    rw [List.getD_eq_getElem?_getD, List.getElem?_eq_getElem (by omega)] at h
    exact h
  rw [← this]
  exact List.getElem_mem hi
end Go.Proofs.YtglplhkbnkbjbaaDoor

namespace Go.Proofs.YtglplhkbnkbjbaaDoor
open Go Go.RowKit
set_option maxRecDepth 100000
theorem info_set1 : (Tryd.prog.info? 64).map (·.size) = some 1 := by kernel_rfl
theorem run_idxW {W : World} {o : Oper} {ρ : Operand → Value} {x ix : Operand} {g n c k : Nat} (ho : o.op = .indexAddr 62 x ix) (hx : ρ x = .slice (some ⟨g, 0, none⟩) n c) (hk : ρ ix = .int .i64 (k : Int)) (hlt : k < n) : (execOp ρ o).run Tryd.prog W = .ok (.value (.pointer (some ⟨g, k, none⟩))) W := by
  have h := run_idx14 (P := Tryd.prog) (W := W) (k := k) Tryd.underlying62 info_set1 ho hx hk hlt
  rw [h, Nat.mul_one, Nat.zero_add]
set_option maxHeartbeats 40000000 in
theorem follow_any (p : Pg) (x0 x1 x2 x3 x4 x5 : Option Addr) (c0 c1 c2 c3 c4 c5 : Nat) (hp : p.sum ≤ 100000) (hnm : ∀ k (h : k < p.code.length), namedP p k (p.code[k]'h) = true) (w : World) (hT : VTab w) (in_p : PgIn w p x0 x1 x2 x3 x4 x5) : Calls Tryd.prog 17 #[pgV p x0 x1 x2 x3 x4 x5 c0 c1 c2 c3 c4 c5] w fun e w' => e = .returned (.tuple #[.agg #[.int .i64 (followP p).1, .int .i64 (followP p).2], .bool (decide ((followP p).2 = 0))]) ∧ Below w.heap.size w w' := by
  obtain ⟨W0, hW0⟩ : ∃ W0, W0 = w.alloc (.cells #[.slice x0 p.ins.length c0, .slice x1 p.outs.length c1, .slice x2 p.slots.length c2, .slice x3 p.mems.length c3, .slice x4 p.consts.length c4, .slice x5 p.code.length c5] 32) := ⟨_, rfl⟩
  have hb0 : Below w.heap.size w W0 := by rw [hW0]; exact (Below.refl _ _).alloc (Nat.le_refl _) _
  have k0 := heap_alloc_new w (.cells #[.slice x0 p.ins.length c0, .slice x1 p.outs.length c1, .slice x2 p.slots.length c2, .slice x3 p.mems.length c3, .slice x4 p.consts.length c4, .slice x5 p.code.length c5] 32)
  rw [← hW0] at k0
  obtain ⟨Bp, hBp⟩ : ∃ B, B = w.heap.size := ⟨_, rfl⟩
  rw [← hBp] at k0
  obtain ⟨W1, hW1⟩ : ∃ W1, W1 = W0.alloc (.cells #[.int .i64 0, .int .i64 0] 26) := ⟨_, rfl⟩
  have hb1 : Below W0.heap.size W0 W1 := by rw [hW1]; exact (Below.refl _ _).alloc (Nat.le_refl _) _
  have k1 := heap_alloc_new W0 (.cells #[.int .i64 0, .int .i64 0] 26)
  rw [← hW1] at k1
  obtain ⟨Rf, hRf⟩ : ∃ R, R = w.heap.size + 1 := ⟨_, rfl⟩
  have hRW : W0.heap.size = Rf := by rw [hW0, hRf]; simp
  rw [hRW] at k1
  have k0' := (hb1.block Bp (Array.getElem?_eq_some_iff.1 k0).1).trans k0
  have hb01 := hb0.trans (hb1.mono hb0.size)
  obtain ⟨nn, hnn⟩ : ∃ n, n = p.code.length := ⟨_, rfl⟩
  obtain ⟨n1, hn1⟩ : ∃ n, n = p.outs.length := ⟨_, rfl⟩
  obtain ⟨n2, hn2⟩ : ∃ n, n = p.slots.length := ⟨_, rfl⟩
  obtain ⟨nc, hnc⟩ : ∃ n, n = nn + 1 := ⟨_, rfl⟩
  obtain ⟨nl, hnl⟩ : ∃ n, n = n2 + n1 := ⟨_, rfl⟩
  have hsz : nn ≤ 100000 ∧ n2 + n1 ≤ 100000 := by unfold Pg.sum at hp; omega
  obtain ⟨m, hm⟩ : ∃ m, m = nl / 64 + 1 := ⟨_, rfl⟩
  have kmk := run_make_ways nc (by omega) W1
  have hw0 := ways_none W1 W1.heap.size m nc (Nat.le_refl _)
  obtain ⟨g, hg⟩ : ∃ g, g = W1.heap.size := ⟨_, rfl⟩
  obtain ⟨W2, hW2⟩ : ∃ W2, W2 = W1.alloc (.cells (List.replicate nc (Value.slice none 0 0)).toArray 64) := ⟨_, rfl⟩
  have hb2 : Below W1.heap.size W1 W2 := by rw [hW2]; exact (Below.refl _ _).alloc (Nat.le_refl _) _
  rw [← hW2] at kmk hw0
  rw [← hg] at kmk hw0
  have HX := Lib.hid ((hb2.block Bp (by have := hb1.size; have := (Array.getElem?_eq_some_iff.1 k0).1; omega)).trans k0')
  have HF2 := Lib.hid ((hb2.block Rf (Array.getElem?_eq_some_iff.1 k1).1).trans k1)
  have hg1 : Bp < g ∧ Rf < g ∧ w.heap.size ≤ g ∧ g < W2.heap.size ∧ w.heap.size ≤ Rf := by
    have h1 := (Array.getElem?_eq_some_iff.1 k1).1
    have h2 := (Array.getElem?_eq_some_iff.1 k0').1
    have h3 := hb01.size
    have h4 := hw0.lt
    omega
  have ks := newSet_any W2 nl (by omega)
  rw [← hm] at ks
  have HA1 : Hid (∀ (t : TypeId) (W : World), (binOp .add t (.int .i64 (nn : Int)) (.int .i64 1)).run Tryd.prog W = .ok (.int .i64 (nc : Int)) W) := Lib.hid fun t W => by rw [hnc]; exact bin_add64 nn 1 (by omega)
  have HA2 : Hid (∀ (t : TypeId) (W : World), (binOp .add t (.int .i64 (n2 : Int)) (.int .i64 (n1 : Int))).run Tryd.prog W = .ok (.int .i64 (nl : Int)) W) := Lib.hid fun t W => by rw [hnl]; exact bin_add64 n2 n1 (by omega)
  have z5 := cell_of_row W1 Bp 5 _ _ _ k0'
  have z1 := cell_of_row W2 Bp 1 _ _ _ HX.out
  have z2 := cell_of_row W2 Bp 2 _ _ _ HX.out
  have hrep : List.replicate nc none = (none :: List.replicate p.code.length none : Done) := by rw [hnc, hnn, List.replicate_succ]
  have hd0 : (List.replicate nc none).set 0 (some (List.replicate nl false)) = done0 p := by rw [hrep]; unfold done0; rw [hnl, hn1, hn2]; rfl
  have HD0 := Lib.hid hd0
  have HNC := Lib.hid hnc
  have HNL := Lib.hid hnl
  have HM := Lib.hid hm
  have HNN := Lib.hid (show nn < nc by omega)
  have HSZ := Lib.hid hsz
  have HG1 := Lib.hid hg1
  have HG := Lib.hid hg
  have HWA := Lib.hid hw0
  have HW0 := Lib.hid hW0
  have HW1 := Lib.hid hW1
  have HW2 := Lib.hid hW2
  have HBB := Lib.hid hBp
  have HRR := Lib.hid hRf
  have HB012 := Lib.hid (hb01.trans (hb2.mono hb01.size))
  have HT := Lib.hid hT
  have HP := Lib.hid in_p
  have HSUM := Lib.hid hp
  have HNM := Lib.hid hnm
  have HN := Lib.hid (And.intro hnn (And.intro hn1 hn2))
  have HSI := Lib.hid size_in4v
  have HSP := Lib.hid size_progv
  have HSF := Lib.hid size_fault16
  have HRW := Lib.hid hg1.2.2.2.2
  obtain ⟨FP, hFP⟩ : ∃ r, r = followP p := ⟨_, rfl⟩
  rw [← hFP]
  have HFP := Lib.hid hFP
  unfold pgV
  rw [← hnn, ← hn1, ← hn2] at HW0 HX z5 z1 z2 ⊢
  rw [← hnn] at hrep
  have HMK : Hid (∀ {ops : Array Oper} {rest : List Oper} {o : Oper} {a : Act} {Q : Exit → Act → World → Prop} (x y : Operand), o.guard = none → o.op = .makeSlice 62 x y → a.eval x = .int .i64 (nc : Int) → a.eval y = .int .i64 (nc : Int) → wpList Tryd.prog ops Q rest (a.put o.dst (.slice (some ⟨g, 0, none⟩) nc nc)) W2 → wpList Tryd.prog ops Q (o :: rest) a W1) := Lib.hid fun x y hgd ho hx hy h => wpList_val hgd (run_mk15 ho hx hy kmk) h
  clear hb0 hb1 hb01 hb2 k0 k0' k1 hW0 hW1 hW2 hBp hRf hRW hnn hn1 hn2 hnc hnl hsz hm kmk hw0 hg hg1 hrep hd0 hp hnm hT in_p hFP
  go_enter Tryd.func17, Tryd.ntmps17
  go_upto_region 1 with fail
  rw [← HW0.out, ← HRR.out, ← HBB.out, ← HW1.out]
  go_wp2_with (first | refine wpList_val rfl (run_ints (op := .add) rfl rfl rfl (HA1.out _ _)) ?_ | refine wpList_val rfl (run_ints (op := .add) rfl rfl rfl (HA2.out _ _)) ?_ | refine HMK.out (.tmp 11) (.tmp 11) rfl rfl rfl rfl ?_)
  (with_reducible refine ks.mono ?_)
  rintro e W3 ⟨rfl, hs3, hb3⟩
  have hput := HWA.out.put (k := 0) (by rw [List.length_replicate, HNC.out]; omega) hb3 (x := (W2.heap.size, m)) (l := List.replicate nl false) hs3 (Nat.le_refl _) (by rw [List.length_replicate]; exact HM.out)
  rw [HD0.out] at hput
  obtain ⟨q0, hq0⟩ : ∃ q, q = W2.heap.size := ⟨_, rfl⟩
  rw [← hq0] at hput
  have hput2 : WaysAt (W3.setCell ⟨g, 0, none⟩ (.slice (some ⟨q0, 0, none⟩) m m)) g g m (done0 p) 0 ((List.replicate nc none).set 0 (some (q0, m))) := hput
  have hcg : W3.cell? ⟨g, 0, none⟩ = some (.slice none 0 0) := by
    have h1 := (hb3.block g HG1.out.2.2.2.1).trans HWA.out.1
    rw [cell_of_row W3 g 0 _ _ _ h1]
    rw [HNC.out]
    simp [List.replicate_succ, svV]
  have hfg : W3.frozen? ⟨g, 0, none⟩ = false := frozen_of_row W3 g 0 _ _ ((hb3.block g HG1.out.2.2.2.1).trans HWA.out.1)
  obtain ⟨W3', hW3'⟩ : ∃ W, W = W3.setCell ⟨g, 0, none⟩ (.slice (some ⟨q0, 0, none⟩) m m) := ⟨_, rfl⟩
  rw [← hW3'] at hput2
  have hb3g : Below g W2 W3 := hb3.mono (by have := HG1.out.2.2.2.1; omega)
  have hbg : Below g W2 W3' := by rw [hW3']; exact hb3g.setCell (show g ≤ (⟨g, 0, none⟩ : Addr).block from Nat.le_refl g) _
  have HWY := Lib.hid hput2
  have HBG := Lib.hid hbg
  have HW3 := Lib.hid hW3'
  have HQ0 := Lib.hid hq0
  have hi0 : (0 : Int) < (nc : Int) := by have := HNC.out; omega
  clear ks hs3 hput hput2 hbg hb3g hW3' hq0 hb3 z5
  go_upto_region 3 with fail
  rw [← HQ0.out, ← HW3.out]
  have z5 := cell_of_row W3' Bp 5 _ _ _ ((HBG.out.block Bp HG1.out.1).trans HX.out)
  clear hcg hfg z1 z2
  go_wp2_with fail
  clear z5 hi0
  go_loopw [26] (fun v wr => ∃ (k : Nat) (D : Done), v = .int .i64 (k : Int) ∧ k ≤ nn ∧ Below g W2 wr ∧ WaysIn wr g g m D k ∧ D.length = nc ∧ FlatD D nl ∧ Live nn k D ∧ flowV p p.code 0 (done0 p) = flowV p (p.code.drop k) k D)
    (fun v _ => nn - (intOf v).toNat)
  case atStart => exact ⟨0, done0 p, rfl, Nat.zero_le _, HBG.out, ⟨_, HWY.out⟩, by rw [done0_length, HNC.out, HN.out.1], by rw [HNL.out, HN.out.2.1, HN.out.2.2]; exact done0_flat p, ⟨0, Nat.le_refl _, Nat.zero_le _, _, done0_zero p⟩, by rw [List.drop_zero]⟩
  case round =>
    obtain ⟨k, D, rfl, hk, hb, hwy, hdl, hfl, hlv, hfv⟩ := hrel
    have HB := Lib.hid hb
    have HWYr := Lib.hid hwy
    have HDL := Lib.hid hdl
    have HFL := Lib.hid hfl
    have HLV := Lib.hid hlv
    have HFV := Lib.hid hfv
    have HBW := Lib.hid (HB012.out.trans (hb.mono HG1.out.2.2.1))
    have HXr := Lib.hid ((hb.block Bp HG1.out.1).trans HX.out)
    have HFr := Lib.hid ((hb.block Rf HG1.out.2.1).trans HF2.out)
    clear hb hwy hdl hfl hlv hfv
    by_cases hkn : k < nn
    · have HKNN := Lib.hid hkn
      have hkc : k < p.code.length := by rw [← HN.out.1]; exact hkn
      have HKN := Lib.hid (show k < nc by have := HNC.out; omega)
      obtain ⟨x, hx⟩ : ∃ x, x = p.code[k]'hkc := ⟨_, rfl⟩
      have hnx : namedP p k x = true := by rw [hx]; exact HNM.out k hkc
      obtain ⟨gc, oc, hxc, hgc, hrc⟩ := (HP.out.below HBW.out).code (by intro h; rw [h] at hkc; simp at hkc)
      have hr := hrc k hkc
      rw [← hx] at hr
      have HST := Lib.hid (flowV_step p p.code k hkc D)
      rw [← hx] at HST
      have HRc := Lib.hid hr
      have HNX := Lib.hid hnx
      have HKC := Lib.hid hkc
      have HXC := Lib.hid hxc
      have d1 : decide ((k : Int) < (nn : Int)) = true := by simp; omega
      have i0 : (0 : Int) ≤ (k : Int) := by omega
      have i1 : (k : Int) < (nn : Int) := by omega
      have i2 : (k : Int) < (nc : Int) := by have := HKN.out; omega
      have hwr := wrap_succV (i := k) (by have := HSZ.out; omega)
      have HWR := Lib.hid hwr
      -- the instruction's box
      obtain ⟨Ib, hIb⟩ : ∃ b, b = wr.heap.size := ⟨_, rfl⟩
      have n14 := newrow14 wr 34 #[.int .i64 0, .int .i64 0, .int .i64 0, .int .i64 0] #[.int .i64 x.op, .int .i64 x.a, .int .i64 x.b, .int .i64 x.c]
      have kz := heap_alloc_new wr (.cells #[.int .i64 0, .int .i64 0, .int .i64 0, .int .i64 0] 34)
      rw [← hIb] at n14 kz
      obtain ⟨W4, hW4⟩ : ∃ W, W = (wr.alloc (.cells #[.int .i64 0, .int .i64 0, .int .i64 0, .int .i64 0] 34)).setRow Ib #[.int .i64 x.op, .int .i64 x.a, .int .i64 x.b, .int .i64 x.c] := ⟨_, rfl⟩
      rw [← hW4] at n14
      have hb4 : Below wr.heap.size wr W4 := by rw [← hIb]; exact n14.1
      have HKZ := Lib.hid kz
      have HI4 := Lib.hid n14.2
      have HB4 := Lib.hid hb4
      have HW4 := Lib.hid hW4
      have HIB := Lib.hid hIb
      have HWY4 := Lib.hid (HWYr.out.below hb4)
      clear hk hkn hkc hx hnx hr hrc hgc n14 kz hb4 hW4 hIb hwr hxc
      go_upto_region 6 with (first | refine wpList_val rfl (run_idx14 (k := k) Tryd.underlying30 size_in4v rfl (congrArg (fun z => Value.slice z nn c5) HXC.out) rfl HKNN.out) ?_ | (refine wpList_load_mid rfl 34 (.tmp 29) rfl gc (oc + k * 4) rfl (in4C x) _ ?_ Tryd.underlying34 rfl HSI.out ?_; (exact HRc.out)) | (rw [← HIB.out]; refine wpList_store_row rfl 34 (.tmp 6) (.tmp 30) rfl Ib #[.int .i64 x.op, .int .i64 x.a, .int .i64 x.b, .int .i64 x.c] rfl rfl 34 _ HKZ.out HSI.out rfl (in4_one _ _ _ _) ?_))
      rw [← HW4.out]
      obtain ⟨bs, hA4⟩ := HWY4.out
      have hcell := hA4.cell k (by rw [HDL.out]; exact HKN.out)
      cases hdk : D.getD k none with
      | none =>
        rw [hA4.no (Nat.le_refl _) (by rw [HDL.out]; exact HKN.out) hdk] at hcell
        have hc4 : W4.cell? ⟨g, k, none⟩ = some (.slice none 0 0) := hcell
        have hz := set_nil_eq W4
        have HNXT : Hid (flowV p p.code 0 (done0 p) = flowV p (p.code.drop (k + 1)) (k + 1) D) := Lib.hid (by rw [HFV.out, HST.out, hdk])
        have HLV2 : Hid (Live nn (k + 1) D) := Lib.hid (by
          obtain ⟨j, h1, h2, l, h3⟩ := HLV.out
          refine ⟨j, ?_, h2, l, h3⟩
          rcases Nat.lt_or_ge k j with h | h
          · omega
          · obtain rfl : j = k := by omega
            rw [hdk] at h3; cases h3)
        have HWN : Hid (WaysIn W4 g g m D (k + 1)) := Lib.hid (WaysIn.on ⟨bs, hA4⟩ (by omega) rfl (fun _ _ => rfl))
        have HBN : Hid (Below g W2 W4) := Lib.hid (HB.out.trans (HB4.out.mono (by have := HB.out.size; have := HG1.out; omega)))
        clear hcell hA4 hdk
        go_wp2_with fail
        exact ⟨⟨k + 1, D, by first | rw [HWR.out] | simp, HKNN.out, HBN.out, HWN.out, HDL.out, HFL.out, HLV2.out, HNXT.out⟩, by have := HKNN.out; (try rw [HWR.out]); first | (simp only [intOf]; omega) | (simp [intOf]; omega)⟩
      | some l =>
        obtain ⟨xs, hxs, hsw, hxB, hml⟩ := hA4.sw (Nat.le_refl _) (by rw [HDL.out]; exact HKN.out) hdk
        rw [hxs] at hcell
        have hc4 : W4.cell? ⟨g, k, none⟩ = some (.slice (some ⟨xs.1, 0, none⟩) m xs.2) := hcell
        have hll : l.length = nl := HFL.out k l hdk
        have HLL := Lib.hid hll
        have HDK := Lib.hid hdk
        have hz := set_some_eq ⟨xs.1, 0, none⟩ m xs.2 W4
        have HC4 := Lib.hid hc4
        have HG4 := Lib.hid hA4.lt
        have HBn : Hid (Below g W2 W4) := Lib.hid (HB.out.trans (HB4.out.mono (by have := HB.out.size; have := HG1.out; omega)))
        have HBW4 := Lib.hid (HBW.out.trans (HB4.out.mono HBW.out.size))
        have HVT : Hid (∀ W, Below W4.heap.size W4 W → VTab W) := Lib.hid fun W h => HT.out.below (HBW4.out.trans (h.mono HBW4.out.size))
        have HOR := Lib.hid (op_range HNX.out)
        have HRB : Hid (∀ j, j < 3 → roleO x.op j = 2 → ∃ i : Nat, opnd x j = (i : Int) ∧ i < l.length) := Lib.hid fun j hj hr => by
          obtain ⟨i, h1, h2⟩ := read_bound HNX.out j hj hr
          exact ⟨i, h1, by have := HNL.out; have := HN.out; omega⟩
        obtain ⟨rd, hrd⟩ : ∃ b, b = readL x l := ⟨_, rfl⟩
        have KR : Hid (∀ W, Below W4.heap.size W4 W → Calls Tryd.prog 28 #[.agg #[.int .i64 x.op, .int .i64 x.a, .int .i64 x.b, .int .i64 x.c], .slice (some ⟨xs.1, 0, none⟩) m xs.2] W fun e w' => e = .returned (.bool rd) ∧ Below W.heap.size W w') := Lib.hid fun W h => by
          rw [hrd]
          exact isRead_any x xs.1 m xs.2 l W (HVT.out W h) HOR.out (hsw.same (h.block _ hsw.lt)) hml (by have := HSZ.out; have := HNL.out; omega) HRB.out
        have HRS : Hid (readL x l = (rdsI x).all (fun j => l.getD j.toNat false)) := Lib.hid (read_same p k x HNX.out l)
        have HRD := Lib.hid hrd
        have HA4 := Lib.hid (⟨bs, hA4⟩ : WaysIn W4 g g m D k)
        clear hcell hA4 hsw hxB hml hdk hll hrd hc4
        go_upto_region 7 with (refine wpList_val rfl (run_ldv rfl rfl HC4.out Tryd.underlying64 rfl (by kernel_rfl)) ?_)
        cases rd with
        | false =>
          refine wp_region_steps (words [wIs (.agg #[.int .i64 x.op, .int .i64 x.a, .int .i64 x.b, .int .i64 x.c]), wIs (.slice (some ⟨g, 0, none⟩) nc nc), wIs (.int .i64 (k : Int)), wIs (.pointer (some ⟨g, k, none⟩)), wIs (.slice (some ⟨xs.1, 0, none⟩) m xs.2), wIs (.bool false), wIs (.bool true)]) W4.heap.size W4 (by kernel_rfl) (Below.refl _ _) (Nat.le_refl _) (words_stable ?stab) rfl rfl (by kernel_rfl) ?steps ?rest2
          case stab =>
            intro f hf
            simp only [List.mem_cons, List.not_mem_nil, or_false] at hf
            rcases hf with rfl | rfl | rfl | rfl | rfl | rfl | rfl <;> first | exact stable_is _
          case steps =>
            refine Steps.cons (step_value rfl fun xa W hp => ?_) ?_
            · have e0 : xa.tmps.getD 6 undef = .pointer (some ⟨Ib, 0, none⟩) := hp.old 6 rfl
              exact ⟨(wanted_none rfl), _, _, run_ldrow rfl e0 ((hp.below.block (Ib) (Array.getElem?_eq_some_iff.1 HI4.out).1).trans HI4.out) Tryd.underlying34 rfl HSI.out, rfl, Below.refl _ _⟩
            refine Steps.cons (step_value rfl fun xa W hp => ⟨(wanted_none rfl), _, _, run_move (.inl rfl), hp.old 4 rfl, Below.refl _ _⟩) ?_
            refine Steps.cons (step_value rfl fun xa W hp => ⟨(wanted_none rfl), _, _, run_move (.inl rfl), hp.old 5 rfl, Below.refl _ _⟩) ?_
            refine Steps.cons (step_value rfl fun xa W hp => ?_) ?_
            · have e0 : xa.tmps.getD 37 undef = .slice (some ⟨g, 0, none⟩) nc nc := (hp.on_ 1 rfl rfl rfl).2
              have e1 : xa.tmps.getD 38 undef = .int .i64 (k : Int) := (hp.on_ 2 rfl rfl rfl).2
              exact ⟨(wanted_none rfl), _, _, run_idxW rfl e0 e1 HKN.out, rfl, Below.refl _ _⟩
            refine Steps.cons (step_value rfl fun xa W hp => ?_) ?_
            · have e0 : xa.tmps.getD 39 undef = .pointer (some ⟨g, k, none⟩) := (hp.on_ 3 rfl rfl rfl).2
              exact ⟨(wanted_none rfl), _, _, run_ldv rfl e0 ((hp.below.cell (p := ⟨g, k, none⟩) HG4.out).trans HC4.out) Tryd.underlying64 rfl (by kernel_rfl), rfl, Below.refl _ _⟩
            refine Steps.cons (step_enter rfl fun xa W hp => ?_) ?_
            · have e0 : xa.tmps.getD 36 undef = .agg #[.int .i64 x.op, .int .i64 x.a, .int .i64 x.b, .int .i64 x.c] := (hp.on_ 0 rfl rfl rfl).2
              have e1 : xa.tmps.getD 40 undef = .slice (some ⟨xs.1, 0, none⟩) m xs.2 := (hp.on_ 4 rfl rfl rfl).2
              refine ⟨(wanted_none rfl), 28, _, run_enter2 rfl rfl Tryd.call28, ?_⟩
              show Calls _ _ #[xa.tmps.getD 36 undef, xa.tmps.getD 40 undef] W _
              rw [e0, e1]
              refine (KR.out W hp.below).mono ?_
              rintro e W' ⟨he, hbe⟩
              exact ⟨_, he, rfl, hbe⟩
            refine Steps.cons (step_value rfl fun xa W hp => ?_) ?_
            · have e0 : xa.tmps.getD 41 undef = .bool false := (hp.on_ 5 rfl rfl rfl).2
              exact ⟨(wanted_none rfl), _, _, run_not rfl e0, rfl, Below.refl _ _⟩
            exact Steps.nil
          case rest2 =>
            intro act W hI
            have hbW := hI.below
            have h42 : act.tmps.getD 42 undef = .bool true := hI.new 6 _ 42 rfl rfl rfl
            obtain ⟨fo, hfo, hx⟩ := puts_of hI.tmps hI.defers hI.old [36, 37, 38, 39, 40, 41, 42] rfl
            rw [hfo] at h42
            have HF7 := Lib.hid ((hbW.block Rf (by have := (Array.getElem?_eq_some_iff.1 HFr.out).1; have := HB4.out.size; omega)).trans ((HB4.out.block Rf (Array.getElem?_eq_some_iff.1 HFr.out).1).trans HFr.out))
            have HBF := Lib.hid (HBW4.out.trans (hbW.mono HBW4.out.size))
            have HRES : Hid (FP = ((k : Int), 4)) := Lib.hid (by rw [HFP.out]; unfold followP; rw [HFV.out, HST.out, HDK.out]; dsimp only; rw [if_neg (by rw [← HRS.out, ← HRD.out]; decide)])
            have bz : ∀ W : World, (Instr.build 26 #[(0, .int .i64 (k : Int)), (1, .int .i64 4)]).run Tryd.prog W = .ok (.agg #[.int .i64 (k : Int), .int .i64 4]) W := fun W => by kernel_rfl
            clear hI hfo hbW
            subst hx
            simp only [Exit.inBlock, Exit.then, List.foldl, Act.put, List.setIfInBounds_toArray, List.set_cons_succ, List.set_cons_zero]
            rw [h42]
            clear h42
            go_wp2_with (refine wpList_store_row rfl 26 (.tmp 2) (.tmp 44) rfl Rf #[.int .i64 (k : Int), .int .i64 4] rfl rfl 26 #[.int .i64 0, .int .i64 0] ?_ HSF.out rfl (fault_one16 _ _) ?_; (exact HF7.out))
            refine bodyPost_ret (results_cell_tmp14 (q := 3) (p := 2) (ty := 26) rfl _ _ Rf 26 #[.int .i64 (k : Int), .int .i64 4] (0, 0) _ rfl (setRow_heap _ Rf _ _ _ _ HF7.out) Tryd.underlying26 rfl HSF.out) rfl ?_
            exact ⟨by rw [HRES.out]; rfl, below_setRow HBF.out HRW.out _⟩
        | true =>
          refine wp_region_steps (words [wIs (.agg #[.int .i64 x.op, .int .i64 x.a, .int .i64 x.b, .int .i64 x.c]), wIs (.slice (some ⟨g, 0, none⟩) nc nc), wIs (.int .i64 (k : Int)), wIs (.pointer (some ⟨g, k, none⟩)), wIs (.slice (some ⟨xs.1, 0, none⟩) m xs.2), wIs (.bool true), wIs (.bool false)]) W4.heap.size W4 (by kernel_rfl) (Below.refl _ _) (Nat.le_refl _) (words_stable ?stab) rfl rfl (by kernel_rfl) ?steps ?rest2
          case stab =>
            intro f hf
            simp only [List.mem_cons, List.not_mem_nil, or_false] at hf
            rcases hf with rfl | rfl | rfl | rfl | rfl | rfl | rfl <;> first | exact stable_is _
          case steps =>
            refine Steps.cons (step_value rfl fun xa W hp => ?_) ?_
            · have e0 : xa.tmps.getD 6 undef = .pointer (some ⟨Ib, 0, none⟩) := hp.old 6 rfl
              exact ⟨(wanted_none rfl), _, _, run_ldrow rfl e0 ((hp.below.block (Ib) (Array.getElem?_eq_some_iff.1 HI4.out).1).trans HI4.out) Tryd.underlying34 rfl HSI.out, rfl, Below.refl _ _⟩
            refine Steps.cons (step_value rfl fun xa W hp => ⟨(wanted_none rfl), _, _, run_move (.inl rfl), hp.old 4 rfl, Below.refl _ _⟩) ?_
            refine Steps.cons (step_value rfl fun xa W hp => ⟨(wanted_none rfl), _, _, run_move (.inl rfl), hp.old 5 rfl, Below.refl _ _⟩) ?_
            refine Steps.cons (step_value rfl fun xa W hp => ?_) ?_
            · have e0 : xa.tmps.getD 37 undef = .slice (some ⟨g, 0, none⟩) nc nc := (hp.on_ 1 rfl rfl rfl).2
              have e1 : xa.tmps.getD 38 undef = .int .i64 (k : Int) := (hp.on_ 2 rfl rfl rfl).2
              exact ⟨(wanted_none rfl), _, _, run_idxW rfl e0 e1 HKN.out, rfl, Below.refl _ _⟩
            refine Steps.cons (step_value rfl fun xa W hp => ?_) ?_
            · have e0 : xa.tmps.getD 39 undef = .pointer (some ⟨g, k, none⟩) := (hp.on_ 3 rfl rfl rfl).2
              exact ⟨(wanted_none rfl), _, _, run_ldv rfl e0 ((hp.below.cell (p := ⟨g, k, none⟩) HG4.out).trans HC4.out) Tryd.underlying64 rfl (by kernel_rfl), rfl, Below.refl _ _⟩
            refine Steps.cons (step_enter rfl fun xa W hp => ?_) ?_
            · have e0 : xa.tmps.getD 36 undef = .agg #[.int .i64 x.op, .int .i64 x.a, .int .i64 x.b, .int .i64 x.c] := (hp.on_ 0 rfl rfl rfl).2
              have e1 : xa.tmps.getD 40 undef = .slice (some ⟨xs.1, 0, none⟩) m xs.2 := (hp.on_ 4 rfl rfl rfl).2
              refine ⟨(wanted_none rfl), 28, _, run_enter2 rfl rfl Tryd.call28, ?_⟩
              show Calls _ _ #[xa.tmps.getD 36 undef, xa.tmps.getD 40 undef] W _
              rw [e0, e1]
              refine (KR.out W hp.below).mono ?_
              rintro e W' ⟨he, hbe⟩
              exact ⟨_, he, rfl, hbe⟩
            refine Steps.cons (step_value rfl fun xa W hp => ?_) ?_
            · have e0 : xa.tmps.getD 41 undef = .bool true := (hp.on_ 5 rfl rfl rfl).2
              exact ⟨(wanted_none rfl), _, _, run_not rfl e0, rfl, Below.refl _ _⟩
            exact Steps.nil
          case rest2 =>
            intro act W hI
            have hbW := hI.below
            have h42 : act.tmps.getD 42 undef = .bool false := hI.new 6 _ 42 rfl rfl rfl
            obtain ⟨fo, hfo, hx⟩ := puts_of hI.tmps hI.defers hI.old [36, 37, 38, 39, 40, 41, 42] rfl
            rw [hfo] at h42
            have HI7 := Lib.hid ((hbW.block Ib (Array.getElem?_eq_some_iff.1 HI4.out).1).trans HI4.out)
            have HX7 := Lib.hid ((hbW.block Bp (by have := (Array.getElem?_eq_some_iff.1 HXr.out).1; have := HB4.out.size; omega)).trans ((HB4.out.block Bp (Array.getElem?_eq_some_iff.1 HXr.out).1).trans HXr.out))
            have hB7 := HBn.out.trans (hbW.mono (by have := HBn.out.size; have := HG1.out; omega))
            have HB7 := Lib.hid hB7
            have HGW : Hid (g ≤ W.heap.size) := Lib.hid (by have := hB7.size; have := HG1.out; omega)
            have kst := step_any p x0 x1 x2 x3 x4 x5 c0 c1 c2 c3 c4 c5 HSUM.out k HKC.out x HNX.out W (HVT.out W hbW) g g m nc D l (WaysIn.below HA4.out hbW) (by rw [HDL.out, HNC.out, HN.out.1]) HDK.out (by rw [HLL.out, HNL.out, HN.out.2.1, HN.out.2.2]) (by rw [HLL.out]; exact HFL.out) HGW.out (by have h := HT.out.lt; have := HG1.out.2.2.1; omega)
            unfold pgV inV at kst
            rw [← HN.out.1, ← HN.out.2.1, ← HN.out.2.2, ← HNC.out] at kst
            have HNXT : Hid (flowV p p.code 0 (done0 p) = flowV p (p.code.drop (k + 1)) (k + 1) (stepL p x k D l)) := Lib.hid (by rw [HFV.out, HST.out, HDK.out]; dsimp only; rw [if_pos (by rw [← HRS.out]; exact HRD.out.symm), step_same p x k D l HNX.out])
            have HLV2 : Hid (Live nn (k + 1) (stepL p x k D l)) := Lib.hid (by have h := stepL_live HNX.out HKC.out D (by rw [HDL.out, HNC.out, HN.out.1]) l; rw [← HN.out.1] at h; exact h)
            have HFL2 : Hid (FlatD (stepL p x k D l) nl) := Lib.hid (by rw [step_same p x k D l HNX.out]; exact HFL.out.step HLL.out)
            have HDL2 : Hid ((stepL p x k D l).length = nc) := Lib.hid (by rw [step_same p x k D l HNX.out, stepV_length]; exact HDL.out)
            clear hI hfo hbW hB7
            subst hx
            simp only [Exit.inBlock, Exit.then, List.foldl, Act.put, List.setIfInBounds_toArray, List.set_cons_succ, List.set_cons_zero]
            rw [h42]
            clear h42
            go_wp2_with (first | (refine wpList_load_row rfl 32 (.tmp 1) rfl Bp rfl 32 #[.slice x0 p.ins.length c0, .slice x1 n1 c1, .slice x2 n2 c2, .slice x3 p.mems.length c3, .slice x4 p.consts.length c4, .slice x5 nn c5] (0, 0) _ ?_ Tryd.underlying32 rfl HSP.out ?_; (exact HX7.out)) | (refine wpList_load_row rfl 34 (.tmp 6) rfl Ib rfl 34 #[.int .i64 x.op, .int .i64 x.a, .int .i64 x.b, .int .i64 x.c] (0, 0) _ ?_ Tryd.underlying34 rfl HSI.out ?_; (exact HI7.out)))
            (with_reducible refine kst.mono ?_)
            rintro e w9 ⟨rfl, hw9, hv9⟩
            have HW9 := Lib.hid hw9
            have HB9 := Lib.hid (HB7.out.trans (hv9.below HGW.out))
            clear kst hw9 hv9
            have hwr := HWR.out
            go_wp2_with fail
            exact ⟨⟨k + 1, stepL p x k D l, by first | rw [HWR.out] | simp, HKNN.out, HB9.out, HW9.out, HDL2.out, HFL2.out, HLV2.out, HNXT.out⟩, by have := HKNN.out; (try rw [HWR.out]); first | (simp only [intOf]; omega) | (simp [intOf]; omega)⟩
    · obtain rfl : k = nn := by omega
      have d1 : decide ((k : Int) < (k : Int)) = false := by simp
      have HFE : Hid (flowV p p.code 0 (done0 p) = .inl D) := Lib.hid (by rw [HFV.out, HN.out.1]; exact flowV_end p p.code D)
      obtain ⟨l, hdl⟩ : ∃ l, D.getD k none = some l := by
        obtain ⟨j, h1, h2, l, h3⟩ := HLV.out
        obtain rfl : j = k := by omega
        exact ⟨l, h3⟩
      obtain ⟨bs, hA⟩ := HWYr.out
      obtain ⟨xs, hxs, hsw, hxB, hml⟩ := hA.sw (Nat.le_refl _) (by rw [HDL.out]; exact HNN.out) hdl
      have hcell := hA.cell k (by rw [HDL.out]; exact HNN.out)
      rw [hxs] at hcell
      have HCE : Hid (wr.cell? ⟨g, k, none⟩ = some (.slice (some ⟨xs.1, 0, none⟩) m xs.2)) := Lib.hid hcell
      have HGE := Lib.hid hA.lt
      have HSW := Lib.hid hsw
      have HML := Lib.hid hml
      have HLL : Hid (l.length = nl) := Lib.hid (HFL.out k l hdl)
      have HOV : Hid (outsV p D = ((l.drop p.slots.length).take p.outs.length).all id) := Lib.hid (by unfold outsV; rw [← HN.out.1, hdl])
      have HRP : Hid (FP = if outsV p D = true then (0, 0) else ((k : Int), 5)) := Lib.hid (by rw [HFP.out]; unfold followP; rw [HFE.out, HN.out.1])
      have z1 := cell_of_row wr Bp 1 _ _ _ HXr.out
      clear hk hkn hdl hA hxs hsw hxB hml hcell
      go_wp2_with fail
      clear z1 d1
      obtain ⟨nn, rfl⟩ : ∃ n : Nat, n = k := ⟨_, rfl⟩
      obtain ⟨w1, rfl⟩ : ∃ w1 : World, w1 = wr := ⟨_, rfl⟩
      go_loopw [54] (fun v wr => ∃ (k : Nat), v = .int .i64 (k : Int) ∧ k ≤ n1 ∧ Below w1.heap.size w1 wr ∧ ∀ j, j < k → l.getD (n2 + j) false = true)
        (fun v _ => n1 - (intOf v).toNat)
      case atStart => exact ⟨0, rfl, Nat.zero_le _, Below.refl _ _, fun j hj => by omega⟩
      case round =>
        obtain ⟨k, rfl, hk, hb, hq⟩ := hrel
        have HBr := Lib.hid hb
        have HQr := Lib.hid hq
        have HBWr := Lib.hid (HBW.out.trans (hb.mono HBW.out.size))
        have HFrr := Lib.hid ((hb.block Rf (Array.getElem?_eq_some_iff.1 HFr.out).1).trans HFr.out)
        clear hb hq
        by_cases hkn : k < n1
        · have HKNN := Lib.hid hkn
          have d1 : decide ((k : Int) < (n1 : Int)) = true := by simp; omega
          obtain ⟨sk, hsk⟩ : ∃ s, s = n2 + k := ⟨_, rfl⟩
          have hskl : sk < l.length := by have := HLL.out; have := HNL.out; omega
          have HADD : Hid (∀ (t : TypeId) (W : World), (binOp .add t (.int .i64 (n2 : Int)) (.int .i64 (k : Int))).run Tryd.prog W = .ok (.int .i64 (sk : Int)) W) := Lib.hid fun t W => by rw [hsk]; exact bin_add64 n2 k (by have := HSZ.out; omega)
          have HXr2 := Lib.hid ((HBr.out.block Bp (Array.getElem?_eq_some_iff.1 HXr.out).1).trans HXr.out)
          have HGr := Lib.hid (Nat.lt_of_lt_of_le HGE.out HBr.out.size)
          have HCr := Lib.hid ((HBr.out.cell (p := ⟨g, nn, none⟩) HGE.out).trans HCE.out)
          obtain ⟨bt, hbt⟩ : ∃ b, b = l.getD sk false := ⟨_, rfl⟩
          have KH : Hid (∀ W, Below wr.heap.size wr W → Calls Tryd.prog 30 #[.slice (some ⟨xs.1, 0, none⟩) m xs.2, .int .i64 (sk : Int)] W fun e w' => e = .returned (.bool bt) ∧ w' = W) := Lib.hid fun W h => by
            rw [hbt]
            exact setHas_any W xs.1 m xs.2 sk l (HSW.out.same ((h.block _ (Nat.lt_of_lt_of_le HSW.out.lt HBr.out.size)).trans (HBr.out.block _ HSW.out.lt))) HML.out hskl (by have := HSZ.out; have := HNL.out; have := HLL.out; omega)
          have HBT : Hid (bt = l.getD (n2 + k) false) := Lib.hid (by rw [hbt, hsk])
          have hwr := wrap_succV (i := k) (by have := HSZ.out; omega)
          have HWR := Lib.hid hwr
          clear hk hkn hskl hsk hbt hwr
          go_upto_region 14 with fail
          cases bt with
          | false =>
            refine wp_region_steps (words [wIs (.slice (some ⟨g, 0, none⟩) nc nc), wIs (.pointer (some ⟨Bp, 5, none⟩)), wIs (.slice x5 nn c5), wIs (.int .i64 ((nn : Nat) : Int)), wIs (.pointer (some ⟨g, nn, none⟩)), wIs (.slice (some ⟨xs.1, 0, none⟩) m xs.2), wIs (.pointer (some ⟨Bp, 2, none⟩)), wIs (.slice x2 n2 c2), wIs (.int .i64 ((n2 : Nat) : Int)), wIs (.int .i64 (k : Int)), wIs (.int .i64 (sk : Int)), wIs (.bool false), wIs (.bool true)]) wr.heap.size wr (by kernel_rfl) (Below.refl _ _) (Nat.le_refl _) (words_stable ?stab) rfl rfl (by kernel_rfl) ?steps ?rest2
            case stab =>
              intro f hf
              simp only [List.mem_cons, List.not_mem_nil, or_false] at hf
              rcases hf with rfl | rfl | rfl | rfl | rfl | rfl | rfl | rfl | rfl | rfl | rfl | rfl | rfl <;> first | exact stable_is _
            case steps =>
              refine Steps.cons (step_value rfl fun xa W hp => ⟨(wanted_none rfl), _, _, run_move (.inl rfl), hp.old 4 rfl, Below.refl _ _⟩) ?_
              refine Steps.cons (step_value rfl fun xa W hp => ?_) ?_
              · have e0 : xa.tmps.getD 1 undef = .pointer (some ⟨Bp, 0, none⟩) := hp.old 1 rfl
                have e1 : (Instr.fieldAt 32 (.pointer (some ⟨Bp, 0, none⟩)) 5).run Tryd.prog W = .ok (.pointer (some ⟨Bp, 5, none⟩)) W := by kernel_rfl
                exact ⟨(wanted_none rfl), _, _, run_fa4 rfl e0 e1, rfl, Below.refl _ _⟩
              refine Steps.cons (step_value rfl fun xa W hp => ?_) ?_
              · have e0 : xa.tmps.getD 58 undef = .pointer (some ⟨Bp, 5, none⟩) := (hp.on_ 1 rfl rfl rfl).2
                exact ⟨(wanted_none rfl), _, _, run_ldv rfl e0 (cell_of_row W (Bp) 5 _ _ _ ((hp.below.block (Bp) (Array.getElem?_eq_some_iff.1 HXr2.out).1).trans HXr2.out)) Tryd.underlying30 rfl (by kernel_rfl), rfl, Below.refl _ _⟩
              refine Steps.cons (step_value rfl fun xa W hp => ?_) ?_
              · have e0 : xa.tmps.getD 59 undef = .slice x5 nn c5 := (hp.on_ 2 rfl rfl rfl).2
                exact ⟨(wanted_none rfl), _, _, run_len14 rfl Tryd.underlying30 e0, rfl, Below.refl _ _⟩
              refine Steps.cons (step_value rfl fun xa W hp => ?_) ?_
              · have e0 : xa.tmps.getD 57 undef = .slice (some ⟨g, 0, none⟩) nc nc := (hp.on_ 0 rfl rfl rfl).2
                have e1 : xa.tmps.getD 60 undef = .int .i64 ((nn : Nat) : Int) := (hp.on_ 3 rfl rfl rfl).2
                exact ⟨(wanted_none rfl), _, _, run_idxW rfl e0 e1 HNN.out, rfl, Below.refl _ _⟩
              refine Steps.cons (step_value rfl fun xa W hp => ?_) ?_
              · have e0 : xa.tmps.getD 61 undef = .pointer (some ⟨g, nn, none⟩) := (hp.on_ 4 rfl rfl rfl).2
                exact ⟨(wanted_none rfl), _, _, run_ldv rfl e0 ((hp.below.cell (p := ⟨g, nn, none⟩) HGr.out).trans HCr.out) Tryd.underlying64 rfl (by kernel_rfl), rfl, Below.refl _ _⟩
              refine Steps.cons (step_value rfl fun xa W hp => ?_) ?_
              · have e0 : xa.tmps.getD 1 undef = .pointer (some ⟨Bp, 0, none⟩) := hp.old 1 rfl
                have e1 : (Instr.fieldAt 32 (.pointer (some ⟨Bp, 0, none⟩)) 2).run Tryd.prog W = .ok (.pointer (some ⟨Bp, 2, none⟩)) W := by kernel_rfl
                exact ⟨(wanted_none rfl), _, _, run_fa4 rfl e0 e1, rfl, Below.refl _ _⟩
              refine Steps.cons (step_value rfl fun xa W hp => ?_) ?_
              · have e0 : xa.tmps.getD 63 undef = .pointer (some ⟨Bp, 2, none⟩) := (hp.on_ 6 rfl rfl rfl).2
                exact ⟨(wanted_none rfl), _, _, run_ldv rfl e0 (cell_of_row W (Bp) 2 _ _ _ ((hp.below.block (Bp) (Array.getElem?_eq_some_iff.1 HXr2.out).1).trans HXr2.out)) Tryd.underlying24 rfl (by kernel_rfl), rfl, Below.refl _ _⟩
              refine Steps.cons (step_value rfl fun xa W hp => ?_) ?_
              · have e0 : xa.tmps.getD 64 undef = .slice x2 n2 c2 := (hp.on_ 7 rfl rfl rfl).2
                exact ⟨(wanted_none rfl), _, _, run_len14 rfl Tryd.underlying24 e0, rfl, Below.refl _ _⟩
              refine Steps.cons (step_value rfl fun xa W hp => ⟨(wanted_none rfl), _, _, run_move (.inl rfl), hp.old 7 rfl, Below.refl _ _⟩) ?_
              refine Steps.cons (step_value rfl fun xa W hp => ?_) ?_
              · have e0 : xa.tmps.getD 65 undef = .int .i64 ((n2 : Nat) : Int) := (hp.on_ 8 rfl rfl rfl).2
                have e1 : xa.tmps.getD 66 undef = .int .i64 (k : Int) := (hp.on_ 9 rfl rfl rfl).2
                exact ⟨(wanted_none rfl), _, _, run_ints rfl e0 e1 (HADD.out _ _), rfl, Below.refl _ _⟩
              refine Steps.cons (step_enter rfl fun xa W hp => ?_) ?_
              · have e0 : xa.tmps.getD 62 undef = .slice (some ⟨xs.1, 0, none⟩) m xs.2 := (hp.on_ 5 rfl rfl rfl).2
                have e1 : xa.tmps.getD 67 undef = .int .i64 (sk : Int) := (hp.on_ 10 rfl rfl rfl).2
                refine ⟨(wanted_none rfl), 30, _, run_enter2 rfl rfl Tryd.call30, ?_⟩
                show Calls _ _ #[xa.tmps.getD 62 undef, xa.tmps.getD 67 undef] W _
                rw [e0, e1]
                refine (KH.out W hp.below).mono ?_
                rintro e W' ⟨he, hbe⟩
                exact ⟨_, he, rfl, by rw [hbe]; exact Below.refl _ _⟩
              refine Steps.cons (step_value rfl fun xa W hp => ?_) ?_
              · have e0 : xa.tmps.getD 68 undef = .bool false := (hp.on_ 11 rfl rfl rfl).2
                exact ⟨(wanted_none rfl), _, _, run_not rfl e0, rfl, Below.refl _ _⟩
              exact Steps.nil
            case rest2 =>
              intro act W hI
              have hbW := hI.below
              have h69 : act.tmps.getD 69 undef = .bool true := hI.new 12 _ 69 rfl rfl rfl
              obtain ⟨fo, hfo, hx⟩ := puts_of hI.tmps hI.defers hI.old [57, 58, 59, 60, 61, 62, 63, 64, 65, 66, 67, 68, 69] rfl
              rw [hfo] at h69
              have HF14 := Lib.hid ((hbW.block Rf (Array.getElem?_eq_some_iff.1 HFrr.out).1).trans HFrr.out)
              have HBF := Lib.hid (HBWr.out.trans (hbW.mono HBWr.out.size))
              have z5 := cell_of_row W Bp 5 _ _ _ ((hbW.block Bp (Array.getElem?_eq_some_iff.1 HXr2.out).1).trans HXr2.out)
              have HRES : Hid (FP = ((nn : Int), 5)) := Lib.hid (by
                have h := outs_not l p.slots.length p.outs.length k (by rw [HLL.out, HNL.out, HN.out.2.1, HN.out.2.2]) (by rw [← HN.out.2.1]; exact HKNN.out) (by rw [← HN.out.2.2]; exact HBT.out.symm)
                rw [HRP.out, HOV.out, h]; rfl)
              have bz : ∀ W : World, (Instr.build 26 #[(0, .int .i64 (nn : Int)), (1, .int .i64 5)]).run Tryd.prog W = .ok (.agg #[.int .i64 (nn : Int), .int .i64 5]) W := fun W => by kernel_rfl
              clear hI hfo hbW
              subst hx
              simp only [Exit.inBlock, Exit.then, List.foldl, Act.put, List.setIfInBounds_toArray, List.set_cons_succ, List.set_cons_zero]
              rw [h69]
              clear h69
              go_wp2_with (refine wpList_store_row rfl 26 (.tmp 2) (.tmp 73) rfl Rf #[.int .i64 (nn : Int), .int .i64 5] rfl rfl 26 #[.int .i64 0, .int .i64 0] ?_ HSF.out rfl (fault_one16 _ _) ?_; (exact HF14.out))
              refine bodyPost_ret (results_cell_tmp14 (q := 3) (p := 2) (ty := 26) rfl _ _ Rf 26 #[.int .i64 (nn : Int), .int .i64 5] (0, 0) _ rfl (setRow_heap _ Rf _ _ _ _ HF14.out) Tryd.underlying26 rfl HSF.out) rfl ?_
              exact ⟨by rw [HRES.out]; rfl, below_setRow HBF.out HRW.out _⟩
          | true =>
            refine wp_region_steps (words [wIs (.slice (some ⟨g, 0, none⟩) nc nc), wIs (.pointer (some ⟨Bp, 5, none⟩)), wIs (.slice x5 nn c5), wIs (.int .i64 ((nn : Nat) : Int)), wIs (.pointer (some ⟨g, nn, none⟩)), wIs (.slice (some ⟨xs.1, 0, none⟩) m xs.2), wIs (.pointer (some ⟨Bp, 2, none⟩)), wIs (.slice x2 n2 c2), wIs (.int .i64 ((n2 : Nat) : Int)), wIs (.int .i64 (k : Int)), wIs (.int .i64 (sk : Int)), wIs (.bool true), wIs (.bool false)]) wr.heap.size wr (by kernel_rfl) (Below.refl _ _) (Nat.le_refl _) (words_stable ?stab) rfl rfl (by kernel_rfl) ?steps ?rest2
            case stab =>
              intro f hf
              simp only [List.mem_cons, List.not_mem_nil, or_false] at hf
              rcases hf with rfl | rfl | rfl | rfl | rfl | rfl | rfl | rfl | rfl | rfl | rfl | rfl | rfl <;> first | exact stable_is _
            case steps =>
              refine Steps.cons (step_value rfl fun xa W hp => ⟨(wanted_none rfl), _, _, run_move (.inl rfl), hp.old 4 rfl, Below.refl _ _⟩) ?_
              refine Steps.cons (step_value rfl fun xa W hp => ?_) ?_
              · have e0 : xa.tmps.getD 1 undef = .pointer (some ⟨Bp, 0, none⟩) := hp.old 1 rfl
                have e1 : (Instr.fieldAt 32 (.pointer (some ⟨Bp, 0, none⟩)) 5).run Tryd.prog W = .ok (.pointer (some ⟨Bp, 5, none⟩)) W := by kernel_rfl
                exact ⟨(wanted_none rfl), _, _, run_fa4 rfl e0 e1, rfl, Below.refl _ _⟩
              refine Steps.cons (step_value rfl fun xa W hp => ?_) ?_
              · have e0 : xa.tmps.getD 58 undef = .pointer (some ⟨Bp, 5, none⟩) := (hp.on_ 1 rfl rfl rfl).2
                exact ⟨(wanted_none rfl), _, _, run_ldv rfl e0 (cell_of_row W (Bp) 5 _ _ _ ((hp.below.block (Bp) (Array.getElem?_eq_some_iff.1 HXr2.out).1).trans HXr2.out)) Tryd.underlying30 rfl (by kernel_rfl), rfl, Below.refl _ _⟩
              refine Steps.cons (step_value rfl fun xa W hp => ?_) ?_
              · have e0 : xa.tmps.getD 59 undef = .slice x5 nn c5 := (hp.on_ 2 rfl rfl rfl).2
                exact ⟨(wanted_none rfl), _, _, run_len14 rfl Tryd.underlying30 e0, rfl, Below.refl _ _⟩
              refine Steps.cons (step_value rfl fun xa W hp => ?_) ?_
              · have e0 : xa.tmps.getD 57 undef = .slice (some ⟨g, 0, none⟩) nc nc := (hp.on_ 0 rfl rfl rfl).2
                have e1 : xa.tmps.getD 60 undef = .int .i64 ((nn : Nat) : Int) := (hp.on_ 3 rfl rfl rfl).2
                exact ⟨(wanted_none rfl), _, _, run_idxW rfl e0 e1 HNN.out, rfl, Below.refl _ _⟩
              refine Steps.cons (step_value rfl fun xa W hp => ?_) ?_
              · have e0 : xa.tmps.getD 61 undef = .pointer (some ⟨g, nn, none⟩) := (hp.on_ 4 rfl rfl rfl).2
                exact ⟨(wanted_none rfl), _, _, run_ldv rfl e0 ((hp.below.cell (p := ⟨g, nn, none⟩) HGr.out).trans HCr.out) Tryd.underlying64 rfl (by kernel_rfl), rfl, Below.refl _ _⟩
              refine Steps.cons (step_value rfl fun xa W hp => ?_) ?_
              · have e0 : xa.tmps.getD 1 undef = .pointer (some ⟨Bp, 0, none⟩) := hp.old 1 rfl
                have e1 : (Instr.fieldAt 32 (.pointer (some ⟨Bp, 0, none⟩)) 2).run Tryd.prog W = .ok (.pointer (some ⟨Bp, 2, none⟩)) W := by kernel_rfl
                exact ⟨(wanted_none rfl), _, _, run_fa4 rfl e0 e1, rfl, Below.refl _ _⟩
              refine Steps.cons (step_value rfl fun xa W hp => ?_) ?_
              · have e0 : xa.tmps.getD 63 undef = .pointer (some ⟨Bp, 2, none⟩) := (hp.on_ 6 rfl rfl rfl).2
                exact ⟨(wanted_none rfl), _, _, run_ldv rfl e0 (cell_of_row W (Bp) 2 _ _ _ ((hp.below.block (Bp) (Array.getElem?_eq_some_iff.1 HXr2.out).1).trans HXr2.out)) Tryd.underlying24 rfl (by kernel_rfl), rfl, Below.refl _ _⟩
              refine Steps.cons (step_value rfl fun xa W hp => ?_) ?_
              · have e0 : xa.tmps.getD 64 undef = .slice x2 n2 c2 := (hp.on_ 7 rfl rfl rfl).2
                exact ⟨(wanted_none rfl), _, _, run_len14 rfl Tryd.underlying24 e0, rfl, Below.refl _ _⟩
              refine Steps.cons (step_value rfl fun xa W hp => ⟨(wanted_none rfl), _, _, run_move (.inl rfl), hp.old 7 rfl, Below.refl _ _⟩) ?_
              refine Steps.cons (step_value rfl fun xa W hp => ?_) ?_
              · have e0 : xa.tmps.getD 65 undef = .int .i64 ((n2 : Nat) : Int) := (hp.on_ 8 rfl rfl rfl).2
                have e1 : xa.tmps.getD 66 undef = .int .i64 (k : Int) := (hp.on_ 9 rfl rfl rfl).2
                exact ⟨(wanted_none rfl), _, _, run_ints rfl e0 e1 (HADD.out _ _), rfl, Below.refl _ _⟩
              refine Steps.cons (step_enter rfl fun xa W hp => ?_) ?_
              · have e0 : xa.tmps.getD 62 undef = .slice (some ⟨xs.1, 0, none⟩) m xs.2 := (hp.on_ 5 rfl rfl rfl).2
                have e1 : xa.tmps.getD 67 undef = .int .i64 (sk : Int) := (hp.on_ 10 rfl rfl rfl).2
                refine ⟨(wanted_none rfl), 30, _, run_enter2 rfl rfl Tryd.call30, ?_⟩
                show Calls _ _ #[xa.tmps.getD 62 undef, xa.tmps.getD 67 undef] W _
                rw [e0, e1]
                refine (KH.out W hp.below).mono ?_
                rintro e W' ⟨he, hbe⟩
                exact ⟨_, he, rfl, by rw [hbe]; exact Below.refl _ _⟩
              refine Steps.cons (step_value rfl fun xa W hp => ?_) ?_
              · have e0 : xa.tmps.getD 68 undef = .bool true := (hp.on_ 11 rfl rfl rfl).2
                exact ⟨(wanted_none rfl), _, _, run_not rfl e0, rfl, Below.refl _ _⟩
              exact Steps.nil
            case rest2 =>
              intro act W hI
              have hbW := hI.below
              have h69 : act.tmps.getD 69 undef = .bool false := hI.new 12 _ 69 rfl rfl rfl
              obtain ⟨fo, hfo, hx⟩ := puts_of hI.tmps hI.defers hI.old [57, 58, 59, 60, 61, 62, 63, 64, 65, 66, 67, 68, 69] rfl
              rw [hfo] at h69
              have HBF := Lib.hid (HBr.out.trans (hbW.mono HBr.out.size))
              have HQ2 : Hid (∀ j, j < k + 1 → l.getD (n2 + j) false = true) := Lib.hid fun j hj => by
                by_cases hjk : j = k
                · rw [hjk]; exact HBT.out.symm
                · exact HQr.out j (by omega)
              clear hI hfo hbW
              subst hx
              simp only [Exit.inBlock, Exit.then, List.foldl, Act.put, List.setIfInBounds_toArray, List.set_cons_succ, List.set_cons_zero]
              rw [h69]
              clear h69
              go_wp2_with fail
              exact ⟨⟨k + 1, by first | rw [HWR.out] | simp, HKNN.out, HBF.out, HQ2.out⟩, by have := HKNN.out; (try rw [HWR.out]); first | (simp only [intOf]; omega) | (simp [intOf]; omega)⟩
        · obtain rfl : k = n1 := by omega
          have d1 : decide ((k : Int) < (k : Int)) = false := by simp
          have HRES : Hid (FP = (0, 0)) := Lib.hid (by
            have h := outs_take l p.slots.length p.outs.length (by rw [HLL.out, HNL.out, HN.out.2.1, HN.out.2.2]) (by rw [← HN.out.2.1, ← HN.out.2.2]; exact HQr.out)
            rw [HRP.out, HOV.out, h]; rfl)
          have bz : ∀ W : World, (Instr.build 26 #[]).run Tryd.prog W = .ok (.agg #[.int .i64 0, .int .i64 0]) W := fun W => by kernel_rfl
          clear hk hkn
          go_wp2_with (refine wpList_store_row rfl 26 (.tmp 2) (.tmp 75) rfl Rf #[.int .i64 0, .int .i64 0] rfl rfl 26 #[.int .i64 0, .int .i64 0] ?_ HSF.out rfl (fault_one16 _ _) ?_; (exact HFrr.out))
          refine bodyPost_ret (results_cell_tmp14 (q := 3) (p := 2) (ty := 26) rfl _ _ Rf 26 #[.int .i64 0, .int .i64 0] (0, 0) _ rfl (setRow_heap _ Rf _ _ _ _ HFrr.out) Tryd.underlying26 rfl HSF.out) rfl ?_
          exact ⟨by rw [HRES.out]; rfl, below_setRow HBWr.out HRW.out _⟩
end Go.Proofs.YtglplhkbnkbjbaaDoor

namespace Go.Proofs.YtglplhkbnkbjbaaDoor
open Go Go.RowKit
set_option maxRecDepth 100000
theorem run_max2I {P : Program} (ts : Array TypeId) (t : TypeId) (a b : Nat) (W : World) : (Builtin.max_ ts t #[.int .i64 (a : Int), .int .i64 (b : Int)]).run P W = .ok (.int .i64 ((max a b : Nat) : Int)) W := by
  unfold Builtin.max_
  simp only [List.foldlM_cons, List.foldlM_nil, Builtin.max2, Sem.run_bind, Sem.run_pure, Result.andThen_ok]
  congr 2
  split <;> omega
theorem run_max3I {P : Program} (ts : Array TypeId) (t : TypeId) (a b c : Nat) (W : World) : (Builtin.max_ ts t #[.int .i64 (a : Int), .int .i64 (b : Int), .int .i64 (c : Int)]).run P W = .ok (.int .i64 ((max (max a b) c : Nat) : Int)) W := by
  unfold Builtin.max_
  simp only [List.foldlM_cons, List.foldlM_nil, Builtin.max2, Sem.run_bind, Sem.run_pure, Result.andThen_ok]
  congr 2
  split <;> split <;> omega
def withinP (p : Pg) : Bool := !bigP p && (((p.ins ++ p.outs) ++ p.slots) ++ p.mems).all kindOk
theorem all_four (p : Pg) : (((p.ins ++ p.outs) ++ p.slots) ++ p.mems).all kindOk = (((p.ins.all kindOk && p.outs.all kindOk) && p.slots.all kindOk) && p.mems.all kindOk) := by rw [List.all_append, List.all_append, List.all_append]
set_option maxHeartbeats 8000000 in
theorem within_any (p : Pg) (x0 x1 x2 x3 x4 x5 : Option Addr) (c0 c1 c2 c3 c4 c5 : Nat) (hp : p.sum ≤ 100000) (w : World) (in_p : PgIn w p x0 x1 x2 x3 x4 x5) : Calls Tryd.prog 14 #[pgV p x0 x1 x2 x3 x4 x5 c0 c1 c2 c3 c4 c5] w fun e w' => e = .returned (.bool (withinP p)) ∧ Below w.heap.size w w' := by
  obtain ⟨W0, hW0⟩ : ∃ W0, W0 = w.alloc (.cells #[.slice x0 p.ins.length c0, .slice x1 p.outs.length c1, .slice x2 p.slots.length c2, .slice x3 p.mems.length c3, .slice x4 p.consts.length c4, .slice x5 p.code.length c5] 32) := ⟨_, rfl⟩
  have hb0 : Below w.heap.size w W0 := by rw [hW0]; exact (Below.refl _ _).alloc (Nat.le_refl _) _
  have hbk : W0.heap[w.heap.size]? = some (.cells #[.slice x0 p.ins.length c0, .slice x1 p.outs.length c1, .slice x2 p.slots.length c2, .slice x3 p.mems.length c3, .slice x4 p.consts.length c4, .slice x5 p.code.length c5] 32 (0, 0)) := by rw [hW0]; exact heap_alloc_new w _
  obtain ⟨B, hB⟩ : ∃ B, B = w.heap.size := ⟨_, rfl⟩
  rw [← hB] at hbk
  have HB0 := Lib.hid hb0
  have HW0 := Lib.hid hW0
  have HBB := Lib.hid hB
  have HX := Lib.hid hbk
  have hs : p.ins.length ≤ 100000 ∧ p.outs.length ≤ 100000 ∧ p.slots.length ≤ 100000 ∧ p.mems.length ≤ 100000 := by unfold Pg.sum at hp; omega
  have ka := areKinds_any p.ins W0 x0 c0 (by omega) (in_p.ins.below hb0)
  have kb := areKinds_any p.outs W0 x1 c1 (by omega) (in_p.outs.below hb0)
  have kc := areKinds_any p.slots W0 x2 c2 (by omega) (in_p.slots.below hb0)
  have kd := areKinds_any p.mems W0 x3 c3 (by omega) (in_p.mems.below hb0)
  have hres : withinP p = ((!bigP p) && (((p.ins.all kindOk && p.outs.all kindOk) && p.slots.all kindOk) && p.mems.all kindOk)) := by unfold withinP; rw [all_four]
  rw [hres]
  have hbig : bigP p = (decide (1024 < p.slots.length) || (decide (1024 < p.mems.length) || (decide (1024 < p.consts.length) || (decide (64 < p.ins.length) || (decide (64 < p.outs.length) || decide (8192 < p.code.length)))))) := rfl
  rw [hbig]
  clear hres hbig
  have q0 := cell_of_row W0 B 0 _ _ _ hbk
  have q1 := cell_of_row W0 B 1 _ _ _ hbk
  have q2 := cell_of_row W0 B 2 _ _ _ hbk
  have q3 := cell_of_row W0 B 3 _ _ _ hbk
  have q4 := cell_of_row W0 B 4 _ _ _ hbk
  have q5 := cell_of_row W0 B 5 _ _ _ hbk
  obtain ⟨ba, ha⟩ : ∃ b, b = p.ins.all kindOk := ⟨_, rfl⟩
  obtain ⟨bb, hb⟩ : ∃ b, b = p.outs.all kindOk := ⟨_, rfl⟩
  obtain ⟨bc, hc⟩ : ∃ b, b = p.slots.all kindOk := ⟨_, rfl⟩
  obtain ⟨bd, hd⟩ : ∃ b, b = p.mems.all kindOk := ⟨_, rfl⟩
  rw [← ha] at ka ⊢
  rw [← hb] at kb ⊢
  rw [← hc] at kc ⊢
  rw [← hd] at kd ⊢
  unfold pgV
  clear ha hb hc hd hb0 hp in_p hs hbk hB hW0
  obtain ⟨n0, hn0⟩ : ∃ n, n = p.ins.length := ⟨_, rfl⟩
  obtain ⟨n1, hn1⟩ : ∃ n, n = p.outs.length := ⟨_, rfl⟩
  obtain ⟨n2, hn2⟩ : ∃ n, n = p.slots.length := ⟨_, rfl⟩
  obtain ⟨n3, hn3⟩ : ∃ n, n = p.mems.length := ⟨_, rfl⟩
  obtain ⟨n4, hn4⟩ : ∃ n, n = p.consts.length := ⟨_, rfl⟩
  obtain ⟨n5, hn5⟩ : ∃ n, n = p.code.length := ⟨_, rfl⟩
  rw [← hn0, ← hn1, ← hn2, ← hn3, ← hn4, ← hn5] at HW0 HX q0 q1 q2 q3 q4 q5 ⊢
  rw [← hn0] at ka
  rw [← hn1] at kb
  rw [← hn2] at kc
  rw [← hn3] at kd
  have HXX := HX
  clear hn0 hn1 hn2 hn3 hn4 hn5 HX
  obtain ⟨M3, hM3⟩ : ∃ M, M = max (max n2 n3) n4 := ⟨_, rfl⟩
  obtain ⟨M2, hM2⟩ : ∃ M, M = max n0 n1 := ⟨_, rfl⟩
  have x3 : ∀ W, (Builtin.max_ #[3, 3, 3] 3 #[.int .i64 (n2 : Int), .int .i64 (n3 : Int), .int .i64 (n4 : Int)]).run Tryd.prog W = .ok (.int .i64 (M3 : Int)) W := fun W => by rw [hM3]; exact run_max3I _ _ n2 n3 n4 W
  have x2 : ∀ W, (Builtin.max_ #[3, 3] 3 #[.int .i64 (n0 : Int), .int .i64 (n1 : Int)]).run Tryd.prog W = .ok (.int .i64 (M2 : Int)) W := fun W => by rw [hM2]; exact run_max2I _ _ n0 n1 W
  by_cases g1 : n2 ≤ 1024 ∧ n3 ≤ 1024 ∧ n4 ≤ 1024
  · obtain ⟨g11, g12, g13⟩ := g1
    by_cases g2 : n0 ≤ 64 ∧ n1 ≤ 64
    · obtain ⟨g21, g22⟩ := g2
      by_cases g3 : n5 ≤ 8192
      · have HR : Hid (∀ b : Bool, (!(decide (1024 < n2) || (decide (1024 < n3) || (decide (1024 < n4) || (decide (64 < n0) || (decide (64 < n1) || decide (8192 < n5)))))) && b) = b) := Lib.hid fun b => by
          have h : (decide (1024 < n2) || (decide (1024 < n3) || (decide (1024 < n4) || (decide (64 < n0) || (decide (64 < n1) || decide (8192 < n5)))))) = false := by simp; omega
          rw [h]; rfl
        rw [HR.out]
        clear HR
        have m1 : decide ((M3 : Int) ≤ 1024) = true := by simp; omega
        have m2 : decide ((M2 : Int) ≤ 64) = true := by simp; omega
        have m3 : decide ((n5 : Int) ≤ 8192) = true := by simp; omega
        clear g11 g12 g13 g21 g22 g3 hM3 hM2
        cases ba with
        | false =>
          go_enter Tryd.func14, Tryd.ntmps14
          go_upto_region 1 with fail
          rw [← HW0.out, ← HBB.out]
          go_wp2_with fail
          (with_reducible refine ka.mono ?_)
          rintro e w2 ⟨rfl, rfl⟩
          clear ka
          go_wp2_with fail
          go_ret
          refine ⟨?_, HB0.out⟩
          rfl
        | true =>
          cases bb with
          | false =>
            go_enter Tryd.func14, Tryd.ntmps14
            go_upto_region 1 with fail
            rw [← HW0.out, ← HBB.out]
            go_wp2_with fail
            (with_reducible refine ka.mono ?_)
            rintro e w2 ⟨rfl, rfl⟩
            clear ka
            go_wp2_with fail
            (with_reducible refine kb.mono ?_)
            rintro e w2 ⟨rfl, rfl⟩
            clear kb
            go_wp2_with fail
            go_ret
            refine ⟨?_, HB0.out⟩
            rfl
          | true =>
            cases bc with
            | false =>
              go_enter Tryd.func14, Tryd.ntmps14
              go_upto_region 1 with fail
              rw [← HW0.out, ← HBB.out]
              go_wp2_with fail
              (with_reducible refine ka.mono ?_)
              rintro e w2 ⟨rfl, rfl⟩
              clear ka
              go_wp2_with fail
              (with_reducible refine kb.mono ?_)
              rintro e w2 ⟨rfl, rfl⟩
              clear kb
              go_wp2_with fail
              (with_reducible refine kc.mono ?_)
              rintro e w2 ⟨rfl, rfl⟩
              clear kc
              go_wp2_with fail
              go_ret
              refine ⟨?_, HB0.out⟩
              rfl
            | true =>
              cases bd with
              | false =>
                go_enter Tryd.func14, Tryd.ntmps14
                go_upto_region 1 with fail
                rw [← HW0.out, ← HBB.out]
                go_wp2_with fail
                (with_reducible refine ka.mono ?_)
                rintro e w2 ⟨rfl, rfl⟩
                clear ka
                go_wp2_with fail
                (with_reducible refine kb.mono ?_)
                rintro e w2 ⟨rfl, rfl⟩
                clear kb
                go_wp2_with fail
                (with_reducible refine kc.mono ?_)
                rintro e w2 ⟨rfl, rfl⟩
                clear kc
                go_wp2_with fail
                (with_reducible refine kd.mono ?_)
                rintro e w2 ⟨rfl, rfl⟩
                clear kd
                go_wp2_with fail
                go_ret
                refine ⟨?_, HB0.out⟩
                rfl
              | true =>
                go_enter Tryd.func14, Tryd.ntmps14
                go_upto_region 1 with fail
                rw [← HW0.out, ← HBB.out]
                go_wp2_with fail
                (with_reducible refine ka.mono ?_)
                rintro e w2 ⟨rfl, rfl⟩
                clear ka
                go_wp2_with fail
                (with_reducible refine kb.mono ?_)
                rintro e w2 ⟨rfl, rfl⟩
                clear kb
                go_wp2_with fail
                (with_reducible refine kc.mono ?_)
                rintro e w2 ⟨rfl, rfl⟩
                clear kc
                go_wp2_with fail
                (with_reducible refine kd.mono ?_)
                rintro e w2 ⟨rfl, rfl⟩
                clear kd
                go_wp2_with fail
                go_ret
                refine ⟨?_, HB0.out⟩
                rfl
      · have HR : Hid (∀ b : Bool, (!(decide (1024 < n2) || (decide (1024 < n3) || (decide (1024 < n4) || (decide (64 < n0) || (decide (64 < n1) || decide (8192 < n5)))))) && b) = false) := Lib.hid fun b => by
          have h : (decide (1024 < n2) || (decide (1024 < n3) || (decide (1024 < n4) || (decide (64 < n0) || (decide (64 < n1) || decide (8192 < n5)))))) = true := by simp; omega
          rw [h]; rfl
        rw [HR.out]
        clear HR
        have m1 : decide ((M3 : Int) ≤ 1024) = true := by simp; omega
        have m2 : decide ((M2 : Int) ≤ 64) = true := by simp; omega
        have m3 : decide ((n5 : Int) ≤ 8192) = false := by simp; omega
        clear g11 g12 g13 g21 g22 g3 hM3 hM2
        go_enter Tryd.func14, Tryd.ntmps14
        go_upto_region 1 with fail
        rw [← HW0.out, ← HBB.out]
        go_wp2_with fail
        go_ret
        refine ⟨?_, HB0.out⟩
        rfl
    · have HR : Hid (∀ b : Bool, (!(decide (1024 < n2) || (decide (1024 < n3) || (decide (1024 < n4) || (decide (64 < n0) || (decide (64 < n1) || decide (8192 < n5)))))) && b) = false) := Lib.hid fun b => by
        have h : (decide (1024 < n2) || (decide (1024 < n3) || (decide (1024 < n4) || (decide (64 < n0) || (decide (64 < n1) || decide (8192 < n5)))))) = true := by simp; omega
        rw [h]; rfl
      rw [HR.out]
      clear HR
      have m1 : decide ((M3 : Int) ≤ 1024) = true := by simp; omega
      have m2 : decide ((M2 : Int) ≤ 64) = false := by simp; omega
      clear g11 g12 g13 g2 hM3 hM2
      go_enter Tryd.func14, Tryd.ntmps14
      go_upto_region 1 with fail
      rw [← HW0.out, ← HBB.out]
      go_wp2_with fail
      go_ret
      refine ⟨?_, HB0.out⟩
      rfl
  · have HR : Hid (∀ b : Bool, (!(decide (1024 < n2) || (decide (1024 < n3) || (decide (1024 < n4) || (decide (64 < n0) || (decide (64 < n1) || decide (8192 < n5)))))) && b) = false) := Lib.hid fun b => by
      have h : (decide (1024 < n2) || (decide (1024 < n3) || (decide (1024 < n4) || (decide (64 < n0) || (decide (64 < n1) || decide (8192 < n5)))))) = true := by simp; omega
      rw [h]; rfl
    rw [HR.out]
    clear HR
    have m1 : decide ((M3 : Int) ≤ 1024) = false := by simp; omega
    clear g1 hM3 hM2
    go_enter Tryd.func14, Tryd.ntmps14
    go_upto_region 1 with fail
    rw [← HW0.out, ← HBB.out]
    go_wp2_with fail
    go_ret
    refine ⟨?_, HB0.out⟩
    rfl
end Go.Proofs.YtglplhkbnkbjbaaDoor

namespace Go.Proofs.YtglplhkbnkbjbaaDoor
open Go Go.RowKit
set_option maxRecDepth 100000
theorem checkP_within {p : Pg} (h : withinP p = false) : checkP p = (-1, 1) := by
  unfold withinP at h
  unfold checkP
  by_cases hb : bigP p = true
  · rw [if_pos hb]
  · rw [if_neg hb]
    have hb' : bigP p = false := by simpa using hb
    rw [hb'] at h
    have h2 : ((((p.ins ++ p.outs) ++ p.slots) ++ p.mems).all kindOk) = false := by simpa using h
    rw [h2]; rfl
theorem checkP_in {p : Pg} (h : withinP p = true) : checkP p = match firstV (namedP p) p.code 0 with
    | some k => ((k : Int), 2)
    | none => match firstV (fun _ => fitsP p) p.code 0 with
      | some k => ((k : Int), 3)
      | none => followP p := by
  unfold withinP at h
  simp only [Bool.and_eq_true, Bool.not_eq_true'] at h
  unfold checkP followP
  rw [if_neg (by rw [h.1]; decide), h.2, if_neg (by decide)]
  rfl
def AllN (p : Pg) : Prop := ∀ k (h : k < p.code.length), namedP p k (p.code[k]'h) = true
set_option maxHeartbeats 40000000 in
theorem lCheck_any (p : Pg) (x0 x1 x2 x3 x4 x5 : Option Addr) (c0 c1 c2 c3 c4 c5 : Nat) (hp : p.sum ≤ 100000) (w : World) (hT : VTab w) (in_p : PgIn w p x0 x1 x2 x3 x4 x5) : Calls Tryd.prog 9 #[pgV p x0 x1 x2 x3 x4 x5 c0 c1 c2 c3 c4 c5] w (GivesVC w p) := by
  unfold GivesVC
  obtain ⟨W0, hW0⟩ : ∃ W0, W0 = w.alloc (.cells #[.slice x0 p.ins.length c0, .slice x1 p.outs.length c1, .slice x2 p.slots.length c2, .slice x3 p.mems.length c3, .slice x4 p.consts.length c4, .slice x5 p.code.length c5] 32) := ⟨_, rfl⟩
  have hb0 : Below w.heap.size w W0 := by rw [hW0]; exact (Below.refl _ _).alloc (Nat.le_refl _) _
  have k0 := heap_alloc_new w (.cells #[.slice x0 p.ins.length c0, .slice x1 p.outs.length c1, .slice x2 p.slots.length c2, .slice x3 p.mems.length c3, .slice x4 p.consts.length c4, .slice x5 p.code.length c5] 32)
  rw [← hW0] at k0
  obtain ⟨Bp, hBp⟩ : ∃ B, B = w.heap.size := ⟨_, rfl⟩
  rw [← hBp] at k0
  obtain ⟨W1, hW1⟩ : ∃ W1, W1 = W0.alloc (.cells #[.int .i64 0, .int .i64 0] 26) := ⟨_, rfl⟩
  have hb1 : Below W0.heap.size W0 W1 := by rw [hW1]; exact (Below.refl _ _).alloc (Nat.le_refl _) _
  have k1 := heap_alloc_new W0 (.cells #[.int .i64 0, .int .i64 0] 26)
  rw [← hW1] at k1
  obtain ⟨Rf, hRf⟩ : ∃ R, R = w.heap.size + 1 := ⟨_, rfl⟩
  have hRW : W0.heap.size = Rf := by rw [hW0, hRf]; simp
  rw [hRW] at k1
  have k0' := (hb1.block Bp (Array.getElem?_eq_some_iff.1 k0).1).trans k0
  have hb01 := hb0.trans (hb1.mono hb0.size)
  have hrw : w.heap.size ≤ Rf := by rw [← hRW]; exact hb0.size
  have kw := within_any p x0 x1 x2 x3 x4 x5 c0 c1 c2 c3 c4 c5 hp W1 (in_p.below hb01)
  have kf0 := fun (hn : AllN p) (W : World) (hb : Below w.heap.size w W) => follow_any p x0 x1 x2 x3 x4 x5 c0 c1 c2 c3 c4 c5 hp hn W (hT.below hb) (in_p.below hb)
  have kp0 := fun (k : Nat) (hk : k < p.code.length) (x : In4) (W : World) (hb : Below w.heap.size w W) => isPlaced_any p x0 x1 x2 x3 x4 x5 c0 c1 c2 c3 c4 c5 hp k (by unfold Pg.sum at hp; omega) x W (hT.below hb)
  have kt0 := fun (k : Nat) (x : In4) (hn : namedP p k x = true) (W : World) (hb : Below w.heap.size w W) => fits_any p x0 x1 x2 x3 x4 x5 c0 c1 c2 c3 c4 c5 k x hn W (hT.below hb) (in_p.below hb)
  obtain ⟨nn, hnn⟩ : ∃ n, n = p.code.length := ⟨_, rfl⟩
  have hsz : nn ≤ 100000 := by unfold Pg.sum at hp; omega
  have HSZ := Lib.hid hsz
  have HW0 := Lib.hid hW0
  have HW1 := Lib.hid hW1
  have HBB := Lib.hid hBp
  have HRR := Lib.hid hRf
  have HRW := Lib.hid hrw
  have HX := Lib.hid k0'
  have HF := Lib.hid k1
  have HB01 := Lib.hid hb01
  have HP := Lib.hid in_p
  have HN := Lib.hid hnn
  have HSI := Lib.hid size_in4v
  have HSP := Lib.hid size_progv
  have HSF := Lib.hid size_fault16
  obtain ⟨CP, hCP⟩ : ∃ r, r = checkP p := ⟨_, rfl⟩
  rw [← hCP]
  have HCP := Lib.hid hCP
  unfold pgV at kw kf0 kp0 kt0 ⊢
  unfold inV at kp0 kt0
  rw [← hnn] at HW0 HX kw kf0 kp0 kt0 ⊢
  have KF := Lib.hid kf0
  have KP := Lib.hid kp0
  have KT := Lib.hid kt0
  obtain ⟨wi, hwi⟩ : ∃ b, b = withinP p := ⟨_, rfl⟩
  rw [← hwi] at kw
  have HWI := Lib.hid hwi
  clear hb0 hb1 hb01 k0 k0' k1 hW0 hW1 hBp hRf hRW hrw hnn hsz hp hT in_p hCP kf0 kp0 kt0 hwi
  go_enter Tryd.func9, Tryd.ntmps9
  go_upto_region 1 with fail
  rw [← HW0.out, ← HRR.out, ← HBB.out, ← HW1.out]
  go_wp2_with (refine wpList_load_row rfl 32 (.tmp 1) rfl Bp rfl 32 #[.slice x0 p.ins.length c0, .slice x1 p.outs.length c1, .slice x2 p.slots.length c2, .slice x3 p.mems.length c3, .slice x4 p.consts.length c4, .slice x5 nn c5] (0, 0) _ ?_ Tryd.underlying32 rfl HSP.out ?_; (exact HX.out))
  (with_reducible refine kw.mono ?_)
  rintro e w2 ⟨rfl, hb2⟩
  have HBW2 := Lib.hid (HB01.out.trans (hb2.mono HB01.out.size))
  have HX2 := Lib.hid ((hb2.block Bp (Array.getElem?_eq_some_iff.1 HX.out).1).trans HX.out)
  have HF2 := Lib.hid ((hb2.block Rf (Array.getElem?_eq_some_iff.1 HF.out).1).trans HF.out)
  clear kw hb2
  cases wi with
  | false =>
    have HRES : Hid (CP = (-1, 1)) := Lib.hid (by rw [HCP.out]; exact checkP_within HWI.out.symm)
    have bz : ∀ W : World, (Instr.build 26 #[(0, .int .i64 (-1)), (1, .int .i64 1)]).run Tryd.prog W = .ok (.agg #[.int .i64 (-1), .int .i64 1]) W := fun W => by kernel_rfl
    go_wp2_with (refine wpList_store_row rfl 26 (.tmp 2) (.tmp 11) rfl Rf #[.int .i64 (-1), .int .i64 1] rfl rfl 26 #[.int .i64 0, .int .i64 0] ?_ HSF.out rfl (fault_one16 _ _) ?_; (exact HF2.out))
    refine bodyPost_ret (results_cell_tmp14 (q := 3) (p := 2) (ty := 26) rfl _ _ Rf 26 #[.int .i64 (-1), .int .i64 1] (0, 0) _ rfl (setRow_heap _ Rf _ _ _ _ HF2.out) Tryd.underlying26 rfl HSF.out) rfl ?_
    exact ⟨by rw [HRES.out]; rfl, below_setRow HBW2.out HRW.out _⟩
  | true =>
    have HCK : Hid (CP = match firstV (namedP p) p.code 0 with
      | some k => ((k : Int), 2)
      | none => match firstV (fun _ => fitsP p) p.code 0 with
        | some k => ((k : Int), 3)
        | none => followP p) := Lib.hid (by rw [HCP.out]; exact checkP_in HWI.out.symm)
    have z5 := cell_of_row w2 Bp 5 _ _ _ HX2.out
    go_wp2_with fail
    clear z5
    go_loopw [15] (fun v wr => ∃ (k : Nat), v = .int .i64 (k : Int) ∧ k ≤ nn ∧ Below w2.heap.size w2 wr ∧ firstV (namedP p) p.code 0 = firstV (namedP p) (p.code.drop k) k)
      (fun v _ => nn - (intOf v).toNat)
    case atStart => exact ⟨0, rfl, Nat.zero_le _, Below.refl _ _, by rw [List.drop_zero]⟩
    case round =>
      obtain ⟨k, rfl, hk, hb, hfv⟩ := hrel
      have HBr := Lib.hid hb
      have HFV := Lib.hid hfv
      have HBW := Lib.hid (HBW2.out.trans (hb.mono HBW2.out.size))
      have HXr := Lib.hid ((hb.block Bp (Array.getElem?_eq_some_iff.1 HX2.out).1).trans HX2.out)
      have HFr := Lib.hid ((hb.block Rf (Array.getElem?_eq_some_iff.1 HF2.out).1).trans HF2.out)
      clear hb hfv
      by_cases hkn : k < nn
      · have HKNN := Lib.hid hkn
        have hkc : k < p.code.length := by rw [← HN.out]; exact hkn
        obtain ⟨x, hx⟩ : ∃ x, x = p.code[k]'hkc := ⟨_, rfl⟩
        obtain ⟨gc, oc, hxc, hgc, hrc⟩ := (HP.out.below HBW.out).code (by intro h; rw [h] at hkc; simp at hkc)
        have hr := hrc k hkc
        rw [← hx] at hr
        have HST := Lib.hid (firstV_step (namedP p) p.code k hkc)
        rw [← hx] at HST
        have HRc := Lib.hid hr
        have HXC := Lib.hid hxc
        have d1 : decide ((k : Int) < (nn : Int)) = true := by simp; omega
        have hwr := wrap_succV (i := k) (by have := HSZ.out; omega)
        have HWR := Lib.hid hwr
        obtain ⟨Ib, hIb⟩ : ∃ b, b = wr.heap.size := ⟨_, rfl⟩
        have n14 := newrow14 wr 34 #[.int .i64 0, .int .i64 0, .int .i64 0, .int .i64 0] #[.int .i64 x.op, .int .i64 x.a, .int .i64 x.b, .int .i64 x.c]
        have kz := heap_alloc_new wr (.cells #[.int .i64 0, .int .i64 0, .int .i64 0, .int .i64 0] 34)
        rw [← hIb] at n14 kz
        obtain ⟨W4, hW4⟩ : ∃ W, W = (wr.alloc (.cells #[.int .i64 0, .int .i64 0, .int .i64 0, .int .i64 0] 34)).setRow Ib #[.int .i64 x.op, .int .i64 x.a, .int .i64 x.b, .int .i64 x.c] := ⟨_, rfl⟩
        rw [← hW4] at n14
        have hb4 : Below wr.heap.size wr W4 := by rw [← hIb]; exact n14.1
        have HKZ := Lib.hid kz
        have HI4 := Lib.hid n14.2
        have HW4 := Lib.hid hW4
        have HIB := Lib.hid hIb
        have HB4 := Lib.hid (HBr.out.trans (hb4.mono HBr.out.size))
        have HX4 := Lib.hid ((hb4.block Bp (Array.getElem?_eq_some_iff.1 HXr.out).1).trans HXr.out)
        have HF4 := Lib.hid ((hb4.block Rf (Array.getElem?_eq_some_iff.1 HFr.out).1).trans HFr.out)
        have HBW4 := Lib.hid (HBW.out.trans (hb4.mono HBW.out.size))
        obtain ⟨bt, hbt⟩ : ∃ b, b = namedP p k x := ⟨_, rfl⟩
        have kk := KP.out k hkn x W4 HBW4.out
        rw [placed_named, ← hbt] at kk
        have HBT := Lib.hid hbt
        clear hbt
        clear hk hkn hkc hx hr hrc hgc n14 kz hb4 hW4 hIb hwr hxc
        go_upto_region 6 with (first | refine wpList_val rfl (run_idx14 (k := k) Tryd.underlying30 size_in4v rfl (congrArg (fun z => Value.slice z nn c5) HXC.out) rfl HKNN.out) ?_ | (refine wpList_load_mid rfl 34 (.tmp 18) rfl gc (oc + k * 4) rfl (in4C x) _ ?_ Tryd.underlying34 rfl HSI.out ?_; (exact HRc.out)) | (rw [← HIB.out]; refine wpList_store_row rfl 34 (.tmp 5) (.tmp 19) rfl Ib #[.int .i64 x.op, .int .i64 x.a, .int .i64 x.b, .int .i64 x.c] rfl rfl 34 _ HKZ.out HSI.out rfl (in4_one _ _ _ _) ?_))
        rw [← HW4.out]
        go_wp2_with (first | (refine wpList_load_row rfl 32 (.tmp 1) rfl Bp rfl 32 #[.slice x0 p.ins.length c0, .slice x1 p.outs.length c1, .slice x2 p.slots.length c2, .slice x3 p.mems.length c3, .slice x4 p.consts.length c4, .slice x5 nn c5] (0, 0) _ ?_ Tryd.underlying32 rfl HSP.out ?_; (exact HX4.out)) | (refine wpList_load_row rfl 34 (.tmp 5) rfl Ib rfl 34 #[.int .i64 x.op, .int .i64 x.a, .int .i64 x.b, .int .i64 x.c] (0, 0) _ ?_ Tryd.underlying34 rfl HSI.out ?_; (exact HI4.out)))
        (with_reducible refine kk.mono ?_)
        rintro e w5 ⟨rfl, hb5⟩
        have HB5 := Lib.hid (HB4.out.trans (hb5.mono HB4.out.size))
        have HBW5 := Lib.hid (HBW4.out.trans (hb5.mono HBW4.out.size))
        have HF5 := Lib.hid ((hb5.block Rf (Array.getElem?_eq_some_iff.1 HF4.out).1).trans HF4.out)
        clear kk hb5
        cases bt with
        | false =>
          have HRES : Hid (CP = ((k : Int), 2)) := Lib.hid (by
            have hf : firstV (namedP p) p.code 0 = some k := by rw [HFV.out, HST.out, if_neg (by rw [← HBT.out]; decide)]
            rw [HCK.out, hf])
          have bz : ∀ W : World, (Instr.build 26 #[(0, .int .i64 (k : Int)), (1, .int .i64 2)]).run Tryd.prog W = .ok (.agg #[.int .i64 (k : Int), .int .i64 2]) W := fun W => by kernel_rfl
          go_wp2_with (refine wpList_store_row rfl 26 (.tmp 2) (.tmp 26) rfl Rf #[.int .i64 (k : Int), .int .i64 2] rfl rfl 26 #[.int .i64 0, .int .i64 0] ?_ HSF.out rfl (fault_one16 _ _) ?_; (exact HF5.out))
          refine bodyPost_ret (results_cell_tmp14 (q := 3) (p := 2) (ty := 26) rfl _ _ Rf 26 #[.int .i64 (k : Int), .int .i64 2] (0, 0) _ rfl (setRow_heap _ Rf _ _ _ _ HF5.out) Tryd.underlying26 rfl HSF.out) rfl ?_
          exact ⟨by rw [HRES.out]; rfl, below_setRow HBW5.out HRW.out _⟩
        | true =>
          have HNXT : Hid (firstV (namedP p) p.code 0 = firstV (namedP p) (p.code.drop (k + 1)) (k + 1)) := Lib.hid (by rw [HFV.out, HST.out, if_pos HBT.out.symm])
          have hwr := HWR.out
          go_wp2_with fail
          exact ⟨⟨k + 1, by first | rw [HWR.out] | simp, HKNN.out, HB5.out, HNXT.out⟩, by have := HKNN.out; (try rw [HWR.out]); first | (simp only [intOf]; omega) | (simp [intOf]; omega)⟩
      · obtain rfl : k = nn := by omega
        have d1 : decide ((k : Int) < (k : Int)) = false := by simp
        have HNO : Hid (firstV (namedP p) p.code 0 = none) := Lib.hid (by rw [HFV.out, HN.out]; exact firstV_end (namedP p) p.code)
        clear hk hkn
        have HNM := HNO
        have HAL : Hid (AllN p) := Lib.hid fun j hj => by
          have h := firstV_none p.code 0 HNM.out j hj
          rwa [Nat.zero_add] at h
        have z5 := cell_of_row wr Bp 5 _ _ _ HXr.out
        go_wp2_with fail
        clear z5 d1
        obtain ⟨nn, rfl⟩ : ∃ n : Nat, n = k := ⟨_, rfl⟩
        obtain ⟨w1, rfl⟩ : ∃ w1 : World, w1 = wr := ⟨_, rfl⟩
        have HBW1 := HBW
        have HX1 := HXr
        have HF1 := HFr
        clear HFV HNO HBW HXr HFr HBr
        go_loopw [31] (fun v wr => ∃ (k : Nat), v = .int .i64 (k : Int) ∧ k ≤ nn ∧ Below w1.heap.size w1 wr ∧ firstV (fun _ => fitsP p) p.code 0 = firstV (fun _ => fitsP p) (p.code.drop k) k)
          (fun v _ => nn - (intOf v).toNat)
        case atStart => exact ⟨0, rfl, Nat.zero_le _, Below.refl _ _, by rw [List.drop_zero]⟩
        case round =>
          obtain ⟨k, rfl, hk, hb, hfv⟩ := hrel
          have HBr := Lib.hid hb
          have HFV := Lib.hid hfv
          have HBW := Lib.hid (HBW1.out.trans (hb.mono HBW1.out.size))
          have HXr := Lib.hid ((hb.block Bp (Array.getElem?_eq_some_iff.1 HX1.out).1).trans HX1.out)
          have HFr := Lib.hid ((hb.block Rf (Array.getElem?_eq_some_iff.1 HF1.out).1).trans HF1.out)
          clear hb hfv
          by_cases hkn : k < nn
          · have HKNN := Lib.hid hkn
            have hkc : k < p.code.length := by rw [← HN.out]; exact hkn
            obtain ⟨x, hx⟩ : ∃ x, x = p.code[k]'hkc := ⟨_, rfl⟩
            obtain ⟨gc, oc, hxc, hgc, hrc⟩ := (HP.out.below HBW.out).code (by intro h; rw [h] at hkc; simp at hkc)
            have hr := hrc k hkc
            rw [← hx] at hr
            have HST := Lib.hid (firstV_step (fun _ => fitsP p) p.code k hkc)
            rw [← hx] at HST
            have HRc := Lib.hid hr
            have HXC := Lib.hid hxc
            have d1 : decide ((k : Int) < (nn : Int)) = true := by simp; omega
            have hwr := wrap_succV (i := k) (by have := HSZ.out; omega)
            have HWR := Lib.hid hwr
            obtain ⟨Ib, hIb⟩ : ∃ b, b = wr.heap.size := ⟨_, rfl⟩
            have n14 := newrow14 wr 34 #[.int .i64 0, .int .i64 0, .int .i64 0, .int .i64 0] #[.int .i64 x.op, .int .i64 x.a, .int .i64 x.b, .int .i64 x.c]
            have kz := heap_alloc_new wr (.cells #[.int .i64 0, .int .i64 0, .int .i64 0, .int .i64 0] 34)
            rw [← hIb] at n14 kz
            obtain ⟨W4, hW4⟩ : ∃ W, W = (wr.alloc (.cells #[.int .i64 0, .int .i64 0, .int .i64 0, .int .i64 0] 34)).setRow Ib #[.int .i64 x.op, .int .i64 x.a, .int .i64 x.b, .int .i64 x.c] := ⟨_, rfl⟩
            rw [← hW4] at n14
            have hb4 : Below wr.heap.size wr W4 := by rw [← hIb]; exact n14.1
            have HKZ := Lib.hid kz
            have HI4 := Lib.hid n14.2
            have HW4 := Lib.hid hW4
            have HIB := Lib.hid hIb
            have HB4 := Lib.hid (HBr.out.trans (hb4.mono HBr.out.size))
            have HX4 := Lib.hid ((hb4.block Bp (Array.getElem?_eq_some_iff.1 HXr.out).1).trans HXr.out)
            have HF4 := Lib.hid ((hb4.block Rf (Array.getElem?_eq_some_iff.1 HFr.out).1).trans HFr.out)
            have HBW4 := Lib.hid (HBW.out.trans (hb4.mono HBW.out.size))
            have hnx : namedP p k x = true := by rw [hx]; exact HAL.out k hkc
            obtain ⟨bt, hbt⟩ : ∃ b, b = fitsP p x := ⟨_, rfl⟩
            have kk := KT.out k x hnx W4 HBW4.out
            rw [fits_same p k x hnx, ← hbt] at kk
            have HBT := Lib.hid hbt
            clear hbt hnx
            clear hk hkn hkc hx hr hrc hgc n14 kz hb4 hW4 hIb hwr hxc
            go_upto_region 12 with (first | refine wpList_val rfl (run_idx14 (k := k) Tryd.underlying30 size_in4v rfl (congrArg (fun z => Value.slice z nn c5) HXC.out) rfl HKNN.out) ?_ | (refine wpList_load_mid rfl 34 (.tmp 34) rfl gc (oc + k * 4) rfl (in4C x) _ ?_ Tryd.underlying34 rfl HSI.out ?_; (exact HRc.out)) | (rw [← HIB.out]; refine wpList_store_row rfl 34 (.tmp 7) (.tmp 35) rfl Ib #[.int .i64 x.op, .int .i64 x.a, .int .i64 x.b, .int .i64 x.c] rfl rfl 34 _ HKZ.out HSI.out rfl (in4_one _ _ _ _) ?_))
            rw [← HW4.out]
            go_wp2_with (first | (refine wpList_load_row rfl 32 (.tmp 1) rfl Bp rfl 32 #[.slice x0 p.ins.length c0, .slice x1 p.outs.length c1, .slice x2 p.slots.length c2, .slice x3 p.mems.length c3, .slice x4 p.consts.length c4, .slice x5 nn c5] (0, 0) _ ?_ Tryd.underlying32 rfl HSP.out ?_; (exact HX4.out)) | (refine wpList_load_row rfl 34 (.tmp 7) rfl Ib rfl 34 #[.int .i64 x.op, .int .i64 x.a, .int .i64 x.b, .int .i64 x.c] (0, 0) _ ?_ Tryd.underlying34 rfl HSI.out ?_; (exact HI4.out)))
            (with_reducible refine kk.mono ?_)
            rintro e w5 ⟨rfl, hb5⟩
            have HB5 := Lib.hid (HB4.out.trans (hb5.mono HB4.out.size))
            have HBW5 := Lib.hid (HBW4.out.trans (hb5.mono HBW4.out.size))
            have HF5 := Lib.hid ((hb5.block Rf (Array.getElem?_eq_some_iff.1 HF4.out).1).trans HF4.out)
            clear kk hb5
            cases bt with
            | false =>
              have HRES : Hid (CP = ((k : Int), 3)) := Lib.hid (by
                have hf : firstV (fun _ => fitsP p) p.code 0 = some k := by rw [HFV.out, HST.out, if_neg (by rw [← HBT.out]; decide)]
                rw [HCK.out, HNM.out]; dsimp only; rw [hf])
              have bz : ∀ W : World, (Instr.build 26 #[(0, .int .i64 (k : Int)), (1, .int .i64 3)]).run Tryd.prog W = .ok (.agg #[.int .i64 (k : Int), .int .i64 3]) W := fun W => by kernel_rfl
              go_wp2_with (refine wpList_store_row rfl 26 (.tmp 2) (.tmp 41) rfl Rf #[.int .i64 (k : Int), .int .i64 3] rfl rfl 26 #[.int .i64 0, .int .i64 0] ?_ HSF.out rfl (fault_one16 _ _) ?_; (exact HF5.out))
              refine bodyPost_ret (results_cell_tmp14 (q := 3) (p := 2) (ty := 26) rfl _ _ Rf 26 #[.int .i64 (k : Int), .int .i64 3] (0, 0) _ rfl (setRow_heap _ Rf _ _ _ _ HF5.out) Tryd.underlying26 rfl HSF.out) rfl ?_
              exact ⟨by rw [HRES.out]; rfl, below_setRow HBW5.out HRW.out _⟩
            | true =>
              have HNXT : Hid (firstV (fun _ => fitsP p) p.code 0 = firstV (fun _ => fitsP p) (p.code.drop (k + 1)) (k + 1)) := Lib.hid (by rw [HFV.out, HST.out, if_pos HBT.out.symm])
              have hwr := HWR.out
              go_wp2_with fail
              exact ⟨⟨k + 1, by first | rw [HWR.out] | simp, HKNN.out, HB5.out, HNXT.out⟩, by have := HKNN.out; (try rw [HWR.out]); first | (simp only [intOf]; omega) | (simp [intOf]; omega)⟩
          · obtain rfl : k = nn := by omega
            have d1 : decide ((k : Int) < (k : Int)) = false := by simp
            have HNO : Hid (firstV (fun _ => fitsP p) p.code 0 = none) := Lib.hid (by rw [HFV.out, HN.out]; exact firstV_end (fun _ => fitsP p) p.code)
            clear hk hkn
            have HRES : Hid (CP = followP p) := Lib.hid (by rw [HCK.out, HNM.out]; dsimp only; rw [HNO.out])
            have kf := KF.out HAL.out wr HBW.out
            obtain ⟨fa, hfa⟩ : ∃ a, a = (followP p).1 := ⟨_, rfl⟩
            obtain ⟨fb, hfb⟩ : ∃ a, a = (followP p).2 := ⟨_, rfl⟩
            rw [← hfa, ← hfb] at kf
            have HFA : Hid (CP.1 = fa ∧ CP.2 = fb) := Lib.hid (by rw [HRES.out, hfa, hfb]; exact ⟨rfl, rfl⟩)
            clear hfa hfb
            go_wp2_with (refine wpList_load_row rfl 32 (.tmp 1) rfl Bp rfl 32 #[.slice x0 p.ins.length c0, .slice x1 p.outs.length c1, .slice x2 p.slots.length c2, .slice x3 p.mems.length c3, .slice x4 p.consts.length c4, .slice x5 k c5] (0, 0) _ ?_ Tryd.underlying32 rfl HSP.out ?_; (exact HXr.out))
            (with_reducible refine kf.mono ?_)
            rintro e w6 ⟨rfl, hb6⟩
            have HF6 := Lib.hid ((hb6.block Rf (Array.getElem?_eq_some_iff.1 HFr.out).1).trans HFr.out)
            have HB6 := Lib.hid (HBW.out.trans (hb6.mono HBW.out.size))
            clear kf hb6
            go_wp2_with (refine wpList_store_row rfl 26 (.tmp 2) (.tmp 45) rfl Rf #[.int .i64 fa, .int .i64 fb] rfl rfl 26 #[.int .i64 0, .int .i64 0] ?_ HSF.out rfl (fault_one16 _ _) ?_; (exact HF6.out))
            refine bodyPost_ret (results_cell_tmp14 (q := 3) (p := 2) (ty := 26) rfl _ _ Rf 26 #[.int .i64 fa, .int .i64 fb] (0, 0) _ rfl (setRow_heap _ Rf _ _ _ _ HF6.out) Tryd.underlying26 rfl HSF.out) rfl ?_
            exact ⟨by rw [HFA.out.1, HFA.out.2]; rfl, below_setRow HB6.out HRW.out _⟩
theorem validC : ValidC VTab where
  keep := fun _ _ h hb => h.below hb
  check := fun p x0 x1 x2 x3 x4 x5 c0 c1 c2 c3 c4 c5 w hT _ hs hin => lCheck_any p x0 x1 x2 x3 x4 x5 c0 c1 c2 c3 c4 c5 hs w hT hin
end Go.Proofs.YtglplhkbnkbjbaaDoor

namespace Go.Proofs.YtglplhkbnkbjbaaDoor
open Go Go.RowKit
def wB (b : Bool) : Int := if b then 1 else 0
theorem wayX_eq (b : Bool) : wayX b = ⟨4, wB b, wB b, 0⟩ := by cases b <;> rfl
set_option maxHeartbeats 2000000 in
set_option maxRecDepth 100000 in
theorem way16_any (b : Bool) (w : World) : Calls Tryd.prog 12 #[.bool b] w fun e w' => e = .returned (.agg #[.int .i64 4, .int .i64 (wB b), .int .i64 (wB b), .int .i64 0]) ∧ Below w.heap.size w w' := by
  have HSI := Lib.hid size_in4v
  obtain ⟨W0, hW0⟩ : ∃ W0, W0 = w.alloc (.cells #[.int .i64 0, .int .i64 0, .int .i64 0, .int .i64 0] 34) := ⟨_, rfl⟩
  have hb0 : Below w.heap.size w W0 := by rw [hW0]; exact (Below.refl _ _).alloc (Nat.le_refl _) _
  have hk0 : W0.heap[w.heap.size]? = some (.cells #[.int .i64 0, .int .i64 0, .int .i64 0, .int .i64 0] 34 (0, 0)) := by rw [hW0]; exact heap_alloc_new w _
  obtain ⟨R, hR⟩ : ∃ R, R = w.heap.size := ⟨_, rfl⟩
  rw [← hR] at hk0
  have HK := Lib.hid hk0
  have HB := Lib.hid hb0
  have HW0 := Lib.hid hW0
  have HR := Lib.hid hR
  have z1 : ∀ W : World, (Instr.build 34 #[(0, .int .i64 4), (1, .int .i64 1), (2, .int .i64 1)]).run Tryd.prog W = .ok (.agg #[.int .i64 4, .int .i64 1, .int .i64 1, .int .i64 0]) W := fun W => by kernel_rfl
  have z2 : ∀ W : World, (Instr.build 34 #[(0, .int .i64 4)]).run Tryd.prog W = .ok (.agg #[.int .i64 4, .int .i64 0, .int .i64 0, .int .i64 0]) W := fun W => by kernel_rfl
  clear hk0 hb0 hW0 hR
  cases b with
  | true =>
    go_enter Tryd.func12, Tryd.ntmps12
    go_upto_region 1 with fail
    rw [← HW0.out, ← HR.out]
    go_wp2_with (refine wpList_store_row rfl 34 (.tmp 2) (.tmp 4) rfl R #[.int .i64 4, .int .i64 1, .int .i64 1, .int .i64 0] rfl rfl 34 #[.int .i64 0, .int .i64 0, .int .i64 0, .int .i64 0] ?_ HSI.out rfl (in4_one _ _ _ _) ?_; (exact HK.out))
    refine bodyPost_ret (v := .agg #[.int .i64 4, .int .i64 1, .int .i64 1, .int .i64 0]) (results_cell_row (p := 2) (ty := 34) rfl _ _ R 34 _ (0, 0) _ rfl (setRow_heap _ R _ _ _ _ HK.out) Tryd.underlying34 rfl HSI.out) rfl ?_
    exact ⟨rfl, below_setRow HB.out (by rw [HR.out]; exact Nat.le_refl _) _⟩
  | false =>
    go_enter Tryd.func12, Tryd.ntmps12
    go_upto_region 1 with fail
    rw [← HW0.out, ← HR.out]
    go_wp2_with (refine wpList_store_row rfl 34 (.tmp 2) (.tmp 5) rfl R #[.int .i64 4, .int .i64 0, .int .i64 0, .int .i64 0] rfl rfl 34 #[.int .i64 0, .int .i64 0, .int .i64 0, .int .i64 0] ?_ HSI.out rfl (in4_one _ _ _ _) ?_; (exact HK.out))
    refine bodyPost_ret (v := .agg #[.int .i64 4, .int .i64 0, .int .i64 0, .int .i64 0]) (results_cell_row (p := 2) (ty := 34) rfl _ _ R 34 _ (0, 0) _ rfl (setRow_heap _ R _ _ _ _ HK.out) Tryd.underlying34 rfl HSI.out) rfl ?_
    exact ⟨rfl, below_setRow HB.out (by rw [HR.out]; exact Nat.le_refl _) _⟩
theorem inRow_list {w : World} {g : Nat} : ∀ (l : List In4) (o : Nat), g < w.heap.size → w.rangeAt g o (l.flatMap in4C) → ∀ i (h : i < l.length), w.rangeAt g (o + i * 4) (in4C l[i])
  | [], _, _, _, i, h => absurd h (Nat.not_lt_zero _)
  | x :: r, o, hg, hr, 0, _ => fun j v hv => by
    have hj : j < 4 := (List.getElem?_eq_some_iff.1 hv).1
    have := hr j v (by rw [List.flatMap_cons, List.getElem?_append_left (by exact hj)]; exact hv)
    rw [Nat.zero_mul, Nat.add_zero]; exact this
  | x :: r, o, hg, hr, i + 1, h => fun j v hv => by
    have h2 := inRow_list r (o + 4) hg (fun j v hv => by
      have := hr (j + 4) v (by rw [List.flatMap_cons, List.getElem?_append_right (by show 4 ≤ _; omega)]; show (r.flatMap in4C)[j + 4 - 4]? = _; rw [Nat.add_sub_cancel]; exact hv)
      rw [show o + 4 + j = o + (j + 4) by omega]; exact this) i (by simpa using h) j v hv
    rw [show o + (i + 1) * 4 + j = o + 4 + i * 4 + j by omega]; exact h2
theorem rangeAt_row {w : World} {g : Nat} {cs : Array Value} {t : TypeId} {l : List Value} (h : w.heap[g]? = some (.cells cs t (0, 0))) (he : cs.toList = l) : w.rangeAt g 0 l := fun j v hv => by
  rw [Nat.zero_add, cell_of_row w g j _ _ _ h]
  rw [← he] at hv
  simpa using hv
theorem rows16 {w : World} {g : Nat} {t : TypeId} (h : w.heap[g]? = some (.cells #[.int .i64 1, .int .i64 2] t (0, 0))) : Row (Value.int .i64) w (some ⟨g, 0, none⟩) [1, 2] ∧ Row (Value.int .i64) w (some ⟨g, 1, none⟩) [2] := by
  have hlt := (Array.getElem?_eq_some_iff.1 h).1
  refine ⟨fun _ => ⟨g, 0, rfl, hlt, fun i hi => ?_⟩, fun _ => ⟨g, 1, rfl, hlt, fun i hi => ?_⟩⟩
  · rw [cell_of_row w g _ _ _ _ h]
    match i, hi with
    | 0, _ => rfl
    | 1, _ => rfl
  · rw [cell_of_row w g _ _ _ _ h]
    match i, hi with
    | 0, _ => rfl
theorem way_ok (l r o : Bool) : (wayP l r o).ok := by
  have ho : ∀ (x : In4), x ∈ (wayP l r o).code → x.ok := by
    intro x hx
    unfold wayP at hx
    simp only [List.mem_cons, List.not_mem_nil, or_false] at hx
    rcases hx with rfl | rfl | rfl | rfl | rfl | rfl
    · exact ⟨⟨by decide, by decide⟩, ⟨by decide, by decide⟩, ⟨by decide, by decide⟩, ⟨by decide, by decide⟩⟩
    · cases o <;> exact ⟨⟨by decide, by decide⟩, ⟨by decide, by decide⟩, ⟨by decide, by decide⟩, ⟨by decide, by decide⟩⟩
    · cases l <;> exact ⟨⟨by decide, by decide⟩, ⟨by decide, by decide⟩, ⟨by decide, by decide⟩, ⟨by decide, by decide⟩⟩
    · exact ⟨⟨by decide, by decide⟩, ⟨by decide, by decide⟩, ⟨by decide, by decide⟩, ⟨by decide, by decide⟩⟩
    · cases r <;> exact ⟨⟨by decide, by decide⟩, ⟨by decide, by decide⟩, ⟨by decide, by decide⟩, ⟨by decide, by decide⟩⟩
    · exact ⟨⟨by decide, by decide⟩, ⟨by decide, by decide⟩, ⟨by decide, by decide⟩, ⟨by decide, by decide⟩⟩
  refine ⟨fun v h => ?_, fun v h => ?_, fun v h => ?_, (fun _ h => by cases h), (fun _ h => by cases h), ho⟩ <;>
    (simp only [wayP, List.mem_cons, List.not_mem_nil, or_false] at h; unfold i64'; omega)
theorem heap_setCells_ne16 : ∀ (vs : List Value) (w : World) (b o k : Nat), k ≠ b → (w.setCells b o vs).heap[k]? = w.heap[k]?
  | [], _, _, _, _, _ => rfl
  | v :: r, w, b, o, k, h => by
    rw [World.setCells, heap_setCells_ne16 r _ b (o + 1) k h]
    exact heap_setCell_other w ⟨b, o, none⟩ k v (fun e => h (by first | exact e | exact e.symm))
theorem size_setCells16 : ∀ (vs : List Value) (w : World) (b o : Nat), (w.setCells b o vs).heap.size = w.heap.size
  | [], _, _, _ => rfl
  | v :: r, w, b, o => by rw [World.setCells, size_setCells16 r _ b (o + 1)]; simp
theorem below_setCells16 {B : Nat} {w0 : World} (hB : B ≤ w0.heap.size) : ∀ (vs : List Value) {w : World} {b : Nat} (_ : Below B w0 w) (_ : B ≤ b) (o : Nat), Below B w0 (w.setCells b o vs)
  | [], _, _, h, _, _ => h
  | v :: r, w, b, h, hb, o => by
    rw [World.setCells]
    exact below_setCells16 hB r (w := w.setCell ⟨b, o, none⟩ v) (h.grown (row := some b) ⟨rfl, rfl, rfl, by simp, fun k _ hk => heap_setCell_other w ⟨b, o, none⟩ k v (fun e => hk (by simp [e]))⟩ (Nat.le_trans hB h.size) (fun k hk => by injection hk with hk; omega)) hb (o + 1)
set_option maxHeartbeats 8000000 in
set_option maxRecDepth 100000 in
theorem validWays_any {T : World → Prop} (K : ValidC T) (left right over : Bool) (w : World) (hT : T w) : Calls Tryd.prog 5 #[.bool left, .bool right, .bool over] w fun e w' => e = .returned (.bool true) ∧ Below w.heap.size w w' := by
  have ka := awake16_any K w hT
  have HSF := Lib.hid size_fault16
  have HSI := Lib.hid size_in4v
  go_enter Tryd.func5, Tryd.ntmps5
  go_wp2_with fail
  (with_reducible refine ka.mono ?_)
  rintro e w1 ⟨rfl, hb1⟩
  clear ka
  have HB1 := Lib.hid hb1
  have bs2 : ∀ W : World, (Instr.buildSlice 24 2 #[(0, .int .i64 1), (1, .int .i64 2)]).run Tryd.prog W = .ok (.slice (some ⟨W.heap.size, 0, none⟩) 2 2) (W.alloc (.cells #[.int .i64 1, .int .i64 2] 23)) := fun W => by kernel_rfl
  obtain ⟨gk, hgk⟩ : ∃ g, g = w1.heap.size := ⟨_, rfl⟩
  obtain ⟨W2, hW2⟩ : ∃ W, W = w1.alloc (.cells #[.int .i64 1, .int .i64 2] 23) := ⟨_, rfl⟩
  have hk2 : W2.heap[gk]? = some (.cells #[.int .i64 1, .int .i64 2] 23 (0, 0)) := by rw [hW2, hgk]; exact heap_alloc_new w1 _
  have hb2 : Below w1.heap.size w1 W2 := by rw [hW2]; exact (Below.refl _ _).alloc (Nat.le_refl _) _
  have HK2 := Lib.hid hk2
  have HB12 := Lib.hid hb2
  have HW2 := Lib.hid hW2
  have HGK := Lib.hid hgk
  have kw1 := way16_any left W2
  obtain ⟨a, ha⟩ : ∃ a, a = wB left := ⟨_, rfl⟩
  obtain ⟨b, hb⟩ : ∃ a, a = wB right := ⟨_, rfl⟩
  rw [← ha] at kw1
  have HAe := Lib.hid ha.symm
  have HBe := Lib.hid hb.symm
  have z15 : ∀ W : World, (Instr.build 34 #[(0, .int .i64 4)]).run Tryd.prog W = .ok (.agg #[.int .i64 4, .int .i64 0, .int .i64 0, .int .i64 0]) W := fun W => by kernel_rfl
  have z16 : ∀ W : World, (Instr.build 34 #[(0, .int .i64 19), (1, .int .i64 4)]).run Tryd.prog W = .ok (.agg #[.int .i64 19, .int .i64 4, .int .i64 0, .int .i64 0]) W := fun W => by kernel_rfl
  have z19 : ∀ W : World, (Instr.build 34 #[(0, .int .i64 20), (1, .int .i64 5)]).run Tryd.prog W = .ok (.agg #[.int .i64 20, .int .i64 5, .int .i64 0, .int .i64 0]) W := fun W => by kernel_rfl
  have z22 : ∀ W : World, (Instr.build 34 #[(0, .int .i64 5), (2, .int .i64 1)]).run Tryd.prog W = .ok (.agg #[.int .i64 5, .int .i64 0, .int .i64 1, .int .i64 0]) W := fun W => by kernel_rfl
  have bs6 : ∀ W : World, (Instr.buildSlice 30 6 #[(0, .agg #[.int .i64 4, .int .i64 0, .int .i64 0, .int .i64 0]), (1, .agg #[.int .i64 19, .int .i64 4, .int .i64 0, .int .i64 0]), (2, .agg #[.int .i64 4, .int .i64 a, .int .i64 a, .int .i64 0]), (3, .agg #[.int .i64 20, .int .i64 5, .int .i64 0, .int .i64 0]), (4, .agg #[.int .i64 4, .int .i64 b, .int .i64 b, .int .i64 0]), (5, .agg #[.int .i64 5, .int .i64 0, .int .i64 1, .int .i64 0])]).run Tryd.prog W = .ok (.slice (some ⟨W.heap.size, 0, none⟩) 6 6) (W.alloc (.cells #[.int .i64 4, .int .i64 0, .int .i64 0, .int .i64 0, .int .i64 19, .int .i64 4, .int .i64 0, .int .i64 0, .int .i64 4, .int .i64 a, .int .i64 a, .int .i64 0, .int .i64 20, .int .i64 5, .int .i64 0, .int .i64 0, .int .i64 4, .int .i64 b, .int .i64 b, .int .i64 0, .int .i64 5, .int .i64 0, .int .i64 1, .int .i64 0] 34)) := fun W => by kernel_rfl
  clear hb1 hgk hW2 hk2 hb2 ha hb
  go_upto_region 4 with fail
  rw [← HW2.out, ← HGK.out]
  go_wp2_with fail
  (with_reducible refine kw1.mono ?_)
  rintro e w3 ⟨rfl, hb3⟩
  clear kw1
  have HB13 := Lib.hid (HB12.out.trans (hb3.mono HB12.out.size))
  have HK3 := Lib.hid ((hb3.block gk (Array.getElem?_eq_some_iff.1 HK2.out).1).trans HK2.out)
  have kw2 := way16_any right w3
  rw [HBe.out] at kw2
  clear hb3
  go_wp2_with fail
  (with_reducible refine kw2.mono ?_)
  rintro e w4 ⟨rfl, hb4⟩
  clear kw2
  have HB14 := Lib.hid (HB13.out.trans (hb4.mono HB13.out.size))
  have HK4 := Lib.hid ((hb4.block gk (Array.getElem?_eq_some_iff.1 HK3.out).1).trans HK3.out)
  obtain ⟨gl, hgl⟩ : ∃ g, g = w4.heap.size := ⟨_, rfl⟩
  obtain ⟨W5, hW5⟩ : ∃ W, W = w4.alloc (.cells #[.int .i64 4, .int .i64 0, .int .i64 0, .int .i64 0, .int .i64 19, .int .i64 4, .int .i64 0, .int .i64 0, .int .i64 4, .int .i64 a, .int .i64 a, .int .i64 0, .int .i64 20, .int .i64 5, .int .i64 0, .int .i64 0, .int .i64 4, .int .i64 b, .int .i64 b, .int .i64 0, .int .i64 5, .int .i64 0, .int .i64 1, .int .i64 0] 34) := ⟨_, rfl⟩
  have hl5 : W5.heap[gl]? = some (.cells #[.int .i64 4, .int .i64 0, .int .i64 0, .int .i64 0, .int .i64 19, .int .i64 4, .int .i64 0, .int .i64 0, .int .i64 4, .int .i64 a, .int .i64 a, .int .i64 0, .int .i64 20, .int .i64 5, .int .i64 0, .int .i64 0, .int .i64 4, .int .i64 b, .int .i64 b, .int .i64 0, .int .i64 5, .int .i64 0, .int .i64 1, .int .i64 0] 34 (0, 0)) := by rw [hW5, hgl]; exact heap_alloc_new w4 _
  have hb5 : Below w4.heap.size w4 W5 := by rw [hW5]; exact (Below.refl _ _).alloc (Nat.le_refl _) _
  have HL5 := Lib.hid hl5
  have HB15 := Lib.hid (HB14.out.trans (hb5.mono HB14.out.size))
  have HK5 := Lib.hid ((hb5.block gk (Array.getElem?_eq_some_iff.1 HK4.out).1).trans HK4.out)
  have HGNE : Hid (gk ≠ gl) := Lib.hid (by have := (Array.getElem?_eq_some_iff.1 HK4.out).1; omega)
  have HGLE := Lib.hid hgl
  have HW5 := Lib.hid hW5
  clear hb4 hgl hW5 hl5 hb5
  go_upto_region 5 with fail
  rw [← HW5.out, ← HGLE.out]
  clear bs2 bs6 z15 z16 z19 z22
  cases over with
  | false =>
    have hrr : W5.rangeAt gl 0 (([⟨4, 0, 0, 0⟩, ⟨19, 4, 0, 0⟩, ⟨4, a, a, 0⟩, ⟨20, 5, 0, 0⟩, ⟨4, b, b, 0⟩, ⟨5, 0, 1, 0⟩] : List In4).flatMap in4C) := rangeAt_row HL5.out rfl
    have hb56 := HB15.out
    have hk56 := HK5.out
    have hsz6 := (Array.getElem?_eq_some_iff.1 HL5.out).1
    obtain ⟨W6, hW6⟩ : ∃ W, W = W5 := ⟨_, rfl⟩
    have HW6 := Lib.hid hW6
    rw [← hW6] at hrr hb56 hk56 hsz6
    have HB6 := Lib.hid (HB1.out.trans (hb56.mono HB1.out.size))
    have hP : wayP left right false = ⟨[1, 2], [2], [1, 2], [], [], [⟨4, 0, 0, 0⟩, ⟨19, 4, 0, 0⟩, ⟨4, a, a, 0⟩, ⟨20, 5, 0, 0⟩, ⟨4, b, b, 0⟩, ⟨5, 0, 1, 0⟩]⟩ := by unfold wayP; rw [wayX_eq, wayX_eq, HAe.out, HBe.out]; rfl
    have hin : PgIn W6 (wayP left right false) (some ⟨gk, 0, none⟩) (some ⟨gk, 1, none⟩) (some ⟨gk, 0, none⟩) none none (some ⟨gl, 0, none⟩) := by
      rw [hP]
      exact ⟨(rows16 hk56).1, (rows16 hk56).2, (rows16 hk56).1, Row.nil _ _ _, Row.nil _ _ _, fun _ => ⟨gl, 0, rfl, hsz6, fun i hi => inRow_list _ 0 hsz6 hrr i hi⟩⟩
    have kc := K.check (wayP left right false) (some ⟨gk, 0, none⟩) (some ⟨gk, 1, none⟩) (some ⟨gk, 0, none⟩) none none (some ⟨gl, 0, none⟩) 2 1 2 0 0 6 W6 (K.keep _ _ hT HB6.out) (way_ok left right false) (by rw [hP]; show (2 + 1 + 2 + 0 + 0 + 4 * 6 : Nat) ≤ 100000; decide) hin
    have hpz : pgV (wayP left right false) (some ⟨gk, 0, none⟩) (some ⟨gk, 1, none⟩) (some ⟨gk, 0, none⟩) none none (some ⟨gl, 0, none⟩) 2 1 2 0 0 6 = .agg #[.slice (some ⟨gk, 0, none⟩) 2 2, .slice (some ⟨gk, 1, none⟩) 1 1, .slice (some ⟨gk, 0, none⟩) 2 2, .slice none 0 0, .slice none 0 0, .slice (some ⟨gl, 0, none⟩) 6 6] := by rw [hP]; rfl
    rw [hpz] at kc
    unfold GivesVC at kc
    rw [chk_ways left right false] at kc
    have bz : ∀ W : World, (Instr.build 32 #[(0, .slice (some ⟨gk, 0, none⟩) 2 2), (1, .slice (some ⟨gk, 1, none⟩) 1 1), (2, .slice (some ⟨gk, 0, none⟩) 2 2), (5, .slice (some ⟨gl, 0, none⟩) 6 6)]).run Tryd.prog W = .ok (.agg #[.slice (some ⟨gk, 0, none⟩) 2 2, .slice (some ⟨gk, 1, none⟩) 1 1, .slice (some ⟨gk, 0, none⟩) 2 2, .slice none 0 0, .slice none 0 0, .slice (some ⟨gl, 0, none⟩) 6 6]) W := fun W => by kernel_rfl
    obtain ⟨F1, hF1⟩ : ∃ f, f = (if right && (left || false) then ((0 : Int), (0 : Int)) else (5, 4)).1 := ⟨_, rfl⟩
    obtain ⟨F2, hF2⟩ : ∃ f, f = (if right && (left || false) then ((0 : Int), (0 : Int)) else (5, 4)).2 := ⟨_, rfl⟩
    rw [← hF1, ← hF2] at kc
    have HF1 := Lib.hid hF1
    have HF2 := Lib.hid hF2
    clear hrr hb56 hk56 hsz6 hP hin hpz hF1 hF2 hW6
    go_upto_region 7 with fail
    first | rw [← HW6.out] | skip
    go_wp2_with fail
    (with_reducible refine kc.mono ?_)
    rintro e w7 ⟨rfl, hb7⟩
    clear kc bz
    obtain ⟨W8, hW8⟩ : ∃ W, W = ((w7.alloc (.cells #[.int .i64 0, .int .i64 0] 26)).setRow w7.heap.size #[.int .i64 F1, .int .i64 F2]) := ⟨_, rfl⟩
    obtain ⟨hnb, hnr⟩ := newrow14 w7 26 #[.int .i64 0, .int .i64 0] #[.int .i64 F1, .int .i64 F2]
    rw [← hW8] at hnb hnr
    have HAL := Lib.hid (heap_alloc_new w7 (.cells #[.int .i64 0, .int .i64 0] 26))
    obtain ⟨g8, hg8⟩ : ∃ g, g = w7.heap.size := ⟨_, rfl⟩
    rw [← hg8] at hnr
    have HB8 := Lib.hid ((HB6.out.trans (hb7.mono HB6.out.size)).trans (hnb.mono (Nat.le_trans HB6.out.size hb7.size)))
    have HNR := Lib.hid hnr
    have HW8 := Lib.hid hW8
    have HG8 := Lib.hid hg8
    have q1 : ∀ W : World, (binOp .eql 26 (.agg #[.int .i64 5, .int .i64 4]) (.agg #[.int .i64 5, .int .i64 4])).run Tryd.prog W = .ok (.bool true) W := fun W => by kernel_rfl
    have z9 : ∀ W : World, (Instr.build 26 #[(0, .int .i64 5), (1, .int .i64 4)]).run Tryd.prog W = .ok (.agg #[.int .i64 5, .int .i64 4]) W := fun W => by kernel_rfl
    clear hb7 hnb hnr hW8 hg8
    go_upto_region 8 with (refine wpList_store_row rfl 26 (.tmp 9) (.tmp 36) rfl w7.heap.size #[.int .i64 F1, .int .i64 F2] rfl rfl 26 #[.int .i64 0, .int .i64 0] ?_ HSF.out rfl (fault_one16 _ _) ?_; (exact HAL.out))
    rw [← HW8.out, ← HG8.out]
    cases left <;> cases right
    all_goals
      have hF1 := HF1.out
      have hF2 := HF2.out
      simp only [Bool.and_true, Bool.and_false, Bool.true_and, Bool.false_and, Bool.or_true, Bool.or_false, Bool.true_or, Bool.false_or, if_true, if_false, Bool.false_eq_true, ↓reduceIte] at hF1 hF2
      subst hF1 hF2
      have HN9 := HNR
      clear HF1 HF2 HAL HW8 HNR
      go_wp2_with (refine wpList_load_row_g 5 false rfl rfl 26 (.tmp 9) rfl g8 rfl 26 #[.int .i64 5, .int .i64 4] (0, 0) _ ?_ Tryd.underlying26 rfl HSF.out ?_; (exact HN9.out))
      go_ret
      exact ⟨rfl, HB8.out⟩
  | true =>
    have hth : W5.there gl 4 4 := fun j hj => ⟨by rw [cell_of_row W5 gl (4 + j) _ _ _ HL5.out]; rcases (by omega : j = 0 ∨ j = 1 ∨ j = 2 ∨ j = 3) with rfl | rfl | rfl | rfl <;> rfl, frozen_of_row W5 gl (4 + j) _ _ HL5.out⟩
    have HTH := Lib.hid hth
    have z26 : ∀ W : World, (Instr.build 34 #[(0, .int .i64 20), (1, .int .i64 4)]).run Tryd.prog W = .ok (.agg #[.int .i64 20, .int .i64 4, .int .i64 0, .int .i64 0]) W := fun W => by kernel_rfl
    have hrr : (W5.setCells gl 4 [.int .i64 20, .int .i64 4, .int .i64 0, .int .i64 0]).rangeAt gl 0 (([⟨4, 0, 0, 0⟩, ⟨20, 4, 0, 0⟩, ⟨4, a, a, 0⟩, ⟨20, 5, 0, 0⟩, ⟨4, b, b, 0⟩, ⟨5, 0, 1, 0⟩] : List In4).flatMap in4C) := by
      have h0 : W5.rangeAt gl 0 ([.int .i64 4, .int .i64 0, .int .i64 0, .int .i64 0] : List Value) := fun j v hj => (rangeAt_row HL5.out rfl) j v (by rcases j with _ | _ | _ | _ | j <;> first | exact hj | (simp at hj))
      have h2 : W5.rangeAt gl 8 ([.int .i64 4, .int .i64 a, .int .i64 a, .int .i64 0, .int .i64 20, .int .i64 5, .int .i64 0, .int .i64 0, .int .i64 4, .int .i64 b, .int .i64 b, .int .i64 0, .int .i64 5, .int .i64 0, .int .i64 1, .int .i64 0] : List Value) := fun j v hj => by
        have := (rangeAt_row HL5.out rfl) (8 + j) v (by rw [Nat.add_comm]; exact hj)
        rw [Nat.zero_add] at this; exact this
      have g0 := World.rangeAt_setCells_apart h0 gl 4 [.int .i64 20, .int .i64 4, .int .i64 0, .int .i64 0] (.inr (.inl (by decide)))
      have g1 := World.rangeAt_setCells_same W5 gl 4 [.int .i64 20, .int .i64 4, .int .i64 0, .int .i64 0] hth
      have g2 := World.rangeAt_setCells_apart h2 gl 4 [.int .i64 20, .int .i64 4, .int .i64 0, .int .i64 0] (.inr (.inr (by decide)))
      intro j v hj
      rcases Nat.lt_or_ge j 4 with hj4 | hj4
      · exact g0 j v (by rcases j with _ | _ | _ | _ | j <;> first | exact hj | omega)
      · rcases Nat.lt_or_ge j 8 with hj8 | hj8
        · have := g1 (j - 4) v (by obtain ⟨i, rfl⟩ : ∃ i, j = 4 + i := ⟨j - 4, by omega⟩; rw [Nat.add_sub_cancel_left]; rw [Nat.add_comm] at hj; rcases i with _ | _ | _ | _ | i <;> first | exact hj | omega)
          rw [show 4 + (j - 4) = 0 + j by omega] at this; exact this
        · have := g2 (j - 8) v (by obtain ⟨i, rfl⟩ : ∃ i, j = 8 + i := ⟨j - 8, by omega⟩; rw [Nat.add_sub_cancel_left]; rw [Nat.add_comm] at hj; exact hj)
          rw [show 8 + (j - 8) = 0 + j by omega] at this; exact this
    have hb56 : Below w1.heap.size w1 (W5.setCells gl 4 [.int .i64 20, .int .i64 4, .int .i64 0, .int .i64 0]) := below_setCells16 (Nat.le_refl _) _ HB15.out (by rw [HGLE.out]; exact HB14.out.size) _
    have hk56 : (W5.setCells gl 4 [.int .i64 20, .int .i64 4, .int .i64 0, .int .i64 0]).heap[gk]? = some (.cells #[.int .i64 1, .int .i64 2] 23 (0, 0)) := by rw [heap_setCells_ne16 _ _ _ _ _ HGNE.out]; exact HK5.out
    have hsz6 : gl < (W5.setCells gl 4 [.int .i64 20, .int .i64 4, .int .i64 0, .int .i64 0]).heap.size := by rw [size_setCells16]; exact (Array.getElem?_eq_some_iff.1 HL5.out).1
    obtain ⟨W6, hW6⟩ : ∃ W, W = W5.setCells gl 4 [.int .i64 20, .int .i64 4, .int .i64 0, .int .i64 0] := ⟨_, rfl⟩
    have HW6 := Lib.hid hW6
    rw [← hW6] at hrr hb56 hk56 hsz6
    have HB6 := Lib.hid (HB1.out.trans (hb56.mono HB1.out.size))
    have hP : wayP left right true = ⟨[1, 2], [2], [1, 2], [], [], [⟨4, 0, 0, 0⟩, ⟨20, 4, 0, 0⟩, ⟨4, a, a, 0⟩, ⟨20, 5, 0, 0⟩, ⟨4, b, b, 0⟩, ⟨5, 0, 1, 0⟩]⟩ := by unfold wayP; rw [wayX_eq, wayX_eq, HAe.out, HBe.out]; rfl
    have hin : PgIn W6 (wayP left right true) (some ⟨gk, 0, none⟩) (some ⟨gk, 1, none⟩) (some ⟨gk, 0, none⟩) none none (some ⟨gl, 0, none⟩) := by
      rw [hP]
      exact ⟨(rows16 hk56).1, (rows16 hk56).2, (rows16 hk56).1, Row.nil _ _ _, Row.nil _ _ _, fun _ => ⟨gl, 0, rfl, hsz6, fun i hi => inRow_list _ 0 hsz6 hrr i hi⟩⟩
    have kc := K.check (wayP left right true) (some ⟨gk, 0, none⟩) (some ⟨gk, 1, none⟩) (some ⟨gk, 0, none⟩) none none (some ⟨gl, 0, none⟩) 2 1 2 0 0 6 W6 (K.keep _ _ hT HB6.out) (way_ok left right true) (by rw [hP]; show (2 + 1 + 2 + 0 + 0 + 4 * 6 : Nat) ≤ 100000; decide) hin
    have hpz : pgV (wayP left right true) (some ⟨gk, 0, none⟩) (some ⟨gk, 1, none⟩) (some ⟨gk, 0, none⟩) none none (some ⟨gl, 0, none⟩) 2 1 2 0 0 6 = .agg #[.slice (some ⟨gk, 0, none⟩) 2 2, .slice (some ⟨gk, 1, none⟩) 1 1, .slice (some ⟨gk, 0, none⟩) 2 2, .slice none 0 0, .slice none 0 0, .slice (some ⟨gl, 0, none⟩) 6 6] := by rw [hP]; rfl
    rw [hpz] at kc
    unfold GivesVC at kc
    rw [chk_ways left right true] at kc
    have bz : ∀ W : World, (Instr.build 32 #[(0, .slice (some ⟨gk, 0, none⟩) 2 2), (1, .slice (some ⟨gk, 1, none⟩) 1 1), (2, .slice (some ⟨gk, 0, none⟩) 2 2), (5, .slice (some ⟨gl, 0, none⟩) 6 6)]).run Tryd.prog W = .ok (.agg #[.slice (some ⟨gk, 0, none⟩) 2 2, .slice (some ⟨gk, 1, none⟩) 1 1, .slice (some ⟨gk, 0, none⟩) 2 2, .slice none 0 0, .slice none 0 0, .slice (some ⟨gl, 0, none⟩) 6 6]) W := fun W => by kernel_rfl
    obtain ⟨F1, hF1⟩ : ∃ f, f = (if right && (left || true) then ((0 : Int), (0 : Int)) else (5, 4)).1 := ⟨_, rfl⟩
    obtain ⟨F2, hF2⟩ : ∃ f, f = (if right && (left || true) then ((0 : Int), (0 : Int)) else (5, 4)).2 := ⟨_, rfl⟩
    rw [← hF1, ← hF2] at kc
    have HF1 := Lib.hid hF1
    have HF2 := Lib.hid hF2
    clear hrr hb56 hk56 hsz6 hP hin hpz hF1 hF2 hW6
    clear hth
    go_upto_region 6 with fail
    go_upto_region 7 with (refine wpList_store_mid rfl 34 (.tmp 27) (.tmp 26) rfl gl 4 #[.int .i64 20, .int .i64 4, .int .i64 0, .int .i64 0] rfl rfl HTH.out HSI.out (in4_one _ _ _ _) ?_)
    first | rw [← HW6.out] | skip
    go_wp2_with fail
    (with_reducible refine kc.mono ?_)
    rintro e w7 ⟨rfl, hb7⟩
    clear kc bz
    obtain ⟨W8, hW8⟩ : ∃ W, W = ((w7.alloc (.cells #[.int .i64 0, .int .i64 0] 26)).setRow w7.heap.size #[.int .i64 F1, .int .i64 F2]) := ⟨_, rfl⟩
    obtain ⟨hnb, hnr⟩ := newrow14 w7 26 #[.int .i64 0, .int .i64 0] #[.int .i64 F1, .int .i64 F2]
    rw [← hW8] at hnb hnr
    have HAL := Lib.hid (heap_alloc_new w7 (.cells #[.int .i64 0, .int .i64 0] 26))
    obtain ⟨g8, hg8⟩ : ∃ g, g = w7.heap.size := ⟨_, rfl⟩
    rw [← hg8] at hnr
    have HB8 := Lib.hid ((HB6.out.trans (hb7.mono HB6.out.size)).trans (hnb.mono (Nat.le_trans HB6.out.size hb7.size)))
    have HNR := Lib.hid hnr
    have HW8 := Lib.hid hW8
    have HG8 := Lib.hid hg8
    have q1 : ∀ W : World, (binOp .eql 26 (.agg #[.int .i64 5, .int .i64 4]) (.agg #[.int .i64 5, .int .i64 4])).run Tryd.prog W = .ok (.bool true) W := fun W => by kernel_rfl
    have z9 : ∀ W : World, (Instr.build 26 #[(0, .int .i64 5), (1, .int .i64 4)]).run Tryd.prog W = .ok (.agg #[.int .i64 5, .int .i64 4]) W := fun W => by kernel_rfl
    clear hb7 hnb hnr hW8 hg8
    go_upto_region 8 with (refine wpList_store_row rfl 26 (.tmp 9) (.tmp 36) rfl w7.heap.size #[.int .i64 F1, .int .i64 F2] rfl rfl 26 #[.int .i64 0, .int .i64 0] ?_ HSF.out rfl (fault_one16 _ _) ?_; (exact HAL.out))
    rw [← HW8.out, ← HG8.out]
    cases left <;> cases right
    all_goals
      have hF1 := HF1.out
      have hF2 := HF2.out
      simp only [Bool.and_true, Bool.and_false, Bool.true_and, Bool.false_and, Bool.or_true, Bool.or_false, Bool.true_or, Bool.false_or, if_true, if_false, Bool.false_eq_true, ↓reduceIte] at hF1 hF2
      subst hF1 hF2
      have HN9 := HNR
      clear HF1 HF2 HAL HW8 HNR
      go_wp2_with (refine wpList_load_row_g 5 false rfl rfl 26 (.tmp 9) rfl g8 rfl 26 #[.int .i64 5, .int .i64 4] (0, 0) _ ?_ Tryd.underlying26 rfl HSF.out ?_; (exact HN9.out))
      go_ret
      exact ⟨rfl, HB8.out⟩
end Go.Proofs.YtglplhkbnkbjbaaDoor

namespace Go.Proofs.YtglplhkbnkbjbaaDoor
open Go Go.RowKit
theorem rowI16 {w : World} {g : Nat} {cs : Array Value} {t : TypeId} {l : List Int} (h : w.heap[g]? = some (.cells cs t (0, 0))) (he : cs.toList = l.map (Value.int .i64)) : Row (Value.int .i64) w (some ⟨g, 0, none⟩) l := fun _ => ⟨g, 0, rfl, (Array.getElem?_eq_some_iff.1 h).1, fun i hi => by
  rw [Nat.zero_add, cell_of_row w g i _ _ _ h]
  have : cs.toList[i]? = some (.int .i64 l[i]) := by rw [he, List.getElem?_map, List.getElem?_eq_getElem hi]; rfl
  simpa using this⟩
def okB16 (v : Int) : Bool := decide (-9223372036854775808 ≤ v) && decide (v ≤ 9223372036854775807)
theorem okB16_iff {v : Int} (h : okB16 v = true) : i64' v := by
  unfold okB16 at h
  simp only [Bool.and_eq_true, decide_eq_true_eq] at h
  exact h
theorem pgOk16 (p : Pg) (h : (p.ins.all okB16 && (p.outs.all okB16 && (p.slots.all okB16 && (p.mems.all okB16 && (p.consts.all okB16 && p.code.all (fun x => okB16 x.op && (okB16 x.a && (okB16 x.b && okB16 x.c)))))))) = true) : p.ok := by
  simp only [Bool.and_eq_true, List.all_eq_true] at h
  obtain ⟨h1, h2, h3, h4, h5, h6⟩ := h
  exact ⟨fun v hv => okB16_iff (h1 v hv), fun v hv => okB16_iff (h2 v hv), fun v hv => okB16_iff (h3 v hv), fun v hv => okB16_iff (h4 v hv), fun v hv => okB16_iff (h5 v hv), fun x hx => ⟨okB16_iff (h6 x hx).1, okB16_iff (h6 x hx).2.1, okB16_iff (h6 x hx).2.2.1, okB16_iff (h6 x hx).2.2.2⟩⟩
set_option maxHeartbeats 8000000 in
set_option maxRecDepth 100000 in
theorem validKnown_any {T : World → Prop} (K : ValidC T) (w : World) (hT : T w) : Calls Tryd.prog 3 #[] w fun e w' => e = .returned (.bool true) ∧ Below w.heap.size w w' := by
  have ka := awake16_any K w hT
  have HSF := Lib.hid size_fault16
  go_enter Tryd.func3, Tryd.ntmps3
  go_wp2_with fail
  (with_reducible refine ka.mono ?_)
  rintro e w1 ⟨rfl, hb1⟩
  clear ka
  have bs2 : ∀ W : World, (Instr.buildSlice 24 2 #[(0, .int .i64 1), (1, .int .i64 2)]).run Tryd.prog W = .ok (.slice (some ⟨W.heap.size, 0, none⟩) 2 2) (W.alloc (.cells #[.int .i64 1, .int .i64 2] 23)) := fun W => by kernel_rfl
  obtain ⟨gk, hgk⟩ : ∃ g, g = w1.heap.size := ⟨_, rfl⟩
  obtain ⟨V0, hV0⟩ : ∃ W, W = w1.alloc (.cells #[.int .i64 1, .int .i64 2] 23) := ⟨_, rfl⟩
  have hk2 : V0.heap[gk]? = some (.cells #[.int .i64 1, .int .i64 2] 23 (0, 0)) := by rw [hV0, hgk]; exact heap_alloc_new w1 _
  have hb2 : Below w1.heap.size w1 V0 := by rw [hV0]; exact (Below.refl _ _).alloc (Nat.le_refl _) _
  have HK0 := Lib.hid hk2
  have HB0 := Lib.hid (hb1.trans (hb2.mono hb1.size))
  have HV0 := Lib.hid hV0
  have HGK := Lib.hid hgk
  clear hb1 hgk hV0 hk2 hb2
  go_upto_region 4 with fail
  rw [← HV0.out, ← HGK.out]
  clear bs2
  have bs0 : ∀ W : World, (Instr.buildSlice 24 1 #[(0, .int .i64 3)]).run Tryd.prog W = .ok (.slice (some ⟨W.heap.size, 0, none⟩) 1 1) (W.alloc (.cells #[.int .i64 3] 23)) := fun W => by kernel_rfl
  obtain ⟨g0_0, hg0_0⟩ : ∃ g, g = V0.heap.size := ⟨_, rfl⟩
  obtain ⟨V0_0, hV0_0⟩ : ∃ W, W = V0.alloc (.cells #[.int .i64 3] 23) := ⟨_, rfl⟩
  have sg0_0 : g0_0 = V0.heap.size := by rw [hg0_0]
  have cg0_0 : V0_0.heap[g0_0]? = some (.cells #[.int .i64 3] 23 (0, 0)) := by rw [sg0_0, hV0_0]; exact heap_alloc_new _ _
  have bV0_0 : Below V0.heap.size V0 V0_0 := by rw [hV0_0]; exact (Below.refl _ _).alloc (Nat.le_refl _) _
  have bb : Below V0.heap.size V0 V0_0 := bV0_0
  have b0_0 := bb
  rw [hV0_0] at b0_0
  have HBX := Lib.hid (HB0.out.trans (bb.mono HB0.out.size))
  have ck := (bb.block gk (Array.getElem?_eq_some_iff.1 HK0.out).1).trans HK0.out
  have kc := K.check (⟨[], [], [3], [], [], []⟩ : Pg) none none (some ⟨g0_0, 0, none⟩) none none none 0 0 1 0 0 0 V0_0 (K.keep _ _ hT HBX.out) (pgOk16 _ (by decide)) (by decide) ⟨Row.nil _ _ _, Row.nil _ _ _, rowI16 cg0_0 rfl, Row.nil _ _ _, Row.nil _ _ _, fun h => absurd rfl h⟩
  unfold GivesVC at kc
  rw [chk_a] at kc
  rw [show decide ((((-1) : Int), (1 : Int)).2 = 0) = false from rfl] at kc
  have hpz : pgV (⟨[], [], [3], [], [], []⟩ : Pg) none none (some ⟨g0_0, 0, none⟩) none none none 0 0 1 0 0 0 = .agg #[.slice none 0 0, .slice none 0 0, .slice (some ⟨g0_0, 0, none⟩) 1 1, .slice none 0 0, .slice none 0 0, .slice none 0 0] := rfl
  rw [hpz] at kc
  have bz : ∀ W : World, (Instr.build 32 #[(2, .slice (some ⟨g0_0, 0, none⟩) 1 1)]).run Tryd.prog W = .ok (.agg #[.slice none 0 0, .slice none 0 0, .slice (some ⟨g0_0, 0, none⟩) 1 1, .slice none 0 0, .slice none 0 0, .slice none 0 0]) W := fun W => by kernel_rfl
  rw [hV0_0] at kc
  rw [hg0_0] at kc bz
  clear bb ck hpz hg0_0 sg0_0 cg0_0 hV0_0 bV0_0
  go_wp2_with fail
  (with_reducible refine kc.mono ?_)
  rintro e u0 ⟨rfl, hbu⟩
  clear kc bz bs0
  obtain ⟨V1, hV⟩ : ∃ W, W = ((u0.alloc (.cells #[.int .i64 0, .int .i64 0] 26)).setRow u0.heap.size #[.int .i64 (-1), .int .i64 1]) := ⟨_, rfl⟩
  obtain ⟨hnb, hnr⟩ := newrow14 u0 26 #[.int .i64 0, .int .i64 0] #[.int .i64 (-1), .int .i64 1]
  rw [← hV] at hnb hnr
  have HAL := Lib.hid (heap_alloc_new u0 (.cells #[.int .i64 0, .int .i64 0] 26))
  obtain ⟨f0, hf⟩ : ∃ g, g = u0.heap.size := ⟨_, rfl⟩
  rw [← hf] at hnr
  have hbx : Below V0.heap.size V0 V1 := (b0_0.trans (hbu.mono b0_0.size)).trans (hnb.mono (Nat.le_trans b0_0.size hbu.size))
  have HB1 := Lib.hid (HB0.out.trans (hbx.mono HB0.out.size))
  have HK1 := Lib.hid ((hbx.block gk (Array.getElem?_eq_some_iff.1 HK0.out).1).trans HK0.out)
  have HF0_1 := Lib.hid hnr
  have HV := Lib.hid hV
  have HFF := Lib.hid hf
  clear hbu hnb hnr hbx hV hf b0_0
  go_upto_region 5 with (refine wpList_store_row rfl 26 (.tmp 2) (.tmp 21) rfl u0.heap.size #[.int .i64 (-1), .int .i64 1] rfl rfl 26 #[.int .i64 0, .int .i64 0] ?_ HSF.out rfl (fault_one16 _ _) ?_; (exact HAL.out))
  rw [← HV.out, ← HFF.out]
  clear HAL HV HFF
  have bs0 : ∀ W : World, (Instr.buildSlice 30 1 #[(0, .agg #[.int .i64 20, .int .i64 0, .int .i64 0, .int .i64 0])]).run Tryd.prog W = .ok (.slice (some ⟨W.heap.size, 0, none⟩) 1 1) (W.alloc (.cells #[.int .i64 20, .int .i64 0, .int .i64 0, .int .i64 0] 34)) := fun W => by kernel_rfl
  obtain ⟨g1_0, hg1_0⟩ : ∃ g, g = V1.heap.size := ⟨_, rfl⟩
  obtain ⟨V1_0, hV1_0⟩ : ∃ W, W = V1.alloc (.cells #[.int .i64 20, .int .i64 0, .int .i64 0, .int .i64 0] 34) := ⟨_, rfl⟩
  have sg1_0 : g1_0 = V1.heap.size := by rw [hg1_0]
  have cg1_0 : V1_0.heap[g1_0]? = some (.cells #[.int .i64 20, .int .i64 0, .int .i64 0, .int .i64 0] 34 (0, 0)) := by rw [sg1_0, hV1_0]; exact heap_alloc_new _ _
  have bV1_0 : Below V1.heap.size V1 V1_0 := by rw [hV1_0]; exact (Below.refl _ _).alloc (Nat.le_refl _) _
  have bb : Below V1.heap.size V1 V1_0 := bV1_0
  have b0_1 := bb
  rw [hV1_0] at b0_1
  have HBX := Lib.hid (HB1.out.trans (bb.mono HB1.out.size))
  have ck := (bb.block gk (Array.getElem?_eq_some_iff.1 HK1.out).1).trans HK1.out
  have kc := K.check (⟨[], [], [], [], [], [⟨20, 0, 0, 0⟩]⟩ : Pg) none none none none none (some ⟨g1_0, 0, none⟩) 0 0 0 0 0 1 V1_0 (K.keep _ _ hT HBX.out) (pgOk16 _ (by decide)) (by decide) ⟨Row.nil _ _ _, Row.nil _ _ _, Row.nil _ _ _, Row.nil _ _ _, Row.nil _ _ _, (fun _ => ⟨g1_0, 0, rfl, (Array.getElem?_eq_some_iff.1 cg1_0).1, fun i hi => inRow_list _ 0 (Array.getElem?_eq_some_iff.1 cg1_0).1 (rangeAt_row cg1_0 rfl) i hi⟩)⟩
  unfold GivesVC at kc
  rw [chk_b] at kc
  rw [show decide (((0 : Int), (2 : Int)).2 = 0) = false from rfl] at kc
  have hpz : pgV (⟨[], [], [], [], [], [⟨20, 0, 0, 0⟩]⟩ : Pg) none none none none none (some ⟨g1_0, 0, none⟩) 0 0 0 0 0 1 = .agg #[.slice none 0 0, .slice none 0 0, .slice none 0 0, .slice none 0 0, .slice none 0 0, .slice (some ⟨g1_0, 0, none⟩) 1 1] := rfl
  rw [hpz] at kc
  have bz : ∀ W : World, (Instr.build 32 #[(5, .slice (some ⟨g1_0, 0, none⟩) 1 1)]).run Tryd.prog W = .ok (.agg #[.slice none 0 0, .slice none 0 0, .slice none 0 0, .slice none 0 0, .slice none 0 0, .slice (some ⟨g1_0, 0, none⟩) 1 1]) W := fun W => by kernel_rfl
  have z0 : ∀ W : World, (Instr.build 34 #[(0, .int .i64 20)]).run Tryd.prog W = .ok (.agg #[.int .i64 20, .int .i64 0, .int .i64 0, .int .i64 0]) W := fun W => by kernel_rfl
  rw [hV1_0] at kc
  rw [hg1_0] at kc bz
  clear bb ck hpz hg1_0 sg1_0 cg1_0 hV1_0 bV1_0
  go_wp2_with fail
  (with_reducible refine kc.mono ?_)
  rintro e u1 ⟨rfl, hbu⟩
  clear kc bz bs0 z0
  obtain ⟨V2, hV⟩ : ∃ W, W = ((u1.alloc (.cells #[.int .i64 0, .int .i64 0] 26)).setRow u1.heap.size #[.int .i64 0, .int .i64 2]) := ⟨_, rfl⟩
  obtain ⟨hnb, hnr⟩ := newrow14 u1 26 #[.int .i64 0, .int .i64 0] #[.int .i64 0, .int .i64 2]
  rw [← hV] at hnb hnr
  have HAL := Lib.hid (heap_alloc_new u1 (.cells #[.int .i64 0, .int .i64 0] 26))
  obtain ⟨f1, hf⟩ : ∃ g, g = u1.heap.size := ⟨_, rfl⟩
  rw [← hf] at hnr
  have hbx : Below V1.heap.size V1 V2 := (b0_1.trans (hbu.mono b0_1.size)).trans (hnb.mono (Nat.le_trans b0_1.size hbu.size))
  have HB2 := Lib.hid (HB1.out.trans (hbx.mono HB1.out.size))
  have HK2 := Lib.hid ((hbx.block gk (Array.getElem?_eq_some_iff.1 HK1.out).1).trans HK1.out)
  have HF0_2 := Lib.hid ((hbx.block f0 (Array.getElem?_eq_some_iff.1 HF0_1.out).1).trans HF0_1.out)
  have HF1_2 := Lib.hid hnr
  have HV := Lib.hid hV
  have HFF := Lib.hid hf
  clear hbu hnb hnr hbx hV hf b0_1
  go_upto_region 6 with (refine wpList_store_row rfl 26 (.tmp 4) (.tmp 28) rfl u1.heap.size #[.int .i64 0, .int .i64 2] rfl rfl 26 #[.int .i64 0, .int .i64 0] ?_ HSF.out rfl (fault_one16 _ _) ?_; (exact HAL.out))
  rw [← HV.out, ← HFF.out]
  clear HAL HV HFF
  have bs0 : ∀ W : World, (Instr.buildSlice 29 1 #[(0, .int .i64 5)]).run Tryd.prog W = .ok (.slice (some ⟨W.heap.size, 0, none⟩) 1 1) (W.alloc (.cells #[.int .i64 5] 2)) := fun W => by kernel_rfl
  obtain ⟨g2_0, hg2_0⟩ : ∃ g, g = V2.heap.size := ⟨_, rfl⟩
  obtain ⟨V2_0, hV2_0⟩ : ∃ W, W = V2.alloc (.cells #[.int .i64 5] 2) := ⟨_, rfl⟩
  have sg2_0 : g2_0 = V2.heap.size := by rw [hg2_0]
  have cg2_0 : V2_0.heap[g2_0]? = some (.cells #[.int .i64 5] 2 (0, 0)) := by rw [sg2_0, hV2_0]; exact heap_alloc_new _ _
  have bV2_0 : Below V2.heap.size V2 V2_0 := by rw [hV2_0]; exact (Below.refl _ _).alloc (Nat.le_refl _) _
  have bs1 : ∀ W : World, (Instr.buildSlice 30 1 #[(0, .agg #[.int .i64 0, .int .i64 0, .int .i64 0, .int .i64 0])]).run Tryd.prog W = .ok (.slice (some ⟨W.heap.size, 0, none⟩) 1 1) (W.alloc (.cells #[.int .i64 0, .int .i64 0, .int .i64 0, .int .i64 0] 34)) := fun W => by kernel_rfl
  obtain ⟨g2_1, hg2_1⟩ : ∃ g, g = V2.heap.size + 1 := ⟨_, rfl⟩
  obtain ⟨V2_1, hV2_1⟩ : ∃ W, W = V2_0.alloc (.cells #[.int .i64 0, .int .i64 0, .int .i64 0, .int .i64 0] 34) := ⟨_, rfl⟩
  have sg2_1 : g2_1 = V2_0.heap.size := by rw [hg2_1]; rw [hV2_0]; simp
  have cg2_1 : V2_1.heap[g2_1]? = some (.cells #[.int .i64 0, .int .i64 0, .int .i64 0, .int .i64 0] 34 (0, 0)) := by rw [sg2_1, hV2_1]; exact heap_alloc_new _ _
  have bV2_1 : Below V2_0.heap.size V2_0 V2_1 := by rw [hV2_1]; exact (Below.refl _ _).alloc (Nat.le_refl _) _
  have bb : Below V2.heap.size V2 V2_1 := bV2_0.trans (bV2_1.mono bV2_0.size)
  have cg2_0 := (bV2_1.block g2_0 (Array.getElem?_eq_some_iff.1 cg2_0).1).trans cg2_0
  have b0_2 := bb
  rw [hV2_1, hV2_0] at b0_2
  have HBX := Lib.hid (HB2.out.trans (bb.mono HB2.out.size))
  have ck := (bb.block gk (Array.getElem?_eq_some_iff.1 HK2.out).1).trans HK2.out
  have kc := K.check (⟨[], [], [1, 2], [], [5], [⟨0, 0, 0, 0⟩]⟩ : Pg) none none (some ⟨gk, 0, none⟩) none (some ⟨g2_0, 0, none⟩) (some ⟨g2_1, 0, none⟩) 0 0 2 0 1 1 V2_1 (K.keep _ _ hT HBX.out) (pgOk16 _ (by decide)) (by decide) ⟨Row.nil _ _ _, Row.nil _ _ _, (rows16 ck).1, Row.nil _ _ _, rowI16 cg2_0 rfl, (fun _ => ⟨g2_1, 0, rfl, (Array.getElem?_eq_some_iff.1 cg2_1).1, fun i hi => inRow_list _ 0 (Array.getElem?_eq_some_iff.1 cg2_1).1 (rangeAt_row cg2_1 rfl) i hi⟩)⟩
  unfold GivesVC at kc
  rw [chk_c] at kc
  rw [show decide (((0 : Int), (3 : Int)).2 = 0) = false from rfl] at kc
  have hpz : pgV (⟨[], [], [1, 2], [], [5], [⟨0, 0, 0, 0⟩]⟩ : Pg) none none (some ⟨gk, 0, none⟩) none (some ⟨g2_0, 0, none⟩) (some ⟨g2_1, 0, none⟩) 0 0 2 0 1 1 = .agg #[.slice none 0 0, .slice none 0 0, .slice (some ⟨gk, 0, none⟩) 2 2, .slice none 0 0, .slice (some ⟨g2_0, 0, none⟩) 1 1, .slice (some ⟨g2_1, 0, none⟩) 1 1] := rfl
  rw [hpz] at kc
  have bz : ∀ W : World, (Instr.build 32 #[(2, .slice (some ⟨gk, 0, none⟩) 2 2), (4, .slice (some ⟨g2_0, 0, none⟩) 1 1), (5, .slice (some ⟨g2_1, 0, none⟩) 1 1)]).run Tryd.prog W = .ok (.agg #[.slice none 0 0, .slice none 0 0, .slice (some ⟨gk, 0, none⟩) 2 2, .slice none 0 0, .slice (some ⟨g2_0, 0, none⟩) 1 1, .slice (some ⟨g2_1, 0, none⟩) 1 1]) W := fun W => by kernel_rfl
  have z0 : ∀ W : World, (Instr.build 34 #[]).run Tryd.prog W = .ok (.agg #[.int .i64 0, .int .i64 0, .int .i64 0, .int .i64 0]) W := fun W => by kernel_rfl
  rw [hV2_1, hV2_0] at kc
  rw [hg2_0] at kc bz
  rw [hg2_1] at kc bz
  clear bb ck hpz hg2_0 sg2_0 cg2_0 hV2_0 bV2_0 hg2_1 sg2_1 cg2_1 hV2_1 bV2_1
  go_wp2_with fail
  (with_reducible refine kc.mono ?_)
  rintro e u2 ⟨rfl, hbu⟩
  clear kc bz bs0 bs1 z0
  obtain ⟨V3, hV⟩ : ∃ W, W = ((u2.alloc (.cells #[.int .i64 0, .int .i64 0] 26)).setRow u2.heap.size #[.int .i64 0, .int .i64 3]) := ⟨_, rfl⟩
  obtain ⟨hnb, hnr⟩ := newrow14 u2 26 #[.int .i64 0, .int .i64 0] #[.int .i64 0, .int .i64 3]
  rw [← hV] at hnb hnr
  have HAL := Lib.hid (heap_alloc_new u2 (.cells #[.int .i64 0, .int .i64 0] 26))
  obtain ⟨f2, hf⟩ : ∃ g, g = u2.heap.size := ⟨_, rfl⟩
  rw [← hf] at hnr
  have hbx : Below V2.heap.size V2 V3 := (b0_2.trans (hbu.mono b0_2.size)).trans (hnb.mono (Nat.le_trans b0_2.size hbu.size))
  have HB3 := Lib.hid (HB2.out.trans (hbx.mono HB2.out.size))
  have HK3 := Lib.hid ((hbx.block gk (Array.getElem?_eq_some_iff.1 HK2.out).1).trans HK2.out)
  have HF0_3 := Lib.hid ((hbx.block f0 (Array.getElem?_eq_some_iff.1 HF0_2.out).1).trans HF0_2.out)
  have HF1_3 := Lib.hid ((hbx.block f1 (Array.getElem?_eq_some_iff.1 HF1_2.out).1).trans HF1_2.out)
  have HF2_3 := Lib.hid hnr
  have HV := Lib.hid hV
  have HFF := Lib.hid hf
  clear hbu hnb hnr hbx hV hf b0_2
  go_upto_region 7 with (refine wpList_store_row rfl 26 (.tmp 6) (.tmp 37) rfl u2.heap.size #[.int .i64 0, .int .i64 3] rfl rfl 26 #[.int .i64 0, .int .i64 0] ?_ HSF.out rfl (fault_one16 _ _) ?_; (exact HAL.out))
  rw [← HV.out, ← HFF.out]
  clear HAL HV HFF
  have bs0 : ∀ W : World, (Instr.buildSlice 30 1 #[(0, .agg #[.int .i64 1, .int .i64 1, .int .i64 1, .int .i64 0])]).run Tryd.prog W = .ok (.slice (some ⟨W.heap.size, 0, none⟩) 1 1) (W.alloc (.cells #[.int .i64 1, .int .i64 1, .int .i64 1, .int .i64 0] 34)) := fun W => by kernel_rfl
  obtain ⟨g3_0, hg3_0⟩ : ∃ g, g = V3.heap.size := ⟨_, rfl⟩
  obtain ⟨V3_0, hV3_0⟩ : ∃ W, W = V3.alloc (.cells #[.int .i64 1, .int .i64 1, .int .i64 1, .int .i64 0] 34) := ⟨_, rfl⟩
  have sg3_0 : g3_0 = V3.heap.size := by rw [hg3_0]
  have cg3_0 : V3_0.heap[g3_0]? = some (.cells #[.int .i64 1, .int .i64 1, .int .i64 1, .int .i64 0] 34 (0, 0)) := by rw [sg3_0, hV3_0]; exact heap_alloc_new _ _
  have bV3_0 : Below V3.heap.size V3 V3_0 := by rw [hV3_0]; exact (Below.refl _ _).alloc (Nat.le_refl _) _
  have bb : Below V3.heap.size V3 V3_0 := bV3_0
  have b0_3 := bb
  rw [hV3_0] at b0_3
  have HBX := Lib.hid (HB3.out.trans (bb.mono HB3.out.size))
  have ck := (bb.block gk (Array.getElem?_eq_some_iff.1 HK3.out).1).trans HK3.out
  have kc := K.check (⟨[], [], [1, 2], [], [], [⟨1, 1, 1, 0⟩]⟩ : Pg) none none (some ⟨gk, 0, none⟩) none none (some ⟨g3_0, 0, none⟩) 0 0 2 0 0 1 V3_0 (K.keep _ _ hT HBX.out) (pgOk16 _ (by decide)) (by decide) ⟨Row.nil _ _ _, Row.nil _ _ _, (rows16 ck).1, Row.nil _ _ _, Row.nil _ _ _, (fun _ => ⟨g3_0, 0, rfl, (Array.getElem?_eq_some_iff.1 cg3_0).1, fun i hi => inRow_list _ 0 (Array.getElem?_eq_some_iff.1 cg3_0).1 (rangeAt_row cg3_0 rfl) i hi⟩)⟩
  unfold GivesVC at kc
  rw [chk_d] at kc
  rw [show decide (((0 : Int), (4 : Int)).2 = 0) = false from rfl] at kc
  have hpz : pgV (⟨[], [], [1, 2], [], [], [⟨1, 1, 1, 0⟩]⟩ : Pg) none none (some ⟨gk, 0, none⟩) none none (some ⟨g3_0, 0, none⟩) 0 0 2 0 0 1 = .agg #[.slice none 0 0, .slice none 0 0, .slice (some ⟨gk, 0, none⟩) 2 2, .slice none 0 0, .slice none 0 0, .slice (some ⟨g3_0, 0, none⟩) 1 1] := rfl
  rw [hpz] at kc
  have bz : ∀ W : World, (Instr.build 32 #[(2, .slice (some ⟨gk, 0, none⟩) 2 2), (5, .slice (some ⟨g3_0, 0, none⟩) 1 1)]).run Tryd.prog W = .ok (.agg #[.slice none 0 0, .slice none 0 0, .slice (some ⟨gk, 0, none⟩) 2 2, .slice none 0 0, .slice none 0 0, .slice (some ⟨g3_0, 0, none⟩) 1 1]) W := fun W => by kernel_rfl
  have z0 : ∀ W : World, (Instr.build 34 #[(0, .int .i64 1), (1, .int .i64 1), (2, .int .i64 1)]).run Tryd.prog W = .ok (.agg #[.int .i64 1, .int .i64 1, .int .i64 1, .int .i64 0]) W := fun W => by kernel_rfl
  rw [hV3_0] at kc
  rw [hg3_0] at kc bz
  clear bb ck hpz hg3_0 sg3_0 cg3_0 hV3_0 bV3_0
  go_wp2_with fail
  (with_reducible refine kc.mono ?_)
  rintro e u3 ⟨rfl, hbu⟩
  clear kc bz bs0 z0
  obtain ⟨V4, hV⟩ : ∃ W, W = ((u3.alloc (.cells #[.int .i64 0, .int .i64 0] 26)).setRow u3.heap.size #[.int .i64 0, .int .i64 4]) := ⟨_, rfl⟩
  obtain ⟨hnb, hnr⟩ := newrow14 u3 26 #[.int .i64 0, .int .i64 0] #[.int .i64 0, .int .i64 4]
  rw [← hV] at hnb hnr
  have HAL := Lib.hid (heap_alloc_new u3 (.cells #[.int .i64 0, .int .i64 0] 26))
  obtain ⟨f3, hf⟩ : ∃ g, g = u3.heap.size := ⟨_, rfl⟩
  rw [← hf] at hnr
  have hbx : Below V3.heap.size V3 V4 := (b0_3.trans (hbu.mono b0_3.size)).trans (hnb.mono (Nat.le_trans b0_3.size hbu.size))
  have HB4 := Lib.hid (HB3.out.trans (hbx.mono HB3.out.size))
  have HK4 := Lib.hid ((hbx.block gk (Array.getElem?_eq_some_iff.1 HK3.out).1).trans HK3.out)
  have HF0_4 := Lib.hid ((hbx.block f0 (Array.getElem?_eq_some_iff.1 HF0_3.out).1).trans HF0_3.out)
  have HF1_4 := Lib.hid ((hbx.block f1 (Array.getElem?_eq_some_iff.1 HF1_3.out).1).trans HF1_3.out)
  have HF2_4 := Lib.hid ((hbx.block f2 (Array.getElem?_eq_some_iff.1 HF2_3.out).1).trans HF2_3.out)
  have HF3_4 := Lib.hid hnr
  have HV := Lib.hid hV
  have HFF := Lib.hid hf
  clear hbu hnb hnr hbx hV hf b0_3
  go_upto_region 8 with (refine wpList_store_row rfl 26 (.tmp 8) (.tmp 45) rfl u3.heap.size #[.int .i64 0, .int .i64 4] rfl rfl 26 #[.int .i64 0, .int .i64 0] ?_ HSF.out rfl (fault_one16 _ _) ?_; (exact HAL.out))
  rw [← HV.out, ← HFF.out]
  clear HAL HV HFF
  have bs0 : ∀ W : World, (Instr.buildSlice 30 6 #[(0, .agg #[.int .i64 4, .int .i64 0, .int .i64 0, .int .i64 0]), (1, .agg #[.int .i64 19, .int .i64 4, .int .i64 0, .int .i64 0]), (2, .agg #[.int .i64 4, .int .i64 1, .int .i64 1, .int .i64 0]), (3, .agg #[.int .i64 20, .int .i64 5, .int .i64 0, .int .i64 0]), (4, .agg #[.int .i64 4, .int .i64 1, .int .i64 1, .int .i64 0]), (5, .agg #[.int .i64 5, .int .i64 0, .int .i64 1, .int .i64 0])]).run Tryd.prog W = .ok (.slice (some ⟨W.heap.size, 0, none⟩) 6 6) (W.alloc (.cells #[.int .i64 4, .int .i64 0, .int .i64 0, .int .i64 0, .int .i64 19, .int .i64 4, .int .i64 0, .int .i64 0, .int .i64 4, .int .i64 1, .int .i64 1, .int .i64 0, .int .i64 20, .int .i64 5, .int .i64 0, .int .i64 0, .int .i64 4, .int .i64 1, .int .i64 1, .int .i64 0, .int .i64 5, .int .i64 0, .int .i64 1, .int .i64 0] 34)) := fun W => by kernel_rfl
  obtain ⟨g4_0, hg4_0⟩ : ∃ g, g = V4.heap.size := ⟨_, rfl⟩
  obtain ⟨V4_0, hV4_0⟩ : ∃ W, W = V4.alloc (.cells #[.int .i64 4, .int .i64 0, .int .i64 0, .int .i64 0, .int .i64 19, .int .i64 4, .int .i64 0, .int .i64 0, .int .i64 4, .int .i64 1, .int .i64 1, .int .i64 0, .int .i64 20, .int .i64 5, .int .i64 0, .int .i64 0, .int .i64 4, .int .i64 1, .int .i64 1, .int .i64 0, .int .i64 5, .int .i64 0, .int .i64 1, .int .i64 0] 34) := ⟨_, rfl⟩
  have sg4_0 : g4_0 = V4.heap.size := by rw [hg4_0]
  have cg4_0 : V4_0.heap[g4_0]? = some (.cells #[.int .i64 4, .int .i64 0, .int .i64 0, .int .i64 0, .int .i64 19, .int .i64 4, .int .i64 0, .int .i64 0, .int .i64 4, .int .i64 1, .int .i64 1, .int .i64 0, .int .i64 20, .int .i64 5, .int .i64 0, .int .i64 0, .int .i64 4, .int .i64 1, .int .i64 1, .int .i64 0, .int .i64 5, .int .i64 0, .int .i64 1, .int .i64 0] 34 (0, 0)) := by rw [sg4_0, hV4_0]; exact heap_alloc_new _ _
  have bV4_0 : Below V4.heap.size V4 V4_0 := by rw [hV4_0]; exact (Below.refl _ _).alloc (Nat.le_refl _) _
  have bb : Below V4.heap.size V4 V4_0 := bV4_0
  have b0_4 := bb
  rw [hV4_0] at b0_4
  have HBX := Lib.hid (HB4.out.trans (bb.mono HB4.out.size))
  have ck := (bb.block gk (Array.getElem?_eq_some_iff.1 HK4.out).1).trans HK4.out
  have kc := K.check (⟨[1, 2], [2], [1, 2], [], [], [⟨4, 0, 0, 0⟩, ⟨19, 4, 0, 0⟩, ⟨4, 1, 1, 0⟩, ⟨20, 5, 0, 0⟩, ⟨4, 1, 1, 0⟩, ⟨5, 0, 1, 0⟩]⟩ : Pg) (some ⟨gk, 0, none⟩) (some ⟨gk, 1, none⟩) (some ⟨gk, 0, none⟩) none none (some ⟨g4_0, 0, none⟩) 2 1 2 0 0 6 V4_0 (K.keep _ _ hT HBX.out) (pgOk16 _ (by decide)) (by decide) ⟨(rows16 ck).1, (rows16 ck).2, (rows16 ck).1, Row.nil _ _ _, Row.nil _ _ _, (fun _ => ⟨g4_0, 0, rfl, (Array.getElem?_eq_some_iff.1 cg4_0).1, fun i hi => inRow_list _ 0 (Array.getElem?_eq_some_iff.1 cg4_0).1 (rangeAt_row cg4_0 rfl) i hi⟩)⟩
  unfold GivesVC at kc
  rw [chk_e] at kc
  rw [show decide (((0 : Int), (0 : Int)).2 = 0) = true from rfl] at kc
  have hpz : pgV (⟨[1, 2], [2], [1, 2], [], [], [⟨4, 0, 0, 0⟩, ⟨19, 4, 0, 0⟩, ⟨4, 1, 1, 0⟩, ⟨20, 5, 0, 0⟩, ⟨4, 1, 1, 0⟩, ⟨5, 0, 1, 0⟩]⟩ : Pg) (some ⟨gk, 0, none⟩) (some ⟨gk, 1, none⟩) (some ⟨gk, 0, none⟩) none none (some ⟨g4_0, 0, none⟩) 2 1 2 0 0 6 = .agg #[.slice (some ⟨gk, 0, none⟩) 2 2, .slice (some ⟨gk, 1, none⟩) 1 1, .slice (some ⟨gk, 0, none⟩) 2 2, .slice none 0 0, .slice none 0 0, .slice (some ⟨g4_0, 0, none⟩) 6 6] := rfl
  rw [hpz] at kc
  have bz : ∀ W : World, (Instr.build 32 #[(0, .slice (some ⟨gk, 0, none⟩) 2 2), (1, .slice (some ⟨gk, 1, none⟩) 1 1), (2, .slice (some ⟨gk, 0, none⟩) 2 2), (5, .slice (some ⟨g4_0, 0, none⟩) 6 6)]).run Tryd.prog W = .ok (.agg #[.slice (some ⟨gk, 0, none⟩) 2 2, .slice (some ⟨gk, 1, none⟩) 1 1, .slice (some ⟨gk, 0, none⟩) 2 2, .slice none 0 0, .slice none 0 0, .slice (some ⟨g4_0, 0, none⟩) 6 6]) W := fun W => by kernel_rfl
  have z0 : ∀ W : World, (Instr.build 34 #[(0, .int .i64 4)]).run Tryd.prog W = .ok (.agg #[.int .i64 4, .int .i64 0, .int .i64 0, .int .i64 0]) W := fun W => by kernel_rfl
  have z1 : ∀ W : World, (Instr.build 34 #[(0, .int .i64 19), (1, .int .i64 4)]).run Tryd.prog W = .ok (.agg #[.int .i64 19, .int .i64 4, .int .i64 0, .int .i64 0]) W := fun W => by kernel_rfl
  have z2 : ∀ W : World, (Instr.build 34 #[(0, .int .i64 4), (1, .int .i64 1), (2, .int .i64 1)]).run Tryd.prog W = .ok (.agg #[.int .i64 4, .int .i64 1, .int .i64 1, .int .i64 0]) W := fun W => by kernel_rfl
  have z3 : ∀ W : World, (Instr.build 34 #[(0, .int .i64 20), (1, .int .i64 5)]).run Tryd.prog W = .ok (.agg #[.int .i64 20, .int .i64 5, .int .i64 0, .int .i64 0]) W := fun W => by kernel_rfl
  have z4 : ∀ W : World, (Instr.build 34 #[(0, .int .i64 5), (2, .int .i64 1)]).run Tryd.prog W = .ok (.agg #[.int .i64 5, .int .i64 0, .int .i64 1, .int .i64 0]) W := fun W => by kernel_rfl
  rw [hV4_0] at kc
  rw [hg4_0] at kc bz
  clear bb ck hpz hg4_0 sg4_0 cg4_0 hV4_0 bV4_0
  go_wp2_with fail
  (with_reducible refine kc.mono ?_)
  rintro e u4 ⟨rfl, hbu⟩
  clear kc bz bs0 z0 z1 z2 z3 z4
  obtain ⟨V5, hV⟩ : ∃ W, W = ((u4.alloc (.cells #[.int .i64 0, .int .i64 0] 26)).setRow u4.heap.size #[.int .i64 0, .int .i64 0]) := ⟨_, rfl⟩
  obtain ⟨hnb, hnr⟩ := newrow14 u4 26 #[.int .i64 0, .int .i64 0] #[.int .i64 0, .int .i64 0]
  rw [← hV] at hnb hnr
  have HAL := Lib.hid (heap_alloc_new u4 (.cells #[.int .i64 0, .int .i64 0] 26))
  obtain ⟨f4, hf⟩ : ∃ g, g = u4.heap.size := ⟨_, rfl⟩
  rw [← hf] at hnr
  have hbx : Below V4.heap.size V4 V5 := (b0_4.trans (hbu.mono b0_4.size)).trans (hnb.mono (Nat.le_trans b0_4.size hbu.size))
  have HB5 := Lib.hid (HB4.out.trans (hbx.mono HB4.out.size))
  have HK5 := Lib.hid ((hbx.block gk (Array.getElem?_eq_some_iff.1 HK4.out).1).trans HK4.out)
  have HF0_5 := Lib.hid ((hbx.block f0 (Array.getElem?_eq_some_iff.1 HF0_4.out).1).trans HF0_4.out)
  have HF1_5 := Lib.hid ((hbx.block f1 (Array.getElem?_eq_some_iff.1 HF1_4.out).1).trans HF1_4.out)
  have HF2_5 := Lib.hid ((hbx.block f2 (Array.getElem?_eq_some_iff.1 HF2_4.out).1).trans HF2_4.out)
  have HF3_5 := Lib.hid ((hbx.block f3 (Array.getElem?_eq_some_iff.1 HF3_4.out).1).trans HF3_4.out)
  have HF4_5 := Lib.hid hnr
  have HV := Lib.hid hV
  have HFF := Lib.hid hf
  clear hbu hnb hnr hbx hV hf b0_4
  go_upto_region 9 with (refine wpList_store_row rfl 26 (.tmp 10) (.tmp 61) rfl u4.heap.size #[.int .i64 0, .int .i64 0] rfl rfl 26 #[.int .i64 0, .int .i64 0] ?_ HSF.out rfl (fault_one16 _ _) ?_; (exact HAL.out))
  rw [← HV.out, ← HFF.out]
  clear HAL HV HFF
  have bs0 : ∀ W : World, (Instr.buildSlice 30 4 #[(0, .agg #[.int .i64 4, .int .i64 0, .int .i64 0, .int .i64 0]), (1, .agg #[.int .i64 19, .int .i64 3, .int .i64 0, .int .i64 0]), (2, .agg #[.int .i64 4, .int .i64 1, .int .i64 1, .int .i64 0]), (3, .agg #[.int .i64 5, .int .i64 0, .int .i64 1, .int .i64 0])]).run Tryd.prog W = .ok (.slice (some ⟨W.heap.size, 0, none⟩) 4 4) (W.alloc (.cells #[.int .i64 4, .int .i64 0, .int .i64 0, .int .i64 0, .int .i64 19, .int .i64 3, .int .i64 0, .int .i64 0, .int .i64 4, .int .i64 1, .int .i64 1, .int .i64 0, .int .i64 5, .int .i64 0, .int .i64 1, .int .i64 0] 34)) := fun W => by kernel_rfl
  obtain ⟨g5_0, hg5_0⟩ : ∃ g, g = V5.heap.size := ⟨_, rfl⟩
  obtain ⟨V5_0, hV5_0⟩ : ∃ W, W = V5.alloc (.cells #[.int .i64 4, .int .i64 0, .int .i64 0, .int .i64 0, .int .i64 19, .int .i64 3, .int .i64 0, .int .i64 0, .int .i64 4, .int .i64 1, .int .i64 1, .int .i64 0, .int .i64 5, .int .i64 0, .int .i64 1, .int .i64 0] 34) := ⟨_, rfl⟩
  have sg5_0 : g5_0 = V5.heap.size := by rw [hg5_0]
  have cg5_0 : V5_0.heap[g5_0]? = some (.cells #[.int .i64 4, .int .i64 0, .int .i64 0, .int .i64 0, .int .i64 19, .int .i64 3, .int .i64 0, .int .i64 0, .int .i64 4, .int .i64 1, .int .i64 1, .int .i64 0, .int .i64 5, .int .i64 0, .int .i64 1, .int .i64 0] 34 (0, 0)) := by rw [sg5_0, hV5_0]; exact heap_alloc_new _ _
  have bV5_0 : Below V5.heap.size V5 V5_0 := by rw [hV5_0]; exact (Below.refl _ _).alloc (Nat.le_refl _) _
  have bb : Below V5.heap.size V5 V5_0 := bV5_0
  have b0_5 := bb
  rw [hV5_0] at b0_5
  have HBX := Lib.hid (HB5.out.trans (bb.mono HB5.out.size))
  have ck := (bb.block gk (Array.getElem?_eq_some_iff.1 HK5.out).1).trans HK5.out
  have kc := K.check (⟨[1, 2], [2], [1, 2], [], [], [⟨4, 0, 0, 0⟩, ⟨19, 3, 0, 0⟩, ⟨4, 1, 1, 0⟩, ⟨5, 0, 1, 0⟩]⟩ : Pg) (some ⟨gk, 0, none⟩) (some ⟨gk, 1, none⟩) (some ⟨gk, 0, none⟩) none none (some ⟨g5_0, 0, none⟩) 2 1 2 0 0 4 V5_0 (K.keep _ _ hT HBX.out) (pgOk16 _ (by decide)) (by decide) ⟨(rows16 ck).1, (rows16 ck).2, (rows16 ck).1, Row.nil _ _ _, Row.nil _ _ _, (fun _ => ⟨g5_0, 0, rfl, (Array.getElem?_eq_some_iff.1 cg5_0).1, fun i hi => inRow_list _ 0 (Array.getElem?_eq_some_iff.1 cg5_0).1 (rangeAt_row cg5_0 rfl) i hi⟩)⟩
  unfold GivesVC at kc
  rw [chk_f] at kc
  rw [show decide (((3 : Int), (4 : Int)).2 = 0) = false from rfl] at kc
  have hpz : pgV (⟨[1, 2], [2], [1, 2], [], [], [⟨4, 0, 0, 0⟩, ⟨19, 3, 0, 0⟩, ⟨4, 1, 1, 0⟩, ⟨5, 0, 1, 0⟩]⟩ : Pg) (some ⟨gk, 0, none⟩) (some ⟨gk, 1, none⟩) (some ⟨gk, 0, none⟩) none none (some ⟨g5_0, 0, none⟩) 2 1 2 0 0 4 = .agg #[.slice (some ⟨gk, 0, none⟩) 2 2, .slice (some ⟨gk, 1, none⟩) 1 1, .slice (some ⟨gk, 0, none⟩) 2 2, .slice none 0 0, .slice none 0 0, .slice (some ⟨g5_0, 0, none⟩) 4 4] := rfl
  rw [hpz] at kc
  have bz : ∀ W : World, (Instr.build 32 #[(0, .slice (some ⟨gk, 0, none⟩) 2 2), (1, .slice (some ⟨gk, 1, none⟩) 1 1), (2, .slice (some ⟨gk, 0, none⟩) 2 2), (5, .slice (some ⟨g5_0, 0, none⟩) 4 4)]).run Tryd.prog W = .ok (.agg #[.slice (some ⟨gk, 0, none⟩) 2 2, .slice (some ⟨gk, 1, none⟩) 1 1, .slice (some ⟨gk, 0, none⟩) 2 2, .slice none 0 0, .slice none 0 0, .slice (some ⟨g5_0, 0, none⟩) 4 4]) W := fun W => by kernel_rfl
  have z0 : ∀ W : World, (Instr.build 34 #[(0, .int .i64 4)]).run Tryd.prog W = .ok (.agg #[.int .i64 4, .int .i64 0, .int .i64 0, .int .i64 0]) W := fun W => by kernel_rfl
  have z1 : ∀ W : World, (Instr.build 34 #[(0, .int .i64 19), (1, .int .i64 3)]).run Tryd.prog W = .ok (.agg #[.int .i64 19, .int .i64 3, .int .i64 0, .int .i64 0]) W := fun W => by kernel_rfl
  have z2 : ∀ W : World, (Instr.build 34 #[(0, .int .i64 4), (1, .int .i64 1), (2, .int .i64 1)]).run Tryd.prog W = .ok (.agg #[.int .i64 4, .int .i64 1, .int .i64 1, .int .i64 0]) W := fun W => by kernel_rfl
  have z3 : ∀ W : World, (Instr.build 34 #[(0, .int .i64 5), (2, .int .i64 1)]).run Tryd.prog W = .ok (.agg #[.int .i64 5, .int .i64 0, .int .i64 1, .int .i64 0]) W := fun W => by kernel_rfl
  rw [hV5_0] at kc
  rw [hg5_0] at kc bz
  clear bb ck hpz hg5_0 sg5_0 cg5_0 hV5_0 bV5_0
  go_wp2_with fail
  (with_reducible refine kc.mono ?_)
  rintro e u5 ⟨rfl, hbu⟩
  clear kc bz bs0 z0 z1 z2 z3
  obtain ⟨V6, hV⟩ : ∃ W, W = ((u5.alloc (.cells #[.int .i64 0, .int .i64 0] 26)).setRow u5.heap.size #[.int .i64 3, .int .i64 4]) := ⟨_, rfl⟩
  obtain ⟨hnb, hnr⟩ := newrow14 u5 26 #[.int .i64 0, .int .i64 0] #[.int .i64 3, .int .i64 4]
  rw [← hV] at hnb hnr
  have HAL := Lib.hid (heap_alloc_new u5 (.cells #[.int .i64 0, .int .i64 0] 26))
  obtain ⟨f5, hf⟩ : ∃ g, g = u5.heap.size := ⟨_, rfl⟩
  rw [← hf] at hnr
  have hbx : Below V5.heap.size V5 V6 := (b0_5.trans (hbu.mono b0_5.size)).trans (hnb.mono (Nat.le_trans b0_5.size hbu.size))
  have HB6 := Lib.hid (HB5.out.trans (hbx.mono HB5.out.size))
  have HK6 := Lib.hid ((hbx.block gk (Array.getElem?_eq_some_iff.1 HK5.out).1).trans HK5.out)
  have HF0_6 := Lib.hid ((hbx.block f0 (Array.getElem?_eq_some_iff.1 HF0_5.out).1).trans HF0_5.out)
  have HF1_6 := Lib.hid ((hbx.block f1 (Array.getElem?_eq_some_iff.1 HF1_5.out).1).trans HF1_5.out)
  have HF2_6 := Lib.hid ((hbx.block f2 (Array.getElem?_eq_some_iff.1 HF2_5.out).1).trans HF2_5.out)
  have HF3_6 := Lib.hid ((hbx.block f3 (Array.getElem?_eq_some_iff.1 HF3_5.out).1).trans HF3_5.out)
  have HF4_6 := Lib.hid ((hbx.block f4 (Array.getElem?_eq_some_iff.1 HF4_5.out).1).trans HF4_5.out)
  have HF5_6 := Lib.hid hnr
  have HV := Lib.hid hV
  have HFF := Lib.hid hf
  clear hbu hnb hnr hbx hV hf b0_5
  go_upto_region 10 with (refine wpList_store_row rfl 26 (.tmp 12) (.tmp 75) rfl u5.heap.size #[.int .i64 3, .int .i64 4] rfl rfl 26 #[.int .i64 0, .int .i64 0] ?_ HSF.out rfl (fault_one16 _ _) ?_; (exact HAL.out))
  rw [← HV.out, ← HFF.out]
  clear HAL HV HFF
  have q0 : ∀ W : World, (binOp .eql 26 (.agg #[.int .i64 (-1), .int .i64 1]) (.agg #[.int .i64 (-1), .int .i64 1])).run Tryd.prog W = .ok (.bool true) W := fun W => by kernel_rfl
  have y0 : ∀ W : World, (Instr.build 26 #[(0, .int .i64 (-1)), (1, .int .i64 1)]).run Tryd.prog W = .ok (.agg #[.int .i64 (-1), .int .i64 1]) W := fun W => by kernel_rfl
  have q1 : ∀ W : World, (binOp .eql 26 (.agg #[.int .i64 0, .int .i64 2]) (.agg #[.int .i64 0, .int .i64 2])).run Tryd.prog W = .ok (.bool true) W := fun W => by kernel_rfl
  have y1 : ∀ W : World, (Instr.build 26 #[(0, .int .i64 0), (1, .int .i64 2)]).run Tryd.prog W = .ok (.agg #[.int .i64 0, .int .i64 2]) W := fun W => by kernel_rfl
  have q2 : ∀ W : World, (binOp .eql 26 (.agg #[.int .i64 0, .int .i64 3]) (.agg #[.int .i64 0, .int .i64 3])).run Tryd.prog W = .ok (.bool true) W := fun W => by kernel_rfl
  have y2 : ∀ W : World, (Instr.build 26 #[(0, .int .i64 0), (1, .int .i64 3)]).run Tryd.prog W = .ok (.agg #[.int .i64 0, .int .i64 3]) W := fun W => by kernel_rfl
  have q3 : ∀ W : World, (binOp .eql 26 (.agg #[.int .i64 0, .int .i64 4]) (.agg #[.int .i64 0, .int .i64 4])).run Tryd.prog W = .ok (.bool true) W := fun W => by kernel_rfl
  have y3 : ∀ W : World, (Instr.build 26 #[(0, .int .i64 0), (1, .int .i64 4)]).run Tryd.prog W = .ok (.agg #[.int .i64 0, .int .i64 4]) W := fun W => by kernel_rfl
  have q4 : ∀ W : World, (binOp .eql 26 (.agg #[.int .i64 0, .int .i64 0]) (.agg #[.int .i64 0, .int .i64 0])).run Tryd.prog W = .ok (.bool true) W := fun W => by kernel_rfl
  have y4 : ∀ W : World, (Instr.build 26 #[]).run Tryd.prog W = .ok (.agg #[.int .i64 0, .int .i64 0]) W := fun W => by kernel_rfl
  have q5 : ∀ W : World, (binOp .eql 26 (.agg #[.int .i64 3, .int .i64 4]) (.agg #[.int .i64 3, .int .i64 4])).run Tryd.prog W = .ok (.bool true) W := fun W => by kernel_rfl
  have y5 : ∀ W : World, (Instr.build 26 #[(0, .int .i64 3), (1, .int .i64 4)]).run Tryd.prog W = .ok (.agg #[.int .i64 3, .int .i64 4]) W := fun W => by kernel_rfl
  go_wp2_with (first | (refine wpList_load_row rfl 26 (.tmp 2) rfl f0 rfl 26 #[.int .i64 (-1), .int .i64 1] (0, 0) _ ?_ Tryd.underlying26 rfl HSF.out ?_; (exact HF0_6.out)) | (refine wpList_load_row_g 3 true rfl rfl 26 (.tmp 4) rfl f1 rfl 26 #[.int .i64 0, .int .i64 2] (0, 0) _ ?_ Tryd.underlying26 rfl HSF.out ?_; (exact HF1_6.out)) | (refine wpList_load_row_g 8 true rfl rfl 26 (.tmp 6) rfl f2 rfl 26 #[.int .i64 0, .int .i64 3] (0, 0) _ ?_ Tryd.underlying26 rfl HSF.out ?_; (exact HF2_6.out)) | (refine wpList_load_row_g 13 true rfl rfl 26 (.tmp 8) rfl f3 rfl 26 #[.int .i64 0, .int .i64 4] (0, 0) _ ?_ Tryd.underlying26 rfl HSF.out ?_; (exact HF3_6.out)) | (refine wpList_load_row_g 21 true rfl rfl 26 (.tmp 10) rfl f4 rfl 26 #[.int .i64 0, .int .i64 0] (0, 0) _ ?_ Tryd.underlying26 rfl HSF.out ?_; (exact HF4_6.out)) | (refine wpList_load_row_g 26 true rfl rfl 26 (.tmp 12) rfl f5 rfl 26 #[.int .i64 3, .int .i64 4] (0, 0) _ ?_ Tryd.underlying26 rfl HSF.out ?_; (exact HF5_6.out)))
  go_ret
  exact ⟨rfl, HB6.out⟩
end Go.Proofs.YtglplhkbnkbjbaaDoor
