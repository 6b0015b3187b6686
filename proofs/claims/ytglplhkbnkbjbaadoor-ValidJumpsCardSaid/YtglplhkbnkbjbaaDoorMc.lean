/-
  Texts that the statements stand on, part 3.
-/
import Derived.Test.YtglplhkbnkbjbaaDoorMb
import Derived.Deep.QuietTactic
import Derived.BigQuiet
import Derived.Deep.RegionHeld3
import Derived.Laws.StructEq
set_option linter.unusedVariables false
set_option linter.unusedSimpArgs false
namespace Go.Proofs.YtglplhkbnkbjbaaDoor
open Go Go.RowKit
set_option maxHeartbeats 8000000 in
set_option maxRecDepth 100000 in
theorem vFits_any (p : Pg) (x0 x1 x2 x3 x4 x5 : Option Addr) (c0 c1 c2 c3 c4 c5 : Nat) (x : In4) (pc : Nat) (hn : namedP p pc x = true) (w : World) (in_p : PgIn w p x0 x1 x2 x3 x4 x5) :
    Calls Tryd.prog 19 #[pgV p x0 x1 x2 x3 x4 x5 c0 c1 c2 c3 c4 c5, .agg #[.int .i64 x.op, .int .i64 x.a, .int .i64 x.b, .int .i64 x.c]] w fun e w' => e = .returned (.bool (fitsP p x)) ∧ Below w.heap.size w w' := by
  obtain ⟨op, a, b, c⟩ := x
  have h01 : 0 ≤ op ∧ op ≤ 20 := by
    unfold namedP at hn
    simp only [Bool.and_eq_true, decide_eq_true_eq] at hn
    exact hn.1
  obtain ⟨h0, h1⟩ := h01
  dsimp only
  obtain ⟨W0, hW0⟩ : ∃ W0, W0 = (w.alloc (.cells #[.slice x0 p.ins.length c0, .slice x1 p.outs.length c1, .slice x2 p.slots.length c2, .slice x3 p.mems.length c3, .slice x4 p.consts.length c4, .slice x5 p.code.length c5] 32)).alloc (.cells #[.int .i64 op, .int .i64 a, .int .i64 b, .int .i64 c] 34) := ⟨_, rfl⟩
  have hb1 : Below w.heap.size w (w.alloc (.cells #[.slice x0 p.ins.length c0, .slice x1 p.outs.length c1, .slice x2 p.slots.length c2, .slice x3 p.mems.length c3, .slice x4 p.consts.length c4, .slice x5 p.code.length c5] 32)) := (Below.refl _ _).alloc (Nat.le_refl _) _
  have hb0 : Below w.heap.size w W0 := by rw [hW0]; exact hb1.alloc hb1.size _
  obtain ⟨B1, hB1⟩ : ∃ B, B = w.heap.size := ⟨_, rfl⟩
  obtain ⟨B3, hB3⟩ : ∃ B, B = w.heap.size + 1 := ⟨_, rfl⟩
  have s1 : (w.alloc (.cells #[.slice x0 p.ins.length c0, .slice x1 p.outs.length c1, .slice x2 p.slots.length c2, .slice x3 p.mems.length c3, .slice x4 p.consts.length c4, .slice x5 p.code.length c5] 32)).heap.size = B3 := by rw [hB3]; simp
  have k1 := heap_alloc_new w (.cells #[.slice x0 p.ins.length c0, .slice x1 p.outs.length c1, .slice x2 p.slots.length c2, .slice x3 p.mems.length c3, .slice x4 p.consts.length c4, .slice x5 p.code.length c5] 32)
  have k3 := heap_alloc_new (w.alloc (.cells #[.slice x0 p.ins.length c0, .slice x1 p.outs.length c1, .slice x2 p.slots.length c2, .slice x3 p.mems.length c3, .slice x4 p.consts.length c4, .slice x5 p.code.length c5] 32)) (.cells #[.int .i64 op, .int .i64 a, .int .i64 b, .int .i64 c] 34)
  have a10 : Below (w.alloc (.cells #[.slice x0 p.ins.length c0, .slice x1 p.outs.length c1, .slice x2 p.slots.length c2, .slice x3 p.mems.length c3, .slice x4 p.consts.length c4, .slice x5 p.code.length c5] 32)).heap.size (w.alloc (.cells #[.slice x0 p.ins.length c0, .slice x1 p.outs.length c1, .slice x2 p.slots.length c2, .slice x3 p.mems.length c3, .slice x4 p.consts.length c4, .slice x5 p.code.length c5] 32)) W0 := by rw [hW0]; exact (Below.refl _ _).alloc (Nat.le_refl _) _
  rw [s1, ← hW0] at k3
  rw [← hB1] at k1
  rw [s1] at a10
  have k1 := (a10.block B1 (by omega)).trans k1
  have HP := Lib.hid (in_p.below hb0)
  have HB0 := Lib.hid hb0
  have HW0 := Lib.hid hW0
  have HBB1 := Lib.hid hB1
  have HBB3 := Lib.hid hB3
  have p0 := cell_of_row W0 B1 0 _ _ _ k1
  have p1 := cell_of_row W0 B1 1 _ _ _ k1
  have p2 := cell_of_row W0 B1 2 _ _ _ k1
  have p3 := cell_of_row W0 B1 3 _ _ _ k1
  have p4 := cell_of_row W0 B1 4 _ _ _ k1
  have q0 := cell_of_row W0 B3 0 _ _ _ k3
  have q1 := cell_of_row W0 B3 1 _ _ _ k3
  have q2 := cell_of_row W0 B3 2 _ _ _ k3
  have q3 := cell_of_row W0 B3 3 _ _ _ k3
  clear hW0 hb1 hb0 hB1 hB3 s1 k1 k3 a10 in_p
  unfold pgV
  rcases op_cases h0 h1 with h | h | h | h | h | h | h | h | h | h | h | h | h | h | h | h | h | h | h | h | h <;> subst h <;> clear h0 h1
  · have hn2 := hn
    simp [namedP, rdsI, writesB, nameB] at hn2
    obtain ⟨ka, rfl, hka⟩ : ∃ k : Nat, a = (k : Int) ∧ k < p.slots.length := inB_nat (by first | exact hn2 | exact hn2.1 | exact hn2.2 | exact hn2.1.1 | exact hn2.1.2 | exact hn2.2.1 | exact hn2.2.2)
    obtain ⟨kb, rfl, hkb⟩ : ∃ k : Nat, b = (k : Int) ∧ k < p.consts.length := inB_nat (by first | exact hn2 | exact hn2.1 | exact hn2.2 | exact hn2.1.1 | exact hn2.1.2 | exact hn2.2.1 | exact hn2.2.2)
    clear hn hn2
    obtain ⟨bslots, oslots, hxslots, hlslots, hcslots⟩ := HP.out.slots (by intro h; rw [h] at hka; simp at hka)
    have za := hcslots ka hka
    obtain ⟨va, hva⟩ : ∃ v, v = p.slots[ka]'hka := ⟨_, rfl⟩
    rw [← hva] at za
    have HVa : Hid (atI p.slots (ka : Int) = va) := Lib.hid (by rw [hva]; unfold atI; rw [Int.toNat_natCast, List.getD_eq_getElem?_getD, List.getElem?_eq_getElem hka]; rfl)
    have ma : (0 : Int) ≤ (ka : Int) := by omega
    have na : (ka : Int) < (p.slots.length : Int) := by omega
    clear hva
    obtain ⟨bconsts, oconsts, hxconsts, hlconsts, hcconsts⟩ := HP.out.consts (by intro h; rw [h] at hkb; simp at hkb)
    have zb := hcconsts kb hkb
    obtain ⟨vb, hvb⟩ : ∃ v, v = p.consts[kb]'hkb := ⟨_, rfl⟩
    rw [← hvb] at zb
    have HVb : Hid (atI p.consts (kb : Int) = vb) := Lib.hid (by rw [hvb]; unfold atI; rw [Int.toNat_natCast, List.getD_eq_getElem?_getD, List.getElem?_eq_getElem hkb]; rfl)
    have mb : (0 : Int) ≤ (kb : Int) := by omega
    have nb : (kb : Int) < (p.consts.length : Int) := by omega
    clear hvb
    subst hxslots
    clear hcslots
    subst hxconsts
    clear hcconsts
    have HKa := Lib.hid hka
    clear hka
    have HKb := Lib.hid hkb
    clear hkb
    have HLslots := Lib.hid hlslots
    clear hlslots
    have HLconsts := Lib.hid hlconsts
    clear hlconsts
    have hR : fitsP p ⟨0, (ka : Int), (kb : Int), c⟩ = ((va == 2) || ((vb == 0) || (vb == 1))) := by simp [fitsP, HVa.out, HVb.out]
    rw [hR]
    clear hR
    by_cases e0_ : va = 2
    · have e0 : (va == 2) = true := by simp [e0_]
      rw [e0]
      simp only [Bool.true_and, Bool.true_or]
      clear e0_
      as_aux_lemma =>
        go_enter Tryd.func19, Tryd.ntmps19
        go_upto_region 1 with fail
        rw [← HW0.out, ← HBB3.out, ← HBB1.out]
        go_wp2_with fail
        go_ret
        exact ⟨by first | rfl | simp, HB0.out⟩
    · have e0 : (va == 2) = false := by simp [e0_]
      rw [e0]
      simp only [Bool.false_and, Bool.false_or]
      clear e0_
      by_cases e1_ : vb = 0
      · have e1 : (vb == 0) = true := by simp [e1_]
        rw [e1]
        simp only [Bool.true_and, Bool.true_or]
        clear e1_
        as_aux_lemma =>
          go_enter Tryd.func19, Tryd.ntmps19
          go_upto_region 1 with fail
          rw [← HW0.out, ← HBB3.out, ← HBB1.out]
          go_wp2_with fail
          go_ret
          exact ⟨by first | rfl | simp, HB0.out⟩
      · have e1 : (vb == 0) = false := by simp [e1_]
        rw [e1]
        simp only [Bool.false_and, Bool.false_or]
        clear e1_
        as_aux_lemma =>
          go_enter Tryd.func19, Tryd.ntmps19
          go_upto_region 1 with fail
          rw [← HW0.out, ← HBB3.out, ← HBB1.out]
          go_wp2_with fail
          go_ret
          exact ⟨by first | rfl | simp, HB0.out⟩
  · have hn2 := hn
    simp [namedP, rdsI, writesB, nameB] at hn2
    obtain ⟨ka, rfl, hka⟩ : ∃ k : Nat, a = (k : Int) ∧ k < p.slots.length := inB_nat (by first | exact hn2 | exact hn2.1 | exact hn2.2 | exact hn2.1.1 | exact hn2.1.2 | exact hn2.2.1 | exact hn2.2.2)
    obtain ⟨kb, rfl, hkb⟩ : ∃ k : Nat, b = (k : Int) ∧ k < p.slots.length := inB_nat (by first | exact hn2 | exact hn2.1 | exact hn2.2 | exact hn2.1.1 | exact hn2.1.2 | exact hn2.2.1 | exact hn2.2.2)
    clear hn hn2
    obtain ⟨bslots, oslots, hxslots, hlslots, hcslots⟩ := HP.out.slots (by intro h; rw [h] at hka; simp at hka)
    have za := hcslots ka hka
    obtain ⟨va, hva⟩ : ∃ v, v = p.slots[ka]'hka := ⟨_, rfl⟩
    rw [← hva] at za
    have HVa : Hid (atI p.slots (ka : Int) = va) := Lib.hid (by rw [hva]; unfold atI; rw [Int.toNat_natCast, List.getD_eq_getElem?_getD, List.getElem?_eq_getElem hka]; rfl)
    have ma : (0 : Int) ≤ (ka : Int) := by omega
    have na : (ka : Int) < (p.slots.length : Int) := by omega
    clear hva
    have zb := hcslots kb hkb
    obtain ⟨vb, hvb⟩ : ∃ v, v = p.slots[kb]'hkb := ⟨_, rfl⟩
    rw [← hvb] at zb
    have HVb : Hid (atI p.slots (kb : Int) = vb) := Lib.hid (by rw [hvb]; unfold atI; rw [Int.toNat_natCast, List.getD_eq_getElem?_getD, List.getElem?_eq_getElem hkb]; rfl)
    have mb : (0 : Int) ≤ (kb : Int) := by omega
    have nb : (kb : Int) < (p.slots.length : Int) := by omega
    clear hvb
    subst hxslots
    clear hcslots
    have HKa := Lib.hid hka
    clear hka
    have HKb := Lib.hid hkb
    clear hkb
    have HLslots := Lib.hid hlslots
    clear hlslots
    have hR : fitsP p ⟨1, (ka : Int), (kb : Int), c⟩ = (va == vb) := by simp [fitsP, HVa.out, HVb.out]
    rw [hR]
    clear hR
    as_aux_lemma =>
      go_enter Tryd.func19, Tryd.ntmps19
      go_upto_region 1 with fail
      rw [← HW0.out, ← HBB3.out, ← HBB1.out]
      go_upto_region 6 with fail
      go_quiet (fail)
      go_wp2_with fail
      all_goals go_ret
      all_goals exact ⟨by first | rfl | simp, by first | exact HB0.out | exact HB0.out.drew | exact below_drewN HB0.out _⟩
  · have hn2 := hn
    simp [namedP, rdsI, writesB, nameB] at hn2
    obtain ⟨ka, rfl, hka⟩ : ∃ k : Nat, a = (k : Int) ∧ k < p.slots.length := inB_nat (by first | exact hn2 | exact hn2.1 | exact hn2.2 | exact hn2.1.1 | exact hn2.1.2 | exact hn2.2.1 | exact hn2.2.2)
    obtain ⟨kb, rfl, hkb⟩ : ∃ k : Nat, b = (k : Int) ∧ k < p.mems.length := inB_nat (by first | exact hn2 | exact hn2.1 | exact hn2.2 | exact hn2.1.1 | exact hn2.1.2 | exact hn2.2.1 | exact hn2.2.2)
    clear hn hn2
    obtain ⟨bslots, oslots, hxslots, hlslots, hcslots⟩ := HP.out.slots (by intro h; rw [h] at hka; simp at hka)
    have za := hcslots ka hka
    obtain ⟨va, hva⟩ : ∃ v, v = p.slots[ka]'hka := ⟨_, rfl⟩
    rw [← hva] at za
    have HVa : Hid (atI p.slots (ka : Int) = va) := Lib.hid (by rw [hva]; unfold atI; rw [Int.toNat_natCast, List.getD_eq_getElem?_getD, List.getElem?_eq_getElem hka]; rfl)
    have ma : (0 : Int) ≤ (ka : Int) := by omega
    have na : (ka : Int) < (p.slots.length : Int) := by omega
    clear hva
    obtain ⟨bmems, omems, hxmems, hlmems, hcmems⟩ := HP.out.mems (by intro h; rw [h] at hkb; simp at hkb)
    have zb := hcmems kb hkb
    obtain ⟨vb, hvb⟩ : ∃ v, v = p.mems[kb]'hkb := ⟨_, rfl⟩
    rw [← hvb] at zb
    have HVb : Hid (atI p.mems (kb : Int) = vb) := Lib.hid (by rw [hvb]; unfold atI; rw [Int.toNat_natCast, List.getD_eq_getElem?_getD, List.getElem?_eq_getElem hkb]; rfl)
    have mb : (0 : Int) ≤ (kb : Int) := by omega
    have nb : (kb : Int) < (p.mems.length : Int) := by omega
    clear hvb
    subst hxslots
    clear hcslots
    subst hxmems
    clear hcmems
    have HKa := Lib.hid hka
    clear hka
    have HKb := Lib.hid hkb
    clear hkb
    have HLslots := Lib.hid hlslots
    clear hlslots
    have HLmems := Lib.hid hlmems
    clear hlmems
    have hR : fitsP p ⟨2, (ka : Int), (kb : Int), c⟩ = (va == vb) := by simp [fitsP, HVa.out, HVb.out]
    rw [hR]
    clear hR
    as_aux_lemma =>
      go_enter Tryd.func19, Tryd.ntmps19
      go_upto_region 1 with fail
      rw [← HW0.out, ← HBB3.out, ← HBB1.out]
      go_upto_region 8 with fail
      go_quiet (fail)
      go_wp2_with fail
      all_goals go_ret
      all_goals exact ⟨by first | rfl | simp, by first | exact HB0.out | exact HB0.out.drew | exact below_drewN HB0.out _⟩
  · have hn2 := hn
    simp [namedP, rdsI, writesB, nameB] at hn2
    obtain ⟨ka, rfl, hka⟩ : ∃ k : Nat, a = (k : Int) ∧ k < p.mems.length := inB_nat (by first | exact hn2 | exact hn2.1 | exact hn2.2 | exact hn2.1.1 | exact hn2.1.2 | exact hn2.2.1 | exact hn2.2.2)
    obtain ⟨kb, rfl, hkb⟩ : ∃ k : Nat, b = (k : Int) ∧ k < p.slots.length := inB_nat (by first | exact hn2 | exact hn2.1 | exact hn2.2 | exact hn2.1.1 | exact hn2.1.2 | exact hn2.2.1 | exact hn2.2.2)
    clear hn hn2
    obtain ⟨bmems, omems, hxmems, hlmems, hcmems⟩ := HP.out.mems (by intro h; rw [h] at hka; simp at hka)
    have za := hcmems ka hka
    obtain ⟨va, hva⟩ : ∃ v, v = p.mems[ka]'hka := ⟨_, rfl⟩
    rw [← hva] at za
    have HVa : Hid (atI p.mems (ka : Int) = va) := Lib.hid (by rw [hva]; unfold atI; rw [Int.toNat_natCast, List.getD_eq_getElem?_getD, List.getElem?_eq_getElem hka]; rfl)
    have ma : (0 : Int) ≤ (ka : Int) := by omega
    have na : (ka : Int) < (p.mems.length : Int) := by omega
    clear hva
    obtain ⟨bslots, oslots, hxslots, hlslots, hcslots⟩ := HP.out.slots (by intro h; rw [h] at hkb; simp at hkb)
    have zb := hcslots kb hkb
    obtain ⟨vb, hvb⟩ : ∃ v, v = p.slots[kb]'hkb := ⟨_, rfl⟩
    rw [← hvb] at zb
    have HVb : Hid (atI p.slots (kb : Int) = vb) := Lib.hid (by rw [hvb]; unfold atI; rw [Int.toNat_natCast, List.getD_eq_getElem?_getD, List.getElem?_eq_getElem hkb]; rfl)
    have mb : (0 : Int) ≤ (kb : Int) := by omega
    have nb : (kb : Int) < (p.slots.length : Int) := by omega
    clear hvb
    subst hxmems
    clear hcmems
    subst hxslots
    clear hcslots
    have HKa := Lib.hid hka
    clear hka
    have HKb := Lib.hid hkb
    clear hkb
    have HLmems := Lib.hid hlmems
    clear hlmems
    have HLslots := Lib.hid hlslots
    clear hlslots
    have hR : fitsP p ⟨3, (ka : Int), (kb : Int), c⟩ = (va == vb) := by simp [fitsP, HVa.out, HVb.out]
    rw [hR]
    clear hR
    as_aux_lemma =>
      go_enter Tryd.func19, Tryd.ntmps19
      go_upto_region 1 with fail
      rw [← HW0.out, ← HBB3.out, ← HBB1.out]
      go_upto_region 10 with fail
      go_quiet (fail)
      go_wp2_with fail
      all_goals go_ret
      all_goals exact ⟨by first | rfl | simp, by first | exact HB0.out | exact HB0.out.drew | exact below_drewN HB0.out _⟩
  · have hn2 := hn
    simp [namedP, rdsI, writesB, nameB] at hn2
    obtain ⟨ka, rfl, hka⟩ : ∃ k : Nat, a = (k : Int) ∧ k < p.slots.length := inB_nat (by first | exact hn2 | exact hn2.1 | exact hn2.2 | exact hn2.1.1 | exact hn2.1.2 | exact hn2.2.1 | exact hn2.2.2)
    obtain ⟨kb, rfl, hkb⟩ : ∃ k : Nat, b = (k : Int) ∧ k < p.ins.length := inB_nat (by first | exact hn2 | exact hn2.1 | exact hn2.2 | exact hn2.1.1 | exact hn2.1.2 | exact hn2.2.1 | exact hn2.2.2)
    clear hn hn2
    obtain ⟨bslots, oslots, hxslots, hlslots, hcslots⟩ := HP.out.slots (by intro h; rw [h] at hka; simp at hka)
    have za := hcslots ka hka
    obtain ⟨va, hva⟩ : ∃ v, v = p.slots[ka]'hka := ⟨_, rfl⟩
    rw [← hva] at za
    have HVa : Hid (atI p.slots (ka : Int) = va) := Lib.hid (by rw [hva]; unfold atI; rw [Int.toNat_natCast, List.getD_eq_getElem?_getD, List.getElem?_eq_getElem hka]; rfl)
    have ma : (0 : Int) ≤ (ka : Int) := by omega
    have na : (ka : Int) < (p.slots.length : Int) := by omega
    clear hva
    obtain ⟨bins, oins, hxins, hlins, hcins⟩ := HP.out.ins (by intro h; rw [h] at hkb; simp at hkb)
    have zb := hcins kb hkb
    obtain ⟨vb, hvb⟩ : ∃ v, v = p.ins[kb]'hkb := ⟨_, rfl⟩
    rw [← hvb] at zb
    have HVb : Hid (atI p.ins (kb : Int) = vb) := Lib.hid (by rw [hvb]; unfold atI; rw [Int.toNat_natCast, List.getD_eq_getElem?_getD, List.getElem?_eq_getElem hkb]; rfl)
    have mb : (0 : Int) ≤ (kb : Int) := by omega
    have nb : (kb : Int) < (p.ins.length : Int) := by omega
    clear hvb
    subst hxslots
    clear hcslots
    subst hxins
    clear hcins
    have HKa := Lib.hid hka
    clear hka
    have HKb := Lib.hid hkb
    clear hkb
    have HLslots := Lib.hid hlslots
    clear hlslots
    have HLins := Lib.hid hlins
    clear hlins
    have hR : fitsP p ⟨4, (ka : Int), (kb : Int), c⟩ = (va == vb) := by simp [fitsP, HVa.out, HVb.out]
    rw [hR]
    clear hR
    as_aux_lemma =>
      go_enter Tryd.func19, Tryd.ntmps19
      go_upto_region 1 with fail
      rw [← HW0.out, ← HBB3.out, ← HBB1.out]
      go_upto_region 12 with fail
      go_quiet (fail)
      go_wp2_with fail
      all_goals go_ret
      all_goals exact ⟨by first | rfl | simp, by first | exact HB0.out | exact HB0.out.drew | exact below_drewN HB0.out _⟩
  · have hn2 := hn
    simp [namedP, rdsI, writesB, nameB] at hn2
    obtain ⟨ka, rfl, hka⟩ : ∃ k : Nat, a = (k : Int) ∧ k < p.outs.length := inB_nat (by first | exact hn2 | exact hn2.1 | exact hn2.2 | exact hn2.1.1 | exact hn2.1.2 | exact hn2.2.1 | exact hn2.2.2)
    obtain ⟨kb, rfl, hkb⟩ : ∃ k : Nat, b = (k : Int) ∧ k < p.slots.length := inB_nat (by first | exact hn2 | exact hn2.1 | exact hn2.2 | exact hn2.1.1 | exact hn2.1.2 | exact hn2.2.1 | exact hn2.2.2)
    clear hn hn2
    obtain ⟨bouts, oouts, hxouts, hlouts, hcouts⟩ := HP.out.outs (by intro h; rw [h] at hka; simp at hka)
    have za := hcouts ka hka
    obtain ⟨va, hva⟩ : ∃ v, v = p.outs[ka]'hka := ⟨_, rfl⟩
    rw [← hva] at za
    have HVa : Hid (atI p.outs (ka : Int) = va) := Lib.hid (by rw [hva]; unfold atI; rw [Int.toNat_natCast, List.getD_eq_getElem?_getD, List.getElem?_eq_getElem hka]; rfl)
    have ma : (0 : Int) ≤ (ka : Int) := by omega
    have na : (ka : Int) < (p.outs.length : Int) := by omega
    clear hva
    obtain ⟨bslots, oslots, hxslots, hlslots, hcslots⟩ := HP.out.slots (by intro h; rw [h] at hkb; simp at hkb)
    have zb := hcslots kb hkb
    obtain ⟨vb, hvb⟩ : ∃ v, v = p.slots[kb]'hkb := ⟨_, rfl⟩
    rw [← hvb] at zb
    have HVb : Hid (atI p.slots (kb : Int) = vb) := Lib.hid (by rw [hvb]; unfold atI; rw [Int.toNat_natCast, List.getD_eq_getElem?_getD, List.getElem?_eq_getElem hkb]; rfl)
    have mb : (0 : Int) ≤ (kb : Int) := by omega
    have nb : (kb : Int) < (p.slots.length : Int) := by omega
    clear hvb
    subst hxouts
    clear hcouts
    subst hxslots
    clear hcslots
    have HKa := Lib.hid hka
    clear hka
    have HKb := Lib.hid hkb
    clear hkb
    have HLouts := Lib.hid hlouts
    clear hlouts
    have HLslots := Lib.hid hlslots
    clear hlslots
    have hR : fitsP p ⟨5, (ka : Int), (kb : Int), c⟩ = (va == vb) := by simp [fitsP, HVa.out, HVb.out]
    rw [hR]
    clear hR
    as_aux_lemma =>
      go_enter Tryd.func19, Tryd.ntmps19
      go_upto_region 1 with fail
      rw [← HW0.out, ← HBB3.out, ← HBB1.out]
      go_upto_region 14 with fail
      go_quiet (fail)
      go_wp2_with fail
      all_goals go_ret
      all_goals exact ⟨by first | rfl | simp, by first | exact HB0.out | exact HB0.out.drew | exact below_drewN HB0.out _⟩
  · have hn2 := hn
    simp [namedP, rdsI, writesB, nameB] at hn2
    obtain ⟨ka, rfl, hka⟩ : ∃ k : Nat, a = (k : Int) ∧ k < p.slots.length := inB_nat (by first | exact hn2 | exact hn2.1 | exact hn2.2 | exact hn2.1.1 | exact hn2.1.2 | exact hn2.2.1 | exact hn2.2.2)
    obtain ⟨kb, rfl, hkb⟩ : ∃ k : Nat, b = (k : Int) ∧ k < p.slots.length := inB_nat (by first | exact hn2 | exact hn2.1 | exact hn2.2 | exact hn2.1.1 | exact hn2.1.2 | exact hn2.2.1 | exact hn2.2.2)
    clear hn hn2
    obtain ⟨bslots, oslots, hxslots, hlslots, hcslots⟩ := HP.out.slots (by intro h; rw [h] at hka; simp at hka)
    have za := hcslots ka hka
    obtain ⟨va, hva⟩ : ∃ v, v = p.slots[ka]'hka := ⟨_, rfl⟩
    rw [← hva] at za
    have HVa : Hid (atI p.slots (ka : Int) = va) := Lib.hid (by rw [hva]; unfold atI; rw [Int.toNat_natCast, List.getD_eq_getElem?_getD, List.getElem?_eq_getElem hka]; rfl)
    have ma : (0 : Int) ≤ (ka : Int) := by omega
    have na : (ka : Int) < (p.slots.length : Int) := by omega
    clear hva
    have zb := hcslots kb hkb
    obtain ⟨vb, hvb⟩ : ∃ v, v = p.slots[kb]'hkb := ⟨_, rfl⟩
    rw [← hvb] at zb
    have HVb : Hid (atI p.slots (kb : Int) = vb) := Lib.hid (by rw [hvb]; unfold atI; rw [Int.toNat_natCast, List.getD_eq_getElem?_getD, List.getElem?_eq_getElem hkb]; rfl)
    have mb : (0 : Int) ≤ (kb : Int) := by omega
    have nb : (kb : Int) < (p.slots.length : Int) := by omega
    clear hvb
    subst hxslots
    clear hcslots
    have HKa := Lib.hid hka
    clear hka
    have HKb := Lib.hid hkb
    clear hkb
    have HLslots := Lib.hid hlslots
    clear hlslots
    have hR : fitsP p ⟨6, (ka : Int), (kb : Int), c⟩ = ((va == 1) && (vb == 1)) := by simp [fitsP, HVa.out, HVb.out]
    rw [hR]
    clear hR
    by_cases e0_ : va = 1
    · have e0 : (va == 1) = true := by simp [e0_]
      rw [e0]
      simp only [Bool.true_and, Bool.true_or]
      clear e0_
      as_aux_lemma =>
        go_enter Tryd.func19, Tryd.ntmps19
        go_upto_region 1 with fail
        rw [← HW0.out, ← HBB3.out, ← HBB1.out]
        go_wp2_with fail
        go_ret
        exact ⟨by first | rfl | simp, HB0.out⟩
    · have e0 : (va == 1) = false := by simp [e0_]
      rw [e0]
      simp only [Bool.false_and, Bool.false_or]
      clear e0_
      as_aux_lemma =>
        go_enter Tryd.func19, Tryd.ntmps19
        go_upto_region 1 with fail
        rw [← HW0.out, ← HBB3.out, ← HBB1.out]
        go_wp2_with fail
        go_ret
        exact ⟨by first | rfl | simp, HB0.out⟩
  · have hn2 := hn
    simp [namedP, rdsI, writesB, nameB] at hn2
    obtain ⟨ka, rfl, hka⟩ : ∃ k : Nat, a = (k : Int) ∧ k < p.slots.length := inB_nat (by first | exact hn2 | exact hn2.1 | exact hn2.2 | exact hn2.1.1 | exact hn2.1.2 | exact hn2.2.1 | exact hn2.2.2)
    obtain ⟨kb, rfl, hkb⟩ : ∃ k : Nat, b = (k : Int) ∧ k < p.slots.length := inB_nat (by first | exact hn2 | exact hn2.1 | exact hn2.2 | exact hn2.1.1 | exact hn2.1.2 | exact hn2.2.1 | exact hn2.2.2)
    clear hn hn2
    obtain ⟨bslots, oslots, hxslots, hlslots, hcslots⟩ := HP.out.slots (by intro h; rw [h] at hka; simp at hka)
    have za := hcslots ka hka
    obtain ⟨va, hva⟩ : ∃ v, v = p.slots[ka]'hka := ⟨_, rfl⟩
    rw [← hva] at za
    have HVa : Hid (atI p.slots (ka : Int) = va) := Lib.hid (by rw [hva]; unfold atI; rw [Int.toNat_natCast, List.getD_eq_getElem?_getD, List.getElem?_eq_getElem hka]; rfl)
    have ma : (0 : Int) ≤ (ka : Int) := by omega
    have na : (ka : Int) < (p.slots.length : Int) := by omega
    clear hva
    have zb := hcslots kb hkb
    obtain ⟨vb, hvb⟩ : ∃ v, v = p.slots[kb]'hkb := ⟨_, rfl⟩
    rw [← hvb] at zb
    have HVb : Hid (atI p.slots (kb : Int) = vb) := Lib.hid (by rw [hvb]; unfold atI; rw [Int.toNat_natCast, List.getD_eq_getElem?_getD, List.getElem?_eq_getElem hkb]; rfl)
    have mb : (0 : Int) ≤ (kb : Int) := by omega
    have nb : (kb : Int) < (p.slots.length : Int) := by omega
    clear hvb
    subst hxslots
    clear hcslots
    have HKa := Lib.hid hka
    clear hka
    have HKb := Lib.hid hkb
    clear hkb
    have HLslots := Lib.hid hlslots
    clear hlslots
    have hR : fitsP p ⟨7, (ka : Int), (kb : Int), c⟩ = ((va == 2) && (vb == 2)) := by simp [fitsP, HVa.out, HVb.out]
    rw [hR]
    clear hR
    by_cases e0_ : va = 2
    · have e0 : (va == 2) = true := by simp [e0_]
      rw [e0]
      simp only [Bool.true_and, Bool.true_or]
      clear e0_
      as_aux_lemma =>
        go_enter Tryd.func19, Tryd.ntmps19
        go_upto_region 1 with fail
        rw [← HW0.out, ← HBB3.out, ← HBB1.out]
        go_wp2_with fail
        go_ret
        exact ⟨by first | rfl | simp, HB0.out⟩
    · have e0 : (va == 2) = false := by simp [e0_]
      rw [e0]
      simp only [Bool.false_and, Bool.false_or]
      clear e0_
      as_aux_lemma =>
        go_enter Tryd.func19, Tryd.ntmps19
        go_upto_region 1 with fail
        rw [← HW0.out, ← HBB3.out, ← HBB1.out]
        go_wp2_with fail
        go_ret
        exact ⟨by first | rfl | simp, HB0.out⟩
  · have hn2 := hn
    simp [namedP, rdsI, writesB, nameB] at hn2
    obtain ⟨ka, rfl, hka⟩ : ∃ k : Nat, a = (k : Int) ∧ k < p.slots.length := inB_nat (by first | exact hn2 | exact hn2.1 | exact hn2.2 | exact hn2.1.1 | exact hn2.1.2 | exact hn2.2.1 | exact hn2.2.2)
    obtain ⟨kb, rfl, hkb⟩ : ∃ k : Nat, b = (k : Int) ∧ k < p.slots.length := inB_nat (by first | exact hn2 | exact hn2.1 | exact hn2.2 | exact hn2.1.1 | exact hn2.1.2 | exact hn2.2.1 | exact hn2.2.2)
    obtain ⟨kc, rfl, hkc⟩ : ∃ k : Nat, c = (k : Int) ∧ k < p.slots.length := inB_nat (by first | exact hn2 | exact hn2.1 | exact hn2.2 | exact hn2.1.1 | exact hn2.1.2 | exact hn2.2.1 | exact hn2.2.2)
    clear hn hn2
    obtain ⟨bslots, oslots, hxslots, hlslots, hcslots⟩ := HP.out.slots (by intro h; rw [h] at hka; simp at hka)
    have za := hcslots ka hka
    obtain ⟨va, hva⟩ : ∃ v, v = p.slots[ka]'hka := ⟨_, rfl⟩
    rw [← hva] at za
    have HVa : Hid (atI p.slots (ka : Int) = va) := Lib.hid (by rw [hva]; unfold atI; rw [Int.toNat_natCast, List.getD_eq_getElem?_getD, List.getElem?_eq_getElem hka]; rfl)
    have ma : (0 : Int) ≤ (ka : Int) := by omega
    have na : (ka : Int) < (p.slots.length : Int) := by omega
    clear hva
    have zb := hcslots kb hkb
    obtain ⟨vb, hvb⟩ : ∃ v, v = p.slots[kb]'hkb := ⟨_, rfl⟩
    rw [← hvb] at zb
    have HVb : Hid (atI p.slots (kb : Int) = vb) := Lib.hid (by rw [hvb]; unfold atI; rw [Int.toNat_natCast, List.getD_eq_getElem?_getD, List.getElem?_eq_getElem hkb]; rfl)
    have mb : (0 : Int) ≤ (kb : Int) := by omega
    have nb : (kb : Int) < (p.slots.length : Int) := by omega
    clear hvb
    have zc := hcslots kc hkc
    obtain ⟨vc, hvc⟩ : ∃ v, v = p.slots[kc]'hkc := ⟨_, rfl⟩
    rw [← hvc] at zc
    have HVc : Hid (atI p.slots (kc : Int) = vc) := Lib.hid (by rw [hvc]; unfold atI; rw [Int.toNat_natCast, List.getD_eq_getElem?_getD, List.getElem?_eq_getElem hkc]; rfl)
    have mc : (0 : Int) ≤ (kc : Int) := by omega
    have nc : (kc : Int) < (p.slots.length : Int) := by omega
    clear hvc
    subst hxslots
    clear hcslots
    have HKa := Lib.hid hka
    clear hka
    have HKb := Lib.hid hkb
    clear hkb
    have HKc := Lib.hid hkc
    clear hkc
    have HLslots := Lib.hid hlslots
    clear hlslots
    have hR : fitsP p ⟨8, (ka : Int), (kb : Int), (kc : Int)⟩ = ((va == 2) && ((vb == 2) && (vc == 2))) := by simp [fitsP, HVa.out, HVb.out, HVc.out]
    rw [hR]
    clear hR
    by_cases e0_ : va = 2
    · have e0 : (va == 2) = true := by simp [e0_]
      rw [e0]
      simp only [Bool.true_and, Bool.true_or]
      clear e0_
      by_cases e1_ : vb = 2
      · have e1 : (vb == 2) = true := by simp [e1_]
        rw [e1]
        simp only [Bool.true_and, Bool.true_or]
        clear e1_
        as_aux_lemma =>
          go_enter Tryd.func19, Tryd.ntmps19
          go_upto_region 1 with fail
          rw [← HW0.out, ← HBB3.out, ← HBB1.out]
          go_wp2_with fail
          go_ret
          exact ⟨by first | rfl | simp, HB0.out⟩
      · have e1 : (vb == 2) = false := by simp [e1_]
        rw [e1]
        simp only [Bool.false_and, Bool.false_or]
        clear e1_
        as_aux_lemma =>
          go_enter Tryd.func19, Tryd.ntmps19
          go_upto_region 1 with fail
          rw [← HW0.out, ← HBB3.out, ← HBB1.out]
          go_wp2_with fail
          go_ret
          exact ⟨by first | rfl | simp, HB0.out⟩
    · have e0 : (va == 2) = false := by simp [e0_]
      rw [e0]
      simp only [Bool.false_and, Bool.false_or]
      clear e0_
      as_aux_lemma =>
        go_enter Tryd.func19, Tryd.ntmps19
        go_upto_region 1 with fail
        rw [← HW0.out, ← HBB3.out, ← HBB1.out]
        go_wp2_with fail
        go_ret
        exact ⟨by first | rfl | simp, HB0.out⟩
  · have hn2 := hn
    simp [namedP, rdsI, writesB, nameB] at hn2
    obtain ⟨ka, rfl, hka⟩ : ∃ k : Nat, a = (k : Int) ∧ k < p.slots.length := inB_nat (by first | exact hn2 | exact hn2.1 | exact hn2.2 | exact hn2.1.1 | exact hn2.1.2 | exact hn2.2.1 | exact hn2.2.2)
    obtain ⟨kb, rfl, hkb⟩ : ∃ k : Nat, b = (k : Int) ∧ k < p.slots.length := inB_nat (by first | exact hn2 | exact hn2.1 | exact hn2.2 | exact hn2.1.1 | exact hn2.1.2 | exact hn2.2.1 | exact hn2.2.2)
    obtain ⟨kc, rfl, hkc⟩ : ∃ k : Nat, c = (k : Int) ∧ k < p.slots.length := inB_nat (by first | exact hn2 | exact hn2.1 | exact hn2.2 | exact hn2.1.1 | exact hn2.1.2 | exact hn2.2.1 | exact hn2.2.2)
    clear hn hn2
    obtain ⟨bslots, oslots, hxslots, hlslots, hcslots⟩ := HP.out.slots (by intro h; rw [h] at hka; simp at hka)
    have za := hcslots ka hka
    obtain ⟨va, hva⟩ : ∃ v, v = p.slots[ka]'hka := ⟨_, rfl⟩
    rw [← hva] at za
    have HVa : Hid (atI p.slots (ka : Int) = va) := Lib.hid (by rw [hva]; unfold atI; rw [Int.toNat_natCast, List.getD_eq_getElem?_getD, List.getElem?_eq_getElem hka]; rfl)
    have ma : (0 : Int) ≤ (ka : Int) := by omega
    have na : (ka : Int) < (p.slots.length : Int) := by omega
    clear hva
    have zb := hcslots kb hkb
    obtain ⟨vb, hvb⟩ : ∃ v, v = p.slots[kb]'hkb := ⟨_, rfl⟩
    rw [← hvb] at zb
    have HVb : Hid (atI p.slots (kb : Int) = vb) := Lib.hid (by rw [hvb]; unfold atI; rw [Int.toNat_natCast, List.getD_eq_getElem?_getD, List.getElem?_eq_getElem hkb]; rfl)
    have mb : (0 : Int) ≤ (kb : Int) := by omega
    have nb : (kb : Int) < (p.slots.length : Int) := by omega
    clear hvb
    have zc := hcslots kc hkc
    obtain ⟨vc, hvc⟩ : ∃ v, v = p.slots[kc]'hkc := ⟨_, rfl⟩
    rw [← hvc] at zc
    have HVc : Hid (atI p.slots (kc : Int) = vc) := Lib.hid (by rw [hvc]; unfold atI; rw [Int.toNat_natCast, List.getD_eq_getElem?_getD, List.getElem?_eq_getElem hkc]; rfl)
    have mc : (0 : Int) ≤ (kc : Int) := by omega
    have nc : (kc : Int) < (p.slots.length : Int) := by omega
    clear hvc
    subst hxslots
    clear hcslots
    have HKa := Lib.hid hka
    clear hka
    have HKb := Lib.hid hkb
    clear hkb
    have HKc := Lib.hid hkc
    clear hkc
    have HLslots := Lib.hid hlslots
    clear hlslots
    have hR : fitsP p ⟨9, (ka : Int), (kb : Int), (kc : Int)⟩ = ((va == 2) && ((vb == 2) && (vc == 2))) := by simp [fitsP, HVa.out, HVb.out, HVc.out]
    rw [hR]
    clear hR
    by_cases e0_ : va = 2
    · have e0 : (va == 2) = true := by simp [e0_]
      rw [e0]
      simp only [Bool.true_and, Bool.true_or]
      clear e0_
      by_cases e1_ : vb = 2
      · have e1 : (vb == 2) = true := by simp [e1_]
        rw [e1]
        simp only [Bool.true_and, Bool.true_or]
        clear e1_
        as_aux_lemma =>
          go_enter Tryd.func19, Tryd.ntmps19
          go_upto_region 1 with fail
          rw [← HW0.out, ← HBB3.out, ← HBB1.out]
          go_wp2_with fail
          go_ret
          exact ⟨by first | rfl | simp, HB0.out⟩
      · have e1 : (vb == 2) = false := by simp [e1_]
        rw [e1]
        simp only [Bool.false_and, Bool.false_or]
        clear e1_
        as_aux_lemma =>
          go_enter Tryd.func19, Tryd.ntmps19
          go_upto_region 1 with fail
          rw [← HW0.out, ← HBB3.out, ← HBB1.out]
          go_wp2_with fail
          go_ret
          exact ⟨by first | rfl | simp, HB0.out⟩
    · have e0 : (va == 2) = false := by simp [e0_]
      rw [e0]
      simp only [Bool.false_and, Bool.false_or]
      clear e0_
      as_aux_lemma =>
        go_enter Tryd.func19, Tryd.ntmps19
        go_upto_region 1 with fail
        rw [← HW0.out, ← HBB3.out, ← HBB1.out]
        go_wp2_with fail
        go_ret
        exact ⟨by first | rfl | simp, HB0.out⟩
  · have hn2 := hn
    simp [namedP, rdsI, writesB, nameB] at hn2
    obtain ⟨ka, rfl, hka⟩ : ∃ k : Nat, a = (k : Int) ∧ k < p.slots.length := inB_nat (by first | exact hn2 | exact hn2.1 | exact hn2.2 | exact hn2.1.1 | exact hn2.1.2 | exact hn2.2.1 | exact hn2.2.2)
    obtain ⟨kb, rfl, hkb⟩ : ∃ k : Nat, b = (k : Int) ∧ k < p.slots.length := inB_nat (by first | exact hn2 | exact hn2.1 | exact hn2.2 | exact hn2.1.1 | exact hn2.1.2 | exact hn2.2.1 | exact hn2.2.2)
    obtain ⟨kc, rfl, hkc⟩ : ∃ k : Nat, c = (k : Int) ∧ k < p.slots.length := inB_nat (by first | exact hn2 | exact hn2.1 | exact hn2.2 | exact hn2.1.1 | exact hn2.1.2 | exact hn2.2.1 | exact hn2.2.2)
    clear hn hn2
    obtain ⟨bslots, oslots, hxslots, hlslots, hcslots⟩ := HP.out.slots (by intro h; rw [h] at hka; simp at hka)
    have za := hcslots ka hka
    obtain ⟨va, hva⟩ : ∃ v, v = p.slots[ka]'hka := ⟨_, rfl⟩
    rw [← hva] at za
    have HVa : Hid (atI p.slots (ka : Int) = va) := Lib.hid (by rw [hva]; unfold atI; rw [Int.toNat_natCast, List.getD_eq_getElem?_getD, List.getElem?_eq_getElem hka]; rfl)
    have ma : (0 : Int) ≤ (ka : Int) := by omega
    have na : (ka : Int) < (p.slots.length : Int) := by omega
    clear hva
    have zb := hcslots kb hkb
    obtain ⟨vb, hvb⟩ : ∃ v, v = p.slots[kb]'hkb := ⟨_, rfl⟩
    rw [← hvb] at zb
    have HVb : Hid (atI p.slots (kb : Int) = vb) := Lib.hid (by rw [hvb]; unfold atI; rw [Int.toNat_natCast, List.getD_eq_getElem?_getD, List.getElem?_eq_getElem hkb]; rfl)
    have mb : (0 : Int) ≤ (kb : Int) := by omega
    have nb : (kb : Int) < (p.slots.length : Int) := by omega
    clear hvb
    have zc := hcslots kc hkc
    obtain ⟨vc, hvc⟩ : ∃ v, v = p.slots[kc]'hkc := ⟨_, rfl⟩
    rw [← hvc] at zc
    have HVc : Hid (atI p.slots (kc : Int) = vc) := Lib.hid (by rw [hvc]; unfold atI; rw [Int.toNat_natCast, List.getD_eq_getElem?_getD, List.getElem?_eq_getElem hkc]; rfl)
    have mc : (0 : Int) ≤ (kc : Int) := by omega
    have nc : (kc : Int) < (p.slots.length : Int) := by omega
    clear hvc
    subst hxslots
    clear hcslots
    have HKa := Lib.hid hka
    clear hka
    have HKb := Lib.hid hkb
    clear hkb
    have HKc := Lib.hid hkc
    clear hkc
    have HLslots := Lib.hid hlslots
    clear hlslots
    have hR : fitsP p ⟨10, (ka : Int), (kb : Int), (kc : Int)⟩ = ((va == 2) && ((vb == 2) && (vc == 2))) := by simp [fitsP, HVa.out, HVb.out, HVc.out]
    rw [hR]
    clear hR
    by_cases e0_ : va = 2
    · have e0 : (va == 2) = true := by simp [e0_]
      rw [e0]
      simp only [Bool.true_and, Bool.true_or]
      clear e0_
      by_cases e1_ : vb = 2
      · have e1 : (vb == 2) = true := by simp [e1_]
        rw [e1]
        simp only [Bool.true_and, Bool.true_or]
        clear e1_
        as_aux_lemma =>
          go_enter Tryd.func19, Tryd.ntmps19
          go_upto_region 1 with fail
          rw [← HW0.out, ← HBB3.out, ← HBB1.out]
          go_wp2_with fail
          go_ret
          exact ⟨by first | rfl | simp, HB0.out⟩
      · have e1 : (vb == 2) = false := by simp [e1_]
        rw [e1]
        simp only [Bool.false_and, Bool.false_or]
        clear e1_
        as_aux_lemma =>
          go_enter Tryd.func19, Tryd.ntmps19
          go_upto_region 1 with fail
          rw [← HW0.out, ← HBB3.out, ← HBB1.out]
          go_wp2_with fail
          go_ret
          exact ⟨by first | rfl | simp, HB0.out⟩
    · have e0 : (va == 2) = false := by simp [e0_]
      rw [e0]
      simp only [Bool.false_and, Bool.false_or]
      clear e0_
      as_aux_lemma =>
        go_enter Tryd.func19, Tryd.ntmps19
        go_upto_region 1 with fail
        rw [← HW0.out, ← HBB3.out, ← HBB1.out]
        go_wp2_with fail
        go_ret
        exact ⟨by first | rfl | simp, HB0.out⟩
  · have hn2 := hn
    simp [namedP, rdsI, writesB, nameB] at hn2
    obtain ⟨ka, rfl, hka⟩ : ∃ k : Nat, a = (k : Int) ∧ k < p.slots.length := inB_nat (by first | exact hn2 | exact hn2.1 | exact hn2.2 | exact hn2.1.1 | exact hn2.1.2 | exact hn2.2.1 | exact hn2.2.2)
    obtain ⟨kb, rfl, hkb⟩ : ∃ k : Nat, b = (k : Int) ∧ k < p.slots.length := inB_nat (by first | exact hn2 | exact hn2.1 | exact hn2.2 | exact hn2.1.1 | exact hn2.1.2 | exact hn2.2.1 | exact hn2.2.2)
    obtain ⟨kc, rfl, hkc⟩ : ∃ k : Nat, c = (k : Int) ∧ k < p.slots.length := inB_nat (by first | exact hn2 | exact hn2.1 | exact hn2.2 | exact hn2.1.1 | exact hn2.1.2 | exact hn2.2.1 | exact hn2.2.2)
    clear hn hn2
    obtain ⟨bslots, oslots, hxslots, hlslots, hcslots⟩ := HP.out.slots (by intro h; rw [h] at hka; simp at hka)
    have za := hcslots ka hka
    obtain ⟨va, hva⟩ : ∃ v, v = p.slots[ka]'hka := ⟨_, rfl⟩
    rw [← hva] at za
    have HVa : Hid (atI p.slots (ka : Int) = va) := Lib.hid (by rw [hva]; unfold atI; rw [Int.toNat_natCast, List.getD_eq_getElem?_getD, List.getElem?_eq_getElem hka]; rfl)
    have ma : (0 : Int) ≤ (ka : Int) := by omega
    have na : (ka : Int) < (p.slots.length : Int) := by omega
    clear hva
    have zb := hcslots kb hkb
    obtain ⟨vb, hvb⟩ : ∃ v, v = p.slots[kb]'hkb := ⟨_, rfl⟩
    rw [← hvb] at zb
    have HVb : Hid (atI p.slots (kb : Int) = vb) := Lib.hid (by rw [hvb]; unfold atI; rw [Int.toNat_natCast, List.getD_eq_getElem?_getD, List.getElem?_eq_getElem hkb]; rfl)
    have mb : (0 : Int) ≤ (kb : Int) := by omega
    have nb : (kb : Int) < (p.slots.length : Int) := by omega
    clear hvb
    have zc := hcslots kc hkc
    obtain ⟨vc, hvc⟩ : ∃ v, v = p.slots[kc]'hkc := ⟨_, rfl⟩
    rw [← hvc] at zc
    have HVc : Hid (atI p.slots (kc : Int) = vc) := Lib.hid (by rw [hvc]; unfold atI; rw [Int.toNat_natCast, List.getD_eq_getElem?_getD, List.getElem?_eq_getElem hkc]; rfl)
    have mc : (0 : Int) ≤ (kc : Int) := by omega
    have nc : (kc : Int) < (p.slots.length : Int) := by omega
    clear hvc
    subst hxslots
    clear hcslots
    have HKa := Lib.hid hka
    clear hka
    have HKb := Lib.hid hkb
    clear hkb
    have HKc := Lib.hid hkc
    clear hkc
    have HLslots := Lib.hid hlslots
    clear hlslots
    have hR : fitsP p ⟨11, (ka : Int), (kb : Int), (kc : Int)⟩ = ((va == 2) && ((vb == 2) && (vc == 2))) := by simp [fitsP, HVa.out, HVb.out, HVc.out]
    rw [hR]
    clear hR
    by_cases e0_ : va = 2
    · have e0 : (va == 2) = true := by simp [e0_]
      rw [e0]
      simp only [Bool.true_and, Bool.true_or]
      clear e0_
      by_cases e1_ : vb = 2
      · have e1 : (vb == 2) = true := by simp [e1_]
        rw [e1]
        simp only [Bool.true_and, Bool.true_or]
        clear e1_
        as_aux_lemma =>
          go_enter Tryd.func19, Tryd.ntmps19
          go_upto_region 1 with fail
          rw [← HW0.out, ← HBB3.out, ← HBB1.out]
          go_wp2_with fail
          go_ret
          exact ⟨by first | rfl | simp, HB0.out⟩
      · have e1 : (vb == 2) = false := by simp [e1_]
        rw [e1]
        simp only [Bool.false_and, Bool.false_or]
        clear e1_
        as_aux_lemma =>
          go_enter Tryd.func19, Tryd.ntmps19
          go_upto_region 1 with fail
          rw [← HW0.out, ← HBB3.out, ← HBB1.out]
          go_wp2_with fail
          go_ret
          exact ⟨by first | rfl | simp, HB0.out⟩
    · have e0 : (va == 2) = false := by simp [e0_]
      rw [e0]
      simp only [Bool.false_and, Bool.false_or]
      clear e0_
      as_aux_lemma =>
        go_enter Tryd.func19, Tryd.ntmps19
        go_upto_region 1 with fail
        rw [← HW0.out, ← HBB3.out, ← HBB1.out]
        go_wp2_with fail
        go_ret
        exact ⟨by first | rfl | simp, HB0.out⟩
  · have hn2 := hn
    simp [namedP, rdsI, writesB, nameB] at hn2
    obtain ⟨ka, rfl, hka⟩ : ∃ k : Nat, a = (k : Int) ∧ k < p.slots.length := inB_nat (by first | exact hn2 | exact hn2.1 | exact hn2.2 | exact hn2.1.1 | exact hn2.1.2 | exact hn2.2.1 | exact hn2.2.2)
    obtain ⟨kb, rfl, hkb⟩ : ∃ k : Nat, b = (k : Int) ∧ k < p.slots.length := inB_nat (by first | exact hn2 | exact hn2.1 | exact hn2.2 | exact hn2.1.1 | exact hn2.1.2 | exact hn2.2.1 | exact hn2.2.2)
    obtain ⟨kc, rfl, hkc⟩ : ∃ k : Nat, c = (k : Int) ∧ k < p.slots.length := inB_nat (by first | exact hn2 | exact hn2.1 | exact hn2.2 | exact hn2.1.1 | exact hn2.1.2 | exact hn2.2.1 | exact hn2.2.2)
    clear hn hn2
    obtain ⟨bslots, oslots, hxslots, hlslots, hcslots⟩ := HP.out.slots (by intro h; rw [h] at hka; simp at hka)
    have za := hcslots ka hka
    obtain ⟨va, hva⟩ : ∃ v, v = p.slots[ka]'hka := ⟨_, rfl⟩
    rw [← hva] at za
    have HVa : Hid (atI p.slots (ka : Int) = va) := Lib.hid (by rw [hva]; unfold atI; rw [Int.toNat_natCast, List.getD_eq_getElem?_getD, List.getElem?_eq_getElem hka]; rfl)
    have ma : (0 : Int) ≤ (ka : Int) := by omega
    have na : (ka : Int) < (p.slots.length : Int) := by omega
    clear hva
    have zb := hcslots kb hkb
    obtain ⟨vb, hvb⟩ : ∃ v, v = p.slots[kb]'hkb := ⟨_, rfl⟩
    rw [← hvb] at zb
    have HVb : Hid (atI p.slots (kb : Int) = vb) := Lib.hid (by rw [hvb]; unfold atI; rw [Int.toNat_natCast, List.getD_eq_getElem?_getD, List.getElem?_eq_getElem hkb]; rfl)
    have mb : (0 : Int) ≤ (kb : Int) := by omega
    have nb : (kb : Int) < (p.slots.length : Int) := by omega
    clear hvb
    have zc := hcslots kc hkc
    obtain ⟨vc, hvc⟩ : ∃ v, v = p.slots[kc]'hkc := ⟨_, rfl⟩
    rw [← hvc] at zc
    have HVc : Hid (atI p.slots (kc : Int) = vc) := Lib.hid (by rw [hvc]; unfold atI; rw [Int.toNat_natCast, List.getD_eq_getElem?_getD, List.getElem?_eq_getElem hkc]; rfl)
    have mc : (0 : Int) ≤ (kc : Int) := by omega
    have nc : (kc : Int) < (p.slots.length : Int) := by omega
    clear hvc
    subst hxslots
    clear hcslots
    have HKa := Lib.hid hka
    clear hka
    have HKb := Lib.hid hkb
    clear hkb
    have HKc := Lib.hid hkc
    clear hkc
    have HLslots := Lib.hid hlslots
    clear hlslots
    have hR : fitsP p ⟨12, (ka : Int), (kb : Int), (kc : Int)⟩ = ((va == 2) && ((vb == 2) && (vc == 2))) := by simp [fitsP, HVa.out, HVb.out, HVc.out]
    rw [hR]
    clear hR
    by_cases e0_ : va = 2
    · have e0 : (va == 2) = true := by simp [e0_]
      rw [e0]
      simp only [Bool.true_and, Bool.true_or]
      clear e0_
      by_cases e1_ : vb = 2
      · have e1 : (vb == 2) = true := by simp [e1_]
        rw [e1]
        simp only [Bool.true_and, Bool.true_or]
        clear e1_
        as_aux_lemma =>
          go_enter Tryd.func19, Tryd.ntmps19
          go_upto_region 1 with fail
          rw [← HW0.out, ← HBB3.out, ← HBB1.out]
          go_wp2_with fail
          go_ret
          exact ⟨by first | rfl | simp, HB0.out⟩
      · have e1 : (vb == 2) = false := by simp [e1_]
        rw [e1]
        simp only [Bool.false_and, Bool.false_or]
        clear e1_
        as_aux_lemma =>
          go_enter Tryd.func19, Tryd.ntmps19
          go_upto_region 1 with fail
          rw [← HW0.out, ← HBB3.out, ← HBB1.out]
          go_wp2_with fail
          go_ret
          exact ⟨by first | rfl | simp, HB0.out⟩
    · have e0 : (va == 2) = false := by simp [e0_]
      rw [e0]
      simp only [Bool.false_and, Bool.false_or]
      clear e0_
      as_aux_lemma =>
        go_enter Tryd.func19, Tryd.ntmps19
        go_upto_region 1 with fail
        rw [← HW0.out, ← HBB3.out, ← HBB1.out]
        go_wp2_with fail
        go_ret
        exact ⟨by first | rfl | simp, HB0.out⟩
  · have hn2 := hn
    simp [namedP, rdsI, writesB, nameB] at hn2
    obtain ⟨ka, rfl, hka⟩ : ∃ k : Nat, a = (k : Int) ∧ k < p.slots.length := inB_nat (by first | exact hn2 | exact hn2.1 | exact hn2.2 | exact hn2.1.1 | exact hn2.1.2 | exact hn2.2.1 | exact hn2.2.2)
    obtain ⟨kb, rfl, hkb⟩ : ∃ k : Nat, b = (k : Int) ∧ k < p.slots.length := inB_nat (by first | exact hn2 | exact hn2.1 | exact hn2.2 | exact hn2.1.1 | exact hn2.1.2 | exact hn2.2.1 | exact hn2.2.2)
    obtain ⟨kc, rfl, hkc⟩ : ∃ k : Nat, c = (k : Int) ∧ k < p.slots.length := inB_nat (by first | exact hn2 | exact hn2.1 | exact hn2.2 | exact hn2.1.1 | exact hn2.1.2 | exact hn2.2.1 | exact hn2.2.2)
    clear hn hn2
    obtain ⟨bslots, oslots, hxslots, hlslots, hcslots⟩ := HP.out.slots (by intro h; rw [h] at hka; simp at hka)
    have za := hcslots ka hka
    obtain ⟨va, hva⟩ : ∃ v, v = p.slots[ka]'hka := ⟨_, rfl⟩
    rw [← hva] at za
    have HVa : Hid (atI p.slots (ka : Int) = va) := Lib.hid (by rw [hva]; unfold atI; rw [Int.toNat_natCast, List.getD_eq_getElem?_getD, List.getElem?_eq_getElem hka]; rfl)
    have ma : (0 : Int) ≤ (ka : Int) := by omega
    have na : (ka : Int) < (p.slots.length : Int) := by omega
    clear hva
    have zb := hcslots kb hkb
    obtain ⟨vb, hvb⟩ : ∃ v, v = p.slots[kb]'hkb := ⟨_, rfl⟩
    rw [← hvb] at zb
    have HVb : Hid (atI p.slots (kb : Int) = vb) := Lib.hid (by rw [hvb]; unfold atI; rw [Int.toNat_natCast, List.getD_eq_getElem?_getD, List.getElem?_eq_getElem hkb]; rfl)
    have mb : (0 : Int) ≤ (kb : Int) := by omega
    have nb : (kb : Int) < (p.slots.length : Int) := by omega
    clear hvb
    have zc := hcslots kc hkc
    obtain ⟨vc, hvc⟩ : ∃ v, v = p.slots[kc]'hkc := ⟨_, rfl⟩
    rw [← hvc] at zc
    have HVc : Hid (atI p.slots (kc : Int) = vc) := Lib.hid (by rw [hvc]; unfold atI; rw [Int.toNat_natCast, List.getD_eq_getElem?_getD, List.getElem?_eq_getElem hkc]; rfl)
    have mc : (0 : Int) ≤ (kc : Int) := by omega
    have nc : (kc : Int) < (p.slots.length : Int) := by omega
    clear hvc
    subst hxslots
    clear hcslots
    have HKa := Lib.hid hka
    clear hka
    have HKb := Lib.hid hkb
    clear hkb
    have HKc := Lib.hid hkc
    clear hkc
    have HLslots := Lib.hid hlslots
    clear hlslots
    have hR : fitsP p ⟨13, (ka : Int), (kb : Int), (kc : Int)⟩ = ((va == 1) && (vb == vc)) := by simp [fitsP, HVa.out, HVb.out, HVc.out]
    rw [hR]
    clear hR
    by_cases e0_ : va = 1
    · have e0 : (va == 1) = true := by simp [e0_]
      rw [e0]
      simp only [Bool.true_and, Bool.true_or]
      clear e0_
      as_aux_lemma =>
        go_enter Tryd.func19, Tryd.ntmps19
        go_upto_region 1 with fail
        rw [← HW0.out, ← HBB3.out, ← HBB1.out]
        go_upto_region 22 with fail
        go_quiet (fail)
        go_wp2_with fail
        all_goals go_ret
        all_goals exact ⟨by first | rfl | simp, by first | exact HB0.out | exact HB0.out.drew | exact below_drewN HB0.out _⟩
    · have e0 : (va == 1) = false := by simp [e0_]
      rw [e0]
      simp only [Bool.false_and, Bool.false_or]
      clear e0_
      as_aux_lemma =>
        go_enter Tryd.func19, Tryd.ntmps19
        go_upto_region 1 with fail
        rw [← HW0.out, ← HBB3.out, ← HBB1.out]
        go_upto_region 22 with fail
        go_quiet (fail)
        go_wp2_with fail
        all_goals go_ret
        all_goals exact ⟨by first | rfl | simp, by first | exact HB0.out | exact HB0.out.drew | exact below_drewN HB0.out _⟩
  · have hn2 := hn
    simp [namedP, rdsI, writesB, nameB] at hn2
    obtain ⟨ka, rfl, hka⟩ : ∃ k : Nat, a = (k : Int) ∧ k < p.slots.length := inB_nat (by first | exact hn2 | exact hn2.1 | exact hn2.2 | exact hn2.1.1 | exact hn2.1.2 | exact hn2.2.1 | exact hn2.2.2)
    obtain ⟨kb, rfl, hkb⟩ : ∃ k : Nat, b = (k : Int) ∧ k < p.slots.length := inB_nat (by first | exact hn2 | exact hn2.1 | exact hn2.2 | exact hn2.1.1 | exact hn2.1.2 | exact hn2.2.1 | exact hn2.2.2)
    obtain ⟨kc, rfl, hkc⟩ : ∃ k : Nat, c = (k : Int) ∧ k < p.slots.length := inB_nat (by first | exact hn2 | exact hn2.1 | exact hn2.2 | exact hn2.1.1 | exact hn2.1.2 | exact hn2.2.1 | exact hn2.2.2)
    clear hn hn2
    obtain ⟨bslots, oslots, hxslots, hlslots, hcslots⟩ := HP.out.slots (by intro h; rw [h] at hka; simp at hka)
    have za := hcslots ka hka
    obtain ⟨va, hva⟩ : ∃ v, v = p.slots[ka]'hka := ⟨_, rfl⟩
    rw [← hva] at za
    have HVa : Hid (atI p.slots (ka : Int) = va) := Lib.hid (by rw [hva]; unfold atI; rw [Int.toNat_natCast, List.getD_eq_getElem?_getD, List.getElem?_eq_getElem hka]; rfl)
    have ma : (0 : Int) ≤ (ka : Int) := by omega
    have na : (ka : Int) < (p.slots.length : Int) := by omega
    clear hva
    have zb := hcslots kb hkb
    obtain ⟨vb, hvb⟩ : ∃ v, v = p.slots[kb]'hkb := ⟨_, rfl⟩
    rw [← hvb] at zb
    have HVb : Hid (atI p.slots (kb : Int) = vb) := Lib.hid (by rw [hvb]; unfold atI; rw [Int.toNat_natCast, List.getD_eq_getElem?_getD, List.getElem?_eq_getElem hkb]; rfl)
    have mb : (0 : Int) ≤ (kb : Int) := by omega
    have nb : (kb : Int) < (p.slots.length : Int) := by omega
    clear hvb
    have zc := hcslots kc hkc
    obtain ⟨vc, hvc⟩ : ∃ v, v = p.slots[kc]'hkc := ⟨_, rfl⟩
    rw [← hvc] at zc
    have HVc : Hid (atI p.slots (kc : Int) = vc) := Lib.hid (by rw [hvc]; unfold atI; rw [Int.toNat_natCast, List.getD_eq_getElem?_getD, List.getElem?_eq_getElem hkc]; rfl)
    have mc : (0 : Int) ≤ (kc : Int) := by omega
    have nc : (kc : Int) < (p.slots.length : Int) := by omega
    clear hvc
    subst hxslots
    clear hcslots
    have HKa := Lib.hid hka
    clear hka
    have HKb := Lib.hid hkb
    clear hkb
    have HKc := Lib.hid hkc
    clear hkc
    have HLslots := Lib.hid hlslots
    clear hlslots
    have hR : fitsP p ⟨14, (ka : Int), (kb : Int), (kc : Int)⟩ = ((va == 1) && ((vb == 2) && (vc == 2))) := by simp [fitsP, HVa.out, HVb.out, HVc.out]
    rw [hR]
    clear hR
    by_cases e0_ : va = 1
    · have e0 : (va == 1) = true := by simp [e0_]
      rw [e0]
      simp only [Bool.true_and, Bool.true_or]
      clear e0_
      by_cases e1_ : vb = 2
      · have e1 : (vb == 2) = true := by simp [e1_]
        rw [e1]
        simp only [Bool.true_and, Bool.true_or]
        clear e1_
        as_aux_lemma =>
          go_enter Tryd.func19, Tryd.ntmps19
          go_upto_region 1 with fail
          rw [← HW0.out, ← HBB3.out, ← HBB1.out]
          go_wp2_with fail
          go_ret
          exact ⟨by first | rfl | simp, HB0.out⟩
      · have e1 : (vb == 2) = false := by simp [e1_]
        rw [e1]
        simp only [Bool.false_and, Bool.false_or]
        clear e1_
        as_aux_lemma =>
          go_enter Tryd.func19, Tryd.ntmps19
          go_upto_region 1 with fail
          rw [← HW0.out, ← HBB3.out, ← HBB1.out]
          go_wp2_with fail
          go_ret
          exact ⟨by first | rfl | simp, HB0.out⟩
    · have e0 : (va == 1) = false := by simp [e0_]
      rw [e0]
      simp only [Bool.false_and, Bool.false_or]
      clear e0_
      as_aux_lemma =>
        go_enter Tryd.func19, Tryd.ntmps19
        go_upto_region 1 with fail
        rw [← HW0.out, ← HBB3.out, ← HBB1.out]
        go_wp2_with fail
        go_ret
        exact ⟨by first | rfl | simp, HB0.out⟩
  · have hn2 := hn
    simp [namedP, rdsI, writesB, nameB] at hn2
    obtain ⟨ka, rfl, hka⟩ : ∃ k : Nat, a = (k : Int) ∧ k < p.slots.length := inB_nat (by first | exact hn2 | exact hn2.1 | exact hn2.2 | exact hn2.1.1 | exact hn2.1.2 | exact hn2.2.1 | exact hn2.2.2)
    obtain ⟨kb, rfl, hkb⟩ : ∃ k : Nat, b = (k : Int) ∧ k < p.slots.length := inB_nat (by first | exact hn2 | exact hn2.1 | exact hn2.2 | exact hn2.1.1 | exact hn2.1.2 | exact hn2.2.1 | exact hn2.2.2)
    obtain ⟨kc, rfl, hkc⟩ : ∃ k : Nat, c = (k : Int) ∧ k < p.slots.length := inB_nat (by first | exact hn2 | exact hn2.1 | exact hn2.2 | exact hn2.1.1 | exact hn2.1.2 | exact hn2.2.1 | exact hn2.2.2)
    clear hn hn2
    obtain ⟨bslots, oslots, hxslots, hlslots, hcslots⟩ := HP.out.slots (by intro h; rw [h] at hka; simp at hka)
    have za := hcslots ka hka
    obtain ⟨va, hva⟩ : ∃ v, v = p.slots[ka]'hka := ⟨_, rfl⟩
    rw [← hva] at za
    have HVa : Hid (atI p.slots (ka : Int) = va) := Lib.hid (by rw [hva]; unfold atI; rw [Int.toNat_natCast, List.getD_eq_getElem?_getD, List.getElem?_eq_getElem hka]; rfl)
    have ma : (0 : Int) ≤ (ka : Int) := by omega
    have na : (ka : Int) < (p.slots.length : Int) := by omega
    clear hva
    have zb := hcslots kb hkb
    obtain ⟨vb, hvb⟩ : ∃ v, v = p.slots[kb]'hkb := ⟨_, rfl⟩
    rw [← hvb] at zb
    have HVb : Hid (atI p.slots (kb : Int) = vb) := Lib.hid (by rw [hvb]; unfold atI; rw [Int.toNat_natCast, List.getD_eq_getElem?_getD, List.getElem?_eq_getElem hkb]; rfl)
    have mb : (0 : Int) ≤ (kb : Int) := by omega
    have nb : (kb : Int) < (p.slots.length : Int) := by omega
    clear hvb
    have zc := hcslots kc hkc
    obtain ⟨vc, hvc⟩ : ∃ v, v = p.slots[kc]'hkc := ⟨_, rfl⟩
    rw [← hvc] at zc
    have HVc : Hid (atI p.slots (kc : Int) = vc) := Lib.hid (by rw [hvc]; unfold atI; rw [Int.toNat_natCast, List.getD_eq_getElem?_getD, List.getElem?_eq_getElem hkc]; rfl)
    have mc : (0 : Int) ≤ (kc : Int) := by omega
    have nc : (kc : Int) < (p.slots.length : Int) := by omega
    clear hvc
    subst hxslots
    clear hcslots
    have HKa := Lib.hid hka
    clear hka
    have HKb := Lib.hid hkb
    clear hkb
    have HKc := Lib.hid hkc
    clear hkc
    have HLslots := Lib.hid hlslots
    clear hlslots
    have hR : fitsP p ⟨15, (ka : Int), (kb : Int), (kc : Int)⟩ = ((va == 1) && ((vb == 2) && (vc == 2))) := by simp [fitsP, HVa.out, HVb.out, HVc.out]
    rw [hR]
    clear hR
    by_cases e0_ : va = 1
    · have e0 : (va == 1) = true := by simp [e0_]
      rw [e0]
      simp only [Bool.true_and, Bool.true_or]
      clear e0_
      by_cases e1_ : vb = 2
      · have e1 : (vb == 2) = true := by simp [e1_]
        rw [e1]
        simp only [Bool.true_and, Bool.true_or]
        clear e1_
        as_aux_lemma =>
          go_enter Tryd.func19, Tryd.ntmps19
          go_upto_region 1 with fail
          rw [← HW0.out, ← HBB3.out, ← HBB1.out]
          go_wp2_with fail
          go_ret
          exact ⟨by first | rfl | simp, HB0.out⟩
      · have e1 : (vb == 2) = false := by simp [e1_]
        rw [e1]
        simp only [Bool.false_and, Bool.false_or]
        clear e1_
        as_aux_lemma =>
          go_enter Tryd.func19, Tryd.ntmps19
          go_upto_region 1 with fail
          rw [← HW0.out, ← HBB3.out, ← HBB1.out]
          go_wp2_with fail
          go_ret
          exact ⟨by first | rfl | simp, HB0.out⟩
    · have e0 : (va == 1) = false := by simp [e0_]
      rw [e0]
      simp only [Bool.false_and, Bool.false_or]
      clear e0_
      as_aux_lemma =>
        go_enter Tryd.func19, Tryd.ntmps19
        go_upto_region 1 with fail
        rw [← HW0.out, ← HBB3.out, ← HBB1.out]
        go_wp2_with fail
        go_ret
        exact ⟨by first | rfl | simp, HB0.out⟩
  · have hn2 := hn
    simp [namedP, rdsI, writesB, nameB] at hn2
    obtain ⟨ka, rfl, hka⟩ : ∃ k : Nat, a = (k : Int) ∧ k < p.slots.length := inB_nat (by first | exact hn2 | exact hn2.1 | exact hn2.2 | exact hn2.1.1 | exact hn2.1.2 | exact hn2.2.1 | exact hn2.2.2)
    obtain ⟨kb, rfl, hkb⟩ : ∃ k : Nat, b = (k : Int) ∧ k < p.slots.length := inB_nat (by first | exact hn2 | exact hn2.1 | exact hn2.2 | exact hn2.1.1 | exact hn2.1.2 | exact hn2.2.1 | exact hn2.2.2)
    obtain ⟨kc, rfl, hkc⟩ : ∃ k : Nat, c = (k : Int) ∧ k < p.slots.length := inB_nat (by first | exact hn2 | exact hn2.1 | exact hn2.2 | exact hn2.1.1 | exact hn2.1.2 | exact hn2.2.1 | exact hn2.2.2)
    clear hn hn2
    obtain ⟨bslots, oslots, hxslots, hlslots, hcslots⟩ := HP.out.slots (by intro h; rw [h] at hka; simp at hka)
    have za := hcslots ka hka
    obtain ⟨va, hva⟩ : ∃ v, v = p.slots[ka]'hka := ⟨_, rfl⟩
    rw [← hva] at za
    have HVa : Hid (atI p.slots (ka : Int) = va) := Lib.hid (by rw [hva]; unfold atI; rw [Int.toNat_natCast, List.getD_eq_getElem?_getD, List.getElem?_eq_getElem hka]; rfl)
    have ma : (0 : Int) ≤ (ka : Int) := by omega
    have na : (ka : Int) < (p.slots.length : Int) := by omega
    clear hva
    have zb := hcslots kb hkb
    obtain ⟨vb, hvb⟩ : ∃ v, v = p.slots[kb]'hkb := ⟨_, rfl⟩
    rw [← hvb] at zb
    have HVb : Hid (atI p.slots (kb : Int) = vb) := Lib.hid (by rw [hvb]; unfold atI; rw [Int.toNat_natCast, List.getD_eq_getElem?_getD, List.getElem?_eq_getElem hkb]; rfl)
    have mb : (0 : Int) ≤ (kb : Int) := by omega
    have nb : (kb : Int) < (p.slots.length : Int) := by omega
    clear hvb
    have zc := hcslots kc hkc
    obtain ⟨vc, hvc⟩ : ∃ v, v = p.slots[kc]'hkc := ⟨_, rfl⟩
    rw [← hvc] at zc
    have HVc : Hid (atI p.slots (kc : Int) = vc) := Lib.hid (by rw [hvc]; unfold atI; rw [Int.toNat_natCast, List.getD_eq_getElem?_getD, List.getElem?_eq_getElem hkc]; rfl)
    have mc : (0 : Int) ≤ (kc : Int) := by omega
    have nc : (kc : Int) < (p.slots.length : Int) := by omega
    clear hvc
    subst hxslots
    clear hcslots
    have HKa := Lib.hid hka
    clear hka
    have HKb := Lib.hid hkb
    clear hkb
    have HKc := Lib.hid hkc
    clear hkc
    have HLslots := Lib.hid hlslots
    clear hlslots
    have hR : fitsP p ⟨16, (ka : Int), (kb : Int), (kc : Int)⟩ = ((va == 1) && ((vb == 1) && (vc == 1))) := by simp [fitsP, HVa.out, HVb.out, HVc.out]
    rw [hR]
    clear hR
    by_cases e0_ : va = 1
    · have e0 : (va == 1) = true := by simp [e0_]
      rw [e0]
      simp only [Bool.true_and, Bool.true_or]
      clear e0_
      by_cases e1_ : vb = 1
      · have e1 : (vb == 1) = true := by simp [e1_]
        rw [e1]
        simp only [Bool.true_and, Bool.true_or]
        clear e1_
        as_aux_lemma =>
          go_enter Tryd.func19, Tryd.ntmps19
          go_upto_region 1 with fail
          rw [← HW0.out, ← HBB3.out, ← HBB1.out]
          go_wp2_with fail
          go_ret
          exact ⟨by first | rfl | simp, HB0.out⟩
      · have e1 : (vb == 1) = false := by simp [e1_]
        rw [e1]
        simp only [Bool.false_and, Bool.false_or]
        clear e1_
        as_aux_lemma =>
          go_enter Tryd.func19, Tryd.ntmps19
          go_upto_region 1 with fail
          rw [← HW0.out, ← HBB3.out, ← HBB1.out]
          go_wp2_with fail
          go_ret
          exact ⟨by first | rfl | simp, HB0.out⟩
    · have e0 : (va == 1) = false := by simp [e0_]
      rw [e0]
      simp only [Bool.false_and, Bool.false_or]
      clear e0_
      as_aux_lemma =>
        go_enter Tryd.func19, Tryd.ntmps19
        go_upto_region 1 with fail
        rw [← HW0.out, ← HBB3.out, ← HBB1.out]
        go_wp2_with fail
        go_ret
        exact ⟨by first | rfl | simp, HB0.out⟩
  · have hn2 := hn
    simp [namedP, rdsI, writesB, nameB] at hn2
    obtain ⟨ka, rfl, hka⟩ : ∃ k : Nat, a = (k : Int) ∧ k < p.slots.length := inB_nat (by first | exact hn2 | exact hn2.1 | exact hn2.2 | exact hn2.1.1 | exact hn2.1.2 | exact hn2.2.1 | exact hn2.2.2)
    obtain ⟨kb, rfl, hkb⟩ : ∃ k : Nat, b = (k : Int) ∧ k < p.slots.length := inB_nat (by first | exact hn2 | exact hn2.1 | exact hn2.2 | exact hn2.1.1 | exact hn2.1.2 | exact hn2.2.1 | exact hn2.2.2)
    obtain ⟨kc, rfl, hkc⟩ : ∃ k : Nat, c = (k : Int) ∧ k < p.slots.length := inB_nat (by first | exact hn2 | exact hn2.1 | exact hn2.2 | exact hn2.1.1 | exact hn2.1.2 | exact hn2.2.1 | exact hn2.2.2)
    clear hn hn2
    obtain ⟨bslots, oslots, hxslots, hlslots, hcslots⟩ := HP.out.slots (by intro h; rw [h] at hka; simp at hka)
    have za := hcslots ka hka
    obtain ⟨va, hva⟩ : ∃ v, v = p.slots[ka]'hka := ⟨_, rfl⟩
    rw [← hva] at za
    have HVa : Hid (atI p.slots (ka : Int) = va) := Lib.hid (by rw [hva]; unfold atI; rw [Int.toNat_natCast, List.getD_eq_getElem?_getD, List.getElem?_eq_getElem hka]; rfl)
    have ma : (0 : Int) ≤ (ka : Int) := by omega
    have na : (ka : Int) < (p.slots.length : Int) := by omega
    clear hva
    have zb := hcslots kb hkb
    obtain ⟨vb, hvb⟩ : ∃ v, v = p.slots[kb]'hkb := ⟨_, rfl⟩
    rw [← hvb] at zb
    have HVb : Hid (atI p.slots (kb : Int) = vb) := Lib.hid (by rw [hvb]; unfold atI; rw [Int.toNat_natCast, List.getD_eq_getElem?_getD, List.getElem?_eq_getElem hkb]; rfl)
    have mb : (0 : Int) ≤ (kb : Int) := by omega
    have nb : (kb : Int) < (p.slots.length : Int) := by omega
    clear hvb
    have zc := hcslots kc hkc
    obtain ⟨vc, hvc⟩ : ∃ v, v = p.slots[kc]'hkc := ⟨_, rfl⟩
    rw [← hvc] at zc
    have HVc : Hid (atI p.slots (kc : Int) = vc) := Lib.hid (by rw [hvc]; unfold atI; rw [Int.toNat_natCast, List.getD_eq_getElem?_getD, List.getElem?_eq_getElem hkc]; rfl)
    have mc : (0 : Int) ≤ (kc : Int) := by omega
    have nc : (kc : Int) < (p.slots.length : Int) := by omega
    clear hvc
    subst hxslots
    clear hcslots
    have HKa := Lib.hid hka
    clear hka
    have HKb := Lib.hid hkb
    clear hkb
    have HKc := Lib.hid hkc
    clear hkc
    have HLslots := Lib.hid hlslots
    clear hlslots
    have hR : fitsP p ⟨17, (ka : Int), (kb : Int), (kc : Int)⟩ = ((va == 1) && ((vb == 1) && (vc == 1))) := by simp [fitsP, HVa.out, HVb.out, HVc.out]
    rw [hR]
    clear hR
    by_cases e0_ : va = 1
    · have e0 : (va == 1) = true := by simp [e0_]
      rw [e0]
      simp only [Bool.true_and, Bool.true_or]
      clear e0_
      by_cases e1_ : vb = 1
      · have e1 : (vb == 1) = true := by simp [e1_]
        rw [e1]
        simp only [Bool.true_and, Bool.true_or]
        clear e1_
        as_aux_lemma =>
          go_enter Tryd.func19, Tryd.ntmps19
          go_upto_region 1 with fail
          rw [← HW0.out, ← HBB3.out, ← HBB1.out]
          go_wp2_with fail
          go_ret
          exact ⟨by first | rfl | simp, HB0.out⟩
      · have e1 : (vb == 1) = false := by simp [e1_]
        rw [e1]
        simp only [Bool.false_and, Bool.false_or]
        clear e1_
        as_aux_lemma =>
          go_enter Tryd.func19, Tryd.ntmps19
          go_upto_region 1 with fail
          rw [← HW0.out, ← HBB3.out, ← HBB1.out]
          go_wp2_with fail
          go_ret
          exact ⟨by first | rfl | simp, HB0.out⟩
    · have e0 : (va == 1) = false := by simp [e0_]
      rw [e0]
      simp only [Bool.false_and, Bool.false_or]
      clear e0_
      as_aux_lemma =>
        go_enter Tryd.func19, Tryd.ntmps19
        go_upto_region 1 with fail
        rw [← HW0.out, ← HBB3.out, ← HBB1.out]
        go_wp2_with fail
        go_ret
        exact ⟨by first | rfl | simp, HB0.out⟩
  · have hn2 := hn
    simp [namedP, rdsI, writesB, nameB] at hn2
    obtain ⟨ka, rfl, hka⟩ : ∃ k : Nat, a = (k : Int) ∧ k < p.slots.length := inB_nat (by first | exact hn2 | exact hn2.1 | exact hn2.2 | exact hn2.1.1 | exact hn2.1.2 | exact hn2.2.1 | exact hn2.2.2)
    obtain ⟨kb, rfl, hkb⟩ : ∃ k : Nat, b = (k : Int) ∧ k < p.slots.length := inB_nat (by first | exact hn2 | exact hn2.1 | exact hn2.2 | exact hn2.1.1 | exact hn2.1.2 | exact hn2.2.1 | exact hn2.2.2)
    obtain ⟨kc, rfl, hkc⟩ : ∃ k : Nat, c = (k : Int) ∧ k < p.slots.length := inB_nat (by first | exact hn2 | exact hn2.1 | exact hn2.2 | exact hn2.1.1 | exact hn2.1.2 | exact hn2.2.1 | exact hn2.2.2)
    clear hn hn2
    obtain ⟨bslots, oslots, hxslots, hlslots, hcslots⟩ := HP.out.slots (by intro h; rw [h] at hka; simp at hka)
    have za := hcslots ka hka
    obtain ⟨va, hva⟩ : ∃ v, v = p.slots[ka]'hka := ⟨_, rfl⟩
    rw [← hva] at za
    have HVa : Hid (atI p.slots (ka : Int) = va) := Lib.hid (by rw [hva]; unfold atI; rw [Int.toNat_natCast, List.getD_eq_getElem?_getD, List.getElem?_eq_getElem hka]; rfl)
    have ma : (0 : Int) ≤ (ka : Int) := by omega
    have na : (ka : Int) < (p.slots.length : Int) := by omega
    clear hva
    have zb := hcslots kb hkb
    obtain ⟨vb, hvb⟩ : ∃ v, v = p.slots[kb]'hkb := ⟨_, rfl⟩
    rw [← hvb] at zb
    have HVb : Hid (atI p.slots (kb : Int) = vb) := Lib.hid (by rw [hvb]; unfold atI; rw [Int.toNat_natCast, List.getD_eq_getElem?_getD, List.getElem?_eq_getElem hkb]; rfl)
    have mb : (0 : Int) ≤ (kb : Int) := by omega
    have nb : (kb : Int) < (p.slots.length : Int) := by omega
    clear hvb
    have zc := hcslots kc hkc
    obtain ⟨vc, hvc⟩ : ∃ v, v = p.slots[kc]'hkc := ⟨_, rfl⟩
    rw [← hvc] at zc
    have HVc : Hid (atI p.slots (kc : Int) = vc) := Lib.hid (by rw [hvc]; unfold atI; rw [Int.toNat_natCast, List.getD_eq_getElem?_getD, List.getElem?_eq_getElem hkc]; rfl)
    have mc : (0 : Int) ≤ (kc : Int) := by omega
    have nc : (kc : Int) < (p.slots.length : Int) := by omega
    clear hvc
    subst hxslots
    clear hcslots
    have HKa := Lib.hid hka
    clear hka
    have HKb := Lib.hid hkb
    clear hkb
    have HKc := Lib.hid hkc
    clear hkc
    have HLslots := Lib.hid hlslots
    clear hlslots
    have hR : fitsP p ⟨18, (ka : Int), (kb : Int), (kc : Int)⟩ = ((va == 1) && ((vb == 1) && (vc == 1))) := by simp [fitsP, HVa.out, HVb.out, HVc.out]
    rw [hR]
    clear hR
    by_cases e0_ : va = 1
    · have e0 : (va == 1) = true := by simp [e0_]
      rw [e0]
      simp only [Bool.true_and, Bool.true_or]
      clear e0_
      by_cases e1_ : vb = 1
      · have e1 : (vb == 1) = true := by simp [e1_]
        rw [e1]
        simp only [Bool.true_and, Bool.true_or]
        clear e1_
        as_aux_lemma =>
          go_enter Tryd.func19, Tryd.ntmps19
          go_upto_region 1 with fail
          rw [← HW0.out, ← HBB3.out, ← HBB1.out]
          go_wp2_with fail
          go_ret
          exact ⟨by first | rfl | simp, HB0.out⟩
      · have e1 : (vb == 1) = false := by simp [e1_]
        rw [e1]
        simp only [Bool.false_and, Bool.false_or]
        clear e1_
        as_aux_lemma =>
          go_enter Tryd.func19, Tryd.ntmps19
          go_upto_region 1 with fail
          rw [← HW0.out, ← HBB3.out, ← HBB1.out]
          go_wp2_with fail
          go_ret
          exact ⟨by first | rfl | simp, HB0.out⟩
    · have e0 : (va == 1) = false := by simp [e0_]
      rw [e0]
      simp only [Bool.false_and, Bool.false_or]
      clear e0_
      as_aux_lemma =>
        go_enter Tryd.func19, Tryd.ntmps19
        go_upto_region 1 with fail
        rw [← HW0.out, ← HBB3.out, ← HBB1.out]
        go_wp2_with fail
        go_ret
        exact ⟨by first | rfl | simp, HB0.out⟩
  · have hn2 := hn
    simp [namedP, rdsI, writesB, nameB] at hn2
    obtain ⟨kb, rfl, hkb⟩ : ∃ k : Nat, b = (k : Int) ∧ k < p.slots.length := inB_nat (by first | exact hn2 | exact hn2.1 | exact hn2.2 | exact hn2.1.1 | exact hn2.1.2 | exact hn2.2.1 | exact hn2.2.2)
    clear hn hn2
    obtain ⟨bslots, oslots, hxslots, hlslots, hcslots⟩ := HP.out.slots (by intro h; rw [h] at hkb; simp at hkb)
    have zb := hcslots kb hkb
    obtain ⟨vb, hvb⟩ : ∃ v, v = p.slots[kb]'hkb := ⟨_, rfl⟩
    rw [← hvb] at zb
    have HVb : Hid (atI p.slots (kb : Int) = vb) := Lib.hid (by rw [hvb]; unfold atI; rw [Int.toNat_natCast, List.getD_eq_getElem?_getD, List.getElem?_eq_getElem hkb]; rfl)
    have mb : (0 : Int) ≤ (kb : Int) := by omega
    have nb : (kb : Int) < (p.slots.length : Int) := by omega
    clear hvb
    subst hxslots
    clear hcslots
    have HKb := Lib.hid hkb
    clear hkb
    have HLslots := Lib.hid hlslots
    clear hlslots
    have hR : fitsP p ⟨19, a, (kb : Int), c⟩ = (vb == 1) := by simp [fitsP, HVb.out]
    rw [hR]
    clear hR
    as_aux_lemma =>
      go_enter Tryd.func19, Tryd.ntmps19
      go_upto_region 1 with fail
      rw [← HW0.out, ← HBB3.out, ← HBB1.out]
      go_wp2_with fail
      go_ret
      exact ⟨by first | rfl | simp, HB0.out⟩
  · have hn2 := hn
    simp [namedP, rdsI, writesB, nameB] at hn2
    clear hn hn2
    have hR : fitsP p ⟨20, a, b, c⟩ = true := by simp [fitsP]
    rw [hR]
    clear hR
    as_aux_lemma =>
      go_enter Tryd.func19, Tryd.ntmps19
      go_upto_region 1 with fail
      rw [← HW0.out, ← HBB3.out, ← HBB1.out]
      go_wp2_with fail
      go_ret
      exact ⟨by first | rfl | simp, HB0.out⟩
end Go.Proofs.YtglplhkbnkbjbaaDoor

namespace Go.Proofs.YtglplhkbnkbjbaaDoor
open Go Go.RowKit
theorem wp_store_cellv {P : Program} {op : Oper} {a : Act} {w : World} {K : Act → World → Prop} {Q : Exit → Act → World → Prop} (ty : TypeId) (x y : Operand) (ho : op.op = .store ty x y) (g j : Nat) (v c : Value) (hx : a.eval x = .pointer (some ⟨g, j, none⟩)) (hy : a.eval y = v) (hc : w.cell? ⟨g, j, none⟩ = some c) (hf : w.frozen? ⟨g, j, none⟩ = false)
    (hi : (P.info? ty).map (·.size) = some 1) (h1 : v.oneCell' = true) (h : K (a.put op.dst undef) (w.setCell ⟨g, j, none⟩ v)) : op.wp P a w K Q := by
  have hcs : v.cells = #[v] := by cases v <;> first | rfl | cases h1
  have hv : storeVar ty ⟨g, j, none⟩ v = storeVar ty ⟨g, j, none⟩ (.agg #[v]) := by
    have hca : (Value.agg #[v]).cells = #[v] := rfl
    simp only [storeVar, hcs, hca]
  have hr := run_storeVar_mid (P := P) w g j ty #[v] (fun k hk => by
    have : k = 0 := by simpa using hk
    subst this
    exact ⟨by rw [Nat.add_zero, hc]; rfl, by rw [Nat.add_zero]; exact hf⟩) (by simpa using hi) (by simpa using h1)
  unfold Oper.wp execOp
  simp only [ho, hx, hy, Instr.storeAt, Instr.sureAddr, Sem.run_bind, Sem.run_pure, Result.andThen_ok, hv, hr]
  exact h
theorem named_op {p : Pg} {pc : Nat} {x : In4} (h : namedP p pc x = true) : 0 ≤ x.op ∧ x.op ≤ 20 := by
  unfold namedP at h
  simp only [Bool.and_eq_true, decide_eq_true_eq] at h
  exact h.1
theorem named_reads {p : Pg} {pc : Nat} {x : In4} (h : namedP p pc x = true) : ∀ r ∈ rdsI x, ∃ q : Nat, r = (q : Int) ∧ q < p.slots.length := by
  unfold namedP at h
  simp only [Bool.and_eq_true, List.all_eq_true] at h
  exact fun r hr => inB_nat (h.2.1 r hr)
theorem named_writes {p : Pg} {pc : Nat} {x : In4} (h : namedP p pc x = true) (h3 : x.op ≠ 3) (h5 : x.op ≠ 5) (h9 : x.op < 19) : ∃ q : Nat, x.a = (q : Int) ∧ q < p.slots.length := by
  unfold namedP at h
  simp only [Bool.and_eq_true] at h
  have hw : writesB x = true := by unfold writesB; simp [h3, h5, h9]
  have := h.2.2.1
  rw [hw] at this
  exact inB_nat (by simpa using this)
theorem named_out {p : Pg} {pc : Nat} {x : In4} (h : namedP p pc x = true) (h5 : x.op = 5) : ∃ q : Nat, x.a = (q : Int) ∧ q < p.outs.length := by
  unfold namedP at h
  simp only [Bool.and_eq_true] at h
  have := h.2.2.2
  unfold nameB at this
  rw [h5] at this
  exact inB_nat (by simpa using this)
theorem named_jump {p : Pg} {pc : Nat} {x : In4} (h : namedP p pc x = true) (h9 : x.op = 19 ∨ x.op = 20) : ∃ q : Nat, x.a = (q : Int) ∧ pc < q ∧ q ≤ p.code.length := by
  unfold namedP at h
  simp only [Bool.and_eq_true] at h
  have := h.2.2.2
  unfold nameB at this
  have h2 : decide ((pc : Int) < x.a) && decide (x.a ≤ (p.code.length : Int)) = true := by
    rcases h9 with h9 | h9 <;> (rw [h9] at this; simpa using this)
  simp only [Bool.and_eq_true, decide_eq_true_eq] at h2
  exact ⟨x.a.toNat, by omega, by omega, by omega⟩
/-- A row of truths of the call's own. -/
def OwnT (w : World) (B : Nat) (v : Value) (l : List Bool) : Prop := w.ownsRow B 4 1 v l.length (l.map Value.bool)
theorem OwnT.form {w : World} {B : Nat} {v : Value} {l : List Bool} (h : OwnT w B v l) : ∃ y c, v = .slice y l.length c ∧ Row Value.bool w y l ∧ ∀ b o, y = some ⟨b, o, none⟩ → B ≤ b := by
  unfold OwnT at h
  have h' := h
  rcases h.2 with ⟨rfl, h0⟩ | ⟨g, cap, cur, rfl, hbg, hg, hn, hc, hcs, htk⟩
  · obtain rfl : l = [] := List.eq_nil_of_length_eq_zero h0
    exact ⟨none, 0, rfl, Row.nil _ _ _, fun _ _ e => by cases e⟩
  · refine ⟨_, cap, rfl, fun hne => ⟨g, 0, rfl, (Array.getElem?_eq_some_iff.1 hg).1, fun i hi => ?_⟩, fun b o e => by injection e with e; injection e with e _; omega⟩
    have := h'.cells (g := g) rfl i (.bool l[i]) (by simp [List.getElem?_eq_getElem hi])
    rw [Addr.add_lit] at this
    exact this
theorem OwnT.at {w : World} {B : Nat} {y : Option Addr} {c : Nat} {l : List Bool} (h : OwnT w B (.slice y l.length c) l) {q : Nat} (hq : q < l.length) : ∃ g, y = some ⟨g, 0, none⟩ ∧ B ≤ g ∧ (∃ u, w.cell? ⟨g, q, none⟩ = some (.bool u)) ∧ w.frozen? ⟨g, q, none⟩ = false ∧ ∀ b : Bool, OwnT (w.setCell ⟨g, q, none⟩ (.bool b)) B (.slice y (l.set q b).length c) (l.set q b) ∧ w.grownBy (w.setCell ⟨g, q, none⟩ (.bool b)) (some g) := by
  unfold OwnT at h
  rcases h.2 with ⟨e, h0⟩ | ⟨g, cap, cur, e, hbg, _⟩
  · injection e with _ e _; omega
  · injection e with e1 e2 e3
    subst e1
    refine ⟨g, rfl, hbg, ?_, h.frozenAt q, fun b => ?_⟩
    · rw [h.cellAt q (by omega), List.getElem?_map, List.getElem?_eq_getElem hq]
      exact ⟨_, rfl⟩
    · have hst := h.stored q (.bool b)
      rw [← List.map_set] at hst
      unfold OwnT
      rw [List.length_set]
      exact hst
theorem OwnT.below {w w' : World} {B : Nat} {v : Value} {l : List Bool} (h : OwnT w B v l) (hb : Below w.heap.size w w') : OwnT w' B v l := own_below h hb
theorem OwnT.keep {w w' : World} {B g : Nat} {v : Value} {l : List Bool} (h : OwnT w B v l) (hg : w.grownBy w' (some g)) (hgB : g < B) : OwnT w' B v l := own_keep14 h hg hgB
theorem OwnT.form_row {w : World} {B : Nat} {y : Option Addr} {c : Nat} {l : List Bool} (h : OwnT w B (.slice y l.length c) l) : Row Value.bool w y l := by
  obtain ⟨y', c', e, hr, _⟩ := h.form
  injection e with e1 _ _
  subst e1
  exact hr
theorem meas_lt {k n : Nat} (h : k < n) : n - (intOf (Value.int IntKind.i64 ((k : Int) + 1))).toNat < n - (intOf (Value.int IntKind.i64 (k : Int))).toNat := by
  simp [intOf]; omega
def wBs42 (g : Nat) (L : List Bool) (v : Value) (W : World) : Prop := ∃ b o c, v = .slice (some ⟨b, o, none⟩) L.length c ∧ Row Value.bool W (some ⟨b, o, none⟩) L ∧ b ≠ g
theorem stable_bs42 (g : Nat) (L : List Bool) : Stable (wBs42 g L) := fun _ _ _ ⟨b, o, c, h1, h2, h3⟩ hb => ⟨b, o, c, h1, h2.below hb, h3⟩
theorem vnil_ne (W : World) : (binOp .neq 47 (.slice none 0 0) (.slice none 0 0)).run Tryd.prog W = .ok (.bool false) W := by first | kernel_rfl | simp [go_sem, binOp]
theorem vsome_ne (a : Addr) (n c : Nat) (W : World) : (binOp .neq 47 (.slice (some a) n c) (.slice none 0 0)).run Tryd.prog W = .ok (.bool true) W := by first | kernel_rfl | simp [go_sem, binOp]
theorem wrapi_in16 (n : Int) (h : -9223372036854775808 ≤ n ∧ n ≤ 9223372036854775807) : IntKind.i64.wrap n = n := by
  rw [IntKind.wrap_i64]
  omega
theorem sum_in16 {a b : Nat} (h1 : a ≤ 1024) (h2 : b < 64) : -9223372036854775808 ≤ (a : Int) + (b : Int) ∧ (a : Int) + (b : Int) ≤ 9223372036854775807 := by omega
theorem flow_ways {n : Int} (h : 0 ≤ n ∧ n ≤ 20) : (n ≠ 3 ∧ n ≠ 5 ∧ n < 19) ∨ n = 3 ∨ n = 5 ∨ n = 19 ∨ n = 20 := by omega
/-- both, of a cell of the flow. -/
theorem vBoth_cell {w w0 : World} {g : Nat} {v : Value} {d : Option (List Bool)} (hd : DCell w g v d) (b : List Bool) (y : Option Addr) (cy : Nat) (hb : Row Value.bool w y b) (hl : ∀ l, d = some l → l.length = b.length) (hs : b.length ≤ 100000) : Calls Tryd.prog 22 #[v, .slice y b.length cy] w (GivesBs w (bothP d b)) := by
  cases d with
  | none =>
    have hd : v = .slice none 0 0 := hd
    subst hd
    exact vBoth_nil b y cy w hb hs
  | some l =>
    obtain ⟨bl, ol, cl, rfl, hrl, _⟩ := hd
    have e := hl l rfl
    exact vBoth_some l b ⟨bl, ol, none⟩ y cl cy w hrl hb e (by rw [e]; exact hs)
theorem wroteV_write {p : Pg} {x : In4} {q : Nat} (l : List Bool) (h3 : x.op ≠ 3) (h5 : x.op ≠ 5) (h9 : x.op < 19) (hq : x.a = (q : Int)) : wroteV p x l = l.set q true := by
  have hw : wrI x = (q : Int) := by unfold wrI; rw [if_neg (by omega), hq]
  unfold wroteV
  simp only [hw]
  rw [if_neg h5, if_pos (by omega), Int.toNat_natCast]
theorem wroteV_none {p : Pg} {x : In4} (l : List Bool) (h : x.op = 3 ∨ 19 ≤ x.op) : wroteV p x l = l := by
  have hw : wrI x = -1 := by unfold wrI; rw [if_pos (by omega)]
  unfold wroteV
  rw [hw, if_neg (by omega), if_neg (by omega)]
theorem wroteV_out {p : Pg} {x : In4} {q : Nat} (l : List Bool) (h : x.op = 5) (hq : x.a = (q : Int)) : wroteV p x l = l.set (p.slots.length + q) true := by
  have hw : wrI x = -1 := by unfold wrI; rw [if_pos (by omega)]
  unfold wroteV
  simp only [hw]
  rw [if_pos h, if_neg (by omega), hq, Int.toNat_natCast]
theorem info_kind : (Tryd.prog.info? 23).map (fun i => (i.zero, i.size, i.bytes)) = some (some (.int .i64 0), 1, 8) := by kernel_rfl
set_option maxHeartbeats 8000000 in
set_option maxRecDepth 100000 in
theorem vCheck_any (p : Pg) (x0 x1 x2 x3 x4 x5 : Option Addr) (c0 c1 c2 c3 c4 c5 : Nat) (w : World) (ok_p : p.ok) (in_p : PgIn w p x0 x1 x2 x3 x4 x5) :
    Calls Tryd.prog 11 #[pgV p x0 x1 x2 x3 x4 x5 c0 c1 c2 c3 c4 c5] w fun e w' => e = .returned (.tuple #[.int .i64 (checkP p).1, .int .i64 (checkP p).2]) ∧ Below w.heap.size w w' := by
  obtain ⟨W0, hW0⟩ : ∃ W0, W0 = w.alloc (.cells #[.slice x0 p.ins.length c0, .slice x1 p.outs.length c1, .slice x2 p.slots.length c2, .slice x3 p.mems.length c3, .slice x4 p.consts.length c4, .slice x5 p.code.length c5] 32) := ⟨_, rfl⟩
  have hb0 : Below w.heap.size w W0 := by rw [hW0]; exact (Below.refl _ _).alloc (Nat.le_refl _) _
  obtain ⟨B1, hB1⟩ : ∃ B, B = w.heap.size := ⟨_, rfl⟩
  have k1 := heap_alloc_new w (.cells #[.slice x0 p.ins.length c0, .slice x1 p.outs.length c1, .slice x2 p.slots.length c2, .slice x3 p.mems.length c3, .slice x4 p.consts.length c4, .slice x5 p.code.length c5] 32)
  rw [← hB1, ← hW0] at k1
  have r0 := cell_of_row W0 B1 0 _ _ _ k1
  have r1 := cell_of_row W0 B1 1 _ _ _ k1
  have r2 := cell_of_row W0 B1 2 _ _ _ k1
  have r3 := cell_of_row W0 B1 3 _ _ _ k1
  have r4 := cell_of_row W0 B1 4 _ _ _ k1
  have r5 := cell_of_row W0 B1 5 _ _ _ k1
  obtain ⟨i0, hi, hz0, hz1, hz2⟩ := info_parts info_kind
  have HIN := Lib.hid (And.intro hi (And.intro hz0 (And.intro hz1 hz2)))
  have HK1 := Lib.hid k1
  have HP := Lib.hid (in_p.below hb0)
  have HOK := Lib.hid ok_p
  have HB0 := Lib.hid hb0
  have HW0 := Lib.hid hW0
  have HBB1 := Lib.hid hB1
  have HSPv := Lib.hid size_progv
  have keepC : ∀ W, Below W0.heap.size W0 W → (fun w' => w'.cell? ⟨B1, 0, none⟩ = some (.slice x0 p.ins.length c0) ∧ w'.cell? ⟨B1, 1, none⟩ = some (.slice x1 p.outs.length c1) ∧ w'.cell? ⟨B1, 2, none⟩ = some (.slice x2 p.slots.length c2) ∧ w'.cell? ⟨B1, 3, none⟩ = some (.slice x3 p.mems.length c3)) W := fun W hb => by
    have h := (hb.block B1 (Array.getElem?_eq_some_iff.1 HK1.out).1).trans HK1.out
    exact ⟨cell_of_row W B1 0 _ _ _ h, cell_of_row W B1 1 _ _ _ h, cell_of_row W B1 2 _ _ _ h, cell_of_row W B1 3 _ _ _ h⟩
  clear hi hz0 hz1 hz2 k1 in_p ok_p hb0 hW0 hB1
  unfold pgV
  by_cases hbig : bigP p = true
  · as_aux_lemma =>
    have HC : Hid (checkP p = (-1, 1)) := Lib.hid (by unfold checkP; rw [if_pos hbig])
    unfold bigP at hbig
    simp only [Bool.or_eq_true, decide_eq_true_eq] at hbig
    by_cases b0 : 1024 < p.slots.length
    · have d0 : decide (1024 < p.slots.length) = true := by simp [b0]
      clear hbig
      go_enter Tryd.func11, Tryd.ntmps11
      go_upto_region 1 with fail
      rw [← HW0.out, ← HBB1.out]
      go_wp2_with fail
      go_ret2
      exact ⟨by rw [HC.out]; rfl, HB0.out⟩
    · have d0 : decide (1024 < p.slots.length) = false := by simp; omega
      by_cases b1 : 1024 < p.mems.length
      · have d1 : decide (1024 < p.mems.length) = true := by simp [b1]
        clear hbig
        go_enter Tryd.func11, Tryd.ntmps11
        go_upto_region 1 with fail
        rw [← HW0.out, ← HBB1.out]
        go_wp2_with fail
        go_ret2
        exact ⟨by rw [HC.out]; rfl, HB0.out⟩
      · have d1 : decide (1024 < p.mems.length) = false := by simp; omega
        by_cases b2 : 1024 < p.consts.length
        · have d2 : decide (1024 < p.consts.length) = true := by simp [b2]
          clear hbig
          go_enter Tryd.func11, Tryd.ntmps11
          go_upto_region 1 with fail
          rw [← HW0.out, ← HBB1.out]
          go_wp2_with fail
          go_ret2
          exact ⟨by rw [HC.out]; rfl, HB0.out⟩
        · have d2 : decide (1024 < p.consts.length) = false := by simp; omega
          by_cases b3 : 64 < p.ins.length
          · have d3 : decide (64 < p.ins.length) = true := by simp [b3]
            clear hbig
            go_enter Tryd.func11, Tryd.ntmps11
            go_upto_region 1 with fail
            rw [← HW0.out, ← HBB1.out]
            go_wp2_with fail
            go_ret2
            exact ⟨by rw [HC.out]; rfl, HB0.out⟩
          · have d3 : decide (64 < p.ins.length) = false := by simp; omega
            by_cases b4 : 64 < p.outs.length
            · have d4 : decide (64 < p.outs.length) = true := by simp [b4]
              clear hbig
              go_enter Tryd.func11, Tryd.ntmps11
              go_upto_region 1 with fail
              rw [← HW0.out, ← HBB1.out]
              go_wp2_with fail
              go_ret2
              exact ⟨by rw [HC.out]; rfl, HB0.out⟩
            · have d4 : decide (64 < p.outs.length) = false := by simp; omega
              by_cases b5 : 8192 < p.code.length
              · have d5 : decide (8192 < p.code.length) = true := by simp [b5]
                clear hbig
                go_enter Tryd.func11, Tryd.ntmps11
                go_upto_region 1 with fail
                rw [← HW0.out, ← HBB1.out]
                go_wp2_with fail
                go_ret2
                exact ⟨by rw [HC.out]; rfl, HB0.out⟩
              · omega
  · have hsz : p.slots.length ≤ 1024 ∧ p.mems.length ≤ 1024 ∧ p.consts.length ≤ 1024 ∧ p.ins.length ≤ 64 ∧ p.outs.length ≤ 64 ∧ p.code.length ≤ 8192 := by
      unfold bigP at hbig
      simp only [Bool.or_eq_true, decide_eq_true_eq] at hbig
      omega
    have d0 : decide (1024 < p.slots.length) = false := by simp; omega
    have d1 : decide (1024 < p.mems.length) = false := by simp; omega
    have d2 : decide (1024 < p.consts.length) = false := by simp; omega
    have d3 : decide (64 < p.ins.length) = false := by simp; omega
    have d4 : decide (64 < p.outs.length) = false := by simp; omega
    have d5 : decide (8192 < p.code.length) = false := by simp; omega
    have g0 := Nat.not_lt.2 hsz.1
    have g1 := Nat.not_lt.2 hsz.2.1
    have g2 := Nat.not_lt.2 hsz.2.2.1
    have g3 := Nat.not_lt.2 hsz.2.2.2.1
    have g4 := Nat.not_lt.2 hsz.2.2.2.2.1
    have g5 := Nat.not_lt.2 hsz.2.2.2.2.2
    have HSZ := Lib.hid hsz
    have HBG : Hid (bigP p = false) := Lib.hid (by simpa using hbig)
    clear hsz hbig
    go_enter Tryd.func11, Tryd.ntmps11
    go_upto_region 1 with fail
    rw [← HW0.out, ← HBB1.out]
    go_upto_region 3 with fail
    go_region_held3 (fun w' => w'.cell? ⟨B1, 0, none⟩ = some (.slice x0 p.ins.length c0) ∧ w'.cell? ⟨B1, 1, none⟩ = some (.slice x1 p.outs.length c1) ∧ w'.cell? ⟨B1, 2, none⟩ = some (.slice x2 p.slots.length c2) ∧ w'.cell? ⟨B1, 3, none⟩ = some (.slice x3 p.mems.length c3)) (first | exact keepC _ (Below.refl _ _).drew | exact keepC _ ((Below.refl W0.heap.size W0).drew.alloc (Nat.le_refl _) _) | exact keepC _ hb0 | exact keepC _ hb1 | exact keepC _ hb2 | exact keepC _ hb3)
      (first | ((refine step_append_rows (by rfl) (.tmp 51) (.tmp 53) 24 (by rfl) W0.heap.size 23 i0 (.int .i64 0) 8 Tryd.underlying24 HIN.out.1 HIN.out.2.1 HIN.out.2.2.1 HIN.out.2.2.2 rfl (Value.int .i64) (fun _ => rfl) _ _ _ (by rfl) (own_empty _ W0.heap.size _ (Nat.le_refl _)) x0 c0 p.ins (by rfl) (HP.out.ins.below ((Below.refl W0.heap.size W0).drew.alloc (Nat.le_refl _) _)) (by have := HSZ.out; simp only [maxLen]; omega) (by have := HSZ.out; omega) ((Below.refl W0.heap.size W0).drew.alloc (Nat.le_refl _) _).size ?_; intro v0 w0 hown0 hgr0; have hb0 := below_own ((Below.refl W0.heap.size W0).drew.alloc (Nat.le_refl _) _) (own_empty _ W0.heap.size _ (Nat.le_refl _)) hgr0 ((Below.refl W0.heap.size W0).drew.alloc (Nat.le_refl _) _).size)) | ((refine step_append_rows (by rfl) (.tmp 54) (.tmp 56) 24 (by rfl) W0.heap.size 23 i0 (.int .i64 0) 8 Tryd.underlying24 HIN.out.1 HIN.out.2.1 HIN.out.2.2.1 HIN.out.2.2.2 rfl (Value.int .i64) (fun _ => rfl) _ _ _ (by rfl) hown0 x1 c1 p.outs (by rfl) (HP.out.outs.below hb0) (by have := HSZ.out; simp only [maxLen]; omega) (by have := HSZ.out; omega) hb0.size ?_; intro v1 w1 hown1 hgr1; have hb1 := below_own hb0 hown0 hgr1 hb0.size)) | ((refine step_append_rows (by rfl) (.tmp 57) (.tmp 59) 24 (by rfl) W0.heap.size 23 i0 (.int .i64 0) 8 Tryd.underlying24 HIN.out.1 HIN.out.2.1 HIN.out.2.2.1 HIN.out.2.2.2 rfl (Value.int .i64) (fun _ => rfl) _ _ _ (by rfl) hown1 x2 c2 p.slots (by rfl) (HP.out.slots.below hb1) (by have := HSZ.out; simp only [maxLen]; omega) (by have := HSZ.out; omega) hb1.size ?_; intro v2 w2 hown2 hgr2; have hb2 := below_own hb1 hown1 hgr2 hb1.size)) | ((refine step_append_rows (by rfl) (.tmp 60) (.tmp 62) 24 (by rfl) W0.heap.size 23 i0 (.int .i64 0) 8 Tryd.underlying24 HIN.out.1 HIN.out.2.1 HIN.out.2.2.1 HIN.out.2.2.2 rfl (Value.int .i64) (fun _ => rfl) _ _ _ (by rfl) hown2 x3 c3 p.mems (by rfl) (HP.out.mems.below hb2) (by have := HSZ.out; simp only [maxLen]; omega) (by have := HSZ.out; omega) hb2.size ?_; intro v3 w3 hown3 hgr3; have hb3 := below_own hb2 hown2 hgr3 hb2.size)))
    have HB3 := Lib.hid hb3
    obtain ⟨L, hL⟩ : ∃ L, L = ((p.ins ++ p.outs) ++ p.slots) ++ p.mems := ⟨_, rfl⟩
    have hown : OwnI 23 w3 W0.heap.size v3 L := by
      have e : ((([] ++ p.ins.map (Value.int .i64)) ++ p.outs.map (Value.int .i64)) ++ p.slots.map (Value.int .i64)) ++ p.mems.map (Value.int .i64) = intsC L := by rw [hL]; unfold intsC; simp
      have e2 : 0 + p.ins.length + p.outs.length + p.slots.length + p.mems.length = L.length := by rw [hL]; simp; try omega
      unfold OwnI
      rw [← e, ← e2]
      exact hown3
    obtain ⟨xa, ca, rfl, hla, hma, hrow⟩ := hown.form
    have HL := Lib.hid hL
    have HROW := Lib.hid hrow
    have hll : L.length ≤ 3000 := by rw [hL]; have := HSZ.out; simp; omega
    have HLL := Lib.hid hll
    have HKC := Lib.hid keepC
    clear hown hown0 hown1 hown2 hown3 hgr0 hgr1 hgr2 hgr3 hb0 hb1 hb2 hb3 hL hla hma hrow hll keepC
    go_wp2_with fail
    go_loopw [5] (fun v wx => ∃ k : Nat, v = .int .i64 (k : Int) ∧ k ≤ L.length ∧ Below W0.heap.size W0 wx ∧ Row (Value.int .i64) wx xa L ∧ (L.take k).all kindOk = true)
      (fun v _ => L.length - (intOf v).toNat)
    case atStart => exact ⟨0, rfl, Nat.zero_le _, HB3.out, HROW.out, rfl⟩
    case round =>
      obtain ⟨k, rfl, hk, hbw, hrow, hall⟩ := hrel
      have HK := Lib.hid hk
      have HBW := Lib.hid hbw
      have HRW := Lib.hid hrow
      have HALL := Lib.hid hall
      clear hk hbw hrow hall
      by_cases hka : k < L.length
      · have e1 : decide ((k : Int) < (L.length : Int)) = true := by simp; omega
        obtain ⟨bl, ol, hxl, hll, hcl⟩ := HRW.out (by intro h; rw [h] at hka; simp at hka)
        have zl := hcl k hka
        obtain ⟨v, hv⟩ : ∃ v, v = L[k]'hka := ⟨_, rfl⟩
        rw [← hv] at zl
        have HV : Hid (L[k]? = some v) := Lib.hid (by rw [hv]; exact List.getElem?_eq_getElem hka)
        have HVM : Hid (v ∈ L) := Lib.hid (by rw [hv]; exact List.getElem_mem _)
        subst hxl
        have m1 : (0 : Int) ≤ (k : Int) := by omega
        have m2 : (k : Int) < (L.length : Int) := by omega
        have HKA := Lib.hid hka
        clear hv hcl hll
        by_cases h1 : v = 1
        · subst h1
          go_wp2_with fail
          rw [wrap_in14 _ (by have := HKA.out; have := HLL.out; omega)]
          refine ⟨⟨k + 1, by go_num, HKA.out, HBW.out, HRW.out, ?_⟩, ?_⟩
          · rw [List.take_add_one, List.all_append, HALL.out, HV.out]
            rfl
          · have := HKA.out
            simp [intOf]; omega
        · have f1 : (v == 1) = false := by simpa using h1
          by_cases h2 : v = 2
          · subst h2
            clear f1 h1
            go_wp2_with fail
            rw [wrap_in14 _ (by have := HKA.out; have := HLL.out; omega)]
            refine ⟨⟨k + 1, by go_num, HKA.out, HBW.out, HRW.out, ?_⟩, ?_⟩
            · rw [List.take_add_one, List.all_append, HALL.out, HV.out]
              rfl
            · have := HKA.out
              simp [intOf]; omega
          · have f2 : (v == 2) = false := by simpa using h2
            have HC : Hid (checkP p = (-1, 1)) := Lib.hid (by
              have hf : ((((p.ins ++ p.outs) ++ p.slots) ++ p.mems).all kindOk) = false := by
                rw [List.all_eq_false]
                exact ⟨v, by rw [← HL.out]; exact HVM.out, by unfold kindOk; rw [f1, f2]; simp⟩
              unfold checkP
              rw [HBG.out, hf]
              rfl)
            have f1n : (v != 1) = true := by simp [bne, f1]
            have f2n : (v != 2) = true := by simp [bne, f2]
            clear h1 h2
            go_wp2_with fail
            go_ret2
            exact ⟨by rw [HC.out]; rfl, HB0.out.trans (HBW.out.mono HB0.out.size)⟩
      · obtain rfl : k = L.length := by have := HK.out; omega
        have e1 : decide ((L.length : Int) < (L.length : Int)) = false := by simp
        have HKI : Hid (((((p.ins ++ p.outs) ++ p.slots) ++ p.mems).all kindOk) = true) := Lib.hid (by rw [← HL.out]; have h := HALL.out; rw [List.take_length] at h; exact h)
        have HRST := Lib.hid HBW.out
        have k1r := (HBW.out.block B1 (Array.getElem?_eq_some_iff.1 HK1.out).1).trans HK1.out
        have s5 := cell_of_row wr B1 5 _ _ _ k1r
        clear hka k1r HALL HK HRW HROW HLL HL
        go_wp2_with fail
        obtain ⟨wa, hwa⟩ : ∃ wa, wa = wr := ⟨_, rfl⟩
        subst hwa
        go_loopw [7] (fun v wx => ∃ k : Nat, v = .int .i64 (k : Int) ∧ k ≤ p.code.length ∧ Below W0.heap.size W0 wx ∧ firstV (namedP p) p.code 0 = firstV (namedP p) (p.code.drop k) k)
          (fun v _ => p.code.length - (intOf v).toNat)
        case atStart => exact ⟨0, rfl, Nat.zero_le _, HRST.out, by rw [List.drop_zero]⟩
        case round =>
          obtain ⟨k, rfl, hk, hbw, hfv⟩ := hrel
          have HK := Lib.hid hk
          have HBW := Lib.hid hbw
          have HFV := Lib.hid hfv
          have HX1r := Lib.hid ((hbw.block B1 (Array.getElem?_eq_some_iff.1 HK1.out).1).trans HK1.out)
          clear hk hbw hfv
          by_cases hka : k < p.code.length
          · have e1 : decide ((k : Int) < (p.code.length : Int)) = true := by simp; omega
            have kn : Calls Tryd.prog 18 #[.agg #[.slice x0 p.ins.length c0, .slice x1 p.outs.length c1, .slice x2 p.slots.length c2, .slice x3 p.mems.length c3, .slice x4 p.consts.length c4, .slice x5 p.code.length c5], .int .i64 (k : Int)] wr (fun e w' => e = .returned (.bool (namedP p k (p.code[k]'hka))) ∧ Below wr.heap.size wr w') := vNamed_any p x0 x1 x2 x3 x4 x5 c0 c1 c2 c3 c4 c5 k hka wr HOK.out (HP.out.below HBW.out)
            have hst := firstV_step (namedP p) p.code k hka
            obtain ⟨tb, htb⟩ : ∃ t, t = namedP p k (p.code[k]'hka) := ⟨_, rfl⟩
            rw [← htb] at kn hst
            have HST := Lib.hid hst
            have HKA := Lib.hid hka
            clear htb hst
            go_wp2_with (refine wpList_load_row rfl 32 (.tmp 1) rfl B1 rfl 32 #[.slice x0 p.ins.length c0, .slice x1 p.outs.length c1, .slice x2 p.slots.length c2, .slice x3 p.mems.length c3, .slice x4 p.consts.length c4, .slice x5 p.code.length c5] (0, 0) _ HX1r.out Tryd.underlying32 rfl size_progv ?_)
            (with_reducible refine kn.mono ?_)
            rintro e wb ⟨rfl, hb⟩
            clear kn
            have HBb := Lib.hid (HBW.out.trans (hb.mono HBW.out.size))
            clear hb
            cases tb with
            | true =>
              go_wp2_with fail
              refine ⟨⟨k + 1, by go_num, HKA.out, HBb.out, ?_⟩, ?_⟩
              · rw [HFV.out, HST.out]; simp
              · have := HKA.out
                simp [intOf]; omega
            | false =>
              have HC : Hid (checkP p = ((k : Int), 2)) := Lib.hid (by
                have hf : firstV (namedP p) p.code 0 = some k := by rw [HFV.out, HST.out]; rfl
                unfold checkP
                rw [HBG.out, HKI.out, hf]
                rfl)
              go_wp2_with fail
              go_ret2
              exact ⟨by rw [HC.out]; rfl, HB0.out.trans (HBb.out.mono HB0.out.size)⟩
          · obtain rfl : k = p.code.length := by have := HK.out; omega
            have e1 : decide ((p.code.length : Int) < (p.code.length : Int)) = false := by simp
            have HN1 : Hid (firstV (namedP p) p.code 0 = none) := Lib.hid (by rw [HFV.out]; exact firstV_end _ _)
            have HRST2 := Lib.hid HBW.out
            clear hka HFV HK HX1r HRST
            go_wp2_with fail
            obtain ⟨wa2, hwa2⟩ : ∃ wa, wa = wr := ⟨_, rfl⟩
            subst hwa2
            go_loopw [8] (fun v wx => ∃ k : Nat, v = .int .i64 (k : Int) ∧ k ≤ p.code.length ∧ Below W0.heap.size W0 wx ∧ firstV (fun _ => fitsP p) p.code 0 = firstV (fun _ => fitsP p) (p.code.drop k) k)
              (fun v _ => p.code.length - (intOf v).toNat)
            case atStart => exact ⟨0, rfl, Nat.zero_le _, HRST2.out, by rw [List.drop_zero]⟩
            case round =>
              obtain ⟨k, rfl, hk, hbw, hfv⟩ := hrel
              have HK := Lib.hid hk
              have HBW := Lib.hid hbw
              have HFV := Lib.hid hfv
              have HX1r := Lib.hid ((hbw.block B1 (Array.getElem?_eq_some_iff.1 HK1.out).1).trans HK1.out)
              clear hk hbw hfv
              by_cases hka : k < p.code.length
              · have e1 : decide ((k : Int) < (p.code.length : Int)) = true := by simp; omega
                obtain ⟨gc, oc, hxc, hgc, hrc⟩ := (HP.out.below HBW.out).code (by intro h; rw [h] at hka; simp at hka)
                have hr := hrc k hka
                have hst := firstV_step (fun _ => fitsP p) p.code k hka
                have HNX : Hid (namedP p k (p.code[k]'hka) = true) := Lib.hid (by have := firstV_none p.code 0 HN1.out k hka; rw [Nat.zero_add] at this; exact this)
                obtain ⟨x, hx⟩ : ∃ x, x = p.code[k]'hka := ⟨_, rfl⟩
                rw [← hx] at hr hst HNX
                obtain ⟨tb, htb⟩ : ∃ t, t = fitsP p x := ⟨_, rfl⟩
                rw [← htb] at hst
                have HTB := Lib.hid htb
                have HST := Lib.hid hst
                have HKA := Lib.hid hka
                have HGC := Lib.hid hgc
                have HRC := Lib.hid hr
                have HPr := Lib.hid (HP.out.below HBW.out)
                subst hxc
                clear hrc hr hst hx htb hgc
                cases tb with
                | true =>
                  go_upto_region 18 with fail
                  refine wp_region_steps (words [wIs (.agg #[.slice x0 p.ins.length c0, .slice x1 p.outs.length c1, .slice x2 p.slots.length c2, .slice x3 p.mems.length c3, .slice x4 p.consts.length c4, .slice (some ⟨gc, oc, none⟩) p.code.length c5]), wIs (.pointer (some ⟨B1, 5, none⟩)), wIs (.slice (some ⟨gc, oc, none⟩) p.code.length c5), wIs (.int .i64 (k : Int)), wIs (.pointer (some ⟨gc, oc + k * 4, none⟩)), wIs (.agg #[.int .i64 x.op, .int .i64 x.a, .int .i64 x.b, .int .i64 x.c]), wIs (.bool true), wIs (.bool false)]) wr.heap.size wr (by kernel_rfl) (Below.refl _ _) (Nat.le_refl _) (words_stable ?stab) rfl rfl (by kernel_rfl) ?steps ?rest2
                  case stab =>
                    intro f hf
                    simp only [List.mem_cons, List.not_mem_nil, or_false] at hf
                    rcases hf with rfl | rfl | rfl | rfl | rfl | rfl | rfl | rfl <;> first | exact stable_is _
                  case steps =>
                    refine Steps.cons (step_value rfl fun xa W hp => ?_) ?_
                    · have e0 : xa.tmps.getD 1 undef = .pointer (some ⟨B1, 0, none⟩) := hp.old 1 rfl
                      exact ⟨(wanted_none rfl), _, _, run_ldrow rfl e0 ((hp.below.block (B1) (Array.getElem?_eq_some_iff.1 HX1r.out).1).trans HX1r.out) Tryd.underlying32 rfl HSPv.out, rfl, Below.refl _ _⟩
                    refine Steps.cons (step_value rfl fun xa W hp => ?_) ?_
                    · have e0 : xa.tmps.getD 1 undef = .pointer (some ⟨B1, 0, none⟩) := hp.old 1 rfl
                      have e1 : (Instr.fieldAt 32 (.pointer (some ⟨B1, 0, none⟩)) 5).run Tryd.prog W = .ok (.pointer (some ⟨B1, 5, none⟩)) W := by kernel_rfl
                      exact ⟨(wanted_none rfl), _, _, run_fa4 rfl e0 e1, rfl, Below.refl _ _⟩
                    refine Steps.cons (step_value rfl fun xa W hp => ?_) ?_
                    · have e0 : xa.tmps.getD 101 undef = .pointer (some ⟨B1, 5, none⟩) := (hp.on_ 1 rfl rfl rfl).2
                      exact ⟨(wanted_none rfl), _, _, run_ldv rfl e0 (cell_of_row W (B1) 5 _ _ _ ((hp.below.block (B1) (Array.getElem?_eq_some_iff.1 HX1r.out).1).trans HX1r.out)) Tryd.underlying30 rfl (by kernel_rfl), rfl, Below.refl _ _⟩
                    refine Steps.cons (step_value rfl fun xa W hp => ⟨(wanted_none rfl), _, _, run_move (.inl rfl), hp.old 8 rfl, Below.refl _ _⟩) ?_
                    refine Steps.cons (step_value rfl fun xa W hp => ?_) ?_
                    · have e0 : xa.tmps.getD 102 undef = .slice (some ⟨gc, oc, none⟩) p.code.length c5 := (hp.on_ 2 rfl rfl rfl).2
                      have e1 : xa.tmps.getD 103 undef = .int .i64 (k : Int) := (hp.on_ 3 rfl rfl rfl).2
                      exact ⟨(wanted_none rfl), _, _, run_idx14 (k := k) Tryd.underlying30 size_in4v rfl e0 e1 HKA.out, rfl, Below.refl _ _⟩
                    refine Steps.cons (step_value rfl fun xa W hp => ?_) ?_
                    · have e0 : xa.tmps.getD 104 undef = .pointer (some ⟨gc, oc + k * 4, none⟩) := (hp.on_ 4 rfl rfl rfl).2
                      exact ⟨(wanted_none rfl), _, _, run_ldmid14 rfl e0 (rangeAt_pg HRC.out hp.below HGC.out) rfl Tryd.underlying34 size_in4v, rfl, Below.refl _ _⟩
                    refine Steps.cons (step_enter rfl fun xa W hp => ?_) ?_
                    · have e0 : xa.tmps.getD 100 undef = .agg #[.slice x0 p.ins.length c0, .slice x1 p.outs.length c1, .slice x2 p.slots.length c2, .slice x3 p.mems.length c3, .slice x4 p.consts.length c4, .slice (some ⟨gc, oc, none⟩) p.code.length c5] := (hp.on_ 0 rfl rfl rfl).2
                      have e1 : xa.tmps.getD 105 undef = .agg #[.int .i64 x.op, .int .i64 x.a, .int .i64 x.b, .int .i64 x.c] := (hp.on_ 5 rfl rfl rfl).2
                      refine ⟨(wanted_none rfl), 19, _, run_enter2 rfl rfl Tryd.call19, ?_⟩
                      show Calls _ _ #[xa.tmps.getD 100 undef, xa.tmps.getD 105 undef] W _
                      rw [e0, e1]
                      refine (vFits_any p x0 x1 x2 x3 x4 (some ⟨gc, oc, none⟩) c0 c1 c2 c3 c4 c5 x k HNX.out W (HPr.out.below hp.below)).mono ?_
                      rw [← HTB.out]
                      rintro e W' ⟨he, hbe⟩
                      exact ⟨_, he, rfl, hbe⟩
                    refine Steps.cons (step_value rfl fun xa W hp => ?_) ?_
                    · have e0 : xa.tmps.getD 106 undef = .bool true := (hp.on_ 6 rfl rfl rfl).2
                      exact ⟨(wanted_none rfl), _, _, run_not rfl e0, rfl, Below.refl _ _⟩
                    exact Steps.nil
                  case rest2 =>
                    intro act W hI
                    have hbW := hI.below
                    have h5 : act.tmps.getD 107 undef = .bool false := hI.new 7 _ 107 rfl rfl rfl
                    obtain ⟨fo, hfo, hx⟩ := puts_of hI.tmps hI.defers hI.old [100, 101, 102, 103, 104, 105, 106, 107] rfl
                    rw [hfo] at h5
                    have HBb := Lib.hid (HBW.out.trans (hbW.mono HBW.out.size))
                    clear hI hfo hbW
                    subst hx
                    simp only [Exit.inBlock, Exit.then, List.foldl, Act.put, List.setIfInBounds_toArray, List.set_cons_succ, List.set_cons_zero]
                    rw [h5]
                    clear h5
                    go_wp2_with fail
                    refine ⟨⟨k + 1, by go_num, HKA.out, HBb.out, ?_⟩, ?_⟩
                    · rw [HFV.out, HST.out]; simp
                    · have := HKA.out
                      simp [intOf]; omega
                | false =>
                  go_upto_region 18 with fail
                  refine wp_region_steps (words [wIs (.agg #[.slice x0 p.ins.length c0, .slice x1 p.outs.length c1, .slice x2 p.slots.length c2, .slice x3 p.mems.length c3, .slice x4 p.consts.length c4, .slice (some ⟨gc, oc, none⟩) p.code.length c5]), wIs (.pointer (some ⟨B1, 5, none⟩)), wIs (.slice (some ⟨gc, oc, none⟩) p.code.length c5), wIs (.int .i64 (k : Int)), wIs (.pointer (some ⟨gc, oc + k * 4, none⟩)), wIs (.agg #[.int .i64 x.op, .int .i64 x.a, .int .i64 x.b, .int .i64 x.c]), wIs (.bool false), wIs (.bool true)]) wr.heap.size wr (by kernel_rfl) (Below.refl _ _) (Nat.le_refl _) (words_stable ?stab) rfl rfl (by kernel_rfl) ?steps ?rest2
                  case stab =>
                    intro f hf
                    simp only [List.mem_cons, List.not_mem_nil, or_false] at hf
                    rcases hf with rfl | rfl | rfl | rfl | rfl | rfl | rfl | rfl <;> first | exact stable_is _
                  case steps =>
                    refine Steps.cons (step_value rfl fun xa W hp => ?_) ?_
                    · have e0 : xa.tmps.getD 1 undef = .pointer (some ⟨B1, 0, none⟩) := hp.old 1 rfl
                      exact ⟨(wanted_none rfl), _, _, run_ldrow rfl e0 ((hp.below.block (B1) (Array.getElem?_eq_some_iff.1 HX1r.out).1).trans HX1r.out) Tryd.underlying32 rfl HSPv.out, rfl, Below.refl _ _⟩
                    refine Steps.cons (step_value rfl fun xa W hp => ?_) ?_
                    · have e0 : xa.tmps.getD 1 undef = .pointer (some ⟨B1, 0, none⟩) := hp.old 1 rfl
                      have e1 : (Instr.fieldAt 32 (.pointer (some ⟨B1, 0, none⟩)) 5).run Tryd.prog W = .ok (.pointer (some ⟨B1, 5, none⟩)) W := by kernel_rfl
                      exact ⟨(wanted_none rfl), _, _, run_fa4 rfl e0 e1, rfl, Below.refl _ _⟩
                    refine Steps.cons (step_value rfl fun xa W hp => ?_) ?_
                    · have e0 : xa.tmps.getD 101 undef = .pointer (some ⟨B1, 5, none⟩) := (hp.on_ 1 rfl rfl rfl).2
                      exact ⟨(wanted_none rfl), _, _, run_ldv rfl e0 (cell_of_row W (B1) 5 _ _ _ ((hp.below.block (B1) (Array.getElem?_eq_some_iff.1 HX1r.out).1).trans HX1r.out)) Tryd.underlying30 rfl (by kernel_rfl), rfl, Below.refl _ _⟩
                    refine Steps.cons (step_value rfl fun xa W hp => ⟨(wanted_none rfl), _, _, run_move (.inl rfl), hp.old 8 rfl, Below.refl _ _⟩) ?_
                    refine Steps.cons (step_value rfl fun xa W hp => ?_) ?_
                    · have e0 : xa.tmps.getD 102 undef = .slice (some ⟨gc, oc, none⟩) p.code.length c5 := (hp.on_ 2 rfl rfl rfl).2
                      have e1 : xa.tmps.getD 103 undef = .int .i64 (k : Int) := (hp.on_ 3 rfl rfl rfl).2
                      exact ⟨(wanted_none rfl), _, _, run_idx14 (k := k) Tryd.underlying30 size_in4v rfl e0 e1 HKA.out, rfl, Below.refl _ _⟩
                    refine Steps.cons (step_value rfl fun xa W hp => ?_) ?_
                    · have e0 : xa.tmps.getD 104 undef = .pointer (some ⟨gc, oc + k * 4, none⟩) := (hp.on_ 4 rfl rfl rfl).2
                      exact ⟨(wanted_none rfl), _, _, run_ldmid14 rfl e0 (rangeAt_pg HRC.out hp.below HGC.out) rfl Tryd.underlying34 size_in4v, rfl, Below.refl _ _⟩
                    refine Steps.cons (step_enter rfl fun xa W hp => ?_) ?_
                    · have e0 : xa.tmps.getD 100 undef = .agg #[.slice x0 p.ins.length c0, .slice x1 p.outs.length c1, .slice x2 p.slots.length c2, .slice x3 p.mems.length c3, .slice x4 p.consts.length c4, .slice (some ⟨gc, oc, none⟩) p.code.length c5] := (hp.on_ 0 rfl rfl rfl).2
                      have e1 : xa.tmps.getD 105 undef = .agg #[.int .i64 x.op, .int .i64 x.a, .int .i64 x.b, .int .i64 x.c] := (hp.on_ 5 rfl rfl rfl).2
                      refine ⟨(wanted_none rfl), 19, _, run_enter2 rfl rfl Tryd.call19, ?_⟩
                      show Calls _ _ #[xa.tmps.getD 100 undef, xa.tmps.getD 105 undef] W _
                      rw [e0, e1]
                      refine (vFits_any p x0 x1 x2 x3 x4 (some ⟨gc, oc, none⟩) c0 c1 c2 c3 c4 c5 x k HNX.out W (HPr.out.below hp.below)).mono ?_
                      rw [← HTB.out]
                      rintro e W' ⟨he, hbe⟩
                      exact ⟨_, he, rfl, hbe⟩
                    refine Steps.cons (step_value rfl fun xa W hp => ?_) ?_
                    · have e0 : xa.tmps.getD 106 undef = .bool false := (hp.on_ 6 rfl rfl rfl).2
                      exact ⟨(wanted_none rfl), _, _, run_not rfl e0, rfl, Below.refl _ _⟩
                    exact Steps.nil
                  case rest2 =>
                    intro act W hI
                    have hbW := hI.below
                    have h5 : act.tmps.getD 107 undef = .bool true := hI.new 7 _ 107 rfl rfl rfl
                    obtain ⟨fo, hfo, hx⟩ := puts_of hI.tmps hI.defers hI.old [100, 101, 102, 103, 104, 105, 106, 107] rfl
                    rw [hfo] at h5
                    have HBb := Lib.hid (HBW.out.trans (hbW.mono HBW.out.size))
                    clear hI hfo hbW
                    subst hx
                    simp only [Exit.inBlock, Exit.then, List.foldl, Act.put, List.setIfInBounds_toArray, List.set_cons_succ, List.set_cons_zero]
                    rw [h5]
                    clear h5
                    have HC : Hid (checkP p = ((k : Int), 3)) := Lib.hid (by
                      have hf : firstV (fun _ => fitsP p) p.code 0 = some k := by rw [HFV.out, HST.out]; rfl
                      unfold checkP
                      rw [HBG.out, HKI.out, HN1.out, hf]
                      rfl)
                    go_wp2_with fail
                    go_ret2
                    exact ⟨by rw [HC.out]; rfl, HB0.out.trans (HBb.out.mono HB0.out.size)⟩
              · obtain rfl : k = p.code.length := by have := HK.out; omega
                have e1 : decide ((p.code.length : Int) < (p.code.length : Int)) = false := by simp
                have HN2 : Hid (firstV (fun _ => fitsP p) p.code 0 = none) := Lib.hid (by rw [HFV.out]; exact firstV_end _ _)
                have HRST3 := Lib.hid HBW.out
                have HKX := Lib.hid ((HRST3.out.block B1 (Array.getElem?_eq_some_iff.1 HK1.out).1).trans HK1.out)
                have u1 := cell_of_row wr B1 1 _ _ _ HKX.out
                have u2 := cell_of_row wr B1 2 _ _ _ HKX.out
                obtain ⟨wq, hwq⟩ : ∃ wq, wq = wr := ⟨_, rfl⟩
                obtain ⟨n, hn⟩ : ∃ n, n = p.code.length := ⟨_, rfl⟩
                obtain ⟨m, hm⟩ : ∃ m, m = p.slots.length + p.outs.length := ⟨_, rfl⟩
                have hm1 := run_make_dones (p.code.length + 1) (by have := HSZ.out; omega) ((p.code.length : Int) + 1) ((p.code.length : Int) + 1) (by push_cast; rfl) (by push_cast; rfl) wr
                have dn := done_new wr (p.code.length + 1)
                obtain ⟨g, hg⟩ : ∃ g, g = wr.heap.size := ⟨_, rfl⟩
                obtain ⟨W1, hW1⟩ : ∃ W1, W1 = wr.alloc (.cells (List.replicate (p.code.length + 1) (Value.slice none 0 0)).toArray 47) := ⟨_, rfl⟩
                have bl1 : Below wr.heap.size wr W1 := by rw [hW1]; exact (Below.refl _ _).alloc (Nat.le_refl _) _
                rw [← hW1, ← hg] at hm1 dn
                have u1 := (bl1.cell (p := ⟨B1, 1, none⟩) (Array.getElem?_eq_some_iff.1 HKX.out).1).trans u1
                have u2 := (bl1.cell (p := ⟨B1, 2, none⟩) (Array.getElem?_eq_some_iff.1 HKX.out).1).trans u2
                have hm2 := run_make_bools m (by rw [hm]; have := HSZ.out; omega) ((p.slots.length : Int) + (p.outs.length : Int)) ((p.slots.length : Int) + (p.outs.length : Int)) (by rw [hm]; push_cast; rfl) (by rw [hm]; push_cast; rfl) W1
                have bn := bools_new W1 m
                obtain ⟨gb, hgb⟩ : ∃ g, g = W1.heap.size := ⟨_, rfl⟩
                obtain ⟨W2, hW2⟩ : ∃ W2, W2 = W1.alloc (.cells (List.replicate m (Value.bool false)).toArray 4) := ⟨_, rfl⟩
                have bl2 : Below W1.heap.size W1 W2 := by rw [hW2]; exact (Below.refl _ _).alloc (Nat.le_refl _) _
                rw [← hW2, ← hgb] at hm2 bn
                have dn2 := dn.below bl2
                obtain ⟨v0, zc, zf, hv0⟩ := dn2.cell 0 (by simp)
                have hgbg : gb ≠ g := by have := dn.lt; omega
                have hu0 : DCell W2 g (.slice (some ⟨gb, 0, none⟩) m m) (some (List.replicate m false)) := ⟨gb, 0, m, by rw [List.length_replicate], bn, hgbg⟩
                have dn3 := dn2.set 0 hu0
                have hD0 : (List.replicate (p.code.length + 1) none).set 0 (some (List.replicate m false)) = done0 p := by rw [hm]; rfl
                rw [hD0] at dn3
                have b3 : Below W0.heap.size W0 (W2.setCell ⟨g, 0, none⟩ (.slice (some ⟨gb, 0, none⟩) m m)) :=
                  (((HRST3.out.trans (bl1.mono HRST3.out.size)).trans (bl2.mono (Nat.le_trans HRST3.out.size bl1.size)))).grown (set_grown16 W2 g 0 _) (Nat.le_trans HRST3.out.size (Nat.le_trans bl1.size bl2.size)) (fun j hj => by injection hj with hj; rw [← hj, hg]; exact HRST3.out.size)
                have HD := Lib.hid dn3
                have HB3 := Lib.hid b3
                have HGW : Hid (W0.heap.size ≤ g) := Lib.hid (by rw [hg]; exact HRST3.out.size)
                have m9 : (0 : Int) < ((p.code.length + 1 : Nat) : Int) := by omega
                have FL0 : Hid (FlatD (done0 p) m) := Lib.hid (fun j l hj => by
                  unfold done0 at hj
                  cases j with
                  | zero => rw [List.getD_cons_zero] at hj; injection hj with hj; rw [← hj, List.length_replicate, hm]
                  | succ j =>
                    rw [List.getD_cons_succ, List.getD_eq_getElem?_getD, List.getElem?_replicate] at hj
                    split at hj <;> simp at hj)
                have HM := Lib.hid hm
                clear hka HFV HK HRST2 dn dn2 dn3 bn hu0 hD0 b3 bl1 bl2 hv0 hgbg hW1 hW2 hg hgb hm hn hwq
                go_wp2_with fail
                clear hm1 hm2 zc zf u1 u2 HKX
                go_loopw [10] (fun v wx => ∃ (k : Nat) (D : Done), v = .int .i64 (k : Int) ∧ k ≤ p.code.length ∧ Below W0.heap.size W0 wx ∧ DoneIn wx g D ∧ FlatD D m ∧ D.length = p.code.length + 1 ∧ flowV p p.code 0 (done0 p) = flowV p (p.code.drop k) k D)
                  (fun v _ => p.code.length - (intOf v).toNat)
                case atStart => exact ⟨0, done0 p, rfl, Nat.zero_le _, HB3.out, HD.out, FL0.out, by simp [done0], by rw [List.drop_zero]⟩
                case round =>
                  obtain ⟨k, D, rfl, hk, hbw, hd, hfl, hdl, hfv⟩ := hrel
                  have HK := Lib.hid hk
                  have HBW := Lib.hid hbw
                  have HDI := Lib.hid hd
                  have HFLT := Lib.hid hfl
                  have HDL := Lib.hid hdl
                  have HFV := Lib.hid hfv
                  have HX1r := Lib.hid ((hbw.block B1 (Array.getElem?_eq_some_iff.1 HK1.out).1).trans HK1.out)
                  clear hk hbw hd hfl hdl hfv
                  have m9 : (k : Int) < ((p.code.length + 1 : Nat) : Int) := by have := HK.out; omega
                  have m8 : (0 : Int) ≤ (k : Int) := by omega
                  obtain ⟨v0, zc, zf, hv0⟩ := HDI.out.cell k (by rw [HDL.out]; have := HK.out; omega)
                  have hgd : D.getD k none = D[k]'(by rw [HDL.out]; have := HK.out; omega) := by rw [List.getD_eq_getElem?_getD, List.getElem?_eq_getElem (by rw [HDL.out]; have := HK.out; omega)]; rfl
                  obtain ⟨dk, hdk⟩ : ∃ d, d = D[k]'(by rw [HDL.out]; have := HK.out; omega) := ⟨_, rfl⟩
                  rw [← hdk] at hv0 hgd
                  clear hdk
                  by_cases hka : k < p.code.length
                  · have e1 : decide ((k : Int) < (p.code.length : Int)) = true := by simp; omega
                    have hst := flowV_step p p.code k hka D
                    rw [hgd] at hst
                    have HKA := Lib.hid hka
                    cases dk with
                    | none =>
                      have hv0 : v0 = .slice none 0 0 := hv0
                      subst hv0
                      have vn := vnil_eq wr
                      have HST := Lib.hid hst
                      clear hst hgd
                      go_wp2_with fail
                      refine ⟨⟨k + 1, D, by go_num, HKA.out, HBW.out, HDI.out, HFLT.out, HDL.out, by rw [HFV.out, HST.out]⟩, ?_⟩
                      have := HKA.out
                      simp [intOf]; omega
                    | some l =>
                      obtain ⟨bl, ol, cl, rfl, hrl, hblg⟩ := hv0
                      have vs := vsome_eq ⟨bl, ol, none⟩ l.length cl wr
                      have HLL : Hid (l.length = m) := Lib.hid (HFLT.out k l hgd)
                      have hnx : namedP p k (p.code[k]'hka) = true := by have := firstV_none p.code 0 HN1.out k hka; rw [Nat.zero_add] at this; exact this
                      obtain ⟨gc, oc, hxc, hgc, hrc⟩ := (HP.out.below HBW.out).code (by intro h; rw [h] at hka; simp at hka)
                      have hr := hrc k hka
                      have hst : flowV p (p.code.drop k) k D = if (rdsI (p.code[k]'hka)).all (fun j => l.getD j.toNat false) = true then flowV p (p.code.drop (k + 1)) (k + 1) (stepV p (p.code[k]'hka) k D l) else .inr k := hst
                      obtain ⟨x, hx⟩ : ∃ x, x = p.code[k]'hka := ⟨_, rfl⟩
                      rw [← hx] at hr hst hnx
                      have HST := Lib.hid hst
                      have HNX := Lib.hid hnx
                      have HHR := Lib.hid hr
                      have HGC := Lib.hid hgc
                      have HHRL := Lib.hid hrl
                      have HZC := Lib.hid zc
                      have HZF := Lib.hid zf
                      subst hxc
                      have u5 := cell_of_row wr B1 5 _ _ _ HX1r.out
                      obtain ⟨hnb, hnr⟩ := newrow14 wr 34 #[.int .i64 0, .int .i64 0, .int .i64 0, .int .i64 0] #[.int .i64 x.op, .int .i64 x.a, .int .i64 x.b, .int .i64 x.c]
                      obtain ⟨gi, hgi⟩ : ∃ gi, gi = wr.heap.size := ⟨_, rfl⟩
                      obtain ⟨W26, hW26⟩ : ∃ W, W = ((wr.alloc (.cells #[.int .i64 0, .int .i64 0, .int .i64 0, .int .i64 0] 34)).setRow wr.heap.size #[.int .i64 x.op, .int .i64 x.a, .int .i64 x.b, .int .i64 x.c]) := ⟨_, rfl⟩
                      rw [← hW26] at hnb hnr
                      rw [← hgi] at hnr
                      have HAL := Lib.hid (heap_alloc_new wr (.cells #[.int .i64 0, .int .i64 0, .int .i64 0, .int .i64 0] 34))
                      have HNB := Lib.hid hnb
                      have HNR := Lib.hid hnr
                      have HW26 := Lib.hid hW26
                      have HGI := Lib.hid hgi
                      have HSI := Lib.hid size_in4v
                      have kr := vReads_any x (named_op hnx).1 (named_op hnx).2 W26
                      clear hst hnx hr hx hgc hrc hrl hblg hnb hnr hW26 hgi hgd
                      go_upto_region 26 with fail
                      go_upto_region 27 with (first | (refine wpList_load_mid rfl 34 (.tmp 135) rfl gc (oc + k * 4) rfl [.int .i64 x.op, .int .i64 x.a, .int .i64 x.b, .int .i64 x.c] _ ?_ Tryd.underlying34 rfl HSI.out ?_; (exact HHR.out)) | (refine wpList_store_row rfl 34 (.tmp 11) (.tmp 136) rfl wr.heap.size #[.int .i64 x.op, .int .i64 x.a, .int .i64 x.b, .int .i64 x.c] rfl rfl 34 #[.int .i64 0, .int .i64 0, .int .i64 0, .int .i64 0] ?_ HSI.out rfl (in4_one _ _ _ _) ?_; (exact HAL.out)))
                      rw [← HW26.out, ← HGI.out]
                      clear u5 vs zc zf
                      go_wp2_with (refine wpList_load_row rfl 34 (.tmp 11) rfl gi rfl 34 #[.int .i64 x.op, .int .i64 x.a, .int .i64 x.b, .int .i64 x.c] (0, 0) _ ?_ Tryd.underlying34 rfl HSI.out ?_; (exact HNR.out))
                      (with_reducible refine kr.mono ?_)
                      rintro e w27 ⟨ar, cr, rfl, hrr, hb27⟩
                      clear kr
                      obtain ⟨RL, hRL⟩ : ∃ R, R = rdsI x := ⟨_, rfl⟩
                      rw [← hRL] at hrr ⊢
                      have HRL := Lib.hid hRL
                      have HRR := Lib.hid hrr
                      have HO27 : Hid (Below wr.heap.size wr w27) := Lib.hid (HNB.out.trans (hb27.mono HNB.out.size))
                      have HI27 : Hid (w27.heap[gi]? = some (.cells #[.int .i64 x.op, .int .i64 x.a, .int .i64 x.b, .int .i64 x.c] 34 (0, 0))) := Lib.hid ((hb27.block gi (Array.getElem?_eq_some_iff.1 HNR.out).1).trans HNR.out)
                      have HRLn : Hid (RL.length ≤ 2) := Lib.hid (by rw [hRL]; exact rdsI_len x)
                      clear hRL hrr hb27
                      obtain ⟨wo, hwo⟩ : ∃ w, w = wr := ⟨_, rfl⟩
                      subst hwo
                      go_wp2_with fail
                      go_loopw [13] (fun v wx => ∃ j : Nat, v = .int .i64 (j : Int) ∧ j ≤ RL.length ∧ Below w27.heap.size w27 wx ∧ (RL.take j).all (fun q => l.getD q.toNat false) = true)
                        (fun v _ => RL.length - (intOf v).toNat)
                      case atStart => exact ⟨0, rfl, Nat.zero_le _, Below.refl _ _, rfl⟩
                      case round =>
                        obtain ⟨j, rfl, hj, hbj, hall⟩ := hrel
                        have HJ := Lib.hid hj
                        have HBJ := Lib.hid hbj
                        have HALL := Lib.hid hall
                        have HOJ : Hid (Below wo.heap.size wo wr) := Lib.hid (HO27.out.trans (hbj.mono HO27.out.size))
                        clear hj hbj hall
                        by_cases hjr : j < RL.length
                        · have f1 : decide ((j : Int) < (RL.length : Int)) = true := by simp; omega
                          obtain ⟨q, hq, hqs⟩ := named_reads HNX.out (RL[j]'hjr) (by rw [← HRL.out]; exact List.getElem_mem hjr)
                          have hql : q < l.length := by rw [HLL.out, HM.out]; omega
                          have zd : wr.cell? ⟨g, k, none⟩ = some (.slice (some ⟨bl, ol, none⟩) l.length cl) := (HOJ.out.cell (p := ⟨g, k, none⟩) HDI.out.lt).trans HZC.out
                          obtain ⟨br, or_, har, hbr, hcr⟩ := (HRR.out.below HBJ.out) (by intro h; rw [h] at hjr; simp at hjr)
                          have zr := hcr j hjr
                          obtain ⟨bl', ol', hle, hbll, hcl⟩ := HHRL.out (by intro h; rw [h] at hql; simp at hql)
                          injection hle with hle
                          injection hle with hle1 hle2
                          subst hle1 hle2
                          have zl := (HOJ.out.cell (p := ⟨bl, ol + q, none⟩) hbll).trans (hcl q hql)
                          obtain ⟨tb, htb⟩ : ∃ t, t = l[q]'hql := ⟨_, rfl⟩
                          rw [← htb] at zl
                          have htk : (RL.take (j + 1)).all (fun q => l.getD q.toNat false) = tb := by
                            rw [List.take_add_one, List.all_append, HALL.out, List.getElem?_eq_getElem hjr]
                            simp only [Option.toList_some, List.all_cons, List.all_nil, Bool.and_true, Bool.true_and]
                            rw [hq, Int.toNat_natCast, List.getD_eq_getElem?_getD, List.getElem?_eq_getElem hql, htb]
                            rfl
                          rw [hq] at zr
                          have HTK := Lib.hid htk
                          subst har
                          have m1 : (0 : Int) ≤ (j : Int) := by omega
                          have m2 : (j : Int) < (RL.length : Int) := by omega
                          have m3 : (0 : Int) ≤ (q : Int) := by omega
                          have m4 : (q : Int) < (l.length : Int) := by omega
                          have HJR := Lib.hid hjr
                          clear hcr hbr hcl hbll htb htk hq hqs
                          cases tb with
                          | true =>
                            go_upto_region 31 with fail
                            go_quiet (fail)
                            have HBN : Hid (Below w27.heap.size w27 (wr.drewN nq)) := Lib.hid (HBJ.out.trans (below_drewN (Below.refl _ _) nq))
                            clear zd zr zl f1
                            go_wp2_with fail
                            rw [wrap_in14 _ (by have := HJR.out; have := HRLn.out; omega)]
                            refine ⟨⟨j + 1, by go_num, HJR.out, HBN.out, HTK.out⟩, ?_⟩
                            have := HJR.out
                            simp [intOf]; omega
                          | false =>
                            have HC : Hid (checkP p = ((k : Int), 4)) := Lib.hid (by
                              have hf : (rdsI x).all (fun j => l.getD j.toNat false) = false := by
                                rw [← HRL.out, ← List.take_append_drop (j + 1) RL, List.all_append, HTK.out]; rfl
                              have hfl : flowV p p.code 0 (done0 p) = .inr k := by
                                rw [HFV.out, HST.out, if_neg (by rw [hf]; decide)]
                              unfold checkP
                              rw [HBG.out, HKI.out, HN1.out, HN2.out, hfl]
                              rfl)
                            go_upto_region 31 with fail
                            go_quiet (fail)
                            have HBN : Hid (Below W0.heap.size W0 (wr.drewN nq)) := Lib.hid ((HBW.out.trans (HOJ.out.mono HBW.out.size)).trans (below_drewN (Below.refl _ _) nq))
                            clear zd zr zl f1
                            go_wp2_with fail
                            go_ret2
                            exact ⟨by rw [HC.out]; rfl, HB0.out.trans (HBN.out.mono HB0.out.size)⟩
                        · obtain rfl : j = RL.length := by have := HJ.out; omega
                          have f1 : decide ((RL.length : Int) < (RL.length : Int)) = false := by simp
                          have hstp : flowV p p.code 0 (done0 p) = flowV p (p.code.drop (k + 1)) (k + 1) (stepV p x k D l) := by
                            rw [HFV.out, HST.out, if_pos (by rw [← HRL.out]; have h := HALL.out; rw [List.take_length] at h; exact h)]
                          have HSTP := Lib.hid hstp
                          clear hstp hjr
                          obtain ⟨wl, hwl⟩ : ∃ w, w = wr := ⟨_, rfl⟩
                          subst hwl
                          have HDl := Lib.hid (HDI.out.below HOJ.out)
                          have HIl : Hid (wl.heap[gi]? = some (.cells #[.int .i64 x.op, .int .i64 x.a, .int .i64 x.b, .int .i64 x.c] 34 (0, 0))) := Lib.hid ((HBJ.out.block gi (Array.getElem?_eq_some_iff.1 HI27.out).1).trans HI27.out)
                          have HBl : Hid (Below W0.heap.size W0 wl) := Lib.hid (HBW.out.trans (HOJ.out.mono HBW.out.size))
                          have hrowl : Row Value.bool wl (some ⟨bl, ol, none⟩) l := HHRL.out.below HOJ.out
                          have zd : wl.cell? ⟨g, k, none⟩ = some (.slice (some ⟨bl, ol, none⟩) l.length cl) := (HOJ.out.cell (p := ⟨g, k, none⟩) HDI.out.lt).trans HZC.out
                          have hal : Below wl.heap.size wl (wl.alloc (.cells #[] 4)) := (Below.refl _ _).alloc (Nat.le_refl _) _
                          have zd2 := (hal.cell (p := ⟨g, k, none⟩) HDl.out.lt).trans zd
                          have HRW := Lib.hid (hrowl.below hal)
                          have be : ∀ W : World, (Instr.buildSlice 47 0 #[]).run Tryd.prog W = .ok (.slice (some ⟨W.heap.size, 0, none⟩) 0 0) (W.alloc (.cells #[] 4)) := fun W => by kernel_rfl
                          obtain ⟨i1, hi, hz0, hz1, hz2⟩ := info_parts info_bool
                          have HIB := Lib.hid (And.intro hi (And.intro hz0 (And.intro hz1 hz2)))
                          have hlm : l.length ≤ 3000 := by rw [HLL.out, HM.out]; have := HSZ.out; omega
                          have HLM := Lib.hid hlm
                          clear hi hz0 hz1 hz2 hlm zd hrowl HALL HJ
                          go_upto_region 33 with fail
                          go_upto_region 34 with (at_builtin; refine wpList_append_rows _ rfl (.tmp 157) (.tmp 161) 47 rfl wl.heap.size 4 i1 (.bool false) 1 Tryd.underlying47 HIB.out.1 HIB.out.2.1 HIB.out.2.2.1 HIB.out.2.2.2 rfl Value.bool (fun _ => rfl) _ 0 [] rfl (own_empty wl _ _ (Nat.le_refl _)) (some ⟨bl, ol, none⟩) cl l rfl HRW.out ?e1 ?e2 ?e3 ?_)
                          case e1 => have := HLM.out; unfold maxLen; omega
                          case e2 => have := HLM.out; omega
                          case e3 => simp
                          intro v33 w33 hown33 hgr33
                          have hot : OwnT w33 wl.heap.size v33 l := by
                            unfold OwnT
                            have h := hown33
                            first | exact h | (rw [Nat.zero_add, List.nil_append] at h; exact h)
                          obtain ⟨y, cy, rfl, _, _⟩ := hot.form
                          have HOT := Lib.hid hot
                          have HB33 : Hid (Below wl.heap.size wl w33) := Lib.hid (hal.grown hgr33 (by simp) (by intro q hq; simp [Value.ownBlock] at hq; omega))
                          have kw := vWrites_any x (named_op HNX.out).1 (named_op HNX.out).2 w33
                          obtain ⟨wv, hwv⟩ : ∃ wv, wv = wrI x := ⟨_, rfl⟩
                          rw [← hwv] at kw
                          have hI33 := (HB33.out.block gi (Array.getElem?_eq_some_iff.1 HIl.out).1).trans HIl.out
                          have HI33 := Lib.hid hI33
                          clear hown33 hgr33 hot hal be zd2 hI33
                          go_wp2_with (refine wpList_load_row rfl 34 (.tmp 11) rfl gi rfl 34 #[.int .i64 x.op, .int .i64 x.a, .int .i64 x.b, .int .i64 x.c] (0, 0) _ ?_ Tryd.underlying34 rfl HSI.out ?_; (exact HI33.out))
                          (with_reducible refine kw.mono ?_)
                          rintro e w34 ⟨rfl, hb34⟩
                          clear kw
                          have HB34 : Hid (Below wl.heap.size wl w34) := Lib.hid (HB33.out.trans (hb34.mono HB33.out.size))
                          have HOT4 := Lib.hid (HOT.out.below hb34)
                          clear hb34 HRW
                          have HGL : Hid (g < wl.heap.size ∧ g ≠ gi) := Lib.hid ⟨HDl.out.lt, by have := HDI.out.lt; have := HGI.out; omega⟩
                          have HKD : Hid (k + 1 < D.length) := Lib.hid (by rw [HDL.out]; have := HKA.out; omega)
                          have HM1 : Hid (m ≤ 100000) := Lib.hid (by rw [HM.out]; have := HSZ.out; omega)
                          have HM5 : Hid ((0 : Int) ≤ ((k + 1 : Nat) : Int)) := Lib.hid (by omega)
                          have HM6 : Hid (((k + 1 : Nat) : Int) < ((p.code.length + 1 : Nat) : Int)) := Lib.hid (by have := HKA.out; omega)
                          have HKW : Hid (wrap64 ((k : Int) + 1) = ((k + 1 : Nat) : Int)) := Lib.hid (by rw [wrap_in14 _ (by have := HKA.out; have := HSZ.out; omega)]; push_cast; rfl)
                          rcases flow_ways (named_op HNX.out) with ⟨n3, n5, n9⟩ | n3 | n5 | n19 | n20
                          · as_aux_lemma =>
                            obtain ⟨q, hq, hqs⟩ := named_writes HNX.out n3 n5 n9
                            have hql : q < l.length := by rw [HLL.out, HM.out]; omega
                            have hld : wroteV p x l = l.set q true := wroteV_write l n3 n5 n9 hq
                            have e : wv = (q : Int) := by rw [hwv]; unfold wrI; rw [if_neg (by omega), hq]
                            clear hwv
                            subst e
                            obtain ⟨gd, hy, hgd2, ⟨u, zc0⟩, zf0, hset⟩ := HOT4.out.at hql
                            subst hy
                            have m1 : (0 : Int) ≤ (q : Int) := by omega
                            have m2 : (q : Int) < (l.length : Int) := by omega
                            have t1 : decide ((0 : Int) ≤ (q : Int)) = true := by simp
                            have HSET := Lib.hid (hset true)
                            have HGD := Lib.hid hgd2
                            have HLDE := Lib.hid hld
                            have T5 : Hid ((x.op == 5) = false) := Lib.hid (by simpa using n5)
                            have T20 : Hid ((x.op != 20) = true) := Lib.hid (by simp; omega)
                            have T19 : Hid ((x.op == 19) = false) := Lib.hid (by simp; omega)
                            have T20b : Hid ((x.op == 20) = false) := Lib.hid (by simp; omega)
                            have HSV : Hid (stepV p x k D l = putD D (k + 1) (wroteV p x l)) := Lib.hid (by unfold stepV; dsimp only; rw [if_neg (by omega), if_neg (by omega)])
                            clear hset hgd2 hld hqs hq n3 n5 n9
                            go_upto_region 37 with fail
                            obtain ⟨wj, hwj⟩ : ∃ W, W = w34.setCell ⟨gd, q, none⟩ (.bool true) := ⟨_, rfl⟩
                            have hbe : Below wl.heap.size wl wj := by rw [hwj]; exact HB34.out.grown HSET.out.2 HB34.out.size (fun j hj => by injection hj with hj; rw [← hj]; exact HGD.out)
                            have hoj : OwnT wj wl.heap.size (.slice (some ⟨gd, 0, none⟩) (wroteV p x l).length cy) (wroteV p x l) := by rw [hwj, HLDE.out]; exact HSET.out.1
                            rw [← hwj]
                            have hln : (wroteV p x l).length = l.length := wroteV_length p x l
                            have hslot : (l.set q true).length = l.length := List.length_set
                            rw [show (Value.slice (some ⟨gd, 0, none⟩) l.length cy) = .slice (some ⟨gd, 0, none⟩) (wroteV p x l).length cy by rw [hln]]
                            obtain ⟨y, hy⟩ : ∃ y : Option Addr, y = some ⟨gd, 0, none⟩ := ⟨_, rfl⟩
                            rw [← hy] at hoj ⊢
                            clear hwj zc0 zf0 m1 m2 t1 hslot HSET hy hql
                            obtain ⟨ld, hld⟩ : ∃ ld, ld = wroteV p x l := ⟨_, rfl⟩
                            rw [← hld] at hoj hln ⊢
                            have HLD : Hid (ld.length = m) := Lib.hid (hln.trans HLL.out)
                            have HLQ := Lib.hid hld
                            have HOj := Lib.hid hoj
                            have HDj := Lib.hid (HDl.out.below hbe)
                            have hij : wj.heap[gi]? = some (.cells #[.int .i64 x.op, .int .i64 x.a, .int .i64 x.b, .int .i64 x.c] 34 (0, 0)) := (hbe.block gi (Array.getElem?_eq_some_iff.1 HIl.out).1).trans HIl.out
                            have HIj := Lib.hid hij
                            have HBj : Hid (Below W0.heap.size W0 wj) := Lib.hid (HBl.out.trans (hbe.mono HBl.out.size))
                            clear hoj hln hld hbe
                            have t5 := T5.out
                            have t20 := T20.out
                            have r0 := cell_of_row wj gi 0 _ _ _ hij
                            clear hij
                            obtain ⟨v1, zc1, zf1, hv1⟩ := HDj.out.cell (k + 1) HKD.out
                            have hd1 : (D[k + 1]'HKD.out) = D.getD (k + 1) none := by rw [List.getD_eq_getElem?_getD, List.getElem?_eq_getElem HKD.out]; rfl
                            rw [hd1] at hv1
                            have kb := vBoth_cell (w0 := wj) hv1 ld y cy HOj.out.form_row (fun l' hl' => by rw [HLD.out]; exact HFLT.out (k + 1) l' hl') (by rw [HLD.out]; exact HM1.out)
                            obtain ⟨LB, hLB⟩ : ∃ L, L = bothP (D.getD (k + 1) none) ld := ⟨_, rfl⟩
                            rw [← hLB] at kb
                            have HLB := Lib.hid hLB
                            clear hLB
                            have m5 := HM5.out
                            have m6 := HM6.out
                            have hk1 := HKW.out
                            go_wp2_with fail
                            (with_reducible refine kb.mono ?_)
                            rintro e w40 ⟨b4, o4, c4, rfl, hr4, _, _, hb4, hbl4⟩
                            clear kb
                            have zc2 : w40.cell? ⟨g, k + 1, none⟩ = some v1 := (hbl4.cell (p := ⟨g, k + 1, none⟩) HDj.out.lt).trans zc1
                            have HD4 := HDj.out.below hbl4
                            obtain ⟨_, _, zf2, _⟩ := HD4.cell (k + 1) HKD.out
                            have hu : DCell w40 g (.slice (some ⟨b4, o4, none⟩) LB.length c4) (some LB) := ⟨b4, o4, c4, rfl, hr4, Nat.ne_of_gt (Nat.lt_of_lt_of_le HDj.out.lt hb4)⟩
                            have hd5 : DoneIn (w40.setCell ⟨g, k + 1, none⟩ (.slice (some ⟨b4, o4, none⟩) LB.length c4)) g (putD D (k + 1) ld) := by unfold putD; rw [← HLB.out]; exact HD4.set (k + 1) hu
                            have hg5 := set_grown16 w40 g (k + 1) (.slice (some ⟨b4, o4, none⟩) LB.length c4)
                            have ho5 := (HOj.out.below hbl4).keep hg5 HGL.out.1
                            have hi5 : (w40.setCell ⟨g, k + 1, none⟩ (.slice (some ⟨b4, o4, none⟩) LB.length c4)).heap[gi]? = some (.cells #[.int .i64 x.op, .int .i64 x.a, .int .i64 x.b, .int .i64 x.c] 34 (0, 0)) := (hg5.block gi (Nat.lt_of_lt_of_le (Array.getElem?_eq_some_iff.1 HIj.out).1 hbl4.size) (fun e => by injection e with e; exact HGL.out.2 e.symm)).trans ((hbl4.block gi (Array.getElem?_eq_some_iff.1 HIj.out).1).trans HIj.out)
                            have hb5 : Below W0.heap.size W0 (w40.setCell ⟨g, k + 1, none⟩ (.slice (some ⟨b4, o4, none⟩) LB.length c4)) := (HBj.out.trans (hbl4.mono HBj.out.size)).grown hg5 (Nat.le_trans HBj.out.size hbl4.size) (fun j hj => by injection hj with hj; rw [← hj]; exact HGW.out)
                            go_upto_region 41 with fail
                            obtain ⟨w5, hw5⟩ : ∃ W, W = w40.setCell ⟨g, k + 1, none⟩ (.slice (some ⟨b4, o4, none⟩) LB.length c4) := ⟨_, rfl⟩
                            rw [← hw5] at hd5 ho5 hi5 hb5 ⊢
                            have HD5 := Lib.hid hd5
                            have HO5 := Lib.hid ho5
                            have HI5 := Lib.hid hi5
                            have HB5 := Lib.hid hb5
                            clear hu hd5 hg5 ho5 hi5 hb5 HD4 hbl4 hr4 hb4 hv1 zc1 zf1 zc2 zf2 hd1 hw5
                            clear r0
                            have r0 := cell_of_row _ gi 0 _ _ _ HI5.out
                            have t19 := T19.out
                            have t20b := T20b.out
                            go_wp2_with fail
                            refine ⟨⟨k + 1, putD D (k + 1) ld, by go_num, HKA.out, HB5.out, HD5.out, by rw [HLQ.out, ← HSV.out]; exact HFLT.out.step HLL.out, by rw [HLQ.out, ← HSV.out, stepV_length]; exact HDL.out, by rw [HSTP.out, HSV.out, ← HLQ.out]⟩, ?_⟩
                            exact meas_lt HKA.out
                          · as_aux_lemma =>
                            have hld : wroteV p x l = l := wroteV_none l (by omega)
                            have e : wv = -1 := by rw [hwv]; unfold wrI; rw [if_pos (by omega)]
                            clear hwv
                            subst e
                            have hi34 := (HB34.out.block gi (Array.getElem?_eq_some_iff.1 HIl.out).1).trans HIl.out
                            rw [n3] at hi34
                            have r0' := cell_of_row w34 gi 0 _ _ _ hi34
                            have HSV : Hid (stepV p x k D l = putD D (k + 1) (wroteV p x l)) := Lib.hid (by unfold stepV; dsimp only; rw [if_neg (by omega), if_neg (by omega)])
                            clear hi34
                            go_upto_region 39 with fail
                            obtain ⟨wj, hwj⟩ : ∃ W, W = w34 := ⟨_, rfl⟩
                            have hbe : Below wl.heap.size wl wj := by rw [hwj]; exact HB34.out
                            have hoj : OwnT wj wl.heap.size (.slice y (wroteV p x l).length cy) (wroteV p x l) := by rw [hwj, hld]; exact HOT4.out
                            rw [← hwj]
                            have hln : (wroteV p x l).length = l.length := wroteV_length p x l
                            rw [show (Value.slice y l.length cy) = .slice y (wroteV p x l).length cy by rw [hln]]
                            clear hwj hld r0'
                            obtain ⟨ld, hld⟩ : ∃ ld, ld = wroteV p x l := ⟨_, rfl⟩
                            rw [← hld] at hoj hln ⊢
                            have HLD : Hid (ld.length = m) := Lib.hid (hln.trans HLL.out)
                            have HLQ := Lib.hid hld
                            have HOj := Lib.hid hoj
                            have HDj := Lib.hid (HDl.out.below hbe)
                            have hij : wj.heap[gi]? = some (.cells #[.int .i64 x.op, .int .i64 x.a, .int .i64 x.b, .int .i64 x.c] 34 (0, 0)) := (hbe.block gi (Array.getElem?_eq_some_iff.1 HIl.out).1).trans HIl.out
                            have HIj := Lib.hid hij
                            have HBj : Hid (Below W0.heap.size W0 wj) := Lib.hid (HBl.out.trans (hbe.mono HBl.out.size))
                            clear hoj hln hld hbe
                            rw [n3] at hij
                            have r0 := cell_of_row wj gi 0 _ _ _ hij
                            clear hij
                            obtain ⟨v1, zc1, zf1, hv1⟩ := HDj.out.cell (k + 1) HKD.out
                            have hd1 : (D[k + 1]'HKD.out) = D.getD (k + 1) none := by rw [List.getD_eq_getElem?_getD, List.getElem?_eq_getElem HKD.out]; rfl
                            rw [hd1] at hv1
                            have kb := vBoth_cell (w0 := wj) hv1 ld y cy HOj.out.form_row (fun l' hl' => by rw [HLD.out]; exact HFLT.out (k + 1) l' hl') (by rw [HLD.out]; exact HM1.out)
                            obtain ⟨LB, hLB⟩ : ∃ L, L = bothP (D.getD (k + 1) none) ld := ⟨_, rfl⟩
                            rw [← hLB] at kb
                            have HLB := Lib.hid hLB
                            clear hLB
                            have m5 := HM5.out
                            have m6 := HM6.out
                            have hk1 := HKW.out
                            go_wp2_with fail
                            (with_reducible refine kb.mono ?_)
                            rintro e w40 ⟨b4, o4, c4, rfl, hr4, _, _, hb4, hbl4⟩
                            clear kb
                            have zc2 : w40.cell? ⟨g, k + 1, none⟩ = some v1 := (hbl4.cell (p := ⟨g, k + 1, none⟩) HDj.out.lt).trans zc1
                            have HD4 := HDj.out.below hbl4
                            obtain ⟨_, _, zf2, _⟩ := HD4.cell (k + 1) HKD.out
                            have hu : DCell w40 g (.slice (some ⟨b4, o4, none⟩) LB.length c4) (some LB) := ⟨b4, o4, c4, rfl, hr4, Nat.ne_of_gt (Nat.lt_of_lt_of_le HDj.out.lt hb4)⟩
                            have hd5 : DoneIn (w40.setCell ⟨g, k + 1, none⟩ (.slice (some ⟨b4, o4, none⟩) LB.length c4)) g (putD D (k + 1) ld) := by unfold putD; rw [← HLB.out]; exact HD4.set (k + 1) hu
                            have hg5 := set_grown16 w40 g (k + 1) (.slice (some ⟨b4, o4, none⟩) LB.length c4)
                            have ho5 := (HOj.out.below hbl4).keep hg5 HGL.out.1
                            have hi5 : (w40.setCell ⟨g, k + 1, none⟩ (.slice (some ⟨b4, o4, none⟩) LB.length c4)).heap[gi]? = some (.cells #[.int .i64 x.op, .int .i64 x.a, .int .i64 x.b, .int .i64 x.c] 34 (0, 0)) := (hg5.block gi (Nat.lt_of_lt_of_le (Array.getElem?_eq_some_iff.1 HIj.out).1 hbl4.size) (fun e => by injection e with e; exact HGL.out.2 e.symm)).trans ((hbl4.block gi (Array.getElem?_eq_some_iff.1 HIj.out).1).trans HIj.out)
                            have hb5 : Below W0.heap.size W0 (w40.setCell ⟨g, k + 1, none⟩ (.slice (some ⟨b4, o4, none⟩) LB.length c4)) := (HBj.out.trans (hbl4.mono HBj.out.size)).grown hg5 (Nat.le_trans HBj.out.size hbl4.size) (fun j hj => by injection hj with hj; rw [← hj]; exact HGW.out)
                            go_upto_region 41 with fail
                            obtain ⟨w5, hw5⟩ : ∃ W, W = w40.setCell ⟨g, k + 1, none⟩ (.slice (some ⟨b4, o4, none⟩) LB.length c4) := ⟨_, rfl⟩
                            rw [← hw5] at hd5 ho5 hi5 hb5 ⊢
                            have HD5 := Lib.hid hd5
                            have HO5 := Lib.hid ho5
                            have HI5 := Lib.hid hi5
                            have HB5 := Lib.hid hb5
                            clear hu hd5 hg5 ho5 hi5 hb5 HD4 hbl4 hr4 hb4 hv1 zc1 zf1 zc2 zf2 hd1 hw5
                            clear r0
                            have hi6 := HI5.out
                            rw [n3] at hi6
                            have r0 := cell_of_row _ gi 0 _ _ _ hi6
                            clear hi6
                            go_wp2_with fail
                            refine ⟨⟨k + 1, putD D (k + 1) ld, by go_num, HKA.out, HB5.out, HD5.out, by rw [HLQ.out, ← HSV.out]; exact HFLT.out.step HLL.out, by rw [HLQ.out, ← HSV.out, stepV_length]; exact HDL.out, by rw [HSTP.out, HSV.out, ← HLQ.out]⟩, ?_⟩
                            exact meas_lt HKA.out
                          · as_aux_lemma =>
                            obtain ⟨q, hq, hqs⟩ := named_out HNX.out n5
                            have hql : p.slots.length + q < l.length := by rw [HLL.out, HM.out]; omega
                            have hld : wroteV p x l = l.set (p.slots.length + q) true := wroteV_out l n5 hq
                            have e : wv = -1 := by rw [hwv]; unfold wrI; rw [if_pos (by omega)]
                            clear hwv
                            subst e
                            have HSV : Hid (stepV p x k D l = putD D (k + 1) (wroteV p x l)) := Lib.hid (by unfold stepV; dsimp only; rw [if_neg (by omega), if_neg (by omega)])
                            obtain ⟨T, hT⟩ : ∃ T, T = p.slots.length + q := ⟨_, rfl⟩
                            rw [← hT] at hql hld
                            obtain ⟨gd, hy, hgd2, ⟨u, zc0⟩, zf0, hset⟩ := HOT4.out.at hql
                            subst hy
                            have m1 : (0 : Int) ≤ (T : Int) := by omega
                            have m2 : (T : Int) < (l.length : Int) := by omega
                            have hsum : wrap64 ((p.slots.length : Int) + (q : Int)) = (T : Int) := by rw [wrap_in14 _ (by have := HSZ.out; omega), hT]; push_cast; rfl
                            have hi34 := (HB34.out.block gi (Array.getElem?_eq_some_iff.1 HIl.out).1).trans HIl.out
                            rw [n5, hq] at hi34
                            have r0' := cell_of_row w34 gi 0 _ _ _ hi34
                            have r1' := cell_of_row w34 gi 1 _ _ _ hi34
                            have hx34 := ((HBl.out.trans (HB34.out.mono HBl.out.size)).block B1 (Array.getElem?_eq_some_iff.1 HK1.out).1).trans HK1.out
                            have r2' := cell_of_row w34 B1 2 _ _ _ hx34
                            have HSET := Lib.hid (hset true)
                            have HGD := Lib.hid hgd2
                            have HLDE := Lib.hid hld
                            clear hset hgd2 hld hqs hi34 hx34 hT hq
                            go_upto_region 37 with fail
                            go_upto_region 38 with fail
                            go_upto_region 39 with fail
                            obtain ⟨wj, hwj⟩ : ∃ W, W = w34.setCell ⟨gd, T, none⟩ (.bool true) := ⟨_, rfl⟩
                            have hbe : Below wl.heap.size wl wj := by rw [hwj]; exact HB34.out.grown HSET.out.2 HB34.out.size (fun j hj => by injection hj with hj; rw [← hj]; exact HGD.out)
                            have hoj : OwnT wj wl.heap.size (.slice (some ⟨gd, 0, none⟩) (wroteV p x l).length cy) (wroteV p x l) := by rw [hwj, HLDE.out]; exact HSET.out.1
                            rw [← hwj]
                            have hln : (wroteV p x l).length = l.length := wroteV_length p x l
                            rw [show (Value.slice (some ⟨gd, 0, none⟩) l.length cy) = .slice (some ⟨gd, 0, none⟩) (wroteV p x l).length cy by rw [hln]]
                            obtain ⟨y, hy⟩ : ∃ y : Option Addr, y = some ⟨gd, 0, none⟩ := ⟨_, rfl⟩
                            rw [← hy] at hoj ⊢
                            clear hwj zc0 zf0 m1 m2 hsum HSET r0' r1' r2' hy hql
                            obtain ⟨ld, hld⟩ : ∃ ld, ld = wroteV p x l := ⟨_, rfl⟩
                            rw [← hld] at hoj hln ⊢
                            have HLD : Hid (ld.length = m) := Lib.hid (hln.trans HLL.out)
                            have HLQ := Lib.hid hld
                            have HOj := Lib.hid hoj
                            have HDj := Lib.hid (HDl.out.below hbe)
                            have hij : wj.heap[gi]? = some (.cells #[.int .i64 x.op, .int .i64 x.a, .int .i64 x.b, .int .i64 x.c] 34 (0, 0)) := (hbe.block gi (Array.getElem?_eq_some_iff.1 HIl.out).1).trans HIl.out
                            have HIj := Lib.hid hij
                            have HBj : Hid (Below W0.heap.size W0 wj) := Lib.hid (HBl.out.trans (hbe.mono HBl.out.size))
                            clear hoj hln hld hbe
                            rw [n5] at hij
                            have r0 := cell_of_row wj gi 0 _ _ _ hij
                            clear hij
                            obtain ⟨v1, zc1, zf1, hv1⟩ := HDj.out.cell (k + 1) HKD.out
                            have hd1 : (D[k + 1]'HKD.out) = D.getD (k + 1) none := by rw [List.getD_eq_getElem?_getD, List.getElem?_eq_getElem HKD.out]; rfl
                            rw [hd1] at hv1
                            have kb := vBoth_cell (w0 := wj) hv1 ld y cy HOj.out.form_row (fun l' hl' => by rw [HLD.out]; exact HFLT.out (k + 1) l' hl') (by rw [HLD.out]; exact HM1.out)
                            obtain ⟨LB, hLB⟩ : ∃ L, L = bothP (D.getD (k + 1) none) ld := ⟨_, rfl⟩
                            rw [← hLB] at kb
                            have HLB := Lib.hid hLB
                            clear hLB
                            have m5 := HM5.out
                            have m6 := HM6.out
                            have hk1 := HKW.out
                            go_wp2_with fail
                            (with_reducible refine kb.mono ?_)
                            rintro e w40 ⟨b4, o4, c4, rfl, hr4, _, _, hb4, hbl4⟩
                            clear kb
                            have zc2 : w40.cell? ⟨g, k + 1, none⟩ = some v1 := (hbl4.cell (p := ⟨g, k + 1, none⟩) HDj.out.lt).trans zc1
                            have HD4 := HDj.out.below hbl4
                            obtain ⟨_, _, zf2, _⟩ := HD4.cell (k + 1) HKD.out
                            have hu : DCell w40 g (.slice (some ⟨b4, o4, none⟩) LB.length c4) (some LB) := ⟨b4, o4, c4, rfl, hr4, Nat.ne_of_gt (Nat.lt_of_lt_of_le HDj.out.lt hb4)⟩
                            have hd5 : DoneIn (w40.setCell ⟨g, k + 1, none⟩ (.slice (some ⟨b4, o4, none⟩) LB.length c4)) g (putD D (k + 1) ld) := by unfold putD; rw [← HLB.out]; exact HD4.set (k + 1) hu
                            have hg5 := set_grown16 w40 g (k + 1) (.slice (some ⟨b4, o4, none⟩) LB.length c4)
                            have ho5 := (HOj.out.below hbl4).keep hg5 HGL.out.1
                            have hi5 : (w40.setCell ⟨g, k + 1, none⟩ (.slice (some ⟨b4, o4, none⟩) LB.length c4)).heap[gi]? = some (.cells #[.int .i64 x.op, .int .i64 x.a, .int .i64 x.b, .int .i64 x.c] 34 (0, 0)) := (hg5.block gi (Nat.lt_of_lt_of_le (Array.getElem?_eq_some_iff.1 HIj.out).1 hbl4.size) (fun e => by injection e with e; exact HGL.out.2 e.symm)).trans ((hbl4.block gi (Array.getElem?_eq_some_iff.1 HIj.out).1).trans HIj.out)
                            have hb5 : Below W0.heap.size W0 (w40.setCell ⟨g, k + 1, none⟩ (.slice (some ⟨b4, o4, none⟩) LB.length c4)) := (HBj.out.trans (hbl4.mono HBj.out.size)).grown hg5 (Nat.le_trans HBj.out.size hbl4.size) (fun j hj => by injection hj with hj; rw [← hj]; exact HGW.out)
                            go_upto_region 41 with fail
                            obtain ⟨w5, hw5⟩ : ∃ W, W = w40.setCell ⟨g, k + 1, none⟩ (.slice (some ⟨b4, o4, none⟩) LB.length c4) := ⟨_, rfl⟩
                            rw [← hw5] at hd5 ho5 hi5 hb5 ⊢
                            have HD5 := Lib.hid hd5
                            have HO5 := Lib.hid ho5
                            have HI5 := Lib.hid hi5
                            have HB5 := Lib.hid hb5
                            clear hu hd5 hg5 ho5 hi5 hb5 HD4 hbl4 hr4 hb4 hv1 zc1 zf1 zc2 zf2 hd1 hw5
                            clear r0
                            have hi6 := HI5.out
                            rw [n5] at hi6
                            have r0 := cell_of_row _ gi 0 _ _ _ hi6
                            clear hi6
                            go_wp2_with fail
                            refine ⟨⟨k + 1, putD D (k + 1) ld, by go_num, HKA.out, HB5.out, HD5.out, by rw [HLQ.out, ← HSV.out]; exact HFLT.out.step HLL.out, by rw [HLQ.out, ← HSV.out, stepV_length]; exact HDL.out, by rw [HSTP.out, HSV.out, ← HLQ.out]⟩, ?_⟩
                            exact meas_lt HKA.out
                          · as_aux_lemma =>
                            have hld : wroteV p x l = l := wroteV_none l (by omega)
                            have e : wv = -1 := by rw [hwv]; unfold wrI; rw [if_pos (by omega)]
                            clear hwv
                            subst e
                            obtain ⟨aq, haq, hak, han⟩ := named_jump HNX.out (by omega)
                            have HSVA : Hid (x.a.toNat = aq) := Lib.hid (by rw [haq, Int.toNat_natCast])
                            have HAQ := Lib.hid haq
                            have HAN : Hid (aq < p.code.length + 1) := Lib.hid (by omega)
                            have HADL : Hid (aq < D.length) := Lib.hid (by rw [HDL.out]; omega)
                            clear haq hak han
                            have hi34 := (HB34.out.block gi (Array.getElem?_eq_some_iff.1 HIl.out).1).trans HIl.out
                            rw [n19] at hi34
                            have r0' := cell_of_row w34 gi 0 _ _ _ hi34
                            have HSV : Hid (stepV p x k D l = putD (putD D (k + 1) (wroteV p x l)) x.a.toNat (wroteV p x l)) := Lib.hid (by unfold stepV; dsimp only; rw [if_pos (by omega), if_neg (by omega)])
                            clear hi34
                            go_upto_region 39 with fail
                            obtain ⟨wj, hwj⟩ : ∃ W, W = w34 := ⟨_, rfl⟩
                            have hbe : Below wl.heap.size wl wj := by rw [hwj]; exact HB34.out
                            have hoj : OwnT wj wl.heap.size (.slice y (wroteV p x l).length cy) (wroteV p x l) := by rw [hwj, hld]; exact HOT4.out
                            rw [← hwj]
                            have hln : (wroteV p x l).length = l.length := wroteV_length p x l
                            rw [show (Value.slice y l.length cy) = .slice y (wroteV p x l).length cy by rw [hln]]
                            clear hwj hld r0'
                            obtain ⟨ld, hld⟩ : ∃ ld, ld = wroteV p x l := ⟨_, rfl⟩
                            rw [← hld] at hoj hln ⊢
                            have HLD : Hid (ld.length = m) := Lib.hid (hln.trans HLL.out)
                            have HLQ := Lib.hid hld
                            have HOj := Lib.hid hoj
                            have HDj := Lib.hid (HDl.out.below hbe)
                            have hij : wj.heap[gi]? = some (.cells #[.int .i64 x.op, .int .i64 x.a, .int .i64 x.b, .int .i64 x.c] 34 (0, 0)) := (hbe.block gi (Array.getElem?_eq_some_iff.1 HIl.out).1).trans HIl.out
                            have HIj := Lib.hid hij
                            have HBj : Hid (Below W0.heap.size W0 wj) := Lib.hid (HBl.out.trans (hbe.mono HBl.out.size))
                            clear hoj hln hld hbe
                            rw [n19] at hij
                            have r0 := cell_of_row wj gi 0 _ _ _ hij
                            clear hij
                            obtain ⟨v1, zc1, zf1, hv1⟩ := HDj.out.cell (k + 1) HKD.out
                            have hd1 : (D[k + 1]'HKD.out) = D.getD (k + 1) none := by rw [List.getD_eq_getElem?_getD, List.getElem?_eq_getElem HKD.out]; rfl
                            rw [hd1] at hv1
                            have kb := vBoth_cell (w0 := wj) hv1 ld y cy HOj.out.form_row (fun l' hl' => by rw [HLD.out]; exact HFLT.out (k + 1) l' hl') (by rw [HLD.out]; exact HM1.out)
                            obtain ⟨LB, hLB⟩ : ∃ L, L = bothP (D.getD (k + 1) none) ld := ⟨_, rfl⟩
                            rw [← hLB] at kb
                            have HLB := Lib.hid hLB
                            clear hLB
                            have m5 := HM5.out
                            have m6 := HM6.out
                            have hk1 := HKW.out
                            go_wp2_with fail
                            (with_reducible refine kb.mono ?_)
                            rintro e w40 ⟨b4, o4, c4, rfl, hr4, _, _, hb4, hbl4⟩
                            clear kb
                            have zc2 : w40.cell? ⟨g, k + 1, none⟩ = some v1 := (hbl4.cell (p := ⟨g, k + 1, none⟩) HDj.out.lt).trans zc1
                            have HD4 := HDj.out.below hbl4
                            obtain ⟨_, _, zf2, _⟩ := HD4.cell (k + 1) HKD.out
                            have hu : DCell w40 g (.slice (some ⟨b4, o4, none⟩) LB.length c4) (some LB) := ⟨b4, o4, c4, rfl, hr4, Nat.ne_of_gt (Nat.lt_of_lt_of_le HDj.out.lt hb4)⟩
                            have hd5 : DoneIn (w40.setCell ⟨g, k + 1, none⟩ (.slice (some ⟨b4, o4, none⟩) LB.length c4)) g (putD D (k + 1) ld) := by unfold putD; rw [← HLB.out]; exact HD4.set (k + 1) hu
                            have hg5 := set_grown16 w40 g (k + 1) (.slice (some ⟨b4, o4, none⟩) LB.length c4)
                            have ho5 := (HOj.out.below hbl4).keep hg5 HGL.out.1
                            have hi5 : (w40.setCell ⟨g, k + 1, none⟩ (.slice (some ⟨b4, o4, none⟩) LB.length c4)).heap[gi]? = some (.cells #[.int .i64 x.op, .int .i64 x.a, .int .i64 x.b, .int .i64 x.c] 34 (0, 0)) := (hg5.block gi (Nat.lt_of_lt_of_le (Array.getElem?_eq_some_iff.1 HIj.out).1 hbl4.size) (fun e => by injection e with e; exact HGL.out.2 e.symm)).trans ((hbl4.block gi (Array.getElem?_eq_some_iff.1 HIj.out).1).trans HIj.out)
                            have hb5 : Below W0.heap.size W0 (w40.setCell ⟨g, k + 1, none⟩ (.slice (some ⟨b4, o4, none⟩) LB.length c4)) := (HBj.out.trans (hbl4.mono HBj.out.size)).grown hg5 (Nat.le_trans HBj.out.size hbl4.size) (fun j hj => by injection hj with hj; rw [← hj]; exact HGW.out)
                            go_upto_region 41 with fail
                            obtain ⟨w5, hw5⟩ : ∃ W, W = w40.setCell ⟨g, k + 1, none⟩ (.slice (some ⟨b4, o4, none⟩) LB.length c4) := ⟨_, rfl⟩
                            rw [← hw5] at hd5 ho5 hi5 hb5 ⊢
                            have HD5 := Lib.hid hd5
                            have HO5 := Lib.hid ho5
                            have HI5 := Lib.hid hi5
                            have HB5 := Lib.hid hb5
                            clear hu hd5 hg5 ho5 hi5 hb5 HD4 hbl4 hr4 hb4 hv1 zc1 zf1 zc2 zf2 hd1 hw5
                            clear r0
                            have hi6 := HI5.out
                            rw [n19] at hi6
                            have r0 := cell_of_row _ gi 0 _ _ _ hi6
                            clear hi6
                            have HAD : Hid (aq < (putD D (k + 1) ld).length) := Lib.hid (by rw [flow_put_length]; exact HADL.out)
                            obtain ⟨v2, zc3, zf3, hv2⟩ := HD5.out.cell aq HAD.out
                            have hd2 : ((putD D (k + 1) ld)[aq]'HAD.out) = (putD D (k + 1) ld).getD aq none := by rw [List.getD_eq_getElem?_getD, List.getElem?_eq_getElem HAD.out]; rfl
                            rw [hd2] at hv2
                            have HFL2 : Hid (FlatD (putD D (k + 1) ld) m) := Lib.hid (HFLT.out.put HLD.out _)
                            obtain ⟨L2, hL2⟩ : ∃ L, L = bothP ((putD D (k + 1) ld).getD aq none) ld := ⟨_, rfl⟩
                            have HL2 := Lib.hid hL2
                            have HV2 := Lib.hid hv2
                            have HZC3 := Lib.hid zc3
                            have hia : w5.heap[gi]? = some (.cells #[.int .i64 x.op, .int .i64 (aq : Int), .int .i64 x.b, .int .i64 x.c] 34 (0, 0)) := by have h := HI5.out; rw [HAQ.out] at h; exact h
                            have HIA := Lib.hid hia
                            clear hd2 hL2 hv2 zc3 zf3 hia
                            go_upto_region 42 with fail
                            clear r0
                            refine wp_region_steps_then (words [wIs (.slice (some ⟨g, 0, none⟩) (p.code.length + 1) (p.code.length + 1)), wIs (.pointer (some ⟨gi, 1, none⟩)), wIs (.int .i64 (aq : Int)), wIs (.slice (some ⟨g, 0, none⟩) (p.code.length + 1) (p.code.length + 1)), wIs (.pointer (some ⟨gi, 1, none⟩)), wIs (.int .i64 (aq : Int)), wIs (.pointer (some ⟨g, aq, none⟩)), wIs (v2), wIs (.slice y ld.length cy), wBs42 g L2, wIs (.pointer (some ⟨g, aq, none⟩))]) w5.heap.size w5 (by kernel_rfl) (Below.refl _ _) (Nat.le_refl _) (words_stable ?stab) rfl rfl (by kernel_rfl) (by kernel_rfl) _ rfl ?steps ?last
                            case stab =>
                              intro f hf
                              simp only [List.mem_cons, List.not_mem_nil, or_false] at hf
                              rcases hf with rfl | rfl | rfl | rfl | rfl | rfl | rfl | rfl | rfl | rfl | rfl <;> first | exact stable_is _ | exact stable_bs42 _ _
                            case steps =>
                              refine Steps.cons (step_value rfl fun xa W hp => ⟨(wanted_none rfl), _, _, run_move (.inl rfl), hp.old 9 rfl, Below.refl _ _⟩) ?_
                              refine Steps.cons (step_value rfl fun xa W hp => ?_) ?_
                              · have e0 : xa.tmps.getD 11 undef = .pointer (some ⟨gi, 0, none⟩) := hp.old 11 rfl
                                have e1 : (Instr.fieldAt 34 (.pointer (some ⟨gi, 0, none⟩)) 1).run Tryd.prog W = .ok (.pointer (some ⟨gi, 1, none⟩)) W := by kernel_rfl
                                exact ⟨(wanted_none rfl), _, _, run_fa4 rfl e0 e1, rfl, Below.refl _ _⟩
                              refine Steps.cons (step_value rfl fun xa W hp => ?_) ?_
                              · have e0 : xa.tmps.getD 204 undef = .pointer (some ⟨gi, 1, none⟩) := (hp.on_ 1 rfl rfl rfl).2
                                exact ⟨(wanted_none rfl), _, _, run_ldv rfl e0 (cell_of_row W (gi) 1 _ _ _ ((hp.below.block (gi) (Array.getElem?_eq_some_iff.1 HIA.out).1).trans HIA.out)) Tryd.underlying3 rfl (by kernel_rfl), rfl, Below.refl _ _⟩
                              refine Steps.cons (step_value rfl fun xa W hp => ⟨(wanted_none rfl), _, _, run_move (.inl rfl), hp.old 9 rfl, Below.refl _ _⟩) ?_
                              refine Steps.cons (step_value rfl fun xa W hp => ?_) ?_
                              · have e0 : xa.tmps.getD 11 undef = .pointer (some ⟨gi, 0, none⟩) := hp.old 11 rfl
                                have e1 : (Instr.fieldAt 34 (.pointer (some ⟨gi, 0, none⟩)) 1).run Tryd.prog W = .ok (.pointer (some ⟨gi, 1, none⟩)) W := by kernel_rfl
                                exact ⟨(wanted_none rfl), _, _, run_fa4 rfl e0 e1, rfl, Below.refl _ _⟩
                              refine Steps.cons (step_value rfl fun xa W hp => ?_) ?_
                              · have e0 : xa.tmps.getD 207 undef = .pointer (some ⟨gi, 1, none⟩) := (hp.on_ 4 rfl rfl rfl).2
                                exact ⟨(wanted_none rfl), _, _, run_ldv rfl e0 (cell_of_row W (gi) 1 _ _ _ ((hp.below.block (gi) (Array.getElem?_eq_some_iff.1 HIA.out).1).trans HIA.out)) Tryd.underlying3 rfl (by kernel_rfl), rfl, Below.refl _ _⟩
                              refine Steps.cons (step_value rfl fun xa W hp => ?_) ?_
                              · have e0 : xa.tmps.getD 206 undef = .slice (some ⟨g, 0, none⟩) (p.code.length + 1) (p.code.length + 1) := (hp.on_ 3 rfl rfl rfl).2
                                have e1 : xa.tmps.getD 208 undef = .int .i64 (aq : Int) := (hp.on_ 5 rfl rfl rfl).2
                                exact ⟨(wanted_none rfl), _, _, run_idx14 (sz := 1) Tryd.underlying46 (by kernel_rfl) rfl e0 e1 HAN.out, by rw [show (Value.pointer (some ⟨g, 0 + aq * 1, none⟩)) = .pointer (some ⟨g, aq, none⟩) by rw [Nat.zero_add, Nat.mul_one]]; rfl, Below.refl _ _⟩
                              refine Steps.cons (step_value rfl fun xa W hp => ?_) ?_
                              · have e0 : xa.tmps.getD 209 undef = .pointer (some ⟨g, aq, none⟩) := (hp.on_ 6 rfl rfl rfl).2
                                exact ⟨(wanted_none rfl), _, _, run_ldv rfl e0 ((hp.below.cell (p := ⟨g, aq, none⟩) HD5.out.lt).trans HZC3.out) Tryd.underlying47 rfl (by kernel_rfl), rfl, Below.refl _ _⟩
                              refine Steps.cons (step_value rfl fun xa W hp => ⟨(wanted_none rfl), _, _, run_move (.inl rfl), hp.old 14 rfl, Below.refl _ _⟩) ?_
                              refine Steps.cons (step_enter rfl fun xa W hp => ?_) ?_
                              · have e0 : xa.tmps.getD 210 undef = v2 := (hp.on_ 7 rfl rfl rfl).2
                                have e1 : xa.tmps.getD 211 undef = .slice y ld.length cy := (hp.on_ 8 rfl rfl rfl).2
                                refine ⟨(wanted_none rfl), 22, _, run_enter2 rfl rfl Tryd.call22, ?_⟩
                                show Calls _ _ #[xa.tmps.getD 210 undef, xa.tmps.getD 211 undef] W _
                                rw [e0, e1]
                                refine (vBoth_cell (w0 := W) (HV2.out.below hp.below) ld y cy (HO5.out.below hp.below).form_row (fun l' hl' => by rw [HLD.out]; exact HFL2.out aq l' hl') (by rw [HLD.out]; exact HM1.out)).mono ?_
                                rw [← HL2.out]
                                rintro e W' ⟨b4, o4, c4, he, hr4, _, _, hb4, hbl4⟩
                                exact ⟨_, he, ⟨b4, o4, c4, rfl, hr4, Nat.ne_of_gt (Nat.lt_of_lt_of_le (Nat.lt_of_lt_of_le HD5.out.lt hp.below.size) hb4)⟩, hbl4⟩
                              refine Steps.cons (step_value rfl fun xa W hp => ?_) ?_
                              · have e0 : xa.tmps.getD 203 undef = .slice (some ⟨g, 0, none⟩) (p.code.length + 1) (p.code.length + 1) := (hp.on_ 0 rfl rfl rfl).2
                                have e1 : xa.tmps.getD 205 undef = .int .i64 (aq : Int) := (hp.on_ 2 rfl rfl rfl).2
                                exact ⟨(wanted_none rfl), _, _, run_idx14 (sz := 1) Tryd.underlying46 (by kernel_rfl) rfl e0 e1 HAN.out, by rw [show (Value.pointer (some ⟨g, 0 + aq * 1, none⟩)) = .pointer (some ⟨g, aq, none⟩) by rw [Nat.zero_add, Nat.mul_one]]; rfl, Below.refl _ _⟩
                              exact Steps.nil
                            case last =>
                              intro act W hI
                              have h212 : wBs42 g L2 (act.tmps.getD 212 undef) W := hI.new 9 _ 212 rfl rfl rfl
                              have h213 : act.tmps.getD 213 undef = .pointer (some ⟨g, aq, none⟩) := hI.new 10 _ 213 rfl rfl rfl
                              obtain ⟨b4, o4, c4, e212, hr4, hn4⟩ := h212
                              have hbW := hI.below
                              obtain ⟨fo, hfo, hx⟩ := puts_of hI.tmps hI.defers hI.old [203, 204, 205, 206, 207, 208, 209, 210, 211, 212, 213] rfl
                              have HD4 := HD5.out.below hbW
                              obtain ⟨_, zc4, zf4, _⟩ := HD4.cell aq HAD.out
                              have hu : DCell W g (.slice (some ⟨b4, o4, none⟩) L2.length c4) (some L2) := ⟨b4, o4, c4, rfl, hr4, hn4⟩
                              have hd6 : DoneIn (W.setCell ⟨g, aq, none⟩ (.slice (some ⟨b4, o4, none⟩) L2.length c4)) g (putD (putD D (k + 1) ld) aq ld) := by
                                rw [show putD (putD D (k + 1) ld) aq ld = List.set (putD D (k + 1) ld) aq (some L2) from by rw [HL2.out]; rfl]
                                exact HD4.set aq hu
                              have hg6 := set_grown16 W g aq (.slice (some ⟨b4, o4, none⟩) L2.length c4)
                              have hb6 : Below W0.heap.size W0 (W.setCell ⟨g, aq, none⟩ (.slice (some ⟨b4, o4, none⟩) L2.length c4)) := (HB5.out.trans (hbW.mono HB5.out.size)).grown hg6 (Nat.le_trans HB5.out.size hbW.size) (fun j hj => by injection hj with hj; rw [← hj]; exact HGW.out)
                              have HD6 := Lib.hid hd6
                              have HB6 := Lib.hid hb6
                              refine wpOp_of rfl (wanted_none rfl) ?_
                              refine wp_store_cellv 47 (.tmp 213) (.tmp 212) rfl g aq (.slice (some ⟨b4, o4, none⟩) L2.length c4) _ h213 e212 zc4 zf4 (by kernel_rfl) rfl ?_
                              subst hx
                              rw [hfo] at e212 h213
                              clear hI hfo hbW hd6 hg6 hb6 hu HD4 zc4 zf4 hr4 hn4
                              obtain ⟨w6, hw6⟩ : ∃ w6, w6 = W.setCell ⟨g, aq, none⟩ (.slice (some ⟨b4, o4, none⟩) L2.length c4) := ⟨_, rfl⟩
                              rw [← hw6] at HD6 HB6 ⊢
                              clear hw6
                              simp only [Exit.inBlock, Exit.then, List.foldl, Act.put, List.setIfInBounds_toArray, List.set_cons_succ, List.set_cons_zero]
                              have hk1 := HKW.out
                              go_wp2_with fail
                              refine ⟨⟨k + 1, putD (putD D (k + 1) ld) aq ld, by go_num, HKA.out, HB6.out, HD6.out, ?_, ?_, ?_⟩, meas_lt HKA.out⟩
                              · rw [HLQ.out, ← HSVA.out, ← HSV.out]; exact HFLT.out.step HLL.out
                              · rw [HLQ.out, ← HSVA.out, ← HSV.out, stepV_length]; exact HDL.out
                              · rw [HSTP.out, HSV.out, HLQ.out, HSVA.out]
                          · as_aux_lemma =>
                            have hld : wroteV p x l = l := wroteV_none l (by omega)
                            have e : wv = -1 := by rw [hwv]; unfold wrI; rw [if_pos (by omega)]
                            clear hwv
                            subst e
                            obtain ⟨aq, haq, hak, han⟩ := named_jump HNX.out (by omega)
                            have HSVA : Hid (x.a.toNat = aq) := Lib.hid (by rw [haq, Int.toNat_natCast])
                            have HAQ := Lib.hid haq
                            have HAN : Hid (aq < p.code.length + 1) := Lib.hid (by omega)
                            have HADL : Hid (aq < D.length) := Lib.hid (by rw [HDL.out]; omega)
                            clear haq hak han
                            have hi34 := (HB34.out.block gi (Array.getElem?_eq_some_iff.1 HIl.out).1).trans HIl.out
                            rw [n20] at hi34
                            have r0' := cell_of_row w34 gi 0 _ _ _ hi34
                            have HSV : Hid (stepV p x k D l = putD D x.a.toNat (wroteV p x l)) := Lib.hid (by unfold stepV; dsimp only; rw [if_pos (by omega), if_pos (by omega)])
                            clear hi34
                            go_upto_region 39 with fail
                            obtain ⟨wj, hwj⟩ : ∃ W, W = w34 := ⟨_, rfl⟩
                            have hbe : Below wl.heap.size wl wj := by rw [hwj]; exact HB34.out
                            have hoj : OwnT wj wl.heap.size (.slice y (wroteV p x l).length cy) (wroteV p x l) := by rw [hwj, hld]; exact HOT4.out
                            rw [← hwj]
                            have hln : (wroteV p x l).length = l.length := wroteV_length p x l
                            rw [show (Value.slice y l.length cy) = .slice y (wroteV p x l).length cy by rw [hln]]
                            clear hwj hld r0'
                            obtain ⟨ld, hld⟩ : ∃ ld, ld = wroteV p x l := ⟨_, rfl⟩
                            rw [← hld] at hoj hln ⊢
                            have HLD : Hid (ld.length = m) := Lib.hid (hln.trans HLL.out)
                            have HLQ := Lib.hid hld
                            have HOj := Lib.hid hoj
                            have HDj := Lib.hid (HDl.out.below hbe)
                            have hij : wj.heap[gi]? = some (.cells #[.int .i64 x.op, .int .i64 x.a, .int .i64 x.b, .int .i64 x.c] 34 (0, 0)) := (hbe.block gi (Array.getElem?_eq_some_iff.1 HIl.out).1).trans HIl.out
                            have HIj := Lib.hid hij
                            have HBj : Hid (Below W0.heap.size W0 wj) := Lib.hid (HBl.out.trans (hbe.mono HBl.out.size))
                            clear hoj hln hld hbe
                            rw [n20] at hij
                            have r0 := cell_of_row wj gi 0 _ _ _ hij
                            clear hij
                            have HAD : Hid (aq < D.length) := Lib.hid (by exact HADL.out)
                            obtain ⟨v2, zc3, zf3, hv2⟩ := HDj.out.cell aq HAD.out
                            have hd2 : (D[aq]'HAD.out) = D.getD aq none := by rw [List.getD_eq_getElem?_getD, List.getElem?_eq_getElem HAD.out]; rfl
                            rw [hd2] at hv2
                            have HFL2 : Hid (FlatD D m) := Lib.hid (HFLT.out)
                            obtain ⟨L2, hL2⟩ : ∃ L, L = bothP (D.getD aq none) ld := ⟨_, rfl⟩
                            have HL2 := Lib.hid hL2
                            have HV2 := Lib.hid hv2
                            have HZC3 := Lib.hid zc3
                            have hia : wj.heap[gi]? = some (.cells #[.int .i64 x.op, .int .i64 (aq : Int), .int .i64 x.b, .int .i64 x.c] 34 (0, 0)) := by have h := HIj.out; rw [HAQ.out] at h; exact h
                            have HIA := Lib.hid hia
                            clear hd2 hL2 hv2 zc3 zf3 hia
                            go_upto_region 42 with fail
                            clear r0
                            refine wp_region_steps_then (words [wIs (.slice (some ⟨g, 0, none⟩) (p.code.length + 1) (p.code.length + 1)), wIs (.pointer (some ⟨gi, 1, none⟩)), wIs (.int .i64 (aq : Int)), wIs (.slice (some ⟨g, 0, none⟩) (p.code.length + 1) (p.code.length + 1)), wIs (.pointer (some ⟨gi, 1, none⟩)), wIs (.int .i64 (aq : Int)), wIs (.pointer (some ⟨g, aq, none⟩)), wIs (v2), wIs (.slice y ld.length cy), wBs42 g L2, wIs (.pointer (some ⟨g, aq, none⟩))]) wj.heap.size wj (by kernel_rfl) (Below.refl _ _) (Nat.le_refl _) (words_stable ?stab) rfl rfl (by kernel_rfl) (by kernel_rfl) _ rfl ?steps ?last
                            case stab =>
                              intro f hf
                              simp only [List.mem_cons, List.not_mem_nil, or_false] at hf
                              rcases hf with rfl | rfl | rfl | rfl | rfl | rfl | rfl | rfl | rfl | rfl | rfl <;> first | exact stable_is _ | exact stable_bs42 _ _
                            case steps =>
                              refine Steps.cons (step_value rfl fun xa W hp => ⟨(wanted_none rfl), _, _, run_move (.inl rfl), hp.old 9 rfl, Below.refl _ _⟩) ?_
                              refine Steps.cons (step_value rfl fun xa W hp => ?_) ?_
                              · have e0 : xa.tmps.getD 11 undef = .pointer (some ⟨gi, 0, none⟩) := hp.old 11 rfl
                                have e1 : (Instr.fieldAt 34 (.pointer (some ⟨gi, 0, none⟩)) 1).run Tryd.prog W = .ok (.pointer (some ⟨gi, 1, none⟩)) W := by kernel_rfl
                                exact ⟨(wanted_none rfl), _, _, run_fa4 rfl e0 e1, rfl, Below.refl _ _⟩
                              refine Steps.cons (step_value rfl fun xa W hp => ?_) ?_
                              · have e0 : xa.tmps.getD 204 undef = .pointer (some ⟨gi, 1, none⟩) := (hp.on_ 1 rfl rfl rfl).2
                                exact ⟨(wanted_none rfl), _, _, run_ldv rfl e0 (cell_of_row W (gi) 1 _ _ _ ((hp.below.block (gi) (Array.getElem?_eq_some_iff.1 HIA.out).1).trans HIA.out)) Tryd.underlying3 rfl (by kernel_rfl), rfl, Below.refl _ _⟩
                              refine Steps.cons (step_value rfl fun xa W hp => ⟨(wanted_none rfl), _, _, run_move (.inl rfl), hp.old 9 rfl, Below.refl _ _⟩) ?_
                              refine Steps.cons (step_value rfl fun xa W hp => ?_) ?_
                              · have e0 : xa.tmps.getD 11 undef = .pointer (some ⟨gi, 0, none⟩) := hp.old 11 rfl
                                have e1 : (Instr.fieldAt 34 (.pointer (some ⟨gi, 0, none⟩)) 1).run Tryd.prog W = .ok (.pointer (some ⟨gi, 1, none⟩)) W := by kernel_rfl
                                exact ⟨(wanted_none rfl), _, _, run_fa4 rfl e0 e1, rfl, Below.refl _ _⟩
                              refine Steps.cons (step_value rfl fun xa W hp => ?_) ?_
                              · have e0 : xa.tmps.getD 207 undef = .pointer (some ⟨gi, 1, none⟩) := (hp.on_ 4 rfl rfl rfl).2
                                exact ⟨(wanted_none rfl), _, _, run_ldv rfl e0 (cell_of_row W (gi) 1 _ _ _ ((hp.below.block (gi) (Array.getElem?_eq_some_iff.1 HIA.out).1).trans HIA.out)) Tryd.underlying3 rfl (by kernel_rfl), rfl, Below.refl _ _⟩
                              refine Steps.cons (step_value rfl fun xa W hp => ?_) ?_
                              · have e0 : xa.tmps.getD 206 undef = .slice (some ⟨g, 0, none⟩) (p.code.length + 1) (p.code.length + 1) := (hp.on_ 3 rfl rfl rfl).2
                                have e1 : xa.tmps.getD 208 undef = .int .i64 (aq : Int) := (hp.on_ 5 rfl rfl rfl).2
                                exact ⟨(wanted_none rfl), _, _, run_idx14 (sz := 1) Tryd.underlying46 (by kernel_rfl) rfl e0 e1 HAN.out, by rw [show (Value.pointer (some ⟨g, 0 + aq * 1, none⟩)) = .pointer (some ⟨g, aq, none⟩) by rw [Nat.zero_add, Nat.mul_one]]; rfl, Below.refl _ _⟩
                              refine Steps.cons (step_value rfl fun xa W hp => ?_) ?_
                              · have e0 : xa.tmps.getD 209 undef = .pointer (some ⟨g, aq, none⟩) := (hp.on_ 6 rfl rfl rfl).2
                                exact ⟨(wanted_none rfl), _, _, run_ldv rfl e0 ((hp.below.cell (p := ⟨g, aq, none⟩) HDj.out.lt).trans HZC3.out) Tryd.underlying47 rfl (by kernel_rfl), rfl, Below.refl _ _⟩
                              refine Steps.cons (step_value rfl fun xa W hp => ⟨(wanted_none rfl), _, _, run_move (.inl rfl), hp.old 14 rfl, Below.refl _ _⟩) ?_
                              refine Steps.cons (step_enter rfl fun xa W hp => ?_) ?_
                              · have e0 : xa.tmps.getD 210 undef = v2 := (hp.on_ 7 rfl rfl rfl).2
                                have e1 : xa.tmps.getD 211 undef = .slice y ld.length cy := (hp.on_ 8 rfl rfl rfl).2
                                refine ⟨(wanted_none rfl), 22, _, run_enter2 rfl rfl Tryd.call22, ?_⟩
                                show Calls _ _ #[xa.tmps.getD 210 undef, xa.tmps.getD 211 undef] W _
                                rw [e0, e1]
                                refine (vBoth_cell (w0 := W) (HV2.out.below hp.below) ld y cy (HOj.out.below hp.below).form_row (fun l' hl' => by rw [HLD.out]; exact HFL2.out aq l' hl') (by rw [HLD.out]; exact HM1.out)).mono ?_
                                rw [← HL2.out]
                                rintro e W' ⟨b4, o4, c4, he, hr4, _, _, hb4, hbl4⟩
                                exact ⟨_, he, ⟨b4, o4, c4, rfl, hr4, Nat.ne_of_gt (Nat.lt_of_lt_of_le (Nat.lt_of_lt_of_le HDj.out.lt hp.below.size) hb4)⟩, hbl4⟩
                              refine Steps.cons (step_value rfl fun xa W hp => ?_) ?_
                              · have e0 : xa.tmps.getD 203 undef = .slice (some ⟨g, 0, none⟩) (p.code.length + 1) (p.code.length + 1) := (hp.on_ 0 rfl rfl rfl).2
                                have e1 : xa.tmps.getD 205 undef = .int .i64 (aq : Int) := (hp.on_ 2 rfl rfl rfl).2
                                exact ⟨(wanted_none rfl), _, _, run_idx14 (sz := 1) Tryd.underlying46 (by kernel_rfl) rfl e0 e1 HAN.out, by rw [show (Value.pointer (some ⟨g, 0 + aq * 1, none⟩)) = .pointer (some ⟨g, aq, none⟩) by rw [Nat.zero_add, Nat.mul_one]]; rfl, Below.refl _ _⟩
                              exact Steps.nil
                            case last =>
                              intro act W hI
                              have h212 : wBs42 g L2 (act.tmps.getD 212 undef) W := hI.new 9 _ 212 rfl rfl rfl
                              have h213 : act.tmps.getD 213 undef = .pointer (some ⟨g, aq, none⟩) := hI.new 10 _ 213 rfl rfl rfl
                              obtain ⟨b4, o4, c4, e212, hr4, hn4⟩ := h212
                              have hbW := hI.below
                              obtain ⟨fo, hfo, hx⟩ := puts_of hI.tmps hI.defers hI.old [203, 204, 205, 206, 207, 208, 209, 210, 211, 212, 213] rfl
                              have HD4 := HDj.out.below hbW
                              obtain ⟨_, zc4, zf4, _⟩ := HD4.cell aq HAD.out
                              have hu : DCell W g (.slice (some ⟨b4, o4, none⟩) L2.length c4) (some L2) := ⟨b4, o4, c4, rfl, hr4, hn4⟩
                              have hd6 : DoneIn (W.setCell ⟨g, aq, none⟩ (.slice (some ⟨b4, o4, none⟩) L2.length c4)) g (putD D aq ld) := by
                                rw [show putD D aq ld = List.set D aq (some L2) from by rw [HL2.out]; rfl]
                                exact HD4.set aq hu
                              have hg6 := set_grown16 W g aq (.slice (some ⟨b4, o4, none⟩) L2.length c4)
                              have hb6 : Below W0.heap.size W0 (W.setCell ⟨g, aq, none⟩ (.slice (some ⟨b4, o4, none⟩) L2.length c4)) := (HBj.out.trans (hbW.mono HBj.out.size)).grown hg6 (Nat.le_trans HBj.out.size hbW.size) (fun j hj => by injection hj with hj; rw [← hj]; exact HGW.out)
                              have HD6 := Lib.hid hd6
                              have HB6 := Lib.hid hb6
                              refine wpOp_of rfl (wanted_none rfl) ?_
                              refine wp_store_cellv 47 (.tmp 213) (.tmp 212) rfl g aq (.slice (some ⟨b4, o4, none⟩) L2.length c4) _ h213 e212 zc4 zf4 (by kernel_rfl) rfl ?_
                              subst hx
                              rw [hfo] at e212 h213
                              clear hI hfo hbW hd6 hg6 hb6 hu HD4 zc4 zf4 hr4 hn4
                              obtain ⟨w6, hw6⟩ : ∃ w6, w6 = W.setCell ⟨g, aq, none⟩ (.slice (some ⟨b4, o4, none⟩) L2.length c4) := ⟨_, rfl⟩
                              rw [← hw6] at HD6 HB6 ⊢
                              clear hw6
                              simp only [Exit.inBlock, Exit.then, List.foldl, Act.put, List.setIfInBounds_toArray, List.set_cons_succ, List.set_cons_zero]
                              have hk1 := HKW.out
                              go_wp2_with fail
                              refine ⟨⟨k + 1, putD D aq ld, by go_num, HKA.out, HB6.out, HD6.out, ?_, ?_, ?_⟩, meas_lt HKA.out⟩
                              · rw [HLQ.out, ← HSVA.out, ← HSV.out]; exact HFLT.out.step HLL.out
                              · rw [HLQ.out, ← HSVA.out, ← HSV.out, stepV_length]; exact HDL.out
                              · rw [HSTP.out, HSV.out, HLQ.out, HSVA.out]
                  · as_aux_lemma =>
                    obtain rfl : k = p.code.length := by have := HK.out; omega
                    have e1 : decide ((p.code.length : Int) < (p.code.length : Int)) = false := by simp
                    have hcc : checkP p = if outsV p D = true then (0, 0) else ((p.code.length : Int), 5) := by
                      have hfe : flowV p p.code 0 (done0 p) = .inl D := by rw [HFV.out]; exact flowV_end _ _ _
                      unfold checkP
                      rw [HBG.out, HKI.out, HN1.out, HN2.out, hfe]
                      rfl
                    have HCC := Lib.hid hcc
                    have HZC := Lib.hid zc
                    have HGD := Lib.hid hgd
                    obtain ⟨wf, hwf⟩ : ∃ w, w = wr := ⟨_, rfl⟩
                    subst hwf
                    clear hcc hka zc zf hgd HFV HK
                    cases dk with
                    | none =>
                      have hv0 : v0 = .slice none 0 0 := hv0
                      subst hv0
                      have ho : outsV p D = true := by unfold outsV; rw [HGD.out]
                      have HO := Lib.hid ho
                      clear ho
                      go_wp2_with fail
                      go_loopw [16] (fun v wx => v = .int .i64 0 ∧ wx = wf) (fun _ _ => 0)
                      case atStart => exact ⟨rfl, rfl⟩
                      case round =>
                        obtain ⟨rfl, rfl⟩ := hrel
                        have u1 := cell_of_row wr B1 1 _ _ _ HX1r.out
                        have zc := HZC.out
                        have vn := vnil_ne wr
                        by_cases h0 : 0 < p.outs.length
                        · have f1 : decide ((0 : Int) < (p.outs.length : Int)) = true := decide_eq_true (by omega)
                          go_wp2_with fail
                          go_ret2
                          exact ⟨by rw [HCC.out, if_pos HO.out]; rfl, HB0.out.trans (HBW.out.mono HB0.out.size)⟩
                        · have f1 : decide ((0 : Int) < (p.outs.length : Int)) = false := decide_eq_false (by omega)
                          go_wp2_with fail
                          go_ret2
                          exact ⟨by rw [HCC.out, if_pos HO.out]; rfl, HB0.out.trans (HBW.out.mono HB0.out.size)⟩
                    | some l =>
                      obtain ⟨bl, ol, cl, rfl, hrl, hblg⟩ := hv0
                      have HLL : Hid (l.length = p.slots.length + p.outs.length) := Lib.hid ((HFLT.out _ l HGD.out).trans HM.out)
                      have HHRL := Lib.hid hrl
                      have HOE : Hid (outsV p D = ((l.drop p.slots.length).take p.outs.length).all id) := Lib.hid (by unfold outsV; rw [HGD.out])
                      clear hrl hblg
                      go_wp2_with fail
                      go_loopw [16] (fun v wx => ∃ j : Nat, v = .int .i64 (j : Int) ∧ j ≤ p.outs.length ∧ Below wf.heap.size wf wx ∧ ((l.drop p.slots.length).take j).all id = true)
                        (fun v _ => p.outs.length - (intOf v).toNat)
                      case atStart => exact ⟨0, rfl, Nat.zero_le _, Below.refl _ _, rfl⟩
                      case round =>
                        obtain ⟨j, rfl, hj, hbj, hall⟩ := hrel
                        have HJ := Lib.hid hj
                        have HBJ := Lib.hid hbj
                        have HALL := Lib.hid hall
                        have hx1 := (hbj.block B1 (Array.getElem?_eq_some_iff.1 HX1r.out).1).trans HX1r.out
                        have u1 := cell_of_row wr B1 1 _ _ _ hx1
                        have u2 := cell_of_row wr B1 2 _ _ _ hx1
                        have zd : wr.cell? ⟨g, p.code.length, none⟩ = some (.slice (some ⟨bl, ol, none⟩) l.length cl) := (hbj.cell (p := ⟨g, p.code.length, none⟩) HDI.out.lt).trans HZC.out
                        have vs := vsome_ne ⟨bl, ol, none⟩ l.length cl wr
                        clear hj hbj hall hx1
                        by_cases hjo : j < p.outs.length
                        · have f1 : decide ((j : Int) < (p.outs.length : Int)) = true := by simp; omega
                          obtain ⟨T, hT⟩ : ∃ T, T = p.slots.length + j := ⟨_, rfl⟩
                          have hTl : T < l.length := by rw [HLL.out]; omega
                          obtain ⟨bl', ol', hle, hbll, hcl⟩ := HHRL.out (by intro h; rw [h] at hTl; simp at hTl)
                          injection hle with hle
                          injection hle with hle1 hle2
                          subst hle1 hle2
                          have zl := (HBJ.out.cell (p := ⟨bl, ol + T, none⟩) hbll).trans (hcl T hTl)
                          obtain ⟨tb, htb⟩ : ∃ t, t = l[T]'hTl := ⟨_, rfl⟩
                          rw [← htb] at zl
                          have htk : ((l.drop p.slots.length).take (j + 1)).all id = tb := by
                            rw [List.take_add_one, List.all_append, HALL.out, List.getElem?_drop, ← hT, List.getElem?_eq_getElem hTl, ← htb]
                            simp
                          have HTK := Lib.hid htk
                          have m3 : (0 : Int) ≤ (T : Int) := by omega
                          have m4 : (T : Int) < (l.length : Int) := by omega
                          have HJR := Lib.hid hjo
                          have HJS : Hid (j < 64) := Lib.hid (by have := HSZ.out; omega)
                          have hsum : wrap64 ((p.slots.length : Int) + (j : Int)) = (T : Int) := by
                            have h1 := HJS.out
                            have h2 := HSZ.out
                            rw [wrap_in14 ((p.slots.length : Int) + (j : Int)) (by omega), hT]; push_cast; rfl
                          have HSUM := Lib.hid hsum
                          have HSUM2 : Hid (IntKind.i64.wrap ((p.slots.length : Int) + (j : Int)) = (T : Int)) := Lib.hid (by rw [wrapi_in16 _ (sum_in16 HSZ.out.1 HJS.out), hT]; push_cast; rfl)
                          have HM4 := Lib.hid m4
                          clear hcl hbll htb htk hT hTl hjo
                          rcases tb with _ | _
                          · skip
                            have HC : Hid (checkP p = ((p.code.length : Int), 5)) := Lib.hid (by
                              rw [HCC.out, if_neg]
                              rw [HOE.out, ← List.take_append_drop (j + 1) ((l.drop p.slots.length).take p.outs.length), List.all_append, List.take_take, Nat.min_eq_left HJR.out, HTK.out]
                              simp)
                            go_upto_region 46 with fail
                            have y9 : ((p.code.length : Nat) : Int) < ((p.code.length : Nat) : Int) + 1 := by omega
                            have y7 : ¬ (((p.code.length : Nat) : Int) < 0) := by omega
                            have y5 := HSUM2.out
                            have y6 := HSUM.out
                            have y4 := HM4.out
                            go_quiet (fail)
                            clear y9 y7 y5 y6 y4
                            have HBN : Hid (Below W0.heap.size W0 (wr.drewN nq)) := Lib.hid ((HBW.out.trans (HBJ.out.mono HBW.out.size)).trans (below_drewN (Below.refl _ _) nq))
                            clear zd zl f1 u1 u2 vs
                            go_wp2_with fail
                            go_ret2
                            exact ⟨by rw [HC.out]; rfl, HB0.out.trans (HBN.out.mono HB0.out.size)⟩
                          · skip
                            go_upto_region 46 with fail
                            have y9 : ((p.code.length : Nat) : Int) < ((p.code.length : Nat) : Int) + 1 := by omega
                            have y7 : ¬ (((p.code.length : Nat) : Int) < 0) := by omega
                            have y5 := HSUM2.out
                            have y6 := HSUM.out
                            have y4 := HM4.out
                            go_quiet (fail)
                            clear y9 y7 y5 y6 y4
                            have HBN : Hid (Below wf.heap.size wf (wr.drewN nq)) := Lib.hid (HBJ.out.trans (below_drewN (Below.refl _ _) nq))
                            clear zd zl f1 u1 u2 vs
                            go_wp2_with fail
                            first | rw [wrap_in14 _ (by have := HJS.out; omega)] | skip
                            exact ⟨⟨j + 1, by go_num, HJR.out, HBN.out, HTK.out⟩, meas_lt HJR.out⟩
                        · obtain rfl : j = p.outs.length := by have := HJ.out; omega
                          have f1 : decide ((p.outs.length : Int) < (p.outs.length : Int)) = false := by simp
                          have HO : Hid (outsV p D = true) := Lib.hid (by rw [HOE.out]; exact HALL.out)
                          have HBN : Hid (Below W0.heap.size W0 wr) := Lib.hid (HBW.out.trans (HBJ.out.mono HBW.out.size))
                          clear hjo
                          go_wp2_with fail
                          go_ret2
                          exact ⟨by rw [HCC.out, if_pos HO.out]; rfl, HB0.out.trans (HBN.out.mono HB0.out.size)⟩
end Go.Proofs.YtglplhkbnkbjbaaDoor

namespace Go.Proofs.YtglplhkbnkbjbaaDoor
open Go Go.RowKit
theorem two_fields16 {l : List Field} {t1 t2 : TypeId} {o1 o2 : Nat} (h : l.map (fun f => (f.name == "_", f.type, f.offset)) = [(false, t1, o1), (false, t2, o2)]) : ∃ f1 f2 : Field, l = [f1, f2] ∧ f1.name ≠ "_" ∧ f1.type = t1 ∧ f1.offset = o1 ∧ f2.name ≠ "_" ∧ f2.type = t2 ∧ f2.offset = o2 := by
  rcases l with _ | ⟨f1, _ | ⟨f2, _ | ⟨f3, r⟩⟩⟩
  · simp at h
  · simp at h
  · simp only [List.map_cons, List.map_nil, List.cons.injEq, Prod.mk.injEq, and_true, beq_eq_false_iff_ne] at h
    exact ⟨f1, f2, rfl, h.1.1, h.1.2.1, h.1.2.2, h.2.1, h.2.2.1, h.2.2.2⟩
  · simp at h
theorem ft_fields : (Tryd.prog.fieldsOf 26).toList.map (fun f => (f.name == "_", f.type, f.offset)) = [(false, 3, 0), (false, 3, 1)] := by kernel_rfl
theorem ft_part0 (a b : Int) (W : World) : (part 3 #[.int .i64 a, .int .i64 b] 0).run Tryd.prog W = .ok (.int .i64 a) W := by kernel_rfl
theorem ft_part1 (a b : Int) (W : World) : (part 3 #[.int .i64 a, .int .i64 b] 1).run Tryd.prog W = .ok (.int .i64 b) W := by kernel_rfl
theorem ft_eql (a b c d : Int) (W : World) : (binOp .eql 26 (.agg #[.int .i64 a, .int .i64 b]) (.agg #[.int .i64 c, .int .i64 d])).run Tryd.prog W = .ok (.bool ((a == c) && (b == d))) W := by
  obtain ⟨f1, f2, hl, n1, t1, o1, n2, t2, o2⟩ := two_fields16 ft_fields
  rw [run_eql_struct, run_equalIn_agg W 9999 26 _ _ (by kernel_rfl) (by kernel_rfl), hl]
  simp only [Op.eqFields, n1, n2, t1, t2, o1, o2, ne_eq, not_false_eq_true, if_true, Sem.run_bind, Sem.run_ite, Sem.run_pure, ft_part0, ft_part1, Result.andThen_ok, run_equalIn_int W 9998 3 .i64 _ _ _ Tryd.underlying3]
  cases (a == c) <;> cases (b == d) <;> simp
set_option maxHeartbeats 4000000 in
set_option maxRecDepth 100000 in
theorem validSays_any {T : World → Prop} (K : ValidC T) (p : Pg) (x0 x1 x2 x3 x4 x5 : Option Addr) (c0 c1 c2 c3 c4 c5 : Nat) (w : World) (hT : T w) (ok_p : p.ok) (in_p : PgIn w p x0 x1 x2 x3 x4 x5) :
    Calls Tryd.prog 4 #[pgV p x0 x1 x2 x3 x4 x5 c0 c1 c2 c3 c4 c5] w fun e w' => e = .returned (.bool true) ∧ Below w.heap.size w w' := by
  have HK := Lib.hid K
  obtain ⟨W0, hW0⟩ : ∃ W0, W0 = w.alloc (.cells #[.slice x0 p.ins.length c0, .slice x1 p.outs.length c1, .slice x2 p.slots.length c2, .slice x3 p.mems.length c3, .slice x4 p.consts.length c4, .slice x5 p.code.length c5] 32) := ⟨_, rfl⟩
  have hb0 : Below w.heap.size w W0 := by rw [hW0]; exact (Below.refl _ _).alloc (Nat.le_refl _) _
  obtain ⟨B1, hB1⟩ : ∃ B, B = w.heap.size := ⟨_, rfl⟩
  have k1 := heap_alloc_new w (.cells #[.slice x0 p.ins.length c0, .slice x1 p.outs.length c1, .slice x2 p.slots.length c2, .slice x3 p.mems.length c3, .slice x4 p.consts.length c4, .slice x5 p.code.length c5] 32)
  rw [← hB1, ← hW0] at k1
  have HX := Lib.hid k1
  have HO := Lib.hid ok_p
  have HP := Lib.hid (in_p.below hb0)
  have HB0 := Lib.hid hb0
  have HW0 := Lib.hid hW0
  have HBB := Lib.hid hB1
  have HT := Lib.hid (K.keep _ _ hT hb0)
  have HSP := Lib.hid size_progv
  have HSF := Lib.hid size_fault16
  have ka := awake16_any K W0 HT.out
  clear k1 ok_p in_p hb0 hW0 hB1 hT
  unfold pgV
  go_enter Tryd.func4, Tryd.ntmps4
  go_upto_region 1 with fail
  rw [← HW0.out, ← HBB.out]
  go_wp2_with fail
  (with_reducible refine ka.mono ?_)
  rintro e w1 ⟨rfl, hb1⟩
  clear ka
  have HB1 := Lib.hid hb1
  have HX1 := Lib.hid ((hb1.block B1 (Array.getElem?_eq_some_iff.1 HX.out).1).trans HX.out)
  have kg : Calls Tryd.prog 10 #[.agg #[.slice x0 p.ins.length c0, .slice x1 p.outs.length c1, .slice x2 p.slots.length c2, .slice x3 p.mems.length c3, .slice x4 p.consts.length c4, .slice x5 p.code.length c5]] w1 fun e w' => e = .returned (.bool (greatP p)) ∧ Below w1.heap.size w1 w' := great16_any p x0 x1 x2 x3 x4 x5 c0 c1 c2 c3 c4 c5 w1
  obtain ⟨gp, hgp⟩ : ∃ b, b = greatP p := ⟨_, rfl⟩
  rw [← hgp] at kg
  have HGP := Lib.hid hgp
  clear hb1 hgp
  go_wp2_with (refine wpList_load_row rfl 32 (.tmp 1) rfl B1 rfl 32 #[.slice x0 p.ins.length c0, .slice x1 p.outs.length c1, .slice x2 p.slots.length c2, .slice x3 p.mems.length c3, .slice x4 p.consts.length c4, .slice x5 p.code.length c5] (0, 0) _ ?_ Tryd.underlying32 rfl HSP.out ?_; (exact HX1.out))
  (with_reducible refine kg.mono ?_)
  rintro e w2 ⟨rfl, hb2⟩
  clear kg
  have HB2 := Lib.hid (HB1.out.trans (hb2.mono HB1.out.size))
  clear hb2
  cases gp with
  | true =>
    go_wp2_with fail
    go_ret
    exact ⟨rfl, HB0.out.trans (HB2.out.mono HB0.out.size)⟩
  | false =>
    have hsm := great_no HGP.out.symm
    have kc := HK.out.check p x0 x1 x2 x3 x4 x5 c0 c1 c2 c3 c4 c5 w2 (HK.out.keep _ _ HT.out HB2.out) HO.out (by omega) (HP.out.below HB2.out)
    have HX2 := Lib.hid ((HB2.out.block B1 (Array.getElem?_eq_some_iff.1 HX.out).1).trans HX.out)
    unfold GivesVC pgV at kc
    obtain ⟨a, ha⟩ : ∃ a, a = (checkP p).1 := ⟨_, rfl⟩
    obtain ⟨b, hb⟩ : ∃ a, a = (checkP p).2 := ⟨_, rfl⟩
    rw [← ha, ← hb] at kc
    have HA := Lib.hid ha
    have HBq := Lib.hid hb
    clear ha hb hsm
    go_wp2_with (refine wpList_load_row rfl 32 (.tmp 1) rfl B1 rfl 32 #[.slice x0 p.ins.length c0, .slice x1 p.outs.length c1, .slice x2 p.slots.length c2, .slice x3 p.mems.length c3, .slice x4 p.consts.length c4, .slice x5 p.code.length c5] (0, 0) _ ?_ Tryd.underlying32 rfl HSP.out ?_; (exact HX2.out))
    (with_reducible refine kc.mono ?_)
    rintro e w3 ⟨rfl, hb3⟩
    clear kc
    obtain ⟨W4, hW4⟩ : ∃ W, W = ((w3.alloc (.cells #[.int .i64 0, .int .i64 0] 26)).setRow w3.heap.size #[.int .i64 a, .int .i64 b]) := ⟨_, rfl⟩
    obtain ⟨hnb, hnr⟩ := newrow14 w3 26 #[.int .i64 0, .int .i64 0] #[.int .i64 a, .int .i64 b]
    rw [← hW4] at hnb hnr
    have HAL := Lib.hid (heap_alloc_new w3 (.cells #[.int .i64 0, .int .i64 0] 26))
    obtain ⟨g4, hg4⟩ : ∃ g, g = w3.heap.size := ⟨_, rfl⟩
    rw [← hg4] at hnr
    have HB3 := Lib.hid (HB2.out.trans (hb3.mono HB2.out.size))
    have HB4 := Lib.hid (HB3.out.trans (hnb.mono HB3.out.size))
    have HNR := Lib.hid hnr
    have HW4 := Lib.hid hW4
    have HG4 := Lib.hid hg4
    have HX4 := Lib.hid ((HB4.out.block B1 (Array.getElem?_eq_some_iff.1 HX.out).1).trans HX.out)
    have kr := vCheck_any p x0 x1 x2 x3 x4 x5 c0 c1 c2 c3 c4 c5 W4 HO.out (HP.out.below HB4.out)
    unfold pgV at kr
    rw [← HA.out, ← HBq.out] at kr
    clear hb3 hnb hnr hW4 hg4
    go_upto_region 6 with (refine wpList_store_row rfl 26 (.tmp 3) (.tmp 14) rfl w3.heap.size #[.int .i64 a, .int .i64 b] rfl rfl 26 #[.int .i64 0, .int .i64 0] ?_ HSF.out rfl (fault_one16 _ _) ?_; (exact HAL.out))
    rw [← HW4.out, ← HG4.out]
    go_wp2_with (refine wpList_load_row rfl 32 (.tmp 1) rfl B1 rfl 32 #[.slice x0 p.ins.length c0, .slice x1 p.outs.length c1, .slice x2 p.slots.length c2, .slice x3 p.mems.length c3, .slice x4 p.consts.length c4, .slice x5 p.code.length c5] (0, 0) _ ?_ Tryd.underlying32 rfl HSP.out ?_; (exact HX4.out))
    (with_reducible refine kr.mono ?_)
    rintro e w5 ⟨rfl, hb5⟩
    clear kr
    have HN5 := Lib.hid ((hb5.block g4 (Array.getElem?_eq_some_iff.1 HNR.out).1).trans HNR.out)
    have HB5 := Lib.hid (HB4.out.trans (hb5.mono HB4.out.size))
    have q1 : ∀ W : World, (binOp .eql 26 (.agg #[.int .i64 a, .int .i64 b]) (.agg #[.int .i64 a, .int .i64 b])).run Tryd.prog W = .ok (.bool true) W := fun W => by rw [ft_eql]; simp
    have z1 : ∀ W : World, (Instr.build 26 #[(0, .int .i64 a), (1, .int .i64 b)]).run Tryd.prog W = .ok (.agg #[.int .i64 a, .int .i64 b]) W := fun W => by kernel_rfl
    clear hb5
    by_cases h0 : b = 0
    · have e1 : decide (b = 0) = true := by simp [h0]
      have e2 : (b == 0) = true := by simp [h0]
      rw [e1]
      clear h0 e1
      go_wp2_with (refine wpList_load_row rfl 26 (.tmp 3) rfl g4 rfl 26 #[.int .i64 a, .int .i64 b] (0, 0) _ ?_ Tryd.underlying26 rfl HSF.out ?_; (exact HN5.out))
      go_ret
      exact ⟨rfl, HB0.out.trans (HB5.out.mono HB0.out.size)⟩
    · have e1 : decide (b = 0) = false := by simp [h0]
      have e2 : (b == 0) = false := by simp [h0]
      rw [e1]
      clear h0 e1
      go_wp2_with (refine wpList_load_row rfl 26 (.tmp 3) rfl g4 rfl 26 #[.int .i64 a, .int .i64 b] (0, 0) _ ?_ Tryd.underlying26 rfl HSF.out ?_; (exact HN5.out))
      go_ret
      exact ⟨rfl, HB0.out.trans (HB5.out.mono HB0.out.size)⟩
end Go.Proofs.YtglplhkbnkbjbaaDoor

namespace Go.Proofs.YtglplhkbnkbjbaaDoor
open Go Go.RowKit
theorem info_in4j : ∃ i, Tryd.prog.info? 34 = some i ∧ (i.zero.map Value.cells) = some #[.int .i64 0, .int .i64 0, .int .i64 0, .int .i64 0] ∧ i.size = 4 ∧ i.bytes = 32 := by
  have h : (Tryd.prog.info? 34).map (fun i => (i.zero.map Value.cells, i.size, i.bytes)) = some (some #[.int .i64 0, .int .i64 0, .int .i64 0, .int .i64 0], 4, 32) := by kernel_rfl
  cases hi : Tryd.prog.info? 34 with
  | none => rw [hi] at h; simp at h
  | some i =>
    rw [hi] at h
    simp only [Option.map_some, Option.some.injEq, Prod.mk.injEq] at h
    exact ⟨i, rfl, h.1, h.2.1, h.2.2⟩
theorem run_make_in4 (n : Nat) (hn : n ≤ 100000) (W : World) :
    (Instr.makeSlice 30 (.int .i64 (n : Int)) (.int .i64 (n : Int))).run Tryd.prog W = .ok (.slice (some ⟨W.heap.size, 0, none⟩) n n) (W.alloc (.cells (Array.replicate (n * 4) (Value.int .i64 0)) 34)) := by
  obtain ⟨i0, hi, hz, hs, hb⟩ := info_in4j
  obtain ⟨z, hz0, hzc⟩ := Option.map_eq_some_iff.1 hz
  have h := run_make (P := Tryd.prog) W 30 34 i0 z Tryd.underlying30 hi hz0 .i64 .i64 (n : Int) (n : Int) (by omega) (by omega) (by rw [hb]; omega) (by omega)
  rw [h, hs, hzc]
  have e : madeCells #[.int .i64 0, .int .i64 0, .int .i64 0, .int .i64 0] (n * 4) = Array.replicate (n * 4) (Value.int .i64 0) := by
    apply Array.ext
    · simp [madeCells]
    · intro k h1 h2
      have : k % 4 < 4 := Nat.mod_lt _ (by decide)
      simp only [madeCells, Array.getElem_map, Array.getElem_range, Array.getElem_replicate]
      rcases (by omega : k % 4 = 0 ∨ k % 4 = 1 ∨ k % 4 = 2 ∨ k % 4 = 3) with h | h | h | h <;> simp [h]
  rw [← e]
  simp
theorem zeros_at16 {w : World} {g n : Nat} {t : TypeId} (h : w.heap[g]? = some (.cells (Array.replicate (n * 4) (Value.int .i64 0)) t (0, 0))) (k : Nat) (hk : k < n) : w.rangeAt g (k * 4) [.int .i64 0, .int .i64 0, .int .i64 0, .int .i64 0] := fun j v hj => by
  have hj4 : j < 4 := (List.getElem?_eq_some_iff.1 hj).1
  rw [cell_of_row w g _ _ _ _ h]
  have hv : v = .int .i64 0 := by
    rcases (by omega : j = 0 ∨ j = 1 ∨ j = 2 ∨ j = 3) with rfl | rfl | rfl | rfl <;> (simp at hj; exact hj.symm)
  rw [hv, Array.getElem?_replicate, if_pos (by omega)]
theorem jump_ok (m i : Nat) (tg : Int) (u : Bool) (h : -5 ≤ tg ∧ tg ≤ 50) : (jumpP m i tg u).ok := by
  refine ⟨(fun _ h => by cases h), (fun _ h => by cases h), fun v hv => ?_, (fun _ h => by cases h), fun v hv => ?_, fun x hx => ?_⟩
  · simp only [jumpP, List.mem_cons, List.not_mem_nil, or_false] at hv
    rw [hv]; exact ⟨by decide, by decide⟩
  · simp only [jumpP, List.mem_cons, List.not_mem_nil, or_false] at hv
    rw [hv]; exact ⟨by decide, by decide⟩
  · have hx : x ∈ (List.replicate (m + 1) (⟨0, 0, 0, 0⟩ : In4)).set (i + 1) ⟨if u then 19 else 20, tg, 0, 0⟩ := hx
    rcases List.mem_or_eq_of_mem_set hx with h1 | h1
    · rw [List.eq_of_mem_replicate h1]; exact ⟨⟨by decide, by decide⟩, ⟨by decide, by decide⟩, ⟨by decide, by decide⟩, ⟨by decide, by decide⟩⟩
    · rw [h1]
      refine ⟨?_, ⟨by show _ ≤ tg; omega, by show tg ≤ _; omega⟩, (show i64' 0 from ⟨by decide, by decide⟩), (show i64' 0 from ⟨by decide, by decide⟩)⟩
      cases u
      · exact (show i64' 20 from ⟨by decide, by decide⟩)
      · exact (show i64' 19 from ⟨by decide, by decide⟩)
set_option maxHeartbeats 8000000 in
set_option maxRecDepth 100000 in
theorem validJumps_any {T : World → Prop} (K : ValidC T) (n fr tg : Int) (u : Bool) (w : World) (hT : T w) (hn : i64' n) (hf : i64' fr) (ht : i64' tg) : Calls Tryd.prog 7 #[.int .i64 n, .int .i64 fr, .int .i64 tg, .bool u] w fun e w' => e = .returned (.bool true) ∧ Below w.heap.size w w' := by
  have ka := awake16_any K w hT
  have HSF := Lib.hid size_fault16
  have HSI := Lib.hid size_in4v
  by_cases b0 : n < 1
  · have d0 : decide (n < 1) = true := by simp [b0]
    go_enter Tryd.func7, Tryd.ntmps7
    go_wp2_with fail
    (with_reducible refine ka.mono ?_)
    rintro e w1 ⟨rfl, hb1⟩
    clear ka
    go_wp2_with fail
    go_ret
    exact ⟨rfl, hb1⟩
  · have d0 : decide (n < 1) = false := by simp [b0]
    by_cases b1 : 40 < n
    · have d1 : decide (40 < n) = true := by simp [b1]
      go_enter Tryd.func7, Tryd.ntmps7
      go_wp2_with fail
      (with_reducible refine ka.mono ?_)
      rintro e w1 ⟨rfl, hb1⟩
      clear ka
      go_wp2_with fail
      go_ret
      exact ⟨rfl, hb1⟩
    · have d1 : decide (40 < n) = false := by simp [b1]
      by_cases b2 : fr < 0
      · have d2 : decide (fr < 0) = true := by simp [b2]
        go_enter Tryd.func7, Tryd.ntmps7
        go_wp2_with fail
        (with_reducible refine ka.mono ?_)
        rintro e w1 ⟨rfl, hb1⟩
        clear ka
        go_wp2_with fail
        go_ret
        exact ⟨rfl, hb1⟩
      · have d2 : decide (fr < 0) = false := by simp [b2]
        by_cases b3 : n ≤ fr
        · have d3 : decide (n ≤ fr) = true := by simp [b3]
          go_enter Tryd.func7, Tryd.ntmps7
          go_wp2_with fail
          (with_reducible refine ka.mono ?_)
          rintro e w1 ⟨rfl, hb1⟩
          clear ka
          go_wp2_with fail
          go_ret
          exact ⟨rfl, hb1⟩
        · have d3 : decide (n ≤ fr) = false := by simp [b3]
          by_cases b4 : tg < -5
          · have d4 : decide (tg < -5) = true := by simp [b4]
            go_enter Tryd.func7, Tryd.ntmps7
            go_wp2_with fail
            (with_reducible refine ka.mono ?_)
            rintro e w1 ⟨rfl, hb1⟩
            clear ka
            go_wp2_with fail
            go_ret
            exact ⟨rfl, hb1⟩
          · have d4 : decide (tg < -5) = false := by simp [b4]
            by_cases b5 : 50 < tg
            · have d5 : decide (50 < tg) = true := by simp [b5]
              go_enter Tryd.func7, Tryd.ntmps7
              go_wp2_with fail
              (with_reducible refine ka.mono ?_)
              rintro e w1 ⟨rfl, hb1⟩
              clear ka
              go_wp2_with fail
              go_ret
              exact ⟨rfl, hb1⟩
            · have d5 : decide (50 < tg) = false := by simp [b5]
              obtain ⟨m, rfl⟩ : ∃ m : Nat, n = (m : Int) := ⟨n.toNat, by omega⟩
              obtain ⟨i, rfl⟩ : ∃ i : Nat, fr = (i : Int) := ⟨fr.toNat, by omega⟩
              have hi : i < m := by omega
              have hm : m ≤ 40 := by omega
              have HI := Lib.hid hi
              have HM := Lib.hid hm
              have HTO : Hid (-5 ≤ tg ∧ tg ≤ 50) := Lib.hid (by omega)
              have hs1 : wrap64 ((m : Int) + 1) = ((m + 1 : Nat) : Int) := by rw [wrap_in14 _ (by omega)]; push_cast; rfl
              have hs2 : wrap64 ((i : Int) + 1) = ((i + 1 : Nat) : Int) := by rw [wrap_in14 _ (by omega)]; push_cast; rfl
              have HS1 := Lib.hid hs1
              have HS2 := Lib.hid hs2
              clear b0 b1 b2 b3 b4 b5 hi hm hs1 hs2
              go_enter Tryd.func7, Tryd.ntmps7
              go_wp2_with fail
              (with_reducible refine ka.mono ?_)
              rintro e w1 ⟨rfl, hb1⟩
              clear ka
              have HB1 := Lib.hid hb1
              clear hb1
              have bs1 : ∀ W : World, (Instr.buildSlice 24 1 #[(0, .int .i64 1)]).run Tryd.prog W = .ok (.slice (some ⟨W.heap.size, 0, none⟩) 1 1) (W.alloc (.cells #[.int .i64 1] 23)) := fun W => by kernel_rfl
              have bs0 : ∀ W : World, (Instr.buildSlice 29 1 #[(0, .int .i64 0)]).run Tryd.prog W = .ok (.slice (some ⟨W.heap.size, 0, none⟩) 1 1) (W.alloc (.cells #[.int .i64 0] 2)) := fun W => by kernel_rfl
              have hmk : ∀ W : World, (Instr.makeSlice 30 (.int .i64 ((m : Int) + 1)) (.int .i64 ((m : Int) + 1))).run Tryd.prog W = .ok (.slice (some ⟨W.heap.size, 0, none⟩) (m + 1) (m + 1)) (W.alloc (.cells (Array.replicate ((m + 1) * 4) (Value.int .i64 0)) 34)) := fun W => by have h := run_make_in4 (m + 1) (by have := HM.out; omega) W; rw [show (((m + 1 : Nat)) : Int) = (m : Int) + 1 from by push_cast; rfl] at h; exact h
              have hs1 := HS1.out
              have HSP := Lib.hid size_progv
              obtain ⟨A3, hA3⟩ : ∃ W, W = ((w1.alloc (.cells #[.int .i64 1] 23)).alloc (.cells #[.int .i64 0] 2)).alloc (.cells (Array.replicate ((m + 1) * 4) (Value.int .i64 0)) 34) := ⟨_, rfl⟩
              obtain ⟨gk, hgk⟩ : ∃ g, g = w1.heap.size := ⟨_, rfl⟩
              obtain ⟨gc, hgc⟩ : ∃ g, g = w1.heap.size + 1 := ⟨_, rfl⟩
              obtain ⟨gl, hgl⟩ : ∃ g, g = w1.heap.size + 1 + 1 := ⟨_, rfl⟩
              obtain ⟨gp, hgp⟩ : ∃ g, g = w1.heap.size + 1 + 1 + 1 := ⟨_, rfl⟩
              have s1 : (w1.alloc (.cells #[.int .i64 1] 23)).heap.size = gc := by rw [hgc]; simp
              have s2 : ((w1.alloc (.cells #[.int .i64 1] 23)).alloc (.cells #[.int .i64 0] 2)).heap.size = gl := by rw [hgl]; simp
              have s3 : A3.heap.size = gp := by rw [hA3, hgp]; simp
              have ba : Below w1.heap.size w1 (w1.alloc (.cells #[.int .i64 1] 23)) := (Below.refl _ _).alloc (Nat.le_refl _) _
              have bb : Below (w1.alloc (.cells #[.int .i64 1] 23)).heap.size (w1.alloc (.cells #[.int .i64 1] 23)) ((w1.alloc (.cells #[.int .i64 1] 23)).alloc (.cells #[.int .i64 0] 2)) := (Below.refl _ _).alloc (Nat.le_refl _) _
              have bc : Below ((w1.alloc (.cells #[.int .i64 1] 23)).alloc (.cells #[.int .i64 0] 2)).heap.size ((w1.alloc (.cells #[.int .i64 1] 23)).alloc (.cells #[.int .i64 0] 2)) A3 := by rw [hA3]; exact (Below.refl _ _).alloc (Nat.le_refl _) _
              have ck : (w1.alloc (.cells #[.int .i64 1] 23)).heap[gk]? = some (.cells #[.int .i64 1] 23 (0, 0)) := by rw [hgk]; exact heap_alloc_new w1 _
              have cc : ((w1.alloc (.cells #[.int .i64 1] 23)).alloc (.cells #[.int .i64 0] 2)).heap[gc]? = some (.cells #[.int .i64 0] 2 (0, 0)) := by rw [← s1]; exact heap_alloc_new _ _
              have cl : A3.heap[gl]? = some (.cells (Array.replicate ((m + 1) * 4) (Value.int .i64 0)) 34 (0, 0)) := by rw [hA3, ← s2]; exact heap_alloc_new _ _
              have ck3 := (bc.block gk (by rw [s2]; omega)).trans ((bb.block gk (by rw [s1]; omega)).trans ck)
              have cc3 := (bc.block gc (by rw [s2]; omega)).trans cc
              have b13 : Below w1.heap.size w1 A3 := (ba.trans (bb.mono (by rw [s1]; omega))).trans (bc.mono (by rw [s2]; omega))
              obtain ⟨W4, hW4⟩ : ∃ W, W = ((A3.alloc (.cells #[.slice none 0 0, .slice none 0 0, .slice none 0 0, .slice none 0 0, .slice none 0 0, .slice none 0 0] 32)).setRow gp #[.slice none 0 0, .slice none 0 0, .slice (some ⟨gk, 0, none⟩) 1 1, .slice none 0 0, .slice (some ⟨gc, 0, none⟩) 1 1, .slice (some ⟨gl, 0, none⟩) (m + 1) (m + 1)]) := ⟨_, rfl⟩
              have hnw := newrow14 A3 32 #[.slice none 0 0, .slice none 0 0, .slice none 0 0, .slice none 0 0, .slice none 0 0, .slice none 0 0] #[.slice none 0 0, .slice none 0 0, .slice (some ⟨gk, 0, none⟩) 1 1, .slice none 0 0, .slice (some ⟨gc, 0, none⟩) 1 1, .slice (some ⟨gl, 0, none⟩) (m + 1) (m + 1)]
              rw [s3, ← hW4] at hnw
              have hal := heap_alloc_new A3 (.cells #[.slice none 0 0, .slice none 0 0, .slice none 0 0, .slice none 0 0, .slice none 0 0, .slice none 0 0] 32)
              rw [s3] at hal
              have HALL := Lib.hid (by have h := hal; rw [hA3, hgp] at h; exact h)
              have HONEL := Lib.hid (show (#[.slice none 0 0, .slice none 0 0, .slice (some ⟨w1.heap.size, 0, none⟩) 1 1, .slice none 0 0, .slice (some ⟨w1.heap.size + 1, 0, none⟩) 1 1, .slice (some ⟨w1.heap.size + 1 + 1, 0, none⟩) (m + 1) (m + 1)] : Array Value).all (·.oneCell') = true by simp [Value.oneCell'])
              have HP4 := Lib.hid hnw.2
              have HK4 := Lib.hid ((hnw.1.block gk (by omega)).trans ck3)
              have HC4 := Lib.hid ((hnw.1.block gc (by omega)).trans cc3)
              have HL4 := Lib.hid ((hnw.1.block gl (by omega)).trans cl)
              have HB4 : Hid (Below w1.heap.size w1 W4) := Lib.hid (b13.trans (hnw.1.mono (by omega)))
              have HGG : Hid (gk = w1.heap.size ∧ gk < gc ∧ gc < gl ∧ gl < gp) := Lib.hid (by omega)
              have HONE := Lib.hid (show (#[.slice none 0 0, .slice none 0 0, .slice (some ⟨gk, 0, none⟩) 1 1, .slice none 0 0, .slice (some ⟨gc, 0, none⟩) 1 1, .slice (some ⟨gl, 0, none⟩) (m + 1) (m + 1)] : Array Value).all (·.oneCell') = true by simp [Value.oneCell'])
              have HA3 := Lib.hid hA3
              have HW4 := Lib.hid hW4
              have HGK := Lib.hid hgk
              have HGC := Lib.hid hgc
              have HGL := Lib.hid hgl
              have HGP := Lib.hid hgp
              have bz : ∀ W : World, (Instr.build 32 #[(2, .slice (some ⟨w1.heap.size, 0, none⟩) 1 1), (4, .slice (some ⟨w1.heap.size + 1, 0, none⟩) 1 1), (5, .slice (some ⟨w1.heap.size + 1 + 1, 0, none⟩) (m + 1) (m + 1))]).run Tryd.prog W = .ok (.agg #[.slice none 0 0, .slice none 0 0, .slice (some ⟨w1.heap.size, 0, none⟩) 1 1, .slice none 0 0, .slice (some ⟨w1.heap.size + 1, 0, none⟩) 1 1, .slice (some ⟨w1.heap.size + 1 + 1, 0, none⟩) (m + 1) (m + 1)]) W := fun W => by kernel_rfl
              clear hal hnw ck3 cc3 cl cc ck ba bb bc b13 s1 s2 s3 hA3 hW4 hgk hgc hgl hgp
              go_upto_region 5 with fail
              go_upto_region 6 with (refine wpList_store_row rfl 32 (.tmp 9) (.tmp 43) rfl (w1.heap.size + 1 + 1 + 1) #[.slice none 0 0, .slice none 0 0, .slice (some ⟨w1.heap.size, 0, none⟩) 1 1, .slice none 0 0, .slice (some ⟨w1.heap.size + 1, 0, none⟩) 1 1, .slice (some ⟨w1.heap.size + 1 + 1, 0, none⟩) (m + 1) (m + 1)] rfl rfl 32 #[.slice none 0 0, .slice none 0 0, .slice none 0 0, .slice none 0 0, .slice none 0 0, .slice none 0 0] ?_ HSP.out rfl HONEL.out ?_; (exact HALL.out))
              rw [← HGP.out, ← HGL.out, ← HGC.out, ← HGK.out]
              rw [← HA3.out]
              rw [← HW4.out]
              clear bs1 bs0 hmk bz HALL HONEL hs1
              have u5 := cell_of_row W4 gp 5 _ _ _ HP4.out
              have hs2 := HS2.out
              have m1 : (0 : Int) ≤ ((i + 1 : Nat) : Int) := by omega
              have m2 : ((i + 1 : Nat) : Int) < ((m + 1 : Nat) : Int) := by have := HI.out; omega
              have z20 : ∀ W : World, (Instr.build 34 #[(0, .int .i64 20), (1, .int .i64 tg)]).run Tryd.prog W = .ok (.agg #[.int .i64 20, .int .i64 tg, .int .i64 0, .int .i64 0]) W := fun W => by kernel_rfl
              have hth : W4.there gl ((i + 1) * 4) 4 := fun j hj => ⟨by rw [cell_of_row W4 gl _ _ _ _ HL4.out]; simp; have := HI.out; omega, frozen_of_row W4 gl _ _ _ HL4.out⟩
              have HTH := Lib.hid hth
              clear hth
              go_upto_region 6 with fail
              go_upto_region 7 with (refine wpList_store_mid rfl 34 (.tmp 50) (.tmp 49) rfl gl ((i + 1) * 4) #[.int .i64 20, .int .i64 tg, .int .i64 0, .int .i64 0] rfl rfl HTH.out HSI.out (in4_one _ _ _ _) ?_)
              have hr5 := World.rangeAt_setCells_same W4 gl ((i + 1) * 4) [.int .i64 20, .int .i64 tg, .int .i64 0, .int .i64 0] HTH.out
              have ho5 : ∀ k, k < m + 1 → k ≠ i + 1 → (W4.setCells gl ((i + 1) * 4) [.int .i64 20, .int .i64 tg, .int .i64 0, .int .i64 0]).rangeAt gl (k * 4) [.int .i64 0, .int .i64 0, .int .i64 0, .int .i64 0] := fun k hk hne => World.rangeAt_setCells_apart (zeros_at16 HL4.out k hk) gl ((i + 1) * 4) [.int .i64 20, .int .i64 tg, .int .i64 0, .int .i64 0] (.inr (by simp only [List.length_cons, List.length_nil]; omega))
              have hb5 : Below w1.heap.size w1 (W4.setCells gl ((i + 1) * 4) [.int .i64 20, .int .i64 tg, .int .i64 0, .int .i64 0]) := below_setCells16 (Nat.le_refl _) _ HB4.out (by have := HGG.out; omega) _
              have hf5 : (W4.setCells gl ((i + 1) * 4) [.int .i64 20, .int .i64 tg, .int .i64 0, .int .i64 0]).frozen? ⟨gl, (i + 1) * 4 + 0, none⟩ = false := (World.there_setCells HTH.out gl ((i + 1) * 4) [.int .i64 20, .int .i64 tg, .int .i64 0, .int .i64 0] 0 (by decide)).2
              have hp5 := (heap_setCells_ne16 [.int .i64 20, .int .i64 tg, .int .i64 0, .int .i64 0] W4 gl ((i + 1) * 4) gp (by have := HGG.out; omega)).trans HP4.out
              have hk5 := (heap_setCells_ne16 [.int .i64 20, .int .i64 tg, .int .i64 0, .int .i64 0] W4 gl ((i + 1) * 4) gk (by have := HGG.out; omega)).trans HK4.out
              have hc5 := (heap_setCells_ne16 [.int .i64 20, .int .i64 tg, .int .i64 0, .int .i64 0] W4 gl ((i + 1) * 4) gc (by have := HGG.out; omega)).trans HC4.out
              obtain ⟨W5, hW5⟩ : ∃ W, W = W4.setCells gl ((i + 1) * 4) [.int .i64 20, .int .i64 tg, .int .i64 0, .int .i64 0] := ⟨_, rfl⟩
              rw [← hW5] at hr5 ho5 hb5 hf5 hp5 hk5 hc5 ⊢
              have HR5 := Lib.hid hr5
              have HO5 := Lib.hid ho5
              have HB5 := Lib.hid hb5
              have HF5 := Lib.hid hf5
              have HP5 := Lib.hid hp5
              have HK5 := Lib.hid hk5
              have HC5 := Lib.hid hc5
              clear hr5 ho5 hb5 hf5 hp5 hk5 hc5 hW5 u5 m1 m2 z20 hs2
              cases u with
              | false =>
                go_upto_region 9 with fail
                obtain ⟨W6, hW6⟩ : ∃ W, W = W5 := ⟨_, rfl⟩
                have hb6 := HB5.out
                have hr6 := HR5.out
                have ho6 := HO5.out
                have hp6 := HP5.out
                have hk6 := HK5.out
                have hc6 := HC5.out
                have hsz6 : gl < W5.heap.size := by have h := (Array.getElem?_eq_some_iff.1 HP5.out).1; have := HGG.out; omega
                rw [← hW6] at hb6 hr6 ho6 hp6 hk6 hc6 hsz6 ⊢
                have hin : PgIn W6 (jumpP m i tg false) none none (some ⟨gk, 0, none⟩) none (some ⟨gc, 0, none⟩) (some ⟨gl, 0, none⟩) := ⟨Row.nil _ _ _, Row.nil _ _ _, rowI16 hk6 rfl, Row.nil _ _ _, rowI16 hc6 rfl, fun _ => ⟨gl, 0, rfl, hsz6, fun k hk => by
                  rw [Nat.zero_add, jump_at]
                  by_cases hkk : k = i + 1
                  · rw [if_pos hkk, hkk]; exact hr6
                  · rw [if_neg hkk]; exact ho6 k (by rw [jump_len] at hk; exact hk) hkk⟩⟩
                have hok : (jumpP m i tg false).ok := jump_ok m i tg false HTO.out
                have HB6 := Lib.hid (HB1.out.trans (hb6.mono HB1.out.size))
                have kc := K.check (jumpP m i tg false) none none (some ⟨gk, 0, none⟩) none (some ⟨gc, 0, none⟩) (some ⟨gl, 0, none⟩) 0 0 1 0 1 (m + 1) W6 (K.keep _ _ hT HB6.out) hok (by unfold Pg.sum; rw [jump_len]; have := HM.out; show 0 + 0 + 1 + 0 + 1 + 4 * (m + 1) ≤ 100000; omega) hin
                unfold GivesVC at kc
                rw [chk_jump HM.out HI.out] at kc
                have hpz : pgV (jumpP m i tg false) none none (some ⟨gk, 0, none⟩) none (some ⟨gc, 0, none⟩) (some ⟨gl, 0, none⟩) 0 0 1 0 1 (m + 1) = .agg #[.slice none 0 0, .slice none 0 0, .slice (some ⟨gk, 0, none⟩) 1 1, .slice none 0 0, .slice (some ⟨gc, 0, none⟩) 1 1, .slice (some ⟨gl, 0, none⟩) (m + 1) (m + 1)] := by unfold pgV; rw [jump_len]; rfl
                rw [hpz] at kc
                obtain ⟨F1, hF1⟩ : ∃ f, f = (if (i : Int) + 1 < tg ∧ tg ≤ (m : Int) + 1 then ((0 : Int), (0 : Int)) else ((i : Int) + 1, 2)).1 := ⟨_, rfl⟩
                obtain ⟨F2, hF2⟩ : ∃ f, f = (if (i : Int) + 1 < tg ∧ tg ≤ (m : Int) + 1 then ((0 : Int), (0 : Int)) else ((i : Int) + 1, 2)).2 := ⟨_, rfl⟩
                rw [← hF1, ← hF2] at kc
                have HF1 := Lib.hid hF1
                have HF2 := Lib.hid hF2
                have HP6 := Lib.hid hp6
                clear hin hok hpz hF1 hF2 hr6 ho6 hk6 hc6 hsz6 hW6 hb6 hp6
                go_wp2_with (refine wpList_load_row rfl 32 (.tmp 9) rfl gp rfl 32 #[.slice none 0 0, .slice none 0 0, .slice (some ⟨gk, 0, none⟩) 1 1, .slice none 0 0, .slice (some ⟨gc, 0, none⟩) 1 1, .slice (some ⟨gl, 0, none⟩) (m + 1) (m + 1)] (0, 0) _ ?_ Tryd.underlying32 rfl HSP.out ?_; (exact HP6.out))
                (with_reducible refine kc.mono ?_)
                rintro e w7 ⟨rfl, hb7⟩
                clear kc
                obtain ⟨W8, hW8⟩ : ∃ W, W = ((w7.alloc (.cells #[.int .i64 0, .int .i64 0] 26)).setRow w7.heap.size #[.int .i64 F1, .int .i64 F2]) := ⟨_, rfl⟩
                obtain ⟨hnb, hnr⟩ := newrow14 w7 26 #[.int .i64 0, .int .i64 0] #[.int .i64 F1, .int .i64 F2]
                rw [← hW8] at hnb hnr
                have HAL := Lib.hid (heap_alloc_new w7 (.cells #[.int .i64 0, .int .i64 0] 26))
                obtain ⟨g8, hg8⟩ : ∃ g, g = w7.heap.size := ⟨_, rfl⟩
                rw [← hg8] at hnr
                have HB8 := Lib.hid ((HB6.out.trans (hb7.mono HB6.out.size)).trans (hnb.mono (Nat.le_trans HB6.out.size hb7.size)))
                have HNR := Lib.hid hnr
                have HW8 := Lib.hid hW8
                have HG8 := Lib.hid hg8
                have q1 : ∀ W : World, (binOp .eql 26 (.agg #[.int .i64 ((i : Int) + 1), .int .i64 2]) (.agg #[.int .i64 ((i : Int) + 1), .int .i64 2])).run Tryd.prog W = .ok (.bool true) W := fun W => by rw [ft_eql]; simp
                have z9 : ∀ W : World, (Instr.build 26 #[(0, .int .i64 ((i : Int) + 1)), (1, .int .i64 2)]).run Tryd.prog W = .ok (.agg #[.int .i64 ((i : Int) + 1), .int .i64 2]) W := fun W => by kernel_rfl
                clear hb7 hnb hnr hW8 hg8
                go_upto_region 10 with (refine wpList_store_row rfl 26 (.tmp 10) (.tmp 61) rfl w7.heap.size #[.int .i64 F1, .int .i64 F2] rfl rfl 26 #[.int .i64 0, .int .i64 0] ?_ HSF.out rfl (fault_one16 _ _) ?_; (exact HAL.out))
                rw [← HW8.out, ← HG8.out]
                clear HAL
                have HT1 : Hid (wrap64 ((m : Int) + 1) = (m : Int) + 1) := Lib.hid HS1.out
                have hs1 := HT1.out
                have hs2 : wrap64 ((i : Int) + 1) = (i : Int) + 1 := HS2.out
                by_cases ha : (i : Int) + 1 < tg
                · by_cases hb : tg ≤ (m : Int) + 1
                  · have f1 : F1 = 0 := by rw [HF1.out, if_pos ⟨ha, hb⟩]
                    have f2 : F2 = 0 := by rw [HF2.out, if_pos ⟨ha, hb⟩]
                    have e1 : decide ((i : Int) + 1 < tg) = true := decide_eq_true ha
                    have e2 : decide (tg ≤ (m : Int) + 1) = true := decide_eq_true hb
                    subst f1 f2
                    clear ha hb HF1 HF2
                    go_wp2_with fail
                    go_ret
                    exact ⟨rfl, HB8.out⟩
                  · have f1 : F1 = (i : Int) + 1 := by rw [HF1.out, if_neg (fun h => hb h.2)]
                    have f2 : F2 = 2 := by rw [HF2.out, if_neg (fun h => hb h.2)]
                    have e1 : decide ((i : Int) + 1 < tg) = true := decide_eq_true ha
                    have e2 : decide (tg ≤ (m : Int) + 1) = false := decide_eq_false hb
                    subst f1 f2
                    clear ha hb HF1 HF2
                    go_wp2_with (refine wpList_load_row_g 5 false rfl rfl 26 (.tmp 10) rfl g8 rfl 26 #[.int .i64 ((i : Int) + 1), .int .i64 2] (0, 0) _ ?_ Tryd.underlying26 rfl HSF.out ?_; (exact HNR.out))
                    go_ret
                    exact ⟨rfl, HB8.out⟩
                · have f1 : F1 = (i : Int) + 1 := by rw [HF1.out, if_neg (fun h => ha h.1)]
                  have f2 : F2 = 2 := by rw [HF2.out, if_neg (fun h => ha h.1)]
                  have e1 : decide ((i : Int) + 1 < tg) = false := decide_eq_false ha
                  subst f1 f2
                  clear ha HF1 HF2
                  go_wp2_with (refine wpList_load_row_g 5 false rfl rfl 26 (.tmp 10) rfl g8 rfl 26 #[.int .i64 ((i : Int) + 1), .int .i64 2] (0, 0) _ ?_ Tryd.underlying26 rfl HSF.out ?_; (exact HNR.out))
                  go_ret
                  exact ⟨rfl, HB8.out⟩
              | true =>
                have u5 := cell_of_row W5 gp 5 _ _ _ HP5.out
                have hs2 := HS2.out
                have m1 : (0 : Int) ≤ ((i + 1 : Nat) : Int) := by omega
                have m2 : ((i + 1 : Nat) : Int) < ((m + 1 : Nat) : Int) := by have := HI.out; omega
                have zc : W5.cell? ⟨gl, (i + 1) * 4, none⟩ = some (.int .i64 20) := HR5.out 0 _ rfl
                have zf : W5.frozen? ⟨gl, (i + 1) * 4, none⟩ = false := HF5.out
                have hb6 : Below w1.heap.size w1 (W5.setCell ⟨gl, (i + 1) * 4, none⟩ (.int .i64 19)) := HB5.out.grown (row := some gl) ⟨rfl, rfl, rfl, by simp, fun k _ hk => heap_setCell_other W5 ⟨gl, (i + 1) * 4, none⟩ k _ (fun e => hk (by simp [e]))⟩ HB5.out.size (fun k hk => by injection hk with hk; have := HGG.out; omega)
                have hth1 : W5.there gl ((i + 1) * 4) 1 := fun j hj => by
                  have e : j = 0 := by omega
                  subst e
                  exact ⟨by rw [HR5.out 0 _ rfl]; rfl, HF5.out⟩
                have hr6 : (W5.setCells gl ((i + 1) * 4) [.int .i64 19]).rangeAt gl ((i + 1) * 4) [.int .i64 19, .int .i64 tg, .int .i64 0, .int .i64 0] := fun j v hj => by
                  match j, hj with
                  | 0, hj => exact World.rangeAt_setCells_same W5 gl ((i + 1) * 4) [.int .i64 19] hth1 0 v hj
                  | j + 1, hj =>
                    have h1 : W5.rangeAt gl ((i + 1) * 4 + 1) [.int .i64 tg, .int .i64 0, .int .i64 0] := fun q x hx => by
                      have := HR5.out (q + 1) x hx
                      rw [show (i + 1) * 4 + 1 + q = (i + 1) * 4 + (q + 1) by omega]; exact this
                    have := World.rangeAt_setCells_apart h1 gl ((i + 1) * 4) [.int .i64 19] (.inr (.inr (Nat.le_refl _))) j v hj
                    rw [show (i + 1) * 4 + (j + 1) = (i + 1) * 4 + 1 + j by omega]; exact this
                have ho6 : ∀ k, k < m + 1 → k ≠ i + 1 → (W5.setCells gl ((i + 1) * 4) [.int .i64 19]).rangeAt gl (k * 4) [.int .i64 0, .int .i64 0, .int .i64 0, .int .i64 0] := fun k hk hne => World.rangeAt_setCells_apart (HO5.out k hk hne) gl ((i + 1) * 4) [.int .i64 19] (.inr (by simp only [List.length_cons, List.length_nil]; omega))
                have hblk6 : ∀ k, k ≠ gl → (W5.setCell ⟨gl, (i + 1) * 4, none⟩ (.int .i64 19)).heap[k]? = W5.heap[k]? := fun k hk => heap_setCell_other W5 ⟨gl, (i + 1) * 4, none⟩ k _ (fun e => hk (by first | exact e | exact e.symm))
                have hss : W5.setCells gl ((i + 1) * 4) [.int .i64 19] = W5.setCell ⟨gl, (i + 1) * 4, none⟩ (.int .i64 19) := rfl
                rw [hss] at hr6 ho6
                go_upto_region 9 with fail
                obtain ⟨W6, hW6⟩ : ∃ W, W = W5.setCell ⟨gl, (i + 1) * 4, none⟩ (.int .i64 19) := ⟨_, rfl⟩
                rw [← hW6] at hb6 hr6 ho6 hblk6 ⊢
                have hsz6 : gl < W6.heap.size := by have := hb6.size; have := HB5.out.size; have h := (Array.getElem?_eq_some_iff.1 HP5.out).1; have := HGG.out; rw [hW6]; simp; omega
                have hp6 := (hblk6 gp (by have := HGG.out; omega)).trans HP5.out
                have hk6 := (hblk6 gk (by have := HGG.out; omega)).trans HK5.out
                have hc6 := (hblk6 gc (by have := HGG.out; omega)).trans HC5.out
                clear u5 hs2 m1 m2 zc zf hblk6 hss
                have hin : PgIn W6 (jumpP m i tg true) none none (some ⟨gk, 0, none⟩) none (some ⟨gc, 0, none⟩) (some ⟨gl, 0, none⟩) := ⟨Row.nil _ _ _, Row.nil _ _ _, rowI16 hk6 rfl, Row.nil _ _ _, rowI16 hc6 rfl, fun _ => ⟨gl, 0, rfl, hsz6, fun k hk => by
                  rw [Nat.zero_add, jump_at]
                  by_cases hkk : k = i + 1
                  · rw [if_pos hkk, hkk]; exact hr6
                  · rw [if_neg hkk]; exact ho6 k (by rw [jump_len] at hk; exact hk) hkk⟩⟩
                have hok : (jumpP m i tg true).ok := jump_ok m i tg true HTO.out
                have HB6 := Lib.hid (HB1.out.trans (hb6.mono HB1.out.size))
                have kc := K.check (jumpP m i tg true) none none (some ⟨gk, 0, none⟩) none (some ⟨gc, 0, none⟩) (some ⟨gl, 0, none⟩) 0 0 1 0 1 (m + 1) W6 (K.keep _ _ hT HB6.out) hok (by unfold Pg.sum; rw [jump_len]; have := HM.out; show 0 + 0 + 1 + 0 + 1 + 4 * (m + 1) ≤ 100000; omega) hin
                unfold GivesVC at kc
                rw [chk_jump HM.out HI.out] at kc
                have hpz : pgV (jumpP m i tg true) none none (some ⟨gk, 0, none⟩) none (some ⟨gc, 0, none⟩) (some ⟨gl, 0, none⟩) 0 0 1 0 1 (m + 1) = .agg #[.slice none 0 0, .slice none 0 0, .slice (some ⟨gk, 0, none⟩) 1 1, .slice none 0 0, .slice (some ⟨gc, 0, none⟩) 1 1, .slice (some ⟨gl, 0, none⟩) (m + 1) (m + 1)] := by unfold pgV; rw [jump_len]; rfl
                rw [hpz] at kc
                obtain ⟨F1, hF1⟩ : ∃ f, f = (if (i : Int) + 1 < tg ∧ tg ≤ (m : Int) + 1 then ((0 : Int), (0 : Int)) else ((i : Int) + 1, 2)).1 := ⟨_, rfl⟩
                obtain ⟨F2, hF2⟩ : ∃ f, f = (if (i : Int) + 1 < tg ∧ tg ≤ (m : Int) + 1 then ((0 : Int), (0 : Int)) else ((i : Int) + 1, 2)).2 := ⟨_, rfl⟩
                rw [← hF1, ← hF2] at kc
                have HF1 := Lib.hid hF1
                have HF2 := Lib.hid hF2
                have HP6 := Lib.hid hp6
                clear hin hok hpz hF1 hF2 hr6 ho6 hk6 hc6 hsz6 hW6 hb6 hp6
                go_wp2_with (refine wpList_load_row rfl 32 (.tmp 9) rfl gp rfl 32 #[.slice none 0 0, .slice none 0 0, .slice (some ⟨gk, 0, none⟩) 1 1, .slice none 0 0, .slice (some ⟨gc, 0, none⟩) 1 1, .slice (some ⟨gl, 0, none⟩) (m + 1) (m + 1)] (0, 0) _ ?_ Tryd.underlying32 rfl HSP.out ?_; (exact HP6.out))
                (with_reducible refine kc.mono ?_)
                rintro e w7 ⟨rfl, hb7⟩
                clear kc
                obtain ⟨W8, hW8⟩ : ∃ W, W = ((w7.alloc (.cells #[.int .i64 0, .int .i64 0] 26)).setRow w7.heap.size #[.int .i64 F1, .int .i64 F2]) := ⟨_, rfl⟩
                obtain ⟨hnb, hnr⟩ := newrow14 w7 26 #[.int .i64 0, .int .i64 0] #[.int .i64 F1, .int .i64 F2]
                rw [← hW8] at hnb hnr
                have HAL := Lib.hid (heap_alloc_new w7 (.cells #[.int .i64 0, .int .i64 0] 26))
                obtain ⟨g8, hg8⟩ : ∃ g, g = w7.heap.size := ⟨_, rfl⟩
                rw [← hg8] at hnr
                have HB8 := Lib.hid ((HB6.out.trans (hb7.mono HB6.out.size)).trans (hnb.mono (Nat.le_trans HB6.out.size hb7.size)))
                have HNR := Lib.hid hnr
                have HW8 := Lib.hid hW8
                have HG8 := Lib.hid hg8
                have q1 : ∀ W : World, (binOp .eql 26 (.agg #[.int .i64 ((i : Int) + 1), .int .i64 2]) (.agg #[.int .i64 ((i : Int) + 1), .int .i64 2])).run Tryd.prog W = .ok (.bool true) W := fun W => by rw [ft_eql]; simp
                have z9 : ∀ W : World, (Instr.build 26 #[(0, .int .i64 ((i : Int) + 1)), (1, .int .i64 2)]).run Tryd.prog W = .ok (.agg #[.int .i64 ((i : Int) + 1), .int .i64 2]) W := fun W => by kernel_rfl
                clear hb7 hnb hnr hW8 hg8
                go_upto_region 10 with (refine wpList_store_row rfl 26 (.tmp 10) (.tmp 61) rfl w7.heap.size #[.int .i64 F1, .int .i64 F2] rfl rfl 26 #[.int .i64 0, .int .i64 0] ?_ HSF.out rfl (fault_one16 _ _) ?_; (exact HAL.out))
                rw [← HW8.out, ← HG8.out]
                clear HAL
                have HT1 : Hid (wrap64 ((m : Int) + 1) = (m : Int) + 1) := Lib.hid HS1.out
                have hs1 := HT1.out
                have hs2 : wrap64 ((i : Int) + 1) = (i : Int) + 1 := HS2.out
                by_cases ha : (i : Int) + 1 < tg
                · by_cases hb : tg ≤ (m : Int) + 1
                  · have f1 : F1 = 0 := by rw [HF1.out, if_pos ⟨ha, hb⟩]
                    have f2 : F2 = 0 := by rw [HF2.out, if_pos ⟨ha, hb⟩]
                    have e1 : decide ((i : Int) + 1 < tg) = true := decide_eq_true ha
                    have e2 : decide (tg ≤ (m : Int) + 1) = true := decide_eq_true hb
                    subst f1 f2
                    clear ha hb HF1 HF2
                    go_wp2_with fail
                    go_ret
                    exact ⟨rfl, HB8.out⟩
                  · have f1 : F1 = (i : Int) + 1 := by rw [HF1.out, if_neg (fun h => hb h.2)]
                    have f2 : F2 = 2 := by rw [HF2.out, if_neg (fun h => hb h.2)]
                    have e1 : decide ((i : Int) + 1 < tg) = true := decide_eq_true ha
                    have e2 : decide (tg ≤ (m : Int) + 1) = false := decide_eq_false hb
                    subst f1 f2
                    clear ha hb HF1 HF2
                    go_wp2_with (refine wpList_load_row_g 5 false rfl rfl 26 (.tmp 10) rfl g8 rfl 26 #[.int .i64 ((i : Int) + 1), .int .i64 2] (0, 0) _ ?_ Tryd.underlying26 rfl HSF.out ?_; (exact HNR.out))
                    go_ret
                    exact ⟨rfl, HB8.out⟩
                · have f1 : F1 = (i : Int) + 1 := by rw [HF1.out, if_neg (fun h => ha h.1)]
                  have f2 : F2 = 2 := by rw [HF2.out, if_neg (fun h => ha h.1)]
                  have e1 : decide ((i : Int) + 1 < tg) = false := decide_eq_false ha
                  subst f1 f2
                  clear ha HF1 HF2
                  go_wp2_with (refine wpList_load_row_g 5 false rfl rfl 26 (.tmp 10) rfl g8 rfl 26 #[.int .i64 ((i : Int) + 1), .int .i64 2] (0, 0) _ ?_ Tryd.underlying26 rfl HSF.out ?_; (exact HNR.out))
                  go_ret
                  exact ⟨rfl, HB8.out⟩
end Go.Proofs.YtglplhkbnkbjbaaDoor

namespace Go.Proofs.YtglplhkbnkbjbaaDoor
open Go Go.RowKit
set_option maxRecDepth 100000
theorem info_kind3 : (Tryd.prog.info? 23).map (fun i => (i.zero, i.size, i.bytes)) = some (some (.int .i64 0), 1, 8) := by kernel_rfl
def twosTo (n k : Nat) : List Value := List.replicate k (Value.int .i64 2) ++ List.replicate (n - k) (Value.int .i64 0)
theorem twosTo_zero (n : Nat) : twosTo n 0 = List.replicate n (Value.int .i64 0) := by simp [twosTo]
theorem twosTo_end (n : Nat) : twosTo n n = List.replicate n (Value.int .i64 2) := by simp [twosTo]
theorem twosTo_next (n k : Nat) (h : k < n) : (twosTo n k).set k (Value.int .i64 2) = twosTo n (k + 1) := by
  unfold twosTo
  rw [List.set_append_right _ _ (by simp), List.length_replicate, Nat.sub_self, show n - k = (n - (k + 1)) + 1 by omega, List.replicate_succ, List.set_cons_zero, List.replicate_succ', List.append_assoc]
  rfl
theorem run_make_kinds (n : Nat) (hn : n ≤ 100000) (W : World) :
    (Instr.makeSlice 24 (.int .i64 (n : Int)) (.int .i64 (n : Int))).run Tryd.prog W = .ok (.slice (some ⟨W.heap.size, 0, none⟩) n n) (W.alloc (.cells (twosTo n 0).toArray 23)) := by
  obtain ⟨i0, hi, hz0, hz1, hz2⟩ := info_parts info_kind3
  have h := run_make (P := Tryd.prog) W 24 23 i0 (.int .i64 0) Tryd.underlying24 hi hz0 .i64 .i64 (n : Int) (n : Int) (by omega) (by omega) (by rw [hz2]; omega) (by omega)
  rw [h, hz1]
  have e : madeCells #[.int .i64 0] n = (twosTo n 0).toArray := by
    rw [twosTo_zero]
    apply Array.ext
    · simp [madeCells]
    · intro i h1 h2
      simp [madeCells, Nat.mod_one]
  rw [← e]
  simp [Value.cells]
set_option maxHeartbeats 4000000 in
theorem kinds16_any (n : Nat) (hn : n ≤ 100000) (w : World) : Calls Tryd.prog 13 #[.int .i64 (n : Int)] w fun e w' => ∃ g, e = .returned (.slice (some ⟨g, 0, none⟩) n n) ∧ w'.heap[g]? = some (.cells (List.replicate n (Value.int .i64 2)).toArray 23 (0, 0)) ∧ Below w.heap.size w w' := by
  have kmk := run_make_kinds n hn w
  obtain ⟨g, hg⟩ : ∃ g, g = w.heap.size := ⟨_, rfl⟩
  obtain ⟨W1, hW1⟩ : ∃ W, W = w.alloc (.cells (twosTo n 0).toArray 23) := ⟨_, rfl⟩
  have h1 : W1.heap[g]? = some (.cells (twosTo n 0).toArray 23 (0, 0)) := by rw [hW1, hg]; exact heap_alloc_new w _
  have hb : Below w.heap.size w W1 := by rw [hW1]; exact (Below.refl _ _).alloc (Nat.le_refl _) _
  rw [← hW1, ← hg] at kmk
  have HMK : Hid (∀ {ops : Array Oper} {rest : List Oper} {o : Oper} {a : Act} {Q : Exit → Act → World → Prop} (x y : Operand), o.guard = none → o.op = .makeSlice 24 x y → a.eval x = .int .i64 (n : Int) → a.eval y = .int .i64 (n : Int) → wpList Tryd.prog ops Q rest (a.put o.dst (.slice (some ⟨g, 0, none⟩) n n)) W1 → wpList Tryd.prog ops Q (o :: rest) a w) := Lib.hid fun x y hgd ho hx hy h => wpList_val hgd (run_mk15 ho hx hy kmk) h
  have H1 := Lib.hid h1
  have HB := Lib.hid hb
  have HG := Lib.hid hg
  have HN := Lib.hid hn
  clear h1 hb hW1 hg kmk hn
  go_enter Tryd.func13, Tryd.ntmps13
  go_wp2_with (refine HMK.out (.tmp 5) (.tmp 5) rfl rfl rfl rfl ?_)
  go_loopw [4] (fun v wr => ∃ k : Nat, v = .int .i64 (k : Int) ∧ k ≤ n ∧ Below w.heap.size w wr ∧ wr.heap[g]? = some (.cells (twosTo n k).toArray 23 (0, 0)))
    (fun v _ => n - (intOf v).toNat)
  case atStart => exact ⟨0, rfl, Nat.zero_le _, HB.out, H1.out⟩
  case round =>
    obtain ⟨k, rfl, hk, hb, hh⟩ := hrel
    have HBr := Lib.hid hb
    have HH := Lib.hid hh
    clear hb hh
    by_cases hkn : k < n
    · have HKN := Lib.hid hkn
      have d1 : decide ((k : Int) < (n : Int)) = true := by simp; omega
      have hc : wr.cell? ⟨g, k, none⟩ = some (.int .i64 0) := by
        rw [cell_of_row wr g k _ _ _ HH.out]
        rw [List.getElem?_toArray]
        unfold twosTo
        rw [List.getElem?_append_right (by simp), List.length_replicate, Nat.sub_self, List.getElem?_replicate, if_pos (by omega)]
      have hf := frozen_of_row wr g k _ _ HH.out
      have hset := heap_setCell_same wr g k _ _ (.int .i64 2) HH.out
      have hs2 : (wr.setCell ⟨g, k, none⟩ (.int .i64 2)).heap[g]? = some (.cells (twosTo n (k + 1)).toArray 23 (0, 0)) := by
        rw [hset, ← twosTo_next n k hkn]
        simp
      have hb2 : Below w.heap.size w (wr.setCell ⟨g, k, none⟩ (.int .i64 2)) := HBr.out.setCell (show w.heap.size ≤ (⟨g, k, none⟩ : Addr).block from by rw [HG.out]; exact Nat.le_refl _) _
      have HS2 := Lib.hid hs2
      have HB2 := Lib.hid hb2
      have hwr := wrap_succV (i := k) (by have := HN.out; omega)
      have HWR := Lib.hid hwr
      have i0 : (0 : Int) ≤ (k : Int) := by omega
      have i1 : (k : Int) < (n : Int) := by omega
      clear hk hkn hset hs2 hb2 hwr
      go_wp2_with fail
      exact ⟨⟨k + 1, by first | rw [HWR.out] | simp, HKN.out, HB2.out, HS2.out⟩, by have := HKN.out; (try rw [HWR.out]); first | (simp only [intOf]; omega) | (simp [intOf]; omega)⟩
    · obtain rfl : k = n := by omega
      have d1 : decide ((k : Int) < (k : Int)) = false := by simp
      have HE : Hid (wr.heap[g]? = some (.cells (List.replicate k (Value.int .i64 2)).toArray 23 (0, 0))) := Lib.hid (by rw [← twosTo_end]; exact HH.out)
      clear hk hkn
      go_wp2_with fail
      go_ret
      exact ⟨g, rfl, HE.out, HBr.out⟩
end Go.Proofs.YtglplhkbnkbjbaaDoor

namespace Go.Proofs.YtglplhkbnkbjbaaDoor
open Go Go.RowKit
set_option maxRecDepth 100000
def wKs (n : Nat) (v : Value) (W : World) : Prop := ∃ g, v = .slice (some ⟨g, 0, none⟩) n n ∧ W.heap[g]? = some (.cells (List.replicate n (Value.int .i64 2)).toArray 23 (0, 0))
def wIn4 (B n : Nat) (v : Value) (W : World) : Prop := ∃ g, B ≤ g ∧ v = .slice (some ⟨g, 0, none⟩) n n ∧ W.heap[g]? = some (.cells (Array.replicate (n * 4) (Value.int .i64 0)) 34 (0, 0))
def wC1 (v : Value) (W : World) : Prop := ∃ g, v = .slice (some ⟨g, 0, none⟩) 1 1 ∧ W.heap[g]? = some (.cells #[.int .i64 0] 2 (0, 0))
def bndV (gi ga gb gc gl sl ic nc : Nat) : Value := .agg #[.slice (some ⟨gi, 0, none⟩) ic ic, .slice none 0 0, .slice (some ⟨ga, 0, none⟩) sl sl, .slice (some ⟨gb, 0, none⟩) sl sl, .slice (some ⟨gc, 0, none⟩) 1 1, .slice (some ⟨gl, 0, none⟩) nc nc]
def wBnd (B sl ic nc : Nat) (v : Value) (W : World) : Prop := ∃ gi ga gb gc gl, v = bndV gi ga gb gc gl sl ic nc ∧ B ≤ gl ∧ W.heap[gi]? = some (.cells (List.replicate ic (Value.int .i64 2)).toArray 23 (0, 0)) ∧ W.heap[ga]? = some (.cells (List.replicate sl (Value.int .i64 2)).toArray 23 (0, 0)) ∧ W.heap[gb]? = some (.cells (List.replicate sl (Value.int .i64 2)).toArray 23 (0, 0)) ∧ W.heap[gc]? = some (.cells #[.int .i64 0] 2 (0, 0)) ∧ W.heap[gl]? = some (.cells (Array.replicate (nc * 4) (Value.int .i64 0)) 34 (0, 0))
def wPg0 (B : Nat) (v : Value) (W : World) : Prop := ∃ g, B ≤ g ∧ v = .pointer (some ⟨g, 0, none⟩) ∧ W.heap[g]? = some (.cells #[.slice none 0 0, .slice none 0 0, .slice none 0 0, .slice none 0 0, .slice none 0 0, .slice none 0 0] 32 (0, 0))
theorem keep16 {W W' : World} {g : Nat} {o : Obj} (h : W.heap[g]? = some o) (hb : Below W.heap.size W W') : W'.heap[g]? = some o := (hb.block g (Array.getElem?_eq_some_iff.1 h).1).trans h
theorem stable_ks (n : Nat) : Stable (wKs n) := fun _ _ _ ⟨g, h1, h2⟩ hb => ⟨g, h1, keep16 h2 hb⟩
theorem stable_in4 (B n : Nat) : Stable (wIn4 B n) := fun _ _ _ ⟨g, h0, h1, h2⟩ hb => ⟨g, h0, h1, keep16 h2 hb⟩
theorem stable_c1 : Stable wC1 := fun _ _ _ ⟨g, h1, h2⟩ hb => ⟨g, h1, keep16 h2 hb⟩
theorem stable_bnd (B sl ic nc : Nat) : Stable (wBnd B sl ic nc) := fun _ _ _ ⟨gi, ga, gb, gc, gl, h1, h0, h2, h3, h4, h5, h6⟩ hb => ⟨gi, ga, gb, gc, gl, h1, h0, keep16 h2 hb, keep16 h3 hb, keep16 h4 hb, keep16 h5 hb, keep16 h6 hb⟩
theorem stable_pg0 (B : Nat) : Stable (wPg0 B) := fun _ _ _ ⟨g, h0, h1, h2⟩ hb => ⟨g, h0, h1, keep16 h2 hb⟩
/-- The cells of the instructions that were laid. -/
def jmpC (i : Nat) : List Value := [.int .i64 20, .int .i64 ((i : Int) + 1), .int .i64 0, .int .i64 0]
theorem bound_get (sl ic n k : Nat) (h : k < (boundP sl ic n).code.length) : (boundP sl ic n).code[k]'h = ⟨20, (k : Int) + 1, 0, 0⟩ := by simp [boundP]
theorem bound_len (sl ic n : Nat) : (boundP sl ic n).code.length = n := by simp [boundP]
theorem bound_isok (sl ic n : Nat) (hn : n ≤ 100000) : (boundP sl ic n).ok := by
  refine ⟨fun v hv => ?_, (fun _ h => by cases h), fun v hv => ?_, fun v hv => ?_, fun v hv => ?_, fun x hx => ?_⟩
  · rw [List.eq_of_mem_replicate hv]; exact ⟨by decide, by decide⟩
  · rw [List.eq_of_mem_replicate hv]; exact ⟨by decide, by decide⟩
  · rw [List.eq_of_mem_replicate hv]; exact ⟨by decide, by decide⟩
  · simp only [boundP, List.mem_cons, List.not_mem_nil, or_false] at hv
    rw [hv]; exact ⟨by decide, by decide⟩
  · obtain ⟨i, hi, rfl⟩ := List.mem_map.1 hx
    have := List.mem_range.1 hi
    exact ⟨(show i64' 20 from ⟨by decide, by decide⟩), (show i64' ((i : Int) + 1) from ⟨by omega, by omega⟩), (show i64' 0 from ⟨by decide, by decide⟩), (show i64' 0 from ⟨by decide, by decide⟩)⟩
theorem grown_setCells16 : ∀ (vs : List Value) (w : World) (b o : Nat), w.grownBy (w.setCells b o vs) (some b)
  | [], w, b, o => World.grownBy.refl w _
  | v :: r, w, b, o => by
    rw [World.setCells]
    exact grownV_trans (grownV_set (World.grownBy.refl w (some b)) ⟨b, o, none⟩ v (.inl rfl)) (grown_setCells16 r _ b (o + 1))
set_option maxHeartbeats 16000000 in
theorem validBounds_any {T : World → Prop} (K : ValidC T) (a b c : Int) (w : World) (hT : T w) (ha : i64' a) (hb : i64' b) (hc : i64' c) : Calls Tryd.prog 6 #[.int .i64 a, .int .i64 b, .int .i64 c] w fun e w' => e = .returned (.bool true) ∧ Below w.heap.size w w' := by
  have ka := awake16_any K w hT
  have HSF := Lib.hid size_fault16
  have HSI := Lib.hid size_in4v
  have HSP := Lib.hid size_progv
  have HKC := Lib.hid K
  have HT := Lib.hid hT
  clear K hT
  go_enter Tryd.func6, Tryd.ntmps6
  go_wp2_with fail
  (with_reducible refine ka.mono ?_)
  rintro e w1 ⟨rfl, hb1⟩
  have HB1 := Lib.hid hb1
  clear ka hb1
  by_cases g0 : a < 0
  · have d0 : decide (a < 0) = true := by simp; omega
    go_wp2_with fail
    go_ret
    exact ⟨rfl, HB1.out⟩
  have d0 : decide (a < 0) = false := by simp; omega
  by_cases g1 : 1100 < a
  · have d1 : decide (a > 1100) = true := by simp; omega
    have f1 : decide (1100 < a) = true := by simp; omega
    go_wp2_with fail
    go_ret
    exact ⟨rfl, HB1.out⟩
  have d1 : decide (a > 1100) = false := by simp; omega
  have f1 : decide (1100 < a) = false := by simp; omega
  by_cases g2 : b < 0
  · have d2 : decide (b < 0) = true := by simp; omega
    go_wp2_with fail
    go_ret
    exact ⟨rfl, HB1.out⟩
  have d2 : decide (b < 0) = false := by simp; omega
  by_cases g3 : 70 < b
  · have d3 : decide (b > 70) = true := by simp; omega
    have f3 : decide (70 < b) = true := by simp; omega
    go_wp2_with fail
    go_ret
    exact ⟨rfl, HB1.out⟩
  have d3 : decide (b > 70) = false := by simp; omega
  have f3 : decide (70 < b) = false := by simp; omega
  by_cases g4 : c < 0
  · have d4 : decide (c < 0) = true := by simp; omega
    go_wp2_with fail
    go_ret
    exact ⟨rfl, HB1.out⟩
  have d4 : decide (c < 0) = false := by simp; omega
  by_cases g5 : 8300 < c
  · have d5 : decide (c > 8300) = true := by simp; omega
    have f5 : decide (8300 < c) = true := by simp; omega
    go_wp2_with fail
    go_ret
    exact ⟨rfl, HB1.out⟩
  have d5 : decide (c > 8300) = false := by simp; omega
  have f5 : decide (8300 < c) = false := by simp; omega
  obtain ⟨sl, rfl⟩ : ∃ n : Nat, a = (n : Int) := ⟨a.toNat, by omega⟩
  obtain ⟨ic, rfl⟩ : ∃ n : Nat, b = (n : Int) := ⟨b.toNat, by omega⟩
  obtain ⟨nc, rfl⟩ : ∃ n : Nat, c = (n : Int) := ⟨c.toNat, by omega⟩
  have HRG : Hid (sl ≤ 1100 ∧ ic ≤ 70 ∧ nc ≤ 8300) := Lib.hid (by omega)
  have HS1 : Hid (sl ≤ 100000) := Lib.hid (by omega)
  have HS2 : Hid (ic ≤ 100000) := Lib.hid (by omega)
  have HS3 : Hid (nc ≤ 100000) := Lib.hid (by omega)
  obtain ⟨B0, hB0⟩ : ∃ B, B = w1.heap.size := ⟨_, rfl⟩
  have HB0 : Hid (B0 = w1.heap.size) := Lib.hid hB0
  clear g0 g1 g2 g3 g4 g5 ha hb hc hB0
  go_upto_region 5 with fail
  clear d0 d1 d2 d3 d4 d5 f1 f3 f5
  refine wp_region_steps_then (words [wIs (.int .i64 (sl : Int)), wKs sl, wIs (.int .i64 (sl : Int)), wKs sl, wIs (.int .i64 (ic : Int)), wKs ic, wIs (.int .i64 (nc : Int)), wIn4 B0 nc, wC1, wBnd B0 sl ic nc, wPg0 B0]) w1.heap.size w1 (by kernel_rfl) (Below.refl _ _) (Nat.le_refl _) (words_stable ?stab) rfl rfl (by kernel_rfl) (by kernel_rfl) _ rfl ?steps ?last
  case stab =>
    intro f hf
    simp only [List.mem_cons, List.not_mem_nil, or_false] at hf
    rcases hf with rfl | rfl | rfl | rfl | rfl | rfl | rfl | rfl | rfl | rfl | rfl <;> first | exact stable_is _ | exact stable_ks _ | exact stable_in4 _ _ | exact stable_c1 | exact stable_bnd _ _ _ _ | exact stable_pg0 _
  case steps =>
    refine Steps.cons (step_value rfl fun xa W hp => ⟨(wanted_none rfl), _, _, run_move (.inl rfl), hp.old 0 rfl, Below.refl _ _⟩) ?_
    refine Steps.cons (step_enter rfl fun xa W hp => ?_) ?_
    · have e0 : xa.tmps.getD 36 undef = .int .i64 (sl : Int) := (hp.on_ 0 rfl rfl rfl).2
      refine ⟨(wanted_none rfl), 13, _, run_enter1 rfl rfl Tryd.call13, ?_⟩
      show Calls _ _ #[xa.tmps.getD 36 undef] W _
      rw [e0]
      refine (kinds16_any sl HS1.out W).mono ?_
      rintro e W' ⟨gk, he, hk, hbe⟩
      exact ⟨_, he, ⟨gk, rfl, hk⟩, hbe⟩
    refine Steps.cons (step_value rfl fun xa W hp => ⟨(wanted_none rfl), _, _, run_move (.inl rfl), hp.old 0 rfl, Below.refl _ _⟩) ?_
    refine Steps.cons (step_enter rfl fun xa W hp => ?_) ?_
    · have e0 : xa.tmps.getD 38 undef = .int .i64 (sl : Int) := (hp.on_ 2 rfl rfl rfl).2
      refine ⟨(wanted_none rfl), 13, _, run_enter1 rfl rfl Tryd.call13, ?_⟩
      show Calls _ _ #[xa.tmps.getD 38 undef] W _
      rw [e0]
      refine (kinds16_any sl HS1.out W).mono ?_
      rintro e W' ⟨gk, he, hk, hbe⟩
      exact ⟨_, he, ⟨gk, rfl, hk⟩, hbe⟩
    refine Steps.cons (step_value rfl fun xa W hp => ⟨(wanted_none rfl), _, _, run_move (.inl rfl), hp.old 1 rfl, Below.refl _ _⟩) ?_
    refine Steps.cons (step_enter rfl fun xa W hp => ?_) ?_
    · have e0 : xa.tmps.getD 40 undef = .int .i64 (ic : Int) := (hp.on_ 4 rfl rfl rfl).2
      refine ⟨(wanted_none rfl), 13, _, run_enter1 rfl rfl Tryd.call13, ?_⟩
      show Calls _ _ #[xa.tmps.getD 40 undef] W _
      rw [e0]
      refine (kinds16_any ic HS2.out W).mono ?_
      rintro e W' ⟨gk, he, hk, hbe⟩
      exact ⟨_, he, ⟨gk, rfl, hk⟩, hbe⟩
    refine Steps.cons (step_value rfl fun xa W hp => ⟨(wanted_none rfl), _, _, run_move (.inl rfl), hp.old 2 rfl, Below.refl _ _⟩) ?_
    refine Steps.cons (step_value rfl fun xa W hp => ?_) ?_
    · have e0 : xa.tmps.getD 42 undef = .int .i64 (nc : Int) := (hp.on_ 6 rfl rfl rfl).2
      exact ⟨(wanted_none rfl), _, _, run_mk15 rfl e0 e0 (run_make_in4 nc HS3.out W), ⟨W.heap.size, (by have := hp.below.size; have := HB0.out; omega), rfl, heap_alloc_new W _⟩, (Below.refl _ _).alloc (Nat.le_refl _) _⟩
    refine Steps.cons (step_value rfl fun xa W hp => ?_) ?_
    · exact ⟨(wanted_none rfl), .slice (some ⟨W.heap.size, 0, none⟩) 1 1, W.alloc (.cells #[.int .i64 0] 2), (by kernel_rfl), ⟨W.heap.size, rfl, heap_alloc_new W _⟩, (Below.refl _ _).alloc (Nat.le_refl _) _⟩
    refine Steps.cons (step_value rfl fun xa W hp => ?_) ?_
    · obtain ⟨ga, ea, ha⟩ : wKs sl (xa.tmps.getD 37 undef) W := (hp.on_ 1 rfl rfl rfl).2
      obtain ⟨gb, eb, hb⟩ : wKs sl (xa.tmps.getD 39 undef) W := (hp.on_ 3 rfl rfl rfl).2
      obtain ⟨gi, ei, hi⟩ : wKs ic (xa.tmps.getD 41 undef) W := (hp.on_ 5 rfl rfl rfl).2
      obtain ⟨gl, bl, el, hl⟩ : wIn4 B0 nc (xa.tmps.getD 43 undef) W := (hp.on_ 7 rfl rfl rfl).2
      obtain ⟨gc, ec, hc⟩ : wC1 (xa.tmps.getD 44 undef) W := (hp.on_ 8 rfl rfl rfl).2
      have h : (Instr.build 32 #[(2, xa.tmps.getD 37 undef), (3, xa.tmps.getD 39 undef), (0, xa.tmps.getD 41 undef), (5, xa.tmps.getD 43 undef), (4, xa.tmps.getD 44 undef)]).run Tryd.prog W = .ok (bndV gi ga gb gc gl sl ic nc) W := by rw [ea, eb, ei, el, ec]; kernel_rfl
      exact ⟨(wanted_none rfl), _, _, run_bld14 rfl (by simp only [List.map_toArray, List.map_cons, List.map_nil]; exact h), ⟨gi, ga, gb, gc, gl, rfl, bl, hi, ha, hb, hc, hl⟩, Below.refl _ _⟩
    refine Steps.cons (step_value rfl fun xa W hp => ?_) ?_
    · exact ⟨(wanted_none rfl), .pointer (some ⟨W.heap.size, 0, none⟩), W.alloc (.cells #[.slice none 0 0, .slice none 0 0, .slice none 0 0, .slice none 0 0, .slice none 0 0, .slice none 0 0] 32), (by kernel_rfl), ⟨W.heap.size, (by have := hp.below.size; have := HB0.out; omega), rfl, heap_alloc_new W _⟩, (Below.refl _ _).alloc (Nat.le_refl _) _⟩
    exact Steps.nil
  case last =>
    intro act W hI
    have h45 : wBnd B0 sl ic nc (act.tmps.getD 45 undef) W := hI.new 9 _ 45 rfl rfl rfl
    have h7 : wPg0 B0 (act.tmps.getD 7 undef) W := hI.new 10 _ 7 rfl rfl rfl
    obtain ⟨gi, ga, gb, gc, gl, e45, hBl, hi, ha, hb, hc, hl⟩ := h45
    obtain ⟨gp, hBp, e7, hz⟩ := h7
    have hbW := hI.below
    obtain ⟨fo, hfo, hx⟩ := puts_of hI.tmps hI.defers hI.old [36, 37, 38, 39, 40, 41, 42, 43, 44, 45, 7] rfl
    obtain ⟨W2, hW2⟩ : ∃ V, V = W.setRow gp #[.slice (some ⟨gi, 0, none⟩) ic ic, .slice none 0 0, .slice (some ⟨ga, 0, none⟩) sl sl, .slice (some ⟨gb, 0, none⟩) sl sl, .slice (some ⟨gc, 0, none⟩) 1 1, .slice (some ⟨gl, 0, none⟩) nc nc] := ⟨_, rfl⟩
    have hb2 : Below w1.heap.size w1 W2 := by rw [hW2]; exact below_setRow hbW (by rw [← HB0.out]; exact hBp) _
    have hp2 : W2.heap[gp]? = some (.cells #[.slice (some ⟨gi, 0, none⟩) ic ic, .slice none 0 0, .slice (some ⟨ga, 0, none⟩) sl sl, .slice (some ⟨gb, 0, none⟩) sl sl, .slice (some ⟨gc, 0, none⟩) 1 1, .slice (some ⟨gl, 0, none⟩) nc nc] 32 (0, 0)) := by rw [hW2]; exact setRow_heap _ gp _ _ _ _ hz
    have hne : ∀ (g : Nat) (cs : Array Value) (t : TypeId), W.heap[g]? = some (.cells cs t (0, 0)) → t ≠ 32 → W2.heap[g]? = some (.cells cs t (0, 0)) := fun g cs t h1 h2 => by
      rw [hW2, setRow_other W gp g _ (fun e => by
        rw [e, hz] at h1
        have h1 := Option.some.inj h1
        injection h1 with _ h1 _
        exact h2 h1.symm)]
      exact h1
    have HI2 := Lib.hid (hne gi _ _ hi (by decide))
    have HA2 := Lib.hid (hne ga _ _ ha (by decide))
    have HBb2 := Lib.hid (hne gb _ _ hb (by decide))
    have HC2 := Lib.hid (hne gc _ _ hc (by decide))
    have HL2 := Lib.hid (hne gl _ _ hl (by decide))
    have HP2 := Lib.hid hp2
    have HB2 := Lib.hid hb2
    have HBl := Lib.hid hBl
    refine wpOp_of rfl (wanted_none rfl) ?_
    refine wp_store_row 32 (.tmp 7) (.tmp 45) rfl gp _ e7 e45 32 _ hz HSP.out (by simp [Value.oneCell']) (by simp [Value.oneCell']) ?_
    rw [← hW2]
    subst hx
    rw [hfo] at e45 e7
    simp only [Exit.inBlock, Exit.then, List.foldl, Act.put, List.setIfInBounds_toArray, List.set_cons_succ, List.set_cons_zero]
    rw [e7]
    clear hI hfo hbW hb2 hp2 hne hi ha hb hc hl hz hBp hBl hW2 e45 e7
    go_wp2_with fail
    go_loopw [8] (fun v wr => ∃ k : Nat, v = .int .i64 (k : Int) ∧ k ≤ nc ∧ W2.grownBy wr (some gl) ∧ wr.there gl 0 (nc * 4) ∧ ∀ i, i < k → wr.rangeAt gl (i * 4) (jmpC i))
      (fun v _ => nc - (intOf v).toNat)
    case atStart => exact ⟨0, rfl, Nat.zero_le _, World.grownBy.refl _ _, fun j hj => ⟨by rw [cell_of_row W2 gl _ _ _ _ HL2.out]; simp; omega, frozen_of_row W2 gl _ _ _ HL2.out⟩, fun i hi => by omega⟩
    case round =>
      as_aux_lemma =>
        obtain ⟨k, rfl, hk, hg, hth, hr⟩ := hrel
        have HG := Lib.hid hg
        have HTHa := Lib.hid hth
        have HR := Lib.hid hr
        have hgpl : gp ≠ gl := by
          intro e
          have h1 := HP2.out
          rw [e, HL2.out] at h1
          have h1 := Option.some.inj h1
          injection h1 with _ h1 _
          exact absurd h1 (by decide)
        have HPr := Lib.hid ((hg.block gp (Array.getElem?_eq_some_iff.1 HP2.out).1 (by simpa using hgpl)).trans HP2.out)
        clear hg hth hr hgpl
        by_cases hkn : k < nc
        · have HKN := Lib.hid hkn
          have d1 : decide ((k : Int) < (nc : Int)) = true := by simp; omega
          have i0 : (0 : Int) ≤ (k : Int) := by omega
          have i1 : (k : Int) < (nc : Int) := by omega
          have HWR : Hid (wrap64 ((k : Int) + 1) = (k : Int) + 1) := Lib.hid (wrap_in14 _ (by have := HRG.out; omega))
          have HTH : Hid (wr.there gl (k * 4) 4) := Lib.hid fun j hj => by
            have h := HTHa.out (k * 4 + j) (by omega)
            rw [Nat.zero_add] at h
            exact h
          have z5 := cell_of_row wr gp 5 _ _ _ HPr.out
          have bz : ∀ W : World, (Instr.build 34 #[(0, .int .i64 20), (1, .int .i64 ((k : Int) + 1))]).run Tryd.prog W = .ok (.agg #[.int .i64 20, .int .i64 ((k : Int) + 1), .int .i64 0, .int .i64 0]) W := fun W => by kernel_rfl
          have hr5 := World.rangeAt_setCells_same wr gl (k * 4) [.int .i64 20, .int .i64 ((k : Int) + 1), .int .i64 0, .int .i64 0] HTH.out
          have ho5 : ∀ i, i < k → (wr.setCells gl (k * 4) [.int .i64 20, .int .i64 ((k : Int) + 1), .int .i64 0, .int .i64 0]).rangeAt gl (i * 4) (jmpC i) := fun i hi => World.rangeAt_setCells_apart (HR.out i hi) gl (k * 4) [.int .i64 20, .int .i64 ((k : Int) + 1), .int .i64 0, .int .i64 0] (.inr (.inl (by simp only [jmpC, List.length_cons, List.length_nil]; omega)))
          have ht5 : (wr.setCells gl (k * 4) [.int .i64 20, .int .i64 ((k : Int) + 1), .int .i64 0, .int .i64 0]).there gl 0 (nc * 4) := World.there_setCells HTHa.out gl (k * 4) _
          have hg5 : wr.grownBy (wr.setCells gl (k * 4) [.int .i64 20, .int .i64 ((k : Int) + 1), .int .i64 0, .int .i64 0]) (some gl) := grown_setCells16 _ wr gl (k * 4)
          have HR5 : Hid (∀ i, i < k + 1 → (wr.setCells gl (k * 4) [.int .i64 20, .int .i64 ((k : Int) + 1), .int .i64 0, .int .i64 0]).rangeAt gl (i * 4) (jmpC i)) := Lib.hid fun i hi => by
            by_cases hik : i = k
            · subst hik; exact hr5
            · exact ho5 i (by omega)
          have HT5 := Lib.hid ht5
          have HG5 := Lib.hid (grownV_trans HG.out hg5)
          clear hk hkn hr5 ho5 ht5 hg5
          have hwr := HWR.out
          go_wp2_with (refine wpList_store_mid rfl 34 (.tmp 57) (.tmp 56) rfl gl (k * 4) #[.int .i64 20, .int .i64 ((k : Int) + 1), .int .i64 0, .int .i64 0] rfl rfl HTH.out HSI.out (in4_one _ _ _ _) ?_)
          clear hwr
          exact ⟨⟨k + 1, by rw [HWR.out]; simp, HKN.out, HG5.out, HT5.out, HR5.out⟩, by have := HKN.out; rw [HWR.out]; first | (simp only [intOf]; omega) | (simp [intOf]; omega)⟩
        · obtain rfl : k = nc := by omega
          have d1 : decide ((k : Int) < (k : Int)) = false := by simp
          have hkeep : ∀ (g : Nat) (cs : Array Value) (t : TypeId), W2.heap[g]? = some (.cells cs t (0, 0)) → t ≠ 34 → wr.heap[g]? = some (.cells cs t (0, 0)) := fun g cs t h1 h2 => (HG.out.block g (Array.getElem?_eq_some_iff.1 h1).1 (fun e => by
            have e : g = gl := by simpa using e
            rw [e, HL2.out] at h1
            have h1 := Option.some.inj h1
            injection h1 with _ h1 _
            exact h2 h1.symm)).trans h1
          have hbr : Below w.heap.size w wr := (HB1.out.trans (HB2.out.mono HB1.out.size)).grown HG.out (Nat.le_trans HB1.out.size HB2.out.size) (fun j hj => by have := HBl.out; have := HB0.out; have := HB1.out.size; injection hj with hj; omega)
          have hin : PgIn wr (boundP sl ic k) (some ⟨gi, 0, none⟩) none (some ⟨ga, 0, none⟩) (some ⟨gb, 0, none⟩) (some ⟨gc, 0, none⟩) (some ⟨gl, 0, none⟩) :=
            ⟨rowI16 (hkeep gi _ _ HI2.out (by decide)) (by simp [boundP]), Row.nil _ _ _, rowI16 (hkeep ga _ _ HA2.out (by decide)) (by simp [boundP]), rowI16 (hkeep gb _ _ HBb2.out (by decide)) (by simp [boundP]), rowI16 (hkeep gc _ _ HC2.out (by decide)) rfl,
             fun _ => ⟨gl, 0, rfl, Nat.lt_of_lt_of_le (Array.getElem?_eq_some_iff.1 HL2.out).1 HG.out.size, fun i hi => by
              rw [bound_get, Nat.zero_add]
              rw [bound_len] at hi
              exact HR.out i hi⟩⟩
          have kc := HKC.out.check (boundP sl ic k) (some ⟨gi, 0, none⟩) none (some ⟨ga, 0, none⟩) (some ⟨gb, 0, none⟩) (some ⟨gc, 0, none⟩) (some ⟨gl, 0, none⟩) ic 0 sl sl 1 k wr (HKC.out.keep _ _ HT.out hbr) (bound_isok sl ic k HS3.out) (by unfold Pg.sum; rw [bound_len]; have := HRG.out; simp only [boundP, List.length_replicate, List.length_nil, List.length_cons]; omega) hin
          unfold GivesVC at kc
          have hpz : pgV (boundP sl ic k) (some ⟨gi, 0, none⟩) none (some ⟨ga, 0, none⟩) (some ⟨gb, 0, none⟩) (some ⟨gc, 0, none⟩) (some ⟨gl, 0, none⟩) ic 0 sl sl 1 k = .agg #[.slice (some ⟨gi, 0, none⟩) ic ic, .slice none 0 0, .slice (some ⟨ga, 0, none⟩) sl sl, .slice (some ⟨gb, 0, none⟩) sl sl, .slice (some ⟨gc, 0, none⟩) 1 1, .slice (some ⟨gl, 0, none⟩) k k] := by unfold pgV; rw [bound_len]; simp [boundP]
          rw [hpz] at kc
          obtain ⟨F1, hF1⟩ : ∃ f, f = (checkP (boundP sl ic k)).1 := ⟨_, rfl⟩
          obtain ⟨F2, hF2⟩ : ∃ f, f = (checkP (boundP sl ic k)).2 := ⟨_, rfl⟩
          rw [← hF1, ← hF2] at kc
          have HF1 := Lib.hid hF1
          have HF2 := Lib.hid hF2
          have HBR := Lib.hid hbr
          clear hk hkn hkeep hbr hin hpz hF1 hF2
          go_wp2_with (refine wpList_load_row rfl 32 (.tmp 7) rfl gp rfl 32 #[.slice (some ⟨gi, 0, none⟩) ic ic, .slice none 0 0, .slice (some ⟨ga, 0, none⟩) sl sl, .slice (some ⟨gb, 0, none⟩) sl sl, .slice (some ⟨gc, 0, none⟩) 1 1, .slice (some ⟨gl, 0, none⟩) k k] (0, 0) _ ?_ Tryd.underlying32 rfl HSP.out ?_; (exact HPr.out))
          (with_reducible refine kc.mono ?_)
          rintro e w7 ⟨rfl, hb7⟩
          clear kc
          obtain ⟨W8, hW8⟩ : ∃ W, W = ((w7.alloc (.cells #[.int .i64 0, .int .i64 0] 26)).setRow w7.heap.size #[.int .i64 F1, .int .i64 F2]) := ⟨_, rfl⟩
          obtain ⟨hnb, hnr⟩ := newrow14 w7 26 #[.int .i64 0, .int .i64 0] #[.int .i64 F1, .int .i64 F2]
          rw [← hW8] at hnb hnr
          have HAL := Lib.hid (heap_alloc_new w7 (.cells #[.int .i64 0, .int .i64 0] 26))
          obtain ⟨g8, hg8⟩ : ∃ g, g = w7.heap.size := ⟨_, rfl⟩
          rw [← hg8] at hnr
          have HB8 := Lib.hid ((HBR.out.trans (hb7.mono HBR.out.size)).trans (hnb.mono (Nat.le_trans HBR.out.size hb7.size)))
          have HNR := Lib.hid hnr
          have HW8 := Lib.hid hW8
          have HG8 := Lib.hid hg8
          have q1 : ∀ W : World, (binOp .eql 26 (.agg #[.int .i64 (-1), .int .i64 1]) (.agg #[.int .i64 (-1), .int .i64 1])).run Tryd.prog W = .ok (.bool true) W := fun W => by rw [ft_eql]; simp
          have z9 : ∀ W : World, (Instr.build 26 #[(0, .int .i64 (-1)), (1, .int .i64 1)]).run Tryd.prog W = .ok (.agg #[.int .i64 (-1), .int .i64 1]) W := fun W => by kernel_rfl
          clear hb7 hnb hnr hW8 hg8
          go_upto_region 11 with (refine wpList_store_row rfl 26 (.tmp 9) (.tmp 61) rfl w7.heap.size #[.int .i64 F1, .int .i64 F2] rfl rfl 26 #[.int .i64 0, .int .i64 0] ?_ HSF.out rfl (fault_one16 _ _) ?_; (exact HAL.out))
          rw [← HW8.out, ← HG8.out]
          clear HAL
          by_cases g1 : 1024 < sl
          · have e1 : decide ((sl : Int) > 1024) = true := by simp; omega
            have e2 : decide (1024 < (sl : Int)) = true := by simp; omega
            have hq := bound_big (slots := sl) (ins := ic) (n := k) (by omega)
            have f1 : F1 = -1 := by rw [HF1.out, hq]
            have f2 : F2 = 1 := by rw [HF2.out, hq]
            subst f1 f2
            clear HF1 HF2 hq g1
            go_wp2_with (refine wpList_load_row_g 6 false rfl rfl 26 (.tmp 9) rfl g8 rfl 26 #[.int .i64 (-1), .int .i64 1] (0, 0) _ ?_ Tryd.underlying26 rfl HSF.out ?_; (exact HNR.out))
            go_ret
            exact ⟨rfl, HB8.out⟩
          have e1 : decide ((sl : Int) > 1024) = false := by simp; omega
          have e2 : decide (1024 < (sl : Int)) = false := by simp; omega
          by_cases g2 : 64 < ic
          · have e3 : decide ((ic : Int) > 64) = true := by simp; omega
            have e4 : decide (64 < (ic : Int)) = true := by simp; omega
            have hq := bound_big (slots := sl) (ins := ic) (n := k) (by omega)
            have f1 : F1 = -1 := by rw [HF1.out, hq]
            have f2 : F2 = 1 := by rw [HF2.out, hq]
            subst f1 f2
            clear HF1 HF2 hq g1 g2
            go_wp2_with (refine wpList_load_row_g 6 false rfl rfl 26 (.tmp 9) rfl g8 rfl 26 #[.int .i64 (-1), .int .i64 1] (0, 0) _ ?_ Tryd.underlying26 rfl HSF.out ?_; (exact HNR.out))
            go_ret
            exact ⟨rfl, HB8.out⟩
          have e3 : decide ((ic : Int) > 64) = false := by simp; omega
          have e4 : decide (64 < (ic : Int)) = false := by simp; omega
          by_cases g3 : 8192 < k
          · have e5 : decide ((k : Int) > 8192) = true := by simp; omega
            have e6 : decide (8192 < (k : Int)) = true := by simp; omega
            have hq := bound_big (slots := sl) (ins := ic) (n := k) (by omega)
            have f1 : F1 = -1 := by rw [HF1.out, hq]
            have f2 : F2 = 1 := by rw [HF2.out, hq]
            subst f1 f2
            clear HF1 HF2 hq g1 g2 g3
            go_wp2_with (refine wpList_load_row_g 6 false rfl rfl 26 (.tmp 9) rfl g8 rfl 26 #[.int .i64 (-1), .int .i64 1] (0, 0) _ ?_ Tryd.underlying26 rfl HSF.out ?_; (exact HNR.out))
            go_ret
            exact ⟨rfl, HB8.out⟩
          have e5 : decide ((k : Int) > 8192) = false := by simp; omega
          have e6 : decide (8192 < (k : Int)) = false := by simp; omega
          have hq := bound_ok (slots := sl) (ins := ic) (n := k) (by omega) (by omega) (by omega)
          have f1 : F1 = 0 := by rw [HF1.out, hq]
          have f2 : F2 = 0 := by rw [HF2.out, hq]
          subst f1 f2
          clear HF1 HF2 hq g1 g2 g3 q1
          go_wp2_with fail
          go_ret
          exact ⟨rfl, HB8.out⟩
end Go.Proofs.YtglplhkbnkbjbaaDoor
