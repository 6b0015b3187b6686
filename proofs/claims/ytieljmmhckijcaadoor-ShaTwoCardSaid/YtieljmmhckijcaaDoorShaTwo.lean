/-
  Proved: ShaTwo of escapementlaw3 returns true for every input, and leaves what it was handed as it was. No conditions.
-/
import Derived.Test.YtieljmmhckijcaaDoorRows
import Derived.Test.YtieljmmhckijcaaDoorArg
import Derived.Test.YtieljmmhckijcaaDoorHaw
import Derived.Test.YtieljmmhckijcaaDoorTro
import Derived.WalkKit
import Derived.ProofKit
import Derived.OpenShut
import Derived.ShutString
import Derived.ChangeOld
import Derived.SizedLaws
import Derived.Test.YtieljmmhckijcaaDoorHof
import Derived.Test.YtieljmmhckijcaaDoorTie
import Derived.Test.YtieljmmhckijcaaDoorCards
import Derived.LaidMore
import Derived.Lay
import Derived.SevenTiedAt
import Derived.Stop.Joined
namespace Go.Proofs.YtieljmmhckijcaaDoor.shaTwo
open Go.ChangeShapes Go.WideShapes Go.ChangeAt Go.RowKit
open Go.ChangeMaps (open_string shut_string)
set_option linter.unusedVariables false

theorem own : ownKnob Tryd.prog.godebug = none := by kernel_rfl
theorem laidOut : laidOutB Tryd.prog = true := by kernel_rfl

theorem take_next (l : List UInt8) (i : Nat) (h : i < l.length) : l.take i ++ (l.drop i).take 1 = l.take (i + 1) := by
  rw [List.take_add]

/-- One byte more. -/
theorem add_one {w wr : World} {g i c : Nat} {a : Option Addr} {l : List UInt8} (ht : Txt w a l) (hb : Below w.heap.size w wr) (hT : Tabs wr) (hg : w.heap.size ≤ g) (g2 : 2 ≤ g) (hh : Held wr g (l.take i)) (hi : i < l.length) (hc : l.length ≤ c) (hm : c ≤ maxLen) (hl : l.length ≤ 300) :
    ∃ a', (∀ W, (Instr.sliceAt 26 (.slice a l.length c) (some (.int .i64 (i : Int))) (some (.int .i64 ((i : Int) + 1))) none).run Tryd.prog W = .ok (.slice a' 1 (c - i)) W) ∧
      Calls Tryd.prog 14 #[.pointer (some ⟨g, 0, none⟩), .slice a' 1 (c - i)] wr fun e w' => e = .returned (.tuple #[]) ∧ Held w' g (l.take (i + 1)) ∧ wr.grownBy w' (some g) := by
  obtain ⟨a1, h1, h2, h3⟩ := slice_mid (ht.below hb) i (i + 1) l.length c (i : Int) ((i : Int) + 1) rfl (by omega) rfl (by omega) (by omega) hc
  have e1 : i + 1 - i = 1 := by omega
  rw [e1] at h1 h2 h3
  have hlen : ((l.drop i).take 1).length = 1 := by rw [List.length_take, List.length_drop]; omega
  refine ⟨a1, h1, ?_⟩
  have hne : ∀ bb o, a1 = some ⟨bb, o, none⟩ → (l.drop i).take 1 ≠ [] → bb ≠ g := fun bb o e hn => by
    obtain ⟨o0, e0⟩ := h3 bb o e hn
    obtain ⟨b', o', e', hlt, _⟩ := ht (fun e => absurd hi (by rw [e]; simp))
    rw [e0] at e'
    simp only [Option.some.injEq, Addr.mk.injEq, and_true] at e'
    omega
  have h := Add_any g (c - i) (l.take i) ((l.drop i).take 1) a1 wr hT g2 hh h2 hne (by rw [hlen]; omega) (by unfold maxLen at hm ⊢; omega) (by rw [List.length_take]; omega)
  rw [take_next l i hi, hlen] at h
  exact h

set_option maxHeartbeats 8000000 in
set_option maxRecDepth 100000 in
theorem walk (a_a : Option Addr) (c_a : Nat) (a : List UInt8) (a_b : Option Addr) (c_b : Nat) (b : List UInt8) (w : World) (hT : Tabs w) (l_a : a.length ≤ c_a) (m_a : c_a ≤ maxLen) (t_a : Txt w a_a a) (l_b : b.length ≤ c_b) (m_b : c_b ≤ maxLen) (t_b : Txt w a_b b) :
    Calls Tryd.prog 7 #[.slice a_a a.length c_a, .slice a_b b.length c_b] w fun e w' => e = .returned (.bool true) ∧ Below w.heap.size w w' := by
  have HT := Lib.hid hT
  have hlt := hT.lt
  clear hT
  go_enter Tryd.func7, Tryd.ntmps7
  go_wp2_with fail
  refine (awake_any w HT.out).mono ?_
  rintro e w1 ⟨rfl, hb1⟩
  by_cases c1 : 300 < a.length
  · go_wp2_with fail
    go_ret
    exact ⟨rfl, hb1⟩
  by_cases c2 : 300 < b.length
  · go_wp2_with fail
    go_ret
    exact ⟨rfl, hb1⟩
  have hn1 := New_held w1 (HT.out.below hb1 (Nat.le_refl _))
  have hs1 := hb1.size
  obtain ⟨g, hg⟩ : ∃ g, g = w1.heap.size := ⟨_, rfl⟩
  have hb1' : ∀ w', Below w1.heap.size w1 w' → Below w.heap.size w w' := fun w' h => hb1.trans (h.mono hb1.size)
  rw [← hg] at hn1 hs1 hb1'
  clear hg hb1
  go_wp2_with fail
  refine hn1.mono ?_
  rintro e w2 ⟨rfl, hh2, hb2⟩
  have hB2 := hb1' _ hb2
  have hn2 := New_held w2 (HT.out.below hB2 (Nat.le_refl _))
  have hl2 := hh2.lt
  have hb2' : ∀ w', Below w2.heap.size w2 w' → Below w.heap.size w w' ∧ Held w' g [] := fun w' h => ⟨hB2.trans (h.mono hB2.size), hh2.below h⟩
  obtain ⟨g', hg'⟩ : ∃ g', g' = w2.heap.size := ⟨_, rfl⟩
  rw [← hg'] at hn2 hl2 hb2'
  clear hg' hn1 hb1' hb2 hB2 hh2
  go_wp2_with fail
  refine hn2.mono ?_
  rintro e w3 ⟨rfl, hh3, hb3⟩
  obtain ⟨hB3, hh3g⟩ := hb2' _ hb3
  have hl3 := hh3.lt
  have R1 := Lib.hid hh3g
  have R2 := Lib.hid hh3
  have R3 := Lib.hid hB3
  have TA := Lib.hid t_a
  have TB := Lib.hid t_b
  clear hn2 hh3 hh3g hb3 hb2' hB3 t_a t_b
  go_wp2_with fail
  go_loopw [7] (fun vi wr => ∃ i : Nat, vi = .int .i64 i ∧ i ≤ 300 ∧ Held wr g (a.take i) ∧ Held wr g' (b.take i) ∧ Below w.heap.size w wr)
    (fun vi _ => 301 - (intOf vi).toNat)
  case atStart => exact ⟨0, rfl, by omega, R1.out, R2.out, R3.out⟩
  case round =>
    obtain ⟨i, rfl, hi, hha, hhb, hbel⟩ := hrel
    clear R1 R2 R3
    have p1 : w.heap.size ≤ g := by omega
    have p2 : 2 ≤ g := by omega
    have p3 : w.heap.size ≤ g' := by omega
    have p4 : 2 ≤ g' := by omega
    have p5 : a.length ≤ 300 := by omega
    have p6 : b.length ≤ 300 := by omega
    have p7 : g ≠ g' := by omega
    by_cases ca : i < a.length
    · obtain ⟨a1, hs1', hadd⟩ := add_one TA.out hbel (HT.out.below hbel (Nat.le_refl _)) p1 p2 hha ca l_a m_a p5
      have Q1 := Lib.hid hhb
      have Q2 := Lib.hid hbel
      clear hha hhb hbel
      by_cases cb : i < b.length
      · go_wp2_with fail
        refine hadd.mono ?_
        rintro e w4 ⟨rfl, hh4, hg4⟩
        have hB4 := below_of_grown Q2.out hg4 p1
        have hhb4 := Q1.out.grown hg4 (fun e => p7 (Option.some.inj e).symm)
        obtain ⟨a2, hs2', hadd2⟩ := add_one TB.out hB4 (HT.out.below hB4 (Nat.le_refl _)) p3 p4 hhb4 cb l_b m_b p6
        have S1 := Lib.hid hh4
        have S2 := Lib.hid hB4
        clear hadd hhb4 hh4 hg4 hB4 hs1'
        go_wp2_with fail
        refine hadd2.mono ?_
        rintro e w5 ⟨rfl, hh5, hg5⟩
        have hB5 := below_of_grown S2.out hg5 p3
        have hh5' := S1.out.grown hg5 (fun e => p7 (Option.some.inj e))
        have S3 := Lib.hid hh5
        have S4 := Lib.hid hh5'
        have S5 := Lib.hid hB5
        clear hadd2 hh5 hg5 hB5 hh5'
        go_wp2_with fail
        refine ⟨⟨i + 1, by go_num, by omega, S4.out, S3.out, S5.out⟩, ?_⟩
        simp [intOf]; omega
      · have eb : b.take (i + 1) = b.take i := by rw [List.take_of_length_le (show b.length ≤ i + 1 by omega), List.take_of_length_le (show b.length ≤ i by omega)]
        have EB := Lib.hid eb
        clear eb
        go_wp2_with fail
        refine hadd.mono ?_
        rintro e w4 ⟨rfl, hh4, hg4⟩
        have hB4 := below_of_grown Q2.out hg4 p1
        have hhb4 := Q1.out.grown hg4 (fun e => p7 (Option.some.inj e).symm)
        have S3 := Lib.hid hh4
        have S4 := Lib.hid hhb4
        have S5 := Lib.hid hB4
        clear hadd hhb4 hh4 hg4 hB4
        go_wp2_with fail
        refine ⟨⟨i + 1, by go_num, by omega, S3.out, by rw [EB.out]; exact S4.out, S5.out⟩, ?_⟩
        simp [intOf]; omega
    · by_cases cb : i < b.length
      · obtain ⟨a2, hs2', hadd2⟩ := add_one TB.out hbel (HT.out.below hbel (Nat.le_refl _)) p3 p4 hhb cb l_b m_b p6
        have ea : a.take (i + 1) = a.take i := by rw [List.take_of_length_le (show a.length ≤ i + 1 by omega), List.take_of_length_le (show a.length ≤ i by omega)]
        have EA := Lib.hid ea
        have S1 := Lib.hid hha
        have S2 := Lib.hid hbel
        clear ea hha hbel hhb
        go_wp2_with fail
        refine hadd2.mono ?_
        rintro e w5 ⟨rfl, hh5, hg5⟩
        have hB5 := below_of_grown S2.out hg5 p3
        have hh5' := S1.out.grown hg5 (fun e => p7 (Option.some.inj e))
        have S3 := Lib.hid hh5
        have S4 := Lib.hid hh5'
        have S5 := Lib.hid hB5
        clear hadd2 hh5 hg5 hB5 hh5'
        go_wp2_with fail
        refine ⟨⟨i + 1, by go_num, by omega, by rw [EA.out]; exact S4.out, S3.out, S5.out⟩, ?_⟩
        simp [intOf]; omega
      · rw [List.take_of_length_le (show a.length ≤ i by omega)] at hha
        rw [List.take_of_length_le (show b.length ≤ i by omega)] at hhb
        have p8 : a.length ≤ 1152921504606846976 := by omega
        have p9 : b.length ≤ 1152921504606846976 := by omega
        have hsa := Sum_any g a wr (HT.out.below hbel (Nat.le_refl _)) p2 hha p8
        have S1 := Lib.hid hha
        have S2 := Lib.hid hhb
        have S3 := Lib.hid hbel
        clear hha hhb hbel
        go_wp2_with fail
        refine hsa.mono ?_
        rintro e w4 ⟨rfl, hb4⟩
        have hB4 := S3.out.trans (hb4.mono S3.out.size)
        have hhb4 := S2.out.below hb4
        have eqa := digest_same (shaWith KT I8 a) (shaOf_length _)
        have eqb := digest_same (shaWith KT I8 b) (shaOf_length _)
        have hoa := Of_any a_a a.length c_a a w4 (HT.out.below hB4 (Nat.le_refl _)) rfl (TA.out.below hB4) l_a m_a p8
        have hob := fun W hB => Of_any a_b b.length c_b b W (HT.out.below hB (Nat.le_refl _)) rfl (TB.out.below hB) l_b m_b p9
        have hsb := fun W hT hh => Sum_any g' b W hT p4 hh p9
        generalize (Lib.byteCells (shaWith KT I8 a)).toArray = A at eqa hoa ⊢
        generalize (Lib.byteCells (shaWith KT I8 b)).toArray = B at eqb hob hsb ⊢
        have Q1 := Lib.hid hhb4
        have Q2 := Lib.hid hB4
        have Q3 := Lib.hid hob
        have Q4 := Lib.hid hsb
        clear hsa hb4 hB4 hhb4 hob hsb
        go_wp2_with fail
        refine hoa.mono ?_
        rintro e w5 ⟨rfl, hb5⟩
        have hB5 := Q2.out.trans (hb5.mono Q2.out.size)
        have hhb5 := Q1.out.below hb5
        have Q5 := Lib.hid hB5
        have Q6 := Lib.hid hhb5
        clear hoa hb5 hB5 hhb5
        go_wp2_with fail
        refine (Q4.out _ (HT.out.below Q5.out (Nat.le_refl _)) Q6.out).mono ?_
        rintro e w6 ⟨rfl, hb6⟩
        have hB6 := Q5.out.trans (hb6.mono Q5.out.size)
        have Q7 := Lib.hid hB6
        clear hb6 hB6
        go_wp2_with fail
        refine (Q3.out _ Q7.out).mono ?_
        rintro e w7 ⟨rfl, hb7⟩
        have hB7 := Q7.out.trans (hb7.mono Q7.out.size)
        have Q8 := Lib.hid hB7
        clear hb7 hB7
        go_wp2_with fail
        go_ret
        exact ⟨rfl, Q8.out⟩

set_option maxRecDepth 100000 in
theorem lifted (os : Os) (started : os.Started) (H : Type) (enc : TypeId × Value → H) :
    ReturnsInHanded {} Tryd.checked os 7 .any (fun w args => (Rows.shaTwoSpec.pre enc Tryd.prog Tryd.f7 Rows.shaTwoRow.domain false w args ∧ laidMetH Tryd.prog LAID w) ∧ sizedMet enc Tryd.prog Tryd.f7 (OpenSpec.ofChange Rows.shaTwoSpec) false w args) (Rows.shaTwoSpec.post enc Tryd.prog Tryd.f7 false true false false) := by
  refine returnsInHanded_of_change_and (C := Tryd.checked) (X := fun w _ => laidMetH Tryd.prog LAID w) (fun _ _ _ hh h => h.of_heap hh) own started (by kernel_rfl) Tryd.func7
    (ChangeSpec.witness_shaped (enc := enc) (C := Tryd.checked) (os := os) (X := fun w _ => laidMetH Tryd.prog LAID w) false (World.laidAll Tryd.prog os LAID) #[.slice none 0 0, .slice none 0 0] 8 (World.laidAll_os _ _ _)
      (World.shaped_of_ZipB (by kernel_rfl) (by kernel_rfl)) (by kernel_rfl) (by kernel_rfl) (by kernel_rfl)
      (by rw [MakeChecks.laidMetH_plain _ _ _ (by kernel_rfl)]; exact laidMet_laidAll _ (by kernel_rfl) (by kernel_rfl))) ?_
  intro W base args ds gs before hval0 hW hcnd hsz0 hL _
  have hT : Tabs W := tab_of (by rw [MakeChecks.laidMetH_plain _ _ _ (by kernel_rfl)] at hL; exact hL)
  have hval : ∀ (j : Nat) t v, Tryd.f7.params[j]? = some t → args[j]? = some v → Value.okWide Tryd.prog W .any base t v := hval0
  have hW' := hW
  obtain ⟨p, q, hA0, hV, rfl, hfz, hnd⟩ := hW
  have hA : DataW.TrodAll enc Tryd.prog W 0 (fun _ => true) true Tryd.f7.params.toList args.toList ds p := hA0
  rw [Tryd.params7] at hA hval
  obtain ⟨v0, vs0, d0, ds0, p0, q0, hargs, rfl, rfl, h0, r0⟩ := trodAll_cons hA
  obtain ⟨v1, vs1, d1, ds1, p1, q1, rfl, rfl, rfl, h1, r1⟩ := trodAll_cons r0
  obtain ⟨rfl, rfl, rfl⟩ := trodAll_nil r1
  obtain rfl : args = #[v0, v1] := by cases args; simp_all
  obtain ⟨rfl, rfl⟩ := trodVars_none hV
  obtain ⟨a_a, len_a, c_a, rfl⟩ := okWide_slice Tryd.underlying26 (hval 0 26 v0 rfl rfl)
  have k0 := h0
  have lt0 : ∀ x ∈ p0, x.block < W.heap.size := by obtain ⟨m, hm⟩ := k0; exact DataW.trod_lt m _ _ _ hm
  obtain ⟨a, n_a, l_a, m_a, t_a⟩ : ∃ a : List UInt8, a.length = len_a ∧ a.length ≤ c_a ∧ c_a ≤ maxLen ∧ Txt W a_a a := by
    obtain ⟨fuel, hf⟩ := h0
    rcases open_ints Tryd.underlying26 Tryd.underlying5 (by kernel_rfl) hf with ⟨hcs, _⟩ | ⟨x, l, c, zs, hcs, _, hl, hm, hz, _, hcell, hwz⟩
    · simp [Value.cells] at hcs
      obtain ⟨rfl, rfl, rfl⟩ := hcs
      exact ⟨[], rfl, Nat.zero_le _, Nat.zero_le _, Txt.nil _ _⟩
    · simp [Value.cells] at hcs
      obtain ⟨rfl, rfl, rfl⟩ := hcs
      have hr := row_some (f := Value.int .u8) hl (by simpa using hz) hcell
      obtain ⟨r, hrl, hrt⟩ := txt_of_row hr.2 (fun n hn => hwz n (List.mem_of_mem_take hn))
      exact ⟨r, hrl.trans hr.1, by rw [hrl, hr.1]; exact hl, hm, hrt⟩
  subst n_a
  obtain ⟨a_b, len_b, c_b, rfl⟩ := okWide_slice Tryd.underlying26 (hval 1 26 v1 rfl rfl)
  have k1 := h1
  have lt1 : ∀ x ∈ p1, x.block < W.heap.size := by obtain ⟨m, hm⟩ := k1; exact DataW.trod_lt m _ _ _ hm
  obtain ⟨b, n_b, l_b, m_b, t_b⟩ : ∃ b : List UInt8, b.length = len_b ∧ b.length ≤ c_b ∧ c_b ≤ maxLen ∧ Txt W a_b b := by
    obtain ⟨fuel, hf⟩ := h1
    rcases open_ints Tryd.underlying26 Tryd.underlying5 (by kernel_rfl) hf with ⟨hcs, _⟩ | ⟨x, l, c, zs, hcs, _, hl, hm, hz, _, hcell, hwz⟩
    · simp [Value.cells] at hcs
      obtain ⟨rfl, rfl, rfl⟩ := hcs
      exact ⟨[], rfl, Nat.zero_le _, Nat.zero_le _, Txt.nil _ _⟩
    · simp [Value.cells] at hcs
      obtain ⟨rfl, rfl, rfl⟩ := hcs
      have hr := row_some (f := Value.int .u8) hl (by simpa using hz) hcell
      obtain ⟨r, hrl, hrt⟩ := txt_of_row hr.2 (fun n hn => hwz n (List.mem_of_mem_take hn))
      exact ⟨r, hrl.trans hr.1, by rw [hrl, hr.1]; exact hl, hm, hrt⟩
  subst n_b
  clear hA0 hval0
  refine (walk a_a c_a a a_b c_b b W hT l_a m_a t_a l_b m_b t_b).mono fun e W' ⟨he, bel⟩ => ?_
  subst he
  exact ⟨_, rfl, _, _, _, [], _, [], hW', trodAll_mk1 (shut_bool Tryd.underlying4 _), (trodAll_cons_mk (Below.trod laidOut (by kernel_rfl) (of_decide_eq_true (by kernel_rfl)) k0 bel lt0) (trodAll_cons_mk (Below.trod laidOut (by kernel_rfl) (of_decide_eq_true (by kernel_rfl)) k1 bel lt1) trodAll_mk0)), rfl, bel.frame _, fun h => by cases h⟩

theorem over : Rows.shaTwoRow.holds Tryd.pinned (OpenSpec.ofChange Rows.shaTwoSpec) :=
  OpenClaim.holds_of_wide 7 Tryd.f7 rfl rfl rfl rfl rfl rfl rfl ⟨rfl, rfl, rfl, rfl, rfl⟩ rfl rfl rfl rfl rfl (by kernel_rfl) Tryd.func7 (by kernel_rfl)
    (of_decide_eq_true (by kernel_rfl)) (by unfold Func.isWrapper; first | (rw [if_pos (by decide +kernel)]; kernel_rfl) | (rw [if_neg (by decide +kernel)]; exact ⟨rfl, rfl⟩))
    (fun os started H enc _ => lifted os started H enc)

set_option maxRecDepth 100000 in
theorem proved : Rows.ShaTwoCardSaid :=
  Claim7.holds_tied_plain_at .later [] [.data, .data] true Rows.shaTwoCard.stood.harness false over (fun _ h => by cases h) (by kernel_rfl) (fun _ h => by cases h) shaTwo_row_tie rfl ⟨rfl, rfl⟩ (by kernel_rfl) rfl
    (fun f fn hf hfn => by
      obtain rfl : f = 7 := Option.some.inj ((show Tryd.prog.funcNamed "escapement/escapementlaw3.ShaTwo" = some 7 by kernel_rfl).symm.trans hf) |>.symm
      obtain rfl : fn = Tryd.f7 := (Option.some.inj (Tryd.func7.symm.trans hfn)).symm
      exact ⟨by kernel_rfl, fun j t ht => by
        rw [Tryd.params7] at ht
        have hm : t ∈ ([26, 26] : List TypeId) := by simpa using Array.mem_of_getElem? ht
        have hall : (([26, 26] : List TypeId).all fun u => !Tryd.prog.wantsStandIn u) = true := by kernel_rfl
        exact (show Tryd.prog.wantsStandIn t = false by simpa using List.all_eq_true.1 hall t hm)⟩)
    (by kernel_rfl)
#print axioms proved
end Go.Proofs.YtieljmmhckijcaaDoor.shaTwo
