/-
  Proved: ShaParts of escapementlaw3 returns true for every input, and leaves what it was handed as it was. No conditions.
-/
import Derived.Test.YtieljmmhckijcaaDoorRows
import Derived.Test.YtieljmmhckijcaaDoorArg
import Derived.Test.YtieljmmhckijcaaDoorHaw
import Derived.Test.YtieljmmhckijcaaDoorTro
import Derived.Test.YtieljmmhckijcaaDoorApp
import Derived.WalkKit
import Derived.ProofKit
import Derived.OpenShut
import Derived.ShutString
import Derived.ChangeOld
import Derived.SizedLaws
import Derived.Test.YtieljmmhckijcaaDoorHof
import Derived.Test.YtieljmmhckijcaaDoorTie
import Derived.Test.YtieljmmhckijcaaDoorCards
import Derived.LaidMore
import Derived.Lay
import Derived.SevenTiedAt
import Derived.Stop.Joined
namespace Go.Proofs.YtieljmmhckijcaaDoor.shaParts
open Go.ChangeShapes Go.WideShapes Go.ChangeAt Go.RowKit
open Go.ChangeMaps (open_string shut_string)
set_option linter.unusedVariables false

theorem own : ownKnob Tryd.prog.godebug = none := by kernel_rfl
theorem laidOut : laidOutB Tryd.prog = true := by kernel_rfl

/-- What was added so far. -/
def cat (l : List (List UInt8)) (i : Nat) : List UInt8 := (l.take i).flatten
theorem cat_succ (l : List (List UInt8)) (i : Nat) (h : i < l.length) : cat l (i + 1) = cat l i ++ l[i] := by
  unfold cat
  rw [List.take_succ_eq_append_getElem h, List.flatten_append]
  simp
theorem digest_diff (x : List UInt8) (hx : x.length = 32) : ∀ W : World, (binOp .neq 24 (.agg (Lib.byteCells x).toArray) (.agg (Lib.byteCells x).toArray)).run Tryd.prog W = .ok (.bool false) W := fun W => by
  rw [run_ne_digest x x hx hx W]; simp

/-- A row of bytes as a slice. -/
theorem own_form {w : World} {base : Nat} {v : Value} {L : List UInt8} (h : w.ownsRow base 5 1 v L.length (Lib.byteCells L)) : ∃ a c, v = .slice a L.length c ∧ Txt w a L ∧ L.length ≤ c ∧ c ≤ maxLen := by
  rcases h.2 with ⟨rfl, h0⟩ | ⟨g, cap, cur, rfl, _, _, hnc, hcm, _⟩
  · obtain rfl : L = [] := List.eq_nil_of_length_eq_zero h0
    exact ⟨none, 0, rfl, Txt.nil _ _, Nat.le_refl _, Nat.zero_le _⟩
  · exact ⟨_, cap, rfl, (Txt.of_own h).1, hnc, hcm⟩

set_option maxHeartbeats 8000000 in
set_option maxRecDepth 100000 in
theorem walk (a_l : Option Addr) (c_l : Nat) (l : List (List UInt8)) (ask : Int) (w : World) (hT : Tabs w) (l_l : l.length ≤ c_l) (m_l : c_l ≤ maxLen) (t_l : TRow w a_l l) (w_ask : (Lit.int .i64 ask).wf = true) :
    Calls Tryd.prog 5 #[.slice a_l l.length c_l, .int .i64 ask] w fun e w' => e = .returned (.bool true) ∧ Below w.heap.size w w' := by
  have HT := Lib.hid hT
  have hlt := hT.lt
  obtain ⟨i0, hi0, hz0, hz1, hz2⟩ := info_parts info_byte
  have ha64 := i64_wf w_ask
  clear hT w_ask
  go_enter Tryd.func5, Tryd.ntmps5
  go_wp2_with fail
  refine (awake_any w HT.out).mono ?_
  rintro e w1 ⟨rfl, hb1⟩
  by_cases c1 : 12 < l.length
  · go_wp2_with fail
    go_ret
    exact ⟨rfl, hb1⟩
  have hn1 := New_held w1 (HT.out.below hb1 (Nat.le_refl _))
  have hs1 := hb1.size
  obtain ⟨g, hg⟩ : ∃ g, g = w1.heap.size := ⟨_, rfl⟩
  have hb1' : ∀ w', Below w1.heap.size w1 w' → Below w.heap.size w w' := fun w' h => hb1.trans (h.mono hb1.size)
  rw [← hg] at hn1 hs1 hb1'
  clear hg hb1
  go_wp2_with fail
  refine hn1.mono ?_
  rintro e w2 ⟨rfl, hh2, hb2⟩
  have hB2 := hb1' _ hb2
  have hl2 := hh2.lt
  have R1 := Lib.hid hh2
  have R3 := Lib.hid hB2
  have TL := Lib.hid t_l
  have p1 : 2 ≤ g := by omega
  have p2 : g + 1 ≤ w2.heap.size := hl2
  clear hn1 hb1' hh2 hb2 hB2 t_l hl2
  go_wp2_with fail
  go_loopw [6, 7] (fun vb vi wr => ∃ (V : Value) (i : Nat), V = vb ∧ vi = .int .i64 i ∧ i ≤ l.length ∧ (cat l i).length ≤ 300 * i ∧ Held wr g (cat l i) ∧ wr.ownsRow (g + 1) 5 1 V (cat l i).length (Lib.byteCells (cat l i)) ∧ Below w.heap.size w wr ∧ g + 1 ≤ wr.heap.size)
    (fun _ vi _ => l.length - (intOf vi).toNat)
  case atStart => exact ⟨_, 0, rfl, rfl, Nat.zero_le _, Nat.zero_le _, R1.out, ⟨rfl, .inl ⟨rfl, rfl⟩⟩, R3.out, p2⟩
  case round =>
    obtain ⟨V, i, hV, rfl, hi, hcl, hh, hown, hbel, hgs⟩ := hrel
    subst hV
    clear R1 R3 p2
    have q1 : l.length ≤ 12 := by omega
    have q2 : (cat l i).length ≤ 3600 := by omega
    by_cases ci : i < l.length
    · obtain ⟨bb, o, rfl, hblt, hcell⟩ := TL.out (fun e => absurd ci (by rw [e]; simp))
      obtain ⟨a1, c1', hc1, ht1, hl1, hm1⟩ := hcell i ci
      have hcr : wr.cell? ⟨bb, o + i, none⟩ = some (.slice a1 l[i].length c1') := (hbel.cell (p := ⟨bb, o + i, none⟩) hblt).trans hc1
      have hsucc := cat_succ l i ci
      have hc1' := hc1
      have HC1 := Lib.hid hc1'
      clear hc1'
      obtain ⟨x, hx⟩ : ∃ x, x = l[i] := ⟨_, rfl⟩
      rw [← hx] at hcr ht1 hl1 hsucc
      by_cases cx : 300 < x.length
      · have HB := Lib.hid hbel
        clear hbel hh hown hsucc ht1 hx hc1
        go_wp2_with fail
        go_ret
        exact ⟨rfl, HB.out⟩
      have htr := ht1.below hbel
      have hne1 : ∀ b' o', a1 = some ⟨b', o', none⟩ → x ≠ [] → b' < w.heap.size := fun b' o' e hne => by
        obtain ⟨b2, o2, e2, hlt2, _⟩ := ht1 hne
        rw [e] at e2
        simp only [Option.some.injEq, Addr.mk.injEq, and_true] at e2
        omega
      have hadd := Add_any g c1' (cat l i) x a1 wr (HT.out.below hbel (Nat.le_refl _)) p1 hh htr (fun b' o' e hne => by have := hne1 b' o' e hne; omega) hl1 hm1 (by omega)
      rw [← hsucc] at hadd
      have S1 := Lib.hid hbel
      have S2 := Lib.hid hown
      have S3 := Lib.hid htr
      have S4 := Lib.hid hsucc
      have S5 := Lib.hid ht1
      have S6 := Lib.hid hx
      have HNE := Lib.hid hne1
      clear hbel hown htr hsucc ht1 hx hh hc1 hne1
      go_wp2_with fail
      refine hadd.mono ?_
      rintro e w4 ⟨rfl, hh4, hg4⟩
      have hB4 := below_of_grown S1.out hg4 hs1
      have hown4 := S2.out.kept hg4 (by
        cases hv : V.ownBlock with
        | none => exact .inl rfl
        | some k => exact .inr (fun e => by injection e with e; have := (S2.out.lt k hv).1; omega))
      have hcr4 : w4.cell? ⟨bb, o + i, none⟩ = some (.slice a1 x.length c1') := (hB4.cell (p := ⟨bb, o + i, none⟩) hblt).trans (by rw [S6.out]; exact HC1.out)
      have htr4 := S3.out.grown hg4 (fun b' o' e hne => Nat.ne_of_lt (Nat.lt_of_lt_of_le (HNE.out b' o' e hne) hs1))
      have hgs4 : g + 1 ≤ w4.heap.size := Nat.le_trans hgs hg4.size
      have hle : (cat l i).length + x.length ≤ 140737488355328 := by omega
      have S7 := Lib.hid hB4
      have S8 := Lib.hid hh4
      clear hg4 hB4 hh4 hadd
      go_wp2_with (at_builtin; refine wpList_append_txt _ rfl (.tmp 32) (.tmp 36) 26 rfl (g + 1) 5 i0 Tryd.underlying26 hi0 hz0 hz1 hz2 _ (cat l i).length (Lib.byteCells (cat l i)) rfl hown4 a1 c1' x rfl htr4 hle hgs4 ?_)
      intro v5 w5 hown5 hg5
      have hcat : (cat l (i + 1)).length = (cat l i).length + x.length := by rw [S4.out, List.length_append]
      rw [← Lib.byteCells_append, ← S4.out, ← hcat] at hown5
      have hcl5 : (cat l (i + 1)).length ≤ 300 * (i + 1) := by omega
      have hl5 : (cat l (i + 1)).length ≤ 1152921504606846976 := by omega
      have hB5 : Below w.heap.size w w5 := S7.out.grown hg5 S7.out.size (fun k hk => by have := (hown4.lt k hk).1; omega)
      have hh5 := S8.out.grown hg5 (fun e => by have := (hown4.lt g e.symm).1; omega)
      have hgs5 : g + 1 ≤ w5.heap.size := Nat.le_trans hgs4 hg5.size
      obtain ⟨a5, c5, rfl, t5, hc5, hm5⟩ := own_form hown5
      have T1 := Lib.hid hown5
      have T2 := Lib.hid hB5
      have T3 := Lib.hid hh5
      have T4 := Lib.hid t5
      have T5 := Lib.hid hcl5
      clear hown5 hg5 hB5 hh5 t5 hcl5 hown4 htr4 hle hgs4 hcr hcr4 hcat hcell
      have hend : i + 1 ≤ l.length := by omega
      have hnd := digest_diff (shaWith KT I8 (cat l (i + 1))) (shaOf_length _)
      have hsum := Sum_any g (cat l (i + 1)) w5 (HT.out.below T2.out (Nat.le_refl _)) p1 T3.out hl5
      have hof := fun W hB ht => Of_any a5 (cat l (i + 1)).length c5 (cat l (i + 1)) W (HT.out.below hB (Nat.le_refl _)) rfl ht hc5 hm5 hl5
      generalize (Lib.byteCells (shaWith KT I8 (cat l (i + 1)))).toArray = A at hnd hsum hof
      have T6 := Lib.hid hsum
      have T7 := Lib.hid hof
      clear hsum hof hl5
      go_wp2_with fail
      · refine ⟨⟨_, i + 1, rfl, by go_num, hend, T5.out, T3.out, T1.out, T2.out, hgs5⟩, ?_⟩
        simp [intOf]; omega
      · refine T6.out.mono ?_
        rintro e w6 ⟨rfl, hb6⟩
        have hB6 := T2.out.trans (hb6.mono T2.out.size)
        have ht6 := T4.out.below hb6
        have hh6 := T3.out.below hb6
        have ho6 := own_below T1.out hb6
        have hg6 : g + 1 ≤ w6.heap.size := Nat.le_trans hgs5 hb6.size
        have hof6 := T7.out w6 hB6 ht6
        have U1 := Lib.hid hB6
        have U2 := Lib.hid hh6
        have U3 := Lib.hid ho6
        clear hb6 hB6 ht6 hh6 ho6
        go_wp2_with fail
        refine hof6.mono ?_
        rintro e w7 ⟨rfl, hb7⟩
        have hB7 := U1.out.trans (hb7.mono U1.out.size)
        have hh7 := U2.out.below hb7
        have ho7 := own_below U3.out hb7
        have hg7 : g + 1 ≤ w7.heap.size := Nat.le_trans hg6 hb7.size
        have V1 := Lib.hid hB7
        have V2 := Lib.hid hh7
        have V3 := Lib.hid ho7
        clear hb7 hB7 hh7 ho7 hof6
        go_wp2_with fail
        refine ⟨⟨_, i + 1, rfl, by go_num, hend, T5.out, V2.out, V3.out, V1.out, hg7⟩, ?_⟩
        simp [intOf]; omega
    · obtain ⟨a5, c5, rfl, t5, hc5, hm5⟩ := own_form hown
      have hl5 : (cat l i).length ≤ 1152921504606846976 := by omega
      have hsum := fun W hB hh => Sum_any g (cat l i) W (HT.out.below hB (Nat.le_refl _)) p1 hh hl5
      have hof := fun W hB ht => Of_any a5 (cat l i).length c5 (cat l i) W (HT.out.below hB (Nat.le_refl _)) rfl ht hc5 hm5 hl5
      have heq := digest_same (shaWith KT I8 (cat l i)) (shaOf_length _)
      generalize (Lib.byteCells (shaWith KT I8 (cat l i))).toArray = A at heq hsum hof
      have T1 := Lib.hid hbel
      have T2 := Lib.hid hh
      have T3 := Lib.hid t5
      have T6 := Lib.hid hsum
      have T7 := Lib.hid hof
      clear hbel hh t5 hsum hof hown hcl q2 hl5
      go_wp2_with fail
      refine (T6.out _ T1.out T2.out).mono ?_
      rintro e w6 ⟨rfl, hb6⟩
      have hB6 := T1.out.trans (hb6.mono T1.out.size)
      have ht6 := T3.out.below hb6
      have hh6 := T2.out.below hb6
      have hof6 := T7.out w6 hB6 ht6
      have U1 := Lib.hid hB6
      have U2 := Lib.hid hh6
      have U3 := Lib.hid ht6
      clear hb6 hB6 ht6 hh6
      go_wp2_with fail
      refine hof6.mono ?_
      rintro e w7 ⟨rfl, hb7⟩
      have hB7 := U1.out.trans (hb7.mono U1.out.size)
      have hh7 := U2.out.below hb7
      have ht7 := U3.out.below hb7
      have hsum7 := T6.out w7 hB7 hh7
      have V1 := Lib.hid hB7
      have V3 := Lib.hid ht7
      clear hb7 hB7 hh7 ht7 hof6
      go_wp2_with fail
      refine hsum7.mono ?_
      rintro e w8 ⟨rfl, hb8⟩
      have hB8 := V1.out.trans (hb8.mono V1.out.size)
      have ht8 := V3.out.below hb8
      have hof8 := T7.out w8 hB8 ht8
      have W1 := Lib.hid hB8
      clear hb8 hB8 ht8 hsum7
      go_wp2_with fail
      refine hof8.mono ?_
      rintro e w9 ⟨rfl, hb9⟩
      have hB9 := W1.out.trans (hb9.mono W1.out.size)
      have X1 := Lib.hid hB9
      clear hb9 hB9 hof8
      go_wp2_with fail
      go_ret
      exact ⟨rfl, X1.out⟩

set_option maxRecDepth 100000 in
theorem lifted (os : Os) (started : os.Started) (H : Type) (enc : TypeId × Value → H) :
    ReturnsInHanded {} Tryd.checked os 5 .any (fun w args => (Rows.shaPartsSpec.pre enc Tryd.prog Tryd.f5 Rows.shaPartsRow.domain false w args ∧ laidMetH Tryd.prog LAID w) ∧ sizedMet enc Tryd.prog Tryd.f5 (OpenSpec.ofChange Rows.shaPartsSpec) false w args) (Rows.shaPartsSpec.post enc Tryd.prog Tryd.f5 false true false false) := by
  refine returnsInHanded_of_change_and (C := Tryd.checked) (X := fun w _ => laidMetH Tryd.prog LAID w) (fun _ _ _ hh h => h.of_heap hh) own started (by kernel_rfl) Tryd.func5
    (ChangeSpec.witness_shaped (enc := enc) (C := Tryd.checked) (os := os) (X := fun w _ => laidMetH Tryd.prog LAID w) false (World.laidAll Tryd.prog os LAID) #[.slice none 0 0, .int .i64 0] 8 (World.laidAll_os _ _ _)
      (World.shaped_of_ZipB (by kernel_rfl) (by kernel_rfl)) (by kernel_rfl) (by kernel_rfl) (by kernel_rfl)
      (by rw [MakeChecks.laidMetH_plain _ _ _ (by kernel_rfl)]; exact laidMet_laidAll _ (by kernel_rfl) (by kernel_rfl))) ?_
  intro W base args ds gs before hval0 hW hcnd hsz0 hL _
  have hT : Tabs W := tab_of (by rw [MakeChecks.laidMetH_plain _ _ _ (by kernel_rfl)] at hL; exact hL)
  have hval : ∀ (j : Nat) t v, Tryd.f5.params[j]? = some t → args[j]? = some v → Value.okWide Tryd.prog W .any base t v := hval0
  have hW' := hW
  obtain ⟨p, q, hA0, hV, rfl, hfz, hnd⟩ := hW
  have hA : DataW.TrodAll enc Tryd.prog W 0 (fun _ => true) true Tryd.f5.params.toList args.toList ds p := hA0
  rw [Tryd.params5] at hA hval
  obtain ⟨v0, vs0, d0, ds0, p0, q0, hargs, rfl, rfl, h0, r0⟩ := trodAll_cons hA
  obtain ⟨v1, vs1, d1, ds1, p1, q1, rfl, rfl, rfl, h1, r1⟩ := trodAll_cons r0
  obtain ⟨rfl, rfl, rfl⟩ := trodAll_nil r1
  obtain rfl : args = #[v0, v1] := by cases args; simp_all
  obtain ⟨rfl, rfl⟩ := trodVars_none hV
  obtain ⟨a_l, len_l, c_l, rfl⟩ := okWide_slice Tryd.underlying28 (hval 0 28 v0 rfl rfl)
  have k0 := h0
  have lt0 : ∀ x ∈ p0, x.block < W.heap.size := by obtain ⟨m, hm⟩ := k0; exact DataW.trod_lt m _ _ _ hm
  obtain ⟨l, n_l, l_l, m_l, t_l⟩ : ∃ l : List (List UInt8), l.length = len_l ∧ l.length ≤ c_l ∧ c_l ≤ maxLen ∧ TRow W a_l l := by
    obtain ⟨fuel, hf⟩ := h0
    exact open_texts Tryd.underlying28 Tryd.underlying26 Tryd.underlying5 (by kernel_rfl) (by kernel_rfl) hf
  subst n_l
  obtain ⟨ask, rfl, rfl, rfl, w_ask⟩ := open_int Tryd.underlying3 (hval 1 3 v1 rfl rfl) h1
  clear hA0 hval0
  refine (walk a_l c_l l ask W hT l_l m_l t_l w_ask).mono fun e W' ⟨he, bel⟩ => ?_
  subst he
  exact ⟨_, rfl, _, _, _, [], _, [], hW', trodAll_mk1 (shut_bool Tryd.underlying4 _), (trodAll_cons_mk (Below.trod laidOut (by kernel_rfl) (of_decide_eq_true (by kernel_rfl)) k0 bel lt0) (trodAll_cons_mk (shut_int Tryd.underlying3 w_ask) trodAll_mk0)), rfl, bel.frame _, fun h => by cases h⟩

theorem over : Rows.shaPartsRow.holds Tryd.pinned (OpenSpec.ofChange Rows.shaPartsSpec) :=
  OpenClaim.holds_of_wide 5 Tryd.f5 rfl rfl rfl rfl rfl rfl rfl ⟨rfl, rfl, rfl, rfl, rfl⟩ rfl rfl rfl rfl rfl (by kernel_rfl) Tryd.func5 (by kernel_rfl)
    (of_decide_eq_true (by kernel_rfl)) (by unfold Func.isWrapper; first | (rw [if_pos (by decide +kernel)]; kernel_rfl) | (rw [if_neg (by decide +kernel)]; exact ⟨rfl, rfl⟩))
    (fun os started H enc _ => lifted os started H enc)

set_option maxRecDepth 100000 in
theorem proved : Rows.ShaPartsCardSaid :=
  Claim7.holds_tied_plain_at .later [] [.data, .data] true Rows.shaPartsCard.stood.harness false over (fun _ h => by cases h) (by kernel_rfl) (fun _ h => by cases h) shaParts_row_tie rfl ⟨rfl, rfl⟩ (by kernel_rfl) rfl
    (fun f fn hf hfn => by
      obtain rfl : f = 5 := Option.some.inj ((show Tryd.prog.funcNamed "escapement/escapementlaw3.ShaParts" = some 5 by kernel_rfl).symm.trans hf) |>.symm
      obtain rfl : fn = Tryd.f5 := (Option.some.inj (Tryd.func5.symm.trans hfn)).symm
      exact ⟨by kernel_rfl, fun j t ht => by
        rw [Tryd.params5] at ht
        have hm : t ∈ ([28, 3] : List TypeId) := by simpa using Array.mem_of_getElem? ht
        have hall : (([28, 3] : List TypeId).all fun u => !Tryd.prog.wantsStandIn u) = true := by kernel_rfl
        exact (show Tryd.prog.wantsStandIn t = false by simpa using List.all_eq_true.1 hall t hm)⟩)
    (by kernel_rfl)
#print axioms proved
end Go.Proofs.YtieljmmhckijcaaDoor.shaParts
