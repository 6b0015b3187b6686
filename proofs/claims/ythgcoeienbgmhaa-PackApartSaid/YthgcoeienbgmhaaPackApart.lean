/-
  Proved: PackApart of escapementlaw1 returns true for every input, and leaves what it was handed as it was. No conditions.
-/
import Derived.Test.YthgcoeienbgmhaaRows
import Derived.Test.YthgcoeienbgmhaaArg
import Derived.Test.YthgcoeienbgmhaaAwk
import Derived.Deep.QuietTactic
import Derived.BigQuiet
import Derived.WalkKit
import Derived.ProofKit
import Derived.OpenShut
import Derived.ShutString
import Derived.ChangeOld
import Derived.SizedLaws
namespace Go.Proofs.Ythgcoeienbgmhaa.packApart
open Go.ChangeShapes Go.WideShapes Go.ChangeAt Go.RowKit
open Go.ChangeMaps (open_string shut_string)
set_option linter.unusedVariables false

theorem own : ownKnob Try.prog.godebug = none := by kernel_rfl
theorem laidOut : laidOutB Try.prog = true := by kernel_rfl

theorem txt_take {w : World} {x : Option Addr} {l : List UInt8} (h : Txt w x l) (n : Nat) : Txt w x (l.take n) := fun hne => by
  obtain ⟨b, o, e, h1, h2⟩ := h (by rintro rfl; simp at hne)
  refine ⟨b, o, e, h1, fun i hi => ?_⟩
  rw [List.length_take] at hi
  rw [h2 i (by omega), List.getElem_take]

theorem take_apart {a b : Nat} (ha : a < 18446744073709551616) (hb : b < 18446744073709551616) (hne : a ≠ b) (n : Nat) (hn : n = (Lib.uvarint a).length ∨ n = (Lib.uvarint b).length) :
    (Lib.uvarint a).take n ≠ (Lib.uvarint b).take n := by
  intro h
  rcases hn with rfl | rfl
  · rw [List.take_length] at h
    exact hne (uvarint_prefix ha hb (r := (Lib.uvarint b).drop (Lib.uvarint a).length) (by conv => lhs; rw [← List.take_append_drop (Lib.uvarint a).length (Lib.uvarint b), ← h]))
  · rw [List.take_length] at h
    exact hne (uvarint_prefix hb ha (r := (Lib.uvarint a).drop (Lib.uvarint b).length) (by conv => lhs; rw [← List.take_append_drop (Lib.uvarint b).length (Lib.uvarint a), h])).symm

theorem below_drewN {B : Nat} {a w : World} (h : Below B a w) (n : Nat) : Below B a (w.drewN n) := ⟨h.os, h.tape, h.output, h.size, h.block⟩

set_option maxHeartbeats 2000000 in
theorem walk (a : Int) (b : Int) (w : World) (w_a : (Lit.int .u64 a).wf = true) (w_b : (Lit.int .u64 b).wf = true) :
    Calls Try.prog 7 #[.int .u64 a, .int .u64 b] w fun e w' => e = .returned (.bool true) ∧ Below w.heap.size w w' := by
  obtain ⟨a0, a1⟩ := u64_wf w_a
  obtain ⟨b0, b1⟩ := u64_wf w_b
  clear w_a w_b
  obtain ⟨a, rfl⟩ := Int.eq_ofNat_of_zero_le a0
  obtain ⟨b, rfl⟩ := Int.eq_ofNat_of_zero_le b0
  have ha : a < 18446744073709551616 := by omega
  have hb : b < 18446744073709551616 := by omega
  clear a0 a1 b0 b1
  go_enter Try.func7, Try.ntmps7
  go_wp2_with fail
  refine (awake_any w).mono ?_
  rintro e w1 ⟨rfl, hb1⟩
  go_wp2_with fail
  refine (U_nil a w1 ha).mono ?_
  rintro e w2 ⟨a2, c2, rfl, t2, l2, m2, hb2⟩
  have hB2 := hb1.trans (hb2.mono hb1.size)
  clear hb1 hb2
  go_wp2_with fail
  refine (U_nil b w2 hb).mono ?_
  rintro e w3 ⟨a3, c3, rfl, t3, l3, m3, hb3⟩
  have hB3 := hB2.trans (hb3.mono hB2.size)
  have t2' := t2.below hb3
  clear hB2 hb3 t2
  by_cases hab : a = b
  · subst hab
    have k2 := run_string (P := Try.prog) w3 25 5 9 Try.underlying25 Try.underlying5 Try.underlying9 a2 (Lib.uvarint a) c2 t2'
    have k3 := run_string (P := Try.prog) w3 25 5 9 Try.underlying25 Try.underlying5 Try.underlying9 a3 (Lib.uvarint a) c3 t3
    go_wp2_with fail
    go_ret
    exact ⟨rfl, hB3⟩
  · have tab : ((a : Int) == (b : Int)) = false := by simp; omega
    have pa := Lib.uvarint_pos a
    have pb := Lib.uvarint_pos b
    have la10 := Lib.uvarint_length64 ha
    have lb10 := Lib.uvarint_length64 hb
    have hmono := uvarint_mono b a
    have hap := take_apart ha hb hab
    obtain ⟨ba, oa, rfl, _, _⟩ := t2' (uvarint_ne_nil a)
    obtain ⟨bb, ob, rfl, _, _⟩ := t3 (uvarint_ne_nil b)
    by_cases hlt : (Lib.uvarint b).length < (Lib.uvarint a).length
    · have hgt : b < a := by
        rcases Nat.lt_or_ge b a with h | h
        · exact h
        · have := hmono h; omega
      have hne : (Lib.uvarint a).take (Lib.uvarint b).length ≠ Lib.uvarint b := by have := hap (Lib.uvarint b).length (.inr rfl); rwa [List.take_length] at this
      have hab' : (a == b) = false := by simp; omega
      have k2 := fun n => run_stringN (P := Try.prog) w3 25 5 9 Try.underlying25 Try.underlying5 Try.underlying9 _ _ c2 (txt_take t2' (Lib.uvarint b).length) n
      have k3 := fun n => run_stringN (P := Try.prog) w3 25 5 9 Try.underlying25 Try.underlying5 Try.underlying9 _ (Lib.uvarint b) c3 t3 n
      simp only [List.length_take, Nat.min_eq_left (Nat.le_of_lt hlt)] at k2
      clear hap hmono t2' t3 tab
      have i2 : ((Lib.uvarint b).length : Int) ≤ (c2 : Int) := by omega
      have i3 : ((Lib.uvarint b).length : Int) ≤ (c3 : Int) := by omega
      have n2 : ¬ c2 = 0 := by omega
      have n3 : ¬ c3 = 0 := by omega
      have hbe : ((Lib.uvarint a).take (Lib.uvarint b).length == Lib.uvarint b) = false := by simpa using hne
      clear hne
      go_wp2_with fail
      go_quiet (fail)
      go_wp2
      go_ret
      exact ⟨rfl, below_drewN hB3 _⟩
    · have k2 := fun n => run_stringN (P := Try.prog) w3 25 5 9 Try.underlying25 Try.underlying5 Try.underlying9 _ (Lib.uvarint a) c2 t2' n
      have k3 := fun n => run_stringN (P := Try.prog) w3 25 5 9 Try.underlying25 Try.underlying5 Try.underlying9 _ _ c3 (txt_take t3 (Lib.uvarint a).length) n
      simp only [List.length_take, Nat.min_eq_left (Nat.le_of_not_lt hlt)] at k3
      have hne : Lib.uvarint a ≠ (Lib.uvarint b).take (Lib.uvarint a).length := by have := hap (Lib.uvarint a).length (.inl rfl); rwa [List.take_length] at this
      have hab' : (a == b) = false := by simp; omega
      clear hap hmono t2' t3 tab
      have i2 : ((Lib.uvarint a).length : Int) ≤ (c2 : Int) := by omega
      have i3 : ((Lib.uvarint a).length : Int) ≤ (c3 : Int) := by omega
      have n2 : ¬ c2 = 0 := by omega
      have n3 : ¬ c3 = 0 := by omega
      have hbe : (Lib.uvarint a == (Lib.uvarint b).take (Lib.uvarint a).length) = false := by simpa using hne
      clear hne
      by_cases hgt : b < a
      · go_wp2_with fail
        go_quiet (fail)
        go_wp2
        go_ret
        exact ⟨rfl, below_drewN hB3 _⟩
      · have hdec : decide ((b : Int) < (a : Int)) = false := by simp; omega
        have hle : ((Lib.uvarint a).length : Int) ≤ ((Lib.uvarint b).length : Int) := by omega
        go_wp2_with fail
        go_quiet (fail)
        go_wp2
        go_ret
        exact ⟨rfl, below_drewN hB3 _⟩

set_option maxRecDepth 100000 in
theorem lifted (os : Os) (started : os.Started) (H : Type) (enc : TypeId × Value → H) :
    ReturnsInHanded {} Try.checked os 7 .any (Rows.packApartSpec.pre6 enc Try.prog Try.f7 Rows.packApartRow.domain false) (Rows.packApartSpec.post enc Try.prog Try.f7 false true false false) := by
  refine returnsInHanded_of_change (C := Try.checked) own started (by kernel_rfl) Try.func7
    (ChangeSpec.witness6 (enc := enc) (C := Try.checked) false ⟨#[], #[.int .u64 0, .int .u64 0], []⟩ 8 (by kernel_rfl) (by kernel_rfl) (by kernel_rfl) (by kernel_rfl)) ?_
  intro W base args ds gs before hval0 hW hcnd _
  have hval : ∀ (j : Nat) t v, Try.f7.params[j]? = some t → args[j]? = some v → Value.okWide Try.prog W .any base t v := hval0
  have hW' := hW
  obtain ⟨p, q, hA0, hV, rfl, hfz, hnd⟩ := hW
  have hA : DataW.TrodAll enc Try.prog W 0 (fun _ => true) true Try.f7.params.toList args.toList ds p := hA0
  rw [Try.params7] at hA hval
  obtain ⟨v0, vs0, d0, ds0, p0, q0, hargs, rfl, rfl, h0, r0⟩ := trodAll_cons hA
  obtain ⟨v1, vs1, d1, ds1, p1, q1, rfl, rfl, rfl, h1, r1⟩ := trodAll_cons r0
  obtain ⟨rfl, rfl, rfl⟩ := trodAll_nil r1
  obtain rfl : args = #[v0, v1] := by cases args; simp_all
  obtain ⟨rfl, rfl⟩ := trodVars_none hV
  obtain ⟨a, rfl, rfl, rfl, w_a⟩ := open_int Try.underlying26 (hval 0 26 v0 rfl rfl) h0
  obtain ⟨b, rfl, rfl, rfl, w_b⟩ := open_int Try.underlying26 (hval 1 26 v1 rfl rfl) h1
  clear hA0 hval0
  refine (walk a b W w_a w_b).mono fun e W' ⟨he, bel⟩ => ?_
  subst he
  exact ⟨_, rfl, _, _, _, [], _, [], hW', trodAll_mk1 (shut_bool Try.underlying4 _), (trodAll_cons_mk (shut_int Try.underlying26 w_a) (trodAll_cons_mk (shut_int Try.underlying26 w_b) trodAll_mk0)), rfl, bel.frame _, fun h => by cases h⟩

theorem over : Rows.packApartRow.holds Try.pinned (OpenSpec.ofChange Rows.packApartSpec) :=
  OpenClaim.holds_of_wide 7 Try.f7 rfl rfl rfl rfl rfl rfl rfl ⟨rfl, rfl, rfl, rfl, rfl⟩ rfl rfl rfl rfl rfl (by kernel_rfl) Try.func7 (by kernel_rfl)
    (of_decide_eq_true (by kernel_rfl)) (by unfold Func.isWrapper; first | (rw [if_pos (by decide +kernel)]; kernel_rfl) | (rw [if_neg (by decide +kernel)]; exact ⟨rfl, rfl⟩))
    (fun os started H enc _ => lifted os started H enc)

theorem proved : Rows.PackApartSaid := over
#print axioms proved
end Go.Proofs.Ythgcoeienbgmhaa.packApart
