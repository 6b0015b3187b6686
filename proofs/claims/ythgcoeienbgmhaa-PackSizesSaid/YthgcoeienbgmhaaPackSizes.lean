/-
  Proved: PackSizes of escapementlaw1 returns true for every input, and leaves what it was handed as it was. No conditions.
-/
import Derived.Test.YthgcoeienbgmhaaRows
import Derived.Test.YthgcoeienbgmhaaArg
import Derived.Test.YthgcoeienbgmhaaAwk
import Derived.WalkKit
import Derived.ProofKit
import Derived.OpenShut
import Derived.ShutString
import Derived.ChangeOld
import Derived.SizedLaws
namespace Go.Proofs.Ythgcoeienbgmhaa.packSizes
open Go.ChangeShapes Go.WideShapes Go.ChangeAt Go.RowKit
open Go.ChangeMaps (open_string shut_string)
set_option linter.unusedVariables false

theorem own : ownKnob Try.prog.godebug = none := by kernel_rfl
theorem laidOut : laidOutB Try.prog = true := by kernel_rfl

set_option maxHeartbeats 2000000 in
theorem walk (v : Int) (s : ByteArray) (w : World) (w_v : (Lit.int .i64 v).wf = true) (w_s : s.size ≤ 140737488351232) :
    Calls Try.prog 8 #[.int .i64 v, .string s] w fun e w' => e = .returned (.bool true) ∧ Below w.heap.size w w' := by
  have hv := i64_wf w_v
  obtain ⟨hv0, hv1⟩ := hv
  clear w_v
  go_enter Try.func8, Try.ntmps8
  go_wp2_with fail
  refine (awake_any w).mono ?_
  rintro e w1 ⟨rfl, hb1⟩
  by_cases hs : 500 < s.size
  · go_wp2_with fail
    go_ret
    exact ⟨rfl, hb1⟩
  · obtain ⟨U, hUv⟩ : ∃ U : Nat, (U : Int) = v % 18446744073709551616 := ⟨(v % 18446744073709551616).toNat, by omega⟩
    have hU : U < 18446744073709551616 := by omega
    have hw : IntKind.u64.wrap v = (U : Int) := by rw [IntKind.wrap_u64]; omega
    have HU := Lib.hid hUv
    clear hUv
    go_wp2_with fail
    go_loop [6, 7] (fun vn vx => ∃ k y : Nat, vn = .int .i64 ((k + 1 : Nat) : Int) ∧ vx = .int .u64 y ∧ y < 18446744073709551616 ∧ (Lib.uvarint U).length = k + 1 + more y ∧ k ≤ 10) (fun _ vx => (intOf vx).toNat)
    case atStart => exact ⟨0, U / 128, rfl, by go_num, by omega, by rw [length_more U], by omega⟩
    case round =>
      obtain ⟨k, y, rfl, rfl, hy, hlen, hk⟩ := hrel
      have HL := Lib.hid hlen
      have h10 := Lib.uvarint_length64 hU
      by_cases hy0 : y = 0
      · subst hy0
        have hn : (Lib.uvarint U).length = k + 1 := by rw [hlen, more_zero]
        have hm : (Lib.uvarint (Lib.zigzag (-1 - v))).length = (Lib.uvarint (Lib.zigzag v)).length := zigzag_mirror.symm
        have hsl : (Lib.uvarint s.size ++ s.data.toList).length = s.size + (Lib.uvarint s.size).length := by rw [List.length_append, Array.length_toList, Nat.add_comm]; rfl
        have h10s := Lib.uvarint_length64 (x := s.size) (by omega)
        have HN := Lib.hid hn
        have HM := Lib.hid hm
        have HSL := Lib.hid hsl
        clear hlen hn hm hsl
        go_wp2_with fail
        refine (U_nil U w1 hU).mono ?_
        rintro e w2 ⟨a2, c2, rfl, _, _, _, hb2⟩
        rw [HN.out]
        have hB2 := hb1.trans (hb2.mono hb1.size)
        clear hb1 hb2
        go_wp2_with fail
        refine (I_nil v w2 hv0 hv1).mono ?_
        rintro e w3 ⟨a3, c3, rfl, _, _, _, hb3⟩
        have hB3 := hB2.trans (hb3.mono hB2.size)
        clear hB2 hb3
        go_wp2_with fail
        refine (I_nil (-1 - v) w3 (by omega) (by omega)).mono ?_
        rintro e w4 ⟨a4, c4, rfl, _, _, _, hb4⟩
        rw [HM.out]
        have hB4 := hB3.trans (hb4.mono hB3.size)
        clear hB3 hb4
        go_wp2_with fail
        refine (S_nil s w4 (by omega)).mono ?_
        rintro e w5 ⟨a5, c5, rfl, _, _, _, hb5⟩
        rw [HSL.out]
        have hB5 := hB4.trans (hb5.mono hB4.size)
        clear hB4 hb5
        go_wp2_with fail
        refine (U_nil s.size w5 (by omega)).mono ?_
        rintro e w6 ⟨a6, c6, rfl, _, _, _, hb6⟩
        have hB6 := hB5.trans (hb6.mono hB5.size)
        clear hB5 hb6
        go_wp2_with fail
        go_ret
        exact ⟨rfl, hB6⟩
      · have hst := more_step hy0
        have h1 : k + 1 ≤ 10 := by omega
        have HS := Lib.hid hst
        clear hlen hst
        go_wp2_with fail
        go_round
        case rel => exact ⟨k + 1, y / 128, by go_num, by go_num, by omega, by rw [HL.out, HS.out]; omega, by omega⟩
        case measure => simp [intOf]; omega

set_option maxRecDepth 100000 in
theorem lifted (os : Os) (started : os.Started) (H : Type) (enc : TypeId × Value → H) :
    ReturnsInHanded {} Try.checked os 8 .any (Rows.packSizesSpec.pre6 enc Try.prog Try.f8 Rows.packSizesRow.domain false) (Rows.packSizesSpec.post enc Try.prog Try.f8 false true false false) := by
  refine returnsInHanded_of_change_sized (C := Try.checked) own started (by kernel_rfl) Try.func8
    (ChangeSpec.witness6 (enc := enc) (C := Try.checked) false ⟨#[], #[.int .i64 0, .string ByteArray.empty], []⟩ 8 (by kernel_rfl) (by kernel_rfl) (by kernel_rfl) (by kernel_rfl)) ?_
  intro W base args ds gs before hval0 hW hcnd hsz0 _
  have hsz : (DataW.weightsEach Try.prog (Try.f8.params.toList ++ Rows.packSizesSpec.plain.varTypes Try.prog) (ds ++ gs)).all (· ≤ reachBytes) = true := hsz0
  clear hsz0
  have hval : ∀ (j : Nat) t v, Try.f8.params[j]? = some t → args[j]? = some v → Value.okWide Try.prog W .any base t v := hval0
  have hW' := hW
  obtain ⟨p, q, hA0, hV, rfl, hfz, hnd⟩ := hW
  have hA : DataW.TrodAll enc Try.prog W 0 (fun _ => true) true Try.f8.params.toList args.toList ds p := hA0
  rw [Try.params8] at hA hval hsz
  obtain ⟨v0, vs0, d0, ds0, p0, q0, hargs, rfl, rfl, h0, r0⟩ := trodAll_cons hA
  obtain ⟨v1, vs1, d1, ds1, p1, q1, rfl, rfl, rfl, h1, r1⟩ := trodAll_cons r0
  obtain ⟨rfl, rfl, rfl⟩ := trodAll_nil r1
  obtain rfl : args = #[v0, v1] := by cases args; simp_all
  obtain ⟨rfl, rfl⟩ := trodVars_none hV
  obtain ⟨v, rfl, rfl, rfl, w_v⟩ := open_int Try.underlying2 (hval 0 2 v0 rfl rfl) h0
  obtain ⟨s, rfl, rfl, rfl, m_s⟩ := open_string Try.underlying9 (hval 1 9 v1 rfl rfl) h1
  have w_s : s.size ≤ 140737488351232 := by have h := sized_string hsz (j := 1) rfl rfl; simpa [reachBytes] using h
  clear hA0 hval0
  refine (walk v s W w_v w_s).mono fun e W' ⟨he, bel⟩ => ?_
  subst he
  exact ⟨_, rfl, _, _, _, [], _, [], hW', trodAll_mk1 (shut_bool Try.underlying4 _), (trodAll_cons_mk (shut_int Try.underlying2 w_v) (trodAll_cons_mk (shut_string Try.underlying9 m_s) trodAll_mk0)), rfl, bel.frame _, fun h => by cases h⟩

theorem over : Rows.packSizesRow.holds Try.pinned (OpenSpec.ofChange Rows.packSizesSpec) :=
  OpenClaim.holds_of_wide 8 Try.f8 rfl rfl rfl rfl rfl rfl rfl ⟨rfl, rfl, rfl, rfl, rfl⟩ rfl rfl rfl rfl rfl (by kernel_rfl) Try.func8 (by kernel_rfl)
    (of_decide_eq_true (by kernel_rfl)) (by unfold Func.isWrapper; first | (rw [if_pos (by decide +kernel)]; kernel_rfl) | (rw [if_neg (by decide +kernel)]; exact ⟨rfl, rfl⟩))
    (fun os started H enc _ => lifted os started H enc)

theorem proved : Rows.PackSizesSaid := over
#print axioms proved
end Go.Proofs.Ythgcoeienbgmhaa.packSizes
