/-
  Proved: PackCut of escapementlaw1 returns true for every input, and leaves what it was handed as it was. No conditions.
-/
import Derived.Test.YthgcoeienbgmhaaRows
import Derived.Test.YthgcoeienbgmhaaArg
import Derived.Test.YthgcoeienbgmhaaAwk
import Derived.WalkKit
import Derived.ProofKit
import Derived.OpenShut
import Derived.ShutString
import Derived.ChangeOld
import Derived.SizedLaws
namespace Go.Proofs.Ythgcoeienbgmhaa.packCut
open Go.ChangeShapes Go.WideShapes Go.ChangeAt Go.RowKit
open Go.ChangeMaps (open_string shut_string)
set_option linter.unusedVariables false

theorem own : ownKnob Try.prog.godebug = none := by kernel_rfl
theorem laidOut : laidOutB Try.prog = true := by kernel_rfl

theorem cut_bad {u z : Nat} (hu : u < 18446744073709551616) (hz : z < 18446744073709551616) (s : List UInt8) (hs : s.length < 18446744073709551616) (k : Nat) (hk : k < (Lib.uvarint u ++ Lib.uvarint z ++ Lib.uvarint s.length ++ s).length) :
    (rdS (rdI (rdU ((Lib.uvarint u ++ Lib.uvarint z ++ Lib.uvarint s.length ++ s).take k, false)).2).2).2 = ([], true) := by
  have badU : ∀ y j : Nat, j < (Lib.uvarint y).length → ∀ b, rdU ((Lib.uvarint y).take j, b) = (0, [], true) := by
    intro y j hj b
    unfold rdU
    rw [if_pos (num_cut hj)]
  have hI : ∀ (l : List UInt8) (b : Bool), (rdI (l, b)).2 = (rdU (l, b)).2 := fun _ _ => rfl
  rw [List.append_assoc, List.append_assoc] at hk ⊢
  rw [List.length_append, List.length_append, List.length_append] at hk
  by_cases h1 : k < (Lib.uvarint u).length
  · rw [List.take_append_of_le_length (by omega), badU u k h1, rdI_bad, rdS_bad]
  · rw [List.take_append, List.take_of_length_le (by omega), rdU_uvarint hu]
    obtain ⟨k2, e2⟩ : ∃ k2, k2 = k - (Lib.uvarint u).length := ⟨_, rfl⟩
    rw [← e2]
    have hk2 : k2 < (Lib.uvarint z).length + ((Lib.uvarint s.length).length + s.length) := by omega
    show (rdS (rdI ((Lib.uvarint z ++ (Lib.uvarint s.length ++ s)).take k2, false)).2).2 = _
    by_cases h2 : k2 < (Lib.uvarint z).length
    · rw [List.take_append_of_le_length (by omega), hI, badU z k2 h2, rdS_bad]
    · rw [List.take_append, List.take_of_length_le (by omega), hI, rdU_uvarint hz]
      obtain ⟨k3, e3⟩ : ∃ k3, k3 = k2 - (Lib.uvarint z).length := ⟨_, rfl⟩
      rw [← e3]
      show (rdS ((Lib.uvarint s.length ++ s).take k3, false)).2 = _
      unfold rdS
      by_cases h3 : k3 < (Lib.uvarint s.length).length
      · rw [List.take_append_of_le_length (by omega), badU _ k3 h3]
        rfl
      · rw [List.take_append, List.take_of_length_le (by omega), rdU_uvarint hs]
        rw [if_pos]
        rw [List.length_take]
        show min (k3 - (Lib.uvarint s.length).length) s.length < s.length
        omega

theorem txt_take {w : World} {x : Option Addr} {l : List UInt8} (h : Txt w x l) (n : Nat) : Txt w x (l.take n) := fun hne => by
  obtain ⟨b, o, e, h1, h2⟩ := h (by rintro rfl; simp at hne)
  refine ⟨b, o, e, h1, fun i hi => ?_⟩
  rw [List.length_take] at hi
  rw [h2 i (by omega), List.getElem_take]

set_option maxHeartbeats 2000000 in
theorem walk (u : Int) (v : Int) (s : ByteArray) (cut : Int) (w : World) (w_u : (Lit.int .u64 u).wf = true) (w_v : (Lit.int .i64 v).wf = true) (w_s : s.size ≤ 140737488351232) (w_cut : (Lit.int .i64 cut).wf = true) :
    Calls Try.prog 9 #[.int .u64 u, .int .i64 v, .string s, .int .i64 cut] w fun e w' => e = .returned (.bool true) ∧ Below w.heap.size w w' := by
  obtain ⟨u0, u1⟩ := u64_wf w_u
  obtain ⟨hv0, hv1⟩ := i64_wf w_v
  obtain ⟨c0, c1⟩ := i64_wf w_cut
  clear w_u w_v w_cut
  obtain ⟨u, rfl⟩ := Int.eq_ofNat_of_zero_le u0
  have hu : u < 18446744073709551616 := by omega
  clear u0 u1
  have hz := Lib.zigzag_lt hv0 hv1
  have hul := Lib.uvarint_length64 hu
  have hzl := Lib.uvarint_length64 hz
  have hsl := Lib.uvarint_length64 (x := s.size) (by omega)
  have hup := Lib.uvarint_pos u
  go_enter Try.func9, Try.ntmps9
  go_wp2_with fail
  refine (awake_any w).mono ?_
  rintro e w1 ⟨rfl, hb1⟩
  go_wp2_with fail
  refine (U_nil u w1 hu).mono ?_
  rintro e w2 ⟨a2, c2, rfl, t2, l2, m2, hb2⟩
  have hB2 := hb1.trans (hb2.mono hb1.size)
  clear hb1 hb2
  go_wp2_with fail
  refine (I_gives a2 c2 v (Lib.uvarint u) w2 t2 hv0 hv1 (by omega)).mono ?_
  rintro e w3 ⟨a3, c3, rfl, t3, l3, m3, hb3⟩
  have hB3 := hB2.trans (hb3.mono hB2.size)
  clear hB2 hb3 t2
  obtain ⟨L3, hL3⟩ : ∃ L, L = Lib.uvarint u ++ Lib.uvarint (Lib.zigzag v) := ⟨_, rfl⟩
  have hl3 : L3.length = (Lib.uvarint u).length + (Lib.uvarint (Lib.zigzag v)).length := by rw [hL3, List.length_append]
  have b3 : L3.length ≤ 20 := by omega
  have p3 : 1 ≤ L3.length := by omega
  rw [← hL3] at t3 l3 ⊢
  have HL3 := Lib.hid hL3
  clear hL3 hl3 hul hzl
  go_wp2_with fail
  refine (S_gives a3 c3 s L3 w3 t3 (by omega)).mono ?_
  rintro e w4 ⟨a4, c4, rfl, t4, l4, m4, hb4⟩
  have hB4 := hB3.trans (hb4.mono hB3.size)
  clear hB3 hb4 t3 l3 m3 l2 m2
  obtain ⟨L4, hL4⟩ : ∃ L, L = L3 ++ Lib.uvarint s.size ++ s.data.toList := ⟨_, rfl⟩
  have hl4 : L4.length = L3.length + (Lib.uvarint s.size).length + s.size := by
    rw [hL4, List.length_append, List.length_append, Array.length_toList]; rfl
  have p4 : 1 ≤ L4.length := by omega
  have b4 : L4.length ≤ 30 + s.size := by omega
  have q4 : s.size ≤ L4.length := by omega
  rw [← hL4] at t4 l4 ⊢
  have HL4 := Lib.hid hL4
  clear hL4 hl4
  unfold maxLen at m4
  by_cases h1 : 200 < s.size
  · go_wp2_with fail
    go_ret
    exact ⟨rfl, hB4⟩
  by_cases h2 : cut < 0
  · go_wp2_with fail
    go_ret
    exact ⟨rfl, hB4⟩
  by_cases h3 : (L4.length : Int) ≤ cut
  · go_wp2_with fail
    go_ret
    exact ⟨rfl, hB4⟩
  obtain ⟨k, rfl⟩ := Int.eq_ofNat_of_zero_le (show 0 ≤ cut by omega)
  have hk : k < L4.length := by omega
  have hbad := cut_bad hu hz s.data.toList (by rw [Array.length_toList]; show s.size < _; omega) k (by
    have e : (Lib.uvarint u ++ Lib.uvarint (Lib.zigzag v) ++ Lib.uvarint s.data.toList.length ++ s.data.toList) = L4 := by rw [HL4.out, HL3.out, Array.length_toList]; rfl
    rw [e]; exact hk)
  have e4 : (Lib.uvarint u ++ Lib.uvarint (Lib.zigzag v) ++ Lib.uvarint s.data.toList.length ++ s.data.toList) = L4 := by rw [HL4.out, HL3.out, Array.length_toList]; rfl
  rw [e4] at hbad
  clear e4
  obtain ⟨b, o, rfl, hlt, _⟩ := t4 (by rintro rfl; simp at p4)
  have tk := txt_take t4 k
  have lk : (L4.take k).length = k := by rw [List.length_take]; omega
  obtain ⟨Lk, hLk⟩ : ∃ L, L = L4.take k := ⟨_, rfl⟩
  rw [← hLk] at tk lk hbad
  have HB := Lib.hid hbad
  have HLK := Lib.hid lk
  have n4 : ¬ c4 = 0 := by omega
  have kc : (k : Int) ≤ (c4 : Int) := by omega
  have T4 := Lib.hid t4
  clear hLk lk hbad t4 h2 h3 c0 c1
  have hrd := Read_any (some ⟨b, o, none⟩) c4 Lk w4 tk (by rw [HLK.out]; omega)
  rw [HLK.out] at hrd
  have HRD := Lib.hid hrd
  clear hrd
  go_wp2_with fail
  refine HRD.out.mono ?_
  rintro e w5 ⟨g, rfl, g4, r5, hb5⟩
  have hB5 := hB4.trans (hb5.mono hB4.size)
  have gw : w.heap.size ≤ g := Nat.le_trans hB4.size g4
  clear hB4 hb5 g4 tk
  go_wp2_with fail
  refine (RU_any g _ w5 r5).mono ?_
  rintro e w6 ⟨rfl, r6, g6⟩
  have hB6 := below_grown hB5 g6 hB5.size gw
  clear hB5 g6 r5
  go_wp2_with fail
  refine (RI_any g _ w6 r6).mono ?_
  rintro e w7 ⟨rfl, r7, g7⟩
  have hB7 := below_grown hB6 g7 hB6.size gw
  clear hB6 g7 r6
  go_wp2_with fail
  refine (RS_any g _ w7 r7).mono ?_
  rintro e w8 ⟨rfl, r8, g8⟩
  have hB8 := below_grown hB7 g8 hB7.size gw
  clear hB7 g8 r7
  rw [HB.out] at r8
  go_wp2_with fail
  refine (Bad_any g _ w8 r8).mono ?_
  rintro e w9 ⟨rfl, rfl⟩
  go_wp2_with fail
  refine (Left_any g _ w8 r8).mono ?_
  rintro e w9 ⟨rfl, rfl⟩
  go_wp2_with fail
  go_ret
  exact ⟨rfl, hB8⟩

set_option maxRecDepth 100000 in
theorem lifted (os : Os) (started : os.Started) (H : Type) (enc : TypeId × Value → H) :
    ReturnsInHanded {} Try.checked os 9 .any (Rows.packCutSpec.pre6 enc Try.prog Try.f9 Rows.packCutRow.domain false) (Rows.packCutSpec.post enc Try.prog Try.f9 false true false false) := by
  refine returnsInHanded_of_change_sized (C := Try.checked) own started (by kernel_rfl) Try.func9
    (ChangeSpec.witness6 (enc := enc) (C := Try.checked) false ⟨#[], #[.int .u64 0, .int .i64 0, .string ByteArray.empty, .int .i64 0], []⟩ 8 (by kernel_rfl) (by kernel_rfl) (by kernel_rfl) (by kernel_rfl)) ?_
  intro W base args ds gs before hval0 hW hcnd hsz0 _
  have hsz : (DataW.weightsEach Try.prog (Try.f9.params.toList ++ Rows.packCutSpec.plain.varTypes Try.prog) (ds ++ gs)).all (· ≤ reachBytes) = true := hsz0
  clear hsz0
  have hval : ∀ (j : Nat) t v, Try.f9.params[j]? = some t → args[j]? = some v → Value.okWide Try.prog W .any base t v := hval0
  have hW' := hW
  obtain ⟨p, q, hA0, hV, rfl, hfz, hnd⟩ := hW
  have hA : DataW.TrodAll enc Try.prog W 0 (fun _ => true) true Try.f9.params.toList args.toList ds p := hA0
  rw [Try.params9] at hA hval hsz
  obtain ⟨v0, vs0, d0, ds0, p0, q0, hargs, rfl, rfl, h0, r0⟩ := trodAll_cons hA
  obtain ⟨v1, vs1, d1, ds1, p1, q1, rfl, rfl, rfl, h1, r1⟩ := trodAll_cons r0
  obtain ⟨v2, vs2, d2, ds2, p2, q2, rfl, rfl, rfl, h2, r2⟩ := trodAll_cons r1
  obtain ⟨v3, vs3, d3, ds3, p3, q3, rfl, rfl, rfl, h3, r3⟩ := trodAll_cons r2
  obtain ⟨rfl, rfl, rfl⟩ := trodAll_nil r3
  obtain rfl : args = #[v0, v1, v2, v3] := by cases args; simp_all
  obtain ⟨rfl, rfl⟩ := trodVars_none hV
  obtain ⟨u, rfl, rfl, rfl, w_u⟩ := open_int Try.underlying26 (hval 0 26 v0 rfl rfl) h0
  obtain ⟨v, rfl, rfl, rfl, w_v⟩ := open_int Try.underlying2 (hval 1 2 v1 rfl rfl) h1
  obtain ⟨s, rfl, rfl, rfl, m_s⟩ := open_string Try.underlying9 (hval 2 9 v2 rfl rfl) h2
  have w_s : s.size ≤ 140737488351232 := by have h := sized_string hsz (j := 2) rfl rfl; simpa [reachBytes] using h
  obtain ⟨cut, rfl, rfl, rfl, w_cut⟩ := open_int Try.underlying3 (hval 3 3 v3 rfl rfl) h3
  clear hA0 hval0
  refine (walk u v s cut W w_u w_v w_s w_cut).mono fun e W' ⟨he, bel⟩ => ?_
  subst he
  exact ⟨_, rfl, _, _, _, [], _, [], hW', trodAll_mk1 (shut_bool Try.underlying4 _), (trodAll_cons_mk (shut_int Try.underlying26 w_u) (trodAll_cons_mk (shut_int Try.underlying2 w_v) (trodAll_cons_mk (shut_string Try.underlying9 m_s) (trodAll_cons_mk (shut_int Try.underlying3 w_cut) trodAll_mk0)))), rfl, bel.frame _, fun h => by cases h⟩

theorem over : Rows.packCutRow.holds Try.pinned (OpenSpec.ofChange Rows.packCutSpec) :=
  OpenClaim.holds_of_wide 9 Try.f9 rfl rfl rfl rfl rfl rfl rfl ⟨rfl, rfl, rfl, rfl, rfl⟩ rfl rfl rfl rfl rfl (by kernel_rfl) Try.func9 (by kernel_rfl)
    (of_decide_eq_true (by kernel_rfl)) (by unfold Func.isWrapper; first | (rw [if_pos (by decide +kernel)]; kernel_rfl) | (rw [if_neg (by decide +kernel)]; exact ⟨rfl, rfl⟩))
    (fun os started H enc _ => lifted os started H enc)

theorem proved : Rows.PackCutSaid := over
#print axioms proved
end Go.Proofs.Ythgcoeienbgmhaa.packCut
