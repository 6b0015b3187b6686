/-
  Proved: SynKnown of escapementlaw5 returns true for every input, and leaves what it was handed as it was. No conditions.
-/
import Derived.Test.YtfgjgnfbhfhkjaaGreatDoorMe
import Derived.Test.YtfgjgnfbhfhkjaaGreatDoorRows
import Derived.WalkKit
import Derived.ProofKit
import Derived.OpenShut
import Derived.ShutString
import Derived.ChangeOld
import Derived.SizedLaws
import Derived.Test.YtfgjgnfbhfhkjaaGreatDoorTie
import Derived.Test.YtfgjgnfbhfhkjaaGreatDoorCards
import Derived.LaidMore
import Derived.Lay
import Derived.SevenTiedAt
import Derived.Stop.Joined
namespace Go.Proofs.YtfgjgnfbhfhkjaaGreatDoor.synKnown
open Go.ChangeShapes Go.WideShapes Go.ChangeAt Go.RowKit
open Go.ChangeMaps (open_string shut_string)
set_option linter.unusedVariables false

theorem own : ownKnob Tryz.prog.godebug = none := by kernel_rfl
theorem laidOut : laidOutB Tryz.prog = true := by kernel_rfl

def knT : ByteArray := ⟨#[110, 111, 100, 101, 32, 102, 40, 97, 44, 32, 98, 58, 32, 98, 111, 111, 108, 41, 32, 114, 101, 116, 117, 114, 110, 115, 32, 40, 99, 58, 32, 98, 111, 111, 108, 41, 59, 32, 118, 97, 114, 32, 116, 58, 32, 98, 111, 111, 108, 32, 119, 104, 101, 110, 32, 110, 111, 116, 32, 97, 59, 32, 108, 101, 116, 32, 99, 32, 61, 32, 109, 101, 114, 103, 101, 32, 97, 32, 40, 98, 32, 119, 104, 101, 110, 32, 97, 41, 32, 116, 59, 32, 116, 32, 61, 32, 110, 111, 116, 32, 98, 32, 120, 111, 114, 32, 116, 114, 117, 101, 32, 119, 104, 101, 110, 32, 110, 111, 116, 32, 97, 59, 32, 116, 101, 108, 59]⟩
def knB : ByteArray := ⟨#[110, 111, 100, 101, 32, 102, 40, 41, 32, 114, 101, 116, 117, 114, 110, 115, 32, 40, 121, 58, 32, 105, 110, 116, 41, 32, 108, 101, 116, 32, 116, 101, 108]⟩
def knN : Nd := okN (parseS knT)
def knV : Vr := knN.locs.getD 0 vr0
def knQ : Qe := knN.eqs.getD 0 qe0
def knR : Qe := knN.eqs.getD 1 qe0
theorem kn_parse : parseS knT = .ok [knN] := by kernel_rfl
theorem kn_bad : parseS knB = .error (7, 26) := by kernel_rfl
theorem kn_nil : parseS ⟨#[]⟩ = .error (7, 0) := by kernel_rfl
theorem kn_locs : knN.locs = [knV] := by kernel_rfl
theorem kn_on : knV.on = ⟨#[97]⟩ := by kernel_rfl
theorem kn_not : knV.not_ = true := by kernel_rfl
theorem kn_eqs : knN.eqs = [knQ, knR] := by kernel_rfl
theorem kn_text : textE knQ.e = [40, 109, 101, 114, 103, 101, 32, 97, 32, 40, 98, 32, 119, 104, 101, 110, 32, 97, 41, 32, 40, 116, 41, 41] := by kernel_rfl
theorem kn_text2 : textE knR.e = [40, 40, 110, 111, 116, 32, 98, 41, 32, 120, 111, 114, 32, 40, 116, 114, 117, 101, 32, 119, 104, 101, 110, 32, 110, 111, 116, 32, 97, 41, 41] := by kernel_rfl
theorem kn_facts : ∃ (nd : Nd) (v : Vr) (q r : Qe), parseS knT = .ok [nd] ∧ nd.locs = [v] ∧ v.on = ⟨#[97]⟩ ∧ v.not_ = true ∧ nd.eqs = [q, r] ∧ textE q.e = [40, 109, 101, 114, 103, 101, 32, 97, 32, 40, 98, 32, 119, 104, 101, 110, 32, 97, 41, 32, 40, 116, 41, 41] ∧ textE r.e = [40, 40, 110, 111, 116, 32, 98, 41, 32, 120, 111, 114, 32, 40, 116, 114, 117, 101, 32, 119, 104, 101, 110, 32, 110, 111, 116, 32, 97, 41, 41] := ⟨knN, knV, knQ, knR, kn_parse, kn_locs, kn_on, kn_not, kn_eqs, kn_text, kn_text2⟩
/-- A declared name in memory. -/
theorem VarsV.at_ {w : World} {B n : Nat} {x : Option Addr} {vs : List Vr} (h : VarsV w B x n vs) (i : Nat) (hi : i < vs.length) : ∃ g, x = some ⟨g, 0, none⟩ ∧ g < B ∧ w.cell? ⟨g, i * 5, none⟩ = some (.string (vs[i]).name) ∧ w.cell? ⟨g, i * 5 + 1, none⟩ = some (.int .i64 ((vs[i]).kind : Int)) ∧ w.cell? ⟨g, i * 5 + 2, none⟩ = some (.string (vs[i]).on) ∧ w.cell? ⟨g, i * 5 + 3, none⟩ = some (.bool (vs[i]).not_) := by
  obtain ⟨e0, g, hg⟩ := id h
  obtain ⟨e1, e2, _, hc⟩ := hg (by omega)
  exact ⟨g, e1, e2, hc i hi 0 _ rfl, hc i hi 1 _ rfl, hc i hi 2 _ rfl, hc i hi 3 _ rfl⟩

set_option maxHeartbeats 8000000 in
set_option maxRecDepth 100000 in
theorem walk (w : World) (hT : STab w) :
    Calls Tryz.prog 3 #[] w fun e w' => e = .returned (.bool true) ∧ Below w.heap.size w w' := by
  obtain ⟨nd, v, q, r, hp, e1, e5, e6, e2, e3, e4⟩ := kn_facts
  have hpf := (parse_fine hp).1
  have hqf : FineE q.e := (hpf nd (by simp)).ex q (by rw [e2]; simp)
  have hrf : FineE r.e := (hpf nd (by simp)).ex r (by rw [e2]; simp)
  have kp := fun W hT => parse_ok hp W (by decide) hT
  clear hp
  have HT := Lib.hid hT
  have HQF := Lib.hid hqf
  have HRF := Lib.hid hrf
  have kb := fun W hT => parse_bad kn_bad W (by decide) hT
  unfold knT at kp
  unfold knB at kb
  have KP := Lib.hid kp
  have KB := Lib.hid kb
  have KN := Lib.hid (fun W hT => parse_bad kn_nil W (by decide) hT)
  have E1 := Lib.hid e1
  have E2 := Lib.hid e2
  have E3 := Lib.hid e3
  have E4 := Lib.hid e4
  have E5 := Lib.hid e5
  have E6 := Lib.hid e6
  have HSF := Lib.hid size_fault2
  clear hT hpf hqf hrf kp kb e1 e2 e3 e4 e5 e6
  go_enter Tryz.func3, Tryz.ntmps3
  go_wp2_with fail
  (with_reducible refine (awake_any w HT.out).mono ?_)
  rintro e w1 ⟨rfl, hb1⟩
  have HT1 := Lib.hid (HT.out.below hb1)
  have HB1 := Lib.hid hb1
  clear hb1
  go_wp2_with fail
  (with_reducible refine (KP.out w1 HT1.out).mono ?_)
  rintro e w2 ⟨x, c, rfl, hv, hb⟩
  obtain ⟨g, rfl, hg, xi, xo, xl, xe, ni, no, nl, ne, ci, co, cl, ce, q0, q1, q2, q3, q4, hnv⟩ := hv.first
  have hev := hnv.eqs
  have hlv := hnv.locs
  rw [E2.out] at hev
  rw [E1.out] at hlv
  have hne : ne = 2 := hev.1
  have hnl : nl = 1 := hlv.1
  subst hne
  subst hnl
  obtain ⟨ge, rfl, hge, o, m, n, a, y, l, d, p0, p1, p2, p3, p4, p5, hip⟩ := hev.at_ 0 (by simp)
  obtain ⟨ge2, hgx, hge2, o2, m2, n2, a2, y2, l2, d2, r0, r1, r2, r3, r4, r5, hip2⟩ := hev.at_ 1 (by simp)
  obtain ⟨gl, rfl, hgl, s0, s1, s2, s3⟩ := VarsV.at_ hlv 0 (by simp)
  injection hgx with hgx
  injection hgx with hgx
  subst hgx
  simp only [Nat.zero_mul, Nat.zero_add, Nat.one_mul, Nat.reduceAdd] at p0 p1 p2 p3 p4 p5 r0 r1 r2 r3 r4 r5 s0 s1 s2 s3
  have hv2 : ([v] : List Vr)[0] = v := rfl
  rw [hv2, E5.out] at s2
  rw [hv2, E6.out] at s3
  have hn1 : (List.length [nd]) = 1 := rfl
  have HC := Lib.hid (And.intro q3 q4)
  have HP := Lib.hid (And.intro p1 (And.intro p2 (And.intro p3 (And.intro p4 p5))))
  have HR := Lib.hid (And.intro r1 (And.intro r2 (And.intro r3 (And.intro r4 r5))))
  have HS := Lib.hid (And.intro s2 s3)
  have HB2 := Lib.hid (HB1.out.trans (hb.mono HB1.out.size))
  have HIP : Hid (IsP (fun k => k < w2.heap.size) w2 o m n a y l d q.e) := Lib.hid hip
  have HIR : Hid (IsP (fun k => k < w2.heap.size) w2 o2 m2 n2 a2 y2 l2 d2 r.e) := Lib.hid hip2
  have HT2 := Lib.hid (HT1.out.below hb)
  clear hb hv hnv hev hlv hip hip2 q0 q1 q2 q3 q4 p0 p1 p2 p3 p4 p5 r0 r1 r2 r3 r4 r5 s0 s1 s2 s3 KP hv2
  have HNw3 := Lib.hid (heap_alloc_new w2 (.cells #[.int .i64 0, .int .i64 0] 26))
  have HBw3 : Hid (Below w2.heap.size w2 (w2.alloc (.cells #[.int .i64 0, .int .i64 0] 26))) := Lib.hid ((Below.refl _ _).alloc (Nat.le_refl _) _)
  go_wp2_with (
       refine wpList_store_row rfl 26 (.tmp 2) (.tmp 12) rfl w2.heap.size #[.int .i64 0, .int .i64 0] rfl rfl 26 _ HNw3.out HSF.out rfl (fault_one _ _) ?_
       have hset := setRow_heap _ w2.heap.size _ #[.int .i64 0, .int .i64 0] _ _ HNw3.out
       have hbs := below_setRow HBw3.out (Nat.le_refl _) #[.int .i64 0, .int .i64 0]
       generalize (w2.alloc (.cells #[.int .i64 0, .int .i64 0] 26)).setRow w2.heap.size #[.int .i64 0, .int .i64 0] = w3 at hset hbs ⊢
       have HLw3 := Lib.hid hset
       have HWw3 := Lib.hid hbs
       clear hset hbs HNw3 HBw3)
  (with_reducible refine (KB.out w3 (HT2.out.below HWw3.out)).mono ?_)
  rintro e w4 ⟨rfl, hb⟩
  have HW4 := Lib.hid (HWw3.out.trans (hb.mono HWw3.out.size))
  have HL3 := Lib.hid ((hb.block w2.heap.size (Array.getElem?_eq_some_iff.1 HLw3.out).1).trans HLw3.out)
  have hz4 : w2.heap.size < w4.heap.size := (Array.getElem?_eq_some_iff.1 HL3.out).1
  clear hb HLw3 HWw3
  have HNw5 := Lib.hid (heap_alloc_new w4 (.cells #[.int .i64 0, .int .i64 0] 26))
  have HBw5 : Hid (Below w4.heap.size w4 (w4.alloc (.cells #[.int .i64 0, .int .i64 0] 26))) := Lib.hid ((Below.refl _ _).alloc (Nat.le_refl _) _)
  go_wp2_with (
       refine wpList_store_row rfl 26 (.tmp 4) (.tmp 16) rfl w4.heap.size #[.int .i64 7, .int .i64 26] rfl rfl 26 _ HNw5.out HSF.out rfl (fault_one _ _) ?_
       have hset := setRow_heap _ w4.heap.size _ #[.int .i64 7, .int .i64 26] _ _ HNw5.out
       have hbs := below_setRow HBw5.out (Nat.le_refl _) #[.int .i64 7, .int .i64 26]
       generalize (w4.alloc (.cells #[.int .i64 0, .int .i64 0] 26)).setRow w4.heap.size #[.int .i64 7, .int .i64 26] = w5 at hset hbs ⊢
       have HLw5 := Lib.hid hset
       have HWw5 := Lib.hid hbs
       clear hset hbs HNw5 HBw5)
  have HW5 := Lib.hid (HW4.out.trans (HWw5.out.mono HW4.out.size))
  have HL5 := Lib.hid ((HWw5.out.block w2.heap.size hz4).trans HL3.out)
  have hz5 : w4.heap.size < w5.heap.size := (Array.getElem?_eq_some_iff.1 HLw5.out).1
  clear HL3 HW4 HWw5
  (with_reducible refine (KN.out w5 (HT2.out.below HW5.out)).mono ?_)
  rintro e w6 ⟨rfl, hb⟩
  have HW6 := Lib.hid (HW5.out.trans (hb.mono HW5.out.size))
  have HL6 := Lib.hid ((hb.block w2.heap.size (by omega)).trans HL5.out)
  have HL7 := Lib.hid ((hb.block w4.heap.size (by omega)).trans HLw5.out)
  have hz6 := hb.size
  clear hb HL5 HW5 HLw5
  have HNw7 := Lib.hid (heap_alloc_new w6 (.cells #[.int .i64 0, .int .i64 0] 26))
  have HBw7 : Hid (Below w6.heap.size w6 (w6.alloc (.cells #[.int .i64 0, .int .i64 0] 26))) := Lib.hid ((Below.refl _ _).alloc (Nat.le_refl _) _)
  go_wp2_with (first
    | (
       refine wpList_store_row rfl 26 (.tmp 6) (.tmp 20) rfl w6.heap.size #[.int .i64 7, .int .i64 0] rfl rfl 26 _ HNw7.out HSF.out rfl (fault_one _ _) ?_
       have hset := setRow_heap _ w6.heap.size _ #[.int .i64 7, .int .i64 0] _ _ HNw7.out
       have hbs := below_setRow HBw7.out (Nat.le_refl _) #[.int .i64 7, .int .i64 0]
       generalize (w6.alloc (.cells #[.int .i64 0, .int .i64 0] 26)).setRow w6.heap.size #[.int .i64 7, .int .i64 0] = w7 at hset hbs ⊢
       have HL2 := Lib.hid ((hbs.block w2.heap.size (by omega)).trans HL6.out)
       have HL4 := Lib.hid ((hbs.block w4.heap.size (by omega)).trans HL7.out)
       have HLA := Lib.hid hset
       have HW7 := Lib.hid (HW6.out.trans (hbs.mono HW6.out.size))
       have f0 := cell_of_row w7 w2.heap.size 0 _ _ _ HL2.out
       have q3 := cell_low HW7.out hg HC.out.1
       have q4 := cell_low HW7.out hg HC.out.2
       have p1 := cell_low HW7.out hge HP.out.1
       have p2 := cell_low HW7.out hge HP.out.2.1
       have p3 := cell_low HW7.out hge HP.out.2.2.1
       have p4 := cell_low HW7.out hge HP.out.2.2.2.1
       have p5 := cell_low HW7.out hge HP.out.2.2.2.2
       have s2 := cell_low HW7.out hgl HS.out.1
       have s3 := cell_low HW7.out hgl HS.out.2
       clear hset hbs HL6 HL7 HW6 HNw7 HBw7)
    | fail)
  have kt := text_at HT2.out (Nat.le_refl _) HW7.out HIP.out HQF.out E3.out (by decide)
  (with_reducible refine kt.mono ?_)
  rintro e w8 ⟨rfl, hb⟩
  have HW8 := Lib.hid (HW7.out.trans (hb.mono HW7.out.size))
  have hzz : w6.heap.size < w7.heap.size := (Array.getElem?_eq_some_iff.1 HLA.out).1
  have HL2' := Lib.hid ((hb.block w2.heap.size (by omega)).trans HL2.out)
  have HL4' := Lib.hid ((hb.block w4.heap.size (by omega)).trans HL4.out)
  have HLA' := Lib.hid ((hb.block w6.heap.size (by omega)).trans HLA.out)
  have hz8 := hb.size
  clear hb kt f0 q3 q4 p1 p2 p3 p4 p5 s2 s3 HL2 HL4 HLA HW7
  have q4 := cell_low HW8.out hg HC.out.2
  have r1 := cell_low HW8.out hge HR.out.1
  have r2 := cell_low HW8.out hge HR.out.2.1
  have r3 := cell_low HW8.out hge HR.out.2.2.1
  have r4 := cell_low HW8.out hge HR.out.2.2.2.1
  have r5 := cell_low HW8.out hge HR.out.2.2.2.2
  go_wp2_with fail
  have kt := text_at HT2.out (Nat.le_refl _) HW8.out HIR.out HRF.out E4.out (by decide)
  (with_reducible refine kt.mono ?_)
  rintro e w9 ⟨rfl, hb⟩
  have HW9 := Lib.hid (HW8.out.trans (hb.mono HW8.out.size))
  have HL4 := Lib.hid ((hb.block w4.heap.size (by omega)).trans HL4'.out)
  have hla := (hb.block w6.heap.size (by omega)).trans HLA'.out
  have f0 := cell_of_row w9 w6.heap.size 0 _ _ _ hla
  clear hb kt q4 r1 r2 r3 r4 r5 HL2' HL4' HLA' HW8 hla
  have f1 := cell_of_row w9 w4.heap.size 0 _ _ _ HL4.out
  have f2 := cell_of_row w9 w4.heap.size 1 _ _ _ HL4.out
  go_wp2_with fail
  go_ret
  exact ⟨rfl, HB2.out.trans (HW9.out.mono HB2.out.size)⟩

set_option maxRecDepth 100000 in
theorem lifted (os : Os) (started : os.Started) (H : Type) (enc : TypeId × Value → H) :
    ReturnsInHanded {} Tryz.checked os 3 .any (fun w args => (Rows.synKnownSpec.pre enc Tryz.prog Tryz.f3 Rows.synKnownRow.domain false w args ∧ laidMetH Tryz.prog LAID w) ∧ sizedMet enc Tryz.prog Tryz.f3 (OpenSpec.ofChange Rows.synKnownSpec) false w args) (Rows.synKnownSpec.post enc Tryz.prog Tryz.f3 false true false false) := by
  refine returnsInHanded_of_change_and (C := Tryz.checked) (X := fun w _ => laidMetH Tryz.prog LAID w) (fun _ _ _ hh h => h.of_heap hh) own started (by kernel_rfl) Tryz.func3
    (ChangeSpec.witness_shaped (enc := enc) (C := Tryz.checked) (os := os) (X := fun w _ => laidMetH Tryz.prog LAID w) false (World.laidAll Tryz.prog os LAID) #[] 8 (World.laidAll_os _ _ _)
      (World.shaped_of_ZipB (by kernel_rfl) (by kernel_rfl)) (by kernel_rfl) (by kernel_rfl) (by kernel_rfl)
      (by rw [MakeChecks.laidMetH_plain _ _ _ (by kernel_rfl)]; exact laidMet_laidAll _ (by kernel_rfl) (by kernel_rfl))) ?_
  intro W base args ds gs before hval0 hW hcnd hsz0 hL _
  have hT : STab W := tab_of (by rw [MakeChecks.laidMetH_plain _ _ _ (by kernel_rfl)] at hL; exact hL)
  have hval : ∀ (j : Nat) t v, Tryz.f3.params[j]? = some t → args[j]? = some v → Value.okWide Tryz.prog W .any base t v := hval0
  have hW' := hW
  obtain ⟨p, q, hA0, hV, rfl, hfz, hnd⟩ := hW
  have hA : DataW.TrodAll enc Tryz.prog W 0 (fun _ => true) true Tryz.f3.params.toList args.toList ds p := hA0
  rw [Tryz.params3] at hA hval
  obtain ⟨rfl, rfl, rfl⟩ := trodAll_none hA
  obtain ⟨rfl, rfl⟩ := trodVars_none hV
  clear hA0 hval0
  refine (walk W hT).mono fun e W' ⟨he, bel⟩ => ?_
  subst he
  exact ⟨_, rfl, _, _, _, [], _, [], hW', trodAll_mk1 (shut_bool Tryz.underlying4 _), trodAll_mk0, rfl, bel.frame _, fun h => by cases h⟩

theorem over : Rows.synKnownRow.holds Tryz.pinned (OpenSpec.ofChange Rows.synKnownSpec) :=
  OpenClaim.holds_of_wide 3 Tryz.f3 rfl rfl rfl rfl rfl rfl rfl ⟨rfl, rfl, rfl, rfl, rfl⟩ rfl rfl rfl rfl rfl (by kernel_rfl) Tryz.func3 (by kernel_rfl)
    (of_decide_eq_true (by kernel_rfl)) (by unfold Func.isWrapper; first | (rw [if_pos (by decide +kernel)]; kernel_rfl) | (rw [if_neg (by decide +kernel)]; exact ⟨rfl, rfl⟩))
    (fun os started H enc _ => lifted os started H enc)

set_option maxRecDepth 100000 in
theorem proved : Rows.SynKnownCardSaid :=
  Claim7.holds_tied_plain_at .later [] [.data, .data, .data, .sentinel, .sentinel] true Rows.synKnownCard.stood.harness true over (fun _ h => by cases h) (by kernel_rfl) (fun _ h => by cases h) synKnown_row_tie rfl ⟨rfl, rfl⟩ (by kernel_rfl) rfl
    (fun f fn hf hfn => by
      obtain rfl : f = 3 := Option.some.inj ((show Tryz.prog.funcNamed "escapement/escapementlaw5.SynKnown" = some 3 by kernel_rfl).symm.trans hf) |>.symm
      obtain rfl : fn = Tryz.f3 := (Option.some.inj (Tryz.func3.symm.trans hfn)).symm
      exact ⟨by kernel_rfl, fun j t ht => by
        rw [Tryz.params3] at ht
        have hm : t ∈ ([] : List TypeId) := by simpa using Array.mem_of_getElem? ht
        have hall : (([] : List TypeId).all fun u => !Tryz.prog.wantsStandIn u) = true := by kernel_rfl
        exact (show Tryz.prog.wantsStandIn t = false by simpa using List.all_eq_true.1 hall t hm)⟩)
    (by kernel_rfl)
#print axioms proved
end Go.Proofs.YtfgjgnfbhfhkjaaGreatDoor.synKnown
