/-
  Proved: LexNames of escapementlaw4 returns true for every input, and leaves what it was handed as it was. No conditions.
-/
import Derived.Test.YtccpgnkekkejcaaDoorRows
import Derived.Test.YtccpgnkekkejcaaDoorArg
import Derived.Test.YtccpgnkekkejcaaDoorLaw
import Derived.Test.YtccpgnkekkejcaaDoorLnm
import Derived.WalkKit
import Derived.ProofKit
import Derived.OpenShut
import Derived.ShutString
import Derived.ChangeOld
import Derived.SizedLaws
import Derived.Test.YtccpgnkekkejcaaDoorLtb
import Derived.Test.YtccpgnkekkejcaaDoorTie
import Derived.Test.YtccpgnkekkejcaaDoorCards
import Derived.LaidMore
import Derived.Lay
import Derived.SevenTiedAt
import Derived.Stop.Joined
namespace Go.Proofs.YtccpgnkekkejcaaDoor.lexNames
open Go.ChangeShapes Go.WideShapes Go.ChangeAt Go.RowKit
open Go.ChangeMaps (open_string shut_string)
set_option linter.unusedVariables false

theorem own : ownKnob Tryd.prog.godebug = none := by kernel_rfl
theorem laidOut : laidOutB Tryd.prog = true := by kernel_rfl

theorem app_list (a b : ByteArray) : (a ++ b).data.toList = a.data.toList ++ b.data.toList := by simp
theorem size_app (a b : ByteArray) : (a ++ b).size = a.size + b.size := by simp
/-- What Cut tells of the three names. -/
theorem three_any (s : ByteArray) (w : World) (h1 : 1 ≤ s.size) (h10 : s.size ≤ 10) (hN : ∀ c ∈ s.data.toList, isL c.toNat = true) (hE : Errs w) :
    Calls Tryd.prog 9 #[.string (s ++ ⟨#[32]⟩ ++ s ++ ⟨#[95, 32]⟩ ++ s ++ ⟨#[49]⟩)] w fun e w' => Below w.heap.size w w' ∧ ∃ g c, e = .returned (.tuple #[.slice (some ⟨g, 0, none⟩) 4 c, .agg #[.int .i64 0, .int .i64 0]]) ∧ 4 ≤ c ∧ c ≤ maxLen ∧ g < w'.heap.size ∧ w'.cell? ⟨g, 0, none⟩ = some (.int .i64 (if keptB s.data.toList = true then 2 else 1)) ∧ w'.cell? ⟨g, 4, none⟩ = some (.int .i64 1) ∧ w'.cell? ⟨g, 8, none⟩ = some (.int .i64 1) := by
  have hlen : s.data.toList.length = s.size := by simp
  have hA := Cut_any (s ++ ⟨#[32]⟩ ++ s ++ ⟨#[95, 32]⟩ ++ s ++ ⟨#[49]⟩) w (by simp only [size_app]; show s.size + 1 + s.size + 2 + s.size + 1 ≤ _; omega) hE
  have hl : (s ++ ⟨#[32]⟩ ++ s ++ ⟨#[95, 32]⟩ ++ s ++ ⟨#[49]⟩ : ByteArray).data.toList = s.data.toList ++ 32 :: (s.data.toList ++ 95 :: 32 :: (s.data.toList ++ [49])) := by
    simp only [app_list, List.append_assoc]
    rfl
  unfold GivesCut at hA
  rw [hl, cut_names _ (by rw [hlen]; exact h1) (by rw [hlen]; exact h10) hN] at hA
  refine hA.mono ?_
  rintro e w1 ⟨hb, v, rfl, hown⟩
  obtain ⟨g, c, rfl, hc, hcm, _, hgl, hcell⟩ := own_words hown (by simp)
  refine ⟨hb, g, c, rfl, hc, hcm, hgl, ?_, ?_, ?_⟩
  · rw [hcell 0 (by simp)]
    unfold wordsC wordC
    split <;> rfl
  · rw [hcell 4 (by simp)]; rfl
  · rw [hcell 8 (by simp)]; rfl

set_option maxHeartbeats 8000000 in
set_option maxRecDepth 100000 in
theorem walk (name : ByteArray) (w : World) (hT : Errs w) (w_name : name.size ≤ 140737488351232) :
    Calls Tryd.prog 7 #[.string name] w fun e w' => e = .returned (.bool true) ∧ Below w.heap.size w w' := by
  have HT := Lib.hid hT
  clear hT
  have hlen : name.data.toList.length = name.size := by simp
  go_enter Tryd.func7, Tryd.ntmps7
  go_wp2_with fail
  refine (awake_any w HT.out).mono ?_
  rintro e w1 ⟨rfl, hb1⟩
  have HE1 := Lib.hid (HT.out.below hb1 (Nat.le_refl _))
  have HB1 := Lib.hid hb1
  have HLEN := Lib.hid hlen
  clear hb1 hlen
  by_cases c1 : name.size < 1
  · have d1 : decide ((name.size : Int) < 1) = true := by simp; omega
    go_wp2_with fail
    go_ret
    exact ⟨rfl, HB1.out⟩
  have d1 : decide ((name.size : Int) < 1) = false := by simp; omega
  by_cases c2 : 10 < name.size
  · have d2 : decide ((10 : Int) < (name.size : Int)) = true := by simp; omega
    go_wp2_with fail
    go_ret
    exact ⟨rfl, HB1.out⟩
  have d2 : decide ((10 : Int) < (name.size : Int)) = false := by simp; omega
  go_wp2_with fail
  go_loop [3] (fun vi => ∃ k : Nat, vi = .int .i64 (k : Int) ∧ k ≤ name.size ∧ ∀ j (h : j < name.size), j < k → isL name[j].toNat = true) (fun vi => name.size - (intOf vi).toNat)
  case atStart => exact ⟨0, rfl, Nat.zero_le _, fun j _ h => absurd h (by omega)⟩
  case round =>
    obtain ⟨k, rfl, hk, hall⟩ := hrel
    have HA := Lib.hid hall
    clear hall
    by_cases hlt : k < name.size
    · have dk : decide ((k : Int) < (name.size : Int)) = true := by simp; omega
      by_cases e1 : name[k].toNat < 97
      · have d3 : decide ((name[k].toNat : Int) < 97) = true := by simp; omega
        go_wp2_with fail
        go_ret
        exact ⟨rfl, HB1.out⟩
      · have d3 : decide ((name[k].toNat : Int) < 97) = false := by simp; omega
        by_cases e2 : 122 < name[k].toNat
        · have d4 : decide ((122 : Int) < (name[k].toNat : Int)) = true := by simp; omega
          go_wp2_with fail
          go_ret
          exact ⟨rfl, HB1.out⟩
        · have d4 : decide ((122 : Int) < (name[k].toNat : Int)) = false := by simp; omega
          go_wp2_with fail
          refine ⟨⟨k + 1, by go_num, by omega, fun j h hj => ?_⟩, ?_⟩
          · by_cases hjk : j = k
            · subst hjk; exact (isL_iff _).2 ⟨by omega, by omega⟩
            · exact HA.out j h (by omega)
          · simp [intOf]; omega
    · have dk : decide ((k : Int) < (name.size : Int)) = false := by simp; omega
      have hN : ∀ c ∈ name.data.toList, isL c.toNat = true := fun c hc => by
        obtain ⟨j, hj, rfl⟩ := List.getElem_of_mem hc
        rw [HLEN.out] at hj
        exact HA.out j hj (by omega)
      have hkp := Kept_any name w1
      have h3 := three_any name w1 (by omega) (by omega) hN HE1.out
      have hks := fun W => Kept_any (name ++ ⟨#[95]⟩) W
      rw [show (name ++ ⟨#[95]⟩ : ByteArray).data.toList = name.data.toList ++ [95] by rw [app_list], kept_snoc _ 95 (by decide)] at hks
      obtain ⟨b, hb⟩ : ∃ b, b = keptB name.data.toList := ⟨_, rfl⟩
      rw [← hb] at hkp h3
      have HKS := Lib.hid hks
      have E1 : ∀ W, (binOp .eql 26 (.agg #[.int .i64 0, .int .i64 0]) (.agg #[.int .i64 0, .int .i64 0])).run Tryd.prog W = .ok (.bool true) W := fun _ => by kernel_rfl
      clear HA hN hks hb HT HE1
      cases b
      · rw [if_neg (by decide)] at h3
        go_wp2_with fail
        refine hkp.mono ?_
        rintro e w2 ⟨rfl, rfl⟩
        go_wp2_with fail
        refine h3.mono ?_
        rintro e w2 ⟨hb2, g, c, rfl, hc, hcm, hgl, k0, k4, k8⟩
        have HB2 := Lib.hid (HB1.out.trans (hb2.mono HB1.out.size))
        clear hb2 h3 hkp
        go_wp2_with fail
        refine (HKS.out _).mono ?_
        rintro e w3 ⟨rfl, rfl⟩
        go_wp2_with fail
        go_ret
        exact ⟨rfl, HB2.out.alloc HB2.out.size _⟩
      · rw [if_pos rfl] at h3
        go_wp2_with fail
        refine hkp.mono ?_
        rintro e w2 ⟨rfl, rfl⟩
        go_wp2_with fail
        refine h3.mono ?_
        rintro e w2 ⟨hb2, g, c, rfl, hc, hcm, hgl, k0, k4, k8⟩
        have HB2 := Lib.hid (HB1.out.trans (hb2.mono HB1.out.size))
        clear hb2 h3 hkp
        go_wp2_with fail
        refine (HKS.out _).mono ?_
        rintro e w3 ⟨rfl, rfl⟩
        go_wp2_with fail
        go_ret
        exact ⟨rfl, HB2.out.alloc HB2.out.size _⟩

set_option maxRecDepth 100000 in
theorem lifted (os : Os) (started : os.Started) (H : Type) (enc : TypeId × Value → H) :
    ReturnsInHanded {} Tryd.checked os 7 .any (fun w args => (Rows.lexNamesSpec.pre enc Tryd.prog Tryd.f7 Rows.lexNamesRow.domain false w args ∧ laidMetH Tryd.prog LAID w) ∧ sizedMet enc Tryd.prog Tryd.f7 (OpenSpec.ofChange Rows.lexNamesSpec) false w args) (Rows.lexNamesSpec.post enc Tryd.prog Tryd.f7 false true false false) := by
  refine returnsInHanded_of_change_and (C := Tryd.checked) (X := fun w _ => laidMetH Tryd.prog LAID w) (fun _ _ _ hh h => h.of_heap hh) own started (by kernel_rfl) Tryd.func7
    (ChangeSpec.witness_shaped (enc := enc) (C := Tryd.checked) (os := os) (X := fun w _ => laidMetH Tryd.prog LAID w) false (World.laidAll Tryd.prog os LAID) #[.string ByteArray.empty] 8 (World.laidAll_os _ _ _)
      (World.shaped_of_ZipB (by kernel_rfl) (by kernel_rfl)) (by kernel_rfl) (by kernel_rfl) (by kernel_rfl)
      (by rw [MakeChecks.laidMetH_plain _ _ _ (by kernel_rfl)]; exact laidMet_laidAll _ (by kernel_rfl) (by kernel_rfl))) ?_
  intro W base args ds gs before hval0 hW hcnd hsz0 hL _
  have hT : Errs W := tab_of (by rw [MakeChecks.laidMetH_plain _ _ _ (by kernel_rfl)] at hL; exact hL)
  have hsz : (DataW.weightsEach Tryd.prog (Tryd.f7.params.toList ++ Rows.lexNamesSpec.plain.varTypes Tryd.prog) (ds ++ gs)).all (· ≤ reachBytes) = true := hsz0
  clear hsz0
  have hval : ∀ (j : Nat) t v, Tryd.f7.params[j]? = some t → args[j]? = some v → Value.okWide Tryd.prog W .any base t v := hval0
  have hW' := hW
  obtain ⟨p, q, hA0, hV, rfl, hfz, hnd⟩ := hW
  have hA : DataW.TrodAll enc Tryd.prog W 0 (fun _ => true) true Tryd.f7.params.toList args.toList ds p := hA0
  rw [Tryd.params7] at hA hval hsz
  obtain ⟨v0, vs0, d0, ds0, p0, q0, hargs, rfl, rfl, h0, r0⟩ := trodAll_cons hA
  obtain ⟨rfl, rfl, rfl⟩ := trodAll_nil r0
  obtain rfl : args = #[v0] := by cases args; simp_all
  obtain ⟨rfl, rfl⟩ := trodVars_none hV
  obtain ⟨name, rfl, rfl, rfl, m_name⟩ := open_string Tryd.underlying9 (hval 0 9 v0 rfl rfl) h0
  have w_name : name.size ≤ 140737488351232 := by have h := sized_string hsz (j := 0) rfl rfl; simpa [reachBytes] using h
  clear hA0 hval0
  refine (walk name W hT w_name).mono fun e W' ⟨he, bel⟩ => ?_
  subst he
  exact ⟨_, rfl, _, _, _, [], _, [], hW', trodAll_mk1 (shut_bool Tryd.underlying4 _), (trodAll_cons_mk (shut_string Tryd.underlying9 m_name) trodAll_mk0), rfl, bel.frame _, fun h => by cases h⟩

theorem over : Rows.lexNamesRow.holds Tryd.pinned (OpenSpec.ofChange Rows.lexNamesSpec) :=
  OpenClaim.holds_of_wide 7 Tryd.f7 rfl rfl rfl rfl rfl rfl rfl ⟨rfl, rfl, rfl, rfl, rfl⟩ rfl rfl rfl rfl rfl (by kernel_rfl) Tryd.func7 (by kernel_rfl)
    (of_decide_eq_true (by kernel_rfl)) (by unfold Func.isWrapper; first | (rw [if_pos (by decide +kernel)]; kernel_rfl) | (rw [if_neg (by decide +kernel)]; exact ⟨rfl, rfl⟩))
    (fun os started H enc _ => lifted os started H enc)

set_option maxRecDepth 100000 in
theorem proved : Rows.LexNamesCardSaid :=
  Claim7.holds_tied_plain_at .later [] [.data, .data, .data, .sentinel, .sentinel] true Rows.lexNamesCard.stood.harness true over (fun _ h => by cases h) (by kernel_rfl) (fun _ h => by cases h) lexNames_row_tie rfl ⟨rfl, rfl⟩ (by kernel_rfl) rfl
    (fun f fn hf hfn => by
      obtain rfl : f = 7 := Option.some.inj ((show Tryd.prog.funcNamed "escapement/escapementlaw4.LexNames" = some 7 by kernel_rfl).symm.trans hf) |>.symm
      obtain rfl : fn = Tryd.f7 := (Option.some.inj (Tryd.func7.symm.trans hfn)).symm
      exact ⟨by kernel_rfl, fun j t ht => by
        rw [Tryd.params7] at ht
        have hm : t ∈ ([9] : List TypeId) := by simpa using Array.mem_of_getElem? ht
        have hall : (([9] : List TypeId).all fun u => !Tryd.prog.wantsStandIn u) = true := by kernel_rfl
        exact (show Tryd.prog.wantsStandIn t = false by simpa using List.all_eq_true.1 hall t hm)⟩)
    (by kernel_rfl)
#print axioms proved
end Go.Proofs.YtccpgnkekkejcaaDoor.lexNames
