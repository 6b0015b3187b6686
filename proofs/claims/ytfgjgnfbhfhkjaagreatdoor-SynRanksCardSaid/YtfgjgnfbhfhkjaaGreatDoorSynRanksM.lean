/-
  Proved: SynRanks of escapementlaw5 returns true for every input, and leaves what it was handed as it was. No conditions.
-/
import Derived.Test.YtfgjgnfbhfhkjaaGreatDoorMe
import Derived.Test.YtfgjgnfbhfhkjaaGreatDoorRows
import Derived.Deep.QuietTactic
import Derived.BigQuiet
import Derived.WalkKit
import Derived.ProofKit
import Derived.OpenShut
import Derived.ShutString
import Derived.ChangeOld
import Derived.SizedLaws
import Derived.Test.YtfgjgnfbhfhkjaaGreatDoorTie
import Derived.Test.YtfgjgnfbhfhkjaaGreatDoorCards
import Derived.LaidMore
import Derived.Lay
import Derived.SevenTiedAt
import Derived.Stop.Joined
namespace Go.Proofs.YtfgjgnfbhfhkjaaGreatDoor.synRanks
open Go.ChangeShapes Go.WideShapes Go.ChangeAt Go.RowKit
open Go.ChangeMaps (open_string shut_string)
set_option linter.unusedVariables false

theorem own : ownKnob Tryz.prog.godebug = none := by kernel_rfl
theorem laidOut : laidOutB Tryz.prog = true := by kernel_rfl

def opBA : List ByteArray := [⟨#[45, 62]⟩, ⟨#[111, 114]⟩, ⟨#[120, 111, 114]⟩, ⟨#[97, 110, 100]⟩, ⟨#[61]⟩, ⟨#[60, 62]⟩, ⟨#[60]⟩, ⟨#[60, 61]⟩, ⟨#[62]⟩, ⟨#[62, 61]⟩, ⟨#[43]⟩, ⟨#[45]⟩, ⟨#[42]⟩, ⟨#[47]⟩, ⟨#[109, 111, 100]⟩, ⟨#[102, 98, 121]⟩]
def opB (i : Nat) : ByteArray := opBA.getD i ⟨#[]⟩
def rkN (i : Nat) : Nat := rkRank.getD i 0
theorem opC_at (j : Nat) (h : j < 16) : (#[.string ⟨#[45, 62]⟩, .string ⟨#[111, 114]⟩, .string ⟨#[120, 111, 114]⟩, .string ⟨#[97, 110, 100]⟩, .string ⟨#[61]⟩, .string ⟨#[60, 62]⟩, .string ⟨#[60]⟩, .string ⟨#[60, 61]⟩, .string ⟨#[62]⟩, .string ⟨#[62, 61]⟩, .string ⟨#[43]⟩, .string ⟨#[45]⟩, .string ⟨#[42]⟩, .string ⟨#[47]⟩, .string ⟨#[109, 111, 100]⟩, .string ⟨#[102, 98, 121]⟩] : Array Value)[j]? = some (.string (opB j)) := by
  have e : (#[.string ⟨#[45, 62]⟩, .string ⟨#[111, 114]⟩, .string ⟨#[120, 111, 114]⟩, .string ⟨#[97, 110, 100]⟩, .string ⟨#[61]⟩, .string ⟨#[60, 62]⟩, .string ⟨#[60]⟩, .string ⟨#[60, 61]⟩, .string ⟨#[62]⟩, .string ⟨#[62, 61]⟩, .string ⟨#[43]⟩, .string ⟨#[45]⟩, .string ⟨#[42]⟩, .string ⟨#[47]⟩, .string ⟨#[109, 111, 100]⟩, .string ⟨#[102, 98, 121]⟩] : Array Value) = (opBA.map Value.string).toArray := rfl
  rw [e, List.getElem?_toArray, List.getElem?_map]
  unfold opB
  rw [List.getD_eq_getElem?_getD]
  have hl : j < opBA.length := h
  rw [List.getElem?_eq_getElem hl]
  rfl
theorem rkC_at (j : Nat) (h : j < 16) : (#[.int .i64 0, .int .i64 1, .int .i64 1, .int .i64 2, .int .i64 3, .int .i64 3, .int .i64 3, .int .i64 3, .int .i64 3, .int .i64 3, .int .i64 4, .int .i64 4, .int .i64 5, .int .i64 5, .int .i64 5, .int .i64 6] : Array Value)[j]? = some (.int .i64 ((rkN j : Nat) : Int)) := by
  have e : (#[.int .i64 0, .int .i64 1, .int .i64 1, .int .i64 2, .int .i64 3, .int .i64 3, .int .i64 3, .int .i64 3, .int .i64 3, .int .i64 3, .int .i64 4, .int .i64 4, .int .i64 5, .int .i64 5, .int .i64 5, .int .i64 6] : Array Value) = (rkRank.map fun (n : Nat) => Value.int .i64 (n : Int)).toArray := rfl
  rw [e, List.getElem?_toArray, List.getElem?_map]
  unfold rkN
  rw [List.getD_eq_getElem?_getD]
  have hl : j < rkRank.length := h
  rw [List.getElem?_eq_getElem hl]
  rfl
theorem opB_list (j : Nat) (h : j < 16) : (opB j).data.toList = rkOps.getD j [] := by
  have e : rkOps = opBA.map (fun s => s.data.toList) := rfl
  unfold opB
  rw [e, List.getD_eq_getElem?_getD, List.getD_eq_getElem?_getD, List.getElem?_map]
  have hl : j < opBA.length := h
  rw [List.getElem?_eq_getElem hl]
  rfl
theorem app_list (a b : ByteArray) : (a ++ b).data.toList = a.data.toList ++ b.data.toList := by simp
theorem rk_text (i k : Nat) (hi : i < 16) (hk : k < 16) : (⟨#[110, 111, 100, 101, 32, 102, 40, 41, 32, 114, 101, 116, 117, 114, 110, 115, 32, 40, 121, 58, 32, 105, 110, 116, 41, 59, 32, 108, 101, 116, 32, 121, 32, 61, 32, 97, 32]⟩ ++ opB i ++ ⟨#[32, 98, 32]⟩ ++ opB k ++ ⟨#[32, 99, 59, 32, 116, 101, 108]⟩ : ByteArray) = ⟨(rkT i k).toArray⟩ := by
  apply bytes_inj
  simp only [app_list, opB_list i hi, opB_list k hk]
  rfl
theorem rk_all (i k : Nat) (hi : i < 16) (hk : k < 16) : rkOk i k = true := by
  have h : ((List.range 16).all fun k => rkOk i k) = true := by
    match i, hi with
    | 0, _ => exact rk_0
    | 1, _ => exact rk_1
    | 2, _ => exact rk_2
    | 3, _ => exact rk_3
    | 4, _ => exact rk_4
    | 5, _ => exact rk_5
    | 6, _ => exact rk_6
    | 7, _ => exact rk_7
    | 8, _ => exact rk_8
    | 9, _ => exact rk_9
    | 10, _ => exact rk_10
    | 11, _ => exact rk_11
    | 12, _ => exact rk_12
    | 13, _ => exact rk_13
    | 14, _ => exact rk_14
    | 15, _ => exact rk_15
    | _ + 16, h => omega
  rw [List.all_eq_true] at h
  exact h k (List.mem_range.2 hk)
theorem opB_size (j : Nat) : (opB j).size ≤ 3 := by
  by_cases h : j < 16
  · match j, h with
    | 0, _ | 1, _ | 2, _ | 3, _ | 4, _ | 5, _ | 6, _ | 7, _ | 8, _ | 9, _ | 10, _ | 11, _ | 12, _ | 13, _ | 14, _ | 15, _ => decide
    | _ + 16, h => omega
  · unfold opB
    rw [List.getD_eq_getElem?_getD, List.getElem?_eq_none (by show 16 ≤ j; omega)]
    decide
theorem rkWant_len (i k : Nat) (hi : i < 16) (hk : k < 16) : (rkWant i k).length ≤ 140737488355328 := by
  have h1 := opB_size i
  have h2 := opB_size k
  have e1 : (rkOps.getD i []).length = (opB i).size := by rw [← opB_list i hi]; simp
  have e2 : (rkOps.getD k []).length = (opB k).size := by rw [← opB_list k hk]; simp
  unfold rkWant
  split <;> simp only [List.length_append, List.length_cons, List.length_nil] <;> omega
theorem rk_wantL (i k : Nat) (hi : i < 16) (hk : k < 16) (h : rkLeft i k = true) : (⟨#[40, 40, 97, 32]⟩ ++ opB i ++ ⟨#[32, 98, 41, 32]⟩ ++ opB k ++ ⟨#[32, 99, 41]⟩ : ByteArray) = ⟨(rkWant i k).toArray⟩ := by
  apply bytes_inj
  unfold rkWant
  rw [if_pos h]
  simp only [app_list, opB_list i hi, opB_list k hk]
theorem rk_wantR (i k : Nat) (hi : i < 16) (hk : k < 16) (h : rkLeft i k = false) : (⟨#[40, 97, 32]⟩ ++ opB i ++ ⟨#[32, 40, 98, 32]⟩ ++ opB k ++ ⟨#[32, 99, 41, 41]⟩ : ByteArray) = ⟨(rkWant i k).toArray⟩ := by
  apply bytes_inj
  unfold rkWant
  rw [if_neg (by rw [h]; decide)]
  simp only [app_list, opB_list i hi, opB_list k hk]
/-- What Parse answers, as the statement asks. -/
theorem rk_res (i k : Nat) (hi : i < 16) (hk : k < 16) : ∃ (c : Nat) (l : List Nd), ((c = 0 ∧ parseS ⟨(rkT i k).toArray⟩ = .ok l) ∨ (c ≠ 0 ∧ ∃ ea, parseS ⟨(rkT i k).toArray⟩ = .error (c, ea))) ∧ ((rkN i = 3 ∧ rkN k = 3 ∧ c = 7) ∨ (¬ (rkN i = 3 ∧ rkN k = 3) ∧ c = 0 ∧ ∃ nd q, l = [nd] ∧ nd.eqs = [q] ∧ textE q.e = rkWant i k)) := by
  have h := rk_all i k hi hk
  unfold rkOk at h
  cases hp : parseS ⟨(rkT i k).toArray⟩ with
  | error ep =>
    obtain ⟨e, ea⟩ := ep
    rw [hp] at h
    simp only [Bool.and_eq_true, beq_iff_eq] at h
    obtain ⟨⟨h1, h2⟩, rfl⟩ := h
    exact ⟨7, [], .inr ⟨by decide, ea, rfl⟩, .inl ⟨h1, h2, rfl⟩⟩
  | ok l =>
    rw [hp] at h
    match l, h with
    | [nd], h =>
      simp only [Bool.and_eq_true, Bool.not_eq_true', Bool.and_eq_false_imp, beq_iff_eq, beq_eq_false_iff_ne] at h
      refine ⟨0, [nd], .inl ⟨rfl, rfl⟩, .inr ⟨fun ⟨a, b⟩ => h.1 a b, rfl, nd, ?_⟩⟩
      have h2 := h.2
      split at h2
      · rename_i q hq
        exact ⟨q, rfl, hq, by simpa using h2⟩
      · cases h2

set_option maxHeartbeats 8000000 in
set_option maxRecDepth 100000 in
theorem walk (i : Int) (k : Int) (w : World) (hT : STab w) (w_i : (Lit.int .i64 i).wf = true) (w_k : (Lit.int .i64 k).wf = true) :
    Calls Tryz.prog 6 #[.int .i64 i, .int .i64 k] w fun e w' => e = .returned (.bool true) ∧ Below w.heap.size w w' := by
  have HT := Lib.hid hT
  have HSF := Lib.hid size_fault2
  clear hT w_i w_k
  go_enter Tryz.func6, Tryz.ntmps6
  go_wp2_with fail
  (with_reducible refine (awake_any w HT.out).mono ?_)
  rintro e w1 ⟨rfl, hb1⟩
  have HT1 := Lib.hid (HT.out.below hb1)
  have HB1 := Lib.hid hb1
  have hbw : Below w1.heap.size w1 ((w1.alloc (.cells #[.string ⟨#[45, 62]⟩, .string ⟨#[111, 114]⟩, .string ⟨#[120, 111, 114]⟩, .string ⟨#[97, 110, 100]⟩, .string ⟨#[61]⟩, .string ⟨#[60, 62]⟩, .string ⟨#[60]⟩, .string ⟨#[60, 61]⟩, .string ⟨#[62]⟩, .string ⟨#[62, 61]⟩, .string ⟨#[43]⟩, .string ⟨#[45]⟩, .string ⟨#[42]⟩, .string ⟨#[47]⟩, .string ⟨#[109, 111, 100]⟩, .string ⟨#[102, 98, 121]⟩] 9)).alloc (.cells #[.int .i64 0, .int .i64 1, .int .i64 1, .int .i64 2, .int .i64 3, .int .i64 3, .int .i64 3, .int .i64 3, .int .i64 3, .int .i64 3, .int .i64 4, .int .i64 4, .int .i64 5, .int .i64 5, .int .i64 5, .int .i64 6] 3)) := ((Below.refl _ _).alloc (Nat.le_refl _) _).alloc (by simp) _
  have hr1 : ((w1.alloc (.cells #[.string ⟨#[45, 62]⟩, .string ⟨#[111, 114]⟩, .string ⟨#[120, 111, 114]⟩, .string ⟨#[97, 110, 100]⟩, .string ⟨#[61]⟩, .string ⟨#[60, 62]⟩, .string ⟨#[60]⟩, .string ⟨#[60, 61]⟩, .string ⟨#[62]⟩, .string ⟨#[62, 61]⟩, .string ⟨#[43]⟩, .string ⟨#[45]⟩, .string ⟨#[42]⟩, .string ⟨#[47]⟩, .string ⟨#[109, 111, 100]⟩, .string ⟨#[102, 98, 121]⟩] 9)).alloc (.cells #[.int .i64 0, .int .i64 1, .int .i64 1, .int .i64 2, .int .i64 3, .int .i64 3, .int .i64 3, .int .i64 3, .int .i64 3, .int .i64 3, .int .i64 4, .int .i64 4, .int .i64 5, .int .i64 5, .int .i64 5, .int .i64 6] 3)).heap[w1.heap.size]? = some (.cells #[.string ⟨#[45, 62]⟩, .string ⟨#[111, 114]⟩, .string ⟨#[120, 111, 114]⟩, .string ⟨#[97, 110, 100]⟩, .string ⟨#[61]⟩, .string ⟨#[60, 62]⟩, .string ⟨#[60]⟩, .string ⟨#[60, 61]⟩, .string ⟨#[62]⟩, .string ⟨#[62, 61]⟩, .string ⟨#[43]⟩, .string ⟨#[45]⟩, .string ⟨#[42]⟩, .string ⟨#[47]⟩, .string ⟨#[109, 111, 100]⟩, .string ⟨#[102, 98, 121]⟩] 9 (0, 0)) := by
    rw [Below.heap_alloc _ _ _ (by simp)]
    exact heap_alloc_new w1 _
  have hr2 : ((w1.alloc (.cells #[.string ⟨#[45, 62]⟩, .string ⟨#[111, 114]⟩, .string ⟨#[120, 111, 114]⟩, .string ⟨#[97, 110, 100]⟩, .string ⟨#[61]⟩, .string ⟨#[60, 62]⟩, .string ⟨#[60]⟩, .string ⟨#[60, 61]⟩, .string ⟨#[62]⟩, .string ⟨#[62, 61]⟩, .string ⟨#[43]⟩, .string ⟨#[45]⟩, .string ⟨#[42]⟩, .string ⟨#[47]⟩, .string ⟨#[109, 111, 100]⟩, .string ⟨#[102, 98, 121]⟩] 9)).alloc (.cells #[.int .i64 0, .int .i64 1, .int .i64 1, .int .i64 2, .int .i64 3, .int .i64 3, .int .i64 3, .int .i64 3, .int .i64 3, .int .i64 3, .int .i64 4, .int .i64 4, .int .i64 5, .int .i64 5, .int .i64 5, .int .i64 6] 3)).heap[w1.heap.size + 1]? = some (.cells #[.int .i64 0, .int .i64 1, .int .i64 1, .int .i64 2, .int .i64 3, .int .i64 3, .int .i64 3, .int .i64 3, .int .i64 3, .int .i64 3, .int .i64 4, .int .i64 4, .int .i64 5, .int .i64 5, .int .i64 5, .int .i64 6] 3 (0, 0)) := by
    have h := heap_alloc_new (w1.alloc (.cells #[.string ⟨#[45, 62]⟩, .string ⟨#[111, 114]⟩, .string ⟨#[120, 111, 114]⟩, .string ⟨#[97, 110, 100]⟩, .string ⟨#[61]⟩, .string ⟨#[60, 62]⟩, .string ⟨#[60]⟩, .string ⟨#[60, 61]⟩, .string ⟨#[62]⟩, .string ⟨#[62, 61]⟩, .string ⟨#[43]⟩, .string ⟨#[45]⟩, .string ⟨#[42]⟩, .string ⟨#[47]⟩, .string ⟨#[109, 111, 100]⟩, .string ⟨#[102, 98, 121]⟩] 9)) (.cells #[.int .i64 0, .int .i64 1, .int .i64 1, .int .i64 2, .int .i64 3, .int .i64 3, .int .i64 3, .int .i64 3, .int .i64 3, .int .i64 3, .int .i64 4, .int .i64 4, .int .i64 5, .int .i64 5, .int .i64 5, .int .i64 6] 3)
    simpa using h
  obtain ⟨W0, hW0⟩ : ∃ W, W = (w1.alloc (.cells #[.string ⟨#[45, 62]⟩, .string ⟨#[111, 114]⟩, .string ⟨#[120, 111, 114]⟩, .string ⟨#[97, 110, 100]⟩, .string ⟨#[61]⟩, .string ⟨#[60, 62]⟩, .string ⟨#[60]⟩, .string ⟨#[60, 61]⟩, .string ⟨#[62]⟩, .string ⟨#[62, 61]⟩, .string ⟨#[43]⟩, .string ⟨#[45]⟩, .string ⟨#[42]⟩, .string ⟨#[47]⟩, .string ⟨#[109, 111, 100]⟩, .string ⟨#[102, 98, 121]⟩] 9)).alloc (.cells #[.int .i64 0, .int .i64 1, .int .i64 1, .int .i64 2, .int .i64 3, .int .i64 3, .int .i64 3, .int .i64 3, .int .i64 3, .int .i64 3, .int .i64 4, .int .i64 4, .int .i64 5, .int .i64 5, .int .i64 5, .int .i64 6] 3) := ⟨_, rfl⟩
  rw [← hW0] at hbw hr1 hr2
  have HW0 := Lib.hid hW0
  have HBW := Lib.hid (hb1.trans (hbw.mono hb1.size))
  have HTW := Lib.hid (HT1.out.below hbw)
  have HR1 := Lib.hid hr1
  have HR2 := Lib.hid hr2
  clear hb1 HT HT1 hbw hr1 hr2 hW0
  by_cases c1 : i < 0
  · have d1 : decide (i < 0) = true := by simpa using c1
    clear c1
    go_wp2_with fail
    go_ret
    rw [← HW0.out]
    exact ⟨rfl, HBW.out⟩
  have d1 : decide (i < 0) = false := by simpa using c1
  by_cases c2 : 16 ≤ i
  · have d2 : decide ((16 : Int) ≤ i) = true := by simpa using c2
    clear c1 c2
    go_wp2_with fail
    go_ret
    rw [← HW0.out]
    exact ⟨rfl, HBW.out⟩
  have d2 : decide ((16 : Int) ≤ i) = false := by simpa using c2
  by_cases c3 : k < 0
  · have d3 : decide (k < 0) = true := by simpa using c3
    clear c1 c2 c3
    go_wp2_with fail
    go_ret
    rw [← HW0.out]
    exact ⟨rfl, HBW.out⟩
  have d3 : decide (k < 0) = false := by simpa using c3
  by_cases c4 : 16 ≤ k
  · have d4 : decide ((16 : Int) ≤ k) = true := by simpa using c4
    clear c1 c2 c3 c4
    go_wp2_with fail
    go_ret
    rw [← HW0.out]
    exact ⟨rfl, HBW.out⟩
  have d4 : decide ((16 : Int) ≤ k) = false := by simpa using c4
  obtain ⟨I, rfl⟩ : ∃ N : Nat, i = (N : Int) := ⟨i.toNat, by omega⟩
  obtain ⟨K, rfl⟩ : ∃ N : Nat, k = (N : Int) := ⟨k.toNat, by omega⟩
  have hI : I < 16 := by omega
  have hK : K < 16 := by omega
  clear c1 c2 c3 c4
  go_wp2_with fail
  rw [← HW0.out]
  have hxI : ∀ W, (Instr.indexAt 46 (.slice (some ⟨w1.heap.size, 0, none⟩) 16 16) (.int .i64 (I : Int))).run Tryz.prog W = .ok (.pointer (some ⟨w1.heap.size, I, none⟩)) W := fun W => by have h := idx_str w1.heap.size 0 16 16 I hI W; rwa [Nat.zero_add] at h
  have hxK : ∀ W, (Instr.indexAt 46 (.slice (some ⟨w1.heap.size, 0, none⟩) 16 16) (.int .i64 (K : Int))).run Tryz.prog W = .ok (.pointer (some ⟨w1.heap.size, K, none⟩)) W := fun W => by have h := idx_str w1.heap.size 0 16 16 K hK W; rwa [Nat.zero_add] at h
  have hcI : W0.cell? ⟨w1.heap.size, I, none⟩ = some (.string (opB I)) := by rw [cell_of_row W0 w1.heap.size I _ _ _ HR1.out]; exact opC_at I hI
  have hcK : W0.cell? ⟨w1.heap.size, K, none⟩ = some (.string (opB K)) := by rw [cell_of_row W0 w1.heap.size K _ _ _ HR1.out]; exact opC_at K hK
  have htx := rk_text I K hI hK
  obtain ⟨c, l, hcl, hres⟩ := rk_res I K hI hK
  have hsI := opB_size I
  have hsK := opB_size K
  obtain ⟨TX, hTX⟩ : ∃ t : ByteArray, t = ⟨(rkT I K).toArray⟩ := ⟨_, rfl⟩
  rw [← hTX] at htx hcl
  obtain ⟨oI, hoI⟩ : ∃ o, o = opB I := ⟨_, rfl⟩
  obtain ⟨oK, hoK⟩ : ∃ o, o = opB K := ⟨_, rfl⟩
  rw [← hoI] at hcI hsI htx
  rw [← hoK] at hcK hsK htx
  have HOI := Lib.hid hoI
  have HOK := Lib.hid hoK
  have HTX := Lib.hid htx
  have hsx : TX.size ≤ 140737488351232 := by
    rw [← htx]
    have h : ∀ (a b c d e : ByteArray), a.size ≤ 1000 → b.size ≤ 1000 → c.size ≤ 1000 → d.size ≤ 1000 → e.size ≤ 1000 → (a ++ b ++ c ++ d ++ e).size ≤ 140737488351232 := fun a b c d e h1 h2 h3 h4 h5 => by
      simp only [ByteArray.size_append]
      omega
    exact h _ _ _ _ _ (by decide) (by omega) (by decide) (by omega) (by decide)
  have HLX : Hid ((⟨#[110, 111, 100, 101, 32, 102, 40, 41, 32, 114, 101, 116, 117, 114, 110, 115, 32, 40, 121, 58, 32, 105, 110, 116, 41, 59, 32, 108, 101, 116, 32, 121, 32, 61, 32, 97, 32]⟩ ++ oI ++ ⟨#[32, 98, 32]⟩ ++ oK).size + ((⟨#[32, 99, 59, 32, 116, 101, 108]⟩ : ByteArray)).size ≤ 9223372036854775807) := Lib.hid (by have h := congrArg ByteArray.size htx; simp only [ByteArray.size_append] at h ⊢; omega)
  have HL2 : Hid ((⟨#[110, 111, 100, 101, 32, 102, 40, 41, 32, 114, 101, 116, 117, 114, 110, 115, 32, 40, 121, 58, 32, 105, 110, 116, 41, 59, 32, 108, 101, 116, 32, 121, 32, 61, 32, 97, 32]⟩ ++ oI).size + ((⟨#[32, 98, 32]⟩ : ByteArray)).size ≤ 9223372036854775807) := Lib.hid (by have h := HLX.out; simp only [ByteArray.size_append] at h ⊢; omega)
  have HL1 : Hid (((⟨#[110, 111, 100, 101, 32, 102, 40, 41, 32, 114, 101, 116, 117, 114, 110, 115, 32, 40, 121, 58, 32, 105, 110, 116, 41, 59, 32, 108, 101, 116, 32, 121, 32, 61, 32, 97, 32]⟩ : ByteArray)).size + oI.size ≤ 9223372036854775807) := Lib.hid (by have h := HL2.out; rw [← ByteArray.size_append]; omega)
  have HL3 : Hid ((⟨#[110, 111, 100, 101, 32, 102, 40, 41, 32, 114, 101, 116, 117, 114, 110, 115, 32, 40, 121, 58, 32, 105, 110, 116, 41, 59, 32, 108, 101, 116, 32, 121, 32, 61, 32, 97, 32]⟩ ++ oI ++ ⟨#[32, 98, 32]⟩).size + oK.size ≤ 9223372036854775807) := Lib.hid (by have h := HLX.out; simp only [ByteArray.size_append] at h ⊢; omega)
  have KP := Lib.hid (fun W hT => parse_par TX c l hcl W hsx hT)
  have HRES := Lib.hid hres
  have HCL := Lib.hid hcl
  have HG1 : Hid (w1.heap.size < W0.heap.size) := Lib.hid (Array.getElem?_eq_some_iff.1 HR1.out).1
  clear hoI hoK htx hcl hres hTX hsx hsI hsK
  refine wp_region_steps_then (words [wIs (.slice (some ⟨w1.heap.size, 0, none⟩) 16 16), wIs (.int .i64 (I : Int)), wIs (.pointer (some ⟨w1.heap.size, I, none⟩)), wIs (.string oI), wIs (.string (⟨#[110, 111, 100, 101, 32, 102, 40, 41, 32, 114, 101, 116, 117, 114, 110, 115, 32, 40, 121, 58, 32, 105, 110, 116, 41, 59, 32, 108, 101, 116, 32, 121, 32, 61, 32, 97, 32]⟩ ++ oI)), wIs (.string (⟨#[110, 111, 100, 101, 32, 102, 40, 41, 32, 114, 101, 116, 117, 114, 110, 115, 32, 40, 121, 58, 32, 105, 110, 116, 41, 59, 32, 108, 101, 116, 32, 121, 32, 61, 32, 97, 32]⟩ ++ oI ++ ⟨#[32, 98, 32]⟩)), wIs (.slice (some ⟨w1.heap.size, 0, none⟩) 16 16), wIs (.int .i64 (K : Int)), wIs (.pointer (some ⟨w1.heap.size, K, none⟩)), wIs (.string oK), wIs (.string (⟨#[110, 111, 100, 101, 32, 102, 40, 41, 32, 114, 101, 116, 117, 114, 110, 115, 32, 40, 121, 58, 32, 105, 110, 116, 41, 59, 32, 108, 101, 116, 32, 121, 32, 61, 32, 97, 32]⟩ ++ oI ++ ⟨#[32, 98, 32]⟩ ++ oK)), wIs (.string TX), wPar c l, wPar c l, gN c l, wFau c, wZf W0.heap.size, gN c l]) W0.heap.size W0 (by kernel_rfl) (Below.refl _ _) (Nat.le_refl _) (words_stable ?stab) rfl rfl rfl (by kernel_rfl) _ rfl ?steps ?last
  case stab =>
    intro f hf
    simp only [List.mem_cons, List.not_mem_nil, or_false] at hf
    rcases hf with rfl | rfl | rfl | rfl | rfl | rfl | rfl | rfl | rfl | rfl | rfl | rfl | rfl | rfl | rfl | rfl | rfl | rfl <;> first | exact stable_is _ | exact stable_par _ _ | exact stable_gN _ _ | exact stable_fau _ | exact stable_zf _
  case steps =>
    refine Steps.cons (step_value rfl fun xa W hp => ⟨wanted_none rfl, _, _, run_move (.inl rfl), hp.old 5 rfl, Below.refl _ _⟩) ?_
    refine Steps.cons (step_value rfl fun xa W hp => ⟨wanted_none rfl, _, _, run_move (.inl rfl), hp.old 0 rfl, Below.refl _ _⟩) ?_
    refine Steps.cons (step_value rfl fun xa W hp => ?_) ?_
    · have f1 : xa.tmps.getD 34 undef = (.slice (some ⟨w1.heap.size, 0, none⟩) 16 16) := (hp.on_ 0 rfl rfl rfl).2
      have f2 : xa.tmps.getD 35 undef = .int .i64 (I : Int) := (hp.on_ 1 rfl rfl rfl).2
      refine ⟨wanted_none rfl, _, _, run_ia rfl ?_, rfl, Below.refl _ _⟩
      show (Instr.indexAt _ (xa.tmps.getD 34 undef) (xa.tmps.getD 35 undef)).run _ W = _
      rw [f1, f2]
      exact hxI W
    refine Steps.cons (step_value rfl fun xa W hp => ?_) ?_
    · have f1 : xa.tmps.getD 36 undef = (.pointer (some ⟨w1.heap.size, I, none⟩)) := (hp.on_ 2 rfl rfl rfl).2
      exact ⟨wanted_none rfl, _, _, run_ldstr rfl f1 (cell_low hp.below HG1.out hcI), rfl, Below.refl _ _⟩
    refine Steps.cons (step_value rfl fun xa W hp => ?_) ?_
    · exact ⟨wanted_none rfl, _, _, run_sadd rfl rfl (hp.on_ 3 rfl rfl rfl).2 HL1.out, rfl, Below.refl _ _⟩
    refine Steps.cons (step_value rfl fun xa W hp => ?_) ?_
    · exact ⟨wanted_none rfl, _, _, run_sadd rfl (hp.on_ 4 rfl rfl rfl).2 rfl HL2.out, rfl, Below.refl _ _⟩
    refine Steps.cons (step_value rfl fun xa W hp => ⟨wanted_none rfl, _, _, run_move (.inl rfl), hp.old 5 rfl, Below.refl _ _⟩) ?_
    refine Steps.cons (step_value rfl fun xa W hp => ⟨wanted_none rfl, _, _, run_move (.inl rfl), hp.old 1 rfl, Below.refl _ _⟩) ?_
    refine Steps.cons (step_value rfl fun xa W hp => ?_) ?_
    · have f1 : xa.tmps.getD 40 undef = (.slice (some ⟨w1.heap.size, 0, none⟩) 16 16) := (hp.on_ 6 rfl rfl rfl).2
      have f2 : xa.tmps.getD 41 undef = .int .i64 (K : Int) := (hp.on_ 7 rfl rfl rfl).2
      refine ⟨wanted_none rfl, _, _, run_ia rfl ?_, rfl, Below.refl _ _⟩
      show (Instr.indexAt _ (xa.tmps.getD 40 undef) (xa.tmps.getD 41 undef)).run _ W = _
      rw [f1, f2]
      exact hxK W
    refine Steps.cons (step_value rfl fun xa W hp => ?_) ?_
    · have f1 : xa.tmps.getD 42 undef = (.pointer (some ⟨w1.heap.size, K, none⟩)) := (hp.on_ 8 rfl rfl rfl).2
      exact ⟨wanted_none rfl, _, _, run_ldstr rfl f1 (cell_low hp.below HG1.out hcK), rfl, Below.refl _ _⟩
    refine Steps.cons (step_value rfl fun xa W hp => ?_) ?_
    · exact ⟨wanted_none rfl, _, _, run_sadd rfl (hp.on_ 5 rfl rfl rfl).2 (hp.on_ 9 rfl rfl rfl).2 HL3.out, rfl, Below.refl _ _⟩
    refine Steps.cons (step_value rfl fun xa W hp => ?_) ?_
    · have f1 : xa.tmps.getD 44 undef = .string (⟨#[110, 111, 100, 101, 32, 102, 40, 41, 32, 114, 101, 116, 117, 114, 110, 115, 32, 40, 121, 58, 32, 105, 110, 116, 41, 59, 32, 108, 101, 116, 32, 121, 32, 61, 32, 97, 32]⟩ ++ oI ++ ⟨#[32, 98, 32]⟩ ++ oK) := (hp.on_ 10 rfl rfl rfl).2
      refine ⟨wanted_none rfl, _, _, run_sadd rfl f1 rfl HLX.out, ?_, Below.refl _ _⟩
      show _ = _
      rw [HTX.out]
    refine Steps.cons (step_enter rfl fun xa W hp => ?_) ?_
    · have f1 : xa.tmps.getD 45 undef = .string TX := (hp.on_ 11 rfl rfl rfl).2
      refine ⟨wanted_none rfl, 11, _, run_enter1 rfl rfl Tryz.call11, ?_⟩
      show Calls _ _ #[xa.tmps.getD 45 undef] W _
      rw [f1]
      exact KP.out W (HTW.out.below hp.below)
    refine Steps.cons (step_value rfl fun xa W hp => ⟨wanted_none rfl, _, _, run_move (.inl rfl), (hp.on_ 12 rfl rfl rfl).2, Below.refl _ _⟩) ?_
    refine Steps.cons (step_value rfl fun xa W hp => ?_) ?_
    · obtain ⟨v0, ea, e0, hg0⟩ : wPar c l (xa.tmps.getD 33 undef) W := (hp.on_ 13 rfl rfl rfl).2
      exact ⟨wanted_none rfl, _, _, run_ex rfl e0 rfl, hg0, Below.refl _ _⟩
    refine Steps.cons (step_value rfl fun xa W hp => ?_) ?_
    · obtain ⟨v0, ea, e0, hg0⟩ : wPar c l (xa.tmps.getD 33 undef) W := (hp.on_ 13 rfl rfl rfl).2
      exact ⟨wanted_none rfl, _, _, run_ex rfl e0 rfl, ⟨ea, rfl⟩, Below.refl _ _⟩
    refine Steps.cons (step_value rfl fun xa W hp => ?_) ?_
    · exact ⟨wanted_none rfl, _, _, run_alf rfl, ⟨_, rfl, hp.below.size, heap_alloc_new W _⟩, (Below.refl _ _).alloc (Nat.le_refl _) _⟩
    refine Steps.cons (step_value rfl fun xa W hp => ⟨wanted_none rfl, _, _, run_move (.inr rfl), (hp.on_ 14 rfl rfl rfl).2, Below.refl _ _⟩) ?_
    exact Steps.nil
  case last =>
    intro a W hI
    have k0 : a.tmps.getD 0 undef = .int .i64 (I : Int) := hI.old 0 (by simp)
    have k1 : a.tmps.getD 1 undef = .int .i64 (K : Int) := hI.old 1 (by simp)
    have k5 : a.tmps.getD 5 undef = (.slice (some ⟨w1.heap.size, 0, none⟩) 16 16) := hI.old 5 (by simp)
    have k6 : a.tmps.getD 6 undef = (.slice (some ⟨w1.heap.size + 1, 0, none⟩) 16 16) := hI.old 6 (by simp)
    have f7 : gN c l (a.tmps.getD 7 undef) W := hI.new 17 _ 7 rfl rfl rfl
    obtain ⟨gz, k8, hgz, hrz⟩ : wZf W0.heap.size (a.tmps.getD 8 undef) W := hI.new 16 _ 8 rfl rfl rfl
    obtain ⟨ea, k48⟩ : wFau c (a.tmps.getD 48 undef) W := hI.new 15 _ 48 rfl rfl rfl
    have hdf : a.defers = [] := hI.defers
    have hsz9 : a.tmps.size = 151 := hI.tmps
    have hbel := hI.below
    clear hI hxI hxK hcI hcK
    refine wpOp_of rfl (wanted_none rfl) ?_
    refine wp_store_row 26 (.tmp 8) (.tmp 48) rfl gz #[.int .i64 (c : Int), .int .i64 ea] k8 k48 26 _ hrz HSF.out rfl (fault_one _ _) ?_
    have hset := setRow_heap W gz _ #[.int .i64 (c : Int), .int .i64 ea] _ _ hrz
    have hbs : Below W0.heap.size W0 (W.setRow gz #[.int .i64 (c : Int), .int .i64 ea]) := below_setRow hbel hgz _
    have hgn : gN c l (a.tmps.getD 7 undef) (W.setRow gz #[.int .i64 (c : Int), .int .i64 ea]) := gN_row f7 hrz
    generalize W.setRow gz #[.int .i64 (c : Int), .int .i64 ea] = W3 at hset hbs hgn ⊢
    obtain ⟨v7, k7⟩ : ∃ v, a.tmps.getD 7 undef = v := ⟨_, rfl⟩
    rw [k7] at hgn
    have HGN := Lib.hid hgn
    have HBS := Lib.hid hbs
    have HST := Lib.hid hset
    clear f7 hrz hbel hset hbs hgn k48
    obtain ⟨f, hf, hx⟩ := act_eta hsz9 hdf
    rw [hf] at k0 k1 k5 k6 k7 k8
    clear hf hsz9 hdf
    subst hx
    have hl9 : ((List.range 151).map f).toArray = (f 0 :: f 1 :: f 2 :: f 3 :: f 4 :: f 5 :: f 6 :: f 7 :: f 8 :: f 9 :: f 10 :: f 11 :: f 12 :: f 13 :: f 14 :: f 15 :: f 16 :: f 17 :: f 18 :: f 19 :: f 20 :: f 21 :: f 22 :: f 23 :: f 24 :: f 25 :: f 26 :: f 27 :: f 28 :: f 29 :: f 30 :: f 31 :: f 32 :: f 33 :: f 34 :: f 35 :: f 36 :: f 37 :: f 38 :: f 39 :: f 40 :: f 41 :: f 42 :: f 43 :: f 44 :: f 45 :: f 46 :: f 47 :: f 48 :: f 49 :: f 50 :: f 51 :: f 52 :: f 53 :: f 54 :: f 55 :: f 56 :: f 57 :: f 58 :: f 59 :: f 60 :: f 61 :: f 62 :: f 63 :: f 64 :: f 65 :: f 66 :: f 67 :: f 68 :: f 69 :: f 70 :: f 71 :: f 72 :: f 73 :: f 74 :: f 75 :: f 76 :: f 77 :: f 78 :: f 79 :: f 80 :: f 81 :: f 82 :: f 83 :: f 84 :: f 85 :: f 86 :: f 87 :: f 88 :: f 89 :: f 90 :: f 91 :: f 92 :: f 93 :: f 94 :: f 95 :: f 96 :: f 97 :: f 98 :: f 99 :: f 100 :: f 101 :: f 102 :: f 103 :: f 104 :: f 105 :: f 106 :: f 107 :: f 108 :: f 109 :: f 110 :: f 111 :: f 112 :: f 113 :: f 114 :: f 115 :: f 116 :: f 117 :: f 118 :: f 119 :: f 120 :: f 121 :: f 122 :: f 123 :: f 124 :: f 125 :: f 126 :: f 127 :: f 128 :: f 129 :: f 130 :: f 131 :: f 132 :: f 133 :: f 134 :: f 135 :: f 136 :: f 137 :: f 138 :: f 139 :: f 140 :: f 141 :: f 142 :: f 143 :: f 144 :: f 145 :: f 146 :: f 147 :: f 148 :: f 149 :: f 150 :: [] : List Value).toArray := rfl
    simp only [Exit.then, Act.put]
    rw [hl9, k0, k1, k5, k6, k7, k8]
    clear hl9 k0 k1 k5 k6 k7 k8
    have hg1 : w1.heap.size + 1 < W0.heap.size := (Array.getElem?_eq_some_iff.1 HR2.out).1
    have HQ2 := Lib.hid ((HBS.out.block (w1.heap.size + 1) hg1).trans HR2.out)
    have HQ1 := Lib.hid ((HBS.out.block w1.heap.size HG1.out).trans HR1.out)
    have hyI : ∀ W, (Instr.indexAt 47 (.slice (some ⟨w1.heap.size + 1, 0, none⟩) 16 16) (.int .i64 (I : Int))).run Tryz.prog W = .ok (.pointer (some ⟨w1.heap.size + 1, I, none⟩)) W := fun W => by have h := idx_int (w1.heap.size + 1) 0 16 16 I hI W; rwa [Nat.zero_add] at h
    have hyK : ∀ W, (Instr.indexAt 47 (.slice (some ⟨w1.heap.size + 1, 0, none⟩) 16 16) (.int .i64 (K : Int))).run Tryz.prog W = .ok (.pointer (some ⟨w1.heap.size + 1, K, none⟩)) W := fun W => by have h := idx_int (w1.heap.size + 1) 0 16 16 K hK W; rwa [Nat.zero_add] at h
    have hdI : W3.cell? ⟨w1.heap.size + 1, I, none⟩ = some (.int .i64 ((rkN I : Nat) : Int)) := by rw [cell_of_row W3 (w1.heap.size + 1) I _ _ _ HQ2.out]; exact rkC_at I hI
    have hdK : W3.cell? ⟨w1.heap.size + 1, K, none⟩ = some (.int .i64 ((rkN K : Nat) : Int)) := by rw [cell_of_row W3 (w1.heap.size + 1) K _ _ _ HQ2.out]; exact rkC_at K hK
    obtain ⟨rI, hrI⟩ : ∃ r, r = rkN I := ⟨_, rfl⟩
    obtain ⟨rK, hrK⟩ : ∃ r, r = rkN K := ⟨_, rfl⟩
    rw [← hrI] at hdI HRES
    rw [← hrK] at hdK HRES
    have z0 := cell_of_row W3 gz 0 _ _ _ HST.out
    have HRI := Lib.hid hrI
    have HRK := Lib.hid hrK
    have HB9 := Lib.hid (HBW.out.trans (HBS.out.mono HBW.out.size))
    clear hrI hrK HR1 HR2 HTX HL1 HL2 HL3 HLX KP HW0 hg1
    by_cases hres : rI = 3 ∧ rK = 3 ∧ c = 7
    · obtain ⟨rfl, rfl, rfl⟩ := hres
      clear HRES
      go_wp2_with fail
      go_ret
      exact ⟨rfl, HB9.out⟩
    · have hres2 := HRES.out.resolve_left hres
      obtain ⟨hn3, hc0, nd, q, hl, heq, htq⟩ := hres2
      have hpk : parseS TX = .ok [nd] := by rcases HCL.out with h | h; rw [← hl]; exact h.2; exact absurd hc0 h.1
      have HPK := Lib.hid hpk
      clear hpk
      subst hc0
      subst hl
      clear HRES hres
      obtain ⟨x, cc, B, rfl, hBW, hNV⟩ := HGN.out rfl
      clear HGN
      have hlen1 : (List.length [nd]) = 1 := rfl
      rw [hlen1] at hNV ⊢
      have HNV := Lib.hid hNV
      clear hNV hlen1
      have hxI : ∀ W, (Instr.indexAt 46 (.slice (some ⟨w1.heap.size, 0, none⟩) 16 16) (.int .i64 (I : Int))).run Tryz.prog W = .ok (.pointer (some ⟨w1.heap.size, I, none⟩)) W := fun W => by have h := idx_str w1.heap.size 0 16 16 I hI W; rwa [Nat.zero_add] at h
      have hxK : ∀ W, (Instr.indexAt 46 (.slice (some ⟨w1.heap.size, 0, none⟩) 16 16) (.int .i64 (K : Int))).run Tryz.prog W = .ok (.pointer (some ⟨w1.heap.size, K, none⟩)) W := fun W => by have h := idx_str w1.heap.size 0 16 16 K hK W; rwa [Nat.zero_add] at h
      have hcI : W3.cell? ⟨w1.heap.size, I, none⟩ = some (.string oI) := by rw [cell_of_row W3 w1.heap.size I _ _ _ HQ1.out, HOI.out]; exact opC_at I hI
      have hcK : W3.cell? ⟨w1.heap.size, K, none⟩ = some (.string oK) := by rw [cell_of_row W3 w1.heap.size K _ _ _ HQ1.out, HOK.out]; exact opC_at K hK
      have hsI : oI.size ≤ 3 := by rw [HOI.out]; exact opB_size I
      have hsK : oK.size ≤ 3 := by rw [HOK.out]; exact opB_size K
      obtain ⟨g, rfl, hg, xi, xo, xl, xe, ni, no, nl, ne, ci, co, cl, ce, q0, q1, q2, q3, q4, hnv⟩ := HNV.out.first
      have hev := hnv.eqs
      rw [heq] at hev
      have hne : ne = 1 := hev.1
      subst hne
      obtain ⟨ge, rfl, hge, o, m, n, a', y, l', d, p0, p1, p2, p3, p4, p5, hip⟩ := hev.at_ 0 (by simp)
      simp only [Nat.zero_mul, Nat.zero_add] at p0 p1 p2 p3 p4 p5
      have hqf : FineE q.e := ((parse_fine HPK.out).1 nd (by simp)).ex q (by rw [heq]; simp)
      have HT3 := Lib.hid (HTW.out.below HBS.out)
      have kt := fun W (hW : Below W3.heap.size W3 W) => text_at HT3.out hBW hW hip hqf htq (rkWant_len I K hI hK)
      have KT := Lib.hid kt
      have HII := Lib.hid hI
      have HKK := Lib.hid hK
      clear q0 q1 q2 q3 hnv hev hip hqf kt p0 heq htq hBW HNV HTW
      have hcz : ((0 : Nat) : Int) = 0 := rfl
      rw [hcz] at z0
      clear hcz
      by_cases g1 : rK < rI
      · by_cases g3 : rI = 3
        · have t1 : decide ((rK : Int) < (rI : Int)) = true := by simp; omega
          have t1n : decide (rK < rI) = true := by simp; omega
          have b3 : ((rI : Int) == 3) = true := by simp; omega
          have c3 : ((rK : Int) == 3) = false := by simp; omega
          have HLF : Hid (rK < rI ∨ rI = rK ∧ rI ≠ 0 ∧ rI ≠ 6) := Lib.hid (by omega)
          clear g1 g3
          have hw : (⟨#[40, 40, 97, 32]⟩ ++ oI ++ ⟨#[32, 98, 41, 32]⟩ ++ oK ++ ⟨#[32, 99, 41]⟩ : ByteArray) = ⟨(rkWant I K).toArray⟩ := by
            rw [HOI.out, HOK.out]
            exact rk_wantL I K hI hK (by
              unfold rkLeft
              have h1 := HRI.out
              have h2 := HRK.out
              unfold rkN at h1 h2
              rw [← h1, ← h2]
              have h3 := HLF.out
              revert h3
              simp only [Bool.or_eq_true, Bool.and_eq_true, decide_eq_true_eq, beq_iff_eq, bne_iff_ne, Bool.or_eq_false_iff, Bool.and_eq_false_imp, decide_eq_false_iff_not, beq_eq_false_iff_ne, bne_eq_false_iff_eq]
              omega)
          have KT2 := KT.out
          rw [← hw] at KT2
          have KT3 := Lib.hid KT2
          clear hw KT KT2 HLF HRI HRK HOI HOK HQ1 HQ2
          go_wp2_with fail
          go_quiet (fail)
          go_wp2_with fail
          go_quiet (fail)
          go_wp2_with fail
          go_quiet (fail)
          go_wp2_with fail
          (with_reducible refine (KT3.out _ (below_drewN (Below.refl _ _) _)).mono ?_)
          rintro e w5 ⟨rfl, hb5⟩
          have H5 := Lib.hid ((below_drewN HB9.out _).trans (hb5.mono HB9.out.size))
          clear hb5
          go_wp2_with fail
          go_ret
          exact ⟨rfl, H5.out⟩
        · have t1 : decide ((rK : Int) < (rI : Int)) = true := by simp; omega
          have t1n : decide (rK < rI) = true := by simp; omega
          have b3 : ((rI : Int) == 3) = false := by simp; omega
          have HLF : Hid (rK < rI ∨ rI = rK ∧ rI ≠ 0 ∧ rI ≠ 6) := Lib.hid (by omega)
          clear g1 g3
          have hw : (⟨#[40, 40, 97, 32]⟩ ++ oI ++ ⟨#[32, 98, 41, 32]⟩ ++ oK ++ ⟨#[32, 99, 41]⟩ : ByteArray) = ⟨(rkWant I K).toArray⟩ := by
            rw [HOI.out, HOK.out]
            exact rk_wantL I K hI hK (by
              unfold rkLeft
              have h1 := HRI.out
              have h2 := HRK.out
              unfold rkN at h1 h2
              rw [← h1, ← h2]
              have h3 := HLF.out
              revert h3
              simp only [Bool.or_eq_true, Bool.and_eq_true, decide_eq_true_eq, beq_iff_eq, bne_iff_ne, Bool.or_eq_false_iff, Bool.and_eq_false_imp, decide_eq_false_iff_not, beq_eq_false_iff_ne, bne_eq_false_iff_eq]
              omega)
          have KT2 := KT.out
          rw [← hw] at KT2
          have KT3 := Lib.hid KT2
          clear hw KT KT2 HLF HRI HRK HOI HOK HQ1 HQ2
          go_wp2_with fail
          go_quiet (fail)
          go_wp2_with fail
          go_quiet (fail)
          go_wp2_with fail
          go_quiet (fail)
          go_wp2_with fail
          (with_reducible refine (KT3.out _ (below_drewN (Below.refl _ _) _)).mono ?_)
          rintro e w5 ⟨rfl, hb5⟩
          have H5 := Lib.hid ((below_drewN HB9.out _).trans (hb5.mono HB9.out.size))
          clear hb5
          go_wp2_with fail
          go_ret
          exact ⟨rfl, H5.out⟩
      · by_cases g2 : rI = rK
        · have g3 : rI ≠ 3 := fun e => hn3 ⟨e, by omega⟩
          by_cases g4 : rI = 0
          · have t1 : decide ((rK : Int) < (rI : Int)) = false := by simp; omega
            have t1n : decide (rK < rI) = false := by simp; omega
            have t2 : ((rI : Int) == (rK : Int)) = true := by simp; omega
            have t2n : (rI == rK) = true := by simp; omega
            have b3 : ((rI : Int) == 3) = false := by simp; omega
            have t4 : ((rI : Int) != 0) = false := by simp; omega
            have HLF : Hid (¬ (rK < rI) ∧ (rI = rK → rI ≠ 0 → rI = 6)) := Lib.hid (by omega)
            clear g1 g2 g4 g3
            have hw : (⟨#[40, 97, 32]⟩ ++ oI ++ ⟨#[32, 40, 98, 32]⟩ ++ oK ++ ⟨#[32, 99, 41, 41]⟩ : ByteArray) = ⟨(rkWant I K).toArray⟩ := by
              rw [HOI.out, HOK.out]
              exact rk_wantR I K hI hK (by
                unfold rkLeft
                have h1 := HRI.out
                have h2 := HRK.out
                unfold rkN at h1 h2
                rw [← h1, ← h2]
                have h3 := HLF.out
                revert h3
                simp only [Bool.or_eq_true, Bool.and_eq_true, decide_eq_true_eq, beq_iff_eq, bne_iff_ne, Bool.or_eq_false_iff, Bool.and_eq_false_imp, decide_eq_false_iff_not, beq_eq_false_iff_ne, bne_eq_false_iff_eq]
                omega)
            have KT2 := KT.out
            rw [← hw] at KT2
            have KT3 := Lib.hid KT2
            clear hw KT KT2 HLF HRI HRK HOI HOK HQ1 HQ2
            go_wp2_with fail
            go_quiet (fail)
            go_wp2_with fail
            go_quiet (fail)
            go_wp2_with fail
            (with_reducible refine (KT3.out _ (below_drewN (Below.refl _ _) _)).mono ?_)
            rintro e w5 ⟨rfl, hb5⟩
            have H5 := Lib.hid ((below_drewN HB9.out _).trans (hb5.mono HB9.out.size))
            clear hb5
            go_wp2_with fail
            go_ret
            exact ⟨rfl, H5.out⟩
          · by_cases g5 : rI = 6
            · have t1 : decide ((rK : Int) < (rI : Int)) = false := by simp; omega
              have t1n : decide (rK < rI) = false := by simp; omega
              have t2 : ((rI : Int) == (rK : Int)) = true := by simp; omega
              have t2n : (rI == rK) = true := by simp; omega
              have b3 : ((rI : Int) == 3) = false := by simp; omega
              have t4 : ((rI : Int) != 0) = true := by simp; omega
              have t5 : ((rI : Int) != 6) = false := by simp; omega
              have HLF : Hid (¬ (rK < rI) ∧ (rI = rK → rI ≠ 0 → rI = 6)) := Lib.hid (by omega)
              clear g1 g2 g4 g5 g3
              have hw : (⟨#[40, 97, 32]⟩ ++ oI ++ ⟨#[32, 40, 98, 32]⟩ ++ oK ++ ⟨#[32, 99, 41, 41]⟩ : ByteArray) = ⟨(rkWant I K).toArray⟩ := by
                rw [HOI.out, HOK.out]
                exact rk_wantR I K hI hK (by
                  unfold rkLeft
                  have h1 := HRI.out
                  have h2 := HRK.out
                  unfold rkN at h1 h2
                  rw [← h1, ← h2]
                  have h3 := HLF.out
                  revert h3
                  simp only [Bool.or_eq_true, Bool.and_eq_true, decide_eq_true_eq, beq_iff_eq, bne_iff_ne, Bool.or_eq_false_iff, Bool.and_eq_false_imp, decide_eq_false_iff_not, beq_eq_false_iff_ne, bne_eq_false_iff_eq]
                  omega)
              have KT2 := KT.out
              rw [← hw] at KT2
              have KT3 := Lib.hid KT2
              clear hw KT KT2 HLF HRI HRK HOI HOK HQ1 HQ2
              go_wp2_with fail
              go_quiet (fail)
              go_wp2_with fail
              go_quiet (fail)
              go_wp2_with fail
              (with_reducible refine (KT3.out _ (below_drewN (Below.refl _ _) _)).mono ?_)
              rintro e w5 ⟨rfl, hb5⟩
              have H5 := Lib.hid ((below_drewN HB9.out _).trans (hb5.mono HB9.out.size))
              clear hb5
              go_wp2_with fail
              go_ret
              exact ⟨rfl, H5.out⟩
            · have t1 : decide ((rK : Int) < (rI : Int)) = false := by simp; omega
              have t1n : decide (rK < rI) = false := by simp; omega
              have t2 : ((rI : Int) == (rK : Int)) = true := by simp; omega
              have t2n : (rI == rK) = true := by simp; omega
              have b3 : ((rI : Int) == 3) = false := by simp; omega
              have t4 : ((rI : Int) != 0) = true := by simp; omega
              have t5 : ((rI : Int) != 6) = true := by simp; omega
              have HLF : Hid (rK < rI ∨ rI = rK ∧ rI ≠ 0 ∧ rI ≠ 6) := Lib.hid (by omega)
              clear g1 g2 g4 g5 g3
              have hw : (⟨#[40, 40, 97, 32]⟩ ++ oI ++ ⟨#[32, 98, 41, 32]⟩ ++ oK ++ ⟨#[32, 99, 41]⟩ : ByteArray) = ⟨(rkWant I K).toArray⟩ := by
                rw [HOI.out, HOK.out]
                exact rk_wantL I K hI hK (by
                  unfold rkLeft
                  have h1 := HRI.out
                  have h2 := HRK.out
                  unfold rkN at h1 h2
                  rw [← h1, ← h2]
                  have h3 := HLF.out
                  revert h3
                  simp only [Bool.or_eq_true, Bool.and_eq_true, decide_eq_true_eq, beq_iff_eq, bne_iff_ne, Bool.or_eq_false_iff, Bool.and_eq_false_imp, decide_eq_false_iff_not, beq_eq_false_iff_ne, bne_eq_false_iff_eq]
                  omega)
              have KT2 := KT.out
              rw [← hw] at KT2
              have KT3 := Lib.hid KT2
              clear hw KT KT2 HLF HRI HRK HOI HOK HQ1 HQ2
              go_wp2_with fail
              go_quiet (fail)
              go_wp2_with fail
              go_quiet (fail)
              go_wp2_with fail
              go_quiet (fail)
              go_wp2_with fail
              (with_reducible refine (KT3.out _ (below_drewN (Below.refl _ _) _)).mono ?_)
              rintro e w5 ⟨rfl, hb5⟩
              have H5 := Lib.hid ((below_drewN HB9.out _).trans (hb5.mono HB9.out.size))
              clear hb5
              go_wp2_with fail
              go_ret
              exact ⟨rfl, H5.out⟩
        · by_cases g3 : rI = 3
          · have t1 : decide ((rK : Int) < (rI : Int)) = false := by simp; omega
            have t1n : decide (rK < rI) = false := by simp; omega
            have t2 : ((rI : Int) == (rK : Int)) = false := by simp; omega
            have t2n : (rI == rK) = false := by simp; omega
            have b3 : ((rI : Int) == 3) = true := by simp; omega
            have c3 : ((rK : Int) == 3) = false := by simp; omega
            have HLF : Hid (¬ (rK < rI) ∧ (rI = rK → rI ≠ 0 → rI = 6)) := Lib.hid (by omega)
            clear g1 g2 g3
            have hw : (⟨#[40, 97, 32]⟩ ++ oI ++ ⟨#[32, 40, 98, 32]⟩ ++ oK ++ ⟨#[32, 99, 41, 41]⟩ : ByteArray) = ⟨(rkWant I K).toArray⟩ := by
              rw [HOI.out, HOK.out]
              exact rk_wantR I K hI hK (by
                unfold rkLeft
                have h1 := HRI.out
                have h2 := HRK.out
                unfold rkN at h1 h2
                rw [← h1, ← h2]
                have h3 := HLF.out
                revert h3
                simp only [Bool.or_eq_true, Bool.and_eq_true, decide_eq_true_eq, beq_iff_eq, bne_iff_ne, Bool.or_eq_false_iff, Bool.and_eq_false_imp, decide_eq_false_iff_not, beq_eq_false_iff_ne, bne_eq_false_iff_eq]
                omega)
            have KT2 := KT.out
            rw [← hw] at KT2
            have KT3 := Lib.hid KT2
            clear hw KT KT2 HLF HRI HRK HOI HOK HQ1 HQ2
            go_wp2_with fail
            go_quiet (fail)
            go_wp2_with fail
            go_quiet (fail)
            go_wp2_with fail
            (with_reducible refine (KT3.out _ (below_drewN (Below.refl _ _) _)).mono ?_)
            rintro e w5 ⟨rfl, hb5⟩
            have H5 := Lib.hid ((below_drewN HB9.out _).trans (hb5.mono HB9.out.size))
            clear hb5
            go_wp2_with fail
            go_ret
            exact ⟨rfl, H5.out⟩
          · have t1 : decide ((rK : Int) < (rI : Int)) = false := by simp; omega
            have t1n : decide (rK < rI) = false := by simp; omega
            have t2 : ((rI : Int) == (rK : Int)) = false := by simp; omega
            have t2n : (rI == rK) = false := by simp; omega
            have b3 : ((rI : Int) == 3) = false := by simp; omega
            have HLF : Hid (¬ (rK < rI) ∧ (rI = rK → rI ≠ 0 → rI = 6)) := Lib.hid (by omega)
            clear g1 g2 g3
            have hw : (⟨#[40, 97, 32]⟩ ++ oI ++ ⟨#[32, 40, 98, 32]⟩ ++ oK ++ ⟨#[32, 99, 41, 41]⟩ : ByteArray) = ⟨(rkWant I K).toArray⟩ := by
              rw [HOI.out, HOK.out]
              exact rk_wantR I K hI hK (by
                unfold rkLeft
                have h1 := HRI.out
                have h2 := HRK.out
                unfold rkN at h1 h2
                rw [← h1, ← h2]
                have h3 := HLF.out
                revert h3
                simp only [Bool.or_eq_true, Bool.and_eq_true, decide_eq_true_eq, beq_iff_eq, bne_iff_ne, Bool.or_eq_false_iff, Bool.and_eq_false_imp, decide_eq_false_iff_not, beq_eq_false_iff_ne, bne_eq_false_iff_eq]
                omega)
            have KT2 := KT.out
            rw [← hw] at KT2
            have KT3 := Lib.hid KT2
            clear hw KT KT2 HLF HRI HRK HOI HOK HQ1 HQ2
            go_wp2_with fail
            go_quiet (fail)
            go_wp2_with fail
            go_quiet (fail)
            go_wp2_with fail
            (with_reducible refine (KT3.out _ (below_drewN (Below.refl _ _) _)).mono ?_)
            rintro e w5 ⟨rfl, hb5⟩
            have H5 := Lib.hid ((below_drewN HB9.out _).trans (hb5.mono HB9.out.size))
            clear hb5
            go_wp2_with fail
            go_ret
            exact ⟨rfl, H5.out⟩

set_option maxRecDepth 100000 in
theorem lifted (os : Os) (started : os.Started) (H : Type) (enc : TypeId × Value → H) :
    ReturnsInHanded {} Tryz.checked os 6 .any (fun w args => (Rows.synRanksSpec.pre enc Tryz.prog Tryz.f6 Rows.synRanksRow.domain false w args ∧ laidMetH Tryz.prog LAID w) ∧ sizedMet enc Tryz.prog Tryz.f6 (OpenSpec.ofChange Rows.synRanksSpec) false w args) (Rows.synRanksSpec.post enc Tryz.prog Tryz.f6 false true false false) := by
  refine returnsInHanded_of_change_and (C := Tryz.checked) (X := fun w _ => laidMetH Tryz.prog LAID w) (fun _ _ _ hh h => h.of_heap hh) own started (by kernel_rfl) Tryz.func6
    (ChangeSpec.witness_shaped (enc := enc) (C := Tryz.checked) (os := os) (X := fun w _ => laidMetH Tryz.prog LAID w) false (World.laidAll Tryz.prog os LAID) #[.int .i64 0, .int .i64 0] 8 (World.laidAll_os _ _ _)
      (World.shaped_of_ZipB (by kernel_rfl) (by kernel_rfl)) (by kernel_rfl) (by kernel_rfl) (by kernel_rfl)
      (by rw [MakeChecks.laidMetH_plain _ _ _ (by kernel_rfl)]; exact laidMet_laidAll _ (by kernel_rfl) (by kernel_rfl))) ?_
  intro W base args ds gs before hval0 hW hcnd hsz0 hL _
  have hT : STab W := tab_of (by rw [MakeChecks.laidMetH_plain _ _ _ (by kernel_rfl)] at hL; exact hL)
  have hval : ∀ (j : Nat) t v, Tryz.f6.params[j]? = some t → args[j]? = some v → Value.okWide Tryz.prog W .any base t v := hval0
  have hW' := hW
  obtain ⟨p, q, hA0, hV, rfl, hfz, hnd⟩ := hW
  have hA : DataW.TrodAll enc Tryz.prog W 0 (fun _ => true) true Tryz.f6.params.toList args.toList ds p := hA0
  rw [Tryz.params6] at hA hval
  obtain ⟨v0, vs0, d0, ds0, p0, q0, hargs, rfl, rfl, h0, r0⟩ := trodAll_cons hA
  obtain ⟨v1, vs1, d1, ds1, p1, q1, rfl, rfl, rfl, h1, r1⟩ := trodAll_cons r0
  obtain ⟨rfl, rfl, rfl⟩ := trodAll_nil r1
  obtain rfl : args = #[v0, v1] := by cases args; simp_all
  obtain ⟨rfl, rfl⟩ := trodVars_none hV
  obtain ⟨i, rfl, rfl, rfl, w_i⟩ := open_int Tryz.underlying3 (hval 0 3 v0 rfl rfl) h0
  obtain ⟨k, rfl, rfl, rfl, w_k⟩ := open_int Tryz.underlying3 (hval 1 3 v1 rfl rfl) h1
  clear hA0 hval0
  refine (walk i k W hT w_i w_k).mono fun e W' ⟨he, bel⟩ => ?_
  subst he
  exact ⟨_, rfl, _, _, _, [], _, [], hW', trodAll_mk1 (shut_bool Tryz.underlying4 _), (trodAll_cons_mk (shut_int Tryz.underlying3 w_i) (trodAll_cons_mk (shut_int Tryz.underlying3 w_k) trodAll_mk0)), rfl, bel.frame _, fun h => by cases h⟩

theorem over : Rows.synRanksRow.holds Tryz.pinned (OpenSpec.ofChange Rows.synRanksSpec) :=
  OpenClaim.holds_of_wide 6 Tryz.f6 rfl rfl rfl rfl rfl rfl rfl ⟨rfl, rfl, rfl, rfl, rfl⟩ rfl rfl rfl rfl rfl (by kernel_rfl) Tryz.func6 (by kernel_rfl)
    (of_decide_eq_true (by kernel_rfl)) (by unfold Func.isWrapper; first | (rw [if_pos (by decide +kernel)]; kernel_rfl) | (rw [if_neg (by decide +kernel)]; exact ⟨rfl, rfl⟩))
    (fun os started H enc _ => lifted os started H enc)

set_option maxRecDepth 100000 in
theorem proved : Rows.SynRanksCardSaid :=
  Claim7.holds_tied_plain_at .later [] [.data, .data, .data, .sentinel, .sentinel] true Rows.synRanksCard.stood.harness true over (fun _ h => by cases h) (by kernel_rfl) (fun _ h => by cases h) synRanks_row_tie rfl ⟨rfl, rfl⟩ (by kernel_rfl) rfl
    (fun f fn hf hfn => by
      obtain rfl : f = 6 := Option.some.inj ((show Tryz.prog.funcNamed "escapement/escapementlaw5.SynRanks" = some 6 by kernel_rfl).symm.trans hf) |>.symm
      obtain rfl : fn = Tryz.f6 := (Option.some.inj (Tryz.func6.symm.trans hfn)).symm
      exact ⟨by kernel_rfl, fun j t ht => by
        rw [Tryz.params6] at ht
        have hm : t ∈ ([3, 3] : List TypeId) := by simpa using Array.mem_of_getElem? ht
        have hall : (([3, 3] : List TypeId).all fun u => !Tryz.prog.wantsStandIn u) = true := by kernel_rfl
        exact (show Tryz.prog.wantsStandIn t = false by simpa using List.all_eq_true.1 hall t hm)⟩)
    (by kernel_rfl)
#print axioms proved
end Go.Proofs.YtfgjgnfbhfhkjaaGreatDoor.synRanks
