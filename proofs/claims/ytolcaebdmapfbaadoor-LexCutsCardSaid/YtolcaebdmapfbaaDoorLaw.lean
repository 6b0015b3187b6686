/-
  What law 4's awake does: it returns true.
-/
import Derived.Test.YtolcaebdmapfbaaDoorLcu
namespace Go.Proofs.YtolcaebdmapfbaaDoor
open Go Go.RowKit

def exA : ByteArray := ⟨#[120, 32, 61, 32, 49, 32, 45, 62, 32, 121, 59]⟩
def exB : ByteArray := ⟨#[32, 64]⟩
def WA : List (Nat × Nat × Int × Nat) := [(1, 1, 0, 0), (4, 1, 0, 2), (3, 1, 1, 4), (4, 2, 0, 6), (1, 1, 0, 9), (4, 1, 0, 10), (0, 0, 0, 11)]
theorem cutA : cutAll exA.data.toList = .ok WA := by kernel_rfl
theorem cutB : cutAll exB.data.toList = .error (7, 1) := by kernel_rfl
theorem keptFby : keptB (⟨#[102, 98, 121]⟩ : ByteArray).data.toList = true := by decide +kernel
theorem keptX : keptB (⟨#[120]⟩ : ByteArray).data.toList = false := by decide +kernel
theorem exA1 : exA.extract 4 5 = ⟨#[49]⟩ := by decide +kernel
theorem exA2 : exA.extract 6 8 = ⟨#[45, 62]⟩ := by decide +kernel

/-- The words' cells in a row. -/
theorem own_words {w : World} {base : Nat} {v : Value} {n : Nat} {xs : List Value} (h : w.ownsRow base 35 4 v n xs) (hn : 0 < n) : ∃ g c, v = .slice (some ⟨g, 0, none⟩) n c ∧ n ≤ c ∧ c ≤ maxLen ∧ base ≤ g ∧ g < w.heap.size ∧ ∀ i, i < n * 4 → w.cell? ⟨g, i, none⟩ = xs[i]? := by
  rcases h.2 with ⟨_, h0⟩ | ⟨g, cap, cur, rfl, hb, hg, hnc, hcm, hsz, ht⟩
  · omega
  · refine ⟨g, cap, rfl, hnc, hcm, hb, (Array.getElem?_eq_some_iff.1 hg).1, fun i hi => ?_⟩
    rw [← ht, List.getElem?_take, if_pos hi]
    simp [World.cell?, hg]

theorem Cut_exA (w : World) (hE : Errs w) : Calls Tryd.prog 7 #[.string exA] w fun e w' => Below w.heap.size w w' ∧ ∃ g c, e = .returned (.tuple #[.slice (some ⟨g, 0, none⟩) 7 c, .agg #[.int .i64 0, .int .i64 0]]) ∧ 7 ≤ c ∧ c ≤ maxLen ∧ g < w'.heap.size ∧ ∀ i, i < 28 → w'.cell? ⟨g, i, none⟩ = (wordsC exA WA)[i]? := by
  have hA := Cut_any exA w (by decide) hE
  unfold GivesCut at hA
  rw [cutA] at hA
  refine hA.mono ?_
  rintro e w1 ⟨hb, v, rfl, hown⟩
  obtain ⟨g, c, rfl, hc, hcm, _, hgl, hcell⟩ := own_words hown (by decide)
  exact ⟨hb, g, c, rfl, hc, hcm, hgl, hcell⟩
theorem Cut_exB (w : World) (hE : Errs w) : Calls Tryd.prog 7 #[.string exB] w fun e w' => Below w.heap.size w w' ∧ e = .returned (.tuple #[.slice none 0 0, .agg #[.int .i64 7, .int .i64 1]]) := by
  have hB := Cut_any exB w (by decide) hE
  unfold GivesCut at hB
  rw [cutB] at hB
  exact hB
theorem wa8 : (wordsC exA WA)[8]? = some (.int .i64 3) := by kernel_rfl
theorem wa9 : (wordsC exA WA)[9]? = some (.string ⟨#[49]⟩) := by kernel_rfl
theorem wa10 : (wordsC exA WA)[10]? = some (.int .i64 1) := by kernel_rfl
theorem wa11 : (wordsC exA WA)[11]? = some (.int .i64 4) := by kernel_rfl
theorem wa13 : (wordsC exA WA)[13]? = some (.string ⟨#[45, 62]⟩) := by kernel_rfl
theorem wa24 : (wordsC exA WA)[24]? = some (.int .i64 0) := by kernel_rfl
theorem wa25 : (wordsC exA WA)[25]? = some (.string ⟨#[]⟩) := by kernel_rfl
theorem wa26 : (wordsC exA WA)[26]? = some (.int .i64 0) := by kernel_rfl
theorem wa27 : (wordsC exA WA)[27]? = some (.int .i64 11) := by kernel_rfl

set_option maxHeartbeats 4000000 in
set_option maxRecDepth 100000 in
theorem awake_any (w : World) (hE : Errs w) : Calls Tryd.prog 6 #[] w fun e w' => e = .returned (.bool true) ∧ Below w.heap.size w w' := by
  have hA := Cut_exA w hE
  have hB := fun W hE => Cut_exB W hE
  have hk1 := fun W => Kept_any ⟨#[102, 98, 121]⟩ W
  have hk2 := fun W => Kept_any ⟨#[120]⟩ W
  rw [keptFby] at hk1
  rw [keptX] at hk2
  unfold exA at hA
  unfold exB at hB
  have HB := Lib.hid hB
  have HK1 := Lib.hid hk1
  have HK2 := Lib.hid hk2
  have HE := Lib.hid hE
  clear hB hk1 hk2 hE
  go_enter Tryd.func6, Tryd.ntmps6
  go_wp2_with fail
  refine hA.mono ?_
  rintro e w1 ⟨hb1, g, c, rfl, hc, hcm, hgl, hcell⟩
  clear hA
  have hE1 := HE.out.below hb1 (Nat.le_refl _)
  have hb2 : Below w1.heap.size w1 (w1.alloc (.cells #[.int .i64 0, .int .i64 0] 26)) := (Below.refl _ _).alloc (Nat.le_refl _) _
  have hE2 := hE1.below hb2 (Nat.le_refl _)
  have hB2 := HB.out _ hE2
  have hnew := heap_alloc_new w1 (.cells #[.int .i64 0, .int .i64 0] 26)
  have HN := Lib.hid hnew
  have HC := Lib.hid hcell
  have B1 := Lib.hid (hb1.trans (hb2.mono hb1.size))
  clear hcell hb1 hb2 hE1 hE2 hnew
  go_wp2_with fail
  refine hB2.mono ?_
  rintro e w2 ⟨hb3, rfl⟩
  have hlt : w1.heap.size < (w1.alloc (.cells #[.int .i64 0, .int .i64 0] 26)).heap.size := by simp
  have hrow := (hb3.block w1.heap.size hlt).trans HN.out
  have hcl : ∀ i, i < 28 → w2.cell? ⟨g, i, none⟩ = (wordsC ⟨#[120, 32, 61, 32, 49, 32, 45, 62, 32, 121, 59]⟩ WA)[i]? := fun i hi =>
    (hb3.cell (p := ⟨g, i, none⟩) (Nat.lt_trans hgl hlt)).trans ((World.cell?_alloc_lt w1 _ _ hgl).trans (HC.out i hi))
  have hgl2 : g < w2.heap.size := Nat.lt_of_lt_of_le (Nat.lt_trans hgl hlt) hb3.size
  have hbel := B1.out.trans (hb3.mono B1.out.size)
  have k8 := (hcl 8 (by decide)).trans wa8
  have k9 := (hcl 9 (by decide)).trans wa9
  have k10 := (hcl 10 (by decide)).trans wa10
  have k11 := (hcl 11 (by decide)).trans wa11
  have k13 := (hcl 13 (by decide)).trans wa13
  have k24 := (hcl 24 (by decide)).trans wa24
  have k25 := (hcl 25 (by decide)).trans wa25
  have k26 := (hcl 26 (by decide)).trans wa26
  have k27 := (hcl 27 (by decide)).trans wa27
  have q0 := cell_of_row _ w1.heap.size 0 _ _ _ hrow
  have q1 := cell_of_row _ w1.heap.size 1 _ _ _ hrow
  have hl1 : w1.heap.size < w2.heap.size := Nat.lt_of_lt_of_le hlt hb3.size
  have E1 : ∀ W, (binOp .eql 26 (.agg #[.int .i64 0, .int .i64 0]) (.agg #[.int .i64 0, .int .i64 0])).run Tryd.prog W = .ok (.bool true) W := fun _ => by kernel_rfl
  have E2 : ∀ W, (binOp .eql 26 (.agg #[.int .i64 7, .int .i64 1]) (.agg #[.int .i64 7, .int .i64 1])).run Tryd.prog W = .ok (.bool true) W := fun _ => by kernel_rfl
  have E3 : ∀ W, (binOp .eql 35 (.agg #[.int .i64 3, .string ⟨#[49]⟩, .int .i64 1, .int .i64 4]) (.agg #[.int .i64 3, .string ⟨#[49]⟩, .int .i64 1, .int .i64 4])).run Tryd.prog W = .ok (.bool true) W := fun _ => by kernel_rfl
  have E4 : ∀ W, (binOp .eql 35 (.agg #[.int .i64 0, .string ⟨#[]⟩, .int .i64 0, .int .i64 11]) (.agg #[.int .i64 0, .string ⟨#[]⟩, .int .i64 0, .int .i64 11])).run Tryd.prog W = .ok (.bool true) W := fun _ => by kernel_rfl
  have BB := Lib.hid hbel
  clear hcl hrow hb3 hbel HB HN HC B1 HE hB2 hlt
  go_wp2_with fail
  refine (HK1.out _).mono ?_
  rintro e w3 ⟨rfl, rfl⟩
  go_wp2_with fail
  refine (HK2.out _).mono ?_
  rintro e w3 ⟨rfl, rfl⟩
  go_wp2_with fail
  go_ret
  exact ⟨rfl, BB.out.alloc BB.out.size _⟩
end Go.Proofs.YtolcaebdmapfbaaDoor
