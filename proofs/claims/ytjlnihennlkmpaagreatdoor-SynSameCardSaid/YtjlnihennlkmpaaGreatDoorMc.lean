/-
  Texts that the statements stand on, part 3.
-/
import Derived.Test.YtjlnihennlkmpaaGreatDoorMb
import Derived.Maps.AppendAt
import Derived.Laws.AppendOwn
set_option linter.unusedVariables false
set_option linter.unusedSimpArgs false
namespace Go.Proofs.YtjlnihennlkmpaaGreatDoor
open Go Go.RowKit
set_option maxHeartbeats 4000000 in
set_option maxRecDepth 100000 in
theorem merge_any (L : List Wd) (hG : Good L) (d : Nat) (hd : d < 1000) (w : World) (gp gw c : Nat) (st : St) (h : Par L w gp gw c st) (hq : st.parts < 1000000000) (t1 t2 : Ex) (S1 S2 : St)
    (hx1 : ∀ W, Par L W gp gw c (nameS L (partS L st).2).2 → Calls Tryz.prog 128 #[.pointer (some ⟨gp, 0, none⟩), .int .i64 ((d : Int) + 1)] W (GivesX L gp gw c t1 S1 W))
    (hx2 : ∀ W, Par L W gp gw c S1 → Calls Tryz.prog 128 #[.pointer (some ⟨gp, 0, none⟩), .int .i64 ((d : Int) + 1)] W (GivesX L gp gw c t2 S2 W)) :
    Calls Tryz.prog 132 #[.pointer (some ⟨gp, 0, none⟩), .int .i64 (d : Int)] w (GivesX L gp gw c (.mk (bs [109, 101, 114, 103, 101]) (nameS L (partS L st).2).1 0 (partS L st).1.at_ [t1, t2]) S2 w) := by
  have hb1 : Below w.heap.size w (w.alloc (.cells #[.string ⟨#[]⟩, .string ⟨#[]⟩, .int .i64 0, .int .i64 0, .slice none 0 0] 54)) := (Below.refl _ _).alloc (Nat.le_refl _) _
  have hn1 := heap_alloc_new w (.cells #[.string ⟨#[]⟩, .string ⟨#[]⟩, .int .i64 0, .int .i64 0, .slice none 0 0] 54)
  have h1 := h.below hb1
  have hgp := h.gpl
  have hgw := h.gwl
  have hs1 : (w.alloc (.cells #[.string ⟨#[]⟩, .string ⟨#[]⟩, .int .i64 0, .int .i64 0, .slice none 0 0] 54)).heap.size = w.heap.size + 1 := by simp
  have kp := part_any L hG _ gp gw c st h1 hq
  have kn : ∀ W, Par L W gp gw c (partS L st).2 → Calls Tryz.prog 56 #[.pointer (some ⟨gp, 0, none⟩)] W (Gives1 L gp gw c (.string (nameS L (partS L st).2).1) (nameS L (partS L st).2).2 W) := fun W hp => name_any L hG W gp gw c _ hp
  obtain ⟨y, hy⟩ : ∃ y, y = (partS L st).1 := ⟨_, rfl⟩
  obtain ⟨R, hR⟩ : ∃ y, y = (partS L st).2 := ⟨_, rfl⟩
  rw [← hy, ← hR] at kp
  rw [← hR] at kn hx1 ⊢
  rw [← hy]
  obtain ⟨nn, hnn⟩ : ∃ y, y = (nameS L R).1 := ⟨_, rfl⟩
  obtain ⟨R2, hR2⟩ : ∃ y, y = (nameS L R).2 := ⟨_, rfl⟩
  rw [← hnn, ← hR2] at kn
  rw [← hR2] at hx1
  rw [← hnn]
  have KN := Lib.hid kn
  have HX1 := Lib.hid hx1
  have HX2 := Lib.hid hx2
  have HB1 := Lib.hid (gb_below (r := some gp) hb1)
  have HN1 := Lib.hid hn1
  have HSE := Lib.hid size_expr
  clear hx1 hx2 hb1 hn1 h h1 kn hy hR hnn hR2
  obtain ⟨xk, xt, xn, xa⟩ := y
  unfold Wd.cells at kp
  have kfi := field_at (xk : Int) xn (xa : Int) xt
  go_enter Tryz.func132, Tryz.ntmps132
  go_wp2_with fail
  (with_reducible refine kp.mono ?_)
  rintro e w2 ⟨rfl, hp, hg⟩
  have hs2 : w.heap.size + 1 ≤ w2.heap.size := by rw [← hs1]; exact hg.size
  have hb3 : Below w2.heap.size w2 (w2.alloc (.cells #[.string ⟨#[109, 101, 114, 103, 101]⟩, .string ⟨#[]⟩, .int .i64 0, .int .i64 (xa : Int), .slice none 0 0] 54)) := (Below.refl _ _).alloc (Nat.le_refl _) _
  have hr3 := heap_alloc_new w2 (.cells #[.string ⟨#[109, 101, 114, 103, 101]⟩, .string ⟨#[]⟩, .int .i64 0, .int .i64 (xa : Int), .slice none 0 0] 54)
  have hs3a : (w2.alloc (.cells #[.string ⟨#[109, 101, 114, 103, 101]⟩, .string ⟨#[]⟩, .int .i64 0, .int .i64 (xa : Int), .slice none 0 0] 54)).heap.size = w2.heap.size + 1 := by simp
  have kn3 := KN.out _ (hp.below hb3)
  have LR2 := Lib.hid ((hg.block w.heap.size (by omega) (by intro e; injection e with e; omega)).trans HN1.out)
  have HB3 := Lib.hid hb3
  have HR3 := Lib.hid hr3
  have G3 := Lib.hid (gb_trans HB1.out (gb_trans hg (gb_below (r := some gp) hb3)))
  clear hp hg hb3 hr3 kp KN
  go_wp2_with fail
  (with_reducible refine kn3.mono ?_)
  rintro e w3 ⟨rfl, hp, hg⟩
  have hs3 : w2.heap.size + 1 ≤ w3.heap.size := by rw [← hs3a]; exact hg.size
  have hrow3 := (hg.block w2.heap.size (by omega) (by intro e; injection e with e; omega)).trans HR3.out
  have f31 := frozen_of_row w3 w2.heap.size 1 _ _ hrow3
  have c31 := cell_of_row w3 w2.heap.size 1 _ _ _ hrow3
  have HSET4 := Lib.hid (heap_setCell_same w3 w2.heap.size 1 _ _ (.string nn) hrow3)
  have hoth4 : ∀ k, k ≠ w2.heap.size → (w3.setCell ⟨w2.heap.size, 1, none⟩ (.string nn)).heap[k]? = w3.heap[k]? := fun k hk => heap_setCell_other w3 ⟨w2.heap.size, 1, none⟩ k _ hk
  have hp4 : Par L (w3.setCell ⟨w2.heap.size, 1, none⟩ (.string nn)) gp gw c R2 := hp.keep (hoth4 gp (by omega)) (hoth4 gw (by omega)) (by simp)
  have HG4 := Lib.hid (gb_setCell (gb_trans G3.out hg) w2.heap.size 1 (by omega) (.string nn))
  have hs4 : (w3.setCell ⟨w2.heap.size, 1, none⟩ (.string nn)).heap.size = w3.heap.size := by simp
  have kx1 := HX1.out _ hp4
  have LR4 := Lib.hid ((hoth4 w.heap.size (by omega)).trans ((hg.block w.heap.size (by omega) (by intro e; injection e with e; omega)).trans ((HB3.out.block w.heap.size (by omega)).trans LR2.out)))
  clear hp hg hrow3 hoth4 hp4 kn3 HX1 LR2
  go_wp2_with fail
  (with_reducible refine kx1.mono ?_)
  rintro e w5 ⟨o1, m1, n1, a1, x1, l1, c1, rfl, hi, hp, hg⟩
  unfold exV
  have hs5 : w3.heap.size ≤ w5.heap.size := by rw [← hs4]; exact hg.size
  have hb5 : Below w5.heap.size w5 (w5.alloc (.cells #[.string o1, .string m1, .int .i64 n1, .int .i64 a1, .slice x1 l1 c1] 54)) := (Below.refl _ _).alloc (Nat.le_refl _) _
  have HN5 := Lib.hid (heap_alloc_new w5 (.cells #[.string o1, .string m1, .int .i64 n1, .int .i64 a1, .slice x1 l1 c1] 54))
  have ha5 : (w5.alloc (.cells #[.string o1, .string m1, .int .i64 n1, .int .i64 a1, .slice x1 l1 c1] 54)).heap.size = w5.heap.size + 1 := by simp
  have kx2 := HX2.out _ (hp.below hb5)
  have G5 := Lib.hid (gb_trans hg (gb_below (r := some gp) hb5))
  have HI1 := Lib.hid (hi.below hb5)
  have HSET5 := Lib.hid ((G5.out.block w2.heap.size (by omega) (by intro e; injection e with e; omega)).trans HSET4.out)
  have LR5 := Lib.hid ((G5.out.block w.heap.size (by omega) (by intro e; injection e with e; omega)).trans LR4.out)
  have HG5 := Lib.hid (gb_trans HG4.out G5.out)
  clear hp hg hi hb5 kx1 HX2 HSET4 LR4
  go_wp2_with fail
  (with_reducible refine kx2.mono ?_)
  rintro e w6 ⟨o2, m2, n2, a2, x2, l2, c2, rfl, hi, hp, hg⟩
  unfold exV
  have hs6 : w5.heap.size + 1 ≤ w6.heap.size := by rw [← ha5]; exact hg.size
  have hb7 : Below w6.heap.size w6 (w6.alloc (.cells #[.string o2, .string m2, .int .i64 n2, .int .i64 a2, .slice x2 l2 c2] 54)) := (Below.refl _ _).alloc (Nat.le_refl _) _
  have hn7 := heap_alloc_new w6 (.cells #[.string o2, .string m2, .int .i64 n2, .int .i64 a2, .slice x2 l2 c2] 54)
  have hs7 : (w6.alloc (.cells #[.string o2, .string m2, .int .i64 n2, .int .i64 a2, .slice x2 l2 c2] 54)).heap.size = w6.heap.size + 1 := by simp
  have hp7 := hp.below hb7
  have G7 := Lib.hid (gb_trans hg (gb_below (r := some gp) hb7))
  have i1 := HI1.out.grown G7.out (by omega)
  have i2 := hi.below hb7
  obtain ⟨w7, hw7⟩ : ∃ w7, w7 = (w6.alloc (.cells #[.string o2, .string m2, .int .i64 n2, .int .i64 a2, .slice x2 l2 c2] 54)) := ⟨_, rfl⟩
  rw [← hw7] at hn7 hs7 hp7 G7 i1 i2
  have fl1 := (G7.out.block w5.heap.size (by omega) (by intro e; injection e with e; omega)).trans HN5.out
  have lr := (G7.out.block w.heap.size (by omega) (by intro e; injection e with e; omega)).trans LR5.out
  have lm := (G7.out.block w2.heap.size (by omega) (by intro e; injection e with e; omega)).trans HSET5.out
  have hb8 : Below w7.heap.size w7 (w7.alloc (.cells #[.string o1, .string m1, .int .i64 n1, .int .i64 a1, .slice x1 l1 c1, .string o2, .string m2, .int .i64 n2, .int .i64 a2, .slice x2 l2 c2] 54)) := (Below.refl _ _).alloc (Nat.le_refl _) _
  have hn8 := heap_alloc_new w7 (.cells #[.string o1, .string m1, .int .i64 n1, .int .i64 a1, .slice x1 l1 c1, .string o2, .string m2, .int .i64 n2, .int .i64 a2, .slice x2 l2 c2] 54)
  rw [hs7] at hn8
  have hs8 : (w7.alloc (.cells #[.string o1, .string m1, .int .i64 n1, .int .i64 a1, .slice x1 l1 c1, .string o2, .string m2, .int .i64 n2, .int .i64 a2, .slice x2 l2 c2] 54)).heap.size = w6.heap.size + 2 := by simp [hs7]
  have lm8 := (hb8.block w2.heap.size (by omega)).trans lm
  have f84 := frozen_of_row _ w2.heap.size 4 _ _ lm8
  have c84 := cell_of_row _ w2.heap.size 4 _ _ _ lm8
  have hset9 := heap_setCell_same _ w2.heap.size 4 _ _ (.slice (some ⟨w6.heap.size + 1, 0, none⟩) 2 2) lm8
  have hoth9 : ∀ k, k ≠ w2.heap.size → ((w7.alloc (.cells #[.string o1, .string m1, .int .i64 n1, .int .i64 a1, .slice x1 l1 c1, .string o2, .string m2, .int .i64 n2, .int .i64 a2, .slice x2 l2 c2] 54)).setCell ⟨w2.heap.size, 4, none⟩ (.slice (some ⟨w6.heap.size + 1, 0, none⟩) 2 2)).heap[k]? = (w7.alloc (.cells #[.string o1, .string m1, .int .i64 n1, .int .i64 a1, .slice x1 l1 c1, .string o2, .string m2, .int .i64 n2, .int .i64 a2, .slice x2 l2 c2] 54)).heap[k]? := fun k hk => heap_setCell_other _ ⟨w2.heap.size, 4, none⟩ k _ hk
  have hg9 := gb_setCell (gb_trans HG5.out (gb_trans G7.out (gb_below hb8))) w2.heap.size 4 (by omega) (.slice (some ⟨w6.heap.size + 1, 0, none⟩) 2 2)
  have hs9 : ((w7.alloc (.cells #[.string o1, .string m1, .int .i64 n1, .int .i64 a1, .slice x1 l1 c1, .string o2, .string m2, .int .i64 n2, .int .i64 a2, .slice x2 l2 c2] 54)).setCell ⟨w2.heap.size, 4, none⟩ (.slice (some ⟨w6.heap.size + 1, 0, none⟩) 2 2)).heap.size = w6.heap.size + 2 := by simp [hs7]
  obtain ⟨w9, hw9⟩ : ∃ w9, w9 = (w7.alloc (.cells #[.string o1, .string m1, .int .i64 n1, .int .i64 a1, .slice x1 l1 c1, .string o2, .string m2, .int .i64 n2, .int .i64 a2, .slice x2 l2 c2] 54)).setCell ⟨w2.heap.size, 4, none⟩ (.slice (some ⟨w6.heap.size + 1, 0, none⟩) 2 2) := ⟨_, rfl⟩
  rw [← hw9] at hset9 hoth9 hg9 hs9
  have hk9 : ∀ k, k < w7.heap.size → k ≠ w2.heap.size → w9.heap[k]? = w7.heap[k]? := fun k h1 h2 => (hoth9 k h2).trans (hb8.block k h1)
  have lr9 := (hk9 w.heap.size (by omega) (by omega)).trans lr
  have hp9 : Par L w9 gp gw c S2 := hp7.keep (hk9 gp (by omega) (by omega)) (hk9 gw (by omega) (by omega)) (by omega)
  have lk9 := (hoth9 (w6.heap.size + 1) (by omega)).trans hn8
  have HI1' := Lib.hid i1
  have HI2 := Lib.hid i2
  have L1 := Lib.hid fl1
  have L2 := Lib.hid hn7
  have LM := Lib.hid hset9
  have LR9 := Lib.hid lr9
  have HP9 := Lib.hid hp9
  have LK9 := Lib.hid lk9
  have HG9 := Lib.hid hg9
  have HK9 := Lib.hid hk9
  have HW7 := Lib.hid hw7
  have HW9 := Lib.hid hw9
  clear hi hp hg hb7 hn7 hp7 i1 i2 fl1 lr lm hb8 hn8 lm8 hset9 hoth9 hg9 hk9 lr9 hp9 lk9 kx2 hw7 hw9 HI1 HSET5 LR5 HN5 G7
  go_wp2_with (first | (rw [← HW7.out]; refine wpList_load_row rfl 54 (.tmp 6) rfl w5.heap.size rfl 54 #[.string o1, .string m1, .int .i64 n1, .int .i64 a1, .slice x1 l1 c1] (0, 0) _ L1.out Tryz.underlying54 rfl HSE.out ?_) | (refine wpList_load_row rfl 54 (.tmp 7) rfl w6.heap.size rfl 54 #[.string o2, .string m2, .int .i64 n2, .int .i64 a2, .slice x2 l2 c2] (0, 0) _ L2.out Tryz.underlying54 rfl HSE.out ?_) | (rw [← HW9.out]; refine wpList_load_row rfl 54 (.tmp 5) rfl w2.heap.size rfl 54 #[.string ⟨#[109, 101, 114, 103, 101]⟩, .string nn, .int .i64 0, .int .i64 (xa : Int), .slice (some ⟨w6.heap.size + 1, 0, none⟩) 2 2] (0, 0) _ LM.out Tryz.underlying54 rfl HSE.out ?_) | (refine wpList_store_row rfl 54 (.tmp 4) (.tmp 27) rfl w.heap.size #[.string ⟨#[109, 101, 114, 103, 101]⟩, .string nn, .int .i64 0, .int .i64 (xa : Int), .slice (some ⟨w6.heap.size + 1, 0, none⟩) 2 2] rfl rfl 54 _ LR9.out HSE.out rfl (expr_one _ _ _ _ _ _ _) ?_))
  have hset := setRow_heap w9 w.heap.size _ #[.string ⟨#[109, 101, 114, 103, 101]⟩, .string nn, .int .i64 0, .int .i64 (xa : Int), .slice (some ⟨w6.heap.size + 1, 0, none⟩) 2 2] _ _ LR9.out
  have hoth : ∀ k, k ≠ w.heap.size → (w9.setRow w.heap.size #[.string ⟨#[109, 101, 114, 103, 101]⟩, .string nn, .int .i64 0, .int .i64 (xa : Int), .slice (some ⟨w6.heap.size + 1, 0, none⟩) 2 2]).heap[k]? = w9.heap[k]? := fun k hk => setRow_other w9 w.heap.size k _ hk
  have lkf := (hoth (w6.heap.size + 1) (by omega)).trans LK9.out
  have hcell : ∀ (j : Nat) (v : Value), (#[.string o1, .string m1, .int .i64 n1, .int .i64 a1, .slice x1 l1 c1, .string o2, .string m2, .int .i64 n2, .int .i64 a2, .slice x2 l2 c2] : Array Value)[j]? = some v → (w9.setRow w.heap.size #[.string ⟨#[109, 101, 114, 103, 101]⟩, .string nn, .int .i64 0, .int .i64 (xa : Int), .slice (some ⟨w6.heap.size + 1, 0, none⟩) 2 2]).cell? ⟨w6.heap.size + 1, j, none⟩ = some v := fun j v hv => by
    simp only [World.cell?, lkf]
    exact hv
  have I1 := (IsE.toP (ok := fun k => w.heap.size < k ∧ k ≠ w2.heap.size) (fun k h1 h2 => ⟨by omega, by omega⟩) _ HI1'.out).keep (w' := w9.setRow w.heap.size #[.string ⟨#[109, 101, 114, 103, 101]⟩, .string nn, .int .i64 0, .int .i64 (xa : Int), .slice (some ⟨w6.heap.size + 1, 0, none⟩) 2 2]) (ok' := fun k => w.heap.size < k ∧ k ≠ w2.heap.size) (by rw [setRow_size]; omega) (fun k h1 h2 => (hoth k (by omega)).trans (HK9.out k h2 h1.2)) (fun _ h _ => h) _
  have I2 := (IsE.toP (ok := fun k => w.heap.size < k ∧ k ≠ w2.heap.size) (fun k h1 h2 => ⟨by omega, by omega⟩) _ HI2.out).keep (w' := w9.setRow w.heap.size #[.string ⟨#[109, 101, 114, 103, 101]⟩, .string nn, .int .i64 0, .int .i64 (xa : Int), .slice (some ⟨w6.heap.size + 1, 0, none⟩) 2 2]) (ok' := fun k => w.heap.size < k ∧ k ≠ w2.heap.size) (by rw [setRow_size]; omega) (fun k h1 h2 => (hoth k (by omega)).trans (HK9.out k h2 h1.2)) (fun _ h _ => h) _
  have J1 := IsP.toE (B := w.heap.size) (fun k hk => by omega) _ I1
  have J2 := IsP.toE (B := w.heap.size) (fun k hk => by omega) _ I2
  refine bodyPost_ret (v := .agg #[.string ⟨#[109, 101, 114, 103, 101]⟩, .string nn, .int .i64 0, .int .i64 (xa : Int), .slice (some ⟨w6.heap.size + 1, 0, none⟩) 2 2]) (results_cell_row (p := 4) (ty := 54) rfl _ _ w.heap.size 54 _ (0, 0) _ rfl hset Tryz.underlying54 rfl HSE.out) rfl ⟨_, _, _, _, _, _, _, rfl, ?_, HP9.out.keep (hoth gp (by omega)) (hoth gw (by omega)) (by rw [setRow_size]; exact Nat.le_refl _), gb_setRow HG9.out _ (Nat.le_refl _) _⟩
  unfold IsE
  refine ⟨rfl, rfl, rfl, rfl, rfl, fun _ => ⟨_, rfl, by omega, by rw [setRow_size]; omega, ?_⟩⟩
  unfold IsL
  refine ⟨⟨o1, m1, n1, a1, x1, l1, c1, hcell 0 _ rfl, hcell 1 _ rfl, hcell 2 _ rfl, hcell 3 _ rfl, hcell 4 _ rfl, J1⟩, ?_⟩
  unfold IsL
  refine ⟨⟨o2, m2, n2, a2, x2, l2, c2, hcell 5 _ rfl, hcell 6 _ rfl, hcell 7 _ rfl, hcell 8 _ rfl, hcell 9 _ rfl, J2⟩, ?_⟩
  unfold IsL
  trivial
end Go.Proofs.YtjlnihennlkmpaaGreatDoor

namespace Go.Proofs.YtjlnihennlkmpaaGreatDoor
open Go Go.RowKit
set_option maxHeartbeats 4000000 in
set_option maxRecDepth 100000 in
theorem prim_any (L : List Wd) (hG : Good L) (d : Nat) (hd : d < 1000) (w : World) (gp gw c : Nat) (st : St) (h : Par L w gp gw c st) (nx : Nx) (hq : (askS L d st).parts < 1000000000)
    (hnamed : (cur L (askS L d st)).kind = 1 → ∀ W, Par L W gp gw c (askS L d st) → Calls Tryz.prog 129 #[.pointer (some ⟨gp, 0, none⟩), .int .i64 (d : Int)] W (GivesX L gp gw c (namedS L nx (askS L d st)).1 (namedS L nx (askS L d st)).2 W))
    (hbracketed : isS L (bs [40]) (askS L d st) = true → ∀ W, Par L W gp gw c (askS L d st) → Calls Tryz.prog 130 #[.pointer (some ⟨gp, 0, none⟩), .int .i64 (d : Int)] W (GivesX L gp gw c (bracketedS L nx (askS L d st)).1 (bracketedS L nx (askS L d st)).2 W))
    (hchoice : isS L (bs [105, 102]) (askS L d st) = true → ∀ W, Par L W gp gw c (askS L d st) → Calls Tryz.prog 131 #[.pointer (some ⟨gp, 0, none⟩), .int .i64 (d : Int)] W (GivesX L gp gw c (choiceS L nx (askS L d st)).1 (choiceS L nx (askS L d st)).2 W))
    (hmerge : isS L (bs [109, 101, 114, 103, 101]) (askS L d st) = true → ∀ W, Par L W gp gw c (askS L d st) → Calls Tryz.prog 132 #[.pointer (some ⟨gp, 0, none⟩), .int .i64 (d : Int)] W (GivesX L gp gw c (mergeS L nx (askS L d st)).1 (mergeS L nx (askS L d st)).2 W)) :
    Calls Tryz.prog 128 #[.pointer (some ⟨gp, 0, none⟩), .int .i64 (d : Int)] w (GivesX L gp gw c (primS L nx d st).1 (primS L nx d st).2 w) := by
  have hb1 : Below w.heap.size w (w.alloc (.cells #[.string ⟨#[]⟩, .string ⟨#[]⟩, .int .i64 0, .int .i64 0, .slice none 0 0] 54)) := (Below.refl _ _).alloc (Nat.le_refl _) _
  have hn1 := heap_alloc_new w (.cells #[.string ⟨#[]⟩, .string ⟨#[]⟩, .int .i64 0, .int .i64 0, .slice none 0 0] 54)
  have h1 := h.below hb1
  have hgp := h.gpl
  have hgw := h.gwl
  have hs1 : (w.alloc (.cells #[.string ⟨#[]⟩, .string ⟨#[]⟩, .int .i64 0, .int .i64 0, .slice none 0 0] 54)).heap.size = w.heap.size + 1 := by simp
  have ka := ask_any L d _ gp gw c st h1
  obtain ⟨RR, hRR⟩ : ∃ R, R = primS L nx d st := ⟨_, rfl⟩
  rw [← hRR]
  unfold primS primB at hRR
  obtain ⟨s, hs⟩ : ∃ s, s = askS L d st := ⟨_, rfl⟩
  rw [← hs] at hnamed hbracketed hchoice hmerge hq ka hRR
  have kp := fun W (hp : Par L W gp gw c s) => part_any L hG W gp gw c s hp hq
  have kf := fun W (hp : Par L W gp gw c s) => fail7_any L W gp gw c s hp
  have k0 : ∀ W, Par L W gp gw c s → Calls Tryz.prog 30 #[.pointer (some ⟨gp, 0, none⟩), .string ⟨#[116, 114, 117, 101]⟩] W fun e w' => e = .returned (.bool (isS L (bs [116, 114, 117, 101]) s)) ∧ w' = W := fun W hp => is_any L (bs [116, 114, 117, 101]) W gp gw c s hp
  obtain ⟨b0, hb0'⟩ : ∃ b, b = isS L (bs [116, 114, 117, 101]) s := ⟨_, rfl⟩
  rw [← hb0'] at k0
  have k1 : ∀ W, Par L W gp gw c s → Calls Tryz.prog 30 #[.pointer (some ⟨gp, 0, none⟩), .string ⟨#[102, 97, 108, 115, 101]⟩] W fun e w' => e = .returned (.bool (isS L (bs [102, 97, 108, 115, 101]) s)) ∧ w' = W := fun W hp => is_any L (bs [102, 97, 108, 115, 101]) W gp gw c s hp
  obtain ⟨b1, hb1'⟩ : ∃ b, b = isS L (bs [102, 97, 108, 115, 101]) s := ⟨_, rfl⟩
  rw [← hb1'] at k1
  have k2 : ∀ W, Par L W gp gw c s → Calls Tryz.prog 30 #[.pointer (some ⟨gp, 0, none⟩), .string ⟨#[40]⟩] W fun e w' => e = .returned (.bool (isS L (bs [40]) s)) ∧ w' = W := fun W hp => is_any L (bs [40]) W gp gw c s hp
  obtain ⟨b2, hb2'⟩ : ∃ b, b = isS L (bs [40]) s := ⟨_, rfl⟩
  rw [← hb2'] at k2
  have k3 : ∀ W, Par L W gp gw c s → Calls Tryz.prog 30 #[.pointer (some ⟨gp, 0, none⟩), .string ⟨#[105, 102]⟩] W fun e w' => e = .returned (.bool (isS L (bs [105, 102]) s)) ∧ w' = W := fun W hp => is_any L (bs [105, 102]) W gp gw c s hp
  obtain ⟨b3, hb3'⟩ : ∃ b, b = isS L (bs [105, 102]) s := ⟨_, rfl⟩
  rw [← hb3'] at k3
  have k4 : ∀ W, Par L W gp gw c s → Calls Tryz.prog 30 #[.pointer (some ⟨gp, 0, none⟩), .string ⟨#[109, 101, 114, 103, 101]⟩] W fun e w' => e = .returned (.bool (isS L (bs [109, 101, 114, 103, 101]) s)) ∧ w' = W := fun W hp => is_any L (bs [109, 101, 114, 103, 101]) W gp gw c s hp
  obtain ⟨b4, hb4'⟩ : ∃ b, b = isS L (bs [109, 101, 114, 103, 101]) s := ⟨_, rfl⟩
  rw [← hb4'] at k4
  obtain ⟨P, hP⟩ : ∃ y, y = partS L s := ⟨_, rfl⟩
  rw [← hP] at kp
  simp only [← hP, ← hb0', ← hb1', ← hb2', ← hb3', ← hb4'] at hRR
  rw [← hb2'] at hbracketed
  rw [← hb3'] at hchoice
  rw [← hb4'] at hmerge
  obtain ⟨N, hN⟩ : ∃ y, y = namedS L nx s := ⟨_, rfl⟩
  obtain ⟨BR, hBR⟩ : ∃ y, y = bracketedS L nx s := ⟨_, rfl⟩
  obtain ⟨CH, hCH⟩ : ∃ y, y = choiceS L nx s := ⟨_, rfl⟩
  obtain ⟨ME, hME⟩ : ∃ y, y = mergeS L nx s := ⟨_, rfl⟩
  obtain ⟨FA, hFA⟩ : ∃ y, y = failS L 7 s := ⟨_, rfl⟩
  simp only [← hN, ← hBR, ← hCH, ← hME, ← hFA] at hRR
  rw [← hN] at hnamed
  rw [← hBR] at hbracketed
  rw [← hCH] at hchoice
  rw [← hME] at hmerge
  rw [← hFA] at kf
  obtain ⟨y, hy⟩ : ∃ y, y = cur L s := ⟨_, rfl⟩
  simp only [← hy] at hRR
  rw [← hy] at hnamed
  have HY := Lib.hid hy
  have HNA := Lib.hid hnamed
  have HBR := Lib.hid hbracketed
  have HCH := Lib.hid hchoice
  have HME := Lib.hid hmerge
  have HRR := Lib.hid hRR
  have KP := Lib.hid kp
  have KF := Lib.hid kf
  have K0 := Lib.hid k0
  have K1 := Lib.hid k1
  have K2 := Lib.hid k2
  have K3 := Lib.hid k3
  have K4 := Lib.hid k4
  have HB1 := Lib.hid (gb_below (r := some gp) hb1)
  have HN1 := Lib.hid hn1
  have HSE := Lib.hid size_expr
  have HSW := Lib.hid size_word2
  have HL := Lib.hid (show 0 < L.length by have := h.lt; omega)
  clear hnamed hbracketed hchoice hmerge kp kf k0 k1 k2 k3 k4 hb1 hn1 h h1 hs hb0' hb1' hb2' hb3' hb4' hP hN hBR hCH hME hFA hy hq hRR
  obtain ⟨xk, xt, xn, xa⟩ := y
  by_cases hk3 : xk = 3
  · have d3 : ((xk : Int) == 3) = true := by simp; omega
    have HEQ : Hid (RR = (.mk (bs [105, 110, 116]) ⟨#[]⟩ xn xa [], P.2)) := Lib.hid (by rw [HRR.out]; simp [hk3])
    clear HRR
    clear hk3
    go_enter Tryz.func128, Tryz.ntmps128
    go_wp2_with fail
    (with_reducible refine ka.mono ?_)
    rintro e w2 ⟨rfl, hp, hg⟩
    have hs2 : w.heap.size + 1 ≤ w2.heap.size := by rw [← hs1]; exact hg.size
    obtain ⟨p0, _, _, _, _⟩ := hp.cells
    obtain ⟨q0, q1, q2, q3⟩ := hp.cur_cell
    rw [← HY.out] at q0 q1 q2 q3
    have hm : 0 < L.length - s.i := by have := hp.lt; omega
    obtain ⟨m, hme⟩ : ∃ m, m = L.length - s.i := ⟨_, rfl⟩
    obtain ⟨dd, hdd⟩ : ∃ d, d = c - s.i := ⟨_, rfl⟩
    obtain ⟨q, hqq⟩ : ∃ q, q = s.i * 4 := ⟨_, rfl⟩
    rw [← hme] at hm p0
    rw [← hdd, ← hqq] at p0
    rw [← hqq] at q0 q1 q2 q3
    have hb3 : Below w2.heap.size w2 (w2.alloc (.cells #[.int .i64 (xk : Int), .string xt, .int .i64 xn, .int .i64 (xa : Int)] 77)) := (Below.refl _ _).alloc (Nat.le_refl _) _
    have hn3 := heap_alloc_new w2 (.cells #[.int .i64 (xk : Int), .string xt, .int .i64 xn, .int .i64 (xa : Int)] 77)
    have ha3 : (w2.alloc (.cells #[.int .i64 (xk : Int), .string xt, .int .i64 xn, .int .i64 (xa : Int)] 77)).heap.size = w2.heap.size + 1 := by simp
    have HP3 := Lib.hid (hp.below hb3)
    have HG3 := Lib.hid (gb_trans HB1.out (gb_trans hg (gb_below (r := some gp) hb3)))
    have HR3 := Lib.hid ((hb3.block w.heap.size (by omega)).trans ((hg.block w.heap.size (by omega) (by intro e; injection e with e; omega)).trans HN1.out))
    have HN3 := Lib.hid hn3
    have c30 := cell_of_row _ w2.heap.size 0 _ _ _ hn3
    clear hp hg ka hb3 hn3 hme hdd hqq
    simp only at q0 q1 q2 q3
    have kp := KP.out _ HP3.out
    go_wp2_with fail
    (with_reducible refine kp.mono ?_)
    rintro e w4 ⟨rfl, hp, hg⟩
    have hs4 : w2.heap.size + 1 ≤ w4.heap.size := by rw [← ha3]; exact hg.size
    have LR := Lib.hid ((hg.block w.heap.size (by omega) (by intro e; injection e with e; omega)).trans HR3.out)
    have hl := (hg.block w2.heap.size (by omega) (by intro e; injection e with e; omega)).trans HN3.out
    have c42 := cell_of_row _ w2.heap.size 2 _ _ _ hl
    have c43 := cell_of_row _ w2.heap.size 3 _ _ _ hl
    have g0 := Lib.hid (gb_trans HG3.out hg)
    have HP := Lib.hid hp
    clear hp hg kp hl p0 q0 q1 q2 q3 c30
    go_wp2_with (refine wpList_store_row rfl 54 (.tmp 4) (.tmp 25) rfl w.heap.size #[.string ⟨#[105, 110, 116]⟩, .string ⟨#[]⟩, .int .i64 xn, .int .i64 (xa : Int), .slice none 0 0] rfl rfl 54 _ LR.out HSE.out rfl (expr_one _ _ _ _ _ _ _) ?_)
    have hset := setRow_heap w4 w.heap.size _ #[.string ⟨#[105, 110, 116]⟩, .string ⟨#[]⟩, .int .i64 xn, .int .i64 (xa : Int), .slice none 0 0] _ _ LR.out
    refine bodyPost_ret (v := .agg #[.string ⟨#[105, 110, 116]⟩, .string ⟨#[]⟩, .int .i64 xn, .int .i64 (xa : Int), .slice none 0 0]) (results_cell_row (p := 4) (ty := 54) rfl _ _ w.heap.size 54 _ (0, 0) _ rfl hset Tryz.underlying54 rfl HSE.out) rfl ?_
    rw [HEQ.out]
    refine ⟨_, _, _, _, _, _, _, rfl, by unfold IsE; exact ⟨rfl, rfl, rfl, rfl, rfl, fun h => absurd h (by simp)⟩, HP.out.keep (setRow_other w4 w.heap.size gp _ (by omega)) (setRow_other w4 w.heap.size gw _ (by omega)) (by rw [setRow_size]; exact Nat.le_refl _), gb_setRow g0.out _ (Nat.le_refl _) _⟩
  · have d3 : ((xk : Int) == 3) = false := by simp; omega
    by_cases hk1 : xk = 1
    · have d1 : ((xk : Int) == 1) = true := by simp; omega
      have HEQ : Hid (RR = N) := Lib.hid (by rw [HRR.out]; simp [hk3, hk1])
      clear HRR
      subst hk1
      clear d3 d1 hk3
      go_enter Tryz.func128, Tryz.ntmps128
      go_wp2_with fail
      (with_reducible refine ka.mono ?_)
      rintro e w2 ⟨rfl, hp, hg⟩
      have hs2 : w.heap.size + 1 ≤ w2.heap.size := by rw [← hs1]; exact hg.size
      obtain ⟨p0, _, _, _, _⟩ := hp.cells
      obtain ⟨q0, q1, q2, q3⟩ := hp.cur_cell
      rw [← HY.out] at q0 q1 q2 q3
      have hm : 0 < L.length - s.i := by have := hp.lt; omega
      obtain ⟨m, hme⟩ : ∃ m, m = L.length - s.i := ⟨_, rfl⟩
      obtain ⟨dd, hdd⟩ : ∃ d, d = c - s.i := ⟨_, rfl⟩
      obtain ⟨q, hqq⟩ : ∃ q, q = s.i * 4 := ⟨_, rfl⟩
      rw [← hme] at hm p0
      rw [← hdd, ← hqq] at p0
      rw [← hqq] at q0 q1 q2 q3
      have hb3 : Below w2.heap.size w2 (w2.alloc (.cells #[.int .i64 1, .string xt, .int .i64 xn, .int .i64 (xa : Int)] 77)) := (Below.refl _ _).alloc (Nat.le_refl _) _
      have hn3 := heap_alloc_new w2 (.cells #[.int .i64 1, .string xt, .int .i64 xn, .int .i64 (xa : Int)] 77)
      have ha3 : (w2.alloc (.cells #[.int .i64 1, .string xt, .int .i64 xn, .int .i64 (xa : Int)] 77)).heap.size = w2.heap.size + 1 := by simp
      have HP3 := Lib.hid (hp.below hb3)
      have HG3 := Lib.hid (gb_trans HB1.out (gb_trans hg (gb_below (r := some gp) hb3)))
      have HR3 := Lib.hid ((hb3.block w.heap.size (by omega)).trans ((hg.block w.heap.size (by omega) (by intro e; injection e with e; omega)).trans HN1.out))
      have HN3 := Lib.hid hn3
      have c30 := cell_of_row _ w2.heap.size 0 _ _ _ hn3
      clear hp hg ka hb3 hn3 hme hdd hqq
      simp only at q0 q1 q2 q3
      replace q0 : w2.cell? ⟨gw, q, none⟩ = some (.int .i64 1) := q0
      have kp := HNA.out trivial _ HP3.out
      go_wp2_with fail
      (with_reducible refine kp.mono ?_)
      rintro e w4 ⟨o3, m3, n3, a3, x3, l3, c3, rfl, hi, hp, hg⟩
      unfold exV
      have hs4 : w2.heap.size + 1 ≤ w4.heap.size := by rw [← ha3]; exact hg.size
      have LR := Lib.hid ((hg.block w.heap.size (by omega) (by intro e; injection e with e; omega)).trans HR3.out)
      have g0 := Lib.hid (gb_trans HG3.out hg)
      have HP := Lib.hid hp
      have HI := Lib.hid hi
      clear hp hg kp hi p0 q0 q1 q2 q3 c30
      go_wp2_with (refine wpList_store_row rfl 54 (.tmp 4) (.tmp 32) rfl w.heap.size #[.string o3, .string m3, .int .i64 n3, .int .i64 a3, .slice x3 l3 c3] rfl rfl 54 _ LR.out HSE.out rfl (expr_one _ _ _ _ _ _ _) ?_)
      have hset := setRow_heap w4 w.heap.size _ #[.string o3, .string m3, .int .i64 n3, .int .i64 a3, .slice x3 l3 c3] _ _ LR.out
      refine bodyPost_ret (v := .agg #[.string o3, .string m3, .int .i64 n3, .int .i64 a3, .slice x3 l3 c3]) (results_cell_row (p := 4) (ty := 54) rfl _ _ w.heap.size 54 _ (0, 0) _ rfl hset Tryz.underlying54 rfl HSE.out) rfl ?_
      rw [HEQ.out]
      refine ⟨_, _, _, _, _, _, _, rfl, IsE.mono (B := w2.heap.size + 1) (by omega) _ (ha3 ▸ HI.out.keep (by rw [setRow_size]; exact Nat.le_refl _) (fun k h2 h3 => setRow_other w4 w.heap.size k _ (by omega))), HP.out.keep (setRow_other w4 w.heap.size gp _ (by omega)) (setRow_other w4 w.heap.size gw _ (by omega)) (by rw [setRow_size]; exact Nat.le_refl _), gb_setRow g0.out _ (Nat.le_refl _) _⟩
    · have d1 : ((xk : Int) == 1) = false := by simp; omega
      cases b0
      · cases b1
        · cases b2
          · cases b3
            · cases b4
              · have HEQ : Hid (RR = (ex0, FA)) := Lib.hid (by rw [HRR.out]; simp [hk3, hk1])
                clear HRR
                clear hk3 hk1
                go_enter Tryz.func128, Tryz.ntmps128
                go_wp2_with fail
                (with_reducible refine ka.mono ?_)
                rintro e w2 ⟨rfl, hp, hg⟩
                have hs2 : w.heap.size + 1 ≤ w2.heap.size := by rw [← hs1]; exact hg.size
                obtain ⟨p0, _, _, _, _⟩ := hp.cells
                obtain ⟨q0, q1, q2, q3⟩ := hp.cur_cell
                rw [← HY.out] at q0 q1 q2 q3
                have hm : 0 < L.length - s.i := by have := hp.lt; omega
                obtain ⟨m, hme⟩ : ∃ m, m = L.length - s.i := ⟨_, rfl⟩
                obtain ⟨dd, hdd⟩ : ∃ d, d = c - s.i := ⟨_, rfl⟩
                obtain ⟨q, hqq⟩ : ∃ q, q = s.i * 4 := ⟨_, rfl⟩
                rw [← hme] at hm p0
                rw [← hdd, ← hqq] at p0
                rw [← hqq] at q0 q1 q2 q3
                have hb3 : Below w2.heap.size w2 (w2.alloc (.cells #[.int .i64 (xk : Int), .string xt, .int .i64 xn, .int .i64 (xa : Int)] 77)) := (Below.refl _ _).alloc (Nat.le_refl _) _
                have hn3 := heap_alloc_new w2 (.cells #[.int .i64 (xk : Int), .string xt, .int .i64 xn, .int .i64 (xa : Int)] 77)
                have ha3 : (w2.alloc (.cells #[.int .i64 (xk : Int), .string xt, .int .i64 xn, .int .i64 (xa : Int)] 77)).heap.size = w2.heap.size + 1 := by simp
                have HP3 := Lib.hid (hp.below hb3)
                have HG3 := Lib.hid (gb_trans HB1.out (gb_trans hg (gb_below (r := some gp) hb3)))
                have HR3 := Lib.hid ((hb3.block w.heap.size (by omega)).trans ((hg.block w.heap.size (by omega) (by intro e; injection e with e; omega)).trans HN1.out))
                have HN3 := Lib.hid hn3
                have c30 := cell_of_row _ w2.heap.size 0 _ _ _ hn3
                clear hp hg ka hb3 hn3 hme hdd hqq
                simp only at q0 q1 q2 q3
                have ki := K0.out _ HP3.out
                go_wp2_with fail
                (with_reducible refine ki.mono ?_)
                rintro e w' ⟨rfl, hw'⟩
                rw [hw']
                clear ki hw' w'
                have ki := K1.out _ HP3.out
                go_wp2_with fail
                (with_reducible refine ki.mono ?_)
                rintro e w' ⟨rfl, hw'⟩
                rw [hw']
                clear ki hw' w'
                have ki := K2.out _ HP3.out
                go_wp2_with fail
                (with_reducible refine ki.mono ?_)
                rintro e w' ⟨rfl, hw'⟩
                rw [hw']
                clear ki hw' w'
                have ki := K3.out _ HP3.out
                go_wp2_with fail
                (with_reducible refine ki.mono ?_)
                rintro e w' ⟨rfl, hw'⟩
                rw [hw']
                clear ki hw' w'
                have ki := K4.out _ HP3.out
                go_wp2_with fail
                (with_reducible refine ki.mono ?_)
                rintro e w' ⟨rfl, hw'⟩
                rw [hw']
                clear ki hw' w'
                have kp := KF.out _ HP3.out
                go_wp2_with fail
                (with_reducible refine kp.mono ?_)
                rintro e w4 ⟨rfl, hp, hg⟩
                have hs4 : w2.heap.size + 1 ≤ w4.heap.size := by rw [← ha3]; exact hg.size
                have LR := Lib.hid ((hg.block w.heap.size (by omega) (by intro e; injection e with e; omega)).trans HR3.out)
                have g0 := Lib.hid (gb_trans HG3.out hg)
                have HP := Lib.hid hp
                clear hp hg kp p0 q0 q1 q2 q3 c30
                go_wp2_with (refine wpList_store_row rfl 54 (.tmp 4) (.tmp 69) rfl w.heap.size #[.string ⟨#[]⟩, .string ⟨#[]⟩, .int .i64 0, .int .i64 0, .slice none 0 0] rfl rfl 54 _ LR.out HSE.out rfl (expr_one _ _ _ _ _ _ _) ?_)
                have hset := setRow_heap w4 w.heap.size _ #[.string ⟨#[]⟩, .string ⟨#[]⟩, .int .i64 0, .int .i64 0, .slice none 0 0] _ _ LR.out
                refine bodyPost_ret (v := .agg #[.string ⟨#[]⟩, .string ⟨#[]⟩, .int .i64 0, .int .i64 0, .slice none 0 0]) (results_cell_row (p := 4) (ty := 54) rfl _ _ w.heap.size 54 _ (0, 0) _ rfl hset Tryz.underlying54 rfl HSE.out) rfl ?_
                rw [HEQ.out]
                refine ⟨_, _, _, _, _, _, _, rfl, by unfold IsE; exact ⟨rfl, rfl, rfl, rfl, rfl, fun h => absurd h (by simp)⟩, HP.out.keep (setRow_other w4 w.heap.size gp _ (by omega)) (setRow_other w4 w.heap.size gw _ (by omega)) (by rw [setRow_size]; exact Nat.le_refl _), gb_setRow g0.out _ (Nat.le_refl _) _⟩
              · have HEQ : Hid (RR = ME) := Lib.hid (by rw [HRR.out]; simp [hk3, hk1])
                clear HRR
                clear hk3 hk1
                go_enter Tryz.func128, Tryz.ntmps128
                go_wp2_with fail
                (with_reducible refine ka.mono ?_)
                rintro e w2 ⟨rfl, hp, hg⟩
                have hs2 : w.heap.size + 1 ≤ w2.heap.size := by rw [← hs1]; exact hg.size
                obtain ⟨p0, _, _, _, _⟩ := hp.cells
                obtain ⟨q0, q1, q2, q3⟩ := hp.cur_cell
                rw [← HY.out] at q0 q1 q2 q3
                have hm : 0 < L.length - s.i := by have := hp.lt; omega
                obtain ⟨m, hme⟩ : ∃ m, m = L.length - s.i := ⟨_, rfl⟩
                obtain ⟨dd, hdd⟩ : ∃ d, d = c - s.i := ⟨_, rfl⟩
                obtain ⟨q, hqq⟩ : ∃ q, q = s.i * 4 := ⟨_, rfl⟩
                rw [← hme] at hm p0
                rw [← hdd, ← hqq] at p0
                rw [← hqq] at q0 q1 q2 q3
                have hb3 : Below w2.heap.size w2 (w2.alloc (.cells #[.int .i64 (xk : Int), .string xt, .int .i64 xn, .int .i64 (xa : Int)] 77)) := (Below.refl _ _).alloc (Nat.le_refl _) _
                have hn3 := heap_alloc_new w2 (.cells #[.int .i64 (xk : Int), .string xt, .int .i64 xn, .int .i64 (xa : Int)] 77)
                have ha3 : (w2.alloc (.cells #[.int .i64 (xk : Int), .string xt, .int .i64 xn, .int .i64 (xa : Int)] 77)).heap.size = w2.heap.size + 1 := by simp
                have HP3 := Lib.hid (hp.below hb3)
                have HG3 := Lib.hid (gb_trans HB1.out (gb_trans hg (gb_below (r := some gp) hb3)))
                have HR3 := Lib.hid ((hb3.block w.heap.size (by omega)).trans ((hg.block w.heap.size (by omega) (by intro e; injection e with e; omega)).trans HN1.out))
                have HN3 := Lib.hid hn3
                have c30 := cell_of_row _ w2.heap.size 0 _ _ _ hn3
                clear hp hg ka hb3 hn3 hme hdd hqq
                simp only at q0 q1 q2 q3
                have ki := K0.out _ HP3.out
                go_wp2_with fail
                (with_reducible refine ki.mono ?_)
                rintro e w' ⟨rfl, hw'⟩
                rw [hw']
                clear ki hw' w'
                have ki := K1.out _ HP3.out
                go_wp2_with fail
                (with_reducible refine ki.mono ?_)
                rintro e w' ⟨rfl, hw'⟩
                rw [hw']
                clear ki hw' w'
                have ki := K2.out _ HP3.out
                go_wp2_with fail
                (with_reducible refine ki.mono ?_)
                rintro e w' ⟨rfl, hw'⟩
                rw [hw']
                clear ki hw' w'
                have ki := K3.out _ HP3.out
                go_wp2_with fail
                (with_reducible refine ki.mono ?_)
                rintro e w' ⟨rfl, hw'⟩
                rw [hw']
                clear ki hw' w'
                have ki := K4.out _ HP3.out
                go_wp2_with fail
                (with_reducible refine ki.mono ?_)
                rintro e w' ⟨rfl, hw'⟩
                rw [hw']
                clear ki hw' w'
                have kp := HME.out trivial _ HP3.out
                go_wp2_with fail
                (with_reducible refine kp.mono ?_)
                rintro e w4 ⟨o3, m3, n3, a3, x3, l3, c3, rfl, hi, hp, hg⟩
                unfold exV
                have hs4 : w2.heap.size + 1 ≤ w4.heap.size := by rw [← ha3]; exact hg.size
                have LR := Lib.hid ((hg.block w.heap.size (by omega) (by intro e; injection e with e; omega)).trans HR3.out)
                have g0 := Lib.hid (gb_trans HG3.out hg)
                have HP := Lib.hid hp
                have HI := Lib.hid hi
                clear hp hg kp hi p0 q0 q1 q2 q3 c30
                go_wp2_with (refine wpList_store_row rfl 54 (.tmp 4) (.tmp 66) rfl w.heap.size #[.string o3, .string m3, .int .i64 n3, .int .i64 a3, .slice x3 l3 c3] rfl rfl 54 _ LR.out HSE.out rfl (expr_one _ _ _ _ _ _ _) ?_)
                have hset := setRow_heap w4 w.heap.size _ #[.string o3, .string m3, .int .i64 n3, .int .i64 a3, .slice x3 l3 c3] _ _ LR.out
                refine bodyPost_ret (v := .agg #[.string o3, .string m3, .int .i64 n3, .int .i64 a3, .slice x3 l3 c3]) (results_cell_row (p := 4) (ty := 54) rfl _ _ w.heap.size 54 _ (0, 0) _ rfl hset Tryz.underlying54 rfl HSE.out) rfl ?_
                rw [HEQ.out]
                refine ⟨_, _, _, _, _, _, _, rfl, IsE.mono (B := w2.heap.size + 1) (by omega) _ (ha3 ▸ HI.out.keep (by rw [setRow_size]; exact Nat.le_refl _) (fun k h2 h3 => setRow_other w4 w.heap.size k _ (by omega))), HP.out.keep (setRow_other w4 w.heap.size gp _ (by omega)) (setRow_other w4 w.heap.size gw _ (by omega)) (by rw [setRow_size]; exact Nat.le_refl _), gb_setRow g0.out _ (Nat.le_refl _) _⟩
            · have HEQ : Hid (RR = CH) := Lib.hid (by rw [HRR.out]; simp [hk3, hk1])
              clear HRR
              clear hk3 hk1
              go_enter Tryz.func128, Tryz.ntmps128
              go_wp2_with fail
              (with_reducible refine ka.mono ?_)
              rintro e w2 ⟨rfl, hp, hg⟩
              have hs2 : w.heap.size + 1 ≤ w2.heap.size := by rw [← hs1]; exact hg.size
              obtain ⟨p0, _, _, _, _⟩ := hp.cells
              obtain ⟨q0, q1, q2, q3⟩ := hp.cur_cell
              rw [← HY.out] at q0 q1 q2 q3
              have hm : 0 < L.length - s.i := by have := hp.lt; omega
              obtain ⟨m, hme⟩ : ∃ m, m = L.length - s.i := ⟨_, rfl⟩
              obtain ⟨dd, hdd⟩ : ∃ d, d = c - s.i := ⟨_, rfl⟩
              obtain ⟨q, hqq⟩ : ∃ q, q = s.i * 4 := ⟨_, rfl⟩
              rw [← hme] at hm p0
              rw [← hdd, ← hqq] at p0
              rw [← hqq] at q0 q1 q2 q3
              have hb3 : Below w2.heap.size w2 (w2.alloc (.cells #[.int .i64 (xk : Int), .string xt, .int .i64 xn, .int .i64 (xa : Int)] 77)) := (Below.refl _ _).alloc (Nat.le_refl _) _
              have hn3 := heap_alloc_new w2 (.cells #[.int .i64 (xk : Int), .string xt, .int .i64 xn, .int .i64 (xa : Int)] 77)
              have ha3 : (w2.alloc (.cells #[.int .i64 (xk : Int), .string xt, .int .i64 xn, .int .i64 (xa : Int)] 77)).heap.size = w2.heap.size + 1 := by simp
              have HP3 := Lib.hid (hp.below hb3)
              have HG3 := Lib.hid (gb_trans HB1.out (gb_trans hg (gb_below (r := some gp) hb3)))
              have HR3 := Lib.hid ((hb3.block w.heap.size (by omega)).trans ((hg.block w.heap.size (by omega) (by intro e; injection e with e; omega)).trans HN1.out))
              have HN3 := Lib.hid hn3
              have c30 := cell_of_row _ w2.heap.size 0 _ _ _ hn3
              clear hp hg ka hb3 hn3 hme hdd hqq
              simp only at q0 q1 q2 q3
              have ki := K0.out _ HP3.out
              go_wp2_with fail
              (with_reducible refine ki.mono ?_)
              rintro e w' ⟨rfl, hw'⟩
              rw [hw']
              clear ki hw' w'
              have ki := K1.out _ HP3.out
              go_wp2_with fail
              (with_reducible refine ki.mono ?_)
              rintro e w' ⟨rfl, hw'⟩
              rw [hw']
              clear ki hw' w'
              have ki := K2.out _ HP3.out
              go_wp2_with fail
              (with_reducible refine ki.mono ?_)
              rintro e w' ⟨rfl, hw'⟩
              rw [hw']
              clear ki hw' w'
              have ki := K3.out _ HP3.out
              go_wp2_with fail
              (with_reducible refine ki.mono ?_)
              rintro e w' ⟨rfl, hw'⟩
              rw [hw']
              clear ki hw' w'
              have kp := HCH.out trivial _ HP3.out
              go_wp2_with fail
              (with_reducible refine kp.mono ?_)
              rintro e w4 ⟨o3, m3, n3, a3, x3, l3, c3, rfl, hi, hp, hg⟩
              unfold exV
              have hs4 : w2.heap.size + 1 ≤ w4.heap.size := by rw [← ha3]; exact hg.size
              have LR := Lib.hid ((hg.block w.heap.size (by omega) (by intro e; injection e with e; omega)).trans HR3.out)
              have g0 := Lib.hid (gb_trans HG3.out hg)
              have HP := Lib.hid hp
              have HI := Lib.hid hi
              clear hp hg kp hi p0 q0 q1 q2 q3 c30
              go_wp2_with (refine wpList_store_row rfl 54 (.tmp 4) (.tmp 60) rfl w.heap.size #[.string o3, .string m3, .int .i64 n3, .int .i64 a3, .slice x3 l3 c3] rfl rfl 54 _ LR.out HSE.out rfl (expr_one _ _ _ _ _ _ _) ?_)
              have hset := setRow_heap w4 w.heap.size _ #[.string o3, .string m3, .int .i64 n3, .int .i64 a3, .slice x3 l3 c3] _ _ LR.out
              refine bodyPost_ret (v := .agg #[.string o3, .string m3, .int .i64 n3, .int .i64 a3, .slice x3 l3 c3]) (results_cell_row (p := 4) (ty := 54) rfl _ _ w.heap.size 54 _ (0, 0) _ rfl hset Tryz.underlying54 rfl HSE.out) rfl ?_
              rw [HEQ.out]
              refine ⟨_, _, _, _, _, _, _, rfl, IsE.mono (B := w2.heap.size + 1) (by omega) _ (ha3 ▸ HI.out.keep (by rw [setRow_size]; exact Nat.le_refl _) (fun k h2 h3 => setRow_other w4 w.heap.size k _ (by omega))), HP.out.keep (setRow_other w4 w.heap.size gp _ (by omega)) (setRow_other w4 w.heap.size gw _ (by omega)) (by rw [setRow_size]; exact Nat.le_refl _), gb_setRow g0.out _ (Nat.le_refl _) _⟩
          · have HEQ : Hid (RR = BR) := Lib.hid (by rw [HRR.out]; simp [hk3, hk1])
            clear HRR
            clear hk3 hk1
            go_enter Tryz.func128, Tryz.ntmps128
            go_wp2_with fail
            (with_reducible refine ka.mono ?_)
            rintro e w2 ⟨rfl, hp, hg⟩
            have hs2 : w.heap.size + 1 ≤ w2.heap.size := by rw [← hs1]; exact hg.size
            obtain ⟨p0, _, _, _, _⟩ := hp.cells
            obtain ⟨q0, q1, q2, q3⟩ := hp.cur_cell
            rw [← HY.out] at q0 q1 q2 q3
            have hm : 0 < L.length - s.i := by have := hp.lt; omega
            obtain ⟨m, hme⟩ : ∃ m, m = L.length - s.i := ⟨_, rfl⟩
            obtain ⟨dd, hdd⟩ : ∃ d, d = c - s.i := ⟨_, rfl⟩
            obtain ⟨q, hqq⟩ : ∃ q, q = s.i * 4 := ⟨_, rfl⟩
            rw [← hme] at hm p0
            rw [← hdd, ← hqq] at p0
            rw [← hqq] at q0 q1 q2 q3
            have hb3 : Below w2.heap.size w2 (w2.alloc (.cells #[.int .i64 (xk : Int), .string xt, .int .i64 xn, .int .i64 (xa : Int)] 77)) := (Below.refl _ _).alloc (Nat.le_refl _) _
            have hn3 := heap_alloc_new w2 (.cells #[.int .i64 (xk : Int), .string xt, .int .i64 xn, .int .i64 (xa : Int)] 77)
            have ha3 : (w2.alloc (.cells #[.int .i64 (xk : Int), .string xt, .int .i64 xn, .int .i64 (xa : Int)] 77)).heap.size = w2.heap.size + 1 := by simp
            have HP3 := Lib.hid (hp.below hb3)
            have HG3 := Lib.hid (gb_trans HB1.out (gb_trans hg (gb_below (r := some gp) hb3)))
            have HR3 := Lib.hid ((hb3.block w.heap.size (by omega)).trans ((hg.block w.heap.size (by omega) (by intro e; injection e with e; omega)).trans HN1.out))
            have HN3 := Lib.hid hn3
            have c30 := cell_of_row _ w2.heap.size 0 _ _ _ hn3
            clear hp hg ka hb3 hn3 hme hdd hqq
            simp only at q0 q1 q2 q3
            have ki := K0.out _ HP3.out
            go_wp2_with fail
            (with_reducible refine ki.mono ?_)
            rintro e w' ⟨rfl, hw'⟩
            rw [hw']
            clear ki hw' w'
            have ki := K1.out _ HP3.out
            go_wp2_with fail
            (with_reducible refine ki.mono ?_)
            rintro e w' ⟨rfl, hw'⟩
            rw [hw']
            clear ki hw' w'
            have ki := K2.out _ HP3.out
            go_wp2_with fail
            (with_reducible refine ki.mono ?_)
            rintro e w' ⟨rfl, hw'⟩
            rw [hw']
            clear ki hw' w'
            have kp := HBR.out trivial _ HP3.out
            go_wp2_with fail
            (with_reducible refine kp.mono ?_)
            rintro e w4 ⟨o3, m3, n3, a3, x3, l3, c3, rfl, hi, hp, hg⟩
            unfold exV
            have hs4 : w2.heap.size + 1 ≤ w4.heap.size := by rw [← ha3]; exact hg.size
            have LR := Lib.hid ((hg.block w.heap.size (by omega) (by intro e; injection e with e; omega)).trans HR3.out)
            have g0 := Lib.hid (gb_trans HG3.out hg)
            have HP := Lib.hid hp
            have HI := Lib.hid hi
            clear hp hg kp hi p0 q0 q1 q2 q3 c30
            go_wp2_with (refine wpList_store_row rfl 54 (.tmp 4) (.tmp 54) rfl w.heap.size #[.string o3, .string m3, .int .i64 n3, .int .i64 a3, .slice x3 l3 c3] rfl rfl 54 _ LR.out HSE.out rfl (expr_one _ _ _ _ _ _ _) ?_)
            have hset := setRow_heap w4 w.heap.size _ #[.string o3, .string m3, .int .i64 n3, .int .i64 a3, .slice x3 l3 c3] _ _ LR.out
            refine bodyPost_ret (v := .agg #[.string o3, .string m3, .int .i64 n3, .int .i64 a3, .slice x3 l3 c3]) (results_cell_row (p := 4) (ty := 54) rfl _ _ w.heap.size 54 _ (0, 0) _ rfl hset Tryz.underlying54 rfl HSE.out) rfl ?_
            rw [HEQ.out]
            refine ⟨_, _, _, _, _, _, _, rfl, IsE.mono (B := w2.heap.size + 1) (by omega) _ (ha3 ▸ HI.out.keep (by rw [setRow_size]; exact Nat.le_refl _) (fun k h2 h3 => setRow_other w4 w.heap.size k _ (by omega))), HP.out.keep (setRow_other w4 w.heap.size gp _ (by omega)) (setRow_other w4 w.heap.size gw _ (by omega)) (by rw [setRow_size]; exact Nat.le_refl _), gb_setRow g0.out _ (Nat.le_refl _) _⟩
        · have HEQ : Hid (RR = (.mk (bs [98, 111, 111, 108]) ⟨#[]⟩ 0 xa [], P.2)) := Lib.hid (by rw [HRR.out]; simp [hk3, hk1])
          clear HRR
          clear hk3 hk1
          go_enter Tryz.func128, Tryz.ntmps128
          go_wp2_with fail
          (with_reducible refine ka.mono ?_)
          rintro e w2 ⟨rfl, hp, hg⟩
          have hs2 : w.heap.size + 1 ≤ w2.heap.size := by rw [← hs1]; exact hg.size
          obtain ⟨p0, _, _, _, _⟩ := hp.cells
          obtain ⟨q0, q1, q2, q3⟩ := hp.cur_cell
          rw [← HY.out] at q0 q1 q2 q3
          have hm : 0 < L.length - s.i := by have := hp.lt; omega
          obtain ⟨m, hme⟩ : ∃ m, m = L.length - s.i := ⟨_, rfl⟩
          obtain ⟨dd, hdd⟩ : ∃ d, d = c - s.i := ⟨_, rfl⟩
          obtain ⟨q, hqq⟩ : ∃ q, q = s.i * 4 := ⟨_, rfl⟩
          rw [← hme] at hm p0
          rw [← hdd, ← hqq] at p0
          rw [← hqq] at q0 q1 q2 q3
          have hb3 : Below w2.heap.size w2 (w2.alloc (.cells #[.int .i64 (xk : Int), .string xt, .int .i64 xn, .int .i64 (xa : Int)] 77)) := (Below.refl _ _).alloc (Nat.le_refl _) _
          have hn3 := heap_alloc_new w2 (.cells #[.int .i64 (xk : Int), .string xt, .int .i64 xn, .int .i64 (xa : Int)] 77)
          have ha3 : (w2.alloc (.cells #[.int .i64 (xk : Int), .string xt, .int .i64 xn, .int .i64 (xa : Int)] 77)).heap.size = w2.heap.size + 1 := by simp
          have HP3 := Lib.hid (hp.below hb3)
          have HG3 := Lib.hid (gb_trans HB1.out (gb_trans hg (gb_below (r := some gp) hb3)))
          have HR3 := Lib.hid ((hb3.block w.heap.size (by omega)).trans ((hg.block w.heap.size (by omega) (by intro e; injection e with e; omega)).trans HN1.out))
          have HN3 := Lib.hid hn3
          have c30 := cell_of_row _ w2.heap.size 0 _ _ _ hn3
          clear hp hg ka hb3 hn3 hme hdd hqq
          simp only at q0 q1 q2 q3
          have ki := K0.out _ HP3.out
          go_wp2_with fail
          (with_reducible refine ki.mono ?_)
          rintro e w' ⟨rfl, hw'⟩
          rw [hw']
          clear ki hw' w'
          have ki := K1.out _ HP3.out
          go_wp2_with fail
          (with_reducible refine ki.mono ?_)
          rintro e w' ⟨rfl, hw'⟩
          rw [hw']
          clear ki hw' w'
          have kp := KP.out _ HP3.out
          go_wp2_with fail
          (with_reducible refine kp.mono ?_)
          rintro e w4 ⟨rfl, hp, hg⟩
          have hs4 : w2.heap.size + 1 ≤ w4.heap.size := by rw [← ha3]; exact hg.size
          have LR := Lib.hid ((hg.block w.heap.size (by omega) (by intro e; injection e with e; omega)).trans HR3.out)
          have hl := (hg.block w2.heap.size (by omega) (by intro e; injection e with e; omega)).trans HN3.out
          have c42 := cell_of_row _ w2.heap.size 2 _ _ _ hl
          have c43 := cell_of_row _ w2.heap.size 3 _ _ _ hl
          have g0 := Lib.hid (gb_trans HG3.out hg)
          have HP := Lib.hid hp
          clear hp hg kp hl p0 q0 q1 q2 q3 c30
          go_wp2_with (refine wpList_store_row rfl 54 (.tmp 4) (.tmp 48) rfl w.heap.size #[.string ⟨#[98, 111, 111, 108]⟩, .string ⟨#[]⟩, .int .i64 0, .int .i64 (xa : Int), .slice none 0 0] rfl rfl 54 _ LR.out HSE.out rfl (expr_one _ _ _ _ _ _ _) ?_)
          have hset := setRow_heap w4 w.heap.size _ #[.string ⟨#[98, 111, 111, 108]⟩, .string ⟨#[]⟩, .int .i64 0, .int .i64 (xa : Int), .slice none 0 0] _ _ LR.out
          refine bodyPost_ret (v := .agg #[.string ⟨#[98, 111, 111, 108]⟩, .string ⟨#[]⟩, .int .i64 0, .int .i64 (xa : Int), .slice none 0 0]) (results_cell_row (p := 4) (ty := 54) rfl _ _ w.heap.size 54 _ (0, 0) _ rfl hset Tryz.underlying54 rfl HSE.out) rfl ?_
          rw [HEQ.out]
          refine ⟨_, _, _, _, _, _, _, rfl, by unfold IsE; exact ⟨rfl, rfl, rfl, rfl, rfl, fun h => absurd h (by simp)⟩, HP.out.keep (setRow_other w4 w.heap.size gp _ (by omega)) (setRow_other w4 w.heap.size gw _ (by omega)) (by rw [setRow_size]; exact Nat.le_refl _), gb_setRow g0.out _ (Nat.le_refl _) _⟩
      · have HEQ : Hid (RR = (.mk (bs [98, 111, 111, 108]) ⟨#[]⟩ 1 xa [], P.2)) := Lib.hid (by rw [HRR.out]; simp [hk3, hk1])
        clear HRR
        clear hk3 hk1
        go_enter Tryz.func128, Tryz.ntmps128
        go_wp2_with fail
        (with_reducible refine ka.mono ?_)
        rintro e w2 ⟨rfl, hp, hg⟩
        have hs2 : w.heap.size + 1 ≤ w2.heap.size := by rw [← hs1]; exact hg.size
        obtain ⟨p0, _, _, _, _⟩ := hp.cells
        obtain ⟨q0, q1, q2, q3⟩ := hp.cur_cell
        rw [← HY.out] at q0 q1 q2 q3
        have hm : 0 < L.length - s.i := by have := hp.lt; omega
        obtain ⟨m, hme⟩ : ∃ m, m = L.length - s.i := ⟨_, rfl⟩
        obtain ⟨dd, hdd⟩ : ∃ d, d = c - s.i := ⟨_, rfl⟩
        obtain ⟨q, hqq⟩ : ∃ q, q = s.i * 4 := ⟨_, rfl⟩
        rw [← hme] at hm p0
        rw [← hdd, ← hqq] at p0
        rw [← hqq] at q0 q1 q2 q3
        have hb3 : Below w2.heap.size w2 (w2.alloc (.cells #[.int .i64 (xk : Int), .string xt, .int .i64 xn, .int .i64 (xa : Int)] 77)) := (Below.refl _ _).alloc (Nat.le_refl _) _
        have hn3 := heap_alloc_new w2 (.cells #[.int .i64 (xk : Int), .string xt, .int .i64 xn, .int .i64 (xa : Int)] 77)
        have ha3 : (w2.alloc (.cells #[.int .i64 (xk : Int), .string xt, .int .i64 xn, .int .i64 (xa : Int)] 77)).heap.size = w2.heap.size + 1 := by simp
        have HP3 := Lib.hid (hp.below hb3)
        have HG3 := Lib.hid (gb_trans HB1.out (gb_trans hg (gb_below (r := some gp) hb3)))
        have HR3 := Lib.hid ((hb3.block w.heap.size (by omega)).trans ((hg.block w.heap.size (by omega) (by intro e; injection e with e; omega)).trans HN1.out))
        have HN3 := Lib.hid hn3
        have c30 := cell_of_row _ w2.heap.size 0 _ _ _ hn3
        clear hp hg ka hb3 hn3 hme hdd hqq
        simp only at q0 q1 q2 q3
        have ki := K0.out _ HP3.out
        go_wp2_with fail
        (with_reducible refine ki.mono ?_)
        rintro e w' ⟨rfl, hw'⟩
        rw [hw']
        clear ki hw' w'
        have kp := KP.out _ HP3.out
        go_wp2_with fail
        (with_reducible refine kp.mono ?_)
        rintro e w4 ⟨rfl, hp, hg⟩
        have hs4 : w2.heap.size + 1 ≤ w4.heap.size := by rw [← ha3]; exact hg.size
        have LR := Lib.hid ((hg.block w.heap.size (by omega) (by intro e; injection e with e; omega)).trans HR3.out)
        have hl := (hg.block w2.heap.size (by omega) (by intro e; injection e with e; omega)).trans HN3.out
        have c42 := cell_of_row _ w2.heap.size 2 _ _ _ hl
        have c43 := cell_of_row _ w2.heap.size 3 _ _ _ hl
        have g0 := Lib.hid (gb_trans HG3.out hg)
        have HP := Lib.hid hp
        clear hp hg kp hl p0 q0 q1 q2 q3 c30
        go_wp2_with (refine wpList_store_row rfl 54 (.tmp 4) (.tmp 40) rfl w.heap.size #[.string ⟨#[98, 111, 111, 108]⟩, .string ⟨#[]⟩, .int .i64 1, .int .i64 (xa : Int), .slice none 0 0] rfl rfl 54 _ LR.out HSE.out rfl (expr_one _ _ _ _ _ _ _) ?_)
        have hset := setRow_heap w4 w.heap.size _ #[.string ⟨#[98, 111, 111, 108]⟩, .string ⟨#[]⟩, .int .i64 1, .int .i64 (xa : Int), .slice none 0 0] _ _ LR.out
        refine bodyPost_ret (v := .agg #[.string ⟨#[98, 111, 111, 108]⟩, .string ⟨#[]⟩, .int .i64 1, .int .i64 (xa : Int), .slice none 0 0]) (results_cell_row (p := 4) (ty := 54) rfl _ _ w.heap.size 54 _ (0, 0) _ rfl hset Tryz.underlying54 rfl HSE.out) rfl ?_
        rw [HEQ.out]
        refine ⟨_, _, _, _, _, _, _, rfl, by unfold IsE; exact ⟨rfl, rfl, rfl, rfl, rfl, fun h => absurd h (by simp)⟩, HP.out.keep (setRow_other w4 w.heap.size gp _ (by omega)) (setRow_other w4 w.heap.size gw _ (by omega)) (by rw [setRow_size]; exact Nat.le_refl _), gb_setRow g0.out _ (Nat.le_refl _) _⟩
end Go.Proofs.YtjlnihennlkmpaaGreatDoor

namespace Go.Proofs.YtjlnihennlkmpaaGreatDoor
open Go Go.RowKit
set_option maxHeartbeats 4000000 in
set_option maxRecDepth 100000 in
theorem choice_any (L : List Wd) (hG : Good L) (d : Nat) (hd : d < 1000) (w : World) (gp gw c : Nat) (st : St) (h : Par L w gp gw c st) (hq : st.parts < 1000000000) (t1 t2 t3 : Ex) (S1 S2 S3 : St)
    (hx1 : ∀ W, Par L W gp gw c (partS L st).2 → Calls Tryz.prog 76 #[.pointer (some ⟨gp, 0, none⟩), .int .i64 ((d : Int) + 1)] W (GivesX L gp gw c t1 S1 W))
    (hx2 : ∀ W, Par L W gp gw c (needS L (bs [116, 104, 101, 110]) S1) → Calls Tryz.prog 76 #[.pointer (some ⟨gp, 0, none⟩), .int .i64 ((d : Int) + 1)] W (GivesX L gp gw c t2 S2 W))
    (hx3 : ∀ W, Par L W gp gw c (needS L (bs [101, 108, 115, 101]) S2) → Calls Tryz.prog 76 #[.pointer (some ⟨gp, 0, none⟩), .int .i64 ((d : Int) + 1)] W (GivesX L gp gw c t3 S3 W)) :
    Calls Tryz.prog 131 #[.pointer (some ⟨gp, 0, none⟩), .int .i64 (d : Int)] w (GivesX L gp gw c (.mk (bs [105, 102]) ⟨#[]⟩ 0 (partS L st).1.at_ [t1, t2, t3]) S3 w) := by
  have hb1 : Below w.heap.size w (w.alloc (.cells #[.string ⟨#[]⟩, .string ⟨#[]⟩, .int .i64 0, .int .i64 0, .slice none 0 0] 54)) := (Below.refl _ _).alloc (Nat.le_refl _) _
  have hn1 := heap_alloc_new w (.cells #[.string ⟨#[]⟩, .string ⟨#[]⟩, .int .i64 0, .int .i64 0, .slice none 0 0] 54)
  have h1 := h.below hb1
  have hgp := h.gpl
  have hgw := h.gwl
  have hs1 : (w.alloc (.cells #[.string ⟨#[]⟩, .string ⟨#[]⟩, .int .i64 0, .int .i64 0, .slice none 0 0] 54)).heap.size = w.heap.size + 1 := by simp
  have kn := part_any L hG _ gp gw c st h1 hq
  have kd1 : ∀ W, Par L W gp gw c S1 → Calls Tryz.prog 55 #[.pointer (some ⟨gp, 0, none⟩), .string ⟨#[116, 104, 101, 110]⟩] W (GivesU L gp gw c (needS L (bs [116, 104, 101, 110]) S1) W) := fun W hp => need_any L hG (bs [116, 104, 101, 110]) W gp gw c S1 hp
  have kd2 : ∀ W, Par L W gp gw c S2 → Calls Tryz.prog 55 #[.pointer (some ⟨gp, 0, none⟩), .string ⟨#[101, 108, 115, 101]⟩] W (GivesU L gp gw c (needS L (bs [101, 108, 115, 101]) S2) W) := fun W hp => need_any L hG (bs [101, 108, 115, 101]) W gp gw c S2 hp
  obtain ⟨R1, hR1⟩ : ∃ R, R = needS L (bs [116, 104, 101, 110]) S1 := ⟨_, rfl⟩
  obtain ⟨R2, hR2⟩ : ∃ R, R = needS L (bs [101, 108, 115, 101]) S2 := ⟨_, rfl⟩
  obtain ⟨y, hy⟩ : ∃ y, y = (partS L st).1 := ⟨_, rfl⟩
  obtain ⟨S0, hS0⟩ : ∃ S, S = (partS L st).2 := ⟨_, rfl⟩
  rw [← hR1] at kd1 hx2
  rw [← hR2] at kd2 hx3
  rw [← hS0] at hx1
  rw [← hy, ← hS0] at kn
  rw [← hy]
  have HX1 := Lib.hid hx1
  have HX2 := Lib.hid hx2
  have HX3 := Lib.hid hx3
  have HB0 := Lib.hid (gb_below (r := some gp) hb1)
  have HN0 := Lib.hid hn1
  have HD1 := Lib.hid kd1
  have HD2 := Lib.hid kd2
  have HSE := Lib.hid size_expr
  clear hR1 hR2 hy hS0 hx1 hx2 hx3 hb1 hn1 kd1 kd2 h h1
  obtain ⟨yk, yt, yn, ya⟩ := y
  unfold Wd.cells at kn
  have kfi := field_at (yk : Int) yn (ya : Int) yt
  go_enter Tryz.func131, Tryz.ntmps131
  go_wp2_with fail
  (with_reducible refine kn.mono ?_)
  rintro e w2 ⟨rfl, hp, hg⟩
  have hx1k := HX1.out w2 hp
  have hs_w2 : w.heap.size + 1 ≤ w2.heap.size := by rw [← hs1]; exact hg.size
  have HG0 := Lib.hid hg
  clear hp hg kn
  go_wp2_with fail
  (with_reducible refine hx1k.mono ?_)
  rintro e w3 ⟨o1, m1, n1, a1, x1, l1, c1, rfl, hi, hp, hg⟩
  unfold exV
  have hs_w3 : w2.heap.size ≤ w3.heap.size := hg.size
  have hb : Below w3.heap.size w3 (w3.alloc (.cells #[.string o1, .string m1, .int .i64 n1, .int .i64 a1, .slice x1 l1 c1] 54)) := (Below.refl _ _).alloc (Nat.le_refl _) _
  have HP1 := Lib.hid (hp.below hb)
  have HN1 := Lib.hid (heap_alloc_new w3 (.cells #[.string o1, .string m1, .int .i64 n1, .int .i64 a1, .slice x1 l1 c1] 54))
  have ha_w3 : (w3.alloc (.cells #[.string o1, .string m1, .int .i64 n1, .int .i64 a1, .slice x1 l1 c1] 54)).heap.size = w3.heap.size + 1 := by simp
  have HI1 := Lib.hid hi
  have HG1 := Lib.hid hg
  have HB1 := Lib.hid (gb_below (r := some gp) hb)
  clear hi hp hg hb hx1k
  have kd := HD1.out _ HP1.out
  go_wp2_with fail
  (with_reducible refine kd.mono ?_)
  rintro e w4 ⟨rfl, hp, hg⟩
  have HX2k := HX2.out w4 hp
  have hs_w4 : w3.heap.size + 1 ≤ w4.heap.size := by rw [← ha_w3]; exact hg.size
  have HGN1 := Lib.hid hg
  clear hp hg kd
  go_wp2_with fail
  (with_reducible refine HX2k.mono ?_)
  rintro e w5 ⟨o2, m2, n2, a2, x2, l2, c2, rfl, hi, hp, hg⟩
  unfold exV
  have hs_w5 : w4.heap.size ≤ w5.heap.size := hg.size
  have hb : Below w5.heap.size w5 (w5.alloc (.cells #[.string o2, .string m2, .int .i64 n2, .int .i64 a2, .slice x2 l2 c2] 54)) := (Below.refl _ _).alloc (Nat.le_refl _) _
  have HP2 := Lib.hid (hp.below hb)
  have HN2 := Lib.hid (heap_alloc_new w5 (.cells #[.string o2, .string m2, .int .i64 n2, .int .i64 a2, .slice x2 l2 c2] 54))
  have ha_w5 : (w5.alloc (.cells #[.string o2, .string m2, .int .i64 n2, .int .i64 a2, .slice x2 l2 c2] 54)).heap.size = w5.heap.size + 1 := by simp
  have HI2 := Lib.hid hi
  have HG2 := Lib.hid hg
  have HB2 := Lib.hid (gb_below (r := some gp) hb)
  clear hi hp hg hb HX2k
  have kd := HD2.out _ HP2.out
  go_wp2_with fail
  (with_reducible refine kd.mono ?_)
  rintro e w6 ⟨rfl, hp, hg⟩
  have HX3k := HX3.out w6 hp
  have hs_w6 : w5.heap.size + 1 ≤ w6.heap.size := by rw [← ha_w5]; exact hg.size
  have HGN2 := Lib.hid hg
  clear hp hg kd
  go_wp2_with fail
  (with_reducible refine HX3k.mono ?_)
  rintro e w7 ⟨o3, m3, n3, a3, x3, l3, c3, rfl, hi, hp, hg⟩
  unfold exV
  have hs_w7 : w6.heap.size ≤ w7.heap.size := hg.size
  have hb : Below w7.heap.size w7 (w7.alloc (.cells #[.string o3, .string m3, .int .i64 n3, .int .i64 a3, .slice x3 l3 c3] 54)) := (Below.refl _ _).alloc (Nat.le_refl _) _
  have HP3 := Lib.hid (hp.below hb)
  have HN3 := Lib.hid (heap_alloc_new w7 (.cells #[.string o3, .string m3, .int .i64 n3, .int .i64 a3, .slice x3 l3 c3] 54))
  have ha_w7 : (w7.alloc (.cells #[.string o3, .string m3, .int .i64 n3, .int .i64 a3, .slice x3 l3 c3] 54)).heap.size = w7.heap.size + 1 := by simp
  have HI3 := Lib.hid hi
  have HG3 := Lib.hid hg
  have HB3 := Lib.hid (gb_below (r := some gp) hb)
  clear hi hp hg hb HX3k
  have hz8 : ((w7.alloc (.cells #[.string o3, .string m3, .int .i64 n3, .int .i64 a3, .slice x3 l3 c3] 54)).alloc (.cells #[.string o1, .string m1, .int .i64 n1, .int .i64 a1, .slice x1 l1 c1, .string o2, .string m2, .int .i64 n2, .int .i64 a2, .slice x2 l2 c2, .string o3, .string m3, .int .i64 n3, .int .i64 a3, .slice x3 l3 c3] 54)).heap.size = w7.heap.size + 1 + 1 := by simp
  have HK8 := Lib.hid (heap_alloc_new (w7.alloc (.cells #[.string o3, .string m3, .int .i64 n3, .int .i64 a3, .slice x3 l3 c3] 54)) (.cells #[.string o1, .string m1, .int .i64 n1, .int .i64 a1, .slice x1 l1 c1, .string o2, .string m2, .int .i64 n2, .int .i64 a2, .slice x2 l2 c2, .string o3, .string m3, .int .i64 n3, .int .i64 a3, .slice x3 l3 c3] 54))
  have hb8 : Below (w7.alloc (.cells #[.string o3, .string m3, .int .i64 n3, .int .i64 a3, .slice x3 l3 c3] 54)).heap.size (w7.alloc (.cells #[.string o3, .string m3, .int .i64 n3, .int .i64 a3, .slice x3 l3 c3] 54)) ((w7.alloc (.cells #[.string o3, .string m3, .int .i64 n3, .int .i64 a3, .slice x3 l3 c3] 54)).alloc (.cells #[.string o1, .string m1, .int .i64 n1, .int .i64 a1, .slice x1 l1 c1, .string o2, .string m2, .int .i64 n2, .int .i64 a2, .slice x2 l2 c2, .string o3, .string m3, .int .i64 n3, .int .i64 a3, .slice x3 l3 c3] 54)) := (Below.refl _ _).alloc (Nat.le_refl _) _
  have HB8 := Lib.hid (gb_below (r := some gp) hb8)
  have g7 : Hid (w7.grownBy (w7.alloc (.cells #[.string o3, .string m3, .int .i64 n3, .int .i64 a3, .slice x3 l3 c3] 54)) (some gp)) := HB3
  have g6 := Lib.hid (gb_trans HG3.out g7.out)
  have g5a := Lib.hid (gb_trans HGN2.out g6.out)
  have g5 := Lib.hid (gb_trans HB2.out g5a.out)
  have g4 := Lib.hid (gb_trans HG2.out g5.out)
  have g3a := Lib.hid (gb_trans HGN1.out g4.out)
  have g3 := Lib.hid (gb_trans HB1.out g3a.out)
  have g2 := Lib.hid (gb_trans HG1.out g3.out)
  have g1 := Lib.hid (gb_trans HG0.out g2.out)
  have g0 := Lib.hid (gb_trans HB0.out g1.out)
  have L1 := Lib.hid ((g3a.out.block w3.heap.size (by omega) (by intro e; injection e with e; omega)).trans HN1.out)
  have L2 := Lib.hid ((g5a.out.block w5.heap.size (by omega) (by intro e; injection e with e; omega)).trans HN2.out)
  have LR := Lib.hid ((g1.out.block w.heap.size (by omega) (by intro e; injection e with e; omega)).trans HN0.out)
  have LR8 := Lib.hid ((HB8.out.block w.heap.size (by omega) (by intro e; injection e with e; omega)).trans LR.out)
  have hb8k := Lib.hid hb8
  clear hb8
  go_wp2_with (first | (refine wpList_load_row rfl 54 (.tmp 6) rfl w3.heap.size rfl 54 #[.string o1, .string m1, .int .i64 n1, .int .i64 a1, .slice x1 l1 c1] (0, 0) _ L1.out Tryz.underlying54 rfl HSE.out ?_) | (refine wpList_load_row rfl 54 (.tmp 7) rfl w5.heap.size rfl 54 #[.string o2, .string m2, .int .i64 n2, .int .i64 a2, .slice x2 l2 c2] (0, 0) _ L2.out Tryz.underlying54 rfl HSE.out ?_) | (refine wpList_load_row rfl 54 (.tmp 8) rfl w7.heap.size rfl 54 #[.string o3, .string m3, .int .i64 n3, .int .i64 a3, .slice x3 l3 c3] (0, 0) _ HN3.out Tryz.underlying54 rfl HSE.out ?_) | (refine wpList_store_row rfl 54 (.tmp 4) (.tmp 33) rfl w.heap.size #[.string ⟨#[105, 102]⟩, .string ⟨#[]⟩, .int .i64 0, .int .i64 (ya : Int), .slice (some ⟨w7.heap.size + 1, 0, none⟩) 3 3] rfl rfl 54 _ LR8.out HSE.out rfl (expr_one _ _ _ _ _ _ _) ?_))
  have hset := setRow_heap ((w7.alloc (.cells #[.string o3, .string m3, .int .i64 n3, .int .i64 a3, .slice x3 l3 c3] 54)).alloc (.cells #[.string o1, .string m1, .int .i64 n1, .int .i64 a1, .slice x1 l1 c1, .string o2, .string m2, .int .i64 n2, .int .i64 a2, .slice x2 l2 c2, .string o3, .string m3, .int .i64 n3, .int .i64 a3, .slice x3 l3 c3] 54)) w.heap.size _ #[.string ⟨#[105, 102]⟩, .string ⟨#[]⟩, .int .i64 0, .int .i64 (ya : Int), .slice (some ⟨w7.heap.size + 1, 0, none⟩) 3 3] _ _ LR8.out
  have g9 := gb_setRow (gb_trans g0.out HB8.out) w.heap.size (Nat.le_refl _) #[.string ⟨#[105, 102]⟩, .string ⟨#[]⟩, .int .i64 0, .int .i64 (ya : Int), .slice (some ⟨w7.heap.size + 1, 0, none⟩) 3 3]
  have hoth : ∀ k, w.heap.size < k → (((w7.alloc (.cells #[.string o3, .string m3, .int .i64 n3, .int .i64 a3, .slice x3 l3 c3] 54)).alloc (.cells #[.string o1, .string m1, .int .i64 n1, .int .i64 a1, .slice x1 l1 c1, .string o2, .string m2, .int .i64 n2, .int .i64 a2, .slice x2 l2 c2, .string o3, .string m3, .int .i64 n3, .int .i64 a3, .slice x3 l3 c3] 54)).setRow w.heap.size #[.string ⟨#[105, 102]⟩, .string ⟨#[]⟩, .int .i64 0, .int .i64 (ya : Int), .slice (some ⟨w7.heap.size + 1, 0, none⟩) 3 3]).heap[k]? = ((w7.alloc (.cells #[.string o3, .string m3, .int .i64 n3, .int .i64 a3, .slice x3 l3 c3] 54)).alloc (.cells #[.string o1, .string m1, .int .i64 n1, .int .i64 a1, .slice x1 l1 c1, .string o2, .string m2, .int .i64 n2, .int .i64 a2, .slice x2 l2 c2, .string o3, .string m3, .int .i64 n3, .int .i64 a3, .slice x3 l3 c3] 54)).heap[k]? := fun k hk => setRow_other ((w7.alloc (.cells #[.string o3, .string m3, .int .i64 n3, .int .i64 a3, .slice x3 l3 c3] 54)).alloc (.cells #[.string o1, .string m1, .int .i64 n1, .int .i64 a1, .slice x1 l1 c1, .string o2, .string m2, .int .i64 n2, .int .i64 a2, .slice x2 l2 c2, .string o3, .string m3, .int .i64 n3, .int .i64 a3, .slice x3 l3 c3] 54)) w.heap.size k _ (by omega)
  have hk9 := (hoth (w7.heap.size + 1) (by omega)).trans (ha_w7 ▸ HK8.out)
  have hz9 : (((w7.alloc (.cells #[.string o3, .string m3, .int .i64 n3, .int .i64 a3, .slice x3 l3 c3] 54)).alloc (.cells #[.string o1, .string m1, .int .i64 n1, .int .i64 a1, .slice x1 l1 c1, .string o2, .string m2, .int .i64 n2, .int .i64 a2, .slice x2 l2 c2, .string o3, .string m3, .int .i64 n3, .int .i64 a3, .slice x3 l3 c3] 54)).setRow w.heap.size #[.string ⟨#[105, 102]⟩, .string ⟨#[]⟩, .int .i64 0, .int .i64 (ya : Int), .slice (some ⟨w7.heap.size + 1, 0, none⟩) 3 3]).heap.size = w7.heap.size + 1 + 1 := by rw [setRow_size]; exact hz8
  have hcell : ∀ (j : Nat) (v : Value), (#[.string o1, .string m1, .int .i64 n1, .int .i64 a1, .slice x1 l1 c1, .string o2, .string m2, .int .i64 n2, .int .i64 a2, .slice x2 l2 c2, .string o3, .string m3, .int .i64 n3, .int .i64 a3, .slice x3 l3 c3] : Array Value)[j]? = some v → (((w7.alloc (.cells #[.string o3, .string m3, .int .i64 n3, .int .i64 a3, .slice x3 l3 c3] 54)).alloc (.cells #[.string o1, .string m1, .int .i64 n1, .int .i64 a1, .slice x1 l1 c1, .string o2, .string m2, .int .i64 n2, .int .i64 a2, .slice x2 l2 c2, .string o3, .string m3, .int .i64 n3, .int .i64 a3, .slice x3 l3 c3] 54)).setRow w.heap.size #[.string ⟨#[105, 102]⟩, .string ⟨#[]⟩, .int .i64 0, .int .i64 (ya : Int), .slice (some ⟨w7.heap.size + 1, 0, none⟩) 3 3]).cell? ⟨w7.heap.size + 1, j, none⟩ = some v := fun j v hv => by
    simp only [World.cell?, hk9]
    exact hv
  have hkeep : ∀ {W : World}, Hid (W.grownBy (w7.alloc (.cells #[.string o3, .string m3, .int .i64 n3, .int .i64 a3, .slice x3 l3 c3] 54)) (some gp)) → ∀ k, gp < k → w.heap.size < k → k < W.heap.size → (((w7.alloc (.cells #[.string o3, .string m3, .int .i64 n3, .int .i64 a3, .slice x3 l3 c3] 54)).alloc (.cells #[.string o1, .string m1, .int .i64 n1, .int .i64 a1, .slice x1 l1 c1, .string o2, .string m2, .int .i64 n2, .int .i64 a2, .slice x2 l2 c2, .string o3, .string m3, .int .i64 n3, .int .i64 a3, .slice x3 l3 c3] 54)).setRow w.heap.size #[.string ⟨#[105, 102]⟩, .string ⟨#[]⟩, .int .i64 0, .int .i64 (ya : Int), .slice (some ⟨w7.heap.size + 1, 0, none⟩) 3 3]).heap[k]? = W.heap[k]? := fun hg k h1 h2 h3 =>
    (hoth k h2).trans ((HB8.out.block k (Nat.lt_of_lt_of_le h3 hg.out.size) (by intro e; injection e with e; omega)).trans (hg.out.block k h3 (by intro e; injection e with e; omega)))
  have P8 := HP3.out.below hb8k.out
  have P9 := P8.keep (w' := ((w7.alloc (.cells #[.string o3, .string m3, .int .i64 n3, .int .i64 a3, .slice x3 l3 c3] 54)).alloc (.cells #[.string o1, .string m1, .int .i64 n1, .int .i64 a1, .slice x1 l1 c1, .string o2, .string m2, .int .i64 n2, .int .i64 a2, .slice x2 l2 c2, .string o3, .string m3, .int .i64 n3, .int .i64 a3, .slice x3 l3 c3] 54)).setRow w.heap.size #[.string ⟨#[105, 102]⟩, .string ⟨#[]⟩, .int .i64 0, .int .i64 (ya : Int), .slice (some ⟨w7.heap.size + 1, 0, none⟩) 3 3]) (setRow_other ((w7.alloc (.cells #[.string o3, .string m3, .int .i64 n3, .int .i64 a3, .slice x3 l3 c3] 54)).alloc (.cells #[.string o1, .string m1, .int .i64 n1, .int .i64 a1, .slice x1 l1 c1, .string o2, .string m2, .int .i64 n2, .int .i64 a2, .slice x2 l2 c2, .string o3, .string m3, .int .i64 n3, .int .i64 a3, .slice x3 l3 c3] 54)) w.heap.size gp _ (by omega)) (setRow_other ((w7.alloc (.cells #[.string o3, .string m3, .int .i64 n3, .int .i64 a3, .slice x3 l3 c3] 54)).alloc (.cells #[.string o1, .string m1, .int .i64 n1, .int .i64 a1, .slice x1 l1 c1, .string o2, .string m2, .int .i64 n2, .int .i64 a2, .slice x2 l2 c2, .string o3, .string m3, .int .i64 n3, .int .i64 a3, .slice x3 l3 c3] 54)) w.heap.size gw _ (by omega)) (by rw [setRow_size]; exact Nat.le_refl _)
  have I1 := IsE.mono (B' := w.heap.size) (by omega) _ (HI1.out.keep (by rw [hz9]; omega) (fun k h2 h3 => hkeep g3 k (by omega) (by omega) h3))
  have I2 := IsE.mono (B' := w.heap.size) (by omega) _ (HI2.out.keep (by rw [hz9]; omega) (fun k h2 h3 => hkeep g5 k (by omega) (by omega) h3))
  have I3 := IsE.mono (B' := w.heap.size) (by omega) _ (HI3.out.keep (by rw [hz9]; omega) (fun k h2 h3 => hkeep g7 k (by omega) (by omega) h3))
  refine bodyPost_ret (v := .agg #[.string ⟨#[105, 102]⟩, .string ⟨#[]⟩, .int .i64 0, .int .i64 (ya : Int), .slice (some ⟨w7.heap.size + 1, 0, none⟩) 3 3]) (results_cell_row (p := 4) (ty := 54) rfl _ _ w.heap.size 54 _ (0, 0) _ rfl hset Tryz.underlying54 rfl HSE.out) rfl ⟨_, _, _, _, _, _, _, rfl, ?_, P9, g9⟩
  unfold IsE
  refine ⟨rfl, rfl, rfl, rfl, rfl, fun _ => ⟨_, rfl, by omega, by rw [hz9]; omega, ?_⟩⟩
  unfold IsL
  refine ⟨⟨o1, m1, n1, a1, x1, l1, c1, hcell 0 _ rfl, hcell 1 _ rfl, hcell 2 _ rfl, hcell 3 _ rfl, hcell 4 _ rfl, I1⟩, ?_⟩
  unfold IsL
  refine ⟨⟨o2, m2, n2, a2, x2, l2, c2, hcell 5 _ rfl, hcell 6 _ rfl, hcell 7 _ rfl, hcell 8 _ rfl, hcell 9 _ rfl, I2⟩, ?_⟩
  unfold IsL
  refine ⟨⟨o3, m3, n3, a3, x3, l3, c3, hcell 10 _ rfl, hcell 11 _ rfl, hcell 12 _ rfl, hcell 13 _ rfl, hcell 14 _ rfl, I3⟩, ?_⟩
  unfold IsL
  trivial
end Go.Proofs.YtjlnihennlkmpaaGreatDoor

namespace Go.Proofs.YtjlnihennlkmpaaGreatDoor
open Go Go.RowKit
/-- A sort reads what the plain function x says. -/
def Reads (L : List Wd) (gp gw c : Nat) (f : FuncId) (d : Int) (x : St → Ex × St) : Prop := ∀ W S, Par L W gp gw c S → Ok L S → Calls Tryz.prog f #[.pointer (some ⟨gp, 0, none⟩), .int .i64 d] W (GivesX L gp gw c (x S).1 (x S).2 W)
/-- All four that the depth above asks for. -/
structure Sorts (L : List Wd) (gp gw c : Nat) (d : Int) (nx : Nx) : Prop where
  expr : Reads L gp gw c 76 d nx.expr
  un : Reads L gp gw c 126 d nx.un
  prim : Reads L gp gw c 128 d nx.prim
  fby : Reads L gp gw c 124 d nx.fby
section
variable {L : List Wd} (hE : GoodE L) {gp gw c : Nat} {nx : Nx} (hN : MonoN L nx) (d : Nat) (hd : d ≤ 31) (hnx : d ≤ 30 → Sorts L gp gw c ((d : Int) + 1) nx)
include hE hN hd hnx
omit hE hN in
theorem at_deep {S : St} (h : S.i < L.length) (ho : Ok L S) {T : St} (hT : Later L (askS L d S) T) (P : Prop) (hP : T.i + 1 = L.length → ¬ P) (hp : P) : Sorts L gp gw c ((d : Int) + 1) nx := by
  by_cases h30 : d ≤ 30
  · exact hnx h30
  · obtain rfl : d = 31 := by omega
    exact absurd hp (hP (later_end (ask_end h ho) hT))
theorem prim_all : Reads L gp gw c 128 (d : Int) (primS L nx d) := fun W S hp ho => by
  have hl := hp.lt
  have h1 := l_ask (L := L) d hl ho
  have hlt := h1.2.1
  have few := hE.few
  have hok := h1.2.2
  have hkk : ∀ (s : ByteArray), s.data.toList ≠ [] → isS L s (askS L d S) = true → (cur L (askS L d S)).kind ≠ 0 := fun s hs hi => kind_of_is hE hlt hs hi
  have deep := at_deep d hd hnx hl ho (Later.refl hlt hok)
  refine prim_any L hE.good d (by omega) W gp gw c S hp nx (by have := hok.1; omega) ?_ ?_ ?_ ?_
  · intro hk W2 hp2
    have hs := deep ((cur L (askS L d S)).kind = 1) (fun he h => by rw [end_kind hE.good he] at h; cases h) hk
    exact named_any L hE.good d (by omega) W2 gp gw c _ hp2 hE (by rw [hk]; decide) hok nx hN.expr (fun W3 S3 a b => hs.expr W3 S3 a b)
  · intro hi W2 hp2
    have hs := deep (isS L (bs [40]) (askS L d S) = true) (fun he h => by rw [end_is hE he (by simp [bs])] at h; cases h) hi
    have h2 := l_next hE hlt hok
    have h3 := hN.expr _ h2.2.1 h2.2.2
    exact bracketed_any L hE.good d (by omega) W2 gp gw c _ hp2 _ _ (fun W3 a => hs.expr W3 _ a h2.2.2)
  · intro hi W2 hp2
    have hs := deep (isS L (bs [105, 102]) (askS L d S) = true) (fun he h => by rw [end_is hE he (by simp [bs])] at h; cases h) hi
    have h1 := l_part hE hlt (hkk _ (by simp [bs]) hi) hok
    have h2 := hN.expr _ h1.2.1 h1.2.2
    have h3 := l_need hE (bs [116, 104, 101, 110]) h2.2.1 h2.2.2
    have h4 := hN.expr _ h3.2.1 h3.2.2
    have h5 := l_need hE (bs [101, 108, 115, 101]) h4.2.1 h4.2.2
    exact choice_any L hE.good d (by omega) W2 gp gw c _ hp2 (by have := hok.1; omega) _ _ _ _ _ _ (fun W3 a => hs.expr W3 _ a h1.2.2) (fun W3 a => hs.expr W3 _ a h3.2.2) (fun W3 a => hs.expr W3 _ a h5.2.2)
  · intro hi W2 hp2
    have hs := deep (isS L (bs [109, 101, 114, 103, 101]) (askS L d S) = true) (fun he h => by rw [end_is hE he (by simp [bs])] at h; cases h) hi
    have h1 := l_part hE hlt (hkk _ (by simp [bs]) hi) hok
    have h2 := l_name hE h1.2.1 h1.2.2
    have h3 := hN.prim _ h2.2.1 h2.2.2
    exact merge_any L hE.good d (by omega) W2 gp gw c _ hp2 (by have := hok.1; omega) _ _ _ _ (fun W3 a => hs.prim W3 _ a h2.2.2) (fun W3 a => hs.prim W3 _ a h3.2.2)
theorem un_all : Reads L gp gw c 126 (d : Int) (unS L nx d) := fun W S hp ho => by
  have hl := hp.lt
  have h1 := l_ask (L := L) d hl ho
  have hlt := h1.2.1
  have few := hE.few
  have hok := h1.2.2
  have deep := at_deep d hd hnx hl ho (Later.refl hlt hok)
  by_cases hc : (isS L (bs [110, 111, 116]) (askS L d S) = true ∨ isS L (bs [112, 114, 101]) (askS L d S) = true) ∨ isS L (bs [45]) (askS L d S) = true
  · have hs := deep _ (fun he h => by
      rcases h with (h | h) | h
      · rw [end_is hE he (by simp [bs])] at h; cases h
      · rw [end_is hE he (by simp [bs])] at h; cases h
      · rw [end_is hE he (by simp [bs])] at h; cases h) hc
    have hk : (cur L (askS L d S)).kind ≠ 0 := by rcases hc with (h | h) | h <;> exact kind_of_is hE hlt (by simp [bs]) h
    have h2 := l_part hE hlt hk hok
    have := un_any L hE.good d (by omega) W gp gw c S hp (nx.un (partS L (askS L d S)).2).1 (nx.un (partS L (askS L d S)).2).2 (by have := hok.1; omega) (fun _ W3 a => hs.un W3 _ a h2.2.2) (fun h => absurd hc h)
    unfold unS
    by_cases hA : isS L (bs [110, 111, 116]) (askS L d S) = true ∨ isS L (bs [112, 114, 101]) (askS L d S) = true
    · simp only [if_pos hA] at this ⊢
      exact this
    · have hB : isS L (bs [45]) (askS L d S) = true := by
        rcases hc with h | h
        · exact absurd h hA
        · exact h
      simp only [if_neg hA, if_pos hB] at this ⊢
      exact this
  · have := un_any L hE.good d (by omega) W gp gw c S hp (primS L nx d (askS L d S)).1 (primS L nx d (askS L d S)).2 (by have := hok.1; omega) (fun h => absurd h hc) (fun _ W3 a => prim_all hE hN d hd hnx W3 _ a hok)
    have hA : ¬ (isS L (bs [110, 111, 116]) (askS L d S) = true ∨ isS L (bs [112, 114, 101]) (askS L d S) = true) := fun h => hc (.inl h)
    have hB : ¬ isS L (bs [45]) (askS L d S) = true := fun h => hc (.inr h)
    unfold unS
    simp only [if_neg hA, if_neg hB] at this ⊢
    exact this
theorem when_all : Reads L gp gw c 125 (d : Int) (whenS L nx d) := fun W S hp ho =>
  when_any L hE.good d (by omega) W gp gw c S hp hE _ _ (l_un hE hN d hp.lt ho).2.2.1 (fun W3 a => un_all hE hN d hd hnx W3 _ a ho)
theorem fby_all : Reads L gp gw c 124 (d : Int) (fbyS L nx d) := fun W S hp ho => by
  have hl := hp.lt
  have few := hE.few
  have h1 := l_when hE hN d hl ho
  have h2 := l_between hE (ops := [bs [102, 98, 121]]) (by simp [bs]) h1.2.1 h1.2.2
  have := fby_any L hE.good d (by omega) W gp gw c S hp (whenS L nx d S).1 (nx.fby (betweenS L [bs [102, 98, 121]] (whenS L nx d S).2).2.2).1 (whenS L nx d S).2 (nx.fby (betweenS L [bs [102, 98, 121]] (whenS L nx d S).2).2.2).2 (by have := h1.2.2.1; have := h1.2.1; omega) (fun W3 a => when_all hE hN d hd hnx W3 _ a ho) (fun hb W3 a => by
    have hs := at_deep d hd hnx hl ho h1 _ (fun he h => by rw [end_between hE he (by simp [bs])] at h; cases h) hb
    exact hs.fby W3 _ a h2.2.2)
  unfold fbyS
  by_cases hb : (betweenS L [bs [102, 98, 121]] (whenS L nx d S).2).2.1 = true
  · simp only [if_pos hb] at this ⊢
    exact this
  · simp only [if_neg hb] at this ⊢
    exact this
theorem mul_all : Reads L gp gw c 123 (d : Int) (mulS L nx d) := fun W S hp ho =>
  mul_any L hE.good d (by omega) W gp gw c S hp hE ho _ (mono_of d fun _ a b => l_fby hE hN d a b) (fun W3 S3 a b => fby_all hE hN d hd hnx W3 S3 a b)
theorem add_all : Reads L gp gw c 122 (d : Int) (addS L nx d) := fun W S hp ho =>
  add_any L hE.good d (by omega) W gp gw c S hp hE ho _ (mono_of d fun _ a b => l_mul hE hN d a b) (fun W3 S3 a b => mul_all hE hN d hd hnx W3 S3 a b)
theorem cmp_all : Reads L gp gw c 119 (d : Int) (cmpS L nx d) := fun W S hp ho => by
  have hl := hp.lt
  have few := hE.few
  have h1 := l_add hE hN d hl ho
  have h2 := l_between hE (ops := [bs [61], bs [60, 62], bs [60], bs [60, 61], bs [62], bs [62, 61]]) (by simp [bs]) h1.2.1 h1.2.2
  have := cmp_any L hE.good d (by omega) W gp gw c S hp (addS L nx d S).1 (addS L nx d (betweenS L [bs [61], bs [60, 62], bs [60], bs [60, 61], bs [62], bs [62, 61]] (addS L nx d S).2).2.2).1 (addS L nx d S).2 (addS L nx d (betweenS L [bs [61], bs [60, 62], bs [60], bs [60, 61], bs [62], bs [62, 61]] (addS L nx d S).2).2.2).2 (by have := h1.2.2.1; have := h1.2.1; omega) (fun W3 a => add_all hE hN d hd hnx W3 _ a ho) (fun hb W3 a => add_all hE hN d hd hnx W3 _ a h2.2.2)
  unfold cmpS
  by_cases hb : (betweenS L [bs [61], bs [60, 62], bs [60], bs [60, 61], bs [62], bs [62, 61]] (addS L nx d S).2).2.1 = true
  · simp only [if_pos hb] at this ⊢
    exact this
  · simp only [if_neg hb] at this ⊢
    exact this
theorem and_all : Reads L gp gw c 109 (d : Int) (andS L nx d) := fun W S hp ho =>
  and_any L hE.good d (by omega) W gp gw c S hp hE ho _ (mono_of d fun _ a b => l_cmp hE hN d a b) (fun W3 S3 a b => cmp_all hE hN d hd hnx W3 S3 a b)
theorem or_all : Reads L gp gw c 90 (d : Int) (orS L nx d) := fun W S hp ho =>
  or_any L hE.good d (by omega) W gp gw c S hp hE ho _ (mono_of d fun _ a b => l_and hE hN d a b) (fun W3 S3 a b => and_all hE hN d hd hnx W3 S3 a b)
theorem arrow_all : Reads L gp gw c 76 (d : Int) (arrowS L nx d) := fun W S hp ho => by
  have hl := hp.lt
  have few := hE.few
  have h1 := l_or hE hN d hl ho
  have h2 := l_between hE (ops := [bs [45, 62]]) (by simp [bs]) h1.2.1 h1.2.2
  have := expr_any L hE.good d (by omega) W gp gw c S hp (orS L nx d S).1 (nx.expr (betweenS L [bs [45, 62]] (orS L nx d S).2).2.2).1 (orS L nx d S).2 (nx.expr (betweenS L [bs [45, 62]] (orS L nx d S).2).2.2).2 (by have := h1.2.2.1; have := h1.2.1; omega) (fun W3 a => or_all hE hN d hd hnx W3 _ a ho) (fun hb W3 a => by
    have hs := at_deep d hd hnx hl ho h1 _ (fun he h => by rw [end_between hE he (by simp [bs])] at h; cases h) hb
    exact hs.expr W3 _ a h2.2.2)
  unfold arrowS
  by_cases hb : (betweenS L [bs [45, 62]] (orS L nx d S).2).2.1 = true
  · simp only [if_pos hb] at this ⊢
    exact this
  · simp only [if_neg hb] at this ⊢
    exact this
end
theorem sorts_at {L : List Wd} (hE : GoodE L) {gp gw c : Nat} : ∀ k, k < 31 → Sorts L gp gw c ((31 - k : Nat) : Int) (nxAt L (k + 1))
  | 0, _ => by
    have hN := mono_at hE 0
    exact ⟨arrow_all hE hN 31 (by omega) (fun h => by omega), un_all hE hN 31 (by omega) (fun h => by omega), prim_all hE hN 31 (by omega) (fun h => by omega), fby_all hE hN 31 (by omega) (fun h => by omega)⟩
  | k + 1, hk => by
    have hN := mono_at hE (k + 1)
    have ih := sorts_at hE (gp := gp) (gw := gw) (c := c) k (by omega)
    have hd : (((31 - (k + 1) : Nat) : Int) + 1) = ((31 - k : Nat) : Int) := by omega
    have hnx : 31 - (k + 1) ≤ 30 → Sorts L gp gw c (((31 - (k + 1) : Nat) : Int) + 1) (nxAt L (k + 1)) := fun _ => by rw [hd]; exact ih
    exact ⟨arrow_all hE hN _ (by omega) hnx, un_all hE hN _ (by omega) hnx, prim_all hE hN _ (by omega) hnx, fby_all hE hN _ (by omega) hnx⟩
/-- expr of depth 1. -/
theorem exprs_any {L : List Wd} (hE : GoodE L) {gp gw c : Nat} : Reads L gp gw c 76 1 (exprS L) := (sorts_at hE 30 (by decide)).expr
end Go.Proofs.YtjlnihennlkmpaaGreatDoor

namespace Go.Proofs.YtjlnihennlkmpaaGreatDoor
open Go Go.RowKit
theorem size_var : (Tryz.prog.info? 88).map (·.size) = some 5 := by kernel_rfl
theorem var_one (s : ByteArray) (k : Int) (o : ByteArray) (b : Bool) (a : Int) : (#[.string s, .int .i64 k, .string o, .bool b, .int .i64 a] : Array Value).all (·.oneCell') = true := by simp [Value.oneCell']
theorem failS_names (L : List Wd) (st : St) (err : Nat) : (failS L err st).names = st.names := by
  unfold failS; split <;> rfl
def declA (L : List Wd) (st : St) : St := if isNameS L st = true ∧ st.names = 64 then failS L 2 st else st
def declB (L : List Wd) (st : St) : St := { declA L st with names := (declA L st).names + 1 }
theorem declA_names (L : List Wd) (st : St) : (declA L st).names = st.names := by
  unfold declA; split
  · exact failS_names L st 2
  · rfl
/-- declared, as a plain function: the name, where it stands, and what is left. -/
def declaredS (L : List Wd) (st : St) : ByteArray × Nat × St := ((nameS L (declB L st)).1, (cur L (declB L st)).at_, (nameS L (declB L st)).2)
/-- A Var's value. -/
def varV (s : ByteArray) (k : Nat) (o : ByteArray) (b : Bool) (a : Nat) : Value := .agg #[.string s, .int .i64 (k : Int), .string o, .bool b, .int .i64 (a : Int)]
set_option maxHeartbeats 2000000 in
set_option maxRecDepth 100000 in
theorem declared_any (L : List Wd) (hG : Good L) (w : World) (gp gw c : Nat) (st : St) (h : Par L w gp gw c st) (hp : st.names < 1000000000) : Calls Tryz.prog 88 #[.pointer (some ⟨gp, 0, none⟩)] w (Gives1 L gp gw c (varV (declaredS L st).1 0 ⟨#[]⟩ false (declaredS L st).2.1) (declaredS L st).2.2 w) := by
  have hb1 : Below w.heap.size w (w.alloc (.cells #[.string ⟨#[]⟩, .int .i64 0, .string ⟨#[]⟩, .bool false, .int .i64 0] 88)) := (Below.refl _ _).alloc (Nat.le_refl _) _
  have hn1 := heap_alloc_new w (.cells #[.string ⟨#[]⟩, .int .i64 0, .string ⟨#[]⟩, .bool false, .int .i64 0] 88)
  have h1 := h.below hb1
  have hgp := h.gpl
  have HGW := Lib.hid h.gwl
  have hs1 : w.heap.size < (w.alloc (.cells #[.string ⟨#[]⟩, .int .i64 0, .string ⟨#[]⟩, .bool false, .int .i64 0] 88)).heap.size := by simp
  obtain ⟨_, _, _, p3, _⟩ := h1.cells
  have ki := isName_any L _ gp gw c st h1
  have kf := fail2_any L _ gp gw c st h1
  have hA : declA L st = if isNameS L st = true ∧ st.names = 64 then failS L 2 st else st := rfl
  have hAp := declA_names L st
  have fin : ∃ q m d : Nat, ∀ W, Par L W gp gw c (declA L st) → w.grownBy W (some gp) → W.heap[w.heap.size]? = some (.cells #[.string ⟨#[]⟩, .int .i64 0, .string ⟨#[]⟩, .bool false, .int .i64 0] 88 (0, 0)) →
      W.cell? ⟨gp, 3, none⟩ = some (.int .i64 (st.names : Int)) ∧ W.frozen? ⟨gp, 3, none⟩ = false ∧ (W.setCell ⟨gp, 3, none⟩ (.int .i64 ((st.names : Int) + 1))).cell? ⟨gp, 0, none⟩ = some (.slice (some ⟨gw, q, none⟩) m d) ∧ 0 < m ∧ (W.setCell ⟨gp, 3, none⟩ (.int .i64 ((st.names : Int) + 1))).cell? ⟨gw, q + 3, none⟩ = some (.int .i64 ((declaredS L st).2.1 : Int)) ∧
      Calls Tryz.prog 56 #[.pointer (some ⟨gp, 0, none⟩)] (W.setCell ⟨gp, 3, none⟩ (.int .i64 ((st.names : Int) + 1))) fun e w' => e = .returned (.string (declaredS L st).1) ∧ Par L w' gp gw c (declaredS L st).2.2 ∧ w.grownBy w' (some gp) ∧ w'.heap[w.heap.size]? = some (.cells #[.string ⟨#[]⟩, .int .i64 0, .string ⟨#[]⟩, .bool false, .int .i64 0] 88 (0, 0)) := ⟨(declB L st).i * 4, L.length - (declB L st).i, c - (declB L st).i, fun W hP hg hr => by
    obtain ⟨_, _, _, q3, _⟩ := hP.cells
    rw [hAp] at q3
    have hset := hP.setNames (st.names + 1)
    have e1 : ((st.names + 1 : Nat) : Int) = (st.names : Int) + 1 := by omega
    rw [e1] at hset
    have e2 : ({ declA L st with names := st.names + 1 } : St) = declB L st := by unfold declB; rw [hAp]
    rw [e2] at hset
    obtain ⟨r0, _, _, _, _⟩ := hset.cells
    obtain ⟨_, _, _, k3⟩ := hset.cur_cell
    refine ⟨q3, hP.frozen 3, r0, by have := hset.lt; omega, k3, ?_⟩
    refine (name_any L hG _ gp gw c (declB L st) hset).mono ?_
    rintro e w' ⟨he, hp', hg'⟩
    have hne : (w.heap.size : Nat) ≠ gp := by omega
    have hr2 : (W.setCell ⟨gp, 3, none⟩ (.int .i64 ((st.names : Int) + 1))).heap[w.heap.size]? = some (.cells #[.string ⟨#[]⟩, .int .i64 0, .string ⟨#[]⟩, .bool false, .int .i64 0] 88 (0, 0)) := (heap_setCell_other W ⟨gp, 3, none⟩ w.heap.size _ hne).trans hr
    exact ⟨he, hp', gb_trans hg (gb_trans (gb_set W gp 3 _) hg'), (hg'.block _ (Array.getElem?_eq_some_iff.1 hr2).1 (by intro e; injection e with e; exact hne e)).trans hr2⟩⟩
  obtain ⟨q, m, d, fin⟩ := fin
  have HFIN := Lib.hid fin
  have HSW := Lib.hid size_var
  have HN1 := Lib.hid hn1
  have HB1 := Lib.hid hb1
  have HH1 := Lib.hid h1
  have HA := Lib.hid hA
  unfold varV
  obtain ⟨xs, hx⟩ : ∃ x, x = (declaredS L st).1 := ⟨_, rfl⟩
  obtain ⟨xa, hxa⟩ : ∃ x, x = (declaredS L st).2.1 := ⟨_, rfl⟩
  obtain ⟨S, hS⟩ : ∃ S, S = (declaredS L st).2.2 := ⟨_, rfl⟩
  rw [← hx, ← hxa, ← hS] at HFIN
  rw [← hx, ← hxa, ← hS]
  clear hx hxa hS fin hA hAp h hn1 hb1 h1
  obtain ⟨n, hn⟩ : ∃ n, n = st.names := ⟨_, rfl⟩
  obtain ⟨b, hb⟩ : ∃ b, b = isNameS L st := ⟨_, rfl⟩
  rw [← hn] at HFIN HA p3 hp
  rw [← hb] at HA ki
  clear hn hb
  cases b
  · have hA2 := HA.out
    rw [if_neg (by simp)] at hA2
    have hp1 := HH1.out
    rw [← hA2] at hp1
    obtain ⟨q3, qf, q0, qm, qa, kn⟩ := HFIN.out _ hp1 (gb_below HB1.out) HN1.out
    clear hA2 hp1 kf p3
    rw [World.setCell_alloc_past (hn := hgp)] at q0 qa kn
    go_enter Tryz.func88, Tryz.ntmps88
    go_wp2_with fail
    (with_reducible refine ki.mono ?_)
    rintro e w1 ⟨rfl, rfl⟩
    go_wp2_with fail
    (with_reducible refine kn.mono ?_)
    rintro e w2 ⟨rfl, hp2, hg2, hr2⟩
    have HP2 := Lib.hid hp2
    have HG2 := Lib.hid hg2
    have HR2 := Lib.hid hr2
    clear hp2 hg2 hr2 kn
    go_wp2_with (refine wpList_store_row rfl 88 (.tmp 2) (.tmp 32) rfl w.heap.size #[.string xs, .int .i64 0, .string ⟨#[]⟩, .bool false, .int .i64 (xa : Int)] rfl rfl 88 _ HR2.out HSW.out rfl (var_one _ _ _ _ _) ?_)
    have hset := setRow_heap w2 w.heap.size _ #[.string xs, .int .i64 0, .string ⟨#[]⟩, .bool false, .int .i64 (xa : Int)] _ _ HR2.out
    have hgg : w.grownBy (w2.setRow w.heap.size #[.string xs, .int .i64 0, .string ⟨#[]⟩, .bool false, .int .i64 (xa : Int)]) (some gp) := ⟨HG2.out.os, HG2.out.tape, HG2.out.output, by rw [setRow_size]; exact HG2.out.size, fun k hk hr => (setRow_other w2 w.heap.size k _ (by omega)).trans (HG2.out.block k hk hr)⟩
    refine bodyPost_ret (v := .agg #[.string xs, .int .i64 0, .string ⟨#[]⟩, .bool false, .int .i64 (xa : Int)]) (results_cell_row (p := 2) (ty := 88) rfl _ _ w.heap.size 88 _ (0, 0) _ rfl hset Tryz.underlying88 rfl HSW.out) rfl ⟨rfl, HP2.out.keep (setRow_other w2 w.heap.size gp _ (by omega)) (setRow_other w2 w.heap.size gw _ ?_) (by rw [setRow_size]; exact Nat.le_refl _), hgg⟩
    have := HGW.out
    omega
  · by_cases h64 : n = 64
    · have hb : ((n : Int) == 64) = true := by simp; omega
      have hA2 := HA.out
      rw [if_pos ⟨rfl, h64⟩] at hA2
      rw [← hA2] at kf
      clear hA2 h64
      go_enter Tryz.func88, Tryz.ntmps88
      go_wp2_with fail
      (with_reducible refine ki.mono ?_)
      rintro e w1 ⟨rfl, rfl⟩
      go_wp2_with fail
      (with_reducible refine kf.mono ?_)
      rintro e w1 ⟨rfl, hp1, hg1⟩
      have hr1 := (hg1.block w.heap.size hs1 (by intro e; injection e with e; omega)).trans HN1.out
      obtain ⟨q3, qf, q0, qm, qa, kn⟩ := HFIN.out w1 hp1 (gb_trans (gb_below HB1.out) hg1) hr1
      have hgp1 := hp1.gpl
      clear hp1 hg1 hr1 p3 kf
      go_wp2_with fail
      (with_reducible refine kn.mono ?_)
      rintro e w2 ⟨rfl, hp2, hg2, hr2⟩
      have HP2 := Lib.hid hp2
      have HG2 := Lib.hid hg2
      have HR2 := Lib.hid hr2
      clear hp2 hg2 hr2 kn
      go_wp2_with (refine wpList_store_row rfl 88 (.tmp 2) (.tmp 32) rfl w.heap.size #[.string xs, .int .i64 0, .string ⟨#[]⟩, .bool false, .int .i64 (xa : Int)] rfl rfl 88 _ HR2.out HSW.out rfl (var_one _ _ _ _ _) ?_)
      have hset := setRow_heap w2 w.heap.size _ #[.string xs, .int .i64 0, .string ⟨#[]⟩, .bool false, .int .i64 (xa : Int)] _ _ HR2.out
      have hgg : w.grownBy (w2.setRow w.heap.size #[.string xs, .int .i64 0, .string ⟨#[]⟩, .bool false, .int .i64 (xa : Int)]) (some gp) := ⟨HG2.out.os, HG2.out.tape, HG2.out.output, by rw [setRow_size]; exact HG2.out.size, fun k hk hr => (setRow_other w2 w.heap.size k _ (by omega)).trans (HG2.out.block k hk hr)⟩
      refine bodyPost_ret (v := .agg #[.string xs, .int .i64 0, .string ⟨#[]⟩, .bool false, .int .i64 (xa : Int)]) (results_cell_row (p := 2) (ty := 88) rfl _ _ w.heap.size 88 _ (0, 0) _ rfl hset Tryz.underlying88 rfl HSW.out) rfl ⟨rfl, HP2.out.keep (setRow_other w2 w.heap.size gp _ (by omega)) (setRow_other w2 w.heap.size gw _ ?_) (by rw [setRow_size]; exact Nat.le_refl _), hgg⟩
      have := HGW.out
      omega
    · have hb : ((n : Int) == 64) = false := by simp; omega
      have hA2 := HA.out
      rw [if_neg (by simp [h64])] at hA2
      have hp1 := HH1.out
      rw [← hA2] at hp1
      obtain ⟨q3, qf, q0, qm, qa, kn⟩ := HFIN.out _ hp1 (gb_below HB1.out) HN1.out
      clear hA2 hp1 kf p3
      rw [World.setCell_alloc_past (hn := hgp)] at q0 qa kn
      go_enter Tryz.func88, Tryz.ntmps88
      go_wp2_with fail
      (with_reducible refine ki.mono ?_)
      rintro e w1 ⟨rfl, rfl⟩
      go_wp2_with fail
      (with_reducible refine kn.mono ?_)
      rintro e w2 ⟨rfl, hp2, hg2, hr2⟩
      have HP2 := Lib.hid hp2
      have HG2 := Lib.hid hg2
      have HR2 := Lib.hid hr2
      clear hp2 hg2 hr2 kn
      go_wp2_with (refine wpList_store_row rfl 88 (.tmp 2) (.tmp 32) rfl w.heap.size #[.string xs, .int .i64 0, .string ⟨#[]⟩, .bool false, .int .i64 (xa : Int)] rfl rfl 88 _ HR2.out HSW.out rfl (var_one _ _ _ _ _) ?_)
      have hset := setRow_heap w2 w.heap.size _ #[.string xs, .int .i64 0, .string ⟨#[]⟩, .bool false, .int .i64 (xa : Int)] _ _ HR2.out
      have hgg : w.grownBy (w2.setRow w.heap.size #[.string xs, .int .i64 0, .string ⟨#[]⟩, .bool false, .int .i64 (xa : Int)]) (some gp) := ⟨HG2.out.os, HG2.out.tape, HG2.out.output, by rw [setRow_size]; exact HG2.out.size, fun k hk hr => (setRow_other w2 w.heap.size k _ (by omega)).trans (HG2.out.block k hk hr)⟩
      refine bodyPost_ret (v := .agg #[.string xs, .int .i64 0, .string ⟨#[]⟩, .bool false, .int .i64 (xa : Int)]) (results_cell_row (p := 2) (ty := 88) rfl _ _ w.heap.size 88 _ (0, 0) _ rfl hset Tryz.underlying88 rfl HSW.out) rfl ⟨rfl, HP2.out.keep (setRow_other w2 w.heap.size gp _ (by omega)) (setRow_other w2 w.heap.size gw _ ?_) (by rw [setRow_size]; exact Nat.le_refl _), hgg⟩
      have := HGW.out
      omega
end Go.Proofs.YtjlnihennlkmpaaGreatDoor

namespace Go.Proofs.YtjlnihennlkmpaaGreatDoor
open Go Go.RowKit
structure Vr where
  name : ByteArray
  kind : Nat
  on : ByteArray
  not_ : Bool
  at_ : Nat
def Vr.cells (v : Vr) : List Value := [.string v.name, .int .i64 (v.kind : Int), .string v.on, .bool v.not_, .int .i64 (v.at_ : Int)]
def varsC (l : List Vr) : List Value := l.flatMap Vr.cells
theorem varsC_length (l : List Vr) : (varsC l).length = l.length * 5 := by
  induction l with
  | nil => rfl
  | cons v r ih => simp only [varsC, List.flatMap_cons, List.length_append, List.length_cons] at ih ⊢; rw [ih]; simp [Vr.cells]; omega
theorem varsC_append (a b : List Vr) : varsC (a ++ b) = varsC a ++ varsC b := by simp [varsC]
/-- One cell of one name stored anew. -/
theorem varsC_set (a b : List Vr) (v v' : Vr) (j : Nat) (u : Value) (hj : v.cells.set j u = v'.cells) (hl : j < 5) : (varsC (a ++ v :: b)).set (a.length * 5 + j) u = varsC (a ++ v' :: b) := by
  rw [varsC_append, varsC_append, ← varsC_length, List.set_append_right _ _ (by omega)]
  congr 1
  simp only [varsC, List.flatMap_cons]
  rw [Nat.add_sub_cancel_left, List.set_append_left _ _ (by simpa [Vr.cells] using hl), hj]
theorem own_set {w : World} {base : Nat} {e : TypeId} {size g n cap : Nat} {xs : List Value} (h : w.ownsRow base e size (.slice (some ⟨g, 0, none⟩) n cap) n xs) (j : Nat) (u : Value) (hj : j < xs.length) :
    (w.setCell ⟨g, j, none⟩ u).ownsRow base e size (.slice (some ⟨g, 0, none⟩) n cap) n (xs.set j u) ∧ (∃ u0, w.cell? ⟨g, j, none⟩ = some u0) ∧ w.frozen? ⟨g, j, none⟩ = false := by
  rcases h.2 with ⟨h1, _⟩ | ⟨g', cap', cur, h1, hb, hg, hn, hc, hs, ht⟩
  · cases h1
  · injection h1 with h1 _ h3
    injection h1 with h1
    injection h1 with h1
    subst h1 h3
    have hjl : j < n * size := by rw [← h.1]; exact hj
    have hjc : j < cur.size := by rw [hs]; exact Nat.lt_of_lt_of_le hjl (Nat.mul_le_mul_right _ hn)
    refine ⟨⟨by rw [List.length_set]; exact h.1, .inr ⟨g, cap, cur.setIfInBounds j u, rfl, hb, heap_setCell_same w g j _ _ u hg, hn, hc, by simpa using hs, ?_⟩⟩, ⟨cur[j], by simp [World.cell?, hg, hjc]⟩, frozen_of_row w g j _ _ hg⟩
    rw [Array.toList_setIfInBounds, List.take_set, ht]
theorem own_slice {w : World} {base : Nat} {e : TypeId} {size n : Nat} {v : Value} {xs : List Value} (h : w.ownsRow base e size v n xs) (hn : 0 < n) : ∃ g cap, v = .slice (some ⟨g, 0, none⟩) n cap ∧ base ≤ g ∧ g < w.heap.size := by
  rcases h.2 with ⟨_, h1⟩ | ⟨g, cap, cur, h1, hb, hg, _⟩
  · omega
  · exact ⟨g, cap, h1, hb, (Array.getElem?_eq_some_iff.1 hg).1⟩
theorem info_var5 : ∃ i, Tryz.prog.info? 88 = some i ∧ (∃ z, i.zero = some z ∧ z.cells.size = 5) ∧ i.size = 5 ∧ i.bytes = 56 := by
  have h : (Tryz.prog.info? 88).map (fun i => (i.zero.map (·.cells.size), i.size, i.bytes)) = some (some 5, 5, 56) := by kernel_rfl
  cases hi : Tryz.prog.info? 88 with
  | none => rw [hi] at h; simp at h
  | some i =>
    rw [hi] at h
    simp only [Option.map_some, Option.some.injEq, Prod.mk.injEq] at h
    obtain ⟨hz, hs, hb⟩ := h
    cases hzz : i.zero with
    | none => rw [hzz] at hz; simp at hz
    | some z => exact ⟨i, rfl, ⟨z, hzz, by rw [hzz] at hz; simpa using hz⟩, hs, hb⟩
theorem vr_one (v : Vr) : ∀ u ∈ v.cells, u.oneCell' = true := fun u hu => by
  simp only [Vr.cells, List.mem_cons, List.not_mem_nil, or_false] at hu
  rcases hu with rfl | rfl | rfl | rfl | rfl <;> rfl
/-- A slice of one name, made. -/
theorem own_made1 (w : World) (base : Nat) (hb : base ≤ w.heap.size) (v : Vr) : (w.alloc (.cells v.cells.toArray 88)).ownsRow base 88 5 (.slice (some ⟨w.heap.size, 0, none⟩) 1 1) 1 (varsC [v]) :=
  ⟨by rw [varsC_length]; rfl, .inr ⟨w.heap.size, 1, v.cells.toArray, rfl, hb, heap_alloc_new w _, Nat.le_refl _, by decide, rfl, by simp [varsC, Vr.cells]⟩⟩
def declaredV (L : List Wd) (st : St) : Vr := ⟨(declaredS L st).1, 0, ⟨#[]⟩, false, (declaredS L st).2.1⟩
def declL (L : List Wd) : Nat → St → List Vr × St
  | 0, st => ([], st)
  | k + 1, st => if isS L (bs [44]) st = true then (declaredV L (nextS L st) :: (declL L k (declaredS L (nextS L st)).2.2).1, (declL L k (declaredS L (nextS L st)).2.2).2) else ([], st)
/-- The names of a decl, their kind not known yet; and what is left. -/
def declN (L : List Wd) (st : St) : List Vr × St := (declaredV L st :: (declL L L.length (declaredS L st).2.2).1, (declL L L.length (declaredS L st).2.2).2)
def declS (L : List Wd) (st : St) : List Vr × St :=
  let r := declN L st
  let k := kindS L (needS L (bs [58]) r.2)
  (r.1.map fun v => { v with kind := k.1 }, k.2)
theorem declL_stop (L : List Wd) (k : Nat) (S : St) (h : isS L (bs [44]) S = false) : declL L k S = ([], S) := by
  cases k with
  | zero => rfl
  | succ k => unfold declL; simp [h]
theorem declL_go (L : List Wd) (k : Nat) (S : St) (h : isS L (bs [44]) S = true) : declL L (k + 1) S = (declaredV L (nextS L S) :: (declL L k (declaredS L (nextS L S)).2.2).1, (declL L k (declaredS L (nextS L S)).2.2).2) := by
  conv => lhs; unfold declL
  simp [h]
/-- What a step that reads declarations keeps: q: how many names more than words taken there may be. -/
def LaterN (L : List Wd) (q : Nat) (S S' : St) : Prop := Later L S S' ∧ S'.names ≤ S'.i + q
theorem kindS_later {L : List Wd} (hE : GoodE L) {S : St} (h : S.i < L.length) (ho : Ok L S) : Later L S (kindS L S).2 ∧ (kindS L S).2.names = S.names := by
  unfold kindS; split
  · exact ⟨l_next hE h ho, nextS_names L S⟩
  · split
    · exact ⟨l_next hE h ho, nextS_names L S⟩
    · exact ⟨l_fail 7 h ho, failS_names L S 7⟩
theorem needS_names (L : List Wd) (s : ByteArray) (S : St) : (needS L s S).names = S.names := by
  unfold needS; split
  · exact nextS_names L S
  · exact failS_names L S 7
theorem nameS_names (L : List Wd) (S : St) : (nameS L S).2.names = S.names := by
  unfold nameS; split
  · exact nextS_names L S
  · exact (nextS_names L _).trans (failS_names L S 7)
theorem takeS_names (L : List Wd) (s : ByteArray) (S : St) : (takeS L s S).2.names = S.names := by
  unfold takeS; split
  · exact nextS_names L S
  · rfl
theorem declB_later {L : List Wd} {S : St} (h : S.i < L.length) (ho : Ok L S) : Later L S (declB L S) ∧ (declB L S).names = S.names + 1 := by
  have h1 : Later L S (declA L S) := by
    unfold declA; split
    · exact l_fail 2 h ho
    · exact Later.refl h ho
  exact ⟨h1, by show (declA L S).names + 1 = _; rw [declA_names]⟩
theorem declared_later {L : List Wd} (hE : GoodE L) {S : St} (h : S.i < L.length) (ho : Ok L S) : Later L S (declaredS L S).2.2 ∧ (declaredS L S).2.2.names = S.names + 1 ∧ (isNameS L S = true → S.i < (declaredS L S).2.2.i) := by
  have h1 := declB_later h ho
  have h2 := l_name hE h1.1.2.1 h1.1.2.2
  refine ⟨h1.1.trans h2, (nameS_names L _).trans h1.2, fun hn => ?_⟩
  have hk : (cur L S).kind ≠ 0 := by
    unfold isNameS at hn
    simp at hn
    omega
  have hl := hE.good.2 S.i h hk
  show S.i < (nameS L (declB L S)).2.i
  by_cases h64 : S.names = 64
  · refine Nat.lt_of_lt_of_le ?_ h2.1
    show S.i < (declA L S).i
    unfold declA
    rw [if_pos ⟨hn, h64⟩]
    unfold failS
    split
    · show S.i < L.length - 1; omega
    · rename_i he
      have := ho.2 he
      omega
  · have hB : cur L (declB L S) = cur L S ∧ (declB L S).i = S.i := by
      have hA : declA L S = S := by unfold declA; rw [if_neg (fun h => h64 h.2)]
      unfold declB cur
      rw [hA]
      exact ⟨rfl, rfl⟩
    have : (nameS L (declB L S)).2 = nextS L (declB L S) := by
      unfold nameS
      have : isNameS L (declB L S) = true := by unfold isNameS at hn ⊢; rw [hB.1]; exact hn
      rw [if_pos this]
    rw [this, nextS_lt (by rw [hB.1]; exact hk), hB.2]
    omega
theorem declL_later {L : List Wd} (hE : GoodE L) (q : Nat) : ∀ (k : Nat) {S : St}, S.i < L.length → Ok L S → S.names ≤ S.i + q → LaterN L q S (declL L k S).2
  | 0, S, h, ho, hn => ⟨Later.refl h ho, hn⟩
  | k + 1, S, h, ho, hn => by
    unfold declL
    split
    · rename_i hi
      have h1 := l_next hE h ho
      have hk := kind_of_is hE h (s := (bs [44])) (by simp [bs]) hi
      have hi1 := nextS_lt hk
      have h2 := declared_later hE h1.2.1 h1.2.2
      have h3 := declL_later hE q k h2.1.2.1 h2.1.2.2 (by rw [h2.2.1, nextS_names]; have := h2.1.1; omega)
      exact ⟨h1.trans (h2.1.trans h3.1), h3.2⟩
    · exact ⟨Later.refl h ho, hn⟩
theorem declN_later {L : List Wd} (hE : GoodE L) (q : Nat) {S : St} (h : S.i < L.length) (ho : Ok L S) (hn : S.names ≤ S.i + q) : LaterN L (q + 1) S (declN L S).2 ∧ (isNameS L S = true → LaterN L q S (declN L S).2 ∧ S.i < (declN L S).2.i) := by
  have h1 := declared_later hE h ho
  refine ⟨?_, fun hi => ?_⟩
  · have h2 := declL_later hE (q + 1) L.length h1.1.2.1 h1.1.2.2 (by rw [h1.2.1]; have := h1.1.1; omega)
    exact ⟨h1.1.trans h2.1, h2.2⟩
  · have := h1.2.2 hi
    have h2 := declL_later hE q L.length h1.1.2.1 h1.1.2.2 (by rw [h1.2.1]; omega)
    exact ⟨⟨h1.1.trans h2.1, h2.2⟩, Nat.lt_of_lt_of_le this h2.1.1⟩
theorem declS_later {L : List Wd} (hE : GoodE L) (q : Nat) {S : St} (h : S.i < L.length) (ho : Ok L S) (hn : S.names ≤ S.i + q) : LaterN L (q + 1) S (declS L S).2 ∧ (isNameS L S = true → LaterN L q S (declS L S).2 ∧ S.i < (declS L S).2.i) := by
  have h1 := declN_later hE q h ho hn
  have h2 := l_need hE (bs [58]) h1.1.1.2.1 h1.1.1.2.2
  have h3 := kindS_later hE h2.2.1 h2.2.2
  have h4 := Later.trans h2 h3.1
  have hnn : (declS L S).2.names = (declN L S).2.names := by
    show (kindS L (needS L (bs [58]) (declN L S).2)).2.names = _
    rw [h3.2, needS_names]
  have hle : (declN L S).2.i ≤ (declS L S).2.i := h4.1
  refine ⟨⟨h1.1.1.trans h4, by have := h1.1.2; omega⟩, fun hi => ?_⟩
  have h5 := h1.2 hi
  exact ⟨⟨h5.1.1.trans h4, by have := h5.1.2; omega⟩, by omega⟩
/-- A step's outcome: a slice of names, all of it made since. -/
def GivesV (L : List Wd) (gp gw c : Nat) (vs : List Vr) (S : St) (w : World) (e : Ending) (w' : World) : Prop := ∃ v, e = .returned v ∧ w'.ownsRow w.heap.size 88 5 v vs.length (varsC vs) ∧ Par L w' gp gw c S ∧ w.grownBy w' (some gp)
end Go.Proofs.YtjlnihennlkmpaaGreatDoor

namespace Go.Proofs.YtjlnihennlkmpaaGreatDoor
open Go Go.RowKit
/-- A field of the first i names turned. -/
def turnedV (f : Vr → Vr) (i : Nat) (vs : List Vr) : List Vr := (vs.take i).map f ++ vs.drop i
theorem turnedV_split (f : Vr → Vr) (vs : List Vr) (i : Nat) (hi : i < vs.length) : turnedV f i vs = (vs.take i).map f ++ vs[i] :: vs.drop (i + 1) ∧ turnedV f (i + 1) vs = (vs.take i).map f ++ f vs[i] :: vs.drop (i + 1) ∧ ((vs.take i).map f).length = i := by
  unfold turnedV
  refine ⟨by rw [List.drop_eq_getElem_cons hi], ?_, by rw [List.length_map, List.length_take]; omega⟩
  rw [List.take_succ_eq_append_getElem hi, List.map_append, List.append_assoc]
  rfl
theorem turnedV_set (f : Vr → Vr) (vs : List Vr) (i j : Nat) (u : Value) (hi : i < vs.length) (hj : ∀ v : Vr, v.cells.set j u = (f v).cells) (hl : j < 5) : (varsC (turnedV f i vs)).set (i * 5 + j) u = varsC (turnedV f (i + 1) vs) := by
  obtain ⟨h1, h2, h3⟩ := turnedV_split f vs i hi
  have := varsC_set ((vs.take i).map f) (vs.drop (i + 1)) vs[i] (f vs[i]) j u (hj _) hl
  rw [h3] at this
  rw [h1, h2, this]
theorem turnedV_length (f : Vr → Vr) (i : Nat) (vs : List Vr) (hi : i ≤ vs.length) : (turnedV f i vs).length = vs.length := by
  unfold turnedV
  rw [List.length_append, List.length_map, List.length_take, List.length_drop]
  omega
theorem gb_own {w W : World} {gp g j : Nat} {u : Value} (h : w.grownBy W (some gp)) (hg : w.heap.size ≤ g) : w.grownBy (W.setCell ⟨g, j, none⟩ u) (some gp) :=
  ⟨h.os, h.tape, h.output, by have := h.size; simpa using this, fun k hk hr => (heap_setCell_other W ⟨g, j, none⟩ k u (by show k ≠ g; omega)).trans (h.block k hk hr)⟩
theorem idx_var (g n cap i : Nat) (hi : i < n) (_ : n < 1000000) (W : World) : (Instr.indexAt 38 (.slice (some ⟨g, 0, none⟩) n cap) (.int .i64 (i : Int))).run Tryz.prog W = .ok (.pointer (some ⟨g, i * 5, none⟩)) W := by
  have he : Tryz.prog.elem 38 = 88 := by simp [Program.elem, Tryz.underlying38]
  have hz : ∀ W, (sizeOf (Tryz.prog.elem 38)).run Tryz.prog W = .ok 5 W := fun W => by
    rw [he]
    cases hq : Tryz.prog.info? 88 with
    | none => have h := size_var; simp [hq] at h
    | some i => have h := size_var; simp [hq] at h; simp [sizeOf, typeInfo, hq, h]
  rw [run_indexAt_slice (h := by rw [he]; exact Tryz.underlying38), if_pos (by omega), hz]
  simp [Result.andThen, Addr.add_lit]
set_option maxHeartbeats 4000000 in
set_option maxRecDepth 100000 in
theorem decl_any (L : List Wd) (hE : GoodE L) (w : World) (gp gw c : Nat) (st : St) (h : Par L w gp gw c st) (ho : Ok L st) (q : Nat) (hq : q ≤ 100) (hn : st.names ≤ st.i + q) :
    Calls Tryz.prog 74 #[.pointer (some ⟨gp, 0, none⟩)] w (GivesV L gp gw c (declS L st).1 (declS L st).2 w) := by
  have hG := hE.good
  have hfew := hE.few
  have hlt := h.lt
  have hgp := h.gpl
  have hgw := h.gwl
  have kd := declared_any L hG w gp gw c st h (by omega)
  have hl1 := declared_later hE hlt ho
  have hlN := declN_later hE q hlt ho hn
  obtain ⟨RR, hRR⟩ : ∃ R, R = declS L st := ⟨_, rfl⟩
  rw [← hRR]
  unfold declS at hRR
  obtain ⟨RN, hRN⟩ : ∃ R, R = declN L st := ⟨_, rfl⟩
  simp only [← hRN] at hRR
  rw [← hRN] at hlN
  unfold declN at hRN
  obtain ⟨v1, hv1⟩ : ∃ v, v = declaredV L st := ⟨_, rfl⟩
  rw [← hv1] at hRN
  have hv1c : (⟨(declaredS L st).1, 0, ⟨#[]⟩, false, (declaredS L st).2.1⟩ : Vr) = v1 := hv1.symm
  obtain ⟨nm, hnm⟩ : ∃ v, v = (declaredS L st).1 := ⟨_, rfl⟩
  obtain ⟨na, hna⟩ : ∃ v, v = (declaredS L st).2.1 := ⟨_, rfl⟩
  obtain ⟨S1, hS1⟩ : ∃ v, v = (declaredS L st).2.2 := ⟨_, rfl⟩
  rw [← hnm, ← hna] at hv1c
  rw [← hnm, ← hna, ← hS1] at kd
  rw [← hS1] at hl1 hRN
  have kne : ∀ W, Par L W gp gw c RN.2 → Calls Tryz.prog 55 #[.pointer (some ⟨gp, 0, none⟩), .string ⟨#[58]⟩] W (GivesU L gp gw c (needS L (bs [58]) RN.2) W) := fun W hp => need_any L hG (bs [58]) W gp gw c _ hp
  obtain ⟨S2, hS2⟩ : ∃ v, v = needS L (bs [58]) RN.2 := ⟨_, rfl⟩
  simp only [← hS2] at hRR kne
  have kki := fun W (hp : Par L W gp gw c S2) => kind_any L hG W gp gw c S2 hp
  obtain ⟨kk, hkk⟩ : ∃ v, v = (kindS L S2).1 := ⟨_, rfl⟩
  obtain ⟨S3, hS3⟩ : ∃ v, v = (kindS L S2).2 := ⟨_, rfl⟩
  simp only [← hkk, ← hS3] at hRR kki
  unfold varV at kd
  have HRR := Lib.hid hRR
  have HRN := Lib.hid hRN
  have KNE := Lib.hid kne
  have KKI := Lib.hid kki
  have HV1 := Lib.hid hv1c
  have HE := Lib.hid hE
  have HL1 := Lib.hid hl1
  have HLN := Lib.hid hlN
  clear hRR hRN kne kki hv1c hv1 hnm hna hS1 hS2 hkk hS3 hE hl1 hlN ho h
  go_enter Tryz.func74, Tryz.ntmps74
  go_wp2_with fail
  (with_reducible refine kd.mono ?_)
  rintro e w1 ⟨rfl, hp, hg⟩
  have hs1 : w.heap.size ≤ w1.heap.size := hg.size
  have hb2 : Below w1.heap.size w1 (w1.alloc (.cells #[.string nm, .int .i64 0, .string ⟨#[]⟩, .bool false, .int .i64 (na : Int)] 88)) := (Below.refl _ _).alloc (Nat.le_refl _) _
  have hown : (w1.alloc (.cells #[.string nm, .int .i64 0, .string ⟨#[]⟩, .bool false, .int .i64 (na : Int)] 88)).ownsRow w.heap.size 88 5 (.slice (some ⟨w1.heap.size, 0, none⟩) 1 1) [v1].length (varsC [v1]) := by
    rw [← HV1.out]
    exact own_made1 w1 w.heap.size hs1 ⟨nm, 0, ⟨#[]⟩, false, na⟩
  have HO := Lib.hid hown
  have HP := Lib.hid (hp.below hb2)
  have HG2 := Lib.hid (gb_trans hg (gb_below (r := some gp) hb2))
  clear hown hp hg hb2 kd
  go_wp2_with fail
  go_loopw [3] (fun v wr => ∃ (V : Value) (k : Nat) (vs : List Vr) (S : St), V = v ∧ vs ++ (declL L k S).1 = RN.1 ∧ (declL L k S).2 = RN.2 ∧ L.length ≤ k + S.i ∧ Ok L S ∧ S.names ≤ S.i + (q + 1) ∧ 0 < vs.length ∧ vs.length ≤ S.i + 1 ∧ Par L wr gp gw c S ∧ w.grownBy wr (some gp) ∧ wr.ownsRow w.heap.size 88 5 V vs.length (varsC vs))
    (fun _ wr => leftOf gp wr)
  case atStart =>
    have h1 := HL1.out
    exact ⟨_, L.length, [v1], S1, rfl, by rw [HRN.out]; rfl, by rw [HRN.out], by omega, h1.1.2.2, by have := h1.1.1; have := h1.2.1; omega, by simp, by simp, HP.out, HG2.out, HO.out⟩
  case round =>
    obtain ⟨V, k, vs, S, hV, hR1, hR2, hfk, hok, hnn, hv0, hvl, hpr, hgr, hor⟩ := hrel
    subst hV
    have hltS := hpr.lt
    have hleft := leftOf_par hpr
    have ktc : Calls Tryz.prog 58 #[.pointer (some ⟨gp, 0, none⟩), .string ⟨#[44]⟩] wr (Gives1 L gp gw c (.bool (takeS L (bs [44]) S).1) (takeS L (bs [44]) S).2 wr) := take_any L hG (bs [44]) wr gp gw c S hpr
    unfold takeS at ktc
    have hstop := declL_stop L k S
    have hgo : isS L (bs [44]) S = true → ∃ k', k = k' + 1 ∧ declL L k S = (declaredV L (nextS L S) :: (declL L k' (declaredS L (nextS L S)).2.2).1, (declL L k' (declaredS L (nextS L S)).2.2).2) ∧ L.length ≤ k' + (declaredS L (nextS L S)).2.2.i ∧ Ok L (declaredS L (nextS L S)).2.2 ∧ S.i + 1 ≤ (declaredS L (nextS L S)).2.2.i ∧ (declaredS L (nextS L S)).2.2.names ≤ (declaredS L (nextS L S)).2.2.i + (q + 1) ∧ (nextS L S).names < 1000000000 := fun hb => by
      have hkk := kind_of_is HE.out hltS (s := (bs [44])) (by simp [bs]) hb
      have h1 := nextS_lt hkk
      have h2 := nextS_ok hG hltS hok
      have h3 := declared_later HE.out (nextS_in hG hltS) h2
      have h4 := nextS_names L S
      have h5 := h3.1.1
      have h6 := h3.2.1
      obtain ⟨k', rfl⟩ : ∃ k', k = k' + 1 := ⟨k - 1, by omega⟩
      exact ⟨k', rfl, declL_go L k' S hb, by omega, h3.1.2.2, by omega, by omega, by omega⟩
    have kds := fun W (hp : Par L W gp gw c (nextS L S)) (hq : (nextS L S).names < 1000000000) => declared_any L hG W gp gw c (nextS L S) hp hq
    obtain ⟨b3, hb3'⟩ : ∃ b, b = isS L (bs [44]) S := ⟨_, rfl⟩
    rw [← hb3'] at hgo hstop
    simp only [← hb3'] at ktc
    obtain ⟨N, hN⟩ : ∃ N, N = nextS L S := ⟨_, rfl⟩
    rw [← hN] at hgo
    simp only [← hN] at ktc kds
    obtain ⟨v2, hv2⟩ : ∃ v, v = declaredV L N := ⟨_, rfl⟩
    rw [← hv2] at hgo
    have hv2c : (⟨(declaredS L N).1, 0, ⟨#[]⟩, false, (declaredS L N).2.1⟩ : Vr) = v2 := hv2.symm
    obtain ⟨nm2, hnm2⟩ : ∃ v, v = (declaredS L N).1 := ⟨_, rfl⟩
    obtain ⟨na2, hna2⟩ : ∃ v, v = (declaredS L N).2.1 := ⟨_, rfl⟩
    obtain ⟨T2, hT2⟩ : ∃ v, v = (declaredS L N).2.2 := ⟨_, rfl⟩
    rw [← hnm2, ← hna2] at hv2c
    simp only [← hnm2, ← hna2, ← hT2] at kds
    rw [← hT2] at hgo
    unfold varV at kds
    have HR1 := Lib.hid hR1
    have HR2 := Lib.hid hR2
    have HGO := Lib.hid hgo
    have HST := Lib.hid hstop
    have HLF := Lib.hid hleft
    have KDS := Lib.hid kds
    have HV2 := Lib.hid hv2c
    have HPR := Lib.hid hpr
    have HGR := Lib.hid hgr
    have HOR := Lib.hid hor
    clear hR1 hR2 hgo hstop hleft kds hb3' hN hv2 hv2c hnm2 hna2 hT2 hpr hgr hor HO HP HG2 HV1
    cases b3
    · have e1 := HR1.out
      have e2 := HR2.out
      rw [HST.out rfl] at e1 e2
      simp only [List.append_nil] at e1 e2
      have HE1 := Lib.hid e1
      have HE2 := Lib.hid e2
      have kne := KNE.out
      rw [← e2] at kne
      have KNE2 := Lib.hid kne
      clear e1 e2 HR1 HR2 HGO HST KDS kne KNE
      go_wp2_with fail
      (with_reducible refine ktc.mono ?_)
      rintro e w5 ⟨rfl, hp, hg⟩
      have kn5 := KNE2.out _ hp
      have HG5 := Lib.hid (gb_trans HGR.out hg)
      have HO5 := Lib.hid (HOR.out.kept hg (by
        cases hob : V.ownBlock with
        | none => exact .inl rfl
        | some b => exact .inr (fun e => by have := (HOR.out.lt b hob).1; injection e with e; omega)))
      clear hp hg ktc HOR HGR HPR
      go_wp2_with fail
      (with_reducible refine kn5.mono ?_)
      rintro e w6 ⟨rfl, hp, hg⟩
      have kk6 := KKI.out _ hp
      have HG6 := Lib.hid (gb_trans HG5.out hg)
      have HO6 := Lib.hid (HO5.out.kept hg (by
        cases hob : V.ownBlock with
        | none => exact .inl rfl
        | some b => exact .inr (fun e => by have := (HO5.out.lt b hob).1; injection e with e; omega)))
      clear hp hg kn5 HG5 HO5
      go_wp2_with fail
      (with_reducible refine kk6.mono ?_)
      rintro e w7 ⟨rfl, hp, hg⟩
      have HP7 := Lib.hid hp
      have HG7 := Lib.hid (gb_trans HG6.out hg)
      have ho7 := (HO6.out.kept hg (by
        cases hob : V.ownBlock with
        | none => exact .inl rfl
        | some b => exact .inr (fun e => by have := (HO6.out.lt b hob).1; injection e with e; omega)))
      obtain ⟨g, cap, rfl, hgb, hgs⟩ := own_slice ho7 hv0
      have HO7 := Lib.hid ho7
      obtain ⟨n, hnl⟩ : ∃ n, n = vs.length := ⟨_, rfl⟩
      have HNL := Lib.hid hnl
      clear hp hg kk6 HG6 HO6 ho7 hnl KKI KNE2
      rw [← HNL.out]
      rw [← HNL.out] at hv0 hvl
      obtain ⟨f, hf⟩ : ∃ f : Vr → Vr, f = fun v => { v with kind := kk } := ⟨_, rfl⟩
      have HF := Lib.hid hf
      have hfc : ∀ v : Vr, v.cells.set 1 (.int .i64 (kk : Int)) = (f v).cells := fun v => by rw [hf]; rfl
      have HFC := Lib.hid hfc
      clear hf hfc
      go_wp2_with fail
      go_loopw [22] (fun iv wr => ∃ (i : Nat), iv = .int .i64 (i : Int) ∧ i ≤ n ∧ Par L wr gp gw c S3 ∧ w.grownBy wr (some gp) ∧ wr.ownsRow w.heap.size 88 5 (.slice (some ⟨g, 0, none⟩) n cap) n (varsC (turnedV f i vs)))
        (fun iv _ => n - (intOf iv).toNat)
      case atStart => exact ⟨0, rfl, by omega, HP7.out, HG7.out, by have := HO7.out; rw [← HNL.out] at this; exact this⟩
      case round =>
        obtain ⟨i, rfl, hi, hpi, hgi, hoi⟩ := hrel
        by_cases hin : i < n
        · have d2 : decide ((i : Int) < (n : Int)) = true := by simp; omega
          have hset := own_set hoi (i * 5 + 1) (.int .i64 (kk : Int)) (by rw [varsC_length, turnedV_length _ _ _ (by rw [← HNL.out]; omega), ← HNL.out]; omega)
          obtain ⟨ho2, ⟨u0, hc0⟩, hf0⟩ := hset
          rw [turnedV_set f vs i 1 _ (by rw [← HNL.out]; omega) HFC.out (by decide)] at ho2
          have hgne : g ≠ gp ∧ g ≠ gw := ⟨by omega, by omega⟩
          have hix := fun W => idx_var g n cap i hin (by omega) W
          have HP2 := Lib.hid (hpi.keep (w' := wr.setCell ⟨g, i * 5 + 1, none⟩ (.int .i64 (kk : Int))) (heap_setCell_other wr ⟨g, i * 5 + 1, none⟩ gp _ (Ne.symm hgne.1)) (heap_setCell_other wr ⟨g, i * 5 + 1, none⟩ gw _ (Ne.symm hgne.2)) (by simp))
          have HG2 := Lib.hid (gb_own (j := i * 5 + 1) (u := .int .i64 (kk : Int)) hgi hgb)
          have HO2 := Lib.hid ho2
          clear hpi hgi hoi ho2 HP7 HG7 HO7
          go_wp2_with fail
          refine ⟨⟨i + 1, by go_num, by omega, HP2.out, HG2.out, HO2.out⟩, ?_⟩
          simp [intOf]; omega
        · obtain rfl : i = n := by omega
          have d2 : decide ((i : Int) < (i : Int)) = false := by simp
          have HP2 := Lib.hid hpi
          have HG2 := Lib.hid hgi
          have HO2 := Lib.hid hoi
          clear hpi hgi hoi HP7 HG7 HO7
          go_wp2_with fail
          go_ret
          refine ⟨_, rfl, ?_, ?_, HG2.out⟩
          · rw [HRR.out]
            have h := HO2.out
            unfold turnedV at h
            rw [List.take_of_length_le (by rw [← HNL.out]; exact Nat.le_refl _), List.drop_of_length_le (by rw [← HNL.out]; exact Nat.le_refl _), List.append_nil, HF.out, HE1.out] at h
            have hl : i = (RN.1.map fun v => ({ v with kind := kk } : Vr)).length := by rw [List.length_map, ← HE1.out]; exact HNL.out
            show wr.ownsRow _ _ _ _ (RN.1.map fun v => ({ v with kind := kk } : Vr)).length _
            rw [← hl]
            exact h
          · rw [HRR.out]; exact HP2.out
    · obtain ⟨k', hk', hdl, hl1, hok2, hl3, hl4, hl5⟩ := HGO.out rfl
      have HEQ1 : Hid ((vs ++ [v2]) ++ (declL L k' T2).1 = RN.1) := Lib.hid (by rw [← HR1.out, hdl]; simp)
      have HEQ2 : Hid ((declL L k' T2).2 = RN.2) := Lib.hid (by rw [← HR2.out, hdl])
      clear HR1 HR2 HGO HST hdl hk'
      obtain ⟨i0, hi0, ⟨z0, hz0, hz2⟩, hz1, hzb⟩ := info_var5
      have HZ2 := Lib.hid hz2
      go_wp2_with fail
      (with_reducible refine ktc.mono ?_)
      rintro e w5 ⟨rfl, hp, hg⟩
      have kd5 := KDS.out _ hp hl5
      have HG5 := Lib.hid (gb_trans HGR.out hg)
      have HO5 := Lib.hid (HOR.out.kept hg (by
        cases hob : V.ownBlock with
        | none => exact .inl rfl
        | some b => exact .inr (fun e => by have := (HOR.out.lt b hob).1; injection e with e; omega)))
      clear hp hg ktc HOR HGR HPR KDS
      go_wp2_with fail
      (with_reducible refine kd5.mono ?_)
      rintro e w6 ⟨rfl, hp, hg⟩
      have hs6 : w5.heap.size ≤ w6.heap.size := hg.size
      have hb7 : Below w6.heap.size w6 (w6.alloc (.cells #[.string nm2, .int .i64 0, .string ⟨#[]⟩, .bool false, .int .i64 (na2 : Int)] 88)) := (Below.refl _ _).alloc (Nat.le_refl _) _
      have hn7 := heap_alloc_new w6 (.cells #[.string nm2, .int .i64 0, .string ⟨#[]⟩, .bool false, .int .i64 (na2 : Int)] 88)
      have ho7 := ((HO5.out.kept hg (by
        cases hob : V.ownBlock with
        | none => exact .inl rfl
        | some b => exact .inr (fun e => by have := (HO5.out.lt b hob).1; injection e with e; omega))).alloc (.cells #[.string nm2, .int .i64 0, .string ⟨#[]⟩, .bool false, .int .i64 (na2 : Int)] 88))
      have HP7 := Lib.hid (hp.below hb7)
      have HG7 := Lib.hid (gb_trans HG5.out (gb_trans hg (gb_below (r := some gp) hb7)))
      have hnews : ∀ j u, v2.cells[j]? = some u → (w6.alloc (.cells #[.string nm2, .int .i64 0, .string ⟨#[]⟩, .bool false, .int .i64 (na2 : Int)] 88)).cell? ((⟨w6.heap.size, 0, none⟩ : Addr).add j) = some u := fun j u hu => by
        rw [Addr.add_lit, Nat.zero_add, cell_of_row _ w6.heap.size j _ _ _ hn7, ← hu, ← HV2.out]
        simp [Vr.cells]
      have hbase : w.heap.size ≤ (w6.alloc (.cells #[.string nm2, .int .i64 0, .string ⟨#[]⟩, .bool false, .int .i64 (na2 : Int)] 88)).heap.size := HG7.out.size
      have HNW := Lib.hid hnews
      have HO7 := Lib.hid ho7
      have hvb : ∀ k, V.ownBlock = some k → k ≠ gp ∧ k ≠ gw := fun k hk => by have := (ho7.lt k hk).1; omega
      have HVB := Lib.hid hvb
      have HVG := Lib.hid (fun k (hk : V.ownBlock = some k) => (ho7.lt k hk).1)
      have H63 : Hid (vs.length + 1 ≤ maxLen) := Lib.hid (by unfold maxLen; omega)
      have HBY : Hid ((vs.length + 1) * 56 ≤ 140737488355328) := Lib.hid (by omega)
      have HBS := Lib.hid hbase
      clear hbase
      clear hp hg hb7 hn7 ho7 hnews kd5 HG5 HO5 hvb
      go_wp2_with (at_builtin
                   refine wpList_append_own _ rfl (.tmp 11) (.tmp 14) 38 rfl w.heap.size 88 i0 _ 5 56 Tryz.underlying38 hi0 hz0 hz1 hzb HZ2.out (by decide) V vs.length (varsC vs) rfl HO7.out ⟨w6.heap.size, 0, none⟩ 1 1 v2.cells rfl rfl HNW.out (vr_one v2) H63.out HBY.out HBS.out ?_
                   intro v8 w8 hown8 hg8 _
                   have HO8 := Lib.hid hown8
                   have HGG := Lib.hid hg8
                   clear hown8 hg8)
      have HP8 := Lib.hid (HP7.out.own HGG.out HVB.out)
      have HG8 : Hid (w.grownBy w8 (some gp)) := Lib.hid ⟨HGG.out.os.trans HG7.out.os, HGG.out.tape.trans HG7.out.tape, HGG.out.output.trans HG7.out.output, Nat.le_trans HG7.out.size HGG.out.size, fun k hk hr => (HGG.out.block k (Nat.lt_of_lt_of_le hk HG7.out.size) (fun e => by have := HVG.out k e.symm; omega)).trans (HG7.out.block k hk hr)⟩
      refine ⟨⟨_, k', vs ++ [v2], T2, rfl, HEQ1.out, HEQ2.out, hl1, hok2, hl4, by simp, by simp; omega, HP8.out, HG8.out, ?_⟩, ?_⟩
      · rw [varsC_append, List.length_append, List.length_singleton]
        exact HO8.out
      · rw [leftOf_par HP8.out, HLF.out]
        have := HP8.out.lt
        omega
end Go.Proofs.YtjlnihennlkmpaaGreatDoor

namespace Go.Proofs.YtjlnihennlkmpaaGreatDoor
open Go Go.RowKit
def localS (L : List Wd) (st : St) : List Vr × St :=
  let d := declS L st
  if isS L (bs [119, 104, 101, 110]) d.2 = true then
    let t := takeS L (bs [110, 111, 116]) (nextS L d.2)
    let n := nameS L t.2
    (d.1.map fun v => { v with on := n.1, not_ := t.1 }, n.2)
  else d
theorem turnedV_set2 (f : Vr → Vr) (vs : List Vr) (i : Nat) (u u' : Value) (hi : i < vs.length) (m : Vr → Vr) (hm : ∀ v : Vr, v.cells.set 2 u = (m v).cells) (hj : ∀ v : Vr, (m v).cells.set 3 u' = (f v).cells) : ((varsC (turnedV f i vs)).set (i * 5 + 2) u).set (i * 5 + 3) u' = varsC (turnedV f (i + 1) vs) := by
  obtain ⟨h1, h2, h3⟩ := turnedV_split f vs i hi
  have e1 := varsC_set ((vs.take i).map f) (vs.drop (i + 1)) vs[i] (m vs[i]) 2 u (hm _) (by decide)
  have e2 := varsC_set ((vs.take i).map f) (vs.drop (i + 1)) (m vs[i]) (f vs[i]) 3 u' (hj _) (by decide)
  rw [h3] at e1 e2
  rw [h1, h2, e1, e2]
theorem declN_pos (L : List Wd) (st : St) : 0 < (declS L st).1.length := by
  show 0 < ((declN L st).1.map _).length
  rw [List.length_map]
  exact Nat.succ_pos _
theorem own_keep {w w' : World} {base gp : Nat} {e : TypeId} {size n : Nat} {v : Value} {xs : List Value} (h : w.ownsRow base e size v n xs) (hg : w.grownBy w' (some gp)) (hgp : gp < base) : w'.ownsRow base e size v n xs := h.kept hg (by
  cases hob : v.ownBlock with
  | none => exact .inl rfl
  | some b => exact .inr (fun e => by have := (h.lt b hob).1; injection e with e; omega))
theorem localS_later {L : List Wd} (hE : GoodE L) (q : Nat) {S : St} (h : S.i < L.length) (ho : Ok L S) (hn : S.names ≤ S.i + q) : LaterN L (q + 1) S (localS L S).2 ∧ (isNameS L S = true → LaterN L q S (localS L S).2 ∧ S.i < (localS L S).2.i) := by
  have h1 := declS_later hE q h ho hn
  unfold localS
  simp only
  split
  · have h2 := l_next hE h1.1.1.2.1 h1.1.1.2.2
    have h3 := l_take hE (bs [110, 111, 116]) h2.2.1 h2.2.2
    have h4 := l_name hE h3.2.1 h3.2.2
    have h5 := h2.trans (h3.trans h4)
    have hnm : (nameS L (takeS L (bs [110, 111, 116]) (nextS L (declS L S).2)).2).2.names = (declS L S).2.names := by rw [nameS_names, takeS_names, nextS_names]
    have hle := h5.1
    refine ⟨⟨h1.1.1.trans h5, by have := h1.1.2; simp only; omega⟩, fun hi => ?_⟩
    have h6 := h1.2 hi
    exact ⟨⟨h6.1.1.trans h5, by have := h6.1.2; simp only; omega⟩, by simp only; omega⟩
  · exact h1
set_option maxHeartbeats 4000000 in
set_option maxRecDepth 100000 in
theorem local_any (L : List Wd) (hE : GoodE L) (w : World) (gp gw c : Nat) (st : St) (h : Par L w gp gw c st) (ho : Ok L st) (q : Nat) (hq : q ≤ 100) (hn : st.names ≤ st.i + q) :
    Calls Tryz.prog 75 #[.pointer (some ⟨gp, 0, none⟩)] w (GivesV L gp gw c (localS L st).1 (localS L st).2 w) := by
  have hG := hE.good
  have hfew := hE.few
  have hlt := h.lt
  have hgp := h.gpl
  have hgw := h.gwl
  have kd := decl_any L hE w gp gw c st h ho q hq hn
  have hpos := declN_pos L st
  have hlater := (declS_later hE q hlt ho hn).1
  obtain ⟨RR, hRR⟩ : ∃ R, R = localS L st := ⟨_, rfl⟩
  rw [← hRR]
  unfold localS at hRR
  obtain ⟨D, hD⟩ : ∃ R, R = declS L st := ⟨_, rfl⟩
  simp only [← hD] at hRR
  rw [← hD] at kd hpos hlater
  obtain ⟨vs, S⟩ := D
  simp only at hRR kd hpos hlater
  have hvl : vs.length < 200000 := by
    have := congrArg (fun p => p.1.length) hD
    simp only at this
    have h2 : (declS L st).1.length = (declN L st).1.length := by show ((declN L st).1.map _).length = _; rw [List.length_map]
    have h3 : ∀ k S, (declL L k S).1.length ≤ k := by
      intro k
      induction k with
      | zero => intro S; exact Nat.le_refl _
      | succ k ih =>
        intro S
        unfold declL
        split
        · have := ih (declaredS L (nextS L S)).2.2; simp only [List.length_cons]; omega
        · simp
    have h4 : (declN L st).1.length = (declL L L.length (declaredS L st).2.2).1.length + 1 := rfl
    have := h3 L.length (declaredS L st).2.2
    omega
  have kt : ∀ W, Par L W gp gw c S → Calls Tryz.prog 58 #[.pointer (some ⟨gp, 0, none⟩), .string ⟨#[119, 104, 101, 110]⟩] W (Gives1 L gp gw c (.bool (takeS L (bs [119, 104, 101, 110]) S).1) (takeS L (bs [119, 104, 101, 110]) S).2 W) := fun W hp => take_any L hG (bs [119, 104, 101, 110]) W gp gw c S hp
  unfold takeS at kt
  obtain ⟨b, hb'⟩ : ∃ b, b = isS L (bs [119, 104, 101, 110]) S := ⟨_, rfl⟩
  simp only [← hb'] at hRR kt
  obtain ⟨N, hN⟩ : ∃ N, N = nextS L S := ⟨_, rfl⟩
  simp only [← hN] at hRR kt
  have kt2 : ∀ W, Par L W gp gw c N → Calls Tryz.prog 58 #[.pointer (some ⟨gp, 0, none⟩), .string ⟨#[110, 111, 116]⟩] W (Gives1 L gp gw c (.bool (takeS L (bs [110, 111, 116]) N).1) (takeS L (bs [110, 111, 116]) N).2 W) := fun W hp => take_any L hG (bs [110, 111, 116]) W gp gw c N hp
  obtain ⟨nt, hnt⟩ : ∃ N', N' = (takeS L (bs [110, 111, 116]) N).1 := ⟨_, rfl⟩
  obtain ⟨N2, hN2⟩ : ∃ N', N' = (takeS L (bs [110, 111, 116]) N).2 := ⟨_, rfl⟩
  simp only [← hnt, ← hN2] at hRR kt2
  have kn : ∀ W, Par L W gp gw c N2 → Calls Tryz.prog 56 #[.pointer (some ⟨gp, 0, none⟩)] W (Gives1 L gp gw c (.string (nameS L N2).1) (nameS L N2).2 W) := fun W hp => name_any L hG W gp gw c N2 hp
  obtain ⟨nn, hnn⟩ : ∃ N', N' = (nameS L N2).1 := ⟨_, rfl⟩
  obtain ⟨N3, hN3⟩ : ∃ N', N' = (nameS L N2).2 := ⟨_, rfl⟩
  simp only [← hnn, ← hN3] at hRR kn
  have HRR := Lib.hid hRR
  have KT := Lib.hid kt
  have KT2 := Lib.hid kt2
  have KN := Lib.hid kn
  clear hRR kt kt2 kn hb' hN hnt hN2 hnn hN3 hD h ho hlater
  go_enter Tryz.func75, Tryz.ntmps75
  go_wp2_with fail
  (with_reducible refine kd.mono ?_)
  rintro e w1 ⟨V, rfl, hown, hp, hg⟩
  have kt1 := KT.out _ hp
  have HO := Lib.hid hown
  have HG1 := Lib.hid hg
  clear hown hp hg kd KT
  go_wp2_with fail
  (with_reducible refine kt1.mono ?_)
  rintro e w2 ⟨rfl, hp, hg⟩
  have HO2 := Lib.hid (own_keep HO.out hg hgp)
  have HG2 := Lib.hid (gb_trans HG1.out hg)
  have HP2 := Lib.hid hp
  clear hp hg kt1 HO HG1
  cases b
  · go_wp2_with fail
    go_ret
    rw [HRR.out]
    exact ⟨V, rfl, HO2.out, HP2.out, HG2.out⟩
  · have kt3 := KT2.out _ HP2.out
    go_wp2_with fail
    (with_reducible refine kt3.mono ?_)
    rintro e w3 ⟨rfl, hp, hg⟩
    have kn3 := KN.out _ hp
    have HO3 := Lib.hid (own_keep HO2.out hg hgp)
    have HG3 := Lib.hid (gb_trans HG2.out hg)
    clear hp hg kt3 HO2 HG2 HP2 KT2 KN
    go_wp2_with fail
    (with_reducible refine kn3.mono ?_)
    rintro e w4 ⟨rfl, hp, hg⟩
    have ho4 := own_keep HO3.out hg hgp
    obtain ⟨g, cap, rfl, hgb, hgs⟩ := own_slice ho4 hpos
    have HO4 := Lib.hid ho4
    have HG4 := Lib.hid (gb_trans HG3.out hg)
    have HP4 := Lib.hid hp
    obtain ⟨n, hnl⟩ : ∃ n, n = vs.length := ⟨_, rfl⟩
    have HNL := Lib.hid hnl
    clear ho4 hp hg kn3 HO3 HG3 hnl
    rw [← HNL.out]
    rw [← HNL.out] at hpos hvl
    obtain ⟨f, hf⟩ : ∃ f : Vr → Vr, f = fun v => { v with on := nn, not_ := nt } := ⟨_, rfl⟩
    have HF := Lib.hid hf
    have hfm : ∀ v : Vr, v.cells.set 2 (.string nn) = ({ v with on := nn } : Vr).cells := fun v => rfl
    have hfc : ∀ v : Vr, ({ v with on := nn } : Vr).cells.set 3 (.bool nt) = (f v).cells := fun v => by rw [hf]; rfl
    have HFM := Lib.hid hfm
    have HFC := Lib.hid hfc
    clear hf hfc hfm
    go_wp2_with fail
    go_loopw [19] (fun iv wr => ∃ (i : Nat), iv = .int .i64 (i : Int) ∧ i ≤ n ∧ Par L wr gp gw c N3 ∧ w.grownBy wr (some gp) ∧ wr.ownsRow w.heap.size 88 5 (.slice (some ⟨g, 0, none⟩) n cap) n (varsC (turnedV f i vs)))
      (fun iv _ => n - (intOf iv).toNat)
    case atStart => exact ⟨0, rfl, by omega, HP4.out, HG4.out, by have := HO4.out; rw [← HNL.out] at this; exact this⟩
    case round =>
      obtain ⟨i, rfl, hi, hpi, hgi, hoi⟩ := hrel
      by_cases hin : i < n
      · have d2 : decide ((i : Int) < (n : Int)) = true := by simp; omega
        have hlenx : (varsC (turnedV f i vs)).length = n * 5 := by rw [varsC_length, turnedV_length _ _ _ (by rw [← HNL.out]; omega), ← HNL.out]
        obtain ⟨ho1, ⟨u0, hc0⟩, hf0⟩ := own_set hoi (i * 5 + 2) (.string nn) (by omega)
        obtain ⟨ho2, ⟨u1, hc1⟩, hf1⟩ := own_set ho1 (i * 5 + 3) (.bool nt) (by rw [List.length_set]; omega)
        rw [turnedV_set2 f vs i _ _ (by rw [← HNL.out]; omega) _ HFM.out HFC.out] at ho2
        have hgne : g ≠ gp ∧ g ≠ gw := ⟨by omega, by omega⟩
        have hix := fun W => idx_var g n cap i hin (by omega) W
        obtain ⟨w8, hw8⟩ : ∃ w8, w8 = (wr.setCell ⟨g, i * 5 + 2, none⟩ (.string nn)).setCell ⟨g, i * 5 + 3, none⟩ (.bool nt) := ⟨_, rfl⟩
        have hp8 : Par L w8 gp gw c N3 := by
          rw [hw8]
          refine Par.keep (w := wr.setCell ⟨g, i * 5 + 2, none⟩ (.string nn)) (hpi.keep (heap_setCell_other wr ⟨g, i * 5 + 2, none⟩ gp _ (Ne.symm hgne.1)) (heap_setCell_other wr ⟨g, i * 5 + 2, none⟩ gw _ (Ne.symm hgne.2)) (by simp)) (heap_setCell_other _ ⟨g, i * 5 + 3, none⟩ gp _ (Ne.symm hgne.1)) (heap_setCell_other _ ⟨g, i * 5 + 3, none⟩ gw _ (Ne.symm hgne.2)) (by simp)
        have hg8 : w.grownBy w8 (some gp) := by rw [hw8]; exact gb_own (gb_own hgi hgb) hgb
        rw [← hw8] at ho2
        have HP8 := Lib.hid hp8
        have HG8 := Lib.hid hg8
        have HO8 := Lib.hid ho2
        have HW8 := Lib.hid hw8
        clear hpi hgi hoi ho1 ho2 HP4 HG4 HO4 hp8 hg8 hw8 hlenx
        go_wp2_with fail
        rw [← HW8.out]
        refine ⟨⟨i + 1, by go_num, by omega, HP8.out, HG8.out, HO8.out⟩, ?_⟩
        simp [intOf]; omega
      · obtain rfl : i = n := by omega
        have d2 : decide ((i : Int) < (i : Int)) = false := by simp
        have HP2 := Lib.hid hpi
        have HG2 := Lib.hid hgi
        have HO2 := Lib.hid hoi
        clear hpi hgi hoi HP4 HG4 HO4
        go_wp2_with fail
        go_ret
        rw [HRR.out]
        refine ⟨_, rfl, ?_, HP2.out, HG2.out⟩
        have h := HO2.out
        unfold turnedV at h
        rw [List.take_of_length_le (by rw [← HNL.out]; exact Nat.le_refl _), List.drop_of_length_le (by rw [← HNL.out]; exact Nat.le_refl _), List.append_nil, HF.out] at h
        have hl : i = (vs.map fun v => ({ v with on := nn, not_ := nt } : Vr)).length := by rw [List.length_map]; exact HNL.out
        show wr.ownsRow _ _ _ _ (vs.map fun v => ({ v with on := nn, not_ := nt } : Vr)).length _
        rw [← hl]
        exact h
end Go.Proofs.YtjlnihennlkmpaaGreatDoor

namespace Go.Proofs.YtjlnihennlkmpaaGreatDoor
open Go Go.RowKit
theorem declS_len {L : List Wd} (hE : GoodE L) (st : St) : (declS L st).1.length ≤ 100000 := by
  have hfew := hE.few
  have h2 : (declS L st).1.length = (declN L st).1.length := by show ((declN L st).1.map _).length = _; rw [List.length_map]
  have h3 : ∀ k S, (declL L k S).1.length ≤ k := by
    intro k
    induction k with
    | zero => intro S; exact Nat.le_refl _
    | succ k ih =>
      intro S
      unfold declL
      split
      · have := ih (declaredS L (nextS L S)).2.2; simp only [List.length_cons]; omega
      · simp
  have h4 : (declN L st).1.length = (declL L L.length (declaredS L st).2.2).1.length + 1 := rfl
  have := h3 L.length (declaredS L st).2.2
  omega
theorem localS_len {L : List Wd} (hE : GoodE L) (st : St) : (localS L st).1.length ≤ 100000 := by
  have h := declS_len hE st
  unfold localS
  simp only
  split
  · simpa using h
  · exact h
def declsL (L : List Wd) : Nat → St → List Vr × St
  | 0, st => ([], st)
  | k + 1, st => if isS L (bs [59]) st = true then ((declS L (nextS L st)).1 ++ (declsL L k (declS L (nextS L st)).2).1, (declsL L k (declS L (nextS L st)).2).2) else ([], st)
def declsB (L : List Wd) (st : St) : List Vr × St :=
  if isS L (bs [41]) st = true then ([], st) else ((declS L st).1 ++ (declsL L L.length (declS L st).2).1, (declsL L L.length (declS L st).2).2)
def declsS (L : List Wd) (st : St) : List Vr × St := ((declsB L (needS L (bs [40]) st)).1, needS L (bs [41]) (declsB L (needS L (bs [40]) st)).2)
def localsL (L : List Wd) : Nat → St → List Vr × St
  | 0, st => ([], st)
  | k + 1, st => if isNameS L st = true then ((localS L st).1 ++ (localsL L k (needS L (bs [59]) (localS L st).2)).1, (localsL L k (needS L (bs [59]) (localS L st).2)).2) else ([], st)
def localsS (L : List Wd) (st : St) : List Vr × St :=
  if isS L (bs [59]) st = true then ([], nextS L st) else ((localS L st).1 ++ (localsL L L.length (needS L (bs [59]) (localS L st).2)).1, (localsL L L.length (needS L (bs [59]) (localS L st).2)).2)
theorem declsL_stop (L : List Wd) (k : Nat) (S : St) (h : isS L (bs [59]) S = false) : declsL L k S = ([], S) := by
  cases k with
  | zero => rfl
  | succ k => unfold declsL; simp [h]
theorem declsL_go (L : List Wd) (k : Nat) (S : St) (h : isS L (bs [59]) S = true) : declsL L (k + 1) S = ((declS L (nextS L S)).1 ++ (declsL L k (declS L (nextS L S)).2).1, (declsL L k (declS L (nextS L S)).2).2) := by
  conv => lhs; unfold declsL
  simp [h]
theorem localsL_stop (L : List Wd) (k : Nat) (S : St) (h : isNameS L S = false) : localsL L k S = ([], S) := by
  cases k with
  | zero => rfl
  | succ k => unfold localsL; simp [h]
theorem localsL_go (L : List Wd) (k : Nat) (S : St) (h : isNameS L S = true) : localsL L (k + 1) S = ((localS L S).1 ++ (localsL L k (needS L (bs [59]) (localS L S).2)).1, (localsL L k (needS L (bs [59]) (localS L S).2)).2) := by
  conv => lhs; unfold localsL
  simp [h]
theorem declsL_later {L : List Wd} (hE : GoodE L) (q : Nat) : ∀ (k : Nat) {S : St}, S.i < L.length → Ok L S → S.names ≤ S.i + (q + 1) → LaterN L (q + 1) S (declsL L k S).2
  | 0, S, h, ho, hn => ⟨Later.refl h ho, hn⟩
  | k + 1, S, h, ho, hn => by
    unfold declsL
    split
    · rename_i hi
      have h1 := l_next hE h ho
      have hi1 := nextS_lt (kind_of_is hE h (s := (bs [59])) (by simp [bs]) hi)
      have h2 := (declS_later hE q h1.2.1 h1.2.2 (by rw [nextS_names]; omega)).1
      have h3 := declsL_later hE q k h2.1.2.1 h2.1.2.2 h2.2
      exact ⟨h1.trans (h2.1.trans h3.1), h3.2⟩
    · exact ⟨Later.refl h ho, hn⟩
theorem localsL_later {L : List Wd} (hE : GoodE L) (q : Nat) : ∀ (k : Nat) {S : St}, S.i < L.length → Ok L S → S.names ≤ S.i + q → LaterN L q S (localsL L k S).2
  | 0, S, h, ho, hn => ⟨Later.refl h ho, hn⟩
  | k + 1, S, h, ho, hn => by
    unfold localsL
    split
    · rename_i hi
      have h2 := ((localS_later hE q h ho hn).2 hi).1
      have h4 := l_need hE (bs [59]) h2.1.2.1 h2.1.2.2
      have h5 := needS_names L (bs [59]) (localS L S).2
      have h6 := h4.1
      have h3 := localsL_later hE q k h4.2.1 h4.2.2 (by have := h2.2; omega)
      exact ⟨h2.1.trans (h4.trans h3.1), h3.2⟩
    · exact ⟨Later.refl h ho, hn⟩
theorem declsS_later {L : List Wd} (hE : GoodE L) (q : Nat) {S : St} (h : S.i < L.length) (ho : Ok L S) (hn : S.names ≤ S.i + q) : LaterN L (q + 1) S (declsS L S).2 := by
  have h1 := l_need hE (bs [40]) h ho
  have h1n := needS_names L (bs [40]) S
  have h1i := h1.1
  have h2 : LaterN L (q + 1) (needS L (bs [40]) S) (declsB L (needS L (bs [40]) S)).2 := by
    unfold declsB
    split
    · exact ⟨Later.refl h1.2.1 h1.2.2, by simp only; omega⟩
    · have h3 := (declS_later hE q h1.2.1 h1.2.2 (by omega)).1
      have h4 := declsL_later hE q L.length h3.1.2.1 h3.1.2.2 h3.2
      exact ⟨h3.1.trans h4.1, h4.2⟩
  have h5 := l_need hE (bs [41]) h2.1.2.1 h2.1.2.2
  have h5i := h5.1
  have h5n := needS_names L (bs [41]) (declsB L (needS L (bs [40]) S)).2
  exact ⟨h1.trans (h2.1.trans h5), by show (needS L (bs [41]) (declsB L (needS L (bs [40]) S)).2).names ≤ _; have := h2.2; unfold declsS; simp only; omega⟩
theorem localsS_later {L : List Wd} (hE : GoodE L) (q : Nat) {S : St} (h : S.i < L.length) (ho : Ok L S) (hn : S.names ≤ S.i + q) : LaterN L (q + 1) S (localsS L S).2 := by
  unfold localsS
  split
  · have h1 := l_next hE h ho
    have := h1.1
    exact ⟨h1, by simp only; rw [nextS_names]; omega⟩
  · have h2 := (localS_later hE q h ho hn).1
    have h4 := l_need hE (bs [59]) h2.1.2.1 h2.1.2.2
    have h5 := needS_names L (bs [59]) (localS L S).2
    have h6 := h4.1
    have h3 := localsL_later hE (q + 1) L.length h4.2.1 h4.2.2 (by have := h2.2; omega)
    exact ⟨h2.1.trans (h4.trans h3.1), h3.2⟩
/-- What a row that grows bears. -/
structure VInv (L : List Wd) (w : World) (gp gw c : Nat) (wr : World) (V : Value) (vs : List Vr) (S : St) : Prop where
  par : Par L wr gp gw c S
  gb : w.grownBy wr (some gp)
  own : wr.ownsRow w.heap.size 88 5 V vs.length (varsC vs)
theorem VInv.step {L : List Wd} {w wr w' : World} {gp gw c : Nat} {V : Value} {vs : List Vr} {S S' : St} (hgp : gp < w.heap.size) (h : VInv L w gp gw c wr V vs S) (hg : wr.grownBy w' (some gp)) (hp : Par L w' gp gw c S') : VInv L w gp gw c w' V vs S' := ⟨hp, gb_trans h.gb hg, own_keep h.own hg hgp⟩
theorem VInv.put {L : List Wd} {w wr w' : World} {gp gw c : Nat} {V V' : Value} {vs v2 : List Vr} {S : St} (hgp : gp < w.heap.size) (hgw : gw < w.heap.size) (h : VInv L w gp gw c wr V vs S) (hg : wr.grownBy w' V.ownBlock) (ho : w'.ownsRow w.heap.size 88 5 V' (vs.length + v2.length) (varsC vs ++ varsC v2)) : VInv L w gp gw c w' V' (vs ++ v2) S := by
  have hb : ∀ k, V.ownBlock = some k → w.heap.size ≤ k := fun k hk => (h.own.lt k hk).1
  refine ⟨h.par.own hg (fun k hk => by have := hb k hk; omega), ⟨hg.os.trans h.gb.os, hg.tape.trans h.gb.tape, hg.output.trans h.gb.output, Nat.le_trans h.gb.size hg.size, fun k hk hr => (hg.block k (Nat.lt_of_lt_of_le hk h.gb.size) (fun e => by have := hb k e.symm; omega)).trans (h.gb.block k hk hr)⟩, ?_⟩
  rw [List.length_append, varsC_append]
  exact ho
theorem vars_one (l : List Vr) : ∀ u ∈ varsC l, u.oneCell' = true := fun u hu => by
  obtain ⟨v, _, hv⟩ := List.mem_flatMap.1 hu
  exact vr_one v u hv
end Go.Proofs.YtjlnihennlkmpaaGreatDoor

namespace Go.Proofs.YtjlnihennlkmpaaGreatDoor
open Go Go.RowKit
structure Qe where
  name : ByteArray
  e : Ex
  at_ : Nat
def eqS (L : List Wd) (st : St) : Qe × St :=
  let s := { st with parts := 0 }
  let n := nameS L s
  let x := exprS L (needS L (bs [61]) n.2)
  (⟨n.1, x.1, (cur L st).at_⟩, needS L (bs [59]) x.2)
theorem exprS_mono {L : List Wd} (hE : GoodE L) : Mono L (exprS L) := (mono_at hE 31).expr
def zeroP (st : St) : St := { st with parts := 0 }
theorem zeroP_ok {L : List Wd} {S : St} (ho : Ok L S) : Ok L (zeroP S) := ⟨Nat.zero_le _, ho.2⟩
theorem eqS_later {L : List Wd} (hE : GoodE L) {S : St} (h : S.i < L.length) (ho : Ok L S) : Later L S (eqS L S).2 ∧ (isNameS L S = true → S.i < (eqS L S).2.i) := by
  have h0 : Later L S (zeroP S) := ⟨Nat.le_refl _, h, zeroP_ok ho⟩
  have h1 := l_name hE h0.2.1 h0.2.2
  have h2 := l_need hE (bs [61]) h1.2.1 h1.2.2
  have h3 := exprS_mono hE _ h2.2.1 h2.2.2
  have h4 := l_need hE (bs [59]) h3.2.1 h3.2.2
  have h5 := h2.trans (Later.trans h3 h4)
  refine ⟨h0.trans (h1.trans h5), fun hn => ?_⟩
  have hn' : isNameS L (zeroP S) = true := hn
  have hk : (cur L S).kind ≠ 0 := by
    unfold isNameS at hn
    simp at hn
    omega
  have : (nameS L (zeroP S)).2.i = S.i + 1 := by
    unfold nameS
    rw [if_pos hn']
    exact nextS_lt (st := zeroP S) hk
  have h6 := h5.1
  show S.i < (needS L (bs [59]) (exprS L (needS L (bs [61]) (nameS L (zeroP S)).2)).2).i
  omega
theorem set_mid (W : World) (b : Nat) (c0 c1 c2 c3 c4 c5 c6 v1 v2 v3 v4 v5 : Value) (t : TypeId) (hr : W.heap[b]? = some (.cells #[c0, c1, c2, c3, c4, c5, c6] t (0, 0))) :
    (W.setCells b 1 [v1, v2, v3, v4, v5]).heap[b]? = some (.cells #[c0, v1, v2, v3, v4, v5, c6] t (0, 0)) ∧ (∀ k, k ≠ b → (W.setCells b 1 [v1, v2, v3, v4, v5]).heap[k]? = W.heap[k]?) ∧ (W.setCells b 1 [v1, v2, v3, v4, v5]).heap.size = W.heap.size ∧ W.there b 1 5 := by
  have h1 := heap_setCell_same W b 1 _ _ v1 hr
  have h2 := heap_setCell_same _ b 2 _ _ v2 h1
  have h3 := heap_setCell_same _ b 3 _ _ v3 h2
  have h4 := heap_setCell_same _ b 4 _ _ v4 h3
  have h5 := heap_setCell_same _ b 5 _ _ v5 h4
  refine ⟨h5, fun k hk => ?_, by simp [World.setCells], fun j hj => ⟨?_, frozen_of_row W b (1 + j) _ _ hr⟩⟩
  · exact (heap_setCell_other _ ⟨b, 5, none⟩ k v5 hk).trans ((heap_setCell_other _ ⟨b, 4, none⟩ k v4 hk).trans ((heap_setCell_other _ ⟨b, 3, none⟩ k v3 hk).trans ((heap_setCell_other _ ⟨b, 2, none⟩ k v2 hk).trans (heap_setCell_other _ ⟨b, 1, none⟩ k v1 hk))))
  · rw [cell_of_row W b (1 + j) _ _ _ hr]
    match j, hj with
    | 0, _ => rfl
    | 1, _ => rfl
    | 2, _ => rfl
    | 3, _ => rfl
    | 4, _ => rfl
theorem size_eq7 : (Tryz.prog.info? 56).map (·.size) = some 7 := by kernel_rfl
theorem eq_one (q o m : ByteArray) (n a : Int) (x : Option Addr) (l c : Nat) (b : Int) : (#[.string q, .string o, .string m, .int .i64 n, .int .i64 a, .slice x l c, .int .i64 b] : Array Value).all (·.oneCell') = true := by simp [Value.oneCell']
theorem setCells5 (W : World) (b : Nat) (v1 v2 v3 v4 v5 : Value) : (W.setCells b 1 [v1, v2, v3, v4, v5]).os = W.os ∧ (W.setCells b 1 [v1, v2, v3, v4, v5]).tape = W.tape ∧ (W.setCells b 1 [v1, v2, v3, v4, v5]).output = W.output := by
  have h := gb_trans (gb_set W b 1 v1) (gb_trans (gb_set _ b 2 v2) (gb_trans (gb_set _ b 3 v3) (gb_trans (gb_set _ b 4 v4) (gb_set _ b 5 v5))))
  simp only [World.setCells]
  exact ⟨h.os, h.tape, h.output⟩
theorem eq_put {L : List Wd} {w w5 w6 w7 : World} {gp gw c b : Nat} {S : St} {t : Ex} {nn : ByteArray} {at0 : Nat} {o1 m1 : ByteArray} {n1 a1 : Int} {x1 : Option Addr} {l1 c1 : Nat} (h7 : w7 = w6.setCells b 1 [.string o1, .string m1, .int .i64 n1, .int .i64 a1, .slice x1 l1 c1]) (hgp : gp < w.heap.size) (hgw : gw < w.heap.size) (hb : w.heap.size < b) (hb5 : b < w5.heap.size) (hs6 : w5.heap.size ≤ w6.heap.size) (hrow : w6.heap[b]? = some (.cells #[.string nn, .string ⟨#[]⟩, .string ⟨#[]⟩, .int .i64 0, .int .i64 0, .slice none 0 0, .int .i64 (at0 : Int)] 56 (0, 0))) (hp : Par L w6 gp gw c S) (hg : w.grownBy w6 (some gp)) (hi : IsE w5.heap.size w6 o1 m1 n1 a1 x1 l1 c1 t) (lr : w6.heap[w.heap.size]? = some (.cells #[.string ⟨#[]⟩, .string ⟨#[]⟩, .string ⟨#[]⟩, .int .i64 0, .int .i64 0, .slice none 0 0, .int .i64 0] 56 (0, 0))) :
    w6.there b 1 5 ∧ w7.heap[b]? = some (.cells #[.string nn, .string o1, .string m1, .int .i64 n1, .int .i64 a1, .slice x1 l1 c1, .int .i64 (at0 : Int)] 56 (0, 0)) ∧ Par L w7 gp gw c S ∧ w.grownBy w7 (some gp) ∧ IsP (fun k => b < k) w7 o1 m1 n1 a1 x1 l1 c1 t ∧ w7.heap[w.heap.size]? = some (.cells #[.string ⟨#[]⟩, .string ⟨#[]⟩, .string ⟨#[]⟩, .int .i64 0, .int .i64 0, .slice none 0 0, .int .i64 0] 56 (0, 0)) ∧ w7.heap.size = w6.heap.size := by
  have hm := set_mid w6 b (.string nn) (.string ⟨#[]⟩) (.string ⟨#[]⟩) (.int .i64 0) (.int .i64 0) (.slice none 0 0) (.int .i64 (at0 : Int)) (.string o1) (.string m1) (.int .i64 n1) (.int .i64 a1) (.slice x1 l1 c1) 56 hrow
  have he := setCells5 w6 b (.string o1) (.string m1) (.int .i64 n1) (.int .i64 a1) (.slice x1 l1 c1)
  rw [← h7] at hm he
  clear h7
  obtain ⟨hset7, hoth7, hs7, hth7⟩ := hm
  obtain ⟨e1, e2, e3⟩ := he
  refine ⟨hth7, hset7, hp.keep (hoth7 gp (by omega)) (hoth7 gw (by omega)) (by omega), ⟨e1.trans hg.os, e2.trans hg.tape, e3.trans hg.output, by rw [hs7]; exact hg.size, fun k hk hr => (hoth7 k (by omega)).trans (hg.block k hk hr)⟩, ?_, (hoth7 w.heap.size (by omega)).trans lr, hs7⟩
  have hi7 := hi.toP (ok := fun k => b < k) (fun k h1 h2 => by omega)
  exact hi7.keep (ok' := fun k => b < k) (by omega) (fun k h1 h2 => hoth7 k (by omega)) (fun _ h _ => h) _
/-- An equation handed back. -/
def GivesQ (L : List Wd) (gp gw c : Nat) (q : Qe) (S : St) (w : World) (e : Ending) (w' : World) : Prop :=
  ∃ o m n a x l cc, e = .returned (.agg #[.string q.name, .string o, .string m, .int .i64 n, .int .i64 a, .slice x l cc, .int .i64 (q.at_ : Int)]) ∧ IsE w.heap.size w' o m n a x l cc q.e ∧ Par L w' gp gw c S ∧ w.grownBy w' (some gp)
set_option maxHeartbeats 4000000 in
set_option maxRecDepth 100000 in
theorem eq_any (L : List Wd) (hE : GoodE L) (w : World) (gp gw c : Nat) (st : St) (h : Par L w gp gw c st) (ho : Ok L st) :
    Calls Tryz.prog 61 #[.pointer (some ⟨gp, 0, none⟩)] w (GivesQ L gp gw c (eqS L st).1 (eqS L st).2 w) := by
  have hG := hE.good
  have hlt := h.lt
  have hgp := h.gpl
  have hgw := h.gwl
  have hps : Par L (w.setCell ⟨gp, 4, none⟩ (.int .i64 0)) gp gw c (zeroP st) := h.setParts 0
  have hgs := gb_set w gp 4 (.int .i64 0)
  have hss : (w.setCell ⟨gp, 4, none⟩ (.int .i64 0)).heap.size = w.heap.size := by simp
  have hcur : cur L (zeroP st) = cur L st := rfl
  obtain ⟨w0, hw0⟩ : ∃ w0, w0 = w.setCell ⟨gp, 4, none⟩ (.int .i64 0) := ⟨_, rfl⟩
  rw [← hw0] at hps hgs hss
  have hb1 : Below w0.heap.size w0 (w0.alloc (.cells #[.string ⟨#[]⟩, .string ⟨#[]⟩, .string ⟨#[]⟩, .int .i64 0, .int .i64 0, .slice none 0 0, .int .i64 0] 56)) := (Below.refl _ _).alloc (Nat.le_refl _) _
  have hn1 := heap_alloc_new w0 (.cells #[.string ⟨#[]⟩, .string ⟨#[]⟩, .string ⟨#[]⟩, .int .i64 0, .int .i64 0, .slice none 0 0, .int .i64 0] 56)
  have h1 := hps.below hb1
  have hs1 : (w0.alloc (.cells #[.string ⟨#[]⟩, .string ⟨#[]⟩, .string ⟨#[]⟩, .int .i64 0, .int .i64 0, .slice none 0 0, .int .i64 0] 56)).heap.size = w.heap.size + 1 := by simp [hss]
  rw [hss] at hn1
  have hg1 := gb_trans hgs (gb_below (r := some gp) hb1)
  obtain ⟨p0, _, _, _, _⟩ := h1.cells
  obtain ⟨_, _, _, q3⟩ := h1.cur_cell
  rw [hcur] at q3
  have hi0 : (zeroP st).i = st.i := rfl
  rw [hi0] at p0 q3
  have p4 := h.cells.2.2.2.2
  have f4 := h.frozen 4
  have hm : 0 < L.length - st.i := by omega
  obtain ⟨w1, hw1⟩ : ∃ w1, w1 = w0.alloc (.cells #[.string ⟨#[]⟩, .string ⟨#[]⟩, .string ⟨#[]⟩, .int .i64 0, .int .i64 0, .slice none 0 0, .int .i64 0] 56) := ⟨_, rfl⟩
  rw [← hw1] at hn1 h1 hs1 hg1 p0 q3
  obtain ⟨RR, hRR⟩ : ∃ R, R = eqS L st := ⟨_, rfl⟩
  rw [← hRR]
  unfold eqS at hRR
  rw [show ({ st with parts := 0 } : St) = zeroP st from rfl] at hRR
  have kn : ∀ W, Par L W gp gw c (zeroP st) → Calls Tryz.prog 56 #[.pointer (some ⟨gp, 0, none⟩)] W (Gives1 L gp gw c (.string (nameS L (zeroP st)).1) (nameS L (zeroP st)).2 W) := fun W hp => name_any L hG W gp gw c _ hp
  have hl0 : Later L st (zeroP st) := ⟨Nat.le_refl _, hlt, zeroP_ok ho⟩
  have hl1 := l_name hE hl0.2.1 hl0.2.2
  obtain ⟨nn, hnn⟩ : ∃ v, v = (nameS L (zeroP st)).1 := ⟨_, rfl⟩
  obtain ⟨S1, hS1⟩ : ∃ v, v = (nameS L (zeroP st)).2 := ⟨_, rfl⟩
  simp only [← hnn, ← hS1] at hRR kn
  rw [← hS1] at hl1
  have kq : ∀ W, Par L W gp gw c S1 → Calls Tryz.prog 55 #[.pointer (some ⟨gp, 0, none⟩), .string ⟨#[61]⟩] W (GivesU L gp gw c (needS L (bs [61]) S1) W) := fun W hp => need_any L hG (bs [61]) W gp gw c _ hp
  have hl2 := l_need hE (bs [61]) hl1.2.1 hl1.2.2
  obtain ⟨S2, hS2⟩ : ∃ v, v = needS L (bs [61]) S1 := ⟨_, rfl⟩
  simp only [← hS2] at hRR kq
  rw [← hS2] at hl2
  have kx := fun W (hp : Par L W gp gw c S2) => exprs_any hE (gp := gp) (gw := gw) (c := c) W S2 hp hl2.2.2
  obtain ⟨t, ht⟩ : ∃ v, v = (exprS L S2).1 := ⟨_, rfl⟩
  obtain ⟨S3, hS3⟩ : ∃ v, v = (exprS L S2).2 := ⟨_, rfl⟩
  simp only [← ht, ← hS3] at hRR kx
  have ks : ∀ W, Par L W gp gw c S3 → Calls Tryz.prog 55 #[.pointer (some ⟨gp, 0, none⟩), .string ⟨#[59]⟩] W (GivesU L gp gw c (needS L (bs [59]) S3) W) := fun W hp => need_any L hG (bs [59]) W gp gw c _ hp
  obtain ⟨S4, hS4⟩ : ∃ v, v = needS L (bs [59]) S3 := ⟨_, rfl⟩
  simp only [← hS4] at hRR ks
  obtain ⟨at0, hat⟩ : ∃ v, v = (cur L st).at_ := ⟨_, rfl⟩
  rw [← hat] at q3 hRR
  obtain ⟨m, hme⟩ : ∃ m, m = L.length - st.i := ⟨_, rfl⟩
  obtain ⟨dd, hdd⟩ : ∃ d, d = c - st.i := ⟨_, rfl⟩
  obtain ⟨q, hqq⟩ : ∃ q, q = st.i * 4 := ⟨_, rfl⟩
  rw [← hme] at hm p0
  rw [← hdd, ← hqq] at p0
  rw [← hqq] at q3
  have hb2 : Below w1.heap.size w1 (w1.alloc (.cells #[.string ⟨#[]⟩, .string ⟨#[]⟩, .string ⟨#[]⟩, .int .i64 0, .int .i64 0, .slice none 0 0, .int .i64 (at0 : Int)] 56)) := (Below.refl _ _).alloc (Nat.le_refl _) _
  have hn2 := heap_alloc_new w1 (.cells #[.string ⟨#[]⟩, .string ⟨#[]⟩, .string ⟨#[]⟩, .int .i64 0, .int .i64 0, .slice none 0 0, .int .i64 (at0 : Int)] 56)
  have ha2 : (w1.alloc (.cells #[.string ⟨#[]⟩, .string ⟨#[]⟩, .string ⟨#[]⟩, .int .i64 0, .int .i64 0, .slice none 0 0, .int .i64 (at0 : Int)] 56)).heap.size = w.heap.size + 2 := by simp [hs1]
  rw [hs1] at hn2
  have kn2 := kn _ (h1.below hb2)
  have HN2 := Lib.hid hn2
  have LR2 := Lib.hid ((hb2.block w.heap.size (by omega)).trans hn1)
  have G2 := Lib.hid (gb_trans hg1 (gb_below (r := some gp) hb2))
  have KQ := Lib.hid kq
  have KX := Lib.hid kx
  have KS := Lib.hid ks
  have HRR := Lib.hid hRR
  have HSE := Lib.hid size_expr
  have HSQ := Lib.hid size_eq7
  rw [hw1, hw0] at p0 q3
  have HWW : Hid (w1 = ((w.setCell ⟨gp, 4, none⟩ (.int .i64 0)).alloc (.cells #[.string ⟨#[]⟩, .string ⟨#[]⟩, .string ⟨#[]⟩, .int .i64 0, .int .i64 0, .slice none 0 0, .int .i64 0] 56))) := Lib.hid (by rw [hw1, hw0])
  clear kq kx ks kn hRR hb2 hn2 hn1 h1 hg1 hgs hps hw1 hw0 hb1 hl0 hl1 hl2 hnn hS1 hS2 ht hS3 hS4 hat hme hdd hqq h ho hcur hi0 hss hE
  go_enter Tryz.func61, Tryz.ntmps61
  go_wp2_with fail
  rw [← HWW.out]
  (with_reducible refine kn2.mono ?_)
  rintro e w3 ⟨rfl, hp, hg⟩
  have hs3 : w.heap.size + 2 ≤ w3.heap.size := by rw [← ha2]; exact hg.size
  have hrow3 := (hg.block (w.heap.size + 1) (by omega) (by intro e; injection e with e; omega)).trans HN2.out
  have f30 := frozen_of_row w3 (w.heap.size + 1) 0 _ _ hrow3
  have c30 := cell_of_row w3 (w.heap.size + 1) 0 _ _ _ hrow3
  have HSET4 := Lib.hid (heap_setCell_same w3 (w.heap.size + 1) 0 _ _ (.string nn) hrow3)
  have hoth4 : ∀ k, k ≠ (w.heap.size + 1) → (w3.setCell ⟨w.heap.size + 1, 0, none⟩ (.string nn)).heap[k]? = w3.heap[k]? := fun k hk => heap_setCell_other w3 ⟨w.heap.size + 1, 0, none⟩ k _ hk
  have HP4 := Lib.hid (hp.keep (w' := (w3.setCell ⟨w.heap.size + 1, 0, none⟩ (.string nn))) (hoth4 gp (by omega)) (hoth4 gw (by omega)) (by simp))
  have HG4 := Lib.hid (gb_setCell (gb_trans G2.out hg) (w.heap.size + 1) 0 (by omega) (.string nn))
  have hs4 : (w3.setCell ⟨w.heap.size + 1, 0, none⟩ (.string nn)).heap.size = w3.heap.size := by simp
  have LR4 := Lib.hid ((hoth4 w.heap.size (by omega)).trans ((hg.block w.heap.size (by omega) (by intro e; injection e with e; omega)).trans LR2.out))
  have kq4 := KQ.out _ HP4.out
  clear hp hg hrow3 hoth4 kn2 LR2 KQ p0 q3 p4 f4
  go_wp2_with fail
  (with_reducible refine kq4.mono ?_)
  rintro e w5 ⟨rfl, hp, hg⟩
  have hs5 : w3.heap.size ≤ w5.heap.size := by rw [← hs4]; exact hg.size
  have kx5 := KX.out _ hp
  have LR5 := Lib.hid ((hg.block w.heap.size (by omega) (by intro e; injection e with e; omega)).trans LR4.out)
  have HS5 := Lib.hid ((hg.block (w.heap.size + 1) (by omega) (by intro e; injection e with e; omega)).trans HSET4.out)
  have HG5 := Lib.hid (gb_trans HG4.out hg)
  clear hp hg kq4 LR4 HSET4 HP4 HG4
  go_wp2_with fail
  (with_reducible refine kx5.mono ?_)
  rintro e w6 ⟨o1, m1, n1, a1, x1, l1, c1, rfl, hi, hp, hg⟩
  unfold exV
  have hs6 : w5.heap.size ≤ w6.heap.size := hg.size
  have hrow6 := (hg.block (w.heap.size + 1) (by omega) (by intro e; injection e with e; omega)).trans HS5.out
  have hbb : w.heap.size + 1 < w5.heap.size := by omega
  have lr6 := (hg.block w.heap.size (by omega) (by intro e; injection e with e; omega)).trans LR5.out
  have hg6 := gb_trans HG5.out hg
  have hb1 : w.heap.size < w.heap.size + 1 := Nat.lt_succ_self _
  obtain ⟨w7, hw7⟩ : ∃ w7, w7 = (w6.setCells (w.heap.size + 1) 1 [.string o1, .string m1, .int .i64 n1, .int .i64 a1, .slice x1 l1 c1]) := ⟨_, rfl⟩
  have hf7 := eq_put hw7 hgp hgw hb1 hbb hs6 hrow6 hp hg6 hi lr6
  obtain ⟨hth7, hset7, hp7, hg7, hi7, lr7, hs7⟩ := hf7
  have ks7 := KS.out _ hp7
  have HW7 : Hid (w6.setCells (w.heap.size + 1) 1 (#[.string o1, .string m1, .int .i64 n1, .int .i64 a1, .slice x1 l1 c1]).toList = w7) := Lib.hid hw7.symm
  have HTH := Lib.hid hth7
  have LR7 := Lib.hid lr7
  have HS7 := Lib.hid hset7
  have HG7 := Lib.hid hg7
  have HI7 := Lib.hid hi7
  clear hi hp hg hg6 lr6 hb1 hrow6 hset7 hth7 hp7 hg7 hi7 lr7 kx5 LR5 HS5 HG5 KX KS hw7
  go_wp2_with (refine wpList_store_mid rfl 54 (.tmp 22) (.tmp 21) rfl (w.heap.size + 1) 1 #[.string o1, .string m1, .int .i64 n1, .int .i64 a1, .slice x1 l1 c1] rfl rfl HTH.out HSE.out (expr_one _ _ _ _ _ _ _) ?_
               rw [HW7.out])
  (with_reducible refine ks7.mono ?_)
  rintro e w8 ⟨rfl, hp, hg⟩
  have hs8 : w6.heap.size ≤ w8.heap.size := by rw [← hs7]; exact hg.size
  have LR8 := Lib.hid ((hg.block w.heap.size (by omega) (by intro e; injection e with e; omega)).trans LR7.out)
  have HS8 := Lib.hid ((hg.block (w.heap.size + 1) (by omega) (by intro e; injection e with e; omega)).trans HS7.out)
  have HG8 := Lib.hid (gb_trans HG7.out hg)
  have HI8 := Lib.hid (HI7.out.grown hg (by omega))
  have HP8 := Lib.hid hp
  clear hp hg ks7 LR7 HS7 HG7 HI7 HTH
  go_wp2_with (first | (refine wpList_load_row rfl 56 (.tmp 3) rfl (w.heap.size + 1) rfl 56 #[.string nn, .string o1, .string m1, .int .i64 n1, .int .i64 a1, .slice x1 l1 c1, .int .i64 (at0 : Int)] (0, 0) _ HS8.out Tryz.underlying56 rfl HSQ.out ?_) | (refine wpList_store_row rfl 56 (.tmp 2) (.tmp 25) rfl w.heap.size #[.string nn, .string o1, .string m1, .int .i64 n1, .int .i64 a1, .slice x1 l1 c1, .int .i64 (at0 : Int)] rfl rfl 56 _ LR8.out HSQ.out rfl (eq_one _ _ _ _ _ _ _ _ _) ?_))
  have hset := setRow_heap w8 w.heap.size _ #[.string nn, .string o1, .string m1, .int .i64 n1, .int .i64 a1, .slice x1 l1 c1, .int .i64 (at0 : Int)] _ _ LR8.out
  refine bodyPost_ret (v := .agg #[.string nn, .string o1, .string m1, .int .i64 n1, .int .i64 a1, .slice x1 l1 c1, .int .i64 (at0 : Int)]) (results_cell_row (p := 2) (ty := 56) rfl _ _ w.heap.size 56 _ (0, 0) _ rfl hset Tryz.underlying56 rfl HSQ.out) rfl ?_
  rw [HRR.out]
  refine ⟨o1, m1, n1, a1, x1, l1, c1, rfl, ?_, HP8.out.keep (setRow_other w8 w.heap.size gp _ (by omega)) (setRow_other w8 w.heap.size gw _ (by omega)) (by rw [setRow_size]; exact Nat.le_refl _), gb_setRow HG8.out _ (Nat.le_refl _) _⟩
  exact IsP.toE (fun k hk => by omega) _ (HI8.out.keep (ok' := fun k => w.heap.size + 1 < k) (by rw [setRow_size]; exact Nat.le_refl _) (fun k h1 h2 => setRow_other w8 w.heap.size k _ (by omega)) (fun _ h _ => h) _)
end Go.Proofs.YtjlnihennlkmpaaGreatDoor

namespace Go.Proofs.YtjlnihennlkmpaaGreatDoor
open Go Go.RowKit
def rowQ (q : ByteArray) (o m : ByteArray) (n a : Int) (x : Option Addr) (l c : Nat) (b : Int) : List Value := [.string q, .string o, .string m, .int .i64 n, .int .i64 a, .slice x l c, .int .i64 b]
def RowsQ (ok : Nat → Prop) (w : World) : List Value → List Qe → Prop
  | xs, [] => xs = []
  | xs, q :: r => ∃ o m n a x l c ys, xs = rowQ q.name o m n a x l c (q.at_ : Int) ++ ys ∧ IsP ok w o m n a x l c q.e ∧ RowsQ ok w ys r
theorem RowsQ.keep {ok ok' : Nat → Prop} {w w' : World} (hs : w.heap.size ≤ w'.heap.size) (hb : ∀ k, ok k → k < w.heap.size → w'.heap[k]? = w.heap[k]?) (ho : ∀ k, ok k → k < w.heap.size → ok' k) : ∀ (es : List Qe) (xs : List Value), RowsQ ok w xs es → RowsQ ok' w' xs es
  | [], _, h => h
  | e :: r, xs, ⟨o, m, n, a, x, l, c, ys, h1, h2, h3⟩ => ⟨o, m, n, a, x, l, c, ys, h1, h2.keep hs hb ho e.e, RowsQ.keep hs hb ho r ys h3⟩
theorem RowsQ.snoc {ok : Nat → Prop} {w : World} {o m : ByteArray} {n a : Int} {x : Option Addr} {l c : Nat} {t : Qe} (ht : IsP ok w o m n a x l c t.e) : ∀ (es : List Qe) (xs : List Value), RowsQ ok w xs es → RowsQ ok w (xs ++ rowQ t.name o m n a x l c (t.at_ : Int)) (es ++ [t])
  | [], xs, h => ⟨o, m, n, a, x, l, c, [], by rw [show xs = [] from h]; simp, ht, rfl⟩
  | e :: r, xs, ⟨o1, m1, n1, a1, x1, l1, c1, ys, h1, h2, h3⟩ => ⟨o1, m1, n1, a1, x1, l1, c1, ys ++ rowQ t.name o m n a x l c (t.at_ : Int), by rw [h1, List.append_assoc], h2, RowsQ.snoc ht r ys h3⟩
def OwnQ (w : World) (b : Nat) (v : Value) (es : List Qe) : Prop := ∃ xs, w.ownsRow (b + 1) 56 7 v es.length xs ∧ RowsQ (fun k => b < k ∧ some k ≠ v.ownBlock) w xs es
theorem OwnQ.gt {w : World} {b : Nat} {v : Value} {es : List Qe} (h : OwnQ w b v es) : ∀ k, v.ownBlock = some k → b < k ∧ k < w.heap.size := fun k hk => by
  obtain ⟨xs, h1, _⟩ := h
  have := h1.lt k hk
  exact ⟨by omega, this.2⟩
theorem OwnQ.kept {w w' : World} {b : Nat} {v : Value} {es : List Qe} {row : Option Nat} (h : OwnQ w b v es) (hg : w.grownBy w' row) (hr : ∀ k, row = some k → k ≤ b) : OwnQ w' b v es := by
  obtain ⟨xs, h1, h2⟩ := h
  refine ⟨xs, h1.kept hg ?_, h2.keep hg.size (fun k hk hl => hg.block k hl (fun e => by have := hr k e.symm; omega)) (fun _ h _ => h)⟩
  cases ho : v.ownBlock with
  | none => exact .inl rfl
  | some k =>
    refine .inr fun e => ?_
    have := (h1.lt k ho).1
    have := hr k e.symm
    omega
theorem OwnQ.below {w w' : World} {b : Nat} {v : Value} {es : List Qe} (h : OwnQ w b v es) (hb : Below w.heap.size w w') : OwnQ w' b v es := h.kept (gb_below (r := none) hb) (fun k hk => by simp at hk)
theorem OwnQ.nil (w : World) (b : Nat) : OwnQ w b (.slice none 0 0) [] := ⟨[], World.ownsRow_nil w _ _ _, rfl⟩
theorem info_eq7 : ∃ i, Tryz.prog.info? 56 = some i ∧ (∃ z, i.zero = some z ∧ z.cells.size = 7) ∧ i.size = 7 ∧ i.bytes = 96 := by
  have h : (Tryz.prog.info? 56).map (fun i => (i.zero.map (·.cells.size), i.size, i.bytes)) = some (some 7, 7, 96) := by kernel_rfl
  cases hi : Tryz.prog.info? 56 with
  | none => rw [hi] at h; simp at h
  | some i =>
    rw [hi] at h
    simp only [Option.map_some, Option.some.injEq, Prod.mk.injEq] at h
    obtain ⟨hz, hs, hb⟩ := h
    cases hzz : i.zero with
    | none => rw [hzz] at hz; simp at hz
    | some z => exact ⟨i, rfl, ⟨z, hzz, by rw [hzz] at hz; simpa using hz⟩, hs, hb⟩
/-- A slice of one equation. -/
def wSq (B : Nat) (t : Qe) (v : Value) (W : World) : Prop := ∃ g, v = .slice (some ⟨g, 0, none⟩) 1 1 ∧ B ≤ g ∧ g < W.heap.size ∧ ∃ o m n a x l c, W.heap[g]? = some (.cells (rowQ t.name o m n a x l c (t.at_ : Int)).toArray 56 (0, 0)) ∧ IsE B W o m n a x l c t.e
def wQe (B : Nat) (t : Qe) (v : Value) (W : World) : Prop := ∃ o m n a x l c, v = .agg (rowQ t.name o m n a x l c (t.at_ : Int)).toArray ∧ IsE B W o m n a x l c t.e
theorem wQe_own {B : Nat} {t : Qe} {v : Value} {W W' : World} {row : Option Nat} (h : wQe B t v W) (hg : W.grownBy W' row) (hr : ∀ k, row = some k → k < B) : wQe B t v W' := by
  obtain ⟨o, m, n, a, x, l, cc, h1, h2⟩ := h
  exact ⟨o, m, n, a, x, l, cc, h1, h2.keep hg.size (fun k hk hl => hg.block k hl (fun e => by have := hr k e.symm; omega)) _⟩
theorem wSq_own {B : Nat} {t : Qe} {v : Value} {W W' : World} {row : Option Nat} (h : wSq B t v W) (hg : W.grownBy W' row) (hr : ∀ k, row = some k → k < B) : wSq B t v W' := by
  obtain ⟨g, h1, h2, h3, o, m, n, a, x, l, c, h4, h5⟩ := h
  exact ⟨g, h1, h2, Nat.lt_of_lt_of_le h3 hg.size, o, m, n, a, x, l, c, (hg.block g h3 (fun e => by have := hr g e.symm; omega)).trans h4, h5.keep hg.size (fun k hk hl => hg.block k hl (fun e => by have := hr k e.symm; omega)) _⟩
theorem slice_q (q o m : ByteArray) (n a : Int) (x : Option Addr) (l c : Nat) (b : Int) (W : World) : (Instr.buildSlice 39 1 #[(0, .agg #[.string q, .string o, .string m, .int .i64 n, .int .i64 a, .slice x l c, .int .i64 b])]).run Tryz.prog W = .ok (.slice (some ⟨W.heap.size, 0, none⟩) 1 1) (W.alloc (.cells #[.string q, .string o, .string m, .int .i64 n, .int .i64 a, .slice x l c, .int .i64 b] 56)) := by kernel_rfl
theorem wSq_new {B : Nat} {t : Qe} {o m : ByteArray} {n a : Int} {x : Option Addr} {l c : Nat} {W : World} (hB : B ≤ W.heap.size) (h : IsE B W o m n a x l c t.e) : wSq B t (.slice (some ⟨W.heap.size, 0, none⟩) 1 1) (W.alloc (.cells (rowQ t.name o m n a x l c (t.at_ : Int)).toArray 56)) :=
  ⟨_, rfl, hB, by simp, o, m, n, a, x, l, c, heap_alloc_new W _, h.below ((Below.refl _ _).alloc (Nat.le_refl _) _)⟩
theorem rowQ_one (q o m : ByteArray) (n a : Int) (x : Option Addr) (l c : Nat) (b : Int) : ∀ u ∈ rowQ q o m n a x l c b, u.oneCell' = true := fun u hu => by
  simp only [rowQ, List.mem_cons, List.not_mem_nil, or_false] at hu
  rcases hu with rfl | rfl | rfl | rfl | rfl | rfl | rfl <;> rfl
theorem own_appendq {w : World} {b B : Nat} {v : Value} {es : List Qe} {t : Qe} {u : Value} (ty : TypeId) (h : OwnQ w b v es) (hbw : b + 1 ≤ w.heap.size) (hu : wSq B t u w) (hB : b < B) (hbo : ∀ k, v.ownBlock = some k → k < B) (hn : es.length < 1000000) :
    ∃ v' w', (Builtin.append_ #[39, 39] ty #[v, u]).run Tryz.prog w = .ok v' w' ∧ OwnQ w' b v' (es ++ [t]) ∧ w.grownBy w' v.ownBlock := by
  obtain ⟨xs, h1, h2⟩ := h
  obtain ⟨g, rfl, hg1, hg2, o, m, n, a, x, l, c, hgr, he⟩ := hu
  obtain ⟨i, hi, ⟨z, hz, hzs⟩, hs, hb⟩ := info_eq7
  have hnews : ∀ j q, (rowQ t.name o m n a x l c (t.at_ : Int))[j]? = some q → w.cell? ((⟨g, 0, none⟩ : Addr).add j) = some q := fun j q hq => by
    rw [Addr.add_lit, Nat.zero_add, cell_of_row w g j _ _ _ hgr, ← hq]
    simp
  have hone := rowQ_one t.name o m n a x l c (t.at_ : Int)
  have hbytes : (es.length + 1) * 96 ≤ 140737488355328 := by omega
  have h63 : es.length + 1 ≤ maxLen := by unfold maxLen; omega
  obtain ⟨v', w', hr, ho, hgw, _, hown⟩ := run_append_own_at w (b + 1) 39 ty 56 i z 7 96 Tryz.underlying39 hi hz hs hb hzs (by decide) v es.length xs h1 ⟨g, 0, none⟩ 1 1 (rowQ t.name o m n a x l c (t.at_ : Int)) rfl hnews hone h63 hbytes hbw
  refine ⟨v', w', hr, ⟨xs ++ rowQ t.name o m n a x l c (t.at_ : Int), by rw [List.length_append, List.length_singleton]; exact ho, ?_⟩, hgw⟩
  have hne : ∀ k, v'.ownBlock = some k → k < w.heap.size → v.ownBlock = some k := fun k hk hl => by
    rcases hown with e | e
    · rw [← e]; exact hk
    · exact absurd hl (by rw [← Option.some.inj (e.symm.trans hk)]; exact Nat.lt_irrefl _)
  refine RowsQ.snoc ?_ _ _ (h2.keep hgw.size (fun k hk hl => hgw.block k hl hk.2) (fun k hk hl => ⟨hk.1, fun e => hk.2 (hne k e.symm hl).symm⟩))
  exact (IsE.toP (ok := fun k => B ≤ k) (fun k h1 _ => h1) _ he).keep hgw.size (fun k hk hl => hgw.block k hl (fun e => by have := hbo k e.symm; omega)) (fun k hk hl => ⟨by omega, fun e => by have := hbo k (hne k e.symm hl); omega⟩) _
theorem run_stq {o : Oper} {ρ : Operand → Value} {x y : Operand} {a : Addr} {v0 : Value} {z : Option Addr} {l k : Nat} {W : World} (ho : o.op = .store 39 x y) (hx : ρ x = .pointer (some a)) (hy : ρ y = .slice z l k) (hc : W.cell? a = some v0) (hf : W.frozen? a = false) :
    (execOp ρ o).run Tryz.prog W = .ok .skip (W.setCell a (.slice z l k)) := by
  have hsz : (Tryz.prog.info? 39).map (·.size) = some 1 := by kernel_rfl
  cases hi : Tryz.prog.info? 39 with
  | none => simp [hi] at hsz
  | some i =>
    simp [hi] at hsz
    simp [execOp, ho, hx, hy, Instr.storeAt, hc, hf, sizeOf, typeInfo, hi, hsz, Result.andThen, go_sem, isAgg, run_underlying Tryz.underlying39]
theorem run_ldq {o : Oper} {ρ : Operand → Value} {x : Operand} {a : Addr} {V : Value} {W : World} (ho : o.op = .load 39 x) (hx : ρ x = .pointer (some a)) (hc : W.cell? a = some V) : (execOp ρ o).run Tryz.prog W = .ok (.value V) W := by
  have hsz : (Tryz.prog.info? 39).map (·.size) = some 1 := by kernel_rfl
  cases hi : Tryz.prog.info? 39 with
  | none => simp [hi] at hsz
  | some i =>
    simp [hi] at hsz
    simp [execOp, ho, hx, Instr.loadAt, hc, sizeOf, typeInfo, hi, hsz, Result.andThen, go_sem, isAgg, run_underlying Tryz.underlying39]
theorem fa_node4 (g : Nat) (W : World) : (Instr.fieldAt 41 (.pointer (some ⟨g, 0, none⟩)) 4).run Tryz.prog W = .ok (.pointer (some ⟨g, 4, none⟩)) W := by kernel_rfl
theorem ownq_slice {w : World} {b : Nat} {v : Value} {es : List Qe} (h : OwnQ w b v es) : ∃ x c, v = .slice x es.length c := by
  obtain ⟨xs, h1, _⟩ := h
  rcases h1.2 with ⟨rfl, h0⟩ | ⟨g, cap, cur, rfl, _⟩
  · exact ⟨none, 0, by rw [h0]⟩
  · exact ⟨_, cap, rfl⟩
def FQ (L : List Wd) (gp gw c : Nat) (S : St) (b : Nat) (V : Value) (es : List Qe) (B : Nat) (kx ka : Nat) (i : Nat) (W : World) : Prop :=
  (i = kx → Par L W gp gw c S) ∧ (i = ka → OwnQ W b V es ∧ B ≤ W.heap.size)
theorem FQ.keep {L : List Wd} {gp gw c : Nat} {S : St} {b : Nat} {V : Value} {es : List Qe} {B kx ka : Nat} (hka : kx ≠ ka) (hgp : gp ≤ b) (hV : ∀ k, V.ownBlock = some k → k ≠ gp ∧ k ≠ gw) (i j : Nat) (W W' : World) (hne : j ≠ i) (h : FQ L gp gw c S b V es B kx ka j W) (hr : RK gp V kx ka i W W') : FQ L gp gw c S b V es B kx ka j W' := by
  refine ⟨fun e => ?_, fun e => ?_⟩
  · have h1 := h.1 e
    unfold RK at hr
    rw [if_neg (by rw [← e]; exact Ne.symm hne)] at hr
    split at hr
    · exact h1.own hr hV
    · exact h1.below hr
  · obtain ⟨h1, h2⟩ := h.2 e
    refine ⟨?_, Nat.le_trans h2 hr.rel.size⟩
    unfold RK at hr
    split at hr
    · exact h1.kept hr (fun k hk => by injection hk with hk; omega)
    · rw [if_neg (by rw [← e]; exact Ne.symm hne)] at hr
      exact h1.below hr
theorem FQ.start {L : List Wd} {gp gw c : Nat} {S : St} {b : Nat} {V : Value} {es : List Qe} {B kx ka : Nat} {W : World} (h1 : Par L W gp gw c S) (h2 : OwnQ W b V es) (h3 : B ≤ W.heap.size) (i : Nat) : FQ L gp gw c S b V es B kx ka i W.drew := by
  have hd : Below W.heap.size W W.drew := (Below.refl _ _).drew
  exact ⟨fun _ => h1.below hd, fun _ => ⟨h2.below hd, h3⟩⟩
end Go.Proofs.YtjlnihennlkmpaaGreatDoor

namespace Go.Proofs.YtjlnihennlkmpaaGreatDoor
open Go Go.RowKit
set_option maxHeartbeats 4000000 in
set_option maxRecDepth 100000 in
theorem decls_any (L : List Wd) (hE : GoodE L) (w : World) (gp gw c : Nat) (st : St) (h : Par L w gp gw c st) (ho : Ok L st) (q : Nat) (hq : q ≤ 50) (hn : st.names ≤ st.i + q) :
    Calls Tryz.prog 57 #[.pointer (some ⟨gp, 0, none⟩)] w (GivesV L gp gw c (declsS L st).1 (declsS L st).2 w) := by
  have hG := hE.good
  have hfew := hE.few
  have hlt := h.lt
  have hgp := h.gpl
  have hgw := h.gwl
  have ka : Calls Tryz.prog 55 #[.pointer (some ⟨gp, 0, none⟩), .string ⟨#[40]⟩] w (GivesU L gp gw c (needS L (bs [40]) st) w) := need_any L hG (bs [40]) w gp gw c st h
  have hl0 := l_need hE (bs [40]) hlt ho
  have hn0 := needS_names L (bs [40]) st
  obtain ⟨RR, hRR⟩ : ∃ R, R = declsS L st := ⟨_, rfl⟩
  rw [← hRR]
  unfold declsS at hRR
  obtain ⟨S0, hS0⟩ : ∃ R, R = needS L (bs [40]) st := ⟨_, rfl⟩
  simp only [← hS0] at hRR ka
  rw [← hS0] at hl0 hn0
  have hl0i := hl0.1
  have kis : ∀ W, Par L W gp gw c S0 → Calls Tryz.prog 30 #[.pointer (some ⟨gp, 0, none⟩), .string ⟨#[41]⟩] W fun e w' => e = .returned (.bool (isS L (bs [41]) S0)) ∧ w' = W := fun W hp => is_any L (bs [41]) W gp gw c S0 hp
  have kne : ∀ W S, Par L W gp gw c S → Calls Tryz.prog 55 #[.pointer (some ⟨gp, 0, none⟩), .string ⟨#[41]⟩] W (GivesU L gp gw c (needS L (bs [41]) S) W) := fun W S hp => need_any L hG (bs [41]) W gp gw c S hp
  unfold declsB at hRR
  obtain ⟨b, hb'⟩ : ∃ b, b = isS L (bs [41]) S0 := ⟨_, rfl⟩
  simp only [← hb'] at hRR kis
  have kd := fun W (hp : Par L W gp gw c S0) => decl_any L hE W gp gw c S0 hp hl0.2.2 q (by omega) (by omega)
  have hok1 := (declS_later hE q hl0.2.1 hl0.2.2 (by omega)).1
  have hlen1 := declS_len hE S0
  have hpos : ∀ S, 0 < (declS L S).1.length := fun S => declN_pos L S
  obtain ⟨vs1, hvs1⟩ : ∃ R, R = (declS L S0).1 := ⟨_, rfl⟩
  obtain ⟨S1, hS1⟩ : ∃ R, R = (declS L S0).2 := ⟨_, rfl⟩
  simp only [← hvs1, ← hS1] at hRR kd
  rw [← hS1] at hok1
  rw [← hvs1] at hlen1
  have hlt1 := hok1.1.2.1
  obtain ⟨RN, hRN⟩ : ∃ R, R = (vs1 ++ (declsL L L.length S1).1, (declsL L L.length S1).2) := ⟨_, rfl⟩
  have hRR2 : RR = if b = true then ([], needS L (bs [41]) S0) else (RN.1, needS L (bs [41]) RN.2) := by
    rw [hRR, hRN]
    cases b <;> simp
  have HRR := Lib.hid hRR2
  have HRN := Lib.hid hRN
  have KIS := Lib.hid kis
  have KNE := Lib.hid kne
  have KD := Lib.hid kd
  have HE := Lib.hid hE
  have HPS := Lib.hid hpos
  have HOK1 : Hid (Ok L S1 ∧ S1.names ≤ S1.i + (q + 1)) := Lib.hid ⟨hok1.1.2.2, hok1.2⟩
  clear hRR hRR2 hRN kis kne kd hE hpos hok1 hl0 hS0 hb' hvs1 hS1 h ho hn0 hl0i
  go_enter Tryz.func57, Tryz.ntmps57
  go_wp2_with fail
  (with_reducible refine ka.mono ?_)
  rintro e w1 ⟨rfl, hp, hg⟩
  have ki1 := KIS.out _ hp
  have HP1 := Lib.hid hp
  have HG1 := Lib.hid hg
  clear hp hg ka KIS
  go_wp2_with fail
  (with_reducible refine ki1.mono ?_)
  rintro e w' ⟨rfl, hw'⟩
  rw [hw']
  clear hw' w' ki1
  cases b
  · have kd1 := KD.out _ HP1.out
    clear KD
    go_wp2_with fail
    (with_reducible refine kd1.mono ?_)
    rintro e w3 ⟨V1, rfl, hown, hp, hg⟩
    have HV1 : Hid (VInv L w gp gw c w3 V1 vs1 S1) := Lib.hid ⟨hp, gb_trans HG1.out hg, own_weaken' hown HG1.out.size⟩
    clear hown hp hg kd1 HP1 HG1
    go_wp2_with fail
    go_loopw [3] (fun v wr => ∃ (V : Value) (k : Nat) (vs : List Vr) (S : St), V = v ∧ vs ++ (declsL L k S).1 = RN.1 ∧ (declsL L k S).2 = RN.2 ∧ L.length ≤ k + S.i ∧ Ok L S ∧ S.names ≤ S.i + (q + 1) ∧ vs.length ≤ (S.i + 1) * 100001 ∧ VInv L w gp gw c wr V vs S)
      (fun _ wr => leftOf gp wr)
    case atStart => exact ⟨_, L.length, vs1, S1, rfl, by rw [HRN.out], by rw [HRN.out], by omega, HOK1.out.1, HOK1.out.2, by omega, HV1.out⟩
    case round =>
      obtain ⟨V, k, vs, S, hV, hR1, hR2, hfk, hok, hnn, hvl, hvi⟩ := hrel
      subst hV
      have hltS := hvi.par.lt
      have hleft := leftOf_par hvi.par
      have ktc : Calls Tryz.prog 58 #[.pointer (some ⟨gp, 0, none⟩), .string ⟨#[59]⟩] wr (Gives1 L gp gw c (.bool (takeS L (bs [59]) S).1) (takeS L (bs [59]) S).2 wr) := take_any L hG (bs [59]) wr gp gw c S hvi.par
      unfold takeS at ktc
      have hstop := declsL_stop L k S
      have hgo : isS L (bs [59]) S = true → ∃ k', k = k' + 1 ∧ declsL L k S = ((declS L (nextS L S)).1 ++ (declsL L k' (declS L (nextS L S)).2).1, (declsL L k' (declS L (nextS L S)).2).2) ∧ L.length ≤ k' + (declS L (nextS L S)).2.i ∧ Ok L (declS L (nextS L S)).2 ∧ S.i + 1 ≤ (declS L (nextS L S)).2.i ∧ (declS L (nextS L S)).2.names ≤ (declS L (nextS L S)).2.i + (q + 1) ∧ Ok L (nextS L S) ∧ (nextS L S).names ≤ (nextS L S).i + q := fun hb => by
        have h1 := nextS_lt (kind_of_is HE.out hltS (s := (bs [59])) (by simp [bs]) hb)
        have h2 := l_next HE.out hltS hok
        have h4 := nextS_names L S
        have h3 := (declS_later HE.out q h2.2.1 h2.2.2 (by omega)).1
        have h5 := h3.1.1
        obtain ⟨k', rfl⟩ : ∃ k', k = k' + 1 := ⟨k - 1, by omega⟩
        exact ⟨k', rfl, declsL_go L k' S hb, by omega, h3.1.2.2, by omega, h3.2, h2.2.2, by omega⟩
      have kds := fun W (hp : Par L W gp gw c (nextS L S)) (ho : Ok L (nextS L S)) (hn : (nextS L S).names ≤ (nextS L S).i + q) => decl_any L HE.out W gp gw c (nextS L S) hp ho q (by omega) hn
      obtain ⟨b3, hb3'⟩ : ∃ b, b = isS L (bs [59]) S := ⟨_, rfl⟩
      rw [← hb3'] at hgo hstop
      simp only [← hb3'] at ktc
      obtain ⟨N, hN⟩ : ∃ N, N = nextS L S := ⟨_, rfl⟩
      rw [← hN] at hgo
      simp only [← hN] at ktc kds
      have hvl2 := declS_len HE.out N
      have hpv := HPS.out N
      obtain ⟨v2, hv2⟩ : ∃ v, v = (declS L N).1 := ⟨_, rfl⟩
      obtain ⟨T2, hT2⟩ : ∃ v, v = (declS L N).2 := ⟨_, rfl⟩
      rw [← hv2, ← hT2] at hgo
      simp only [← hv2, ← hT2] at kds
      rw [← hv2] at hvl2 hpv
      have HPV2 := Lib.hid hpv
      clear hpv
      have HR1 := Lib.hid hR1
      have HR2 := Lib.hid hR2
      have HGO := Lib.hid hgo
      have HST := Lib.hid hstop
      have HLF := Lib.hid hleft
      have KDS := Lib.hid kds
      have HVI := Lib.hid hvi
      clear hR1 hR2 hgo hstop hleft kds hb3' hv2 hT2 hvi HV1 hN
      cases b3
      · have e1 := HR1.out
        have e2 := HR2.out
        rw [HST.out rfl] at e1 e2
        simp only [List.append_nil] at e1 e2
        have HE1 := Lib.hid e1
        have HE2 := Lib.hid e2
        clear e1 e2 HR1 HR2 HGO HST KDS
        go_wp2_with fail
        (with_reducible refine ktc.mono ?_)
        rintro e w5 ⟨rfl, hp, hg⟩
        have HV5 := Lib.hid (VInv.step hgp HVI.out hg hp)
        clear hp hg ktc HVI
        have kf := KNE.out _ S HV5.out.par
        go_wp2_with fail
        (with_reducible refine kf.mono ?_)
        rintro e w9 ⟨rfl, hp, hg⟩
        have HV9 := Lib.hid (VInv.step hgp HV5.out hg hp)
        have HEQ : Hid (RR = (vs, needS L (bs [41]) S)) := Lib.hid (by rw [HRR.out, HE1.out, HE2.out]; simp)
        clear hp hg kf
        go_wp2_with fail
        go_ret
        rw [HEQ.out]
        exact ⟨V, rfl, HV9.out.own, HV9.out.par, HV9.out.gb⟩
      · obtain ⟨k', hk', hdl, hl1, hok2, hl3, hl4, hok3, hl5⟩ := HGO.out rfl
        have HEQ1 : Hid ((vs ++ v2) ++ (declsL L k' T2).1 = RN.1) := Lib.hid (by rw [← HR1.out, hdl]; simp)
        have HEQ2 : Hid ((declsL L k' T2).2 = RN.2) := Lib.hid (by rw [← HR2.out, hdl])
        clear HR1 HR2 HGO HST hdl hk'
        obtain ⟨i0, hi0, ⟨z0, hz0, hz2⟩, hz1, hzb⟩ := info_var5
        have HZ2 := Lib.hid hz2
        go_wp2_with fail
        (with_reducible refine ktc.mono ?_)
        rintro e w5 ⟨rfl, hp, hg⟩
        have HV5 := Lib.hid (VInv.step hgp HVI.out hg hp)
        clear hp hg ktc HVI
        have kd5 := KDS.out _ HV5.out.par hok3 hl5
        clear KDS
        go_wp2_with fail
        (with_reducible refine kd5.mono ?_)
        rintro e w6 ⟨v6, rfl, hown6, hp, hg⟩
        have hpos6 : v2.length = 0 ∨ 0 < v2.length := by omega
        have HV6 := Lib.hid (VInv.step hgp HV5.out hg hp)
        have hpv2 : 0 < v2.length := HPV2.out
        obtain ⟨g6, cap6, rfl, hgb6, hgs6⟩ := own_slice hown6 hpv2
        have HNW := Lib.hid (fun j u (hu : (varsC v2)[j]? = some u) => hown6.cells (g := g6) rfl j u hu)
        have HLN : Hid ((varsC v2).length = v2.length * 5) := Lib.hid (varsC_length v2)
        have H63 : Hid (vs.length + v2.length ≤ maxLen) := Lib.hid (by unfold maxLen; omega)
        have HBY : Hid ((vs.length + v2.length) * 56 ≤ 140737488355328) := Lib.hid (by omega)
        have HBS : Hid (w.heap.size ≤ w6.heap.size) := Lib.hid HV6.out.gb.size
        obtain ⟨m2, hm2⟩ : ∃ m, m = v2.length := ⟨_, rfl⟩
        have HM2 := Lib.hid hm2
        rw [← hm2] at HLN H63 HBY ⊢
        clear hown6 hp hg kd5 HV5 hm2 hpos6 hpv2
        go_wp2_with (at_builtin
                     refine wpList_append_own _ rfl (.tmp 13) (.tmp 15) 38 rfl w.heap.size 88 i0 _ 5 56 Tryz.underlying38 hi0 hz0 hz1 hzb HZ2.out (by decide) V vs.length (varsC vs) rfl HV6.out.own ⟨g6, 0, none⟩ m2 cap6 (varsC v2) rfl HLN.out HNW.out (vars_one v2) H63.out HBY.out HBS.out ?_
                     intro v8 w8 hown8 hg8 _
                     have HO8 := Lib.hid hown8
                     have HGG := Lib.hid hg8
                     clear hown8 hg8)
        have HV8 := Lib.hid (VInv.put (v2 := v2) hgp hgw HV6.out HGG.out (by rw [← HM2.out]; exact HO8.out))
        have hl2 : (vs ++ v2).length ≤ (T2.i + 1) * 100001 := by rw [List.length_append]; omega
        refine ⟨⟨_, k', vs ++ v2, T2, rfl, HEQ1.out, HEQ2.out, hl1, hok2, hl4, hl2, HV8.out⟩, ?_⟩
        rw [leftOf_par HV8.out.par, HLF.out]
        have := HV8.out.par.lt
        omega
  · have HV1 : Hid (VInv L w gp gw c w1 (.slice none 0 0) [] S0) := Lib.hid ⟨HP1.out, HG1.out, World.ownsRow_nil _ _ _ _⟩
    have kf := KNE.out _ S0 HV1.out.par
    go_wp2_with fail
    (with_reducible refine kf.mono ?_)
    rintro e w9 ⟨rfl, hp, hg⟩
    have HV9 := Lib.hid (VInv.step hgp HV1.out hg hp)
    have HEQ : Hid (RR = ([], needS L (bs [41]) S0)) := Lib.hid (by rw [HRR.out]; simp)
    clear hp hg kf
    go_wp2_with fail
    go_ret
    rw [HEQ.out]
    exact ⟨_, rfl, HV9.out.own, HV9.out.par, HV9.out.gb⟩
end Go.Proofs.YtjlnihennlkmpaaGreatDoor

namespace Go.Proofs.YtjlnihennlkmpaaGreatDoor
open Go Go.RowKit
set_option maxHeartbeats 4000000 in
set_option maxRecDepth 100000 in
theorem locals_any (L : List Wd) (hE : GoodE L) (w : World) (gp gw c : Nat) (st : St) (h : Par L w gp gw c st) (ho : Ok L st) (q : Nat) (hq : q ≤ 50) (hn : st.names ≤ st.i + q) :
    Calls Tryz.prog 59 #[.pointer (some ⟨gp, 0, none⟩)] w (GivesV L gp gw c (localsS L st).1 (localsS L st).2 w) := by
  have hG := hE.good
  have hfew := hE.few
  have hlt := h.lt
  have hgp := h.gpl
  have hgw := h.gwl
  have ka : Calls Tryz.prog 58 #[.pointer (some ⟨gp, 0, none⟩), .string ⟨#[59]⟩] w (Gives1 L gp gw c (.bool (takeS L (bs [59]) st).1) (takeS L (bs [59]) st).2 w) := take_any L hG (bs [59]) w gp gw c st h
  unfold takeS at ka
  obtain ⟨RR, hRR⟩ : ∃ R, R = localsS L st := ⟨_, rfl⟩
  rw [← hRR]
  unfold localsS at hRR
  obtain ⟨b, hb'⟩ : ∃ b, b = isS L (bs [59]) st := ⟨_, rfl⟩
  simp only [← hb'] at hRR ka
  have kd := fun W (hp : Par L W gp gw c st) => local_any L hE W gp gw c st hp ho q (by omega) hn
  have hok0 := (localS_later hE q hlt ho hn).1
  have hok1 := l_need hE (bs [59]) hok0.1.2.1 hok0.1.2.2
  have hok1n := needS_names L (bs [59]) (localS L st).2
  have hlen1 := localS_len hE st
  have kne : ∀ W, Par L W gp gw c (localS L st).2 → Calls Tryz.prog 55 #[.pointer (some ⟨gp, 0, none⟩), .string ⟨#[59]⟩] W (GivesU L gp gw c (needS L (bs [59]) (localS L st).2) W) := fun W hp => need_any L hG (bs [59]) W gp gw c _ hp
  have hpos : ∀ S, 0 < (localS L S).1.length := fun S => by
    have := declN_pos L S
    unfold localS
    simp only
    split
    · simpa using this
    · exact this
  have hOK1 : Ok L (needS L (bs [59]) (localS L st).2) ∧ (needS L (bs [59]) (localS L st).2).names ≤ (needS L (bs [59]) (localS L st).2).i + (q + 1) := ⟨hok1.2.2, by have := hok0.2; have := hok1.1; omega⟩
  have hlt1 := hok1.2.1
  obtain ⟨S1, hS1⟩ : ∃ R, R = needS L (bs [59]) (localS L st).2 := ⟨_, rfl⟩
  simp only [← hS1] at hRR kne
  rw [← hS1] at hOK1 hlt1
  obtain ⟨vs1, hvs1⟩ : ∃ R, R = (localS L st).1 := ⟨_, rfl⟩
  obtain ⟨S01, hS01⟩ : ∃ R, R = (localS L st).2 := ⟨_, rfl⟩
  simp only [← hvs1] at hRR
  simp only [← hvs1, ← hS01] at kd
  simp only [← hS01] at kne
  rw [← hvs1] at hlen1
  obtain ⟨RN, hRN⟩ : ∃ R, R = (vs1 ++ (localsL L L.length S1).1, (localsL L L.length S1).2) := ⟨_, rfl⟩
  rw [← hRN] at hRR
  have HRR0 := Lib.hid hRR
  have HRN := Lib.hid hRN
  have KNE := Lib.hid kne
  have KD := Lib.hid kd
  have HE := Lib.hid hE
  have HPS := Lib.hid hpos
  have HOK1 := Lib.hid hOK1
  have HP0 := Lib.hid h
  clear hRR hRN kne kd hE hpos hok1 hok0 hok1n hOK1 hb' hvs1 hS1 hS01 h ho
  go_enter Tryz.func59, Tryz.ntmps59
  go_wp2_with fail
  (with_reducible refine ka.mono ?_)
  rintro e w1 ⟨rfl, hp, hg⟩
  have HP1 := Lib.hid hp
  have HG1 := Lib.hid hg
  clear hp hg ka
  cases b
  · have HRR : Hid (RR = RN) := Lib.hid (by rw [HRR0.out]; simp)
    have kd1 := KD.out _ HP1.out
    clear KD HRR0
    go_wp2_with fail
    (with_reducible refine kd1.mono ?_)
    rintro e w2 ⟨V1, rfl, hown, hp, hg⟩
    have HV0 : Hid (VInv L w gp gw c w2 V1 vs1 S01) := Lib.hid ⟨hp, gb_trans HG1.out hg, own_weaken' hown HG1.out.size⟩
    have kn2 := KNE.out _ hp
    clear hown hp hg kd1 HP1 HG1 KNE
    go_wp2_with fail
    (with_reducible refine kn2.mono ?_)
    rintro e w3 ⟨rfl, hp, hg⟩
    have HV1 := Lib.hid (VInv.step hgp HV0.out hg hp)
    clear hp hg kn2 HV0
    go_wp2_with fail
    go_loopw [3] (fun v wr => ∃ (V : Value) (k : Nat) (vs : List Vr) (S : St), V = v ∧ vs ++ (localsL L k S).1 = RN.1 ∧ (localsL L k S).2 = RN.2 ∧ L.length ≤ k + S.i ∧ Ok L S ∧ S.names ≤ S.i + (q + 1) ∧ vs.length ≤ (S.i + 1) * 100001 ∧ VInv L w gp gw c wr V vs S)
      (fun _ wr => leftOf gp wr)
    case atStart => exact ⟨_, L.length, vs1, S1, rfl, by rw [HRN.out], by rw [HRN.out], by omega, HOK1.out.1, HOK1.out.2, by omega, HV1.out⟩
    case round =>
      obtain ⟨V, k, vs, S, hV, hR1, hR2, hfk, hok, hnn, hvl, hvi⟩ := hrel
      subst hV
      have hltS := hvi.par.lt
      have hleft := leftOf_par hvi.par
      have ktc : Calls Tryz.prog 60 #[.pointer (some ⟨gp, 0, none⟩)] wr fun e w' => e = .returned (.bool (isNameS L S)) ∧ w' = wr := isName_any L wr gp gw c S hvi.par
      have hstop := localsL_stop L k S
      have hgo : isNameS L S = true → ∃ k', k = k' + 1 ∧ localsL L k S = ((localS L S).1 ++ (localsL L k' (needS L (bs [59]) (localS L S).2)).1, (localsL L k' (needS L (bs [59]) (localS L S).2)).2) ∧ L.length ≤ k' + (needS L (bs [59]) (localS L S).2).i ∧ Ok L (needS L (bs [59]) (localS L S).2) ∧ S.i + 1 ≤ (needS L (bs [59]) (localS L S).2).i ∧ (needS L (bs [59]) (localS L S).2).names ≤ (needS L (bs [59]) (localS L S).2).i + (q + 1) ∧ Ok L S ∧ S.names ≤ S.i + (q + 1) := fun hb => by
        have h3 := (localS_later HE.out (q + 1) hltS hok hnn).2 hb
        have h4 := l_need HE.out (bs [59]) h3.1.1.2.1 h3.1.1.2.2
        have h5 := h4.1
        have h6 := needS_names L (bs [59]) (localS L S).2
        have h7 := h3.1.2
        obtain ⟨k', rfl⟩ : ∃ k', k = k' + 1 := ⟨k - 1, by omega⟩
        exact ⟨k', rfl, localsL_go L k' S hb, by omega, h4.2.2, by omega, by omega, hok, hnn⟩
      have kds := fun W (hp : Par L W gp gw c S) (ho : Ok L S) (hn : S.names ≤ S.i + (q + 1)) => local_any L HE.out W gp gw c S hp ho (q + 1) (by omega) hn
      have kn2 : ∀ W, Par L W gp gw c (localS L S).2 → Calls Tryz.prog 55 #[.pointer (some ⟨gp, 0, none⟩), .string ⟨#[59]⟩] W (GivesU L gp gw c (needS L (bs [59]) (localS L S).2) W) := fun W hp => need_any L hG (bs [59]) W gp gw c _ hp
      obtain ⟨b3, hb3'⟩ : ∃ b, b = isNameS L S := ⟨_, rfl⟩
      rw [← hb3'] at hgo hstop ktc
      have hvl2 := localS_len HE.out S
      have hpv := HPS.out S
      obtain ⟨T2, hT2⟩ : ∃ v, v = needS L (bs [59]) (localS L S).2 := ⟨_, rfl⟩
      rw [← hT2] at hgo
      simp only [← hT2] at kn2
      obtain ⟨v2, hv2⟩ : ∃ v, v = (localS L S).1 := ⟨_, rfl⟩
      obtain ⟨T1, hT1⟩ : ∃ v, v = (localS L S).2 := ⟨_, rfl⟩
      rw [← hv2] at hgo hvl2 hpv
      have HPV2 := Lib.hid hpv
      clear hpv
      simp only [← hv2, ← hT1] at kds
      simp only [← hT1] at kn2
      have KN2 := Lib.hid kn2
      clear kn2 hT1
      have HR1 := Lib.hid hR1
      have HR2 := Lib.hid hR2
      have HGO := Lib.hid hgo
      have HST := Lib.hid hstop
      have HLF := Lib.hid hleft
      have KDS := Lib.hid kds
      have HVI := Lib.hid hvi
      clear hR1 hR2 hgo hstop hleft kds hb3' hv2 hT2 hvi HV1
      cases b3
      · have e1 := HR1.out
        have e2 := HR2.out
        rw [HST.out rfl] at e1 e2
        simp only [List.append_nil] at e1 e2
        have HE1 := Lib.hid e1
        have HE2 := Lib.hid e2
        clear e1 e2 HR1 HR2 HGO HST KDS
        go_wp2_with fail
        (with_reducible refine ktc.mono ?_)
        rintro e w5 ⟨rfl, rfl⟩
        go_wp2_with fail
        go_ret
        rw [HRR.out]
        simp only
        rw [← HE1.out, ← HE2.out]
        exact ⟨V, rfl, HVI.out.own, HVI.out.par, HVI.out.gb⟩
      · obtain ⟨k', hk', hdl, hl1, hok2, hl3, hl4, hok3, hl5⟩ := HGO.out rfl
        have HEQ1 : Hid ((vs ++ v2) ++ (localsL L k' T2).1 = RN.1) := Lib.hid (by rw [← HR1.out, hdl]; simp)
        have HEQ2 : Hid ((localsL L k' T2).2 = RN.2) := Lib.hid (by rw [← HR2.out, hdl])
        clear HR1 HR2 HGO HST hdl hk'
        obtain ⟨i0, hi0, ⟨z0, hz0, hz2⟩, hz1, hzb⟩ := info_var5
        have HZ2 := Lib.hid hz2
        go_wp2_with fail
        (with_reducible refine ktc.mono ?_)
        rintro e w' ⟨rfl, hw'⟩
        rw [hw']
        clear hw' w' ktc
        have HV5 := HVI
        clear HVI
        have kd5 := KDS.out _ HV5.out.par hok3 hl5
        clear KDS
        go_wp2_with fail
        (with_reducible refine kd5.mono ?_)
        rintro e w6 ⟨v6, rfl, hown6, hp, hg⟩
        have hpos6 : v2.length = 0 ∨ 0 < v2.length := by omega
        have HV6 := Lib.hid (VInv.step hgp HV5.out hg hp)
        have hpv2 : 0 < v2.length := HPV2.out
        obtain ⟨g6, cap6, rfl, hgb6, hgs6⟩ := own_slice hown6 hpv2
        have HNW := Lib.hid (fun j u (hu : (varsC v2)[j]? = some u) => hown6.cells (g := g6) rfl j u hu)
        have HLN : Hid ((varsC v2).length = v2.length * 5) := Lib.hid (varsC_length v2)
        have H63 : Hid (vs.length + v2.length ≤ maxLen) := Lib.hid (by unfold maxLen; omega)
        have HBY : Hid ((vs.length + v2.length) * 56 ≤ 140737488355328) := Lib.hid (by omega)
        have HBS : Hid (w.heap.size ≤ w6.heap.size) := Lib.hid HV6.out.gb.size
        obtain ⟨m2, hm2⟩ : ∃ m, m = v2.length := ⟨_, rfl⟩
        have HM2 := Lib.hid hm2
        rw [← hm2] at HLN H63 HBY ⊢
        clear hown6 hp hg kd5 HV5 hm2 hpos6 hpv2
        go_wp2_with (at_builtin
                     refine wpList_append_own _ rfl (.tmp 12) (.tmp 14) 38 rfl w.heap.size 88 i0 _ 5 56 Tryz.underlying38 hi0 hz0 hz1 hzb HZ2.out (by decide) V vs.length (varsC vs) rfl HV6.out.own ⟨g6, 0, none⟩ m2 cap6 (varsC v2) rfl HLN.out HNW.out (vars_one v2) H63.out HBY.out HBS.out ?_
                     intro v8 w8 hown8 hg8 _
                     have HO8 := Lib.hid hown8
                     have HGG := Lib.hid hg8
                     clear hown8 hg8)
        have HV7 := Lib.hid (VInv.put (v2 := v2) hgp hgw HV6.out HGG.out (by rw [← HM2.out]; exact HO8.out))
        have hl2 : (vs ++ v2).length ≤ (T2.i + 1) * 100001 := by rw [List.length_append]; omega
        have kn8 := KN2.out _ HV7.out.par
        (with_reducible refine kn8.mono ?_)
        rintro e w9 ⟨rfl, hp, hg⟩
        have HV8 := Lib.hid (VInv.step hgp HV7.out hg hp)
        clear hp hg kn8 HV7 KN2 HO8 HGG HV6
        go_wp2_with fail
        refine ⟨⟨_, k', vs ++ v2, T2, rfl, HEQ1.out, HEQ2.out, hl1, hok2, hl4, hl2, HV8.out⟩, ?_⟩
        rw [leftOf_par HV8.out.par, HLF.out]
        have := HV8.out.par.lt
        omega
  · go_wp2_with fail
    go_ret
    rw [HRR0.out]
    exact ⟨_, rfl, World.ownsRow_nil _ _ _ _, HP1.out, HG1.out⟩
end Go.Proofs.YtjlnihennlkmpaaGreatDoor

namespace Go.Proofs.YtjlnihennlkmpaaGreatDoor
open Go Go.RowKit
def eqsL (L : List Wd) : Nat → St → List Qe × St
  | 0, st => ([], st)
  | k + 1, st => if isNameS L st = true then ((eqS L st).1 :: (eqsL L k (eqS L st).2).1, (eqsL L k (eqS L st).2).2) else ([], st)
theorem eqsL_stop (L : List Wd) (k : Nat) (S : St) (h : isNameS L S = false) : eqsL L k S = ([], S) := by
  cases k with
  | zero => rfl
  | succ k => unfold eqsL; simp [h]
theorem eqsL_go (L : List Wd) (k : Nat) (S : St) (h : isNameS L S = true) : eqsL L (k + 1) S = ((eqS L S).1 :: (eqsL L k (eqS L S).2).1, (eqsL L k (eqS L S).2).2) := by
  conv => lhs; unfold eqsL
  simp [h]
theorem eqsL_later {L : List Wd} (hE : GoodE L) : ∀ (k : Nat) {S : St}, S.i < L.length → Ok L S → Later L S (eqsL L k S).2
  | 0, S, h, ho => Later.refl h ho
  | k + 1, S, h, ho => by
    unfold eqsL
    split
    · have h1 := (eqS_later hE h ho).1
      exact h1.trans (eqsL_later hE k h1.2.1 h1.2.2)
    · exact Later.refl h ho
structure Nd where
  name : ByteArray
  ins : List Vr
  outs : List Vr
  locs : List Vr
  eqs : List Qe
  at_ : Nat
def zeroN (st : St) : St := { st with names := 0 }
def varS (L : List Wd) (st : St) : List Vr × St := if isS L (bs [118, 97, 114]) st = true then localsS L (nextS L st) else ([], st)
def nodeS (L : List Wd) (st : St) : Nd × St :=
  let n := nameS L (needS L (bs [110, 111, 100, 101]) (zeroN st))
  let i := declsS L n.2
  let o := declsS L (needS L (bs [114, 101, 116, 117, 114, 110, 115]) i.2)
  let v := varS L (needS L (bs [59]) o.2)
  let q := eqsL L L.length (needS L (bs [108, 101, 116]) v.2)
  (⟨n.1, i.1, o.1, v.1, q.1, (cur L st).at_⟩, (takeS L (bs [59]) (needS L (bs [116, 101, 108]) q.2)).2)
theorem size_node : (Tryz.prog.info? 41).map (·.size) = some 6 := by kernel_rfl
theorem node_one (q : ByteArray) (x1 x2 x3 x4 : Option Addr) (l1 l2 l3 l4 c1 c2 c3 c4 : Nat) (b : Int) : (#[.string q, .slice x1 l1 c1, .slice x2 l2 c2, .slice x3 l3 c3, .slice x4 l4 c4, .int .i64 b] : Array Value).all (·.oneCell') = true := by simp [Value.oneCell']
theorem own_is {w : World} {base : Nat} {e : TypeId} {size n : Nat} {v : Value} {xs : List Value} (h : w.ownsRow base e size v n xs) : ∃ x c, v = .slice x n c := by
  rcases h.2 with ⟨rfl, rfl⟩ | ⟨g, cap, cur, rfl, _⟩
  · exact ⟨_, _, rfl⟩
  · exact ⟨_, cap, rfl⟩
/-- A node's cell while it is read. -/
structure NV (L : List Wd) (w : World) (gp gw c b : Nat) (cs : Array Value) (rows : List (Value × List Vr)) (wr : World) (S : St) : Prop where
  par : Par L wr gp gw c S
  gb : w.grownBy wr (some gp)
  res : wr.heap[w.heap.size]? = some (.cells #[.string ⟨#[]⟩, .slice none 0 0, .slice none 0 0, .slice none 0 0, .slice none 0 0, .int .i64 0] 41 (0, 0))
  row : wr.heap[b]? = some (.cells cs 41 (0, 0))
  vars : ∀ p ∈ rows, wr.ownsRow (b + 1) 88 5 p.1 p.2.length (varsC p.2)
theorem NV.step {L : List Wd} {w wr w' : World} {gp gw c b : Nat} {cs : Array Value} {rows : List (Value × List Vr)} {S S' : St} (hgp : gp < w.heap.size) (hlo : w.heap.size < b) (h : NV L w gp gw c b cs rows wr S) (hg : wr.grownBy w' (some gp)) (hp : Par L w' gp gw c S') : NV L w gp gw c b cs rows w' S' := by
  have hlt : b < wr.heap.size := (Array.getElem?_eq_some_iff.1 h.row).1
  exact ⟨hp, gb_trans h.gb hg, (hg.block w.heap.size (by omega) (by intro e; injection e with e; omega)).trans h.res, (hg.block b hlt (by intro e; injection e with e; omega)).trans h.row, fun p hp => own_keep (h.vars p hp) hg (by omega)⟩
theorem own_other {w : World} {base : Nat} {e : TypeId} {size n g j : Nat} {v u : Value} {xs : List Value} (h : w.ownsRow base e size v n xs) (hg : g < base) : (w.setCell ⟨g, j, none⟩ u).ownsRow base e size v n xs :=
  h.kept (row := some g) ⟨rfl, rfl, rfl, by simp, fun k _ hk => heap_setCell_other w ⟨g, j, none⟩ k u (fun e => hk (by rw [e]))⟩ (by
    cases hob : v.ownBlock with
    | none => exact .inl rfl
    | some b => exact .inr (fun e => by have := (h.lt b hob).1; injection e with e; omega))
theorem NV.put {L : List Wd} {w wr : World} {gp gw c b : Nat} {cs : Array Value} {rows : List (Value × List Vr)} {S : St} (hgp : gp < w.heap.size) (hgw : gw < w.heap.size) (hlo : w.heap.size < b) (h : NV L w gp gw c b cs rows wr S) (j : Nat) (u : Value) : NV L w gp gw c b (cs.setIfInBounds j u) rows (wr.setCell ⟨b, j, none⟩ u) S :=
  ⟨h.par.keep (heap_setCell_other wr ⟨b, j, none⟩ gp u (by show gp ≠ b; omega)) (heap_setCell_other wr ⟨b, j, none⟩ gw u (by show gw ≠ b; omega)) (by simp), gb_setCell h.gb b j (by omega) u, (heap_setCell_other wr ⟨b, j, none⟩ w.heap.size u (by show w.heap.size ≠ b; omega)).trans h.res, heap_setCell_same wr b j _ _ u h.row, fun p hp => own_other (h.vars p hp) (Nat.lt_succ_self _)⟩
theorem NV.add {L : List Wd} {w wr : World} {gp gw c b B : Nat} {cs : Array Value} {rows : List (Value × List Vr)} {S : St} (h : NV L w gp gw c b cs rows wr S) {v : Value} {vs : List Vr} (hv : wr.ownsRow B 88 5 v vs.length (varsC vs)) (hB : b + 1 ≤ B) : NV L w gp gw c b cs (rows ++ [(v, vs)]) wr S :=
  ⟨h.par, h.gb, h.res, h.row, fun p hp => by
    rcases List.mem_append.1 hp with h1 | h1
    · exact h.vars p h1
    · simp only [List.mem_cons, List.not_mem_nil, or_false] at h1
      subst h1
      exact own_weaken' hv hB⟩
theorem NV.rel {L : List Wd} {w w0 W : World} {gp gw c b bq : Nat} {cs : Array Value} {rows : List (Value × List Vr)} {S S' : St} {V : Value} (hgp : gp < w.heap.size) (hlo : w.heap.size < b) (hb : b ≤ bq) (h : NV L w gp gw c b cs rows w0 S) (hV : ∀ k, V.ownBlock = some k → bq < k) (hr : ∀ p ∈ rows, ∀ k, p.1.ownBlock = some k → k ≤ bq) (hrel : RelK gp V w0 W) (hp : Par L W gp gw c S') : NV L w gp gw c b cs rows W S' := by
  have hlt : b < w0.heap.size := (Array.getElem?_eq_some_iff.1 h.row).1
  refine ⟨hp, hrel.gb h.gb (fun j hj => by have := hV j hj; omega), (hrel.block w.heap.size (by omega) (by omega) (fun e => by have := hV _ e.symm; omega)).trans h.res, (hrel.block b hlt (by omega) (fun e => by have := hV _ e.symm; omega)).trans h.row, fun p hm => ?_⟩
  have ho := h.vars p hm
  rcases ho.2 with ⟨e1, e2⟩ | ⟨g, cap, cur, e1, e2, e3, e4⟩
  · exact ⟨ho.1, .inl ⟨e1, e2⟩⟩
  · refine ⟨ho.1, .inr ⟨g, cap, cur, e1, e2, (hrel.block g (Array.getElem?_eq_some_iff.1 e3).1 (by omega) (fun e => ?_)).trans e3, e4⟩⟩
    have h1 := hV g e.symm
    have h2 := hr p hm g (by rw [e1]; rfl)
    omega
/-- A node read. -/
structure IsN (B : Nat) (w : World) (vi vo vl ve : Value) (nd : Nd) : Prop where
  ins : w.ownsRow B 88 5 vi nd.ins.length (varsC nd.ins)
  outs : w.ownsRow B 88 5 vo nd.outs.length (varsC nd.outs)
  locs : w.ownsRow B 88 5 vl nd.locs.length (varsC nd.locs)
  eqs : OwnQ w B ve nd.eqs
def GivesN (L : List Wd) (gp gw c : Nat) (nd : Nd) (S : St) (w : World) (e : Ending) (w' : World) : Prop :=
  ∃ vi vo vl ve, e = .returned (.agg #[.string nd.name, vi, vo, vl, ve, .int .i64 (nd.at_ : Int)]) ∧ IsN w.heap.size w' vi vo vl ve nd ∧ Par L w' gp gw c S ∧ w.grownBy w' (some gp)
theorem OwnQ.mono {w : World} {b b' : Nat} {v : Value} {es : List Qe} (h : OwnQ w b v es) (hb : b' ≤ b) : OwnQ w b' v es := by
  obtain ⟨xs, h1, h2⟩ := h
  exact ⟨xs, own_weaken' h1 (by omega), h2.keep (Nat.le_refl _) (fun _ _ _ => rfl) (fun k hk _ => ⟨by omega, hk.2⟩)⟩
theorem own_row {w : World} {base : Nat} {e : TypeId} {size n g : Nat} {v : Value} {xs : List Value} {zs : Array Value} (h : w.ownsRow base e size v n xs) (hg : g < base) : (w.setRow g zs).ownsRow base e size v n xs :=
  h.kept (row := some g) ⟨rfl, rfl, rfl, by rw [setRow_size]; exact Nat.le_refl _, fun k _ hk => setRow_other w g k _ (fun e => hk (by rw [e]))⟩ (by
    cases hob : v.ownBlock with
    | none => exact .inl rfl
    | some b => exact .inr (fun e => by have := (h.lt b hob).1; injection e with e; omega))
theorem ownq_row {w : World} {b g : Nat} {v : Value} {es : List Qe} {zs : Array Value} (h : OwnQ w b v es) (hg : g ≤ b) : OwnQ (w.setRow g zs) b v es :=
  h.kept (row := some g) ⟨rfl, rfl, rfl, by rw [setRow_size]; exact Nat.le_refl _, fun k _ hk => setRow_other w g k _ (fun e => hk (by rw [e]))⟩ (fun k hk => by injection hk with hk; omega)
theorem ownq_cell {w : World} {b g j : Nat} {v u : Value} {es : List Qe} (h : OwnQ w b v es) (hg : g ≤ b) : OwnQ (w.setCell ⟨g, j, none⟩ u) b v es :=
  h.kept (row := some g) ⟨rfl, rfl, rfl, by simp, fun k _ hk => heap_setCell_other w ⟨g, j, none⟩ k u (fun e => hk (by rw [e]))⟩ (fun k hk => by injection hk with hk; omega)
end Go.Proofs.YtjlnihennlkmpaaGreatDoor

namespace Go.Proofs.YtjlnihennlkmpaaGreatDoor
open Go Go.RowKit
set_option maxHeartbeats 4000000 in
set_option maxRecDepth 100000 in
theorem node_any (L : List Wd) (hE : GoodE L) (w : World) (gp gw c : Nat) (st : St) (h : Par L w gp gw c st) (ho : Ok L st) :
    Calls Tryz.prog 29 #[.pointer (some ⟨gp, 0, none⟩)] w (GivesN L gp gw c (nodeS L st).1 (nodeS L st).2 w) := by
  have hG := hE.good
  have hlt := h.lt
  have hgp := h.gpl
  have hgw := h.gwl
  have hps : Par L (w.setCell ⟨gp, 3, none⟩ (.int .i64 0)) gp gw c (zeroN st) := h.setNames 0
  have hgs := gb_set w gp 3 (.int .i64 0)
  have hss : (w.setCell ⟨gp, 3, none⟩ (.int .i64 0)).heap.size = w.heap.size := by simp
  have hcur : cur L (zeroN st) = cur L st := rfl
  obtain ⟨w0, hw0⟩ : ∃ w0, w0 = w.setCell ⟨gp, 3, none⟩ (.int .i64 0) := ⟨_, rfl⟩
  rw [← hw0] at hps hgs hss
  have hb1 : Below w0.heap.size w0 (w0.alloc (.cells #[.string ⟨#[]⟩, .slice none 0 0, .slice none 0 0, .slice none 0 0, .slice none 0 0, .int .i64 0] 41)) := (Below.refl _ _).alloc (Nat.le_refl _) _
  have hn1 := heap_alloc_new w0 (.cells #[.string ⟨#[]⟩, .slice none 0 0, .slice none 0 0, .slice none 0 0, .slice none 0 0, .int .i64 0] 41)
  have h1 := hps.below hb1
  have hs1 : (w0.alloc (.cells #[.string ⟨#[]⟩, .slice none 0 0, .slice none 0 0, .slice none 0 0, .slice none 0 0, .int .i64 0] 41)).heap.size = w.heap.size + 1 := by simp [hss]
  rw [hss] at hn1
  have hg1 := gb_trans hgs (gb_below (r := some gp) hb1)
  obtain ⟨p0, _, _, _, _⟩ := h1.cells
  obtain ⟨_, _, _, q3⟩ := h1.cur_cell
  rw [hcur] at q3
  have hi0 : (zeroN st).i = st.i := rfl
  rw [hi0] at p0 q3
  have p3 := h.cells.2.2.2.1
  have f3 := h.frozen 3
  have hm : 0 < L.length - st.i := by omega
  obtain ⟨w1, hw1⟩ : ∃ w1, w1 = w0.alloc (.cells #[.string ⟨#[]⟩, .slice none 0 0, .slice none 0 0, .slice none 0 0, .slice none 0 0, .int .i64 0] 41) := ⟨_, rfl⟩
  rw [← hw1] at hn1 h1 hs1 hg1 p0 q3
  obtain ⟨RR, hRR⟩ : ∃ R, R = nodeS L st := ⟨_, rfl⟩
  rw [← hRR]
  unfold nodeS at hRR
  obtain ⟨at0, hat⟩ : ∃ v, v = (cur L st).at_ := ⟨_, rfl⟩
  rw [← hat] at q3 hRR
  have l0 : Later L st (zeroN st) := ⟨Nat.le_refl _, hlt, ho⟩
  have z0 : (zeroN st).names = 0 := rfl
  obtain ⟨S0, hS0⟩ : ∃ v, v = zeroN st := ⟨_, rfl⟩
  simp only [← hS0] at hRR h1 l0 z0
  have k1 : ∀ W, Par L W gp gw c S0 → Calls Tryz.prog 55 #[.pointer (some ⟨gp, 0, none⟩), .string ⟨#[110, 111, 100, 101]⟩] W (GivesU L gp gw c (needS L (bs [110, 111, 100, 101]) S0) W) := fun W hp => need_any L hG (bs [110, 111, 100, 101]) W gp gw c _ hp
  have l1 := l_need hE (bs [110, 111, 100, 101]) l0.2.1 l0.2.2
  have z1 := needS_names L (bs [110, 111, 100, 101]) S0
  obtain ⟨S1, hS1⟩ : ∃ v, v = needS L (bs [110, 111, 100, 101]) S0 := ⟨_, rfl⟩
  simp only [← hS1] at hRR k1 l1 z1
  have k2 : ∀ W, Par L W gp gw c S1 → Calls Tryz.prog 56 #[.pointer (some ⟨gp, 0, none⟩)] W (Gives1 L gp gw c (.string (nameS L S1).1) (nameS L S1).2 W) := fun W hp => name_any L hG W gp gw c _ hp
  have l2 := l_name hE l1.2.1 l1.2.2
  have z2 := nameS_names L S1
  obtain ⟨nm, hnm⟩ : ∃ v, v = (nameS L S1).1 := ⟨_, rfl⟩
  obtain ⟨S2, hS2⟩ : ∃ v, v = (nameS L S1).2 := ⟨_, rfl⟩
  simp only [← hnm, ← hS2] at hRR k2 l2 z2
  have k3 := fun W (hp : Par L W gp gw c S2) => decls_any L hE W gp gw c S2 hp l2.2.2 0 (by omega) (by omega)
  have l3 := declsS_later hE 0 l2.2.1 l2.2.2 (by omega)
  obtain ⟨ins, hins⟩ : ∃ v, v = (declsS L S2).1 := ⟨_, rfl⟩
  obtain ⟨S3, hS3⟩ : ∃ v, v = (declsS L S2).2 := ⟨_, rfl⟩
  simp only [← hins, ← hS3] at hRR k3 l3
  have k4 : ∀ W, Par L W gp gw c S3 → Calls Tryz.prog 55 #[.pointer (some ⟨gp, 0, none⟩), .string ⟨#[114, 101, 116, 117, 114, 110, 115]⟩] W (GivesU L gp gw c (needS L (bs [114, 101, 116, 117, 114, 110, 115]) S3) W) := fun W hp => need_any L hG (bs [114, 101, 116, 117, 114, 110, 115]) W gp gw c _ hp
  have l4 := l_need hE (bs [114, 101, 116, 117, 114, 110, 115]) l3.1.2.1 l3.1.2.2
  have z4 := needS_names L (bs [114, 101, 116, 117, 114, 110, 115]) S3
  obtain ⟨S4, hS4⟩ : ∃ v, v = needS L (bs [114, 101, 116, 117, 114, 110, 115]) S3 := ⟨_, rfl⟩
  simp only [← hS4] at hRR k4 l4 z4
  have n4 : S4.names ≤ S4.i + 1 := by have := l3.2; have := l4.1; omega
  have k5 := fun W (hp : Par L W gp gw c S4) => decls_any L hE W gp gw c S4 hp l4.2.2 1 (by omega) n4
  have l5 := declsS_later hE 1 l4.2.1 l4.2.2 n4
  obtain ⟨outs, houts⟩ : ∃ v, v = (declsS L S4).1 := ⟨_, rfl⟩
  obtain ⟨S5, hS5⟩ : ∃ v, v = (declsS L S4).2 := ⟨_, rfl⟩
  simp only [← houts, ← hS5] at hRR k5 l5
  have k6 : ∀ W, Par L W gp gw c S5 → Calls Tryz.prog 55 #[.pointer (some ⟨gp, 0, none⟩), .string ⟨#[59]⟩] W (GivesU L gp gw c (needS L (bs [59]) S5) W) := fun W hp => need_any L hG (bs [59]) W gp gw c _ hp
  have l6 := l_need hE (bs [59]) l5.1.2.1 l5.1.2.2
  have z6 := needS_names L (bs [59]) S5
  obtain ⟨S6, hS6⟩ : ∃ v, v = needS L (bs [59]) S5 := ⟨_, rfl⟩
  simp only [← hS6] at hRR k6 l6 z6
  have n6 : S6.names ≤ S6.i + 2 := by have := l5.2; have := l6.1; omega
  have k7 : ∀ W, Par L W gp gw c S6 → Calls Tryz.prog 58 #[.pointer (some ⟨gp, 0, none⟩), .string ⟨#[118, 97, 114]⟩] W (Gives1 L gp gw c (.bool (takeS L (bs [118, 97, 114]) S6).1) (takeS L (bs [118, 97, 114]) S6).2 W) := fun W hp => take_any L hG (bs [118, 97, 114]) W gp gw c _ hp
  unfold takeS at k7
  unfold varS at hRR
  obtain ⟨bv, hbv⟩ : ∃ b, b = isS L (bs [118, 97, 114]) S6 := ⟨_, rfl⟩
  simp only [← hbv] at hRR k7
  have l7 := l_next hE l6.2.1 l6.2.2
  have n7 : (nextS L S6).names ≤ (nextS L S6).i + 2 := by rw [nextS_names]; have := l7.1; omega
  obtain ⟨S7, hS7⟩ : ∃ v, v = nextS L S6 := ⟨_, rfl⟩
  simp only [← hS7] at hRR k7 l7 n7
  have k8 := fun W (hp : Par L W gp gw c S7) => locals_any L hE W gp gw c S7 hp l7.2.2 2 (by omega) n7
  have l8 := (localsS_later hE 2 l7.2.1 l7.2.2 n7).1
  have knl : ∀ W S, Par L W gp gw c S → Calls Tryz.prog 55 #[.pointer (some ⟨gp, 0, none⟩), .string ⟨#[108, 101, 116]⟩] W (GivesU L gp gw c (needS L (bs [108, 101, 116]) S) W) := fun W S hp => need_any L hG (bs [108, 101, 116]) W gp gw c S hp
  have knt : ∀ W S, Par L W gp gw c S → Calls Tryz.prog 55 #[.pointer (some ⟨gp, 0, none⟩), .string ⟨#[116, 101, 108]⟩] W (GivesU L gp gw c (needS L (bs [116, 101, 108]) S) W) := fun W S hp => need_any L hG (bs [116, 101, 108]) W gp gw c S hp
  have ktake : ∀ W S, Par L W gp gw c S → Calls Tryz.prog 58 #[.pointer (some ⟨gp, 0, none⟩), .string ⟨#[59]⟩] W (Gives1 L gp gw c (.bool (takeS L (bs [59]) S).1) (takeS L (bs [59]) S).2 W) := fun W S hp => take_any L hG (bs [59]) W gp gw c S hp
  obtain ⟨m, hme⟩ : ∃ m, m = L.length - st.i := ⟨_, rfl⟩
  obtain ⟨dd, hdd⟩ : ∃ d, d = c - st.i := ⟨_, rfl⟩
  obtain ⟨q, hqq⟩ : ∃ q, q = st.i * 4 := ⟨_, rfl⟩
  rw [← hme] at hm p0
  rw [← hdd, ← hqq] at p0
  rw [← hqq] at q3
  have hb2 : Below w1.heap.size w1 (w1.alloc (.cells #[.string ⟨#[]⟩, .slice none 0 0, .slice none 0 0, .slice none 0 0, .slice none 0 0, .int .i64 (at0 : Int)] 41)) := (Below.refl _ _).alloc (Nat.le_refl _) _
  have hn2 := heap_alloc_new w1 (.cells #[.string ⟨#[]⟩, .slice none 0 0, .slice none 0 0, .slice none 0 0, .slice none 0 0, .int .i64 (at0 : Int)] 41)
  have ha2 : (w1.alloc (.cells #[.string ⟨#[]⟩, .slice none 0 0, .slice none 0 0, .slice none 0 0, .slice none 0 0, .int .i64 (at0 : Int)] 41)).heap.size = w.heap.size + 2 := by simp [hs1]
  rw [hs1] at hn2
  have HN0 : Hid (NV L w gp gw c (w.heap.size + 1) #[.string ⟨#[]⟩, .slice none 0 0, .slice none 0 0, .slice none 0 0, .slice none 0 0, .int .i64 (at0 : Int)] [] (w1.alloc (.cells #[.string ⟨#[]⟩, .slice none 0 0, .slice none 0 0, .slice none 0 0, .slice none 0 0, .int .i64 (at0 : Int)] 41)) S0) := Lib.hid ⟨h1.below hb2, gb_trans hg1 (gb_below hb2), (hb2.block w.heap.size (by omega)).trans hn1, hn2, fun p hp => by cases hp⟩
  have hkk1 := k1 _ HN0.out.par
  have hlo : w.heap.size < (w.heap.size + 1) := Nat.lt_succ_self _
  have K2 := Lib.hid k2
  have K3 := Lib.hid k3
  have K4 := Lib.hid k4
  have K5 := Lib.hid k5
  have K6 := Lib.hid k6
  have K7 := Lib.hid k7
  have K8 := Lib.hid k8
  have KNL := Lib.hid knl
  have KNT := Lib.hid knt
  have KT := Lib.hid ktake
  have HRR := Lib.hid hRR
  have HE := Lib.hid hE
  have HL6 := Lib.hid l6
  have HL8 := Lib.hid l8
  have HSN := Lib.hid size_node
  have HA2 := Lib.hid ha2
  rw [hw1, hw0] at p0 q3
  have HWW : Hid (w1 = ((w.setCell ⟨gp, 3, none⟩ (.int .i64 0)).alloc (.cells #[.string ⟨#[]⟩, .slice none 0 0, .slice none 0 0, .slice none 0 0, .slice none 0 0, .int .i64 0] 41))) := Lib.hid (by rw [hw1, hw0])
  clear k1 k2 k3 k4 k5 k6 k7 k8 knl knt ktake hRR hb2 hn2 hn1 h1 hg1 hgs hps hw1 hw0 hb1 l0 l1 l2 l3 l4 l5 l6 l7 l8 z0 z1 z2 z4 z6 n4 n6 n7 hS0 hS1 hnm hS2 hins hS3 hS4 houts hS5 hS6 hbv hS7 hat hme hdd hqq h ho hcur hi0 hss hE ha2
  go_enter Tryz.func29, Tryz.ntmps29
  go_wp2_with fail
  rw [← HWW.out]
  (with_reducible refine hkk1.mono ?_)
  rintro e w2 ⟨rfl, hp, hg⟩
  have HN1 := Lib.hid (HN0.out.step hgp hlo hg hp)
  have hz2 : w.heap.size + 2 ≤ w2.heap.size := by rw [← HA2.out]; exact hg.size
  have kk := K2.out _ HN1.out.par
  clear hp hg hkk1 HN0 p0 q3 p3 f3 K2
  go_wp2_with fail
  (with_reducible refine kk.mono ?_)
  rintro e w3 ⟨rfl, hp, hg⟩
  have hn2 := HN1.out.step hgp hlo hg hp
  have hz3 : w.heap.size + 2 ≤ w3.heap.size := Nat.le_trans hz2 hg.size
  have c30 := cell_of_row w3 (w.heap.size + 1) 0 _ _ _ hn2.row
  have f30 := frozen_of_row w3 (w.heap.size + 1) 0 _ _ hn2.row
  have HN2 : Hid (NV L w gp gw c (w.heap.size + 1) #[.string nm, .slice none 0 0, .slice none 0 0, .slice none 0 0, .slice none 0 0, .int .i64 (at0 : Int)] [] (w3.setCell ⟨w.heap.size + 1, 0, none⟩ (.string nm)) S2) := Lib.hid (hn2.put hgp hgw hlo 0 (.string nm))
  have hz3' : (w3.setCell ⟨w.heap.size + 1, 0, none⟩ (.string nm)).heap.size = w3.heap.size := by simp
  have HZ3 := Lib.hid hz3'
  have k3 := K3.out _ HN2.out.par
  clear hp hg kk HN1 hn2 K3 hz3'
  go_wp2_with fail
  (with_reducible refine k3.mono ?_)
  rintro e w4 ⟨v4, rfl, hown, hp, hg⟩
  obtain ⟨xi, ci, rfl⟩ := own_is hown
  have hz4 : w.heap.size + 2 ≤ w4.heap.size := Nat.le_trans hz3 (by rw [← HZ3.out]; exact hg.size)
  have hn4 := (HN2.out.step hgp hlo hg hp).add hown (by rw [HZ3.out]; omega)
  have c41 := cell_of_row w4 (w.heap.size + 1) 1 _ _ _ hn4.row
  have f41 := frozen_of_row w4 (w.heap.size + 1) 1 _ _ hn4.row
  have HN4 : Hid (NV L w gp gw c (w.heap.size + 1) #[.string nm, .slice xi ins.length ci, .slice none 0 0, .slice none 0 0, .slice none 0 0, .int .i64 (at0 : Int)] [(.slice xi ins.length ci, ins)] (w4.setCell ⟨w.heap.size + 1, 1, none⟩ (.slice xi ins.length ci)) S3) := Lib.hid (hn4.put hgp hgw hlo 1 (.slice xi ins.length ci))
  have k4 := K4.out _ HN4.out.par
  have HZ4 : Hid ((w4.setCell ⟨w.heap.size + 1, 1, none⟩ (.slice xi ins.length ci)).heap.size = w4.heap.size) := Lib.hid (by simp)
  clear hp hg hown k3 HN2 hn4 K4 HZ3 c30 f30
  go_wp2_with fail
  (with_reducible refine k4.mono ?_)
  rintro e w5 ⟨rfl, hp, hg⟩
  have HN5 := Lib.hid (HN4.out.step hgp hlo hg hp)
  have hz5 : w.heap.size + 2 ≤ w5.heap.size := Nat.le_trans hz4 (by rw [← HZ4.out]; exact hg.size)
  have k5 := K5.out _ HN5.out.par
  clear hp hg k4 HN4 K5 HZ4 c41 f41
  go_wp2_with fail
  (with_reducible refine k5.mono ?_)
  rintro e w6 ⟨v6, rfl, hown, hp, hg⟩
  obtain ⟨xo, co, rfl⟩ := own_is hown
  have hz6 : w.heap.size + 2 ≤ w6.heap.size := Nat.le_trans hz5 hg.size
  have hn6 := (HN5.out.step hgp hlo hg hp).add hown (by omega)
  have c62 := cell_of_row w6 (w.heap.size + 1) 2 _ _ _ hn6.row
  have f62 := frozen_of_row w6 (w.heap.size + 1) 2 _ _ hn6.row
  have HN6 : Hid (NV L w gp gw c (w.heap.size + 1) #[.string nm, .slice xi ins.length ci, .slice xo outs.length co, .slice none 0 0, .slice none 0 0, .int .i64 (at0 : Int)] [(.slice xi ins.length ci, ins), (.slice xo outs.length co, outs)] (w6.setCell ⟨w.heap.size + 1, 2, none⟩ (.slice xo outs.length co)) S5) := Lib.hid (hn6.put hgp hgw hlo 2 (.slice xo outs.length co))
  have k6 := K6.out _ HN6.out.par
  have HZ6 : Hid ((w6.setCell ⟨w.heap.size + 1, 2, none⟩ (.slice xo outs.length co)).heap.size = w6.heap.size) := Lib.hid (by simp)
  clear hp hg hown k5 HN5 hn6 K6
  go_wp2_with fail
  (with_reducible refine k6.mono ?_)
  rintro e w7 ⟨rfl, hp, hg⟩
  have HN7 := Lib.hid (HN6.out.step hgp hlo hg hp)
  have hz7 : w.heap.size + 2 ≤ w7.heap.size := Nat.le_trans hz6 (by rw [← HZ6.out]; exact hg.size)
  have k7 := K7.out _ HN7.out.par
  clear hp hg k6 HN6 K7 HZ6 c62 f62
  go_wp2_with fail
  (with_reducible refine k7.mono ?_)
  rintro e w8 ⟨rfl, hp, hg⟩
  have HN8 := Lib.hid (HN7.out.step hgp hlo hg hp)
  have hz8 : w.heap.size + 2 ≤ w8.heap.size := Nat.le_trans hz7 hg.size
  clear hp hg k7 HN7
  cases bv
  · obtain ⟨locs, hlocs⟩ : ∃ l : List Vr, l = [] := ⟨_, rfl⟩
    have HN9 : Hid (NV L w gp gw c (w.heap.size + 1) #[.string nm, .slice xi ins.length ci, .slice xo outs.length co, .slice none locs.length 0, .slice none 0 0, .int .i64 (at0 : Int)] [(.slice xi ins.length ci, ins), (.slice xo outs.length co, outs), (.slice none locs.length 0, locs)] w8 S6) := Lib.hid (by rw [hlocs]; exact HN8.out.add (World.ownsRow_nil _ (w.heap.size + 2) _ _) (Nat.le_refl _))
    have HRR2 : Hid (RR = (⟨nm, ins, outs, locs, (eqsL L L.length (needS L (bs [108, 101, 116]) S6)).1, at0⟩, (takeS L (bs [59]) (needS L (bs [116, 101, 108]) (eqsL L L.length (needS L (bs [108, 101, 116]) S6)).2)).2)) := Lib.hid (by rw [HRR.out, hlocs]; simp)
    clear HRR K8
    have HRR := HRR2
    clear HRR2 hlocs HN8
    have kl := KNL.out _ _ HN9.out.par
    have HLE := Lib.hid (l_need HE.out (bs [108, 101, 116]) HL6.out.2.1 HL6.out.2.2)
    obtain ⟨S9, hS9⟩ : ∃ v, v = needS L (bs [108, 101, 116]) S6 := ⟨_, rfl⟩
    obtain ⟨RQ, hRQ⟩ : ∃ v, v = eqsL L L.length S9 := ⟨_, rfl⟩
    rw [← hS9] at kl HLE
    have HRQ := Lib.hid hRQ
    have HEQ : Hid (RR = (⟨nm, ins, outs, locs, RQ.1, at0⟩, (takeS L (bs [59]) (needS L (bs [116, 101, 108]) RQ.2)).2)) := Lib.hid (by rw [HRR.out, hRQ, hS9])
    clear hS9 hRQ HRR
    go_wp2_with fail
    (with_reducible refine kl.mono ?_)
    rintro e w10 ⟨rfl, hp, hg⟩
    have HN10 := Lib.hid (HN9.out.step hgp hlo hg hp)
    have hz10 : w.heap.size + 2 ≤ w10.heap.size := Nat.le_trans hz8 hg.size
    obtain ⟨bq, hbq⟩ : ∃ bq, bq = w10.heap.size - 1 := ⟨_, rfl⟩
    have hrows : ∀ p ∈ ([(.slice xi ins.length ci, ins), (.slice xo outs.length co, outs), (.slice none locs.length 0, locs)] : List (Value × List Vr)), ∀ k, p.1.ownBlock = some k → k ≤ bq := fun p hm k hk => by have := (HN10.out.vars p hm).lt k hk; omega
    have HROWS := Lib.hid hrows
    have hbb : w.heap.size + 1 ≤ bq := by omega
    have HBQ : Hid (bq < w10.heap.size) := Lib.hid (by omega)
    clear hp hg kl HN9 hrows hbq
    go_wp2_with fail
    go_loopw [] (fun wr => ∃ (k : Nat) (qs : List Qe) (S : St) (V : Value), qs ++ (eqsL L k S).1 = RQ.1 ∧ (eqsL L k S).2 = RQ.2 ∧ L.length ≤ k + S.i ∧ Ok L S ∧ qs.length ≤ S.i ∧ bq < wr.heap.size ∧ NV L w gp gw c (w.heap.size + 1) #[.string nm, .slice xi ins.length ci, .slice xo outs.length co, .slice none locs.length 0, V, .int .i64 (at0 : Int)] [(.slice xi ins.length ci, ins), (.slice xo outs.length co, outs), (.slice none locs.length 0, locs)] wr S ∧ OwnQ wr bq V qs)
      (fun wr => leftOf gp wr)
    case atStart => exact ⟨L.length, [], S9, .slice none 0 0, by rw [HRQ.out]; rfl, by rw [HRQ.out], by omega, HLE.out.2.2, Nat.zero_le _, HBQ.out, HN10.out, OwnQ.nil _ _⟩
    case round =>
      obtain ⟨k, qs, S, V, hR1, hR2, hfk, hok, hql, hbw, hnv, hoq⟩ := hrel
      have hltS := hnv.par.lt
      have hleft := leftOf_par hnv.par
      have few := HE.out.few
      have ki : Calls Tryz.prog 60 #[.pointer (some ⟨gp, 0, none⟩)] wr fun e w' => e = .returned (.bool (isNameS L S)) ∧ w' = wr := isName_any L wr gp gw c S hnv.par
      have hstop := eqsL_stop L k S
      have hgo : isNameS L S = true → ∃ k', k = k' + 1 ∧ eqsL L k S = ((eqS L S).1 :: (eqsL L k' (eqS L S).2).1, (eqsL L k' (eqS L S).2).2) ∧ L.length ≤ k' + (eqS L S).2.i ∧ Ok L (eqS L S).2 ∧ S.i + 1 ≤ (eqS L S).2.i := fun hb => by
        have h1 := eqS_later HE.out hltS hok
        have h2 := h1.2 hb
        obtain ⟨k', rfl⟩ : ∃ k', k = k' + 1 := ⟨k - 1, by omega⟩
        exact ⟨k', rfl, eqsL_go L k' S hb, by omega, h1.1.2.2, by omega⟩
      have kq := fun W (hp : Par L W gp gw c S) => eq_any L HE.out W gp gw c S hp hok
      obtain ⟨b3, hb3'⟩ : ∃ b, b = isNameS L S := ⟨_, rfl⟩
      rw [← hb3'] at hgo hstop ki
      obtain ⟨q2, hq2⟩ : ∃ v, v = (eqS L S).1 := ⟨_, rfl⟩
      obtain ⟨T2, hT2⟩ : ∃ v, v = (eqS L S).2 := ⟨_, rfl⟩
      rw [← hq2, ← hT2] at hgo
      simp only [← hq2, ← hT2] at kq
      have HR1 := Lib.hid hR1
      have HR2 := Lib.hid hR2
      have HGO := Lib.hid hgo
      have HST := Lib.hid hstop
      have HLF := Lib.hid hleft
      have KQ := Lib.hid kq
      have HNV := Lib.hid hnv
      have HOQ := Lib.hid hoq
      clear hR1 hR2 hgo hstop hleft kq hb3' hq2 hT2 hnv hoq HN10 HRQ
      cases b3
      · have e1 := HR1.out
        have e2 := HR2.out
        rw [HST.out rfl] at e1 e2
        simp only [List.append_nil] at e1 e2
        have HE1 := Lib.hid e1
        have HE2 := Lib.hid e2
        have kt := KNT.out _ _ HNV.out.par
        clear e1 e2 HR1 HR2 HGO HST KQ
        obtain ⟨xq, cq, rfl⟩ := ownq_slice HOQ.out
        go_wp2_with fail
        (with_reducible refine ki.mono ?_)
        rintro e w' ⟨rfl, hw'⟩
        rw [hw']
        clear hw' w' ki
        go_wp2_with fail
        (with_reducible refine kt.mono ?_)
        rintro e w11 ⟨rfl, hp, hg⟩
        have HN11 := Lib.hid (HNV.out.step hgp hlo hg hp)
        have HO11 := Lib.hid (HOQ.out.kept hg (fun k hk => by injection hk with hk; omega))
        have ks := KT.out _ _ hp
        clear hp hg kt HNV HOQ
        go_wp2_with fail
        (with_reducible refine ks.mono ?_)
        rintro e w12 ⟨rfl, hp, hg⟩
        have HN12 := Lib.hid (HN11.out.step hgp hlo hg hp)
        have HO12 := Lib.hid (HO11.out.kept hg (fun k hk => by injection hk with hk; omega))
        have LB := Lib.hid HN12.out.row
        have LR := Lib.hid HN12.out.res
        clear hp hg ks HN11 HO11
        go_wp2_with (first | (refine wpList_load_row rfl 41 (.tmp 3) rfl (w.heap.size + 1) rfl 41 #[.string nm, .slice xi ins.length ci, .slice xo outs.length co, .slice none locs.length 0, .slice xq qs.length cq, .int .i64 (at0 : Int)] (0, 0) _ LB.out Tryz.underlying41 rfl HSN.out ?_) | (refine wpList_store_row rfl 41 (.tmp 2) (.tmp 50) rfl w.heap.size #[.string nm, .slice xi ins.length ci, .slice xo outs.length co, .slice none locs.length 0, .slice xq qs.length cq, .int .i64 (at0 : Int)] rfl rfl 41 _ LR.out HSN.out rfl (node_one _ _ _ _ _ _ _ _ _ _ _ _ _ _) ?_))
        have hset := setRow_heap w12 w.heap.size _ #[.string nm, .slice xi ins.length ci, .slice xo outs.length co, .slice none locs.length 0, .slice xq qs.length cq, .int .i64 (at0 : Int)] _ _ LR.out
        refine bodyPost_ret (v := .agg #[.string nm, .slice xi ins.length ci, .slice xo outs.length co, .slice none locs.length 0, .slice xq qs.length cq, .int .i64 (at0 : Int)]) (results_cell_row (p := 2) (ty := 41) rfl _ _ w.heap.size 41 _ (0, 0) _ rfl hset Tryz.underlying41 rfl HSN.out) rfl ?_
        rw [HEQ.out, ← HE1.out, ← HE2.out]
        have hv := HN12.out.vars
        exact ⟨_, _, _, _, rfl, ⟨own_weaken' (own_row (hv _ (.head _)) (Nat.lt_succ_of_lt hlo)) (by omega), own_weaken' (own_row (hv _ (.tail _ (.head _))) (Nat.lt_succ_of_lt hlo)) (by omega), own_weaken' (own_row (hv _ (.tail _ (.tail _ (.head _)))) (Nat.lt_succ_of_lt hlo)) (by omega), (ownq_row HO12.out (by omega)).mono (by omega)⟩, HN12.out.par.keep (setRow_other w12 w.heap.size gp _ (by omega)) (setRow_other w12 w.heap.size gw _ (by omega)) (by rw [setRow_size]; exact Nat.le_refl _), gb_setRow HN12.out.gb _ (Nat.le_refl _) _⟩
      · obtain ⟨k', hk', hel, hl1, hok2, hl3⟩ := HGO.out rfl
        have HEQ1 : Hid ((qs ++ [q2]) ++ (eqsL L k' T2).1 = RQ.1) := Lib.hid (by rw [← HR1.out, hel]; simp)
        have HEQ2 : Hid ((eqsL L k' T2).2 = RQ.2) := Lib.hid (by rw [← HR2.out, hel])
        have hql2 : (qs ++ [q2]).length ≤ T2.i := by simp; omega
        have hgt := HOQ.out.gt
        have hltb : (w.heap.size + 1) < wr.heap.size := by omega
        have hV : ∀ k, V.ownBlock = some k → k ≠ gp ∧ k ≠ gw := fun k hk => by have := hgt k hk; omega
        have hcV := cell_of_row wr (w.heap.size + 1) 4 _ _ _ HNV.out.row
        have HCV := Lib.hid hcV
        have HVV := Lib.hid hV
        have HGT := Lib.hid hgt
        clear HR1 HR2 HGO HST hel hk' hgt hV hcV
        go_wp2_with fail
        (with_reducible refine ki.mono ?_)
        rintro e w' ⟨rfl, hw'⟩
        rw [hw']
        clear hw' w' ki
        go_wp2_with fail
        refine wp_region_stepsM_then (words [wIs (.pointer (some ⟨(w.heap.size + 1), 4, none⟩)), wIs V, wIs (.pointer (some ⟨gp, 0, none⟩)), (fun v W => wQe wr.heap.size q2 v W ∧ Par L W gp gw c T2), wSq wr.heap.size q2, (fun v W => OwnQ W bq v (qs ++ [q2])), wIs (.pointer (some ⟨(w.heap.size + 1), 4, none⟩))]) (RelK gp V) (RK gp V 3 5) (FQ L gp gw c S bq V qs wr.heap.size 3 5) (by kernel_rfl) (fun a b c => RelK.trans a b c) (fun i W W' h => h.rel) (fun i j W W' hne h hr => FQ.keep (by decide) (by omega) HVV.out i j W W' hne h hr) (RK.rel (kx := 3) (ka := 5) (i := 0) (by unfold RK; exact (Below.refl _ _).drew)) (FQ.start HNV.out.par HOQ.out (Nat.le_refl _)) ?hst rfl rfl rfl (by kernel_rfl) 7 _ rfl rfl ?steps ?last
        case hst =>
          intro i j v W W' hne hv hr
          unfold RK at hr
          match j, hne, hv with
          | 0, _, hv => exact hv
          | 1, _, hv => exact hv
          | 2, _, hv => exact hv
          | 3, hne, hv =>
            rw [if_neg (Ne.symm hne)] at hr
            split at hr
            · exact ⟨wQe_own hv.1 hr (fun k hk => (HGT.out k hk).2), hv.2.own hr HVV.out⟩
            · exact ⟨wQe_own hv.1 (gb_below (r := none) hr) (fun k hk => by simp at hk), hv.2.below hr⟩
          | 4, _, hv =>
            split at hr
            · exact wSq_own hv hr (fun k hk => by injection hk with hk; omega)
            · split at hr
              · exact wSq_own hv hr (fun k hk => (HGT.out k hk).2)
              · exact wSq_own hv (gb_below (r := none) hr) (fun k hk => by simp at hk)
          | 5, hne, hv =>
            split at hr
            · exact OwnQ.kept hv hr (fun k hk => by injection hk with hk; omega)
            · rw [if_neg (Ne.symm hne)] at hr
              exact OwnQ.below hv hr
          | 6, _, hv => exact hv
          | _ + 7, _, _ => trivial
        case steps =>
          refine StepsM.cons (stepM_value rfl fun a W hp _ => ?_) ?_
          · have f1 : a.tmps.getD 3 undef = .pointer (some ⟨(w.heap.size + 1), 0, none⟩) := hp.old 3 rfl
            refine ⟨wanted_none rfl, _, _, run_fa rfl ?_, rfl, Below.refl _ _⟩
            show (Instr.fieldAt _ (a.tmps.getD 3 undef) 4).run _ W = _
            rw [f1]
            exact fa_node4 _ W
          refine StepsM.cons (stepM_value rfl fun a W hp _ => ?_) ?_
          · have f1 : a.tmps.getD 39 undef = .pointer (some ⟨(w.heap.size + 1), 4, none⟩) := (hp.on_ 0 rfl rfl rfl).2
            have hc : W.cell? ⟨(w.heap.size + 1), 4, none⟩ = some V := by
              simp only [World.cell?]
              rw [hp.rel.block (w.heap.size + 1) hltb (by omega) (fun e => by have := (HGT.out _ e.symm).1; omega)]
              exact HCV.out
            exact ⟨wanted_none rfl, _, _, run_ldq rfl f1 hc, rfl, Below.refl _ _⟩
          refine StepsM.cons (stepM_value rfl fun a W hp _ => ⟨wanted_none rfl, _, _, run_move (.inl rfl), (hp.old 0 rfl), Below.refl _ _⟩) ?_
          refine StepsM.cons (stepM_enter rfl fun a W hp hF => ?_) ?_
          · have f1 : a.tmps.getD 41 undef = .pointer (some ⟨gp, 0, none⟩) := (hp.on_ 2 rfl rfl rfl).2
            refine ⟨wanted_none rfl, 61, _, run_enter1 rfl rfl Tryz.call61, ?_⟩
            show Calls _ _ #[a.tmps.getD 41 undef] W _
            rw [f1]
            refine (KQ.out W (hF.1 rfl)).mono ?_
            rintro e W' ⟨o2, m2, n2, a2, x2, l2, c2, rfl, hi2, hp2, hg2⟩
            have := hp.rel.size
            exact ⟨_, rfl, ⟨⟨o2, m2, n2, a2, x2, l2, c2, rfl, hi2.mono (by omega) _⟩, hp2⟩, hg2⟩
          refine StepsM.cons (stepM_value rfl fun a W hp _ => ?_) ?_
          · obtain ⟨⟨o2, m2, n2, a2, x2, l2, c2, f3, hi2⟩, hp2⟩ : wQe wr.heap.size q2 (a.tmps.getD 42 undef) W ∧ Par L W gp gw c T2 := (hp.on_ 3 rfl rfl rfl).2
            have := hp.rel.size
            refine ⟨wanted_none rfl, _, _, run_bsl1 rfl ?_, wSq_new (by omega) hi2, (Below.refl _ _).alloc (Nat.le_refl _) _⟩
            show (Instr.buildSlice _ 1 #[(0, a.tmps.getD 42 undef)]).run _ W = _
            rw [f3]
            exact slice_q _ _ _ _ _ _ _ _ _ W
          refine StepsM.cons (stepM_value rfl fun a W hp hF => ?_) ?_
          · have f1 : a.tmps.getD 40 undef = V := (hp.on_ 1 rfl rfl rfl).2
            have f6 : wSq wr.heap.size q2 (a.tmps.getD 43 undef) W := (hp.on_ 4 rfl rfl rfl).2
            obtain ⟨hown, hBW⟩ := hF.2 rfl
            obtain ⟨v', w', hr, ho, hg⟩ := own_appendq 0 hown (by omega) f6 hbw (fun k hk => (HGT.out k hk).2) (by omega)
            refine ⟨wanted_none rfl, v', w', run_app rfl ?_, ho, hg⟩
            show (Builtin.append_ _ _ #[a.tmps.getD 40 undef, a.tmps.getD 43 undef]).run _ W = _
            rw [f1]
            exact hr
          refine StepsM.cons (stepM_value rfl fun a W hp _ => ?_) ?_
          · have f1 : a.tmps.getD 3 undef = .pointer (some ⟨(w.heap.size + 1), 0, none⟩) := hp.old 3 rfl
            refine ⟨wanted_none rfl, _, _, run_fa rfl ?_, rfl, Below.refl _ _⟩
            show (Instr.fieldAt _ (a.tmps.getD 3 undef) 4).run _ W = _
            rw [f1]
            exact fa_node4 _ W
          exact StepsM.nil
        case last =>
          intro a W hI
          have hn : OwnQ W bq (a.tmps.getD 44 undef) (qs ++ [q2]) := hI.new 5 _ 44 rfl rfl rfl
          obtain ⟨_, hp3⟩ : wQe wr.heap.size q2 (a.tmps.getD 42 undef) W ∧ Par L W gp gw c T2 := hI.new 3 _ 42 rfl rfl rfl
          have f8 : a.tmps.getD 45 undef = .pointer (some ⟨(w.heap.size + 1), 4, none⟩) := hI.new 6 _ 45 rfl rfl rfl
          obtain ⟨g, _, hx⟩ := hI.puts [39, 40, 41, 42, 43, 44, 45] rfl
          obtain ⟨x9, k9, f7⟩ := ownq_slice hn
          rw [f7] at hn
          have hsz := hI.rel.size
          have hnW := NV.rel hgp hlo hbb HNV.out (fun k hk => (HGT.out k hk).1) HROWS.out hI.rel hp3
          have hc5 := cell_of_row W (w.heap.size + 1) 4 _ _ _ hnW.row
          have hf5 := frozen_of_row W (w.heap.size + 1) 4 _ _ hnW.row
          clear hI
          refine wpOp_of rfl (wanted_none rfl) ?_
          unfold Oper.wp
          rw [run_stq rfl (show a.eval (.tmp 45) = _ from f8) (show a.eval (.tmp 44) = _ from f7) hc5 hf5, Oper.upon_skip]
          have HN5 : Hid (NV L w gp gw c (w.heap.size + 1) #[.string nm, .slice xi ins.length ci, .slice xo outs.length co, .slice none locs.length 0, .slice x9 (qs ++ [q2]).length k9, .int .i64 (at0 : Int)] [(.slice xi ins.length ci, ins), (.slice xo outs.length co, outs), (.slice none locs.length 0, locs)] (W.setCell ⟨w.heap.size + 1, 4, none⟩ (.slice x9 (qs ++ [q2]).length k9)) T2) := Lib.hid (hnW.put hgp hgw hlo 4 (.slice x9 (qs ++ [q2]).length k9))
          have HO5 := Lib.hid (ownq_cell (j := 4) (u := .slice x9 (qs ++ [q2]).length k9) hn hbb)
          have hbw2 : bq < (W.setCell ⟨w.heap.size + 1, 4, none⟩ (.slice x9 (qs ++ [q2]).length k9)).heap.size := by simp; omega
          have HBW := Lib.hid hbw2
          clear hnW hc5 hf5 hn hp3 f7 f8 hbw2
          subst hx
          simp only [List.foldl_cons, List.foldl_nil]
          simp only [Act.put, List.setIfInBounds_toArray, List.set_cons_succ, List.set_cons_zero]
          simp only [Exit.inBlock, Exit.then]
          refine ⟨⟨_, _, _, _, _, _, _, _, _, ⟨k', qs ++ [q2], T2, _, HEQ1.out, HEQ2.out, hl1, hok2, hql2, HBW.out, HN5.out, HO5.out⟩, rfl⟩, ?_⟩
          rw [leftOf_par HN5.out.par, HLF.out]
          have := HN5.out.par.lt
          omega
  · have k8 := K8.out _ HN8.out.par
    clear K8
    go_wp2_with fail
    (with_reducible refine k8.mono ?_)
    rintro e w9 ⟨v9, rfl, hown, hp, hg⟩
    obtain ⟨locs, hlocs⟩ : ∃ l, l = (localsS L S7).1 := ⟨_, rfl⟩
    obtain ⟨S8, hS8⟩ : ∃ l, l = (localsS L S7).2 := ⟨_, rfl⟩
    rw [← hlocs] at hown
    rw [← hS8] at hp HL8
    obtain ⟨xl, cl, rfl⟩ := own_is hown
    have hz9 : w.heap.size + 2 ≤ w9.heap.size := Nat.le_trans hz8 hg.size
    have hn9 := (HN8.out.step hgp hlo hg hp).add hown (by omega)
    have c93 := cell_of_row w9 (w.heap.size + 1) 3 _ _ _ hn9.row
    have f93 := frozen_of_row w9 (w.heap.size + 1) 3 _ _ hn9.row
    have HN9 : Hid (NV L w gp gw c (w.heap.size + 1) #[.string nm, .slice xi ins.length ci, .slice xo outs.length co, .slice xl locs.length cl, .slice none 0 0, .int .i64 (at0 : Int)] [(.slice xi ins.length ci, ins), (.slice xo outs.length co, outs), (.slice xl locs.length cl, locs)] (w9.setCell ⟨w.heap.size + 1, 3, none⟩ (.slice xl locs.length cl)) S8) := Lib.hid (hn9.put hgp hgw hlo 3 (.slice xl locs.length cl))
    have hz9' : w.heap.size + 2 ≤ (w9.setCell ⟨w.heap.size + 1, 3, none⟩ (.slice xl locs.length cl)).heap.size := by simp; omega
    have HZ9 := Lib.hid hz9'
    have HRR2 : Hid (RR = (⟨nm, ins, outs, locs, (eqsL L L.length (needS L (bs [108, 101, 116]) S8)).1, at0⟩, (takeS L (bs [59]) (needS L (bs [116, 101, 108]) (eqsL L L.length (needS L (bs [108, 101, 116]) S8)).2)).2)) := Lib.hid (by rw [HRR.out, hlocs, hS8]; simp)
    clear HRR hp hg hown k8 HN8 hn9 hlocs hS8 hz9'
    have HRR := HRR2
    clear HRR2
    have kl := KNL.out _ _ HN9.out.par
    have HLE := Lib.hid (l_need HE.out (bs [108, 101, 116]) HL8.out.2.1 HL8.out.2.2)
    obtain ⟨S9, hS9⟩ : ∃ v, v = needS L (bs [108, 101, 116]) S8 := ⟨_, rfl⟩
    obtain ⟨RQ, hRQ⟩ : ∃ v, v = eqsL L L.length S9 := ⟨_, rfl⟩
    rw [← hS9] at kl HLE
    have HRQ := Lib.hid hRQ
    have HEQ : Hid (RR = (⟨nm, ins, outs, locs, RQ.1, at0⟩, (takeS L (bs [59]) (needS L (bs [116, 101, 108]) RQ.2)).2)) := Lib.hid (by rw [HRR.out, hRQ, hS9])
    clear hS9 hRQ HRR
    go_wp2_with fail
    (with_reducible refine kl.mono ?_)
    rintro e w10 ⟨rfl, hp, hg⟩
    have HN10 := Lib.hid (HN9.out.step hgp hlo hg hp)
    have hz10 : w.heap.size + 2 ≤ w10.heap.size := Nat.le_trans HZ9.out hg.size
    obtain ⟨bq, hbq⟩ : ∃ bq, bq = w10.heap.size - 1 := ⟨_, rfl⟩
    have hrows : ∀ p ∈ ([(.slice xi ins.length ci, ins), (.slice xo outs.length co, outs), (.slice xl locs.length cl, locs)] : List (Value × List Vr)), ∀ k, p.1.ownBlock = some k → k ≤ bq := fun p hm k hk => by have := (HN10.out.vars p hm).lt k hk; omega
    have HROWS := Lib.hid hrows
    have hbb : w.heap.size + 1 ≤ bq := by omega
    have HBQ : Hid (bq < w10.heap.size) := Lib.hid (by omega)
    clear hp hg kl HN9 hrows hbq
    go_wp2_with fail
    go_loopw [] (fun wr => ∃ (k : Nat) (qs : List Qe) (S : St) (V : Value), qs ++ (eqsL L k S).1 = RQ.1 ∧ (eqsL L k S).2 = RQ.2 ∧ L.length ≤ k + S.i ∧ Ok L S ∧ qs.length ≤ S.i ∧ bq < wr.heap.size ∧ NV L w gp gw c (w.heap.size + 1) #[.string nm, .slice xi ins.length ci, .slice xo outs.length co, .slice xl locs.length cl, V, .int .i64 (at0 : Int)] [(.slice xi ins.length ci, ins), (.slice xo outs.length co, outs), (.slice xl locs.length cl, locs)] wr S ∧ OwnQ wr bq V qs)
      (fun wr => leftOf gp wr)
    case atStart => exact ⟨L.length, [], S9, .slice none 0 0, by rw [HRQ.out]; rfl, by rw [HRQ.out], by omega, HLE.out.2.2, Nat.zero_le _, HBQ.out, HN10.out, OwnQ.nil _ _⟩
    case round =>
      obtain ⟨k, qs, S, V, hR1, hR2, hfk, hok, hql, hbw, hnv, hoq⟩ := hrel
      have hltS := hnv.par.lt
      have hleft := leftOf_par hnv.par
      have few := HE.out.few
      have ki : Calls Tryz.prog 60 #[.pointer (some ⟨gp, 0, none⟩)] wr fun e w' => e = .returned (.bool (isNameS L S)) ∧ w' = wr := isName_any L wr gp gw c S hnv.par
      have hstop := eqsL_stop L k S
      have hgo : isNameS L S = true → ∃ k', k = k' + 1 ∧ eqsL L k S = ((eqS L S).1 :: (eqsL L k' (eqS L S).2).1, (eqsL L k' (eqS L S).2).2) ∧ L.length ≤ k' + (eqS L S).2.i ∧ Ok L (eqS L S).2 ∧ S.i + 1 ≤ (eqS L S).2.i := fun hb => by
        have h1 := eqS_later HE.out hltS hok
        have h2 := h1.2 hb
        obtain ⟨k', rfl⟩ : ∃ k', k = k' + 1 := ⟨k - 1, by omega⟩
        exact ⟨k', rfl, eqsL_go L k' S hb, by omega, h1.1.2.2, by omega⟩
      have kq := fun W (hp : Par L W gp gw c S) => eq_any L HE.out W gp gw c S hp hok
      obtain ⟨b3, hb3'⟩ : ∃ b, b = isNameS L S := ⟨_, rfl⟩
      rw [← hb3'] at hgo hstop ki
      obtain ⟨q2, hq2⟩ : ∃ v, v = (eqS L S).1 := ⟨_, rfl⟩
      obtain ⟨T2, hT2⟩ : ∃ v, v = (eqS L S).2 := ⟨_, rfl⟩
      rw [← hq2, ← hT2] at hgo
      simp only [← hq2, ← hT2] at kq
      have HR1 := Lib.hid hR1
      have HR2 := Lib.hid hR2
      have HGO := Lib.hid hgo
      have HST := Lib.hid hstop
      have HLF := Lib.hid hleft
      have KQ := Lib.hid kq
      have HNV := Lib.hid hnv
      have HOQ := Lib.hid hoq
      clear hR1 hR2 hgo hstop hleft kq hb3' hq2 hT2 hnv hoq HN10 HRQ
      cases b3
      · have e1 := HR1.out
        have e2 := HR2.out
        rw [HST.out rfl] at e1 e2
        simp only [List.append_nil] at e1 e2
        have HE1 := Lib.hid e1
        have HE2 := Lib.hid e2
        have kt := KNT.out _ _ HNV.out.par
        clear e1 e2 HR1 HR2 HGO HST KQ
        obtain ⟨xq, cq, rfl⟩ := ownq_slice HOQ.out
        go_wp2_with fail
        (with_reducible refine ki.mono ?_)
        rintro e w' ⟨rfl, hw'⟩
        rw [hw']
        clear hw' w' ki
        go_wp2_with fail
        (with_reducible refine kt.mono ?_)
        rintro e w11 ⟨rfl, hp, hg⟩
        have HN11 := Lib.hid (HNV.out.step hgp hlo hg hp)
        have HO11 := Lib.hid (HOQ.out.kept hg (fun k hk => by injection hk with hk; omega))
        have ks := KT.out _ _ hp
        clear hp hg kt HNV HOQ
        go_wp2_with fail
        (with_reducible refine ks.mono ?_)
        rintro e w12 ⟨rfl, hp, hg⟩
        have HN12 := Lib.hid (HN11.out.step hgp hlo hg hp)
        have HO12 := Lib.hid (HO11.out.kept hg (fun k hk => by injection hk with hk; omega))
        have LB := Lib.hid HN12.out.row
        have LR := Lib.hid HN12.out.res
        clear hp hg ks HN11 HO11
        go_wp2_with (first | (refine wpList_load_row rfl 41 (.tmp 3) rfl (w.heap.size + 1) rfl 41 #[.string nm, .slice xi ins.length ci, .slice xo outs.length co, .slice xl locs.length cl, .slice xq qs.length cq, .int .i64 (at0 : Int)] (0, 0) _ LB.out Tryz.underlying41 rfl HSN.out ?_) | (refine wpList_store_row rfl 41 (.tmp 2) (.tmp 50) rfl w.heap.size #[.string nm, .slice xi ins.length ci, .slice xo outs.length co, .slice xl locs.length cl, .slice xq qs.length cq, .int .i64 (at0 : Int)] rfl rfl 41 _ LR.out HSN.out rfl (node_one _ _ _ _ _ _ _ _ _ _ _ _ _ _) ?_))
        have hset := setRow_heap w12 w.heap.size _ #[.string nm, .slice xi ins.length ci, .slice xo outs.length co, .slice xl locs.length cl, .slice xq qs.length cq, .int .i64 (at0 : Int)] _ _ LR.out
        refine bodyPost_ret (v := .agg #[.string nm, .slice xi ins.length ci, .slice xo outs.length co, .slice xl locs.length cl, .slice xq qs.length cq, .int .i64 (at0 : Int)]) (results_cell_row (p := 2) (ty := 41) rfl _ _ w.heap.size 41 _ (0, 0) _ rfl hset Tryz.underlying41 rfl HSN.out) rfl ?_
        rw [HEQ.out, ← HE1.out, ← HE2.out]
        have hv := HN12.out.vars
        exact ⟨_, _, _, _, rfl, ⟨own_weaken' (own_row (hv _ (.head _)) (Nat.lt_succ_of_lt hlo)) (by omega), own_weaken' (own_row (hv _ (.tail _ (.head _))) (Nat.lt_succ_of_lt hlo)) (by omega), own_weaken' (own_row (hv _ (.tail _ (.tail _ (.head _)))) (Nat.lt_succ_of_lt hlo)) (by omega), (ownq_row HO12.out (by omega)).mono (by omega)⟩, HN12.out.par.keep (setRow_other w12 w.heap.size gp _ (by omega)) (setRow_other w12 w.heap.size gw _ (by omega)) (by rw [setRow_size]; exact Nat.le_refl _), gb_setRow HN12.out.gb _ (Nat.le_refl _) _⟩
      · obtain ⟨k', hk', hel, hl1, hok2, hl3⟩ := HGO.out rfl
        have HEQ1 : Hid ((qs ++ [q2]) ++ (eqsL L k' T2).1 = RQ.1) := Lib.hid (by rw [← HR1.out, hel]; simp)
        have HEQ2 : Hid ((eqsL L k' T2).2 = RQ.2) := Lib.hid (by rw [← HR2.out, hel])
        have hql2 : (qs ++ [q2]).length ≤ T2.i := by simp; omega
        have hgt := HOQ.out.gt
        have hltb : (w.heap.size + 1) < wr.heap.size := by omega
        have hV : ∀ k, V.ownBlock = some k → k ≠ gp ∧ k ≠ gw := fun k hk => by have := hgt k hk; omega
        have hcV := cell_of_row wr (w.heap.size + 1) 4 _ _ _ HNV.out.row
        have HCV := Lib.hid hcV
        have HVV := Lib.hid hV
        have HGT := Lib.hid hgt
        clear HR1 HR2 HGO HST hel hk' hgt hV hcV
        go_wp2_with fail
        (with_reducible refine ki.mono ?_)
        rintro e w' ⟨rfl, hw'⟩
        rw [hw']
        clear hw' w' ki
        go_wp2_with fail
        refine wp_region_stepsM_then (words [wIs (.pointer (some ⟨(w.heap.size + 1), 4, none⟩)), wIs V, wIs (.pointer (some ⟨gp, 0, none⟩)), (fun v W => wQe wr.heap.size q2 v W ∧ Par L W gp gw c T2), wSq wr.heap.size q2, (fun v W => OwnQ W bq v (qs ++ [q2])), wIs (.pointer (some ⟨(w.heap.size + 1), 4, none⟩))]) (RelK gp V) (RK gp V 3 5) (FQ L gp gw c S bq V qs wr.heap.size 3 5) (by kernel_rfl) (fun a b c => RelK.trans a b c) (fun i W W' h => h.rel) (fun i j W W' hne h hr => FQ.keep (by decide) (by omega) HVV.out i j W W' hne h hr) (RK.rel (kx := 3) (ka := 5) (i := 0) (by unfold RK; exact (Below.refl _ _).drew)) (FQ.start HNV.out.par HOQ.out (Nat.le_refl _)) ?hst rfl rfl rfl (by kernel_rfl) 7 _ rfl rfl ?steps ?last
        case hst =>
          intro i j v W W' hne hv hr
          unfold RK at hr
          match j, hne, hv with
          | 0, _, hv => exact hv
          | 1, _, hv => exact hv
          | 2, _, hv => exact hv
          | 3, hne, hv =>
            rw [if_neg (Ne.symm hne)] at hr
            split at hr
            · exact ⟨wQe_own hv.1 hr (fun k hk => (HGT.out k hk).2), hv.2.own hr HVV.out⟩
            · exact ⟨wQe_own hv.1 (gb_below (r := none) hr) (fun k hk => by simp at hk), hv.2.below hr⟩
          | 4, _, hv =>
            split at hr
            · exact wSq_own hv hr (fun k hk => by injection hk with hk; omega)
            · split at hr
              · exact wSq_own hv hr (fun k hk => (HGT.out k hk).2)
              · exact wSq_own hv (gb_below (r := none) hr) (fun k hk => by simp at hk)
          | 5, hne, hv =>
            split at hr
            · exact OwnQ.kept hv hr (fun k hk => by injection hk with hk; omega)
            · rw [if_neg (Ne.symm hne)] at hr
              exact OwnQ.below hv hr
          | 6, _, hv => exact hv
          | _ + 7, _, _ => trivial
        case steps =>
          refine StepsM.cons (stepM_value rfl fun a W hp _ => ?_) ?_
          · have f1 : a.tmps.getD 3 undef = .pointer (some ⟨(w.heap.size + 1), 0, none⟩) := hp.old 3 rfl
            refine ⟨wanted_none rfl, _, _, run_fa rfl ?_, rfl, Below.refl _ _⟩
            show (Instr.fieldAt _ (a.tmps.getD 3 undef) 4).run _ W = _
            rw [f1]
            exact fa_node4 _ W
          refine StepsM.cons (stepM_value rfl fun a W hp _ => ?_) ?_
          · have f1 : a.tmps.getD 39 undef = .pointer (some ⟨(w.heap.size + 1), 4, none⟩) := (hp.on_ 0 rfl rfl rfl).2
            have hc : W.cell? ⟨(w.heap.size + 1), 4, none⟩ = some V := by
              simp only [World.cell?]
              rw [hp.rel.block (w.heap.size + 1) hltb (by omega) (fun e => by have := (HGT.out _ e.symm).1; omega)]
              exact HCV.out
            exact ⟨wanted_none rfl, _, _, run_ldq rfl f1 hc, rfl, Below.refl _ _⟩
          refine StepsM.cons (stepM_value rfl fun a W hp _ => ⟨wanted_none rfl, _, _, run_move (.inl rfl), (hp.old 0 rfl), Below.refl _ _⟩) ?_
          refine StepsM.cons (stepM_enter rfl fun a W hp hF => ?_) ?_
          · have f1 : a.tmps.getD 41 undef = .pointer (some ⟨gp, 0, none⟩) := (hp.on_ 2 rfl rfl rfl).2
            refine ⟨wanted_none rfl, 61, _, run_enter1 rfl rfl Tryz.call61, ?_⟩
            show Calls _ _ #[a.tmps.getD 41 undef] W _
            rw [f1]
            refine (KQ.out W (hF.1 rfl)).mono ?_
            rintro e W' ⟨o2, m2, n2, a2, x2, l2, c2, rfl, hi2, hp2, hg2⟩
            have := hp.rel.size
            exact ⟨_, rfl, ⟨⟨o2, m2, n2, a2, x2, l2, c2, rfl, hi2.mono (by omega) _⟩, hp2⟩, hg2⟩
          refine StepsM.cons (stepM_value rfl fun a W hp _ => ?_) ?_
          · obtain ⟨⟨o2, m2, n2, a2, x2, l2, c2, f3, hi2⟩, hp2⟩ : wQe wr.heap.size q2 (a.tmps.getD 42 undef) W ∧ Par L W gp gw c T2 := (hp.on_ 3 rfl rfl rfl).2
            have := hp.rel.size
            refine ⟨wanted_none rfl, _, _, run_bsl1 rfl ?_, wSq_new (by omega) hi2, (Below.refl _ _).alloc (Nat.le_refl _) _⟩
            show (Instr.buildSlice _ 1 #[(0, a.tmps.getD 42 undef)]).run _ W = _
            rw [f3]
            exact slice_q _ _ _ _ _ _ _ _ _ W
          refine StepsM.cons (stepM_value rfl fun a W hp hF => ?_) ?_
          · have f1 : a.tmps.getD 40 undef = V := (hp.on_ 1 rfl rfl rfl).2
            have f6 : wSq wr.heap.size q2 (a.tmps.getD 43 undef) W := (hp.on_ 4 rfl rfl rfl).2
            obtain ⟨hown, hBW⟩ := hF.2 rfl
            obtain ⟨v', w', hr, ho, hg⟩ := own_appendq 0 hown (by omega) f6 hbw (fun k hk => (HGT.out k hk).2) (by omega)
            refine ⟨wanted_none rfl, v', w', run_app rfl ?_, ho, hg⟩
            show (Builtin.append_ _ _ #[a.tmps.getD 40 undef, a.tmps.getD 43 undef]).run _ W = _
            rw [f1]
            exact hr
          refine StepsM.cons (stepM_value rfl fun a W hp _ => ?_) ?_
          · have f1 : a.tmps.getD 3 undef = .pointer (some ⟨(w.heap.size + 1), 0, none⟩) := hp.old 3 rfl
            refine ⟨wanted_none rfl, _, _, run_fa rfl ?_, rfl, Below.refl _ _⟩
            show (Instr.fieldAt _ (a.tmps.getD 3 undef) 4).run _ W = _
            rw [f1]
            exact fa_node4 _ W
          exact StepsM.nil
        case last =>
          intro a W hI
          have hn : OwnQ W bq (a.tmps.getD 44 undef) (qs ++ [q2]) := hI.new 5 _ 44 rfl rfl rfl
          obtain ⟨_, hp3⟩ : wQe wr.heap.size q2 (a.tmps.getD 42 undef) W ∧ Par L W gp gw c T2 := hI.new 3 _ 42 rfl rfl rfl
          have f8 : a.tmps.getD 45 undef = .pointer (some ⟨(w.heap.size + 1), 4, none⟩) := hI.new 6 _ 45 rfl rfl rfl
          obtain ⟨g, _, hx⟩ := hI.puts [39, 40, 41, 42, 43, 44, 45] rfl
          obtain ⟨x9, k9, f7⟩ := ownq_slice hn
          rw [f7] at hn
          have hsz := hI.rel.size
          have hnW := NV.rel hgp hlo hbb HNV.out (fun k hk => (HGT.out k hk).1) HROWS.out hI.rel hp3
          have hc5 := cell_of_row W (w.heap.size + 1) 4 _ _ _ hnW.row
          have hf5 := frozen_of_row W (w.heap.size + 1) 4 _ _ hnW.row
          clear hI
          refine wpOp_of rfl (wanted_none rfl) ?_
          unfold Oper.wp
          rw [run_stq rfl (show a.eval (.tmp 45) = _ from f8) (show a.eval (.tmp 44) = _ from f7) hc5 hf5, Oper.upon_skip]
          have HN5 : Hid (NV L w gp gw c (w.heap.size + 1) #[.string nm, .slice xi ins.length ci, .slice xo outs.length co, .slice xl locs.length cl, .slice x9 (qs ++ [q2]).length k9, .int .i64 (at0 : Int)] [(.slice xi ins.length ci, ins), (.slice xo outs.length co, outs), (.slice xl locs.length cl, locs)] (W.setCell ⟨w.heap.size + 1, 4, none⟩ (.slice x9 (qs ++ [q2]).length k9)) T2) := Lib.hid (hnW.put hgp hgw hlo 4 (.slice x9 (qs ++ [q2]).length k9))
          have HO5 := Lib.hid (ownq_cell (j := 4) (u := .slice x9 (qs ++ [q2]).length k9) hn hbb)
          have hbw2 : bq < (W.setCell ⟨w.heap.size + 1, 4, none⟩ (.slice x9 (qs ++ [q2]).length k9)).heap.size := by simp; omega
          have HBW := Lib.hid hbw2
          clear hnW hc5 hf5 hn hp3 f7 f8 hbw2
          subst hx
          simp only [List.foldl_cons, List.foldl_nil]
          simp only [Act.put, List.setIfInBounds_toArray, List.set_cons_succ, List.set_cons_zero]
          simp only [Exit.inBlock, Exit.then]
          refine ⟨⟨_, _, _, _, _, _, _, _, _, ⟨k', qs ++ [q2], T2, _, HEQ1.out, HEQ2.out, hl1, hok2, hql2, HBW.out, HN5.out, HO5.out⟩, rfl⟩, ?_⟩
          rw [leftOf_par HN5.out.par, HLF.out]
          have := HN5.out.par.lt
          omega
end Go.Proofs.YtjlnihennlkmpaaGreatDoor

namespace Go.Proofs.YtjlnihennlkmpaaGreatDoor
open Go Go.RowKit
theorem varS_later {L : List Wd} (hE : GoodE L) (q : Nat) {S : St} (h : S.i < L.length) (ho : Ok L S) (hn : S.names ≤ S.i + q) : Later L S (varS L S).2 := by
  unfold varS
  split
  · have h1 := l_next hE h ho
    exact h1.trans (localsS_later hE q h1.2.1 h1.2.2 (by rw [nextS_names]; have := h1.1; omega)).1
  · exact Later.refl h ho
theorem nodeS_later {L : List Wd} (hE : GoodE L) {S : St} (h : S.i < L.length) (ho : Ok L S) : Later L S (nodeS L S).2 ∧ ((cur L S).kind ≠ 0 → S.i < (nodeS L S).2.i) := by
  have l0 : Later L S (zeroN S) := ⟨Nat.le_refl _, h, ho⟩
  have z0 : (zeroN S).names = 0 := rfl
  have l1 := l_need hE (bs [110, 111, 100, 101]) l0.2.1 l0.2.2
  have z1 := needS_names L (bs [110, 111, 100, 101]) (zeroN S)
  have l2 := l_name hE l1.2.1 l1.2.2
  have z2 := nameS_names L (needS L (bs [110, 111, 100, 101]) (zeroN S))
  have l3 := declsS_later hE 0 l2.2.1 l2.2.2 (by omega)
  have l4 := l_need hE (bs [114, 101, 116, 117, 114, 110, 115]) l3.1.2.1 l3.1.2.2
  have z4 := needS_names L (bs [114, 101, 116, 117, 114, 110, 115]) (declsS L (nameS L (needS L (bs [110, 111, 100, 101]) (zeroN S))).2).2
  have l5 := declsS_later hE 1 l4.2.1 l4.2.2 (by have := l3.2; have := l4.1; omega)
  have l6 := l_need hE (bs [59]) l5.1.2.1 l5.1.2.2
  have z6 := needS_names L (bs [59]) (declsS L (needS L (bs [114, 101, 116, 117, 114, 110, 115]) (declsS L (nameS L (needS L (bs [110, 111, 100, 101]) (zeroN S))).2).2)).2
  have l7 := varS_later hE 2 l6.2.1 l6.2.2 (by have := l5.2; have := l6.1; omega)
  have l8 := l_need hE (bs [108, 101, 116]) l7.2.1 l7.2.2
  have l9 := eqsL_later hE L.length l8.2.1 l8.2.2
  have l10 := l_need hE (bs [116, 101, 108]) l9.2.1 l9.2.2
  have l11 := l_take hE (bs [59]) l10.2.1 l10.2.2
  have hr := l2.trans (l3.1.trans (l4.trans (l5.1.trans (l6.trans (l7.trans (l8.trans (l9.trans (l10.trans l11))))))))
  refine ⟨l0.trans (l1.trans hr), fun hk => ?_⟩
  refine Nat.lt_of_lt_of_le ?_ hr.1
  have hl := hE.good.2 S.i h hk
  show S.i < (needS L (bs [110, 111, 100, 101]) (zeroN S)).i
  unfold needS
  split
  · rw [nextS_lt (st := zeroN S) hk]; exact Nat.lt_succ_self _
  · unfold failS
    split
    · show S.i < L.length - 1; omega
    · rename_i he
      have := ho.2 he
      omega
def limS (L : List Wd) (n : Nat) (st : St) : St := if isS L (bs [110, 111, 100, 101]) st = true ∧ n = 32 then failS L 2 st else st
def programL (L : List Wd) : Nat → Nat → St → List Nd × St
  | 0, _, st => ([], st)
  | k + 1, n, st => if (cur L st).kind ≠ 0 then ((nodeS L (limS L n st)).1 :: (programL L k (n + 1) (nodeS L (limS L n st)).2).1, (programL L k (n + 1) (nodeS L (limS L n st)).2).2) else ([], st)
def programS (L : List Wd) (st : St) : List Nd × St := ((nodeS L st).1 :: (programL L L.length 1 (nodeS L st).2).1, (programL L L.length 1 (nodeS L st).2).2)
theorem programL_stop (L : List Wd) (k n : Nat) (S : St) (h : (cur L S).kind = 0) : programL L k n S = ([], S) := by
  cases k with
  | zero => rfl
  | succ k => unfold programL; simp [h]
theorem programL_go (L : List Wd) (k n : Nat) (S : St) (h : (cur L S).kind ≠ 0) : programL L (k + 1) n S = ((nodeS L (limS L n S)).1 :: (programL L k (n + 1) (nodeS L (limS L n S)).2).1, (programL L k (n + 1) (nodeS L (limS L n S)).2).2) := by
  conv => lhs; unfold programL
  simp [h]
theorem limS_later {L : List Wd} (n : Nat) {S : St} (h : S.i < L.length) (ho : Ok L S) (hk : (cur L S).kind ≠ 0) (hG : Good L) : Later L S (limS L n S) ∧ ((cur L (limS L n S)).kind ≠ 0 ∨ S.i < (limS L n S).i) := by
  unfold limS
  split
  · refine ⟨l_fail 2 h ho, .inr ?_⟩
    have hl := hG.2 S.i h hk
    unfold failS
    split
    · show S.i < L.length - 1; omega
    · rename_i he
      have := ho.2 he
      omega
  · exact ⟨Later.refl h ho, .inl hk⟩
theorem own_same {w w' : World} {base : Nat} {e : TypeId} {size n : Nat} {v : Value} {xs : List Value} (h : w.ownsRow base e size v n xs) (hb : ∀ k, v.ownBlock = some k → w'.heap[k]? = w.heap[k]?) : w'.ownsRow base e size v n xs := by
  rcases h.2 with h1 | ⟨g, cap, cur, e1, e2, e3, e4⟩
  · exact ⟨h.1, .inl h1⟩
  · exact ⟨h.1, .inr ⟨g, cap, cur, e1, e2, (hb g (by rw [e1]; rfl)).trans e3, e4⟩⟩
/-- A node, its blocks told by a predicate. -/
structure IsNP (ok : Nat → Prop) (w : World) (vi vo vl ve : Value) (nd : Nd) : Prop where
  ins : w.ownsRow 0 88 5 vi nd.ins.length (varsC nd.ins)
  outs : w.ownsRow 0 88 5 vo nd.outs.length (varsC nd.outs)
  locs : w.ownsRow 0 88 5 vl nd.locs.length (varsC nd.locs)
  eqs : ∃ xs, w.ownsRow 0 56 7 ve nd.eqs.length xs ∧ RowsQ ok w xs nd.eqs
  all : ∀ v, v = vi ∨ v = vo ∨ v = vl ∨ v = ve → ∀ k, v.ownBlock = some k → ok k ∧ k < w.heap.size
theorem IsNP.keep {ok ok' : Nat → Prop} {w w' : World} {vi vo vl ve : Value} {nd : Nd} (h : IsNP ok w vi vo vl ve nd) (hs : w.heap.size ≤ w'.heap.size) (hb : ∀ k, ok k → k < w.heap.size → w'.heap[k]? = w.heap[k]?) (ho : ∀ k, ok k → k < w.heap.size → ok' k) : IsNP ok' w' vi vo vl ve nd := by
  have hk : ∀ v, v = vi ∨ v = vo ∨ v = vl ∨ v = ve → ∀ k, v.ownBlock = some k → w'.heap[k]? = w.heap[k]? := fun v hv k hk => hb k (h.all v hv k hk).1 (h.all v hv k hk).2
  obtain ⟨xs, h1, h2⟩ := h.eqs
  exact ⟨own_same h.ins (hk vi (.inl rfl)), own_same h.outs (hk vo (.inr (.inl rfl))), own_same h.locs (hk vl (.inr (.inr (.inl rfl)))), ⟨xs, own_same h1 (hk ve (.inr (.inr (.inr rfl)))), h2.keep hs hb ho⟩, fun v hv k hkk => ⟨ho k (h.all v hv k hkk).1 (h.all v hv k hkk).2, Nat.lt_of_lt_of_le (h.all v hv k hkk).2 hs⟩⟩
theorem IsN.toP {B : Nat} {ok : Nat → Prop} {w : World} {vi vo vl ve : Value} {nd : Nd} (h : IsN B w vi vo vl ve nd) (ho : ∀ k, B ≤ k → k < w.heap.size → ok k) : IsNP ok w vi vo vl ve nd := by
  obtain ⟨xs, h1, h2⟩ := h.eqs
  refine ⟨own_weaken' h.ins (Nat.zero_le _), own_weaken' h.outs (Nat.zero_le _), own_weaken' h.locs (Nat.zero_le _), ⟨xs, own_weaken' h1 (Nat.zero_le _), h2.keep (Nat.le_refl _) (fun _ _ _ => rfl) (fun k hk hl => ho k (by omega) hl)⟩, fun v hv k hk => ?_⟩
  rcases hv with rfl | rfl | rfl | rfl
  · have := h.ins.lt k hk; exact ⟨ho k this.1 this.2, this.2⟩
  · have := h.outs.lt k hk; exact ⟨ho k this.1 this.2, this.2⟩
  · have := h.locs.lt k hk; exact ⟨ho k this.1 this.2, this.2⟩
  · have := h1.lt k hk; exact ⟨ho k (by omega) this.2, this.2⟩
def rowN (q : ByteArray) (vi vo vl ve : Value) (b : Int) : List Value := [.string q, vi, vo, vl, ve, .int .i64 b]
def RowsN (ok : Nat → Prop) (w : World) : List Value → List Nd → Prop
  | xs, [] => xs = []
  | xs, q :: r => ∃ vi vo vl ve ys, xs = rowN q.name vi vo vl ve (q.at_ : Int) ++ ys ∧ IsNP ok w vi vo vl ve q ∧ RowsN ok w ys r
theorem RowsN.keep {ok ok' : Nat → Prop} {w w' : World} (hs : w.heap.size ≤ w'.heap.size) (hb : ∀ k, ok k → k < w.heap.size → w'.heap[k]? = w.heap[k]?) (ho : ∀ k, ok k → k < w.heap.size → ok' k) : ∀ (es : List Nd) (xs : List Value), RowsN ok w xs es → RowsN ok' w' xs es
  | [], _, h => h
  | e :: r, xs, ⟨vi, vo, vl, ve, ys, h1, h2, h3⟩ => ⟨vi, vo, vl, ve, ys, h1, h2.keep hs hb ho, RowsN.keep hs hb ho r ys h3⟩
theorem RowsN.snoc {ok : Nat → Prop} {w : World} {vi vo vl ve : Value} {t : Nd} (ht : IsNP ok w vi vo vl ve t) : ∀ (es : List Nd) (xs : List Value), RowsN ok w xs es → RowsN ok w (xs ++ rowN t.name vi vo vl ve (t.at_ : Int)) (es ++ [t])
  | [], xs, h => ⟨vi, vo, vl, ve, [], by rw [show xs = [] from h]; simp, ht, rfl⟩
  | e :: r, xs, ⟨i1, o1, l1, e1, ys, h1, h2, h3⟩ => ⟨i1, o1, l1, e1, ys ++ rowN t.name vi vo vl ve (t.at_ : Int), by rw [h1, List.append_assoc], h2, RowsN.snoc ht r ys h3⟩
/-- A slice of nodes in a block of the call's own. -/
def OwnN (w : World) (b : Nat) (v : Value) (es : List Nd) : Prop := ∃ xs, w.ownsRow b 41 6 v es.length xs ∧ RowsN (fun k => b ≤ k ∧ some k ≠ v.ownBlock) w xs es
theorem OwnN.kept {w w' : World} {b gp : Nat} {v : Value} {es : List Nd} (h : OwnN w b v es) (hg : w.grownBy w' (some gp)) (hb : gp < b) : OwnN w' b v es := by
  obtain ⟨xs, h1, h2⟩ := h
  exact ⟨xs, own_keep h1 hg hb, h2.keep hg.size (fun k hk hl => hg.block k hl (by intro e; injection e with e; omega)) (fun _ h _ => h)⟩
theorem info_node6 : ∃ i, Tryz.prog.info? 41 = some i ∧ (∃ z, i.zero = some z ∧ z.cells.size = 6) ∧ i.size = 6 ∧ i.bytes = 120 := by
  have h : (Tryz.prog.info? 41).map (fun i => (i.zero.map (·.cells.size), i.size, i.bytes)) = some (some 6, 6, 120) := by kernel_rfl
  cases hi : Tryz.prog.info? 41 with
  | none => rw [hi] at h; simp at h
  | some i =>
    rw [hi] at h
    simp only [Option.map_some, Option.some.injEq, Prod.mk.injEq] at h
    obtain ⟨hz, hs, hb⟩ := h
    cases hzz : i.zero with
    | none => rw [hzz] at hz; simp at hz
    | some z => exact ⟨i, rfl, ⟨z, hzz, by rw [hzz] at hz; simpa using hz⟩, hs, hb⟩
/-- The row behind an append. -/
theorem OwnN.app {w w' : World} {b B : Nat} {v v' : Value} {es : List Nd} {xs : List Value} {t : Nd} {vi vo vl ve : Value} (h1 : w.ownsRow b 41 6 v es.length xs) (h2 : RowsN (fun k => b ≤ k ∧ some k ≠ v.ownBlock) w xs es) (hbB : b ≤ B) (hbo : ∀ k, v.ownBlock = some k → k < B) (ht : IsNP (fun k => B ≤ k) w vi vo vl ve t)
    (ho : w'.ownsRow b 41 6 v' (es.length + 1) (xs ++ rowN t.name vi vo vl ve (t.at_ : Int))) (hg : w.grownBy w' v.ownBlock) (hown : v'.ownBlock = v.ownBlock ∨ v'.ownBlock = some w.heap.size) : OwnN w' b v' (es ++ [t]) := by
  have hne : ∀ k, v'.ownBlock = some k → k < w.heap.size → v.ownBlock = some k := fun k hk hl => by
    rcases hown with e | e
    · rw [← e]; exact hk
    · exact absurd hl (by rw [← Option.some.inj (e.symm.trans hk)]; exact Nat.lt_irrefl _)
  refine ⟨_, by rw [List.length_append, List.length_singleton]; exact ho, RowsN.snoc ?_ _ _ (h2.keep hg.size (fun k hk hl => hg.block k hl hk.2) (fun k hk hl => ⟨hk.1, fun e => hk.2 (hne k e.symm hl).symm⟩))⟩
  exact ht.keep hg.size (fun k hk hl => hg.block k hl (fun e => by have := hbo k e.symm; omega)) (fun k hk hl => ⟨by omega, fun e => by have := hbo k (hne k e.symm hl); omega⟩)
def GivesP2 (L : List Wd) (gp gw c : Nat) (l : List Nd) (S : St) (w : World) (e : Ending) (w' : World) : Prop := ∃ v, e = .returned v ∧ OwnN w' w.heap.size v l ∧ Par L w' gp gw c S ∧ w.grownBy w' (some gp)
end Go.Proofs.YtjlnihennlkmpaaGreatDoor
