/-
  Texts that the statements stand on, part 2.
-/
import Derived.Test.YtjlnihennlkmpaaGreatDoorMa
import Derived.Maps.AppendAt
set_option linter.unusedVariables false
set_option linter.unusedSimpArgs false
namespace Go.Proofs.YtjlnihennlkmpaaGreatDoor
open Go Go.RowKit
set_option maxHeartbeats 4000000 in
set_option maxRecDepth 100000 in
theorem fby_any (L : List Wd) (hG : Good L) (d : Nat) (hd : d < 1000) (w : World) (gp gw c : Nat) (st : St) (h : Par L w gp gw c st) (t1 t2 : Ex) (S1 S2 : St) (hq : S1.parts < 1000000000)
    (hx1 : ∀ W, Par L W gp gw c st → Calls Tryz.prog 125 #[.pointer (some ⟨gp, 0, none⟩), .int .i64 (d : Int)] W (GivesX L gp gw c t1 S1 W))
    (hx2 : (betweenS L [bs [102, 98, 121]] S1).2.1 = true → ∀ W, Par L W gp gw c (betweenS L [bs [102, 98, 121]] S1).2.2 → Calls Tryz.prog 124 #[.pointer (some ⟨gp, 0, none⟩), .int .i64 ((d : Int) + 1)] W (GivesX L gp gw c t2 S2 W)) :
    Calls Tryz.prog 124 #[.pointer (some ⟨gp, 0, none⟩), .int .i64 (d : Int)] w (GivesX L gp gw c (if (betweenS L [bs [102, 98, 121]] S1).2.1 = true then twoS (betweenS L [bs [102, 98, 121]] S1).1 t1 t2 else t1) (if (betweenS L [bs [102, 98, 121]] S1).2.1 = true then S2 else (betweenS L [bs [102, 98, 121]] S1).2.2) w) := by
  have hb1 : Below w.heap.size w (w.alloc (.cells #[.string ⟨#[]⟩, .string ⟨#[]⟩, .int .i64 0, .int .i64 0, .slice none 0 0] 54)) := (Below.refl _ _).alloc (Nat.le_refl _) _
  have hn1 := heap_alloc_new w (.cells #[.string ⟨#[]⟩, .string ⟨#[]⟩, .int .i64 0, .int .i64 0, .slice none 0 0] 54)
  have h1 := h.below hb1
  have hgp := h.gpl
  have hgw := h.gwl
  have hs1 : (w.alloc (.cells #[.string ⟨#[]⟩, .string ⟨#[]⟩, .int .i64 0, .int .i64 0, .slice none 0 0] 54)).heap.size = w.heap.size + 1 := by simp
  have kx1 := hx1 _ h1
  have kb : ∀ W, Par L W gp gw c S1 → ∀ b, b < W.heap.size → StrsAt W b 0 [bs [102, 98, 121]] → Calls Tryz.prog 91 #[.pointer (some ⟨gp, 0, none⟩), .slice (some ⟨b, 0, none⟩) 1 1] W (GivesB L gp gw c (betweenS L [bs [102, 98, 121]] S1).1 (betweenS L [bs [102, 98, 121]] S1).2.1 (betweenS L [bs [102, 98, 121]] S1).2.2 W) := fun W hp b hb hs => between_any L hG W gp gw c S1 hp hq b 0 1 [bs [102, 98, 121]] hb hs (by decide)
  obtain ⟨y, hy⟩ : ∃ y, y = (betweenS L [bs [102, 98, 121]] S1).1 := ⟨_, rfl⟩
  obtain ⟨B, hB⟩ : ∃ B, B = (betweenS L [bs [102, 98, 121]] S1).2.1 := ⟨_, rfl⟩
  obtain ⟨R, hR⟩ : ∃ R, R = (betweenS L [bs [102, 98, 121]] S1).2.2 := ⟨_, rfl⟩
  rw [← hy, ← hB, ← hR] at kb ⊢
  rw [← hB, ← hR] at hx2
  have HX2 := Lib.hid hx2
  have HB1 := Lib.hid (gb_below (r := some gp) hb1)
  have HN1 := Lib.hid hn1
  have KB := Lib.hid kb
  have HSE := Lib.hid size_expr
  have HSW := Lib.hid size_word2
  clear hx1 hx2 hb1 hn1 h h1 kb hy hB hR
  obtain ⟨xk, xt, xn, xa⟩ := y
  unfold GivesB Wd.cells at KB
  have two_ := fun (W : World) (hw : w.heap.size + 1 ≤ W.heap.size) (o1 m1 : ByteArray) (n1 a1 : Int) (x1 : Option Addr) (l1 c1 : Nat) (o2 m2 : ByteArray) (n2 a2 : Int) (x2 : Option Addr) (l2 c2 : Nat) h1 h2 => two_any (w.heap.size + 1) ⟨xk, xt, xn, xa⟩ t1 t2 W hw o1 m1 n1 a1 x1 l1 c1 o2 m2 n2 a2 x2 l2 c2 h1 h2
  have TWO := Lib.hid two_
  clear two_
  cases B
  · rw [if_neg (by decide), if_neg (by decide)]
    go_enter Tryz.func124, Tryz.ntmps124
    go_wp2_with fail
    (with_reducible refine kx1.mono ?_)
    rintro e w2 ⟨o1, m1, n1, a1, x1, l1, c1, rfl, hi, hp, hg⟩
    unfold exV
    have hs2 : w.heap.size + 1 ≤ w2.heap.size := by rw [← hs1]; exact hg.size
    have hb2 : Below w2.heap.size w2 (w2.alloc (.cells #[.string o1, .string m1, .int .i64 n1, .int .i64 a1, .slice x1 l1 c1] 54)) := (Below.refl _ _).alloc (Nat.le_refl _) _
    have hn2 := heap_alloc_new w2 (.cells #[.string o1, .string m1, .int .i64 n1, .int .i64 a1, .slice x1 l1 c1] 54)
    have ha2 : (w2.alloc (.cells #[.string o1, .string m1, .int .i64 n1, .int .i64 a1, .slice x1 l1 c1] 54)).heap.size = w2.heap.size + 1 := by simp
    have hb3 : Below (w2.alloc (.cells #[.string o1, .string m1, .int .i64 n1, .int .i64 a1, .slice x1 l1 c1] 54)).heap.size (w2.alloc (.cells #[.string o1, .string m1, .int .i64 n1, .int .i64 a1, .slice x1 l1 c1] 54)) ((w2.alloc (.cells #[.string o1, .string m1, .int .i64 n1, .int .i64 a1, .slice x1 l1 c1] 54)).alloc (.cells #[.string ⟨#[102, 98, 121]⟩] 9)) := (Below.refl _ _).alloc (Nat.le_refl _) _
    have hn3 := heap_alloc_new (w2.alloc (.cells #[.string o1, .string m1, .int .i64 n1, .int .i64 a1, .slice x1 l1 c1] 54)) (.cells #[.string ⟨#[102, 98, 121]⟩] 9)
    have ha3 : ((w2.alloc (.cells #[.string o1, .string m1, .int .i64 n1, .int .i64 a1, .slice x1 l1 c1] 54)).alloc (.cells #[.string ⟨#[102, 98, 121]⟩] 9)).heap.size = w2.heap.size + 2 := by simp
    rw [ha2] at hn3
    have kb := KB.out _ ((hp.below hb2).below hb3) (w2.heap.size + 1) (by omega) (by
      intro j hj
      simp only [World.cell?, hn3]
      match j, hj with
      | 0, _ => rfl
      | _ + 1, hj => exact absurd hj (Nat.not_lt.2 (Nat.le_add_left _ _)))
    have HN2 := Lib.hid ((hb3.block w2.heap.size (by omega)).trans hn2)
    have HI := Lib.hid hi
    have HG2 := Lib.hid hg
    have HB3 := Lib.hid (gb_trans (gb_below (r := some gp) hb2) (gb_below hb3))
    clear hi hp hg hb2 hn2 hb3 hn3 ha2 kx1
    go_wp2_with fail
    (with_reducible refine kb.mono ?_)
    rintro e w4 ⟨rfl, hp, hg⟩
    have hs4 : w2.heap.size + 2 ≤ w4.heap.size := by rw [← ha3]; exact hg.size
    have hb5 : Below w4.heap.size w4 (w4.alloc (.cells #[.int .i64 (xk : Int), .string xt, .int .i64 xn, .int .i64 (xa : Int)] 77)) := (Below.refl _ _).alloc (Nat.le_refl _) _
    have HN5 := Lib.hid (heap_alloc_new w4 (.cells #[.int .i64 (xk : Int), .string xt, .int .i64 xn, .int .i64 (xa : Int)] 77))
    have ha5 : (w4.alloc (.cells #[.int .i64 (xk : Int), .string xt, .int .i64 xn, .int .i64 (xa : Int)] 77)).heap.size = w4.heap.size + 1 := by simp
    have HP := Lib.hid (hp.below hb5)
    have g5 := Lib.hid (gb_below (r := some gp) hb5)
    have g4 := Lib.hid (gb_trans hg g5.out)
    have g2 := Lib.hid (gb_trans HB3.out g4.out)
    have g1 := Lib.hid (gb_trans HG2.out g2.out)
    have g0 := Lib.hid (gb_trans HB1.out g1.out)
    have L1 := Lib.hid ((g4.out.block w2.heap.size (by omega) (by intro e; injection e with e; omega)).trans HN2.out)
    have LR := Lib.hid ((g1.out.block w.heap.size (by omega) (by intro e; injection e with e; omega)).trans HN1.out)
    have I5 := Lib.hid (HI.out.grown g2.out (by omega))
    clear hp hg hb5 kb HI HG2 HB3 HN2 HN1 KB HB1
    obtain ⟨w5, hw5⟩ : ∃ w5, w5 = (w4.alloc (.cells #[.int .i64 (xk : Int), .string xt, .int .i64 xn, .int .i64 (xa : Int)] 77)) := ⟨_, rfl⟩
    rw [← hw5] at ha5 HP g5 g4 g2 g1 g0 L1 LR I5 HN5
    have HW5 := Lib.hid hw5
    clear hw5
    go_wp2_with (first | (rw [← HW5.out]; refine wpList_load_row rfl 54 (.tmp 5) rfl w2.heap.size rfl 54 #[.string o1, .string m1, .int .i64 n1, .int .i64 a1, .slice x1 l1 c1] (0, 0) _ L1.out Tryz.underlying54 rfl HSE.out ?_) | (refine wpList_store_row rfl 54 (.tmp 4) (.tmp 25) rfl w.heap.size #[.string o1, .string m1, .int .i64 n1, .int .i64 a1, .slice x1 l1 c1] rfl rfl 54 _ LR.out HSE.out rfl (expr_one _ _ _ _ _ _ _) ?_))
    have hset := setRow_heap w5 w.heap.size _ #[.string o1, .string m1, .int .i64 n1, .int .i64 a1, .slice x1 l1 c1] _ _ LR.out
    refine bodyPost_ret (v := .agg #[.string o1, .string m1, .int .i64 n1, .int .i64 a1, .slice x1 l1 c1]) (results_cell_row (p := 4) (ty := 54) rfl _ _ w.heap.size 54 _ (0, 0) _ rfl hset Tryz.underlying54 rfl HSE.out) rfl ⟨o1, m1, n1, a1, x1, l1, c1, rfl, ?_, HP.out.keep (setRow_other w5 w.heap.size gp _ (by omega)) (setRow_other w5 w.heap.size gw _ (by omega)) (by rw [setRow_size]; exact Nat.le_refl _), gb_setRow g0.out _ (Nat.le_refl _) _⟩
    rw [hs1] at I5
    refine IsE.mono (B := w.heap.size + 1) (by omega) _ (I5.out.keep (by rw [setRow_size]; omega) (fun k h2 h3 => setRow_other w5 w.heap.size k _ (by omega)))
  · rw [if_pos rfl, if_pos rfl]
    go_enter Tryz.func124, Tryz.ntmps124
    go_wp2_with fail
    (with_reducible refine kx1.mono ?_)
    rintro e w2 ⟨o1, m1, n1, a1, x1, l1, c1, rfl, hi, hp, hg⟩
    unfold exV
    have hs2 : w.heap.size + 1 ≤ w2.heap.size := by rw [← hs1]; exact hg.size
    have hb2 : Below w2.heap.size w2 (w2.alloc (.cells #[.string o1, .string m1, .int .i64 n1, .int .i64 a1, .slice x1 l1 c1] 54)) := (Below.refl _ _).alloc (Nat.le_refl _) _
    have hn2 := heap_alloc_new w2 (.cells #[.string o1, .string m1, .int .i64 n1, .int .i64 a1, .slice x1 l1 c1] 54)
    have ha2 : (w2.alloc (.cells #[.string o1, .string m1, .int .i64 n1, .int .i64 a1, .slice x1 l1 c1] 54)).heap.size = w2.heap.size + 1 := by simp
    have hb3 : Below (w2.alloc (.cells #[.string o1, .string m1, .int .i64 n1, .int .i64 a1, .slice x1 l1 c1] 54)).heap.size (w2.alloc (.cells #[.string o1, .string m1, .int .i64 n1, .int .i64 a1, .slice x1 l1 c1] 54)) ((w2.alloc (.cells #[.string o1, .string m1, .int .i64 n1, .int .i64 a1, .slice x1 l1 c1] 54)).alloc (.cells #[.string ⟨#[102, 98, 121]⟩] 9)) := (Below.refl _ _).alloc (Nat.le_refl _) _
    have hn3 := heap_alloc_new (w2.alloc (.cells #[.string o1, .string m1, .int .i64 n1, .int .i64 a1, .slice x1 l1 c1] 54)) (.cells #[.string ⟨#[102, 98, 121]⟩] 9)
    have ha3 : ((w2.alloc (.cells #[.string o1, .string m1, .int .i64 n1, .int .i64 a1, .slice x1 l1 c1] 54)).alloc (.cells #[.string ⟨#[102, 98, 121]⟩] 9)).heap.size = w2.heap.size + 2 := by simp
    rw [ha2] at hn3
    have kb := KB.out _ ((hp.below hb2).below hb3) (w2.heap.size + 1) (by omega) (by
      intro j hj
      simp only [World.cell?, hn3]
      match j, hj with
      | 0, _ => rfl
      | _ + 1, hj => exact absurd hj (Nat.not_lt.2 (Nat.le_add_left _ _)))
    have HN2 := Lib.hid ((hb3.block w2.heap.size (by omega)).trans hn2)
    have HI := Lib.hid hi
    have HG2 := Lib.hid hg
    have HB3 := Lib.hid (gb_trans (gb_below (r := some gp) hb2) (gb_below hb3))
    clear hi hp hg hb2 hn2 hb3 hn3 ha2 kx1
    go_wp2_with fail
    (with_reducible refine kb.mono ?_)
    rintro e w4 ⟨rfl, hp, hg⟩
    have hs4 : w2.heap.size + 2 ≤ w4.heap.size := by rw [← ha3]; exact hg.size
    have hb5 : Below w4.heap.size w4 (w4.alloc (.cells #[.int .i64 (xk : Int), .string xt, .int .i64 xn, .int .i64 (xa : Int)] 77)) := (Below.refl _ _).alloc (Nat.le_refl _) _
    have HN5 := Lib.hid (heap_alloc_new w4 (.cells #[.int .i64 (xk : Int), .string xt, .int .i64 xn, .int .i64 (xa : Int)] 77))
    have ha5 : (w4.alloc (.cells #[.int .i64 (xk : Int), .string xt, .int .i64 xn, .int .i64 (xa : Int)] 77)).heap.size = w4.heap.size + 1 := by simp
    have HP := Lib.hid (hp.below hb5)
    have g5 := Lib.hid (gb_below (r := some gp) hb5)
    have g4 := Lib.hid (gb_trans hg g5.out)
    have g2 := Lib.hid (gb_trans HB3.out g4.out)
    have g1 := Lib.hid (gb_trans HG2.out g2.out)
    have g0 := Lib.hid (gb_trans HB1.out g1.out)
    have L1 := Lib.hid ((g4.out.block w2.heap.size (by omega) (by intro e; injection e with e; omega)).trans HN2.out)
    have LR := Lib.hid ((g1.out.block w.heap.size (by omega) (by intro e; injection e with e; omega)).trans HN1.out)
    have I5 := Lib.hid (HI.out.grown g2.out (by omega))
    clear hp hg hb5 kb HI HG2 HB3 HN2 HN1 KB HB1
    obtain ⟨w5, hw5⟩ : ∃ w5, w5 = (w4.alloc (.cells #[.int .i64 (xk : Int), .string xt, .int .i64 xn, .int .i64 (xa : Int)] 77)) := ⟨_, rfl⟩
    rw [← hw5] at ha5 HP g5 g4 g2 g1 g0 L1 LR I5 HN5
    have hx2 := HX2.out trivial
    have HX := Lib.hid hx2
    clear HX2 hx2
    have HW5 := Lib.hid hw5
    clear hw5
    go_wp2_with fail
    rw [← HW5.out]
    refine wp_region_stepsG_then (words [wIs (.agg #[.int .i64 (xk : Int), .string xt, .int .i64 xn, .int .i64 (xa : Int)]), wIs (.agg #[.string o1, .string m1, .int .i64 n1, .int .i64 a1, .slice x1 l1 c1]), wIs (.pointer (some ⟨gp, 0, none⟩)), wIs (.int .i64 (d : Int)), wIs (.int .i64 ((d : Int) + 1)), fun v W => wEx (w.heap.size + 1) t2 v W ∧ Par L W gp gw c S2, wEx (w.heap.size + 1) (twoS ⟨xk, xt, xn, xa⟩ t1 t2)]) (fun W W' => W.grownBy W' (some gp)) (fun W => Par L W gp gw c R) 5 (by kernel_rfl) (gbt gp) (gbb gp) (fun W W' hF hb => hF.below hb) HP.out (words_stable ?stab) ?stabr rfl rfl rfl (by kernel_rfl) (by decide) 7 _ rfl rfl ?steps ?last
    case stab =>
      intro f hf
      simp only [List.mem_cons, List.not_mem_nil, or_false] at hf
      rcases hf with rfl | rfl | rfl | rfl | rfl | rfl | rfl
      · exact stable_is _
      · exact stable_is _
      · exact stable_is _
      · exact stable_is _
      · exact stable_is _
      · exact fun v W W' hv hb => ⟨stable_ex _ _ v W W' hv.1 hb, hv.2.below hb⟩
      · exact stable_ex _ _
    case stabr =>
      intro i v W W' hne hv hb
      match i, hne, hv with
      | 0, _, hv => exact hv
      | 1, _, hv => exact hv
      | 2, _, hv => exact hv
      | 3, _, hv => exact hv
      | 4, _, hv => exact hv
      | 5, hne, _ => exact absurd rfl hne
      | 6, _, hv => exact stableR_ex gp _ (by omega) _ v W W' hv hb
      | _ + 7, _, _ => trivial
    case steps =>
      refine StepsG.cons (stepG_value (by decide) rfl fun a W hp => ?_) ?_
      · have f1 : a.tmps.getD 6 undef = .pointer (some ⟨w4.heap.size, 0, none⟩) := hp.old 6 rfl
        exact ⟨wanted_none rfl, _, _, run_ldrow rfl f1 ((hp.rel.block w4.heap.size (by omega) (by intro e; injection e with e; omega)).trans HN5.out) Tryz.underlying77 rfl HSW.out, rfl, Below.refl _ _⟩
      refine StepsG.cons (stepG_value (by decide) rfl fun a W hp => ?_) ?_
      · have f1 : a.tmps.getD 5 undef = .pointer (some ⟨w2.heap.size, 0, none⟩) := hp.old 5 rfl
        exact ⟨wanted_none rfl, _, _, run_ldrow rfl f1 ((hp.rel.block w2.heap.size (by omega) (by intro e; injection e with e; omega)).trans L1.out) Tryz.underlying54 rfl HSE.out, rfl, Below.refl _ _⟩
      refine StepsG.cons (stepG_value (by decide) rfl fun a W hp => ⟨wanted_none rfl, _, _, run_move (.inl rfl), (hp.old 0 rfl), Below.refl _ _⟩) ?_
      refine StepsG.cons (stepG_value (by decide) rfl fun a W hp => ⟨wanted_none rfl, _, _, run_move (.inl rfl), (hp.old 1 rfl), Below.refl _ _⟩) ?_
      refine StepsG.cons (stepG_value (by decide) rfl fun a W hp => ?_) ?_
      · have f1 : a.tmps.getD 21 undef = .int .i64 (d : Int) := (hp.on_ 3 rfl rfl rfl).2
        refine ⟨wanted_none rfl, _, _, run_bin3 rfl ?_ ?_, rfl, Below.refl _ _⟩
        · show (eqGuard _ _ _ _ (a.tmps.getD 21 undef) _).run _ W = _
          rw [f1]; rfl
        · show (binOp _ _ (a.tmps.getD 21 undef) _).run _ W = _
          rw [f1]; exact bin_add1 d hd
      refine StepsG.cons (stepG_turn rfl fun a W hp hF => ?_) ?_
      · have f1 : a.tmps.getD 20 undef = .pointer (some ⟨gp, 0, none⟩) := (hp.on_ 2 rfl rfl rfl).2
        have f2 : a.tmps.getD 22 undef = .int .i64 ((d : Int) + 1) := (hp.on_ 4 rfl rfl rfl).2
        refine ⟨wanted_none rfl, 124, _, run_enter2 rfl rfl Tryz.call124, ?_⟩
        show Calls _ _ #[a.tmps.getD 20 undef, a.tmps.getD 22 undef] W _
        rw [f1, f2]
        refine (HX.out W hF).mono ?_
        rintro e W' ⟨o2, m2, n2, a2, x2, l2, c2, rfl, hi2, hp2, hg2⟩
        have := hp.rel.size
        exact ⟨_, rfl, ⟨⟨o2, m2, n2, a2, x2, l2, c2, rfl, hi2.mono (by omega) _⟩, hp2⟩, hg2⟩
      refine StepsG.cons (stepG_enter (by decide) rfl fun a W hp => ?_) ?_
      · have f1 : a.tmps.getD 18 undef = .agg #[.int .i64 (xk : Int), .string xt, .int .i64 xn, .int .i64 (xa : Int)] := (hp.on_ 0 rfl rfl rfl).2
        have f2 : a.tmps.getD 19 undef = .agg #[.string o1, .string m1, .int .i64 n1, .int .i64 a1, .slice x1 l1 c1] := (hp.on_ 1 rfl rfl rfl).2
        obtain ⟨⟨o2, m2, n2, a2, x2, l2, c2, f3, hi2⟩, hp2⟩ : wEx (w.heap.size + 1) t2 (a.tmps.getD 23 undef) W ∧ Par L W gp gw c S2 := (hp.on_ 5 rfl rfl rfl).2
        refine ⟨wanted_none rfl, 92, _, run_enter3 rfl rfl Tryz.call92, ?_⟩
        show Calls _ _ #[a.tmps.getD 18 undef, a.tmps.getD 19 undef, a.tmps.getD 23 undef] W _
        rw [f1, f2, f3]
        have := hp.rel.size
        refine (TWO.out W (by omega) o1 m1 n1 a1 x1 l1 c1 o2 m2 n2 a2 x2 l2 c2 ((I5.out.grown hp.rel (by omega)).mono (by omega) _) (hi2.mono (by omega) _)).mono ?_
        rintro e W' ⟨o3, m3, n3, a3, x3, l3, c3, rfl, hi3, hb3⟩
        exact ⟨_, rfl, ⟨o3, m3, n3, a3, x3, l3, c3, rfl, hi3⟩, hb3⟩
      exact StepsG.nil
    case last =>
      intro a W hI
      obtain ⟨o3, m3, n3, a3, x3, l3, c3, f3, hi3⟩ : wEx (w.heap.size + 1) (twoS ⟨xk, xt, xn, xa⟩ t1 t2) (a.tmps.getD 24 undef) W := hI.new 6 _ 24 rfl rfl rfl
      obtain ⟨_, hp3⟩ : wEx (w.heap.size + 1) t2 (a.tmps.getD 23 undef) W ∧ Par L W gp gw c S2 := hI.new 5 _ 23 rfl rfl rfl
      have f4 : a.tmps.getD 4 undef = .pointer (some ⟨w.heap.size, 0, none⟩) := hI.old 4 (by simp)
      have hsz : a.tmps.size = 26 := hI.tmps
      have hdf : a.defers = [] := hI.defers
      have hrel := hI.rel
      have lr := (hrel.block w.heap.size (by omega) (by intro e; injection e with e; omega)).trans LR.out
      have hg6 := gb_trans g0.out hrel
      clear hI
      refine wpOp_of rfl (wanted_none rfl) ?_
      refine wp_store_row 54 (.tmp 4) (.tmp 24) rfl w.heap.size #[.string o3, .string m3, .int .i64 n3, .int .i64 a3, .slice x3 l3 c3] f4 f3 54 _ lr HSE.out rfl (expr_one _ _ _ _ _ _ _) ?_
      have hset := setRow_heap W w.heap.size _ #[.string o3, .string m3, .int .i64 n3, .int .i64 a3, .slice x3 l3 c3] _ _ lr
      have hs6 := hrel.size
      obtain ⟨a2, ha2⟩ : ∃ a2, a2 = a.put none undef := ⟨_, rfl⟩
      have g4s : a2.tmps.getD 4 undef = .pointer (some ⟨w.heap.size, 0, none⟩) := by rw [ha2]; exact f4
      have gd : a2.defers = [] := by rw [ha2]; exact hdf
      rw [← ha2]
      clear ha2
      go_wp2_with fail
      refine bodyPost_ret (v := .agg #[.string o3, .string m3, .int .i64 n3, .int .i64 a3, .slice x3 l3 c3]) (results_cell_row (p := 4) (ty := 54) rfl _ _ w.heap.size 54 _ (0, 0) _ g4s hset Tryz.underlying54 rfl HSE.out) gd ⟨o3, m3, n3, a3, x3, l3, c3, rfl, ?_, hp3.keep (setRow_other W w.heap.size gp _ (by omega)) (setRow_other W w.heap.size gw _ (by omega)) (by rw [setRow_size]; exact Nat.le_refl _), gb_setRow hg6 _ (Nat.le_refl _) _⟩
      exact IsE.mono (B := w.heap.size + 1) (by omega) _ (hi3.keep (by rw [setRow_size]; exact Nat.le_refl _) (fun k h2 h3 => setRow_other W w.heap.size k _ (by omega)))
end Go.Proofs.YtjlnihennlkmpaaGreatDoor

namespace Go.Proofs.YtjlnihennlkmpaaGreatDoor
open Go Go.RowKit
set_option maxHeartbeats 4000000 in
set_option maxRecDepth 100000 in
theorem cmp_any (L : List Wd) (hG : Good L) (d : Nat) (hd : d < 1000) (w : World) (gp gw c : Nat) (st : St) (h : Par L w gp gw c st) (t1 t2 : Ex) (S1 S2 : St) (hq : S1.parts < 1000000000)
    (hx1 : ∀ W, Par L W gp gw c st → Calls Tryz.prog 122 #[.pointer (some ⟨gp, 0, none⟩), .int .i64 (d : Int)] W (GivesX L gp gw c t1 S1 W))
    (hx2 : (betweenS L [bs [61], bs [60, 62], bs [60], bs [60, 61], bs [62], bs [62, 61]] S1).2.1 = true → ∀ W, Par L W gp gw c (betweenS L [bs [61], bs [60, 62], bs [60], bs [60, 61], bs [62], bs [62, 61]] S1).2.2 → Calls Tryz.prog 122 #[.pointer (some ⟨gp, 0, none⟩), .int .i64 (d : Int)] W (GivesX L gp gw c t2 S2 W)) :
    Calls Tryz.prog 119 #[.pointer (some ⟨gp, 0, none⟩), .int .i64 (d : Int)] w (GivesX L gp gw c (if (betweenS L [bs [61], bs [60, 62], bs [60], bs [60, 61], bs [62], bs [62, 61]] S1).2.1 = true then twoS (betweenS L [bs [61], bs [60, 62], bs [60], bs [60, 61], bs [62], bs [62, 61]] S1).1 t1 t2 else t1) (if (betweenS L [bs [61], bs [60, 62], bs [60], bs [60, 61], bs [62], bs [62, 61]] S1).2.1 = true then S2 else (betweenS L [bs [61], bs [60, 62], bs [60], bs [60, 61], bs [62], bs [62, 61]] S1).2.2) w) := by
  have hb1 : Below w.heap.size w (w.alloc (.cells #[.string ⟨#[]⟩, .string ⟨#[]⟩, .int .i64 0, .int .i64 0, .slice none 0 0] 54)) := (Below.refl _ _).alloc (Nat.le_refl _) _
  have hn1 := heap_alloc_new w (.cells #[.string ⟨#[]⟩, .string ⟨#[]⟩, .int .i64 0, .int .i64 0, .slice none 0 0] 54)
  have h1 := h.below hb1
  have hgp := h.gpl
  have hgw := h.gwl
  have hs1 : (w.alloc (.cells #[.string ⟨#[]⟩, .string ⟨#[]⟩, .int .i64 0, .int .i64 0, .slice none 0 0] 54)).heap.size = w.heap.size + 1 := by simp
  have kx1 := hx1 _ h1
  have kb : ∀ W, Par L W gp gw c S1 → ∀ b, b < W.heap.size → StrsAt W b 0 [bs [61], bs [60, 62], bs [60], bs [60, 61], bs [62], bs [62, 61]] → Calls Tryz.prog 91 #[.pointer (some ⟨gp, 0, none⟩), .slice (some ⟨b, 0, none⟩) 6 6] W (GivesB L gp gw c (betweenS L [bs [61], bs [60, 62], bs [60], bs [60, 61], bs [62], bs [62, 61]] S1).1 (betweenS L [bs [61], bs [60, 62], bs [60], bs [60, 61], bs [62], bs [62, 61]] S1).2.1 (betweenS L [bs [61], bs [60, 62], bs [60], bs [60, 61], bs [62], bs [62, 61]] S1).2.2 W) := fun W hp b hb hs => between_any L hG W gp gw c S1 hp hq b 0 6 [bs [61], bs [60, 62], bs [60], bs [60, 61], bs [62], bs [62, 61]] hb hs (by decide)
  obtain ⟨y, hy⟩ : ∃ y, y = (betweenS L [bs [61], bs [60, 62], bs [60], bs [60, 61], bs [62], bs [62, 61]] S1).1 := ⟨_, rfl⟩
  obtain ⟨B, hB⟩ : ∃ B, B = (betweenS L [bs [61], bs [60, 62], bs [60], bs [60, 61], bs [62], bs [62, 61]] S1).2.1 := ⟨_, rfl⟩
  obtain ⟨R, hR⟩ : ∃ R, R = (betweenS L [bs [61], bs [60, 62], bs [60], bs [60, 61], bs [62], bs [62, 61]] S1).2.2 := ⟨_, rfl⟩
  rw [← hy, ← hB, ← hR] at kb ⊢
  rw [← hB, ← hR] at hx2
  have HX2 := Lib.hid hx2
  have HB1 := Lib.hid (gb_below (r := some gp) hb1)
  have HN1 := Lib.hid hn1
  have KB := Lib.hid kb
  have HSE := Lib.hid size_expr
  have HSW := Lib.hid size_word2
  clear hx1 hx2 hb1 hn1 h h1 kb hy hB hR
  obtain ⟨xk, xt, xn, xa⟩ := y
  unfold GivesB Wd.cells at KB
  have two_ := fun (W : World) (hw : w.heap.size + 1 ≤ W.heap.size) (o1 m1 : ByteArray) (n1 a1 : Int) (x1 : Option Addr) (l1 c1 : Nat) (o2 m2 : ByteArray) (n2 a2 : Int) (x2 : Option Addr) (l2 c2 : Nat) h1 h2 => two_any (w.heap.size + 1) ⟨xk, xt, xn, xa⟩ t1 t2 W hw o1 m1 n1 a1 x1 l1 c1 o2 m2 n2 a2 x2 l2 c2 h1 h2
  have TWO := Lib.hid two_
  clear two_
  cases B
  · rw [if_neg (by decide), if_neg (by decide)]
    go_enter Tryz.func119, Tryz.ntmps119
    go_wp2_with fail
    (with_reducible refine kx1.mono ?_)
    rintro e w2 ⟨o1, m1, n1, a1, x1, l1, c1, rfl, hi, hp, hg⟩
    unfold exV
    have hs2 : w.heap.size + 1 ≤ w2.heap.size := by rw [← hs1]; exact hg.size
    have hb2 : Below w2.heap.size w2 (w2.alloc (.cells #[.string o1, .string m1, .int .i64 n1, .int .i64 a1, .slice x1 l1 c1] 54)) := (Below.refl _ _).alloc (Nat.le_refl _) _
    have hn2 := heap_alloc_new w2 (.cells #[.string o1, .string m1, .int .i64 n1, .int .i64 a1, .slice x1 l1 c1] 54)
    have ha2 : (w2.alloc (.cells #[.string o1, .string m1, .int .i64 n1, .int .i64 a1, .slice x1 l1 c1] 54)).heap.size = w2.heap.size + 1 := by simp
    have hb3 : Below (w2.alloc (.cells #[.string o1, .string m1, .int .i64 n1, .int .i64 a1, .slice x1 l1 c1] 54)).heap.size (w2.alloc (.cells #[.string o1, .string m1, .int .i64 n1, .int .i64 a1, .slice x1 l1 c1] 54)) ((w2.alloc (.cells #[.string o1, .string m1, .int .i64 n1, .int .i64 a1, .slice x1 l1 c1] 54)).alloc (.cells #[.string ⟨#[61]⟩, .string ⟨#[60, 62]⟩, .string ⟨#[60]⟩, .string ⟨#[60, 61]⟩, .string ⟨#[62]⟩, .string ⟨#[62, 61]⟩] 9)) := (Below.refl _ _).alloc (Nat.le_refl _) _
    have hn3 := heap_alloc_new (w2.alloc (.cells #[.string o1, .string m1, .int .i64 n1, .int .i64 a1, .slice x1 l1 c1] 54)) (.cells #[.string ⟨#[61]⟩, .string ⟨#[60, 62]⟩, .string ⟨#[60]⟩, .string ⟨#[60, 61]⟩, .string ⟨#[62]⟩, .string ⟨#[62, 61]⟩] 9)
    have ha3 : ((w2.alloc (.cells #[.string o1, .string m1, .int .i64 n1, .int .i64 a1, .slice x1 l1 c1] 54)).alloc (.cells #[.string ⟨#[61]⟩, .string ⟨#[60, 62]⟩, .string ⟨#[60]⟩, .string ⟨#[60, 61]⟩, .string ⟨#[62]⟩, .string ⟨#[62, 61]⟩] 9)).heap.size = w2.heap.size + 2 := by simp
    rw [ha2] at hn3
    have kb := KB.out _ ((hp.below hb2).below hb3) (w2.heap.size + 1) (by omega) (by
      intro j hj
      simp only [World.cell?, hn3]
      match j, hj with
      | 0, _ => rfl
      | 1, _ => rfl
      | 2, _ => rfl
      | 3, _ => rfl
      | 4, _ => rfl
      | 5, _ => rfl
      | _ + 6, hj => exact absurd hj (Nat.not_lt.2 (Nat.le_add_left _ _)))
    have HN2 := Lib.hid ((hb3.block w2.heap.size (by omega)).trans hn2)
    have HI := Lib.hid hi
    have HG2 := Lib.hid hg
    have HB3 := Lib.hid (gb_trans (gb_below (r := some gp) hb2) (gb_below hb3))
    clear hi hp hg hb2 hn2 hb3 hn3 ha2 kx1
    go_wp2_with fail
    (with_reducible refine kb.mono ?_)
    rintro e w4 ⟨rfl, hp, hg⟩
    have hs4 : w2.heap.size + 2 ≤ w4.heap.size := by rw [← ha3]; exact hg.size
    have hb5 : Below w4.heap.size w4 (w4.alloc (.cells #[.int .i64 (xk : Int), .string xt, .int .i64 xn, .int .i64 (xa : Int)] 77)) := (Below.refl _ _).alloc (Nat.le_refl _) _
    have HN5 := Lib.hid (heap_alloc_new w4 (.cells #[.int .i64 (xk : Int), .string xt, .int .i64 xn, .int .i64 (xa : Int)] 77))
    have ha5 : (w4.alloc (.cells #[.int .i64 (xk : Int), .string xt, .int .i64 xn, .int .i64 (xa : Int)] 77)).heap.size = w4.heap.size + 1 := by simp
    have HP := Lib.hid (hp.below hb5)
    have g5 := Lib.hid (gb_below (r := some gp) hb5)
    have g4 := Lib.hid (gb_trans hg g5.out)
    have g2 := Lib.hid (gb_trans HB3.out g4.out)
    have g1 := Lib.hid (gb_trans HG2.out g2.out)
    have g0 := Lib.hid (gb_trans HB1.out g1.out)
    have L1 := Lib.hid ((g4.out.block w2.heap.size (by omega) (by intro e; injection e with e; omega)).trans HN2.out)
    have LR := Lib.hid ((g1.out.block w.heap.size (by omega) (by intro e; injection e with e; omega)).trans HN1.out)
    have I5 := Lib.hid (HI.out.grown g2.out (by omega))
    clear hp hg hb5 kb HI HG2 HB3 HN2 HN1 KB HB1
    obtain ⟨w5, hw5⟩ : ∃ w5, w5 = (w4.alloc (.cells #[.int .i64 (xk : Int), .string xt, .int .i64 xn, .int .i64 (xa : Int)] 77)) := ⟨_, rfl⟩
    rw [← hw5] at ha5 HP g5 g4 g2 g1 g0 L1 LR I5 HN5
    have HW5 := Lib.hid hw5
    clear hw5
    go_wp2_with (first | (rw [← HW5.out]; refine wpList_load_row rfl 54 (.tmp 5) rfl w2.heap.size rfl 54 #[.string o1, .string m1, .int .i64 n1, .int .i64 a1, .slice x1 l1 c1] (0, 0) _ L1.out Tryz.underlying54 rfl HSE.out ?_) | (refine wpList_store_row rfl 54 (.tmp 4) (.tmp 24) rfl w.heap.size #[.string o1, .string m1, .int .i64 n1, .int .i64 a1, .slice x1 l1 c1] rfl rfl 54 _ LR.out HSE.out rfl (expr_one _ _ _ _ _ _ _) ?_))
    have hset := setRow_heap w5 w.heap.size _ #[.string o1, .string m1, .int .i64 n1, .int .i64 a1, .slice x1 l1 c1] _ _ LR.out
    refine bodyPost_ret (v := .agg #[.string o1, .string m1, .int .i64 n1, .int .i64 a1, .slice x1 l1 c1]) (results_cell_row (p := 4) (ty := 54) rfl _ _ w.heap.size 54 _ (0, 0) _ rfl hset Tryz.underlying54 rfl HSE.out) rfl ⟨o1, m1, n1, a1, x1, l1, c1, rfl, ?_, HP.out.keep (setRow_other w5 w.heap.size gp _ (by omega)) (setRow_other w5 w.heap.size gw _ (by omega)) (by rw [setRow_size]; exact Nat.le_refl _), gb_setRow g0.out _ (Nat.le_refl _) _⟩
    rw [hs1] at I5
    refine IsE.mono (B := w.heap.size + 1) (by omega) _ (I5.out.keep (by rw [setRow_size]; omega) (fun k h2 h3 => setRow_other w5 w.heap.size k _ (by omega)))
  · rw [if_pos rfl, if_pos rfl]
    go_enter Tryz.func119, Tryz.ntmps119
    go_wp2_with fail
    (with_reducible refine kx1.mono ?_)
    rintro e w2 ⟨o1, m1, n1, a1, x1, l1, c1, rfl, hi, hp, hg⟩
    unfold exV
    have hs2 : w.heap.size + 1 ≤ w2.heap.size := by rw [← hs1]; exact hg.size
    have hb2 : Below w2.heap.size w2 (w2.alloc (.cells #[.string o1, .string m1, .int .i64 n1, .int .i64 a1, .slice x1 l1 c1] 54)) := (Below.refl _ _).alloc (Nat.le_refl _) _
    have hn2 := heap_alloc_new w2 (.cells #[.string o1, .string m1, .int .i64 n1, .int .i64 a1, .slice x1 l1 c1] 54)
    have ha2 : (w2.alloc (.cells #[.string o1, .string m1, .int .i64 n1, .int .i64 a1, .slice x1 l1 c1] 54)).heap.size = w2.heap.size + 1 := by simp
    have hb3 : Below (w2.alloc (.cells #[.string o1, .string m1, .int .i64 n1, .int .i64 a1, .slice x1 l1 c1] 54)).heap.size (w2.alloc (.cells #[.string o1, .string m1, .int .i64 n1, .int .i64 a1, .slice x1 l1 c1] 54)) ((w2.alloc (.cells #[.string o1, .string m1, .int .i64 n1, .int .i64 a1, .slice x1 l1 c1] 54)).alloc (.cells #[.string ⟨#[61]⟩, .string ⟨#[60, 62]⟩, .string ⟨#[60]⟩, .string ⟨#[60, 61]⟩, .string ⟨#[62]⟩, .string ⟨#[62, 61]⟩] 9)) := (Below.refl _ _).alloc (Nat.le_refl _) _
    have hn3 := heap_alloc_new (w2.alloc (.cells #[.string o1, .string m1, .int .i64 n1, .int .i64 a1, .slice x1 l1 c1] 54)) (.cells #[.string ⟨#[61]⟩, .string ⟨#[60, 62]⟩, .string ⟨#[60]⟩, .string ⟨#[60, 61]⟩, .string ⟨#[62]⟩, .string ⟨#[62, 61]⟩] 9)
    have ha3 : ((w2.alloc (.cells #[.string o1, .string m1, .int .i64 n1, .int .i64 a1, .slice x1 l1 c1] 54)).alloc (.cells #[.string ⟨#[61]⟩, .string ⟨#[60, 62]⟩, .string ⟨#[60]⟩, .string ⟨#[60, 61]⟩, .string ⟨#[62]⟩, .string ⟨#[62, 61]⟩] 9)).heap.size = w2.heap.size + 2 := by simp
    rw [ha2] at hn3
    have kb := KB.out _ ((hp.below hb2).below hb3) (w2.heap.size + 1) (by omega) (by
      intro j hj
      simp only [World.cell?, hn3]
      match j, hj with
      | 0, _ => rfl
      | 1, _ => rfl
      | 2, _ => rfl
      | 3, _ => rfl
      | 4, _ => rfl
      | 5, _ => rfl
      | _ + 6, hj => exact absurd hj (Nat.not_lt.2 (Nat.le_add_left _ _)))
    have HN2 := Lib.hid ((hb3.block w2.heap.size (by omega)).trans hn2)
    have HI := Lib.hid hi
    have HG2 := Lib.hid hg
    have HB3 := Lib.hid (gb_trans (gb_below (r := some gp) hb2) (gb_below hb3))
    clear hi hp hg hb2 hn2 hb3 hn3 ha2 kx1
    go_wp2_with fail
    (with_reducible refine kb.mono ?_)
    rintro e w4 ⟨rfl, hp, hg⟩
    have hs4 : w2.heap.size + 2 ≤ w4.heap.size := by rw [← ha3]; exact hg.size
    have hb5 : Below w4.heap.size w4 (w4.alloc (.cells #[.int .i64 (xk : Int), .string xt, .int .i64 xn, .int .i64 (xa : Int)] 77)) := (Below.refl _ _).alloc (Nat.le_refl _) _
    have HN5 := Lib.hid (heap_alloc_new w4 (.cells #[.int .i64 (xk : Int), .string xt, .int .i64 xn, .int .i64 (xa : Int)] 77))
    have ha5 : (w4.alloc (.cells #[.int .i64 (xk : Int), .string xt, .int .i64 xn, .int .i64 (xa : Int)] 77)).heap.size = w4.heap.size + 1 := by simp
    have HP := Lib.hid (hp.below hb5)
    have g5 := Lib.hid (gb_below (r := some gp) hb5)
    have g4 := Lib.hid (gb_trans hg g5.out)
    have g2 := Lib.hid (gb_trans HB3.out g4.out)
    have g1 := Lib.hid (gb_trans HG2.out g2.out)
    have g0 := Lib.hid (gb_trans HB1.out g1.out)
    have L1 := Lib.hid ((g4.out.block w2.heap.size (by omega) (by intro e; injection e with e; omega)).trans HN2.out)
    have LR := Lib.hid ((g1.out.block w.heap.size (by omega) (by intro e; injection e with e; omega)).trans HN1.out)
    have I5 := Lib.hid (HI.out.grown g2.out (by omega))
    clear hp hg hb5 kb HI HG2 HB3 HN2 HN1 KB HB1
    obtain ⟨w5, hw5⟩ : ∃ w5, w5 = (w4.alloc (.cells #[.int .i64 (xk : Int), .string xt, .int .i64 xn, .int .i64 (xa : Int)] 77)) := ⟨_, rfl⟩
    rw [← hw5] at ha5 HP g5 g4 g2 g1 g0 L1 LR I5 HN5
    have hx2 := HX2.out trivial
    have HX := Lib.hid hx2
    clear HX2 hx2
    have HW5 := Lib.hid hw5
    clear hw5
    go_wp2_with fail
    rw [← HW5.out]
    refine wp_region_stepsG_then (words [wIs (.agg #[.int .i64 (xk : Int), .string xt, .int .i64 xn, .int .i64 (xa : Int)]), wIs (.agg #[.string o1, .string m1, .int .i64 n1, .int .i64 a1, .slice x1 l1 c1]), wIs (.pointer (some ⟨gp, 0, none⟩)), wIs (.int .i64 (d : Int)), fun v W => wEx (w.heap.size + 1) t2 v W ∧ Par L W gp gw c S2, wEx (w.heap.size + 1) (twoS ⟨xk, xt, xn, xa⟩ t1 t2)]) (fun W W' => W.grownBy W' (some gp)) (fun W => Par L W gp gw c R) 4 (by kernel_rfl) (gbt gp) (gbb gp) (fun W W' hF hb => hF.below hb) HP.out (words_stable ?stab) ?stabr rfl rfl rfl (by kernel_rfl) (by decide) 6 _ rfl rfl ?steps ?last
    case stab =>
      intro f hf
      simp only [List.mem_cons, List.not_mem_nil, or_false] at hf
      rcases hf with rfl | rfl | rfl | rfl | rfl | rfl
      · exact stable_is _
      · exact stable_is _
      · exact stable_is _
      · exact stable_is _
      · exact fun v W W' hv hb => ⟨stable_ex _ _ v W W' hv.1 hb, hv.2.below hb⟩
      · exact stable_ex _ _
    case stabr =>
      intro i v W W' hne hv hb
      match i, hne, hv with
      | 0, _, hv => exact hv
      | 1, _, hv => exact hv
      | 2, _, hv => exact hv
      | 3, _, hv => exact hv
      | 4, hne, _ => exact absurd rfl hne
      | 5, _, hv => exact stableR_ex gp _ (by omega) _ v W W' hv hb
      | _ + 6, _, _ => trivial
    case steps =>
      refine StepsG.cons (stepG_value (by decide) rfl fun a W hp => ?_) ?_
      · have f1 : a.tmps.getD 6 undef = .pointer (some ⟨w4.heap.size, 0, none⟩) := hp.old 6 rfl
        exact ⟨wanted_none rfl, _, _, run_ldrow rfl f1 ((hp.rel.block w4.heap.size (by omega) (by intro e; injection e with e; omega)).trans HN5.out) Tryz.underlying77 rfl HSW.out, rfl, Below.refl _ _⟩
      refine StepsG.cons (stepG_value (by decide) rfl fun a W hp => ?_) ?_
      · have f1 : a.tmps.getD 5 undef = .pointer (some ⟨w2.heap.size, 0, none⟩) := hp.old 5 rfl
        exact ⟨wanted_none rfl, _, _, run_ldrow rfl f1 ((hp.rel.block w2.heap.size (by omega) (by intro e; injection e with e; omega)).trans L1.out) Tryz.underlying54 rfl HSE.out, rfl, Below.refl _ _⟩
      refine StepsG.cons (stepG_value (by decide) rfl fun a W hp => ⟨wanted_none rfl, _, _, run_move (.inl rfl), (hp.old 0 rfl), Below.refl _ _⟩) ?_
      refine StepsG.cons (stepG_value (by decide) rfl fun a W hp => ⟨wanted_none rfl, _, _, run_move (.inl rfl), (hp.old 1 rfl), Below.refl _ _⟩) ?_
      refine StepsG.cons (stepG_turn rfl fun a W hp hF => ?_) ?_
      · have f1 : a.tmps.getD 20 undef = .pointer (some ⟨gp, 0, none⟩) := (hp.on_ 2 rfl rfl rfl).2
        have f2 : a.tmps.getD 21 undef = .int .i64 (d : Int) := (hp.on_ 3 rfl rfl rfl).2
        refine ⟨wanted_none rfl, 122, _, run_enter2 rfl rfl Tryz.call122, ?_⟩
        show Calls _ _ #[a.tmps.getD 20 undef, a.tmps.getD 21 undef] W _
        rw [f1, f2]
        refine (HX.out W hF).mono ?_
        rintro e W' ⟨o2, m2, n2, a2, x2, l2, c2, rfl, hi2, hp2, hg2⟩
        have := hp.rel.size
        exact ⟨_, rfl, ⟨⟨o2, m2, n2, a2, x2, l2, c2, rfl, hi2.mono (by omega) _⟩, hp2⟩, hg2⟩
      refine StepsG.cons (stepG_enter (by decide) rfl fun a W hp => ?_) ?_
      · have f1 : a.tmps.getD 18 undef = .agg #[.int .i64 (xk : Int), .string xt, .int .i64 xn, .int .i64 (xa : Int)] := (hp.on_ 0 rfl rfl rfl).2
        have f2 : a.tmps.getD 19 undef = .agg #[.string o1, .string m1, .int .i64 n1, .int .i64 a1, .slice x1 l1 c1] := (hp.on_ 1 rfl rfl rfl).2
        obtain ⟨⟨o2, m2, n2, a2, x2, l2, c2, f3, hi2⟩, hp2⟩ : wEx (w.heap.size + 1) t2 (a.tmps.getD 22 undef) W ∧ Par L W gp gw c S2 := (hp.on_ 4 rfl rfl rfl).2
        refine ⟨wanted_none rfl, 92, _, run_enter3 rfl rfl Tryz.call92, ?_⟩
        show Calls _ _ #[a.tmps.getD 18 undef, a.tmps.getD 19 undef, a.tmps.getD 22 undef] W _
        rw [f1, f2, f3]
        have := hp.rel.size
        refine (TWO.out W (by omega) o1 m1 n1 a1 x1 l1 c1 o2 m2 n2 a2 x2 l2 c2 ((I5.out.grown hp.rel (by omega)).mono (by omega) _) (hi2.mono (by omega) _)).mono ?_
        rintro e W' ⟨o3, m3, n3, a3, x3, l3, c3, rfl, hi3, hb3⟩
        exact ⟨_, rfl, ⟨o3, m3, n3, a3, x3, l3, c3, rfl, hi3⟩, hb3⟩
      exact StepsG.nil
    case last =>
      intro a W hI
      obtain ⟨o3, m3, n3, a3, x3, l3, c3, f3, hi3⟩ : wEx (w.heap.size + 1) (twoS ⟨xk, xt, xn, xa⟩ t1 t2) (a.tmps.getD 23 undef) W := hI.new 5 _ 23 rfl rfl rfl
      obtain ⟨_, hp3⟩ : wEx (w.heap.size + 1) t2 (a.tmps.getD 22 undef) W ∧ Par L W gp gw c S2 := hI.new 4 _ 22 rfl rfl rfl
      have f4 : a.tmps.getD 4 undef = .pointer (some ⟨w.heap.size, 0, none⟩) := hI.old 4 (by simp)
      have hsz : a.tmps.size = 25 := hI.tmps
      have hdf : a.defers = [] := hI.defers
      have hrel := hI.rel
      have lr := (hrel.block w.heap.size (by omega) (by intro e; injection e with e; omega)).trans LR.out
      have hg6 := gb_trans g0.out hrel
      clear hI
      refine wpOp_of rfl (wanted_none rfl) ?_
      refine wp_store_row 54 (.tmp 4) (.tmp 23) rfl w.heap.size #[.string o3, .string m3, .int .i64 n3, .int .i64 a3, .slice x3 l3 c3] f4 f3 54 _ lr HSE.out rfl (expr_one _ _ _ _ _ _ _) ?_
      have hset := setRow_heap W w.heap.size _ #[.string o3, .string m3, .int .i64 n3, .int .i64 a3, .slice x3 l3 c3] _ _ lr
      have hs6 := hrel.size
      obtain ⟨a2, ha2⟩ : ∃ a2, a2 = a.put none undef := ⟨_, rfl⟩
      have g4s : a2.tmps.getD 4 undef = .pointer (some ⟨w.heap.size, 0, none⟩) := by rw [ha2]; exact f4
      have gd : a2.defers = [] := by rw [ha2]; exact hdf
      rw [← ha2]
      clear ha2
      go_wp2_with fail
      refine bodyPost_ret (v := .agg #[.string o3, .string m3, .int .i64 n3, .int .i64 a3, .slice x3 l3 c3]) (results_cell_row (p := 4) (ty := 54) rfl _ _ w.heap.size 54 _ (0, 0) _ g4s hset Tryz.underlying54 rfl HSE.out) gd ⟨o3, m3, n3, a3, x3, l3, c3, rfl, ?_, hp3.keep (setRow_other W w.heap.size gp _ (by omega)) (setRow_other W w.heap.size gw _ (by omega)) (by rw [setRow_size]; exact Nat.le_refl _), gb_setRow hg6 _ (Nat.le_refl _) _⟩
      exact IsE.mono (B := w.heap.size + 1) (by omega) _ (hi3.keep (by rw [setRow_size]; exact Nat.le_refl _) (fun k h2 h3 => setRow_other W w.heap.size k _ (by omega)))
end Go.Proofs.YtjlnihennlkmpaaGreatDoor

namespace Go.Proofs.YtjlnihennlkmpaaGreatDoor
open Go Go.RowKit
set_option maxHeartbeats 4000000 in
set_option maxRecDepth 100000 in
theorem expr_any (L : List Wd) (hG : Good L) (d : Nat) (hd : d < 1000) (w : World) (gp gw c : Nat) (st : St) (h : Par L w gp gw c st) (t1 t2 : Ex) (S1 S2 : St) (hq : S1.parts < 1000000000)
    (hx1 : ∀ W, Par L W gp gw c st → Calls Tryz.prog 90 #[.pointer (some ⟨gp, 0, none⟩), .int .i64 (d : Int)] W (GivesX L gp gw c t1 S1 W))
    (hx2 : (betweenS L [bs [45, 62]] S1).2.1 = true → ∀ W, Par L W gp gw c (betweenS L [bs [45, 62]] S1).2.2 → Calls Tryz.prog 76 #[.pointer (some ⟨gp, 0, none⟩), .int .i64 ((d : Int) + 1)] W (GivesX L gp gw c t2 S2 W)) :
    Calls Tryz.prog 76 #[.pointer (some ⟨gp, 0, none⟩), .int .i64 (d : Int)] w (GivesX L gp gw c (if (betweenS L [bs [45, 62]] S1).2.1 = true then twoS (betweenS L [bs [45, 62]] S1).1 t1 t2 else t1) (if (betweenS L [bs [45, 62]] S1).2.1 = true then S2 else (betweenS L [bs [45, 62]] S1).2.2) w) := by
  have hb1 : Below w.heap.size w (w.alloc (.cells #[.string ⟨#[]⟩, .string ⟨#[]⟩, .int .i64 0, .int .i64 0, .slice none 0 0] 54)) := (Below.refl _ _).alloc (Nat.le_refl _) _
  have hn1 := heap_alloc_new w (.cells #[.string ⟨#[]⟩, .string ⟨#[]⟩, .int .i64 0, .int .i64 0, .slice none 0 0] 54)
  have h1 := h.below hb1
  have hgp := h.gpl
  have hgw := h.gwl
  have hs1 : (w.alloc (.cells #[.string ⟨#[]⟩, .string ⟨#[]⟩, .int .i64 0, .int .i64 0, .slice none 0 0] 54)).heap.size = w.heap.size + 1 := by simp
  have kx1 := hx1 _ h1
  have kb : ∀ W, Par L W gp gw c S1 → ∀ b, b < W.heap.size → StrsAt W b 0 [bs [45, 62]] → Calls Tryz.prog 91 #[.pointer (some ⟨gp, 0, none⟩), .slice (some ⟨b, 0, none⟩) 1 1] W (GivesB L gp gw c (betweenS L [bs [45, 62]] S1).1 (betweenS L [bs [45, 62]] S1).2.1 (betweenS L [bs [45, 62]] S1).2.2 W) := fun W hp b hb hs => between_any L hG W gp gw c S1 hp hq b 0 1 [bs [45, 62]] hb hs (by decide)
  obtain ⟨y, hy⟩ : ∃ y, y = (betweenS L [bs [45, 62]] S1).1 := ⟨_, rfl⟩
  obtain ⟨B, hB⟩ : ∃ B, B = (betweenS L [bs [45, 62]] S1).2.1 := ⟨_, rfl⟩
  obtain ⟨R, hR⟩ : ∃ R, R = (betweenS L [bs [45, 62]] S1).2.2 := ⟨_, rfl⟩
  rw [← hy, ← hB, ← hR] at kb ⊢
  rw [← hB, ← hR] at hx2
  have HX2 := Lib.hid hx2
  have HB1 := Lib.hid (gb_below (r := some gp) hb1)
  have HN1 := Lib.hid hn1
  have KB := Lib.hid kb
  have HSE := Lib.hid size_expr
  have HSW := Lib.hid size_word2
  clear hx1 hx2 hb1 hn1 h h1 kb hy hB hR
  obtain ⟨xk, xt, xn, xa⟩ := y
  unfold GivesB Wd.cells at KB
  have two_ := fun (W : World) (hw : w.heap.size + 1 ≤ W.heap.size) (o1 m1 : ByteArray) (n1 a1 : Int) (x1 : Option Addr) (l1 c1 : Nat) (o2 m2 : ByteArray) (n2 a2 : Int) (x2 : Option Addr) (l2 c2 : Nat) h1 h2 => two_any (w.heap.size + 1) ⟨xk, xt, xn, xa⟩ t1 t2 W hw o1 m1 n1 a1 x1 l1 c1 o2 m2 n2 a2 x2 l2 c2 h1 h2
  have TWO := Lib.hid two_
  clear two_
  cases B
  · rw [if_neg (by decide), if_neg (by decide)]
    go_enter Tryz.func76, Tryz.ntmps76
    go_wp2_with fail
    (with_reducible refine kx1.mono ?_)
    rintro e w2 ⟨o1, m1, n1, a1, x1, l1, c1, rfl, hi, hp, hg⟩
    unfold exV
    have hs2 : w.heap.size + 1 ≤ w2.heap.size := by rw [← hs1]; exact hg.size
    have hb2 : Below w2.heap.size w2 (w2.alloc (.cells #[.string o1, .string m1, .int .i64 n1, .int .i64 a1, .slice x1 l1 c1] 54)) := (Below.refl _ _).alloc (Nat.le_refl _) _
    have hn2 := heap_alloc_new w2 (.cells #[.string o1, .string m1, .int .i64 n1, .int .i64 a1, .slice x1 l1 c1] 54)
    have ha2 : (w2.alloc (.cells #[.string o1, .string m1, .int .i64 n1, .int .i64 a1, .slice x1 l1 c1] 54)).heap.size = w2.heap.size + 1 := by simp
    have hb3 : Below (w2.alloc (.cells #[.string o1, .string m1, .int .i64 n1, .int .i64 a1, .slice x1 l1 c1] 54)).heap.size (w2.alloc (.cells #[.string o1, .string m1, .int .i64 n1, .int .i64 a1, .slice x1 l1 c1] 54)) ((w2.alloc (.cells #[.string o1, .string m1, .int .i64 n1, .int .i64 a1, .slice x1 l1 c1] 54)).alloc (.cells #[.string ⟨#[45, 62]⟩] 9)) := (Below.refl _ _).alloc (Nat.le_refl _) _
    have hn3 := heap_alloc_new (w2.alloc (.cells #[.string o1, .string m1, .int .i64 n1, .int .i64 a1, .slice x1 l1 c1] 54)) (.cells #[.string ⟨#[45, 62]⟩] 9)
    have ha3 : ((w2.alloc (.cells #[.string o1, .string m1, .int .i64 n1, .int .i64 a1, .slice x1 l1 c1] 54)).alloc (.cells #[.string ⟨#[45, 62]⟩] 9)).heap.size = w2.heap.size + 2 := by simp
    rw [ha2] at hn3
    have kb := KB.out _ ((hp.below hb2).below hb3) (w2.heap.size + 1) (by omega) (by
      intro j hj
      simp only [World.cell?, hn3]
      match j, hj with
      | 0, _ => rfl
      | _ + 1, hj => exact absurd hj (Nat.not_lt.2 (Nat.le_add_left _ _)))
    have HN2 := Lib.hid ((hb3.block w2.heap.size (by omega)).trans hn2)
    have HI := Lib.hid hi
    have HG2 := Lib.hid hg
    have HB3 := Lib.hid (gb_trans (gb_below (r := some gp) hb2) (gb_below hb3))
    clear hi hp hg hb2 hn2 hb3 hn3 ha2 kx1
    go_wp2_with fail
    (with_reducible refine kb.mono ?_)
    rintro e w4 ⟨rfl, hp, hg⟩
    have hs4 : w2.heap.size + 2 ≤ w4.heap.size := by rw [← ha3]; exact hg.size
    have hb5 : Below w4.heap.size w4 (w4.alloc (.cells #[.int .i64 (xk : Int), .string xt, .int .i64 xn, .int .i64 (xa : Int)] 77)) := (Below.refl _ _).alloc (Nat.le_refl _) _
    have HN5 := Lib.hid (heap_alloc_new w4 (.cells #[.int .i64 (xk : Int), .string xt, .int .i64 xn, .int .i64 (xa : Int)] 77))
    have ha5 : (w4.alloc (.cells #[.int .i64 (xk : Int), .string xt, .int .i64 xn, .int .i64 (xa : Int)] 77)).heap.size = w4.heap.size + 1 := by simp
    have HP := Lib.hid (hp.below hb5)
    have g5 := Lib.hid (gb_below (r := some gp) hb5)
    have g4 := Lib.hid (gb_trans hg g5.out)
    have g2 := Lib.hid (gb_trans HB3.out g4.out)
    have g1 := Lib.hid (gb_trans HG2.out g2.out)
    have g0 := Lib.hid (gb_trans HB1.out g1.out)
    have L1 := Lib.hid ((g4.out.block w2.heap.size (by omega) (by intro e; injection e with e; omega)).trans HN2.out)
    have LR := Lib.hid ((g1.out.block w.heap.size (by omega) (by intro e; injection e with e; omega)).trans HN1.out)
    have I5 := Lib.hid (HI.out.grown g2.out (by omega))
    clear hp hg hb5 kb HI HG2 HB3 HN2 HN1 KB HB1
    obtain ⟨w5, hw5⟩ : ∃ w5, w5 = (w4.alloc (.cells #[.int .i64 (xk : Int), .string xt, .int .i64 xn, .int .i64 (xa : Int)] 77)) := ⟨_, rfl⟩
    rw [← hw5] at ha5 HP g5 g4 g2 g1 g0 L1 LR I5 HN5
    have HW5 := Lib.hid hw5
    clear hw5
    go_wp2_with (first | (rw [← HW5.out]; refine wpList_load_row rfl 54 (.tmp 5) rfl w2.heap.size rfl 54 #[.string o1, .string m1, .int .i64 n1, .int .i64 a1, .slice x1 l1 c1] (0, 0) _ L1.out Tryz.underlying54 rfl HSE.out ?_) | (refine wpList_store_row rfl 54 (.tmp 4) (.tmp 25) rfl w.heap.size #[.string o1, .string m1, .int .i64 n1, .int .i64 a1, .slice x1 l1 c1] rfl rfl 54 _ LR.out HSE.out rfl (expr_one _ _ _ _ _ _ _) ?_))
    have hset := setRow_heap w5 w.heap.size _ #[.string o1, .string m1, .int .i64 n1, .int .i64 a1, .slice x1 l1 c1] _ _ LR.out
    refine bodyPost_ret (v := .agg #[.string o1, .string m1, .int .i64 n1, .int .i64 a1, .slice x1 l1 c1]) (results_cell_row (p := 4) (ty := 54) rfl _ _ w.heap.size 54 _ (0, 0) _ rfl hset Tryz.underlying54 rfl HSE.out) rfl ⟨o1, m1, n1, a1, x1, l1, c1, rfl, ?_, HP.out.keep (setRow_other w5 w.heap.size gp _ (by omega)) (setRow_other w5 w.heap.size gw _ (by omega)) (by rw [setRow_size]; exact Nat.le_refl _), gb_setRow g0.out _ (Nat.le_refl _) _⟩
    rw [hs1] at I5
    refine IsE.mono (B := w.heap.size + 1) (by omega) _ (I5.out.keep (by rw [setRow_size]; omega) (fun k h2 h3 => setRow_other w5 w.heap.size k _ (by omega)))
  · rw [if_pos rfl, if_pos rfl]
    go_enter Tryz.func76, Tryz.ntmps76
    go_wp2_with fail
    (with_reducible refine kx1.mono ?_)
    rintro e w2 ⟨o1, m1, n1, a1, x1, l1, c1, rfl, hi, hp, hg⟩
    unfold exV
    have hs2 : w.heap.size + 1 ≤ w2.heap.size := by rw [← hs1]; exact hg.size
    have hb2 : Below w2.heap.size w2 (w2.alloc (.cells #[.string o1, .string m1, .int .i64 n1, .int .i64 a1, .slice x1 l1 c1] 54)) := (Below.refl _ _).alloc (Nat.le_refl _) _
    have hn2 := heap_alloc_new w2 (.cells #[.string o1, .string m1, .int .i64 n1, .int .i64 a1, .slice x1 l1 c1] 54)
    have ha2 : (w2.alloc (.cells #[.string o1, .string m1, .int .i64 n1, .int .i64 a1, .slice x1 l1 c1] 54)).heap.size = w2.heap.size + 1 := by simp
    have hb3 : Below (w2.alloc (.cells #[.string o1, .string m1, .int .i64 n1, .int .i64 a1, .slice x1 l1 c1] 54)).heap.size (w2.alloc (.cells #[.string o1, .string m1, .int .i64 n1, .int .i64 a1, .slice x1 l1 c1] 54)) ((w2.alloc (.cells #[.string o1, .string m1, .int .i64 n1, .int .i64 a1, .slice x1 l1 c1] 54)).alloc (.cells #[.string ⟨#[45, 62]⟩] 9)) := (Below.refl _ _).alloc (Nat.le_refl _) _
    have hn3 := heap_alloc_new (w2.alloc (.cells #[.string o1, .string m1, .int .i64 n1, .int .i64 a1, .slice x1 l1 c1] 54)) (.cells #[.string ⟨#[45, 62]⟩] 9)
    have ha3 : ((w2.alloc (.cells #[.string o1, .string m1, .int .i64 n1, .int .i64 a1, .slice x1 l1 c1] 54)).alloc (.cells #[.string ⟨#[45, 62]⟩] 9)).heap.size = w2.heap.size + 2 := by simp
    rw [ha2] at hn3
    have kb := KB.out _ ((hp.below hb2).below hb3) (w2.heap.size + 1) (by omega) (by
      intro j hj
      simp only [World.cell?, hn3]
      match j, hj with
      | 0, _ => rfl
      | _ + 1, hj => exact absurd hj (Nat.not_lt.2 (Nat.le_add_left _ _)))
    have HN2 := Lib.hid ((hb3.block w2.heap.size (by omega)).trans hn2)
    have HI := Lib.hid hi
    have HG2 := Lib.hid hg
    have HB3 := Lib.hid (gb_trans (gb_below (r := some gp) hb2) (gb_below hb3))
    clear hi hp hg hb2 hn2 hb3 hn3 ha2 kx1
    go_wp2_with fail
    (with_reducible refine kb.mono ?_)
    rintro e w4 ⟨rfl, hp, hg⟩
    have hs4 : w2.heap.size + 2 ≤ w4.heap.size := by rw [← ha3]; exact hg.size
    have hb5 : Below w4.heap.size w4 (w4.alloc (.cells #[.int .i64 (xk : Int), .string xt, .int .i64 xn, .int .i64 (xa : Int)] 77)) := (Below.refl _ _).alloc (Nat.le_refl _) _
    have HN5 := Lib.hid (heap_alloc_new w4 (.cells #[.int .i64 (xk : Int), .string xt, .int .i64 xn, .int .i64 (xa : Int)] 77))
    have ha5 : (w4.alloc (.cells #[.int .i64 (xk : Int), .string xt, .int .i64 xn, .int .i64 (xa : Int)] 77)).heap.size = w4.heap.size + 1 := by simp
    have HP := Lib.hid (hp.below hb5)
    have g5 := Lib.hid (gb_below (r := some gp) hb5)
    have g4 := Lib.hid (gb_trans hg g5.out)
    have g2 := Lib.hid (gb_trans HB3.out g4.out)
    have g1 := Lib.hid (gb_trans HG2.out g2.out)
    have g0 := Lib.hid (gb_trans HB1.out g1.out)
    have L1 := Lib.hid ((g4.out.block w2.heap.size (by omega) (by intro e; injection e with e; omega)).trans HN2.out)
    have LR := Lib.hid ((g1.out.block w.heap.size (by omega) (by intro e; injection e with e; omega)).trans HN1.out)
    have I5 := Lib.hid (HI.out.grown g2.out (by omega))
    clear hp hg hb5 kb HI HG2 HB3 HN2 HN1 KB HB1
    obtain ⟨w5, hw5⟩ : ∃ w5, w5 = (w4.alloc (.cells #[.int .i64 (xk : Int), .string xt, .int .i64 xn, .int .i64 (xa : Int)] 77)) := ⟨_, rfl⟩
    rw [← hw5] at ha5 HP g5 g4 g2 g1 g0 L1 LR I5 HN5
    have hx2 := HX2.out trivial
    have HX := Lib.hid hx2
    clear HX2 hx2
    have HW5 := Lib.hid hw5
    clear hw5
    go_wp2_with fail
    rw [← HW5.out]
    refine wp_region_stepsG_then (words [wIs (.agg #[.int .i64 (xk : Int), .string xt, .int .i64 xn, .int .i64 (xa : Int)]), wIs (.agg #[.string o1, .string m1, .int .i64 n1, .int .i64 a1, .slice x1 l1 c1]), wIs (.pointer (some ⟨gp, 0, none⟩)), wIs (.int .i64 (d : Int)), wIs (.int .i64 ((d : Int) + 1)), fun v W => wEx (w.heap.size + 1) t2 v W ∧ Par L W gp gw c S2, wEx (w.heap.size + 1) (twoS ⟨xk, xt, xn, xa⟩ t1 t2)]) (fun W W' => W.grownBy W' (some gp)) (fun W => Par L W gp gw c R) 5 (by kernel_rfl) (gbt gp) (gbb gp) (fun W W' hF hb => hF.below hb) HP.out (words_stable ?stab) ?stabr rfl rfl rfl (by kernel_rfl) (by decide) 7 _ rfl rfl ?steps ?last
    case stab =>
      intro f hf
      simp only [List.mem_cons, List.not_mem_nil, or_false] at hf
      rcases hf with rfl | rfl | rfl | rfl | rfl | rfl | rfl
      · exact stable_is _
      · exact stable_is _
      · exact stable_is _
      · exact stable_is _
      · exact stable_is _
      · exact fun v W W' hv hb => ⟨stable_ex _ _ v W W' hv.1 hb, hv.2.below hb⟩
      · exact stable_ex _ _
    case stabr =>
      intro i v W W' hne hv hb
      match i, hne, hv with
      | 0, _, hv => exact hv
      | 1, _, hv => exact hv
      | 2, _, hv => exact hv
      | 3, _, hv => exact hv
      | 4, _, hv => exact hv
      | 5, hne, _ => exact absurd rfl hne
      | 6, _, hv => exact stableR_ex gp _ (by omega) _ v W W' hv hb
      | _ + 7, _, _ => trivial
    case steps =>
      refine StepsG.cons (stepG_value (by decide) rfl fun a W hp => ?_) ?_
      · have f1 : a.tmps.getD 6 undef = .pointer (some ⟨w4.heap.size, 0, none⟩) := hp.old 6 rfl
        exact ⟨wanted_none rfl, _, _, run_ldrow rfl f1 ((hp.rel.block w4.heap.size (by omega) (by intro e; injection e with e; omega)).trans HN5.out) Tryz.underlying77 rfl HSW.out, rfl, Below.refl _ _⟩
      refine StepsG.cons (stepG_value (by decide) rfl fun a W hp => ?_) ?_
      · have f1 : a.tmps.getD 5 undef = .pointer (some ⟨w2.heap.size, 0, none⟩) := hp.old 5 rfl
        exact ⟨wanted_none rfl, _, _, run_ldrow rfl f1 ((hp.rel.block w2.heap.size (by omega) (by intro e; injection e with e; omega)).trans L1.out) Tryz.underlying54 rfl HSE.out, rfl, Below.refl _ _⟩
      refine StepsG.cons (stepG_value (by decide) rfl fun a W hp => ⟨wanted_none rfl, _, _, run_move (.inl rfl), (hp.old 0 rfl), Below.refl _ _⟩) ?_
      refine StepsG.cons (stepG_value (by decide) rfl fun a W hp => ⟨wanted_none rfl, _, _, run_move (.inl rfl), (hp.old 1 rfl), Below.refl _ _⟩) ?_
      refine StepsG.cons (stepG_value (by decide) rfl fun a W hp => ?_) ?_
      · have f1 : a.tmps.getD 21 undef = .int .i64 (d : Int) := (hp.on_ 3 rfl rfl rfl).2
        refine ⟨wanted_none rfl, _, _, run_bin3 rfl ?_ ?_, rfl, Below.refl _ _⟩
        · show (eqGuard _ _ _ _ (a.tmps.getD 21 undef) _).run _ W = _
          rw [f1]; rfl
        · show (binOp _ _ (a.tmps.getD 21 undef) _).run _ W = _
          rw [f1]; exact bin_add1 d hd
      refine StepsG.cons (stepG_turn rfl fun a W hp hF => ?_) ?_
      · have f1 : a.tmps.getD 20 undef = .pointer (some ⟨gp, 0, none⟩) := (hp.on_ 2 rfl rfl rfl).2
        have f2 : a.tmps.getD 22 undef = .int .i64 ((d : Int) + 1) := (hp.on_ 4 rfl rfl rfl).2
        refine ⟨wanted_none rfl, 76, _, run_enter2 rfl rfl Tryz.call76, ?_⟩
        show Calls _ _ #[a.tmps.getD 20 undef, a.tmps.getD 22 undef] W _
        rw [f1, f2]
        refine (HX.out W hF).mono ?_
        rintro e W' ⟨o2, m2, n2, a2, x2, l2, c2, rfl, hi2, hp2, hg2⟩
        have := hp.rel.size
        exact ⟨_, rfl, ⟨⟨o2, m2, n2, a2, x2, l2, c2, rfl, hi2.mono (by omega) _⟩, hp2⟩, hg2⟩
      refine StepsG.cons (stepG_enter (by decide) rfl fun a W hp => ?_) ?_
      · have f1 : a.tmps.getD 18 undef = .agg #[.int .i64 (xk : Int), .string xt, .int .i64 xn, .int .i64 (xa : Int)] := (hp.on_ 0 rfl rfl rfl).2
        have f2 : a.tmps.getD 19 undef = .agg #[.string o1, .string m1, .int .i64 n1, .int .i64 a1, .slice x1 l1 c1] := (hp.on_ 1 rfl rfl rfl).2
        obtain ⟨⟨o2, m2, n2, a2, x2, l2, c2, f3, hi2⟩, hp2⟩ : wEx (w.heap.size + 1) t2 (a.tmps.getD 23 undef) W ∧ Par L W gp gw c S2 := (hp.on_ 5 rfl rfl rfl).2
        refine ⟨wanted_none rfl, 92, _, run_enter3 rfl rfl Tryz.call92, ?_⟩
        show Calls _ _ #[a.tmps.getD 18 undef, a.tmps.getD 19 undef, a.tmps.getD 23 undef] W _
        rw [f1, f2, f3]
        have := hp.rel.size
        refine (TWO.out W (by omega) o1 m1 n1 a1 x1 l1 c1 o2 m2 n2 a2 x2 l2 c2 ((I5.out.grown hp.rel (by omega)).mono (by omega) _) (hi2.mono (by omega) _)).mono ?_
        rintro e W' ⟨o3, m3, n3, a3, x3, l3, c3, rfl, hi3, hb3⟩
        exact ⟨_, rfl, ⟨o3, m3, n3, a3, x3, l3, c3, rfl, hi3⟩, hb3⟩
      exact StepsG.nil
    case last =>
      intro a W hI
      obtain ⟨o3, m3, n3, a3, x3, l3, c3, f3, hi3⟩ : wEx (w.heap.size + 1) (twoS ⟨xk, xt, xn, xa⟩ t1 t2) (a.tmps.getD 24 undef) W := hI.new 6 _ 24 rfl rfl rfl
      obtain ⟨_, hp3⟩ : wEx (w.heap.size + 1) t2 (a.tmps.getD 23 undef) W ∧ Par L W gp gw c S2 := hI.new 5 _ 23 rfl rfl rfl
      have f4 : a.tmps.getD 4 undef = .pointer (some ⟨w.heap.size, 0, none⟩) := hI.old 4 (by simp)
      have hsz : a.tmps.size = 26 := hI.tmps
      have hdf : a.defers = [] := hI.defers
      have hrel := hI.rel
      have lr := (hrel.block w.heap.size (by omega) (by intro e; injection e with e; omega)).trans LR.out
      have hg6 := gb_trans g0.out hrel
      clear hI
      refine wpOp_of rfl (wanted_none rfl) ?_
      refine wp_store_row 54 (.tmp 4) (.tmp 24) rfl w.heap.size #[.string o3, .string m3, .int .i64 n3, .int .i64 a3, .slice x3 l3 c3] f4 f3 54 _ lr HSE.out rfl (expr_one _ _ _ _ _ _ _) ?_
      have hset := setRow_heap W w.heap.size _ #[.string o3, .string m3, .int .i64 n3, .int .i64 a3, .slice x3 l3 c3] _ _ lr
      have hs6 := hrel.size
      obtain ⟨a2, ha2⟩ : ∃ a2, a2 = a.put none undef := ⟨_, rfl⟩
      have g4s : a2.tmps.getD 4 undef = .pointer (some ⟨w.heap.size, 0, none⟩) := by rw [ha2]; exact f4
      have gd : a2.defers = [] := by rw [ha2]; exact hdf
      rw [← ha2]
      clear ha2
      go_wp2_with fail
      refine bodyPost_ret (v := .agg #[.string o3, .string m3, .int .i64 n3, .int .i64 a3, .slice x3 l3 c3]) (results_cell_row (p := 4) (ty := 54) rfl _ _ w.heap.size 54 _ (0, 0) _ g4s hset Tryz.underlying54 rfl HSE.out) gd ⟨o3, m3, n3, a3, x3, l3, c3, rfl, ?_, hp3.keep (setRow_other W w.heap.size gp _ (by omega)) (setRow_other W w.heap.size gw _ (by omega)) (by rw [setRow_size]; exact Nat.le_refl _), gb_setRow hg6 _ (Nat.le_refl _) _⟩
      exact IsE.mono (B := w.heap.size + 1) (by omega) _ (hi3.keep (by rw [setRow_size]; exact Nat.le_refl _) (fun k h2 h3 => setRow_other W w.heap.size k _ (by omega)))
end Go.Proofs.YtjlnihennlkmpaaGreatDoor

namespace Go.Proofs.YtjlnihennlkmpaaGreatDoor
open Go Go.RowKit
set_option maxHeartbeats 4000000 in
set_option maxRecDepth 100000 in
theorem un_any (L : List Wd) (hG : Good L) (d : Nat) (hd : d < 1000) (w : World) (gp gw c : Nat) (st : St) (h : Par L w gp gw c st) (t : Ex) (S : St) (hq : (askS L d st).parts < 1000000000)
    (hx : (isS L (bs [110, 111, 116]) (askS L d st) = true ∨ isS L (bs [112, 114, 101]) (askS L d st) = true) ∨ isS L (bs [45]) (askS L d st) = true → ∀ W, Par L W gp gw c (partS L (askS L d st)).2 → Calls Tryz.prog 126 #[.pointer (some ⟨gp, 0, none⟩), .int .i64 ((d : Int) + 1)] W (GivesX L gp gw c t S W))
    (hp : ¬ ((isS L (bs [110, 111, 116]) (askS L d st) = true ∨ isS L (bs [112, 114, 101]) (askS L d st) = true) ∨ isS L (bs [45]) (askS L d st) = true) → ∀ W, Par L W gp gw c (askS L d st) → Calls Tryz.prog 128 #[.pointer (some ⟨gp, 0, none⟩), .int .i64 (d : Int)] W (GivesX L gp gw c t S W)) :
    Calls Tryz.prog 126 #[.pointer (some ⟨gp, 0, none⟩), .int .i64 (d : Int)] w (GivesX L gp gw c (if isS L (bs [110, 111, 116]) (askS L d st) = true ∨ isS L (bs [112, 114, 101]) (askS L d st) = true then .mk (partS L (askS L d st)).1.text ⟨#[]⟩ 0 (partS L (askS L d st)).1.at_ [t] else if isS L (bs [45]) (askS L d st) = true then .mk (bs [110, 101, 103]) ⟨#[]⟩ 0 (partS L (askS L d st)).1.at_ [t] else t) S w) := by
  have hb1 : Below w.heap.size w (w.alloc (.cells #[.string ⟨#[]⟩, .string ⟨#[]⟩, .int .i64 0, .int .i64 0, .slice none 0 0] 54)) := (Below.refl _ _).alloc (Nat.le_refl _) _
  have hn1 := heap_alloc_new w (.cells #[.string ⟨#[]⟩, .string ⟨#[]⟩, .int .i64 0, .int .i64 0, .slice none 0 0] 54)
  have h1 := h.below hb1
  have hgp := h.gpl
  have hgw := h.gwl
  have hs1 : (w.alloc (.cells #[.string ⟨#[]⟩, .string ⟨#[]⟩, .int .i64 0, .int .i64 0, .slice none 0 0] 54)).heap.size = w.heap.size + 1 := by simp
  have ka := ask_any L d _ gp gw c st h1
  obtain ⟨s, hs⟩ : ∃ s, s = askS L d st := ⟨_, rfl⟩
  rw [← hs] at hx hp hq ka ⊢
  have k1 : ∀ W, Par L W gp gw c s → Calls Tryz.prog 30 #[.pointer (some ⟨gp, 0, none⟩), .string ⟨#[110, 111, 116]⟩] W fun e w' => e = .returned (.bool (isS L (bs [110, 111, 116]) s)) ∧ w' = W := fun W hp => is_any L (bs [110, 111, 116]) W gp gw c s hp
  have k2 : ∀ W, Par L W gp gw c s → Calls Tryz.prog 30 #[.pointer (some ⟨gp, 0, none⟩), .string ⟨#[112, 114, 101]⟩] W fun e w' => e = .returned (.bool (isS L (bs [112, 114, 101]) s)) ∧ w' = W := fun W hp => is_any L (bs [112, 114, 101]) W gp gw c s hp
  have k3 : ∀ W, Par L W gp gw c s → Calls Tryz.prog 30 #[.pointer (some ⟨gp, 0, none⟩), .string ⟨#[45]⟩] W fun e w' => e = .returned (.bool (isS L (bs [45]) s)) ∧ w' = W := fun W hp => is_any L (bs [45]) W gp gw c s hp
  have kp := fun W (hp : Par L W gp gw c s) => part_any L hG W gp gw c s hp hq
  obtain ⟨b1, hb1'⟩ : ∃ b, b = isS L (bs [110, 111, 116]) s := ⟨_, rfl⟩
  obtain ⟨b2, hb2'⟩ : ∃ b, b = isS L (bs [112, 114, 101]) s := ⟨_, rfl⟩
  obtain ⟨b3, hb3'⟩ : ∃ b, b = isS L (bs [45]) s := ⟨_, rfl⟩
  obtain ⟨y, hy⟩ : ∃ y, y = (partS L s).1 := ⟨_, rfl⟩
  obtain ⟨R, hR⟩ : ∃ R, R = (partS L s).2 := ⟨_, rfl⟩
  rw [← hb1', ← hb2', ← hb3'] at hx hp ⊢
  rw [← hb1'] at k1
  rw [← hb2'] at k2
  rw [← hb3'] at k3
  rw [← hR] at hx
  rw [← hy, ← hR] at kp
  rw [← hy]
  have HX := Lib.hid hx
  have HQ := Lib.hid hp
  have K1 := Lib.hid k1
  have K2 := Lib.hid k2
  have K3 := Lib.hid k3
  have HB1 := Lib.hid (gb_below (r := some gp) hb1)
  have HN1 := Lib.hid hn1
  have HSE := Lib.hid size_expr
  have KP := Lib.hid kp
  clear hx hp k1 k2 k3 hb1 hn1 h h1 kp hs hb1' hb2' hb3' hy hR hq
  obtain ⟨xk, xt, xn, xa⟩ := y
  unfold Wd.cells at KP
  cases b1
  · cases b2
    · cases b3
      · rw [if_neg (by simp), if_neg (by simp)]
        go_enter Tryz.func126, Tryz.ntmps126
        go_wp2_with fail
        (with_reducible refine ka.mono ?_)
        rintro e w2 ⟨rfl, hp, hg⟩
        have HP2 := Lib.hid hp
        have hs2 : w.heap.size + 1 ≤ w2.heap.size := by rw [← hs1]; exact hg.size
        have HG2 := Lib.hid (gb_trans HB1.out hg)
        have HR2 := Lib.hid ((hg.block w.heap.size (by omega) (by intro e; injection e with e; omega)).trans HN1.out)
        clear hp hg ka
        have ki := K1.out w2 HP2.out
        go_wp2_with fail
        (with_reducible refine ki.mono ?_)
        rintro e w' ⟨rfl, hw'⟩
        rw [hw']
        clear ki hw' w'
        have ki := K2.out w2 HP2.out
        go_wp2_with fail
        (with_reducible refine ki.mono ?_)
        rintro e w' ⟨rfl, hw'⟩
        rw [hw']
        clear ki hw' w'
        have ki := K3.out w2 HP2.out
        go_wp2_with fail
        (with_reducible refine ki.mono ?_)
        rintro e w' ⟨rfl, hw'⟩
        rw [hw']
        clear ki hw' w'
        have kp := HQ.out (by simp) w2 HP2.out
        go_wp2_with fail
        (with_reducible refine kp.mono ?_)
        rintro e w3 ⟨o3, m3, n3, a3, x3, l3, c3, rfl, hi, hp, hg⟩
        unfold exV
        have hs3 : w2.heap.size ≤ w3.heap.size := hg.size
        have LR := Lib.hid ((hg.block w.heap.size (by omega) (by intro e; injection e with e; omega)).trans HR2.out)
        have g0 := Lib.hid (gb_trans HG2.out hg)
        have HP := Lib.hid hp
        have HI := Lib.hid hi
        clear hi hp hg kp
        go_wp2_with (refine wpList_store_row rfl 54 (.tmp 4) (.tmp 42) rfl w.heap.size #[.string o3, .string m3, .int .i64 n3, .int .i64 a3, .slice x3 l3 c3] rfl rfl 54 _ LR.out HSE.out rfl (expr_one _ _ _ _ _ _ _) ?_)
        have hset := setRow_heap w3 w.heap.size _ #[.string o3, .string m3, .int .i64 n3, .int .i64 a3, .slice x3 l3 c3] _ _ LR.out
        refine bodyPost_ret (v := .agg #[.string o3, .string m3, .int .i64 n3, .int .i64 a3, .slice x3 l3 c3]) (results_cell_row (p := 4) (ty := 54) rfl _ _ w.heap.size 54 _ (0, 0) _ rfl hset Tryz.underlying54 rfl HSE.out) rfl ⟨o3, m3, n3, a3, x3, l3, c3, rfl, ?_, HP.out.keep (setRow_other w3 w.heap.size gp _ (by omega)) (setRow_other w3 w.heap.size gw _ (by omega)) (by rw [setRow_size]; exact Nat.le_refl _), gb_setRow g0.out _ (Nat.le_refl _) _⟩
        exact IsE.mono (B := w2.heap.size) (by omega) _ (HI.out.keep (by rw [setRow_size]; exact Nat.le_refl _) (fun k h2 h3 => setRow_other w3 w.heap.size k _ (by omega)))
      · rw [if_neg (by simp), if_pos rfl]
        go_enter Tryz.func126, Tryz.ntmps126
        go_wp2_with fail
        (with_reducible refine ka.mono ?_)
        rintro e w2 ⟨rfl, hp, hg⟩
        have HP2 := Lib.hid hp
        have hs2 : w.heap.size + 1 ≤ w2.heap.size := by rw [← hs1]; exact hg.size
        have HG2 := Lib.hid (gb_trans HB1.out hg)
        have HR2 := Lib.hid ((hg.block w.heap.size (by omega) (by intro e; injection e with e; omega)).trans HN1.out)
        clear hp hg ka
        have ki := K1.out w2 HP2.out
        go_wp2_with fail
        (with_reducible refine ki.mono ?_)
        rintro e w' ⟨rfl, hw'⟩
        rw [hw']
        clear ki hw' w'
        have ki := K2.out w2 HP2.out
        go_wp2_with fail
        (with_reducible refine ki.mono ?_)
        rintro e w' ⟨rfl, hw'⟩
        rw [hw']
        clear ki hw' w'
        have ki := K3.out w2 HP2.out
        go_wp2_with fail
        (with_reducible refine ki.mono ?_)
        rintro e w' ⟨rfl, hw'⟩
        rw [hw']
        clear ki hw' w'
        have kp := KP.out w2 HP2.out
        go_wp2_with fail
        (with_reducible refine kp.mono ?_)
        rintro e w3 ⟨rfl, hp, hg⟩
        have hs3 : w2.heap.size ≤ w3.heap.size := hg.size
        have hb4 : Below w3.heap.size w3 (w3.alloc (.cells #[.int .i64 (xk : Int), .string xt, .int .i64 xn, .int .i64 (xa : Int)] 77)) := (Below.refl _ _).alloc (Nat.le_refl _) _
        have HN4 := Lib.hid (heap_alloc_new w3 (.cells #[.int .i64 (xk : Int), .string xt, .int .i64 xn, .int .i64 (xa : Int)] 77))
        have ha4 : (w3.alloc (.cells #[.int .i64 (xk : Int), .string xt, .int .i64 xn, .int .i64 (xa : Int)] 77)).heap.size = w3.heap.size + 1 := by simp
        have HP := Lib.hid (hp.below hb4)
        have g2 := Lib.hid (gb_trans hg (gb_below (r := some gp) hb4))
        have g0 := Lib.hid (gb_trans HG2.out g2.out)
        have LR := Lib.hid ((g2.out.block w.heap.size (by omega) (by intro e; injection e with e; omega)).trans HR2.out)
        have hx := HX.out (by simp)
        have HX' := Lib.hid hx
        clear hp hg hb4 kp HP2 HG2 HR2 HX hx
        obtain ⟨w5, hw5⟩ : ∃ w5, w5 = (w3.alloc (.cells #[.int .i64 (xk : Int), .string xt, .int .i64 xn, .int .i64 (xa : Int)] 77)) := ⟨_, rfl⟩
        rw [← hw5] at ha4 HP g2 g0 LR HN4
        have HC1 : w5.cell? ⟨w3.heap.size, 1, none⟩ = some (.string xt) := by simp only [World.cell?, HN4.out]; rfl
        have HC3 : w5.cell? ⟨w3.heap.size, 3, none⟩ = some (.int .i64 (xa : Int)) := by simp only [World.cell?, HN4.out]; rfl
        have HC1' := Lib.hid HC1
        have HC3' := Lib.hid HC3
        have HW5 := Lib.hid hw5
        clear hw5 HC1 HC3
        go_wp2_with fail
        rw [← HW5.out]
        refine wp_region_stepsG_then (words [wIs (.pointer (some ⟨w3.heap.size, 3, none⟩)), wIs (.int .i64 (xa : Int)), wIs (.pointer (some ⟨gp, 0, none⟩)), wIs (.int .i64 (d : Int)), wIs (.int .i64 ((d : Int) + 1)), fun v W => wEx (w.heap.size + 1) t v W ∧ Par L W gp gw c S, wSl (w.heap.size + 1) t, wEx (w.heap.size + 1) (.mk (bs [110, 101, 103]) ⟨#[]⟩ 0 xa [t])]) (fun W W' => W.grownBy W' (some gp)) (fun W => Par L W gp gw c R) 5 (by kernel_rfl) (gbt gp) (gbb gp) (fun W W' hF hb => hF.below hb) HP.out (words_stable ?stab) ?stabr rfl rfl rfl (by kernel_rfl) (by decide) 8 _ rfl rfl ?steps ?last
        case stab =>
          intro f hf
          simp only [List.mem_cons, List.not_mem_nil, or_false] at hf
          rcases hf with rfl | rfl | rfl | rfl | rfl | rfl | rfl | rfl
          · exact stable_is _
          · exact stable_is _
          · exact stable_is _
          · exact stable_is _
          · exact stable_is _
          · exact fun v W W' hv hb => ⟨stable_ex _ _ v W W' hv.1 hb, hv.2.below hb⟩
          · exact stable_sl _ _
          · exact stable_ex _ _
        case stabr =>
          intro i v W W' hne hv hb
          match i, hne, hv with
          | 0, _, hv => exact hv
          | 1, _, hv => exact hv
          | 2, _, hv => exact hv
          | 3, _, hv => exact hv
          | 4, _, hv => exact hv
          | 5, hne, _ => exact absurd rfl hne
          | 6, _, hv => exact stableR_sl gp _ (by omega) _ v W W' hv hb
          | 7, _, hv => exact stableR_ex gp _ (by omega) _ v W W' hv hb
          | _ + 8, _, _ => trivial
        case steps =>
          refine StepsG.cons (stepG_value (by decide) rfl fun a W hp => ?_) ?_
          · have f1 : a.tmps.getD 6 undef = .pointer (some ⟨w3.heap.size, 0, none⟩) := hp.old 6 rfl
            refine ⟨wanted_none rfl, _, _, run_fa rfl ?_, rfl, Below.refl _ _⟩
            show (Instr.fieldAt _ (a.tmps.getD 6 undef) 3).run _ W = _
            rw [f1]
            exact fa_word3 _ W
          refine StepsG.cons (stepG_value (by decide) rfl fun a W hp => ?_) ?_
          · have f1 : a.tmps.getD 32 undef = .pointer (some ⟨w3.heap.size, 3, none⟩) := (hp.on_ 0 rfl rfl rfl).2
            have hc : W.cell? ⟨w3.heap.size, 3, none⟩ = some _ := (gb_cell hp.rel (by omega) (by omega)).trans HC3'.out
            exact ⟨wanted_none rfl, _, _, run_ldint rfl f1 hc, rfl, Below.refl _ _⟩
          refine StepsG.cons (stepG_value (by decide) rfl fun a W hp => ⟨wanted_none rfl, _, _, run_move (.inl rfl), (hp.old 0 rfl), Below.refl _ _⟩) ?_
          refine StepsG.cons (stepG_value (by decide) rfl fun a W hp => ⟨wanted_none rfl, _, _, run_move (.inl rfl), (hp.old 1 rfl), Below.refl _ _⟩) ?_
          refine StepsG.cons (stepG_value (by decide) rfl fun a W hp => ?_) ?_
          · have f1 : a.tmps.getD 35 undef = .int .i64 (d : Int) := (hp.on_ 3 rfl rfl rfl).2
            refine ⟨wanted_none rfl, _, _, run_bin3 rfl ?_ ?_, rfl, Below.refl _ _⟩
            · show (eqGuard _ _ _ _ (a.tmps.getD 35 undef) _).run _ W = _
              rw [f1]; rfl
            · show (binOp _ _ (a.tmps.getD 35 undef) _).run _ W = _
              rw [f1]; exact bin_add1 d hd
          refine StepsG.cons (stepG_turn rfl fun a W hp hF => ?_) ?_
          · have f1 : a.tmps.getD 34 undef = .pointer (some ⟨gp, 0, none⟩) := (hp.on_ 2 rfl rfl rfl).2
            have f2 : a.tmps.getD 36 undef = .int .i64 ((d : Int) + 1) := (hp.on_ 4 rfl rfl rfl).2
            refine ⟨wanted_none rfl, 126, _, run_enter2 rfl rfl Tryz.call126, ?_⟩
            show Calls _ _ #[a.tmps.getD 34 undef, a.tmps.getD 36 undef] W _
            rw [f1, f2]
            refine (HX'.out W hF).mono ?_
            rintro e W' ⟨o2, m2, n2, a2, x2, l2, c2, rfl, hi2, hp2, hg2⟩
            have := hp.rel.size
            exact ⟨_, rfl, ⟨⟨o2, m2, n2, a2, x2, l2, c2, rfl, hi2.mono (by omega) _⟩, hp2⟩, hg2⟩
          refine StepsG.cons (stepG_value (by decide) rfl fun a W hp => ?_) ?_
          · obtain ⟨⟨o2, m2, n2, a2, x2, l2, c2, f3, hi2⟩, hp2⟩ : wEx (w.heap.size + 1) t (a.tmps.getD 37 undef) W ∧ Par L W gp gw c S := (hp.on_ 5 rfl rfl rfl).2
            have := hp.rel.size
            refine ⟨wanted_none rfl, _, _, run_bsl1 rfl ?_, wSl_new (by omega) hi2, (Below.refl _ _).alloc (Nat.le_refl _) _⟩
            show (Instr.buildSlice _ 1 #[(0, a.tmps.getD 37 undef)]).run _ W = _
            rw [f3]
            exact slice_one _ _ _ _ _ _ _ W
          refine StepsG.cons (stepG_value (by decide) rfl fun a W hp => ?_) ?_
          · obtain ⟨x9, f3, he⟩ := wEx_one (s := (bs [110, 101, 103])) (a := xa) (hp.on_ 6 rfl rfl rfl).2
            have f2 : a.tmps.getD 33 undef = .int .i64 (xa : Int) := (hp.on_ 1 rfl rfl rfl).2
            refine ⟨wanted_none rfl, _, _, run_bld3 rfl ?_, he, Below.refl _ _⟩
            show (Instr.build _ #[(0, .string ⟨#[110, 101, 103]⟩), (3, a.tmps.getD 33 undef), (4, a.tmps.getD 38 undef)]).run _ W = _
            rw [f2, f3]
            exact build_one _ _ _ _ _ W
          exact StepsG.nil
        case last =>
          intro a W hI
          obtain ⟨o3, m3, n3, a3, x3, l3, c3, f3, hi3⟩ : wEx (w.heap.size + 1) (.mk (bs [110, 101, 103]) ⟨#[]⟩ 0 xa [t]) (a.tmps.getD 39 undef) W := hI.new 7 _ 39 rfl rfl rfl
          obtain ⟨_, hp3⟩ : wEx (w.heap.size + 1) t (a.tmps.getD 37 undef) W ∧ Par L W gp gw c S := hI.new 5 _ 37 rfl rfl rfl
          have f4 : a.tmps.getD 4 undef = .pointer (some ⟨w.heap.size, 0, none⟩) := hI.old 4 (by simp)
          have hsz : a.tmps.size = 43 := hI.tmps
          have hdf : a.defers = [] := hI.defers
          have hrel := hI.rel
          have lr := (hrel.block w.heap.size (by omega) (by intro e; injection e with e; omega)).trans LR.out
          have hg6 := gb_trans g0.out hrel
          clear hI
          refine wpOp_of rfl (wanted_none rfl) ?_
          refine wp_store_row 54 (.tmp 4) (.tmp 39) rfl w.heap.size #[.string o3, .string m3, .int .i64 n3, .int .i64 a3, .slice x3 l3 c3] f4 f3 54 _ lr HSE.out rfl (expr_one _ _ _ _ _ _ _) ?_
          have hset := setRow_heap W w.heap.size _ #[.string o3, .string m3, .int .i64 n3, .int .i64 a3, .slice x3 l3 c3] _ _ lr
          have hs6 := hrel.size
          obtain ⟨a2, ha2⟩ : ∃ a2, a2 = a.put none undef := ⟨_, rfl⟩
          have g4s : a2.tmps.getD 4 undef = .pointer (some ⟨w.heap.size, 0, none⟩) := by rw [ha2]; exact f4
          have gd : a2.defers = [] := by rw [ha2]; exact hdf
          rw [← ha2]
          clear ha2
          go_wp2_with fail
          refine bodyPost_ret (v := .agg #[.string o3, .string m3, .int .i64 n3, .int .i64 a3, .slice x3 l3 c3]) (results_cell_row (p := 4) (ty := 54) rfl _ _ w.heap.size 54 _ (0, 0) _ g4s hset Tryz.underlying54 rfl HSE.out) gd ⟨o3, m3, n3, a3, x3, l3, c3, rfl, ?_, hp3.keep (setRow_other W w.heap.size gp _ (by omega)) (setRow_other W w.heap.size gw _ (by omega)) (by rw [setRow_size]; exact Nat.le_refl _), gb_setRow hg6 _ (Nat.le_refl _) _⟩
          exact IsE.mono (B := w.heap.size + 1) (by omega) _ (hi3.keep (by rw [setRow_size]; exact Nat.le_refl _) (fun k h2 h3 => setRow_other W w.heap.size k _ (by omega)))
    · rw [if_pos (by simp)]
      go_enter Tryz.func126, Tryz.ntmps126
      go_wp2_with fail
      (with_reducible refine ka.mono ?_)
      rintro e w2 ⟨rfl, hp, hg⟩
      have HP2 := Lib.hid hp
      have hs2 : w.heap.size + 1 ≤ w2.heap.size := by rw [← hs1]; exact hg.size
      have HG2 := Lib.hid (gb_trans HB1.out hg)
      have HR2 := Lib.hid ((hg.block w.heap.size (by omega) (by intro e; injection e with e; omega)).trans HN1.out)
      clear hp hg ka
      have ki := K1.out w2 HP2.out
      go_wp2_with fail
      (with_reducible refine ki.mono ?_)
      rintro e w' ⟨rfl, hw'⟩
      rw [hw']
      clear ki hw' w'
      have ki := K2.out w2 HP2.out
      go_wp2_with fail
      (with_reducible refine ki.mono ?_)
      rintro e w' ⟨rfl, hw'⟩
      rw [hw']
      clear ki hw' w'
      have kp := KP.out w2 HP2.out
      go_wp2_with fail
      (with_reducible refine kp.mono ?_)
      rintro e w3 ⟨rfl, hp, hg⟩
      have hs3 : w2.heap.size ≤ w3.heap.size := hg.size
      have hb4 : Below w3.heap.size w3 (w3.alloc (.cells #[.int .i64 (xk : Int), .string xt, .int .i64 xn, .int .i64 (xa : Int)] 77)) := (Below.refl _ _).alloc (Nat.le_refl _) _
      have HN4 := Lib.hid (heap_alloc_new w3 (.cells #[.int .i64 (xk : Int), .string xt, .int .i64 xn, .int .i64 (xa : Int)] 77))
      have ha4 : (w3.alloc (.cells #[.int .i64 (xk : Int), .string xt, .int .i64 xn, .int .i64 (xa : Int)] 77)).heap.size = w3.heap.size + 1 := by simp
      have HP := Lib.hid (hp.below hb4)
      have g2 := Lib.hid (gb_trans hg (gb_below (r := some gp) hb4))
      have g0 := Lib.hid (gb_trans HG2.out g2.out)
      have LR := Lib.hid ((g2.out.block w.heap.size (by omega) (by intro e; injection e with e; omega)).trans HR2.out)
      have hx := HX.out (by simp)
      have HX' := Lib.hid hx
      clear hp hg hb4 kp HP2 HG2 HR2 HX hx
      obtain ⟨w5, hw5⟩ : ∃ w5, w5 = (w3.alloc (.cells #[.int .i64 (xk : Int), .string xt, .int .i64 xn, .int .i64 (xa : Int)] 77)) := ⟨_, rfl⟩
      rw [← hw5] at ha4 HP g2 g0 LR HN4
      have HC1 : w5.cell? ⟨w3.heap.size, 1, none⟩ = some (.string xt) := by simp only [World.cell?, HN4.out]; rfl
      have HC3 : w5.cell? ⟨w3.heap.size, 3, none⟩ = some (.int .i64 (xa : Int)) := by simp only [World.cell?, HN4.out]; rfl
      have HC1' := Lib.hid HC1
      have HC3' := Lib.hid HC3
      have HW5 := Lib.hid hw5
      clear hw5 HC1 HC3
      go_wp2_with fail
      rw [← HW5.out]
      refine wp_region_stepsG_then (words [wIs (.pointer (some ⟨w3.heap.size, 1, none⟩)), wIs (.string xt), wIs (.pointer (some ⟨w3.heap.size, 3, none⟩)), wIs (.int .i64 (xa : Int)), wIs (.pointer (some ⟨gp, 0, none⟩)), wIs (.int .i64 (d : Int)), wIs (.int .i64 ((d : Int) + 1)), fun v W => wEx (w.heap.size + 1) t v W ∧ Par L W gp gw c S, wSl (w.heap.size + 1) t, wEx (w.heap.size + 1) (.mk xt ⟨#[]⟩ 0 xa [t])]) (fun W W' => W.grownBy W' (some gp)) (fun W => Par L W gp gw c R) 7 (by kernel_rfl) (gbt gp) (gbb gp) (fun W W' hF hb => hF.below hb) HP.out (words_stable ?stab) ?stabr rfl rfl rfl (by kernel_rfl) (by decide) 10 _ rfl rfl ?steps ?last
      case stab =>
        intro f hf
        simp only [List.mem_cons, List.not_mem_nil, or_false] at hf
        rcases hf with rfl | rfl | rfl | rfl | rfl | rfl | rfl | rfl | rfl | rfl
        · exact stable_is _
        · exact stable_is _
        · exact stable_is _
        · exact stable_is _
        · exact stable_is _
        · exact stable_is _
        · exact stable_is _
        · exact fun v W W' hv hb => ⟨stable_ex _ _ v W W' hv.1 hb, hv.2.below hb⟩
        · exact stable_sl _ _
        · exact stable_ex _ _
      case stabr =>
        intro i v W W' hne hv hb
        match i, hne, hv with
        | 0, _, hv => exact hv
        | 1, _, hv => exact hv
        | 2, _, hv => exact hv
        | 3, _, hv => exact hv
        | 4, _, hv => exact hv
        | 5, _, hv => exact hv
        | 6, _, hv => exact hv
        | 7, hne, _ => exact absurd rfl hne
        | 8, _, hv => exact stableR_sl gp _ (by omega) _ v W W' hv hb
        | 9, _, hv => exact stableR_ex gp _ (by omega) _ v W W' hv hb
        | _ + 10, _, _ => trivial
      case steps =>
        refine StepsG.cons (stepG_value (by decide) rfl fun a W hp => ?_) ?_
        · have f1 : a.tmps.getD 5 undef = .pointer (some ⟨w3.heap.size, 0, none⟩) := hp.old 5 rfl
          refine ⟨wanted_none rfl, _, _, run_fa rfl ?_, rfl, Below.refl _ _⟩
          show (Instr.fieldAt _ (a.tmps.getD 5 undef) 1).run _ W = _
          rw [f1]
          exact fa_word1 _ W
        refine StepsG.cons (stepG_value (by decide) rfl fun a W hp => ?_) ?_
        · have f1 : a.tmps.getD 17 undef = .pointer (some ⟨w3.heap.size, 1, none⟩) := (hp.on_ 0 rfl rfl rfl).2
          have hc : W.cell? ⟨w3.heap.size, 1, none⟩ = some _ := (gb_cell hp.rel (by omega) (by omega)).trans HC1'.out
          exact ⟨wanted_none rfl, _, _, run_ldstr rfl f1 hc, rfl, Below.refl _ _⟩
        refine StepsG.cons (stepG_value (by decide) rfl fun a W hp => ?_) ?_
        · have f1 : a.tmps.getD 5 undef = .pointer (some ⟨w3.heap.size, 0, none⟩) := hp.old 5 rfl
          refine ⟨wanted_none rfl, _, _, run_fa rfl ?_, rfl, Below.refl _ _⟩
          show (Instr.fieldAt _ (a.tmps.getD 5 undef) 3).run _ W = _
          rw [f1]
          exact fa_word3 _ W
        refine StepsG.cons (stepG_value (by decide) rfl fun a W hp => ?_) ?_
        · have f1 : a.tmps.getD 19 undef = .pointer (some ⟨w3.heap.size, 3, none⟩) := (hp.on_ 2 rfl rfl rfl).2
          have hc : W.cell? ⟨w3.heap.size, 3, none⟩ = some _ := (gb_cell hp.rel (by omega) (by omega)).trans HC3'.out
          exact ⟨wanted_none rfl, _, _, run_ldint rfl f1 hc, rfl, Below.refl _ _⟩
        refine StepsG.cons (stepG_value (by decide) rfl fun a W hp => ⟨wanted_none rfl, _, _, run_move (.inl rfl), (hp.old 0 rfl), Below.refl _ _⟩) ?_
        refine StepsG.cons (stepG_value (by decide) rfl fun a W hp => ⟨wanted_none rfl, _, _, run_move (.inl rfl), (hp.old 1 rfl), Below.refl _ _⟩) ?_
        refine StepsG.cons (stepG_value (by decide) rfl fun a W hp => ?_) ?_
        · have f1 : a.tmps.getD 22 undef = .int .i64 (d : Int) := (hp.on_ 5 rfl rfl rfl).2
          refine ⟨wanted_none rfl, _, _, run_bin3 rfl ?_ ?_, rfl, Below.refl _ _⟩
          · show (eqGuard _ _ _ _ (a.tmps.getD 22 undef) _).run _ W = _
            rw [f1]; rfl
          · show (binOp _ _ (a.tmps.getD 22 undef) _).run _ W = _
            rw [f1]; exact bin_add1 d hd
        refine StepsG.cons (stepG_turn rfl fun a W hp hF => ?_) ?_
        · have f1 : a.tmps.getD 21 undef = .pointer (some ⟨gp, 0, none⟩) := (hp.on_ 4 rfl rfl rfl).2
          have f2 : a.tmps.getD 23 undef = .int .i64 ((d : Int) + 1) := (hp.on_ 6 rfl rfl rfl).2
          refine ⟨wanted_none rfl, 126, _, run_enter2 rfl rfl Tryz.call126, ?_⟩
          show Calls _ _ #[a.tmps.getD 21 undef, a.tmps.getD 23 undef] W _
          rw [f1, f2]
          refine (HX'.out W hF).mono ?_
          rintro e W' ⟨o2, m2, n2, a2, x2, l2, c2, rfl, hi2, hp2, hg2⟩
          have := hp.rel.size
          exact ⟨_, rfl, ⟨⟨o2, m2, n2, a2, x2, l2, c2, rfl, hi2.mono (by omega) _⟩, hp2⟩, hg2⟩
        refine StepsG.cons (stepG_value (by decide) rfl fun a W hp => ?_) ?_
        · obtain ⟨⟨o2, m2, n2, a2, x2, l2, c2, f3, hi2⟩, hp2⟩ : wEx (w.heap.size + 1) t (a.tmps.getD 24 undef) W ∧ Par L W gp gw c S := (hp.on_ 7 rfl rfl rfl).2
          have := hp.rel.size
          refine ⟨wanted_none rfl, _, _, run_bsl1 rfl ?_, wSl_new (by omega) hi2, (Below.refl _ _).alloc (Nat.le_refl _) _⟩
          show (Instr.buildSlice _ 1 #[(0, a.tmps.getD 24 undef)]).run _ W = _
          rw [f3]
          exact slice_one _ _ _ _ _ _ _ W
        refine StepsG.cons (stepG_value (by decide) rfl fun a W hp => ?_) ?_
        · obtain ⟨x9, f3, he⟩ := wEx_one (s := xt) (a := xa) (hp.on_ 8 rfl rfl rfl).2
          have f2 : a.tmps.getD 20 undef = .int .i64 (xa : Int) := (hp.on_ 3 rfl rfl rfl).2
          have f1 : a.tmps.getD 18 undef = .string xt := (hp.on_ 1 rfl rfl rfl).2
          refine ⟨wanted_none rfl, _, _, run_bld3 rfl ?_, he, Below.refl _ _⟩
          show (Instr.build _ #[(0, a.tmps.getD 18 undef), (3, a.tmps.getD 20 undef), (4, a.tmps.getD 25 undef)]).run _ W = _
          rw [f1, f2, f3]
          exact build_one _ _ _ _ _ W
        exact StepsG.nil
      case last =>
        intro a W hI
        obtain ⟨o3, m3, n3, a3, x3, l3, c3, f3, hi3⟩ : wEx (w.heap.size + 1) (.mk xt ⟨#[]⟩ 0 xa [t]) (a.tmps.getD 26 undef) W := hI.new 9 _ 26 rfl rfl rfl
        obtain ⟨_, hp3⟩ : wEx (w.heap.size + 1) t (a.tmps.getD 24 undef) W ∧ Par L W gp gw c S := hI.new 7 _ 24 rfl rfl rfl
        have f4 : a.tmps.getD 4 undef = .pointer (some ⟨w.heap.size, 0, none⟩) := hI.old 4 (by simp)
        have hsz : a.tmps.size = 43 := hI.tmps
        have hdf : a.defers = [] := hI.defers
        have hrel := hI.rel
        have lr := (hrel.block w.heap.size (by omega) (by intro e; injection e with e; omega)).trans LR.out
        have hg6 := gb_trans g0.out hrel
        clear hI
        refine wpOp_of rfl (wanted_none rfl) ?_
        refine wp_store_row 54 (.tmp 4) (.tmp 26) rfl w.heap.size #[.string o3, .string m3, .int .i64 n3, .int .i64 a3, .slice x3 l3 c3] f4 f3 54 _ lr HSE.out rfl (expr_one _ _ _ _ _ _ _) ?_
        have hset := setRow_heap W w.heap.size _ #[.string o3, .string m3, .int .i64 n3, .int .i64 a3, .slice x3 l3 c3] _ _ lr
        have hs6 := hrel.size
        obtain ⟨a2, ha2⟩ : ∃ a2, a2 = a.put none undef := ⟨_, rfl⟩
        have g4s : a2.tmps.getD 4 undef = .pointer (some ⟨w.heap.size, 0, none⟩) := by rw [ha2]; exact f4
        have gd : a2.defers = [] := by rw [ha2]; exact hdf
        rw [← ha2]
        clear ha2
        go_wp2_with fail
        refine bodyPost_ret (v := .agg #[.string o3, .string m3, .int .i64 n3, .int .i64 a3, .slice x3 l3 c3]) (results_cell_row (p := 4) (ty := 54) rfl _ _ w.heap.size 54 _ (0, 0) _ g4s hset Tryz.underlying54 rfl HSE.out) gd ⟨o3, m3, n3, a3, x3, l3, c3, rfl, ?_, hp3.keep (setRow_other W w.heap.size gp _ (by omega)) (setRow_other W w.heap.size gw _ (by omega)) (by rw [setRow_size]; exact Nat.le_refl _), gb_setRow hg6 _ (Nat.le_refl _) _⟩
        exact IsE.mono (B := w.heap.size + 1) (by omega) _ (hi3.keep (by rw [setRow_size]; exact Nat.le_refl _) (fun k h2 h3 => setRow_other W w.heap.size k _ (by omega)))
  · rw [if_pos (by simp)]
    go_enter Tryz.func126, Tryz.ntmps126
    go_wp2_with fail
    (with_reducible refine ka.mono ?_)
    rintro e w2 ⟨rfl, hp, hg⟩
    have HP2 := Lib.hid hp
    have hs2 : w.heap.size + 1 ≤ w2.heap.size := by rw [← hs1]; exact hg.size
    have HG2 := Lib.hid (gb_trans HB1.out hg)
    have HR2 := Lib.hid ((hg.block w.heap.size (by omega) (by intro e; injection e with e; omega)).trans HN1.out)
    clear hp hg ka
    have ki := K1.out w2 HP2.out
    go_wp2_with fail
    (with_reducible refine ki.mono ?_)
    rintro e w' ⟨rfl, hw'⟩
    rw [hw']
    clear ki hw' w'
    have kp := KP.out w2 HP2.out
    go_wp2_with fail
    (with_reducible refine kp.mono ?_)
    rintro e w3 ⟨rfl, hp, hg⟩
    have hs3 : w2.heap.size ≤ w3.heap.size := hg.size
    have hb4 : Below w3.heap.size w3 (w3.alloc (.cells #[.int .i64 (xk : Int), .string xt, .int .i64 xn, .int .i64 (xa : Int)] 77)) := (Below.refl _ _).alloc (Nat.le_refl _) _
    have HN4 := Lib.hid (heap_alloc_new w3 (.cells #[.int .i64 (xk : Int), .string xt, .int .i64 xn, .int .i64 (xa : Int)] 77))
    have ha4 : (w3.alloc (.cells #[.int .i64 (xk : Int), .string xt, .int .i64 xn, .int .i64 (xa : Int)] 77)).heap.size = w3.heap.size + 1 := by simp
    have HP := Lib.hid (hp.below hb4)
    have g2 := Lib.hid (gb_trans hg (gb_below (r := some gp) hb4))
    have g0 := Lib.hid (gb_trans HG2.out g2.out)
    have LR := Lib.hid ((g2.out.block w.heap.size (by omega) (by intro e; injection e with e; omega)).trans HR2.out)
    have hx := HX.out (by simp)
    have HX' := Lib.hid hx
    clear hp hg hb4 kp HP2 HG2 HR2 HX hx
    obtain ⟨w5, hw5⟩ : ∃ w5, w5 = (w3.alloc (.cells #[.int .i64 (xk : Int), .string xt, .int .i64 xn, .int .i64 (xa : Int)] 77)) := ⟨_, rfl⟩
    rw [← hw5] at ha4 HP g2 g0 LR HN4
    have HC1 : w5.cell? ⟨w3.heap.size, 1, none⟩ = some (.string xt) := by simp only [World.cell?, HN4.out]; rfl
    have HC3 : w5.cell? ⟨w3.heap.size, 3, none⟩ = some (.int .i64 (xa : Int)) := by simp only [World.cell?, HN4.out]; rfl
    have HC1' := Lib.hid HC1
    have HC3' := Lib.hid HC3
    have HW5 := Lib.hid hw5
    clear hw5 HC1 HC3
    go_wp2_with fail
    rw [← HW5.out]
    refine wp_region_stepsG_then (words [wIs (.pointer (some ⟨w3.heap.size, 1, none⟩)), wIs (.string xt), wIs (.pointer (some ⟨w3.heap.size, 3, none⟩)), wIs (.int .i64 (xa : Int)), wIs (.pointer (some ⟨gp, 0, none⟩)), wIs (.int .i64 (d : Int)), wIs (.int .i64 ((d : Int) + 1)), fun v W => wEx (w.heap.size + 1) t v W ∧ Par L W gp gw c S, wSl (w.heap.size + 1) t, wEx (w.heap.size + 1) (.mk xt ⟨#[]⟩ 0 xa [t])]) (fun W W' => W.grownBy W' (some gp)) (fun W => Par L W gp gw c R) 7 (by kernel_rfl) (gbt gp) (gbb gp) (fun W W' hF hb => hF.below hb) HP.out (words_stable ?stab) ?stabr rfl rfl rfl (by kernel_rfl) (by decide) 10 _ rfl rfl ?steps ?last
    case stab =>
      intro f hf
      simp only [List.mem_cons, List.not_mem_nil, or_false] at hf
      rcases hf with rfl | rfl | rfl | rfl | rfl | rfl | rfl | rfl | rfl | rfl
      · exact stable_is _
      · exact stable_is _
      · exact stable_is _
      · exact stable_is _
      · exact stable_is _
      · exact stable_is _
      · exact stable_is _
      · exact fun v W W' hv hb => ⟨stable_ex _ _ v W W' hv.1 hb, hv.2.below hb⟩
      · exact stable_sl _ _
      · exact stable_ex _ _
    case stabr =>
      intro i v W W' hne hv hb
      match i, hne, hv with
      | 0, _, hv => exact hv
      | 1, _, hv => exact hv
      | 2, _, hv => exact hv
      | 3, _, hv => exact hv
      | 4, _, hv => exact hv
      | 5, _, hv => exact hv
      | 6, _, hv => exact hv
      | 7, hne, _ => exact absurd rfl hne
      | 8, _, hv => exact stableR_sl gp _ (by omega) _ v W W' hv hb
      | 9, _, hv => exact stableR_ex gp _ (by omega) _ v W W' hv hb
      | _ + 10, _, _ => trivial
    case steps =>
      refine StepsG.cons (stepG_value (by decide) rfl fun a W hp => ?_) ?_
      · have f1 : a.tmps.getD 5 undef = .pointer (some ⟨w3.heap.size, 0, none⟩) := hp.old 5 rfl
        refine ⟨wanted_none rfl, _, _, run_fa rfl ?_, rfl, Below.refl _ _⟩
        show (Instr.fieldAt _ (a.tmps.getD 5 undef) 1).run _ W = _
        rw [f1]
        exact fa_word1 _ W
      refine StepsG.cons (stepG_value (by decide) rfl fun a W hp => ?_) ?_
      · have f1 : a.tmps.getD 17 undef = .pointer (some ⟨w3.heap.size, 1, none⟩) := (hp.on_ 0 rfl rfl rfl).2
        have hc : W.cell? ⟨w3.heap.size, 1, none⟩ = some _ := (gb_cell hp.rel (by omega) (by omega)).trans HC1'.out
        exact ⟨wanted_none rfl, _, _, run_ldstr rfl f1 hc, rfl, Below.refl _ _⟩
      refine StepsG.cons (stepG_value (by decide) rfl fun a W hp => ?_) ?_
      · have f1 : a.tmps.getD 5 undef = .pointer (some ⟨w3.heap.size, 0, none⟩) := hp.old 5 rfl
        refine ⟨wanted_none rfl, _, _, run_fa rfl ?_, rfl, Below.refl _ _⟩
        show (Instr.fieldAt _ (a.tmps.getD 5 undef) 3).run _ W = _
        rw [f1]
        exact fa_word3 _ W
      refine StepsG.cons (stepG_value (by decide) rfl fun a W hp => ?_) ?_
      · have f1 : a.tmps.getD 19 undef = .pointer (some ⟨w3.heap.size, 3, none⟩) := (hp.on_ 2 rfl rfl rfl).2
        have hc : W.cell? ⟨w3.heap.size, 3, none⟩ = some _ := (gb_cell hp.rel (by omega) (by omega)).trans HC3'.out
        exact ⟨wanted_none rfl, _, _, run_ldint rfl f1 hc, rfl, Below.refl _ _⟩
      refine StepsG.cons (stepG_value (by decide) rfl fun a W hp => ⟨wanted_none rfl, _, _, run_move (.inl rfl), (hp.old 0 rfl), Below.refl _ _⟩) ?_
      refine StepsG.cons (stepG_value (by decide) rfl fun a W hp => ⟨wanted_none rfl, _, _, run_move (.inl rfl), (hp.old 1 rfl), Below.refl _ _⟩) ?_
      refine StepsG.cons (stepG_value (by decide) rfl fun a W hp => ?_) ?_
      · have f1 : a.tmps.getD 22 undef = .int .i64 (d : Int) := (hp.on_ 5 rfl rfl rfl).2
        refine ⟨wanted_none rfl, _, _, run_bin3 rfl ?_ ?_, rfl, Below.refl _ _⟩
        · show (eqGuard _ _ _ _ (a.tmps.getD 22 undef) _).run _ W = _
          rw [f1]; rfl
        · show (binOp _ _ (a.tmps.getD 22 undef) _).run _ W = _
          rw [f1]; exact bin_add1 d hd
      refine StepsG.cons (stepG_turn rfl fun a W hp hF => ?_) ?_
      · have f1 : a.tmps.getD 21 undef = .pointer (some ⟨gp, 0, none⟩) := (hp.on_ 4 rfl rfl rfl).2
        have f2 : a.tmps.getD 23 undef = .int .i64 ((d : Int) + 1) := (hp.on_ 6 rfl rfl rfl).2
        refine ⟨wanted_none rfl, 126, _, run_enter2 rfl rfl Tryz.call126, ?_⟩
        show Calls _ _ #[a.tmps.getD 21 undef, a.tmps.getD 23 undef] W _
        rw [f1, f2]
        refine (HX'.out W hF).mono ?_
        rintro e W' ⟨o2, m2, n2, a2, x2, l2, c2, rfl, hi2, hp2, hg2⟩
        have := hp.rel.size
        exact ⟨_, rfl, ⟨⟨o2, m2, n2, a2, x2, l2, c2, rfl, hi2.mono (by omega) _⟩, hp2⟩, hg2⟩
      refine StepsG.cons (stepG_value (by decide) rfl fun a W hp => ?_) ?_
      · obtain ⟨⟨o2, m2, n2, a2, x2, l2, c2, f3, hi2⟩, hp2⟩ : wEx (w.heap.size + 1) t (a.tmps.getD 24 undef) W ∧ Par L W gp gw c S := (hp.on_ 7 rfl rfl rfl).2
        have := hp.rel.size
        refine ⟨wanted_none rfl, _, _, run_bsl1 rfl ?_, wSl_new (by omega) hi2, (Below.refl _ _).alloc (Nat.le_refl _) _⟩
        show (Instr.buildSlice _ 1 #[(0, a.tmps.getD 24 undef)]).run _ W = _
        rw [f3]
        exact slice_one _ _ _ _ _ _ _ W
      refine StepsG.cons (stepG_value (by decide) rfl fun a W hp => ?_) ?_
      · obtain ⟨x9, f3, he⟩ := wEx_one (s := xt) (a := xa) (hp.on_ 8 rfl rfl rfl).2
        have f2 : a.tmps.getD 20 undef = .int .i64 (xa : Int) := (hp.on_ 3 rfl rfl rfl).2
        have f1 : a.tmps.getD 18 undef = .string xt := (hp.on_ 1 rfl rfl rfl).2
        refine ⟨wanted_none rfl, _, _, run_bld3 rfl ?_, he, Below.refl _ _⟩
        show (Instr.build _ #[(0, a.tmps.getD 18 undef), (3, a.tmps.getD 20 undef), (4, a.tmps.getD 25 undef)]).run _ W = _
        rw [f1, f2, f3]
        exact build_one _ _ _ _ _ W
      exact StepsG.nil
    case last =>
      intro a W hI
      obtain ⟨o3, m3, n3, a3, x3, l3, c3, f3, hi3⟩ : wEx (w.heap.size + 1) (.mk xt ⟨#[]⟩ 0 xa [t]) (a.tmps.getD 26 undef) W := hI.new 9 _ 26 rfl rfl rfl
      obtain ⟨_, hp3⟩ : wEx (w.heap.size + 1) t (a.tmps.getD 24 undef) W ∧ Par L W gp gw c S := hI.new 7 _ 24 rfl rfl rfl
      have f4 : a.tmps.getD 4 undef = .pointer (some ⟨w.heap.size, 0, none⟩) := hI.old 4 (by simp)
      have hsz : a.tmps.size = 43 := hI.tmps
      have hdf : a.defers = [] := hI.defers
      have hrel := hI.rel
      have lr := (hrel.block w.heap.size (by omega) (by intro e; injection e with e; omega)).trans LR.out
      have hg6 := gb_trans g0.out hrel
      clear hI
      refine wpOp_of rfl (wanted_none rfl) ?_
      refine wp_store_row 54 (.tmp 4) (.tmp 26) rfl w.heap.size #[.string o3, .string m3, .int .i64 n3, .int .i64 a3, .slice x3 l3 c3] f4 f3 54 _ lr HSE.out rfl (expr_one _ _ _ _ _ _ _) ?_
      have hset := setRow_heap W w.heap.size _ #[.string o3, .string m3, .int .i64 n3, .int .i64 a3, .slice x3 l3 c3] _ _ lr
      have hs6 := hrel.size
      obtain ⟨a2, ha2⟩ : ∃ a2, a2 = a.put none undef := ⟨_, rfl⟩
      have g4s : a2.tmps.getD 4 undef = .pointer (some ⟨w.heap.size, 0, none⟩) := by rw [ha2]; exact f4
      have gd : a2.defers = [] := by rw [ha2]; exact hdf
      rw [← ha2]
      clear ha2
      go_wp2_with fail
      refine bodyPost_ret (v := .agg #[.string o3, .string m3, .int .i64 n3, .int .i64 a3, .slice x3 l3 c3]) (results_cell_row (p := 4) (ty := 54) rfl _ _ w.heap.size 54 _ (0, 0) _ g4s hset Tryz.underlying54 rfl HSE.out) gd ⟨o3, m3, n3, a3, x3, l3, c3, rfl, ?_, hp3.keep (setRow_other W w.heap.size gp _ (by omega)) (setRow_other W w.heap.size gw _ (by omega)) (by rw [setRow_size]; exact Nat.le_refl _), gb_setRow hg6 _ (Nat.le_refl _) _⟩
      exact IsE.mono (B := w.heap.size + 1) (by omega) _ (hi3.keep (by rw [setRow_size]; exact Nat.le_refl _) (fun k h2 h3 => setRow_other W w.heap.size k _ (by omega)))
end Go.Proofs.YtjlnihennlkmpaaGreatDoor

namespace Go.Proofs.YtjlnihennlkmpaaGreatDoor
open Go Go.RowKit
theorem whenL_stop (L : List Wd) (hE : GoodE L) (f : Nat) (e : Ex) (S : St) (hlt : S.i < L.length) (h : (betweenS L [bs [119, 104, 101, 110]] S).2.1 = false) : whenL L f e S = (e, (betweenS L [bs [119, 104, 101, 110]] S).2.2) := by
  cases f with
  | zero => unfold whenL; rw [((between_go hE (by simp [bs]) hlt).2.1 h)]
  | succ f => unfold whenL; simp [h]
theorem whenL_go (L : List Wd) (f : Nat) (e : Ex) (S : St) (h : (betweenS L [bs [119, 104, 101, 110]] S).2.1 = true) : whenL L (f + 1) e S = whenL L f (.mk (bs [119, 104, 101, 110]) (nameS L (takeS L (bs [110, 111, 116]) (betweenS L [bs [119, 104, 101, 110]] S).2.2).2).1 (if (takeS L (bs [110, 111, 116]) (betweenS L [bs [119, 104, 101, 110]] S).2.2).1 = true then 0 else 1) (betweenS L [bs [119, 104, 101, 110]] S).1.at_ [e]) (nameS L (takeS L (bs [110, 111, 116]) (betweenS L [bs [119, 104, 101, 110]] S).2.2).2).2 := by
  conv => lhs; unfold whenL
  simp [h]
set_option maxHeartbeats 4000000 in
set_option maxRecDepth 100000 in
theorem when_any (L : List Wd) (hG : Good L) (d : Nat) (hd : d < 1000) (w : World) (gp gw c : Nat) (st : St) (h : Par L w gp gw c st) (hE : GoodE L) (t : Ex) (S1 : St) (hpp : S1.parts ≤ S1.i)
    (hx : ∀ W, Par L W gp gw c st → Calls Tryz.prog 126 #[.pointer (some ⟨gp, 0, none⟩), .int .i64 (d : Int)] W (GivesX L gp gw c t S1 W)) :
    Calls Tryz.prog 125 #[.pointer (some ⟨gp, 0, none⟩), .int .i64 (d : Int)] w (GivesX L gp gw c (whenL L L.length t S1).1 (whenL L L.length t S1).2 w) := by
  have hb1 : Below w.heap.size w (w.alloc (.cells #[.string ⟨#[]⟩, .string ⟨#[]⟩, .int .i64 0, .int .i64 0, .slice none 0 0] 54)) := (Below.refl _ _).alloc (Nat.le_refl _) _
  have hn1 := heap_alloc_new w (.cells #[.string ⟨#[]⟩, .string ⟨#[]⟩, .int .i64 0, .int .i64 0, .slice none 0 0] 54)
  have h1 := h.below hb1
  have hgp := h.gpl
  have hgw := h.gwl
  have hs1 : (w.alloc (.cells #[.string ⟨#[]⟩, .string ⟨#[]⟩, .int .i64 0, .int .i64 0, .slice none 0 0] 54)).heap.size = w.heap.size + 1 := by simp
  have kx := hx _ h1
  obtain ⟨RR, hRR⟩ : ∃ R, R = whenL L L.length t S1 := ⟨_, rfl⟩
  rw [← hRR]
  have HRR := Lib.hid hRR
  have HB1 := Lib.hid (gb_below (r := some gp) hb1)
  have HN1 := Lib.hid hn1
  have HSE := Lib.hid size_expr
  have HE := Lib.hid hE
  have HL := Lib.hid hG
  clear hx hb1 hn1 h1 hRR hE hG
  go_enter Tryz.func125, Tryz.ntmps125
  go_wp2_with fail
  (with_reducible refine kx.mono ?_)
  rintro e w2 ⟨o1, m1, n1, a1, x1, l1, c1, rfl, hi, hp, hg⟩
  unfold exV
  have E0 := Lib.hid (EInv.start hgp HB1.out hs1 HN1.out hp hg hi)
  have hlen : S1.i < L.length := hp.lt
  clear hi hp hg kx HB1 HN1 hs1 h
  go_wp2_with fail
  go_loopw [] (fun wr => ∃ (f : Nat) (e : Ex) (S : St), whenL L f e S = RR ∧ L.length ≤ f + S.i ∧ S.parts ≤ S.i ∧ EInv L w gp gw c w2.heap.size wr e S)
    (fun wr => leftOf gp wr)
  case atStart => exact ⟨L.length, t, S1, HRR.out.symm, by omega, hpp, E0.out⟩
  case round =>
    obtain ⟨f, e, S, hR, hf, hps, hE1⟩ := hrel
    have hlt := hE1.par.lt
    have hfew := HE.out.few
    have hgo := between_go HE.out (ops := [bs [119, 104, 101, 110]]) (by simp [bs]) hlt
    have hb3 : Below wr.heap.size wr (wr.alloc (.cells #[.string ⟨#[119, 104, 101, 110]⟩] 9)) := (Below.refl _ _).alloc (Nat.le_refl _) _
    have hn3 := heap_alloc_new wr (.cells #[.string ⟨#[119, 104, 101, 110]⟩] 9)
    have hs3 : (wr.alloc (.cells #[.string ⟨#[119, 104, 101, 110]⟩] 9)).heap.size = wr.heap.size + 1 := by simp
    have kb : Calls Tryz.prog 91 #[.pointer (some ⟨gp, 0, none⟩), .slice (some ⟨wr.heap.size, 0, none⟩) 1 1] (wr.alloc (.cells #[.string ⟨#[119, 104, 101, 110]⟩] 9)) (GivesB L gp gw c (betweenS L [bs [119, 104, 101, 110]] S).1 (betweenS L [bs [119, 104, 101, 110]] S).2.1 (betweenS L [bs [119, 104, 101, 110]] S).2.2 (wr.alloc (.cells #[.string ⟨#[119, 104, 101, 110]⟩] 9))) := between_any L HL.out (wr.alloc (.cells #[.string ⟨#[119, 104, 101, 110]⟩] 9)) gp gw c S (hE1.par.below hb3) (by omega) wr.heap.size 0 1 [bs [119, 104, 101, 110]] (by omega) (by
      intro j hj
      simp only [World.cell?, hn3]
      match j, hj with
      | 0, _ => rfl
      | _ + 1, hj => exact absurd hj (Nat.not_lt.2 (Nat.le_add_left _ _))) (by decide)
    have hstop := whenL_stop L HE.out f e S hlt
    have hleft := leftOf_par hE1.par
    have hgo2 : (betweenS L [bs [119, 104, 101, 110]] S).2.1 = true → ∃ f', f = f' + 1 ∧ whenL L f' (.mk (bs [119, 104, 101, 110]) (nameS L (takeS L (bs [110, 111, 116]) (betweenS L [bs [119, 104, 101, 110]] S).2.2).2).1 (if (takeS L (bs [110, 111, 116]) (betweenS L [bs [119, 104, 101, 110]] S).2.2).1 = true then 0 else 1) (betweenS L [bs [119, 104, 101, 110]] S).1.at_ [e]) (nameS L (takeS L (bs [110, 111, 116]) (betweenS L [bs [119, 104, 101, 110]] S).2.2).2).2 = RR ∧ L.length ≤ f' + (nameS L (takeS L (bs [110, 111, 116]) (betweenS L [bs [119, 104, 101, 110]] S).2.2).2).2.i ∧ (nameS L (takeS L (bs [110, 111, 116]) (betweenS L [bs [119, 104, 101, 110]] S).2.2).2).2.parts ≤ (nameS L (takeS L (bs [110, 111, 116]) (betweenS L [bs [119, 104, 101, 110]] S).2.2).2).2.i ∧ S.i < (nameS L (takeS L (bs [110, 111, 116]) (betweenS L [bs [119, 104, 101, 110]] S).2.2).2).2.i := fun hb => by
      obtain ⟨f', rfl⟩ : ∃ f', f = f' + 1 := ⟨f - 1, by omega⟩
      have h1 := hgo.1 hb
      have h2 := takeS_le L (bs [110, 111, 116]) (betweenS L [bs [119, 104, 101, 110]] S).2.2
      have h3 := takeS_in HL.out (bs [110, 111, 116]) hgo.2.2
      have h4 := nameS_le h3
      have h5 := takeS_parts L (bs [110, 111, 116]) (betweenS L [bs [119, 104, 101, 110]] S).2.2
      have h6 := nameS_parts L (takeS L (bs [110, 111, 116]) (betweenS L [bs [119, 104, 101, 110]] S).2.2).2
      exact ⟨f', rfl, by rw [← hR]; exact (whenL_go L f' e S hb).symm, by omega, by omega, by omega⟩
    have kt : ∀ W, Par L W gp gw c (betweenS L [bs [119, 104, 101, 110]] S).2.2 → Calls Tryz.prog 58 #[.pointer (some ⟨gp, 0, none⟩), .string ⟨#[110, 111, 116]⟩] W (Gives1 L gp gw c (.bool (takeS L (bs [110, 111, 116]) (betweenS L [bs [119, 104, 101, 110]] S).2.2).1) (takeS L (bs [110, 111, 116]) (betweenS L [bs [119, 104, 101, 110]] S).2.2).2 W) := fun W hp => take_any L HL.out (bs [110, 111, 116]) W gp gw c (betweenS L [bs [119, 104, 101, 110]] S).2.2 hp
    have kn : ∀ W, Par L W gp gw c (takeS L (bs [110, 111, 116]) (betweenS L [bs [119, 104, 101, 110]] S).2.2).2 → Calls Tryz.prog 56 #[.pointer (some ⟨gp, 0, none⟩)] W (Gives1 L gp gw c (.string (nameS L (takeS L (bs [110, 111, 116]) (betweenS L [bs [119, 104, 101, 110]] S).2.2).2).1) (nameS L (takeS L (bs [110, 111, 116]) (betweenS L [bs [119, 104, 101, 110]] S).2.2).2).2 W) := fun W hp => name_any L HL.out W gp gw c (takeS L (bs [110, 111, 116]) (betweenS L [bs [119, 104, 101, 110]] S).2.2).2 hp
    obtain ⟨y, hy⟩ : ∃ y, y = (betweenS L [bs [119, 104, 101, 110]] S).1 := ⟨_, rfl⟩
    obtain ⟨B, hB⟩ : ∃ B, B = (betweenS L [bs [119, 104, 101, 110]] S).2.1 := ⟨_, rfl⟩
    obtain ⟨R, hR2⟩ : ∃ R, R = (betweenS L [bs [119, 104, 101, 110]] S).2.2 := ⟨_, rfl⟩
    rw [← hy, ← hB, ← hR2] at kb hgo2
    rw [← hB, ← hR2] at hstop
    rw [← hR2] at kt kn
    obtain ⟨nt, hnt⟩ : ∃ x, x = (takeS L (bs [110, 111, 116]) R).1 := ⟨_, rfl⟩
    obtain ⟨R3, hR3⟩ : ∃ x, x = (takeS L (bs [110, 111, 116]) R).2 := ⟨_, rfl⟩
    rw [← hnt, ← hR3] at kt hgo2
    rw [← hR3] at kn
    obtain ⟨nn, hnn⟩ : ∃ x, x = (nameS L R3).1 := ⟨_, rfl⟩
    obtain ⟨R4, hR4⟩ : ∃ x, x = (nameS L R3).2 := ⟨_, rfl⟩
    rw [← hnn, ← hR4] at kn hgo2
    obtain ⟨xk, xt, xn, xa⟩ := y
    unfold GivesB Wd.cells at kb
    simp only at hgo2
    have KT := Lib.hid kt
    have KN := Lib.hid kn
    have HGO := Lib.hid hgo2
    have HST := Lib.hid hstop
    have HR := Lib.hid hR
    have HE1 := Lib.hid hE1
    have HB3 := Lib.hid (gb_below (r := some gp) hb3)
    have HLF := Lib.hid hleft
    clear kt kn hgo2 hstop hR hE1 hb3 hn3 hy hB hR2 hnt hR3 hnn hR4 hgo E0 hf hps HRR HE HL hleft
    go_wp2_with fail
    (with_reducible refine kb.mono ?_)
    rintro e3 w3 ⟨rfl, hp, hg⟩
    have hs3' : wr.heap.size + 1 ≤ w3.heap.size := by rw [← hs3]; exact hg.size
    have hb4 : Below w3.heap.size w3 (w3.alloc (.cells #[.int .i64 (xk : Int), .string xt, .int .i64 xn, .int .i64 (xa : Int)] 77)) := (Below.refl _ _).alloc (Nat.le_refl _) _
    have HN4 := Lib.hid (heap_alloc_new w3 (.cells #[.int .i64 (xk : Int), .string xt, .int .i64 xn, .int .i64 (xa : Int)] 77))
    have ha4 : (w3.alloc (.cells #[.int .i64 (xk : Int), .string xt, .int .i64 xn, .int .i64 (xa : Int)] 77)).heap.size = w3.heap.size + 1 := by simp
    have HP4 := Lib.hid (hp.below hb4)
    have G4 := Lib.hid (gb_trans HB3.out (gb_trans hg (gb_below (r := some gp) hb4)))
    clear hp hg hb4 kb HB3
    obtain ⟨w4, hw4⟩ : ∃ w4, w4 = (w3.alloc (.cells #[.int .i64 (xk : Int), .string xt, .int .i64 xn, .int .i64 (xa : Int)] 77)) := ⟨_, rfl⟩
    rw [← hw4] at HN4 ha4 HP4 G4
    cases B
    · obtain ⟨o1, m1, n1, a1, x1, l1, c1, r1, r2, hfin⟩ := HE1.out.stop hgp hgw G4.out HP4.out
      have hres := HST.out rfl
      rw [HR.out] at hres
      have R1 := Lib.hid r1
      have R2 := Lib.hid r2
      have HF := Lib.hid hfin
      have HRS := Lib.hid hres
      have HW4 := Lib.hid hw4
      clear r1 r2 hfin hres hw4 HE1 KT KN HGO HST HR
      go_wp2_with (first | (rw [← HW4.out]; refine wpList_load_row rfl 54 (.tmp 5) rfl w2.heap.size rfl 54 #[.string o1, .string m1, .int .i64 n1, .int .i64 a1, .slice x1 l1 c1] (0, 0) _ R1.out Tryz.underlying54 rfl HSE.out ?_) | (refine wpList_store_row rfl 54 (.tmp 4) (.tmp 19) rfl w.heap.size #[.string o1, .string m1, .int .i64 n1, .int .i64 a1, .slice x1 l1 c1] rfl rfl 54 _ R2.out HSE.out rfl (expr_one _ _ _ _ _ _ _) ?_))
      have hset := setRow_heap w4 w.heap.size _ #[.string o1, .string m1, .int .i64 n1, .int .i64 a1, .slice x1 l1 c1] _ _ R2.out
      refine bodyPost_ret (v := .agg #[.string o1, .string m1, .int .i64 n1, .int .i64 a1, .slice x1 l1 c1]) (results_cell_row (p := 4) (ty := 54) rfl _ _ w.heap.size 54 _ (0, 0) _ rfl hset Tryz.underlying54 rfl HSE.out) rfl ?_
      rw [HRS.out]
      exact HF.out
    · obtain ⟨f', hff, hR4, hl4, hp4, hi4⟩ := HGO.out rfl
      obtain ⟨o1, m1, n1, a1, x1, l1, c1, hrow, hip⟩ := HE1.out.row
      have hlo := HE1.out.lo
      have hlt5 : w2.heap.size < wr.heap.size := (Array.getElem?_eq_some_iff.1 hrow).1
      have hrow4 := (G4.out.block w2.heap.size hlt5 (by intro e; injection e with e; omega)).trans hrow
      have hip4 := hip.grown G4.out (by omega)
      have hz4 := G4.out.size
      have hb5 : Below w4.heap.size w4 (w4.alloc (.cells #[.string o1, .string m1, .int .i64 n1, .int .i64 a1, .slice x1 l1 c1] 54)) := (Below.refl _ _).alloc (Nat.le_refl _) _
      have hn5 := heap_alloc_new w4 (.cells #[.string o1, .string m1, .int .i64 n1, .int .i64 a1, .slice x1 l1 c1] 54)
      have hs5 : (w4.alloc (.cells #[.string o1, .string m1, .int .i64 n1, .int .i64 a1, .slice x1 l1 c1] 54)).heap.size = w4.heap.size + 1 := by simp
      rw [ha4] at hn5
      have hrow5 := (hb5.block w2.heap.size (by omega)).trans hrow4
      have hset6 := setRow_heap (w4.alloc (.cells #[.string o1, .string m1, .int .i64 n1, .int .i64 a1, .slice x1 l1 c1] 54)) w2.heap.size _ #[.string ⟨#[119, 104, 101, 110]⟩, .string ⟨#[]⟩, .int .i64 1, .int .i64 (xa : Int), .slice (some ⟨w3.heap.size + 1, 0, none⟩) 1 1] _ _ hrow5
      have hoth6 : ∀ k, k ≠ w2.heap.size → ((w4.alloc (.cells #[.string o1, .string m1, .int .i64 n1, .int .i64 a1, .slice x1 l1 c1] 54)).setRow w2.heap.size #[.string ⟨#[119, 104, 101, 110]⟩, .string ⟨#[]⟩, .int .i64 1, .int .i64 (xa : Int), .slice (some ⟨w3.heap.size + 1, 0, none⟩) 1 1]).heap[k]? = (w4.alloc (.cells #[.string o1, .string m1, .int .i64 n1, .int .i64 a1, .slice x1 l1 c1] 54)).heap[k]? := fun k hk => setRow_other (w4.alloc (.cells #[.string o1, .string m1, .int .i64 n1, .int .i64 a1, .slice x1 l1 c1] 54)) w2.heap.size k _ hk
      have hp6 : Par L ((w4.alloc (.cells #[.string o1, .string m1, .int .i64 n1, .int .i64 a1, .slice x1 l1 c1] 54)).setRow w2.heap.size #[.string ⟨#[119, 104, 101, 110]⟩, .string ⟨#[]⟩, .int .i64 1, .int .i64 (xa : Int), .slice (some ⟨w3.heap.size + 1, 0, none⟩) 1 1]) gp gw c R := (HP4.out.below hb5).keep (hoth6 gp (by omega)) (hoth6 gw (by omega)) (by rw [setRow_size]; exact Nat.le_refl _)
      have hg6 : w.grownBy ((w4.alloc (.cells #[.string o1, .string m1, .int .i64 n1, .int .i64 a1, .slice x1 l1 c1] 54)).setRow w2.heap.size #[.string ⟨#[119, 104, 101, 110]⟩, .string ⟨#[]⟩, .int .i64 1, .int .i64 (xa : Int), .slice (some ⟨w3.heap.size + 1, 0, none⟩) 1 1]) (some gp) := gb_setRow (gb_trans HE1.out.gb (gb_trans G4.out (gb_below hb5))) _ (by omega) _
      have hs6 : ((w4.alloc (.cells #[.string o1, .string m1, .int .i64 n1, .int .i64 a1, .slice x1 l1 c1] 54)).setRow w2.heap.size #[.string ⟨#[119, 104, 101, 110]⟩, .string ⟨#[]⟩, .int .i64 1, .int .i64 (xa : Int), .slice (some ⟨w3.heap.size + 1, 0, none⟩) 1 1]).heap.size = w4.heap.size + 1 := by rw [setRow_size]; exact hs5
      have hres6 := (hoth6 w.heap.size (by omega)).trans ((hb5.block w.heap.size (by omega)).trans ((G4.out.block w.heap.size (by omega) (by intro e; injection e with e; omega)).trans HE1.out.res))
      have hk6 := (hoth6 (w3.heap.size + 1) (by omega)).trans hn5
      have hip6 := hip4.keep (w' := (w4.alloc (.cells #[.string o1, .string m1, .int .i64 n1, .int .i64 a1, .slice x1 l1 c1] 54)).setRow w2.heap.size #[.string ⟨#[119, 104, 101, 110]⟩, .string ⟨#[]⟩, .int .i64 1, .int .i64 (xa : Int), .slice (some ⟨w3.heap.size + 1, 0, none⟩) 1 1]) (ok' := fun k => w.heap.size < k ∧ k ≠ w2.heap.size) (by rw [hs6]; omega) (fun k hk hl => (hoth6 k hk.2).trans (hb5.block k hl)) (fun _ h _ => h) e
      have HA := cell_of_row w4 w3.heap.size 3 _ _ _ HN4.out
      have HRW := Lib.hid hrow4
      have HRW5 := Lib.hid hrow5
      have HSET := Lib.hid hset6
      have HP6 := Lib.hid hp6
      have HG6 := Lib.hid hg6
      have HRES := Lib.hid hres6
      have HK6 := Lib.hid hk6
      have HIP := Lib.hid hip6
      have HW4 := Lib.hid hw4
      have HRN := Lib.hid hR4
      have HA' := Lib.hid HA
      clear hrow hip hrow4 hip4 hb5 hn5 hrow5 hset6 hoth6 hp6 hg6 hres6 hk6 hip6 hw4 hR4 HE1 HST HR HGO G4 HP4 HA hff
      go_wp2_with (first | (rw [← HW4.out]; refine wpList_load_row rfl 54 (.tmp 5) rfl w2.heap.size rfl 54 #[.string o1, .string m1, .int .i64 n1, .int .i64 a1, .slice x1 l1 c1] (0, 0) _ HRW.out Tryz.underlying54 rfl HSE.out ?_) | (refine wpList_store_row rfl 54 (.tmp 5) (.tmp 24) rfl w2.heap.size #[.string ⟨#[119, 104, 101, 110]⟩, .string ⟨#[]⟩, .int .i64 1, .int .i64 (xa : Int), .slice (some ⟨w3.heap.size + 1, 0, none⟩) 1 1] rfl rfl 54 _ HRW5.out HSE.out rfl (expr_one _ _ _ _ _ _ _) ?_))
      obtain ⟨w6, hw6⟩ : ∃ w6, w6 = (w4.alloc (.cells #[.string o1, .string m1, .int .i64 n1, .int .i64 a1, .slice x1 l1 c1] 54)).setRow w2.heap.size #[.string ⟨#[119, 104, 101, 110]⟩, .string ⟨#[]⟩, .int .i64 1, .int .i64 (xa : Int), .slice (some ⟨w3.heap.size + 1, 0, none⟩) 1 1] := ⟨_, rfl⟩
      rw [← hw6] at HSET HP6 HG6 HRES HK6 HIP hs6 ⊢
      clear hw6
      have kt := KT.out w6 HP6.out
      (with_reducible refine kt.mono ?_)
      rintro e7 w7 ⟨rfl, hp, hg⟩
      have hs7 : w6.heap.size ≤ w7.heap.size := hg.size
      have hrow7 := (hg.block w2.heap.size (by omega) (by intro e; injection e with e; omega)).trans HSET.out
      have f72 := frozen_of_row w7 w2.heap.size 2 _ _ hrow7
      have c72 := cell_of_row w7 w2.heap.size 2 _ _ _ hrow7
      have HRW7 := Lib.hid hrow7
      have HP7 := Lib.hid hp
      have HG7 := Lib.hid hg
      clear hp hg hrow7 kt KT
      cases nt
      · have hset8 := HRW7.out
        have hp8 := HP7.out
        have hg8 : w.grownBy w7 (some gp) := gb_trans HG6.out HG7.out
        have kn := KN.out _ hp8
        have HSET8 := Lib.hid hset8
        have HG8 := Lib.hid hg8
        clear hset8 hp8 hg8 KN
        go_wp2_with fail
        (with_reducible refine kn.mono ?_)
        rintro e9 w9 ⟨rfl, hp, hg⟩
        have hs9 : w7.heap.size ≤ w9.heap.size := hg.size
        have hrow9 := (hg.block w2.heap.size (by omega) (by intro e; injection e with e; omega)).trans HSET8.out
        have f91 := frozen_of_row w9 w2.heap.size 1 _ _ hrow9
        have c91 := cell_of_row w9 w2.heap.size 1 _ _ _ hrow9
        have hset10 := heap_setCell_same w9 w2.heap.size 1 _ _ (.string nn) hrow9
        have hoth10 : ∀ k, k ≠ w2.heap.size → (w9.setCell ⟨w2.heap.size, 1, none⟩ (.string nn)).heap[k]? = w9.heap[k]? := fun k hk => heap_setCell_other w9 ⟨w2.heap.size, 1, none⟩ k _ hk
        have hp10 : Par L (w9.setCell ⟨w2.heap.size, 1, none⟩ (.string nn)) gp gw c R4 := hp.keep (hoth10 gp (by omega)) (hoth10 gw (by omega)) (by simp)
        have hg10 : w.grownBy (w9.setCell ⟨w2.heap.size, 1, none⟩ (.string nn)) (some gp) := gb_setCell (gb_trans HG8.out hg) _ _ (by omega) _
        have hk10 : ∀ k, k < w6.heap.size → k ≠ gp → k ≠ w2.heap.size → (w9.setCell ⟨w2.heap.size, 1, none⟩ (.string nn)).heap[k]? = w6.heap[k]? := fun k h1 h2 h3 =>
          (hoth10 k h3).trans ((hg.block k (by omega) (by intro e; injection e with e; omega)).trans ((Eq.refl _).trans (HG7.out.block k h1 (by intro e; injection e with e; omega))))
        have hE10 := EInv.again (wf := w9.setCell ⟨w2.heap.size, 1, none⟩ (.string nn)) (op := bs [119, 104, 101, 110]) (nm := nn) (n := 1) (at_ := xa) hgp hlo hg10 hp10 HRES.out hk10 (by simp; omega) HK6.out (by omega) (by omega) HIP.out hset10
        have HE10 := Lib.hid hE10
        clear hp hg hrow9 hset10 hoth10 hp10 hg10 hk10 hE10 kn
        go_wp2_with fail
        refine ⟨⟨f', _, R4, HRN.out, hl4, hp4, HE10.out⟩, ?_⟩
        rw [leftOf_par HE10.out.par, HLF.out]
        have := HE10.out.par.lt
        omega
      · have hset8 := heap_setCell_same w7 w2.heap.size 2 _ _ (.int .i64 0) HRW7.out
        have hoth8 : ∀ k, k ≠ w2.heap.size → (w7.setCell ⟨w2.heap.size, 2, none⟩ (.int .i64 0)).heap[k]? = w7.heap[k]? := fun k hk => heap_setCell_other w7 ⟨w2.heap.size, 2, none⟩ k _ hk
        have hp8 : Par L (w7.setCell ⟨w2.heap.size, 2, none⟩ (.int .i64 0)) gp gw c R3 := HP7.out.keep (hoth8 gp (by omega)) (hoth8 gw (by omega)) (by simp)
        have hg8 : w.grownBy (w7.setCell ⟨w2.heap.size, 2, none⟩ (.int .i64 0)) (some gp) := gb_setCell (gb_trans HG6.out HG7.out) _ _ (by omega) _
        have hs8 : (w7.setCell ⟨w2.heap.size, 2, none⟩ (.int .i64 0)).heap.size = w7.heap.size := by simp
        have kn := KN.out _ hp8
        have HSET8 := Lib.hid hset8
        have HOTH8 := Lib.hid hoth8
        have HG8 := Lib.hid hg8
        clear hset8 hoth8 hp8 hg8 KN
        go_wp2_with fail
        (with_reducible refine kn.mono ?_)
        rintro e9 w9 ⟨rfl, hp, hg⟩
        have hs9 : w7.heap.size ≤ w9.heap.size := by rw [← hs8]; exact hg.size
        have hrow9 := (hg.block w2.heap.size (by omega) (by intro e; injection e with e; omega)).trans HSET8.out
        have f91 := frozen_of_row w9 w2.heap.size 1 _ _ hrow9
        have c91 := cell_of_row w9 w2.heap.size 1 _ _ _ hrow9
        have hset10 := heap_setCell_same w9 w2.heap.size 1 _ _ (.string nn) hrow9
        have hoth10 : ∀ k, k ≠ w2.heap.size → (w9.setCell ⟨w2.heap.size, 1, none⟩ (.string nn)).heap[k]? = w9.heap[k]? := fun k hk => heap_setCell_other w9 ⟨w2.heap.size, 1, none⟩ k _ hk
        have hp10 : Par L (w9.setCell ⟨w2.heap.size, 1, none⟩ (.string nn)) gp gw c R4 := hp.keep (hoth10 gp (by omega)) (hoth10 gw (by omega)) (by simp)
        have hg10 : w.grownBy (w9.setCell ⟨w2.heap.size, 1, none⟩ (.string nn)) (some gp) := gb_setCell (gb_trans HG8.out hg) _ _ (by omega) _
        have hk10 : ∀ k, k < w6.heap.size → k ≠ gp → k ≠ w2.heap.size → (w9.setCell ⟨w2.heap.size, 1, none⟩ (.string nn)).heap[k]? = w6.heap[k]? := fun k h1 h2 h3 =>
          (hoth10 k h3).trans ((hg.block k (by omega) (by intro e; injection e with e; omega)).trans ((HOTH8.out k h3).trans (HG7.out.block k h1 (by intro e; injection e with e; omega))))
        have hE10 := EInv.again (wf := w9.setCell ⟨w2.heap.size, 1, none⟩ (.string nn)) (op := bs [119, 104, 101, 110]) (nm := nn) (n := 0) (at_ := xa) hgp hlo hg10 hp10 HRES.out hk10 (by simp; omega) HK6.out (by omega) (by omega) HIP.out hset10
        have HE10 := Lib.hid hE10
        clear hp hg hrow9 hset10 hoth10 hp10 hg10 hk10 hE10 kn
        go_wp2_with fail
        refine ⟨⟨f', _, R4, HRN.out, hl4, hp4, HE10.out⟩, ?_⟩
        rw [leftOf_par HE10.out.par, HLF.out]
        have := HE10.out.par.lt
        omega
end Go.Proofs.YtjlnihennlkmpaaGreatDoor

namespace Go.Proofs.YtjlnihennlkmpaaGreatDoor
open Go Go.RowKit
set_option maxHeartbeats 4000000 in
set_option maxRecDepth 100000 in
theorem row_and_any (L : List Wd) (hG : Good L) (d : Nat) (hd : d < 1000) (w : World) (gp gw c : Nat) (st : St) (h : Par L w gp gw c st) (hE : GoodE L) (hpp : Ok L st) (one : St → Ex × St) (hm : Mono L one) (ops : List ByteArray) (b o cp : Nat) (hb : b < w.heap.size) (hbn : b ≠ gp) (hs : StrsAt w b o ops) (hn : ops.length < 1000) (hne : ∀ o ∈ ops, o.data.toList ≠ [])
    (hx : ∀ W S, Par L W gp gw c S → Ok L S → Calls Tryz.prog 109 #[.pointer (some ⟨gp, 0, none⟩), .int .i64 (d : Int)] W (GivesX L gp gw c (one S).1 (one S).2 W)) :
    Calls Tryz.prog 108 #[.pointer (some ⟨gp, 0, none⟩), (.func (.func 109) #[.pointer (some ⟨gp, 0, none⟩)] #[]), .int .i64 (d : Int), .slice (some ⟨b, o, none⟩) ops.length cp] w (GivesX L gp gw c (rowS L one ops st).1 (rowS L one ops st).2 w) := by
  have hb1 : Below w.heap.size w (w.alloc (.cells #[.string ⟨#[]⟩, .string ⟨#[]⟩, .int .i64 0, .int .i64 0, .slice none 0 0] 54)) := (Below.refl _ _).alloc (Nat.le_refl _) _
  have hn1 := heap_alloc_new w (.cells #[.string ⟨#[]⟩, .string ⟨#[]⟩, .int .i64 0, .int .i64 0, .slice none 0 0] 54)
  have h1 := h.below hb1
  have hgp := h.gpl
  have hgw := h.gwl
  have hs1 : (w.alloc (.cells #[.string ⟨#[]⟩, .string ⟨#[]⟩, .int .i64 0, .int .i64 0, .slice none 0 0] 54)).heap.size = w.heap.size + 1 := by simp
  have kx := hx _ st h1 hpp
  have hmo := hm st h.lt hpp
  obtain ⟨RR, hRR⟩ : ∃ R, R = rowS L one ops st := ⟨_, rfl⟩
  rw [← hRR]
  unfold rowS at hRR
  obtain ⟨t, ht⟩ : ∃ t, t = (one st).1 := ⟨_, rfl⟩
  obtain ⟨S1, hS1⟩ : ∃ t, t = (one st).2 := ⟨_, rfl⟩
  rw [← ht, ← hS1] at hRR kx
  rw [← hS1] at hmo
  have hpp1 := hmo.2.2
  have HRR := Lib.hid hRR
  have HB1 := Lib.hid (gb_below (r := some gp) hb1)
  have HN1 := Lib.hid hn1
  have HSE := Lib.hid size_expr
  have HSW := Lib.hid size_word2
  have HE := Lib.hid hE
  have HL := Lib.hid hG
  have HX := Lib.hid hx
  have HS := Lib.hid hs
  have HNE := Lib.hid hne
  have HMO := Lib.hid hm
  obtain ⟨nl, hnl⟩ : ∃ n, n = ops.length := ⟨_, rfl⟩
  rw [← hnl]
  have HNL := Lib.hid hnl
  have hn' := Lib.hid hn
  clear hx hb1 hn1 h1 hRR hE hG ht hS1 hmo hs hne hm hnl hn
  go_enter Tryz.func108, Tryz.ntmps108
  go_wp2_with fail
  (with_reducible refine kx.mono ?_)
  rintro e w2 ⟨o1, m1, n1, a1, x1, l1, c1, rfl, hi, hp, hg⟩
  unfold exV
  have E0 := Lib.hid (EInv.start hgp HB1.out hs1 HN1.out hp hg hi)
  have hlen : S1.i < L.length := hp.lt
  clear hi hp hg kx HB1 HN1 hs1 h
  go_wp2_with fail
  go_loopw [] (fun wr => ∃ (f : Nat) (e : Ex) (S : St), rowL L one ops f e S = RR ∧ L.length ≤ f + S.i ∧ Ok L S ∧ EInv L w gp gw c w2.heap.size wr e S)
    (fun wr => leftOf gp wr)
  case atStart => exact ⟨L.length, t, S1, HRR.out.symm, by omega, hpp1, E0.out⟩
  case round =>
    obtain ⟨f, e, S, hR, hf, hps, hE1⟩ := hrel
    have hlt := hE1.par.lt
    have hfew := HE.out.few
    have hgo := between_go HE.out (ops := ops) HNE.out hlt
    have hstr := HS.out.grown hE1.gb hb hbn
    have hbr : b < wr.heap.size := Nat.lt_of_lt_of_le hb hE1.gb.size
    have kb := between_any L HL.out wr gp gw c S hE1.par (by have := hps.1; omega) b o cp ops hbr hstr hn'.out
    rw [← HNL.out] at kb
    have hstop := rowL_stop L HE.out one ops HNE.out f e S hlt
    have hleft := leftOf_par hE1.par
    have hgo2 : (betweenS L ops S).2.1 = true → (∃ f', f = f' + 1 ∧ rowL L one ops f' (twoS (betweenS L ops S).1 e (one (betweenS L ops S).2.2).1) (one (betweenS L ops S).2.2).2 = RR ∧ L.length ≤ f' + (one (betweenS L ops S).2.2).2.i) ∧ Ok L (one (betweenS L ops S).2.2).2 ∧ S.i < (one (betweenS L ops S).2.2).2.i ∧ Ok L (betweenS L ops S).2.2 := fun hb => by
      obtain ⟨f', rfl⟩ : ∃ f', f = f' + 1 := ⟨f - 1, by omega⟩
      have h1 := hgo.1 hb
      have hOk := (between_ok HE.out HNE.out hlt hps).1
      have h2 := HMO.out (betweenS L ops S).2.2 hgo.2.2 hOk
      exact ⟨⟨f', rfl, by rw [← hR]; exact (rowL_go L one ops f' e S hb).symm, by omega⟩, h2.2.2, by omega, hOk⟩
    obtain ⟨y, hy⟩ : ∃ y, y = (betweenS L ops S).1 := ⟨_, rfl⟩
    obtain ⟨B, hB⟩ : ∃ B, B = (betweenS L ops S).2.1 := ⟨_, rfl⟩
    obtain ⟨R, hR2⟩ : ∃ R, R = (betweenS L ops S).2.2 := ⟨_, rfl⟩
    rw [← hy, ← hB, ← hR2] at kb hgo2
    rw [← hB, ← hR2] at hstop
    have kx2 := fun W (hp : Par L W gp gw c R) (h : Ok L R) => HX.out W R hp h
    obtain ⟨t2, ht2⟩ : ∃ t, t = (one R).1 := ⟨_, rfl⟩
    obtain ⟨S2, hS2⟩ : ∃ t, t = (one R).2 := ⟨_, rfl⟩
    rw [← ht2, ← hS2] at kx2 hgo2
    obtain ⟨xk, xt, xn, xa⟩ := y
    unfold GivesB Wd.cells at kb
    have two_ := fun (W : World) (hw : ∀ k, W.heap.size ≤ k → w.heap.size < k ∧ k ≠ w2.heap.size) {o1 m1 : ByteArray} {n1 a1 : Int} {x1 : Option Addr} {l1 c1 : Nat} {o2 m2 : ByteArray} {n2 a2 : Int} {x2 : Option Addr} {l2 c2 : Nat} h1 h2 => twoP_any (fun k => w.heap.size < k ∧ k ≠ w2.heap.size) ⟨xk, xt, xn, xa⟩ e t2 W hw o1 m1 n1 a1 x1 l1 c1 o2 m2 n2 a2 x2 l2 c2 h1 h2
    have TWO := Lib.hid two_
    have KX := Lib.hid kx2
    have HGO := Lib.hid hgo2
    have HST := Lib.hid hstop
    have HR := Lib.hid hR
    have HE1 := Lib.hid hE1
    have HLF := Lib.hid hleft
    clear two_ kx2 hgo2 hstop hR hE1 hy hB hR2 ht2 hS2 hgo E0 hf hps HRR HE HL hleft hstr HX HS HMO
    go_wp2_with fail
    (with_reducible refine kb.mono ?_)
    rintro e3 w3 ⟨rfl, hp, hg⟩
    have hs3' : wr.heap.size ≤ w3.heap.size := hg.size
    have hb4 : Below w3.heap.size w3 (w3.alloc (.cells #[.int .i64 (xk : Int), .string xt, .int .i64 xn, .int .i64 (xa : Int)] 77)) := (Below.refl _ _).alloc (Nat.le_refl _) _
    have HN4 := Lib.hid (heap_alloc_new w3 (.cells #[.int .i64 (xk : Int), .string xt, .int .i64 xn, .int .i64 (xa : Int)] 77))
    have ha4 : (w3.alloc (.cells #[.int .i64 (xk : Int), .string xt, .int .i64 xn, .int .i64 (xa : Int)] 77)).heap.size = w3.heap.size + 1 := by simp
    have HP4 := Lib.hid (hp.below hb4)
    have G4 := Lib.hid (gb_trans hg (gb_below (r := some gp) hb4))
    clear hp hg hb4 kb
    obtain ⟨w4, hw4⟩ : ∃ w4, w4 = (w3.alloc (.cells #[.int .i64 (xk : Int), .string xt, .int .i64 xn, .int .i64 (xa : Int)] 77)) := ⟨_, rfl⟩
    rw [← hw4] at HN4 ha4 HP4 G4
    cases B
    · obtain ⟨o1, m1, n1, a1, x1, l1, c1, r1, r2, hfin⟩ := HE1.out.stop hgp hgw G4.out HP4.out
      have hres := HST.out rfl
      rw [HR.out] at hres
      have R1 := Lib.hid r1
      have R2 := Lib.hid r2
      have HF := Lib.hid hfin
      have HRS := Lib.hid hres
      have HW4 := Lib.hid hw4
      clear r1 r2 hfin hres hw4 HE1 KX HGO HST HR
      go_wp2_with (first | (rw [← HW4.out]; refine wpList_load_row rfl 54 (.tmp 9) rfl w2.heap.size rfl 54 #[.string o1, .string m1, .int .i64 n1, .int .i64 a1, .slice x1 l1 c1] (0, 0) _ R1.out Tryz.underlying54 rfl HSE.out ?_) | (refine wpList_store_row rfl 54 (.tmp 8) (.tmp 23) rfl w.heap.size #[.string o1, .string m1, .int .i64 n1, .int .i64 a1, .slice x1 l1 c1] rfl rfl 54 _ R2.out HSE.out rfl (expr_one _ _ _ _ _ _ _) ?_))
      have hset := setRow_heap w4 w.heap.size _ #[.string o1, .string m1, .int .i64 n1, .int .i64 a1, .slice x1 l1 c1] _ _ R2.out
      refine bodyPost_ret (v := .agg #[.string o1, .string m1, .int .i64 n1, .int .i64 a1, .slice x1 l1 c1]) (results_cell_row (p := 8) (ty := 54) rfl _ _ w.heap.size 54 _ (0, 0) _ rfl hset Tryz.underlying54 rfl HSE.out) rfl ?_
      rw [HRS.out]
      exact HF.out
    · obtain ⟨⟨f', hff, hR4, hl4⟩, hp4, hi4, hpR⟩ := HGO.out rfl
      obtain ⟨o1, m1, n1, a1, x1, l1, c1, hrow, hip⟩ := HE1.out.row
      have hlo := HE1.out.lo
      have hlt5 : w2.heap.size < wr.heap.size := (Array.getElem?_eq_some_iff.1 hrow).1
      have HROW4 := Lib.hid ((G4.out.block w2.heap.size hlt5 (by intro e; injection e with e; omega)).trans hrow)
      have HIP4 := Lib.hid (hip.grown G4.out (by omega))
      have hz4 := G4.out.size
      have HRES4 := Lib.hid ((G4.out.block w.heap.size (by omega) (by intro e; injection e with e; omega)).trans HE1.out.res)
      have HG4 := Lib.hid (gb_trans HE1.out.gb G4.out)
      have HRN := Lib.hid hR4
      have HW4 := Lib.hid hw4
      clear hrow hip hR4 HE1 HST HR HGO G4 hw4 hff
      go_wp2_with fail
      rw [← HW4.out]
      refine wp_region_stepsG_then (words [wIs (.agg #[.int .i64 (xk : Int), .string xt, .int .i64 xn, .int .i64 (xa : Int)]), wIs (.agg #[.string o1, .string m1, .int .i64 n1, .int .i64 a1, .slice x1 l1 c1]), wIs (.func (.func 109) #[.pointer (some ⟨gp, 0, none⟩)] #[]), wIs (.int .i64 (d : Int)), (fun v W => wEp (fun k => w.heap.size < k ∧ k ≠ w2.heap.size) t2 v W ∧ Par L W gp gw c S2), wEp (fun k => w.heap.size < k ∧ k ≠ w2.heap.size) (twoS ⟨xk, xt, xn, xa⟩ e t2)]) (fun W W' => W.grownBy W' (some gp)) (fun W => Par L W gp gw c R) 4 (by kernel_rfl) (gbt gp) (gbb gp) (fun W W' hF hb => hF.below hb) HP4.out (words_stable ?stab) ?stabr rfl rfl rfl (by kernel_rfl) (by decide) 6 _ rfl rfl ?steps ?last
      case stab =>
        intro f hf
        simp only [List.mem_cons, List.not_mem_nil, or_false] at hf
        rcases hf with rfl | rfl | rfl | rfl | rfl | rfl
        · exact stable_is _
        · exact stable_is _
        · exact stable_is _
        · exact stable_is _
        · exact fun v W W' hv hb => ⟨stable_ep _ _ v W W' hv.1 hb, hv.2.below hb⟩
        · exact stable_ep _ _
      case stabr =>
        intro i v W W' hne hv hb
        match i, hne, hv with
        | 0, _, hv => exact hv
        | 1, _, hv => exact hv
        | 2, _, hv => exact hv
        | 3, _, hv => exact hv
        | 4, hne, _ => exact absurd rfl hne
        | 5, _, hv => exact stableR_ep gp _ (by omega) _ v W W' hv hb
        | _ + 6, _, _ => trivial
      case steps =>
        refine StepsG.cons (stepG_value (by decide) rfl fun a W hp => ?_) ?_
        · have f1 : a.tmps.getD 10 undef = .pointer (some ⟨w3.heap.size, 0, none⟩) := hp.old 10 rfl
          exact ⟨wanted_none rfl, _, _, run_ldrow rfl f1 ((hp.rel.block w3.heap.size (by omega) (by intro e; injection e with e; omega)).trans HN4.out) Tryz.underlying77 rfl HSW.out, rfl, Below.refl _ _⟩
        refine StepsG.cons (stepG_value (by decide) rfl fun a W hp => ?_) ?_
        · have f1 : a.tmps.getD 9 undef = .pointer (some ⟨w2.heap.size, 0, none⟩) := hp.old 9 rfl
          exact ⟨wanted_none rfl, _, _, run_ldrow rfl f1 ((hp.rel.block w2.heap.size (by omega) (by intro e; injection e with e; omega)).trans HROW4.out) Tryz.underlying54 rfl HSE.out, rfl, Below.refl _ _⟩
        refine StepsG.cons (stepG_value (by decide) rfl fun a W hp => ⟨wanted_none rfl, _, _, run_move (.inl rfl), (hp.old 1 rfl), Below.refl _ _⟩) ?_
        refine StepsG.cons (stepG_value (by decide) rfl fun a W hp => ⟨wanted_none rfl, _, _, run_move (.inl rfl), (hp.old 2 rfl), Below.refl _ _⟩) ?_
        refine StepsG.cons (stepG_turn rfl fun a W hp hF => ?_) ?_
        · have f1 : a.tmps.getD 26 undef = (.func (.func 109) #[.pointer (some ⟨gp, 0, none⟩)] #[]) := (hp.on_ 2 rfl rfl rfl).2
          have f2 : a.tmps.getD 27 undef = .int .i64 (d : Int) := (hp.on_ 3 rfl rfl rfl).2
          refine ⟨wanted_none rfl, 109, _, run_enterv rfl f1 Tryz.call109, ?_⟩
          show Calls _ _ #[_, a.tmps.getD 27 undef] W _
          rw [f2]
          refine (KX.out W hF hpR).mono ?_
          rintro e W' ⟨o2, m2, n2, a2, x2, l2, c2, rfl, hi2, hp2, hg2⟩
          have := hp.rel.size
          exact ⟨_, rfl, ⟨⟨o2, m2, n2, a2, x2, l2, c2, rfl, hi2.toP (fun k h1 h2 => ⟨by omega, by omega⟩)⟩, hp2⟩, hg2⟩
        refine StepsG.cons (stepG_enter (by decide) rfl fun a W hp => ?_) ?_
        · have f1 : a.tmps.getD 24 undef = .agg #[.int .i64 (xk : Int), .string xt, .int .i64 xn, .int .i64 (xa : Int)] := (hp.on_ 0 rfl rfl rfl).2
          have f2 : a.tmps.getD 25 undef = .agg #[.string o1, .string m1, .int .i64 n1, .int .i64 a1, .slice x1 l1 c1] := (hp.on_ 1 rfl rfl rfl).2
          obtain ⟨⟨o2, m2, n2, a2, x2, l2, c2, f3, hi2⟩, hp2⟩ : wEp (fun k => w.heap.size < k ∧ k ≠ w2.heap.size) t2 (a.tmps.getD 28 undef) W ∧ Par L W gp gw c S2 := (hp.on_ 4 rfl rfl rfl).2
          refine ⟨wanted_none rfl, 92, _, run_enter3 rfl rfl Tryz.call92, ?_⟩
          show Calls _ _ #[a.tmps.getD 24 undef, a.tmps.getD 25 undef, a.tmps.getD 28 undef] W _
          rw [f1, f2, f3]
          have := hp.rel.size
          refine (TWO.out W (fun k hk => ⟨by omega, by omega⟩) (HIP4.out.grown hp.rel (by omega)) hi2).mono ?_
          rintro e W' ⟨o3, m3, n3, a3, x3, l3, c3, rfl, hi3, hb3⟩
          exact ⟨_, rfl, ⟨o3, m3, n3, a3, x3, l3, c3, rfl, hi3⟩, hb3⟩
        exact StepsG.nil
      case last =>
        intro a W hI
        obtain ⟨o3, m3, n3, a3, x3, l3, c3, f3, hi3⟩ : wEp (fun k => w.heap.size < k ∧ k ≠ w2.heap.size) (twoS ⟨xk, xt, xn, xa⟩ e t2) (a.tmps.getD 29 undef) W := hI.new 5 _ 29 rfl rfl rfl
        obtain ⟨_, hp3⟩ : wEp (fun k => w.heap.size < k ∧ k ≠ w2.heap.size) t2 (a.tmps.getD 28 undef) W ∧ Par L W gp gw c S2 := hI.new 4 _ 28 rfl rfl rfl
        have f4 : a.tmps.getD 9 undef = .pointer (some ⟨w2.heap.size, 0, none⟩) := hI.old 9 (by simp)
        obtain ⟨g, _, hx⟩ := hI.puts [24, 25, 26, 27, 28, 29] rfl
        have hrel := hI.rel
        have lr := (hrel.block w2.heap.size (by omega) (by intro e; injection e with e; omega)).trans HROW4.out
        have lres := (hrel.block w.heap.size (by omega) (by intro e; injection e with e; omega)).trans HRES4.out
        have hE5 := EInv.put hgp hgw hlo (gb_trans HG4.out hrel) hp3 lres lr hi3
        clear hI
        refine wpOp_of rfl (wanted_none rfl) ?_
        refine wp_store_row 54 (.tmp 9) (.tmp 29) rfl w2.heap.size #[.string o3, .string m3, .int .i64 n3, .int .i64 a3, .slice x3 l3 c3] f4 f3 54 _ lr HSE.out rfl (expr_one _ _ _ _ _ _ _) ?_
        have HE5 := Lib.hid hE5
        clear hE5 lr lres hrel hp3 hi3 f3 f4
        subst hx
        simp only [List.foldl_cons, List.foldl_nil]
        simp only [Exit.inBlock, Exit.then]
        refine ⟨⟨_, _, _, _, _, _, _, _, _, _, _, _, _, _, _, _, _, ⟨f', _, S2, HRN.out, hl4, hp4, HE5.out⟩, rfl⟩, ?_⟩
        rw [leftOf_par HE5.out.par, HLF.out]
        have := HE5.out.par.lt
        omega
end Go.Proofs.YtjlnihennlkmpaaGreatDoor

namespace Go.Proofs.YtjlnihennlkmpaaGreatDoor
open Go Go.RowKit
set_option maxHeartbeats 4000000 in
set_option maxRecDepth 100000 in
theorem or_any (L : List Wd) (hG : Good L) (d : Nat) (hd : d < 1000) (w : World) (gp gw c : Nat) (st : St) (h : Par L w gp gw c st) (hE : GoodE L) (hpp : Ok L st) (one : St → Ex × St) (hm : Mono L one)
    (hx : ∀ W S, Par L W gp gw c S → Ok L S → Calls Tryz.prog 109 #[.pointer (some ⟨gp, 0, none⟩), .int .i64 (d : Int)] W (GivesX L gp gw c (one S).1 (one S).2 W)) :
    Calls Tryz.prog 90 #[.pointer (some ⟨gp, 0, none⟩), .int .i64 (d : Int)] w (GivesX L gp gw c (rowS L one [bs [111, 114], bs [120, 111, 114]] st).1 (rowS L one [bs [111, 114], bs [120, 111, 114]] st).2 w) := by
  have hb1 : Below w.heap.size w (w.alloc (.cells #[.string ⟨#[]⟩, .string ⟨#[]⟩, .int .i64 0, .int .i64 0, .slice none 0 0] 54)) := (Below.refl _ _).alloc (Nat.le_refl _) _
  have hn1 := heap_alloc_new w (.cells #[.string ⟨#[]⟩, .string ⟨#[]⟩, .int .i64 0, .int .i64 0, .slice none 0 0] 54)
  have hs1 : (w.alloc (.cells #[.string ⟨#[]⟩, .string ⟨#[]⟩, .int .i64 0, .int .i64 0, .slice none 0 0] 54)).heap.size = w.heap.size + 1 := by simp
  have hb2 : Below (w.alloc (.cells #[.string ⟨#[]⟩, .string ⟨#[]⟩, .int .i64 0, .int .i64 0, .slice none 0 0] 54)).heap.size (w.alloc (.cells #[.string ⟨#[]⟩, .string ⟨#[]⟩, .int .i64 0, .int .i64 0, .slice none 0 0] 54)) ((w.alloc (.cells #[.string ⟨#[]⟩, .string ⟨#[]⟩, .int .i64 0, .int .i64 0, .slice none 0 0] 54)).alloc (.cells #[.string ⟨#[111, 114]⟩, .string ⟨#[120, 111, 114]⟩] 9)) := (Below.refl _ _).alloc (Nat.le_refl _) _
  have hn2 := heap_alloc_new (w.alloc (.cells #[.string ⟨#[]⟩, .string ⟨#[]⟩, .int .i64 0, .int .i64 0, .slice none 0 0] 54)) (.cells #[.string ⟨#[111, 114]⟩, .string ⟨#[120, 111, 114]⟩] 9)
  have hs2 : ((w.alloc (.cells #[.string ⟨#[]⟩, .string ⟨#[]⟩, .int .i64 0, .int .i64 0, .slice none 0 0] 54)).alloc (.cells #[.string ⟨#[111, 114]⟩, .string ⟨#[120, 111, 114]⟩] 9)).heap.size = w.heap.size + 2 := by simp
  rw [hs1] at hn2
  have h2 := (h.below hb1).below hb2
  have hgp := h.gpl
  have hgw := h.gwl
  have kr : Calls Tryz.prog 108 #[.pointer (some ⟨gp, 0, none⟩), (.func (.func 109) #[.pointer (some ⟨gp, 0, none⟩)] #[]), .int .i64 (d : Int), .slice (some ⟨w.heap.size + 1, 0, none⟩) 2 2] ((w.alloc (.cells #[.string ⟨#[]⟩, .string ⟨#[]⟩, .int .i64 0, .int .i64 0, .slice none 0 0] 54)).alloc (.cells #[.string ⟨#[111, 114]⟩, .string ⟨#[120, 111, 114]⟩] 9)) (GivesX L gp gw c (rowS L one [bs [111, 114], bs [120, 111, 114]] st).1 (rowS L one [bs [111, 114], bs [120, 111, 114]] st).2 ((w.alloc (.cells #[.string ⟨#[]⟩, .string ⟨#[]⟩, .int .i64 0, .int .i64 0, .slice none 0 0] 54)).alloc (.cells #[.string ⟨#[111, 114]⟩, .string ⟨#[120, 111, 114]⟩] 9))) := row_and_any L hG d hd ((w.alloc (.cells #[.string ⟨#[]⟩, .string ⟨#[]⟩, .int .i64 0, .int .i64 0, .slice none 0 0] 54)).alloc (.cells #[.string ⟨#[111, 114]⟩, .string ⟨#[120, 111, 114]⟩] 9)) gp gw c st h2 hE hpp one hm [bs [111, 114], bs [120, 111, 114]] (w.heap.size + 1) 0 2 (by omega) (by omega) (by
      intro j hj
      simp only [World.cell?, hn2]
      match j, hj with
      | 0, _ => rfl
      | 1, _ => rfl
      | _ + 2, hj => exact absurd hj (Nat.not_lt.2 (Nat.le_add_left _ _))) (by decide) (by simp [bs]) hx
  obtain ⟨RR, hRR⟩ : ∃ R, R = rowS L one [bs [111, 114], bs [120, 111, 114]] st := ⟨_, rfl⟩
  rw [← hRR] at kr ⊢
  have G2 := Lib.hid (gb_trans (gb_below (r := some gp) hb1) (gb_below hb2))
  have N1 := Lib.hid ((hb2.block w.heap.size (by omega)).trans hn1)
  have HSE := Lib.hid size_expr
  clear hx hb1 hn1 hb2 hn2 h h2 hRR hm hpp hE hG
  go_enter Tryz.func90, Tryz.ntmps90
  go_wp2_with fail
  (with_reducible refine kr.mono ?_)
  rintro e w3 ⟨o3, m3, n3, a3, x3, l3, c3, rfl, hi, hp, hg⟩
  unfold exV
  have hs3 : w.heap.size + 2 ≤ w3.heap.size := by rw [← hs2]; exact hg.size
  have LR := Lib.hid ((hg.block w.heap.size (by omega) (by intro e; injection e with e; omega)).trans N1.out)
  have g0 := Lib.hid (gb_trans G2.out hg)
  have HP := Lib.hid hp
  have HI := Lib.hid hi
  clear hi hp hg kr
  go_wp2_with (refine wpList_store_row rfl 54 (.tmp 4) (.tmp 10) rfl w.heap.size #[.string o3, .string m3, .int .i64 n3, .int .i64 a3, .slice x3 l3 c3] rfl rfl 54 _ LR.out HSE.out rfl (expr_one _ _ _ _ _ _ _) ?_)
  have hset := setRow_heap w3 w.heap.size _ #[.string o3, .string m3, .int .i64 n3, .int .i64 a3, .slice x3 l3 c3] _ _ LR.out
  refine bodyPost_ret (v := .agg #[.string o3, .string m3, .int .i64 n3, .int .i64 a3, .slice x3 l3 c3]) (results_cell_row (p := 4) (ty := 54) rfl _ _ w.heap.size 54 _ (0, 0) _ rfl hset Tryz.underlying54 rfl HSE.out) rfl ⟨o3, m3, n3, a3, x3, l3, c3, rfl, ?_, HP.out.keep (setRow_other w3 w.heap.size gp _ (by omega)) (setRow_other w3 w.heap.size gw _ (by omega)) (by rw [setRow_size]; exact Nat.le_refl _), gb_setRow g0.out _ (Nat.le_refl _) _⟩
  exact IsE.mono (B := w.heap.size + 2) (by omega) _ (hs2 ▸ HI.out.keep (by rw [setRow_size]; exact Nat.le_refl _) (fun k h2 h3 => setRow_other w3 w.heap.size k _ (by omega)))
end Go.Proofs.YtjlnihennlkmpaaGreatDoor

namespace Go.Proofs.YtjlnihennlkmpaaGreatDoor
open Go Go.RowKit
set_option maxHeartbeats 4000000 in
set_option maxRecDepth 100000 in
theorem row_cmp_any (L : List Wd) (hG : Good L) (d : Nat) (hd : d < 1000) (w : World) (gp gw c : Nat) (st : St) (h : Par L w gp gw c st) (hE : GoodE L) (hpp : Ok L st) (one : St → Ex × St) (hm : Mono L one) (ops : List ByteArray) (b o cp : Nat) (hb : b < w.heap.size) (hbn : b ≠ gp) (hs : StrsAt w b o ops) (hn : ops.length < 1000) (hne : ∀ o ∈ ops, o.data.toList ≠ [])
    (hx : ∀ W S, Par L W gp gw c S → Ok L S → Calls Tryz.prog 119 #[.pointer (some ⟨gp, 0, none⟩), .int .i64 (d : Int)] W (GivesX L gp gw c (one S).1 (one S).2 W)) :
    Calls Tryz.prog 108 #[.pointer (some ⟨gp, 0, none⟩), (.func (.func 119) #[.pointer (some ⟨gp, 0, none⟩)] #[]), .int .i64 (d : Int), .slice (some ⟨b, o, none⟩) ops.length cp] w (GivesX L gp gw c (rowS L one ops st).1 (rowS L one ops st).2 w) := by
  have hb1 : Below w.heap.size w (w.alloc (.cells #[.string ⟨#[]⟩, .string ⟨#[]⟩, .int .i64 0, .int .i64 0, .slice none 0 0] 54)) := (Below.refl _ _).alloc (Nat.le_refl _) _
  have hn1 := heap_alloc_new w (.cells #[.string ⟨#[]⟩, .string ⟨#[]⟩, .int .i64 0, .int .i64 0, .slice none 0 0] 54)
  have h1 := h.below hb1
  have hgp := h.gpl
  have hgw := h.gwl
  have hs1 : (w.alloc (.cells #[.string ⟨#[]⟩, .string ⟨#[]⟩, .int .i64 0, .int .i64 0, .slice none 0 0] 54)).heap.size = w.heap.size + 1 := by simp
  have kx := hx _ st h1 hpp
  have hmo := hm st h.lt hpp
  obtain ⟨RR, hRR⟩ : ∃ R, R = rowS L one ops st := ⟨_, rfl⟩
  rw [← hRR]
  unfold rowS at hRR
  obtain ⟨t, ht⟩ : ∃ t, t = (one st).1 := ⟨_, rfl⟩
  obtain ⟨S1, hS1⟩ : ∃ t, t = (one st).2 := ⟨_, rfl⟩
  rw [← ht, ← hS1] at hRR kx
  rw [← hS1] at hmo
  have hpp1 := hmo.2.2
  have HRR := Lib.hid hRR
  have HB1 := Lib.hid (gb_below (r := some gp) hb1)
  have HN1 := Lib.hid hn1
  have HSE := Lib.hid size_expr
  have HSW := Lib.hid size_word2
  have HE := Lib.hid hE
  have HL := Lib.hid hG
  have HX := Lib.hid hx
  have HS := Lib.hid hs
  have HNE := Lib.hid hne
  have HMO := Lib.hid hm
  obtain ⟨nl, hnl⟩ : ∃ n, n = ops.length := ⟨_, rfl⟩
  rw [← hnl]
  have HNL := Lib.hid hnl
  have hn' := Lib.hid hn
  clear hx hb1 hn1 h1 hRR hE hG ht hS1 hmo hs hne hm hnl hn
  go_enter Tryz.func108, Tryz.ntmps108
  go_wp2_with fail
  (with_reducible refine kx.mono ?_)
  rintro e w2 ⟨o1, m1, n1, a1, x1, l1, c1, rfl, hi, hp, hg⟩
  unfold exV
  have E0 := Lib.hid (EInv.start hgp HB1.out hs1 HN1.out hp hg hi)
  have hlen : S1.i < L.length := hp.lt
  clear hi hp hg kx HB1 HN1 hs1 h
  go_wp2_with fail
  go_loopw [] (fun wr => ∃ (f : Nat) (e : Ex) (S : St), rowL L one ops f e S = RR ∧ L.length ≤ f + S.i ∧ Ok L S ∧ EInv L w gp gw c w2.heap.size wr e S)
    (fun wr => leftOf gp wr)
  case atStart => exact ⟨L.length, t, S1, HRR.out.symm, by omega, hpp1, E0.out⟩
  case round =>
    obtain ⟨f, e, S, hR, hf, hps, hE1⟩ := hrel
    have hlt := hE1.par.lt
    have hfew := HE.out.few
    have hgo := between_go HE.out (ops := ops) HNE.out hlt
    have hstr := HS.out.grown hE1.gb hb hbn
    have hbr : b < wr.heap.size := Nat.lt_of_lt_of_le hb hE1.gb.size
    have kb := between_any L HL.out wr gp gw c S hE1.par (by have := hps.1; omega) b o cp ops hbr hstr hn'.out
    rw [← HNL.out] at kb
    have hstop := rowL_stop L HE.out one ops HNE.out f e S hlt
    have hleft := leftOf_par hE1.par
    have hgo2 : (betweenS L ops S).2.1 = true → (∃ f', f = f' + 1 ∧ rowL L one ops f' (twoS (betweenS L ops S).1 e (one (betweenS L ops S).2.2).1) (one (betweenS L ops S).2.2).2 = RR ∧ L.length ≤ f' + (one (betweenS L ops S).2.2).2.i) ∧ Ok L (one (betweenS L ops S).2.2).2 ∧ S.i < (one (betweenS L ops S).2.2).2.i ∧ Ok L (betweenS L ops S).2.2 := fun hb => by
      obtain ⟨f', rfl⟩ : ∃ f', f = f' + 1 := ⟨f - 1, by omega⟩
      have h1 := hgo.1 hb
      have hOk := (between_ok HE.out HNE.out hlt hps).1
      have h2 := HMO.out (betweenS L ops S).2.2 hgo.2.2 hOk
      exact ⟨⟨f', rfl, by rw [← hR]; exact (rowL_go L one ops f' e S hb).symm, by omega⟩, h2.2.2, by omega, hOk⟩
    obtain ⟨y, hy⟩ : ∃ y, y = (betweenS L ops S).1 := ⟨_, rfl⟩
    obtain ⟨B, hB⟩ : ∃ B, B = (betweenS L ops S).2.1 := ⟨_, rfl⟩
    obtain ⟨R, hR2⟩ : ∃ R, R = (betweenS L ops S).2.2 := ⟨_, rfl⟩
    rw [← hy, ← hB, ← hR2] at kb hgo2
    rw [← hB, ← hR2] at hstop
    have kx2 := fun W (hp : Par L W gp gw c R) (h : Ok L R) => HX.out W R hp h
    obtain ⟨t2, ht2⟩ : ∃ t, t = (one R).1 := ⟨_, rfl⟩
    obtain ⟨S2, hS2⟩ : ∃ t, t = (one R).2 := ⟨_, rfl⟩
    rw [← ht2, ← hS2] at kx2 hgo2
    obtain ⟨xk, xt, xn, xa⟩ := y
    unfold GivesB Wd.cells at kb
    have two_ := fun (W : World) (hw : ∀ k, W.heap.size ≤ k → w.heap.size < k ∧ k ≠ w2.heap.size) {o1 m1 : ByteArray} {n1 a1 : Int} {x1 : Option Addr} {l1 c1 : Nat} {o2 m2 : ByteArray} {n2 a2 : Int} {x2 : Option Addr} {l2 c2 : Nat} h1 h2 => twoP_any (fun k => w.heap.size < k ∧ k ≠ w2.heap.size) ⟨xk, xt, xn, xa⟩ e t2 W hw o1 m1 n1 a1 x1 l1 c1 o2 m2 n2 a2 x2 l2 c2 h1 h2
    have TWO := Lib.hid two_
    have KX := Lib.hid kx2
    have HGO := Lib.hid hgo2
    have HST := Lib.hid hstop
    have HR := Lib.hid hR
    have HE1 := Lib.hid hE1
    have HLF := Lib.hid hleft
    clear two_ kx2 hgo2 hstop hR hE1 hy hB hR2 ht2 hS2 hgo E0 hf hps HRR HE HL hleft hstr HX HS HMO
    go_wp2_with fail
    (with_reducible refine kb.mono ?_)
    rintro e3 w3 ⟨rfl, hp, hg⟩
    have hs3' : wr.heap.size ≤ w3.heap.size := hg.size
    have hb4 : Below w3.heap.size w3 (w3.alloc (.cells #[.int .i64 (xk : Int), .string xt, .int .i64 xn, .int .i64 (xa : Int)] 77)) := (Below.refl _ _).alloc (Nat.le_refl _) _
    have HN4 := Lib.hid (heap_alloc_new w3 (.cells #[.int .i64 (xk : Int), .string xt, .int .i64 xn, .int .i64 (xa : Int)] 77))
    have ha4 : (w3.alloc (.cells #[.int .i64 (xk : Int), .string xt, .int .i64 xn, .int .i64 (xa : Int)] 77)).heap.size = w3.heap.size + 1 := by simp
    have HP4 := Lib.hid (hp.below hb4)
    have G4 := Lib.hid (gb_trans hg (gb_below (r := some gp) hb4))
    clear hp hg hb4 kb
    obtain ⟨w4, hw4⟩ : ∃ w4, w4 = (w3.alloc (.cells #[.int .i64 (xk : Int), .string xt, .int .i64 xn, .int .i64 (xa : Int)] 77)) := ⟨_, rfl⟩
    rw [← hw4] at HN4 ha4 HP4 G4
    cases B
    · obtain ⟨o1, m1, n1, a1, x1, l1, c1, r1, r2, hfin⟩ := HE1.out.stop hgp hgw G4.out HP4.out
      have hres := HST.out rfl
      rw [HR.out] at hres
      have R1 := Lib.hid r1
      have R2 := Lib.hid r2
      have HF := Lib.hid hfin
      have HRS := Lib.hid hres
      have HW4 := Lib.hid hw4
      clear r1 r2 hfin hres hw4 HE1 KX HGO HST HR
      go_wp2_with (first | (rw [← HW4.out]; refine wpList_load_row rfl 54 (.tmp 9) rfl w2.heap.size rfl 54 #[.string o1, .string m1, .int .i64 n1, .int .i64 a1, .slice x1 l1 c1] (0, 0) _ R1.out Tryz.underlying54 rfl HSE.out ?_) | (refine wpList_store_row rfl 54 (.tmp 8) (.tmp 23) rfl w.heap.size #[.string o1, .string m1, .int .i64 n1, .int .i64 a1, .slice x1 l1 c1] rfl rfl 54 _ R2.out HSE.out rfl (expr_one _ _ _ _ _ _ _) ?_))
      have hset := setRow_heap w4 w.heap.size _ #[.string o1, .string m1, .int .i64 n1, .int .i64 a1, .slice x1 l1 c1] _ _ R2.out
      refine bodyPost_ret (v := .agg #[.string o1, .string m1, .int .i64 n1, .int .i64 a1, .slice x1 l1 c1]) (results_cell_row (p := 8) (ty := 54) rfl _ _ w.heap.size 54 _ (0, 0) _ rfl hset Tryz.underlying54 rfl HSE.out) rfl ?_
      rw [HRS.out]
      exact HF.out
    · obtain ⟨⟨f', hff, hR4, hl4⟩, hp4, hi4, hpR⟩ := HGO.out rfl
      obtain ⟨o1, m1, n1, a1, x1, l1, c1, hrow, hip⟩ := HE1.out.row
      have hlo := HE1.out.lo
      have hlt5 : w2.heap.size < wr.heap.size := (Array.getElem?_eq_some_iff.1 hrow).1
      have HROW4 := Lib.hid ((G4.out.block w2.heap.size hlt5 (by intro e; injection e with e; omega)).trans hrow)
      have HIP4 := Lib.hid (hip.grown G4.out (by omega))
      have hz4 := G4.out.size
      have HRES4 := Lib.hid ((G4.out.block w.heap.size (by omega) (by intro e; injection e with e; omega)).trans HE1.out.res)
      have HG4 := Lib.hid (gb_trans HE1.out.gb G4.out)
      have HRN := Lib.hid hR4
      have HW4 := Lib.hid hw4
      clear hrow hip hR4 HE1 HST HR HGO G4 hw4 hff
      go_wp2_with fail
      rw [← HW4.out]
      refine wp_region_stepsG_then (words [wIs (.agg #[.int .i64 (xk : Int), .string xt, .int .i64 xn, .int .i64 (xa : Int)]), wIs (.agg #[.string o1, .string m1, .int .i64 n1, .int .i64 a1, .slice x1 l1 c1]), wIs (.func (.func 119) #[.pointer (some ⟨gp, 0, none⟩)] #[]), wIs (.int .i64 (d : Int)), (fun v W => wEp (fun k => w.heap.size < k ∧ k ≠ w2.heap.size) t2 v W ∧ Par L W gp gw c S2), wEp (fun k => w.heap.size < k ∧ k ≠ w2.heap.size) (twoS ⟨xk, xt, xn, xa⟩ e t2)]) (fun W W' => W.grownBy W' (some gp)) (fun W => Par L W gp gw c R) 4 (by kernel_rfl) (gbt gp) (gbb gp) (fun W W' hF hb => hF.below hb) HP4.out (words_stable ?stab) ?stabr rfl rfl rfl (by kernel_rfl) (by decide) 6 _ rfl rfl ?steps ?last
      case stab =>
        intro f hf
        simp only [List.mem_cons, List.not_mem_nil, or_false] at hf
        rcases hf with rfl | rfl | rfl | rfl | rfl | rfl
        · exact stable_is _
        · exact stable_is _
        · exact stable_is _
        · exact stable_is _
        · exact fun v W W' hv hb => ⟨stable_ep _ _ v W W' hv.1 hb, hv.2.below hb⟩
        · exact stable_ep _ _
      case stabr =>
        intro i v W W' hne hv hb
        match i, hne, hv with
        | 0, _, hv => exact hv
        | 1, _, hv => exact hv
        | 2, _, hv => exact hv
        | 3, _, hv => exact hv
        | 4, hne, _ => exact absurd rfl hne
        | 5, _, hv => exact stableR_ep gp _ (by omega) _ v W W' hv hb
        | _ + 6, _, _ => trivial
      case steps =>
        refine StepsG.cons (stepG_value (by decide) rfl fun a W hp => ?_) ?_
        · have f1 : a.tmps.getD 10 undef = .pointer (some ⟨w3.heap.size, 0, none⟩) := hp.old 10 rfl
          exact ⟨wanted_none rfl, _, _, run_ldrow rfl f1 ((hp.rel.block w3.heap.size (by omega) (by intro e; injection e with e; omega)).trans HN4.out) Tryz.underlying77 rfl HSW.out, rfl, Below.refl _ _⟩
        refine StepsG.cons (stepG_value (by decide) rfl fun a W hp => ?_) ?_
        · have f1 : a.tmps.getD 9 undef = .pointer (some ⟨w2.heap.size, 0, none⟩) := hp.old 9 rfl
          exact ⟨wanted_none rfl, _, _, run_ldrow rfl f1 ((hp.rel.block w2.heap.size (by omega) (by intro e; injection e with e; omega)).trans HROW4.out) Tryz.underlying54 rfl HSE.out, rfl, Below.refl _ _⟩
        refine StepsG.cons (stepG_value (by decide) rfl fun a W hp => ⟨wanted_none rfl, _, _, run_move (.inl rfl), (hp.old 1 rfl), Below.refl _ _⟩) ?_
        refine StepsG.cons (stepG_value (by decide) rfl fun a W hp => ⟨wanted_none rfl, _, _, run_move (.inl rfl), (hp.old 2 rfl), Below.refl _ _⟩) ?_
        refine StepsG.cons (stepG_turn rfl fun a W hp hF => ?_) ?_
        · have f1 : a.tmps.getD 26 undef = (.func (.func 119) #[.pointer (some ⟨gp, 0, none⟩)] #[]) := (hp.on_ 2 rfl rfl rfl).2
          have f2 : a.tmps.getD 27 undef = .int .i64 (d : Int) := (hp.on_ 3 rfl rfl rfl).2
          refine ⟨wanted_none rfl, 119, _, run_enterv rfl f1 Tryz.call119, ?_⟩
          show Calls _ _ #[_, a.tmps.getD 27 undef] W _
          rw [f2]
          refine (KX.out W hF hpR).mono ?_
          rintro e W' ⟨o2, m2, n2, a2, x2, l2, c2, rfl, hi2, hp2, hg2⟩
          have := hp.rel.size
          exact ⟨_, rfl, ⟨⟨o2, m2, n2, a2, x2, l2, c2, rfl, hi2.toP (fun k h1 h2 => ⟨by omega, by omega⟩)⟩, hp2⟩, hg2⟩
        refine StepsG.cons (stepG_enter (by decide) rfl fun a W hp => ?_) ?_
        · have f1 : a.tmps.getD 24 undef = .agg #[.int .i64 (xk : Int), .string xt, .int .i64 xn, .int .i64 (xa : Int)] := (hp.on_ 0 rfl rfl rfl).2
          have f2 : a.tmps.getD 25 undef = .agg #[.string o1, .string m1, .int .i64 n1, .int .i64 a1, .slice x1 l1 c1] := (hp.on_ 1 rfl rfl rfl).2
          obtain ⟨⟨o2, m2, n2, a2, x2, l2, c2, f3, hi2⟩, hp2⟩ : wEp (fun k => w.heap.size < k ∧ k ≠ w2.heap.size) t2 (a.tmps.getD 28 undef) W ∧ Par L W gp gw c S2 := (hp.on_ 4 rfl rfl rfl).2
          refine ⟨wanted_none rfl, 92, _, run_enter3 rfl rfl Tryz.call92, ?_⟩
          show Calls _ _ #[a.tmps.getD 24 undef, a.tmps.getD 25 undef, a.tmps.getD 28 undef] W _
          rw [f1, f2, f3]
          have := hp.rel.size
          refine (TWO.out W (fun k hk => ⟨by omega, by omega⟩) (HIP4.out.grown hp.rel (by omega)) hi2).mono ?_
          rintro e W' ⟨o3, m3, n3, a3, x3, l3, c3, rfl, hi3, hb3⟩
          exact ⟨_, rfl, ⟨o3, m3, n3, a3, x3, l3, c3, rfl, hi3⟩, hb3⟩
        exact StepsG.nil
      case last =>
        intro a W hI
        obtain ⟨o3, m3, n3, a3, x3, l3, c3, f3, hi3⟩ : wEp (fun k => w.heap.size < k ∧ k ≠ w2.heap.size) (twoS ⟨xk, xt, xn, xa⟩ e t2) (a.tmps.getD 29 undef) W := hI.new 5 _ 29 rfl rfl rfl
        obtain ⟨_, hp3⟩ : wEp (fun k => w.heap.size < k ∧ k ≠ w2.heap.size) t2 (a.tmps.getD 28 undef) W ∧ Par L W gp gw c S2 := hI.new 4 _ 28 rfl rfl rfl
        have f4 : a.tmps.getD 9 undef = .pointer (some ⟨w2.heap.size, 0, none⟩) := hI.old 9 (by simp)
        obtain ⟨g, _, hx⟩ := hI.puts [24, 25, 26, 27, 28, 29] rfl
        have hrel := hI.rel
        have lr := (hrel.block w2.heap.size (by omega) (by intro e; injection e with e; omega)).trans HROW4.out
        have lres := (hrel.block w.heap.size (by omega) (by intro e; injection e with e; omega)).trans HRES4.out
        have hE5 := EInv.put hgp hgw hlo (gb_trans HG4.out hrel) hp3 lres lr hi3
        clear hI
        refine wpOp_of rfl (wanted_none rfl) ?_
        refine wp_store_row 54 (.tmp 9) (.tmp 29) rfl w2.heap.size #[.string o3, .string m3, .int .i64 n3, .int .i64 a3, .slice x3 l3 c3] f4 f3 54 _ lr HSE.out rfl (expr_one _ _ _ _ _ _ _) ?_
        have HE5 := Lib.hid hE5
        clear hE5 lr lres hrel hp3 hi3 f3 f4
        subst hx
        simp only [List.foldl_cons, List.foldl_nil]
        simp only [Exit.inBlock, Exit.then]
        refine ⟨⟨_, _, _, _, _, _, _, _, _, _, _, _, _, _, _, _, _, ⟨f', _, S2, HRN.out, hl4, hp4, HE5.out⟩, rfl⟩, ?_⟩
        rw [leftOf_par HE5.out.par, HLF.out]
        have := HE5.out.par.lt
        omega
end Go.Proofs.YtjlnihennlkmpaaGreatDoor

namespace Go.Proofs.YtjlnihennlkmpaaGreatDoor
open Go Go.RowKit
set_option maxHeartbeats 4000000 in
set_option maxRecDepth 100000 in
theorem and_any (L : List Wd) (hG : Good L) (d : Nat) (hd : d < 1000) (w : World) (gp gw c : Nat) (st : St) (h : Par L w gp gw c st) (hE : GoodE L) (hpp : Ok L st) (one : St → Ex × St) (hm : Mono L one)
    (hx : ∀ W S, Par L W gp gw c S → Ok L S → Calls Tryz.prog 119 #[.pointer (some ⟨gp, 0, none⟩), .int .i64 (d : Int)] W (GivesX L gp gw c (one S).1 (one S).2 W)) :
    Calls Tryz.prog 109 #[.pointer (some ⟨gp, 0, none⟩), .int .i64 (d : Int)] w (GivesX L gp gw c (rowS L one [bs [97, 110, 100]] st).1 (rowS L one [bs [97, 110, 100]] st).2 w) := by
  have hb1 : Below w.heap.size w (w.alloc (.cells #[.string ⟨#[]⟩, .string ⟨#[]⟩, .int .i64 0, .int .i64 0, .slice none 0 0] 54)) := (Below.refl _ _).alloc (Nat.le_refl _) _
  have hn1 := heap_alloc_new w (.cells #[.string ⟨#[]⟩, .string ⟨#[]⟩, .int .i64 0, .int .i64 0, .slice none 0 0] 54)
  have hs1 : (w.alloc (.cells #[.string ⟨#[]⟩, .string ⟨#[]⟩, .int .i64 0, .int .i64 0, .slice none 0 0] 54)).heap.size = w.heap.size + 1 := by simp
  have hb2 : Below (w.alloc (.cells #[.string ⟨#[]⟩, .string ⟨#[]⟩, .int .i64 0, .int .i64 0, .slice none 0 0] 54)).heap.size (w.alloc (.cells #[.string ⟨#[]⟩, .string ⟨#[]⟩, .int .i64 0, .int .i64 0, .slice none 0 0] 54)) ((w.alloc (.cells #[.string ⟨#[]⟩, .string ⟨#[]⟩, .int .i64 0, .int .i64 0, .slice none 0 0] 54)).alloc (.cells #[.string ⟨#[97, 110, 100]⟩] 9)) := (Below.refl _ _).alloc (Nat.le_refl _) _
  have hn2 := heap_alloc_new (w.alloc (.cells #[.string ⟨#[]⟩, .string ⟨#[]⟩, .int .i64 0, .int .i64 0, .slice none 0 0] 54)) (.cells #[.string ⟨#[97, 110, 100]⟩] 9)
  have hs2 : ((w.alloc (.cells #[.string ⟨#[]⟩, .string ⟨#[]⟩, .int .i64 0, .int .i64 0, .slice none 0 0] 54)).alloc (.cells #[.string ⟨#[97, 110, 100]⟩] 9)).heap.size = w.heap.size + 2 := by simp
  rw [hs1] at hn2
  have h2 := (h.below hb1).below hb2
  have hgp := h.gpl
  have hgw := h.gwl
  have kr : Calls Tryz.prog 108 #[.pointer (some ⟨gp, 0, none⟩), (.func (.func 119) #[.pointer (some ⟨gp, 0, none⟩)] #[]), .int .i64 (d : Int), .slice (some ⟨w.heap.size + 1, 0, none⟩) 1 1] ((w.alloc (.cells #[.string ⟨#[]⟩, .string ⟨#[]⟩, .int .i64 0, .int .i64 0, .slice none 0 0] 54)).alloc (.cells #[.string ⟨#[97, 110, 100]⟩] 9)) (GivesX L gp gw c (rowS L one [bs [97, 110, 100]] st).1 (rowS L one [bs [97, 110, 100]] st).2 ((w.alloc (.cells #[.string ⟨#[]⟩, .string ⟨#[]⟩, .int .i64 0, .int .i64 0, .slice none 0 0] 54)).alloc (.cells #[.string ⟨#[97, 110, 100]⟩] 9))) := row_cmp_any L hG d hd ((w.alloc (.cells #[.string ⟨#[]⟩, .string ⟨#[]⟩, .int .i64 0, .int .i64 0, .slice none 0 0] 54)).alloc (.cells #[.string ⟨#[97, 110, 100]⟩] 9)) gp gw c st h2 hE hpp one hm [bs [97, 110, 100]] (w.heap.size + 1) 0 1 (by omega) (by omega) (by
      intro j hj
      simp only [World.cell?, hn2]
      match j, hj with
      | 0, _ => rfl
      | _ + 1, hj => exact absurd hj (Nat.not_lt.2 (Nat.le_add_left _ _))) (by decide) (by simp [bs]) hx
  obtain ⟨RR, hRR⟩ : ∃ R, R = rowS L one [bs [97, 110, 100]] st := ⟨_, rfl⟩
  rw [← hRR] at kr ⊢
  have G2 := Lib.hid (gb_trans (gb_below (r := some gp) hb1) (gb_below hb2))
  have N1 := Lib.hid ((hb2.block w.heap.size (by omega)).trans hn1)
  have HSE := Lib.hid size_expr
  clear hx hb1 hn1 hb2 hn2 h h2 hRR hm hpp hE hG
  go_enter Tryz.func109, Tryz.ntmps109
  go_wp2_with fail
  (with_reducible refine kr.mono ?_)
  rintro e w3 ⟨o3, m3, n3, a3, x3, l3, c3, rfl, hi, hp, hg⟩
  unfold exV
  have hs3 : w.heap.size + 2 ≤ w3.heap.size := by rw [← hs2]; exact hg.size
  have LR := Lib.hid ((hg.block w.heap.size (by omega) (by intro e; injection e with e; omega)).trans N1.out)
  have g0 := Lib.hid (gb_trans G2.out hg)
  have HP := Lib.hid hp
  have HI := Lib.hid hi
  clear hi hp hg kr
  go_wp2_with (refine wpList_store_row rfl 54 (.tmp 4) (.tmp 10) rfl w.heap.size #[.string o3, .string m3, .int .i64 n3, .int .i64 a3, .slice x3 l3 c3] rfl rfl 54 _ LR.out HSE.out rfl (expr_one _ _ _ _ _ _ _) ?_)
  have hset := setRow_heap w3 w.heap.size _ #[.string o3, .string m3, .int .i64 n3, .int .i64 a3, .slice x3 l3 c3] _ _ LR.out
  refine bodyPost_ret (v := .agg #[.string o3, .string m3, .int .i64 n3, .int .i64 a3, .slice x3 l3 c3]) (results_cell_row (p := 4) (ty := 54) rfl _ _ w.heap.size 54 _ (0, 0) _ rfl hset Tryz.underlying54 rfl HSE.out) rfl ⟨o3, m3, n3, a3, x3, l3, c3, rfl, ?_, HP.out.keep (setRow_other w3 w.heap.size gp _ (by omega)) (setRow_other w3 w.heap.size gw _ (by omega)) (by rw [setRow_size]; exact Nat.le_refl _), gb_setRow g0.out _ (Nat.le_refl _) _⟩
  exact IsE.mono (B := w.heap.size + 2) (by omega) _ (hs2 ▸ HI.out.keep (by rw [setRow_size]; exact Nat.le_refl _) (fun k h2 h3 => setRow_other w3 w.heap.size k _ (by omega)))
end Go.Proofs.YtjlnihennlkmpaaGreatDoor

namespace Go.Proofs.YtjlnihennlkmpaaGreatDoor
open Go Go.RowKit
set_option maxHeartbeats 4000000 in
set_option maxRecDepth 100000 in
theorem row_mul_any (L : List Wd) (hG : Good L) (d : Nat) (hd : d < 1000) (w : World) (gp gw c : Nat) (st : St) (h : Par L w gp gw c st) (hE : GoodE L) (hpp : Ok L st) (one : St → Ex × St) (hm : Mono L one) (ops : List ByteArray) (b o cp : Nat) (hb : b < w.heap.size) (hbn : b ≠ gp) (hs : StrsAt w b o ops) (hn : ops.length < 1000) (hne : ∀ o ∈ ops, o.data.toList ≠ [])
    (hx : ∀ W S, Par L W gp gw c S → Ok L S → Calls Tryz.prog 123 #[.pointer (some ⟨gp, 0, none⟩), .int .i64 (d : Int)] W (GivesX L gp gw c (one S).1 (one S).2 W)) :
    Calls Tryz.prog 108 #[.pointer (some ⟨gp, 0, none⟩), (.func (.func 123) #[.pointer (some ⟨gp, 0, none⟩)] #[]), .int .i64 (d : Int), .slice (some ⟨b, o, none⟩) ops.length cp] w (GivesX L gp gw c (rowS L one ops st).1 (rowS L one ops st).2 w) := by
  have hb1 : Below w.heap.size w (w.alloc (.cells #[.string ⟨#[]⟩, .string ⟨#[]⟩, .int .i64 0, .int .i64 0, .slice none 0 0] 54)) := (Below.refl _ _).alloc (Nat.le_refl _) _
  have hn1 := heap_alloc_new w (.cells #[.string ⟨#[]⟩, .string ⟨#[]⟩, .int .i64 0, .int .i64 0, .slice none 0 0] 54)
  have h1 := h.below hb1
  have hgp := h.gpl
  have hgw := h.gwl
  have hs1 : (w.alloc (.cells #[.string ⟨#[]⟩, .string ⟨#[]⟩, .int .i64 0, .int .i64 0, .slice none 0 0] 54)).heap.size = w.heap.size + 1 := by simp
  have kx := hx _ st h1 hpp
  have hmo := hm st h.lt hpp
  obtain ⟨RR, hRR⟩ : ∃ R, R = rowS L one ops st := ⟨_, rfl⟩
  rw [← hRR]
  unfold rowS at hRR
  obtain ⟨t, ht⟩ : ∃ t, t = (one st).1 := ⟨_, rfl⟩
  obtain ⟨S1, hS1⟩ : ∃ t, t = (one st).2 := ⟨_, rfl⟩
  rw [← ht, ← hS1] at hRR kx
  rw [← hS1] at hmo
  have hpp1 := hmo.2.2
  have HRR := Lib.hid hRR
  have HB1 := Lib.hid (gb_below (r := some gp) hb1)
  have HN1 := Lib.hid hn1
  have HSE := Lib.hid size_expr
  have HSW := Lib.hid size_word2
  have HE := Lib.hid hE
  have HL := Lib.hid hG
  have HX := Lib.hid hx
  have HS := Lib.hid hs
  have HNE := Lib.hid hne
  have HMO := Lib.hid hm
  obtain ⟨nl, hnl⟩ : ∃ n, n = ops.length := ⟨_, rfl⟩
  rw [← hnl]
  have HNL := Lib.hid hnl
  have hn' := Lib.hid hn
  clear hx hb1 hn1 h1 hRR hE hG ht hS1 hmo hs hne hm hnl hn
  go_enter Tryz.func108, Tryz.ntmps108
  go_wp2_with fail
  (with_reducible refine kx.mono ?_)
  rintro e w2 ⟨o1, m1, n1, a1, x1, l1, c1, rfl, hi, hp, hg⟩
  unfold exV
  have E0 := Lib.hid (EInv.start hgp HB1.out hs1 HN1.out hp hg hi)
  have hlen : S1.i < L.length := hp.lt
  clear hi hp hg kx HB1 HN1 hs1 h
  go_wp2_with fail
  go_loopw [] (fun wr => ∃ (f : Nat) (e : Ex) (S : St), rowL L one ops f e S = RR ∧ L.length ≤ f + S.i ∧ Ok L S ∧ EInv L w gp gw c w2.heap.size wr e S)
    (fun wr => leftOf gp wr)
  case atStart => exact ⟨L.length, t, S1, HRR.out.symm, by omega, hpp1, E0.out⟩
  case round =>
    obtain ⟨f, e, S, hR, hf, hps, hE1⟩ := hrel
    have hlt := hE1.par.lt
    have hfew := HE.out.few
    have hgo := between_go HE.out (ops := ops) HNE.out hlt
    have hstr := HS.out.grown hE1.gb hb hbn
    have hbr : b < wr.heap.size := Nat.lt_of_lt_of_le hb hE1.gb.size
    have kb := between_any L HL.out wr gp gw c S hE1.par (by have := hps.1; omega) b o cp ops hbr hstr hn'.out
    rw [← HNL.out] at kb
    have hstop := rowL_stop L HE.out one ops HNE.out f e S hlt
    have hleft := leftOf_par hE1.par
    have hgo2 : (betweenS L ops S).2.1 = true → (∃ f', f = f' + 1 ∧ rowL L one ops f' (twoS (betweenS L ops S).1 e (one (betweenS L ops S).2.2).1) (one (betweenS L ops S).2.2).2 = RR ∧ L.length ≤ f' + (one (betweenS L ops S).2.2).2.i) ∧ Ok L (one (betweenS L ops S).2.2).2 ∧ S.i < (one (betweenS L ops S).2.2).2.i ∧ Ok L (betweenS L ops S).2.2 := fun hb => by
      obtain ⟨f', rfl⟩ : ∃ f', f = f' + 1 := ⟨f - 1, by omega⟩
      have h1 := hgo.1 hb
      have hOk := (between_ok HE.out HNE.out hlt hps).1
      have h2 := HMO.out (betweenS L ops S).2.2 hgo.2.2 hOk
      exact ⟨⟨f', rfl, by rw [← hR]; exact (rowL_go L one ops f' e S hb).symm, by omega⟩, h2.2.2, by omega, hOk⟩
    obtain ⟨y, hy⟩ : ∃ y, y = (betweenS L ops S).1 := ⟨_, rfl⟩
    obtain ⟨B, hB⟩ : ∃ B, B = (betweenS L ops S).2.1 := ⟨_, rfl⟩
    obtain ⟨R, hR2⟩ : ∃ R, R = (betweenS L ops S).2.2 := ⟨_, rfl⟩
    rw [← hy, ← hB, ← hR2] at kb hgo2
    rw [← hB, ← hR2] at hstop
    have kx2 := fun W (hp : Par L W gp gw c R) (h : Ok L R) => HX.out W R hp h
    obtain ⟨t2, ht2⟩ : ∃ t, t = (one R).1 := ⟨_, rfl⟩
    obtain ⟨S2, hS2⟩ : ∃ t, t = (one R).2 := ⟨_, rfl⟩
    rw [← ht2, ← hS2] at kx2 hgo2
    obtain ⟨xk, xt, xn, xa⟩ := y
    unfold GivesB Wd.cells at kb
    have two_ := fun (W : World) (hw : ∀ k, W.heap.size ≤ k → w.heap.size < k ∧ k ≠ w2.heap.size) {o1 m1 : ByteArray} {n1 a1 : Int} {x1 : Option Addr} {l1 c1 : Nat} {o2 m2 : ByteArray} {n2 a2 : Int} {x2 : Option Addr} {l2 c2 : Nat} h1 h2 => twoP_any (fun k => w.heap.size < k ∧ k ≠ w2.heap.size) ⟨xk, xt, xn, xa⟩ e t2 W hw o1 m1 n1 a1 x1 l1 c1 o2 m2 n2 a2 x2 l2 c2 h1 h2
    have TWO := Lib.hid two_
    have KX := Lib.hid kx2
    have HGO := Lib.hid hgo2
    have HST := Lib.hid hstop
    have HR := Lib.hid hR
    have HE1 := Lib.hid hE1
    have HLF := Lib.hid hleft
    clear two_ kx2 hgo2 hstop hR hE1 hy hB hR2 ht2 hS2 hgo E0 hf hps HRR HE HL hleft hstr HX HS HMO
    go_wp2_with fail
    (with_reducible refine kb.mono ?_)
    rintro e3 w3 ⟨rfl, hp, hg⟩
    have hs3' : wr.heap.size ≤ w3.heap.size := hg.size
    have hb4 : Below w3.heap.size w3 (w3.alloc (.cells #[.int .i64 (xk : Int), .string xt, .int .i64 xn, .int .i64 (xa : Int)] 77)) := (Below.refl _ _).alloc (Nat.le_refl _) _
    have HN4 := Lib.hid (heap_alloc_new w3 (.cells #[.int .i64 (xk : Int), .string xt, .int .i64 xn, .int .i64 (xa : Int)] 77))
    have ha4 : (w3.alloc (.cells #[.int .i64 (xk : Int), .string xt, .int .i64 xn, .int .i64 (xa : Int)] 77)).heap.size = w3.heap.size + 1 := by simp
    have HP4 := Lib.hid (hp.below hb4)
    have G4 := Lib.hid (gb_trans hg (gb_below (r := some gp) hb4))
    clear hp hg hb4 kb
    obtain ⟨w4, hw4⟩ : ∃ w4, w4 = (w3.alloc (.cells #[.int .i64 (xk : Int), .string xt, .int .i64 xn, .int .i64 (xa : Int)] 77)) := ⟨_, rfl⟩
    rw [← hw4] at HN4 ha4 HP4 G4
    cases B
    · obtain ⟨o1, m1, n1, a1, x1, l1, c1, r1, r2, hfin⟩ := HE1.out.stop hgp hgw G4.out HP4.out
      have hres := HST.out rfl
      rw [HR.out] at hres
      have R1 := Lib.hid r1
      have R2 := Lib.hid r2
      have HF := Lib.hid hfin
      have HRS := Lib.hid hres
      have HW4 := Lib.hid hw4
      clear r1 r2 hfin hres hw4 HE1 KX HGO HST HR
      go_wp2_with (first | (rw [← HW4.out]; refine wpList_load_row rfl 54 (.tmp 9) rfl w2.heap.size rfl 54 #[.string o1, .string m1, .int .i64 n1, .int .i64 a1, .slice x1 l1 c1] (0, 0) _ R1.out Tryz.underlying54 rfl HSE.out ?_) | (refine wpList_store_row rfl 54 (.tmp 8) (.tmp 23) rfl w.heap.size #[.string o1, .string m1, .int .i64 n1, .int .i64 a1, .slice x1 l1 c1] rfl rfl 54 _ R2.out HSE.out rfl (expr_one _ _ _ _ _ _ _) ?_))
      have hset := setRow_heap w4 w.heap.size _ #[.string o1, .string m1, .int .i64 n1, .int .i64 a1, .slice x1 l1 c1] _ _ R2.out
      refine bodyPost_ret (v := .agg #[.string o1, .string m1, .int .i64 n1, .int .i64 a1, .slice x1 l1 c1]) (results_cell_row (p := 8) (ty := 54) rfl _ _ w.heap.size 54 _ (0, 0) _ rfl hset Tryz.underlying54 rfl HSE.out) rfl ?_
      rw [HRS.out]
      exact HF.out
    · obtain ⟨⟨f', hff, hR4, hl4⟩, hp4, hi4, hpR⟩ := HGO.out rfl
      obtain ⟨o1, m1, n1, a1, x1, l1, c1, hrow, hip⟩ := HE1.out.row
      have hlo := HE1.out.lo
      have hlt5 : w2.heap.size < wr.heap.size := (Array.getElem?_eq_some_iff.1 hrow).1
      have HROW4 := Lib.hid ((G4.out.block w2.heap.size hlt5 (by intro e; injection e with e; omega)).trans hrow)
      have HIP4 := Lib.hid (hip.grown G4.out (by omega))
      have hz4 := G4.out.size
      have HRES4 := Lib.hid ((G4.out.block w.heap.size (by omega) (by intro e; injection e with e; omega)).trans HE1.out.res)
      have HG4 := Lib.hid (gb_trans HE1.out.gb G4.out)
      have HRN := Lib.hid hR4
      have HW4 := Lib.hid hw4
      clear hrow hip hR4 HE1 HST HR HGO G4 hw4 hff
      go_wp2_with fail
      rw [← HW4.out]
      refine wp_region_stepsG_then (words [wIs (.agg #[.int .i64 (xk : Int), .string xt, .int .i64 xn, .int .i64 (xa : Int)]), wIs (.agg #[.string o1, .string m1, .int .i64 n1, .int .i64 a1, .slice x1 l1 c1]), wIs (.func (.func 123) #[.pointer (some ⟨gp, 0, none⟩)] #[]), wIs (.int .i64 (d : Int)), (fun v W => wEp (fun k => w.heap.size < k ∧ k ≠ w2.heap.size) t2 v W ∧ Par L W gp gw c S2), wEp (fun k => w.heap.size < k ∧ k ≠ w2.heap.size) (twoS ⟨xk, xt, xn, xa⟩ e t2)]) (fun W W' => W.grownBy W' (some gp)) (fun W => Par L W gp gw c R) 4 (by kernel_rfl) (gbt gp) (gbb gp) (fun W W' hF hb => hF.below hb) HP4.out (words_stable ?stab) ?stabr rfl rfl rfl (by kernel_rfl) (by decide) 6 _ rfl rfl ?steps ?last
      case stab =>
        intro f hf
        simp only [List.mem_cons, List.not_mem_nil, or_false] at hf
        rcases hf with rfl | rfl | rfl | rfl | rfl | rfl
        · exact stable_is _
        · exact stable_is _
        · exact stable_is _
        · exact stable_is _
        · exact fun v W W' hv hb => ⟨stable_ep _ _ v W W' hv.1 hb, hv.2.below hb⟩
        · exact stable_ep _ _
      case stabr =>
        intro i v W W' hne hv hb
        match i, hne, hv with
        | 0, _, hv => exact hv
        | 1, _, hv => exact hv
        | 2, _, hv => exact hv
        | 3, _, hv => exact hv
        | 4, hne, _ => exact absurd rfl hne
        | 5, _, hv => exact stableR_ep gp _ (by omega) _ v W W' hv hb
        | _ + 6, _, _ => trivial
      case steps =>
        refine StepsG.cons (stepG_value (by decide) rfl fun a W hp => ?_) ?_
        · have f1 : a.tmps.getD 10 undef = .pointer (some ⟨w3.heap.size, 0, none⟩) := hp.old 10 rfl
          exact ⟨wanted_none rfl, _, _, run_ldrow rfl f1 ((hp.rel.block w3.heap.size (by omega) (by intro e; injection e with e; omega)).trans HN4.out) Tryz.underlying77 rfl HSW.out, rfl, Below.refl _ _⟩
        refine StepsG.cons (stepG_value (by decide) rfl fun a W hp => ?_) ?_
        · have f1 : a.tmps.getD 9 undef = .pointer (some ⟨w2.heap.size, 0, none⟩) := hp.old 9 rfl
          exact ⟨wanted_none rfl, _, _, run_ldrow rfl f1 ((hp.rel.block w2.heap.size (by omega) (by intro e; injection e with e; omega)).trans HROW4.out) Tryz.underlying54 rfl HSE.out, rfl, Below.refl _ _⟩
        refine StepsG.cons (stepG_value (by decide) rfl fun a W hp => ⟨wanted_none rfl, _, _, run_move (.inl rfl), (hp.old 1 rfl), Below.refl _ _⟩) ?_
        refine StepsG.cons (stepG_value (by decide) rfl fun a W hp => ⟨wanted_none rfl, _, _, run_move (.inl rfl), (hp.old 2 rfl), Below.refl _ _⟩) ?_
        refine StepsG.cons (stepG_turn rfl fun a W hp hF => ?_) ?_
        · have f1 : a.tmps.getD 26 undef = (.func (.func 123) #[.pointer (some ⟨gp, 0, none⟩)] #[]) := (hp.on_ 2 rfl rfl rfl).2
          have f2 : a.tmps.getD 27 undef = .int .i64 (d : Int) := (hp.on_ 3 rfl rfl rfl).2
          refine ⟨wanted_none rfl, 123, _, run_enterv rfl f1 Tryz.call123, ?_⟩
          show Calls _ _ #[_, a.tmps.getD 27 undef] W _
          rw [f2]
          refine (KX.out W hF hpR).mono ?_
          rintro e W' ⟨o2, m2, n2, a2, x2, l2, c2, rfl, hi2, hp2, hg2⟩
          have := hp.rel.size
          exact ⟨_, rfl, ⟨⟨o2, m2, n2, a2, x2, l2, c2, rfl, hi2.toP (fun k h1 h2 => ⟨by omega, by omega⟩)⟩, hp2⟩, hg2⟩
        refine StepsG.cons (stepG_enter (by decide) rfl fun a W hp => ?_) ?_
        · have f1 : a.tmps.getD 24 undef = .agg #[.int .i64 (xk : Int), .string xt, .int .i64 xn, .int .i64 (xa : Int)] := (hp.on_ 0 rfl rfl rfl).2
          have f2 : a.tmps.getD 25 undef = .agg #[.string o1, .string m1, .int .i64 n1, .int .i64 a1, .slice x1 l1 c1] := (hp.on_ 1 rfl rfl rfl).2
          obtain ⟨⟨o2, m2, n2, a2, x2, l2, c2, f3, hi2⟩, hp2⟩ : wEp (fun k => w.heap.size < k ∧ k ≠ w2.heap.size) t2 (a.tmps.getD 28 undef) W ∧ Par L W gp gw c S2 := (hp.on_ 4 rfl rfl rfl).2
          refine ⟨wanted_none rfl, 92, _, run_enter3 rfl rfl Tryz.call92, ?_⟩
          show Calls _ _ #[a.tmps.getD 24 undef, a.tmps.getD 25 undef, a.tmps.getD 28 undef] W _
          rw [f1, f2, f3]
          have := hp.rel.size
          refine (TWO.out W (fun k hk => ⟨by omega, by omega⟩) (HIP4.out.grown hp.rel (by omega)) hi2).mono ?_
          rintro e W' ⟨o3, m3, n3, a3, x3, l3, c3, rfl, hi3, hb3⟩
          exact ⟨_, rfl, ⟨o3, m3, n3, a3, x3, l3, c3, rfl, hi3⟩, hb3⟩
        exact StepsG.nil
      case last =>
        intro a W hI
        obtain ⟨o3, m3, n3, a3, x3, l3, c3, f3, hi3⟩ : wEp (fun k => w.heap.size < k ∧ k ≠ w2.heap.size) (twoS ⟨xk, xt, xn, xa⟩ e t2) (a.tmps.getD 29 undef) W := hI.new 5 _ 29 rfl rfl rfl
        obtain ⟨_, hp3⟩ : wEp (fun k => w.heap.size < k ∧ k ≠ w2.heap.size) t2 (a.tmps.getD 28 undef) W ∧ Par L W gp gw c S2 := hI.new 4 _ 28 rfl rfl rfl
        have f4 : a.tmps.getD 9 undef = .pointer (some ⟨w2.heap.size, 0, none⟩) := hI.old 9 (by simp)
        obtain ⟨g, _, hx⟩ := hI.puts [24, 25, 26, 27, 28, 29] rfl
        have hrel := hI.rel
        have lr := (hrel.block w2.heap.size (by omega) (by intro e; injection e with e; omega)).trans HROW4.out
        have lres := (hrel.block w.heap.size (by omega) (by intro e; injection e with e; omega)).trans HRES4.out
        have hE5 := EInv.put hgp hgw hlo (gb_trans HG4.out hrel) hp3 lres lr hi3
        clear hI
        refine wpOp_of rfl (wanted_none rfl) ?_
        refine wp_store_row 54 (.tmp 9) (.tmp 29) rfl w2.heap.size #[.string o3, .string m3, .int .i64 n3, .int .i64 a3, .slice x3 l3 c3] f4 f3 54 _ lr HSE.out rfl (expr_one _ _ _ _ _ _ _) ?_
        have HE5 := Lib.hid hE5
        clear hE5 lr lres hrel hp3 hi3 f3 f4
        subst hx
        simp only [List.foldl_cons, List.foldl_nil]
        simp only [Exit.inBlock, Exit.then]
        refine ⟨⟨_, _, _, _, _, _, _, _, _, _, _, _, _, _, _, _, _, ⟨f', _, S2, HRN.out, hl4, hp4, HE5.out⟩, rfl⟩, ?_⟩
        rw [leftOf_par HE5.out.par, HLF.out]
        have := HE5.out.par.lt
        omega
end Go.Proofs.YtjlnihennlkmpaaGreatDoor

namespace Go.Proofs.YtjlnihennlkmpaaGreatDoor
open Go Go.RowKit
set_option maxHeartbeats 4000000 in
set_option maxRecDepth 100000 in
theorem add_any (L : List Wd) (hG : Good L) (d : Nat) (hd : d < 1000) (w : World) (gp gw c : Nat) (st : St) (h : Par L w gp gw c st) (hE : GoodE L) (hpp : Ok L st) (one : St → Ex × St) (hm : Mono L one)
    (hx : ∀ W S, Par L W gp gw c S → Ok L S → Calls Tryz.prog 123 #[.pointer (some ⟨gp, 0, none⟩), .int .i64 (d : Int)] W (GivesX L gp gw c (one S).1 (one S).2 W)) :
    Calls Tryz.prog 122 #[.pointer (some ⟨gp, 0, none⟩), .int .i64 (d : Int)] w (GivesX L gp gw c (rowS L one [bs [43], bs [45]] st).1 (rowS L one [bs [43], bs [45]] st).2 w) := by
  have hb1 : Below w.heap.size w (w.alloc (.cells #[.string ⟨#[]⟩, .string ⟨#[]⟩, .int .i64 0, .int .i64 0, .slice none 0 0] 54)) := (Below.refl _ _).alloc (Nat.le_refl _) _
  have hn1 := heap_alloc_new w (.cells #[.string ⟨#[]⟩, .string ⟨#[]⟩, .int .i64 0, .int .i64 0, .slice none 0 0] 54)
  have hs1 : (w.alloc (.cells #[.string ⟨#[]⟩, .string ⟨#[]⟩, .int .i64 0, .int .i64 0, .slice none 0 0] 54)).heap.size = w.heap.size + 1 := by simp
  have hb2 : Below (w.alloc (.cells #[.string ⟨#[]⟩, .string ⟨#[]⟩, .int .i64 0, .int .i64 0, .slice none 0 0] 54)).heap.size (w.alloc (.cells #[.string ⟨#[]⟩, .string ⟨#[]⟩, .int .i64 0, .int .i64 0, .slice none 0 0] 54)) ((w.alloc (.cells #[.string ⟨#[]⟩, .string ⟨#[]⟩, .int .i64 0, .int .i64 0, .slice none 0 0] 54)).alloc (.cells #[.string ⟨#[43]⟩, .string ⟨#[45]⟩] 9)) := (Below.refl _ _).alloc (Nat.le_refl _) _
  have hn2 := heap_alloc_new (w.alloc (.cells #[.string ⟨#[]⟩, .string ⟨#[]⟩, .int .i64 0, .int .i64 0, .slice none 0 0] 54)) (.cells #[.string ⟨#[43]⟩, .string ⟨#[45]⟩] 9)
  have hs2 : ((w.alloc (.cells #[.string ⟨#[]⟩, .string ⟨#[]⟩, .int .i64 0, .int .i64 0, .slice none 0 0] 54)).alloc (.cells #[.string ⟨#[43]⟩, .string ⟨#[45]⟩] 9)).heap.size = w.heap.size + 2 := by simp
  rw [hs1] at hn2
  have h2 := (h.below hb1).below hb2
  have hgp := h.gpl
  have hgw := h.gwl
  have kr : Calls Tryz.prog 108 #[.pointer (some ⟨gp, 0, none⟩), (.func (.func 123) #[.pointer (some ⟨gp, 0, none⟩)] #[]), .int .i64 (d : Int), .slice (some ⟨w.heap.size + 1, 0, none⟩) 2 2] ((w.alloc (.cells #[.string ⟨#[]⟩, .string ⟨#[]⟩, .int .i64 0, .int .i64 0, .slice none 0 0] 54)).alloc (.cells #[.string ⟨#[43]⟩, .string ⟨#[45]⟩] 9)) (GivesX L gp gw c (rowS L one [bs [43], bs [45]] st).1 (rowS L one [bs [43], bs [45]] st).2 ((w.alloc (.cells #[.string ⟨#[]⟩, .string ⟨#[]⟩, .int .i64 0, .int .i64 0, .slice none 0 0] 54)).alloc (.cells #[.string ⟨#[43]⟩, .string ⟨#[45]⟩] 9))) := row_mul_any L hG d hd ((w.alloc (.cells #[.string ⟨#[]⟩, .string ⟨#[]⟩, .int .i64 0, .int .i64 0, .slice none 0 0] 54)).alloc (.cells #[.string ⟨#[43]⟩, .string ⟨#[45]⟩] 9)) gp gw c st h2 hE hpp one hm [bs [43], bs [45]] (w.heap.size + 1) 0 2 (by omega) (by omega) (by
      intro j hj
      simp only [World.cell?, hn2]
      match j, hj with
      | 0, _ => rfl
      | 1, _ => rfl
      | _ + 2, hj => exact absurd hj (Nat.not_lt.2 (Nat.le_add_left _ _))) (by decide) (by simp [bs]) hx
  obtain ⟨RR, hRR⟩ : ∃ R, R = rowS L one [bs [43], bs [45]] st := ⟨_, rfl⟩
  rw [← hRR] at kr ⊢
  have G2 := Lib.hid (gb_trans (gb_below (r := some gp) hb1) (gb_below hb2))
  have N1 := Lib.hid ((hb2.block w.heap.size (by omega)).trans hn1)
  have HSE := Lib.hid size_expr
  clear hx hb1 hn1 hb2 hn2 h h2 hRR hm hpp hE hG
  go_enter Tryz.func122, Tryz.ntmps122
  go_wp2_with fail
  (with_reducible refine kr.mono ?_)
  rintro e w3 ⟨o3, m3, n3, a3, x3, l3, c3, rfl, hi, hp, hg⟩
  unfold exV
  have hs3 : w.heap.size + 2 ≤ w3.heap.size := by rw [← hs2]; exact hg.size
  have LR := Lib.hid ((hg.block w.heap.size (by omega) (by intro e; injection e with e; omega)).trans N1.out)
  have g0 := Lib.hid (gb_trans G2.out hg)
  have HP := Lib.hid hp
  have HI := Lib.hid hi
  clear hi hp hg kr
  go_wp2_with (refine wpList_store_row rfl 54 (.tmp 4) (.tmp 10) rfl w.heap.size #[.string o3, .string m3, .int .i64 n3, .int .i64 a3, .slice x3 l3 c3] rfl rfl 54 _ LR.out HSE.out rfl (expr_one _ _ _ _ _ _ _) ?_)
  have hset := setRow_heap w3 w.heap.size _ #[.string o3, .string m3, .int .i64 n3, .int .i64 a3, .slice x3 l3 c3] _ _ LR.out
  refine bodyPost_ret (v := .agg #[.string o3, .string m3, .int .i64 n3, .int .i64 a3, .slice x3 l3 c3]) (results_cell_row (p := 4) (ty := 54) rfl _ _ w.heap.size 54 _ (0, 0) _ rfl hset Tryz.underlying54 rfl HSE.out) rfl ⟨o3, m3, n3, a3, x3, l3, c3, rfl, ?_, HP.out.keep (setRow_other w3 w.heap.size gp _ (by omega)) (setRow_other w3 w.heap.size gw _ (by omega)) (by rw [setRow_size]; exact Nat.le_refl _), gb_setRow g0.out _ (Nat.le_refl _) _⟩
  exact IsE.mono (B := w.heap.size + 2) (by omega) _ (hs2 ▸ HI.out.keep (by rw [setRow_size]; exact Nat.le_refl _) (fun k h2 h3 => setRow_other w3 w.heap.size k _ (by omega)))
end Go.Proofs.YtjlnihennlkmpaaGreatDoor

namespace Go.Proofs.YtjlnihennlkmpaaGreatDoor
open Go Go.RowKit
set_option maxHeartbeats 4000000 in
set_option maxRecDepth 100000 in
theorem row_fby_any (L : List Wd) (hG : Good L) (d : Nat) (hd : d < 1000) (w : World) (gp gw c : Nat) (st : St) (h : Par L w gp gw c st) (hE : GoodE L) (hpp : Ok L st) (one : St → Ex × St) (hm : Mono L one) (ops : List ByteArray) (b o cp : Nat) (hb : b < w.heap.size) (hbn : b ≠ gp) (hs : StrsAt w b o ops) (hn : ops.length < 1000) (hne : ∀ o ∈ ops, o.data.toList ≠ [])
    (hx : ∀ W S, Par L W gp gw c S → Ok L S → Calls Tryz.prog 124 #[.pointer (some ⟨gp, 0, none⟩), .int .i64 (d : Int)] W (GivesX L gp gw c (one S).1 (one S).2 W)) :
    Calls Tryz.prog 108 #[.pointer (some ⟨gp, 0, none⟩), (.func (.func 124) #[.pointer (some ⟨gp, 0, none⟩)] #[]), .int .i64 (d : Int), .slice (some ⟨b, o, none⟩) ops.length cp] w (GivesX L gp gw c (rowS L one ops st).1 (rowS L one ops st).2 w) := by
  have hb1 : Below w.heap.size w (w.alloc (.cells #[.string ⟨#[]⟩, .string ⟨#[]⟩, .int .i64 0, .int .i64 0, .slice none 0 0] 54)) := (Below.refl _ _).alloc (Nat.le_refl _) _
  have hn1 := heap_alloc_new w (.cells #[.string ⟨#[]⟩, .string ⟨#[]⟩, .int .i64 0, .int .i64 0, .slice none 0 0] 54)
  have h1 := h.below hb1
  have hgp := h.gpl
  have hgw := h.gwl
  have hs1 : (w.alloc (.cells #[.string ⟨#[]⟩, .string ⟨#[]⟩, .int .i64 0, .int .i64 0, .slice none 0 0] 54)).heap.size = w.heap.size + 1 := by simp
  have kx := hx _ st h1 hpp
  have hmo := hm st h.lt hpp
  obtain ⟨RR, hRR⟩ : ∃ R, R = rowS L one ops st := ⟨_, rfl⟩
  rw [← hRR]
  unfold rowS at hRR
  obtain ⟨t, ht⟩ : ∃ t, t = (one st).1 := ⟨_, rfl⟩
  obtain ⟨S1, hS1⟩ : ∃ t, t = (one st).2 := ⟨_, rfl⟩
  rw [← ht, ← hS1] at hRR kx
  rw [← hS1] at hmo
  have hpp1 := hmo.2.2
  have HRR := Lib.hid hRR
  have HB1 := Lib.hid (gb_below (r := some gp) hb1)
  have HN1 := Lib.hid hn1
  have HSE := Lib.hid size_expr
  have HSW := Lib.hid size_word2
  have HE := Lib.hid hE
  have HL := Lib.hid hG
  have HX := Lib.hid hx
  have HS := Lib.hid hs
  have HNE := Lib.hid hne
  have HMO := Lib.hid hm
  obtain ⟨nl, hnl⟩ : ∃ n, n = ops.length := ⟨_, rfl⟩
  rw [← hnl]
  have HNL := Lib.hid hnl
  have hn' := Lib.hid hn
  clear hx hb1 hn1 h1 hRR hE hG ht hS1 hmo hs hne hm hnl hn
  go_enter Tryz.func108, Tryz.ntmps108
  go_wp2_with fail
  (with_reducible refine kx.mono ?_)
  rintro e w2 ⟨o1, m1, n1, a1, x1, l1, c1, rfl, hi, hp, hg⟩
  unfold exV
  have E0 := Lib.hid (EInv.start hgp HB1.out hs1 HN1.out hp hg hi)
  have hlen : S1.i < L.length := hp.lt
  clear hi hp hg kx HB1 HN1 hs1 h
  go_wp2_with fail
  go_loopw [] (fun wr => ∃ (f : Nat) (e : Ex) (S : St), rowL L one ops f e S = RR ∧ L.length ≤ f + S.i ∧ Ok L S ∧ EInv L w gp gw c w2.heap.size wr e S)
    (fun wr => leftOf gp wr)
  case atStart => exact ⟨L.length, t, S1, HRR.out.symm, by omega, hpp1, E0.out⟩
  case round =>
    obtain ⟨f, e, S, hR, hf, hps, hE1⟩ := hrel
    have hlt := hE1.par.lt
    have hfew := HE.out.few
    have hgo := between_go HE.out (ops := ops) HNE.out hlt
    have hstr := HS.out.grown hE1.gb hb hbn
    have hbr : b < wr.heap.size := Nat.lt_of_lt_of_le hb hE1.gb.size
    have kb := between_any L HL.out wr gp gw c S hE1.par (by have := hps.1; omega) b o cp ops hbr hstr hn'.out
    rw [← HNL.out] at kb
    have hstop := rowL_stop L HE.out one ops HNE.out f e S hlt
    have hleft := leftOf_par hE1.par
    have hgo2 : (betweenS L ops S).2.1 = true → (∃ f', f = f' + 1 ∧ rowL L one ops f' (twoS (betweenS L ops S).1 e (one (betweenS L ops S).2.2).1) (one (betweenS L ops S).2.2).2 = RR ∧ L.length ≤ f' + (one (betweenS L ops S).2.2).2.i) ∧ Ok L (one (betweenS L ops S).2.2).2 ∧ S.i < (one (betweenS L ops S).2.2).2.i ∧ Ok L (betweenS L ops S).2.2 := fun hb => by
      obtain ⟨f', rfl⟩ : ∃ f', f = f' + 1 := ⟨f - 1, by omega⟩
      have h1 := hgo.1 hb
      have hOk := (between_ok HE.out HNE.out hlt hps).1
      have h2 := HMO.out (betweenS L ops S).2.2 hgo.2.2 hOk
      exact ⟨⟨f', rfl, by rw [← hR]; exact (rowL_go L one ops f' e S hb).symm, by omega⟩, h2.2.2, by omega, hOk⟩
    obtain ⟨y, hy⟩ : ∃ y, y = (betweenS L ops S).1 := ⟨_, rfl⟩
    obtain ⟨B, hB⟩ : ∃ B, B = (betweenS L ops S).2.1 := ⟨_, rfl⟩
    obtain ⟨R, hR2⟩ : ∃ R, R = (betweenS L ops S).2.2 := ⟨_, rfl⟩
    rw [← hy, ← hB, ← hR2] at kb hgo2
    rw [← hB, ← hR2] at hstop
    have kx2 := fun W (hp : Par L W gp gw c R) (h : Ok L R) => HX.out W R hp h
    obtain ⟨t2, ht2⟩ : ∃ t, t = (one R).1 := ⟨_, rfl⟩
    obtain ⟨S2, hS2⟩ : ∃ t, t = (one R).2 := ⟨_, rfl⟩
    rw [← ht2, ← hS2] at kx2 hgo2
    obtain ⟨xk, xt, xn, xa⟩ := y
    unfold GivesB Wd.cells at kb
    have two_ := fun (W : World) (hw : ∀ k, W.heap.size ≤ k → w.heap.size < k ∧ k ≠ w2.heap.size) {o1 m1 : ByteArray} {n1 a1 : Int} {x1 : Option Addr} {l1 c1 : Nat} {o2 m2 : ByteArray} {n2 a2 : Int} {x2 : Option Addr} {l2 c2 : Nat} h1 h2 => twoP_any (fun k => w.heap.size < k ∧ k ≠ w2.heap.size) ⟨xk, xt, xn, xa⟩ e t2 W hw o1 m1 n1 a1 x1 l1 c1 o2 m2 n2 a2 x2 l2 c2 h1 h2
    have TWO := Lib.hid two_
    have KX := Lib.hid kx2
    have HGO := Lib.hid hgo2
    have HST := Lib.hid hstop
    have HR := Lib.hid hR
    have HE1 := Lib.hid hE1
    have HLF := Lib.hid hleft
    clear two_ kx2 hgo2 hstop hR hE1 hy hB hR2 ht2 hS2 hgo E0 hf hps HRR HE HL hleft hstr HX HS HMO
    go_wp2_with fail
    (with_reducible refine kb.mono ?_)
    rintro e3 w3 ⟨rfl, hp, hg⟩
    have hs3' : wr.heap.size ≤ w3.heap.size := hg.size
    have hb4 : Below w3.heap.size w3 (w3.alloc (.cells #[.int .i64 (xk : Int), .string xt, .int .i64 xn, .int .i64 (xa : Int)] 77)) := (Below.refl _ _).alloc (Nat.le_refl _) _
    have HN4 := Lib.hid (heap_alloc_new w3 (.cells #[.int .i64 (xk : Int), .string xt, .int .i64 xn, .int .i64 (xa : Int)] 77))
    have ha4 : (w3.alloc (.cells #[.int .i64 (xk : Int), .string xt, .int .i64 xn, .int .i64 (xa : Int)] 77)).heap.size = w3.heap.size + 1 := by simp
    have HP4 := Lib.hid (hp.below hb4)
    have G4 := Lib.hid (gb_trans hg (gb_below (r := some gp) hb4))
    clear hp hg hb4 kb
    obtain ⟨w4, hw4⟩ : ∃ w4, w4 = (w3.alloc (.cells #[.int .i64 (xk : Int), .string xt, .int .i64 xn, .int .i64 (xa : Int)] 77)) := ⟨_, rfl⟩
    rw [← hw4] at HN4 ha4 HP4 G4
    cases B
    · obtain ⟨o1, m1, n1, a1, x1, l1, c1, r1, r2, hfin⟩ := HE1.out.stop hgp hgw G4.out HP4.out
      have hres := HST.out rfl
      rw [HR.out] at hres
      have R1 := Lib.hid r1
      have R2 := Lib.hid r2
      have HF := Lib.hid hfin
      have HRS := Lib.hid hres
      have HW4 := Lib.hid hw4
      clear r1 r2 hfin hres hw4 HE1 KX HGO HST HR
      go_wp2_with (first | (rw [← HW4.out]; refine wpList_load_row rfl 54 (.tmp 9) rfl w2.heap.size rfl 54 #[.string o1, .string m1, .int .i64 n1, .int .i64 a1, .slice x1 l1 c1] (0, 0) _ R1.out Tryz.underlying54 rfl HSE.out ?_) | (refine wpList_store_row rfl 54 (.tmp 8) (.tmp 23) rfl w.heap.size #[.string o1, .string m1, .int .i64 n1, .int .i64 a1, .slice x1 l1 c1] rfl rfl 54 _ R2.out HSE.out rfl (expr_one _ _ _ _ _ _ _) ?_))
      have hset := setRow_heap w4 w.heap.size _ #[.string o1, .string m1, .int .i64 n1, .int .i64 a1, .slice x1 l1 c1] _ _ R2.out
      refine bodyPost_ret (v := .agg #[.string o1, .string m1, .int .i64 n1, .int .i64 a1, .slice x1 l1 c1]) (results_cell_row (p := 8) (ty := 54) rfl _ _ w.heap.size 54 _ (0, 0) _ rfl hset Tryz.underlying54 rfl HSE.out) rfl ?_
      rw [HRS.out]
      exact HF.out
    · obtain ⟨⟨f', hff, hR4, hl4⟩, hp4, hi4, hpR⟩ := HGO.out rfl
      obtain ⟨o1, m1, n1, a1, x1, l1, c1, hrow, hip⟩ := HE1.out.row
      have hlo := HE1.out.lo
      have hlt5 : w2.heap.size < wr.heap.size := (Array.getElem?_eq_some_iff.1 hrow).1
      have HROW4 := Lib.hid ((G4.out.block w2.heap.size hlt5 (by intro e; injection e with e; omega)).trans hrow)
      have HIP4 := Lib.hid (hip.grown G4.out (by omega))
      have hz4 := G4.out.size
      have HRES4 := Lib.hid ((G4.out.block w.heap.size (by omega) (by intro e; injection e with e; omega)).trans HE1.out.res)
      have HG4 := Lib.hid (gb_trans HE1.out.gb G4.out)
      have HRN := Lib.hid hR4
      have HW4 := Lib.hid hw4
      clear hrow hip hR4 HE1 HST HR HGO G4 hw4 hff
      go_wp2_with fail
      rw [← HW4.out]
      refine wp_region_stepsG_then (words [wIs (.agg #[.int .i64 (xk : Int), .string xt, .int .i64 xn, .int .i64 (xa : Int)]), wIs (.agg #[.string o1, .string m1, .int .i64 n1, .int .i64 a1, .slice x1 l1 c1]), wIs (.func (.func 124) #[.pointer (some ⟨gp, 0, none⟩)] #[]), wIs (.int .i64 (d : Int)), (fun v W => wEp (fun k => w.heap.size < k ∧ k ≠ w2.heap.size) t2 v W ∧ Par L W gp gw c S2), wEp (fun k => w.heap.size < k ∧ k ≠ w2.heap.size) (twoS ⟨xk, xt, xn, xa⟩ e t2)]) (fun W W' => W.grownBy W' (some gp)) (fun W => Par L W gp gw c R) 4 (by kernel_rfl) (gbt gp) (gbb gp) (fun W W' hF hb => hF.below hb) HP4.out (words_stable ?stab) ?stabr rfl rfl rfl (by kernel_rfl) (by decide) 6 _ rfl rfl ?steps ?last
      case stab =>
        intro f hf
        simp only [List.mem_cons, List.not_mem_nil, or_false] at hf
        rcases hf with rfl | rfl | rfl | rfl | rfl | rfl
        · exact stable_is _
        · exact stable_is _
        · exact stable_is _
        · exact stable_is _
        · exact fun v W W' hv hb => ⟨stable_ep _ _ v W W' hv.1 hb, hv.2.below hb⟩
        · exact stable_ep _ _
      case stabr =>
        intro i v W W' hne hv hb
        match i, hne, hv with
        | 0, _, hv => exact hv
        | 1, _, hv => exact hv
        | 2, _, hv => exact hv
        | 3, _, hv => exact hv
        | 4, hne, _ => exact absurd rfl hne
        | 5, _, hv => exact stableR_ep gp _ (by omega) _ v W W' hv hb
        | _ + 6, _, _ => trivial
      case steps =>
        refine StepsG.cons (stepG_value (by decide) rfl fun a W hp => ?_) ?_
        · have f1 : a.tmps.getD 10 undef = .pointer (some ⟨w3.heap.size, 0, none⟩) := hp.old 10 rfl
          exact ⟨wanted_none rfl, _, _, run_ldrow rfl f1 ((hp.rel.block w3.heap.size (by omega) (by intro e; injection e with e; omega)).trans HN4.out) Tryz.underlying77 rfl HSW.out, rfl, Below.refl _ _⟩
        refine StepsG.cons (stepG_value (by decide) rfl fun a W hp => ?_) ?_
        · have f1 : a.tmps.getD 9 undef = .pointer (some ⟨w2.heap.size, 0, none⟩) := hp.old 9 rfl
          exact ⟨wanted_none rfl, _, _, run_ldrow rfl f1 ((hp.rel.block w2.heap.size (by omega) (by intro e; injection e with e; omega)).trans HROW4.out) Tryz.underlying54 rfl HSE.out, rfl, Below.refl _ _⟩
        refine StepsG.cons (stepG_value (by decide) rfl fun a W hp => ⟨wanted_none rfl, _, _, run_move (.inl rfl), (hp.old 1 rfl), Below.refl _ _⟩) ?_
        refine StepsG.cons (stepG_value (by decide) rfl fun a W hp => ⟨wanted_none rfl, _, _, run_move (.inl rfl), (hp.old 2 rfl), Below.refl _ _⟩) ?_
        refine StepsG.cons (stepG_turn rfl fun a W hp hF => ?_) ?_
        · have f1 : a.tmps.getD 26 undef = (.func (.func 124) #[.pointer (some ⟨gp, 0, none⟩)] #[]) := (hp.on_ 2 rfl rfl rfl).2
          have f2 : a.tmps.getD 27 undef = .int .i64 (d : Int) := (hp.on_ 3 rfl rfl rfl).2
          refine ⟨wanted_none rfl, 124, _, run_enterv rfl f1 Tryz.call124, ?_⟩
          show Calls _ _ #[_, a.tmps.getD 27 undef] W _
          rw [f2]
          refine (KX.out W hF hpR).mono ?_
          rintro e W' ⟨o2, m2, n2, a2, x2, l2, c2, rfl, hi2, hp2, hg2⟩
          have := hp.rel.size
          exact ⟨_, rfl, ⟨⟨o2, m2, n2, a2, x2, l2, c2, rfl, hi2.toP (fun k h1 h2 => ⟨by omega, by omega⟩)⟩, hp2⟩, hg2⟩
        refine StepsG.cons (stepG_enter (by decide) rfl fun a W hp => ?_) ?_
        · have f1 : a.tmps.getD 24 undef = .agg #[.int .i64 (xk : Int), .string xt, .int .i64 xn, .int .i64 (xa : Int)] := (hp.on_ 0 rfl rfl rfl).2
          have f2 : a.tmps.getD 25 undef = .agg #[.string o1, .string m1, .int .i64 n1, .int .i64 a1, .slice x1 l1 c1] := (hp.on_ 1 rfl rfl rfl).2
          obtain ⟨⟨o2, m2, n2, a2, x2, l2, c2, f3, hi2⟩, hp2⟩ : wEp (fun k => w.heap.size < k ∧ k ≠ w2.heap.size) t2 (a.tmps.getD 28 undef) W ∧ Par L W gp gw c S2 := (hp.on_ 4 rfl rfl rfl).2
          refine ⟨wanted_none rfl, 92, _, run_enter3 rfl rfl Tryz.call92, ?_⟩
          show Calls _ _ #[a.tmps.getD 24 undef, a.tmps.getD 25 undef, a.tmps.getD 28 undef] W _
          rw [f1, f2, f3]
          have := hp.rel.size
          refine (TWO.out W (fun k hk => ⟨by omega, by omega⟩) (HIP4.out.grown hp.rel (by omega)) hi2).mono ?_
          rintro e W' ⟨o3, m3, n3, a3, x3, l3, c3, rfl, hi3, hb3⟩
          exact ⟨_, rfl, ⟨o3, m3, n3, a3, x3, l3, c3, rfl, hi3⟩, hb3⟩
        exact StepsG.nil
      case last =>
        intro a W hI
        obtain ⟨o3, m3, n3, a3, x3, l3, c3, f3, hi3⟩ : wEp (fun k => w.heap.size < k ∧ k ≠ w2.heap.size) (twoS ⟨xk, xt, xn, xa⟩ e t2) (a.tmps.getD 29 undef) W := hI.new 5 _ 29 rfl rfl rfl
        obtain ⟨_, hp3⟩ : wEp (fun k => w.heap.size < k ∧ k ≠ w2.heap.size) t2 (a.tmps.getD 28 undef) W ∧ Par L W gp gw c S2 := hI.new 4 _ 28 rfl rfl rfl
        have f4 : a.tmps.getD 9 undef = .pointer (some ⟨w2.heap.size, 0, none⟩) := hI.old 9 (by simp)
        obtain ⟨g, _, hx⟩ := hI.puts [24, 25, 26, 27, 28, 29] rfl
        have hrel := hI.rel
        have lr := (hrel.block w2.heap.size (by omega) (by intro e; injection e with e; omega)).trans HROW4.out
        have lres := (hrel.block w.heap.size (by omega) (by intro e; injection e with e; omega)).trans HRES4.out
        have hE5 := EInv.put hgp hgw hlo (gb_trans HG4.out hrel) hp3 lres lr hi3
        clear hI
        refine wpOp_of rfl (wanted_none rfl) ?_
        refine wp_store_row 54 (.tmp 9) (.tmp 29) rfl w2.heap.size #[.string o3, .string m3, .int .i64 n3, .int .i64 a3, .slice x3 l3 c3] f4 f3 54 _ lr HSE.out rfl (expr_one _ _ _ _ _ _ _) ?_
        have HE5 := Lib.hid hE5
        clear hE5 lr lres hrel hp3 hi3 f3 f4
        subst hx
        simp only [List.foldl_cons, List.foldl_nil]
        simp only [Exit.inBlock, Exit.then]
        refine ⟨⟨_, _, _, _, _, _, _, _, _, _, _, _, _, _, _, _, _, ⟨f', _, S2, HRN.out, hl4, hp4, HE5.out⟩, rfl⟩, ?_⟩
        rw [leftOf_par HE5.out.par, HLF.out]
        have := HE5.out.par.lt
        omega
end Go.Proofs.YtjlnihennlkmpaaGreatDoor

namespace Go.Proofs.YtjlnihennlkmpaaGreatDoor
open Go Go.RowKit
set_option maxHeartbeats 4000000 in
set_option maxRecDepth 100000 in
theorem mul_any (L : List Wd) (hG : Good L) (d : Nat) (hd : d < 1000) (w : World) (gp gw c : Nat) (st : St) (h : Par L w gp gw c st) (hE : GoodE L) (hpp : Ok L st) (one : St → Ex × St) (hm : Mono L one)
    (hx : ∀ W S, Par L W gp gw c S → Ok L S → Calls Tryz.prog 124 #[.pointer (some ⟨gp, 0, none⟩), .int .i64 (d : Int)] W (GivesX L gp gw c (one S).1 (one S).2 W)) :
    Calls Tryz.prog 123 #[.pointer (some ⟨gp, 0, none⟩), .int .i64 (d : Int)] w (GivesX L gp gw c (rowS L one [bs [42], bs [47], bs [109, 111, 100]] st).1 (rowS L one [bs [42], bs [47], bs [109, 111, 100]] st).2 w) := by
  have hb1 : Below w.heap.size w (w.alloc (.cells #[.string ⟨#[]⟩, .string ⟨#[]⟩, .int .i64 0, .int .i64 0, .slice none 0 0] 54)) := (Below.refl _ _).alloc (Nat.le_refl _) _
  have hn1 := heap_alloc_new w (.cells #[.string ⟨#[]⟩, .string ⟨#[]⟩, .int .i64 0, .int .i64 0, .slice none 0 0] 54)
  have hs1 : (w.alloc (.cells #[.string ⟨#[]⟩, .string ⟨#[]⟩, .int .i64 0, .int .i64 0, .slice none 0 0] 54)).heap.size = w.heap.size + 1 := by simp
  have hb2 : Below (w.alloc (.cells #[.string ⟨#[]⟩, .string ⟨#[]⟩, .int .i64 0, .int .i64 0, .slice none 0 0] 54)).heap.size (w.alloc (.cells #[.string ⟨#[]⟩, .string ⟨#[]⟩, .int .i64 0, .int .i64 0, .slice none 0 0] 54)) ((w.alloc (.cells #[.string ⟨#[]⟩, .string ⟨#[]⟩, .int .i64 0, .int .i64 0, .slice none 0 0] 54)).alloc (.cells #[.string ⟨#[42]⟩, .string ⟨#[47]⟩, .string ⟨#[109, 111, 100]⟩] 9)) := (Below.refl _ _).alloc (Nat.le_refl _) _
  have hn2 := heap_alloc_new (w.alloc (.cells #[.string ⟨#[]⟩, .string ⟨#[]⟩, .int .i64 0, .int .i64 0, .slice none 0 0] 54)) (.cells #[.string ⟨#[42]⟩, .string ⟨#[47]⟩, .string ⟨#[109, 111, 100]⟩] 9)
  have hs2 : ((w.alloc (.cells #[.string ⟨#[]⟩, .string ⟨#[]⟩, .int .i64 0, .int .i64 0, .slice none 0 0] 54)).alloc (.cells #[.string ⟨#[42]⟩, .string ⟨#[47]⟩, .string ⟨#[109, 111, 100]⟩] 9)).heap.size = w.heap.size + 2 := by simp
  rw [hs1] at hn2
  have h2 := (h.below hb1).below hb2
  have hgp := h.gpl
  have hgw := h.gwl
  have kr : Calls Tryz.prog 108 #[.pointer (some ⟨gp, 0, none⟩), (.func (.func 124) #[.pointer (some ⟨gp, 0, none⟩)] #[]), .int .i64 (d : Int), .slice (some ⟨w.heap.size + 1, 0, none⟩) 3 3] ((w.alloc (.cells #[.string ⟨#[]⟩, .string ⟨#[]⟩, .int .i64 0, .int .i64 0, .slice none 0 0] 54)).alloc (.cells #[.string ⟨#[42]⟩, .string ⟨#[47]⟩, .string ⟨#[109, 111, 100]⟩] 9)) (GivesX L gp gw c (rowS L one [bs [42], bs [47], bs [109, 111, 100]] st).1 (rowS L one [bs [42], bs [47], bs [109, 111, 100]] st).2 ((w.alloc (.cells #[.string ⟨#[]⟩, .string ⟨#[]⟩, .int .i64 0, .int .i64 0, .slice none 0 0] 54)).alloc (.cells #[.string ⟨#[42]⟩, .string ⟨#[47]⟩, .string ⟨#[109, 111, 100]⟩] 9))) := row_fby_any L hG d hd ((w.alloc (.cells #[.string ⟨#[]⟩, .string ⟨#[]⟩, .int .i64 0, .int .i64 0, .slice none 0 0] 54)).alloc (.cells #[.string ⟨#[42]⟩, .string ⟨#[47]⟩, .string ⟨#[109, 111, 100]⟩] 9)) gp gw c st h2 hE hpp one hm [bs [42], bs [47], bs [109, 111, 100]] (w.heap.size + 1) 0 3 (by omega) (by omega) (by
      intro j hj
      simp only [World.cell?, hn2]
      match j, hj with
      | 0, _ => rfl
      | 1, _ => rfl
      | 2, _ => rfl
      | _ + 3, hj => exact absurd hj (Nat.not_lt.2 (Nat.le_add_left _ _))) (by decide) (by simp [bs]) hx
  obtain ⟨RR, hRR⟩ : ∃ R, R = rowS L one [bs [42], bs [47], bs [109, 111, 100]] st := ⟨_, rfl⟩
  rw [← hRR] at kr ⊢
  have G2 := Lib.hid (gb_trans (gb_below (r := some gp) hb1) (gb_below hb2))
  have N1 := Lib.hid ((hb2.block w.heap.size (by omega)).trans hn1)
  have HSE := Lib.hid size_expr
  clear hx hb1 hn1 hb2 hn2 h h2 hRR hm hpp hE hG
  go_enter Tryz.func123, Tryz.ntmps123
  go_wp2_with fail
  (with_reducible refine kr.mono ?_)
  rintro e w3 ⟨o3, m3, n3, a3, x3, l3, c3, rfl, hi, hp, hg⟩
  unfold exV
  have hs3 : w.heap.size + 2 ≤ w3.heap.size := by rw [← hs2]; exact hg.size
  have LR := Lib.hid ((hg.block w.heap.size (by omega) (by intro e; injection e with e; omega)).trans N1.out)
  have g0 := Lib.hid (gb_trans G2.out hg)
  have HP := Lib.hid hp
  have HI := Lib.hid hi
  clear hi hp hg kr
  go_wp2_with (refine wpList_store_row rfl 54 (.tmp 4) (.tmp 10) rfl w.heap.size #[.string o3, .string m3, .int .i64 n3, .int .i64 a3, .slice x3 l3 c3] rfl rfl 54 _ LR.out HSE.out rfl (expr_one _ _ _ _ _ _ _) ?_)
  have hset := setRow_heap w3 w.heap.size _ #[.string o3, .string m3, .int .i64 n3, .int .i64 a3, .slice x3 l3 c3] _ _ LR.out
  refine bodyPost_ret (v := .agg #[.string o3, .string m3, .int .i64 n3, .int .i64 a3, .slice x3 l3 c3]) (results_cell_row (p := 4) (ty := 54) rfl _ _ w.heap.size 54 _ (0, 0) _ rfl hset Tryz.underlying54 rfl HSE.out) rfl ⟨o3, m3, n3, a3, x3, l3, c3, rfl, ?_, HP.out.keep (setRow_other w3 w.heap.size gp _ (by omega)) (setRow_other w3 w.heap.size gw _ (by omega)) (by rw [setRow_size]; exact Nat.le_refl _), gb_setRow g0.out _ (Nat.le_refl _) _⟩
  exact IsE.mono (B := w.heap.size + 2) (by omega) _ (hs2 ▸ HI.out.keep (by rw [setRow_size]; exact Nat.le_refl _) (fun k h2 h3 => setRow_other w3 w.heap.size k _ (by omega)))
end Go.Proofs.YtjlnihennlkmpaaGreatDoor

namespace Go.Proofs.YtjlnihennlkmpaaGreatDoor
open Go Go.RowKit
section
variable {P : Program} {Q : Exit → Act → World → Prop} {md : Region.Mode} {lo l : List Oper} {Sp : Nat → Value → World → Prop} {Rel : World → World → Prop} {R : Nat → World → World → Prop} {F : Nat → World → Prop} {w0 : World} {a0 : Act}
/-- What an operation finds. -/
structure PreM (md : Region.Mode) (lo l : List Oper) (Sp : Nat → Value → World → Prop) (Rel : World → World → Prop) (w0 : World) (a0 : Act) (o : Oper) (a : Act) (W : World) : Prop where
  rel : Rel w0 W
  old : ∀ j, (lo.all fun x => !(x.dst == some j)) = true → a.tmps.getD j undef = a0.tmps.getD j undef
  pre : ∀ e ∈ o.after.toList, Region.binds md e = true → ∀ x, l[e.on]? = some x → ∀ d, x.dst = some d → d < a.tmps.size ∧ Sp e.on (a.tmps.getD d undef) W
theorem PreM.on_ {o : Oper} {a : Act} {W : World} (h : PreM md lo l Sp Rel w0 a0 o a W) (n : Nat) {x : Oper} {d : Tmp} (he : (o.after.toList.any fun e => e.on == n && Region.binds md e) = true) (hx : l[n]? = some x) (hd : x.dst = some d) :
    d < a.tmps.size ∧ Sp n (a.tmps.getD d undef) W := by
  obtain ⟨e, he1, he2⟩ := List.any_eq_true.1 he
  rw [Bool.and_eq_true, beq_iff_eq] at he2
  obtain ⟨rfl, h2⟩ := he2
  exact h.pre e he1 h2 x hx d hd
def StepM (P : Program) (md : Region.Mode) (Q : Exit → Act → World → Prop) (lo l : List Oper) (Sp : Nat → Value → World → Prop) (Rel : World → World → Prop) (R : Nat → World → World → Prop) (F : Nat → World → Prop) (w0 : World) (a0 : Act) (i : Nat) (o : Oper) : Prop :=
  ∀ (a : Act) (W : World), PreM md lo l Sp Rel w0 a0 o a W → F i W → wpOp P l.toArray Q i (fun a' W' => ∃ v, a' = a.put o.dst v ∧ Sp i v W' ∧ R i W W') a W
def StepsM (P : Program) (md : Region.Mode) (Q : Exit → Act → World → Prop) (lo l : List Oper) (Sp : Nat → Value → World → Prop) (Rel : World → World → Prop) (R : Nat → World → World → Prop) (F : Nat → World → Prop) (w0 : World) (a0 : Act) : Nat → List Oper → Prop
  | _, [] => True
  | i, o :: r => StepM P md Q lo l Sp Rel R F w0 a0 i o ∧ StepsM P md Q lo l Sp Rel R F w0 a0 (i + 1) r
theorem StepsM.cons {i : Nat} {o : Oper} {r : List Oper} (h : StepM P md Q lo l Sp Rel R F w0 a0 i o) (hr : StepsM P md Q lo l Sp Rel R F w0 a0 (i + 1) r) : StepsM P md Q lo l Sp Rel R F w0 a0 i (o :: r) := ⟨h, hr⟩
theorem StepsM.nil {i : Nat} : StepsM P md Q lo l Sp Rel R F w0 a0 i [] := trivial
theorem StepsM.at_ : ∀ (r : List Oper) (i : Nat), StepsM P md Q lo l Sp Rel R F w0 a0 i r → ∀ (k : Nat) (o : Oper), r[k]? = some o → StepM P md Q lo l Sp Rel R F w0 a0 (i + k) o
  | [], _, _, k, o, h => by simp at h
  | x :: r, i, hs, 0, o, h => by
    simp only [List.getElem?_cons_zero, Option.some.injEq] at h
    subst h
    exact hs.1
  | x :: r, i, hs, k + 1, o, h => by
    have := StepsM.at_ r (i + 1) hs.2 k o (by simpa using h)
    rwa [show i + 1 + k = i + (k + 1) by omega] at this
structure InvM (lo l : List Oper) (Sp : Nat → Value → World → Prop) (Rel : World → World → Prop) (R : Nat → World → World → Prop) (F : Nat → World → Prop) (w0 : World) (a0 : Act) (listed : Array Bool) (a : Act) (W : World) : Prop where
  size : listed.size = l.length
  rel : Rel w0 W
  fst : ∀ i, i < l.length → listed.getD i false = false → F i W
  defers : a.defers = a0.defers
  tmps : a.tmps.size = a0.tmps.size
  old : ∀ j, (∀ x ∈ lo, x.dst ≠ some j) → a.tmps.getD j undef = a0.tmps.getD j undef
  new : ∀ i x d, l[i]? = some x → listed.getD i false = true → x.dst = some d → Sp i (a.tmps.getD d undef) W
theorem InvM.step (hRt : ∀ a b c, Rel a b → Rel b c → Rel a c) (hRR : ∀ i W W', R i W W' → Rel W W') (hF : ∀ i j W W', j ≠ i → F j W → R i W W' → F j W')
    (hst : ∀ i j v W W', j ≠ i → Sp j v W → R i W W' → Sp j v W') (h1 : single l = true) (h2 : within l a0.tmps.size = true)
    {listed : Array Bool} {a : Act} {W : World} (h : InvM lo l Sp Rel R F w0 a0 listed a W) {i : Nat} {o : Oper} (hi : l[i]? = some o) (hlo : o ∈ lo) (hun : listed.getD i false = false) {v : Value} {W' : World} (hv : Sp i v W') (hr : R i W W') :
    InvM lo l Sp Rel R F w0 a0 (listed.setIfInBounds i true) (a.put o.dst v) W' := by
  have hil : i < l.length := (List.getElem?_eq_some_iff.1 hi).1
  refine ⟨by simpa using h.size, hRt _ _ _ h.rel (hRR _ _ _ hr), fun k hkl hk => ?_, put_defers.trans h.defers, put_size.trans h.tmps, fun j hj => ?_, fun k x d hk hl hd => ?_⟩
  · by_cases e : i = k
    · subst e
      have hlt : i < listed.size := by rw [h.size]; exact hil
      simp [Array.getD, hlt] at hk
    · rw [getD_set_ne _ e] at hk
      exact hF i k _ _ (Ne.symm e) (h.fst k hkl hk) hr
  · rw [put_other (hj o hlo), h.old j hj]
  · by_cases hki : k = i
    · subst hki
      rw [hi] at hk
      injection hk with hk
      subst hk
      rw [hd, put_same (by rw [h.tmps]; exact within_spec h2 (List.mem_of_getElem? hi) hd)]
      exact hv
    · rw [put_other (fun e => hki (single_spec h1 hk hi hd e))]
      rw [getD_set_ne _ (Ne.symm hki)] at hl
      exact hst i k _ _ _ hki (h.new k x d hk hl hd) hr
theorem wpAny_stepsM_then (hRt : ∀ a b c, Rel a b → Rel b c → Rel a c) (hRR : ∀ i W W', R i W W' → Rel W W') (hF : ∀ i j W W', j ≠ i → F j W → R i W W' → F j W')
    (hst : ∀ i j v W W', j ≠ i → Sp j v W → R i W W' → Sp j v W') (h1 : single l = true) (h2 : within l a0.tmps.size = true) (h3 : aheadOps md l = true) (h4 : covers md l = true) (l0 : List Oper) (o0 : Oper) (hl : l = l0 ++ [o0]) (hs : StepsM P md Q l0 l Sp Rel R F w0 a0 0 l0)
    (hlast : ∀ a W, InvM l0 l Sp Rel R F w0 a0 ((Array.replicate l.length true).setIfInBounds l0.length false) a W → wpOp P l.toArray Q l0.length (fun a' W' => Q .normal a' W') a W) :
    ∀ (fuel : Nat) (listed : Array Bool) (a : Act) (W : World), InvM l0 l Sp Rel R F w0 a0 listed a W → listed.getD l0.length true = false →
      (∀ i, listed.getD i false = true → ∀ o, l[i]? = some o → ∀ e ∈ o.after.toList, Region.binds md e = true → listed.getD e.on false = true) → listed.toList.count false ≤ fuel → wpAny P md l.toArray Q fuel listed a W := by
  have hlen : l.length = l0.length + 1 := by rw [hl]; simp
  have hol : l[l0.length]? = some o0 := by rw [hl]; simp
  -- there is always one that may come up
  have some_ready : ∀ (listed : Array Bool), listed.size = l.length → listed.getD l0.length true = false → Region.ready md l.toArray listed ≠ [] := by
    intro listed hsz hlast0 hr
    have all : ∀ n i, i < n → i < l.length → listed.getD i false = true := by
      intro n
      induction n with
      | zero => intro i hi; omega
      | succ n ih =>
        intro i hi hil
        by_cases hin : i < n
        · exact ih i hin hil
        · cases hb : listed.getD i false with
          | true => rfl
          | false =>
            have hlt : i < listed.size := by omega
            have hmem : i ∈ Region.ready md l.toArray listed := by
              rw [mem_ready]
              refine ⟨by simpa [Array.getD, hlt] using hb, l[i], by simp [hil], fun e he hbe => ?_⟩
              have hlt' := aheadOps_spec h3 (i := i) (o := l[i]) (by simp [hil]) (Array.mem_toList_iff.2 he) hbe
              exact ih e.on (by omega) (by omega)
            rw [hr] at hmem
            cases hmem
    have hlt : l0.length < listed.size := by omega
    have := all (l0.length + 1) l0.length (Nat.lt_succ_self _) (by omega)
    simp [Array.getD, hlt] at this hlast0
    rw [this] at hlast0
    cases hlast0
  intro fuel
  induction fuel with
  | zero =>
    intro listed a W hI hlast0 _ hc
    exfalso
    have hlt : l0.length < listed.size := by rw [hI.size]; omega
    have hv : listed[l0.length] = false := by simpa [Array.getD, hlt] using hlast0
    have hpos : 0 < listed.toList.count false := List.count_pos_iff.2 (by rw [← hv]; simp)
    omega
  | succ fuel ih =>
    intro listed a W hI hlast0 hcl hc
    refine ⟨fun hr => absurd hr (some_ready listed hI.size hlast0), fun i hi => ?_⟩
    rw [mem_ready] at hi
    obtain ⟨hf, o, ho, hpre⟩ := hi
    have hio : l[i]? = some o := by simpa using ho
    have hil : i < l.length := (List.getElem?_eq_some_iff.1 hio).1
    by_cases hi0 : i < l0.length
    · have hio0 : l0[i]? = some o := by
        rw [hl, List.getElem?_append_left hi0] at hio
        exact hio
      have hst' := StepsM.at_ l0 0 hs i o hio0
      rw [Nat.zero_add] at hst'
      have hun : listed.getD i false = false := by
        have hlt : i < listed.size := by rw [hI.size]; exact hil
        simpa [Array.getD, hlt] using hf
      refine wpOp_mono ?_ (hst' a W ⟨hI.rel, fun j hj => hI.old j (fun x hx hd => by
        have := (List.all_eq_true.1 hj) x hx
        simp [hd] at this), fun e he hb x hx d hd => ⟨by rw [hI.tmps]; exact within_spec h2 (List.mem_of_getElem? hx) hd, hI.new e.on x d hx (hpre e (Array.mem_toList_iff.1 he) hb) hd⟩⟩ (hI.fst i hil hun))
      rintro a' W' ⟨v, rfl, hv, hr⟩
      have := count_set hf
      refine ih _ _ _ (hI.step hRt hRR hF hst h1 h2 hio (List.mem_of_getElem? hio0) hun hv hr) ?_ ?_ (by omega)
      · simp only [Array.getD, Array.size_setIfInBounds]
        have hlt : l0.length < listed.size := by rw [hI.size]; omega
        simp only [hlt, dite_true]
        rw [Array.getInternal_eq_getElem, Array.getElem_setIfInBounds_ne (by assumption) (by omega)]
        simpa [Array.getD, hlt] using hlast0
      · intro j hj x hx e he hb'
        have mono : ∀ k, listed.getD k false = true → (listed.setIfInBounds i true).getD k false = true := by
          intro k hk
          by_cases hki : k = i
          · subst hki
            have hlt : k < listed.size := by rw [hI.size]; omega
            simp [Array.getD, hlt]
          · rw [getD_set_ne _ (Ne.symm hki)]
            exact hk
        by_cases hji : j = i
        · subst hji
          rw [hio] at hx
          injection hx with hx
          subst hx
          exact mono _ (hpre e (Array.mem_toList_iff.1 he) hb')
        · rw [getD_set_ne _ (Ne.symm hji)] at hj
          exact mono _ (hcl j hj x hx e he hb')
    · obtain rfl : i = l0.length := by omega
      rw [hol] at hio
      injection hio with hio
      subst hio
      have good := reaches_good md l (fun i => i = l0.length ∨ listed.getD i false = true) (fun j hj x hx e he hb => by
        rcases hj with rfl | hj
        · rw [hol] at hx
          injection hx with hx
          subst hx
          exact .inr (hpre e (Array.mem_toList_iff.1 he) hb)
        · exact .inr (hcl j hj x hx e he hb)) l.length [l.length - 1] (fun j hj => by
          rw [List.mem_singleton] at hj
          exact .inl (by omega))
      have hall : ∀ j, j < l.length → j = l0.length ∨ listed.getD j false = true := by
        intro j hj
        unfold covers at h4
        rw [List.all_eq_true] at h4
        exact good j (List.contains_iff_mem.1 (h4 j (List.mem_range.2 hj)))
      have hlisted : listed = (Array.replicate l.length true).setIfInBounds l0.length false := by
        apply Array.ext
        · simp [hI.size]
        · intro j hj1 hj2
          by_cases hj : j = l0.length
          · subst hj
            have : listed[l0.length] = false := by simpa [Array.getD, hj1] using hlast0
            simp [this]
          · rw [Array.getElem_setIfInBounds_ne (by simpa using (by rw [← hI.size]; exact hj1)) (by omega)]
            rcases hall j (by rw [← hI.size]; exact hj1) with h | h
            · exact absurd h hj
            · simpa [Array.getD, hj1] using h
      have hrep : (listed.setIfInBounds l0.length true) = Array.replicate l.length true := by
        rw [hlisted]
        apply Array.ext
        · simp
        · intro j hj1 hj2
          by_cases hj : j = l0.length
          · subst hj; simp
          · rw [Array.getElem_setIfInBounds_ne (by simpa using hj2) (by omega), Array.getElem_setIfInBounds_ne (by simpa using hj2) (by omega)]
      have hready : Region.ready md l.toArray (Array.replicate l.length true) = [] := by
        cases hr : Region.ready md l.toArray (Array.replicate l.length true) with
        | nil => rfl
        | cons j js =>
          have hj : j ∈ Region.ready md l.toArray (Array.replicate l.length true) := by rw [hr]; exact List.mem_cons_self ..
          rw [mem_ready] at hj
          have hlt : j < l.length := by
            rcases Nat.lt_or_ge j l.length with h' | h'
            · exact h'
            · have := hj.1; simp [Array.getD, Nat.not_lt.2 h'] at this
          have := hj.1
          simp [Array.getD, hlt] at this
      have hop := hlast a W (by rw [← hlisted]; exact hI)
      refine wpOp_mono ?_ hop
      intro a' W' hQ
      rw [hrep]
      cases fuel with
      | zero => exact ⟨hready, hQ⟩
      | succ f => exact ⟨fun _ => hQ, fun i hi => by rw [hready] at hi; cases hi⟩
/-- THE REGION WHOSE LAST OPERATION MAY DO WHAT IT WANTS. -/
theorem wp_region_stepsM_then {id : Nat} {a0 : Act} {w : World} (Sp : Nat → Value → World → Prop) (Rel : World → World → Prop) (R : Nat → World → World → Prop) (F : Nat → World → Prop) (hm : P.follows .mixedOrders = true)
    (hRt : ∀ a b c, Rel a b → Rel b c → Rel a c) (hRR : ∀ i W W', R i W W' → Rel W W') (hF : ∀ i j W W', j ≠ i → F j W → R i W W' → F j W') (hd : Rel w w.drew) (hF0 : ∀ i, F i w.drew)
    (hst : ∀ i j v W W', j ≠ i → Sp j v W → R i W W' → Sp j v W') (h1 : single l = true) (h2 : within l a0.tmps.size = true) (h3 : aheadOps .any l = true) (h4 : covers .any l = true) (n : Nat) (o0 : Oper) (ho0 : l[n]? = some o0) (hln : l.length = n + 1) (hs : StepsM P .any Q (l.take n) l Sp Rel R F w a0 0 (l.take n))
    (hlast : ∀ a W, InvM (l.take n) l Sp Rel R F w a0 ((Array.replicate l.length true).setIfInBounds n false) a W → wpOp P l.toArray Q n (fun a' W' => Q .normal a' W') a W) : (Code.region id l.toArray true).wp P Q a0 w := by
  obtain ⟨l0, hl0⟩ : ∃ l0, l0 = l.take n := ⟨_, rfl⟩
  rw [← hl0] at hs hlast
  have hn : l0.length = n := by rw [hl0, List.length_take]; omega
  have hl : l = l0 ++ [o0] := by
    have e0 : l[n]'(by omega) = o0 := by rw [List.getElem?_eq_getElem (by omega)] at ho0; exact Option.some.inj ho0
    conv => lhs; rw [← List.take_append_drop n l]
    rw [← hl0, List.drop_eq_getElem_cons (by omega), List.drop_of_length_le (by omega), e0]
  clear hl0 ho0 hln
  subst hn
  refine wp_region_any hm ?_
  have hlen : l.length = l0.length + 1 := by rw [hl]; simp
  have hfalse : ∀ i, (Array.replicate l.toArray.size false).getD i false = false := by
    intro i
    simp [Array.getD]
  refine wpAny_stepsM_then hRt hRR hF hst h1 h2 h3 h4 l0 o0 hl hs hlast _ _ _ _ ⟨by simp, hd, fun i _ _ => hF0 i, rfl, rfl, fun _ _ => rfl, fun i x d _ hl _ => ?_⟩ ?_ ?_ ?_
  · rw [hfalse] at hl
    cases hl
  · simp [Array.getD, hlen]
  · intro i hi
    rw [hfalse] at hi
    cases hi
  · simp
/-- An operation that yields at once. -/
theorem stepM_value {i : Nat} {o : Oper} (hi : l[i]? = some o) (h : ∀ a W, PreM md lo l Sp Rel w0 a0 o a W → F i W → Region.wanted o (yielded l.toArray a.tmps) = true ∧ ∃ v W', (execOp a.eval o).run P W = .ok (.value v) W' ∧ Sp i v W' ∧ R i W W') :
    StepM P md Q lo l Sp Rel R F w0 a0 i o := fun a W hp hF => by
  obtain ⟨hw, v, W', hr, hs, hb⟩ := h a W hp hF
  exact wpOp_value hi hw hr ⟨v, rfl, hs, hb⟩
/-- A call. -/
theorem stepM_enter {i : Nat} {o : Oper} (hi : l[i]? = some o) (h : ∀ a W, PreM md lo l Sp Rel w0 a0 o a W → F i W → Region.wanted o (yielded l.toArray a.tmps) = true ∧ ∃ f args, (execOp a.eval o).run P W = .ok (.enter f args) W ∧ Calls P f args W fun e W' => ∃ v, e = .returned v ∧ Sp i v W' ∧ R i W W') :
    StepM P md Q lo l Sp Rel R F w0 a0 i o := fun a W hp hF => by
  obtain ⟨hw, f, args, hr, hc⟩ := h a W hp hF
  refine wpOp_of hi hw ?_
  unfold Oper.wp
  rw [hr, Oper.upon_enter]
  refine hc.mono ?_
  rintro e W' ⟨v, rfl, hs, hb⟩
  exact ⟨v, rfl, hs, hb⟩
end
end Go.Proofs.YtjlnihennlkmpaaGreatDoor

namespace Go.Proofs.YtjlnihennlkmpaaGreatDoor
open Go Go.RowKit
def rowE (o m : ByteArray) (n a : Int) (x : Option Addr) (l c : Nat) : List Value := [.string o, .string m, .int .i64 n, .int .i64 a, .slice x l c]
/-- The cells of a row of trees. -/
def RowsP (ok : Nat → Prop) (w : World) : List Value → List Ex → Prop
  | xs, [] => xs = []
  | xs, e :: r => ∃ o m n a x l c ys, xs = rowE o m n a x l c ++ ys ∧ IsP ok w o m n a x l c e ∧ RowsP ok w ys r
theorem RowsP.keep {ok ok' : Nat → Prop} {w w' : World} (hs : w.heap.size ≤ w'.heap.size) (hb : ∀ k, ok k → k < w.heap.size → w'.heap[k]? = w.heap[k]?) (ho : ∀ k, ok k → k < w.heap.size → ok' k) : ∀ (es : List Ex) (xs : List Value), RowsP ok w xs es → RowsP ok' w' xs es
  | [], _, h => h
  | e :: r, xs, ⟨o, m, n, a, x, l, c, ys, h1, h2, h3⟩ => ⟨o, m, n, a, x, l, c, ys, h1, h2.keep hs hb ho e, RowsP.keep hs hb ho r ys h3⟩
theorem RowsP.snoc {ok : Nat → Prop} {w : World} {o m : ByteArray} {n a : Int} {x : Option Addr} {l c : Nat} {t : Ex} (ht : IsP ok w o m n a x l c t) : ∀ (es : List Ex) (xs : List Value), RowsP ok w xs es → RowsP ok w (xs ++ rowE o m n a x l c) (es ++ [t])
  | [], xs, h => ⟨o, m, n, a, x, l, c, [], by rw [show xs = [] from h]; simp, ht, rfl⟩
  | e :: r, xs, ⟨o1, m1, n1, a1, x1, l1, c1, ys, h1, h2, h3⟩ => ⟨o1, m1, n1, a1, x1, l1, c1, ys ++ rowE o m n a x l c, by rw [h1, List.append_assoc], h2, RowsP.snoc ht r ys h3⟩
theorem RowsP.toQ {ok : Nat → Prop} {w : World} {g : Nat} : ∀ (es : List Ex) (xs : List Value) (i : Nat), RowsP ok w xs es → (∀ j u, xs[j]? = some u → w.cell? ⟨g, i * 5 + j, none⟩ = some u) → IsQ ok w g i es
  | [], _, _, _, _ => by unfold IsQ; trivial
  | e :: r, xs, i, ⟨o, m, n, a, x, l, c, ys, h1, h2, h3⟩, hc => by
    unfold IsQ
    subst h1
    refine ⟨⟨o, m, n, a, x, l, c, hc 0 _ rfl, hc 1 _ rfl, hc 2 _ rfl, hc 3 _ rfl, hc 4 _ rfl, h2⟩, RowsP.toQ r ys (i + 1) h3 fun j u hu => ?_⟩
    have := hc (5 + j) u (by rw [List.getElem?_append_right (by simp [rowE])]; simpa [rowE] using hu)
    rwa [show i * 5 + (5 + j) = (i + 1) * 5 + j by omega] at this
/-- What holds of a growing row. -/
def OwnK (w : World) (b : Nat) (v : Value) (es : List Ex) : Prop := ∃ xs, w.ownsRow (b + 1) 54 5 v es.length xs ∧ RowsP (fun k => b < k ∧ some k ≠ v.ownBlock) w xs es
theorem OwnK.gt {w : World} {b : Nat} {v : Value} {es : List Ex} (h : OwnK w b v es) : ∀ k, v.ownBlock = some k → b < k ∧ k < w.heap.size := fun k hk => by
  obtain ⟨xs, h1, _⟩ := h
  have := h1.lt k hk
  exact ⟨by omega, this.2⟩
theorem OwnK.kept {w w' : World} {b : Nat} {v : Value} {es : List Ex} {row : Option Nat} (h : OwnK w b v es) (hg : w.grownBy w' row) (hr : ∀ k, row = some k → k ≤ b) : OwnK w' b v es := by
  obtain ⟨xs, h1, h2⟩ := h
  refine ⟨xs, h1.kept hg ?_, h2.keep hg.size (fun k hk hl => hg.block k hl (fun e => by have := hr k e.symm; omega)) (fun _ h _ => h)⟩
  cases ho : v.ownBlock with
  | none => exact .inl rfl
  | some k =>
    refine .inr fun e => ?_
    have := (h1.lt k ho).1
    have := hr k e.symm
    omega
theorem OwnK.below {w w' : World} {b : Nat} {v : Value} {es : List Ex} (h : OwnK w b v es) (hb : Below w.heap.size w w') : OwnK w' b v es := h.kept (gb_below (r := none) hb) (fun k hk => by simp at hk)
theorem OwnK.nil (w : World) (b : Nat) : OwnK w b (.slice none 0 0) [] := ⟨[], World.ownsRow_nil w _ _ _, rfl⟩
theorem info_expr5 : ∃ i, Tryz.prog.info? 54 = some i ∧ (∃ z, i.zero = some z ∧ z.cells.size = 5) ∧ i.size = 5 ∧ i.bytes = 72 := by
  have h : (Tryz.prog.info? 54).map (fun i => (i.zero.map (·.cells.size), i.size, i.bytes)) = some (some 5, 5, 72) := by kernel_rfl
  cases hi : Tryz.prog.info? 54 with
  | none => rw [hi] at h; simp at h
  | some i =>
    rw [hi] at h
    simp only [Option.map_some, Option.some.injEq, Prod.mk.injEq] at h
    obtain ⟨hz, hs, hb⟩ := h
    cases hzz : i.zero with
    | none => rw [hzz] at hz; simp at hz
    | some z => exact ⟨i, rfl, ⟨z, hzz, by rw [hzz] at hz; simpa using hz⟩, hs, hb⟩
/-- 'append(kids, e)', e in a row of one. -/
theorem own_append {w : World} {b B : Nat} {v : Value} {es : List Ex} {t : Ex} {u : Value} (ty : TypeId) (h : OwnK w b v es) (hbw : b + 1 ≤ w.heap.size) (hu : wSl B t u w) (hB : b < B) (hbo : ∀ k, v.ownBlock = some k → k < B) (hn : es.length < 1000000) :
    ∃ v' w', (Builtin.append_ #[52, 52] ty #[v, u]).run Tryz.prog w = .ok v' w' ∧ OwnK w' b v' (es ++ [t]) ∧ w.grownBy w' v.ownBlock := by
  obtain ⟨xs, h1, h2⟩ := h
  obtain ⟨g, rfl, hg1, hg2, hg3⟩ := hu
  unfold IsL at hg3
  obtain ⟨⟨o, m, n, a, x, l, c, c0, c1, c2, c3, c4, he⟩, _⟩ := hg3
  obtain ⟨i, hi, ⟨z, hz, hzs⟩, hs, hb⟩ := info_expr5
  have hnews : ∀ j q, (rowE o m n a x l c)[j]? = some q → w.cell? ((⟨g, 0, none⟩ : Addr).add j) = some q := fun j q hq => by
    rw [Addr.add_lit, Nat.zero_add]
    simp only [Nat.zero_mul, Nat.zero_add] at c0 c1 c2 c3 c4
    match j, hq with
    | 0, hq => rw [c0]; exact hq
    | 1, hq => rw [c1]; exact hq
    | 2, hq => rw [c2]; exact hq
    | 3, hq => rw [c3]; exact hq
    | 4, hq => rw [c4]; exact hq
    | _ + 5, hq => simp [rowE] at hq
  obtain ⟨v', w', hr, ho, hgr, _, hown⟩ := run_append_own_at w (b + 1) 52 ty 54 i z 5 72 Tryz.underlying52 hi hz hs hb hzs (by decide) v es.length xs h1 ⟨g, 0, none⟩ 1 1 (rowE o m n a x l c) rfl hnews (fun q hq => by
    simp only [rowE, List.mem_cons, List.not_mem_nil, or_false] at hq
    rcases hq with rfl | rfl | rfl | rfl | rfl <;> rfl) (by unfold maxLen; omega) (by omega) hbw
  refine ⟨v', w', hr, ⟨xs ++ rowE o m n a x l c, by rw [List.length_append, List.length_singleton]; exact ho, ?_⟩, hgr⟩
  have hbk : ∀ k, v.ownBlock = some k → k < w.heap.size := fun k hk => (h1.lt k hk).2
  have hne : ∀ k, v'.ownBlock = some k → k < w.heap.size → v.ownBlock = some k := fun k hk hl => by
    rcases hown with e | e
    · rw [← e]; exact hk
    · exact absurd hl (by rw [← Option.some.inj (e.symm.trans hk)]; exact Nat.lt_irrefl _)
  refine RowsP.snoc ?_ _ _ (h2.keep hgr.size (fun k hk hl => hgr.block k hl hk.2) (fun k hk hl => ⟨hk.1, fun e => hk.2 (hne k e.symm hl).symm⟩))
  exact (IsE.toP (ok := fun k => B ≤ k) (fun k h1 _ => h1) _ he).keep hgr.size (fun k hk hl => hgr.block k hl (fun e => by have := hbo k e.symm; omega)) (fun k hk hl => ⟨by omega, fun e => by have := hbo k (hne k e.symm hl); omega⟩) _
/-- What is read off the row at the end. -/
theorem own_ends {w : World} {b : Nat} {v : Value} {es : List Ex} (h : OwnK w b v es) : ∃ x c, v = .slice x es.length c ∧ (0 < es.length → ∃ g, x = some ⟨g, 0, none⟩ ∧ b < g ∧ g < w.heap.size ∧ IsL (b + 1) w g 0 es) := by
  obtain ⟨xs, h1, h2⟩ := h
  rcases h1.2 with ⟨rfl, h0⟩ | ⟨g, cap, cur, rfl, hbg, hg, hn, hc, hcs, ht⟩
  · exact ⟨none, 0, by rw [h0], fun h => by omega⟩
  · refine ⟨_, cap, rfl, fun _ => ⟨g, rfl, by omega, (Array.getElem?_eq_some_iff.1 hg).1, ?_⟩⟩
    refine IsQ.toL (ok := fun k => b < k ∧ some k ≠ (Value.slice (some ⟨g, 0, none⟩) es.length cap).ownBlock) (fun k hk => by omega) es 0 (RowsP.toQ es xs 0 h2 fun j u hu => ?_)
    have := h1.cells (g := g) rfl j u hu
    rw [Addr.add_lit] at this
    rwa [show 0 * 5 + j = 0 + j by omega]
end Go.Proofs.YtjlnihennlkmpaaGreatDoor

namespace Go.Proofs.YtjlnihennlkmpaaGreatDoor
open Go Go.RowKit
theorem InvM.puts {lo l : List Oper} {Sp : Nat → Value → World → Prop} {Rel : World → World → Prop} {R : Nat → World → World → Prop} {F : Nat → World → Prop} {w0 W : World} {a0 a : Act} {listed : Array Bool} (h : InvM lo l Sp Rel R F w0 a0 listed a W) (S : List Nat) (hS : lo.filterMap (·.dst) = S) :
    ∃ f : Nat → Value, (∀ j, a.tmps.getD j undef = f j) ∧ a = S.foldl (fun x j => x.put (some j) (f j)) a0 := puts_of h.tmps h.defers h.old S hS
structure RelK (gp : Nat) (V : Value) (a b : World) : Prop where
  os : b.os = a.os
  tape : b.tape = a.tape
  output : b.output = a.output
  size : a.heap.size ≤ b.heap.size
  block : ∀ k, k < a.heap.size → k ≠ gp → some k ≠ V.ownBlock → b.heap[k]? = a.heap[k]?
theorem RelK.trans {gp : Nat} {V : Value} (a b c : World) (h : RelK gp V a b) (k : RelK gp V b c) : RelK gp V a c :=
  ⟨k.os.trans h.os, k.tape.trans h.tape, k.output.trans h.output, Nat.le_trans h.size k.size, fun j hj h1 h2 => (k.block j (Nat.lt_of_lt_of_le hj h.size) h1 h2).trans (h.block j hj h1 h2)⟩
theorem RelK.gb {gp : Nat} {V : Value} {w a b : World} (hw : w.grownBy a (some gp)) (h : RelK gp V a b) (hV : ∀ k, V.ownBlock = some k → w.heap.size ≤ k) : w.grownBy b (some gp) :=
  ⟨h.os.trans hw.os, h.tape.trans hw.tape, h.output.trans hw.output, Nat.le_trans hw.size h.size, fun j hj hr => (h.block j (Nat.lt_of_lt_of_le hj hw.size) (fun e => hr (by rw [e])) (fun e => by have := hV j e.symm; omega)).trans (hw.block j hj hr)⟩
/-- What each operation may turn: kx the parser, ka the growing row. -/
def RK (gp : Nat) (V : Value) (kx ka : Nat) (i : Nat) (W W' : World) : Prop := if i = kx then W.grownBy W' (some gp) else if i = ka then W.grownBy W' V.ownBlock else Below W.heap.size W W'
theorem RK.rel {gp : Nat} {V : Value} {kx ka i : Nat} {W W' : World} (h : RK gp V kx ka i W W') : RelK gp V W W' := by
  unfold RK at h
  split at h
  · exact ⟨h.os, h.tape, h.output, h.size, fun k hk h1 _ => h.block k hk (by intro e; injection e with e; exact h1 e)⟩
  · split at h
    · exact ⟨h.os, h.tape, h.output, h.size, fun k hk _ h2 => h.block k hk h2⟩
    · exact ⟨h.os, h.tape, h.output, h.size, fun k hk _ _ => h.block k hk⟩
def FK (L : List Wd) (gp gw c : Nat) (S : St) (b : Nat) (V : Value) (es : List Ex) (B : Nat) (kx ka : Nat) (i : Nat) (W : World) : Prop :=
  (i = kx → Par L W gp gw c S) ∧ (i = ka → OwnK W b V es ∧ B ≤ W.heap.size)
theorem Par.own {L : List Wd} {w w' : World} {gp gw c : Nat} {st : St} {row : Option Nat} (h : Par L w gp gw c st) (hg : w.grownBy w' row) (hr : ∀ k, row = some k → k ≠ gp ∧ k ≠ gw) : Par L w' gp gw c st :=
  h.keep (hg.block gp h.gpl (fun e => (hr gp e.symm).1 rfl)) (hg.block gw h.gwl (fun e => (hr gw e.symm).2 rfl)) hg.size
theorem FK.keep {L : List Wd} {gp gw c : Nat} {S : St} {b : Nat} {V : Value} {es : List Ex} {B kx ka : Nat} (hka : kx ≠ ka) (hgp : gp ≤ b) (hV : ∀ k, V.ownBlock = some k → k ≠ gp ∧ k ≠ gw) (i j : Nat) (W W' : World) (hne : j ≠ i) (h : FK L gp gw c S b V es B kx ka j W) (hr : RK gp V kx ka i W W') : FK L gp gw c S b V es B kx ka j W' := by
  refine ⟨fun e => ?_, fun e => ?_⟩
  · have h1 := h.1 e
    unfold RK at hr
    rw [if_neg (by rw [← e]; exact Ne.symm hne)] at hr
    split at hr
    · exact h1.own hr hV
    · exact h1.below hr
  · obtain ⟨h1, h2⟩ := h.2 e
    refine ⟨?_, Nat.le_trans h2 hr.rel.size⟩
    unfold RK at hr
    split at hr
    · exact h1.kept hr (fun k hk => by injection hk with hk; omega)
    · rw [if_neg (by rw [← e]; exact Ne.symm hne)] at hr
      exact h1.below hr
theorem FK.start {L : List Wd} {gp gw c : Nat} {S : St} {b : Nat} {V : Value} {es : List Ex} {B kx ka : Nat} {W : World} (h1 : Par L W gp gw c S) (h2 : OwnK W b V es) (h3 : B ≤ W.heap.size) (i : Nat) : FK L gp gw c S b V es B kx ka i W.drew := by
  have hd : Below W.heap.size W W.drew := (Below.refl _ _).drew
  exact ⟨fun _ => h1.below hd, fun _ => ⟨h2.below hd, h3⟩⟩
theorem wEx_own {B : Nat} {t : Ex} {v : Value} {W W' : World} {row : Option Nat} (h : wEx B t v W) (hg : W.grownBy W' row) (hr : ∀ k, row = some k → k < B) : wEx B t v W' := by
  obtain ⟨o, m, n, a, x, l, cc, h1, h2⟩ := h
  exact ⟨o, m, n, a, x, l, cc, h1, h2.keep hg.size (fun k hk hl => hg.block k hl (fun e => by have := hr k e.symm; omega)) _⟩
theorem wSl_own {B : Nat} {t : Ex} {v : Value} {W W' : World} {row : Option Nat} (h : wSl B t v W) (hg : W.grownBy W' row) (hr : ∀ k, row = some k → k < B) : wSl B t v W' := by
  obtain ⟨g, h1, h2, h3, h4⟩ := h
  exact ⟨g, h1, h2, Nat.lt_of_lt_of_le h3 hg.size, h4.keep hg.size (fun k hk hl => hg.block k hl (fun e => by have := hr k e.symm; omega)) h2 h3 _ _⟩
theorem run_stsl {o : Oper} {ρ : Operand → Value} {x y : Operand} {a : Addr} {v0 : Value} {z : Option Addr} {l k : Nat} {W : World} (ho : o.op = .store 52 x y) (hx : ρ x = .pointer (some a)) (hy : ρ y = .slice z l k) (hc : W.cell? a = some v0) (hf : W.frozen? a = false) :
    (execOp ρ o).run Tryz.prog W = .ok .skip (W.setCell a (.slice z l k)) := by
  have hsz : (Tryz.prog.info? 52).map (·.size) = some 1 := by kernel_rfl
  cases hi : Tryz.prog.info? 52 with
  | none => simp [hi] at hsz
  | some i =>
    simp [hi] at hsz
    simp [execOp, ho, hx, hy, Instr.storeAt, hc, hf, sizeOf, typeInfo, hi, hsz, Result.andThen, go_sem, isAgg, run_underlying Tryz.underlying52]
theorem run_ldsl {o : Oper} {ρ : Operand → Value} {x : Operand} {a : Addr} {V : Value} {W : World} (ho : o.op = .load 52 x) (hx : ρ x = .pointer (some a)) (hc : W.cell? a = some V) : (execOp ρ o).run Tryz.prog W = .ok (.value V) W := by
  have hsz : (Tryz.prog.info? 52).map (·.size) = some 1 := by kernel_rfl
  cases hi : Tryz.prog.info? 52 with
  | none => simp [hi] at hsz
  | some i =>
    simp [hi] at hsz
    simp [execOp, ho, hx, Instr.loadAt, hc, sizeOf, typeInfo, hi, hsz, Result.andThen, go_sem, isAgg, run_underlying Tryz.underlying52]
theorem fa_expr4 (g : Nat) (W : World) : (Instr.fieldAt 54 (.pointer (some ⟨g, 0, none⟩)) 4).run Tryz.prog W = .ok (.pointer (some ⟨g, 4, none⟩)) W := by kernel_rfl
/-- The head of named's loop. -/
structure KInv (L : List Wd) (w : World) (gp gw c b : Nat) (txt : ByteArray) (at_ : Nat) (wr : World) (es : List Ex) (S : St) : Prop where
  par : Par L wr gp gw c S
  gb : w.grownBy wr (some gp)
  res : wr.heap[w.heap.size]? = some (.cells #[.string ⟨#[]⟩, .string ⟨#[]⟩, .int .i64 0, .int .i64 0, .slice none 0 0] 54 (0, 0))
  lo : w.heap.size < b
  row : ∃ V, wr.heap[b]? = some (.cells #[.string ⟨#[99, 97, 108, 108]⟩, .string txt, .int .i64 0, .int .i64 (at_ : Int), V] 54 (0, 0)) ∧ OwnK wr b V es
theorem KInv.step {L : List Wd} {w wr w' : World} {gp gw c b : Nat} {txt : ByteArray} {at_ : Nat} {es : List Ex} {S S' : St} (hgp : gp < w.heap.size) (h : KInv L w gp gw c b txt at_ wr es S) (hg : wr.grownBy w' (some gp)) (hp : Par L w' gp gw c S') : KInv L w gp gw c b txt at_ w' es S' := by
  obtain ⟨V, hr, ho⟩ := h.row
  have hlo := h.lo
  have hlt : b < wr.heap.size := (Array.getElem?_eq_some_iff.1 hr).1
  exact ⟨hp, gb_trans h.gb hg, (hg.block w.heap.size (by omega) (by intro e; injection e with e; omega)).trans h.res, h.lo, V, (hg.block b hlt (by intro e; injection e with e; omega)).trans hr, ho.kept hg (fun k hk => by injection hk with hk; omega)⟩
/-- A region's end: the new row stored in the cell. -/
theorem KInv.put {L : List Wd} {w w0 W : World} {gp gw c b : Nat} {txt : ByteArray} {at_ : Nat} {es es' : List Ex} {S S' : St} {V : Value} {z : Option Addr} {l k : Nat} (hgp : gp < w.heap.size) (hgw : gw < w.heap.size) (h : KInv L w gp gw c b txt at_ w0 es S) (hr : w0.heap[b]? = some (.cells #[.string ⟨#[99, 97, 108, 108]⟩, .string txt, .int .i64 0, .int .i64 (at_ : Int), V] 54 (0, 0))) (ho : OwnK w0 b V es) (hrel : RelK gp V w0 W) (hp : Par L W gp gw c S') (hn : OwnK W b (.slice z l k) es') :
    KInv L w gp gw c b txt at_ (W.setCell ⟨b, 4, none⟩ (.slice z l k)) es' S' ∧ W.cell? ⟨b, 4, none⟩ = some V ∧ W.frozen? ⟨b, 4, none⟩ = false := by
  have hlo := h.lo
  have hlt : b < w0.heap.size := (Array.getElem?_eq_some_iff.1 hr).1
  have hgt := ho.gt
  have hrW := (hrel.block b hlt (by omega) (fun e => by have := hgt b e.symm; omega)).trans hr
  have hset := heap_setCell_same W b 4 _ _ (.slice z l k) hrW
  have hoth : ∀ j, j ≠ b → (W.setCell ⟨b, 4, none⟩ (.slice z l k)).heap[j]? = W.heap[j]? := fun j hj => heap_setCell_other W ⟨b, 4, none⟩ j _ hj
  refine ⟨⟨hp.keep (hoth gp (by omega)) (hoth gw (by omega)) (by simp), gb_setCell (hrel.gb h.gb (fun j hj => by have := hgt j hj; omega)) b 4 (by omega) _, (hoth w.heap.size (by omega)).trans ((hrel.block w.heap.size (by omega) (by omega) (fun e => by have := hgt _ e.symm; omega)).trans h.res), hlo, _, hset, ?_⟩, cell_of_row W b 4 _ _ _ hrW, frozen_of_row W b 4 _ _ hrW⟩
  refine hn.kept (row := some b) ⟨rfl, rfl, rfl, by simp, fun j _ hj => hoth j (fun e => hj (by rw [e]))⟩ (fun j hj => by injection hj with hj; omega)
/-- The end: the cell read, and handed back. -/
theorem KInv.stop {L : List Wd} {w wr : World} {gp gw c b : Nat} {txt : ByteArray} {at_ : Nat} {es : List Ex} {S : St} (hgp : gp < w.heap.size) (hgw : gw < w.heap.size) (h : KInv L w gp gw c b txt at_ wr es S) :
    ∃ x l k, wr.heap[b]? = some (.cells #[.string ⟨#[99, 97, 108, 108]⟩, .string txt, .int .i64 0, .int .i64 (at_ : Int), .slice x l k] 54 (0, 0)) ∧ GivesX L gp gw c (.mk (bs [99, 97, 108, 108]) txt 0 at_ es) S w (.returned (.agg #[.string ⟨#[99, 97, 108, 108]⟩, .string txt, .int .i64 0, .int .i64 (at_ : Int), .slice x l k])) (wr.setRow w.heap.size #[.string ⟨#[99, 97, 108, 108]⟩, .string txt, .int .i64 0, .int .i64 (at_ : Int), .slice x l k]) := by
  obtain ⟨V, hr, ho⟩ := h.row
  have hlo := h.lo
  have hlt : b < wr.heap.size := (Array.getElem?_eq_some_iff.1 hr).1
  obtain ⟨x, k, rfl, hk⟩ := own_ends ho
  refine ⟨x, es.length, k, hr, _, _, _, _, _, _, _, rfl, ?_, h.par.keep (setRow_other wr w.heap.size gp _ (by omega)) (setRow_other wr w.heap.size gw _ (by omega)) (by rw [setRow_size]; exact Nat.le_refl _), gb_setRow h.gb _ (Nat.le_refl _) _⟩
  unfold IsE
  refine ⟨rfl, rfl, rfl, rfl, rfl, fun hl => ?_⟩
  obtain ⟨g, e1, e2, e3, e4⟩ := hk hl
  exact ⟨g, e1, by omega, by rw [setRow_size]; exact e3, IsL.mono (B := b + 1) (by omega) _ _ (e4.keep (by rw [setRow_size]; exact Nat.le_refl _) (fun j h1 _ => setRow_other wr w.heap.size j _ (by omega)) (by omega) e3 _ _)⟩
theorem argsS_stop (L : List Wd) (f : St → Ex × St) (k : Nat) (S : St) (h : isS L (bs [44]) S = false) : argsS L f k S = ([], S) := by
  cases k with
  | zero => rfl
  | succ k => unfold argsS; simp [h]
theorem argsS_go (L : List Wd) (f : St → Ex × St) (k : Nat) (S : St) (h : isS L (bs [44]) S = true) : argsS L f (k + 1) S = ((f (nextS L S)).1 :: (argsS L f k (f (nextS L S)).2).1, (argsS L f k (f (nextS L S)).2).2) := by
  conv => lhs; unfold argsS
  simp [h]
end Go.Proofs.YtjlnihennlkmpaaGreatDoor

namespace Go.Proofs.YtjlnihennlkmpaaGreatDoor
open Go Go.RowKit
set_option maxHeartbeats 4000000 in
set_option maxRecDepth 100000 in
theorem named_any (L : List Wd) (hG : Good L) (d : Nat) (hd : d < 1000) (w : World) (gp gw c : Nat) (st : St) (h : Par L w gp gw c st) (hE : GoodE L) (hk : (cur L st).kind ≠ 0) (hpp : Ok L st) (nx : Nx) (hm : Mono L nx.expr)
    (hx : ∀ W S, Par L W gp gw c S → Ok L S → Calls Tryz.prog 76 #[.pointer (some ⟨gp, 0, none⟩), .int .i64 ((d : Int) + 1)] W (GivesX L gp gw c (nx.expr S).1 (nx.expr S).2 W)) :
    Calls Tryz.prog 129 #[.pointer (some ⟨gp, 0, none⟩), .int .i64 (d : Int)] w (GivesX L gp gw c (namedS L nx st).1 (namedS L nx st).2 w) := by
  have hb1 : Below w.heap.size w (w.alloc (.cells #[.string ⟨#[]⟩, .string ⟨#[]⟩, .int .i64 0, .int .i64 0, .slice none 0 0] 54)) := (Below.refl _ _).alloc (Nat.le_refl _) _
  have hn1 := heap_alloc_new w (.cells #[.string ⟨#[]⟩, .string ⟨#[]⟩, .int .i64 0, .int .i64 0, .slice none 0 0] 54)
  have h1 := h.below hb1
  have hgp := h.gpl
  have hgw := h.gwl
  have hs1 : (w.alloc (.cells #[.string ⟨#[]⟩, .string ⟨#[]⟩, .int .i64 0, .int .i64 0, .slice none 0 0] 54)).heap.size = w.heap.size + 1 := by simp
  have hfew := hE.few
  have hlt0 := h.lt
  have kp := part_any L hG _ gp gw c st h1 (by have := hpp.1; omega)
  have hgo := partS_go hE h.lt hk
  obtain ⟨RR, hRR⟩ : ∃ R, R = namedS L nx st := ⟨_, rfl⟩
  rw [← hRR]
  unfold namedS at hRR
  obtain ⟨y, hy⟩ : ∃ y, y = (partS L st).1 := ⟨_, rfl⟩
  obtain ⟨R, hR⟩ : ∃ y, y = (partS L st).2 := ⟨_, rfl⟩
  simp only [← hy, ← hR] at hRR
  rw [← hy, ← hR] at kp
  have hRp0 : Ok L (partS L st).2 := (partS_ok hE hlt0 hk hpp).1
  rw [← hR] at hgo hRp0
  have hRp : Ok L R := hRp0
  have hRi := hgo.2.1
  have hRpos : 0 < R.i := by omega
  have kt : ∀ W, Par L W gp gw c R → Calls Tryz.prog 58 #[.pointer (some ⟨gp, 0, none⟩), .string ⟨#[40]⟩] W (Gives1 L gp gw c (.bool (takeS L (bs [40]) R).1) (takeS L (bs [40]) R).2 W) := fun W hp => take_any L hG (bs [40]) W gp gw c R hp
  unfold takeS at kt
  obtain ⟨b1, hb1'⟩ : ∃ b, b = isS L (bs [40]) R := ⟨_, rfl⟩
  simp only [← hb1'] at hRR kt
  have hS0i : (nextS L R).i < L.length := nextS_in hG hRi
  have hS0 := nextS_le L R
  have hS0p : Ok L (nextS L R) := nextS_ok hG hRi hRp
  obtain ⟨S0, hS0e⟩ : ∃ S, S = nextS L R := ⟨_, rfl⟩
  rw [← hS0e] at hS0 hS0p hS0i
  simp only [← hS0e] at hRR kt
  have ki : ∀ W, Par L W gp gw c S0 → Calls Tryz.prog 30 #[.pointer (some ⟨gp, 0, none⟩), .string ⟨#[41]⟩] W fun e w' => e = .returned (.bool (isS L (bs [41]) S0)) ∧ w' = W := fun W hp => is_any L (bs [41]) W gp gw c S0 hp
  unfold callS at hRR
  obtain ⟨b2, hb2'⟩ : ∃ b, b = isS L (bs [41]) S0 := ⟨_, rfl⟩
  simp only [← hb2'] at hRR
  rw [← hb2'] at ki
  have hkx1 := fun W (hp : Par L W gp gw c S0) => hx W S0 hp hS0p
  have hm1 := hm S0 hS0i hS0p
  obtain ⟨t1, ht1⟩ : ∃ y, y = (nx.expr S0).1 := ⟨_, rfl⟩
  obtain ⟨S1, hS1⟩ : ∃ y, y = (nx.expr S0).2 := ⟨_, rfl⟩
  rw [← ht1, ← hS1] at hkx1
  rw [← hS1] at hm1
  simp only [← ht1, ← hS1] at hRR
  obtain ⟨RK0, hRK⟩ : ∃ y, y = argsS L nx.expr L.length S1 := ⟨_, rfl⟩
  simp only [← hRK] at hRR
  have kn : ∀ W S, Par L W gp gw c S → Calls Tryz.prog 55 #[.pointer (some ⟨gp, 0, none⟩), .string ⟨#[41]⟩] W (GivesU L gp gw c (needS L (bs [41]) S) W) := fun W S hp => need_any L hG (bs [41]) W gp gw c S hp
  have KT := Lib.hid kt
  have KI := Lib.hid ki
  have KX1 := Lib.hid hkx1
  have KN := Lib.hid kn
  have HRR := Lib.hid hRR
  have HRK := Lib.hid hRK
  have HX := Lib.hid hx
  have HM := Lib.hid hm
  have HEE := Lib.hid hE
  have HB1 := Lib.hid (gb_below (r := some gp) hb1)
  have HN1 := Lib.hid hn1
  have HSE := Lib.hid size_expr
  have hM1 := Lib.hid hm1
  clear kt ki hkx1 kn hRR hRK hx hm hE hb1 hn1 h1 hy hR hgo hb1' hS0e hb2' ht1 hS1 hm1 hk h hRp hRp0 hpp hS0p
  obtain ⟨xk, xt, xn, xa⟩ := y
  unfold Wd.cells at kp
  cases b1
  · go_enter Tryz.func129, Tryz.ntmps129
    go_wp2_with fail
    (with_reducible refine kp.mono ?_)
    rintro e w2 ⟨rfl, hp, hg⟩
    have hs2 : w.heap.size + 1 ≤ w2.heap.size := by rw [← hs1]; exact hg.size
    have hb2 : Below w2.heap.size w2 (w2.alloc (.cells #[.int .i64 (xk : Int), .string xt, .int .i64 xn, .int .i64 (xa : Int)] 77)) := (Below.refl _ _).alloc (Nat.le_refl _) _
    have hn2 := heap_alloc_new w2 (.cells #[.int .i64 (xk : Int), .string xt, .int .i64 xn, .int .i64 (xa : Int)] 77)
    have ha2 : (w2.alloc (.cells #[.int .i64 (xk : Int), .string xt, .int .i64 xn, .int .i64 (xa : Int)] 77)).heap.size = w2.heap.size + 1 := by simp
    have kt2 := KT.out _ (hp.below hb2)
    have G2 := Lib.hid (gb_trans HB1.out (gb_trans hg (gb_below (r := some gp) hb2)))
    have LR2 := Lib.hid ((hb2.block w.heap.size (by omega)).trans ((hg.block w.heap.size (by omega) (by intro e; injection e with e; omega)).trans HN1.out))
    have HN2 := Lib.hid hn2
    clear hp hg hb2 hn2 kp KT
    go_wp2_with fail
    (with_reducible refine kt2.mono ?_)
    rintro e w3 ⟨rfl, hp, hg⟩
    have hs3 : w2.heap.size + 1 ≤ w3.heap.size := by rw [← ha2]; exact hg.size
    have LR := Lib.hid ((hg.block w.heap.size (by omega) (by intro e; injection e with e; omega)).trans LR2.out)
    have hrw := (hg.block w2.heap.size (by omega) (by intro e; injection e with e; omega)).trans HN2.out
    have c1w := cell_of_row w3 w2.heap.size 1 _ _ _ hrw
    have c3w := cell_of_row w3 w2.heap.size 3 _ _ _ hrw
    have G3 := Lib.hid (gb_trans G2.out hg)
    have HP := Lib.hid hp
    clear hp hg hrw kt2 LR2 HN2 G2
    have HEQ : Hid (RR = (.mk (bs [118, 97, 114]) xt 0 xa [], R)) := Lib.hid (by rw [HRR.out]; simp)
    clear HRR HX HM HRK HEE KX1 KN KI
    go_wp2_with (refine wpList_store_row rfl 54 (.tmp 4) (.tmp 16) rfl w.heap.size #[.string ⟨#[118, 97, 114]⟩, .string xt, .int .i64 0, .int .i64 (xa : Int), .slice none 0 0] rfl rfl 54 _ LR.out HSE.out rfl (expr_one _ _ _ _ _ _ _) ?_)
    have hset := setRow_heap w3 w.heap.size _ #[.string ⟨#[118, 97, 114]⟩, .string xt, .int .i64 0, .int .i64 (xa : Int), .slice none 0 0] _ _ LR.out
    refine bodyPost_ret (v := .agg #[.string ⟨#[118, 97, 114]⟩, .string xt, .int .i64 0, .int .i64 (xa : Int), .slice none 0 0]) (results_cell_row (p := 4) (ty := 54) rfl _ _ w.heap.size 54 _ (0, 0) _ rfl hset Tryz.underlying54 rfl HSE.out) rfl ?_
    rw [HEQ.out]
    refine ⟨_, _, _, _, _, _, _, rfl, by unfold IsE; exact ⟨rfl, rfl, rfl, rfl, rfl, fun h => absurd h (by simp)⟩, HP.out.keep (setRow_other w3 w.heap.size gp _ (by omega)) (setRow_other w3 w.heap.size gw _ (by omega)) (by rw [setRow_size]; exact Nat.le_refl _), gb_setRow G3.out _ (Nat.le_refl _) _⟩
  · cases b2
    · go_enter Tryz.func129, Tryz.ntmps129
      go_wp2_with fail
      (with_reducible refine kp.mono ?_)
      rintro e w2 ⟨rfl, hp, hg⟩
      have hs2 : w.heap.size + 1 ≤ w2.heap.size := by rw [← hs1]; exact hg.size
      have hb2 : Below w2.heap.size w2 (w2.alloc (.cells #[.int .i64 (xk : Int), .string xt, .int .i64 xn, .int .i64 (xa : Int)] 77)) := (Below.refl _ _).alloc (Nat.le_refl _) _
      have hn2 := heap_alloc_new w2 (.cells #[.int .i64 (xk : Int), .string xt, .int .i64 xn, .int .i64 (xa : Int)] 77)
      have ha2 : (w2.alloc (.cells #[.int .i64 (xk : Int), .string xt, .int .i64 xn, .int .i64 (xa : Int)] 77)).heap.size = w2.heap.size + 1 := by simp
      have kt2 := KT.out _ (hp.below hb2)
      have G2 := Lib.hid (gb_trans HB1.out (gb_trans hg (gb_below (r := some gp) hb2)))
      have LR2 := Lib.hid ((hb2.block w.heap.size (by omega)).trans ((hg.block w.heap.size (by omega) (by intro e; injection e with e; omega)).trans HN1.out))
      have HN2 := Lib.hid hn2
      clear hp hg hb2 hn2 kp KT
      go_wp2_with fail
      (with_reducible refine kt2.mono ?_)
      rintro e w3 ⟨rfl, hp, hg⟩
      have hs3 : w2.heap.size + 1 ≤ w3.heap.size := by rw [← ha2]; exact hg.size
      have LR := Lib.hid ((hg.block w.heap.size (by omega) (by intro e; injection e with e; omega)).trans LR2.out)
      have hrw := (hg.block w2.heap.size (by omega) (by intro e; injection e with e; omega)).trans HN2.out
      have c1w := cell_of_row w3 w2.heap.size 1 _ _ _ hrw
      have c3w := cell_of_row w3 w2.heap.size 3 _ _ _ hrw
      have G3 := Lib.hid (gb_trans G2.out hg)
      have HP := Lib.hid hp
      clear hp hg hrw kt2 LR2 HN2 G2
      have hb4 : Below w3.heap.size w3 (w3.alloc (.cells #[.string ⟨#[99, 97, 108, 108]⟩, .string xt, .int .i64 0, .int .i64 (xa : Int), .slice none 0 0] 54)) := (Below.refl _ _).alloc (Nat.le_refl _) _
      have hn4 := heap_alloc_new w3 (.cells #[.string ⟨#[99, 97, 108, 108]⟩, .string xt, .int .i64 0, .int .i64 (xa : Int), .slice none 0 0] 54)
      have hK4 : KInv L w gp gw c w3.heap.size xt xa (w3.alloc (.cells #[.string ⟨#[99, 97, 108, 108]⟩, .string xt, .int .i64 0, .int .i64 (xa : Int), .slice none 0 0] 54)) [] S0 := ⟨HP.out.below hb4, gb_trans G3.out (gb_below hb4), (hb4.block w.heap.size (by omega)).trans LR.out, by omega, _, hn4, OwnK.nil _ _⟩
      have ki4 := KI.out _ hK4.par
      have HK4 := Lib.hid hK4
      clear hb4 hn4 hK4 KI HP G3 LR
      go_wp2_with fail
      (with_reducible refine ki4.mono ?_)
      rintro e w' ⟨rfl, hw'⟩
      rw [hw']
      clear ki4 hw' w' c1w c3w
      obtain ⟨w4, hw4⟩ : ∃ w4, w4 = (w3.alloc (.cells #[.string ⟨#[99, 97, 108, 108]⟩, .string xt, .int .i64 0, .int .i64 (xa : Int), .slice none 0 0] 54)) := ⟨_, rfl⟩
      rw [← hw4] at HK4
      have HW4 := Lib.hid hw4
      have KXR := KX1
      clear hw4
      go_wp2_with fail
      rw [← HW4.out]
      obtain ⟨V, hrV, hoV⟩ := HK4.out.row
      have hgt := hoV.gt
      have hltb : w3.heap.size < w4.heap.size := (Array.getElem?_eq_some_iff.1 hrV).1
      have hV : ∀ k, V.ownBlock = some k → k ≠ gp ∧ k ≠ gw := fun k hk => by have := hgt k hk; omega
      have hcV := cell_of_row w4 w3.heap.size 4 _ _ _ hrV
      have HCV := Lib.hid hcV
      have HRV := Lib.hid hrV
      have HOV := Lib.hid hoV
      have HVV := Lib.hid hV
      have HGT := Lib.hid hgt
      clear hrV hoV hgt hV hcV
      refine wp_region_stepsM_then (words [wIs (.pointer (some ⟨w3.heap.size, 4, none⟩)), wIs V, wIs (.pointer (some ⟨gp, 0, none⟩)), wIs (.int .i64 (d : Int)), wIs (.int .i64 ((d : Int) + 1)), (fun v W => wEx w4.heap.size t1 v W ∧ Par L W gp gw c S1), wSl w4.heap.size t1, (fun v W => OwnK W w3.heap.size v (([] : List Ex) ++ [t1])), wIs (.pointer (some ⟨w3.heap.size, 4, none⟩))]) (RelK gp V) (RK gp V 5 7) (FK L gp gw c S0 w3.heap.size V ([] : List Ex) w4.heap.size 5 7) (by kernel_rfl) (fun a b c => RelK.trans a b c) (fun i W W' h => h.rel) (fun i j W W' hne h hr => FK.keep (by decide) (by omega) HVV.out i j W W' hne h hr) (RK.rel (kx := 5) (ka := 7) (i := 0) (by unfold RK; exact (Below.refl _ _).drew)) (FK.start HK4.out.par HOV.out (Nat.le_refl _)) ?hst rfl rfl rfl (by kernel_rfl) 9 _ rfl rfl ?steps ?last
      case hst =>
        intro i j v W W' hne hv hr
        unfold RK at hr
        match j, hne, hv with
        | 0, _, hv => exact hv
        | 1, _, hv => exact hv
        | 2, _, hv => exact hv
        | 3, _, hv => exact hv
        | 4, _, hv => exact hv
        | 5, hne, hv =>
          rw [if_neg (Ne.symm hne)] at hr
          split at hr
          · exact ⟨wEx_own hv.1 hr (fun k hk => (HGT.out k hk).2), hv.2.own hr HVV.out⟩
          · exact ⟨stable_ex _ _ v W W' hv.1 hr, hv.2.below hr⟩
        | 6, _, hv =>
          split at hr
          · exact stableR_sl gp _ (by omega) _ v W W' hv hr
          · split at hr
            · exact wSl_own hv hr (fun k hk => (HGT.out k hk).2)
            · exact stable_sl _ _ v W W' hv hr
        | 7, hne, hv =>
          split at hr
          · exact OwnK.kept hv hr (fun k hk => by injection hk with hk; omega)
          · rw [if_neg (Ne.symm hne)] at hr
            exact OwnK.below hv hr
        | 8, _, hv => exact hv
        | _ + 9, _, _ => trivial
      case steps =>
        refine StepsM.cons (stepM_value rfl fun a W hp _ => ?_) ?_
        · have f1 : a.tmps.getD 6 undef = .pointer (some ⟨w3.heap.size, 0, none⟩) := hp.old 6 rfl
          refine ⟨wanted_none rfl, _, _, run_fa rfl ?_, rfl, Below.refl _ _⟩
          show (Instr.fieldAt _ (a.tmps.getD 6 undef) 4).run _ W = _
          rw [f1]
          exact fa_expr4 _ W
        refine StepsM.cons (stepM_value rfl fun a W hp _ => ?_) ?_
        · have f1 : a.tmps.getD 25 undef = .pointer (some ⟨w3.heap.size, 4, none⟩) := (hp.on_ 0 rfl rfl rfl).2
          have hc : W.cell? ⟨w3.heap.size, 4, none⟩ = some V := by
            simp only [World.cell?]
            rw [hp.rel.block w3.heap.size hltb (by omega) (fun e => by have := (HGT.out _ e.symm).1; omega)]
            exact HCV.out
          exact ⟨wanted_none rfl, _, _, run_ldsl rfl f1 hc, rfl, Below.refl _ _⟩
        refine StepsM.cons (stepM_value rfl fun a W hp _ => ⟨wanted_none rfl, _, _, run_move (.inl rfl), (hp.old 0 rfl), Below.refl _ _⟩) ?_
        refine StepsM.cons (stepM_value rfl fun a W hp _ => ⟨wanted_none rfl, _, _, run_move (.inl rfl), (hp.old 1 rfl), Below.refl _ _⟩) ?_
        refine StepsM.cons (stepM_value rfl fun a W hp _ => ?_) ?_
        · have f1 : a.tmps.getD 28 undef = .int .i64 (d : Int) := (hp.on_ 3 rfl rfl rfl).2
          refine ⟨wanted_none rfl, _, _, run_bin3 rfl ?_ ?_, rfl, Below.refl _ _⟩
          · show (eqGuard _ _ _ _ (a.tmps.getD 28 undef) _).run _ W = _
            rw [f1]; rfl
          · show (binOp _ _ (a.tmps.getD 28 undef) _).run _ W = _
            rw [f1]; exact bin_add1 d hd
        refine StepsM.cons (stepM_enter rfl fun a W hp hF => ?_) ?_
        · have f1 : a.tmps.getD 27 undef = .pointer (some ⟨gp, 0, none⟩) := (hp.on_ 2 rfl rfl rfl).2
          have f2 : a.tmps.getD 29 undef = .int .i64 ((d : Int) + 1) := (hp.on_ 4 rfl rfl rfl).2
          refine ⟨wanted_none rfl, 76, _, run_enter2 rfl rfl Tryz.call76, ?_⟩
          show Calls _ _ #[a.tmps.getD 27 undef, a.tmps.getD 29 undef] W _
          rw [f1, f2]
          refine (KXR.out W (hF.1 rfl)).mono ?_
          rintro e W' ⟨o2, m2, n2, a2, x2, l2, c2, rfl, hi2, hp2, hg2⟩
          have := hp.rel.size
          exact ⟨_, rfl, ⟨⟨o2, m2, n2, a2, x2, l2, c2, rfl, hi2.mono (by omega) _⟩, hp2⟩, hg2⟩
        refine StepsM.cons (stepM_value rfl fun a W hp _ => ?_) ?_
        · obtain ⟨⟨o2, m2, n2, a2, x2, l2, c2, f3, hi2⟩, hp2⟩ : wEx w4.heap.size t1 (a.tmps.getD 30 undef) W ∧ Par L W gp gw c S1 := (hp.on_ 5 rfl rfl rfl).2
          have := hp.rel.size
          refine ⟨wanted_none rfl, _, _, run_bsl1 rfl ?_, wSl_new (by omega) hi2, (Below.refl _ _).alloc (Nat.le_refl _) _⟩
          show (Instr.buildSlice _ 1 #[(0, a.tmps.getD 30 undef)]).run _ W = _
          rw [f3]
          exact slice_one _ _ _ _ _ _ _ W
        refine StepsM.cons (stepM_value rfl fun a W hp hF => ?_) ?_
        · have f1 : a.tmps.getD 26 undef = V := (hp.on_ 1 rfl rfl rfl).2
          have f6 : wSl w4.heap.size t1 (a.tmps.getD 31 undef) W := (hp.on_ 6 rfl rfl rfl).2
          obtain ⟨hown, hBW⟩ := hF.2 rfl
          obtain ⟨v', w', hr, ho, hg⟩ := own_append 0 hown (by omega) f6 (by omega) (fun k hk => (HGT.out k hk).2) (by simp)
          refine ⟨wanted_none rfl, v', w', run_app rfl ?_, ho, hg⟩
          show (Builtin.append_ _ _ #[a.tmps.getD 26 undef, a.tmps.getD 31 undef]).run _ W = _
          rw [f1]
          exact hr
        refine StepsM.cons (stepM_value rfl fun a W hp _ => ?_) ?_
        · have f1 : a.tmps.getD 6 undef = .pointer (some ⟨w3.heap.size, 0, none⟩) := hp.old 6 rfl
          refine ⟨wanted_none rfl, _, _, run_fa rfl ?_, rfl, Below.refl _ _⟩
          show (Instr.fieldAt _ (a.tmps.getD 6 undef) 4).run _ W = _
          rw [f1]
          exact fa_expr4 _ W
        exact StepsM.nil
      case last =>
        intro a W hI
        have hn : OwnK W w3.heap.size (a.tmps.getD 32 undef) (([] : List Ex) ++ [t1]) := hI.new 7 _ 32 rfl rfl rfl
        obtain ⟨_, hp3⟩ : wEx w4.heap.size t1 (a.tmps.getD 30 undef) W ∧ Par L W gp gw c S1 := hI.new 5 _ 30 rfl rfl rfl
        have f8 : a.tmps.getD 33 undef = .pointer (some ⟨w3.heap.size, 4, none⟩) := hI.new 8 _ 33 rfl rfl rfl
        obtain ⟨g, _, hx⟩ := hI.puts [25, 26, 27, 28, 29, 30, 31, 32, 33] rfl
        obtain ⟨x9, k9, f7, _⟩ := own_ends hn
        rw [f7] at hn
        obtain ⟨hE5, hc5, hf5⟩ := KInv.put hgp hgw HK4.out HRV.out HOV.out hI.rel hp3 hn
        have hsz : a.tmps.size = 48 := hI.tmps
        have hdf : a.defers = [] := hI.defers
        have e0 : a.tmps.getD 0 undef = .pointer (some ⟨gp, 0, none⟩) := hI.old 0 (by simp)
        have e1 : a.tmps.getD 1 undef = .int .i64 (d : Int) := hI.old 1 (by simp)
        have e4 : a.tmps.getD 4 undef = .pointer (some ⟨w.heap.size, 0, none⟩) := hI.old 4 (by simp)
        have e6 : a.tmps.getD 6 undef = .pointer (some ⟨w3.heap.size, 0, none⟩) := hI.old 6 (by simp)
        clear hI
        refine wpOp_of rfl (wanted_none rfl) ?_
        unfold Oper.wp
        rw [run_stsl rfl (show a.eval (.tmp 33) = _ from f8) (show a.eval (.tmp 32) = _ from f7) hc5 hf5, Oper.upon_skip]
        have HE5 := Lib.hid hE5
        clear hE5 hc5 hf5 hn hp3 f7 f8
        clear hx
        obtain ⟨f, hf, hx⟩ := act_eta hsz hdf
        rw [hf] at e0 e1 e4 e6
        clear hsz hdf hf
        subst hx
        go_wp2_with fail
        go_loopw [] (fun wr => ∃ (k : Nat) (es : List Ex) (S : St), es ++ (argsS L nx.expr k S).1 = t1 :: RK0.1 ∧ (argsS L nx.expr k S).2 = RK0.2 ∧ L.length ≤ k + S.i ∧ Ok L S ∧ es.length ≤ S.i ∧ KInv L w gp gw c w3.heap.size xt xa wr es S)
          (fun wr => leftOf gp wr)
        case atStart => exact ⟨L.length, [t1], S1, by rw [← HRK.out]; rfl, by rw [← HRK.out], by omega, hM1.out.2.2, by have := hM1.out.1; simp; omega, HE5.out⟩
        case round =>
          obtain ⟨k, es, S, hR1, hR2, hfk, hps, hel, hKr⟩ := hrel
          have hltS := hKr.par.lt
          have hleft := leftOf_par hKr.par
          have ktc : ∀ W, Par L W gp gw c S → Calls Tryz.prog 58 #[.pointer (some ⟨gp, 0, none⟩), .string ⟨#[44]⟩] W (Gives1 L gp gw c (.bool (takeS L (bs [44]) S).1) (takeS L (bs [44]) S).2 W) := fun W hp => take_any L hG (bs [44]) W gp gw c S hp
          unfold takeS at ktc
          have hstop := argsS_stop L nx.expr k S
          have hgo : isS L (bs [44]) S = true → ∃ k', k = k' + 1 ∧ argsS L nx.expr k S = ((nx.expr (nextS L S)).1 :: (argsS L nx.expr k' (nx.expr (nextS L S)).2).1, (argsS L nx.expr k' (nx.expr (nextS L S)).2).2) ∧ L.length ≤ k' + (nx.expr (nextS L S)).2.i ∧ Ok L (nx.expr (nextS L S)).2 ∧ S.i + 1 ≤ (nx.expr (nextS L S)).2.i ∧ Ok L (nextS L S) := fun hb => by
            have hkk := kind_of_is HEE.out hltS (s := (bs [44])) (by simp [bs]) hb
            have h1 := nextS_lt hkk
            have h2 := nextS_ok hG hltS hps
            have h3 := HM.out (nextS L S) (nextS_in hG hltS) h2
            obtain ⟨k', rfl⟩ : ∃ k', k = k' + 1 := ⟨k - 1, by omega⟩
            exact ⟨k', rfl, argsS_go L nx.expr k' S hb, by omega, h3.2.2, by omega, h2⟩
          have kxs := fun W (hp : Par L W gp gw c (nextS L S)) (hq : Ok L (nextS L S)) => HX.out W (nextS L S) hp hq
          obtain ⟨b3, hb3'⟩ : ∃ b, b = isS L (bs [44]) S := ⟨_, rfl⟩
          rw [← hb3'] at hgo hstop
          simp only [← hb3'] at ktc
          obtain ⟨N, hN⟩ : ∃ N, N = nextS L S := ⟨_, rfl⟩
          rw [← hN] at hgo
          simp only [← hN] at ktc kxs
          obtain ⟨t2, ht2⟩ : ∃ y, y = (nx.expr N).1 := ⟨_, rfl⟩
          obtain ⟨S2, hS2⟩ : ∃ y, y = (nx.expr N).2 := ⟨_, rfl⟩
          rw [← ht2, ← hS2] at hgo
          simp only [← ht2, ← hS2] at kxs
          have HKr := Lib.hid hKr
          have HR1 := Lib.hid hR1
          have HR2 := Lib.hid hR2
          have HGO := Lib.hid hgo
          have HST := Lib.hid hstop
          have HLF := Lib.hid hleft
          have KXS := Lib.hid kxs
          have kt1 := ktc _ hKr.par
          clear hKr hR1 hR2 hgo hstop hleft kxs ktc hb3' hN ht2 hS2 HK4 HE5
          cases b3
          · have HEQ0 : Hid (RR = (.mk (bs [99, 97, 108, 108]) xt 0 xa es, needS L (bs [41]) S)) := Lib.hid (by
              have e1 := HR1.out
              have e2 := HR2.out
              rw [HST.out rfl] at e1 e2
              simp only [List.append_nil] at e1 e2
              rw [HRR.out, e1]
              simp [e2])
            clear HR1 HR2 HGO HST KXS
            go_wp2_with fail
            (with_reducible refine kt1.mono ?_)
            rintro e w5 ⟨rfl, hp, hg⟩
            have HK5 := Lib.hid (KInv.step hgp HKr.out hg hp)
            clear hp hg kt1 HKr
            have kn := KN.out _ S HK5.out.par
            have HK0 := HK5
            clear HK5
            go_wp2_with fail
            (with_reducible refine kn.mono ?_)
            rintro e w9 ⟨rfl, hp, hg⟩
            have hK9 := KInv.step hgp HK0.out hg hp
            obtain ⟨x9, l9, k9, hr9, hfin⟩ := KInv.stop hgp hgw hK9
            have LR9 := Lib.hid hK9.res
            have R9 := Lib.hid hr9
            have HF := Lib.hid hfin
            have HEQ := Lib.hid HEQ0.out
            clear hK9 hr9 hfin hp hg kn HRR HX HM HRK HEE KX1 KN
            go_wp2_with (first | (refine wpList_load_row rfl 54 (.tmp 6) rfl w3.heap.size rfl 54 #[.string ⟨#[99, 97, 108, 108]⟩, .string xt, .int .i64 0, .int .i64 (xa : Int), .slice x9 l9 k9] (0, 0) _ R9.out Tryz.underlying54 rfl HSE.out ?_) | (refine wpList_store_row rfl 54 (.tmp 4) (.tmp 47) rfl w.heap.size #[.string ⟨#[99, 97, 108, 108]⟩, .string xt, .int .i64 0, .int .i64 (xa : Int), .slice x9 l9 k9] rfl rfl 54 _ LR9.out HSE.out rfl (expr_one _ _ _ _ _ _ _) ?_))
            have hset := setRow_heap w9 w.heap.size _ #[.string ⟨#[99, 97, 108, 108]⟩, .string xt, .int .i64 0, .int .i64 (xa : Int), .slice x9 l9 k9] _ _ LR9.out
            refine bodyPost_ret (v := .agg #[.string ⟨#[99, 97, 108, 108]⟩, .string xt, .int .i64 0, .int .i64 (xa : Int), .slice x9 l9 k9]) (results_cell_row (p := 4) (ty := 54) rfl _ _ w.heap.size 54 _ (0, 0) _ rfl hset Tryz.underlying54 rfl HSE.out) rfl ?_
            rw [HEQ.out]
            exact HF.out
          · obtain ⟨k', hk', hargs, hl1, hl2, hl3, hl4⟩ := HGO.out rfl
            have HEQ1 : Hid ((es ++ [t2]) ++ (argsS L nx.expr k' S2).1 = t1 :: RK0.1) := Lib.hid (by rw [← HR1.out, hargs]; simp)
            have HEQ2 : Hid ((argsS L nx.expr k' S2).2 = RK0.2) := Lib.hid (by rw [← HR2.out, hargs])
            have hel2 : (es ++ [t2]).length ≤ S2.i := by simp; omega
            clear HR1 HR2 HGO HST hargs hk'
            go_wp2_with fail
            (with_reducible refine kt1.mono ?_)
            rintro e w5 ⟨rfl, hp, hg⟩
            have HK5 := Lib.hid (KInv.step hgp HKr.out hg hp)
            have KXR : Hid (∀ W, Par L W gp gw c N → Calls Tryz.prog 76 #[.pointer (some ⟨gp, 0, none⟩), .int .i64 ((d : Int) + 1)] W (GivesX L gp gw c t2 S2 W)) := Lib.hid (fun W hp => KXS.out W hp hl4)
            clear hp hg kt1 HKr KXS
            go_wp2_with fail
            obtain ⟨V, hrV, hoV⟩ := HK5.out.row
            have hgt := hoV.gt
            have hltb : w3.heap.size < w5.heap.size := (Array.getElem?_eq_some_iff.1 hrV).1
            have hV : ∀ k, V.ownBlock = some k → k ≠ gp ∧ k ≠ gw := fun k hk => by have := hgt k hk; omega
            have hcV := cell_of_row w5 w3.heap.size 4 _ _ _ hrV
            have HCV := Lib.hid hcV
            have HRV := Lib.hid hrV
            have HOV := Lib.hid hoV
            have HVV := Lib.hid hV
            have HGT := Lib.hid hgt
            clear hrV hoV hgt hV hcV
            refine wp_region_stepsM_then (words [wIs (.pointer (some ⟨w3.heap.size, 4, none⟩)), wIs V, wIs (.pointer (some ⟨gp, 0, none⟩)), wIs (.int .i64 (d : Int)), wIs (.int .i64 ((d : Int) + 1)), (fun v W => wEx w5.heap.size t2 v W ∧ Par L W gp gw c S2), wSl w5.heap.size t2, (fun v W => OwnK W w3.heap.size v (es ++ [t2])), wIs (.pointer (some ⟨w3.heap.size, 4, none⟩))]) (RelK gp V) (RK gp V 5 7) (FK L gp gw c N w3.heap.size V es w5.heap.size 5 7) (by kernel_rfl) (fun a b c => RelK.trans a b c) (fun i W W' h => h.rel) (fun i j W W' hne h hr => FK.keep (by decide) (by omega) HVV.out i j W W' hne h hr) (RK.rel (kx := 5) (ka := 7) (i := 0) (by unfold RK; exact (Below.refl _ _).drew)) (FK.start HK5.out.par HOV.out (Nat.le_refl _)) ?hst rfl rfl rfl (by kernel_rfl) 9 _ rfl rfl ?steps ?last
            case hst =>
              intro i j v W W' hne hv hr
              unfold RK at hr
              match j, hne, hv with
              | 0, _, hv => exact hv
              | 1, _, hv => exact hv
              | 2, _, hv => exact hv
              | 3, _, hv => exact hv
              | 4, _, hv => exact hv
              | 5, hne, hv =>
                rw [if_neg (Ne.symm hne)] at hr
                split at hr
                · exact ⟨wEx_own hv.1 hr (fun k hk => (HGT.out k hk).2), hv.2.own hr HVV.out⟩
                · exact ⟨stable_ex _ _ v W W' hv.1 hr, hv.2.below hr⟩
              | 6, _, hv =>
                split at hr
                · exact stableR_sl gp _ (by omega) _ v W W' hv hr
                · split at hr
                  · exact wSl_own hv hr (fun k hk => (HGT.out k hk).2)
                  · exact stable_sl _ _ v W W' hv hr
              | 7, hne, hv =>
                split at hr
                · exact OwnK.kept hv hr (fun k hk => by injection hk with hk; omega)
                · rw [if_neg (Ne.symm hne)] at hr
                  exact OwnK.below hv hr
              | 8, _, hv => exact hv
              | _ + 9, _, _ => trivial
            case steps =>
              refine StepsM.cons (stepM_value rfl fun a W hp _ => ?_) ?_
              · have f1 : a.tmps.getD 6 undef = .pointer (some ⟨w3.heap.size, 0, none⟩) := hp.old 6 rfl
                refine ⟨wanted_none rfl, _, _, run_fa rfl ?_, rfl, Below.refl _ _⟩
                show (Instr.fieldAt _ (a.tmps.getD 6 undef) 4).run _ W = _
                rw [f1]
                exact fa_expr4 _ W
              refine StepsM.cons (stepM_value rfl fun a W hp _ => ?_) ?_
              · have f1 : a.tmps.getD 36 undef = .pointer (some ⟨w3.heap.size, 4, none⟩) := (hp.on_ 0 rfl rfl rfl).2
                have hc : W.cell? ⟨w3.heap.size, 4, none⟩ = some V := by
                  simp only [World.cell?]
                  rw [hp.rel.block w3.heap.size hltb (by omega) (fun e => by have := (HGT.out _ e.symm).1; omega)]
                  exact HCV.out
                exact ⟨wanted_none rfl, _, _, run_ldsl rfl f1 hc, rfl, Below.refl _ _⟩
              refine StepsM.cons (stepM_value rfl fun a W hp _ => ⟨wanted_none rfl, _, _, run_move (.inl rfl), (hp.old 0 rfl), Below.refl _ _⟩) ?_
              refine StepsM.cons (stepM_value rfl fun a W hp _ => ⟨wanted_none rfl, _, _, run_move (.inl rfl), (hp.old 1 rfl), Below.refl _ _⟩) ?_
              refine StepsM.cons (stepM_value rfl fun a W hp _ => ?_) ?_
              · have f1 : a.tmps.getD 39 undef = .int .i64 (d : Int) := (hp.on_ 3 rfl rfl rfl).2
                refine ⟨wanted_none rfl, _, _, run_bin3 rfl ?_ ?_, rfl, Below.refl _ _⟩
                · show (eqGuard _ _ _ _ (a.tmps.getD 39 undef) _).run _ W = _
                  rw [f1]; rfl
                · show (binOp _ _ (a.tmps.getD 39 undef) _).run _ W = _
                  rw [f1]; exact bin_add1 d hd
              refine StepsM.cons (stepM_enter rfl fun a W hp hF => ?_) ?_
              · have f1 : a.tmps.getD 38 undef = .pointer (some ⟨gp, 0, none⟩) := (hp.on_ 2 rfl rfl rfl).2
                have f2 : a.tmps.getD 40 undef = .int .i64 ((d : Int) + 1) := (hp.on_ 4 rfl rfl rfl).2
                refine ⟨wanted_none rfl, 76, _, run_enter2 rfl rfl Tryz.call76, ?_⟩
                show Calls _ _ #[a.tmps.getD 38 undef, a.tmps.getD 40 undef] W _
                rw [f1, f2]
                refine (KXR.out W (hF.1 rfl)).mono ?_
                rintro e W' ⟨o2, m2, n2, a2, x2, l2, c2, rfl, hi2, hp2, hg2⟩
                have := hp.rel.size
                exact ⟨_, rfl, ⟨⟨o2, m2, n2, a2, x2, l2, c2, rfl, hi2.mono (by omega) _⟩, hp2⟩, hg2⟩
              refine StepsM.cons (stepM_value rfl fun a W hp _ => ?_) ?_
              · obtain ⟨⟨o2, m2, n2, a2, x2, l2, c2, f3, hi2⟩, hp2⟩ : wEx w5.heap.size t2 (a.tmps.getD 41 undef) W ∧ Par L W gp gw c S2 := (hp.on_ 5 rfl rfl rfl).2
                have := hp.rel.size
                refine ⟨wanted_none rfl, _, _, run_bsl1 rfl ?_, wSl_new (by omega) hi2, (Below.refl _ _).alloc (Nat.le_refl _) _⟩
                show (Instr.buildSlice _ 1 #[(0, a.tmps.getD 41 undef)]).run _ W = _
                rw [f3]
                exact slice_one _ _ _ _ _ _ _ W
              refine StepsM.cons (stepM_value rfl fun a W hp hF => ?_) ?_
              · have f1 : a.tmps.getD 37 undef = V := (hp.on_ 1 rfl rfl rfl).2
                have f6 : wSl w5.heap.size t2 (a.tmps.getD 42 undef) W := (hp.on_ 6 rfl rfl rfl).2
                obtain ⟨hown, hBW⟩ := hF.2 rfl
                obtain ⟨v', w', hr, ho, hg⟩ := own_append 0 hown (by omega) f6 (by omega) (fun k hk => (HGT.out k hk).2) (by omega)
                refine ⟨wanted_none rfl, v', w', run_app rfl ?_, ho, hg⟩
                show (Builtin.append_ _ _ #[a.tmps.getD 37 undef, a.tmps.getD 42 undef]).run _ W = _
                rw [f1]
                exact hr
              refine StepsM.cons (stepM_value rfl fun a W hp _ => ?_) ?_
              · have f1 : a.tmps.getD 6 undef = .pointer (some ⟨w3.heap.size, 0, none⟩) := hp.old 6 rfl
                refine ⟨wanted_none rfl, _, _, run_fa rfl ?_, rfl, Below.refl _ _⟩
                show (Instr.fieldAt _ (a.tmps.getD 6 undef) 4).run _ W = _
                rw [f1]
                exact fa_expr4 _ W
              exact StepsM.nil
            case last =>
              intro a W hI
              have hn : OwnK W w3.heap.size (a.tmps.getD 43 undef) (es ++ [t2]) := hI.new 7 _ 43 rfl rfl rfl
              obtain ⟨_, hp3⟩ : wEx w5.heap.size t2 (a.tmps.getD 41 undef) W ∧ Par L W gp gw c S2 := hI.new 5 _ 41 rfl rfl rfl
              have f8 : a.tmps.getD 44 undef = .pointer (some ⟨w3.heap.size, 4, none⟩) := hI.new 8 _ 44 rfl rfl rfl
              obtain ⟨g, _, hx⟩ := hI.puts [36, 37, 38, 39, 40, 41, 42, 43, 44] rfl
              obtain ⟨x9, k9, f7, _⟩ := own_ends hn
              rw [f7] at hn
              obtain ⟨hE5, hc5, hf5⟩ := KInv.put hgp hgw HK5.out HRV.out HOV.out hI.rel hp3 hn
              clear hI
              refine wpOp_of rfl (wanted_none rfl) ?_
              unfold Oper.wp
              rw [run_stsl rfl (show a.eval (.tmp 44) = _ from f8) (show a.eval (.tmp 43) = _ from f7) hc5 hf5, Oper.upon_skip]
              have HE5 := Lib.hid hE5
              clear hE5 hc5 hf5 hn hp3 f7 f8
              subst hx
              simp only [List.foldl_cons, List.foldl_nil]
              simp only [Act.put, List.setIfInBounds_toArray, List.set_cons_succ, List.set_cons_zero]
              simp only [Exit.inBlock, Exit.then]
              refine ⟨⟨_, _, _, _, _, _, _, _, _, _, _, ⟨k', es ++ [t2], S2, HEQ1.out, HEQ2.out, hl1, hl2, hel2, HE5.out⟩, rfl⟩, ?_⟩
              rw [leftOf_par HE5.out.par, HLF.out]
              have := HE5.out.par.lt
              omega
    · go_enter Tryz.func129, Tryz.ntmps129
      go_wp2_with fail
      (with_reducible refine kp.mono ?_)
      rintro e w2 ⟨rfl, hp, hg⟩
      have hs2 : w.heap.size + 1 ≤ w2.heap.size := by rw [← hs1]; exact hg.size
      have hb2 : Below w2.heap.size w2 (w2.alloc (.cells #[.int .i64 (xk : Int), .string xt, .int .i64 xn, .int .i64 (xa : Int)] 77)) := (Below.refl _ _).alloc (Nat.le_refl _) _
      have hn2 := heap_alloc_new w2 (.cells #[.int .i64 (xk : Int), .string xt, .int .i64 xn, .int .i64 (xa : Int)] 77)
      have ha2 : (w2.alloc (.cells #[.int .i64 (xk : Int), .string xt, .int .i64 xn, .int .i64 (xa : Int)] 77)).heap.size = w2.heap.size + 1 := by simp
      have kt2 := KT.out _ (hp.below hb2)
      have G2 := Lib.hid (gb_trans HB1.out (gb_trans hg (gb_below (r := some gp) hb2)))
      have LR2 := Lib.hid ((hb2.block w.heap.size (by omega)).trans ((hg.block w.heap.size (by omega) (by intro e; injection e with e; omega)).trans HN1.out))
      have HN2 := Lib.hid hn2
      clear hp hg hb2 hn2 kp KT
      go_wp2_with fail
      (with_reducible refine kt2.mono ?_)
      rintro e w3 ⟨rfl, hp, hg⟩
      have hs3 : w2.heap.size + 1 ≤ w3.heap.size := by rw [← ha2]; exact hg.size
      have LR := Lib.hid ((hg.block w.heap.size (by omega) (by intro e; injection e with e; omega)).trans LR2.out)
      have hrw := (hg.block w2.heap.size (by omega) (by intro e; injection e with e; omega)).trans HN2.out
      have c1w := cell_of_row w3 w2.heap.size 1 _ _ _ hrw
      have c3w := cell_of_row w3 w2.heap.size 3 _ _ _ hrw
      have G3 := Lib.hid (gb_trans G2.out hg)
      have HP := Lib.hid hp
      clear hp hg hrw kt2 LR2 HN2 G2
      have hb4 : Below w3.heap.size w3 (w3.alloc (.cells #[.string ⟨#[99, 97, 108, 108]⟩, .string xt, .int .i64 0, .int .i64 (xa : Int), .slice none 0 0] 54)) := (Below.refl _ _).alloc (Nat.le_refl _) _
      have hn4 := heap_alloc_new w3 (.cells #[.string ⟨#[99, 97, 108, 108]⟩, .string xt, .int .i64 0, .int .i64 (xa : Int), .slice none 0 0] 54)
      have hK4 : KInv L w gp gw c w3.heap.size xt xa (w3.alloc (.cells #[.string ⟨#[99, 97, 108, 108]⟩, .string xt, .int .i64 0, .int .i64 (xa : Int), .slice none 0 0] 54)) [] S0 := ⟨HP.out.below hb4, gb_trans G3.out (gb_below hb4), (hb4.block w.heap.size (by omega)).trans LR.out, by omega, _, hn4, OwnK.nil _ _⟩
      have ki4 := KI.out _ hK4.par
      have HK4 := Lib.hid hK4
      clear hb4 hn4 hK4 KI HP G3 LR
      go_wp2_with fail
      (with_reducible refine ki4.mono ?_)
      rintro e w' ⟨rfl, hw'⟩
      rw [hw']
      clear ki4 hw' w' c1w c3w
      have kn := KN.out _ S0 HK4.out.par
      have HK0 := HK4
      clear HK4
      go_wp2_with fail
      (with_reducible refine kn.mono ?_)
      rintro e w9 ⟨rfl, hp, hg⟩
      have hK9 := KInv.step hgp HK0.out hg hp
      obtain ⟨x9, l9, k9, hr9, hfin⟩ := KInv.stop hgp hgw hK9
      have LR9 := Lib.hid hK9.res
      have R9 := Lib.hid hr9
      have HF := Lib.hid hfin
      have HEQ := Lib.hid (show RR = (.mk (bs [99, 97, 108, 108]) xt 0 xa [], needS L (bs [41]) S0) by rw [HRR.out]; simp)
      clear hK9 hr9 hfin hp hg kn HRR HX HM HRK HEE KX1 KN
      go_wp2_with (first | (refine wpList_load_row rfl 54 (.tmp 6) rfl w3.heap.size rfl 54 #[.string ⟨#[99, 97, 108, 108]⟩, .string xt, .int .i64 0, .int .i64 (xa : Int), .slice x9 l9 k9] (0, 0) _ R9.out Tryz.underlying54 rfl HSE.out ?_) | (refine wpList_store_row rfl 54 (.tmp 4) (.tmp 47) rfl w.heap.size #[.string ⟨#[99, 97, 108, 108]⟩, .string xt, .int .i64 0, .int .i64 (xa : Int), .slice x9 l9 k9] rfl rfl 54 _ LR9.out HSE.out rfl (expr_one _ _ _ _ _ _ _) ?_))
      have hset := setRow_heap w9 w.heap.size _ #[.string ⟨#[99, 97, 108, 108]⟩, .string xt, .int .i64 0, .int .i64 (xa : Int), .slice x9 l9 k9] _ _ LR9.out
      refine bodyPost_ret (v := .agg #[.string ⟨#[99, 97, 108, 108]⟩, .string xt, .int .i64 0, .int .i64 (xa : Int), .slice x9 l9 k9]) (results_cell_row (p := 4) (ty := 54) rfl _ _ w.heap.size 54 _ (0, 0) _ rfl hset Tryz.underlying54 rfl HSE.out) rfl ?_
      rw [HEQ.out]
      exact HF.out
end Go.Proofs.YtjlnihennlkmpaaGreatDoor
