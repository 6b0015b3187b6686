/-
  Texts that the statements stand on, part 2.
-/
import Derived.Test.YtejljfoacbpliaaMa
import Derived.Deep.DeepCutAuto
import Derived.Deep.CutBlock
import Derived.Test.YtejljfoacbpliaaRows
set_option linter.unusedVariables false
set_option linter.unusedSimpArgs false
namespace Go.Proofs.Ytejljfoacbpliaa
open Go Go.RowKit
set_option maxHeartbeats 4000000 in
set_option maxRecDepth 100000 in
theorem primC_any {K : K4} (hG : Good4 K) {d : Nat} (expr inner : S4 → Ex × S4) (he : CX4 K 123 d expr) (hi : CX4 K 152 d inner) (w : World) (s : S4) (h : Par4 K w d s) (hb : is4 K.L (⟨#[40]⟩ : ByteArray) s = false) :
    Calls Try.prog 151 #[.pointer (some ⟨K.gp, 0, none⟩)] w (GivesX4 K d s (primG4 K.L expr inner s) w) := by
  have F1 := (Fr.start h).alloc w.heap.size rfl 53 #[.string ⟨#[]⟩, .string ⟨#[]⟩, .int .i64 0, .int .i64 0, .slice none 0 0]
  have HSE := Lib.hid size_e4
  have kw := w_any hG _ d s F1.par
  have kt := fun W (hp : Par4 K W d s) => take4_any (⟨#[40]⟩ : ByteArray) hG W d s hp
  unfold take4 at kt
  simp only [hb, Bool.false_eq_true, if_false] at kt
  unfold primG4
  rw [if_neg (by rw [hb]; decide)]
  obtain ⟨b6, hb6⟩ : ∃ b, b = primB K.L s := ⟨_, rfl⟩
  have HB6 := Lib.hid hb6
  unfold primB at hb6
  have g0 := fun W (hp : Par4 K W d s) => is4_any (⟨#[116, 114, 117, 101]⟩ : ByteArray) hG W d s hp
  obtain ⟨b_0, hb_0⟩ : ∃ b, b = is4 K.L (⟨#[116, 114, 117, 101]⟩ : ByteArray) s := ⟨_, rfl⟩
  rw [← hb_0] at g0 hb6
  have H0 := Lib.hid g0
  have HB_0 := Lib.hid hb_0
  have g1 := fun W (hp : Par4 K W d s) => is4_any (⟨#[102, 97, 108, 115, 101]⟩ : ByteArray) hG W d s hp
  obtain ⟨b_1, hb_1⟩ : ∃ b, b = is4 K.L (⟨#[102, 97, 108, 115, 101]⟩ : ByteArray) s := ⟨_, rfl⟩
  rw [← hb_1] at g1 hb6
  have H1 := Lib.hid g1
  have HB_1 := Lib.hid hb_1
  have g2 := fun W (hp : Par4 K W d s) => is4_any (⟨#[105, 102]⟩ : ByteArray) hG W d s hp
  obtain ⟨b_2, hb_2⟩ : ∃ b, b = is4 K.L (⟨#[105, 102]⟩ : ByteArray) s := ⟨_, rfl⟩
  rw [← hb_2] at g2 hb6
  have H2 := Lib.hid g2
  have HB_2 := Lib.hid hb_2
  have g3 := fun W (hp : Par4 K W d s) => is4_any (⟨#[109, 101, 114, 103, 101]⟩ : ByteArray) hG W d s hp
  obtain ⟨b_3, hb_3⟩ : ∃ b, b = is4 K.L (⟨#[109, 101, 114, 103, 101]⟩ : ByteArray) s := ⟨_, rfl⟩
  rw [← hb_3] at g3 hb6
  have H3 := Lib.hid g3
  have HB_3 := Lib.hid hb_3
  obtain ⟨P, hP⟩ : ∃ P, P = primP4 K.L s := ⟨_, rfl⟩
  have hP2 := hP.trans (primP4_eq K.L s)
  rw [← HB6.out] at hP2
  have hmP := primP4_mono K.L s
  rw [← hP] at hmP ⊢
  have hPk : P.k = s.k := by rw [hP]; exact primP4_k K.L s
  have hkP : cur4 K.L P = cur4 K.L s := by unfold cur4; rw [hPk]
  obtain ⟨yy, hyy⟩ : ∃ y, y = cur4 K.L s := ⟨_, rfl⟩
  rw [← hyy] at kw hb6 ⊢
  rw [← hyy] at hkP
  obtain ⟨yk, yt, yn, ya⟩ := yy
  unfold W4.cells at kw
  simp only at kw hb6 ⊢
  obtain ⟨RR, hRR⟩ : ∃ r, r = (if P.er = 0 then if yk = 3 then (Ex.mk (⟨#[105, 110, 116]⟩ : ByteArray) ⟨#[]⟩ yn ya [], inc4 P) else if is4 K.L (⟨#[116, 114, 117, 101]⟩ : ByteArray) P = true then (Ex.mk (⟨#[98, 111, 111, 108]⟩ : ByteArray) ⟨#[]⟩ 1 ya [], inc4 P) else if is4 K.L (⟨#[102, 97, 108, 115, 101]⟩ : ByteArray) P = true then (Ex.mk (⟨#[98, 111, 111, 108]⟩ : ByteArray) ⟨#[]⟩ 0 ya [], inc4 P) else if is4 K.L (⟨#[105, 102]⟩ : ByteArray) P = true then if4 K.L expr ya (inc4 P) else if is4 K.L (⟨#[109, 101, 114, 103, 101]⟩ : ByteArray) P = true then merge4 K.L inner ya (inc4 P) else named4 K.L expr ya P else named4 K.L expr ya P) := ⟨_, rfl⟩
  rw [← hRR]
  have HRR := Lib.hid hRR
  have HP2 := Lib.hid hP2
  have HMP := Lib.hid hmP
  have HKP := Lib.hid hkP
  have HPK := Lib.hid hPk
  have HF1 := Lib.hid F1
  have HKT := Lib.hid kt
  have HC6 := Lib.hid hb6
  have HHE := Lib.hid he
  have HHI := Lib.hid hi
  clear hRR hP hP2 hmP hkP hPk F1 h kt hb6 he hi hyy hb g0 g1 g2 g3 hb_0 hb_1 hb_2 hb_3
  go_enter Try.func151, Try.ntmps151
  go_wp2_with fail
  (with_reducible refine kw.mono ?_)
  rintro e w1 ⟨rfl, hb⟩
  have F2 := (HF1.out.call (HF1.out.par.below hb) (gb_below hb)).alloc w1.heap.size rfl 148 #[.int .i64 (yk : Int), .string yt, .int .i64 yn, .int .i64 (ya : Int)]
  have kt := HKT.out _ F2.par
  have HF2 := Lib.hid F2
  clear hb kw F2
  go_wp2_with fail
  (with_reducible refine kt.mono ?_)
  rintro e w2 ⟨rfl, hp, hg, _⟩
  have HF3 := Lib.hid (HF2.out.call hp hg)
  clear hp hg kt
  go_upto_region 6 with fail
  go_cut [46] (fun v wx => v = .bool b6 ∧ Fr K w d [(w.heap.size, 53, #[.string ⟨#[]⟩, .string ⟨#[]⟩, .int .i64 0, .int .i64 0, .slice none 0 0]), (w1.heap.size, 148, #[.int .i64 (yk : Int), .string yt, .int .i64 yn, .int .i64 (ya : Int)])] [] wx s)
  case first =>
--
    obtain ⟨c0, c2, c3⟩ := HF3.out.word 1 rfl
    have k0 := H0.out _ HF3.out.par
    by_cases e1 : yk = 1
    · have d1 : ((yk : Int) == 1) = true := by simp; omega
      obtain rfl : b6 = true := by rw [HC6.out, show (yk == 1) = true by simp; omega]; simp
      clear e1
      go_wp2_with fail
      go_meet
      exact ⟨rfl, HF3.out⟩
    · have d1 : ((yk : Int) == 1) = false := by simp; omega
      have n1 : (yk == 1) = false := by simp; omega
      by_cases e3 : yk = 3
      · have d3 : ((yk : Int) == 3) = true := by simp; omega
        obtain rfl : b6 = true := by rw [HC6.out, show (yk == 3) = true by simp; omega]; simp
        clear e1 e3 n1
        go_wp2_with fail
        go_meet
        exact ⟨rfl, HF3.out⟩
      · have d3 : ((yk : Int) == 3) = false := by simp; omega
        have hc := HC6.out
        rw [n1, show (yk == 3) = false by simp; omega] at hc
        clear e1 e3 n1
        cases b_0 with
        | true =>
          obtain rfl : b6 = true := by rw [hc]; simp
          clear hc
          go_wp2_with fail
          (with_reducible refine k0.mono ?_)
          rintro e w3 ⟨rfl, hp, hg, _⟩
          have HF4 := Lib.hid (HF3.out.call hp hg)
          obtain ⟨c0, c2, c3⟩ := HF4.out.word 1 rfl
          clear hp hg k0
          go_wp2_with fail
          go_meet
          exact ⟨rfl, HF4.out⟩
        | false =>
          cases b_1 with
          | true =>
            obtain rfl : b6 = true := by rw [hc]; simp
            clear hc
            go_wp2_with fail
            (with_reducible refine k0.mono ?_)
            rintro e w3 ⟨rfl, hp, hg, _⟩
            have HF4 := Lib.hid (HF3.out.call hp hg)
            obtain ⟨c0, c2, c3⟩ := HF4.out.word 1 rfl
            clear hp hg k0
            have k1 := H1.out _ HF4.out.par
            go_wp2_with fail
            (with_reducible refine k1.mono ?_)
            rintro e w4 ⟨rfl, hp, hg, _⟩
            have HF5 := Lib.hid (HF4.out.call hp hg)
            obtain ⟨c0, c2, c3⟩ := HF5.out.word 1 rfl
            clear hp hg k1
            go_wp2_with fail
            go_meet
            exact ⟨rfl, HF5.out⟩
          | false =>
            cases b_2 with
            | true =>
              obtain rfl : b6 = true := by rw [hc]; simp
              clear hc
              go_wp2_with fail
              (with_reducible refine k0.mono ?_)
              rintro e w3 ⟨rfl, hp, hg, _⟩
              have HF4 := Lib.hid (HF3.out.call hp hg)
              obtain ⟨c0, c2, c3⟩ := HF4.out.word 1 rfl
              clear hp hg k0
              have k1 := H1.out _ HF4.out.par
              go_wp2_with fail
              (with_reducible refine k1.mono ?_)
              rintro e w4 ⟨rfl, hp, hg, _⟩
              have HF5 := Lib.hid (HF4.out.call hp hg)
              obtain ⟨c0, c2, c3⟩ := HF5.out.word 1 rfl
              clear hp hg k1
              have k2 := H2.out _ HF5.out.par
              go_wp2_with fail
              (with_reducible refine k2.mono ?_)
              rintro e w5 ⟨rfl, hp, hg, _⟩
              have HF6 := Lib.hid (HF5.out.call hp hg)
              obtain ⟨c0, c2, c3⟩ := HF6.out.word 1 rfl
              clear hp hg k2
              go_wp2_with fail
              go_meet
              exact ⟨rfl, HF6.out⟩
            | false =>
              cases b_3 with
              | true =>
                obtain rfl : b6 = true := by rw [hc]; simp
                clear hc
                go_wp2_with fail
                (with_reducible refine k0.mono ?_)
                rintro e w3 ⟨rfl, hp, hg, _⟩
                have HF4 := Lib.hid (HF3.out.call hp hg)
                obtain ⟨c0, c2, c3⟩ := HF4.out.word 1 rfl
                clear hp hg k0
                have k1 := H1.out _ HF4.out.par
                go_wp2_with fail
                (with_reducible refine k1.mono ?_)
                rintro e w4 ⟨rfl, hp, hg, _⟩
                have HF5 := Lib.hid (HF4.out.call hp hg)
                obtain ⟨c0, c2, c3⟩ := HF5.out.word 1 rfl
                clear hp hg k1
                have k2 := H2.out _ HF5.out.par
                go_wp2_with fail
                (with_reducible refine k2.mono ?_)
                rintro e w5 ⟨rfl, hp, hg, _⟩
                have HF6 := Lib.hid (HF5.out.call hp hg)
                obtain ⟨c0, c2, c3⟩ := HF6.out.word 1 rfl
                clear hp hg k2
                have k3 := H3.out _ HF6.out.par
                go_wp2_with fail
                (with_reducible refine k3.mono ?_)
                rintro e w6 ⟨rfl, hp, hg, _⟩
                have HF7 := Lib.hid (HF6.out.call hp hg)
                obtain ⟨c0, c2, c3⟩ := HF7.out.word 1 rfl
                clear hp hg k3
                go_wp2_with fail
                go_meet
                exact ⟨rfl, HF7.out⟩
              | false =>
                obtain rfl : b6 = false := by rw [hc]; simp
                clear hc
                go_wp2_with fail
                (with_reducible refine k0.mono ?_)
                rintro e w3 ⟨rfl, hp, hg, _⟩
                have HF4 := Lib.hid (HF3.out.call hp hg)
                obtain ⟨c0, c2, c3⟩ := HF4.out.word 1 rfl
                clear hp hg k0
                have k1 := H1.out _ HF4.out.par
                go_wp2_with fail
                (with_reducible refine k1.mono ?_)
                rintro e w4 ⟨rfl, hp, hg, _⟩
                have HF5 := Lib.hid (HF4.out.call hp hg)
                obtain ⟨c0, c2, c3⟩ := HF5.out.word 1 rfl
                clear hp hg k1
                have k2 := H2.out _ HF5.out.par
                go_wp2_with fail
                (with_reducible refine k2.mono ?_)
                rintro e w5 ⟨rfl, hp, hg, _⟩
                have HF6 := Lib.hid (HF5.out.call hp hg)
                obtain ⟨c0, c2, c3⟩ := HF6.out.word 1 rfl
                clear hp hg k2
                have k3 := H3.out _ HF6.out.par
                go_wp2_with fail
                (with_reducible refine k3.mono ?_)
                rintro e w6 ⟨rfl, hp, hg, _⟩
                have HF7 := Lib.hid (HF6.out.call hp hg)
                obtain ⟨c0, c2, c3⟩ := HF7.out.word 1 rfl
                clear hp hg k3
                go_wp2_with fail
                go_meet
                exact ⟨rfl, HF7.out⟩
--
  case rest =>
    obtain ⟨rfl, hF⟩ := hcut
    have HF4 := Lib.hid hF
    clear hF HF3
    go_upto_if 46 with fail
    go_cut [] (fun wx => Fr K w d [(w.heap.size, 53, #[.string ⟨#[]⟩, .string ⟨#[]⟩, .int .i64 0, .int .i64 0, .slice none 0 0]), (w1.heap.size, 148, #[.int .i64 (yk : Int), .string yt, .int .i64 yn, .int .i64 (ya : Int)])] [] wx P)
    case first =>
      cases b6 with
      | true =>
        have hp2 : P = part4 K.L s := by rw [HP2.out]; simp
        have kp := part4_any hG _ d s HF4.out.par
        rw [← hp2] at kp
        clear hp2
        go_wp2_with fail
        (with_reducible refine kp.mono ?_)
        rintro e w3 ⟨rfl, hp, hg, _⟩
        have HF5 := Lib.hid (HF4.out.call hp hg)
        clear hp hg kp
        go_wp2_with fail
        go_meet
        exact HF5.out
      | false =>
        have HP3 := Lib.hid (show P = s by rw [HP2.out]; simp)
        go_wp2_with fail
        go_meet
        rw [HP3.out]
        exact HF4.out
    case rest =>
      have HF5 := Lib.hid hcut
      clear hcut HF4
      go_upto_block 0 with fail
      go_cut [] (fun wx => Fr K w d [(w.heap.size, 53, #[.string ⟨#[]⟩, .string ⟨#[]⟩, .int .i64 0, .int .i64 0, .slice none 0 0]), (w1.heap.size, 148, #[.int .i64 (yk : Int), .string yt, .int .i64 yn, .int .i64 (ya : Int)])] [] wx P ∧ RR = named4 K.L expr ya P)
      case first =>
--
        obtain ⟨_, p1, p2, _, _, _, _⟩ := HF5.out.par.cells
        obtain ⟨c0, c2, c3⟩ := HF5.out.word 1 rfl
        by_cases e0 : P.er = 0
        · have d0 : ((P.er : Int) != 0) = false := by simp; omega
          have hr1 := HRR.out
          rw [if_pos e0] at hr1
          by_cases e3 : yk = 3
          · have d3 : ((yk : Int) == 3) = true := by simp; omega
            rw [if_pos e3] at hr1
            have HEND := Lib.hid hr1
            have hlt : (inc4 P).k < K.L.length := inc_lt hG HF5.out.par.lt (by rw [HKP.out]; show yk ≠ 0; omega)
            have HLT := Lib.hid hlt
            have hadd : IntKind.i64.wrap ((P.k : Int) + 1) = (P.k : Int) + 1 := by rw [IntKind.wrap_i64]; have := hG.few; have : P.k + 1 < K.L.length := hlt; omega
            have f1 := HF5.out.par.frozen 1
            have HF6 := Lib.hid (HF5.out.own hG 1 (.int .i64 ((P.k : Int) + 1)) (s' := inc4 P) (d' := d) (by unfold parC4 inc4; simp) HLT.out)
            obtain ⟨q0, q2, q3⟩ := HF6.out.word 1 rfl
            have HS := Lib.hid (HF6.out.get 0 rfl)
            have HF7 := Lib.hid (HF6.out.store 0 rfl #[.string ⟨#[105, 110, 116]⟩, .string ⟨#[]⟩, .int .i64 yn, .int .i64 (ya : Int), .slice none 0 0])
            clear hr1 e0 e3 hlt
            go_wp2_with (refine wpList_store_row rfl 53 (.tmp 2) (.tmp 71) rfl w.heap.size #[.string ⟨#[105, 110, 116]⟩, .string ⟨#[]⟩, .int .i64 yn, .int .i64 (ya : Int), .slice none 0 0] rfl rfl 53 _ HS.out HSE.out rfl (e4_one _ _ _ _ _ _ _) ?_)
            refine bodyPost_ret (v := .agg #[.string ⟨#[105, 110, 116]⟩, .string ⟨#[]⟩, .int .i64 yn, .int .i64 (ya : Int), .slice none 0 0]) (results_cell_row (p := 2) (ty := 53) rfl _ _ w.heap.size 53 _ (0, 0) _ rfl (HF7.out.get 0 rfl) Try.underlying53 rfl HSE.out) rfl ?_
            rw [HEND.out]
            exact ⟨none, 0, rfl, IsD.nil (Nat.zero_le _), HF7.out.par, HF7.out.gb, HMP.out.trans (Mono4.inc P)⟩
          · have d3 : ((yk : Int) == 3) = false := by simp; omega
            rw [if_neg e3] at hr1
            clear e0 e3
            have k0 := take4_any (⟨#[116, 114, 117, 101]⟩ : ByteArray) hG _ d P HF5.out.par
            unfold take4 at k0
            cases t0 : is4 K.L (⟨#[116, 114, 117, 101]⟩ : ByteArray) P with
            | true =>
              rw [t0, if_pos rfl] at k0
              rw [if_pos t0] at hr1
              have HEND := Lib.hid hr1
              clear hr1 t0
              go_wp2_with fail
              (with_reducible refine k0.mono ?_)
              rintro e w3 ⟨rfl, hp, hg, hmt⟩
              have HF6 := Lib.hid (HF5.out.call hp hg)
              have HMT := Lib.hid hmt
              obtain ⟨c0, c2, c3⟩ := HF6.out.word 1 rfl
              clear hp hg k0 hmt
              have HS := Lib.hid (HF6.out.get 0 rfl)
              have HF7 := Lib.hid (HF6.out.store 0 rfl #[.string ⟨#[98, 111, 111, 108]⟩, .string ⟨#[]⟩, .int .i64 1, .int .i64 (ya : Int), .slice none 0 0])
              go_wp2_with (refine wpList_store_row rfl 53 (.tmp 2) (.tmp 77) rfl w.heap.size #[.string ⟨#[98, 111, 111, 108]⟩, .string ⟨#[]⟩, .int .i64 1, .int .i64 (ya : Int), .slice none 0 0] rfl rfl 53 _ HS.out HSE.out rfl (e4_one _ _ _ _ _ _ _) ?_)
              refine bodyPost_ret (v := .agg #[.string ⟨#[98, 111, 111, 108]⟩, .string ⟨#[]⟩, .int .i64 1, .int .i64 (ya : Int), .slice none 0 0]) (results_cell_row (p := 2) (ty := 53) rfl _ _ w.heap.size 53 _ (0, 0) _ rfl (HF7.out.get 0 rfl) Try.underlying53 rfl HSE.out) rfl ?_
              rw [HEND.out]
              exact ⟨none, 0, rfl, IsD.nil (Nat.zero_le _), HF7.out.par, HF7.out.gb, HMP.out.trans HMT.out⟩
            | false =>
              rw [t0, if_neg (by decide)] at k0
              rw [if_neg (by rw [t0]; decide)] at hr1
              have HR1 := Lib.hid hr1
              clear t0 hr1
              go_wp2_with fail
              (with_reducible refine k0.mono ?_)
              rintro e w3 ⟨rfl, hp, hg, _⟩
              have HF_0 := Lib.hid (HF5.out.call hp hg)
              have hr1 := HR1.out
              clear hp hg k0 c0 c2 c3 HR1
              obtain ⟨c0, c2, c3⟩ := HF_0.out.word 1 rfl
              have k1 := take4_any (⟨#[102, 97, 108, 115, 101]⟩ : ByteArray) hG _ d P HF_0.out.par
              unfold take4 at k1
              cases t1 : is4 K.L (⟨#[102, 97, 108, 115, 101]⟩ : ByteArray) P with
              | true =>
                rw [t1, if_pos rfl] at k1
                rw [if_pos t1] at hr1
                have HEND := Lib.hid hr1
                clear hr1 t1
                go_wp2_with fail
                (with_reducible refine k1.mono ?_)
                rintro e w4 ⟨rfl, hp, hg, hmt⟩
                have HF6 := Lib.hid (HF_0.out.call hp hg)
                have HMT := Lib.hid hmt
                obtain ⟨c0, c2, c3⟩ := HF6.out.word 1 rfl
                clear hp hg k1 hmt
                have HS := Lib.hid (HF6.out.get 0 rfl)
                have HF7 := Lib.hid (HF6.out.store 0 rfl #[.string ⟨#[98, 111, 111, 108]⟩, .string ⟨#[]⟩, .int .i64 0, .int .i64 (ya : Int), .slice none 0 0])
                go_wp2_with (refine wpList_store_row rfl 53 (.tmp 2) (.tmp 83) rfl w.heap.size #[.string ⟨#[98, 111, 111, 108]⟩, .string ⟨#[]⟩, .int .i64 0, .int .i64 (ya : Int), .slice none 0 0] rfl rfl 53 _ HS.out HSE.out rfl (e4_one _ _ _ _ _ _ _) ?_)
                refine bodyPost_ret (v := .agg #[.string ⟨#[98, 111, 111, 108]⟩, .string ⟨#[]⟩, .int .i64 0, .int .i64 (ya : Int), .slice none 0 0]) (results_cell_row (p := 2) (ty := 53) rfl _ _ w.heap.size 53 _ (0, 0) _ rfl (HF7.out.get 0 rfl) Try.underlying53 rfl HSE.out) rfl ?_
                rw [HEND.out]
                exact ⟨none, 0, rfl, IsD.nil (Nat.zero_le _), HF7.out.par, HF7.out.gb, HMP.out.trans HMT.out⟩
              | false =>
                rw [t1, if_neg (by decide)] at k1
                rw [if_neg (by rw [t1]; decide)] at hr1
                have HR1 := Lib.hid hr1
                clear t1 hr1
                go_wp2_with fail
                (with_reducible refine k1.mono ?_)
                rintro e w4 ⟨rfl, hp, hg, _⟩
                have HF_1 := Lib.hid (HF_0.out.call hp hg)
                have hr1 := HR1.out
                clear hp hg k1 c0 c2 c3 HR1
                obtain ⟨c0, c2, c3⟩ := HF_1.out.word 1 rfl
                have k2 := take4_any (⟨#[105, 102]⟩ : ByteArray) hG _ d P HF_1.out.par
                unfold take4 at k2
                cases t2 : is4 K.L (⟨#[105, 102]⟩ : ByteArray) P with
                | true =>
                  rw [t2, if_pos rfl] at k2
                  rw [if_pos t2] at hr1
                  have HEND := Lib.hid hr1
                  clear hr1 t2
                  go_wp2_with fail
                  (with_reducible refine k2.mono ?_)
                  rintro e w5 ⟨rfl, hp, hg, hmt⟩
                  have HF6 := Lib.hid (HF_1.out.call hp hg)
                  have HMT := Lib.hid hmt
                  obtain ⟨c0, c2, c3⟩ := HF6.out.word 1 rfl
                  clear hp hg k2 hmt
                  unfold if4 at HEND
                  simp only at HEND
                  have HEXP := Lib.hid HHE.out
                  have ke := HEXP.out _ _ HF6.out.par
                  obtain ⟨r1, hr1⟩ : ∃ r, r = expr (inc4 P) := ⟨_, rfl⟩
                  rw [← hr1] at ke HEND
                  obtain ⟨x1, s1⟩ := r1
                  obtain ⟨s2, hs2⟩ : ∃ r, r = want4 K.L (⟨#[116, 104, 101, 110]⟩ : ByteArray) s1 := ⟨_, rfl⟩
                  simp only at ke HEND
                  have hw1 := fun W (hp : Par4 K W d s1) => want4_any (⟨#[116, 104, 101, 110]⟩ : ByteArray) hG W d s1 hp
                  have hm1 := Mono4.want K.L (⟨#[116, 104, 101, 110]⟩ : ByteArray) s1
                  rw [← hs2] at hw1 hm1 HEND
                  obtain ⟨r2, hr2⟩ : ∃ r, r = expr s2 := ⟨_, rfl⟩
                  have ke2 := fun W (hp : Par4 K W d s2) => HEXP.out W s2 hp
                  rw [← hr2] at ke2 HEND
                  obtain ⟨x2, s3⟩ := r2
                  obtain ⟨s4, hs4⟩ : ∃ r, r = want4 K.L (⟨#[101, 108, 115, 101]⟩ : ByteArray) s3 := ⟨_, rfl⟩
                  simp only at ke2 HEND
                  have hw2 := fun W (hp : Par4 K W d s3) => want4_any (⟨#[101, 108, 115, 101]⟩ : ByteArray) hG W d s3 hp
                  have hm2 := Mono4.want K.L (⟨#[101, 108, 115, 101]⟩ : ByteArray) s3
                  rw [← hs4] at hw2 hm2 HEND
                  obtain ⟨r3, hr3⟩ : ∃ r, r = expr s4 := ⟨_, rfl⟩
                  have ke3 := fun W (hp : Par4 K W d s4) => HEXP.out W s4 hp
                  rw [← hr3] at ke3 HEND
                  obtain ⟨x3, s5⟩ := r3
                  simp only at ke3 HEND
                  have HW1 := Lib.hid hw1
                  have HW2 := Lib.hid hw2
                  have HK2 := Lib.hid ke2
                  have HK3 := Lib.hid ke3
                  have HM1 := Lib.hid hm1
                  have HM2 := Lib.hid hm2
                  clear hw1 hw2 ke2 ke3 hm1 hm2 hr1 hs2 hr2 hs4 hr3
                  go_wp2_with fail
                  (with_reducible refine ke.mono ?_)
                  rintro e wa ⟨y1, c1, rfl, ht, hp, hg, hm⟩
                  unfold exV
                  simp only at ht hp hm ⊢
                  have F7 := (HF6.out.callT hp hg ht).alloc wa.heap.size rfl 53 #[.string x1.op, .string x1.name, .int .i64 x1.n, .int .i64 (x1.at_ : Int), .slice y1 x1.kids.length c1]
                  have kw := HW1.out _ F7.par
                  have HF7 := Lib.hid F7
                  have HMA := Lib.hid (HMP.out.trans (HMT.out.trans (hm.trans HM1.out)))
                  clear ht hp hg hm ke F7
                  go_wp2_with fail
                  (with_reducible refine kw.mono ?_)
                  rintro e wb ⟨rfl, hp, hg, _⟩
                  have F8 := HF7.out.call hp hg
                  have ke := HK2.out _ F8.par
                  have HF8 := Lib.hid F8
                  clear hp hg kw F8
                  go_wp2_with fail
                  (with_reducible refine ke.mono ?_)
                  rintro e wd ⟨y2, c2', rfl, ht, hp, hg, hm⟩
                  unfold exV
                  simp only at ht hp hm ⊢
                  have F9 := (HF8.out.callT hp hg ht).alloc wd.heap.size rfl 53 #[.string x2.op, .string x2.name, .int .i64 x2.n, .int .i64 (x2.at_ : Int), .slice y2 x2.kids.length c2']
                  have kw := HW2.out _ F9.par
                  have HF9 := Lib.hid F9
                  have HMB := Lib.hid (HMA.out.trans (hm.trans HM2.out))
                  clear ht hp hg hm ke F9
                  go_wp2_with fail
                  (with_reducible refine kw.mono ?_)
                  rintro e wf ⟨rfl, hp, hg, _⟩
                  have F10 := HF9.out.call hp hg
                  have ke := HK3.out _ F10.par
                  have HF10 := Lib.hid F10
                  clear hp hg kw F10
                  go_wp2_with fail
                  (with_reducible refine ke.mono ?_)
                  rintro e wg ⟨y3, c3', rfl, ht, hp, hg, hm⟩
                  unfold exV
                  simp only at ht hp hm ⊢
                  have F11 := (HF10.out.callT hp hg ht).alloc wg.heap.size rfl 53 #[.string x3.op, .string x3.name, .int .i64 x3.n, .int .i64 (x3.at_ : Int), .slice y3 x3.kids.length c3']
                  have HMC := Lib.hid (HMB.out.trans hm)
                  obtain ⟨c0, c2, c3⟩ := F11.word 1 rfl
                  have HL1 := Lib.hid (F11.get 2 rfl)
                  have HL2 := Lib.hid (F11.get 3 rfl)
                  have HL3 := Lib.hid (F11.get 4 rfl)
                  have k1 := F11.inn 0 rfl
                  have k2 := F11.inn 1 rfl
                  have k3 := F11.inn 2 rfl
                  have F12 := F11.make 53 #[.string x1.op, .string x1.name, .int .i64 x1.n, .int .i64 (x1.at_ : Int), .slice y1 x1.kids.length c1, .string x2.op, .string x2.name, .int .i64 x2.n, .int .i64 (x2.at_ : Int), .slice y2 x2.kids.length c2', .string x3.op, .string x3.name, .int .i64 x3.n, .int .i64 (x3.at_ : Int), .slice y3 x3.kids.length c3'] (wg.heap.size + 1) (by simp) 3 (by decide) (by decide) (exsD [x1, x2, x3]) (by
                    rw [exsD_cons, exsD_cons, exsD_cons, exsD_nil, List.append_nil]
                    exact RowsD.app (RowsD.app (KidsD.rows (e := x3) k3) _ _ (KidsD.rows (e := x2) k2)) _ _ (KidsD.rows (e := x1) k1))
                  have HS := Lib.hid (F12.get 0 rfl)
                  have HF13 := Lib.hid (F12.store 0 rfl #[.string ⟨#[105, 102]⟩, .string ⟨#[]⟩, .int .i64 0, .int .i64 (ya : Int), .slice (some ⟨wg.heap.size + 1, 0, none⟩) 3 3])
                  clear ht hp hg hm ke F11 F12 k1 k2 k3
                  go_wp2_with (first | (refine wpList_load_row rfl 53 (.tmp 5) rfl wa.heap.size rfl 53 #[.string x1.op, .string x1.name, .int .i64 x1.n, .int .i64 (x1.at_ : Int), .slice y1 x1.kids.length c1] (0, 0) _ HL1.out Try.underlying53 rfl HSE.out ?_) | (refine wpList_load_row rfl 53 (.tmp 6) rfl wd.heap.size rfl 53 #[.string x2.op, .string x2.name, .int .i64 x2.n, .int .i64 (x2.at_ : Int), .slice y2 x2.kids.length c2'] (0, 0) _ HL2.out Try.underlying53 rfl HSE.out ?_) | (refine wpList_load_row rfl 53 (.tmp 7) rfl wg.heap.size rfl 53 #[.string x3.op, .string x3.name, .int .i64 x3.n, .int .i64 (x3.at_ : Int), .slice y3 x3.kids.length c3'] (0, 0) _ HL3.out Try.underlying53 rfl HSE.out ?_) | (refine wpList_store_row rfl 53 (.tmp 2) (.tmp 103) rfl w.heap.size #[.string ⟨#[105, 102]⟩, .string ⟨#[]⟩, .int .i64 0, .int .i64 (ya : Int), .slice (some ⟨wg.heap.size + 1, 0, none⟩) 3 3] rfl rfl 53 _ HS.out HSE.out rfl (e4_one _ _ _ _ _ _ _) ?_))
                  refine bodyPost_ret (v := .agg #[.string ⟨#[105, 102]⟩, .string ⟨#[]⟩, .int .i64 0, .int .i64 (ya : Int), .slice (some ⟨wg.heap.size + 1, 0, none⟩) 3 3]) (results_cell_row (p := 2) (ty := 53) rfl _ _ w.heap.size 53 _ (0, 0) _ rfl (HF13.out.get 0 rfl) Try.underlying53 rfl HSE.out) rfl ?_
                  rw [HEND.out]
                  exact ⟨_, 3, rfl, HF13.out.out 3 rfl, HF13.out.par, HF13.out.gb, HMC.out⟩
                | false =>
                  rw [t2, if_neg (by decide)] at k2
                  rw [if_neg (by rw [t2]; decide)] at hr1
                  have HR1 := Lib.hid hr1
                  clear t2 hr1
                  go_wp2_with fail
                  (with_reducible refine k2.mono ?_)
                  rintro e w5 ⟨rfl, hp, hg, _⟩
                  have HF_2 := Lib.hid (HF_1.out.call hp hg)
                  have hr1 := HR1.out
                  clear hp hg k2 c0 c2 c3 HR1
                  obtain ⟨c0, c2, c3⟩ := HF_2.out.word 1 rfl
                  have k3 := take4_any (⟨#[109, 101, 114, 103, 101]⟩ : ByteArray) hG _ d P HF_2.out.par
                  unfold take4 at k3
                  cases t3 : is4 K.L (⟨#[109, 101, 114, 103, 101]⟩ : ByteArray) P with
                  | true =>
                    rw [t3, if_pos rfl] at k3
                    rw [if_pos t3] at hr1
                    have HEND := Lib.hid hr1
                    clear hr1 t3
                    go_wp2_with fail
                    (with_reducible refine k3.mono ?_)
                    rintro e w6 ⟨rfl, hp, hg, hmt⟩
                    have HF6 := Lib.hid (HF_2.out.call hp hg)
                    have HMT := Lib.hid hmt
                    obtain ⟨c0, c2, c3⟩ := HF6.out.word 1 rfl
                    clear hp hg k3 hmt
                    unfold merge4 at HEND
                    simp only at HEND
                    have km := name4_any hG _ d (inc4 P) HF6.out.par
                    have hm1 := Mono4.name K.L (inc4 P)
                    obtain ⟨nm, hn1⟩ : ∃ t, t = (name4 K.L (inc4 P)).1 := ⟨_, rfl⟩
                    obtain ⟨s2, hs2⟩ : ∃ t, t = (name4 K.L (inc4 P)).2 := ⟨_, rfl⟩
                    rw [← hn1, ← hs2] at km HEND
                    rw [← hs2] at hm1
                    have ke2 := fun W (hp : Par4 K W d s2) => HHI.out W s2 hp
                    obtain ⟨r2, hr2⟩ : ∃ r, r = inner s2 := ⟨_, rfl⟩
                    rw [← hr2] at ke2 HEND
                    obtain ⟨x1, s3⟩ := r2
                    simp only at ke2 HEND
                    have ke3 := fun W (hp : Par4 K W d s3) => HHI.out W s3 hp
                    obtain ⟨r3, hr3⟩ : ∃ r, r = inner s3 := ⟨_, rfl⟩
                    rw [← hr3] at ke3 HEND
                    obtain ⟨x2, s5⟩ := r3
                    simp only at ke3 HEND
                    have HK2 := Lib.hid ke2
                    have HK3 := Lib.hid ke3
                    have HM1 := Lib.hid hm1
                    clear ke2 ke3 hm1 hn1 hs2 hr2 hr3
                    go_wp2_with fail
                    (with_reducible refine km.mono ?_)
                    rintro e wa ⟨rfl, hp, hg, _⟩
                    have F7 := HF6.out.call hp hg
                    have ke := HK2.out _ F7.par
                    have HF7 := Lib.hid F7
                    clear hp hg km F7
                    go_wp2_with fail
                    (with_reducible refine ke.mono ?_)
                    rintro e wd ⟨y1, c1, rfl, ht, hp, hg, hm⟩
                    unfold exV
                    simp only at ht hp hm ⊢
                    have F9 := (HF7.out.callT hp hg ht).alloc wd.heap.size rfl 53 #[.string x1.op, .string x1.name, .int .i64 x1.n, .int .i64 (x1.at_ : Int), .slice y1 x1.kids.length c1]
                    have ke' := HK3.out _ F9.par
                    have HF9 := Lib.hid F9
                    have HMB := Lib.hid (HMP.out.trans (HMT.out.trans (HM1.out.trans hm)))
                    clear ht hp hg hm ke F9
                    go_wp2_with fail
                    (with_reducible refine ke'.mono ?_)
                    rintro e wg ⟨y2, c2', rfl, ht, hp, hg, hm⟩
                    unfold exV
                    simp only at ht hp hm ⊢
                    have F11 := (HF9.out.callT hp hg ht).alloc wg.heap.size rfl 53 #[.string x2.op, .string x2.name, .int .i64 x2.n, .int .i64 (x2.at_ : Int), .slice y2 x2.kids.length c2']
                    have HMC := Lib.hid (HMB.out.trans hm)
                    obtain ⟨c0, c2, c3⟩ := F11.word 1 rfl
                    have HL1 := Lib.hid (F11.get 2 rfl)
                    have HL2 := Lib.hid (F11.get 3 rfl)
                    have k1 := F11.inn 0 rfl
                    have k2 := F11.inn 1 rfl
                    have F12 := F11.make 53 #[.string x1.op, .string x1.name, .int .i64 x1.n, .int .i64 (x1.at_ : Int), .slice y1 x1.kids.length c1, .string x2.op, .string x2.name, .int .i64 x2.n, .int .i64 (x2.at_ : Int), .slice y2 x2.kids.length c2'] (wg.heap.size + 1) (by simp) 2 (by decide) (by decide) (exsD [x1, x2]) (by
                      rw [exsD_cons, exsD_cons, exsD_nil, List.append_nil]
                      exact RowsD.app (KidsD.rows (e := x2) k2) _ _ (KidsD.rows (e := x1) k1))
                    have HS := Lib.hid (F12.get 0 rfl)
                    have HF13 := Lib.hid (F12.store 0 rfl #[.string ⟨#[109, 101, 114, 103, 101]⟩, .string nm, .int .i64 0, .int .i64 (ya : Int), .slice (some ⟨wg.heap.size + 1, 0, none⟩) 2 2])
                    clear ht hp hg hm ke' F11 F12 k1 k2
                    go_wp2_with (first | (refine wpList_load_row rfl 53 (.tmp 9) rfl wd.heap.size rfl 53 #[.string x1.op, .string x1.name, .int .i64 x1.n, .int .i64 (x1.at_ : Int), .slice y1 x1.kids.length c1] (0, 0) _ HL1.out Try.underlying53 rfl HSE.out ?_) | (refine wpList_load_row rfl 53 (.tmp 10) rfl wg.heap.size rfl 53 #[.string x2.op, .string x2.name, .int .i64 x2.n, .int .i64 (x2.at_ : Int), .slice y2 x2.kids.length c2'] (0, 0) _ HL2.out Try.underlying53 rfl HSE.out ?_) | (refine wpList_store_row rfl 53 (.tmp 2) (.tmp 119) rfl w.heap.size #[.string ⟨#[109, 101, 114, 103, 101]⟩, .string nm, .int .i64 0, .int .i64 (ya : Int), .slice (some ⟨wg.heap.size + 1, 0, none⟩) 2 2] rfl rfl 53 _ HS.out HSE.out rfl (e4_one _ _ _ _ _ _ _) ?_))
                    refine bodyPost_ret (v := .agg #[.string ⟨#[109, 101, 114, 103, 101]⟩, .string nm, .int .i64 0, .int .i64 (ya : Int), .slice (some ⟨wg.heap.size + 1, 0, none⟩) 2 2]) (results_cell_row (p := 2) (ty := 53) rfl _ _ w.heap.size 53 _ (0, 0) _ rfl (HF13.out.get 0 rfl) Try.underlying53 rfl HSE.out) rfl ?_
                    rw [HEND.out]
                    exact ⟨_, 2, rfl, HF13.out.out 2 rfl, HF13.out.par, HF13.out.gb, HMC.out⟩
                  | false =>
                    rw [t3, if_neg (by decide)] at k3
                    rw [if_neg (by rw [t3]; decide)] at hr1
                    have HR1 := Lib.hid hr1
                    clear t3 hr1
                    go_wp2_with fail
                    (with_reducible refine k3.mono ?_)
                    rintro e w6 ⟨rfl, hp, hg, _⟩
                    have HF_3 := Lib.hid (HF_2.out.call hp hg)
                    have hr1 := HR1.out
                    clear hp hg k3 c0 c2 c3 HR1
                    have HEND := Lib.hid hr1
                    clear hr1
                    go_wp2_with fail
                    go_meet
                    exact ⟨HF_3.out, HEND.out⟩
        · have d0 : ((P.er : Int) != 0) = true := by simp; omega
          have hr1 := HRR.out
          rw [if_neg e0] at hr1
          have HEND := Lib.hid hr1
          clear hr1 e0
          go_wp2_with fail
          go_meet
          exact ⟨HF5.out, HEND.out⟩
--
      case rest =>
        obtain ⟨hF, hR⟩ := hcut
        have HF6 := Lib.hid hF
        have HEND := Lib.hid hR
        clear hF hR HF5 HRR HHI HP2 HKP HPK HC6 HB6 HB_0 HB_1 HB_2 HB_3 H0 H1 H2 H3
        have km := name4_any hG _ d P HF6.out.par
        unfold named4 at HEND
        simp only at HEND
        have hm1 := Mono4.name K.L P
        obtain ⟨nm, hn1⟩ : ∃ t, t = (name4 K.L P).1 := ⟨_, rfl⟩
        obtain ⟨s5, hs5⟩ : ∃ t, t = (name4 K.L P).2 := ⟨_, rfl⟩
        rw [← hn1, ← hs5] at km HEND
        rw [← hs5] at hm1
        have ht1 := fun W (hp : Par4 K W d s5) => take4_any (⟨#[40]⟩ : ByteArray) hG W d s5 hp
        have hm2 := Mono4.take K.L (⟨#[40]⟩ : ByteArray) s5
        obtain ⟨s6, hs6⟩ : ∃ t, t = (take4 K.L (⟨#[40]⟩ : ByteArray) s5).2 := ⟨_, rfl⟩
        obtain ⟨t1, ht1'⟩ : ∃ t, t = (take4 K.L (⟨#[40]⟩ : ByteArray) s5).1 := ⟨_, rfl⟩
        rw [← hs6, ← ht1'] at ht1 HEND
        rw [← hs6] at hm2
        have HT1 := Lib.hid ht1
        have HM1 := Lib.hid (HMP.out.trans (hm1.trans hm2))
        clear hn1 hs5 hs6 ht1' ht1 hm1 hm2
        go_wp2_with fail
        (with_reducible refine km.mono ?_)
        rintro e w3 ⟨rfl, hp, hg, _⟩
        have F7 := HF6.out.call hp hg
        have kt := HT1.out _ F7.par
        have HF7 := Lib.hid F7
        clear hp hg km F7
        cases t1 with
        | false =>
          have HE2 := Lib.hid (show RR = (.mk (⟨#[118, 97, 114]⟩ : ByteArray) nm 0 ya [], s6) by rw [HEND.out]; simp)
          clear HEND
          go_wp2_with fail
          (with_reducible refine kt.mono ?_)
          rintro e w4 ⟨rfl, hp, hg, _⟩
          have HF8 := Lib.hid (HF7.out.call hp hg)
          obtain ⟨c0, c2, c3⟩ := HF8.out.word 1 rfl
          have HS := Lib.hid (HF8.out.get 0 rfl)
          have HF9 := Lib.hid (HF8.out.store 0 rfl #[.string ⟨#[118, 97, 114]⟩, .string nm, .int .i64 0, .int .i64 (ya : Int), .slice none 0 0])
          clear hp hg kt
          go_wp2_with (refine wpList_store_row rfl 53 (.tmp 2) (.tmp 128) rfl w.heap.size #[.string ⟨#[118, 97, 114]⟩, .string nm, .int .i64 0, .int .i64 (ya : Int), .slice none 0 0] rfl rfl 53 _ HS.out HSE.out rfl (e4_one _ _ _ _ _ _ _) ?_)
          refine bodyPost_ret (v := .agg #[.string ⟨#[118, 97, 114]⟩, .string nm, .int .i64 0, .int .i64 (ya : Int), .slice none 0 0]) (results_cell_row (p := 2) (ty := 53) rfl _ _ w.heap.size 53 _ (0, 0) _ rfl (HF9.out.get 0 rfl) Try.underlying53 rfl HSE.out) rfl ?_
          rw [HE2.out]
          exact ⟨none, 0, rfl, IsD.nil (Nat.zero_le _), HF9.out.par, HF9.out.gb, HM1.out⟩
        | true =>
          have ht2 := fun W (hp : Par4 K W d s6) => take4_any (⟨#[41]⟩ : ByteArray) hG W d s6 hp
          have hm3 := Mono4.take K.L (⟨#[41]⟩ : ByteArray) s6
          have HE2 := Lib.hid (show RR = if (take4 K.L (⟨#[41]⟩ : ByteArray) s6).1 = true then (.mk (⟨#[99, 97, 108, 108]⟩ : ByteArray) nm 0 ya [], (take4 K.L (⟨#[41]⟩ : ByteArray) s6).2) else (.mk (⟨#[99, 97, 108, 108]⟩ : ByteArray) nm 0 ya (callL4 K.L expr (K.L.length + 1) [] (take4 K.L (⟨#[41]⟩ : ByteArray) s6).2).1, want4 K.L (⟨#[41]⟩ : ByteArray) (callL4 K.L expr (K.L.length + 1) [] (take4 K.L (⟨#[41]⟩ : ByteArray) s6).2).2) by rw [HEND.out]; simp)
          obtain ⟨s7, hs7⟩ : ∃ t, t = (take4 K.L (⟨#[41]⟩ : ByteArray) s6).2 := ⟨_, rfl⟩
          obtain ⟨t2, ht2'⟩ : ∃ t, t = (take4 K.L (⟨#[41]⟩ : ByteArray) s6).1 := ⟨_, rfl⟩
          rw [← hs7, ← ht2'] at ht2 HE2
          rw [← hs7] at hm3
          have HT2 := Lib.hid ht2
          have HM2 := Lib.hid (HM1.out.trans hm3)
          clear HEND hs7 ht2' ht2 hm3
          go_wp2_with fail
          (with_reducible refine kt.mono ?_)
          rintro e w4 ⟨rfl, hp, hg, _⟩
          have HF8 := Lib.hid (HF7.out.call hp hg)
          obtain ⟨c0, c2, c3⟩ := HF8.out.word 1 rfl
          have F9 := HF8.out.alloc w4.heap.size rfl 53 #[.string ⟨#[99, 97, 108, 108]⟩, .string nm, .int .i64 0, .int .i64 (ya : Int), .slice none 0 0]
          have kt2 := HT2.out _ F9.par
          have HF9 := Lib.hid F9
          clear hp hg kt F9
          cases t2 with
          | true =>
            have HE3 := Lib.hid (show RR = (.mk (⟨#[99, 97, 108, 108]⟩ : ByteArray) nm 0 ya [], s7) by rw [HE2.out]; simp)
            clear HE2
            go_wp2_with fail
            (with_reducible refine kt2.mono ?_)
            rintro e w5 ⟨rfl, hp, hg, _⟩
            have F10 := HF9.out.call hp hg
            have HL := Lib.hid (F10.get 2 rfl)
            have HS := Lib.hid (F10.get 0 rfl)
            have HF11 := Lib.hid (F10.store 0 rfl #[.string ⟨#[99, 97, 108, 108]⟩, .string nm, .int .i64 0, .int .i64 (ya : Int), .slice none 0 0])
            clear hp hg kt2 F10
            go_wp2_with (first | (refine wpList_load_row rfl 53 (.tmp 12) rfl w4.heap.size rfl 53 #[.string ⟨#[99, 97, 108, 108]⟩, .string nm, .int .i64 0, .int .i64 (ya : Int), .slice none 0 0] (0, 0) _ HL.out Try.underlying53 rfl HSE.out ?_) | (refine wpList_store_row rfl 53 (.tmp 2) (.tmp 135) rfl w.heap.size #[.string ⟨#[99, 97, 108, 108]⟩, .string nm, .int .i64 0, .int .i64 (ya : Int), .slice none 0 0] rfl rfl 53 _ HS.out HSE.out rfl (e4_one _ _ _ _ _ _ _) ?_))
            refine bodyPost_ret (v := .agg #[.string ⟨#[99, 97, 108, 108]⟩, .string nm, .int .i64 0, .int .i64 (ya : Int), .slice none 0 0]) (results_cell_row (p := 2) (ty := 53) rfl _ _ w.heap.size 53 _ (0, 0) _ rfl (HF11.out.get 0 rfl) Try.underlying53 rfl HSE.out) rfl ?_
            rw [HE3.out]
            exact ⟨none, 0, rfl, IsD.nil (Nat.zero_le _), HF11.out.par, HF11.out.gb, HM2.out⟩
          | false =>
            obtain ⟨QQ, hQQ⟩ : ∃ q, q = callL4 K.L expr (K.L.length + 1) [] s7 := ⟨_, rfl⟩
            have HE3 := Lib.hid (show RR = (.mk (⟨#[99, 97, 108, 108]⟩ : ByteArray) nm 0 ya QQ.1, want4 K.L (⟨#[41]⟩ : ByteArray) QQ.2) by rw [HE2.out, hQQ]; simp)
            have HQQ := Lib.hid hQQ
            clear HE2 hQQ
            go_wp2_with fail
            (with_reducible refine kt2.mono ?_)
            rintro e w5 ⟨rfl, hp, hg, _⟩
            have HF10 := Lib.hid (HF9.out.call hp hg)
            have hs5 : w4.heap.size < w5.heap.size := HF10.out.lt _ (List.mem_of_getElem? (show _ = some (w4.heap.size, 53, #[.string ⟨#[99, 97, 108, 108]⟩, .string nm, .int .i64 0, .int .i64 (ya : Int), .slice none 0 0]) from rfl : ([(w.heap.size, 53, #[.string ⟨#[]⟩, .string ⟨#[]⟩, .int .i64 0, .int .i64 0, .slice none 0 0]), (w1.heap.size, 148, #[.int .i64 (yk : Int), .string yt, .int .i64 yn, .int .i64 (ya : Int)]), (w4.heap.size, 53, #[.string ⟨#[99, 97, 108, 108]⟩, .string nm, .int .i64 0, .int .i64 (ya : Int), .slice none 0 0])] : List (Nat × TypeId × Array Value))[2]? = _))
            clear hp hg kt2
            go_wp2_with fail
            have HI5 := Lib.hid info_e4
            go_loopw [] (fun wr => ∃ (f : Nat) (ks : List Ex) (S : S4) (V : Value), callL4 K.L expr f ks S = QQ ∧ mS4 K S ≤ f ∧ Fr K w d [(w.heap.size, 53, #[.string ⟨#[]⟩, .string ⟨#[]⟩, .int .i64 0, .int .i64 0, .slice none 0 0]), (w1.heap.size, 148, #[.int .i64 (yk : Int), .string yt, .int .i64 yn, .int .i64 (ya : Int)]), (w4.heap.size, 53, #[.string ⟨#[99, 97, 108, 108]⟩, .string nm, .int .i64 0, .int .i64 (ya : Int), V])] [] wr S ∧ OwnD 53 5 wr w4.heap.size V ks.length (exsD ks) ∧ Mono4 s S ∧ ks.length ≤ S.k)
              (fun wr => mea4 K wr)
            case atStart => exact ⟨K.L.length + 1, [], s7, .slice none 0 0, HQQ.out.symm, by have := mS4_bound K s7; omega, HF10.out, by rw [exsD_nil]; exact OwnD.nil _ _ _ _, HM2.out, Nat.zero_le _⟩
            case round =>
              clear HQQ HF10
              obtain ⟨f, ks, S, V, hR, hf, hF, hO, hm, hks⟩ := hrel
              have hme := mea4_par hF.par
              obtain ⟨_, p1, p2, _, _, _, _⟩ := hF.par.cells
              by_cases e0 : S.er = 0
              · have d0 : ((S.er : Int) == 0) = true := by simp; omega
                have hmS : 0 < mS4 K S := by unfold mS4; rw [if_pos e0]; have := hF.par.lt; omega
                obtain ⟨f', hf'⟩ : ∃ f', f = f' + 1 := ⟨f - 1, by omega⟩
                have hgo := callL4_go K.L expr f' ks S e0
                have ke := HHE.out _ S hF.par
                obtain ⟨r, hr⟩ : ∃ r, r = expr S := ⟨_, rfl⟩
                rw [← hr] at ke hgo
                obtain ⟨xe, S1⟩ := r
                simp only at ke hgo
                have ht := fun W (hp : Par4 K W d S1) => take4_any (⟨#[44]⟩ : ByteArray) hG W d S1 hp
                have hmt := Mono4.take K.L (⟨#[44]⟩ : ByteArray) S1
                have htk : (take4 K.L (⟨#[44]⟩ : ByteArray) S1).1 = true → (take4 K.L (⟨#[44]⟩ : ByteArray) S1).2.k = S1.k + 1 := fun h => by
                  unfold take4 at h ⊢
                  simp only at h ⊢
                  rw [h, if_pos rfl]; rfl
                obtain ⟨tc, htc⟩ : ∃ q, q = (take4 K.L (⟨#[44]⟩ : ByteArray) S1).1 := ⟨_, rfl⟩
                obtain ⟨S2, hS2⟩ : ∃ q, q = (take4 K.L (⟨#[44]⟩ : ByteArray) S1).2 := ⟨_, rfl⟩
                rw [← htc, ← hS2] at ht hgo htk
                rw [← hS2] at hmt
                have hsrt := hF.srt
                simp only [List.pairwise_cons, List.mem_cons, List.not_mem_nil, or_false, forall_eq_or_imp, forall_eq, List.Pairwise.nil, and_true] at hsrt
                have HSRT := Lib.hid hsrt
                have HT := Lib.hid ht
                have HFe := Lib.hid hF
                have HO := Lib.hid hO
                have HMt := Lib.hid hmt
                have HMM := Lib.hid hm
                have HTK := Lib.hid htk
                have HGo := Lib.hid (hgo.symm.trans ((congrArg (fun k => callL4 K.L expr k ks S) hf'.symm).trans hR))
                have HF' := Lib.hid hf'
                have HFu := Lib.hid hf
                have HME := Lib.hid hme
                have HE0 := Lib.hid e0
                have HKS := Lib.hid hks
                have HV4 := Lib.hid (cell_of_row wr w4.heap.size 4 _ _ _ (hF.get 2 rfl))
                clear hr hgo ht hmt htk htc hS2 hsrt hF hO hm hf' hf hme e0 hks hR hmS p1
                go_wp2_with fail
                (with_reducible refine ke.mono ?_)
                rintro e w6 ⟨x, c, rfl, htt, hp, hg, hm⟩
                unfold exV
                simp only at htt hp hm ⊢
                have hgs := hg.size
                have F6 := (HFe.out.call hp hg).alloc w6.heap.size rfl 53 #[.string xe.op, .string xe.name, .int .i64 xe.n, .int .i64 (xe.at_ : Int), .slice x xe.kids.length c]
                have hO6 := (HO.out.kept hg (fun k hk => by injection hk with hk; have := HFe.out.gp; have := HSRT.out; omega)).below (w' := w6.alloc (.cells #[.string xe.op, .string xe.name, .int .i64 xe.n, .int .i64 (xe.at_ : Int), .slice x xe.kids.length c] 53)) ((Below.refl _ _).alloc (Nat.le_refl _) _)
                have cV : (w6.alloc (.cells #[.string xe.op, .string xe.name, .int .i64 xe.n, .int .i64 (xe.at_ : Int), .slice x xe.kids.length c] 53)).cell? ⟨w4.heap.size, 4, none⟩ = some V := cell_of_row _ w4.heap.size 4 _ _ _ (F6.get 2 rfl)
                have ht6 : KidsD (wr.heap.size ≤ ·) (w6.alloc (.cells #[.string xe.op, .string xe.name, .int .i64 xe.n, .int .i64 (xe.at_ : Int), .slice x xe.kids.length c] 53)) xe x c := htt.below ((Below.refl _ _).alloc (Nat.le_refl _) _)
                have HLX := Lib.hid (F6.get 3 rfl)
                have htr : IsD (wr.heap.size ≤ ·) ((w6.alloc (.cells #[.string xe.op, .string xe.name, .int .i64 xe.n, .int .i64 (xe.at_ : Int), .slice x xe.kids.length c] 53)).alloc (.cells #[.string xe.op, .string xe.name, .int .i64 xe.n, .int .i64 (xe.at_ : Int), .slice x xe.kids.length c] 53)) (.slice (some ⟨w6.heap.size + 1, 0, none⟩) 1 1) (.sl 1 (exsD [xe])) := IsD.made 53 _ _ (by simp) 1 (by decide) (by decide) _ (by simp; omega) (by
                  rw [exsD_cons, exsD_nil, List.append_nil]
                  exact KidsD.rows (e := xe) ht6)
                have F7 := (F6.alloc (w6.heap.size + 1) (by simp) 53 #[.string xe.op, .string xe.name, .int .i64 xe.n, .int .i64 (xe.at_ : Int), .slice x xe.kids.length c]).less (bl' := [(w.heap.size, 53, #[.string ⟨#[]⟩, .string ⟨#[]⟩, .int .i64 0, .int .i64 0, .slice none 0 0]), (w1.heap.size, 148, #[.int .i64 (yk : Int), .string yt, .int .i64 yn, .int .i64 (ya : Int)]), (w4.heap.size, 53, #[.string ⟨#[99, 97, 108, 108]⟩, .string nm, .int .i64 0, .int .i64 (ya : Int), V])]) (List.Sublist.cons_cons _ (List.Sublist.cons_cons _ (List.Sublist.cons_cons _ (List.Sublist.cons _ (List.Sublist.cons _ List.Sublist.slnil)))))
                have hO7 := hO6.below (w' := (w6.alloc (.cells #[.string xe.op, .string xe.name, .int .i64 xe.n, .int .i64 (xe.at_ : Int), .slice x xe.kids.length c] 53)).alloc (.cells #[.string xe.op, .string xe.name, .int .i64 xe.n, .int .i64 (xe.at_ : Int), .slice x xe.kids.length c] 53)) ((Below.refl _ _).alloc (Nat.le_refl _) _)
                obtain ⟨i5, hi5, ⟨z5, hz5, hzs5⟩, hs5', hb5⟩ := HI5.out
                have HI5' := Lib.hid hi5
                have HZ5 := Lib.hid hz5
                have HZS5 := Lib.hid hzs5
                have HS5 := Lib.hid hs5'
                have HB5 := Lib.hid hb5
                have HO7 := Lib.hid hO7
                have HTR := Lib.hid htr
                have HF7 := Lib.hid F7
                have HGS := Lib.hid hgs
                have HMX := Lib.hid hm
                clear htt hp hg hm ke F6 hO6 ht6 htr F7 hO7 hgs hi5 hz5 hzs5 hs5' hb5 HV4
                have HOK := Lib.hid (show ∀ k, wr.heap.size ≤ k → w4.heap.size < k ∧ some k ≠ V.ownBlock from fun k hk => by
                  have h4 := HFe.out.lt (w4.heap.size, 53, #[.string ⟨#[99, 97, 108, 108]⟩, .string nm, .int .i64 0, .int .i64 (ya : Int), V]) (by simp)
                  refine ⟨by have : w4.heap.size < wr.heap.size := h4; omega, fun e => ?_⟩
                  have := (HO.out.gt k e.symm).2
                  omega)
                go_wp2_with (first | (refine wpList_load_row rfl 53 (.tmp 13) rfl w6.heap.size rfl 53 #[.string xe.op, .string xe.name, .int .i64 xe.n, .int .i64 (xe.at_ : Int), .slice x xe.kids.length c] (0, 0) _ HLX.out Try.underlying53 rfl HSE.out ?_) | (refine wpList_appT rfl (.tmp 145) (.tmp 147) 51 rfl i5 z5 72 Try.underlying51 HI5'.out HZ5.out HS5.out HB5.out HZS5.out (by decide) (by decide) rfl HO7.out (by have := HSRT.out; have := HFe.out.lt _ (List.mem_of_getElem? (show ([(w.heap.size, _, _), (w1.heap.size, _, _), (w4.heap.size, _, _)] : List (Nat × TypeId × Array Value))[2]? = some _ from rfl)); have := HGS.out; simp; omega) (w6.heap.size + 1) 1 1 rfl (exsD [xe]) (by rw [exsD_len]; rfl) (by decide) HTR.out (exsD_one _) (fun k hk hl => HOK.out k hk) (by have := HKS.out; have := HFe.out.par.lt; have := hG.few; omega) ?_))
                intro v8 w8 hO8 hg8 _
                obtain ⟨ks2, hk2⟩ : ∃ l, l = ks ++ [xe] := ⟨_, rfl⟩
                have hk2l : ks2.length = ks.length + 1 := by rw [hk2]; simp
                rw [← exsD_app, ← hk2l, ← hk2] at hO8
                rw [← hk2] at HGo
                have HK2 := Lib.hid hk2l
                clear hk2 hk2l
                obtain ⟨x8, c8, rfl, _, _⟩ := hO8.slice
                have F8 := HF7.out.grow hg8 (fun k hk => by
                  have h := (HO7.out.gt k hk).1
                  have h2 := HSRT.out
                  have h3 := HF7.out.ge 2 rfl
                  refine ⟨by omega, fun x hx => ?_⟩
                  simp only [List.mem_cons, List.not_mem_nil, or_false] at hx
                  rcases hx with rfl | rfl | rfl <;> (show _ ≠ k; omega))
                have cV8 := cell_of_row w8 w4.heap.size 4 _ _ _ (F8.get 2 rfl)
                have fV8 := frozen_of_row w8 w4.heap.size 4 _ _ (F8.get 2 rfl)
                have F9 : Fr K w d [(w.heap.size, 53, #[.string ⟨#[]⟩, .string ⟨#[]⟩, .int .i64 0, .int .i64 0, .slice none 0 0]), (w1.heap.size, 148, #[.int .i64 (yk : Int), .string yt, .int .i64 yn, .int .i64 (ya : Int)]), (w4.heap.size, 53, #[.string ⟨#[99, 97, 108, 108]⟩, .string nm, .int .i64 0, .int .i64 (ya : Int), .slice x8 ks2.length c8])] [] (w8.setCell ⟨w4.heap.size, 4, none⟩ (.slice x8 ks2.length c8)) S1 := F8.cell 2 rfl 4 _
                have hO9 := hO8.kept (gb_set w8 w4.heap.size 4 (.slice x8 ks2.length c8)) (fun k hk => by injection hk with hk; omega)
                have kt := HT.out _ F9.par
                have HF9 := Lib.hid F9
                have HO9 := Lib.hid hO9
                clear hO8 hg8 F8 F9 hO9 cV
                go_wp2_with fail
                (with_reducible refine kt.mono ?_)
                rintro e w9 ⟨rfl, hp, hg, _⟩
                have HF10 := Lib.hid (HF9.out.call hp hg)
                have hO10 := HO9.out.kept hg (fun k hk => by injection hk with hk; have := HFe.out.gp; have := HSRT.out; omega)
                have HO10 := Lib.hid hO10
                have HM10 := Lib.hid (HMM.out.trans (HMX.out.trans HMt.out))
                clear hp hg kt hO10
                cases tc with
                | true =>
                  have hk2 := HTK.out rfl
                  have hdec : mS4 K S2 < mS4 K S := mS4_lt2 HE0.out HFe.out.par.lt (by have := HMX.out.k; omega)
                  have HDEC := Lib.hid hdec
                  have HNX := Lib.hid (show callL4 K.L expr f' ks2 S2 = QQ by rw [← HGo.out]; simp)
                  have HFL := Lib.hid (show mS4 K S2 ≤ f' by have := HFu.out; have := HF'.out; omega)
                  have HLL := Lib.hid (show ks2.length ≤ S2.k by have := HKS.out; have := HMX.out.k; have := HK2.out; omega)
                  clear hk2 hdec HGo
                  go_wp2_with fail
                  refine ⟨⟨f', ks2, S2, _, HNX.out, HFL.out, HF10.out, HO10.out, HM10.out, HLL.out⟩, ?_⟩
                  rw [mea4_par HF10.out.par, HME.out]
                  exact HDEC.out
                | false =>
                  have HNX := Lib.hid (show (ks2, S2) = QQ by rw [← HGo.out]; simp)
                  clear HGo
                  have kw := want4_any (⟨#[41]⟩ : ByteArray) hG _ d S2 HF10.out.par
                  have HWM := Lib.hid (Mono4.want K.L (⟨#[41]⟩ : ByteArray) S2)
                  go_wp2_with fail
                  (with_reducible refine kw.mono ?_)
                  rintro e wz ⟨rfl, hp, hg, _⟩
                  have FZ := HF10.out.call hp hg
                  have hOZ := HO10.out.kept hg (fun k hk => by injection hk with hk; have := HF10.out.gp; have := HSRT.out; have := HF10.out.ge 1 rfl; omega)
                  have HL := Lib.hid (FZ.get 2 rfl)
                  have HS := Lib.hid (FZ.get 0 rfl)
                  have hOY := hOZ.kept (w' := wz.setRow w.heap.size #[.string ⟨#[99, 97, 108, 108]⟩, .string nm, .int .i64 0, .int .i64 (ya : Int), .slice x8 ks2.length c8]) (row := some w.heap.size) ⟨rfl, rfl, rfl, by rw [setRow_size]; exact Nat.le_refl _, fun k _ hk => setRow_other wz w.heap.size k _ (fun e => hk (by rw [e]))⟩ (fun k hk => by injection hk with hk; have := HSRT.out; have := FZ.ge 1 rfl; omega)
                  have HFY := Lib.hid (FZ.store 0 rfl #[.string ⟨#[99, 97, 108, 108]⟩, .string nm, .int .i64 0, .int .i64 (ya : Int), .slice x8 ks2.length c8])
                  have HOY := Lib.hid hOY
                  clear hp hg kw hOZ FZ hOY
                  go_wp2_with (first | (refine wpList_load_row rfl 53 (.tmp 12) rfl w4.heap.size rfl 53 #[.string ⟨#[99, 97, 108, 108]⟩, .string nm, .int .i64 0, .int .i64 (ya : Int), .slice x8 ks2.length c8] (0, 0) _ HL.out Try.underlying53 rfl HSE.out ?_) | (refine wpList_store_row rfl 53 (.tmp 2) (.tmp 155) rfl w.heap.size #[.string ⟨#[99, 97, 108, 108]⟩, .string nm, .int .i64 0, .int .i64 (ya : Int), .slice x8 ks2.length c8] rfl rfl 53 _ HS.out HSE.out rfl (e4_one _ _ _ _ _ _ _) ?_))
                  refine bodyPost_ret (v := .agg #[.string ⟨#[99, 97, 108, 108]⟩, .string nm, .int .i64 0, .int .i64 (ya : Int), .slice x8 ks2.length c8]) (results_cell_row (p := 2) (ty := 53) rfl _ _ w.heap.size 53 _ (0, 0) _ rfl (HFY.out.get 0 rfl) Try.underlying53 rfl HSE.out) rfl ?_
                  rw [HE3.out, ← HNX.out]
                  exact ⟨x8, c8, rfl, (HOY.out.ends (by have := HKS.out; have := HFe.out.par.lt; have := hG.few; have := HK2.out; omega)).mono (fun k hk _ => by have := HSRT.out; have := HFY.out.ge 1 rfl; have : w4.heap.size < k := hk; show w.heap.size ≤ k; omega), HFY.out.par, HFY.out.gb, HM10.out.trans HWM.out⟩
              · have d0 : ((S.er : Int) == 0) = false := by simp; omega
                have HNX := Lib.hid ((callL4_stop K.L expr f ks S e0).symm.trans hR)
                obtain ⟨x9, c9, rfl, _, _⟩ := hO.slice
                have HFe := Lib.hid hF
                have HO := Lib.hid hO
                have HMM := Lib.hid hm
                have hsrt := hF.srt
                simp only [List.pairwise_cons, List.mem_cons, List.not_mem_nil, or_false, forall_eq_or_imp, forall_eq, List.Pairwise.nil, and_true] at hsrt
                have HSRT := Lib.hid hsrt
                have HKS := Lib.hid hks
                clear hF hO hm hR hf hks hme e0 p1 hsrt
                have kw := want4_any (⟨#[41]⟩ : ByteArray) hG _ d S HFe.out.par
                have HWM := Lib.hid (Mono4.want K.L (⟨#[41]⟩ : ByteArray) S)
                go_wp2_with fail
                (with_reducible refine kw.mono ?_)
                rintro e wz ⟨rfl, hp, hg, _⟩
                have FZ := HFe.out.call hp hg
                have hOZ := HO.out.kept hg (fun k hk => by injection hk with hk; have := HFe.out.gp; have := HSRT.out; have := HFe.out.ge 1 rfl; omega)
                have HL := Lib.hid (FZ.get 2 rfl)
                have HS := Lib.hid (FZ.get 0 rfl)
                have hOY := hOZ.kept (w' := wz.setRow w.heap.size #[.string ⟨#[99, 97, 108, 108]⟩, .string nm, .int .i64 0, .int .i64 (ya : Int), .slice x9 ks.length c9]) (row := some w.heap.size) ⟨rfl, rfl, rfl, by rw [setRow_size]; exact Nat.le_refl _, fun k _ hk => setRow_other wz w.heap.size k _ (fun e => hk (by rw [e]))⟩ (fun k hk => by injection hk with hk; have := HSRT.out; have := FZ.ge 1 rfl; omega)
                have HFY := Lib.hid (FZ.store 0 rfl #[.string ⟨#[99, 97, 108, 108]⟩, .string nm, .int .i64 0, .int .i64 (ya : Int), .slice x9 ks.length c9])
                have HOY := Lib.hid hOY
                clear hp hg kw hOZ FZ hOY
                go_wp2_with (first | (refine wpList_load_row rfl 53 (.tmp 12) rfl w4.heap.size rfl 53 #[.string ⟨#[99, 97, 108, 108]⟩, .string nm, .int .i64 0, .int .i64 (ya : Int), .slice x9 ks.length c9] (0, 0) _ HL.out Try.underlying53 rfl HSE.out ?_) | (refine wpList_store_row rfl 53 (.tmp 2) (.tmp 155) rfl w.heap.size #[.string ⟨#[99, 97, 108, 108]⟩, .string nm, .int .i64 0, .int .i64 (ya : Int), .slice x9 ks.length c9] rfl rfl 53 _ HS.out HSE.out rfl (e4_one _ _ _ _ _ _ _) ?_))
                refine bodyPost_ret (v := .agg #[.string ⟨#[99, 97, 108, 108]⟩, .string nm, .int .i64 0, .int .i64 (ya : Int), .slice x9 ks.length c9]) (results_cell_row (p := 2) (ty := 53) rfl _ _ w.heap.size 53 _ (0, 0) _ rfl (HFY.out.get 0 rfl) Try.underlying53 rfl HSE.out) rfl ?_
                rw [HE3.out, ← HNX.out]
                exact ⟨x9, c9, rfl, (HOY.out.ends (by have := HKS.out; have := HFe.out.par.lt; have := hG.few; omega)).mono (fun k hk _ => by have := HSRT.out; have := HFY.out.ge 1 rfl; have : w4.heap.size < k := hk; show w.heap.size ≤ k; omega), HFY.out.par, HFY.out.gb, HMM.out.trans HWM.out⟩
end Go.Proofs.Ytejljfoacbpliaa

namespace Go.Proofs.Ytejljfoacbpliaa
open Go Go.RowKit
set_option maxHeartbeats 4000000 in
set_option maxRecDepth 100000 in
theorem un0_any {K : K4} (hG : Good4 K) {d : Nat} (prim : S4 → Ex × S4) (kp : CX4 K 151 d prim) (w : World) (s : S4) (h : Par4 K w d s) (h1 : is4 K.L (⟨#[110, 111, 116]⟩ : ByteArray) s = false) (h2 : is4 K.L (⟨#[45]⟩ : ByteArray) s = false) (h3 : is4 K.L (⟨#[112, 114, 101]⟩ : ByteArray) s = false) : Calls Try.prog 150 #[.pointer (some ⟨K.gp, 0, none⟩)] w (GivesX4 K d s (prim s) w) := by
  have F1 := (Fr.start h).alloc w.heap.size rfl 53 #[.string ⟨#[]⟩, .string ⟨#[]⟩, .int .i64 0, .int .i64 0, .slice none 0 0]
  have HSE := Lib.hid size_e4
  have kw := w_any hG _ d s F1.par
  have g1 := fun W (hp : Par4 K W d s) => is4_any (⟨#[110, 111, 116]⟩ : ByteArray) hG W d s hp
  rw [h1] at g1
  have H1 := Lib.hid g1
  have g2 := fun W (hp : Par4 K W d s) => is4_any (⟨#[45]⟩ : ByteArray) hG W d s hp
  rw [h2] at g2
  have H2 := Lib.hid g2
  have g3 := fun W (hp : Par4 K W d s) => is4_any (⟨#[112, 114, 101]⟩ : ByteArray) hG W d s hp
  rw [h3] at g3
  have H3 := Lib.hid g3
  obtain ⟨yy, hyy⟩ : ∃ y, y = cur4 K.L s := ⟨_, rfl⟩
  rw [← hyy] at kw
  obtain ⟨yk, yt, yn, ya⟩ := yy
  unfold W4.cells at kw
  simp only at kw
  have kfi := field4_a (yk : Int) yn (ya : Int) yt
  have kpp := fun W (hp : Par4 K W d s) => kp W s hp
  obtain ⟨r, hr⟩ : ∃ r, r = prim s := ⟨_, rfl⟩
  rw [← hr] at kpp ⊢
  have HKP := Lib.hid kpp
  have HF1 := Lib.hid F1
  clear kpp kp h F1 hyy hr g1 g2 g3 h1 h2 h3
  go_enter Try.func150, Try.ntmps150
  go_wp2_with fail
  (with_reducible refine kw.mono ?_)
  rintro e w1 ⟨rfl, hb⟩
  have F2 := HF1.out.call (HF1.out.par.below hb) (gb_below hb)
  have k1 := H1.out _ F2.par
  have HF2 := Lib.hid F2
  clear hb kw F2
  go_wp2_with fail
  (with_reducible refine k1.mono ?_)
  rintro e w2 ⟨rfl, hp, hg, _⟩
  have F3 := HF2.out.call hp hg
  have k2 := H2.out _ F3.par
  have HF3 := Lib.hid F3
  clear hp hg k1 F3
  go_wp2_with fail
  (with_reducible refine k2.mono ?_)
  rintro e w3 ⟨rfl, hp, hg, _⟩
  have F4 := HF3.out.call hp hg
  have k3 := H3.out _ F4.par
  have HF4 := Lib.hid F4
  clear hp hg k2 F4
  go_wp2_with fail
  (with_reducible refine k3.mono ?_)
  rintro e w4 ⟨rfl, hp, hg, _⟩
  have F5 := HF4.out.call hp hg
  have HF5 := Lib.hid F5
  clear hp hg k3 F5
  have kp := HKP.out _ HF5.out.par
  go_wp2_with fail
  (with_reducible refine kp.mono ?_)
  rintro e w9 ⟨x, c, rfl, ht, hp, hg, hm⟩
  obtain ⟨a, S⟩ := r
  unfold exV
  simp only at ht hp hm ⊢
  have F9 := HF5.out.callT hp hg ht
  have HS := Lib.hid (F9.get 0 rfl)
  have HF10 := Lib.hid (F9.store 0 rfl #[.string a.op, .string a.name, .int .i64 a.n, .int .i64 (a.at_ : Int), .slice x a.kids.length c])
  have HM := Lib.hid hm
  clear ht hp hg hm kp F9
  go_wp2_with (refine wpList_store_row rfl 53 (.tmp 2) (.tmp 21) rfl w.heap.size #[.string a.op, .string a.name, .int .i64 a.n, .int .i64 (a.at_ : Int), .slice x a.kids.length c] rfl rfl 53 _ HS.out HSE.out rfl (e4_one _ _ _ _ _ _ _) ?_)
  refine bodyPost_ret (v := .agg #[.string a.op, .string a.name, .int .i64 a.n, .int .i64 (a.at_ : Int), .slice x a.kids.length c]) (results_cell_row (p := 2) (ty := 53) rfl _ _ w.heap.size 53 _ (0, 0) _ rfl (HF10.out.get 0 rfl) Try.underlying53 rfl HSE.out) rfl ⟨x, c, rfl, HF10.out.out 0 rfl, HF10.out.par, HF10.out.gb, HM.out⟩
end Go.Proofs.Ytejljfoacbpliaa

namespace Go.Proofs.Ytejljfoacbpliaa
open Go Go.RowKit
set_option maxHeartbeats 4000000 in
set_option maxRecDepth 100000 in
theorem un1_any {K : K4} (hG : Good4 K) {d : Nat} {n : Nat} (hdn : d + n = 30) (sub : S4 → Ex × S4) (ku : n ≠ 0 → CX4 K 150 (d + 1) sub) (w : World) (s : S4) (h : Par4 K w d s) (h1 : is4 K.L (⟨#[110, 111, 116]⟩ : ByteArray) s = true) : Calls Try.prog 150 #[.pointer (some ⟨K.gp, 0, none⟩)] w (GivesX4 K d s (if (part4 K.L s).er = 0 then deep4 K.L n sub (fun a => .mk (⟨#[110, 111, 116]⟩ : ByteArray) ⟨#[]⟩ 0 (cur4 K.L s).at_ [a]) (inc4 (part4 K.L s)) else (exZ, part4 K.L s)) w) := by
  have F1 := (Fr.start h).alloc w.heap.size rfl 53 #[.string ⟨#[]⟩, .string ⟨#[]⟩, .int .i64 0, .int .i64 0, .slice none 0 0]
  have HSE := Lib.hid size_e4
  have kw := w_any hG _ d s F1.par
  have g1 := fun W (hp : Par4 K W d s) => is4_any (⟨#[110, 111, 116]⟩ : ByteArray) hG W d s hp
  rw [h1] at g1
  have H1 := Lib.hid g1
  obtain ⟨yy, hyy⟩ : ∃ y, y = cur4 K.L s := ⟨_, rfl⟩
  have hpt := fun W (hp : Par4 K W d s) => part4_any hG W d s hp
  have hmp := Mono4.part K.L s
  have hlt : (inc4 (part4 K.L s)).k < K.L.length := by
    have := inc_lt hG h.lt (is4_kind h1).1
    show (part4 K.L s).k + 1 < _
    rw [part4_k]; exact this
  obtain ⟨P, hP⟩ : ∃ P, P = part4 K.L s := ⟨_, rfl⟩
  rw [← hyy, ← hP]
  rw [← hyy] at kw
  rw [← hP] at hpt hmp hlt
  obtain ⟨yk, yt, yn, ya⟩ := yy
  unfold W4.cells at kw
  simp only at kw ⊢
  have kfi := field4_a (yk : Int) yn (ya : Int) yt
  have HPT := Lib.hid hpt
  have HF1 := Lib.hid F1
  have HLT := Lib.hid hlt
  have HMP := Lib.hid hmp
  have hadd : IntKind.i64.wrap ((P.k : Int) + 1) = (P.k : Int) + 1 := by rw [IntKind.wrap_i64]; have := hG.few; have : P.k + 1 < K.L.length := hlt; omega
  clear hpt h F1 hyy hP hlt hmp g1 h1
  by_cases e0 : P.er = 0
  · have e1 : ((P.er : Int) != 0) = false := by simp; omega
    rw [if_pos e0]
    have i0 : (inc4 P).er = 0 := e0
    unfold deep4
    rw [if_pos i0]
    by_cases hn : n = 0
    · rw [if_pos hn]
      have ki := fun W (hp : Par4 K W d (inc4 P)) => in4_no hG W d _ hp (fun _ => by omega)
      have hin : in4S K.L d (inc4 P) = fail4 K.L 2 (inc4 P) := by unfold in4S; rw [if_pos ⟨i0, by omega⟩]
      rw [hin] at ki
      have KI := Lib.hid ki
      have HM3 := Lib.hid ((HMP.out.trans (Mono4.inc P)).trans (Mono4.fail K.L 2 (by decide) (inc4 P)))
      clear e0 i0 hn ki hin ku
      go_enter Try.func150, Try.ntmps150
      go_wp2_with fail
      (with_reducible refine kw.mono ?_)
      rintro e w1 ⟨rfl, hb⟩
      have F2 := HF1.out.call (HF1.out.par.below hb) (gb_below hb)
      have k1 := H1.out _ F2.par
      have HF2 := Lib.hid F2
      clear hb kw F2
      go_wp2_with fail
      (with_reducible refine k1.mono ?_)
      rintro e w2 ⟨rfl, hp, hg, _⟩
      have F3 := HF2.out.call hp hg
      have HF3 := Lib.hid F3
      clear hp hg k1 F3
      have kp := HPT.out _ HF3.out.par
      go_wp2_with fail
      (with_reducible refine kp.mono ?_)
      rintro e w7 ⟨rfl, hp, hg, _⟩
      have F7 := HF3.out.call hp hg
      obtain ⟨_, p1, p2, _, _, _, _⟩ := F7.par.cells
      have f1 := F7.par.frozen 1
      clear hp hg kp
      have F8 := F7.own hG 1 (.int .i64 ((P.k : Int) + 1)) (s' := inc4 P) (d' := d) (by unfold parC4 inc4; simp) HLT.out
      have ki := KI.out _ F8.par
      have HF8 := Lib.hid F8
      clear F7 F8
      go_wp2_with fail
      (with_reducible refine ki.mono ?_)
      rintro e w9 ⟨rfl, hp, hg, _⟩
      have F9 := HF8.out.call hp hg
      have HS := Lib.hid (F9.get 0 rfl)
      have HF10 := Lib.hid (F9.store 0 rfl #[.string ⟨#[]⟩, .string ⟨#[]⟩, .int .i64 0, .int .i64 0, .slice none 0 0])
      clear hp hg ki F9
      go_wp2_with (refine wpList_store_row rfl 53 (.tmp 2) (.tmp 41) rfl w.heap.size #[.string ⟨#[]⟩, .string ⟨#[]⟩, .int .i64 0, .int .i64 0, .slice none 0 0] rfl rfl 53 _ HS.out HSE.out rfl (e4_one _ _ _ _ _ _ _) ?_)
      refine bodyPost_ret (v := .agg #[.string ⟨#[]⟩, .string ⟨#[]⟩, .int .i64 0, .int .i64 0, .slice none 0 0]) (results_cell_row (p := 2) (ty := 53) rfl _ _ w.heap.size 53 _ (0, 0) _ rfl (HF10.out.get 0 rfl) Try.underlying53 rfl HSE.out) rfl ⟨none, 0, rfl, kidsZ _ _, HF10.out.par, HF10.out.gb, HM3.out⟩
    · rw [if_neg hn]
      have ki := fun W (hp : Par4 K W d (inc4 P)) => in4_yes hG W d _ hp i0 (by omega)
      have KI := Lib.hid ki
      have HA := Lib.hid (ku hn)
      have hd0 : IntKind.i64.wrap (((d + 1 : Nat) : Int) - 1) = (d : Int) := by rw [IntKind.wrap_i64]; omega
      have hd1 : ((d + 1 : Nat) : Int) = (d : Int) + 1 := by omega
      obtain ⟨r, hr⟩ : ∃ r, r = sub (inc4 P) := ⟨_, rfl⟩
      rw [← hr]
      have HR := Lib.hid hr
      clear e0 i0 hn ki hr ku
      go_enter Try.func150, Try.ntmps150
      go_wp2_with fail
      (with_reducible refine kw.mono ?_)
      rintro e w1 ⟨rfl, hb⟩
      have F2 := HF1.out.call (HF1.out.par.below hb) (gb_below hb)
      have k1 := H1.out _ F2.par
      have HF2 := Lib.hid F2
      clear hb kw F2
      go_wp2_with fail
      (with_reducible refine k1.mono ?_)
      rintro e w2 ⟨rfl, hp, hg, _⟩
      have F3 := HF2.out.call hp hg
      have HF3 := Lib.hid F3
      clear hp hg k1 F3
      have kp := HPT.out _ HF3.out.par
      go_wp2_with fail
      (with_reducible refine kp.mono ?_)
      rintro e w7 ⟨rfl, hp, hg, _⟩
      have F7 := HF3.out.call hp hg
      obtain ⟨_, p1, p2, _, _, _, _⟩ := F7.par.cells
      have f1 := F7.par.frozen 1
      clear hp hg kp
      have F8 := F7.own hG 1 (.int .i64 ((P.k : Int) + 1)) (s' := inc4 P) (d' := d) (by unfold parC4 inc4; simp) HLT.out
      have ki := KI.out _ F8.par
      have HF8 := Lib.hid F8
      clear F7 F8
      go_wp2_with fail
      (with_reducible refine ki.mono ?_)
      rintro e w8 ⟨rfl, hp, hg, _⟩
      have F9 := HF8.out.call hp hg
      have kb := HA.out _ _ F9.par
      rw [← HR.out] at kb
      have HF9 := Lib.hid F9
      clear hp hg ki F9
      go_wp2_with fail
      (with_reducible refine kb.mono ?_)
      rintro e w9 ⟨x, c, rfl, ht, hp, hg, hm⟩
      obtain ⟨a, S⟩ := r
      unfold exV
      simp only at ht hp hm ⊢
      have F10 := (HF9.out.callT hp hg ht).alloc w9.heap.size rfl 53 #[.string a.op, .string a.name, .int .i64 a.n, .int .i64 (a.at_ : Int), .slice x a.kids.length c]
      have HM := Lib.hid ((HMP.out.trans (Mono4.inc P)).trans hm)
      clear ht hp hg hm kb
      obtain ⟨_, _, _, _, q4, _, _⟩ := F10.par.cells
      have f4 := F10.par.frozen 4
      rw [hd1] at q4
      have F11 := F10.own hG 4 (.int .i64 (d : Int)) (s' := S) (d' := d) (by unfold parC4; simp) F10.par.lt
      have HL := Lib.hid (F11.get 1 rfl)
      have ka := F11.inn 0 rfl
      have F12 := F11.make 53 #[.string a.op, .string a.name, .int .i64 a.n, .int .i64 (a.at_ : Int), .slice x a.kids.length c] (w9.heap.size + 1) (by simp) 1 (by decide) (by decide) (exsD [a]) (by
        rw [exsD_cons, exsD_nil, List.append_nil]
        exact KidsD.rows (e := a) ka)
      have HS := Lib.hid (F12.get 0 rfl)
      have HF13 := Lib.hid (F12.store 0 rfl #[.string ⟨#[110, 111, 116]⟩, .string ⟨#[]⟩, .int .i64 0, .int .i64 (ya : Int), .slice (some ⟨w9.heap.size + 1, 0, none⟩) 1 1])
      clear F10 F11 F12 ka
      go_wp2_with (first | (refine wpList_load_row rfl 53 (.tmp 5) rfl w9.heap.size rfl 53 #[.string a.op, .string a.name, .int .i64 a.n, .int .i64 (a.at_ : Int), .slice x a.kids.length c] (0, 0) _ HL.out Try.underlying53 rfl HSE.out ?_) | (refine wpList_store_row rfl 53 (.tmp 2) (.tmp 55) rfl w.heap.size #[.string ⟨#[110, 111, 116]⟩, .string ⟨#[]⟩, .int .i64 0, .int .i64 (ya : Int), .slice (some ⟨w9.heap.size + 1, 0, none⟩) 1 1] rfl rfl 53 _ HS.out HSE.out rfl (e4_one _ _ _ _ _ _ _) ?_))
      refine bodyPost_ret (v := .agg #[.string ⟨#[110, 111, 116]⟩, .string ⟨#[]⟩, .int .i64 0, .int .i64 (ya : Int), .slice (some ⟨w9.heap.size + 1, 0, none⟩) 1 1]) (results_cell_row (p := 2) (ty := 53) rfl _ _ w.heap.size 53 _ (0, 0) _ rfl (HF13.out.get 0 rfl) Try.underlying53 rfl HSE.out) rfl ⟨some ⟨w9.heap.size + 1, 0, none⟩, 1, rfl, HF13.out.out 1 rfl, HF13.out.par, HF13.out.gb, HM.out⟩
  · have e1 : ((P.er : Int) != 0) = true := by simp; omega
    rw [if_neg e0]
    clear e0 ku
    go_enter Try.func150, Try.ntmps150
    go_wp2_with fail
    (with_reducible refine kw.mono ?_)
    rintro e w1 ⟨rfl, hb⟩
    have F2 := HF1.out.call (HF1.out.par.below hb) (gb_below hb)
    have k1 := H1.out _ F2.par
    have HF2 := Lib.hid F2
    clear hb kw F2
    go_wp2_with fail
    (with_reducible refine k1.mono ?_)
    rintro e w2 ⟨rfl, hp, hg, _⟩
    have F3 := HF2.out.call hp hg
    have HF3 := Lib.hid F3
    clear hp hg k1 F3
    have kp := HPT.out _ HF3.out.par
    go_wp2_with fail
    (with_reducible refine kp.mono ?_)
    rintro e w7 ⟨rfl, hp, hg, _⟩
    have F7 := HF3.out.call hp hg
    obtain ⟨_, p1, p2, _, _, _, _⟩ := F7.par.cells
    have f1 := F7.par.frozen 1
    clear hp hg kp
    have HS := Lib.hid (F7.get 0 rfl)
    have HF8 := Lib.hid (F7.store 0 rfl #[.string ⟨#[]⟩, .string ⟨#[]⟩, .int .i64 0, .int .i64 0, .slice none 0 0])
    clear F7
    go_wp2_with (refine wpList_store_row rfl 53 (.tmp 2) (.tmp 30) rfl w.heap.size #[.string ⟨#[]⟩, .string ⟨#[]⟩, .int .i64 0, .int .i64 0, .slice none 0 0] rfl rfl 53 _ HS.out HSE.out rfl (e4_one _ _ _ _ _ _ _) ?_)
    refine bodyPost_ret (v := .agg #[.string ⟨#[]⟩, .string ⟨#[]⟩, .int .i64 0, .int .i64 0, .slice none 0 0]) (results_cell_row (p := 2) (ty := 53) rfl _ _ w.heap.size 53 _ (0, 0) _ rfl (HF8.out.get 0 rfl) Try.underlying53 rfl HSE.out) rfl ⟨none, 0, rfl, kidsZ _ _, HF8.out.par, HF8.out.gb, HMP.out⟩
end Go.Proofs.Ytejljfoacbpliaa

namespace Go.Proofs.Ytejljfoacbpliaa
open Go Go.RowKit
set_option maxHeartbeats 4000000 in
set_option maxRecDepth 100000 in
theorem un2_any {K : K4} (hG : Good4 K) {d : Nat} {n : Nat} (hdn : d + n = 30) (sub : S4 → Ex × S4) (ku : n ≠ 0 → CX4 K 150 (d + 1) sub) (w : World) (s : S4) (h : Par4 K w d s) (h1 : is4 K.L (⟨#[110, 111, 116]⟩ : ByteArray) s = false) (h2 : is4 K.L (⟨#[45]⟩ : ByteArray) s = true) : Calls Try.prog 150 #[.pointer (some ⟨K.gp, 0, none⟩)] w (GivesX4 K d s (if (part4 K.L s).er = 0 then deep4 K.L n sub (fun a => .mk (⟨#[110, 101, 103]⟩ : ByteArray) ⟨#[]⟩ 0 (cur4 K.L s).at_ [a]) (inc4 (part4 K.L s)) else (exZ, part4 K.L s)) w) := by
  have F1 := (Fr.start h).alloc w.heap.size rfl 53 #[.string ⟨#[]⟩, .string ⟨#[]⟩, .int .i64 0, .int .i64 0, .slice none 0 0]
  have HSE := Lib.hid size_e4
  have kw := w_any hG _ d s F1.par
  have g1 := fun W (hp : Par4 K W d s) => is4_any (⟨#[110, 111, 116]⟩ : ByteArray) hG W d s hp
  rw [h1] at g1
  have H1 := Lib.hid g1
  have g2 := fun W (hp : Par4 K W d s) => is4_any (⟨#[45]⟩ : ByteArray) hG W d s hp
  rw [h2] at g2
  have H2 := Lib.hid g2
  obtain ⟨yy, hyy⟩ : ∃ y, y = cur4 K.L s := ⟨_, rfl⟩
  have hpt := fun W (hp : Par4 K W d s) => part4_any hG W d s hp
  have hmp := Mono4.part K.L s
  have hlt : (inc4 (part4 K.L s)).k < K.L.length := by
    have := inc_lt hG h.lt (is4_kind h2).1
    show (part4 K.L s).k + 1 < _
    rw [part4_k]; exact this
  obtain ⟨P, hP⟩ : ∃ P, P = part4 K.L s := ⟨_, rfl⟩
  rw [← hyy, ← hP]
  rw [← hyy] at kw
  rw [← hP] at hpt hmp hlt
  obtain ⟨yk, yt, yn, ya⟩ := yy
  unfold W4.cells at kw
  simp only at kw ⊢
  have kfi := field4_a (yk : Int) yn (ya : Int) yt
  have HPT := Lib.hid hpt
  have HF1 := Lib.hid F1
  have HLT := Lib.hid hlt
  have HMP := Lib.hid hmp
  have hadd : IntKind.i64.wrap ((P.k : Int) + 1) = (P.k : Int) + 1 := by rw [IntKind.wrap_i64]; have := hG.few; have : P.k + 1 < K.L.length := hlt; omega
  clear hpt h F1 hyy hP hlt hmp g1 h1 g2 h2
  by_cases e0 : P.er = 0
  · have e1 : ((P.er : Int) != 0) = false := by simp; omega
    rw [if_pos e0]
    have i0 : (inc4 P).er = 0 := e0
    unfold deep4
    rw [if_pos i0]
    by_cases hn : n = 0
    · rw [if_pos hn]
      have ki := fun W (hp : Par4 K W d (inc4 P)) => in4_no hG W d _ hp (fun _ => by omega)
      have hin : in4S K.L d (inc4 P) = fail4 K.L 2 (inc4 P) := by unfold in4S; rw [if_pos ⟨i0, by omega⟩]
      rw [hin] at ki
      have KI := Lib.hid ki
      have HM3 := Lib.hid ((HMP.out.trans (Mono4.inc P)).trans (Mono4.fail K.L 2 (by decide) (inc4 P)))
      clear e0 i0 hn ki hin ku
      go_enter Try.func150, Try.ntmps150
      go_wp2_with fail
      (with_reducible refine kw.mono ?_)
      rintro e w1 ⟨rfl, hb⟩
      have F2 := HF1.out.call (HF1.out.par.below hb) (gb_below hb)
      have k1 := H1.out _ F2.par
      have HF2 := Lib.hid F2
      clear hb kw F2
      go_wp2_with fail
      (with_reducible refine k1.mono ?_)
      rintro e w2 ⟨rfl, hp, hg, _⟩
      have F3 := HF2.out.call hp hg
      have k2 := H2.out _ F3.par
      have HF3 := Lib.hid F3
      clear hp hg k1 F3
      go_wp2_with fail
      (with_reducible refine k2.mono ?_)
      rintro e w3 ⟨rfl, hp, hg, _⟩
      have F4 := HF3.out.call hp hg
      have HF4 := Lib.hid F4
      clear hp hg k2 F4
      have kp := HPT.out _ HF4.out.par
      go_wp2_with fail
      (with_reducible refine kp.mono ?_)
      rintro e w7 ⟨rfl, hp, hg, _⟩
      have F7 := HF4.out.call hp hg
      obtain ⟨_, p1, p2, _, _, _, _⟩ := F7.par.cells
      have f1 := F7.par.frozen 1
      clear hp hg kp
      have F8 := F7.own hG 1 (.int .i64 ((P.k : Int) + 1)) (s' := inc4 P) (d' := d) (by unfold parC4 inc4; simp) HLT.out
      have ki := KI.out _ F8.par
      have HF8 := Lib.hid F8
      clear F7 F8
      go_wp2_with fail
      (with_reducible refine ki.mono ?_)
      rintro e w9 ⟨rfl, hp, hg, _⟩
      have F9 := HF8.out.call hp hg
      have HS := Lib.hid (F9.get 0 rfl)
      have HF10 := Lib.hid (F9.store 0 rfl #[.string ⟨#[]⟩, .string ⟨#[]⟩, .int .i64 0, .int .i64 0, .slice none 0 0])
      clear hp hg ki F9
      go_wp2_with (refine wpList_store_row rfl 53 (.tmp 2) (.tmp 41) rfl w.heap.size #[.string ⟨#[]⟩, .string ⟨#[]⟩, .int .i64 0, .int .i64 0, .slice none 0 0] rfl rfl 53 _ HS.out HSE.out rfl (e4_one _ _ _ _ _ _ _) ?_)
      refine bodyPost_ret (v := .agg #[.string ⟨#[]⟩, .string ⟨#[]⟩, .int .i64 0, .int .i64 0, .slice none 0 0]) (results_cell_row (p := 2) (ty := 53) rfl _ _ w.heap.size 53 _ (0, 0) _ rfl (HF10.out.get 0 rfl) Try.underlying53 rfl HSE.out) rfl ⟨none, 0, rfl, kidsZ _ _, HF10.out.par, HF10.out.gb, HM3.out⟩
    · rw [if_neg hn]
      have ki := fun W (hp : Par4 K W d (inc4 P)) => in4_yes hG W d _ hp i0 (by omega)
      have KI := Lib.hid ki
      have HA := Lib.hid (ku hn)
      have hd0 : IntKind.i64.wrap (((d + 1 : Nat) : Int) - 1) = (d : Int) := by rw [IntKind.wrap_i64]; omega
      have hd1 : ((d + 1 : Nat) : Int) = (d : Int) + 1 := by omega
      obtain ⟨r, hr⟩ : ∃ r, r = sub (inc4 P) := ⟨_, rfl⟩
      rw [← hr]
      have HR := Lib.hid hr
      clear e0 i0 hn ki hr ku
      go_enter Try.func150, Try.ntmps150
      go_wp2_with fail
      (with_reducible refine kw.mono ?_)
      rintro e w1 ⟨rfl, hb⟩
      have F2 := HF1.out.call (HF1.out.par.below hb) (gb_below hb)
      have k1 := H1.out _ F2.par
      have HF2 := Lib.hid F2
      clear hb kw F2
      go_wp2_with fail
      (with_reducible refine k1.mono ?_)
      rintro e w2 ⟨rfl, hp, hg, _⟩
      have F3 := HF2.out.call hp hg
      have k2 := H2.out _ F3.par
      have HF3 := Lib.hid F3
      clear hp hg k1 F3
      go_wp2_with fail
      (with_reducible refine k2.mono ?_)
      rintro e w3 ⟨rfl, hp, hg, _⟩
      have F4 := HF3.out.call hp hg
      have HF4 := Lib.hid F4
      clear hp hg k2 F4
      have kp := HPT.out _ HF4.out.par
      go_wp2_with fail
      (with_reducible refine kp.mono ?_)
      rintro e w7 ⟨rfl, hp, hg, _⟩
      have F7 := HF4.out.call hp hg
      obtain ⟨_, p1, p2, _, _, _, _⟩ := F7.par.cells
      have f1 := F7.par.frozen 1
      clear hp hg kp
      have F8 := F7.own hG 1 (.int .i64 ((P.k : Int) + 1)) (s' := inc4 P) (d' := d) (by unfold parC4 inc4; simp) HLT.out
      have ki := KI.out _ F8.par
      have HF8 := Lib.hid F8
      clear F7 F8
      go_wp2_with fail
      (with_reducible refine ki.mono ?_)
      rintro e w8 ⟨rfl, hp, hg, _⟩
      have F9 := HF8.out.call hp hg
      have kb := HA.out _ _ F9.par
      rw [← HR.out] at kb
      have HF9 := Lib.hid F9
      clear hp hg ki F9
      go_wp2_with fail
      (with_reducible refine kb.mono ?_)
      rintro e w9 ⟨x, c, rfl, ht, hp, hg, hm⟩
      obtain ⟨a, S⟩ := r
      unfold exV
      simp only at ht hp hm ⊢
      have F10 := (HF9.out.callT hp hg ht).alloc w9.heap.size rfl 53 #[.string a.op, .string a.name, .int .i64 a.n, .int .i64 (a.at_ : Int), .slice x a.kids.length c]
      have HM := Lib.hid ((HMP.out.trans (Mono4.inc P)).trans hm)
      clear ht hp hg hm kb
      obtain ⟨_, _, _, _, q4, _, _⟩ := F10.par.cells
      have f4 := F10.par.frozen 4
      rw [hd1] at q4
      have F11 := F10.own hG 4 (.int .i64 (d : Int)) (s' := S) (d' := d) (by unfold parC4; simp) F10.par.lt
      have HL := Lib.hid (F11.get 1 rfl)
      have ka := F11.inn 0 rfl
      have F12 := F11.make 53 #[.string a.op, .string a.name, .int .i64 a.n, .int .i64 (a.at_ : Int), .slice x a.kids.length c] (w9.heap.size + 1) (by simp) 1 (by decide) (by decide) (exsD [a]) (by
        rw [exsD_cons, exsD_nil, List.append_nil]
        exact KidsD.rows (e := a) ka)
      have HS := Lib.hid (F12.get 0 rfl)
      have HF13 := Lib.hid (F12.store 0 rfl #[.string ⟨#[110, 101, 103]⟩, .string ⟨#[]⟩, .int .i64 0, .int .i64 (ya : Int), .slice (some ⟨w9.heap.size + 1, 0, none⟩) 1 1])
      clear F10 F11 F12 ka
      go_wp2_with (first | (refine wpList_load_row rfl 53 (.tmp 5) rfl w9.heap.size rfl 53 #[.string a.op, .string a.name, .int .i64 a.n, .int .i64 (a.at_ : Int), .slice x a.kids.length c] (0, 0) _ HL.out Try.underlying53 rfl HSE.out ?_) | (refine wpList_store_row rfl 53 (.tmp 2) (.tmp 55) rfl w.heap.size #[.string ⟨#[110, 101, 103]⟩, .string ⟨#[]⟩, .int .i64 0, .int .i64 (ya : Int), .slice (some ⟨w9.heap.size + 1, 0, none⟩) 1 1] rfl rfl 53 _ HS.out HSE.out rfl (e4_one _ _ _ _ _ _ _) ?_))
      refine bodyPost_ret (v := .agg #[.string ⟨#[110, 101, 103]⟩, .string ⟨#[]⟩, .int .i64 0, .int .i64 (ya : Int), .slice (some ⟨w9.heap.size + 1, 0, none⟩) 1 1]) (results_cell_row (p := 2) (ty := 53) rfl _ _ w.heap.size 53 _ (0, 0) _ rfl (HF13.out.get 0 rfl) Try.underlying53 rfl HSE.out) rfl ⟨some ⟨w9.heap.size + 1, 0, none⟩, 1, rfl, HF13.out.out 1 rfl, HF13.out.par, HF13.out.gb, HM.out⟩
  · have e1 : ((P.er : Int) != 0) = true := by simp; omega
    rw [if_neg e0]
    clear e0 ku
    go_enter Try.func150, Try.ntmps150
    go_wp2_with fail
    (with_reducible refine kw.mono ?_)
    rintro e w1 ⟨rfl, hb⟩
    have F2 := HF1.out.call (HF1.out.par.below hb) (gb_below hb)
    have k1 := H1.out _ F2.par
    have HF2 := Lib.hid F2
    clear hb kw F2
    go_wp2_with fail
    (with_reducible refine k1.mono ?_)
    rintro e w2 ⟨rfl, hp, hg, _⟩
    have F3 := HF2.out.call hp hg
    have k2 := H2.out _ F3.par
    have HF3 := Lib.hid F3
    clear hp hg k1 F3
    go_wp2_with fail
    (with_reducible refine k2.mono ?_)
    rintro e w3 ⟨rfl, hp, hg, _⟩
    have F4 := HF3.out.call hp hg
    have HF4 := Lib.hid F4
    clear hp hg k2 F4
    have kp := HPT.out _ HF4.out.par
    go_wp2_with fail
    (with_reducible refine kp.mono ?_)
    rintro e w7 ⟨rfl, hp, hg, _⟩
    have F7 := HF4.out.call hp hg
    obtain ⟨_, p1, p2, _, _, _, _⟩ := F7.par.cells
    have f1 := F7.par.frozen 1
    clear hp hg kp
    have HS := Lib.hid (F7.get 0 rfl)
    have HF8 := Lib.hid (F7.store 0 rfl #[.string ⟨#[]⟩, .string ⟨#[]⟩, .int .i64 0, .int .i64 0, .slice none 0 0])
    clear F7
    go_wp2_with (refine wpList_store_row rfl 53 (.tmp 2) (.tmp 30) rfl w.heap.size #[.string ⟨#[]⟩, .string ⟨#[]⟩, .int .i64 0, .int .i64 0, .slice none 0 0] rfl rfl 53 _ HS.out HSE.out rfl (e4_one _ _ _ _ _ _ _) ?_)
    refine bodyPost_ret (v := .agg #[.string ⟨#[]⟩, .string ⟨#[]⟩, .int .i64 0, .int .i64 0, .slice none 0 0]) (results_cell_row (p := 2) (ty := 53) rfl _ _ w.heap.size 53 _ (0, 0) _ rfl (HF8.out.get 0 rfl) Try.underlying53 rfl HSE.out) rfl ⟨none, 0, rfl, kidsZ _ _, HF8.out.par, HF8.out.gb, HMP.out⟩
end Go.Proofs.Ytejljfoacbpliaa

namespace Go.Proofs.Ytejljfoacbpliaa
open Go Go.RowKit
set_option maxHeartbeats 4000000 in
set_option maxRecDepth 100000 in
theorem un3_any {K : K4} (hG : Good4 K) {d : Nat} {n : Nat} (hdn : d + n = 30) (sub : S4 → Ex × S4) (ku : n ≠ 0 → CX4 K 150 (d + 1) sub) (w : World) (s : S4) (h : Par4 K w d s) (h1 : is4 K.L (⟨#[110, 111, 116]⟩ : ByteArray) s = false) (h2 : is4 K.L (⟨#[45]⟩ : ByteArray) s = false) (h3 : is4 K.L (⟨#[112, 114, 101]⟩ : ByteArray) s = true) : Calls Try.prog 150 #[.pointer (some ⟨K.gp, 0, none⟩)] w (GivesX4 K d s (if (part4 K.L s).er = 0 then deep4 K.L n sub (fun a => .mk (⟨#[112, 114, 101]⟩ : ByteArray) ⟨#[]⟩ 0 (cur4 K.L s).at_ [a]) (inc4 (part4 K.L s)) else (exZ, part4 K.L s)) w) := by
  have F1 := (Fr.start h).alloc w.heap.size rfl 53 #[.string ⟨#[]⟩, .string ⟨#[]⟩, .int .i64 0, .int .i64 0, .slice none 0 0]
  have HSE := Lib.hid size_e4
  have kw := w_any hG _ d s F1.par
  have g1 := fun W (hp : Par4 K W d s) => is4_any (⟨#[110, 111, 116]⟩ : ByteArray) hG W d s hp
  rw [h1] at g1
  have H1 := Lib.hid g1
  have g2 := fun W (hp : Par4 K W d s) => is4_any (⟨#[45]⟩ : ByteArray) hG W d s hp
  rw [h2] at g2
  have H2 := Lib.hid g2
  have g3 := fun W (hp : Par4 K W d s) => is4_any (⟨#[112, 114, 101]⟩ : ByteArray) hG W d s hp
  rw [h3] at g3
  have H3 := Lib.hid g3
  obtain ⟨yy, hyy⟩ : ∃ y, y = cur4 K.L s := ⟨_, rfl⟩
  have hpt := fun W (hp : Par4 K W d s) => part4_any hG W d s hp
  have hmp := Mono4.part K.L s
  have hlt : (inc4 (part4 K.L s)).k < K.L.length := by
    have := inc_lt hG h.lt (is4_kind h3).1
    show (part4 K.L s).k + 1 < _
    rw [part4_k]; exact this
  obtain ⟨P, hP⟩ : ∃ P, P = part4 K.L s := ⟨_, rfl⟩
  rw [← hyy, ← hP]
  rw [← hyy] at kw
  rw [← hP] at hpt hmp hlt
  obtain ⟨yk, yt, yn, ya⟩ := yy
  unfold W4.cells at kw
  simp only at kw ⊢
  have kfi := field4_a (yk : Int) yn (ya : Int) yt
  have HPT := Lib.hid hpt
  have HF1 := Lib.hid F1
  have HLT := Lib.hid hlt
  have HMP := Lib.hid hmp
  have hadd : IntKind.i64.wrap ((P.k : Int) + 1) = (P.k : Int) + 1 := by rw [IntKind.wrap_i64]; have := hG.few; have : P.k + 1 < K.L.length := hlt; omega
  clear hpt h F1 hyy hP hlt hmp g1 h1 g2 h2 g3 h3
  by_cases e0 : P.er = 0
  · have e1 : ((P.er : Int) != 0) = false := by simp; omega
    rw [if_pos e0]
    have i0 : (inc4 P).er = 0 := e0
    unfold deep4
    rw [if_pos i0]
    by_cases hn : n = 0
    · rw [if_pos hn]
      have ki := fun W (hp : Par4 K W d (inc4 P)) => in4_no hG W d _ hp (fun _ => by omega)
      have hin : in4S K.L d (inc4 P) = fail4 K.L 2 (inc4 P) := by unfold in4S; rw [if_pos ⟨i0, by omega⟩]
      rw [hin] at ki
      have KI := Lib.hid ki
      have HM3 := Lib.hid ((HMP.out.trans (Mono4.inc P)).trans (Mono4.fail K.L 2 (by decide) (inc4 P)))
      clear e0 i0 hn ki hin ku
      go_enter Try.func150, Try.ntmps150
      go_wp2_with fail
      (with_reducible refine kw.mono ?_)
      rintro e w1 ⟨rfl, hb⟩
      have F2 := HF1.out.call (HF1.out.par.below hb) (gb_below hb)
      have k1 := H1.out _ F2.par
      have HF2 := Lib.hid F2
      clear hb kw F2
      go_wp2_with fail
      (with_reducible refine k1.mono ?_)
      rintro e w2 ⟨rfl, hp, hg, _⟩
      have F3 := HF2.out.call hp hg
      have k2 := H2.out _ F3.par
      have HF3 := Lib.hid F3
      clear hp hg k1 F3
      go_wp2_with fail
      (with_reducible refine k2.mono ?_)
      rintro e w3 ⟨rfl, hp, hg, _⟩
      have F4 := HF3.out.call hp hg
      have k3 := H3.out _ F4.par
      have HF4 := Lib.hid F4
      clear hp hg k2 F4
      go_wp2_with fail
      (with_reducible refine k3.mono ?_)
      rintro e w4 ⟨rfl, hp, hg, _⟩
      have F5 := HF4.out.call hp hg
      have HF5 := Lib.hid F5
      clear hp hg k3 F5
      have kp := HPT.out _ HF5.out.par
      go_wp2_with fail
      (with_reducible refine kp.mono ?_)
      rintro e w7 ⟨rfl, hp, hg, _⟩
      have F7 := HF5.out.call hp hg
      obtain ⟨_, p1, p2, _, _, _, _⟩ := F7.par.cells
      have f1 := F7.par.frozen 1
      clear hp hg kp
      have F8 := F7.own hG 1 (.int .i64 ((P.k : Int) + 1)) (s' := inc4 P) (d' := d) (by unfold parC4 inc4; simp) HLT.out
      have ki := KI.out _ F8.par
      have HF8 := Lib.hid F8
      clear F7 F8
      go_wp2_with fail
      (with_reducible refine ki.mono ?_)
      rintro e w9 ⟨rfl, hp, hg, _⟩
      have F9 := HF8.out.call hp hg
      have HS := Lib.hid (F9.get 0 rfl)
      have HF10 := Lib.hid (F9.store 0 rfl #[.string ⟨#[]⟩, .string ⟨#[]⟩, .int .i64 0, .int .i64 0, .slice none 0 0])
      clear hp hg ki F9
      go_wp2_with (refine wpList_store_row rfl 53 (.tmp 2) (.tmp 41) rfl w.heap.size #[.string ⟨#[]⟩, .string ⟨#[]⟩, .int .i64 0, .int .i64 0, .slice none 0 0] rfl rfl 53 _ HS.out HSE.out rfl (e4_one _ _ _ _ _ _ _) ?_)
      refine bodyPost_ret (v := .agg #[.string ⟨#[]⟩, .string ⟨#[]⟩, .int .i64 0, .int .i64 0, .slice none 0 0]) (results_cell_row (p := 2) (ty := 53) rfl _ _ w.heap.size 53 _ (0, 0) _ rfl (HF10.out.get 0 rfl) Try.underlying53 rfl HSE.out) rfl ⟨none, 0, rfl, kidsZ _ _, HF10.out.par, HF10.out.gb, HM3.out⟩
    · rw [if_neg hn]
      have ki := fun W (hp : Par4 K W d (inc4 P)) => in4_yes hG W d _ hp i0 (by omega)
      have KI := Lib.hid ki
      have HA := Lib.hid (ku hn)
      have hd0 : IntKind.i64.wrap (((d + 1 : Nat) : Int) - 1) = (d : Int) := by rw [IntKind.wrap_i64]; omega
      have hd1 : ((d + 1 : Nat) : Int) = (d : Int) + 1 := by omega
      obtain ⟨r, hr⟩ : ∃ r, r = sub (inc4 P) := ⟨_, rfl⟩
      rw [← hr]
      have HR := Lib.hid hr
      clear e0 i0 hn ki hr ku
      go_enter Try.func150, Try.ntmps150
      go_wp2_with fail
      (with_reducible refine kw.mono ?_)
      rintro e w1 ⟨rfl, hb⟩
      have F2 := HF1.out.call (HF1.out.par.below hb) (gb_below hb)
      have k1 := H1.out _ F2.par
      have HF2 := Lib.hid F2
      clear hb kw F2
      go_wp2_with fail
      (with_reducible refine k1.mono ?_)
      rintro e w2 ⟨rfl, hp, hg, _⟩
      have F3 := HF2.out.call hp hg
      have k2 := H2.out _ F3.par
      have HF3 := Lib.hid F3
      clear hp hg k1 F3
      go_wp2_with fail
      (with_reducible refine k2.mono ?_)
      rintro e w3 ⟨rfl, hp, hg, _⟩
      have F4 := HF3.out.call hp hg
      have k3 := H3.out _ F4.par
      have HF4 := Lib.hid F4
      clear hp hg k2 F4
      go_wp2_with fail
      (with_reducible refine k3.mono ?_)
      rintro e w4 ⟨rfl, hp, hg, _⟩
      have F5 := HF4.out.call hp hg
      have HF5 := Lib.hid F5
      clear hp hg k3 F5
      have kp := HPT.out _ HF5.out.par
      go_wp2_with fail
      (with_reducible refine kp.mono ?_)
      rintro e w7 ⟨rfl, hp, hg, _⟩
      have F7 := HF5.out.call hp hg
      obtain ⟨_, p1, p2, _, _, _, _⟩ := F7.par.cells
      have f1 := F7.par.frozen 1
      clear hp hg kp
      have F8 := F7.own hG 1 (.int .i64 ((P.k : Int) + 1)) (s' := inc4 P) (d' := d) (by unfold parC4 inc4; simp) HLT.out
      have ki := KI.out _ F8.par
      have HF8 := Lib.hid F8
      clear F7 F8
      go_wp2_with fail
      (with_reducible refine ki.mono ?_)
      rintro e w8 ⟨rfl, hp, hg, _⟩
      have F9 := HF8.out.call hp hg
      have kb := HA.out _ _ F9.par
      rw [← HR.out] at kb
      have HF9 := Lib.hid F9
      clear hp hg ki F9
      go_wp2_with fail
      (with_reducible refine kb.mono ?_)
      rintro e w9 ⟨x, c, rfl, ht, hp, hg, hm⟩
      obtain ⟨a, S⟩ := r
      unfold exV
      simp only at ht hp hm ⊢
      have F10 := (HF9.out.callT hp hg ht).alloc w9.heap.size rfl 53 #[.string a.op, .string a.name, .int .i64 a.n, .int .i64 (a.at_ : Int), .slice x a.kids.length c]
      have HM := Lib.hid ((HMP.out.trans (Mono4.inc P)).trans hm)
      clear ht hp hg hm kb
      obtain ⟨_, _, _, _, q4, _, _⟩ := F10.par.cells
      have f4 := F10.par.frozen 4
      rw [hd1] at q4
      have F11 := F10.own hG 4 (.int .i64 (d : Int)) (s' := S) (d' := d) (by unfold parC4; simp) F10.par.lt
      have HL := Lib.hid (F11.get 1 rfl)
      have ka := F11.inn 0 rfl
      have F12 := F11.make 53 #[.string a.op, .string a.name, .int .i64 a.n, .int .i64 (a.at_ : Int), .slice x a.kids.length c] (w9.heap.size + 1) (by simp) 1 (by decide) (by decide) (exsD [a]) (by
        rw [exsD_cons, exsD_nil, List.append_nil]
        exact KidsD.rows (e := a) ka)
      have HS := Lib.hid (F12.get 0 rfl)
      have HF13 := Lib.hid (F12.store 0 rfl #[.string ⟨#[112, 114, 101]⟩, .string ⟨#[]⟩, .int .i64 0, .int .i64 (ya : Int), .slice (some ⟨w9.heap.size + 1, 0, none⟩) 1 1])
      clear F10 F11 F12 ka
      go_wp2_with (first | (refine wpList_load_row rfl 53 (.tmp 5) rfl w9.heap.size rfl 53 #[.string a.op, .string a.name, .int .i64 a.n, .int .i64 (a.at_ : Int), .slice x a.kids.length c] (0, 0) _ HL.out Try.underlying53 rfl HSE.out ?_) | (refine wpList_store_row rfl 53 (.tmp 2) (.tmp 55) rfl w.heap.size #[.string ⟨#[112, 114, 101]⟩, .string ⟨#[]⟩, .int .i64 0, .int .i64 (ya : Int), .slice (some ⟨w9.heap.size + 1, 0, none⟩) 1 1] rfl rfl 53 _ HS.out HSE.out rfl (e4_one _ _ _ _ _ _ _) ?_))
      refine bodyPost_ret (v := .agg #[.string ⟨#[112, 114, 101]⟩, .string ⟨#[]⟩, .int .i64 0, .int .i64 (ya : Int), .slice (some ⟨w9.heap.size + 1, 0, none⟩) 1 1]) (results_cell_row (p := 2) (ty := 53) rfl _ _ w.heap.size 53 _ (0, 0) _ rfl (HF13.out.get 0 rfl) Try.underlying53 rfl HSE.out) rfl ⟨some ⟨w9.heap.size + 1, 0, none⟩, 1, rfl, HF13.out.out 1 rfl, HF13.out.par, HF13.out.gb, HM.out⟩
  · have e1 : ((P.er : Int) != 0) = true := by simp; omega
    rw [if_neg e0]
    clear e0 ku
    go_enter Try.func150, Try.ntmps150
    go_wp2_with fail
    (with_reducible refine kw.mono ?_)
    rintro e w1 ⟨rfl, hb⟩
    have F2 := HF1.out.call (HF1.out.par.below hb) (gb_below hb)
    have k1 := H1.out _ F2.par
    have HF2 := Lib.hid F2
    clear hb kw F2
    go_wp2_with fail
    (with_reducible refine k1.mono ?_)
    rintro e w2 ⟨rfl, hp, hg, _⟩
    have F3 := HF2.out.call hp hg
    have k2 := H2.out _ F3.par
    have HF3 := Lib.hid F3
    clear hp hg k1 F3
    go_wp2_with fail
    (with_reducible refine k2.mono ?_)
    rintro e w3 ⟨rfl, hp, hg, _⟩
    have F4 := HF3.out.call hp hg
    have k3 := H3.out _ F4.par
    have HF4 := Lib.hid F4
    clear hp hg k2 F4
    go_wp2_with fail
    (with_reducible refine k3.mono ?_)
    rintro e w4 ⟨rfl, hp, hg, _⟩
    have F5 := HF4.out.call hp hg
    have HF5 := Lib.hid F5
    clear hp hg k3 F5
    have kp := HPT.out _ HF5.out.par
    go_wp2_with fail
    (with_reducible refine kp.mono ?_)
    rintro e w7 ⟨rfl, hp, hg, _⟩
    have F7 := HF5.out.call hp hg
    obtain ⟨_, p1, p2, _, _, _, _⟩ := F7.par.cells
    have f1 := F7.par.frozen 1
    clear hp hg kp
    have HS := Lib.hid (F7.get 0 rfl)
    have HF8 := Lib.hid (F7.store 0 rfl #[.string ⟨#[]⟩, .string ⟨#[]⟩, .int .i64 0, .int .i64 0, .slice none 0 0])
    clear F7
    go_wp2_with (refine wpList_store_row rfl 53 (.tmp 2) (.tmp 30) rfl w.heap.size #[.string ⟨#[]⟩, .string ⟨#[]⟩, .int .i64 0, .int .i64 0, .slice none 0 0] rfl rfl 53 _ HS.out HSE.out rfl (e4_one _ _ _ _ _ _ _) ?_)
    refine bodyPost_ret (v := .agg #[.string ⟨#[]⟩, .string ⟨#[]⟩, .int .i64 0, .int .i64 0, .slice none 0 0]) (results_cell_row (p := 2) (ty := 53) rfl _ _ w.heap.size 53 _ (0, 0) _ rfl (HF8.out.get 0 rfl) Try.underlying53 rfl HSE.out) rfl ⟨none, 0, rfl, kidsZ _ _, HF8.out.par, HF8.out.gb, HMP.out⟩
end Go.Proofs.Ytejljfoacbpliaa

namespace Go.Proofs.Ytejljfoacbpliaa
open Go Go.RowKit
theorem un4_any {K : K4} (hG : Good4 K) {d n : Nat} (hdn : d + n = 30) (sub : F4) (prim : S4 → Ex × S4) (kp : CX4 K 151 d prim) (ku : n ≠ 0 → CX4 K 150 (d + 1) sub.un) : CX4 K 150 d (un4 K.L n sub prim) := by
  intro w s h
  unfold un4 unOp4
  cases h1 : is4 K.L (⟨#[110, 111, 116]⟩ : ByteArray) s with
  | true => exact un1_any hG hdn sub.un ku w s h h1
  | false =>
    cases h2 : is4 K.L (⟨#[45]⟩ : ByteArray) s with
    | true => exact un2_any hG hdn sub.un ku w s h h1 h2
    | false =>
      cases h3 : is4 K.L (⟨#[112, 114, 101]⟩ : ByteArray) s with
      | true => exact un3_any hG hdn sub.un ku w s h h1 h2 h3
      | false => exact un0_any hG prim kp w s h h1 h2 h3
end Go.Proofs.Ytejljfoacbpliaa

namespace Go.Proofs.Ytejljfoacbpliaa
open Go Go.RowKit
set_option maxHeartbeats 4000000 in
set_option maxRecDepth 100000 in
theorem arrow4_any {K : K4} (hG : Good4 K) {d n : Nat} (hdn : d + n = 30) (fst sub : S4 → Ex × S4) (ka : CR4 K 0 d fst) (kb : n ≠ 0 → CX4 K 140 (d + 1) sub) :
    CX4 K 140 d (fun s => let a := fst s; if is4 K.L (⟨#[45, 62]⟩ : ByteArray) a.2 = true then deep4 K.L n sub (op2 (⟨#[45, 62]⟩ : ByteArray) (cur4 K.L a.2).at_ a.1) (take4 K.L (⟨#[45, 62]⟩ : ByteArray) (part4 K.L a.2)).2 else a) := by
  intro w s h
  have F1 := (Fr.start h).alloc w.heap.size rfl 53 #[.string ⟨#[]⟩, .string ⟨#[]⟩, .int .i64 0, .int .i64 0, .slice none 0 0]
  have HSE := Lib.hid size_e4
  have ka := ka _ s F1.par
  simp only
  obtain ⟨a0, ha0⟩ : ∃ r, r = fst s := ⟨_, rfl⟩
  rw [← ha0] at ka ⊢
  obtain ⟨a, s1⟩ := a0
  simp only at ka ⊢
  have hw := fun W (hp : Par4 K W d s1) => w_any hG W d s1 hp
  have hi := fun W (hp : Par4 K W d s1) => is4_any (⟨#[45, 62]⟩ : ByteArray) hG W d s1 hp
  have hpt := fun W (hp : Par4 K W d s1) => part4_any hG W d s1 hp
  have htk := fun W (hp : Par4 K W d (part4 K.L s1)) => take4_any (⟨#[45, 62]⟩ : ByteArray) hG W d _ hp
  have hmp := Mono4.part K.L s1
  have hmt := Mono4.take K.L (⟨#[45, 62]⟩ : ByteArray) (part4 K.L s1)
  obtain ⟨bb, hbb⟩ : ∃ b, b = is4 K.L (⟨#[45, 62]⟩ : ByteArray) s1 := ⟨_, rfl⟩
  obtain ⟨yy, hyy⟩ : ∃ y, y = cur4 K.L s1 := ⟨_, rfl⟩
  rw [← hbb] at hi ⊢
  rw [← hyy] at hw ⊢
  obtain ⟨yk, yt, yn, ya⟩ := yy
  unfold W4.cells at hw
  simp only at hw ⊢
  have kfi := field4_a (yk : Int) yn (ya : Int) yt
  have HF1 := Lib.hid F1
  have HW := Lib.hid hw
  have HI := Lib.hid hi
  have HPT := Lib.hid hpt
  clear ha0 h F1 hw hi hpt hbb hyy
  cases bb
  · rw [if_neg (by decide)]
    clear hmp hmt htk HPT kb
    go_enter Try.func140, Try.ntmps140
    go_wp2_with fail
    (with_reducible refine ka.mono ?_)
    rintro e w1 ⟨x, c, rfl, ht, hp, hg, hm1⟩
    unfold exV
    simp only at ht hp hm1 ⊢
    have F2 := (HF1.out.callT hp hg ht).alloc w1.heap.size rfl 53 #[.string a.op, .string a.name, .int .i64 a.n, .int .i64 (a.at_ : Int), .slice x a.kids.length c]
    have kw := HW.out _ F2.par
    have HM1 := Lib.hid hm1
    have HF2 := Lib.hid F2
    clear ht hp hg ka hm1 F2
    go_wp2_with fail
    (with_reducible refine kw.mono ?_)
    rintro e w2 ⟨rfl, hb2⟩
    have F3 := HF2.out.call (HF2.out.par.below hb2) (gb_below hb2)
    have ki := HI.out _ F3.par
    have HF3 := Lib.hid F3
    clear hb2 kw F3
    go_wp2_with fail
    (with_reducible refine ki.mono ?_)
    rintro e w3 ⟨rfl, hp, hg, _⟩
    have F4 := HF3.out.call hp hg
    have HL := Lib.hid (F4.get 1 rfl)
    have HS := Lib.hid (F4.get 0 rfl)
    have HF5 := Lib.hid (F4.store 0 rfl #[.string a.op, .string a.name, .int .i64 a.n, .int .i64 (a.at_ : Int), .slice x a.kids.length c])
    clear hp hg ki F4
    go_wp2_with (first | (refine wpList_load_row rfl 53 (.tmp 3) rfl w1.heap.size rfl 53 #[.string a.op, .string a.name, .int .i64 a.n, .int .i64 (a.at_ : Int), .slice x a.kids.length c] (0, 0) _ HL.out Try.underlying53 rfl HSE.out ?_) | (refine wpList_store_row rfl 53 (.tmp 2) (.tmp 14) rfl w.heap.size #[.string a.op, .string a.name, .int .i64 a.n, .int .i64 (a.at_ : Int), .slice x a.kids.length c] rfl rfl 53 _ HS.out HSE.out rfl (e4_one _ _ _ _ _ _ _) ?_))
    refine bodyPost_ret (v := .agg #[.string a.op, .string a.name, .int .i64 a.n, .int .i64 (a.at_ : Int), .slice x a.kids.length c]) (results_cell_row (p := 2) (ty := 53) rfl _ _ w.heap.size 53 _ (0, 0) _ rfl (HF5.out.get 0 rfl) Try.underlying53 rfl HSE.out) rfl ⟨x, c, rfl, HF5.out.out 0 rfl, HF5.out.par, HF5.out.gb, HM1.out⟩
  · rw [if_pos rfl]
    obtain ⟨t1, ht1⟩ : ∃ t, t = (take4 K.L (⟨#[45, 62]⟩ : ByteArray) (part4 K.L s1)).1 := ⟨_, rfl⟩
    obtain ⟨s3, hs3⟩ : ∃ t, t = (take4 K.L (⟨#[45, 62]⟩ : ByteArray) (part4 K.L s1)).2 := ⟨_, rfl⟩
    rw [← hs3] at hmt ⊢
    rw [← ht1, ← hs3] at htk
    have HTK := Lib.hid htk
    have HMT := Lib.hid (hmp.trans hmt)
    clear ht1 hs3 htk hmt hmp
    unfold deep4
    by_cases h0 : s3.er = 0 ∧ n ≠ 0
    · rw [if_pos h0.1, if_neg h0.2]
      have ki := fun W (hp : Par4 K W d s3) => in4_yes hG W d s3 hp h0.1 (by omega)
      have KI := Lib.hid ki
      have HA := Lib.hid (kb h0.2)
      have hd0 : IntKind.i64.wrap (((d + 1 : Nat) : Int) - 1) = (d : Int) := by rw [IntKind.wrap_i64]; omega
      have hd1 : ((d + 1 : Nat) : Int) = (d : Int) + 1 := by omega
      obtain ⟨r, hr⟩ : ∃ r, r = sub s3 := ⟨_, rfl⟩
      rw [← hr]
      have HR := Lib.hid hr
      clear h0 kb hr ki
      go_enter Try.func140, Try.ntmps140
      go_wp2_with fail
      (with_reducible refine ka.mono ?_)
      rintro e w1 ⟨x, c, rfl, ht, hp, hg, hm1⟩
      unfold exV
      simp only at ht hp hm1 ⊢
      have F2 := (HF1.out.callT hp hg ht).alloc w1.heap.size rfl 53 #[.string a.op, .string a.name, .int .i64 a.n, .int .i64 (a.at_ : Int), .slice x a.kids.length c]
      have kw := HW.out _ F2.par
      have HM1 := Lib.hid hm1
      have HF2 := Lib.hid F2
      clear ht hp hg ka hm1 F2
      go_wp2_with fail
      (with_reducible refine kw.mono ?_)
      rintro e w2 ⟨rfl, hb2⟩
      have F3 := HF2.out.call (HF2.out.par.below hb2) (gb_below hb2)
      have ki := HI.out _ F3.par
      have HF3 := Lib.hid F3
      clear hb2 kw F3
      go_wp2_with fail
      (with_reducible refine ki.mono ?_)
      rintro e w3 ⟨rfl, hp, hg, _⟩
      have F4 := HF3.out.call hp hg
      have kp := HPT.out _ F4.par
      have HF4 := Lib.hid F4
      clear hp hg ki F4
      go_wp2_with fail
      (with_reducible refine kp.mono ?_)
      rintro e w4 ⟨rfl, hp, hg, _⟩
      have F5 := HF4.out.call hp hg
      have kt := HTK.out _ F5.par
      have HF5 := Lib.hid F5
      clear hp hg kp F5
      go_wp2_with fail
      (with_reducible refine kt.mono ?_)
      rintro e w5 ⟨rfl, hp, hg, _⟩
      have F6 := HF5.out.call hp hg
      have HF6 := Lib.hid F6
      clear hp hg kt
      have ki := KI.out _ F6.par
      clear F6
      go_wp2_with fail
      (with_reducible refine ki.mono ?_)
      rintro e w6' ⟨rfl, hp, hg, _⟩
      have F7 := HF6.out.call hp hg
      have kb := HA.out _ s3 F7.par
      rw [← HR.out] at kb
      have HF7 := Lib.hid F7
      clear hp hg ki F7
      go_wp2_with fail
      (with_reducible refine kb.mono ?_)
      rintro e w6 ⟨y, cb, rfl, ht, hp, hg, hm⟩
      obtain ⟨b, S⟩ := r
      unfold exV
      simp only at ht hp hm ⊢
      have F8 := (HF7.out.callT hp hg ht).alloc w6.heap.size rfl 53 #[.string b.op, .string b.name, .int .i64 b.n, .int .i64 (b.at_ : Int), .slice y b.kids.length cb]
      have HM := Lib.hid (HM1.out.trans (HMT.out.trans hm))
      clear ht hp hg hm kb
      obtain ⟨_, _, _, _, q4, _, _⟩ := F8.par.cells
      have f4 := F8.par.frozen 4
      rw [hd1] at q4
      have F9 := F8.own hG 4 (.int .i64 (d : Int)) (s' := S) (d' := d) (by unfold parC4; simp) F8.par.lt
      have HL1 := Lib.hid (F9.get 1 rfl)
      have HL2 := Lib.hid (F9.get 2 rfl)
      have ka := F9.inn 0 rfl
      have kb := F9.inn 1 rfl
      have F10 := F9.make 53 #[.string a.op, .string a.name, .int .i64 a.n, .int .i64 (a.at_ : Int), .slice x a.kids.length c, .string b.op, .string b.name, .int .i64 b.n, .int .i64 (b.at_ : Int), .slice y b.kids.length cb] (w6.heap.size + 1) (by simp) 2 (by decide) (by decide) (exsD [a, b]) (by
        rw [exsD_cons, exsD_cons, exsD_nil, List.append_nil]
        exact RowsD.app (KidsD.rows (e := b) kb) _ _ (KidsD.rows (e := a) ka))
      have HS := Lib.hid (F10.get 0 rfl)
      have HF11 := Lib.hid (F10.store 0 rfl #[.string ⟨#[45, 62]⟩, .string ⟨#[]⟩, .int .i64 0, .int .i64 (ya : Int), .slice (some ⟨w6.heap.size + 1, 0, none⟩) 2 2])
      clear F8 F9 F10 ka kb
      go_wp2_with (first | (refine wpList_load_row rfl 53 (.tmp 3) rfl w1.heap.size rfl 53 #[.string a.op, .string a.name, .int .i64 a.n, .int .i64 (a.at_ : Int), .slice x a.kids.length c] (0, 0) _ HL1.out Try.underlying53 rfl HSE.out ?_) | (refine wpList_load_row rfl 53 (.tmp 5) rfl w6.heap.size rfl 53 #[.string b.op, .string b.name, .int .i64 b.n, .int .i64 (b.at_ : Int), .slice y b.kids.length cb] (0, 0) _ HL2.out Try.underlying53 rfl HSE.out ?_) | (refine wpList_store_row rfl 53 (.tmp 2) (.tmp 36) rfl w.heap.size #[.string ⟨#[45, 62]⟩, .string ⟨#[]⟩, .int .i64 0, .int .i64 (ya : Int), .slice (some ⟨w6.heap.size + 1, 0, none⟩) 2 2] rfl rfl 53 _ HS.out HSE.out rfl (e4_one _ _ _ _ _ _ _) ?_))
      refine bodyPost_ret (v := .agg #[.string ⟨#[45, 62]⟩, .string ⟨#[]⟩, .int .i64 0, .int .i64 (ya : Int), .slice (some ⟨w6.heap.size + 1, 0, none⟩) 2 2]) (results_cell_row (p := 2) (ty := 53) rfl _ _ w.heap.size 53 _ (0, 0) _ rfl (HF11.out.get 0 rfl) Try.underlying53 rfl HSE.out) rfl ⟨some ⟨w6.heap.size + 1, 0, none⟩, 2, rfl, HF11.out.out 2 rfl, HF11.out.par, HF11.out.gb, HM.out⟩
    · have hn : s3.er = 0 → ¬ d < 30 := fun e => by have : ¬ n ≠ 0 := fun hx => h0 ⟨e, hx⟩; omega
      have ki := fun W (hp : Par4 K W d s3) => in4_no hG W d s3 hp hn
      have KI := Lib.hid ki
      have hres : ∀ g : Ex → Ex, (if s3.er = 0 then if n = 0 then (exZ, fail4 K.L 2 s3) else (g (sub s3).1, (sub s3).2) else (exZ, s3)) = (exZ, in4S K.L d s3) := fun g => by
        unfold in4S
        by_cases e : s3.er = 0
        · rw [if_pos e, if_pos (show n = 0 by have : ¬ n ≠ 0 := fun hx => h0 ⟨e, hx⟩; omega), if_pos ⟨e, hn e⟩]
        · rw [if_neg e, if_neg (fun h => e h.1)]
      rw [hres]
      clear h0 kb hn hres ki
      go_enter Try.func140, Try.ntmps140
      go_wp2_with fail
      (with_reducible refine ka.mono ?_)
      rintro e w1 ⟨x, c, rfl, ht, hp, hg, hm1⟩
      unfold exV
      simp only at ht hp hm1 ⊢
      have F2 := (HF1.out.callT hp hg ht).alloc w1.heap.size rfl 53 #[.string a.op, .string a.name, .int .i64 a.n, .int .i64 (a.at_ : Int), .slice x a.kids.length c]
      have kw := HW.out _ F2.par
      have HM1 := Lib.hid hm1
      have HF2 := Lib.hid F2
      clear ht hp hg ka hm1 F2
      go_wp2_with fail
      (with_reducible refine kw.mono ?_)
      rintro e w2 ⟨rfl, hb2⟩
      have F3 := HF2.out.call (HF2.out.par.below hb2) (gb_below hb2)
      have ki := HI.out _ F3.par
      have HF3 := Lib.hid F3
      clear hb2 kw F3
      go_wp2_with fail
      (with_reducible refine ki.mono ?_)
      rintro e w3 ⟨rfl, hp, hg, _⟩
      have F4 := HF3.out.call hp hg
      have kp := HPT.out _ F4.par
      have HF4 := Lib.hid F4
      clear hp hg ki F4
      go_wp2_with fail
      (with_reducible refine kp.mono ?_)
      rintro e w4 ⟨rfl, hp, hg, _⟩
      have F5 := HF4.out.call hp hg
      have kt := HTK.out _ F5.par
      have HF5 := Lib.hid F5
      clear hp hg kp F5
      go_wp2_with fail
      (with_reducible refine kt.mono ?_)
      rintro e w5 ⟨rfl, hp, hg, _⟩
      have F6 := HF5.out.call hp hg
      have HF6 := Lib.hid F6
      clear hp hg kt
      have ki := KI.out _ F6.par
      clear F6
      go_wp2_with fail
      (with_reducible refine ki.mono ?_)
      rintro e w6 ⟨rfl, hp, hg, hm⟩
      have F7 := HF6.out.call hp hg
      have HS := Lib.hid (F7.get 0 rfl)
      have HF8 := Lib.hid (F7.store 0 rfl #[.string ⟨#[]⟩, .string ⟨#[]⟩, .int .i64 0, .int .i64 0, .slice none 0 0])
      have HM := Lib.hid (HM1.out.trans (HMT.out.trans hm))
      clear hp hg ki F7 hm
      go_wp2_with (refine wpList_store_row rfl 53 (.tmp 2) (.tmp 22) rfl w.heap.size #[.string ⟨#[]⟩, .string ⟨#[]⟩, .int .i64 0, .int .i64 0, .slice none 0 0] rfl rfl 53 _ HS.out HSE.out rfl (e4_one _ _ _ _ _ _ _) ?_)
      refine bodyPost_ret (v := .agg #[.string ⟨#[]⟩, .string ⟨#[]⟩, .int .i64 0, .int .i64 0, .slice none 0 0]) (results_cell_row (p := 2) (ty := 53) rfl _ _ w.heap.size 53 _ (0, 0) _ rfl (HF8.out.get 0 rfl) Try.underlying53 rfl HSE.out) rfl ⟨none, 0, rfl, kidsZ _ _, HF8.out.par, HF8.out.gb, HM.out⟩
end Go.Proofs.Ytejljfoacbpliaa

namespace Go.Proofs.Ytejljfoacbpliaa
open Go Go.RowKit
theorem whenL4_stop (L : List W4) (f : Nat) (a : Ex) (s : S4) (h : is4 L (⟨#[119, 104, 101, 110]⟩ : ByteArray) s = false) : whenL4 L f a s = (a, s) := by
  cases f with
  | zero => rfl
  | succ f => unfold whenL4; rw [h]; rfl
theorem whenL4_go (L : List W4) (f : Nat) (a : Ex) (s : S4) (h : is4 L (⟨#[119, 104, 101, 110]⟩ : ByteArray) s = true) : whenL4 L (f + 1) a s =
    whenL4 L f (.mk (⟨#[119, 104, 101, 110]⟩ : ByteArray) (name4 L (take4 L (⟨#[110, 111, 116]⟩ : ByteArray) (take4 L (⟨#[119, 104, 101, 110]⟩ : ByteArray) (part4 L s)).2).2).1 (if (take4 L (⟨#[110, 111, 116]⟩ : ByteArray) (take4 L (⟨#[119, 104, 101, 110]⟩ : ByteArray) (part4 L s)).2).1 = true then 0 else 1) (cur4 L s).at_ [a]) (name4 L (take4 L (⟨#[110, 111, 116]⟩ : ByteArray) (take4 L (⟨#[119, 104, 101, 110]⟩ : ByteArray) (part4 L s)).2).2).2 := by
  conv => lhs; unfold whenL4
  rw [h]; rfl
set_option maxHeartbeats 4000000 in
set_option maxRecDepth 100000 in
theorem when4_any {K : K4} (hG : Good4 K) {d : Nat} (un : S4 → Ex × S4) (ka : CX4 K 150 d un) : CX4 K 149 d (when4 K.L un) := by
  intro w s h
  have F1 := (Fr.start h).alloc w.heap.size rfl 53 #[.string ⟨#[]⟩, .string ⟨#[]⟩, .int .i64 0, .int .i64 0, .slice none 0 0]
  have HSE := Lib.hid size_e4
  have ka := ka _ s F1.par
  unfold when4
  obtain ⟨a0, ha0⟩ : ∃ r, r = un s := ⟨_, rfl⟩
  rw [← ha0] at ka ⊢
  obtain ⟨a, s1⟩ := a0
  simp only at ka ⊢
  obtain ⟨RR, hRR⟩ : ∃ r, r = whenL4 K.L (K.L.length + 1) a s1 := ⟨_, rfl⟩
  rw [← hRR]
  have HRR := Lib.hid hRR
  have HF1 := Lib.hid F1
  clear ha0 h F1 hRR
  go_enter Try.func149, Try.ntmps149
  go_wp2_with fail
  (with_reducible refine ka.mono ?_)
  rintro e w1 ⟨x, c, rfl, ht, hp, hg, hm1⟩
  unfold exV
  simp only at ht hp hm1 ⊢
  have HF2 := Lib.hid ((HF1.out.callT hp hg ht).alloc w1.heap.size rfl 53 #[.string a.op, .string a.name, .int .i64 a.n, .int .i64 (a.at_ : Int), .slice x a.kids.length c])
  have HM1 := Lib.hid hm1
  clear ht hp hg ka hm1
  go_wp2_with fail
  go_loopw [] (fun wr => ∃ (f : Nat) (a : Ex) (S : S4) (x : Option Addr) (c : Nat), whenL4 K.L f a S = RR ∧ mS4 K S ≤ f ∧ Fr K w d [(w.heap.size, 53, #[.string ⟨#[]⟩, .string ⟨#[]⟩, .int .i64 0, .int .i64 0, .slice none 0 0]), (w1.heap.size, 53, #[.string a.op, .string a.name, .int .i64 a.n, .int .i64 (a.at_ : Int), .slice x a.kids.length c])] [(.slice x a.kids.length c, .sl a.kids.length (exsD a.kids))] wr S ∧ Mono4 s S)
    (fun wr => mea4 K wr)
  case atStart => exact ⟨K.L.length + 1, a, s1, x, c, HRR.out.symm, by have := mS4_bound K s1; omega, HF2.out, HM1.out⟩
  case round =>
    clear HRR HF2 HM1
    obtain ⟨f, a, S, x, c, hR, hf, hF, hm⟩ := hrel
    have hme := mea4_par hF.par
    have hlt := hF.par.lt
    have ki := is4_any (⟨#[119, 104, 101, 110]⟩ : ByteArray) hG _ d S hF.par
    have hstop := whenL4_stop K.L f a S
    have hgo := whenL4_go K.L (f - 1) a S
    have htp := @take_part4 K.L (⟨#[119, 104, 101, 110]⟩ : ByteArray) S
    have hkd := @is4_kind K.L (⟨#[119, 104, 101, 110]⟩ : ByteArray) S
    have hw := fun W (hp : Par4 K W d S) => w_any hG W d S hp
    have hpt := fun W (hp : Par4 K W d S) => part4_any hG W d S hp
    have htk := fun W (hp : Par4 K W d (part4 K.L S)) => take4_any (⟨#[119, 104, 101, 110]⟩ : ByteArray) hG W d _ hp
    have hmp := (Mono4.part K.L S).trans (Mono4.take K.L (⟨#[119, 104, 101, 110]⟩ : ByteArray) (part4 K.L S))
    obtain ⟨bb, hbb⟩ : ∃ b, b = is4 K.L (⟨#[119, 104, 101, 110]⟩ : ByteArray) S := ⟨_, rfl⟩
    obtain ⟨yy, hyy⟩ : ∃ y, y = cur4 K.L S := ⟨_, rfl⟩
    rw [← hbb] at ki hstop hgo htp hkd
    rw [← hyy] at hw hgo
    obtain ⟨t1, ht1⟩ : ∃ t, t = (take4 K.L (⟨#[119, 104, 101, 110]⟩ : ByteArray) (part4 K.L S)).1 := ⟨_, rfl⟩
    obtain ⟨s3, hs3⟩ : ∃ t, t = (take4 K.L (⟨#[119, 104, 101, 110]⟩ : ByteArray) (part4 K.L S)).2 := ⟨_, rfl⟩
    rw [← ht1, ← hs3] at htk
    rw [← hs3] at hmp htp hgo
    have hmn := Mono4.take K.L (⟨#[110, 111, 116]⟩ : ByteArray) s3
    have htn := fun W (hp : Par4 K W d s3) => take4_any (⟨#[110, 111, 116]⟩ : ByteArray) hG W d _ hp
    obtain ⟨t2, ht2⟩ : ∃ t, t = (take4 K.L (⟨#[110, 111, 116]⟩ : ByteArray) s3).1 := ⟨_, rfl⟩
    obtain ⟨s4, hs4⟩ : ∃ t, t = (take4 K.L (⟨#[110, 111, 116]⟩ : ByteArray) s3).2 := ⟨_, rfl⟩
    rw [← ht2, ← hs4] at htn hgo
    rw [← hs4] at hmn
    have hmm := Mono4.name K.L s4
    have hnm := fun W (hp : Par4 K W d s4) => name4_any hG W d _ hp
    obtain ⟨nm, hn1⟩ : ∃ t, t = (name4 K.L s4).1 := ⟨_, rfl⟩
    obtain ⟨s5, hs5⟩ : ∃ t, t = (name4 K.L s4).2 := ⟨_, rfl⟩
    rw [← hn1, ← hs5] at hnm hgo
    rw [← hs5] at hmm
    have hdec : bb = true → mS4 K s5 < mS4 K S := fun e => mS4_lt (hkd e).2 hlt (fun e' => (htp e e').2) (hmn.trans hmm)
    have hmS := hm.trans (hmp.trans (hmn.trans hmm))
    obtain ⟨yk, yt, yn, ya⟩ := yy
    unfold W4.cells at hw
    simp only at hw hgo
    have kfi := field4_a (yk : Int) yn (ya : Int) yt
    have HME := Lib.hid hme
    have HF := Lib.hid hF
    have HM := Lib.hid hm
    have HW := Lib.hid hw
    have HPT := Lib.hid hpt
    have HTK := Lib.hid htk
    have HTN := Lib.hid htn
    have HNM := Lib.hid hnm
    have HMS := Lib.hid hmS
    have HRe := Lib.hid hR
    have HFu := Lib.hid hf
    clear hme hF hm hw hpt htk htn hnm hmS hR hf hlt htp hkd hmp hmn hmm hbb hyy ht1 hs3 ht2 hs4 hn1 hs5
    cases bb
    · have HEND := Lib.hid (show RR = (a, S) by rw [← HRe.out, hstop rfl])
      clear hstop hgo hdec
      go_wp2_with fail
      (with_reducible refine ki.mono ?_)
      rintro e w3 ⟨rfl, hp, hg, _⟩
      have F4 := HF.out.call hp hg
      have HL := Lib.hid (F4.get 1 rfl)
      have HS := Lib.hid (F4.get 0 rfl)
      have HF5 := Lib.hid (F4.store 0 rfl #[.string a.op, .string a.name, .int .i64 a.n, .int .i64 (a.at_ : Int), .slice x a.kids.length c])
      clear hp hg ki F4
      go_wp2_with (first | (refine wpList_load_row rfl 53 (.tmp 3) rfl w1.heap.size rfl 53 #[.string a.op, .string a.name, .int .i64 a.n, .int .i64 (a.at_ : Int), .slice x a.kids.length c] (0, 0) _ HL.out Try.underlying53 rfl HSE.out ?_) | (refine wpList_store_row rfl 53 (.tmp 2) (.tmp 28) rfl w.heap.size #[.string a.op, .string a.name, .int .i64 a.n, .int .i64 (a.at_ : Int), .slice x a.kids.length c] rfl rfl 53 _ HS.out HSE.out rfl (e4_one _ _ _ _ _ _ _) ?_))
      refine bodyPost_ret (v := .agg #[.string a.op, .string a.name, .int .i64 a.n, .int .i64 (a.at_ : Int), .slice x a.kids.length c]) (results_cell_row (p := 2) (ty := 53) rfl _ _ w.heap.size 53 _ (0, 0) _ rfl (HF5.out.get 0 rfl) Try.underlying53 rfl HSE.out) rfl ?_
      rw [HEND.out]
      exact ⟨x, c, rfl, HF5.out.out 0 rfl, HF5.out.par, HF5.out.gb, HM.out⟩
    · have hd1 := hdec rfl
      obtain ⟨f', hf'⟩ : ∃ f', f = f' + 1 := ⟨f - 1, by have := HFu.out; omega⟩
      have hg1 := hgo rfl
      rw [hf', Nat.add_sub_cancel] at hg1
      have HNX := Lib.hid (hg1.symm.trans ((congrArg (fun k => whenL4 K.L k a S) hf'.symm).trans HRe.out))
      have HFL := Lib.hid (show mS4 K s5 ≤ f' by have := HFu.out; omega)
      have HDEC := Lib.hid hd1
      clear hf' hd1 hg1 hstop hgo hdec
      go_wp2_with fail
      (with_reducible refine ki.mono ?_)
      rintro e w3 ⟨rfl, hp, hg, _⟩
      have F4 := HF.out.call hp hg
      have kw := HW.out _ F4.par
      have HF4 := Lib.hid F4
      clear hp hg ki F4
      go_wp2_with fail
      (with_reducible refine kw.mono ?_)
      rintro e w4 ⟨rfl, hb⟩
      have F5 := HF4.out.call (HF4.out.par.below hb) (gb_below hb)
      have kp := HPT.out _ F5.par
      have HF5 := Lib.hid F5
      clear hb kw F5
      go_wp2_with fail
      (with_reducible refine kp.mono ?_)
      rintro e w5 ⟨rfl, hp, hg, _⟩
      have F6 := HF5.out.call hp hg
      have kt := HTK.out _ F6.par
      have HF6 := Lib.hid F6
      clear hp hg kp F6
      go_wp2_with fail
      (with_reducible refine kt.mono ?_)
      rintro e w6 ⟨rfl, hp, hg, _⟩
      have F7 := HF6.out.call hp hg
      have kn := HTN.out _ F7.par
      have HF7 := Lib.hid F7
      clear hp hg kt F7
      cases t2
      · go_wp2_with fail
        (with_reducible refine kn.mono ?_)
        rintro e w7 ⟨rfl, hp, hg, _⟩
        have F8 := HF7.out.call hp hg
        have km := HNM.out _ F8.par
        have HF8 := Lib.hid F8
        clear hp hg kn F8
        go_wp2_with fail
        (with_reducible refine km.mono ?_)
        rintro e w9 ⟨rfl, hp, hg, _⟩
        have F9 := HF8.out.call hp hg
        clear hp hg km
        have ka := F9.inn 0 rfl
        have F10 := F9.make 53 #[.string a.op, .string a.name, .int .i64 a.n, .int .i64 (a.at_ : Int), .slice x a.kids.length c] w9.heap.size rfl 1 (by decide) (by decide) (exsD [a]) (by
          rw [exsD_cons, exsD_nil, List.append_nil]
          exact KidsD.rows (e := a) ka)
        have HL0 := Lib.hid (F9.get 1 rfl)
        have HL := Lib.hid (F10.get 1 rfl)
        have F11 := F10.store 1 rfl #[.string ⟨#[119, 104, 101, 110]⟩, .string nm, .int .i64 1, .int .i64 (ya : Int), .slice (some ⟨w9.heap.size, 0, none⟩) 1 1]
        have HF12 := Lib.hid (F11.only [(.slice (some ⟨w9.heap.size, 0, none⟩) 1 1, .sl 1 (exsD [a]))] (by simp))
        clear F9 F10 F11 ka
        go_wp2_with (first | (refine wpList_load_row rfl 53 (.tmp 3) rfl w1.heap.size rfl 53 #[.string a.op, .string a.name, .int .i64 a.n, .int .i64 (a.at_ : Int), .slice x a.kids.length c] (0, 0) _ HL0.out Try.underlying53 rfl HSE.out ?_) | (refine wpList_store_row rfl 53 (.tmp 3) (.tmp 27) rfl w1.heap.size #[.string ⟨#[119, 104, 101, 110]⟩, .string nm, .int .i64 1, .int .i64 (ya : Int), .slice (some ⟨w9.heap.size, 0, none⟩) 1 1] rfl rfl 53 _ HL.out HSE.out rfl (e4_one _ _ _ _ _ _ _) ?_))
        refine ⟨⟨_, _, _, _, _, _, _, _, _, _, _, _, _, _, _, _, _, _, _, _, _, _, ⟨f', .mk (⟨#[119, 104, 101, 110]⟩ : ByteArray) nm 1 ya [a], s5, some ⟨w9.heap.size, 0, none⟩, 1, HNX.out, HFL.out, HF12.out, HMS.out⟩, rfl⟩, ?_⟩
        rw [mea4_par HF12.out.par, HME.out]
        exact HDEC.out
      · go_wp2_with fail
        (with_reducible refine kn.mono ?_)
        rintro e w7 ⟨rfl, hp, hg, _⟩
        have F8 := HF7.out.call hp hg
        have km := HNM.out _ F8.par
        have HF8 := Lib.hid F8
        clear hp hg kn F8
        go_wp2_with fail
        (with_reducible refine km.mono ?_)
        rintro e w9 ⟨rfl, hp, hg, _⟩
        have F9 := HF8.out.call hp hg
        clear hp hg km
        have ka := F9.inn 0 rfl
        have F10 := F9.make 53 #[.string a.op, .string a.name, .int .i64 a.n, .int .i64 (a.at_ : Int), .slice x a.kids.length c] w9.heap.size rfl 1 (by decide) (by decide) (exsD [a]) (by
          rw [exsD_cons, exsD_nil, List.append_nil]
          exact KidsD.rows (e := a) ka)
        have HL0 := Lib.hid (F9.get 1 rfl)
        have HL := Lib.hid (F10.get 1 rfl)
        have F11 := F10.store 1 rfl #[.string ⟨#[119, 104, 101, 110]⟩, .string nm, .int .i64 0, .int .i64 (ya : Int), .slice (some ⟨w9.heap.size, 0, none⟩) 1 1]
        have HF12 := Lib.hid (F11.only [(.slice (some ⟨w9.heap.size, 0, none⟩) 1 1, .sl 1 (exsD [a]))] (by simp))
        clear F9 F10 F11 ka
        go_wp2_with (first | (refine wpList_load_row rfl 53 (.tmp 3) rfl w1.heap.size rfl 53 #[.string a.op, .string a.name, .int .i64 a.n, .int .i64 (a.at_ : Int), .slice x a.kids.length c] (0, 0) _ HL0.out Try.underlying53 rfl HSE.out ?_) | (refine wpList_store_row rfl 53 (.tmp 3) (.tmp 27) rfl w1.heap.size #[.string ⟨#[119, 104, 101, 110]⟩, .string nm, .int .i64 0, .int .i64 (ya : Int), .slice (some ⟨w9.heap.size, 0, none⟩) 1 1] rfl rfl 53 _ HL.out HSE.out rfl (e4_one _ _ _ _ _ _ _) ?_))
        refine ⟨⟨_, _, _, _, _, _, _, _, _, _, _, _, _, _, _, _, _, _, _, _, _, _, ⟨f', .mk (⟨#[119, 104, 101, 110]⟩ : ByteArray) nm 0 ya [a], s5, some ⟨w9.heap.size, 0, none⟩, 1, HNX.out, HFL.out, HF12.out, HMS.out⟩, rfl⟩, ?_⟩
        rw [mea4_par HF12.out.par, HME.out]
        exact HDEC.out
end Go.Proofs.Ytejljfoacbpliaa

namespace Go.Proofs.Ytejljfoacbpliaa
open Go Go.RowKit
set_option maxHeartbeats 4000000 in
set_option maxRecDepth 100000 in
theorem row0_any {K : K4} (hG : Good4 K) {d : Nat} (sub : S4 → Ex × S4) (ka : CR4 K 1 d sub) : CR4 K 0 d (row4 K.L OPS0 false sub) := by
  intro w s h
  have HKA := Lib.hid ka
  have F1 := (((((((Fr.start h).alloc w.heap.size rfl 53 #[.string ⟨#[]⟩, .string ⟨#[]⟩, .int .i64 0, .int .i64 0, .slice none 0 0]).alloc (w.heap.size + 1) (by simp) 9 #[.string ⟨#[111, 114]⟩, .string ⟨#[120, 111, 114]⟩]).alloc (w.heap.size + 1 + 1) (by simp) 9 #[.string ⟨#[97, 110, 100]⟩]).alloc (w.heap.size + 1 + 1 + 1) (by simp) 9 #[.string ⟨#[61]⟩, .string ⟨#[60, 62]⟩, .string ⟨#[60]⟩, .string ⟨#[60, 61]⟩, .string ⟨#[62]⟩, .string ⟨#[62, 61]⟩]).alloc (w.heap.size + 1 + 1 + 1 + 1) (by simp) 9 #[.string ⟨#[43]⟩, .string ⟨#[45]⟩]).alloc (w.heap.size + 1 + 1 + 1 + 1 + 1) (by simp) 9 #[.string ⟨#[42]⟩, .string ⟨#[47]⟩, .string ⟨#[109, 111, 100]⟩]).alloc (w.heap.size + 1 + 1 + 1 + 1 + 1 + 1) (by simp) 70 #[.slice (some ⟨w.heap.size + 1, 0, none⟩) 2 2, .slice (some ⟨w.heap.size + 1 + 1, 0, none⟩) 1 1, .slice (some ⟨w.heap.size + 1 + 1 + 1, 0, none⟩) 6 6, .slice (some ⟨w.heap.size + 1 + 1 + 1 + 1, 0, none⟩) 2 2, .slice (some ⟨w.heap.size + 1 + 1 + 1 + 1 + 1, 0, none⟩) 3 3]
  have HSE := Lib.hid size_e4
  have ka := ka _ s F1.par
  unfold row4
  obtain ⟨a0, ha0⟩ : ∃ r, r = sub s := ⟨_, rfl⟩
  rw [← ha0] at ka ⊢
  obtain ⟨a, s1⟩ := a0
  simp only at ka ⊢
  obtain ⟨RR, hRR⟩ : ∃ r, r = rowL4 K.L OPS0 false sub (K.L.length + 1) a s1 := ⟨_, rfl⟩
  rw [← hRR]
  have HRR := Lib.hid hRR
  have HF1 := Lib.hid F1
  clear ha0 h F1 hRR
  go_enter Try.func145, Try.ntmps145
  go_wp2_with fail
  (with_reducible refine ka.mono ?_)
  rintro e w1 ⟨x, c, rfl, ht, hp, hg, hm1⟩
  unfold exV
  simp only at ht hp hm1 ⊢
  have HF2 := Lib.hid (Fr.less (bl' := [(w.heap.size, 53, #[.string ⟨#[]⟩, .string ⟨#[]⟩, .int .i64 0, .int .i64 0, .slice none 0 0]), (w.heap.size + 1, 9, #[.string ⟨#[111, 114]⟩, .string ⟨#[120, 111, 114]⟩]), (w1.heap.size, 53, #[.string a.op, .string a.name, .int .i64 a.n, .int .i64 (a.at_ : Int), .slice x a.kids.length c])]) ((HF1.out.callT hp hg ht).alloc w1.heap.size rfl 53 #[.string a.op, .string a.name, .int .i64 a.n, .int .i64 (a.at_ : Int), .slice x a.kids.length c]) (List.Sublist.cons_cons _ (List.Sublist.cons_cons _ (List.Sublist.cons _ (List.Sublist.cons _ (List.Sublist.cons _ (List.Sublist.cons _ (List.Sublist.cons _ (List.Sublist.cons_cons _ List.Sublist.slnil)))))))))
  have HM1 := Lib.hid hm1
  clear ht hp hg ka hm1
  go_wp2_with fail
  go_loopw [] (fun wr => ∃ (f : Nat) (a : Ex) (S : S4) (x : Option Addr) (c : Nat), rowL4 K.L OPS0 false sub f a S = RR ∧ mS4 K S ≤ f ∧ Fr K w d [(w.heap.size, 53, #[.string ⟨#[]⟩, .string ⟨#[]⟩, .int .i64 0, .int .i64 0, .slice none 0 0]), (w.heap.size + 1, 9, #[.string ⟨#[111, 114]⟩, .string ⟨#[120, 111, 114]⟩]), (w1.heap.size, 53, #[.string a.op, .string a.name, .int .i64 a.n, .int .i64 (a.at_ : Int), .slice x a.kids.length c])] [(.slice x a.kids.length c, .sl a.kids.length (exsD a.kids))] wr S ∧ Mono4 s S)
    (fun wr => mea4 K wr)
  case atStart => exact ⟨K.L.length + 1, a, s1, x, c, HRR.out.symm, by have := mS4_bound K s1; omega, HF2.out, HM1.out⟩
  case round =>
    clear HRR HF2 HM1
    obtain ⟨f, a, S, x, c, hR, hf, hF, hm⟩ := hrel
    have hme := mea4_par hF.par
    have kw := w_any hG _ d S hF.par
    have hlt := hF.par.lt
    have hi := fun (x : ByteArray) W (hp : Par4 K W d S) => is4_any x hG W d S hp
    have hpt := fun W (hp : Par4 K W d S) => part4_any hG W d S hp
    obtain ⟨fd, hfd⟩ : ∃ x, x = find4 K.L OPS0 S := ⟨_, rfl⟩
    have hcN := findN4_all K.L OPS0 S
    rw [← hfd] at hcN
    have hstop := rowL4_stop K.L OPS0 false sub f a S
    have hgo := rowL4_go K.L OPS0 false sub (f - 1) a S
    have hgood := find4_good K.L OPS0 S
    rw [← hfd] at hstop hgo hgood
    have htp := @take_part4 K.L fd S
    have hkd := @is4_kind K.L fd S
    have htk := fun W (hp : Par4 K W d (part4 K.L S)) => take4_any fd hG W d _ hp
    have hmp := (Mono4.part K.L S).trans (Mono4.take K.L fd (part4 K.L S))
    obtain ⟨yy, hyy⟩ : ∃ y, y = cur4 K.L S := ⟨_, rfl⟩
    rw [← hyy] at kw hgo
    obtain ⟨t1, ht1⟩ : ∃ t, t = (take4 K.L fd (part4 K.L S)).1 := ⟨_, rfl⟩
    obtain ⟨s3, hs3⟩ : ∃ t, t = (take4 K.L fd (part4 K.L S)).2 := ⟨_, rfl⟩
    rw [← ht1, ← hs3] at htk
    rw [← hs3] at hmp htp hgo
    have ksub := fun W (hp : Par4 K W d s3) => HKA.out W s3 hp
    obtain ⟨r, hr⟩ : ∃ r, r = sub s3 := ⟨_, rfl⟩
    rw [← hr] at ksub hgo
    obtain ⟨b, S2⟩ := r
    obtain ⟨yk, yt, yn, ya⟩ := yy
    unfold W4.cells at kw
    simp only at kw hgo ksub
    have kfi := field4_a (yk : Int) yn (ya : Int) yt
    have HME := Lib.hid hme
    have HF := Lib.hid hF
    have HM := Lib.hid hm
    have HI := Lib.hid hi
    have HPT := Lib.hid hpt
    have HTK := Lib.hid htk
    have HKS := Lib.hid ksub
    have HRe := Lib.hid hR
    have HFu := Lib.hid hf
    have HCN := Lib.hid hcN
    have HST := Lib.hid hstop
    have HGO := Lib.hid hgo
    have HGD := Lib.hid hgood
    have HTP := Lib.hid htp
    have HKD := Lib.hid hkd
    have HMP := Lib.hid hmp
    have HLT := Lib.hid hlt
    clear hme hF hm hi hpt htk ksub hR hf hcN hstop hgo hgood htp hkd hmp hlt hfd hyy ht1 hs3 hr
    go_wp2_with fail
    (with_reducible refine kw.mono ?_)
    rintro e w2 ⟨rfl, hb⟩
    have HF3 := Lib.hid (HF.out.call (HF.out.par.below hb) (gb_below hb))
    clear hb kw
    obtain ⟨w5, hw5⟩ : ∃ w5 : World, w5 = wr := ⟨_, rfl⟩
    rw [← hw5] at HME
    clear HF
    go_wp2_with fail
    go_loopw [8, 9] (fun v8 v9 wr => ∃ i : Nat, v9 = .int .i64 (i : Int) ∧ i ≤ 2 ∧ v8 = .string (findN4 K.L OPS0 S i) ∧ Fr K w d [(w.heap.size, 53, #[.string ⟨#[]⟩, .string ⟨#[]⟩, .int .i64 0, .int .i64 0, .slice none 0 0]), (w.heap.size + 1, 9, #[.string ⟨#[111, 114]⟩, .string ⟨#[120, 111, 114]⟩]), (w1.heap.size, 53, #[.string a.op, .string a.name, .int .i64 a.n, .int .i64 (a.at_ : Int), .slice x a.kids.length c])] [(.slice x a.kids.length c, .sl a.kids.length (exsD a.kids))] wr S)
      (fun _ v9 _ => 2 - (intOf v9).toNat)
    case atStart => exact ⟨0, rfl, by decide, rfl, HF3.out⟩
    case round =>
      clear HF3
      obtain ⟨i, rfl, hin, rfl, hF⟩ := hrel
      by_cases hil : i < 2
      · have d1 : decide ((i : Int) < 2) = true := by simp; omega
        have i0 : (0 : Int) ≤ (i : Int) := by omega
        have i1 : (i : Int) < 2 := by omega
        have hcell : ∀ W, Fr K w d [(w.heap.size, 53, #[.string ⟨#[]⟩, .string ⟨#[]⟩, .int .i64 0, .int .i64 0, .slice none 0 0]), (w.heap.size + 1, 9, #[.string ⟨#[111, 114]⟩, .string ⟨#[120, 111, 114]⟩]), (w1.heap.size, 53, #[.string a.op, .string a.name, .int .i64 a.n, .int .i64 (a.at_ : Int), .slice x a.kids.length c])] [(.slice x a.kids.length c, .sl a.kids.length (exsD a.kids))] W S → W.cell? ⟨w.heap.size + 1, i, none⟩ = some (.string (OPS0.getD i ⟨#[]⟩)) := fun W hF => by
          simp only [World.cell?, hF.get 1 rfl]
          match i, hil with
          | 0, _ => rfl
          | 1, _ => rfl
          | _ + 2, h => exact absurd h (by omega)
        have c1 := hcell _ hF
        have hsucc := findN4_succ K.L OPS0 S i hil
        have ki := HI.out (OPS0.getD i ⟨#[]⟩) _ hF.par
        obtain ⟨oi, hoi⟩ : ∃ o, o = OPS0.getD i ⟨#[]⟩ := ⟨_, rfl⟩
        rw [← hoi] at c1 hsucc ki hcell
        obtain ⟨bb, hbb⟩ : ∃ b, b = is4 K.L oi S := ⟨_, rfl⟩
        rw [← hbb] at hsucc ki
        have HC := Lib.hid hcell
        have HF4 := Lib.hid hF
        have HSU := Lib.hid hsucc
        clear hcell hF hsucc hoi hbb hin
        go_wp2_with fail
        (with_reducible refine ki.mono ?_)
        rintro e w6 ⟨rfl, hp, hg, _⟩
        have F5 := HF4.out.call hp hg
        have c2 := HC.out _ F5
        have HF5 := Lib.hid F5
        clear hp hg ki F5 c1
        cases bb
        · go_wp2_with fail
          refine ⟨⟨i + 1, by go_num, by omega, by rw [HSU.out]; rfl, HF5.out⟩, ?_⟩
          simp [intOf]; omega
        · go_wp2_with fail
          refine ⟨⟨i + 1, by go_num, by omega, by rw [HSU.out]; rfl, HF5.out⟩, ?_⟩
          simp [intOf]; omega
      · have d1 : decide ((i : Int) < 2) = false := by simp; omega
        obtain rfl : i = 2 := by omega
        rw [show findN4 K.L OPS0 S 2 = fd from HCN.out]
        have HF4 := Lib.hid hF
        clear hF hil hin
        by_cases hfe : fd.data.toList = []
        · have HEND := Lib.hid (show RR = (a, S) by rw [← HRe.out, HST.out hfe])
          have hemp : fd.toList.isEmpty = true := by rw [Lib.toList_data, hfe]; rfl
          have HL := Lib.hid (HF4.out.get 2 rfl)
          have HS := Lib.hid (HF4.out.get 0 rfl)
          have HF5 := Lib.hid (HF4.out.store 0 rfl #[.string a.op, .string a.name, .int .i64 a.n, .int .i64 (a.at_ : Int), .slice x a.kids.length c])
          clear hfe HGO HST
          go_wp2_with (first | (refine wpList_load_row rfl 53 (.tmp 6) rfl w1.heap.size rfl 53 #[.string a.op, .string a.name, .int .i64 a.n, .int .i64 (a.at_ : Int), .slice x a.kids.length c] (0, 0) _ HL.out Try.underlying53 rfl HSE.out ?_) | (refine wpList_store_row rfl 53 (.tmp 4) (.tmp 49) rfl w.heap.size #[.string a.op, .string a.name, .int .i64 a.n, .int .i64 (a.at_ : Int), .slice x a.kids.length c] rfl rfl 53 _ HS.out HSE.out rfl (e4_one _ _ _ _ _ _ _) ?_))
          refine bodyPost_ret (v := .agg #[.string a.op, .string a.name, .int .i64 a.n, .int .i64 (a.at_ : Int), .slice x a.kids.length c]) (results_cell_row (p := 4) (ty := 53) rfl _ _ w.heap.size 53 _ (0, 0) _ rfl (HF5.out.get 0 rfl) Try.underlying53 rfl HSE.out) rfl ?_
          rw [HEND.out]
          exact ⟨x, c, rfl, HF5.out.out 0 rfl, HF5.out.par, HF5.out.gb, HM.out⟩
        · have hemp : fd.toList.isEmpty = false := by
            rw [Lib.toList_data]
            cases hq : fd.data.toList with
            | nil => exact absurd hq hfe
            | cons _ _ => rfl
          have hi4 := HGD.out hfe
          have hkd := HKD.out hi4
          have htp := HTP.out hi4
          have hdec : ∀ S2, Mono4 s3 S2 → mS4 K S2 < mS4 K S := fun S2 hm => mS4_lt hkd.2 HLT.out (fun e' => (htp e').2) hm
          have HDEC := Lib.hid hdec
          have HGO2 := Lib.hid (HGO.out hfe)
          have kp := HPT.out _ HF4.out.par
          clear hfe HGO HST hi4 hkd htp hdec
          go_wp2_with fail
          (with_reducible refine kp.mono ?_)
          rintro e w7 ⟨rfl, hp, hg, _⟩
          have F5 := HF4.out.call hp hg
          have kt := HTK.out _ F5.par
          have HF5 := Lib.hid F5
          clear hp hg kp F5
          go_wp2_with fail
          (with_reducible refine kt.mono ?_)
          rintro e w8 ⟨rfl, hp, hg, _⟩
          have F6 := HF5.out.call hp hg
          have kb := HKS.out _ F6.par
          have HF6 := Lib.hid F6
          clear hp hg kt F6
          go_wp2_with fail
          (with_reducible refine kb.mono ?_)
          rintro e w9 ⟨y, cb, rfl, ht, hp, hg, hm⟩
          unfold exV
          simp only at ht hp hm ⊢
          have F8 := (HF6.out.callT hp hg ht).alloc w9.heap.size rfl 53 #[.string b.op, .string b.name, .int .i64 b.n, .int .i64 (b.at_ : Int), .slice y b.kids.length cb]
          have HL1 := Lib.hid (F8.get 2 rfl)
          have HL2 := Lib.hid (F8.get 3 rfl)
          have ka := F8.inn 0 rfl
          have kb := F8.inn 1 rfl
          have F10 := F8.make 53 #[.string a.op, .string a.name, .int .i64 a.n, .int .i64 (a.at_ : Int), .slice x a.kids.length c, .string b.op, .string b.name, .int .i64 b.n, .int .i64 (b.at_ : Int), .slice y b.kids.length cb] (w9.heap.size + 1) (by simp) 2 (by decide) (by decide) (exsD [a, b]) (by
            rw [exsD_cons, exsD_cons, exsD_nil, List.append_nil]
            exact RowsD.app (KidsD.rows (e := b) kb) _ _ (KidsD.rows (e := a) ka))
          have HS := Lib.hid (F10.get 2 rfl)
          have F11 := F10.store 2 rfl #[.string fd, .string ⟨#[]⟩, .int .i64 0, .int .i64 (ya : Int), .slice (some ⟨w9.heap.size + 1, 0, none⟩) 2 2]
          have HF12 := Lib.hid (Fr.only (tr' := [(.slice (some ⟨w9.heap.size + 1, 0, none⟩) 2 2, .sl 2 (exsD [a, b]))]) (Fr.less (bl' := [(w.heap.size, 53, #[.string ⟨#[]⟩, .string ⟨#[]⟩, .int .i64 0, .int .i64 0, .slice none 0 0]), (w.heap.size + 1, 9, #[.string ⟨#[111, 114]⟩, .string ⟨#[120, 111, 114]⟩]), (w1.heap.size, 53, #[.string fd, .string ⟨#[]⟩, .int .i64 0, .int .i64 (ya : Int), .slice (some ⟨w9.heap.size + 1, 0, none⟩) 2 2])]) F11 (List.Sublist.cons_cons _ (List.Sublist.cons_cons _ (List.Sublist.cons_cons _ (List.Sublist.cons _ List.Sublist.slnil))))) (by simp))
          have hd1 := HDEC.out _ hm
          have HD1 := Lib.hid hd1
          have HMS := Lib.hid (HM.out.trans (HMP.out.trans hm))
          clear ht hp hg hm kb F8 F10 F11 ka hd1
          obtain ⟨f', hf'⟩ : ∃ f', f = f' + 1 := ⟨f - 1, by have := HD1.out; have := HFu.out; omega⟩
          have hg1 := HGO2.out
          rw [if_neg (by decide), hf', Nat.add_sub_cancel] at hg1
          have HNX := Lib.hid (hg1.symm.trans ((congrArg (fun k => rowL4 K.L OPS0 false sub k a S) hf'.symm).trans HRe.out))
          have HFL := Lib.hid (show mS4 K S2 ≤ f' by have := HFu.out; have := HD1.out; omega)
          clear hf' hg1 HGO2
          go_wp2_with (first | (refine wpList_load_row rfl 53 (.tmp 6) rfl w1.heap.size rfl 53 #[.string a.op, .string a.name, .int .i64 a.n, .int .i64 (a.at_ : Int), .slice x a.kids.length c] (0, 0) _ HL1.out Try.underlying53 rfl HSE.out ?_) | (refine wpList_load_row rfl 53 (.tmp 10) rfl w9.heap.size rfl 53 #[.string b.op, .string b.name, .int .i64 b.n, .int .i64 (b.at_ : Int), .slice y b.kids.length cb] (0, 0) _ HL2.out Try.underlying53 rfl HSE.out ?_) | (refine wpList_store_row rfl 53 (.tmp 6) (.tmp 64) rfl w1.heap.size #[.string fd, .string ⟨#[]⟩, .int .i64 0, .int .i64 (ya : Int), .slice (some ⟨w9.heap.size + 1, 0, none⟩) 2 2] rfl rfl 53 _ HS.out HSE.out rfl (e4_one _ _ _ _ _ _ _) ?_))
          refine ⟨⟨f', op2 fd ya a b, S2, some ⟨w9.heap.size + 1, 0, none⟩, 2, HNX.out, HFL.out, HF12.out, HMS.out⟩, ?_⟩
          rw [mea4_par HF12.out.par, ← hw5, HME.out]
          exact HD1.out
end Go.Proofs.Ytejljfoacbpliaa

namespace Go.Proofs.Ytejljfoacbpliaa
open Go Go.RowKit
set_option maxHeartbeats 4000000 in
set_option maxRecDepth 100000 in
theorem row1_any {K : K4} (hG : Good4 K) {d : Nat} (sub : S4 → Ex × S4) (ka : CR4 K 2 d sub) : CR4 K 1 d (row4 K.L OPS1 false sub) := by
  intro w s h
  have HKA := Lib.hid ka
  have F1 := (((((((Fr.start h).alloc w.heap.size rfl 53 #[.string ⟨#[]⟩, .string ⟨#[]⟩, .int .i64 0, .int .i64 0, .slice none 0 0]).alloc (w.heap.size + 1) (by simp) 9 #[.string ⟨#[111, 114]⟩, .string ⟨#[120, 111, 114]⟩]).alloc (w.heap.size + 1 + 1) (by simp) 9 #[.string ⟨#[97, 110, 100]⟩]).alloc (w.heap.size + 1 + 1 + 1) (by simp) 9 #[.string ⟨#[61]⟩, .string ⟨#[60, 62]⟩, .string ⟨#[60]⟩, .string ⟨#[60, 61]⟩, .string ⟨#[62]⟩, .string ⟨#[62, 61]⟩]).alloc (w.heap.size + 1 + 1 + 1 + 1) (by simp) 9 #[.string ⟨#[43]⟩, .string ⟨#[45]⟩]).alloc (w.heap.size + 1 + 1 + 1 + 1 + 1) (by simp) 9 #[.string ⟨#[42]⟩, .string ⟨#[47]⟩, .string ⟨#[109, 111, 100]⟩]).alloc (w.heap.size + 1 + 1 + 1 + 1 + 1 + 1) (by simp) 70 #[.slice (some ⟨w.heap.size + 1, 0, none⟩) 2 2, .slice (some ⟨w.heap.size + 1 + 1, 0, none⟩) 1 1, .slice (some ⟨w.heap.size + 1 + 1 + 1, 0, none⟩) 6 6, .slice (some ⟨w.heap.size + 1 + 1 + 1 + 1, 0, none⟩) 2 2, .slice (some ⟨w.heap.size + 1 + 1 + 1 + 1 + 1, 0, none⟩) 3 3]
  have HSE := Lib.hid size_e4
  have ka := ka _ s F1.par
  unfold row4
  obtain ⟨a0, ha0⟩ : ∃ r, r = sub s := ⟨_, rfl⟩
  rw [← ha0] at ka ⊢
  obtain ⟨a, s1⟩ := a0
  simp only at ka ⊢
  obtain ⟨RR, hRR⟩ : ∃ r, r = rowL4 K.L OPS1 false sub (K.L.length + 1) a s1 := ⟨_, rfl⟩
  rw [← hRR]
  have HRR := Lib.hid hRR
  have HF1 := Lib.hid F1
  clear ha0 h F1 hRR
  go_enter Try.func145, Try.ntmps145
  go_wp2_with fail
  (with_reducible refine ka.mono ?_)
  rintro e w1 ⟨x, c, rfl, ht, hp, hg, hm1⟩
  unfold exV
  simp only at ht hp hm1 ⊢
  have HF2 := Lib.hid (Fr.less (bl' := [(w.heap.size, 53, #[.string ⟨#[]⟩, .string ⟨#[]⟩, .int .i64 0, .int .i64 0, .slice none 0 0]), (w.heap.size + 1 + 1, 9, #[.string ⟨#[97, 110, 100]⟩]), (w1.heap.size, 53, #[.string a.op, .string a.name, .int .i64 a.n, .int .i64 (a.at_ : Int), .slice x a.kids.length c])]) ((HF1.out.callT hp hg ht).alloc w1.heap.size rfl 53 #[.string a.op, .string a.name, .int .i64 a.n, .int .i64 (a.at_ : Int), .slice x a.kids.length c]) (List.Sublist.cons_cons _ (List.Sublist.cons _ (List.Sublist.cons_cons _ (List.Sublist.cons _ (List.Sublist.cons _ (List.Sublist.cons _ (List.Sublist.cons _ (List.Sublist.cons_cons _ List.Sublist.slnil)))))))))
  have HM1 := Lib.hid hm1
  clear ht hp hg ka hm1
  go_wp2_with fail
  go_loopw [] (fun wr => ∃ (f : Nat) (a : Ex) (S : S4) (x : Option Addr) (c : Nat), rowL4 K.L OPS1 false sub f a S = RR ∧ mS4 K S ≤ f ∧ Fr K w d [(w.heap.size, 53, #[.string ⟨#[]⟩, .string ⟨#[]⟩, .int .i64 0, .int .i64 0, .slice none 0 0]), (w.heap.size + 1 + 1, 9, #[.string ⟨#[97, 110, 100]⟩]), (w1.heap.size, 53, #[.string a.op, .string a.name, .int .i64 a.n, .int .i64 (a.at_ : Int), .slice x a.kids.length c])] [(.slice x a.kids.length c, .sl a.kids.length (exsD a.kids))] wr S ∧ Mono4 s S)
    (fun wr => mea4 K wr)
  case atStart => exact ⟨K.L.length + 1, a, s1, x, c, HRR.out.symm, by have := mS4_bound K s1; omega, HF2.out, HM1.out⟩
  case round =>
    clear HRR HF2 HM1
    obtain ⟨f, a, S, x, c, hR, hf, hF, hm⟩ := hrel
    have hme := mea4_par hF.par
    have kw := w_any hG _ d S hF.par
    have hlt := hF.par.lt
    have hi := fun (x : ByteArray) W (hp : Par4 K W d S) => is4_any x hG W d S hp
    have hpt := fun W (hp : Par4 K W d S) => part4_any hG W d S hp
    obtain ⟨fd, hfd⟩ : ∃ x, x = find4 K.L OPS1 S := ⟨_, rfl⟩
    have hcN := findN4_all K.L OPS1 S
    rw [← hfd] at hcN
    have hstop := rowL4_stop K.L OPS1 false sub f a S
    have hgo := rowL4_go K.L OPS1 false sub (f - 1) a S
    have hgood := find4_good K.L OPS1 S
    rw [← hfd] at hstop hgo hgood
    have htp := @take_part4 K.L fd S
    have hkd := @is4_kind K.L fd S
    have htk := fun W (hp : Par4 K W d (part4 K.L S)) => take4_any fd hG W d _ hp
    have hmp := (Mono4.part K.L S).trans (Mono4.take K.L fd (part4 K.L S))
    obtain ⟨yy, hyy⟩ : ∃ y, y = cur4 K.L S := ⟨_, rfl⟩
    rw [← hyy] at kw hgo
    obtain ⟨t1, ht1⟩ : ∃ t, t = (take4 K.L fd (part4 K.L S)).1 := ⟨_, rfl⟩
    obtain ⟨s3, hs3⟩ : ∃ t, t = (take4 K.L fd (part4 K.L S)).2 := ⟨_, rfl⟩
    rw [← ht1, ← hs3] at htk
    rw [← hs3] at hmp htp hgo
    have ksub := fun W (hp : Par4 K W d s3) => HKA.out W s3 hp
    obtain ⟨r, hr⟩ : ∃ r, r = sub s3 := ⟨_, rfl⟩
    rw [← hr] at ksub hgo
    obtain ⟨b, S2⟩ := r
    obtain ⟨yk, yt, yn, ya⟩ := yy
    unfold W4.cells at kw
    simp only at kw hgo ksub
    have kfi := field4_a (yk : Int) yn (ya : Int) yt
    have HME := Lib.hid hme
    have HF := Lib.hid hF
    have HM := Lib.hid hm
    have HI := Lib.hid hi
    have HPT := Lib.hid hpt
    have HTK := Lib.hid htk
    have HKS := Lib.hid ksub
    have HRe := Lib.hid hR
    have HFu := Lib.hid hf
    have HCN := Lib.hid hcN
    have HST := Lib.hid hstop
    have HGO := Lib.hid hgo
    have HGD := Lib.hid hgood
    have HTP := Lib.hid htp
    have HKD := Lib.hid hkd
    have HMP := Lib.hid hmp
    have HLT := Lib.hid hlt
    clear hme hF hm hi hpt htk ksub hR hf hcN hstop hgo hgood htp hkd hmp hlt hfd hyy ht1 hs3 hr
    go_wp2_with fail
    (with_reducible refine kw.mono ?_)
    rintro e w2 ⟨rfl, hb⟩
    have HF3 := Lib.hid (HF.out.call (HF.out.par.below hb) (gb_below hb))
    clear hb kw
    obtain ⟨w5, hw5⟩ : ∃ w5 : World, w5 = wr := ⟨_, rfl⟩
    rw [← hw5] at HME
    clear HF
    go_wp2_with fail
    go_loopw [8, 9] (fun v8 v9 wr => ∃ i : Nat, v9 = .int .i64 (i : Int) ∧ i ≤ 1 ∧ v8 = .string (findN4 K.L OPS1 S i) ∧ Fr K w d [(w.heap.size, 53, #[.string ⟨#[]⟩, .string ⟨#[]⟩, .int .i64 0, .int .i64 0, .slice none 0 0]), (w.heap.size + 1 + 1, 9, #[.string ⟨#[97, 110, 100]⟩]), (w1.heap.size, 53, #[.string a.op, .string a.name, .int .i64 a.n, .int .i64 (a.at_ : Int), .slice x a.kids.length c])] [(.slice x a.kids.length c, .sl a.kids.length (exsD a.kids))] wr S)
      (fun _ v9 _ => 1 - (intOf v9).toNat)
    case atStart => exact ⟨0, rfl, by decide, rfl, HF3.out⟩
    case round =>
      clear HF3
      obtain ⟨i, rfl, hin, rfl, hF⟩ := hrel
      by_cases hil : i < 1
      · have d1 : decide ((i : Int) < 1) = true := by simp; omega
        have i0 : (0 : Int) ≤ (i : Int) := by omega
        have i1 : (i : Int) < 1 := by omega
        have hcell : ∀ W, Fr K w d [(w.heap.size, 53, #[.string ⟨#[]⟩, .string ⟨#[]⟩, .int .i64 0, .int .i64 0, .slice none 0 0]), (w.heap.size + 1 + 1, 9, #[.string ⟨#[97, 110, 100]⟩]), (w1.heap.size, 53, #[.string a.op, .string a.name, .int .i64 a.n, .int .i64 (a.at_ : Int), .slice x a.kids.length c])] [(.slice x a.kids.length c, .sl a.kids.length (exsD a.kids))] W S → W.cell? ⟨w.heap.size + 1 + 1, i, none⟩ = some (.string (OPS1.getD i ⟨#[]⟩)) := fun W hF => by
          simp only [World.cell?, hF.get 1 rfl]
          match i, hil with
          | 0, _ => rfl
          | _ + 1, h => exact absurd h (by omega)
        have c1 := hcell _ hF
        have hsucc := findN4_succ K.L OPS1 S i hil
        have ki := HI.out (OPS1.getD i ⟨#[]⟩) _ hF.par
        obtain ⟨oi, hoi⟩ : ∃ o, o = OPS1.getD i ⟨#[]⟩ := ⟨_, rfl⟩
        rw [← hoi] at c1 hsucc ki hcell
        obtain ⟨bb, hbb⟩ : ∃ b, b = is4 K.L oi S := ⟨_, rfl⟩
        rw [← hbb] at hsucc ki
        have HC := Lib.hid hcell
        have HF4 := Lib.hid hF
        have HSU := Lib.hid hsucc
        clear hcell hF hsucc hoi hbb hin
        go_wp2_with fail
        (with_reducible refine ki.mono ?_)
        rintro e w6 ⟨rfl, hp, hg, _⟩
        have F5 := HF4.out.call hp hg
        have c2 := HC.out _ F5
        have HF5 := Lib.hid F5
        clear hp hg ki F5 c1
        cases bb
        · go_wp2_with fail
          refine ⟨⟨i + 1, by go_num, by omega, by rw [HSU.out]; rfl, HF5.out⟩, ?_⟩
          simp [intOf]; omega
        · go_wp2_with fail
          refine ⟨⟨i + 1, by go_num, by omega, by rw [HSU.out]; rfl, HF5.out⟩, ?_⟩
          simp [intOf]; omega
      · have d1 : decide ((i : Int) < 1) = false := by simp; omega
        obtain rfl : i = 1 := by omega
        rw [show findN4 K.L OPS1 S 1 = fd from HCN.out]
        have HF4 := Lib.hid hF
        clear hF hil hin
        by_cases hfe : fd.data.toList = []
        · have HEND := Lib.hid (show RR = (a, S) by rw [← HRe.out, HST.out hfe])
          have hemp : fd.toList.isEmpty = true := by rw [Lib.toList_data, hfe]; rfl
          have HL := Lib.hid (HF4.out.get 2 rfl)
          have HS := Lib.hid (HF4.out.get 0 rfl)
          have HF5 := Lib.hid (HF4.out.store 0 rfl #[.string a.op, .string a.name, .int .i64 a.n, .int .i64 (a.at_ : Int), .slice x a.kids.length c])
          clear hfe HGO HST
          go_wp2_with (first | (refine wpList_load_row rfl 53 (.tmp 6) rfl w1.heap.size rfl 53 #[.string a.op, .string a.name, .int .i64 a.n, .int .i64 (a.at_ : Int), .slice x a.kids.length c] (0, 0) _ HL.out Try.underlying53 rfl HSE.out ?_) | (refine wpList_store_row rfl 53 (.tmp 4) (.tmp 49) rfl w.heap.size #[.string a.op, .string a.name, .int .i64 a.n, .int .i64 (a.at_ : Int), .slice x a.kids.length c] rfl rfl 53 _ HS.out HSE.out rfl (e4_one _ _ _ _ _ _ _) ?_))
          refine bodyPost_ret (v := .agg #[.string a.op, .string a.name, .int .i64 a.n, .int .i64 (a.at_ : Int), .slice x a.kids.length c]) (results_cell_row (p := 4) (ty := 53) rfl _ _ w.heap.size 53 _ (0, 0) _ rfl (HF5.out.get 0 rfl) Try.underlying53 rfl HSE.out) rfl ?_
          rw [HEND.out]
          exact ⟨x, c, rfl, HF5.out.out 0 rfl, HF5.out.par, HF5.out.gb, HM.out⟩
        · have hemp : fd.toList.isEmpty = false := by
            rw [Lib.toList_data]
            cases hq : fd.data.toList with
            | nil => exact absurd hq hfe
            | cons _ _ => rfl
          have hi4 := HGD.out hfe
          have hkd := HKD.out hi4
          have htp := HTP.out hi4
          have hdec : ∀ S2, Mono4 s3 S2 → mS4 K S2 < mS4 K S := fun S2 hm => mS4_lt hkd.2 HLT.out (fun e' => (htp e').2) hm
          have HDEC := Lib.hid hdec
          have HGO2 := Lib.hid (HGO.out hfe)
          have kp := HPT.out _ HF4.out.par
          clear hfe HGO HST hi4 hkd htp hdec
          go_wp2_with fail
          (with_reducible refine kp.mono ?_)
          rintro e w7 ⟨rfl, hp, hg, _⟩
          have F5 := HF4.out.call hp hg
          have kt := HTK.out _ F5.par
          have HF5 := Lib.hid F5
          clear hp hg kp F5
          go_wp2_with fail
          (with_reducible refine kt.mono ?_)
          rintro e w8 ⟨rfl, hp, hg, _⟩
          have F6 := HF5.out.call hp hg
          have kb := HKS.out _ F6.par
          have HF6 := Lib.hid F6
          clear hp hg kt F6
          go_wp2_with fail
          (with_reducible refine kb.mono ?_)
          rintro e w9 ⟨y, cb, rfl, ht, hp, hg, hm⟩
          unfold exV
          simp only at ht hp hm ⊢
          have F8 := (HF6.out.callT hp hg ht).alloc w9.heap.size rfl 53 #[.string b.op, .string b.name, .int .i64 b.n, .int .i64 (b.at_ : Int), .slice y b.kids.length cb]
          have HL1 := Lib.hid (F8.get 2 rfl)
          have HL2 := Lib.hid (F8.get 3 rfl)
          have ka := F8.inn 0 rfl
          have kb := F8.inn 1 rfl
          have F10 := F8.make 53 #[.string a.op, .string a.name, .int .i64 a.n, .int .i64 (a.at_ : Int), .slice x a.kids.length c, .string b.op, .string b.name, .int .i64 b.n, .int .i64 (b.at_ : Int), .slice y b.kids.length cb] (w9.heap.size + 1) (by simp) 2 (by decide) (by decide) (exsD [a, b]) (by
            rw [exsD_cons, exsD_cons, exsD_nil, List.append_nil]
            exact RowsD.app (KidsD.rows (e := b) kb) _ _ (KidsD.rows (e := a) ka))
          have HS := Lib.hid (F10.get 2 rfl)
          have F11 := F10.store 2 rfl #[.string fd, .string ⟨#[]⟩, .int .i64 0, .int .i64 (ya : Int), .slice (some ⟨w9.heap.size + 1, 0, none⟩) 2 2]
          have HF12 := Lib.hid (Fr.only (tr' := [(.slice (some ⟨w9.heap.size + 1, 0, none⟩) 2 2, .sl 2 (exsD [a, b]))]) (Fr.less (bl' := [(w.heap.size, 53, #[.string ⟨#[]⟩, .string ⟨#[]⟩, .int .i64 0, .int .i64 0, .slice none 0 0]), (w.heap.size + 1 + 1, 9, #[.string ⟨#[97, 110, 100]⟩]), (w1.heap.size, 53, #[.string fd, .string ⟨#[]⟩, .int .i64 0, .int .i64 (ya : Int), .slice (some ⟨w9.heap.size + 1, 0, none⟩) 2 2])]) F11 (List.Sublist.cons_cons _ (List.Sublist.cons_cons _ (List.Sublist.cons_cons _ (List.Sublist.cons _ List.Sublist.slnil))))) (by simp))
          have hd1 := HDEC.out _ hm
          have HD1 := Lib.hid hd1
          have HMS := Lib.hid (HM.out.trans (HMP.out.trans hm))
          clear ht hp hg hm kb F8 F10 F11 ka hd1
          obtain ⟨f', hf'⟩ : ∃ f', f = f' + 1 := ⟨f - 1, by have := HD1.out; have := HFu.out; omega⟩
          have hg1 := HGO2.out
          rw [if_neg (by decide), hf', Nat.add_sub_cancel] at hg1
          have HNX := Lib.hid (hg1.symm.trans ((congrArg (fun k => rowL4 K.L OPS1 false sub k a S) hf'.symm).trans HRe.out))
          have HFL := Lib.hid (show mS4 K S2 ≤ f' by have := HFu.out; have := HD1.out; omega)
          clear hf' hg1 HGO2
          go_wp2_with (first | (refine wpList_load_row rfl 53 (.tmp 6) rfl w1.heap.size rfl 53 #[.string a.op, .string a.name, .int .i64 a.n, .int .i64 (a.at_ : Int), .slice x a.kids.length c] (0, 0) _ HL1.out Try.underlying53 rfl HSE.out ?_) | (refine wpList_load_row rfl 53 (.tmp 10) rfl w9.heap.size rfl 53 #[.string b.op, .string b.name, .int .i64 b.n, .int .i64 (b.at_ : Int), .slice y b.kids.length cb] (0, 0) _ HL2.out Try.underlying53 rfl HSE.out ?_) | (refine wpList_store_row rfl 53 (.tmp 6) (.tmp 64) rfl w1.heap.size #[.string fd, .string ⟨#[]⟩, .int .i64 0, .int .i64 (ya : Int), .slice (some ⟨w9.heap.size + 1, 0, none⟩) 2 2] rfl rfl 53 _ HS.out HSE.out rfl (e4_one _ _ _ _ _ _ _) ?_))
          refine ⟨⟨f', op2 fd ya a b, S2, some ⟨w9.heap.size + 1, 0, none⟩, 2, HNX.out, HFL.out, HF12.out, HMS.out⟩, ?_⟩
          rw [mea4_par HF12.out.par, ← hw5, HME.out]
          exact HD1.out
end Go.Proofs.Ytejljfoacbpliaa

namespace Go.Proofs.Ytejljfoacbpliaa
open Go Go.RowKit
set_option maxHeartbeats 4000000 in
set_option maxRecDepth 100000 in
theorem row2_any {K : K4} (hG : Good4 K) {d : Nat} (sub : S4 → Ex × S4) (ka : CR4 K 3 d sub) : CR4 K 2 d (row4 K.L OPS2 true sub) := by
  intro w s h
  have HKA := Lib.hid ka
  have F1 := (((((((Fr.start h).alloc w.heap.size rfl 53 #[.string ⟨#[]⟩, .string ⟨#[]⟩, .int .i64 0, .int .i64 0, .slice none 0 0]).alloc (w.heap.size + 1) (by simp) 9 #[.string ⟨#[111, 114]⟩, .string ⟨#[120, 111, 114]⟩]).alloc (w.heap.size + 1 + 1) (by simp) 9 #[.string ⟨#[97, 110, 100]⟩]).alloc (w.heap.size + 1 + 1 + 1) (by simp) 9 #[.string ⟨#[61]⟩, .string ⟨#[60, 62]⟩, .string ⟨#[60]⟩, .string ⟨#[60, 61]⟩, .string ⟨#[62]⟩, .string ⟨#[62, 61]⟩]).alloc (w.heap.size + 1 + 1 + 1 + 1) (by simp) 9 #[.string ⟨#[43]⟩, .string ⟨#[45]⟩]).alloc (w.heap.size + 1 + 1 + 1 + 1 + 1) (by simp) 9 #[.string ⟨#[42]⟩, .string ⟨#[47]⟩, .string ⟨#[109, 111, 100]⟩]).alloc (w.heap.size + 1 + 1 + 1 + 1 + 1 + 1) (by simp) 70 #[.slice (some ⟨w.heap.size + 1, 0, none⟩) 2 2, .slice (some ⟨w.heap.size + 1 + 1, 0, none⟩) 1 1, .slice (some ⟨w.heap.size + 1 + 1 + 1, 0, none⟩) 6 6, .slice (some ⟨w.heap.size + 1 + 1 + 1 + 1, 0, none⟩) 2 2, .slice (some ⟨w.heap.size + 1 + 1 + 1 + 1 + 1, 0, none⟩) 3 3]
  have HSE := Lib.hid size_e4
  have ka := ka _ s F1.par
  unfold row4
  obtain ⟨a0, ha0⟩ : ∃ r, r = sub s := ⟨_, rfl⟩
  rw [← ha0] at ka ⊢
  obtain ⟨a, s1⟩ := a0
  simp only at ka ⊢
  obtain ⟨RR, hRR⟩ : ∃ r, r = rowL4 K.L OPS2 true sub (K.L.length + 1) a s1 := ⟨_, rfl⟩
  rw [← hRR]
  have HRR := Lib.hid hRR
  have HF1 := Lib.hid F1
  clear ha0 h F1 hRR
  go_enter Try.func145, Try.ntmps145
  go_wp2_with fail
  (with_reducible refine ka.mono ?_)
  rintro e w1 ⟨x, c, rfl, ht, hp, hg, hm1⟩
  unfold exV
  simp only at ht hp hm1 ⊢
  have HF2 := Lib.hid (Fr.less (bl' := [(w.heap.size, 53, #[.string ⟨#[]⟩, .string ⟨#[]⟩, .int .i64 0, .int .i64 0, .slice none 0 0]), (w.heap.size + 1 + 1 + 1, 9, #[.string ⟨#[61]⟩, .string ⟨#[60, 62]⟩, .string ⟨#[60]⟩, .string ⟨#[60, 61]⟩, .string ⟨#[62]⟩, .string ⟨#[62, 61]⟩]), (w1.heap.size, 53, #[.string a.op, .string a.name, .int .i64 a.n, .int .i64 (a.at_ : Int), .slice x a.kids.length c])]) ((HF1.out.callT hp hg ht).alloc w1.heap.size rfl 53 #[.string a.op, .string a.name, .int .i64 a.n, .int .i64 (a.at_ : Int), .slice x a.kids.length c]) (List.Sublist.cons_cons _ (List.Sublist.cons _ (List.Sublist.cons _ (List.Sublist.cons_cons _ (List.Sublist.cons _ (List.Sublist.cons _ (List.Sublist.cons _ (List.Sublist.cons_cons _ List.Sublist.slnil)))))))))
  have HM1 := Lib.hid hm1
  clear ht hp hg ka hm1
  go_wp2_with fail
  go_loopw [] (fun wr => ∃ (f : Nat) (a : Ex) (S : S4) (x : Option Addr) (c : Nat), rowL4 K.L OPS2 true sub f a S = RR ∧ mS4 K S ≤ f ∧ Fr K w d [(w.heap.size, 53, #[.string ⟨#[]⟩, .string ⟨#[]⟩, .int .i64 0, .int .i64 0, .slice none 0 0]), (w.heap.size + 1 + 1 + 1, 9, #[.string ⟨#[61]⟩, .string ⟨#[60, 62]⟩, .string ⟨#[60]⟩, .string ⟨#[60, 61]⟩, .string ⟨#[62]⟩, .string ⟨#[62, 61]⟩]), (w1.heap.size, 53, #[.string a.op, .string a.name, .int .i64 a.n, .int .i64 (a.at_ : Int), .slice x a.kids.length c])] [(.slice x a.kids.length c, .sl a.kids.length (exsD a.kids))] wr S ∧ Mono4 s S)
    (fun wr => mea4 K wr)
  case atStart => exact ⟨K.L.length + 1, a, s1, x, c, HRR.out.symm, by have := mS4_bound K s1; omega, HF2.out, HM1.out⟩
  case round =>
    clear HRR HF2 HM1
    obtain ⟨f, a, S, x, c, hR, hf, hF, hm⟩ := hrel
    have hme := mea4_par hF.par
    have kw := w_any hG _ d S hF.par
    have hlt := hF.par.lt
    have hi := fun (x : ByteArray) W (hp : Par4 K W d S) => is4_any x hG W d S hp
    have hpt := fun W (hp : Par4 K W d S) => part4_any hG W d S hp
    obtain ⟨fd, hfd⟩ : ∃ x, x = find4 K.L OPS2 S := ⟨_, rfl⟩
    have hcN := findN4_all K.L OPS2 S
    rw [← hfd] at hcN
    have hstop := rowL4_stop K.L OPS2 true sub f a S
    have hgo := rowL4_go K.L OPS2 true sub (f - 1) a S
    have hgood := find4_good K.L OPS2 S
    rw [← hfd] at hstop hgo hgood
    have htp := @take_part4 K.L fd S
    have hkd := @is4_kind K.L fd S
    have htk := fun W (hp : Par4 K W d (part4 K.L S)) => take4_any fd hG W d _ hp
    have hmp := (Mono4.part K.L S).trans (Mono4.take K.L fd (part4 K.L S))
    obtain ⟨yy, hyy⟩ : ∃ y, y = cur4 K.L S := ⟨_, rfl⟩
    rw [← hyy] at kw hgo
    obtain ⟨t1, ht1⟩ : ∃ t, t = (take4 K.L fd (part4 K.L S)).1 := ⟨_, rfl⟩
    obtain ⟨s3, hs3⟩ : ∃ t, t = (take4 K.L fd (part4 K.L S)).2 := ⟨_, rfl⟩
    rw [← ht1, ← hs3] at htk
    rw [← hs3] at hmp htp hgo
    have ksub := fun W (hp : Par4 K W d s3) => HKA.out W s3 hp
    obtain ⟨r, hr⟩ : ∃ r, r = sub s3 := ⟨_, rfl⟩
    rw [← hr] at ksub hgo
    obtain ⟨b, S2⟩ := r
    obtain ⟨yk, yt, yn, ya⟩ := yy
    unfold W4.cells at kw
    simp only at kw hgo ksub
    have kfi := field4_a (yk : Int) yn (ya : Int) yt
    have HME := Lib.hid hme
    have HF := Lib.hid hF
    have HM := Lib.hid hm
    have HI := Lib.hid hi
    have HPT := Lib.hid hpt
    have HTK := Lib.hid htk
    have HKS := Lib.hid ksub
    have HRe := Lib.hid hR
    have HFu := Lib.hid hf
    have HCN := Lib.hid hcN
    have HST := Lib.hid hstop
    have HGO := Lib.hid hgo
    have HGD := Lib.hid hgood
    have HTP := Lib.hid htp
    have HKD := Lib.hid hkd
    have HMP := Lib.hid hmp
    have HLT := Lib.hid hlt
    clear hme hF hm hi hpt htk ksub hR hf hcN hstop hgo hgood htp hkd hmp hlt hfd hyy ht1 hs3 hr
    go_wp2_with fail
    (with_reducible refine kw.mono ?_)
    rintro e w2 ⟨rfl, hb⟩
    have HF3 := Lib.hid (HF.out.call (HF.out.par.below hb) (gb_below hb))
    clear hb kw
    obtain ⟨w5, hw5⟩ : ∃ w5 : World, w5 = wr := ⟨_, rfl⟩
    rw [← hw5] at HME
    clear HF
    go_wp2_with fail
    go_loopw [8, 9] (fun v8 v9 wr => ∃ i : Nat, v9 = .int .i64 (i : Int) ∧ i ≤ 6 ∧ v8 = .string (findN4 K.L OPS2 S i) ∧ Fr K w d [(w.heap.size, 53, #[.string ⟨#[]⟩, .string ⟨#[]⟩, .int .i64 0, .int .i64 0, .slice none 0 0]), (w.heap.size + 1 + 1 + 1, 9, #[.string ⟨#[61]⟩, .string ⟨#[60, 62]⟩, .string ⟨#[60]⟩, .string ⟨#[60, 61]⟩, .string ⟨#[62]⟩, .string ⟨#[62, 61]⟩]), (w1.heap.size, 53, #[.string a.op, .string a.name, .int .i64 a.n, .int .i64 (a.at_ : Int), .slice x a.kids.length c])] [(.slice x a.kids.length c, .sl a.kids.length (exsD a.kids))] wr S)
      (fun _ v9 _ => 6 - (intOf v9).toNat)
    case atStart => exact ⟨0, rfl, by decide, rfl, HF3.out⟩
    case round =>
      clear HF3
      obtain ⟨i, rfl, hin, rfl, hF⟩ := hrel
      by_cases hil : i < 6
      · have d1 : decide ((i : Int) < 6) = true := by simp; omega
        have i0 : (0 : Int) ≤ (i : Int) := by omega
        have i1 : (i : Int) < 6 := by omega
        have hcell : ∀ W, Fr K w d [(w.heap.size, 53, #[.string ⟨#[]⟩, .string ⟨#[]⟩, .int .i64 0, .int .i64 0, .slice none 0 0]), (w.heap.size + 1 + 1 + 1, 9, #[.string ⟨#[61]⟩, .string ⟨#[60, 62]⟩, .string ⟨#[60]⟩, .string ⟨#[60, 61]⟩, .string ⟨#[62]⟩, .string ⟨#[62, 61]⟩]), (w1.heap.size, 53, #[.string a.op, .string a.name, .int .i64 a.n, .int .i64 (a.at_ : Int), .slice x a.kids.length c])] [(.slice x a.kids.length c, .sl a.kids.length (exsD a.kids))] W S → W.cell? ⟨w.heap.size + 1 + 1 + 1, i, none⟩ = some (.string (OPS2.getD i ⟨#[]⟩)) := fun W hF => by
          simp only [World.cell?, hF.get 1 rfl]
          match i, hil with
          | 0, _ => rfl
          | 1, _ => rfl
          | 2, _ => rfl
          | 3, _ => rfl
          | 4, _ => rfl
          | 5, _ => rfl
          | _ + 6, h => exact absurd h (by omega)
        have c1 := hcell _ hF
        have hsucc := findN4_succ K.L OPS2 S i hil
        have ki := HI.out (OPS2.getD i ⟨#[]⟩) _ hF.par
        obtain ⟨oi, hoi⟩ : ∃ o, o = OPS2.getD i ⟨#[]⟩ := ⟨_, rfl⟩
        rw [← hoi] at c1 hsucc ki hcell
        obtain ⟨bb, hbb⟩ : ∃ b, b = is4 K.L oi S := ⟨_, rfl⟩
        rw [← hbb] at hsucc ki
        have HC := Lib.hid hcell
        have HF4 := Lib.hid hF
        have HSU := Lib.hid hsucc
        clear hcell hF hsucc hoi hbb hin
        go_wp2_with fail
        (with_reducible refine ki.mono ?_)
        rintro e w6 ⟨rfl, hp, hg, _⟩
        have F5 := HF4.out.call hp hg
        have c2 := HC.out _ F5
        have HF5 := Lib.hid F5
        clear hp hg ki F5 c1
        cases bb
        · go_wp2_with fail
          refine ⟨⟨i + 1, by go_num, by omega, by rw [HSU.out]; rfl, HF5.out⟩, ?_⟩
          simp [intOf]; omega
        · go_wp2_with fail
          refine ⟨⟨i + 1, by go_num, by omega, by rw [HSU.out]; rfl, HF5.out⟩, ?_⟩
          simp [intOf]; omega
      · have d1 : decide ((i : Int) < 6) = false := by simp; omega
        obtain rfl : i = 6 := by omega
        rw [show findN4 K.L OPS2 S 6 = fd from HCN.out]
        have HF4 := Lib.hid hF
        clear hF hil hin
        by_cases hfe : fd.data.toList = []
        · have HEND := Lib.hid (show RR = (a, S) by rw [← HRe.out, HST.out hfe])
          have hemp : fd.toList.isEmpty = true := by rw [Lib.toList_data, hfe]; rfl
          have HL := Lib.hid (HF4.out.get 2 rfl)
          have HS := Lib.hid (HF4.out.get 0 rfl)
          have HF5 := Lib.hid (HF4.out.store 0 rfl #[.string a.op, .string a.name, .int .i64 a.n, .int .i64 (a.at_ : Int), .slice x a.kids.length c])
          clear hfe HGO HST
          go_wp2_with (first | (refine wpList_load_row rfl 53 (.tmp 6) rfl w1.heap.size rfl 53 #[.string a.op, .string a.name, .int .i64 a.n, .int .i64 (a.at_ : Int), .slice x a.kids.length c] (0, 0) _ HL.out Try.underlying53 rfl HSE.out ?_) | (refine wpList_store_row rfl 53 (.tmp 4) (.tmp 49) rfl w.heap.size #[.string a.op, .string a.name, .int .i64 a.n, .int .i64 (a.at_ : Int), .slice x a.kids.length c] rfl rfl 53 _ HS.out HSE.out rfl (e4_one _ _ _ _ _ _ _) ?_))
          refine bodyPost_ret (v := .agg #[.string a.op, .string a.name, .int .i64 a.n, .int .i64 (a.at_ : Int), .slice x a.kids.length c]) (results_cell_row (p := 4) (ty := 53) rfl _ _ w.heap.size 53 _ (0, 0) _ rfl (HF5.out.get 0 rfl) Try.underlying53 rfl HSE.out) rfl ?_
          rw [HEND.out]
          exact ⟨x, c, rfl, HF5.out.out 0 rfl, HF5.out.par, HF5.out.gb, HM.out⟩
        · have hemp : fd.toList.isEmpty = false := by
            rw [Lib.toList_data]
            cases hq : fd.data.toList with
            | nil => exact absurd hq hfe
            | cons _ _ => rfl
          have hi4 := HGD.out hfe
          have hkd := HKD.out hi4
          have htp := HTP.out hi4
          have hdec : ∀ S2, Mono4 s3 S2 → mS4 K S2 < mS4 K S := fun S2 hm => mS4_lt hkd.2 HLT.out (fun e' => (htp e').2) hm
          have HDEC := Lib.hid hdec
          have HGO2 := Lib.hid (HGO.out hfe)
          have kp := HPT.out _ HF4.out.par
          clear hfe HGO HST hi4 hkd htp hdec
          go_wp2_with fail
          (with_reducible refine kp.mono ?_)
          rintro e w7 ⟨rfl, hp, hg, _⟩
          have F5 := HF4.out.call hp hg
          have kt := HTK.out _ F5.par
          have HF5 := Lib.hid F5
          clear hp hg kp F5
          go_wp2_with fail
          (with_reducible refine kt.mono ?_)
          rintro e w8 ⟨rfl, hp, hg, _⟩
          have F6 := HF5.out.call hp hg
          have kb := HKS.out _ F6.par
          have HF6 := Lib.hid F6
          clear hp hg kt F6
          go_wp2_with fail
          (with_reducible refine kb.mono ?_)
          rintro e w9 ⟨y, cb, rfl, ht, hp, hg, hm⟩
          unfold exV
          simp only at ht hp hm ⊢
          have F8 := (HF6.out.callT hp hg ht).alloc w9.heap.size rfl 53 #[.string b.op, .string b.name, .int .i64 b.n, .int .i64 (b.at_ : Int), .slice y b.kids.length cb]
          have HL1 := Lib.hid (F8.get 2 rfl)
          have HL2 := Lib.hid (F8.get 3 rfl)
          have ka := F8.inn 0 rfl
          have kb := F8.inn 1 rfl
          have F10 := F8.make 53 #[.string a.op, .string a.name, .int .i64 a.n, .int .i64 (a.at_ : Int), .slice x a.kids.length c, .string b.op, .string b.name, .int .i64 b.n, .int .i64 (b.at_ : Int), .slice y b.kids.length cb] (w9.heap.size + 1) (by simp) 2 (by decide) (by decide) (exsD [a, b]) (by
            rw [exsD_cons, exsD_cons, exsD_nil, List.append_nil]
            exact RowsD.app (KidsD.rows (e := b) kb) _ _ (KidsD.rows (e := a) ka))
          have HS := Lib.hid (F10.get 2 rfl)
          have F11 := F10.store 2 rfl #[.string fd, .string ⟨#[]⟩, .int .i64 0, .int .i64 (ya : Int), .slice (some ⟨w9.heap.size + 1, 0, none⟩) 2 2]
          have HF12 := Lib.hid (Fr.only (tr' := [(.slice (some ⟨w9.heap.size + 1, 0, none⟩) 2 2, .sl 2 (exsD [a, b]))]) (Fr.less (bl' := [(w.heap.size, 53, #[.string ⟨#[]⟩, .string ⟨#[]⟩, .int .i64 0, .int .i64 0, .slice none 0 0]), (w.heap.size + 1 + 1 + 1, 9, #[.string ⟨#[61]⟩, .string ⟨#[60, 62]⟩, .string ⟨#[60]⟩, .string ⟨#[60, 61]⟩, .string ⟨#[62]⟩, .string ⟨#[62, 61]⟩]), (w1.heap.size, 53, #[.string fd, .string ⟨#[]⟩, .int .i64 0, .int .i64 (ya : Int), .slice (some ⟨w9.heap.size + 1, 0, none⟩) 2 2])]) F11 (List.Sublist.cons_cons _ (List.Sublist.cons_cons _ (List.Sublist.cons_cons _ (List.Sublist.cons _ List.Sublist.slnil))))) (by simp))
          have hd1 := HDEC.out _ hm
          have HD1 := Lib.hid hd1
          have HMS := Lib.hid (HM.out.trans (HMP.out.trans hm))
          clear ht hp hg hm kb F8 F10 F11 ka hd1
          have HEND := Lib.hid (show RR = (op2 fd ya a b, S2) by
            obtain ⟨f', hf'⟩ : ∃ f', f = f' + 1 := ⟨f - 1, by have := HD1.out; have := HFu.out; omega⟩
            have h := HGO2.out
            rw [hf', Nat.add_sub_cancel] at h
            rw [← HRe.out, hf', h]; simp)
          have HL3 := Lib.hid (HF12.out.get 2 rfl)
          have HS4 := Lib.hid (HF12.out.get 0 rfl)
          have HF13 := Lib.hid (HF12.out.store 0 rfl #[.string fd, .string ⟨#[]⟩, .int .i64 0, .int .i64 (ya : Int), .slice (some ⟨w9.heap.size + 1, 0, none⟩) 2 2])
          clear HGO2
          go_wp2_with (first | (refine wpList_load_row rfl 53 (.tmp 6) rfl w1.heap.size rfl 53 #[.string a.op, .string a.name, .int .i64 a.n, .int .i64 (a.at_ : Int), .slice x a.kids.length c] (0, 0) _ HL1.out Try.underlying53 rfl HSE.out ?_) | (refine wpList_load_row rfl 53 (.tmp 10) rfl w9.heap.size rfl 53 #[.string b.op, .string b.name, .int .i64 b.n, .int .i64 (b.at_ : Int), .slice y b.kids.length cb] (0, 0) _ HL2.out Try.underlying53 rfl HSE.out ?_) | (refine wpList_store_row rfl 53 (.tmp 6) (.tmp 64) rfl w1.heap.size #[.string fd, .string ⟨#[]⟩, .int .i64 0, .int .i64 (ya : Int), .slice (some ⟨w9.heap.size + 1, 0, none⟩) 2 2] rfl rfl 53 _ HS.out HSE.out rfl (e4_one _ _ _ _ _ _ _) ?_) | (refine wpList_load_row rfl 53 (.tmp 6) rfl w1.heap.size rfl 53 #[.string fd, .string ⟨#[]⟩, .int .i64 0, .int .i64 (ya : Int), .slice (some ⟨w9.heap.size + 1, 0, none⟩) 2 2] (0, 0) _ HL3.out Try.underlying53 rfl HSE.out ?_) | (refine wpList_store_row rfl 53 (.tmp 4) (.tmp 67) rfl w.heap.size #[.string fd, .string ⟨#[]⟩, .int .i64 0, .int .i64 (ya : Int), .slice (some ⟨w9.heap.size + 1, 0, none⟩) 2 2] rfl rfl 53 _ HS4.out HSE.out rfl (e4_one _ _ _ _ _ _ _) ?_))
          refine bodyPost_ret (v := .agg #[.string fd, .string ⟨#[]⟩, .int .i64 0, .int .i64 (ya : Int), .slice (some ⟨w9.heap.size + 1, 0, none⟩) 2 2]) (results_cell_row (p := 4) (ty := 53) rfl _ _ w.heap.size 53 _ (0, 0) _ rfl (HF13.out.get 0 rfl) Try.underlying53 rfl HSE.out) rfl ?_
          rw [HEND.out]
          exact ⟨_, 2, rfl, HF13.out.out 0 rfl, HF13.out.par, HF13.out.gb, HMS.out⟩
end Go.Proofs.Ytejljfoacbpliaa

namespace Go.Proofs.Ytejljfoacbpliaa
open Go Go.RowKit
set_option maxHeartbeats 4000000 in
set_option maxRecDepth 100000 in
theorem row3_any {K : K4} (hG : Good4 K) {d : Nat} (sub : S4 → Ex × S4) (ka : CR4 K 4 d sub) : CR4 K 3 d (row4 K.L OPS3 false sub) := by
  intro w s h
  have HKA := Lib.hid ka
  have F1 := (((((((Fr.start h).alloc w.heap.size rfl 53 #[.string ⟨#[]⟩, .string ⟨#[]⟩, .int .i64 0, .int .i64 0, .slice none 0 0]).alloc (w.heap.size + 1) (by simp) 9 #[.string ⟨#[111, 114]⟩, .string ⟨#[120, 111, 114]⟩]).alloc (w.heap.size + 1 + 1) (by simp) 9 #[.string ⟨#[97, 110, 100]⟩]).alloc (w.heap.size + 1 + 1 + 1) (by simp) 9 #[.string ⟨#[61]⟩, .string ⟨#[60, 62]⟩, .string ⟨#[60]⟩, .string ⟨#[60, 61]⟩, .string ⟨#[62]⟩, .string ⟨#[62, 61]⟩]).alloc (w.heap.size + 1 + 1 + 1 + 1) (by simp) 9 #[.string ⟨#[43]⟩, .string ⟨#[45]⟩]).alloc (w.heap.size + 1 + 1 + 1 + 1 + 1) (by simp) 9 #[.string ⟨#[42]⟩, .string ⟨#[47]⟩, .string ⟨#[109, 111, 100]⟩]).alloc (w.heap.size + 1 + 1 + 1 + 1 + 1 + 1) (by simp) 70 #[.slice (some ⟨w.heap.size + 1, 0, none⟩) 2 2, .slice (some ⟨w.heap.size + 1 + 1, 0, none⟩) 1 1, .slice (some ⟨w.heap.size + 1 + 1 + 1, 0, none⟩) 6 6, .slice (some ⟨w.heap.size + 1 + 1 + 1 + 1, 0, none⟩) 2 2, .slice (some ⟨w.heap.size + 1 + 1 + 1 + 1 + 1, 0, none⟩) 3 3]
  have HSE := Lib.hid size_e4
  have ka := ka _ s F1.par
  unfold row4
  obtain ⟨a0, ha0⟩ : ∃ r, r = sub s := ⟨_, rfl⟩
  rw [← ha0] at ka ⊢
  obtain ⟨a, s1⟩ := a0
  simp only at ka ⊢
  obtain ⟨RR, hRR⟩ : ∃ r, r = rowL4 K.L OPS3 false sub (K.L.length + 1) a s1 := ⟨_, rfl⟩
  rw [← hRR]
  have HRR := Lib.hid hRR
  have HF1 := Lib.hid F1
  clear ha0 h F1 hRR
  go_enter Try.func145, Try.ntmps145
  go_wp2_with fail
  (with_reducible refine ka.mono ?_)
  rintro e w1 ⟨x, c, rfl, ht, hp, hg, hm1⟩
  unfold exV
  simp only at ht hp hm1 ⊢
  have HF2 := Lib.hid (Fr.less (bl' := [(w.heap.size, 53, #[.string ⟨#[]⟩, .string ⟨#[]⟩, .int .i64 0, .int .i64 0, .slice none 0 0]), (w.heap.size + 1 + 1 + 1 + 1, 9, #[.string ⟨#[43]⟩, .string ⟨#[45]⟩]), (w1.heap.size, 53, #[.string a.op, .string a.name, .int .i64 a.n, .int .i64 (a.at_ : Int), .slice x a.kids.length c])]) ((HF1.out.callT hp hg ht).alloc w1.heap.size rfl 53 #[.string a.op, .string a.name, .int .i64 a.n, .int .i64 (a.at_ : Int), .slice x a.kids.length c]) (List.Sublist.cons_cons _ (List.Sublist.cons _ (List.Sublist.cons _ (List.Sublist.cons _ (List.Sublist.cons_cons _ (List.Sublist.cons _ (List.Sublist.cons _ (List.Sublist.cons_cons _ List.Sublist.slnil)))))))))
  have HM1 := Lib.hid hm1
  clear ht hp hg ka hm1
  go_wp2_with fail
  go_loopw [] (fun wr => ∃ (f : Nat) (a : Ex) (S : S4) (x : Option Addr) (c : Nat), rowL4 K.L OPS3 false sub f a S = RR ∧ mS4 K S ≤ f ∧ Fr K w d [(w.heap.size, 53, #[.string ⟨#[]⟩, .string ⟨#[]⟩, .int .i64 0, .int .i64 0, .slice none 0 0]), (w.heap.size + 1 + 1 + 1 + 1, 9, #[.string ⟨#[43]⟩, .string ⟨#[45]⟩]), (w1.heap.size, 53, #[.string a.op, .string a.name, .int .i64 a.n, .int .i64 (a.at_ : Int), .slice x a.kids.length c])] [(.slice x a.kids.length c, .sl a.kids.length (exsD a.kids))] wr S ∧ Mono4 s S)
    (fun wr => mea4 K wr)
  case atStart => exact ⟨K.L.length + 1, a, s1, x, c, HRR.out.symm, by have := mS4_bound K s1; omega, HF2.out, HM1.out⟩
  case round =>
    clear HRR HF2 HM1
    obtain ⟨f, a, S, x, c, hR, hf, hF, hm⟩ := hrel
    have hme := mea4_par hF.par
    have kw := w_any hG _ d S hF.par
    have hlt := hF.par.lt
    have hi := fun (x : ByteArray) W (hp : Par4 K W d S) => is4_any x hG W d S hp
    have hpt := fun W (hp : Par4 K W d S) => part4_any hG W d S hp
    obtain ⟨fd, hfd⟩ : ∃ x, x = find4 K.L OPS3 S := ⟨_, rfl⟩
    have hcN := findN4_all K.L OPS3 S
    rw [← hfd] at hcN
    have hstop := rowL4_stop K.L OPS3 false sub f a S
    have hgo := rowL4_go K.L OPS3 false sub (f - 1) a S
    have hgood := find4_good K.L OPS3 S
    rw [← hfd] at hstop hgo hgood
    have htp := @take_part4 K.L fd S
    have hkd := @is4_kind K.L fd S
    have htk := fun W (hp : Par4 K W d (part4 K.L S)) => take4_any fd hG W d _ hp
    have hmp := (Mono4.part K.L S).trans (Mono4.take K.L fd (part4 K.L S))
    obtain ⟨yy, hyy⟩ : ∃ y, y = cur4 K.L S := ⟨_, rfl⟩
    rw [← hyy] at kw hgo
    obtain ⟨t1, ht1⟩ : ∃ t, t = (take4 K.L fd (part4 K.L S)).1 := ⟨_, rfl⟩
    obtain ⟨s3, hs3⟩ : ∃ t, t = (take4 K.L fd (part4 K.L S)).2 := ⟨_, rfl⟩
    rw [← ht1, ← hs3] at htk
    rw [← hs3] at hmp htp hgo
    have ksub := fun W (hp : Par4 K W d s3) => HKA.out W s3 hp
    obtain ⟨r, hr⟩ : ∃ r, r = sub s3 := ⟨_, rfl⟩
    rw [← hr] at ksub hgo
    obtain ⟨b, S2⟩ := r
    obtain ⟨yk, yt, yn, ya⟩ := yy
    unfold W4.cells at kw
    simp only at kw hgo ksub
    have kfi := field4_a (yk : Int) yn (ya : Int) yt
    have HME := Lib.hid hme
    have HF := Lib.hid hF
    have HM := Lib.hid hm
    have HI := Lib.hid hi
    have HPT := Lib.hid hpt
    have HTK := Lib.hid htk
    have HKS := Lib.hid ksub
    have HRe := Lib.hid hR
    have HFu := Lib.hid hf
    have HCN := Lib.hid hcN
    have HST := Lib.hid hstop
    have HGO := Lib.hid hgo
    have HGD := Lib.hid hgood
    have HTP := Lib.hid htp
    have HKD := Lib.hid hkd
    have HMP := Lib.hid hmp
    have HLT := Lib.hid hlt
    clear hme hF hm hi hpt htk ksub hR hf hcN hstop hgo hgood htp hkd hmp hlt hfd hyy ht1 hs3 hr
    go_wp2_with fail
    (with_reducible refine kw.mono ?_)
    rintro e w2 ⟨rfl, hb⟩
    have HF3 := Lib.hid (HF.out.call (HF.out.par.below hb) (gb_below hb))
    clear hb kw
    obtain ⟨w5, hw5⟩ : ∃ w5 : World, w5 = wr := ⟨_, rfl⟩
    rw [← hw5] at HME
    clear HF
    go_wp2_with fail
    go_loopw [8, 9] (fun v8 v9 wr => ∃ i : Nat, v9 = .int .i64 (i : Int) ∧ i ≤ 2 ∧ v8 = .string (findN4 K.L OPS3 S i) ∧ Fr K w d [(w.heap.size, 53, #[.string ⟨#[]⟩, .string ⟨#[]⟩, .int .i64 0, .int .i64 0, .slice none 0 0]), (w.heap.size + 1 + 1 + 1 + 1, 9, #[.string ⟨#[43]⟩, .string ⟨#[45]⟩]), (w1.heap.size, 53, #[.string a.op, .string a.name, .int .i64 a.n, .int .i64 (a.at_ : Int), .slice x a.kids.length c])] [(.slice x a.kids.length c, .sl a.kids.length (exsD a.kids))] wr S)
      (fun _ v9 _ => 2 - (intOf v9).toNat)
    case atStart => exact ⟨0, rfl, by decide, rfl, HF3.out⟩
    case round =>
      clear HF3
      obtain ⟨i, rfl, hin, rfl, hF⟩ := hrel
      by_cases hil : i < 2
      · have d1 : decide ((i : Int) < 2) = true := by simp; omega
        have i0 : (0 : Int) ≤ (i : Int) := by omega
        have i1 : (i : Int) < 2 := by omega
        have hcell : ∀ W, Fr K w d [(w.heap.size, 53, #[.string ⟨#[]⟩, .string ⟨#[]⟩, .int .i64 0, .int .i64 0, .slice none 0 0]), (w.heap.size + 1 + 1 + 1 + 1, 9, #[.string ⟨#[43]⟩, .string ⟨#[45]⟩]), (w1.heap.size, 53, #[.string a.op, .string a.name, .int .i64 a.n, .int .i64 (a.at_ : Int), .slice x a.kids.length c])] [(.slice x a.kids.length c, .sl a.kids.length (exsD a.kids))] W S → W.cell? ⟨w.heap.size + 1 + 1 + 1 + 1, i, none⟩ = some (.string (OPS3.getD i ⟨#[]⟩)) := fun W hF => by
          simp only [World.cell?, hF.get 1 rfl]
          match i, hil with
          | 0, _ => rfl
          | 1, _ => rfl
          | _ + 2, h => exact absurd h (by omega)
        have c1 := hcell _ hF
        have hsucc := findN4_succ K.L OPS3 S i hil
        have ki := HI.out (OPS3.getD i ⟨#[]⟩) _ hF.par
        obtain ⟨oi, hoi⟩ : ∃ o, o = OPS3.getD i ⟨#[]⟩ := ⟨_, rfl⟩
        rw [← hoi] at c1 hsucc ki hcell
        obtain ⟨bb, hbb⟩ : ∃ b, b = is4 K.L oi S := ⟨_, rfl⟩
        rw [← hbb] at hsucc ki
        have HC := Lib.hid hcell
        have HF4 := Lib.hid hF
        have HSU := Lib.hid hsucc
        clear hcell hF hsucc hoi hbb hin
        go_wp2_with fail
        (with_reducible refine ki.mono ?_)
        rintro e w6 ⟨rfl, hp, hg, _⟩
        have F5 := HF4.out.call hp hg
        have c2 := HC.out _ F5
        have HF5 := Lib.hid F5
        clear hp hg ki F5 c1
        cases bb
        · go_wp2_with fail
          refine ⟨⟨i + 1, by go_num, by omega, by rw [HSU.out]; rfl, HF5.out⟩, ?_⟩
          simp [intOf]; omega
        · go_wp2_with fail
          refine ⟨⟨i + 1, by go_num, by omega, by rw [HSU.out]; rfl, HF5.out⟩, ?_⟩
          simp [intOf]; omega
      · have d1 : decide ((i : Int) < 2) = false := by simp; omega
        obtain rfl : i = 2 := by omega
        rw [show findN4 K.L OPS3 S 2 = fd from HCN.out]
        have HF4 := Lib.hid hF
        clear hF hil hin
        by_cases hfe : fd.data.toList = []
        · have HEND := Lib.hid (show RR = (a, S) by rw [← HRe.out, HST.out hfe])
          have hemp : fd.toList.isEmpty = true := by rw [Lib.toList_data, hfe]; rfl
          have HL := Lib.hid (HF4.out.get 2 rfl)
          have HS := Lib.hid (HF4.out.get 0 rfl)
          have HF5 := Lib.hid (HF4.out.store 0 rfl #[.string a.op, .string a.name, .int .i64 a.n, .int .i64 (a.at_ : Int), .slice x a.kids.length c])
          clear hfe HGO HST
          go_wp2_with (first | (refine wpList_load_row rfl 53 (.tmp 6) rfl w1.heap.size rfl 53 #[.string a.op, .string a.name, .int .i64 a.n, .int .i64 (a.at_ : Int), .slice x a.kids.length c] (0, 0) _ HL.out Try.underlying53 rfl HSE.out ?_) | (refine wpList_store_row rfl 53 (.tmp 4) (.tmp 49) rfl w.heap.size #[.string a.op, .string a.name, .int .i64 a.n, .int .i64 (a.at_ : Int), .slice x a.kids.length c] rfl rfl 53 _ HS.out HSE.out rfl (e4_one _ _ _ _ _ _ _) ?_))
          refine bodyPost_ret (v := .agg #[.string a.op, .string a.name, .int .i64 a.n, .int .i64 (a.at_ : Int), .slice x a.kids.length c]) (results_cell_row (p := 4) (ty := 53) rfl _ _ w.heap.size 53 _ (0, 0) _ rfl (HF5.out.get 0 rfl) Try.underlying53 rfl HSE.out) rfl ?_
          rw [HEND.out]
          exact ⟨x, c, rfl, HF5.out.out 0 rfl, HF5.out.par, HF5.out.gb, HM.out⟩
        · have hemp : fd.toList.isEmpty = false := by
            rw [Lib.toList_data]
            cases hq : fd.data.toList with
            | nil => exact absurd hq hfe
            | cons _ _ => rfl
          have hi4 := HGD.out hfe
          have hkd := HKD.out hi4
          have htp := HTP.out hi4
          have hdec : ∀ S2, Mono4 s3 S2 → mS4 K S2 < mS4 K S := fun S2 hm => mS4_lt hkd.2 HLT.out (fun e' => (htp e').2) hm
          have HDEC := Lib.hid hdec
          have HGO2 := Lib.hid (HGO.out hfe)
          have kp := HPT.out _ HF4.out.par
          clear hfe HGO HST hi4 hkd htp hdec
          go_wp2_with fail
          (with_reducible refine kp.mono ?_)
          rintro e w7 ⟨rfl, hp, hg, _⟩
          have F5 := HF4.out.call hp hg
          have kt := HTK.out _ F5.par
          have HF5 := Lib.hid F5
          clear hp hg kp F5
          go_wp2_with fail
          (with_reducible refine kt.mono ?_)
          rintro e w8 ⟨rfl, hp, hg, _⟩
          have F6 := HF5.out.call hp hg
          have kb := HKS.out _ F6.par
          have HF6 := Lib.hid F6
          clear hp hg kt F6
          go_wp2_with fail
          (with_reducible refine kb.mono ?_)
          rintro e w9 ⟨y, cb, rfl, ht, hp, hg, hm⟩
          unfold exV
          simp only at ht hp hm ⊢
          have F8 := (HF6.out.callT hp hg ht).alloc w9.heap.size rfl 53 #[.string b.op, .string b.name, .int .i64 b.n, .int .i64 (b.at_ : Int), .slice y b.kids.length cb]
          have HL1 := Lib.hid (F8.get 2 rfl)
          have HL2 := Lib.hid (F8.get 3 rfl)
          have ka := F8.inn 0 rfl
          have kb := F8.inn 1 rfl
          have F10 := F8.make 53 #[.string a.op, .string a.name, .int .i64 a.n, .int .i64 (a.at_ : Int), .slice x a.kids.length c, .string b.op, .string b.name, .int .i64 b.n, .int .i64 (b.at_ : Int), .slice y b.kids.length cb] (w9.heap.size + 1) (by simp) 2 (by decide) (by decide) (exsD [a, b]) (by
            rw [exsD_cons, exsD_cons, exsD_nil, List.append_nil]
            exact RowsD.app (KidsD.rows (e := b) kb) _ _ (KidsD.rows (e := a) ka))
          have HS := Lib.hid (F10.get 2 rfl)
          have F11 := F10.store 2 rfl #[.string fd, .string ⟨#[]⟩, .int .i64 0, .int .i64 (ya : Int), .slice (some ⟨w9.heap.size + 1, 0, none⟩) 2 2]
          have HF12 := Lib.hid (Fr.only (tr' := [(.slice (some ⟨w9.heap.size + 1, 0, none⟩) 2 2, .sl 2 (exsD [a, b]))]) (Fr.less (bl' := [(w.heap.size, 53, #[.string ⟨#[]⟩, .string ⟨#[]⟩, .int .i64 0, .int .i64 0, .slice none 0 0]), (w.heap.size + 1 + 1 + 1 + 1, 9, #[.string ⟨#[43]⟩, .string ⟨#[45]⟩]), (w1.heap.size, 53, #[.string fd, .string ⟨#[]⟩, .int .i64 0, .int .i64 (ya : Int), .slice (some ⟨w9.heap.size + 1, 0, none⟩) 2 2])]) F11 (List.Sublist.cons_cons _ (List.Sublist.cons_cons _ (List.Sublist.cons_cons _ (List.Sublist.cons _ List.Sublist.slnil))))) (by simp))
          have hd1 := HDEC.out _ hm
          have HD1 := Lib.hid hd1
          have HMS := Lib.hid (HM.out.trans (HMP.out.trans hm))
          clear ht hp hg hm kb F8 F10 F11 ka hd1
          obtain ⟨f', hf'⟩ : ∃ f', f = f' + 1 := ⟨f - 1, by have := HD1.out; have := HFu.out; omega⟩
          have hg1 := HGO2.out
          rw [if_neg (by decide), hf', Nat.add_sub_cancel] at hg1
          have HNX := Lib.hid (hg1.symm.trans ((congrArg (fun k => rowL4 K.L OPS3 false sub k a S) hf'.symm).trans HRe.out))
          have HFL := Lib.hid (show mS4 K S2 ≤ f' by have := HFu.out; have := HD1.out; omega)
          clear hf' hg1 HGO2
          go_wp2_with (first | (refine wpList_load_row rfl 53 (.tmp 6) rfl w1.heap.size rfl 53 #[.string a.op, .string a.name, .int .i64 a.n, .int .i64 (a.at_ : Int), .slice x a.kids.length c] (0, 0) _ HL1.out Try.underlying53 rfl HSE.out ?_) | (refine wpList_load_row rfl 53 (.tmp 10) rfl w9.heap.size rfl 53 #[.string b.op, .string b.name, .int .i64 b.n, .int .i64 (b.at_ : Int), .slice y b.kids.length cb] (0, 0) _ HL2.out Try.underlying53 rfl HSE.out ?_) | (refine wpList_store_row rfl 53 (.tmp 6) (.tmp 64) rfl w1.heap.size #[.string fd, .string ⟨#[]⟩, .int .i64 0, .int .i64 (ya : Int), .slice (some ⟨w9.heap.size + 1, 0, none⟩) 2 2] rfl rfl 53 _ HS.out HSE.out rfl (e4_one _ _ _ _ _ _ _) ?_))
          refine ⟨⟨f', op2 fd ya a b, S2, some ⟨w9.heap.size + 1, 0, none⟩, 2, HNX.out, HFL.out, HF12.out, HMS.out⟩, ?_⟩
          rw [mea4_par HF12.out.par, ← hw5, HME.out]
          exact HD1.out
end Go.Proofs.Ytejljfoacbpliaa

namespace Go.Proofs.Ytejljfoacbpliaa
open Go Go.RowKit
set_option maxHeartbeats 4000000 in
set_option maxRecDepth 100000 in
theorem row4_any {K : K4} (hG : Good4 K) {d : Nat} (sub : S4 → Ex × S4) (ka : CR4 K 5 d sub) : CR4 K 4 d (row4 K.L OPS4 false sub) := by
  intro w s h
  have HKA := Lib.hid ka
  have F1 := (((((((Fr.start h).alloc w.heap.size rfl 53 #[.string ⟨#[]⟩, .string ⟨#[]⟩, .int .i64 0, .int .i64 0, .slice none 0 0]).alloc (w.heap.size + 1) (by simp) 9 #[.string ⟨#[111, 114]⟩, .string ⟨#[120, 111, 114]⟩]).alloc (w.heap.size + 1 + 1) (by simp) 9 #[.string ⟨#[97, 110, 100]⟩]).alloc (w.heap.size + 1 + 1 + 1) (by simp) 9 #[.string ⟨#[61]⟩, .string ⟨#[60, 62]⟩, .string ⟨#[60]⟩, .string ⟨#[60, 61]⟩, .string ⟨#[62]⟩, .string ⟨#[62, 61]⟩]).alloc (w.heap.size + 1 + 1 + 1 + 1) (by simp) 9 #[.string ⟨#[43]⟩, .string ⟨#[45]⟩]).alloc (w.heap.size + 1 + 1 + 1 + 1 + 1) (by simp) 9 #[.string ⟨#[42]⟩, .string ⟨#[47]⟩, .string ⟨#[109, 111, 100]⟩]).alloc (w.heap.size + 1 + 1 + 1 + 1 + 1 + 1) (by simp) 70 #[.slice (some ⟨w.heap.size + 1, 0, none⟩) 2 2, .slice (some ⟨w.heap.size + 1 + 1, 0, none⟩) 1 1, .slice (some ⟨w.heap.size + 1 + 1 + 1, 0, none⟩) 6 6, .slice (some ⟨w.heap.size + 1 + 1 + 1 + 1, 0, none⟩) 2 2, .slice (some ⟨w.heap.size + 1 + 1 + 1 + 1 + 1, 0, none⟩) 3 3]
  have HSE := Lib.hid size_e4
  have ka := ka _ s F1.par
  unfold row4
  obtain ⟨a0, ha0⟩ : ∃ r, r = sub s := ⟨_, rfl⟩
  rw [← ha0] at ka ⊢
  obtain ⟨a, s1⟩ := a0
  simp only at ka ⊢
  obtain ⟨RR, hRR⟩ : ∃ r, r = rowL4 K.L OPS4 false sub (K.L.length + 1) a s1 := ⟨_, rfl⟩
  rw [← hRR]
  have HRR := Lib.hid hRR
  have HF1 := Lib.hid F1
  clear ha0 h F1 hRR
  go_enter Try.func145, Try.ntmps145
  go_wp2_with fail
  (with_reducible refine ka.mono ?_)
  rintro e w1 ⟨x, c, rfl, ht, hp, hg, hm1⟩
  unfold exV
  simp only at ht hp hm1 ⊢
  have HF2 := Lib.hid (Fr.less (bl' := [(w.heap.size, 53, #[.string ⟨#[]⟩, .string ⟨#[]⟩, .int .i64 0, .int .i64 0, .slice none 0 0]), (w.heap.size + 1 + 1 + 1 + 1 + 1, 9, #[.string ⟨#[42]⟩, .string ⟨#[47]⟩, .string ⟨#[109, 111, 100]⟩]), (w1.heap.size, 53, #[.string a.op, .string a.name, .int .i64 a.n, .int .i64 (a.at_ : Int), .slice x a.kids.length c])]) ((HF1.out.callT hp hg ht).alloc w1.heap.size rfl 53 #[.string a.op, .string a.name, .int .i64 a.n, .int .i64 (a.at_ : Int), .slice x a.kids.length c]) (List.Sublist.cons_cons _ (List.Sublist.cons _ (List.Sublist.cons _ (List.Sublist.cons _ (List.Sublist.cons _ (List.Sublist.cons_cons _ (List.Sublist.cons _ (List.Sublist.cons_cons _ List.Sublist.slnil)))))))))
  have HM1 := Lib.hid hm1
  clear ht hp hg ka hm1
  go_wp2_with fail
  go_loopw [] (fun wr => ∃ (f : Nat) (a : Ex) (S : S4) (x : Option Addr) (c : Nat), rowL4 K.L OPS4 false sub f a S = RR ∧ mS4 K S ≤ f ∧ Fr K w d [(w.heap.size, 53, #[.string ⟨#[]⟩, .string ⟨#[]⟩, .int .i64 0, .int .i64 0, .slice none 0 0]), (w.heap.size + 1 + 1 + 1 + 1 + 1, 9, #[.string ⟨#[42]⟩, .string ⟨#[47]⟩, .string ⟨#[109, 111, 100]⟩]), (w1.heap.size, 53, #[.string a.op, .string a.name, .int .i64 a.n, .int .i64 (a.at_ : Int), .slice x a.kids.length c])] [(.slice x a.kids.length c, .sl a.kids.length (exsD a.kids))] wr S ∧ Mono4 s S)
    (fun wr => mea4 K wr)
  case atStart => exact ⟨K.L.length + 1, a, s1, x, c, HRR.out.symm, by have := mS4_bound K s1; omega, HF2.out, HM1.out⟩
  case round =>
    clear HRR HF2 HM1
    obtain ⟨f, a, S, x, c, hR, hf, hF, hm⟩ := hrel
    have hme := mea4_par hF.par
    have kw := w_any hG _ d S hF.par
    have hlt := hF.par.lt
    have hi := fun (x : ByteArray) W (hp : Par4 K W d S) => is4_any x hG W d S hp
    have hpt := fun W (hp : Par4 K W d S) => part4_any hG W d S hp
    obtain ⟨fd, hfd⟩ : ∃ x, x = find4 K.L OPS4 S := ⟨_, rfl⟩
    have hcN := findN4_all K.L OPS4 S
    rw [← hfd] at hcN
    have hstop := rowL4_stop K.L OPS4 false sub f a S
    have hgo := rowL4_go K.L OPS4 false sub (f - 1) a S
    have hgood := find4_good K.L OPS4 S
    rw [← hfd] at hstop hgo hgood
    have htp := @take_part4 K.L fd S
    have hkd := @is4_kind K.L fd S
    have htk := fun W (hp : Par4 K W d (part4 K.L S)) => take4_any fd hG W d _ hp
    have hmp := (Mono4.part K.L S).trans (Mono4.take K.L fd (part4 K.L S))
    obtain ⟨yy, hyy⟩ : ∃ y, y = cur4 K.L S := ⟨_, rfl⟩
    rw [← hyy] at kw hgo
    obtain ⟨t1, ht1⟩ : ∃ t, t = (take4 K.L fd (part4 K.L S)).1 := ⟨_, rfl⟩
    obtain ⟨s3, hs3⟩ : ∃ t, t = (take4 K.L fd (part4 K.L S)).2 := ⟨_, rfl⟩
    rw [← ht1, ← hs3] at htk
    rw [← hs3] at hmp htp hgo
    have ksub := fun W (hp : Par4 K W d s3) => HKA.out W s3 hp
    obtain ⟨r, hr⟩ : ∃ r, r = sub s3 := ⟨_, rfl⟩
    rw [← hr] at ksub hgo
    obtain ⟨b, S2⟩ := r
    obtain ⟨yk, yt, yn, ya⟩ := yy
    unfold W4.cells at kw
    simp only at kw hgo ksub
    have kfi := field4_a (yk : Int) yn (ya : Int) yt
    have HME := Lib.hid hme
    have HF := Lib.hid hF
    have HM := Lib.hid hm
    have HI := Lib.hid hi
    have HPT := Lib.hid hpt
    have HTK := Lib.hid htk
    have HKS := Lib.hid ksub
    have HRe := Lib.hid hR
    have HFu := Lib.hid hf
    have HCN := Lib.hid hcN
    have HST := Lib.hid hstop
    have HGO := Lib.hid hgo
    have HGD := Lib.hid hgood
    have HTP := Lib.hid htp
    have HKD := Lib.hid hkd
    have HMP := Lib.hid hmp
    have HLT := Lib.hid hlt
    clear hme hF hm hi hpt htk ksub hR hf hcN hstop hgo hgood htp hkd hmp hlt hfd hyy ht1 hs3 hr
    go_wp2_with fail
    (with_reducible refine kw.mono ?_)
    rintro e w2 ⟨rfl, hb⟩
    have HF3 := Lib.hid (HF.out.call (HF.out.par.below hb) (gb_below hb))
    clear hb kw
    obtain ⟨w5, hw5⟩ : ∃ w5 : World, w5 = wr := ⟨_, rfl⟩
    rw [← hw5] at HME
    clear HF
    go_wp2_with fail
    go_loopw [8, 9] (fun v8 v9 wr => ∃ i : Nat, v9 = .int .i64 (i : Int) ∧ i ≤ 3 ∧ v8 = .string (findN4 K.L OPS4 S i) ∧ Fr K w d [(w.heap.size, 53, #[.string ⟨#[]⟩, .string ⟨#[]⟩, .int .i64 0, .int .i64 0, .slice none 0 0]), (w.heap.size + 1 + 1 + 1 + 1 + 1, 9, #[.string ⟨#[42]⟩, .string ⟨#[47]⟩, .string ⟨#[109, 111, 100]⟩]), (w1.heap.size, 53, #[.string a.op, .string a.name, .int .i64 a.n, .int .i64 (a.at_ : Int), .slice x a.kids.length c])] [(.slice x a.kids.length c, .sl a.kids.length (exsD a.kids))] wr S)
      (fun _ v9 _ => 3 - (intOf v9).toNat)
    case atStart => exact ⟨0, rfl, by decide, rfl, HF3.out⟩
    case round =>
      clear HF3
      obtain ⟨i, rfl, hin, rfl, hF⟩ := hrel
      by_cases hil : i < 3
      · have d1 : decide ((i : Int) < 3) = true := by simp; omega
        have i0 : (0 : Int) ≤ (i : Int) := by omega
        have i1 : (i : Int) < 3 := by omega
        have hcell : ∀ W, Fr K w d [(w.heap.size, 53, #[.string ⟨#[]⟩, .string ⟨#[]⟩, .int .i64 0, .int .i64 0, .slice none 0 0]), (w.heap.size + 1 + 1 + 1 + 1 + 1, 9, #[.string ⟨#[42]⟩, .string ⟨#[47]⟩, .string ⟨#[109, 111, 100]⟩]), (w1.heap.size, 53, #[.string a.op, .string a.name, .int .i64 a.n, .int .i64 (a.at_ : Int), .slice x a.kids.length c])] [(.slice x a.kids.length c, .sl a.kids.length (exsD a.kids))] W S → W.cell? ⟨w.heap.size + 1 + 1 + 1 + 1 + 1, i, none⟩ = some (.string (OPS4.getD i ⟨#[]⟩)) := fun W hF => by
          simp only [World.cell?, hF.get 1 rfl]
          match i, hil with
          | 0, _ => rfl
          | 1, _ => rfl
          | 2, _ => rfl
          | _ + 3, h => exact absurd h (by omega)
        have c1 := hcell _ hF
        have hsucc := findN4_succ K.L OPS4 S i hil
        have ki := HI.out (OPS4.getD i ⟨#[]⟩) _ hF.par
        obtain ⟨oi, hoi⟩ : ∃ o, o = OPS4.getD i ⟨#[]⟩ := ⟨_, rfl⟩
        rw [← hoi] at c1 hsucc ki hcell
        obtain ⟨bb, hbb⟩ : ∃ b, b = is4 K.L oi S := ⟨_, rfl⟩
        rw [← hbb] at hsucc ki
        have HC := Lib.hid hcell
        have HF4 := Lib.hid hF
        have HSU := Lib.hid hsucc
        clear hcell hF hsucc hoi hbb hin
        go_wp2_with fail
        (with_reducible refine ki.mono ?_)
        rintro e w6 ⟨rfl, hp, hg, _⟩
        have F5 := HF4.out.call hp hg
        have c2 := HC.out _ F5
        have HF5 := Lib.hid F5
        clear hp hg ki F5 c1
        cases bb
        · go_wp2_with fail
          refine ⟨⟨i + 1, by go_num, by omega, by rw [HSU.out]; rfl, HF5.out⟩, ?_⟩
          simp [intOf]; omega
        · go_wp2_with fail
          refine ⟨⟨i + 1, by go_num, by omega, by rw [HSU.out]; rfl, HF5.out⟩, ?_⟩
          simp [intOf]; omega
      · have d1 : decide ((i : Int) < 3) = false := by simp; omega
        obtain rfl : i = 3 := by omega
        rw [show findN4 K.L OPS4 S 3 = fd from HCN.out]
        have HF4 := Lib.hid hF
        clear hF hil hin
        by_cases hfe : fd.data.toList = []
        · have HEND := Lib.hid (show RR = (a, S) by rw [← HRe.out, HST.out hfe])
          have hemp : fd.toList.isEmpty = true := by rw [Lib.toList_data, hfe]; rfl
          have HL := Lib.hid (HF4.out.get 2 rfl)
          have HS := Lib.hid (HF4.out.get 0 rfl)
          have HF5 := Lib.hid (HF4.out.store 0 rfl #[.string a.op, .string a.name, .int .i64 a.n, .int .i64 (a.at_ : Int), .slice x a.kids.length c])
          clear hfe HGO HST
          go_wp2_with (first | (refine wpList_load_row rfl 53 (.tmp 6) rfl w1.heap.size rfl 53 #[.string a.op, .string a.name, .int .i64 a.n, .int .i64 (a.at_ : Int), .slice x a.kids.length c] (0, 0) _ HL.out Try.underlying53 rfl HSE.out ?_) | (refine wpList_store_row rfl 53 (.tmp 4) (.tmp 49) rfl w.heap.size #[.string a.op, .string a.name, .int .i64 a.n, .int .i64 (a.at_ : Int), .slice x a.kids.length c] rfl rfl 53 _ HS.out HSE.out rfl (e4_one _ _ _ _ _ _ _) ?_))
          refine bodyPost_ret (v := .agg #[.string a.op, .string a.name, .int .i64 a.n, .int .i64 (a.at_ : Int), .slice x a.kids.length c]) (results_cell_row (p := 4) (ty := 53) rfl _ _ w.heap.size 53 _ (0, 0) _ rfl (HF5.out.get 0 rfl) Try.underlying53 rfl HSE.out) rfl ?_
          rw [HEND.out]
          exact ⟨x, c, rfl, HF5.out.out 0 rfl, HF5.out.par, HF5.out.gb, HM.out⟩
        · have hemp : fd.toList.isEmpty = false := by
            rw [Lib.toList_data]
            cases hq : fd.data.toList with
            | nil => exact absurd hq hfe
            | cons _ _ => rfl
          have hi4 := HGD.out hfe
          have hkd := HKD.out hi4
          have htp := HTP.out hi4
          have hdec : ∀ S2, Mono4 s3 S2 → mS4 K S2 < mS4 K S := fun S2 hm => mS4_lt hkd.2 HLT.out (fun e' => (htp e').2) hm
          have HDEC := Lib.hid hdec
          have HGO2 := Lib.hid (HGO.out hfe)
          have kp := HPT.out _ HF4.out.par
          clear hfe HGO HST hi4 hkd htp hdec
          go_wp2_with fail
          (with_reducible refine kp.mono ?_)
          rintro e w7 ⟨rfl, hp, hg, _⟩
          have F5 := HF4.out.call hp hg
          have kt := HTK.out _ F5.par
          have HF5 := Lib.hid F5
          clear hp hg kp F5
          go_wp2_with fail
          (with_reducible refine kt.mono ?_)
          rintro e w8 ⟨rfl, hp, hg, _⟩
          have F6 := HF5.out.call hp hg
          have kb := HKS.out _ F6.par
          have HF6 := Lib.hid F6
          clear hp hg kt F6
          go_wp2_with fail
          (with_reducible refine kb.mono ?_)
          rintro e w9 ⟨y, cb, rfl, ht, hp, hg, hm⟩
          unfold exV
          simp only at ht hp hm ⊢
          have F8 := (HF6.out.callT hp hg ht).alloc w9.heap.size rfl 53 #[.string b.op, .string b.name, .int .i64 b.n, .int .i64 (b.at_ : Int), .slice y b.kids.length cb]
          have HL1 := Lib.hid (F8.get 2 rfl)
          have HL2 := Lib.hid (F8.get 3 rfl)
          have ka := F8.inn 0 rfl
          have kb := F8.inn 1 rfl
          have F10 := F8.make 53 #[.string a.op, .string a.name, .int .i64 a.n, .int .i64 (a.at_ : Int), .slice x a.kids.length c, .string b.op, .string b.name, .int .i64 b.n, .int .i64 (b.at_ : Int), .slice y b.kids.length cb] (w9.heap.size + 1) (by simp) 2 (by decide) (by decide) (exsD [a, b]) (by
            rw [exsD_cons, exsD_cons, exsD_nil, List.append_nil]
            exact RowsD.app (KidsD.rows (e := b) kb) _ _ (KidsD.rows (e := a) ka))
          have HS := Lib.hid (F10.get 2 rfl)
          have F11 := F10.store 2 rfl #[.string fd, .string ⟨#[]⟩, .int .i64 0, .int .i64 (ya : Int), .slice (some ⟨w9.heap.size + 1, 0, none⟩) 2 2]
          have HF12 := Lib.hid (Fr.only (tr' := [(.slice (some ⟨w9.heap.size + 1, 0, none⟩) 2 2, .sl 2 (exsD [a, b]))]) (Fr.less (bl' := [(w.heap.size, 53, #[.string ⟨#[]⟩, .string ⟨#[]⟩, .int .i64 0, .int .i64 0, .slice none 0 0]), (w.heap.size + 1 + 1 + 1 + 1 + 1, 9, #[.string ⟨#[42]⟩, .string ⟨#[47]⟩, .string ⟨#[109, 111, 100]⟩]), (w1.heap.size, 53, #[.string fd, .string ⟨#[]⟩, .int .i64 0, .int .i64 (ya : Int), .slice (some ⟨w9.heap.size + 1, 0, none⟩) 2 2])]) F11 (List.Sublist.cons_cons _ (List.Sublist.cons_cons _ (List.Sublist.cons_cons _ (List.Sublist.cons _ List.Sublist.slnil))))) (by simp))
          have hd1 := HDEC.out _ hm
          have HD1 := Lib.hid hd1
          have HMS := Lib.hid (HM.out.trans (HMP.out.trans hm))
          clear ht hp hg hm kb F8 F10 F11 ka hd1
          obtain ⟨f', hf'⟩ : ∃ f', f = f' + 1 := ⟨f - 1, by have := HD1.out; have := HFu.out; omega⟩
          have hg1 := HGO2.out
          rw [if_neg (by decide), hf', Nat.add_sub_cancel] at hg1
          have HNX := Lib.hid (hg1.symm.trans ((congrArg (fun k => rowL4 K.L OPS4 false sub k a S) hf'.symm).trans HRe.out))
          have HFL := Lib.hid (show mS4 K S2 ≤ f' by have := HFu.out; have := HD1.out; omega)
          clear hf' hg1 HGO2
          go_wp2_with (first | (refine wpList_load_row rfl 53 (.tmp 6) rfl w1.heap.size rfl 53 #[.string a.op, .string a.name, .int .i64 a.n, .int .i64 (a.at_ : Int), .slice x a.kids.length c] (0, 0) _ HL1.out Try.underlying53 rfl HSE.out ?_) | (refine wpList_load_row rfl 53 (.tmp 10) rfl w9.heap.size rfl 53 #[.string b.op, .string b.name, .int .i64 b.n, .int .i64 (b.at_ : Int), .slice y b.kids.length cb] (0, 0) _ HL2.out Try.underlying53 rfl HSE.out ?_) | (refine wpList_store_row rfl 53 (.tmp 6) (.tmp 64) rfl w1.heap.size #[.string fd, .string ⟨#[]⟩, .int .i64 0, .int .i64 (ya : Int), .slice (some ⟨w9.heap.size + 1, 0, none⟩) 2 2] rfl rfl 53 _ HS.out HSE.out rfl (e4_one _ _ _ _ _ _ _) ?_))
          refine ⟨⟨f', op2 fd ya a b, S2, some ⟨w9.heap.size + 1, 0, none⟩, 2, HNX.out, HFL.out, HF12.out, HMS.out⟩, ?_⟩
          rw [mea4_par HF12.out.par, ← hw5, HME.out]
          exact HD1.out
end Go.Proofs.Ytejljfoacbpliaa

namespace Go.Proofs.Ytejljfoacbpliaa
open Go Go.RowKit
theorem prim4_any {K : K4} (hG : Good4 K) {d : Nat} (expr inner : S4 → Ex × S4) (he : CX4 K 123 d expr) (hi : CX4 K 152 d inner) : CX4 K 151 d (primG4 K.L expr inner) := by
  intro w s h
  cases hb : is4 K.L (⟨#[40]⟩ : ByteArray) s with
  | true =>
    have := primB_any hG expr he w s h hb
    unfold primG4
    rw [if_pos hb]
    exact this
  | false => exact primC_any hG expr inner he hi w s h hb
theorem fby4_eq (L : List W4) (n : Nat) (sub : F4) (un : S4 → Ex × S4) : fby4 L n sub un = fun s => let a := when4 L un s; if is4 L (⟨#[102, 98, 121]⟩ : ByteArray) a.2 = true then deep4 L n sub.fby (op2 (⟨#[102, 98, 121]⟩ : ByteArray) (cur4 L a.2).at_ a.1) (take4 L (⟨#[102, 98, 121]⟩ : ByteArray) (part4 L a.2)).2 else a := rfl
theorem arrow4_eq (L : List W4) (n : Nat) (sub : F4) (fby : S4 → Ex × S4) : arrow4 L n sub fby = fun s => let a := rows4 L fby s; if is4 L (⟨#[45, 62]⟩ : ByteArray) a.2 = true then deep4 L n sub.arrow (op2 (⟨#[45, 62]⟩ : ByteArray) (cur4 L a.2).at_ a.1) (take4 L (⟨#[45, 62]⟩ : ByteArray) (part4 L a.2)).2 else a := rfl
theorem mk4_arrow (L : List W4) (n : Nat) (sub : F4) : (mk4 L n sub).arrow = arrow4 L n sub (fby4 L n sub (un4 L n sub (prim4 L n sub))) := by unfold mk4; dsimp only
theorem mk4_fby (L : List W4) (n : Nat) (sub : F4) : (mk4 L n sub).fby = fby4 L n sub (un4 L n sub (prim4 L n sub)) := by unfold mk4; dsimp only
theorem mk4_un (L : List W4) (n : Nat) (sub : F4) : (mk4 L n sub).un = un4 L n sub (prim4 L n sub) := by unfold mk4; dsimp only
theorem mk4_prim (L : List W4) (n : Nat) (sub : F4) : (mk4 L n sub).prim = prim4 L n sub := by unfold mk4; dsimp only
structure LV4 (K : K4) (d : Nat) (F : F4) : Prop where
  arrow : CX4 K 140 d F.arrow
  fby : CX4 K 148 d F.fby
  un : CX4 K 150 d F.un
  prim : CX4 K 151 d F.prim
theorem mk4_any {K : K4} (hG : Good4 K) {d n : Nat} (hdn : d + n = 30) (sub : F4) (hs : n ≠ 0 → LV4 K (d + 1) sub) : LV4 K d (mk4 K.L n sub) := by
  have hprim : CX4 K 151 d (prim4 K.L n sub) := by
    rw [prim4_eq]
    exact prim4_any hG _ _ (expr4_any hG hdn sub.arrow (fun h => (hs h).arrow)) (inner4_any hG hdn sub.prim (fun h => (hs h).prim))
  obtain ⟨prim, hp⟩ : ∃ p, p = prim4 K.L n sub := ⟨_, rfl⟩
  rw [← hp] at hprim
  have hun : CX4 K 150 d (un4 K.L n sub prim) := un4_any hG hdn sub _ hprim (fun h => (hs h).un)
  obtain ⟨un, hu⟩ : ∃ p, p = un4 K.L n sub prim := ⟨_, rfl⟩
  rw [← hu] at hun
  have hw := when4_any hG _ hun
  have hfby : CX4 K 148 d (fby4 K.L n sub un) := by
    rw [fby4_eq]
    exact fby4_any hG hdn (when4 K.L un) sub.fby hw (fun h => (hs h).fby)
  obtain ⟨fby, hf⟩ : ∃ p, p = fby4 K.L n sub un := ⟨_, rfl⟩
  rw [← hf] at hfby
  have h5 := row5_any _ hfby
  have h4 := row4_any hG _ h5
  have h3 := row3_any hG _ h4
  have h2 := row2_any hG _ h3
  have h1 := row1_any hG _ h2
  have h0 := row0_any hG _ h1
  have harr : CX4 K 140 d (arrow4 K.L n sub fby) := by
    rw [arrow4_eq]
    unfold rows4
    exact arrow4_any hG hdn _ sub.arrow h0 (fun h => (hs h).arrow)
  refine ⟨?_, ?_, ?_, ?_⟩
  · rw [mk4_arrow, ← hp, ← hu, ← hf]; exact harr
  · rw [mk4_fby, ← hp, ← hu, ← hf]; exact hfby
  · rw [mk4_un, ← hp, ← hu]; exact hun
  · rw [mk4_prim, ← hp]; exact hprim
theorem lev4_any {K : K4} (hG : Good4 K) : ∀ (n d : Nat), d + n = 30 → LV4 K d (lev4 K.L n)
  | 0, d, h => mk4_any hG h no4F (fun h => absurd rfl h)
  | n + 1, d, h => mk4_any hG h (lev4 K.L n) (fun _ => lev4_any hG n (d + 1) (by omega))
theorem exprT_any {K : K4} (hG : Good4 K) : CX4 K 123 0 (expr4 K.L) := expr4_any hG (n := 30) (by decide) (lev4 K.L 29).arrow (fun _ => (lev4_any hG 29 1 (by decide)).arrow)
end Go.Proofs.Ytejljfoacbpliaa

namespace Go.Proofs.Ytejljfoacbpliaa
open Go Go.RowKit
theorem size_n4 : (Try.prog.info? 38).map (·.size) = some 6 := by kernel_rfl
theorem size_q4 : (Try.prog.info? 55).map (·.size) = some 7 := by kernel_rfl
theorem n4_one (o : ByteArray) (x1 x2 x3 x4 : Option Addr) (l1 c1 l2 c2 l3 c3 l4 c4 : Nat) (a : Int) : (#[.string o, .slice x1 l1 c1, .slice x2 l2 c2, .slice x3 l3 c3, .slice x4 l4 c4, .int .i64 a] : Array Value).all (·.oneCell') = true := by simp [Value.oneCell']
theorem info_q4 : ∃ i, Try.prog.info? 55 = some i ∧ (∃ z, i.zero = some z ∧ z.cells.size = 7) ∧ i.size = 7 ∧ i.bytes = 96 := by
  have h : (Try.prog.info? 55).map (fun i => (i.zero.map (·.cells.size), i.size, i.bytes)) = some (some 7, 7, 96) := by kernel_rfl
  cases hi : Try.prog.info? 55 with
  | none => rw [hi] at h; simp at h
  | some i =>
    rw [hi] at h
    simp only [Option.map_some, Option.some.injEq, Prod.mk.injEq] at h
    obtain ⟨hz, hs, hb⟩ := h
    cases hzz : i.zero with
    | none => rw [hzz] at hz; simp at hz
    | some z => exact ⟨i, rfl, ⟨z, hzz, by rw [hzz] at hz; simpa using hz⟩, hs, hb⟩
theorem info_n4 : ∃ i, Try.prog.info? 38 = some i ∧ (∃ z, i.zero = some z ∧ z.cells.size = 6) ∧ i.size = 6 ∧ i.bytes = 120 := by
  have h : (Try.prog.info? 38).map (fun i => (i.zero.map (·.cells.size), i.size, i.bytes)) = some (some 6, 6, 120) := by kernel_rfl
  cases hi : Try.prog.info? 38 with
  | none => rw [hi] at h; simp at h
  | some i =>
    rw [hi] at h
    simp only [Option.map_some, Option.some.injEq, Prod.mk.injEq] at h
    obtain ⟨hz, hs, hb⟩ := h
    cases hzz : i.zero with
    | none => rw [hzz] at hz; simp at hz
    | some z => exact ⟨i, rfl, ⟨z, hzz, by rw [hzz] at hz; simpa using hz⟩, hs, hb⟩
def qeD (q : Qe) : List Dt := .v (.string q.name) :: (exD q.e ++ [.v (.int .i64 (q.at_ : Int))])
def qesD (l : List Qe) : List Dt := l.flatMap qeD
def ndD (n : Nd) : List Dt := [.v (.string n.name), .sl n.ins.length (vrsD n.ins), .sl n.outs.length (vrsD n.outs), .sl n.locs.length (vrsD n.locs), .sl n.eqs.length (qesD n.eqs), .v (.int .i64 (n.at_ : Int))]
def ndsD (l : List Nd) : List Dt := l.flatMap ndD
theorem qeD_len (q : Qe) : (qeD q).length = 7 := by
  unfold qeD
  rw [List.length_cons, List.length_append, exD_len]; rfl
theorem qesD_cons (q : Qe) (r : List Qe) : qesD (q :: r) = qeD q ++ qesD r := rfl
theorem qesD_app (a b : List Qe) : qesD (a ++ b) = qesD a ++ qesD b := by simp [qesD]
theorem qesD_one_ (q : Qe) : qesD [q] = qeD q := by simp [qesD]
theorem qesD_len : ∀ l : List Qe, (qesD l).length = l.length * 7
  | [] => rfl
  | q :: r => by rw [qesD_cons, List.length_append, qesD_len r, qeD_len, List.length_cons]; omega
theorem qeD_one (q : Qe) : ∀ d ∈ qeD q, d.one := fun d hd => by
  unfold qeD at hd
  rcases List.mem_cons.1 hd with rfl | hd
  · rfl
  · rcases List.mem_append.1 hd with hd | hd
    · exact exD_one q.e d hd
    · simp only [List.mem_cons, List.not_mem_nil, or_false] at hd
      subst hd; rfl
theorem qesD_ones (l : List Qe) : ∀ d ∈ qesD l, d.one := fun d hd => by
  obtain ⟨v, _, h⟩ := List.mem_flatMap.1 hd
  exact qeD_one v d h
theorem ndsD_cons (n : Nd) (r : List Nd) : ndsD (n :: r) = ndD n ++ ndsD r := rfl
theorem ndsD_app (a b : List Nd) : ndsD (a ++ b) = ndsD a ++ ndsD b := by simp [ndsD]
theorem ndsD_one_ (q : Nd) : ndsD [q] = ndD q := by simp [ndsD]
theorem ndsD_len : ∀ l : List Nd, (ndsD l).length = l.length * 6
  | [] => rfl
  | q :: r => by rw [ndsD_cons, List.length_append, ndsD_len r, List.length_cons]; show 6 + _ = _; omega
theorem ndsD_ones (l : List Nd) : ∀ d ∈ ndsD l, d.one := fun d hd => by
  obtain ⟨v, _, h⟩ := List.mem_flatMap.1 hd
  simp only [ndD, List.mem_cons, List.not_mem_nil, or_false] at h
  rcases h with rfl | rfl | rfl | rfl | rfl | rfl <;> first | rfl | trivial
def qeC (nm : ByteArray) (e : Ex) (x : Option Addr) (c : Nat) (at_ : Int) : List Value := .string nm :: (exC e x c ++ [.int .i64 at_])
theorem qeC_rows {ok : Nat → Prop} {w : World} {nm : ByteArray} {e : Ex} {x : Option Addr} {c at_ : Nat} (h : KidsD ok w e x c) : RowsD ok w (qeC nm e x c (at_ : Int)) (qeD ⟨nm, e, at_⟩) := by
  refine ⟨by unfold IsD; rfl, RowsD.app (ys := [.int .i64 (at_ : Int)]) (es := [.v (.int .i64 (at_ : Int))]) ?_ _ _ h.rows⟩
  exact ⟨by unfold IsD; rfl, trivial⟩
theorem q4_one (nm : ByteArray) (e : Ex) (x : Option Addr) (c : Nat) (a : Int) : (qeC nm e x c a).toArray.all (·.oneCell') = true := by
  simp [qeC, exC, Value.oneCell']
def Tre (ok : Nat → Prop) (w : World) (l : List (Value × Dt)) : Prop := ∀ x ∈ l, IsD ok w x.1 x.2
theorem Tre.grown {ok : Nat → Prop} {w w' : World} {l : List (Value × Dt)} {row : Option Nat} (h : Tre ok w l) (hg : w.grownBy w' row) (hr : ∀ k, row = some k → ¬ ok k) : Tre ok w' l := fun x hx => (h x hx).grown hg hr
theorem Fr.tre {K : K4} {w0 w : World} {d : Nat} {bl : List (Nat × TypeId × Array Value)} {tr : List (Value × Dt)} {s : S4} (h : Fr K w0 d bl tr w s) : Tre (fun k => w0.heap.size ≤ k ∧ (∀ y ∈ bl, k ≠ y.1) ∧ k < w.heap.size) w tr :=
  fun x hx => (h.tree x hx).mono (fun k hk hl => ⟨hk.1, hk.2, hl⟩)
theorem Fr.more {K : K4} {w0 w : World} {d : Nat} {bl : List (Nat × TypeId × Array Value)} {tr : List (Value × Dt)} {s : S4} (h : Fr K w0 d bl tr w s) {v : Value} {dt : Dt} (ht : IsD (fun k => w0.heap.size ≤ k ∧ ∀ y ∈ bl, k ≠ y.1) w v dt) : Fr K w0 d bl (tr ++ [(v, dt)]) w s :=
  ⟨h.par, h.gb, h.gp, h.gw, h.blk, fun x hx => by
    rcases List.mem_append.1 hx with hx | hx
    · exact h.tree x hx
    · simp only [List.mem_cons, List.not_mem_nil, or_false] at hx
      subst hx
      exact ht, h.srt⟩
theorem there_of_row {w : World} {b o n : Nat} {cs : Array Value} {T : TypeId} (h : w.heap[b]? = some (.cells cs T (0, 0))) (hn : o + n ≤ cs.size) : w.there b o n := fun j hj =>
  ⟨by rw [cell_of_row w b (o + j) _ _ _ h, Array.getElem?_eq_getElem (by omega)]; rfl, frozen_of_row w b (o + j) _ _ h⟩
theorem node4_of {L : List W4} {s : S4} {m : ByteArray × S4} {i o c : List Vr × S4} {v : Bool × S4} {q : List Qe × S4} (hm : m = name4 L (want4 L (⟨#[110, 111, 100, 101]⟩ : ByteArray) { s with names := 0 })) (hi : i = decls4 L (want4 L (⟨#[40]⟩ : ByteArray) m.2)) (ho : o = decls4 L (want4 L (⟨#[40]⟩ : ByteArray) (want4 L (⟨#[114, 101, 116, 117, 114, 110, 115]⟩ : ByteArray) (want4 L (⟨#[41]⟩ : ByteArray) i.2))))
    (hv : v = take4 L (⟨#[118, 97, 114]⟩ : ByteArray) (want4 L (⟨#[59]⟩ : ByteArray) (want4 L (⟨#[41]⟩ : ByteArray) o.2))) (hc : c = if v.1 = true then ((locals4 L v.2).1, want4 L (⟨#[59]⟩ : ByteArray) (locals4 L v.2).2) else ([], v.2)) (hq : q = eqsL4 L (L.length + 1) [] (want4 L (⟨#[108, 101, 116]⟩ : ByteArray) c.2)) :
    node4 L s = (⟨m.1, i.1, o.1, c.1, q.1, (cur4 L s).at_⟩, (take4 L (⟨#[59]⟩ : ByteArray) (want4 L (⟨#[116, 101, 108]⟩ : ByteArray) q.2)).2) := by
  unfold node4
  simp only [← hm, ← hi, ← ho, ← hv]
  rw [← hc, ← hq]
theorem eq4_of {L : List W4} {s : S4} {m : ByteArray × S4} {e : Ex × S4} (hm : m = name4 L s) (he : e = expr4 L { want4 L (⟨#[61]⟩ : ByteArray) m.2 with parts := 0 }) : eq4 L s = (⟨m.1, e.1, (cur4 L s).at_⟩, want4 L (⟨#[59]⟩ : ByteArray) e.2) := by
  subst hm he
  unfold eq4
  dsimp only
theorem eqsL4_stop (L : List W4) (f : Nat) (l : List Qe) (s : S4) (h : ¬ (s.er = 0 ∧ (cur4 L s).kind = 1)) : eqsL4 L f l s = (l, s) := by
  cases f with
  | zero => rfl
  | succ f => unfold eqsL4; rw [if_neg h]
theorem eqsL4_go (L : List W4) (f : Nat) (l : List Qe) (s : S4) (h : s.er = 0 ∧ (cur4 L s).kind = 1) : eqsL4 L (f + 1) l s = eqsL4 L f (l ++ [(eq4 L s).1]) (eq4 L s).2 := by
  conv => lhs; unfold eqsL4
  rw [if_pos h]
def GivesN4 (K : K4) (d : Nat) (s : S4) (r : Nd × S4) (w : World) (e : Ending) (w' : World) : Prop :=
  ∃ xi ci xo co xl cl xe ce, e = .returned (.agg #[.string r.1.name, .slice xi r.1.ins.length ci, .slice xo r.1.outs.length co, .slice xl r.1.locs.length cl, .slice xe r.1.eqs.length ce, .int .i64 (r.1.at_ : Int)])
    ∧ IsD (w.heap.size ≤ ·) w' (.slice xi r.1.ins.length ci) (.sl r.1.ins.length (vrsD r.1.ins)) ∧ IsD (w.heap.size ≤ ·) w' (.slice xo r.1.outs.length co) (.sl r.1.outs.length (vrsD r.1.outs)) ∧ IsD (w.heap.size ≤ ·) w' (.slice xl r.1.locs.length cl) (.sl r.1.locs.length (vrsD r.1.locs)) ∧ IsD (w.heap.size ≤ ·) w' (.slice xe r.1.eqs.length ce) (.sl r.1.eqs.length (qesD r.1.eqs))
    ∧ Par4 K w' d r.2 ∧ w.grownBy w' (some K.gp) ∧ Mono4 s r.2 ∧ (s.er = 0 → r.2.er ≠ 0 ∨ s.k + 1 ≤ r.2.k)
theorem want4_goes (L : List W4) (x : ByteArray) (s : S4) : (want4 L x s).er ≠ 0 ∨ s.k + 1 ≤ (want4 L x s).k := by
  unfold want4
  split
  · exact .inr (Nat.le_refl _)
  · exact .inl (fail4_er L 7 (by decide) s)
theorem OwnD.tree {T : TypeId} {sz : Nat} {w w' : World} {v : Value} {n : Nat} {ds : List Dt} (h : OwnD T sz w' (w.heap.size - 1) v n ds) (hw : 0 < w.heap.size) (hf : n ≤ 1000000000) : IsD (w.heap.size ≤ ·) w' v (.sl n ds) :=
  (h.ends hf).mono (fun k hk _ => by have : w.heap.size - 1 < k := hk; show w.heap.size ≤ k; omega)
end Go.Proofs.Ytejljfoacbpliaa

namespace Go.Proofs.Ytejljfoacbpliaa
open Go Go.RowKit
set_option maxHeartbeats 4000000 in
set_option maxRecDepth 100000 in
theorem node4_any {K : K4} (hG : Good4 K) (w : World) (s : S4) (h : Par4 K w 0 s) : Calls Try.prog 80 #[.pointer (some ⟨K.gp, 0, none⟩)] w (GivesN4 K 0 s (node4 K.L s) w) := by
  have HW0 := Lib.hid (show 0 < w.heap.size by have := h.gpl; omega)
  have HSN := Lib.hid size_n4
  have HSQ := Lib.hid size_q4
  have HSE := Lib.hid size_e4
  have HIQ := Lib.hid info_q4
  have F1 := (Fr.start h).alloc w.heap.size rfl 38 #[.string ⟨#[]⟩, .slice none 0 0, .slice none 0 0, .slice none 0 0, .slice none 0 0, .int .i64 0]
  have kw := w_any hG _ 0 s F1.par
  obtain ⟨sz, hsz⟩ : ∃ q : S4, q = { s with names := 0 } := ⟨_, rfl⟩
  have hmz : Mono4 s sz := by rw [hsz]; exact ⟨Nat.le_refl _, fun h => h⟩
  have hwg := want4_goes K.L (⟨#[110, 111, 100, 101]⟩ : ByteArray) sz
  have hk_s1 := fun W (hp : Par4 K W 0 (sz)) => want4_any (⟨#[110, 111, 100, 101]⟩ : ByteArray) hG W 0 _ hp
  have hm_s1 := Mono4.want K.L (⟨#[110, 111, 100, 101]⟩ : ByteArray) (sz)
  obtain ⟨s1, h_s1⟩ : ∃ q, q = want4 K.L (⟨#[110, 111, 100, 101]⟩ : ByteArray) (sz) := ⟨_, rfl⟩
  rw [← h_s1] at hk_s1 hm_s1
  have hk_m := fun W (hp : Par4 K W 0 (s1)) => name4_any hG W 0 _ hp
  have hm_m := Mono4.name K.L (s1)
  obtain ⟨m, h_m⟩ : ∃ q, q = name4 K.L (s1) := ⟨_, rfl⟩
  rw [← h_m] at hk_m hm_m
  have hk_s3 := fun W (hp : Par4 K W 0 (m.2)) => want4_any (⟨#[40]⟩ : ByteArray) hG W 0 _ hp
  have hm_s3 := Mono4.want K.L (⟨#[40]⟩ : ByteArray) (m.2)
  obtain ⟨s3, h_s3⟩ : ∃ q, q = want4 K.L (⟨#[40]⟩ : ByteArray) (m.2) := ⟨_, rfl⟩
  rw [← h_s3] at hk_s3 hm_s3
  have hk_i := fun W (hp : Par4 K W 0 (s3)) => decls4_any hG W 0 _ hp
  obtain ⟨i, h_i⟩ : ∃ q, q = decls4 K.L (s3) := ⟨_, rfl⟩
  rw [← h_i] at hk_i
  have hk_s5 := fun W (hp : Par4 K W 0 (i.2)) => want4_any (⟨#[41]⟩ : ByteArray) hG W 0 _ hp
  have hm_s5 := Mono4.want K.L (⟨#[41]⟩ : ByteArray) (i.2)
  obtain ⟨s5, h_s5⟩ : ∃ q, q = want4 K.L (⟨#[41]⟩ : ByteArray) (i.2) := ⟨_, rfl⟩
  rw [← h_s5] at hk_s5 hm_s5
  have hk_s6 := fun W (hp : Par4 K W 0 (s5)) => want4_any (⟨#[114, 101, 116, 117, 114, 110, 115]⟩ : ByteArray) hG W 0 _ hp
  have hm_s6 := Mono4.want K.L (⟨#[114, 101, 116, 117, 114, 110, 115]⟩ : ByteArray) (s5)
  obtain ⟨s6, h_s6⟩ : ∃ q, q = want4 K.L (⟨#[114, 101, 116, 117, 114, 110, 115]⟩ : ByteArray) (s5) := ⟨_, rfl⟩
  rw [← h_s6] at hk_s6 hm_s6
  have hk_s7 := fun W (hp : Par4 K W 0 (s6)) => want4_any (⟨#[40]⟩ : ByteArray) hG W 0 _ hp
  have hm_s7 := Mono4.want K.L (⟨#[40]⟩ : ByteArray) (s6)
  obtain ⟨s7, h_s7⟩ : ∃ q, q = want4 K.L (⟨#[40]⟩ : ByteArray) (s6) := ⟨_, rfl⟩
  rw [← h_s7] at hk_s7 hm_s7
  have hk_o := fun W (hp : Par4 K W 0 (s7)) => decls4_any hG W 0 _ hp
  obtain ⟨o, h_o⟩ : ∃ q, q = decls4 K.L (s7) := ⟨_, rfl⟩
  rw [← h_o] at hk_o
  have hk_s9 := fun W (hp : Par4 K W 0 (o.2)) => want4_any (⟨#[41]⟩ : ByteArray) hG W 0 _ hp
  have hm_s9 := Mono4.want K.L (⟨#[41]⟩ : ByteArray) (o.2)
  obtain ⟨s9, h_s9⟩ : ∃ q, q = want4 K.L (⟨#[41]⟩ : ByteArray) (o.2) := ⟨_, rfl⟩
  rw [← h_s9] at hk_s9 hm_s9
  have hk_s10 := fun W (hp : Par4 K W 0 (s9)) => want4_any (⟨#[59]⟩ : ByteArray) hG W 0 _ hp
  have hm_s10 := Mono4.want K.L (⟨#[59]⟩ : ByteArray) (s9)
  obtain ⟨s10, h_s10⟩ : ∃ q, q = want4 K.L (⟨#[59]⟩ : ByteArray) (s9) := ⟨_, rfl⟩
  rw [← h_s10] at hk_s10 hm_s10
  have hk_v := fun W (hp : Par4 K W 0 (s10)) => take4_any (⟨#[118, 97, 114]⟩ : ByteArray) hG W 0 _ hp
  have hm_v := Mono4.take K.L (⟨#[118, 97, 114]⟩ : ByteArray) (s10)
  obtain ⟨v, h_v⟩ : ∃ q, q = take4 K.L (⟨#[118, 97, 114]⟩ : ByteArray) (s10) := ⟨_, rfl⟩
  rw [← h_v] at hk_v hm_v
  obtain ⟨c, h_c⟩ : ∃ q, q = if v.1 = true then ((locals4 K.L v.2).1, want4 K.L (⟨#[59]⟩ : ByteArray) (locals4 K.L v.2).2) else (([] : List Vr), v.2) := ⟨_, rfl⟩
  have hk_sl := fun W (hp : Par4 K W 0 c.2) => want4_any (⟨#[108, 101, 116]⟩ : ByteArray) hG W 0 _ hp
  have hm_sl := Mono4.want K.L (⟨#[108, 101, 116]⟩ : ByteArray) c.2
  obtain ⟨sl, h_sl⟩ : ∃ q, q = want4 K.L (⟨#[108, 101, 116]⟩ : ByteArray) c.2 := ⟨_, rfl⟩
  rw [← h_sl] at hk_sl hm_sl
  obtain ⟨q, h_q⟩ : ∃ q, q = eqsL4 K.L (K.L.length + 1) [] sl := ⟨_, rfl⟩
  have hk_st := fun W (hp : Par4 K W 0 q.2) => want4_any (⟨#[116, 101, 108]⟩ : ByteArray) hG W 0 _ hp
  have hm_st := Mono4.want K.L (⟨#[116, 101, 108]⟩ : ByteArray) q.2
  obtain ⟨st, h_st⟩ : ∃ z, z = want4 K.L (⟨#[116, 101, 108]⟩ : ByteArray) q.2 := ⟨_, rfl⟩
  rw [← h_st] at hk_st hm_st
  have hk_se := fun W (hp : Par4 K W 0 st) => take4_any (⟨#[59]⟩ : ByteArray) hG W 0 _ hp
  have hm_se := Mono4.take K.L (⟨#[59]⟩ : ByteArray) st
  obtain ⟨b_e, h_be⟩ : ∃ z, z = (take4 K.L (⟨#[59]⟩ : ByteArray) st).1 := ⟨_, rfl⟩
  obtain ⟨se, h_se⟩ : ∃ z, z = (take4 K.L (⟨#[59]⟩ : ByteArray) st).2 := ⟨_, rfl⟩
  rw [← h_be, ← h_se] at hk_se
  rw [← h_se] at hm_se
  have hnode : node4 K.L s = (⟨m.1, i.1, o.1, c.1, q.1, (cur4 K.L s).at_⟩, se) := by
    rw [h_se, h_st]
    refine node4_of (m := m) (i := i) (o := o) (c := c) (v := v) (q := q) ?_ ?_ ?_ ?_ h_c ?_
    · rw [h_m, h_s1, hsz]
    · rw [h_i, h_s3]
    · rw [h_o, h_s7, h_s6, h_s5]
    · rw [h_v, h_s10, h_s9]
    · rw [h_q, h_sl]
  rw [hnode]
  obtain ⟨yy, hyy⟩ : ∃ y, y = cur4 K.L s := ⟨_, rfl⟩
  rw [← hyy] at kw ⊢
  obtain ⟨yk, yt, yn, ya⟩ := yy
  unfold W4.cells at kw
  have kfi := field4_a (yk : Int) yn (ya : Int) yt
  have HSZ := Lib.hid hsz
  have HQ0 := Lib.hid h_q
  have HC0 := Lib.hid h_c
  have HF1 := Lib.hid F1
  have K_s1 := Lib.hid hk_s1
  have K_m := Lib.hid hk_m
  have K_s3 := Lib.hid hk_s3
  have K_i := Lib.hid hk_i
  have K_s5 := Lib.hid hk_s5
  have K_s6 := Lib.hid hk_s6
  have K_s7 := Lib.hid hk_s7
  have K_o := Lib.hid hk_o
  have K_s9 := Lib.hid hk_s9
  have K_s10 := Lib.hid hk_s10
  have K_v := Lib.hid hk_v
  have K_sl := Lib.hid hk_sl
  have K_st := Lib.hid hk_st
  have K_se := Lib.hid hk_se
  have HWG := Lib.hid (show s1.er ≠ 0 ∨ s.k + 1 ≤ s1.k by rw [h_s1]; rw [show sz.k = s.k by rw [hsz]] at hwg; exact hwg)
  have HMA1 := Lib.hid (hm_m.trans hm_s3)
  clear hwg
  have HMA := Lib.hid (hmz.trans (hm_s1.trans (hm_m.trans hm_s3)))
  have HMB := Lib.hid (hm_s5.trans (hm_s6.trans hm_s7))
  have HMC := Lib.hid (hm_s9.trans (hm_s10.trans hm_v))
  have HMD := Lib.hid hm_sl
  have HME := Lib.hid (hm_st.trans hm_se)
  clear h F1 hsz hmz hyy hnode h_c h_sl h_q h_st h_be h_se hk_sl hk_st hk_se hm_sl hm_st hm_se h_s1 hk_s1 h_m hk_m h_s3 hk_s3 h_i hk_i h_s5 hk_s5 h_s6 hk_s6 h_s7 hk_s7 h_o hk_o h_s9 hk_s9 h_s10 hk_s10 h_v hk_v hm_s1 hm_m hm_s3 hm_s5 hm_s6 hm_s7 hm_s9 hm_s10 hm_v
  obtain ⟨nm, s2⟩ := m
  obtain ⟨li, s4⟩ := i
  obtain ⟨lo, s8⟩ := o
  obtain ⟨bv, s11⟩ := v
  obtain ⟨lc, s13⟩ := c
  obtain ⟨lq, s15⟩ := q
  simp only at K_m K_s3 K_i K_s5 K_o K_s9 K_v K_sl K_st ⊢
  go_enter Try.func80, Try.ntmps80
  go_wp2_with fail
  (with_reducible refine kw.mono ?_)
  rintro e w1 ⟨rfl, hb⟩
  have F2 := (HF1.out.call (HF1.out.par.below hb) (gb_below hb)).alloc w1.heap.size rfl 38 #[.string ⟨#[]⟩, .slice none 0 0, .slice none 0 0, .slice none 0 0, .slice none 0 0, .int .i64 (ya : Int)]
  obtain ⟨_, _, _, _, _, _, q6⟩ := F2.par.cells
  have f6 := F2.par.frozen 6
  have F3 := F2.own hG 6 (.int .i64 0) (s' := sz) (d' := 0) (by rw [HSZ.out]; rfl) (by rw [HSZ.out]; exact F2.par.lt)
  have HF2 := Lib.hid F3
  clear hb kw F2 F3
  have k_ := K_s1.out _ HF2.out.par
  go_wp2_with fail
  (with_reducible refine k_.mono ?_)
  rintro e w2 ⟨rfl, hp, hg, _⟩
  have HF2 := Lib.hid (HF2.out.call hp hg)
  clear hp hg k_
  have k_ := K_m.out _ HF2.out.par
  go_wp2_with fail
  (with_reducible refine k_.mono ?_)
  rintro e w3 ⟨rfl, hp, hg, _⟩
  have F_ := HF2.out.call hp hg
  have cv := cell_of_row w3 w1.heap.size 0 _ _ _ (F_.get 1 rfl)
  have fv := frozen_of_row w3 w1.heap.size 0 _ _ (F_.get 1 rfl)
  have HF3 := Lib.hid (F_.cell 1 rfl 0 (.string nm))
  clear hp hg k_ F_
  have k_ := K_s3.out _ HF3.out.par
  go_wp2_with fail
  (with_reducible refine k_.mono ?_)
  rintro e w4 ⟨rfl, hp, hg, _⟩
  have HF4 := Lib.hid (HF3.out.call hp hg)
  clear hp hg k_
  have k_ := K_i.out _ HF4.out.par
  have hsz_ := HF4.out.gb.size
  go_wp2_with fail
  (with_reducible refine k_.mono ?_)
  rintro e w5 ⟨V_, rfl, hO, hp, hg, hm_, hl_⟩
  have hk_ := hp.lt
  simp only at hl_ hk_
  have HM_li := Lib.hid hm_
  obtain ⟨xi, ci, rfl, _, _⟩ := hO.slice
  have F_ := HF4.out.callT hp hg (hO.tree (by have := HW0.out; omega) (by have := hG.few; show li.length ≤ _; omega))
  clear hl_ hk_
  have cv := cell_of_row w5 w1.heap.size 1 _ _ _ (F_.get 1 rfl)
  have fv := frozen_of_row w5 w1.heap.size 1 _ _ (F_.get 1 rfl)
  have HF5 := Lib.hid (F_.cell 1 rfl 1 (.slice xi li.length ci))
  clear hO hp hg k_ F_ hsz_ hm_
  have k_ := K_s5.out _ HF5.out.par
  go_wp2_with fail
  (with_reducible refine k_.mono ?_)
  rintro e w6 ⟨rfl, hp, hg, _⟩
  have HF6 := Lib.hid (HF5.out.call hp hg)
  clear hp hg k_
  have k_ := K_s6.out _ HF6.out.par
  go_wp2_with fail
  (with_reducible refine k_.mono ?_)
  rintro e w7 ⟨rfl, hp, hg, _⟩
  have HF7 := Lib.hid (HF6.out.call hp hg)
  clear hp hg k_
  have k_ := K_s7.out _ HF7.out.par
  go_wp2_with fail
  (with_reducible refine k_.mono ?_)
  rintro e w8 ⟨rfl, hp, hg, _⟩
  have HF8 := Lib.hid (HF7.out.call hp hg)
  clear hp hg k_
  have k_ := K_o.out _ HF8.out.par
  have hsz_ := HF8.out.gb.size
  go_wp2_with fail
  (with_reducible refine k_.mono ?_)
  rintro e w9 ⟨V_, rfl, hO, hp, hg, hm_, hl_⟩
  have hk_ := hp.lt
  simp only at hl_ hk_
  have HM_lo := Lib.hid hm_
  obtain ⟨xo, co, rfl, _, _⟩ := hO.slice
  have F_ := HF8.out.callT hp hg (hO.tree (by have := HW0.out; omega) (by have := hG.few; show lo.length ≤ _; omega))
  clear hl_ hk_
  have cv := cell_of_row w9 w1.heap.size 2 _ _ _ (F_.get 1 rfl)
  have fv := frozen_of_row w9 w1.heap.size 2 _ _ (F_.get 1 rfl)
  have HF9 := Lib.hid (F_.cell 1 rfl 2 (.slice xo lo.length co))
  clear hO hp hg k_ F_ hsz_ hm_
  have k_ := K_s9.out _ HF9.out.par
  go_wp2_with fail
  (with_reducible refine k_.mono ?_)
  rintro e w10 ⟨rfl, hp, hg, _⟩
  have HF10 := Lib.hid (HF9.out.call hp hg)
  clear hp hg k_
  have k_ := K_s10.out _ HF10.out.par
  go_wp2_with fail
  (with_reducible refine k_.mono ?_)
  rintro e w11 ⟨rfl, hp, hg, _⟩
  have HF11 := Lib.hid (HF10.out.call hp hg)
  clear hp hg k_
  have k_ := K_v.out _ HF11.out.par
  go_wp2_with fail
  (with_reducible refine k_.mono ?_)
  rintro e w12 ⟨rfl, hp, hg, _⟩
  have HF12 := Lib.hid (HF11.out.call hp hg)
  clear hp hg k_
  go_upto_if 36 with fail
  go_cut [] (fun wx => ∃ (xl : Option Addr) (cl : Nat), Fr K w 0 [(w.heap.size, 38, #[.string ⟨#[]⟩, .slice none 0 0, .slice none 0 0, .slice none 0 0, .slice none 0 0, .int .i64 0]), (w1.heap.size, 38, #[.string nm, .slice xi li.length ci, .slice xo lo.length co, .slice xl lc.length cl, .slice none 0 0, .int .i64 (ya : Int)])] [(.slice xi li.length ci, .sl li.length (vrsD li)), (.slice xo lo.length co, .sl lo.length (vrsD lo)), (.slice xl lc.length cl, .sl lc.length (vrsD lc))] wx s13 ∧ Mono4 s11 s13)
  case first =>
    cases bv with
    | false =>
      have h := HC0.out
      simp only [Bool.false_eq_true, if_false, Prod.mk.injEq] at h
      obtain ⟨h1, h2⟩ := h
      subst h1 h2
      clear HC0
      go_wp2_with fail
      go_meet
      exact ⟨none, 0, HF12.out.more (IsD.nil (Nat.zero_le _)), Mono4.refl _⟩
    | true =>
      have h := HC0.out
      simp only [if_true, Prod.mk.injEq] at h
      have kl := locals4_any hG _ 0 s11 HF12.out.par
      obtain ⟨r, hr⟩ : ∃ r, r = locals4 K.L s11 := ⟨_, rfl⟩
      rw [← hr] at kl h
      obtain ⟨ll, s12⟩ := r
      simp only at kl h
      obtain ⟨h1, h2⟩ := h
      subst h1
      have kn := fun W (hp : Par4 K W 0 s12) => want4_any (⟨#[59]⟩ : ByteArray) hG W 0 _ hp
      have hmw := Mono4.want K.L (⟨#[59]⟩ : ByteArray) s12
      rw [← h2] at kn hmw
      have HKN := Lib.hid kn
      have HMW := Lib.hid hmw
      clear h2 hr kn hmw HC0
      have hsz_ := HF12.out.gb.size
      go_wp2_with fail
      (with_reducible refine kl.mono ?_)
      rintro e wa ⟨V_, rfl, hO, hp, hg, hm, hl_⟩
      simp only at hO hp hm hl_
      have hk_ := hp.lt
      obtain ⟨xl, cl, rfl, _, _⟩ := hO.slice
      have F_ := HF12.out.callT hp hg (hO.tree (by have := HW0.out; omega) (by have := hG.few; omega))
      clear hl_ hk_
      have cv := cell_of_row wa w1.heap.size 3 _ _ _ (F_.get 1 rfl)
      have fv := frozen_of_row wa w1.heap.size 3 _ _ (F_.get 1 rfl)
      have F2_ : Fr K w 0 [(w.heap.size, 38, #[.string ⟨#[]⟩, .slice none 0 0, .slice none 0 0, .slice none 0 0, .slice none 0 0, .int .i64 0]), (w1.heap.size, 38, #[.string nm, .slice xi li.length ci, .slice xo lo.length co, .slice xl lc.length cl, .slice none 0 0, .int .i64 (ya : Int)])] [(.slice xi li.length ci, .sl li.length (vrsD li)), (.slice xo lo.length co, .sl lo.length (vrsD lo)), (.slice xl lc.length cl, .sl lc.length (vrsD lc))] (wa.setCell ⟨w1.heap.size, 3, none⟩ (.slice xl lc.length cl)) s12 := F_.cell 1 rfl 3 _
      have k_ := HKN.out _ F2_.par
      have HFX := Lib.hid F2_
      have HMX := Lib.hid (hm.trans HMW.out)
      clear hO hp hg hm kl F_ F2_ hsz_
      go_wp2_with fail
      (with_reducible refine k_.mono ?_)
      rintro e wb ⟨rfl, hp, hg, _⟩
      have HFY := Lib.hid (HFX.out.call hp hg)
      clear hp hg k_
      go_wp2_with fail
      go_meet
      exact ⟨xl, cl, HFY.out, HMX.out⟩
  case rest =>
    obtain ⟨xl, cl, hF, hmc⟩ := hcut
    have k_ := K_sl.out _ hF.par
    have HFC := Lib.hid hF
    have HMX1 := Lib.hid (HMA1.out.trans (HM_li.out.trans (HMB.out.trans (HM_lo.out.trans (HMC.out.trans (hmc.trans HMD.out))))))
    have HMX := Lib.hid (HMA.out.trans (HM_li.out.trans (HMB.out.trans (HM_lo.out.trans (HMC.out.trans (hmc.trans HMD.out))))))
    clear hF hmc HC0
    go_wp2_with fail
    (with_reducible refine k_.mono ?_)
    rintro e wB ⟨rfl, hp, hg, _⟩
    have FB := HFC.out.call hp hg
    have hw1 : w.heap.size ≤ w1.heap.size := FB.ge 1 rfl
    have hsrt := FB.srt
    simp only [List.pairwise_cons, List.mem_cons, List.not_mem_nil, or_false, forall_eq_or_imp, forall_eq, List.Pairwise.nil, and_true] at hsrt
    have HW1 := Lib.hid (show w.heap.size < w1.heap.size from by have := hsrt; omega)
    have hlB := FB.lt (w1.heap.size, 38, #[.string nm, .slice xi li.length ci, .slice xo lo.length co, .slice xl lc.length cl, .slice none 0 0, .int .i64 (ya : Int)]) (by simp)
    have HLB := Lib.hid (show w1.heap.size < wB.heap.size from hlB)
    have HTR := Lib.hid (show Tre (fun k => w.heap.size ≤ k ∧ k ≠ w.heap.size ∧ k ≠ w1.heap.size ∧ k < wB.heap.size) wB [(.slice xi li.length ci, .sl li.length (vrsD li)), (.slice xo lo.length co, .sl lo.length (vrsD lo)), (.slice xl lc.length cl, .sl lc.length (vrsD lc))] from fun x hx => (FB.tre x hx).mono (fun k hk _ => ⟨hk.1, hk.2.1 _ (List.mem_cons_self ..), hk.2.1 _ (List.mem_cons_of_mem _ (List.mem_cons_self ..)), hk.2.2⟩))
    have HFB := Lib.hid (FB.only [] (by simp))
    clear hp hg k_ FB hw1 hsrt hlB
    go_wp2_with fail
    go_loopw [] (fun wr => ∃ (f : Nat) (l : List Qe) (S : S4) (xe : Option Addr) (ce : Nat), eqsL4 K.L f l S = (lq, s15) ∧ mS4 K S ≤ f ∧ Fr K w 0 [(w.heap.size, 38, #[.string ⟨#[]⟩, .slice none 0 0, .slice none 0 0, .slice none 0 0, .slice none 0 0, .int .i64 0]), (w1.heap.size, 38, #[.string nm, .slice xi li.length ci, .slice xo lo.length co, .slice xl lc.length cl, .slice xe l.length ce, .int .i64 (ya : Int)])] [] wr S ∧ Tre (fun k => w.heap.size ≤ k ∧ k ≠ w.heap.size ∧ k ≠ w1.heap.size ∧ k < wB.heap.size) wr [(.slice xi li.length ci, .sl li.length (vrsD li)), (.slice xo lo.length co, .sl lo.length (vrsD lo)), (.slice xl lc.length cl, .sl lc.length (vrsD lc))] ∧ OwnD 55 7 wr (wB.heap.size - 1) (.slice xe l.length ce) l.length (qesD l) ∧ Mono4 sl S ∧ l.length ≤ S.k ∧ wB.heap.size ≤ wr.heap.size)
      (fun wr => mea4 K wr)
    case atStart => exact ⟨K.L.length + 1, [], sl, none, 0, HQ0.out.symm, by have := mS4_bound K sl; omega, HFB.out, HTR.out, OwnD.nil _ _ _ _, Mono4.refl _, Nat.zero_le _, Nat.le_refl _⟩
    case round =>
      clear HFB HTR HQ0
      obtain ⟨f, l, S, xe, ce, hR, hf, hF, hT, hO, hm, hks, hsz⟩ := hrel
      have hme := mea4_par hF.par
      obtain ⟨_, p1, p2, _, _, _, _⟩ := hF.par.cells
      have HFe := Lib.hid hF
      have HT := Lib.hid hT
      have HO := Lib.hid hO
      have HMM := Lib.hid hm
      have HKS := Lib.hid hks
      have HKS0 := HKS
      have HSZ := Lib.hid hsz
      have HFu := Lib.hid hf
      have HME0 := HME
      have HME := Lib.hid hme
      by_cases e0 : S.er = 0
      · have d0 : ((S.er : Int) == 0) = true := by simp; omega
        have hmS : 0 < mS4 K S := by unfold mS4; rw [if_pos e0]; have := hF.par.lt; omega
        obtain ⟨f', hf'⟩ : ∃ f', f = f' + 1 := ⟨f - 1, by omega⟩
        have kw := w_any hG _ 0 S hF.par
        have kv := fun W (hp : Par4 K W 0 S) => w_any hG W 0 S hp
        have hst := eqsL4_stop K.L f l S
        have hgo := eqsL4_go K.L f' l S
        rw [(congrArg (fun k => eqsL4 K.L k l S) hf'.symm).trans hR] at hgo
        have hk_n := fun W (hp : Par4 K W 0 S) => name4_any hG W 0 S hp
        have hm_n := Mono4.name K.L S
        have hk1 : (cur4 K.L S).kind = 1 → (name4 K.L S).2.k = S.k + 1 := fun h => by unfold name4; rw [if_pos ⟨e0, h⟩]; rfl
        obtain ⟨n, h_n⟩ : ∃ q, q = name4 K.L S := ⟨_, rfl⟩
        rw [← h_n] at hk_n hm_n hk1
        have hk_t1 := fun W (hp : Par4 K W 0 n.2) => want4_any (⟨#[61]⟩ : ByteArray) hG W 0 n.2 hp
        have hm_t1 := Mono4.want K.L (⟨#[61]⟩ : ByteArray) n.2
        obtain ⟨t1, h_t1⟩ : ∃ q, q = want4 K.L (⟨#[61]⟩ : ByteArray) n.2 := ⟨_, rfl⟩
        rw [← h_t1] at hk_t1 hm_t1
        obtain ⟨t2, h_t2⟩ : ∃ q : S4, q = { t1 with parts := 0 } := ⟨_, rfl⟩
        have hm_t2 : Mono4 t1 t2 := by rw [h_t2]; exact ⟨Nat.le_refl _, fun h => h⟩
        have hk_e := fun W (hp : Par4 K W 0 t2) => exprT_any hG W t2 hp
        obtain ⟨e, h_e⟩ : ∃ q, q = expr4 K.L t2 := ⟨_, rfl⟩
        rw [← h_e] at hk_e
        have hk_t4 := fun W (hp : Par4 K W 0 e.2) => want4_any (⟨#[59]⟩ : ByteArray) hG W 0 e.2 hp
        have hm_t4 := Mono4.want K.L (⟨#[59]⟩ : ByteArray) e.2
        obtain ⟨t4, h_t4⟩ : ∃ q, q = want4 K.L (⟨#[59]⟩ : ByteArray) e.2 := ⟨_, rfl⟩
        rw [← h_t4] at hk_t4 hm_t4
        have heq : eq4 K.L S = (⟨n.1, e.1, (cur4 K.L S).at_⟩, t4) := by
          rw [h_t4]
          exact eq4_of h_n (by rw [h_e, h_t2, h_t1])
        rw [heq] at hgo
        obtain ⟨y, hy⟩ : ∃ y, y = cur4 K.L S := ⟨_, rfl⟩
        rw [← hy] at kw kv hst hgo hk1
        obtain ⟨zk, zt, zn, za⟩ := y
        unfold W4.cells at kw kv
        obtain ⟨nm2, S1⟩ := n
        obtain ⟨xx, S3⟩ := e
        simp only at kw kv hst hgo hk1 hk_t1 hk_t4 hm_t1 hm_t4 hm_n
        have kfk := field4_k (zk : Int) zn (za : Int) zt
        have kfz := field4_a (zk : Int) zn (za : Int) zt
        have KV := Lib.hid kv
        have KN := Lib.hid hk_n
        have KT1 := Lib.hid hk_t1
        have KE := Lib.hid hk_e
        have KT4 := Lib.hid hk_t4
        have HT2 := Lib.hid h_t2
        have HM1 := Lib.hid (hm_n.trans (hm_t1.trans hm_t2))
        have HMZ := Lib.hid (hm_t1.trans hm_t2)
        have HM4 := Lib.hid hm_t4
        have HST := Lib.hid hst
        have HGO := Lib.hid hgo
        have HK1 := Lib.hid hk1
        have HF' := Lib.hid hf'
        have HE0 := Lib.hid e0
        have HR := Lib.hid hR
        clear hF hT hO hm hks hsz hf hme hR hmS e0 kv hst hgo hk_n hk_t1 hk_e hk_t4 hm_n hm_t1 hm_t2 hm_t4 h_n h_t1 h_t2 h_e h_t4 heq hk1 hf' hy
        by_cases ek : zk = 1
        · have d1 : ((zk : Int) == 1) = true := by simp; omega
          have HGo := Lib.hid (HGO.out ⟨HE0.out, ek⟩)
          have HKn := Lib.hid (HK1.out ek)
          clear ek HST HGO HK1 HR
          go_wp2_with fail
          (with_reducible refine kw.mono ?_)
          rintro e wa ⟨rfl, hb⟩
          have F0 := Fr.start HFe.out.par
          have FA := F0.call (F0.par.below hb) (gb_below hb)
          have kw := KV.out _ FA.par
          have HFA := Lib.hid FA
          clear hb F0 FA
          go_wp2_with fail
          (with_reducible refine kw.mono ?_)
          rintro e wb ⟨rfl, hb⟩
          have FB := (HFA.out.call (HFA.out.par.below hb) (gb_below hb)).alloc wb.heap.size rfl 55 #[.string ⟨#[]⟩, .string ⟨#[]⟩, .string ⟨#[]⟩, .int .i64 0, .int .i64 0, .slice none 0 0, .int .i64 (za : Int)]
          have k_ := KN.out _ FB.par
          have HFB := Lib.hid FB
          clear hb FB kw HFA
          go_wp2_with fail
          (with_reducible refine k_.mono ?_)
          rintro e wd ⟨rfl, hp, hg, _⟩
          have F_ := HFB.out.call hp hg
          have cv := cell_of_row wd wb.heap.size 0 _ _ _ (F_.get 0 rfl)
          have fv := frozen_of_row wd wb.heap.size 0 _ _ (F_.get 0 rfl)
          have FD : Fr K wr 0 [(wb.heap.size, 55, #[.string nm2, .string ⟨#[]⟩, .string ⟨#[]⟩, .int .i64 0, .int .i64 0, .slice none 0 0, .int .i64 (za : Int)])] [] (wd.setCell ⟨wb.heap.size, 0, none⟩ (.string nm2)) S1 := F_.cell 0 rfl 0 (.string nm2)
          have k_ := KT1.out _ FD.par
          have HFD := Lib.hid FD
          clear hp hg F_ FD HFB
          go_wp2_with fail
          (with_reducible refine k_.mono ?_)
          rintro e we ⟨rfl, hp, hg, _⟩
          have FE := HFD.out.call hp hg
          have f5 := FE.par.frozen 5
          obtain ⟨_, _, _, _, _, q5, _⟩ := FE.par.cells
          have FE2 := FE.own hG 5 (.int .i64 0) (s' := t2) (d' := 0) (by rw [HT2.out]; rfl) (by rw [HT2.out]; exact FE.par.lt)
          have k_ := KE.out _ FE2.par
          have HFE := Lib.hid FE2
          clear hp hg FE FE2 HFD
          go_wp2_with fail
          (with_reducible refine k_.mono ?_)
          rintro e wf ⟨x, c, rfl, ht, hp, hg, hme⟩
          unfold exV
          simp only at ht hp hme ⊢
          have FF := HFE.out.callT hp hg ht
          have HTH := Lib.hid (there_of_row (n := 5) (o := 1) (FF.get 0 rfl) (by simp))
          have FF2 : Fr K wr 0 [(wb.heap.size, 55, #[.string nm2, .string xx.op, .string xx.name, .int .i64 xx.n, .int .i64 (xx.at_ : Int), .slice x xx.kids.length c, .int .i64 (za : Int)])] [(.slice x xx.kids.length c, .sl xx.kids.length (exsD xx.kids))] (wf.setCells wb.heap.size 1 [.string xx.op, .string xx.name, .int .i64 xx.n, .int .i64 (xx.at_ : Int), .slice x xx.kids.length c]) S3 := ((((FF.cell 0 rfl 1 (.string xx.op)).cell 0 rfl 2 (.string xx.name)).cell 0 rfl 3 (.int .i64 xx.n)).cell 0 rfl 4 (.int .i64 (xx.at_ : Int))).cell 0 rfl 5 (.slice x xx.kids.length c)
          have HMX := Lib.hid hme
          have k_ := KT4.out _ FF2.par
          have HFF := Lib.hid FF2
          clear hp hg FF FF2 HFE ht hme
          go_wp2_with (refine wpList_store_mid rfl 53 (.tmp 70) (.tmp 69) rfl wb.heap.size 1 #[.string xx.op, .string xx.name, .int .i64 xx.n, .int .i64 (xx.at_ : Int), .slice x xx.kids.length c] rfl rfl ?_ HSE.out (e4_one _ _ _ _ _ _ _) ?_; (exact HTH.out))
          (with_reducible refine k_.mono ?_)
          rintro e wg ⟨rfl, hp, hg, _⟩
          have FG := HFF.out.call hp hg
          have OG := HFe.out.call FG.par FG.gb
          have c4 := cell_of_row wg w1.heap.size 4 _ _ _ (OG.get 1 rfl)
          have HLQ := Lib.hid (FG.get 0 rfl)
          have FH := FG.make 55 #[.string nm2, .string xx.op, .string xx.name, .int .i64 xx.n, .int .i64 (xx.at_ : Int), .slice x xx.kids.length c, .int .i64 (za : Int)] wg.heap.size rfl 1 (by decide) (by decide) (qesD [⟨nm2, xx, za⟩]) (by
            rw [qesD_one_]
            exact qeC_rows (e := xx) (FG.inn 0 rfl))
          have HFH := Lib.hid FH
          have OH := HFe.out.call FH.par FH.gb
          have HOH := Lib.hid OH
          have HRH := Lib.hid (HO.out.keptG FH.gb (by have := HFe.out.gp; have := HW1.out; have := HLB.out; omega))
          have HTH2 := Lib.hid (HT.out.grown FH.gb (fun k hk hk' => by injection hk with hk; have := HFe.out.gp; have := hk'.1; omega))
          have HBW := Lib.hid (show wB.heap.size - 1 + 1 ≤ (wg.alloc (.cells #[.string nm2, .string xx.op, .string xx.name, .int .i64 xx.n, .int .i64 (xx.at_ : Int), .slice x xx.kids.length c, .int .i64 (za : Int)] 55)).heap.size by have := FH.gb.size; have := HSZ.out; have := HLB.out; omega)
          have HTR := Lib.hid (FH.out 1 rfl)
          have HOK := Lib.hid (show ∀ k, wr.heap.size ≤ k → wB.heap.size - 1 < k ∧ some k ≠ Value.ownBlock (.slice xe l.length ce) from fun k hk => by
            have := HSZ.out; have := HLB.out
            exact ⟨by omega, fun e => by have := (HO.out.gt k e.symm).2; omega⟩)
          have HNM := Lib.hid (show l.length + 1 ≤ 100000000000 by have := HKS.out; have := HFe.out.par.lt; have := hG.few; omega)
          obtain ⟨i7, hi7, ⟨z7, hz7, hzs7⟩, hs7, hb7⟩ := HIQ.out
          have HI7 := Lib.hid hi7
          have HZ7 := Lib.hid hz7
          have HZS7 := Lib.hid hzs7
          have HS7 := Lib.hid hs7
          have HB7 := Lib.hid hb7
          clear hp hg FG OG FH OH HFF hi7 hz7 hzs7 hs7 hb7
          go_wp2_with (first | (refine wpList_load_row rfl 55 (.tmp 4) rfl wb.heap.size rfl 55 #[.string nm2, .string xx.op, .string xx.name, .int .i64 xx.n, .int .i64 (xx.at_ : Int), .slice x xx.kids.length c, .int .i64 (za : Int)] (0, 0) _ HLQ.out Try.underlying55 rfl HSQ.out ?_) | (refine wpList_appT rfl (.tmp 74) (.tmp 76) 36 rfl i7 z7 96 Try.underlying36 HI7.out HZ7.out HS7.out HB7.out HZS7.out (by decide) (by decide) rfl HRH.out HBW.out wg.heap.size 1 1 rfl (qesD [⟨nm2, xx, za⟩]) (by rw [qesD_len]; rfl) (by decide) HTR.out (qesD_ones _) (fun k hk hl => HOK.out k hk) HNM.out ?_))
          intro v8 w8 hO8 hg8 _
          obtain ⟨l2, hl2⟩ : ∃ q, q = l ++ [⟨nm2, xx, za⟩] := ⟨_, rfl⟩
          have hl2l : l2.length = l.length + 1 := by rw [hl2]; simp
          have hgo := HGo.out
          rw [← qesD_app, ← hl2l, ← hl2] at hO8
          rw [← hl2] at hgo
          obtain ⟨x8, c8, rfl, _, _⟩ := hO8.slice
          have F8 := HOH.out.grow hg8 (fun k hk => by
            have h := (HRH.out.gt k hk).1
            have h1 := HW1.out
            have h2 := HLB.out
            refine ⟨by omega, fun x hx => ?_⟩
            simp only [List.mem_cons, List.not_mem_nil, or_false] at hx
            rcases hx with rfl | rfl <;> (show _ ≠ k; omega))
          have T8 := HTH2.out.grown hg8 (fun k hk hk' => by have h := (HRH.out.gt k hk).1; have h2 := hk'.2.2.2; omega)
          have cV8 := cell_of_row w8 w1.heap.size 4 _ _ _ (F8.get 1 rfl)
          have fV8 := frozen_of_row w8 w1.heap.size 4 _ _ (F8.get 1 rfl)
          have F9 : Fr K w 0 [(w.heap.size, 38, #[.string ⟨#[]⟩, .slice none 0 0, .slice none 0 0, .slice none 0 0, .slice none 0 0, .int .i64 0]), (w1.heap.size, 38, #[.string nm, .slice xi li.length ci, .slice xo lo.length co, .slice xl lc.length cl, .slice x8 l2.length c8, .int .i64 (ya : Int)])] [] (w8.setCell ⟨w1.heap.size, 4, none⟩ (.slice x8 l2.length c8)) t4 := F8.cell 1 rfl 4 _
          have hgs := gb_set w8 w1.heap.size 4 (.slice x8 l2.length c8)
          have HO9 := Lib.hid (hO8.kept hgs (fun k hk => by injection hk with hk; have := HLB.out; omega))
          have HT9 := Lib.hid (T8.grown hgs (fun k hk hk' => by injection hk with hk; exact hk'.2.2.1 hk.symm))
          have HF9 := Lib.hid F9
          have HNX := Lib.hid hgo.symm
          have HMY := Lib.hid (HMM.out.trans (HM1.out.trans (HMX.out.trans HM4.out)))
          have HKY := Lib.hid (show S.k + 1 ≤ t4.k by have h1 := HKn.out; have h2 := HM1.out.k; have h3 := HMX.out.k; have h4 := HM4.out.k; have h5 := HMZ.out.k; omega)
          have HDEC := Lib.hid (show mS4 K t4 < mS4 K S from mS4_lt2 HE0.out HFe.out.par.lt HKY.out)
          have HFL := Lib.hid (show mS4 K t4 ≤ f' by have := HFu.out; have := HF'.out; have := HDEC.out; omega)
          have HLL := Lib.hid (show l2.length ≤ t4.k by have := HKS.out; have := HKY.out; omega)
          have HWW := Lib.hid (show wB.heap.size ≤ (w8.setCell ⟨w1.heap.size, 4, none⟩ (.slice x8 l2.length c8)).heap.size by have h1 := hg8.size; have h2 := hgs.size; have h3 := HBW.out; have h4 := HLB.out; omega)
          clear hO8 hg8 F8 T8 F9 hgs hl2 hl2l hgo HGo HOH HRH HTH2 HTR HOK
          go_wp2_with fail
          refine ⟨⟨f', l2, t4, x8, c8, HNX.out, HFL.out, HF9.out, HT9.out, HO9.out, HMY.out, HLL.out, HWW.out⟩, ?_⟩
          rw [mea4_par HF9.out.par, HME.out]
          exact HDEC.out
        · have d1 : ((zk : Int) == 1) = false := by simp; omega
          obtain ⟨h1, h2⟩ := Prod.mk.inj ((HST.out (fun h => ek h.2)).symm.trans HR.out)
          subst h1 h2
          clear HST HGO HK1 HR ek
          go_wp2_with fail
          (with_reducible refine kw.mono ?_)
          rintro e wa ⟨rfl, hb⟩
          have HFA := Lib.hid (HFe.out.call (HFe.out.par.below hb) (gb_below hb))
          have HOA := Lib.hid (HO.out.below hb)
          have HTA := Lib.hid (HT.out.grown (gb_below hb) (row := some K.gp) (fun k hk hk' => by injection hk with hk; have := HFe.out.gp; have := hk'.1; omega))
          clear hb kw
          have k_ := K_st.out _ HFA.out.par
          go_wp2_with fail
          (with_reducible refine k_.mono ?_)
          rintro e wx ⟨rfl, hp, hg, _⟩
          have HFx := Lib.hid (HFA.out.call hp hg)
          have HOx := Lib.hid (HOA.out.keptG hg (by have := HFA.out.gp; have := HW1.out; have := HLB.out; omega))
          have HTx := Lib.hid (HTA.out.grown hg (fun k hk hk' => by injection hk with hk; have := HFA.out.gp; have := hk'.1; omega))
          clear hp hg k_
          have k_ := K_se.out _ HFx.out.par
          go_wp2_with fail
          (with_reducible refine k_.mono ?_)
          rintro e wy ⟨rfl, hp, hg, _⟩
          have FY := HFx.out.call hp hg
          have OY := HOx.out.keptG hg (by have := HFA.out.gp; have := HW1.out; have := HLB.out; omega)
          have TY := HTx.out.grown hg (fun k hk hk' => by injection hk with hk; have := HFA.out.gp; have := hk'.1; omega)
          have HL := Lib.hid (FY.get 1 rfl)
          have HS := Lib.hid (FY.get 0 rfl)
          have hgr : wy.grownBy (wy.setRow w.heap.size #[.string nm, .slice xi li.length ci, .slice xo lo.length co, .slice xl lc.length cl, .slice xe l.length ce, .int .i64 (ya : Int)]) (some w.heap.size) := ⟨rfl, rfl, rfl, by rw [setRow_size]; exact Nat.le_refl _, fun k _ hk => setRow_other wy w.heap.size k _ (fun e => hk (by rw [e]))⟩
          have HOZ := Lib.hid (OY.kept hgr (fun k hk => by injection hk with hk; have := HW1.out; have := HLB.out; omega))
          have HTZ := Lib.hid (TY.grown hgr (fun k hk hk' => by injection hk with hk; exact hk'.2.1 hk.symm))
          have HFZ := Lib.hid (FY.store 0 rfl #[.string nm, .slice xi li.length ci, .slice xo lo.length co, .slice xl lc.length cl, .slice xe l.length ce, .int .i64 (ya : Int)])
          have HMW := Lib.hid (HMX.out.trans (HMM.out.trans HME0.out))
          have HMV := Lib.hid (HMX1.out.trans (HMM.out.trans HME0.out))
          clear hp hg k_ FY OY TY hgr
          go_wp2_with (first | (refine wpList_load_row rfl 38 (.tmp 3) rfl w1.heap.size rfl 38 #[.string nm, .slice xi li.length ci, .slice xo lo.length co, .slice xl lc.length cl, .slice xe l.length ce, .int .i64 (ya : Int)] (0, 0) _ HL.out Try.underlying38 rfl HSN.out ?_) | (refine wpList_store_row rfl 38 (.tmp 2) (.tmp 83) rfl w.heap.size #[.string nm, .slice xi li.length ci, .slice xo lo.length co, .slice xl lc.length cl, .slice xe l.length ce, .int .i64 (ya : Int)] rfl rfl 38 _ HS.out HSN.out rfl (n4_one _ _ _ _ _ _ _ _ _ _ _ _ _ _) ?_))
          refine bodyPost_ret (v := .agg #[.string nm, .slice xi li.length ci, .slice xo lo.length co, .slice xl lc.length cl, .slice xe l.length ce, .int .i64 (ya : Int)]) (results_cell_row (p := 2) (ty := 38) rfl _ _ w.heap.size 38 _ (0, 0) _ rfl (HFZ.out.get 0 rfl) Try.underlying38 rfl HSN.out) rfl ?_
          exact ⟨xi, ci, xo, co, xl, cl, xe, ce, rfl, (HTZ.out _ (List.mem_cons_self ..)).mono (fun k hk _ => hk.1), (HTZ.out _ (List.mem_cons_of_mem _ (List.mem_cons_self ..))).mono (fun k hk _ => hk.1), (HTZ.out _ (List.mem_cons_of_mem _ (List.mem_cons_of_mem _ (List.mem_cons_self ..)))).mono (fun k hk _ => hk.1), (HOZ.out.ends (by have := HKS0.out; have := HFe.out.par.lt; have := hG.few; omega)).mono (fun k hk _ => by have := HW1.out; have := HLB.out; have : wB.heap.size - 1 < k := hk; show w.heap.size ≤ k; omega), HFZ.out.par, HFZ.out.gb, HMW.out, fun _ => HWG.out.imp (fun e => HMV.out.er e) (fun k => Nat.le_trans k HMV.out.k)⟩
      · have d0 : ((S.er : Int) == 0) = false := by simp; omega
        obtain ⟨h1, h2⟩ := Prod.mk.inj ((eqsL4_stop K.L f l S (fun h => e0 h.1)).symm.trans hR)
        subst h1 h2
        clear hF hT hO hm hks hsz hf hme hR e0
        have k_ := K_st.out _ HFe.out.par
        go_wp2_with fail
        (with_reducible refine k_.mono ?_)
        rintro e wx ⟨rfl, hp, hg, _⟩
        have HFx := Lib.hid (HFe.out.call hp hg)
        have HOx := Lib.hid (HO.out.keptG hg (by have := HFe.out.gp; have := HW1.out; have := HLB.out; omega))
        have HTx := Lib.hid (HT.out.grown hg (fun k hk hk' => by injection hk with hk; have := HFe.out.gp; have := hk'.1; omega))
        clear hp hg k_
        have k_ := K_se.out _ HFx.out.par
        go_wp2_with fail
        (with_reducible refine k_.mono ?_)
        rintro e wy ⟨rfl, hp, hg, _⟩
        have FY := HFx.out.call hp hg
        have OY := HOx.out.keptG hg (by have := HFe.out.gp; have := HW1.out; have := HLB.out; omega)
        have TY := HTx.out.grown hg (fun k hk hk' => by injection hk with hk; have := HFe.out.gp; have := hk'.1; omega)
        have HL := Lib.hid (FY.get 1 rfl)
        have HS := Lib.hid (FY.get 0 rfl)
        have hgr : wy.grownBy (wy.setRow w.heap.size #[.string nm, .slice xi li.length ci, .slice xo lo.length co, .slice xl lc.length cl, .slice xe l.length ce, .int .i64 (ya : Int)]) (some w.heap.size) := ⟨rfl, rfl, rfl, by rw [setRow_size]; exact Nat.le_refl _, fun k _ hk => setRow_other wy w.heap.size k _ (fun e => hk (by rw [e]))⟩
        have HOZ := Lib.hid (OY.kept hgr (fun k hk => by injection hk with hk; have := HW1.out; have := HLB.out; omega))
        have HTZ := Lib.hid (TY.grown hgr (fun k hk hk' => by injection hk with hk; exact hk'.2.1 hk.symm))
        have HFZ := Lib.hid (FY.store 0 rfl #[.string nm, .slice xi li.length ci, .slice xo lo.length co, .slice xl lc.length cl, .slice xe l.length ce, .int .i64 (ya : Int)])
        have HMW := Lib.hid (HMX.out.trans (HMM.out.trans HME0.out))
        have HMV := Lib.hid (HMX1.out.trans (HMM.out.trans HME0.out))
        clear hp hg k_ FY OY TY hgr
        go_wp2_with (first | (refine wpList_load_row rfl 38 (.tmp 3) rfl w1.heap.size rfl 38 #[.string nm, .slice xi li.length ci, .slice xo lo.length co, .slice xl lc.length cl, .slice xe l.length ce, .int .i64 (ya : Int)] (0, 0) _ HL.out Try.underlying38 rfl HSN.out ?_) | (refine wpList_store_row rfl 38 (.tmp 2) (.tmp 83) rfl w.heap.size #[.string nm, .slice xi li.length ci, .slice xo lo.length co, .slice xl lc.length cl, .slice xe l.length ce, .int .i64 (ya : Int)] rfl rfl 38 _ HS.out HSN.out rfl (n4_one _ _ _ _ _ _ _ _ _ _ _ _ _ _) ?_))
        refine bodyPost_ret (v := .agg #[.string nm, .slice xi li.length ci, .slice xo lo.length co, .slice xl lc.length cl, .slice xe l.length ce, .int .i64 (ya : Int)]) (results_cell_row (p := 2) (ty := 38) rfl _ _ w.heap.size 38 _ (0, 0) _ rfl (HFZ.out.get 0 rfl) Try.underlying38 rfl HSN.out) rfl ?_
        exact ⟨xi, ci, xo, co, xl, cl, xe, ce, rfl, (HTZ.out _ (List.mem_cons_self ..)).mono (fun k hk _ => hk.1), (HTZ.out _ (List.mem_cons_of_mem _ (List.mem_cons_self ..))).mono (fun k hk _ => hk.1), (HTZ.out _ (List.mem_cons_of_mem _ (List.mem_cons_of_mem _ (List.mem_cons_self ..)))).mono (fun k hk _ => hk.1), (HOZ.out.ends (by have := HKS0.out; have := HFe.out.par.lt; have := hG.few; omega)).mono (fun k hk _ => by have := HW1.out; have := HLB.out; have : wB.heap.size - 1 < k := hk; show w.heap.size ≤ k; omega), HFZ.out.par, HFZ.out.gb, HMW.out, fun _ => HWG.out.imp (fun e => HMV.out.er e) (fun k => Nat.le_trans k HMV.out.k)⟩
end Go.Proofs.Ytejljfoacbpliaa

namespace Go.Proofs.Ytejljfoacbpliaa
open Go Go.RowKit
theorem below_drewN {B : Nat} {a w : World} (h : Below B a w) (n : Nat) : Below B a (w.drewN n) := ⟨h.os, h.tape, h.output, h.size, h.block⟩
theorem own_below {w w' : World} {base : Nat} {e : TypeId} {s : Nat} {v : Value} {n : Nat} {xs : List Value} (h : w.ownsRow base e s v n xs) (hb : Below w.heap.size w w') : w'.ownsRow base e s v n xs := by
  refine ⟨h.1, ?_⟩
  rcases h.2 with h | ⟨g, cap, cur, e, hg, hgc, h5⟩
  · exact .inl h
  · exact .inr ⟨g, cap, cur, e, hg, (hb.block g (Array.getElem?_eq_some_iff.1 hgc).1).trans hgc, h5⟩
end Go.Proofs.Ytejljfoacbpliaa
