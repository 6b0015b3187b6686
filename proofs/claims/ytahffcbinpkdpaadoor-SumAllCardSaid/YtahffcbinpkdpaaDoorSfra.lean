/-
  What package sum's Frame does.
-/
import Derived.Test.YtahffcbinpkdpaaDoorStak
import Derived.Test.YtahffcbinpkdpaaDoorOrd2
namespace Go.Proofs.YtahffcbinpkdpaaDoor
open Go Go.RowKit

/-- The steps in which a frame comes about. -/
theorem frame_steps (n : Nat) (b : List UInt8) :
    (List.replicate (17 + b.length) (0 : UInt8)).set 0 90 = [90] ++ (List.replicate 4 0 ++ (List.replicate 8 0 ++ (List.replicate 4 0 ++ List.replicate b.length 0))) ∧
    lay ([90] ++ (List.replicate 4 0 ++ (List.replicate 8 0 ++ (List.replicate 4 0 ++ List.replicate b.length 0)))) 1 (low 4 b.length) = [90] ++ (low 4 b.length ++ (List.replicate 8 0 ++ (List.replicate 4 0 ++ List.replicate b.length 0))) ∧
    lay ([90] ++ (low 4 b.length ++ (List.replicate 8 0 ++ (List.replicate 4 0 ++ List.replicate b.length 0)))) 5 (low 8 n) = [90] ++ (low 4 b.length ++ (low 8 n ++ (List.replicate 4 0 ++ List.replicate b.length 0))) ∧
    lay ([90] ++ (low 4 b.length ++ (low 8 n ++ (List.replicate 4 0 ++ List.replicate b.length 0)))) 17 b = [90] ++ (low 4 b.length ++ (low 8 n ++ (List.replicate 4 0 ++ b))) ∧
    sumOf ([90] ++ (low 4 b.length ++ (low 8 n ++ (List.replicate 4 0 ++ b)))) = crc ((low 4 b.length ++ low 8 n) ++ b) ∧
    lay ([90] ++ (low 4 b.length ++ (low 8 n ++ (List.replicate 4 0 ++ b)))) 13 (low 4 (crc ((low 4 b.length ++ low 8 n) ++ b))) = frameOf n b := by
  have z : ∀ k : Nat, (List.replicate k (0 : UInt8)).length = k := fun k => List.length_replicate
  refine ⟨?_, ?_, ?_, ?_, ?_, ?_⟩
  · rw [show 17 + b.length = 1 + (4 + (8 + (4 + b.length))) by omega, ← List.replicate_append_replicate, ← List.replicate_append_replicate, ← List.replicate_append_replicate, ← List.replicate_append_replicate]
    rfl
  · exact lay_at rfl (by rw [z, low_length])
  · rw [← List.append_assoc, lay_at (by simp [low_length]) (by rw [z, low_length]), List.append_assoc]
  · rw [← List.append_assoc, ← List.append_assoc, ← List.append_assoc]
    have h := lay_at (A := [90] ++ low 4 b.length ++ low 8 n ++ List.replicate 4 0) (M := List.replicate b.length 0) (B := []) (m := b) (o := 17) (by simp [low_length]) (z _)
    rw [List.append_nil, List.append_nil] at h
    rw [h]
    simp only [List.append_assoc]
  · unfold sumOf
    have h1 : piece ([90] ++ (low 4 b.length ++ (low 8 n ++ (List.replicate 4 0 ++ b)))) 1 13 = low 4 b.length ++ low 8 n := by
      rw [← List.append_assoc (low 4 _)]
      exact piece_at rfl (by simp [low_length])
    have h2 : ([90] ++ (low 4 b.length ++ (low 8 n ++ (List.replicate 4 0 ++ b)))).drop 17 = b := by
      rw [← List.append_assoc, ← List.append_assoc, ← List.append_assoc]
      exact List.drop_left' (by simp [low_length])
    rw [h1, h2]
  · rw [← List.append_assoc, ← List.append_assoc, lay_at (by simp [low_length]) (by rw [z, low_length])]
    simp only [frameOf, List.append_assoc]

theorem splice_lay (L m : List UInt8) (o : Nat) : splice (Lib.byteCells L) o (Lib.byteCells m) = Lib.byteCells (lay L o m) := by
  simp [splice, lay, Lib.byteCells, List.map_take, List.map_drop]

set_option maxHeartbeats 4000000 in
set_option maxRecDepth 100000 in
theorem Frame_any (n : Nat) (a : Option Addr) (c : Nat) (b : List UInt8) (w : World) (hT : Tab w) (hn : n < 18446744073709551616) (ht : Txt w a b) (hl : b.length ≤ 60000) :
    Calls Tryd.prog 16 #[.int .u64 n, .slice a b.length c] w fun e w' => e = .returned (.slice (some ⟨w.heap.size, 0, none⟩) (17 + b.length) (17 + b.length)) ∧ Blk w' w.heap.size (frameOf n b) ∧ Below w.heap.size w w' := by
  obtain ⟨s1, s2, s3, s4, s5, s6⟩ := frame_steps n b
  obtain ⟨w1, hmk, hB0, hb1⟩ : ∃ w1, (Instr.makeSlice 25 (.int .i64 (17 + (b.length : Int))) (.int .i64 (17 + (b.length : Int)))).run Tryd.prog w = .ok (.slice (some ⟨w.heap.size, 0, none⟩) (17 + b.length) (17 + b.length)) w1 ∧ Blk w1 w.heap.size (List.replicate (17 + b.length) 0) ∧ Below w.heap.size w w1 :=
    ⟨_, run_make_bytes (17 + b.length) (by omega) _ _ (by omega) (by omega) w, heap_alloc_new w _, (Below.refl _ _).alloc (Nat.le_refl _) _⟩
  obtain ⟨G, hG⟩ : ∃ G, G = w.heap.size := ⟨_, rfl⟩
  rw [← hG] at hmk hB0 hb1 ⊢
  have HG := Lib.hid hG
  have hc0 := hB0.cell 0 (by simp; omega)
  have hf0 := hB0.frozen 0
  have hs0 := hB0.set 0 90
  rw [s1] at hs0
  have e90 : ((90 : UInt8).toNat : Int) = 90 := rfl
  rw [e90] at hs0
  obtain ⟨L1, hL1⟩ : ∃ L, L = [90] ++ (List.replicate 4 0 ++ (List.replicate 8 0 ++ (List.replicate 4 0 ++ List.replicate b.length (0 : UInt8)))) := ⟨_, rfl⟩
  rw [← hL1] at hs0 s2
  have hB1 : Blk (w1.setRow G (Lib.byteCells L1).toArray) G L1 := hB0.put L1
  have hb1' : Below G w (w1.setRow G (Lib.byteCells L1).toArray) := below_setRow hb1 (Nat.le_refl _) _
  have z0 : ((List.replicate (17 + b.length) (0 : UInt8))[0]'(by simp; omega)).toNat = 0 := by simp
  rw [z0] at hc0
  have hc0' : w1.cell? ⟨G, 0, none⟩ = some (.int .u8 0) := hc0
  have HS := Lib.hid hs0
  have hlen1 : L1.length = 17 + b.length := by rw [hL1]; simp; omega
  clear hs0 e90 s1 hc0 z0 hB0 hL1 hG
  go_enter Tryd.func16, Tryd.ntmps16
  go_wp2_with fail
  rw [HS.out]
  generalize w1.setRow G (Lib.byteCells L1).toArray = w2 at hB1 hb1'
  refine (put_any G 1 4 _ b.length L1 w2 hB1 (by omega) (by omega) (by omega) (by omega)).mono ?_
  rintro e w3 ⟨rfl, rfl⟩
  rw [s2]
  obtain ⟨L2, hL2⟩ : ∃ L, L = [90] ++ (low 4 b.length ++ (List.replicate 8 0 ++ (List.replicate 4 0 ++ List.replicate b.length (0 : UInt8)))) := ⟨_, rfl⟩
  rw [← hL2] at s3 ⊢
  have hB2 : Blk (w2.setRow G (Lib.byteCells L2).toArray) G L2 := hB1.put L2
  have hb2 : Below G w (w2.setRow G (Lib.byteCells L2).toArray) := below_setRow hb1' (Nat.le_refl _) _
  have hlen2 : L2.length = 17 + b.length := by rw [hL2]; simp [low_length]; omega
  generalize w2.setRow G (Lib.byteCells L2).toArray = w3 at hB2 hb2
  clear hL2 s2 hB1 hb1' hlen1 HS
  go_wp2_with fail
  refine (put_any G 5 8 _ n L2 w3 hB2 (by omega) (by omega) (by omega) hn).mono ?_
  rintro e w4 ⟨rfl, rfl⟩
  rw [s3]
  obtain ⟨L3, hL3⟩ : ∃ L, L = [90] ++ (low 4 b.length ++ (low 8 n ++ (List.replicate 4 0 ++ List.replicate b.length (0 : UInt8)))) := ⟨_, rfl⟩
  rw [← hL3] at s4 ⊢
  have hB3 : Blk (w3.setRow G (Lib.byteCells L3).toArray) G L3 := hB2.put L3
  have hb3 : Below G w (w3.setRow G (Lib.byteCells L3).toArray) := below_setRow hb2 (Nat.le_refl _) _
  have hlen3 : L3.length = 17 + b.length := by rw [hL3]; simp [low_length]; omega
  generalize w3.setRow G (Lib.byteCells L3).toArray = w4 at hB3 hb3
  clear hL3 s3 hB2 hb2 hlen2
  obtain ⟨L4, hL4⟩ : ∃ L, L = [90] ++ (low 4 b.length ++ (low 8 n ++ (List.replicate 4 0 ++ b))) := ⟨_, rfl⟩
  rw [← hL4] at s4 s5 s6
  have hlen4 : L4.length = 17 + b.length := by rw [hL4]; simp [low_length]; omega
  have s4' := splice_lay L3 b 17
  rw [s4] at s4'
  have ht4 : Txt w4 a b := ht.below (by rw [HG.out] at hb3; exact hb3)
  have hT4 : Tab w4 := hT.below hb3 (by rw [HG.out]; exact Nat.le_refl _)
  have g3 : ∀ w5 : World, Blk w5 G L4 → Tab w5 → ∀ W : World, W.heap = w5.heap → Calls Tryd.prog 30 #[.slice (some ⟨G, 0, none⟩) (17 + b.length) (17 + b.length)] W fun e w' => e = .returned (.int .u32 (sumOf L4)) ∧ ∃ m, w' = W.drewN m := by
    intro w5 hB hT5 W hW
    have hBW : Blk W G L4 := by unfold Blk; rw [hW]; exact hB
    have hTW : Tab W := fun r hr => (World.cell?_of_block (w := w5) (a := ⟨1, r, none⟩) (by rw [hW])).trans (hT5 r hr)
    have h := frameSum_any G 0 (17 + b.length) L4 W hTW hBW.txt (by omega) (by omega) (by unfold maxLen; omega)
    rwa [hlen4] at h
  have hS : sumOf L4 < 4294967296 := crc_lt _
  rw [← s5] at s6
  have g4 : ∀ (w5 : World), Blk w5 G L4 → ∀ (W : World) c', W.heap = w5.heap → Calls Tryd.prog 29 #[.slice (some ⟨G, 13, none⟩) 4 c', .int .u64 (sumOf L4)] W fun e w' => e = .returned (.tuple #[]) ∧ w' = W.setRow G (Lib.byteCells (frameOf n b)).toArray := by
    intro w5 hB W c' hW
    have hBW : Blk W G L4 := by unfold Blk; rw [hW]; exact hB
    have h := put_any G 13 4 c' (sumOf L4) L4 W hBW (by omega) (by omega) (by omega) (by omega)
    rwa [s6] at h
  obtain ⟨S, hSe⟩ : ∃ S, S = sumOf L4 := ⟨_, rfl⟩
  rw [← hSe] at g3 g4 hS
  have hfit : 17 + (Lib.byteCells b).length ≤ (Lib.byteCells L3).length := by simp [Lib.byteCells]; omega
  obtain ⟨C3, hC3⟩ : ∃ C, C = Lib.byteCells L3 := ⟨_, rfl⟩
  obtain ⟨CB, hCB⟩ : ∃ C, C = Lib.byteCells b := ⟨_, rfl⟩
  have h1 := byteCells_one b
  have hcells : 0 < CB.length → ∃ ad, a = some ad ∧ ∀ j v, CB[j]? = some v → w4.cell? (ad.add j) = some v := by
    intro hp
    rw [hCB] at hp ⊢
    obtain ⟨bb, o, rfl, _, _⟩ := ht4 (by rintro rfl; simp [Lib.byteCells] at hp)
    exact ⟨_, rfl, fun j v hj => ht4.cells j v hj⟩
  have hCBl : CB.length = b.length := by rw [hCB]; simp [Lib.byteCells]
  rw [← hC3, ← hCB] at s4' hfit
  rw [← hCB] at h1
  have hB3' : w4.heap[G]? = some (.cells C3.toArray 5 (0, 0)) := by rw [hC3]; exact hB3
  have HS4 := Lib.hid s4'
  have HF := Lib.hid hfit
  have HT := Lib.hid hT
  clear s4 s5 s6 s4' hL4 hB3 hC3 hCB hSe ht4 ht hT hlen3 hlen4 hfit
  by_cases hb0 : b.length = 0
  · obtain rfl : b = [] := List.eq_nil_of_length_eq_zero hb0
    simp only [List.length_nil, Nat.add_zero] at *
    go_wp2_with (with_reducible refine wpList_copy_splice rfl (.tmp 26) (.tmp 27) 25 25 rfl 5 Tryd.underlying25 size_byte _ _ 0 0 0 c rfl rfl G 17 C3 5 ?c1 CB ?c2 ?c3 HF.out h1 G w hb3 (Nat.le_refl _) ?_)
    case c1 => exact hB3'
    case c2 => rw [hCBl]; rfl
    case c3 =>
      intro hp
      simp [hCBl] at hp
    intro w5 hg5 hb5
    have hB5 : Blk w5 G L4 := by have h := hg5.out; rw [HS4.out] at h; exact h
    have hT5 : Tab w5 := HT.out.below hb5 (by rw [HG.out]; exact Nat.le_refl _)
    have k3 := g3
    have k4 := g4
    obtain ⟨i0, hi, hz0, hz1, hz2⟩ := info_parts info_byte
    obtain ⟨N, hN⟩ : ∃ N, N = 17 := ⟨_, rfl⟩
    rw [← hN] at k3 ⊢
    have HNn := Lib.hid hN
    clear hg5 g3 g4 hB3' HS4 HF hcells h1 hmk hc0' hf0 hb3 hT4 hCBl hb1 hN
    go_wp2_with fail
    refine wp_region_steps_then (words [wIs (.slice (some ⟨G, 0, none⟩) N N), wIs (.slice (some ⟨G, 13, none⟩) 4 (N - 13)), wIs (.slice (some ⟨G, 0, none⟩) N N), wIs (.int .u32 (S : Int)), wIs (.int .u64 (S : Int))]) w5.heap.size w5 (by kernel_rfl) (Below.refl _ _) (Nat.le_refl _) (words_stable ?stab) rfl rfl rfl (by kernel_rfl) _ rfl ?steps ?last
    case stab =>
      intro f hf
      simp only [List.mem_cons, List.not_mem_nil, or_false] at hf
      rcases hf with rfl | rfl | rfl | rfl | rfl <;> exact stable_is _
    case steps =>
      refine Steps.cons (step_value rfl fun a W hp => ⟨wanted_none rfl, _, _, run_move (.inl rfl), (hp.old 5 rfl), Below.refl _ _⟩) ?_
      refine Steps.cons (step_value rfl fun a W hp => ?_) ?_
      · have f1 : wIs (.slice (some ⟨G, 0, none⟩) N N) (a.tmps.getD 29 undef) W := (hp.on_ 0 rfl rfl rfl).2
        exact ⟨wanted_none rfl, _, _, run_cut rfl rfl rfl Tryd.underlying25 hi hz1 f1 (by decide) (by decide) (by have := HNn.out; omega) (by have := HNn.out; simp; omega), rfl, Below.refl _ _⟩
      refine Steps.cons (step_value rfl fun a W hp => ⟨wanted_none rfl, _, _, run_move (.inl rfl), (hp.old 5 rfl), Below.refl _ _⟩) ?_
      refine Steps.cons (step_enter rfl fun a W hp => ?_) ?_
      · have f1 : wIs (.slice (some ⟨G, 0, none⟩) N N) (a.tmps.getD 31 undef) W := (hp.on_ 2 rfl rfl rfl).2
        refine ⟨wanted_none rfl, 30, _, run_enter1 rfl rfl Tryd.call30, ?_⟩
        show Calls _ _ #[a.tmps.getD 31 undef] W _
        rw [show a.tmps.getD 31 undef = _ from f1]
        have hBW : Blk W G L4 := (hp.below.block G hB5.lt).trans hB5
        have hTW : Tab W := hT5.below hp.below (Nat.le_refl _)
        exact (k3 W hBW hTW W rfl).mono (fun e W' ⟨he, m, hm⟩ => ⟨_, he, rfl, by rw [hm]; exact below_drewN (Below.refl _ _) m⟩)
      refine Steps.cons (step_value rfl fun a W hp => ?_) ?_
      · have f1 : wIs (.int .u32 (S : Int)) (a.tmps.getD 32 undef) W := (hp.on_ 3 rfl rfl rfl).2
        refine ⟨wanted_none rfl, .int .u64 (S : Int), W, run_conv rfl ?_, rfl, Below.refl _ _⟩
        show (convert _ _ (a.tmps.getD 32 undef)).run _ W = _
        rw [show a.tmps.getD 32 undef = _ from f1]
        have hk : Tryd.prog.intKind 23 = .u64 := by simp [Program.intKind, Tryd.underlying23]
        have h := run_convert_int (P := Tryd.prog) W 38 23 .u32 (S : Int) (by rw [Tryd.underlying38]; rfl) (by rw [hk]; exact Tryd.underlying23)
        rw [h, hk, IntKind.wrap_u64, show (S : Int) % 18446744073709551616 = (S : Int) by omega]
      exact Steps.nil
    case last =>
      intro a W hI
      have h30 : a.tmps.getD 30 undef = .slice (some ⟨G, 13, none⟩) 4 (N - 13) := hI.new 1 _ 30 rfl rfl rfl
      have h33 : a.tmps.getD 33 undef = .int .u64 (S : Int) := hI.new 4 _ 33 rfl rfl rfl
      have h5 : a.tmps.getD 5 undef = .slice (some ⟨G, 0, none⟩) N N := hI.old 5 (by simp)
      have hsz : a.tmps.size = 36 := hI.tmps
      have hd : a.defers = [] := hI.defers
      have hBW : Blk W G L4 := (hI.below.block G hB5.lt).trans hB5
      have hbW : Below G w W := hb5.trans (hI.below.mono (by rw [HG.out]; exact hb5.size))
      clear hI
      refine wpOp_of rfl (wanted_none rfl) ?_
      unfold Oper.wp
      rw [run_enter2 rfl rfl Tryd.call29, Oper.upon_enter]
      show Calls _ _ #[a.tmps.getD 30 undef, a.tmps.getD 33 undef] W _
      rw [h30, h33]
      refine (k4 W hBW W _ rfl).mono ?_
      rintro e W' ⟨rfl, rfl⟩
      have hB6 : Blk (W.setRow G (Lib.byteCells (frameOf n [])).toArray) G (frameOf n []) := hBW.put _
      have hb6 : Below G w (W.setRow G (Lib.byteCells (frameOf n [])).toArray) := below_setRow hbW (Nat.le_refl _) _
      generalize W.setRow G (Lib.byteCells (frameOf n [])).toArray = W6 at hB6 hb6
      simp only [Exit.then]
      obtain ⟨a2, ha2⟩ : ∃ a2, a2 = a.put (some 34) (.tuple #[]) := ⟨_, rfl⟩
      have g5 : a2.tmps.getD 5 undef = .slice (some ⟨G, 0, none⟩) N N := by rw [ha2, put_other (by decide)]; exact h5
      have gsz : a2.tmps.size = 36 := by rw [ha2, put_size]; exact hsz
      have gd : a2.defers = [] := by rw [ha2, put_defers]; exact hd
      rw [← ha2]
      clear ha2 h30 h33 h5 hsz hd hBW hbW
      go_wp2_with fail
      refine bodyPost_ret (results_tmp rfl _ _ _) rfl ⟨?_, hB6, hb6⟩
      rw [← HNn.out]
      congr 1
      simp [Array.getD, gsz]
  · go_wp2_with (with_reducible refine wpList_copy_splice rfl (.tmp 26) (.tmp 27) 25 25 rfl 5 Tryd.underlying25 size_byte _ _ b.length b.length b.length c rfl rfl G 17 C3 5 ?c1 CB ?c2 ?c3 HF.out h1 G w hb3 (Nat.le_refl _) ?_)
    case c1 => exact hB3'
    case c2 => simp [hCBl]
    case c3 =>
      intro hp
      exact hcells (by omega)
    intro w5 hg5 hb5
    have hB5 : Blk w5 G L4 := by have h := hg5.out; rw [HS4.out] at h; exact h
    have hT5 : Tab w5 := HT.out.below hb5 (by rw [HG.out]; exact Nat.le_refl _)
    have k3 := g3
    have k4 := g4
    obtain ⟨i0, hi, hz0, hz1, hz2⟩ := info_parts info_byte
    obtain ⟨N, hN⟩ : ∃ N, N = 17 + b.length := ⟨_, rfl⟩
    rw [← hN] at k3 ⊢
    have HNn := Lib.hid hN
    clear hg5 g3 g4 hB3' HS4 HF hcells h1 hmk hc0' hf0 hb3 hT4 hCBl hb1 hN
    go_wp2_with fail
    refine wp_region_steps_then (words [wIs (.slice (some ⟨G, 0, none⟩) N N), wIs (.slice (some ⟨G, 13, none⟩) 4 (N - 13)), wIs (.slice (some ⟨G, 0, none⟩) N N), wIs (.int .u32 (S : Int)), wIs (.int .u64 (S : Int))]) w5.heap.size w5 (by kernel_rfl) (Below.refl _ _) (Nat.le_refl _) (words_stable ?stab) rfl rfl rfl (by kernel_rfl) _ rfl ?steps ?last
    case stab =>
      intro f hf
      simp only [List.mem_cons, List.not_mem_nil, or_false] at hf
      rcases hf with rfl | rfl | rfl | rfl | rfl <;> exact stable_is _
    case steps =>
      refine Steps.cons (step_value rfl fun a W hp => ⟨wanted_none rfl, _, _, run_move (.inl rfl), (hp.old 5 rfl), Below.refl _ _⟩) ?_
      refine Steps.cons (step_value rfl fun a W hp => ?_) ?_
      · have f1 : wIs (.slice (some ⟨G, 0, none⟩) N N) (a.tmps.getD 29 undef) W := (hp.on_ 0 rfl rfl rfl).2
        exact ⟨wanted_none rfl, _, _, run_cut rfl rfl rfl Tryd.underlying25 hi hz1 f1 (by decide) (by decide) (by have := HNn.out; omega) (by have := HNn.out; simp; omega), rfl, Below.refl _ _⟩
      refine Steps.cons (step_value rfl fun a W hp => ⟨wanted_none rfl, _, _, run_move (.inl rfl), (hp.old 5 rfl), Below.refl _ _⟩) ?_
      refine Steps.cons (step_enter rfl fun a W hp => ?_) ?_
      · have f1 : wIs (.slice (some ⟨G, 0, none⟩) N N) (a.tmps.getD 31 undef) W := (hp.on_ 2 rfl rfl rfl).2
        refine ⟨wanted_none rfl, 30, _, run_enter1 rfl rfl Tryd.call30, ?_⟩
        show Calls _ _ #[a.tmps.getD 31 undef] W _
        rw [show a.tmps.getD 31 undef = _ from f1]
        have hBW : Blk W G L4 := (hp.below.block G hB5.lt).trans hB5
        have hTW : Tab W := hT5.below hp.below (Nat.le_refl _)
        exact (k3 W hBW hTW W rfl).mono (fun e W' ⟨he, m, hm⟩ => ⟨_, he, rfl, by rw [hm]; exact below_drewN (Below.refl _ _) m⟩)
      refine Steps.cons (step_value rfl fun a W hp => ?_) ?_
      · have f1 : wIs (.int .u32 (S : Int)) (a.tmps.getD 32 undef) W := (hp.on_ 3 rfl rfl rfl).2
        refine ⟨wanted_none rfl, .int .u64 (S : Int), W, run_conv rfl ?_, rfl, Below.refl _ _⟩
        show (convert _ _ (a.tmps.getD 32 undef)).run _ W = _
        rw [show a.tmps.getD 32 undef = _ from f1]
        have hk : Tryd.prog.intKind 23 = .u64 := by simp [Program.intKind, Tryd.underlying23]
        have h := run_convert_int (P := Tryd.prog) W 38 23 .u32 (S : Int) (by rw [Tryd.underlying38]; rfl) (by rw [hk]; exact Tryd.underlying23)
        rw [h, hk, IntKind.wrap_u64, show (S : Int) % 18446744073709551616 = (S : Int) by omega]
      exact Steps.nil
    case last =>
      intro a W hI
      have h30 : a.tmps.getD 30 undef = .slice (some ⟨G, 13, none⟩) 4 (N - 13) := hI.new 1 _ 30 rfl rfl rfl
      have h33 : a.tmps.getD 33 undef = .int .u64 (S : Int) := hI.new 4 _ 33 rfl rfl rfl
      have h5 : a.tmps.getD 5 undef = .slice (some ⟨G, 0, none⟩) N N := hI.old 5 (by simp)
      have hsz : a.tmps.size = 36 := hI.tmps
      have hd : a.defers = [] := hI.defers
      have hBW : Blk W G L4 := (hI.below.block G hB5.lt).trans hB5
      have hbW : Below G w W := hb5.trans (hI.below.mono (by rw [HG.out]; exact hb5.size))
      clear hI
      refine wpOp_of rfl (wanted_none rfl) ?_
      unfold Oper.wp
      rw [run_enter2 rfl rfl Tryd.call29, Oper.upon_enter]
      show Calls _ _ #[a.tmps.getD 30 undef, a.tmps.getD 33 undef] W _
      rw [h30, h33]
      refine (k4 W hBW W _ rfl).mono ?_
      rintro e W' ⟨rfl, rfl⟩
      have hB6 : Blk (W.setRow G (Lib.byteCells (frameOf n b)).toArray) G (frameOf n b) := hBW.put _
      have hb6 : Below G w (W.setRow G (Lib.byteCells (frameOf n b)).toArray) := below_setRow hbW (Nat.le_refl _) _
      generalize W.setRow G (Lib.byteCells (frameOf n b)).toArray = W6 at hB6 hb6
      simp only [Exit.then]
      obtain ⟨a2, ha2⟩ : ∃ a2, a2 = a.put (some 34) (.tuple #[]) := ⟨_, rfl⟩
      have g5 : a2.tmps.getD 5 undef = .slice (some ⟨G, 0, none⟩) N N := by rw [ha2, put_other (by decide)]; exact h5
      have gsz : a2.tmps.size = 36 := by rw [ha2, put_size]; exact hsz
      have gd : a2.defers = [] := by rw [ha2, put_defers]; exact hd
      rw [← ha2]
      clear ha2 h30 h33 h5 hsz hd hBW hbW
      go_wp2_with fail
      refine bodyPost_ret (results_tmp rfl _ _ _) rfl ⟨?_, hB6, hb6⟩
      rw [← HNn.out]
      congr 1
      simp [Array.getD, gsz]

set_option maxRecDepth 100000 in
theorem Frame_big (n : Int) (a : Option Addr) (k c : Nat) (w : World) (hl : 60000 < k) :
    Calls Tryd.prog 16 #[.int .u64 n, .slice a k c] w fun e w' => e = .returned (.slice none 0 0) ∧ w = w' := by
  go_enter Tryd.func16, Tryd.ntmps16
  go_wp2
  go_ret
  exact ⟨rfl, rfl⟩

end Go.Proofs.YtahffcbinpkdpaaDoor
