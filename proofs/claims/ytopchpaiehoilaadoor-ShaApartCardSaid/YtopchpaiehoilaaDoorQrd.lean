/-
  What the document's own round does: a block's words, its turns, the sum.
-/
import Derived.Test.YtopchpaiehoilaaDoorHmi
import Derived.Test.YtopchpaiehoilaaDoorQtu
namespace Go.Proofs.YtopchpaiehoilaaDoor
open Go Go.RowKit

theorem info_state : (Tryd.prog.info? 37).map (fun i => (i.zero, i.size)) = some (some (.agg (u32s (List.replicate 8 0)).toArray), 8) := by kernel_rfl

/-- What is kept while the words are made: B the first block of the call's own. -/
structure Wd (w : World) (H KA zs8 : Array Value) (blk : List UInt8) (i : Nat) (wr : World) : Prop where
  below : Below w.heap.size w wr
  words : WRow wr (w.heap.size + 3) 38 (wordsOf blk i ++ List.replicate (64 - (wordsOf blk i).length) 0)
  st : wr.heap[w.heap.size]? = some (.cells H 37 (0, 0))
  tab : wr.heap[w.heap.size + 1]? = some (.cells KA 38 (0, 0))
  res : wr.heap[w.heap.size + 2]? = some (.cells zs8 37 (0, 0))

theorem Wd.drew {w : World} {H KA zs8 : Array Value} {blk : List UInt8} {i : Nat} {wr : World} (h : Wd w H KA zs8 blk i wr) : Wd w H KA zs8 blk i wr.drew := ⟨h.below.drew, h.words, h.st, h.tab, h.res⟩
theorem Wd.next {w : World} {H KA zs8 : Array Value} {blk : List UInt8} {i z : Nat} {wr : World} (h : Wd w H KA zs8 blk i wr) (hi : i < 64) (hz : z = nextWord blk (wordsOf blk i) i) : Wd w H KA zs8 blk (i + 1) (wr.setCell ⟨w.heap.size + 3, i, none⟩ (.int .u32 (z : Int))) := by
  refine ⟨h.below.setCell (by simp) _, ?_, ?_, ?_, ?_⟩
  · have h1 := h.words.set i z
    have h2 := snoc_set (wordsOf blk i) 64 z (by rw [wordsOf_length]; omega)
    rw [show (wordsOf blk i).length = i from wordsOf_length _ _] at h2 h1
    rw [h2] at h1
    rw [show wordsOf blk (i + 1) = wordsOf blk i ++ [z] by rw [wordsOf, hz]]
    exact h1
  · rw [heap_setCell_other _ _ _ _ (by simp)]; exact h.st
  · rw [heap_setCell_other _ _ _ _ (by simp)]; exact h.tab
  · rw [heap_setCell_other _ _ _ _ (by simp)]; exact h.res

theorem one8_all (a b c d e f g h : Int) : (#[.int .u32 a, .int .u32 b, .int .u32 c, .int .u32 d, .int .u32 e, .int .u32 f, .int .u32 g, .int .u32 h] : Array Value).all (·.oneCell') = true := by simp [Value.oneCell']
theorem setRow_heap_other (w : World) (g : Nat) (cs : Array Value) (k : Nat) (h : k ≠ g) : (w.setRow g cs).heap[k]? = w.heap[k]? := by
  simp [World.setRow, Array.getElem?_modify, Ne.symm h]

/-- What is kept while the turns are made: g the block of v. -/
structure Tn (w : World) (H KA zs8 : Array Value) (g : Nat) (W : List Nat) (S : S8) (wr : World) : Prop where
  below : Below w.heap.size w wr
  words : WRow wr (w.heap.size + 3) 38 W
  st : wr.heap[w.heap.size]? = some (.cells H 37 (0, 0))
  tab : wr.heap[w.heap.size + 1]? = some (.cells KA 38 (0, 0))
  res : wr.heap[w.heap.size + 2]? = some (.cells zs8 37 (0, 0))
  v : WRow wr g 37 S.list
theorem Tn.drewN {w : World} {H KA zs8 : Array Value} {g : Nat} {W : List Nat} {st : S8} {wr : World} (h : Tn w H KA zs8 g W st wr) (n : Nat) : Tn w H KA zs8 g W st (wr.drewN n) := ⟨below_drewN h.below n, h.words, h.st, h.tab, h.res, h.v⟩
theorem Tn.put {w : World} {H KA zs8 : Array Value} {g : Nat} {W : List Nat} {st st' : S8} {wr : World} (h : Tn w H KA zs8 g W st wr) (hg : w.heap.size + 4 ≤ g) (C : Array Value) (hC : C = (u32s st'.list).toArray) : Tn w H KA zs8 g W st' (wr.setRow g C) := by
  refine ⟨below_setRow h.below (by omega) _, ?_, ?_, ?_, ?_, ?_⟩
  · unfold WRow; rw [setRow_heap_other _ _ _ _ (by omega)]; exact h.words
  · rw [setRow_heap_other _ _ _ _ (by omega)]; exact h.st
  · rw [setRow_heap_other _ _ _ _ (by omega)]; exact h.tab
  · rw [setRow_heap_other _ _ _ _ (by omega)]; exact h.res
  · unfold WRow; rw [setRow_heap _ _ _ _ _ _ h.v, hC]
theorem u32s_all (l : List Nat) : (u32s l).toArray.all (·.oneCell') = true := Array.all_eq_true_iff_forall_mem.2 (fun v hv => u32s_one l v (by simpa using hv))

set_option maxHeartbeats 6000000 in
set_option maxRecDepth 100000 in
theorem round_any (b o c : Nat) (s : S8) (K : List Nat) (blk : List UInt8) (w : World) (hs : s.Ok) (hK : K.length = 64) (hKl : ∀ i, K.getD i 0 < 4294967296) (ht : Txt w (some ⟨b, o, none⟩) blk) (hl : blk.length = 64) :
    Calls Tryd.prog 15 #[.agg (u32s s.list).toArray, .agg (u32s K).toArray, .slice (some ⟨b, o, none⟩) 64 c] w fun e w' => e = .returned (.agg (u32s (mix8 K s blk).list).toArray) ∧ Below w.heap.size w w' := by
  obtain ⟨hz, hsz⟩ := zero_of_info info_words
  obtain ⟨hz8, hsz8⟩ := zero_of_info info_state
  obtain ⟨zs, hzs⟩ : ∃ z, z = (u32s (List.replicate 64 0)).toArray := ⟨_, rfl⟩
  obtain ⟨zs8, hzs8⟩ : ∃ z, z = (u32s (List.replicate 8 0)).toArray := ⟨_, rfl⟩
  rw [← hzs] at hz
  rw [← hzs8] at hz8
  obtain ⟨H, hH⟩ : ∃ H, H = (u32s s.list).toArray := ⟨_, rfl⟩
  obtain ⟨KA, hKA⟩ : ∃ H, H = (u32s K).toArray := ⟨_, rfl⟩
  rw [← hH, ← hKA]
  have hWd : Wd w H KA zs8 blk 0 ((((w.alloc (.cells H 37)).alloc (.cells KA 38)).alloc (.cells zs8 37)).alloc (.cells zs 38)) := by
    have k1 := heap_alloc_new w (.cells H 37)
    have b1 : Below w.heap.size w (w.alloc (.cells H 37)) := (Below.refl _ _).alloc (Nat.le_refl _) _
    have s1 : (w.alloc (.cells H 37)).heap.size = w.heap.size + 1 := by simp
    generalize w.alloc (.cells H 37) = a1 at *
    have k2 := heap_alloc_new a1 (.cells KA 38)
    have b2 : Below a1.heap.size a1 (a1.alloc (.cells KA 38)) := (Below.refl _ _).alloc (Nat.le_refl _) _
    have s2 : (a1.alloc (.cells KA 38)).heap.size = w.heap.size + 2 := by simp [s1]
    generalize a1.alloc (.cells KA 38) = a2 at *
    have k3 := heap_alloc_new a2 (.cells zs8 37)
    have b3 : Below a2.heap.size a2 (a2.alloc (.cells zs8 37)) := (Below.refl _ _).alloc (Nat.le_refl _) _
    have s3 : (a2.alloc (.cells zs8 37)).heap.size = w.heap.size + 3 := by simp [s2]
    generalize a2.alloc (.cells zs8 37) = a3 at *
    have k4 := heap_alloc_new a3 (.cells zs 38)
    have b4 : Below a3.heap.size a3 (a3.alloc (.cells zs 38)) := (Below.refl _ _).alloc (Nat.le_refl _) _
    generalize a3.alloc (.cells zs 38) = a4 at *
    rw [s1] at k2 b2
    rw [s2] at k3 b3
    rw [s3] at k4 b4
    refine ⟨((b1.trans (b2.mono (by omega))).trans (b3.mono (by omega))).trans (b4.mono (by omega)), ?_, ?_, ?_, ?_⟩
    · unfold WRow; rw [k4, hzs]; rfl
    · rw [b4.block _ (by omega), b3.block _ (by omega), b2.block _ (by omega)]; exact k1
    · rw [b4.block _ (by omega), b3.block _ (by omega)]; exact k2
    · rw [b4.block _ (by omega)]; exact k3
  have HZ := Lib.hid hzs
  have HZ8 := Lib.hid hzs8
  have HS := Lib.hid hsz
  have HS8 := Lib.hid hsz8
  have HH := Lib.hid hH
  have HKA := Lib.hid hKA
  have HO := Lib.hid hs
  have HK := Lib.hid hK
  have HKl := Lib.hid hKl
  have HT := Lib.hid ht
  have HL := Lib.hid hl
  have H0 := Lib.hid hWd
  clear hzs hzs8 hsz hsz8 hH hKA hs hK hKl ht hl hWd
  go_enter Tryd.func15, Tryd.ntmps15
  go_wp2
  generalize (((w.alloc (.cells H 37)).alloc (.cells KA 38)).alloc (.cells zs8 37)).alloc (.cells zs 38) = w0 at H0 ⊢
  go_loopw [8] (fun vi wr => ∃ i : Nat, vi = .int .i64 (i : Int) ∧ i ≤ 64 ∧ Wd w H KA zs8 blk i wr)
    (fun vi _ => 64 - (intOf vi).toNat)
  case atStart => exact ⟨0, rfl, by omega, H0.out⟩
  case round =>
    obtain ⟨i, rfl, hi64, hW⟩ := hrel
    clear H0
    by_cases hi : i < 64
    · by_cases h16 : i < 16
      · have HL' := HL.out
        obtain ⟨b', o', e, _, hc⟩ := HT.out.below hW.below (by intro e; rw [e] at HL'; simp at HL')
        simp only [Option.some.injEq, Addr.mk.injEq, and_true] at e
        obtain ⟨rfl, rfl⟩ := e
        have c0 := hc (4 * i) (by omega)
        have c1 := hc (4 * i + 1) (by omega)
        have c2 := hc (4 * i + 2) (by omega)
        have c3 := hc (4 * i + 3) (by omega)
        have hnw : nextWord blk (wordsOf blk i) i = word blk[4 * i].toNat blk[4 * i + 1].toNat blk[4 * i + 2].toNat blk[4 * i + 3].toNat := by
          unfold nextWord
          rw [if_pos h16]
          simp [List.getD, show 4 * i < blk.length by omega, show 4 * i + 1 < blk.length by omega, show 4 * i + 2 < blk.length by omega, show 4 * i + 3 < blk.length by omega]
        have l0 := blk[4 * i].toNat_lt
        have l1 := blk[4 * i + 1].toNat_lt
        have l2 := blk[4 * i + 2].toNat_lt
        have l3 := blk[4 * i + 3].toNat_lt
        generalize blk[4 * i].toNat = x0 at *
        generalize blk[4 * i + 1].toNat = x1 at *
        generalize blk[4 * i + 2].toNat = x2 at *
        generalize blk[4 * i + 3].toNat = x3 at *
        have hold := hW.words.cell i (by simp [wordsOf_length]; omega)
        have hfr := hW.words.frozen i
        have hv : bits .or .u32 (bits .or .u32 (bits .or .u32 (IntKind.u32.wrap (IntKind.u32.wrap (x0 : Int) * 16777216)) (IntKind.u32.wrap (IntKind.u32.wrap (x1 : Int) * 65536))) (IntKind.u32.wrap (IntKind.u32.wrap (x2 : Int) * 256))) (IntKind.u32.wrap (x3 : Int)) = ((nextWord blk (wordsOf blk i) i : Nat) : Int) := by
          rw [hnw]
          exact word_int l0 l1 l2 l3
        obtain ⟨z, hz'⟩ : ∃ z, z = nextWord blk (wordsOf blk i) i := ⟨_, rfl⟩
        rw [← hz'] at hv
        have G1 := Lib.hid hW
        have G2 := Lib.hid hz'
        have m0 : IntKind.i64.wrap (4 * (i : Int)) = 4 * (i : Int) := by rw [IntKind.wrap_i64]; omega
        have m1 : IntKind.i64.wrap (4 * (i : Int) + 1) = 4 * (i : Int) + 1 := by rw [IntKind.wrap_i64]; omega
        have m2 : IntKind.i64.wrap (4 * (i : Int) + 2) = 4 * (i : Int) + 2 := by rw [IntKind.wrap_i64]; omega
        have m3 : IntKind.i64.wrap (4 * (i : Int) + 3) = 4 * (i : Int) + 3 := by rw [IntKind.wrap_i64]; omega
        have p0 : (0 : Int) ≤ 4 * (i : Int) := by omega
        have p1 : (0 : Int) ≤ 4 * (i : Int) + 1 := by omega
        have p2 : (0 : Int) ≤ 4 * (i : Int) + 2 := by omega
        have p3 : (0 : Int) ≤ 4 * (i : Int) + 3 := by omega
        have q0 : 4 * (i : Int) < 64 := by omega
        have q1 : 4 * (i : Int) + 1 < 64 := by omega
        have q2 : 4 * (i : Int) + 2 < 64 := by omega
        have q3 : 4 * (i : Int) + 3 < 64 := by omega
        have t0 : (4 * (i : Int)).toNat = 4 * i := by omega
        have t1 : (4 * (i : Int) + 1).toNat = 4 * i + 1 := by omega
        have t2 : (4 * (i : Int) + 2).toNat = 4 * i + 2 := by omega
        have t3 : (4 * (i : Int) + 3).toNat = 4 * i + 3 := by omega
        clear hc HL' hW hnw hz'
        go_wp2
        go_still_tail 34, (by kernel_rfl)
        change wpList _ _ _ _ _ wr.drew
        have hold' : wr.drew.cell? ⟨w.heap.size + 3, i, none⟩ = _ := hold
        have hfr' : wr.drew.frozen? ⟨w.heap.size + 3, i, none⟩ = _ := hfr
        have hnext := (G1.out.drew).next hi G2.out
        generalize wr.drew = w2 at hold' hfr' hnext ⊢
        have G3 := Lib.hid hnext
        clear hold hfr c0 c1 c2 c3 m0 m1 m2 m3 p0 p1 p2 p3 q0 q1 q2 q3 t0 t1 t2 t3 hnext
        go_wp2
        refine ⟨⟨i + 1, by go_num, by omega, G3.out⟩, ?_⟩
        simp [intOf]; omega
      · obtain ⟨p, rfl⟩ : ∃ p, i = p + 16 := ⟨i - 16, by omega⟩
        have hlen := wordsOf_length blk (p + 16)
        have gl : ∀ j, j < p + 16 → wr.cell? ⟨w.heap.size + 3, j, none⟩ = some (.int .u32 (((wordsOf blk (p + 16)).getD j 0 : Nat) : Int)) := fun j hj => by
          rw [hW.words.cell j (by simp [hlen]; omega), getD_left _ _ _ (by omega)]
        have c16 := gl p (by omega)
        have c15 := gl (p + 1) (by omega)
        have c7 := gl (p + 9) (by omega)
        have c2 := gl (p + 14) (by omega)
        have n16 := wordsOf_lt blk (p + 16) p
        have n15 := wordsOf_lt blk (p + 16) (p + 1)
        have n7 := wordsOf_lt blk (p + 16) (p + 9)
        have n2 := wordsOf_lt blk (p + 16) (p + 14)
        have hnw : nextWord blk (wordsOf blk (p + 16)) (p + 16) = add32 (add32 (add32 ((wordsOf blk (p + 16)).getD p 0) (far ((wordsOf blk (p + 16)).getD (p + 1) 0))) ((wordsOf blk (p + 16)).getD (p + 9) 0)) (near ((wordsOf blk (p + 16)).getD (p + 14) 0)) := by
          unfold nextWord
          rw [if_neg (by omega), show p + 16 - 16 = p by omega, show p + 16 - 15 = p + 1 by omega, show p + 16 - 7 = p + 9 by omega, show p + 16 - 2 = p + 14 by omega]
        obtain ⟨x16, hx16⟩ : ∃ x, x = (wordsOf blk (p + 16)).getD p 0 := ⟨_, rfl⟩
        obtain ⟨x15, hx15⟩ : ∃ x, x = (wordsOf blk (p + 16)).getD (p + 1) 0 := ⟨_, rfl⟩
        obtain ⟨x7, hx7⟩ : ∃ x, x = (wordsOf blk (p + 16)).getD (p + 9) 0 := ⟨_, rfl⟩
        obtain ⟨x2, hx2⟩ : ∃ x, x = (wordsOf blk (p + 16)).getD (p + 14) 0 := ⟨_, rfl⟩
        rw [← hx16] at c16 n16 hnw
        rw [← hx15] at c15 n15 hnw
        rw [← hx7] at c7 n7 hnw
        rw [← hx2] at c2 n2 hnw
        have hold := hW.words.cell (p + 16) (by simp [hlen]; omega)
        have hfr := hW.words.frozen (p + 16)
        have G1 := Lib.hid hW
        have HW := Lib.hid hnw
        have i15 : IntKind.i64.wrap ((p : Int) + 16 - 15) = ((p + 1 : Nat) : Int) := by rw [IntKind.wrap_i64]; omega
        have i2 : IntKind.i64.wrap ((p : Int) + 16 - 2) = ((p + 14 : Nat) : Int) := by rw [IntKind.wrap_i64]; omega
        clear gl hW hnw hx16 hx15 hx7 hx2 hlen
        have h16' : decide ((p : Int) + 16 < 16) = false := by simp; omega
        go_wp2
        go_quiet (fail)
        go_wp2
        obtain ⟨yf, hyf⟩ : ∃ y, y = far x15 := ⟨_, rfl⟩
        obtain ⟨yn, hyn⟩ : ∃ y, y = near x2 := ⟨_, rfl⟩
        have f1 : bits .xor .u32 ((rot 7 x15 : Nat) : Int) ((rot 18 x15 : Nat) : Int) = ((rot 7 x15 ^^^ rot 18 x15 : Nat) : Int) := xor_int (rot_lt n15) (rot_lt n15)
        have f2 : bits .xor .u32 ((rot 7 x15 ^^^ rot 18 x15 : Nat) : Int) ((x15 : Int) / 8) = (yf : Int) := by
          rw [hyf]; exact xor_int (xor_lt (rot_lt n15) (rot_lt n15)) (Nat.lt_of_le_of_lt (Nat.div_le_self _ 8) n15)
        have f3 : bits .xor .u32 ((rot 17 x2 : Nat) : Int) ((rot 19 x2 : Nat) : Int) = ((rot 17 x2 ^^^ rot 19 x2 : Nat) : Int) := xor_int (rot_lt n2) (rot_lt n2)
        have f4 : bits .xor .u32 ((rot 17 x2 ^^^ rot 19 x2 : Nat) : Int) ((x2 : Int) / 1024) = (yn : Int) := by
          rw [hyn]; exact xor_int (xor_lt (rot_lt n2) (rot_lt n2)) (Nat.lt_of_le_of_lt (Nat.div_le_self _ 1024) n2)
        have hnw := HW.out
        rw [← hyf, ← hyn] at hnw
        obtain ⟨s1, hs1⟩ : ∃ y, y = add32 x16 yf := ⟨_, rfl⟩
        obtain ⟨s2, hs2⟩ : ∃ y, y = add32 s1 x7 := ⟨_, rfl⟩
        obtain ⟨s3, hs3⟩ : ∃ y, y = add32 s2 yn := ⟨_, rfl⟩
        have g1 : IntKind.u32.wrap ((x16 : Int) + (yf : Int)) = (s1 : Int) := by rw [hs1]; exact add_int _ _
        have g2 : IntKind.u32.wrap ((s1 : Int) + (x7 : Int)) = (s2 : Int) := by rw [hs2]; exact add_int _ _
        have g3 : IntKind.u32.wrap ((s2 : Int) + (yn : Int)) = (s3 : Int) := by rw [hs3]; exact add_int _ _
        rw [← hs1, ← hs2, ← hs3] at hnw
        have HN := Lib.hid hnw
        obtain ⟨rA, hrA⟩ : ∃ r, r = rot 7 x15 := ⟨_, rfl⟩
        obtain ⟨rB, hrB⟩ : ∃ r, r = rot 18 x15 := ⟨_, rfl⟩
        obtain ⟨rC, hrC⟩ : ∃ r, r = rot 17 x2 := ⟨_, rfl⟩
        obtain ⟨rD, hrD⟩ : ∃ r, r = rot 19 x2 := ⟨_, rfl⟩
        have q7 : ∀ W, Calls Tryd.prog 20 #[.int .u32 x15, .int .u64 7] W fun e w' => e = .returned (.int .u32 rA) ∧ w' = W := fun W => by rw [hrA]; exact (turn_any 7 x15 W (by decide) (by decide) n15).mono fun _ _ h => ⟨h.1, h.2.symm⟩
        have q18 : ∀ W, Calls Tryd.prog 20 #[.int .u32 x15, .int .u64 18] W fun e w' => e = .returned (.int .u32 rB) ∧ w' = W := fun W => by rw [hrB]; exact (turn_any 18 x15 W (by decide) (by decide) n15).mono fun _ _ h => ⟨h.1, h.2.symm⟩
        have q17 : ∀ W, Calls Tryd.prog 20 #[.int .u32 x2, .int .u64 17] W fun e w' => e = .returned (.int .u32 rC) ∧ w' = W := fun W => by rw [hrC]; exact (turn_any 17 x2 W (by decide) (by decide) n2).mono fun _ _ h => ⟨h.1, h.2.symm⟩
        have q19 : ∀ W, Calls Tryd.prog 20 #[.int .u32 x2, .int .u64 19] W fun e w' => e = .returned (.int .u32 rD) ∧ w' = W := fun W => by rw [hrD]; exact (turn_any 19 x2 W (by decide) (by decide) n2).mono fun _ _ h => ⟨h.1, h.2.symm⟩
        rw [← hrA, ← hrB] at f1
        rw [← hrA, ← hrB] at f2
        rw [← hrC, ← hrD] at f3
        rw [← hrC, ← hrD] at f4
        obtain ⟨tA, htA⟩ : ∃ t, t = rA ^^^ rB := ⟨_, rfl⟩
        obtain ⟨tC, htC⟩ : ∃ t, t = rC ^^^ rD := ⟨_, rfl⟩
        rw [← htA] at f1 f2
        rw [← htC] at f3 f4
        clear hnw hs1 hs2 hs3 hyf hyn hrA hrB hrC hrD htA htC
        have G2 : Wd w H KA zs8 blk (p + 16) (wr.drewN nq) := ⟨below_drewN G1.out.below nq, G1.out.words, G1.out.st, G1.out.tab, G1.out.res⟩
        have G3 := Lib.hid G2
        have c16' : (wr.drewN nq).cell? ⟨w.heap.size + 3, p, none⟩ = _ := c16
        have c7' : (wr.drewN nq).cell? ⟨w.heap.size + 3, p + 9, none⟩ = _ := c7
        have hold' : (wr.drewN nq).cell? ⟨w.heap.size + 3, p + 16, none⟩ = _ := hold
        have hfr' : (wr.drewN nq).frozen? ⟨w.heap.size + 3, p + 16, none⟩ = _ := hfr
        clear G1 G2 hold hfr c16 c15 c7 c2 i15 i2
        generalize wr.drewN nq = w2 at c16' c7' hold' hfr' G3 ⊢
        have i16 : IntKind.i64.wrap (p : Int) = (p : Int) := by rw [IntKind.wrap_i64]; omega
        have i7 : IntKind.i64.wrap ((p : Int) + 16 - 7) = ((p + 9 : Nat) : Int) := by rw [IntKind.wrap_i64]; omega
        have j16 : IntKind.i64.wrap ((p : Int) + 16 - 16) = (p : Int) := by rw [IntKind.wrap_i64]; omega
        have b1 : (0 : Int) ≤ (p : Int) := by omega
        have b2 : (p : Int) < 64 := by omega
        have b3 : (p : Int) + 9 < 64 := by omega
        have b4 : (p : Int) + 16 < 64 := by omega
        have b5 : (0 : Int) ≤ (p : Int) + 9 := by omega
        have b6 : (0 : Int) ≤ (p : Int) + 16 := by omega
        have t9 : ((p : Int) + 9).toNat = p + 9 := by omega
        have t16 : ((p : Int) + 16).toNat = p + 16 := by omega
        refine wp_region_still_tail 28 (by kernel_rfl) (by kernel_rfl) ?_
        simp only [List.take_succ_cons, List.take_zero, List.drop_succ_cons, List.drop_zero]
        iterate 6 still_step
        still_call (q7 _)
        still_step
        still_call (q18 _)
        iterate 11 still_step
        still_call (q17 _)
        still_step
        still_call (q19 _)
        iterate 5 still_step
        refine wpStill_nil ?_
        clear j16 b1 b2 b3 b4 b5 b6 t9 t16
        change wpList _ _ _ _ _ w2.drew
        have hold2 : w2.drew.cell? ⟨w.heap.size + 3, p + 16, none⟩ = _ := hold'
        have hfr2 : w2.drew.frozen? ⟨w.heap.size + 3, p + 16, none⟩ = _ := hfr'
        have hnext := (G3.out.drew).next hi HN.out.symm
        generalize w2.drew = w3 at hold2 hfr2 hnext ⊢
        have G4 := Lib.hid hnext
        clear hnext hold' hfr' c16' c7' i16 i7
        go_wp2
        refine ⟨⟨p + 16 + 1, by go_num, by omega, G4.out⟩, ?_⟩
        simp [intOf]; omega
    · obtain rfl : i = 64 := by omega
      clear hi hi64
      have hw64 : WRow wr (w.heap.size + 3) 38 (wordsOf blk 64) := by
        have h := hW.words
        rw [wordsOf_length, Nat.sub_self, List.replicate_zero, List.append_nil] at h
        exact h
      have hszH : (Tryd.prog.info? 37).map (·.size) = some H.size := by rw [HS8.out, HH.out]; simp [u32s_length, S8.list]
      have hzz : zs8.size = H.size := by
        have h := congrArg Array.size HZ8.out
        rw [h, HH.out]; simp [u32s_length, S8.list]
      have hone : H.all (·.oneCell') = true := by rw [HH.out]; exact u32s_all _
      have hst := hW.st
      have hnew : (wr.alloc (.cells zs8 37)).heap[wr.heap.size]? = some (.cells zs8 37 (0, 0)) := heap_alloc_new wr _
      have hbig : w.heap.size + 4 ≤ wr.heap.size := hw64.lt
      have R0 := Lib.hid hst
      have R1 := Lib.hid hnew
      have R2 := Lib.hid hszH
      have R3 := Lib.hid hzz
      have R4 := Lib.hid hone
      have R5 := Lib.hid hW
      have R6 := Lib.hid hw64
      clear hst hnew hszH hzz hone hW hw64
      go_wp2_with (first | (refine wpList_load_row rfl 37 (.tmp 3) rfl w.heap.size rfl 37 H (0, 0) _ R0.out Tryd.underlying37 rfl R2.out ?_) | (refine wpList_store_row rfl 37 (.tmp 11) (.tmp 96) rfl wr.heap.size H rfl rfl 37 zs8 R1.out R2.out R3.out R4.out ?_))
      have hT0 : Tn w H KA zs8 wr.heap.size (wordsOf blk 64) s ((wr.alloc (.cells zs8 37)).setRow wr.heap.size H) := by
        have hb : Below wr.heap.size wr (wr.alloc (.cells zs8 37)) := (Below.refl _ _).alloc (Nat.le_refl _) _
        refine ⟨below_setRow (R5.out.below.alloc R5.out.below.size _) R5.out.below.size _, ?_, ?_, ?_, ?_, ?_⟩
        · unfold WRow; rw [setRow_heap_other _ _ _ _ (by omega), hb.block _ (by omega)]; exact R6.out
        · rw [setRow_heap_other _ _ _ _ (by omega), hb.block _ (by omega)]; exact R5.out.st
        · rw [setRow_heap_other _ _ _ _ (by omega), hb.block _ (by omega)]; exact R5.out.tab
        · rw [setRow_heap_other _ _ _ _ (by omega), hb.block _ (by omega)]; exact R5.out.res
        · unfold WRow; rw [setRow_heap _ _ _ _ _ _ R1.out, HH.out]
      generalize (wr.alloc (.cells zs8 37)).setRow wr.heap.size H = w3 at hT0 ⊢
      obtain ⟨g, hg⟩ : ∃ g, g = wr.heap.size := ⟨_, rfl⟩
      rw [← hg] at hT0 hbig ⊢
      have T0 := Lib.hid hT0
      clear hg hT0 R0 R1 R5 R6
      have hwl := wordsOf_lt blk 64
      have hwn := wordsOf_length blk 64
      obtain ⟨WL, hWL⟩ : ∃ W, W = wordsOf blk 64 := ⟨_, rfl⟩
      rw [← hWL] at T0 hwl hwn
      have HWL := Lib.hid hWL
      have HWl := Lib.hid hwl
      have HWn := Lib.hid hwn
      clear hWL hwl hwn hz hz8
      go_loopw [12] (fun vi wr => ∃ n : Nat, vi = .int .i64 (n : Int) ∧ n ≤ 64 ∧ Tn w H KA zs8 g WL (runs K WL s n) wr)
        (fun vi _ => 64 - (intOf vi).toNat)
      case atStart => exact ⟨0, rfl, by omega, T0.out⟩
      case round =>
        obtain ⟨n, rfl, hn64, hT⟩ := hrel
        clear T0
        by_cases hn : n < 64
        · have hok := runs_ok HO.out K WL n
          have hsucc : runs K WL s (n + 1) = turn8 (runs K WL s n) (K.getD n 0) (WL.getD n 0) := rfl
          generalize runs K WL s n = st at hok hsucc hT
          have lW := HWl.out n
          have lK := HKl.out n
          have cK : wr.cell? ⟨w.heap.size + 1, n, none⟩ = some (.int .u32 ((K.getD n 0 : Nat) : Int)) := by
            have h := hT.tab
            rw [HKA.out] at h
            exact WRow.cell (w := wr) (g := w.heap.size + 1) (t := 38) (l := K) h n (by rw [HK.out]; exact hn)
          have cW := hT.words.cell n (by rw [HWn.out]; exact hn)
          obtain ⟨Kn, hKn⟩ : ∃ z, z = K.getD n 0 := ⟨_, rfl⟩
          obtain ⟨Wn, hWn⟩ : ∃ z, z = WL.getD n 0 := ⟨_, rfl⟩
          rw [← hKn] at cK lK hsucc
          rw [← hWn] at cW lW hsucc
          obtain ⟨xa, xb, xc, xd, xe, xf, xg, xh⟩ := st
          obtain ⟨la, lb, lc, ld, le, lf, lg, lh⟩ := hok
          dsimp only at la lb lc ld le lf lg lh
          clear hKn hWn
          have c0 : wr.cell? ⟨g, 0, none⟩ = some (Value.int .u32 (xa : Int)) := hT.v.cell 0 (show 0 < 8 by decide)
          have c1 : wr.cell? ⟨g, 1, none⟩ = some (Value.int .u32 (xb : Int)) := hT.v.cell 1 (show 1 < 8 by decide)
          have c2 : wr.cell? ⟨g, 2, none⟩ = some (Value.int .u32 (xc : Int)) := hT.v.cell 2 (show 2 < 8 by decide)
          have c3 : wr.cell? ⟨g, 3, none⟩ = some (Value.int .u32 (xd : Int)) := hT.v.cell 3 (show 3 < 8 by decide)
          have c4 : wr.cell? ⟨g, 4, none⟩ = some (Value.int .u32 (xe : Int)) := hT.v.cell 4 (show 4 < 8 by decide)
          have c5 : wr.cell? ⟨g, 5, none⟩ = some (Value.int .u32 (xf : Int)) := hT.v.cell 5 (show 5 < 8 by decide)
          have c6 : wr.cell? ⟨g, 6, none⟩ = some (Value.int .u32 (xg : Int)) := hT.v.cell 6 (show 6 < 8 by decide)
          have c7 : wr.cell? ⟨g, 7, none⟩ = some (Value.int .u32 (xh : Int)) := hT.v.cell 7 (show 7 < 8 by decide)
          obtain ⟨rA, h_rA⟩ : ∃ z, z = rot 6 xe := ⟨_, rfl⟩
          have l_rA : rA < 4294967296 := by rw [h_rA]; exact rot_lt le
          have q_rA : ∀ W, Calls Tryd.prog 20 #[.int .u32 xe, .int .u64 6] W fun e w' => e = .returned (.int .u32 rA) ∧ w' = W := fun W => by rw [h_rA]; exact (turn_any 6 xe W (by decide) (by decide) le).mono fun _ _ h => ⟨h.1, h.2.symm⟩
          obtain ⟨rB, h_rB⟩ : ∃ z, z = rot 11 xe := ⟨_, rfl⟩
          have l_rB : rB < 4294967296 := by rw [h_rB]; exact rot_lt le
          have q_rB : ∀ W, Calls Tryd.prog 20 #[.int .u32 xe, .int .u64 11] W fun e w' => e = .returned (.int .u32 rB) ∧ w' = W := fun W => by rw [h_rB]; exact (turn_any 11 xe W (by decide) (by decide) le).mono fun _ _ h => ⟨h.1, h.2.symm⟩
          obtain ⟨rC, h_rC⟩ : ∃ z, z = rot 25 xe := ⟨_, rfl⟩
          have l_rC : rC < 4294967296 := by rw [h_rC]; exact rot_lt le
          have q_rC : ∀ W, Calls Tryd.prog 20 #[.int .u32 xe, .int .u64 25] W fun e w' => e = .returned (.int .u32 rC) ∧ w' = W := fun W => by rw [h_rC]; exact (turn_any 25 xe W (by decide) (by decide) le).mono fun _ _ h => ⟨h.1, h.2.symm⟩
          obtain ⟨t1, h_t1⟩ : ∃ z, z = rA ^^^ rB := ⟨_, rfl⟩
          have l_t1 : t1 < 4294967296 := by rw [h_t1]; exact xor_lt l_rA l_rB
          have e_t1 : bits .xor .u32 (rA : Int) (rB : Int) = (t1 : Int) := by rw [h_t1]; exact xor_int l_rA l_rB
          obtain ⟨hi_, h_hi_⟩ : ∃ z, z = t1 ^^^ rC := ⟨_, rfl⟩
          have l_hi_ : hi_ < 4294967296 := by rw [h_hi_]; exact xor_lt l_t1 l_rC
          have e_hi_ : bits .xor .u32 (t1 : Int) (rC : Int) = (hi_ : Int) := by rw [h_hi_]; exact xor_int l_t1 l_rC
          obtain ⟨s1, h_s1⟩ : ∃ z, z = add32 xh hi_ := ⟨_, rfl⟩
          have l_s1 : s1 < 4294967296 := by rw [h_s1]; exact add32_lt _ _
          have e_s1 : ((xh : Int) + (hi_ : Int)) % 4294967296 = (s1 : Int) := by rw [h_s1]; exact add_int' _ _
          have f_s1 : IntKind.u32.wrap ((xh : Int) + (hi_ : Int)) = (s1 : Int) := by rw [h_s1]; exact add_int _ _
          obtain ⟨p1, h_p1⟩ : ∃ z, z = xe &&& xf := ⟨_, rfl⟩
          have l_p1 : p1 < 4294967296 := by rw [h_p1]; exact and_lt le
          have e_p1 : bits .and .u32 (xe : Int) (xf : Int) = (p1 : Int) := by rw [h_p1]; exact u32_and_nat _ _ le lf
          obtain ⟨ne, h_ne⟩ : ∃ z, z = 4294967295 ^^^ xe := ⟨_, rfl⟩
          have l_ne : ne < 4294967296 := by rw [h_ne]; exact xor_lt (by decide) le
          have e_ne : bits .xor .u32 IntKind.u32.max (xe : Int) = (ne : Int) := by rw [h_ne]; exact xor_int (a := 4294967295) (by decide) le
          have f_ne : bits .xor .u32 (if IntKind.u32.signed = true then -1 else IntKind.u32.max) (xe : Int) = (ne : Int) := e_ne
          obtain ⟨p2, h_p2⟩ : ∃ z, z = ne &&& xg := ⟨_, rfl⟩
          have l_p2 : p2 < 4294967296 := by rw [h_p2]; exact and_lt l_ne
          have e_p2 : bits .and .u32 (ne : Int) (xg : Int) = (p2 : Int) := by rw [h_p2]; exact u32_and_nat _ _ l_ne lg
          obtain ⟨cc, h_cc⟩ : ∃ z, z = p1 ^^^ p2 := ⟨_, rfl⟩
          have l_cc : cc < 4294967296 := by rw [h_cc]; exact xor_lt l_p1 l_p2
          have e_cc : bits .xor .u32 (p1 : Int) (p2 : Int) = (cc : Int) := by rw [h_cc]; exact xor_int l_p1 l_p2
          obtain ⟨s2, h_s2⟩ : ∃ z, z = add32 s1 cc := ⟨_, rfl⟩
          have l_s2 : s2 < 4294967296 := by rw [h_s2]; exact add32_lt _ _
          have e_s2 : ((s1 : Int) + (cc : Int)) % 4294967296 = (s2 : Int) := by rw [h_s2]; exact add_int' _ _
          have f_s2 : IntKind.u32.wrap ((s1 : Int) + (cc : Int)) = (s2 : Int) := by rw [h_s2]; exact add_int _ _
          obtain ⟨s3, h_s3⟩ : ∃ z, z = add32 s2 Kn := ⟨_, rfl⟩
          have l_s3 : s3 < 4294967296 := by rw [h_s3]; exact add32_lt _ _
          have e_s3 : ((s2 : Int) + (Kn : Int)) % 4294967296 = (s3 : Int) := by rw [h_s3]; exact add_int' _ _
          have f_s3 : IntKind.u32.wrap ((s2 : Int) + (Kn : Int)) = (s3 : Int) := by rw [h_s3]; exact add_int _ _
          obtain ⟨s4, h_s4⟩ : ∃ z, z = add32 s3 Wn := ⟨_, rfl⟩
          have l_s4 : s4 < 4294967296 := by rw [h_s4]; exact add32_lt _ _
          have e_s4 : ((s3 : Int) + (Wn : Int)) % 4294967296 = (s4 : Int) := by rw [h_s4]; exact add_int' _ _
          have f_s4 : IntKind.u32.wrap ((s3 : Int) + (Wn : Int)) = (s4 : Int) := by rw [h_s4]; exact add_int _ _
          obtain ⟨rD, h_rD⟩ : ∃ z, z = rot 2 xa := ⟨_, rfl⟩
          have l_rD : rD < 4294967296 := by rw [h_rD]; exact rot_lt la
          have q_rD : ∀ W, Calls Tryd.prog 20 #[.int .u32 xa, .int .u64 2] W fun e w' => e = .returned (.int .u32 rD) ∧ w' = W := fun W => by rw [h_rD]; exact (turn_any 2 xa W (by decide) (by decide) la).mono fun _ _ h => ⟨h.1, h.2.symm⟩
          obtain ⟨rE, h_rE⟩ : ∃ z, z = rot 13 xa := ⟨_, rfl⟩
          have l_rE : rE < 4294967296 := by rw [h_rE]; exact rot_lt la
          have q_rE : ∀ W, Calls Tryd.prog 20 #[.int .u32 xa, .int .u64 13] W fun e w' => e = .returned (.int .u32 rE) ∧ w' = W := fun W => by rw [h_rE]; exact (turn_any 13 xa W (by decide) (by decide) la).mono fun _ _ h => ⟨h.1, h.2.symm⟩
          obtain ⟨rF, h_rF⟩ : ∃ z, z = rot 22 xa := ⟨_, rfl⟩
          have l_rF : rF < 4294967296 := by rw [h_rF]; exact rot_lt la
          have q_rF : ∀ W, Calls Tryd.prog 20 #[.int .u32 xa, .int .u64 22] W fun e w' => e = .returned (.int .u32 rF) ∧ w' = W := fun W => by rw [h_rF]; exact (turn_any 22 xa W (by decide) (by decide) la).mono fun _ _ h => ⟨h.1, h.2.symm⟩
          obtain ⟨t2, h_t2⟩ : ∃ z, z = rD ^^^ rE := ⟨_, rfl⟩
          have l_t2 : t2 < 4294967296 := by rw [h_t2]; exact xor_lt l_rD l_rE
          have e_t2 : bits .xor .u32 (rD : Int) (rE : Int) = (t2 : Int) := by rw [h_t2]; exact xor_int l_rD l_rE
          obtain ⟨lo, h_lo⟩ : ∃ z, z = t2 ^^^ rF := ⟨_, rfl⟩
          have l_lo : lo < 4294967296 := by rw [h_lo]; exact xor_lt l_t2 l_rF
          have e_lo : bits .xor .u32 (t2 : Int) (rF : Int) = (lo : Int) := by rw [h_lo]; exact xor_int l_t2 l_rF
          obtain ⟨m1, h_m1⟩ : ∃ z, z = xa &&& xb := ⟨_, rfl⟩
          have l_m1 : m1 < 4294967296 := by rw [h_m1]; exact and_lt la
          have e_m1 : bits .and .u32 (xa : Int) (xb : Int) = (m1 : Int) := by rw [h_m1]; exact u32_and_nat _ _ la lb
          obtain ⟨m2, h_m2⟩ : ∃ z, z = xa &&& xc := ⟨_, rfl⟩
          have l_m2 : m2 < 4294967296 := by rw [h_m2]; exact and_lt la
          have e_m2 : bits .and .u32 (xa : Int) (xc : Int) = (m2 : Int) := by rw [h_m2]; exact u32_and_nat _ _ la lc
          obtain ⟨m3, h_m3⟩ : ∃ z, z = m1 ^^^ m2 := ⟨_, rfl⟩
          have l_m3 : m3 < 4294967296 := by rw [h_m3]; exact xor_lt l_m1 l_m2
          have e_m3 : bits .xor .u32 (m1 : Int) (m2 : Int) = (m3 : Int) := by rw [h_m3]; exact xor_int l_m1 l_m2
          obtain ⟨m4, h_m4⟩ : ∃ z, z = xb &&& xc := ⟨_, rfl⟩
          have l_m4 : m4 < 4294967296 := by rw [h_m4]; exact and_lt lb
          have e_m4 : bits .and .u32 (xb : Int) (xc : Int) = (m4 : Int) := by rw [h_m4]; exact u32_and_nat _ _ lb lc
          obtain ⟨mj, h_mj⟩ : ∃ z, z = m3 ^^^ m4 := ⟨_, rfl⟩
          have l_mj : mj < 4294967296 := by rw [h_mj]; exact xor_lt l_m3 l_m4
          have e_mj : bits .xor .u32 (m3 : Int) (m4 : Int) = (mj : Int) := by rw [h_mj]; exact xor_int l_m3 l_m4
          obtain ⟨s5, h_s5⟩ : ∃ z, z = add32 lo mj := ⟨_, rfl⟩
          have l_s5 : s5 < 4294967296 := by rw [h_s5]; exact add32_lt _ _
          have e_s5 : ((lo : Int) + (mj : Int)) % 4294967296 = (s5 : Int) := by rw [h_s5]; exact add_int' _ _
          have f_s5 : IntKind.u32.wrap ((lo : Int) + (mj : Int)) = (s5 : Int) := by rw [h_s5]; exact add_int _ _
          obtain ⟨na, h_na⟩ : ∃ z, z = add32 s4 s5 := ⟨_, rfl⟩
          have l_na : na < 4294967296 := by rw [h_na]; exact add32_lt _ _
          have e_na : ((s4 : Int) + (s5 : Int)) % 4294967296 = (na : Int) := by rw [h_na]; exact add_int' _ _
          have f_na : IntKind.u32.wrap ((s4 : Int) + (s5 : Int)) = (na : Int) := by rw [h_na]; exact add_int _ _
          obtain ⟨nd, h_nd⟩ : ∃ z, z = add32 xd s4 := ⟨_, rfl⟩
          have l_nd : nd < 4294967296 := by rw [h_nd]; exact add32_lt _ _
          have e_nd : ((xd : Int) + (s4 : Int)) % 4294967296 = (nd : Int) := by rw [h_nd]; exact add_int' _ _
          have f_nd : IntKind.u32.wrap ((xd : Int) + (s4 : Int)) = (nd : Int) := by rw [h_nd]; exact add_int _ _
          have hnext : turn8 ⟨xa, xb, xc, xd, xe, xf, xg, xh⟩ Kn Wn = ⟨na, xa, xb, xc, nd, xe, xf, xg⟩ := by rw [h_nd, h_na, h_s5, h_mj, h_m4, h_m3, h_m2, h_m1, h_lo, h_t2, h_rF, h_rE, h_rD, h_s4, h_s3, h_s2, h_cc, h_p2, h_ne, h_p1, h_s1, h_hi_, h_t1, h_rC, h_rB, h_rA]; rfl
          rw [hnext] at hsucc
          have HX := Lib.hid hsucc
          have G0 := Lib.hid hT
          clear hsucc hnext hT h_nd h_na h_s5 h_mj h_m4 h_m3 h_m2 h_m1 h_lo h_t2 h_rF h_rE h_rD h_s4 h_s3 h_s2 h_cc h_p2 h_ne h_p1 h_s1 h_hi_ h_t1 h_rC h_rB h_rA
          have nb0 : (0 : Int) ≤ (n : Int) := by omega
          have nb1 : (n : Int) < 64 := by omega
          go_wp2
          go_quiet (fail)
          go_wp2
          have G1 := Lib.hid (G0.out.drewN nq)
          have cK' : (wr.drewN nq).cell? ⟨w.heap.size + 1, n, none⟩ = _ := cK
          have cW' : (wr.drewN nq).cell? ⟨w.heap.size + 3, n, none⟩ = _ := cW
          clear G0 cK cW c0 c1 c2 c3 c4 c5 c6 c7
          generalize wr.drewN nq = w4 at G1 cK' cW' ⊢
          have c0 : w4.cell? ⟨g, 0, none⟩ = some (Value.int .u32 (xa : Int)) := G1.out.v.cell 0 (show 0 < 8 by decide)
          have c1 : w4.cell? ⟨g, 1, none⟩ = some (Value.int .u32 (xb : Int)) := G1.out.v.cell 1 (show 1 < 8 by decide)
          have c2 : w4.cell? ⟨g, 2, none⟩ = some (Value.int .u32 (xc : Int)) := G1.out.v.cell 2 (show 2 < 8 by decide)
          have c3 : w4.cell? ⟨g, 3, none⟩ = some (Value.int .u32 (xd : Int)) := G1.out.v.cell 3 (show 3 < 8 by decide)
          have c4 : w4.cell? ⟨g, 4, none⟩ = some (Value.int .u32 (xe : Int)) := G1.out.v.cell 4 (show 4 < 8 by decide)
          have c5 : w4.cell? ⟨g, 5, none⟩ = some (Value.int .u32 (xf : Int)) := G1.out.v.cell 5 (show 5 < 8 by decide)
          have c6 : w4.cell? ⟨g, 6, none⟩ = some (Value.int .u32 (xg : Int)) := G1.out.v.cell 6 (show 6 < 8 by decide)
          have c7 : w4.cell? ⟨g, 7, none⟩ = some (Value.int .u32 (xh : Int)) := G1.out.v.cell 7 (show 7 < 8 by decide)
          refine wp_region_quiet_lit (by kernel_rfl) (by kernel_rfl) ?_
          iterate 3 (go_big_quiet_step (fail))
          go_big_quiet_step (exact Calls.quiet_of_same (q_rA _))
          go_big_quiet_step (fail)
          go_big_quiet_step (exact Calls.quiet_of_same (q_rB _))
          iterate 2 (go_big_quiet_step (fail))
          go_big_quiet_step (exact Calls.quiet_of_same (q_rC _))
          iterate 22 (go_big_quiet_step (fail))
          refine wpQuiet_nil ?_
          intro _ hw'
          obtain ⟨nq2, hw''⟩ := hw'
          subst hw''
          go_wp2
          have G2 := Lib.hid (G1.out.drewN nq2)
          clear G1 cK' cW' c0 c1 c2 c3 c4 c5 c6 c7
          generalize w4.drewN nq2 = w5 at G2 ⊢
          have c0 : w5.cell? ⟨g, 0, none⟩ = some (Value.int .u32 (xa : Int)) := G2.out.v.cell 0 (show 0 < 8 by decide)
          have c1 : w5.cell? ⟨g, 1, none⟩ = some (Value.int .u32 (xb : Int)) := G2.out.v.cell 1 (show 1 < 8 by decide)
          have c2 : w5.cell? ⟨g, 2, none⟩ = some (Value.int .u32 (xc : Int)) := G2.out.v.cell 2 (show 2 < 8 by decide)
          have c3 : w5.cell? ⟨g, 3, none⟩ = some (Value.int .u32 (xd : Int)) := G2.out.v.cell 3 (show 3 < 8 by decide)
          have c4 : w5.cell? ⟨g, 4, none⟩ = some (Value.int .u32 (xe : Int)) := G2.out.v.cell 4 (show 4 < 8 by decide)
          have c5 : w5.cell? ⟨g, 5, none⟩ = some (Value.int .u32 (xf : Int)) := G2.out.v.cell 5 (show 5 < 8 by decide)
          have c6 : w5.cell? ⟨g, 6, none⟩ = some (Value.int .u32 (xg : Int)) := G2.out.v.cell 6 (show 6 < 8 by decide)
          have c7 : w5.cell? ⟨g, 7, none⟩ = some (Value.int .u32 (xh : Int)) := G2.out.v.cell 7 (show 7 < 8 by decide)
          refine wp_region_quiet_lit (by kernel_rfl) (by kernel_rfl) ?_
          go_big_quiet_step (fail)
          go_big_quiet_step (exact Calls.quiet_of_same (q_rD _))
          go_big_quiet_step (fail)
          go_big_quiet_step (exact Calls.quiet_of_same (q_rE _))
          iterate 2 (go_big_quiet_step (fail))
          go_big_quiet_step (exact Calls.quiet_of_same (q_rF _))
          iterate 18 (go_big_quiet_step (fail))
          refine wpQuiet_nil ?_
          intro _ hw'
          obtain ⟨nq3, hw''⟩ := hw'
          subst hw''
          have G3 := Lib.hid (G2.out.drewN nq3)
          clear G2 c0 c1 c2 c3 c4 c5 c6 c7
          generalize w5.drewN nq3 = w6 at G3 ⊢
          have c0 : w6.cell? ⟨g, 0, none⟩ = some (Value.int .u32 (xa : Int)) := G3.out.v.cell 0 (show 0 < 8 by decide)
          have c1 : w6.cell? ⟨g, 1, none⟩ = some (Value.int .u32 (xb : Int)) := G3.out.v.cell 1 (show 1 < 8 by decide)
          have c2 : w6.cell? ⟨g, 2, none⟩ = some (Value.int .u32 (xc : Int)) := G3.out.v.cell 2 (show 2 < 8 by decide)
          have c3 : w6.cell? ⟨g, 3, none⟩ = some (Value.int .u32 (xd : Int)) := G3.out.v.cell 3 (show 3 < 8 by decide)
          have c4 : w6.cell? ⟨g, 4, none⟩ = some (Value.int .u32 (xe : Int)) := G3.out.v.cell 4 (show 4 < 8 by decide)
          have c5 : w6.cell? ⟨g, 5, none⟩ = some (Value.int .u32 (xf : Int)) := G3.out.v.cell 5 (show 5 < 8 by decide)
          have c6 : w6.cell? ⟨g, 6, none⟩ = some (Value.int .u32 (xg : Int)) := G3.out.v.cell 6 (show 6 < 8 by decide)
          have c7 : w6.cell? ⟨g, 7, none⟩ = some (Value.int .u32 (xh : Int)) := G3.out.v.cell 7 (show 7 < 8 by decide)
          have hC8 : #[Value.int .u32 (na : Int), Value.int .u32 (xa : Int), Value.int .u32 (xb : Int), Value.int .u32 (xc : Int), Value.int .u32 (nd : Int), Value.int .u32 (xe : Int), Value.int .u32 (xf : Int), Value.int .u32 (xg : Int)] = (u32s (S8.list ⟨na, xa, xb, xc, nd, xe, xf, xg⟩)).toArray := rfl
          have Hs8 : (Tryd.prog.info? 37).map (·.size) = some (#[Value.int .u32 (na : Int), Value.int .u32 (xa : Int), Value.int .u32 (xb : Int), Value.int .u32 (xc : Int), Value.int .u32 (nd : Int), Value.int .u32 (xe : Int), Value.int .u32 (xf : Int), Value.int .u32 (xg : Int)] : Array Value).size := HS8.out
          obtain ⟨O8, hO8⟩ : ∃ C, C = (u32s (S8.list ⟨xa, xb, xc, xd, xe, xf, xg, xh⟩)).toArray := ⟨_, rfl⟩
          have hrow : w6.heap[g]? = some (.cells O8 37 (0, 0)) := by rw [hO8]; exact G3.out.v
          have hzz8 : O8.size = (#[Value.int .u32 (na : Int), Value.int .u32 (xa : Int), Value.int .u32 (xb : Int), Value.int .u32 (xc : Int), Value.int .u32 (nd : Int), Value.int .u32 (xe : Int), Value.int .u32 (xf : Int), Value.int .u32 (xg : Int)] : Array Value).size := by rw [hO8]; rfl
          have hput := G3.out.put (st' := ⟨na, xa, xb, xc, nd, xe, xf, xg⟩) hbig #[Value.int .u32 (na : Int), Value.int .u32 (xa : Int), Value.int .u32 (xb : Int), Value.int .u32 (xc : Int), Value.int .u32 (nd : Int), Value.int .u32 (xe : Int), Value.int .u32 (xf : Int), Value.int .u32 (xg : Int)] hC8
          have Q1 := Lib.hid Hs8
          have Q2 := Lib.hid hrow
          have Q3 := Lib.hid hput
          have Q6 := Lib.hid hzz8
          clear Hs8 hrow hput hzz8 hC8 hO8
          clear q_rA q_rB q_rC q_rD q_rE q_rF e_t1 e_hi_ e_s1 e_p1 e_ne e_p2 e_cc e_s2 e_s3 e_s4 e_t2 e_lo e_m1 e_m2 e_m3 e_m4 e_mj e_s5 f_s1 f_s2 f_s3 f_s4 f_s5 f_ne f_na f_nd nb0 nb1

          go_wp2_with (refine wpList_store_row rfl 37 (.tmp 11) (.tmp 178) rfl g #[Value.int .u32 (na : Int), Value.int .u32 (xa : Int), Value.int .u32 (xb : Int), Value.int .u32 (xc : Int), Value.int .u32 (nd : Int), Value.int .u32 (xe : Int), Value.int .u32 (xf : Int), Value.int .u32 (xg : Int)] rfl rfl 37 O8 Q2.out Q1.out Q6.out (one8_all _ _ _ _ _ _ _ _) ?_)
          refine ⟨⟨n + 1, by go_num, by omega, by rw [HX.out]; exact Q3.out⟩, ?_⟩
          simp [intOf]; omega
        · have hmix : mix8 K s blk = add8 s (runs K WL s n) := by rw [HWL.out, show n = 64 by omega]; rfl
          have hdn : decide ((n : Int) < 64) = false := by simpa using (by omega : ¬ (n : Int) < 64)
          generalize runs K WL s n = st at hmix hT
          have HM := Lib.hid hmix
          have hv : WRow wr g 37 st.list := hT.v
          have hh : WRow wr w.heap.size 37 ((add8 s st).list.take 0 ++ s.list.drop 0) := by
            have h := hT.st
            rw [HH.out] at h
            exact h
          have V1 := Lib.hid hv
          have V2 := Lib.hid hh
          have V3 := Lib.hid hT.res
          have V4 := Lib.hid hT.below
          clear hmix hT hv hh hn hn64 HWl HWn HWL HKl HK HKA HO R2 R3 R4
          go_wp2
          go_loopw [17] (fun vi wr => ∃ k : Nat, vi = .int .i64 (k : Int) ∧ k ≤ 8 ∧ WRow wr w.heap.size 37 ((add8 s st).list.take k ++ s.list.drop k) ∧ WRow wr g 37 st.list ∧ wr.heap[w.heap.size + 2]? = some (.cells zs8 37 (0, 0)) ∧ Below w.heap.size w wr)
            (fun vi _ => 8 - (intOf vi).toNat)
          case atStart => exact ⟨0, rfl, by omega, V2.out, V1.out, V3.out, V4.out⟩
          case round =>
            obtain ⟨k, rfl, hk8, hh, hv, hres, hbel⟩ := hrel
            clear V1 V2 V3 V4
            by_cases hk : k < 8
            · have hc := hh.cell k (by rw [List.length_append, List.length_take, List.length_drop]; simp [S8.list]; omega)
              rw [mixed_at _ _ rfl rfl k hk] at hc
              have hcv := hv.cell k (show k < 8 from hk)
              have hf := hh.frozen k
              have hz := add8_get s st k hk
              have hset := mixed_set (add8 s st).list s.list rfl rfl k hk
              obtain ⟨x, hx⟩ : ∃ x, x = s.list.getD k 0 := ⟨_, rfl⟩
              obtain ⟨y, hy⟩ : ∃ y, y = st.list.getD k 0 := ⟨_, rfl⟩
              rw [← hx] at hc hz
              rw [← hy] at hcv hz
              obtain ⟨z, hzz⟩ : ∃ z, z = add32 x y := ⟨_, rfl⟩
              rw [hz, ← hzz] at hset
              have ez : IntKind.u32.wrap ((x : Int) + (y : Int)) = (z : Int) := by rw [hzz]; exact add_int _ _
              have HW := Lib.hid hh
              have HS2 := Lib.hid hset
              have HV := Lib.hid hv
              have HR := Lib.hid hres
              have HB := Lib.hid hbel
              clear hh hset hv hres hbel hz hx hy hzz
              have hkI : (k : Int) < 8 := by omega
              have hkN : (0 : Int) ≤ (k : Int) := by omega
              go_wp2
              go_still_tail 8, (by kernel_rfl)
              change wpList _ _ _ _ _ wr.drew
              have hc2 : wr.drew.cell? ⟨w.heap.size, k, none⟩ = some (Value.int .u32 (x : Int)) := hc
              have hf2 : wr.drew.frozen? ⟨w.heap.size, k, none⟩ = false := hf
              have hw2 : WRow (wr.drew.setCell ⟨w.heap.size, k, none⟩ (.int .u32 (z : Int))) w.heap.size 37 ((add8 s st).list.take (k + 1) ++ s.list.drop (k + 1)) := by
                have h := WRow.set (w := wr.drew) HW.out k z
                rwa [HS2.out] at h
              have hv2 : WRow (wr.drew.setCell ⟨w.heap.size, k, none⟩ (.int .u32 (z : Int))) g 37 st.list := by
                unfold WRow; rw [heap_setCell_other _ _ _ _ (by simp; omega)]; exact HV.out
              have hr2 : (wr.drew.setCell ⟨w.heap.size, k, none⟩ (.int .u32 (z : Int))).heap[w.heap.size + 2]? = some (.cells zs8 37 (0, 0)) := by
                rw [heap_setCell_other _ _ _ _ (by simp)]; exact HR.out
              have hb2 : Below w.heap.size w (wr.drew.setCell ⟨w.heap.size, k, none⟩ (.int .u32 (z : Int))) := HB.out.drew.setCell (Nat.le_refl _) _
              generalize wr.drew = w7 at hc2 hf2 hw2 hv2 hr2 hb2 ⊢
              have HW2 := Lib.hid hw2
              have HV2 := Lib.hid hv2
              have HR2 := Lib.hid hr2
              have HB2 := Lib.hid hb2
              clear hw2 hv2 hr2 hb2 hc hf hcv
              go_wp2
              refine ⟨⟨k + 1, by go_num, by omega, HW2.out, HV2.out, HR2.out, HB2.out⟩, ?_⟩
              simp [intOf]; omega
            · rw [show k = 8 by omega, show (add8 s st).list.take 8 ++ s.list.drop 8 = (add8 s st).list from rfl] at hh
              have hdk : decide ((k : Int) < 8) = false := by simpa using (by omega : ¬ (k : Int) < 8)
              obtain ⟨V, hV⟩ : ∃ V, V = (u32s (add8 s st).list).toArray := ⟨_, rfl⟩
              have hrow' : wr.heap[w.heap.size]? = some (.cells V 37 (0, 0)) := by rw [hV]; exact hh
              have hszr : (Tryd.prog.info? 37).map (·.size) = some V.size := by rw [HS8.out, hV]; simp [u32s_length, S8.list]
              have hszz : zs8.size = V.size := by
                have h := congrArg Array.size HZ8.out
                rw [h, hV]; simp [u32s_length, S8.list]
              have hone : V.all (·.oneCell') = true := by rw [hV]; exact u32s_all _
              have HV := Lib.hid hV
              have HB := Lib.hid hbel
              have HR := Lib.hid hrow'
              have HQ := Lib.hid hres
              have H1 := Lib.hid hszr
              have H2 := Lib.hid hszz
              have H3 := Lib.hid hone
              clear hh hv hrow' hbel hres hszr hszz hone hV
              go_wp2_with (first | (refine wpList_load_row rfl 37 (.tmp 3) rfl w.heap.size rfl 37 V (0, 0) _ HR.out Tryd.underlying37 rfl H1.out ?_) | (refine wpList_store_row rfl 37 (.tmp 6) (.tmp 192) rfl (w.heap.size + 2) V rfl rfl 37 zs8 HQ.out H1.out H2.out H3.out ?_))
              refine bodyPost_ret (v := .agg V) (results_cell_row (p := 6) (ty := 37) rfl _ _ (w.heap.size + 2) 37 V (0, 0) _ rfl (setRow_heap wr (w.heap.size + 2) _ _ _ _ HQ.out) Tryd.underlying37 rfl H1.out) rfl ⟨by rw [HM.out, HV.out], below_setRow HB.out (by omega) V⟩
end Go.Proofs.YtopchpaiehoilaaDoor
