/-
  What package sha's spread does: a block's words.
-/
import Derived.Test.YtopchpaiehoilaaDoorHro
import Derived.Test.YtopchpaiehoilaaDoorHwr
import Derived.StillTailTactics
import Derived.Deep.QuietTactic
import Derived.BigQuiet
import Derived.Deep.WholeRow
namespace Go.Proofs.YtopchpaiehoilaaDoor
open Go Go.RowKit

theorem info_words : (Tryd.prog.info? 38).map (fun i => (i.zero, i.size)) = some (some (.agg (u32s (List.replicate 64 0)).toArray), 64) := by kernel_rfl

theorem word_int {x0 x1 x2 x3 : Nat} (l0 : x0 < 256) (l1 : x1 < 256) (l2 : x2 < 256) (l3 : x3 < 256) :
    bits .or .u32 (bits .or .u32 (bits .or .u32 (IntKind.u32.wrap (IntKind.u32.wrap (x0 : Int) * 16777216)) (IntKind.u32.wrap (IntKind.u32.wrap (x1 : Int) * 65536))) (IntKind.u32.wrap (IntKind.u32.wrap (x2 : Int) * 256))) (IntKind.u32.wrap (x3 : Int)) = ((word x0 x1 x2 x3 : Nat) : Int) := by
  have e0 : IntKind.u32.wrap (IntKind.u32.wrap (x0 : Int) * 16777216) = ((x0 * 16777216 : Nat) : Int) := by rw [IntKind.wrap_u32, IntKind.wrap_u32]; omega
  have e1 : IntKind.u32.wrap (IntKind.u32.wrap (x1 : Int) * 65536) = ((x1 * 65536 : Nat) : Int) := by rw [IntKind.wrap_u32, IntKind.wrap_u32]; omega
  have e2 : IntKind.u32.wrap (IntKind.u32.wrap (x2 : Int) * 256) = ((x2 * 256 : Nat) : Int) := by rw [IntKind.wrap_u32, IntKind.wrap_u32]; omega
  have e3 : IntKind.u32.wrap (x3 : Int) = (x3 : Int) := by rw [IntKind.wrap_u32]; omega
  have o1 : x0 * 16777216 ||| x1 * 65536 < 4294967296 := or_lt (by omega) (by omega)
  have o2 : (x0 * 16777216 ||| x1 * 65536) ||| x2 * 256 < 4294967296 := or_lt o1 (by omega)
  rw [e0, e1, e2, e3, u32_or_nat _ _ (by omega) (by omega), u32_or_nat _ _ o1 (by omega), u32_or_nat _ _ o2 (by omega)]
  rfl

set_option maxHeartbeats 4000000 in
set_option maxRecDepth 100000 in
theorem spread_any (b o : Nat) (blk : List UInt8) (w : World) (ht : Txt w (some ⟨b, o, none⟩) blk) (hl : blk.length = 64) :
    Calls Tryd.prog 21 #[.pointer (some ⟨b, o, none⟩)] w fun e w' => e = .returned (.agg (u32s (wordsOf blk 64)).toArray) ∧ Below w.heap.size w w' := by
  obtain ⟨hz, hsz⟩ := zero_of_info info_words
  obtain ⟨zs, hzs⟩ : ∃ z, z = (u32s (List.replicate 64 0)).toArray := ⟨_, rfl⟩
  rw [← hzs] at hz
  have HZ := Lib.hid hzs
  have HL := Lib.hid hl
  have HS := Lib.hid hsz
  clear hzs hl hsz
  go_enter Tryd.func21, Tryd.ntmps21
  go_wp2
  have hbel0 : Below w.heap.size w ((w.alloc (.cells zs 38)).alloc (.cells zs 38)) := ((Below.refl _ _).alloc (Nat.le_refl _) _).alloc (by simp) _
  have hr0 : WRow ((w.alloc (.cells zs 38)).alloc (.cells zs 38)) (w.heap.size + 1) 38 (wordsOf blk 0 ++ List.replicate (64 - (wordsOf blk 0).length) 0) := by
    unfold WRow; rw [heap_alloc2_new, HZ.out]; rfl
  have hq0 : ((w.alloc (.cells zs 38)).alloc (.cells zs 38)).heap[w.heap.size]? = some (.cells zs 38 (0, 0)) := heap_alloc2_old w _ _
  generalize (w.alloc (.cells zs 38)).alloc (.cells zs 38) = w0 at *
  go_loopw [9] (fun vi wr => ∃ k : Nat, vi = .int .i64 k ∧ k ≤ 16 ∧ Below w.heap.size w wr ∧ WRow wr (w.heap.size + 1) 38 (wordsOf blk k ++ List.replicate (64 - (wordsOf blk k).length) 0) ∧ wr.heap[w.heap.size]? = some (.cells zs 38 (0, 0)))
    (fun vi _ => 16 - (intOf vi).toNat)
  case atStart => exact ⟨0, rfl, by omega, hbel0, hr0, hq0⟩
  case round =>
    obtain ⟨k, rfl, hk16, hbel, hrow, hzero⟩ := hrel
    clear hbel0 hr0 hq0
    by_cases hk : k < 16
    · have HL' := HL.out
      have htr := ht.below (w' := wr) hbel
      obtain ⟨b', o', e, _, hc⟩ := htr (by rintro rfl; simp at HL')
      simp only [Option.some.injEq, Addr.mk.injEq, and_true] at e
      obtain ⟨rfl, rfl⟩ := e
      have c0 := hc (4 * k) (by omega)
      have c1 := hc (4 * k + 1) (by omega)
      have c2 := hc (4 * k + 2) (by omega)
      have c3 := hc (4 * k + 3) (by omega)
      have hnw : nextWord blk (wordsOf blk k) k = word blk[4 * k].toNat blk[4 * k + 1].toNat blk[4 * k + 2].toNat blk[4 * k + 3].toNat := by
        unfold nextWord
        rw [if_pos hk]
        simp [List.getD, show 4 * k < blk.length by omega, show 4 * k + 1 < blk.length by omega, show 4 * k + 2 < blk.length by omega, show 4 * k + 3 < blk.length by omega]
      have l0 := blk[4 * k].toNat_lt
      have l1 := blk[4 * k + 1].toNat_lt
      have l2 := blk[4 * k + 2].toNat_lt
      have l3 := blk[4 * k + 3].toNat_lt
      generalize blk[4 * k].toNat = x0 at *
      generalize blk[4 * k + 1].toNat = x1 at *
      generalize blk[4 * k + 2].toNat = x2 at *
      generalize blk[4 * k + 3].toNat = x3 at *
      have hold := hrow.cell k (by simp [wordsOf_length]; omega)
      have hfr := hrow.frozen k
      have HB := Lib.hid hbel
      have HR := Lib.hid hrow
      have HQ := Lib.hid hzero
      have hv : bits .or .u32 (bits .or .u32 (bits .or .u32 (IntKind.u32.wrap (IntKind.u32.wrap (x0 : Int) * 16777216)) (IntKind.u32.wrap (IntKind.u32.wrap (x1 : Int) * 65536))) (IntKind.u32.wrap (IntKind.u32.wrap (x2 : Int) * 256))) (IntKind.u32.wrap (x3 : Int)) = ((nextWord blk (wordsOf blk k) k : Nat) : Int) := by
        rw [hnw]
        exact word_int l0 l1 l2 l3
      obtain ⟨z, hz⟩ : ∃ z, z = nextWord blk (wordsOf blk k) k := ⟨_, rfl⟩
      rw [← hz] at hv
      have HW := Lib.hid hz
      clear hc htr ht HL' hbel hrow hzero hnw hz
      rw [← Nat.add_assoc] at c1 c2 c3
      have hsl : ∀ W : World, (Instr.sliceAt 42 (.pointer (some ⟨b, o, none⟩)) (some (.int .i64 (4 * (k : Int)))) (some (.int .i64 (4 * (k : Int) + 4))) none).run Tryd.prog W = .ok (.slice (some ⟨b, o + 4 * k, none⟩) 4 (64 - 4 * k)) W := fun W => by
        have h := run_slice_arr (P := Tryd.prog) W Tryd.underlying42 size_byte b o .i64 .i64 (4 * (k : Int)) (4 * (k : Int) + 4) (4 * k) (4 * k + 4) (by omega) (by omega) (by omega) (by omega) (by omega)
        rw [h, show 4 * k + 4 - 4 * k = 4 by omega]
      go_wp2
      go_still_tail 23, (by kernel_rfl)
      change wpList _ _ _ _ _ wr.drew
      have hold' : wr.drew.cell? ⟨w.heap.size + 1, k, none⟩ = _ := hold
      have hfr' : wr.drew.frozen? ⟨w.heap.size + 1, k, none⟩ = _ := hfr
      generalize hw2 : wr.drew = w2 at hold' hfr'
      have HW2 := Lib.hid hw2
      clear hw2 hold hfr c0 c1 c2 c3
      go_wp2
      have hw2 := HW2.out
      subst hw2
      have hrw : WRow (wr.drew.setCell ⟨w.heap.size + 1, k, none⟩ (.int .u32 z)) (w.heap.size + 1) 38 (wordsOf blk (k + 1) ++ List.replicate (64 - (wordsOf blk (k + 1)).length) 0) := by
        have h := (HR.out.drew).set k z
        have h2 := snoc_set (wordsOf blk k) 64 z (by rw [wordsOf_length]; omega)
        rw [show (wordsOf blk k).length = k from wordsOf_length _ _] at h2 h
        rw [h2] at h
        rw [show wordsOf blk (k + 1) = wordsOf blk k ++ [z] by rw [wordsOf, HW.out]]
        exact h
      refine ⟨⟨k + 1, by go_num, by omega, HB.out.drew.setCell (by simp) _, hrw, ?_⟩, ?_⟩
      · rw [heap_setCell_other _ _ _ _ (by simp)]; exact HQ.out
      · simp [intOf]; omega
    · rw [show k = 16 by omega] at hrow
      clear hk16
      have HB := Lib.hid hbel
      have HR := Lib.hid hrow
      have HQ := Lib.hid hzero
      clear hbel hrow hzero
      go_wp2
      obtain ⟨w1, hw1⟩ : ∃ w1, w1 = wr := ⟨_, rfl⟩
      rw [← hw1] at HB HR HQ ⊢
      clear hw1
      go_loopw [6] (fun vi wr => ∃ j : Nat, vi = .int .i64 j ∧ 16 ≤ j ∧ j ≤ 64 ∧ Below w.heap.size w wr ∧ WRow wr (w.heap.size + 1) 38 (wordsOf blk j ++ List.replicate (64 - (wordsOf blk j).length) 0) ∧ wr.heap[w.heap.size]? = some (.cells zs 38 (0, 0)))
        (fun vi _ => 64 - (intOf vi).toNat)
      case atStart => exact ⟨16, rfl, by omega, by omega, HB.out, HR.out, HQ.out⟩
      case round =>
        obtain ⟨j, rfl, hj16, hj64, hbel, hrow, hzero⟩ := hrel
        clear HB HR HQ
        by_cases hj : j < 64
        · obtain ⟨p, rfl⟩ : ∃ p, j = p + 16 := ⟨j - 16, by omega⟩
          have hlen := wordsOf_length blk (p + 16)
          have gl : ∀ i, i < p + 16 → wr.cell? ⟨w.heap.size + 1, i, none⟩ = some (.int .u32 (((wordsOf blk (p + 16)).getD i 0 : Nat) : Int)) := fun i hi => by
            rw [hrow.cell i (by simp [hlen]; omega), getD_left _ _ _ (by omega)]
          have c16 := gl p (by omega)
          have c15 := gl (p + 1) (by omega)
          have c7 := gl (p + 9) (by omega)
          have c2 := gl (p + 14) (by omega)
          have n16 := wordsOf_lt blk (p + 16) p
          have n15 := wordsOf_lt blk (p + 16) (p + 1)
          have n7 := wordsOf_lt blk (p + 16) (p + 9)
          have n2 := wordsOf_lt blk (p + 16) (p + 14)
          have hnw : nextWord blk (wordsOf blk (p + 16)) (p + 16) = add32 (add32 (add32 ((wordsOf blk (p + 16)).getD p 0) (far ((wordsOf blk (p + 16)).getD (p + 1) 0))) ((wordsOf blk (p + 16)).getD (p + 9) 0)) (near ((wordsOf blk (p + 16)).getD (p + 14) 0)) := by
            unfold nextWord
            rw [if_neg (by omega), show p + 16 - 16 = p by omega, show p + 16 - 15 = p + 1 by omega, show p + 16 - 7 = p + 9 by omega, show p + 16 - 2 = p + 14 by omega]
          obtain ⟨x16, hx16⟩ : ∃ x, x = (wordsOf blk (p + 16)).getD p 0 := ⟨_, rfl⟩
          obtain ⟨x15, hx15⟩ : ∃ x, x = (wordsOf blk (p + 16)).getD (p + 1) 0 := ⟨_, rfl⟩
          obtain ⟨x7, hx7⟩ : ∃ x, x = (wordsOf blk (p + 16)).getD (p + 9) 0 := ⟨_, rfl⟩
          obtain ⟨x2, hx2⟩ : ∃ x, x = (wordsOf blk (p + 16)).getD (p + 14) 0 := ⟨_, rfl⟩
          rw [← hx16] at c16 n16 hnw
          rw [← hx15] at c15 n15 hnw
          rw [← hx7] at c7 n7 hnw
          rw [← hx2] at c2 n2 hnw
          have hold := hrow.cell (p + 16) (by simp [hlen]; omega)
          have hfr := hrow.frozen (p + 16)
          have HB := Lib.hid hbel
          have HR := Lib.hid hrow
          have HQ := Lib.hid hzero
          have HW := Lib.hid hnw
          have i15 : IntKind.i64.wrap ((p : Int) + 16 - 15) = ((p + 1 : Nat) : Int) := by rw [IntKind.wrap_i64]; omega
          have i2 : IntKind.i64.wrap ((p : Int) + 16 - 2) = ((p + 14 : Nat) : Int) := by rw [IntKind.wrap_i64]; omega
          clear gl hbel hrow hzero hnw hx16 hx15 hx7 hx2 hlen
          go_wp2
          go_quiet (fail)
          obtain ⟨yf, hyf⟩ : ∃ y, y = far x15 := ⟨_, rfl⟩
          obtain ⟨yn, hyn⟩ : ∃ y, y = near x2 := ⟨_, rfl⟩
          have f1 : bits .xor .u32 ((rot 7 x15 : Nat) : Int) ((rot 18 x15 : Nat) : Int) = ((rot 7 x15 ^^^ rot 18 x15 : Nat) : Int) := xor_int (rot_lt n15) (rot_lt n15)
          have f2 : bits .xor .u32 ((rot 7 x15 ^^^ rot 18 x15 : Nat) : Int) ((x15 : Int) / 8) = (yf : Int) := by
            rw [hyf]; exact xor_int (xor_lt (rot_lt n15) (rot_lt n15)) (Nat.lt_of_le_of_lt (Nat.div_le_self _ 8) n15)
          have f3 : bits .xor .u32 ((rot 17 x2 : Nat) : Int) ((rot 19 x2 : Nat) : Int) = ((rot 17 x2 ^^^ rot 19 x2 : Nat) : Int) := xor_int (rot_lt n2) (rot_lt n2)
          have f4 : bits .xor .u32 ((rot 17 x2 ^^^ rot 19 x2 : Nat) : Int) ((x2 : Int) / 1024) = (yn : Int) := by
            rw [hyn]; exact xor_int (xor_lt (rot_lt n2) (rot_lt n2)) (Nat.lt_of_le_of_lt (Nat.div_le_self _ 1024) n2)
          have hnw := HW.out
          rw [← hyf, ← hyn] at hnw
          obtain ⟨s1, hs1⟩ : ∃ y, y = add32 x16 yf := ⟨_, rfl⟩
          obtain ⟨s2, hs2⟩ : ∃ y, y = add32 s1 x7 := ⟨_, rfl⟩
          obtain ⟨s3, hs3⟩ : ∃ y, y = add32 s2 yn := ⟨_, rfl⟩
          have g1 : IntKind.u32.wrap ((x16 : Int) + (yf : Int)) = (s1 : Int) := by rw [hs1]; exact add_int _ _
          have g2 : IntKind.u32.wrap ((s1 : Int) + (x7 : Int)) = (s2 : Int) := by rw [hs2]; exact add_int _ _
          have g3 : IntKind.u32.wrap ((s2 : Int) + (yn : Int)) = (s3 : Int) := by rw [hs3]; exact add_int _ _
          rw [← hs1, ← hs2, ← hs3] at hnw
          have HN := Lib.hid hnw
          obtain ⟨rA, hrA⟩ : ∃ r, r = rot 7 x15 := ⟨_, rfl⟩
          obtain ⟨rB, hrB⟩ : ∃ r, r = rot 18 x15 := ⟨_, rfl⟩
          obtain ⟨rC, hrC⟩ : ∃ r, r = rot 17 x2 := ⟨_, rfl⟩
          obtain ⟨rD, hrD⟩ : ∃ r, r = rot 19 x2 := ⟨_, rfl⟩
          have q7 : ∀ W, Calls Tryd.prog 22 #[.int .u32 x15, .int .i64 (-7)] W fun e w' => e = .returned (.int .u32 rA) ∧ W = w' := fun W => by rw [hrA]; exact rot_at (-7) x15 W (by decide) n15
          have q18 : ∀ W, Calls Tryd.prog 22 #[.int .u32 x15, .int .i64 (-18)] W fun e w' => e = .returned (.int .u32 rB) ∧ W = w' := fun W => by rw [hrB]; exact rot_at (-18) x15 W (by decide) n15
          have q17 : ∀ W, Calls Tryd.prog 22 #[.int .u32 x2, .int .i64 (-17)] W fun e w' => e = .returned (.int .u32 rC) ∧ W = w' := fun W => by rw [hrC]; exact rot_at (-17) x2 W (by decide) n2
          have q19 : ∀ W, Calls Tryd.prog 22 #[.int .u32 x2, .int .i64 (-19)] W fun e w' => e = .returned (.int .u32 rD) ∧ W = w' := fun W => by rw [hrD]; exact rot_at (-19) x2 W (by decide) n2
          rw [← hrA, ← hrB] at f1
          rw [← hrA, ← hrB] at f2
          rw [← hrC, ← hrD] at f3
          rw [← hrC, ← hrD] at f4
          obtain ⟨tA, htA⟩ : ∃ t, t = rA ^^^ rB := ⟨_, rfl⟩
          obtain ⟨tC, htC⟩ : ∃ t, t = rC ^^^ rD := ⟨_, rfl⟩
          rw [← htA] at f1 f2
          rw [← htC] at f3 f4
          clear hnw hs1 hs2 hs3 hyf hyn hrA hrB hrC hrD htA htC
          have c16' : (wr.drewN nq).cell? ⟨w.heap.size + 1, p, none⟩ = _ := c16
          have c7' : (wr.drewN nq).cell? ⟨w.heap.size + 1, p + 9, none⟩ = _ := c7
          have hold' : (wr.drewN nq).cell? ⟨w.heap.size + 1, p + 16, none⟩ = _ := hold
          have hfr' : (wr.drewN nq).frozen? ⟨w.heap.size + 1, p + 16, none⟩ = _ := hfr
          generalize hw2 : wr.drewN nq = w2 at c16' c7' hold' hfr' ⊢
          have HW2 := Lib.hid hw2
          clear hw2 hold hfr c16 c15 c7 c2 i15 i2
          go_wp2_with fail
          refine (q7 _).mono ?_
          rintro e w' ⟨rfl, rfl⟩
          go_wp2_with fail
          refine (q18 _).mono ?_
          rintro e w' ⟨rfl, rfl⟩
          go_wp2_with fail
          refine (q17 _).mono ?_
          rintro e w' ⟨rfl, rfl⟩
          go_wp2_with fail
          refine (q19 _).mono ?_
          rintro e w' ⟨rfl, rfl⟩
          go_wp2_with fail
          have i16 : IntKind.i64.wrap (p : Int) = (p : Int) := by rw [IntKind.wrap_i64]; omega
          have i7 : IntKind.i64.wrap ((p : Int) + 16 - 7) = ((p + 9 : Nat) : Int) := by rw [IntKind.wrap_i64]; omega
          have j16 : IntKind.i64.wrap ((p : Int) + 16 - 16) = (p : Int) := by rw [IntKind.wrap_i64]; omega
          have b1 : (0 : Int) ≤ (p : Int) := by omega
          have b2 : (p : Int) < 64 := by omega
          have b3 : (p : Int) + 9 < 64 := by omega
          have b4 : (p : Int) + 16 < 64 := by omega
          have b5 : (0 : Int) ≤ (p : Int) + 9 := by omega
          have b6 : (0 : Int) ≤ (p : Int) + 16 := by omega
          have t9 : ((p : Int) + 9).toNat = p + 9 := by omega
          have t16 : ((p : Int) + 16).toNat = p + 16 := by omega
          go_still_tail 14, (by kernel_rfl)
          clear j16 b1 b2 b3 b4 b5 b6 t9 t16
          change wpList _ _ _ _ _ w2.drew
          have hold2 : w2.drew.cell? ⟨w.heap.size + 1, p + 16, none⟩ = _ := hold'
          have hfr2 : w2.drew.frozen? ⟨w.heap.size + 1, p + 16, none⟩ = _ := hfr'
          generalize hw3 : w2.drew = w3 at hold2 hfr2 ⊢
          have HW3 := Lib.hid hw3
          clear hw3 hold' hfr' c16' c7' i16 i7
          go_wp2
          have hw3 := HW3.out
          have hw2 := HW2.out
          subst hw3
          subst hw2
          have hrw : WRow ((wr.drewN nq).drew.setCell ⟨w.heap.size + 1, p + 16, none⟩ (.int .u32 s3)) (w.heap.size + 1) 38 (wordsOf blk (p + 16 + 1) ++ List.replicate (64 - (wordsOf blk (p + 16 + 1)).length) 0) := by
            have h := WRow.set (w := (wr.drewN nq).drew) HR.out (p + 16) s3
            have h2 := snoc_set (wordsOf blk (p + 16)) 64 s3 (by rw [wordsOf_length]; omega)
            rw [show (wordsOf blk (p + 16)).length = p + 16 from wordsOf_length _ _] at h2 h
            rw [h2] at h
            rw [show wordsOf blk (p + 16 + 1) = wordsOf blk (p + 16) ++ [s3] by rw [wordsOf, HN.out]]
            exact h
          refine ⟨⟨p + 16 + 1, by go_num, by omega, by omega, (below_drewN HB.out nq).drew.setCell (by simp) _, hrw, ?_⟩, ?_⟩
          · rw [heap_setCell_other _ _ _ _ (by simp)]; exact HQ.out
          · simp [intOf]; omega
        · rw [show j = 64 by omega] at hrow
          clear hj64
          rw [show (wordsOf blk 64 ++ List.replicate (64 - (wordsOf blk 64).length) 0) = wordsOf blk 64 by rw [wordsOf_length]; simp] at hrow
          have hlen := wordsOf_length blk 64
          obtain ⟨ws, hws⟩ : ∃ ws, ws = wordsOf blk 64 := ⟨_, rfl⟩
          rw [← hws] at hrow hlen
          have HWS := Lib.hid hws
          have hszr : (Tryd.prog.info? 38).map (·.size) = some (u32s ws).toArray.size := by rw [HS.out]; simp [u32s_length, hlen]
          have hszz : zs.size = (u32s ws).toArray.size := by
            have h := congrArg Array.size HZ.out
            rw [h]; simp [u32s_length, hlen]
          have hone : (u32s ws).toArray.all (·.oneCell') = true := Array.all_eq_true_iff_forall_mem.2 (fun v hv => u32s_one ws v (by simpa using hv))
          obtain ⟨V, hV⟩ : ∃ V, V = (u32s ws).toArray := ⟨_, rfl⟩
          have hrow' : wr.heap[w.heap.size + 1]? = some (.cells V 38 (0, 0)) := by rw [hV]; exact hrow
          rw [← hV] at hszr hszz hone
          have HV := Lib.hid hV
          have HB := Lib.hid hbel
          have HR := Lib.hid hrow'
          have HQ := Lib.hid hzero
          have H1 := Lib.hid hszr
          have H2 := Lib.hid hszz
          have H3 := Lib.hid hone
          clear hrow hrow' hbel hzero hszr hszz hone hlen hV hws HS HZ HL ht hz
          have hjj : decide ((j : Int) < 64) = false := by simpa using (by omega : ¬ (j : Int) < 64)
          go_wp2_with (first | (refine wpList_load_row rfl 38 (.tmp 3) rfl (w.heap.size + 1) rfl 38 V (0, 0) _ HR.out Tryd.underlying38 rfl H1.out ?_) | (refine wpList_store_row rfl 38 (.tmp 2) (.tmp 88) rfl w.heap.size V rfl rfl 38 zs HQ.out H1.out H2.out H3.out ?_))
          refine bodyPost_ret (v := .agg V) (results_cell_row (p := 2) (ty := 38) rfl _ _ w.heap.size 38 V (0, 0) _ rfl (setRow_heap wr w.heap.size _ _ _ _ HQ.out) Tryd.underlying38 rfl H1.out) rfl ⟨by rw [HV.out, HWS.out], below_setRow HB.out (Nat.le_refl _) V⟩
end Go.Proofs.YtopchpaiehoilaaDoor
