/-
  What package sha's end, Sum, New and Of do.
-/
import Derived.Test.YtopchpaiehoilaaDoorHad
import Derived.Test.YtopchpaiehoilaaDoorHpb
namespace Go.Proofs.YtopchpaiehoilaaDoor
open Go Go.RowKit

theorem info_tail : (Tryd.prog.info? 52).map (fun i => (i.zero, i.size)) = some (some (.agg (Lib.byteCells (List.replicate 72 0)).toArray), 72) := by kernel_rfl
theorem info_digest : (Tryd.prog.info? 24).map (fun i => (i.zero, i.size)) = some (some (.agg (Lib.byteCells (List.replicate 32 0)).toArray), 32) := by kernel_rfl

theorem pad_tail (n : Nat) (p : Nat) (hp : p = (119 - n % 64) % 64) : (lay ((List.replicate 72 0).set 0 128) (1 + p) (be8 8 (8 * n))).take (9 + p) = padOf n := by
  have hset : (List.replicate 72 (0 : UInt8)).set 0 128 = 128 :: List.replicate 71 0 := rfl
  have hl8 := be8_length (8 * n) 8
  rw [hset, show 9 + p = (1 + p) + (be8 8 (8 * n)).length by rw [hl8]; omega, lay_take (by rw [hl8]; simp; omega)]
  unfold padOf
  rw [show (1 + p) = p + 1 by omega, List.take_succ_cons, List.take_replicate, ← hp, Nat.min_eq_left (by omega)]
  rfl

set_option maxHeartbeats 8000000 in
set_option maxRecDepth 100000 in
theorem end_any (g : Nat) (L : List UInt8) (w : World) (hT : Tabs w) (hg : 1 < g) (hh : Held w g L) (hL : L.length ≤ 1152921504606846976) :
    Calls Tryd.prog 17 #[.pointer (some ⟨g, 0, none⟩)] w fun e w' => e = .returned (.tuple #[]) ∧ Held w' g (L ++ padOf L.length) ∧ w.grownBy w' (some g) := by
  obtain ⟨hz, hsz⟩ := zero_of_info info_tail
  obtain ⟨N, hN⟩ : ∃ N, N = L.length := ⟨_, rfl⟩
  rw [← hN] at hL ⊢
  obtain ⟨p, hp⟩ : ∃ p, p = (119 - N % 64) % 64 := ⟨_, rfl⟩
  have p64 : p < 64 := by omega
  have hgl := hh.lt
  obtain ⟨rest, hh1, hr⟩ := hh
  have csz := hh1.cells
  rw [← hN] at csz
  obtain ⟨zs, hzs⟩ : ∃ z, z = (Lib.byteCells (List.replicate 72 0)).toArray := ⟨_, rfl⟩
  rw [← hzs] at hz
  have hb0 : BRow (w.alloc (.cells zs 52)) w.heap.size 52 (List.replicate 72 0) := by unfold BRow; rw [heap_alloc_new, hzs]
  obtain ⟨Y, hY⟩ : ∃ Y : Nat, IntKind.u64.wrap (55 - (N : Int)) = (Y : Int) := ⟨(IntKind.u64.wrap (55 - (N : Int))).toNat, by rw [IntKind.wrap_u64]; omega⟩
  have hYp : (Y : Int) % 64 = (p : Int) := by rw [← hY, IntKind.wrap_u64]; omega
  obtain ⟨q, hq⟩ : ∃ q, q = (padOf N).length := ⟨_, rfl⟩
  have hq9 : q = 9 + p := by rw [hq, padOf_length, hp]
  have hs1 : ∀ W : World, (Instr.sliceAt 52 (.pointer (some ⟨w.heap.size, 0, none⟩)) (some (.int .u64 (1 + (p : Int)))) (some (.int .u64 (1 + (p : Int) + 8))) none).run Tryd.prog W = .ok (.slice (some ⟨w.heap.size, 1 + p, none⟩) 8 (72 - (1 + p))) W := fun W => by
    have h := run_slice_arr (P := Tryd.prog) W Tryd.underlying52 size_byte w.heap.size 0 .u64 .u64 (1 + (p : Int)) (1 + (p : Int) + 8) (1 + p) (1 + p + 8) (by omega) (by omega) (by omega) (by omega) (by omega)
    rw [h, Nat.zero_add, show 1 + p + 8 - (1 + p) = 8 by omega]
  have hs2 : ∀ W : World, (Instr.sliceAt 52 (.pointer (some ⟨w.heap.size, 0, none⟩)) none (some (.int .u64 (1 + (p : Int) + 8))) none).run Tryd.prog W = .ok (.slice (some ⟨w.heap.size, 0, none⟩) q 72) W := fun W =>
    run_slice_arr_to (P := Tryd.prog) W Tryd.underlying52 size_byte w.heap.size 0 .u64 (1 + (p : Int) + 8) q (by omega) (by omega) (by decide)
  have m1 : IntKind.u64.wrap (8 * (N : Int)) = ((8 * N : Nat) : Int) := by rw [IntKind.wrap_u64]; omega
  have m2 : IntKind.u64.wrap (1 + (p : Int) + 8 - 8) = 1 + (p : Int) := by rw [IntKind.wrap_u64]; omega
  have m3 : IntKind.u64.wrap (1 + (p : Int)) = 1 + (p : Int) := by rw [IntKind.wrap_u64]; omega
  have hz0 : zs[0]? = some (Value.int .u8 0) := by rw [hzs]; rfl
  have HS := Lib.hid hsz
  have HZ := Lib.hid hzs
  have HN := Lib.hid hN
  have HP := Lib.hid hp
  have HQ := Lib.hid hq
  have HQ9 := Lib.hid hq9
  have HR := Lib.hid hr
  have HH := Lib.hid hh1
  have HT := Lib.hid hT
  have HM1 := Lib.hid m1
  have HM2 := Lib.hid m2
  have HM3 := Lib.hid m3
  clear hsz hzs hN hp hq hq9 hr hh1 hb0 hT m1 m2 m3
  go_enter Tryd.func17, Tryd.ntmps17
  go_wp2
  generalize hW : World.alloc w _ = w1
  have hb1 : BRow w1 w.heap.size 52 ((List.replicate 72 0).set 0 128) := by subst hW; unfold BRow; rw [heap_alloc_new, HZ.out]; rfl
  have hbel : Below w.heap.size w w1 := by subst hW; exact (Below.refl _ _).alloc (Nat.le_refl _) _
  have csz1 := (hbel.cell (p := ⟨g, 72, none⟩) hgl).trans csz
  have hput := fun (n : Nat) => putBig_any w.heap.size (1 + p) 8 (72 - (1 + p)) (8 * N) 52 ((List.replicate 72 0).set 0 128) (w1.drewN n) hb1 (by decide) (by decide) (by simp; omega) (by omega)
  have m1 := HM1.out
  have m2 := HM2.out
  have m3 := HM3.out
  clear hW
  go_still_tail 9, (by kernel_rfl)
  change wpList _ _ _ _ _ (w1.drewN 1)
  have hput1 := hput 1
  generalize hL2 : lay ((List.replicate 72 0).set 0 128) (1 + p) (be8 8 (8 * N)) = T at hput1
  have HL2 := Lib.hid hL2
  have hb2 : BRow ((w1.drewN 1).setRow w.heap.size (Lib.byteCells T).toArray) w.heap.size 52 T := BRow.put (w := w1.drewN 1) hb1 T
  have hbel2 : Below w.heap.size w ((w1.drewN 1).setRow w.heap.size (Lib.byteCells T).toArray) := below_setRow (below_drewN hbel 1) (Nat.le_refl _) _
  have B1 := Lib.hid hb2
  have B2 := Lib.hid hbel2
  clear hput hb1 hbel csz1 hL2 hb2 hbel2 m1 m2 m3
  go_wp2_with fail
  refine hput1.mono ?_
  rintro e w2 ⟨rfl, rfl⟩
  generalize (w1.drewN 1).setRow w.heap.size (Lib.byteCells T).toArray = w3 at B1 B2 ⊢
  have hgr : w.grownBy w3 (some g) := grownBy_below B2.out
  have hheld : Held w3 g L := ⟨rest, (HH.out).grown (grownBy_below (r := none) B2.out) (by simp), HR.out⟩
  have htx : Txt w3 (some ⟨w.heap.size, 0, none⟩) (padOf N) := by
    have h := B1.out.txt.takeN (9 + p)
    rwa [← HL2.out, pad_tail N p HP.out] at h
  have hadd := Add_any g 72 L (padOf N) (some ⟨w.heap.size, 0, none⟩) w3 (HT.out.below B2.out (Nat.le_refl _)) hg hheld htx (by intro b o e _; injection e with e; injection e with e; omega) (by rw [← HQ.out, HQ9.out]; omega) (by decide) (by rw [← HN.out]; exact hL)
  rw [← HQ.out] at hadd
  have HG := Lib.hid hgr
  clear hgr hheld htx hput1
  go_wp2_with fail
  refine hadd.mono ?_
  rintro e w4 ⟨rfl, hh4, hg4⟩
  have H4 := Lib.hid hh4
  have HG4 := Lib.hid hg4
  clear hh4 hg4 hadd
  go_wp2
  go_end0
  exact ⟨rfl, H4.out, grownBy_trans HG.out HG4.out⟩

end Go.Proofs.YtopchpaiehoilaaDoor
