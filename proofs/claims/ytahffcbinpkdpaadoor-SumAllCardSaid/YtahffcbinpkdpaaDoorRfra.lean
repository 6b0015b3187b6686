/-
  What the document's own Frame does.
-/
import Derived.Test.YtahffcbinpkdpaaDoorRcrc
import Derived.Test.YtahffcbinpkdpaaDoorFrm
import Derived.Test.YtahffcbinpkdpaaDoorApp
namespace Go.Proofs.YtahffcbinpkdpaaDoor
open Go Go.RowKit

theorem frame_list (n : Nat) (b : List UInt8) : ((([90] ++ (low 4 b.length ++ low 8 n)) ++ low 4 (crc ((low 4 b.length ++ low 8 n) ++ b))) ++ b) = frameOf n b := by
  simp only [frameOf, List.append_assoc]

set_option maxHeartbeats 8000000 in
set_option maxRecDepth 100000 in
theorem rFrame_any (n : Nat) (a : Option Addr) (c : Nat) (b : List UInt8) (w : World) (hn : n < 18446744073709551616) (ht : Txt w a b) (hl : b.length ≤ 60000) :
    Calls Tryd.prog 7 #[.int .u64 n, .slice a b.length c] w (Gives w (frameOf n b)) := by
  obtain ⟨i0, hi, hz0, hz1, hz2⟩ := info_parts info_byte
  have HB := Lib.hid ht
  clear ht
  go_enter Tryd.func7, Tryd.ntmps7
  go_wp2_with fail
  refine (rLow_any b.length 4 w (by omega) (by omega) (by omega)).mono ?_
  rintro e w1 ⟨rfl, hB1, hb1⟩
  go_wp2_with fail
  refine (rLow_any n 8 w1 hn (by omega) (by omega)).mono ?_
  rintro e w2 ⟨rfl, hB2, hb2⟩
  have hbel2 := hb1.trans (hb2.mono hb1.size)
  have l4 := low_length 4 b.length
  have l8 := low_length 8 n
  have hB1' : Blk w2 w.heap.size (low 4 b.length) := (hb2.block w.heap.size hB1.lt).trans hB1
  have hown2 := own_of_blk (base := w.heap.size) hB1' (Nat.le_refl _) (by rw [l4]; decide)
  rw [l4] at hown2
  have t2 := hB2.txt
  obtain ⟨A4, hA4⟩ : ∃ A, A = low 4 b.length := ⟨_, rfl⟩
  obtain ⟨A8, hA8⟩ : ∃ A, A = low 8 n := ⟨_, rfl⟩
  have hfin := frame_list n b
  rw [← hA4, ← hA8] at hfin
  rw [← hA4] at hown2 l4
  rw [← hA8] at t2 l8
  have HF := Lib.hid hfin
  clear hB1 hB1' hB2 hb1 hb2 hA4 hA8 hfin
  go_wp2_with (at_builtin; refine wpList_append_txt _ rfl (.tmp 14) (.tmp 16) 25 rfl w.heap.size 5 i0 Tryd.underlying25 hi hz0 hz1 hz2 _ 4 (Lib.byteCells A4) rfl hown2 (some ⟨w1.heap.size, 0, none⟩) 8 A8 (by rw [l8]; rfl) t2 ?c1 ?c2 ?_)
  case c1 => rw [l8]; omega
  case c2 => exact hbel2.size
  intro v3 w3 hown3 hg3
  have hbel3 : Below w.heap.size w w3 := hbel2.grown hg3 hbel2.size (fun k hk => (hown2.lt k hk).1)
  have l12 : (A4 ++ A8).length = 12 := by rw [List.length_append, l4, l8]
  rw [← l12, ← Lib.byteCells_append] at hown3
  obtain ⟨a3, c3, rfl, t3, hc3, hm3⟩ := own_form hown3
  obtain ⟨H, hH⟩ : ∃ H, H = A4 ++ A8 := ⟨_, rfl⟩
  rw [← hH] at t3 l12 HF
  rw [← hH]
  rw [l12]
  clear hown3 hown2 hg3 t2 hH hc3 hm3 hbel2 l4 l8
  -- the sum
  have hb4 : Below w3.heap.size w3 (w3.alloc (.cells #[] 5)) := (Below.refl _ _).alloc (Nat.le_refl _) _
  have hown4 : (w3.alloc (.cells #[] 5)).ownsRow w3.heap.size 5 1 (.slice (some ⟨w3.heap.size, 0, none⟩) 0 0) 0 [] := own_empty w3 _ _ (Nat.le_refl _)
  have t4 := t3.below hb4
  go_wp2_with (at_builtin; refine wpList_append_txt _ rfl (.tmp 18) (.tmp 19) 25 rfl w3.heap.size 5 i0 Tryd.underlying25 hi hz0 hz1 hz2 _ 0 [] rfl hown4 a3 c3 H (by rw [l12]; rfl) t4 ?c3 ?c4 ?_)
  case c3 => rw [l12]; omega
  case c4 => simp
  intro v5 w5 hown5 hg5
  have hb5 : Below w3.heap.size w3 w5 := hb4.grown hg5 (by simp) (fun k hk => (hown4.lt k hk).1)
  have tb5 := HB.out.below (hbel3.trans (hb5.mono hbel3.size))
  clear hown4 hg5 t4 hb4
  go_wp2_with (at_builtin; refine wpList_append_txt _ rfl (.tmp 20) (.tmp 21) 25 rfl w3.heap.size 5 i0 Tryd.underlying25 hi hz0 hz1 hz2 v5 12 (Lib.byteCells H) rfl hown5 a c b rfl tb5 ?c5 ?c6 ?_)
  case c5 => omega
  case c6 => exact hb5.size
  intro v6 w6 hown6 hg6
  have hb6 : Below w3.heap.size w3 w6 := hb5.grown hg6 hb5.size (fun k hk => (hown5.lt k hk).1)
  have hbel6 := hbel3.trans (hb6.mono hbel3.size)
  have lHb : (H ++ b).length = 12 + b.length := by rw [List.length_append, l12]
  rw [← lHb, ← Lib.byteCells_append] at hown6
  obtain ⟨a6, c6, rfl, t6, hc6, hm6⟩ := own_form hown6
  have hcr := rCrc_any a6 (12 + b.length) c6 (H ++ b) w6 lHb.symm t6 (by omega)
  have lz := crc_lt (H ++ b)
  obtain ⟨z, hz⟩ : ∃ z, z = crc (H ++ b) := ⟨_, rfl⟩
  rw [← hz] at hcr lz HF
  rw [lHb]
  have t3' := t3.below hb6
  have tb6 := HB.out.below hbel6
  clear hown6 hown5 hg6 t6 hz t3 tb5 hb5 hb6 lHb hc6 hm6
  go_wp2_with fail
  refine hcr.mono ?_
  rintro e w7 ⟨rfl, rfl⟩
  clear hcr
  -- the frame
  have hb8 : Below w6.heap.size w6 (w6.alloc (.cells #[.int .u8 90] 5)) := (Below.refl _ _).alloc (Nat.le_refl _) _
  have hown8 : (w6.alloc (.cells #[.int .u8 90] 5)).ownsRow w6.heap.size 5 1 (.slice (some ⟨w6.heap.size, 0, none⟩) 1 1) 1 (Lib.byteCells [90]) := own_of_blk (L := [90]) (heap_alloc_new w6 _) (Nat.le_refl _) (by decide)
  have t8 := t3'.below hb8
  go_wp2_with (at_builtin; refine wpList_append_txt _ rfl (.tmp 24) (.tmp 25) 25 rfl w6.heap.size 5 i0 Tryd.underlying25 hi hz0 hz1 hz2 _ 1 (Lib.byteCells [90]) rfl hown8 a3 c3 H (by rw [l12]; rfl) t8 ?c7 ?c8 ?_)
  case c7 => rw [l12]; omega
  case c8 => simp
  intro v9 w9 hown9 hg9
  have hb9 : Below w6.heap.size w6 w9 := hb8.grown hg9 (by simp) (fun k hk => (hown8.lt k hk).1)
  rw [← Lib.byteCells_append] at hown9
  clear hown8 hg9 t8 hb8 t3'
  have ez : IntKind.u64.wrap (z : Int) = (z : Int) := by rw [IntKind.wrap_u64]; omega
  have hlow := rLow_any z 4 w9 (by omega) (by omega) (by omega)
  go_wp2_with fail
  refine hlow.mono ?_
  rintro e w10 ⟨rfl, hB10, hb10⟩
  have hown10 := own_below hown9 hb10
  have hb10' := hb9.trans (hb10.mono hb9.size)
  have t10 := hB10.txt
  have lz4 := low_length 4 z
  obtain ⟨Z4, hZ4⟩ : ∃ Z, Z = low 4 z := ⟨_, rfl⟩
  rw [← hZ4] at t10 lz4 HF
  clear hown9 hlow hB10 hb10 hZ4 ez
  go_wp2_with (at_builtin; refine wpList_append_txt _ rfl (.tmp 27) (.tmp 30) 25 rfl w6.heap.size 5 i0 Tryd.underlying25 hi hz0 hz1 hz2 v9 13 (Lib.byteCells ([90] ++ H)) rfl hown10 (some ⟨w9.heap.size, 0, none⟩) 4 Z4 (by rw [lz4]; rfl) t10 ?c9 ?c10 ?_)
  case c9 => rw [lz4]; omega
  case c10 => exact hb10'.size
  intro v11 w11 hown11 hg11
  have hb11 : Below w6.heap.size w6 w11 := hb10'.grown hg11 hb10'.size (fun k hk => (hown10.lt k hk).1)
  rw [← Lib.byteCells_append] at hown11
  have tb11 := tb6.below hb11
  clear hown10 hg11 t10 hb10' tb6
  go_wp2_with (at_builtin; refine wpList_append_txt _ rfl (.tmp 32) (.tmp 33) 25 rfl w6.heap.size 5 i0 Tryd.underlying25 hi hz0 hz1 hz2 v11 17 (Lib.byteCells (([90] ++ H) ++ Z4)) rfl hown11 a c b rfl tb11 ?c11 ?c12 ?_)
  case c11 => omega
  case c12 => exact hb11.size
  intro v12 w12 hown12 hg12
  have hb12 : Below w6.heap.size w6 w12 := hb11.grown hg12 hb11.size (fun k hk => (hown11.lt k hk).1)
  have e12 : 90 :: (H ++ Z4) ++ b = frameOf n b := by rw [← HF.out]; rfl
  rw [← Lib.byteCells_append, e12] at hown12
  have hbel12 := hbel6.trans (hb12.mono hbel6.size)
  clear hown11 hg12
  go_wp2_with fail
  go_ret
  exact gives_of ⟨v12, rfl, by rw [frame_length]; exact own_weaken hown12 hbel6.size, hbel12⟩

end Go.Proofs.YtahffcbinpkdpaaDoor
