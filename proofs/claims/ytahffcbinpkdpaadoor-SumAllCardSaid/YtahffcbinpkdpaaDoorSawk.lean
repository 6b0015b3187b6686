/-
  The awake test of layer 2's statements is true in every world in which the table lies, and leaves older memory as it was.
-/
import Derived.Test.YtahffcbinpkdpaaDoorSall
import Derived.Test.YtahffcbinpkdpaaDoorApp
import Derived.Lib.SlBytesConst
namespace Go.Proofs.YtahffcbinpkdpaaDoor
open Go Go.RowKit

theorem crc9 : crc [49, 50, 51, 52, 53, 54, 55, 56, 57] = 3421780262 := by kernel_rfl
theorem all2 : all1 (frameOf 0 [] ++ frameOf 1 [120]) 0 = ([[], [120]], 35) := by
  rw [all1_frame (by decide) (by simp) rfl (by decide)]
  have h := all1_frame (n := 1) (b := [120]) (r := []) (first := 1) (by decide) (by simp) rfl (by decide)
  rw [List.append_nil] at h
  rw [h, all1_none (.inl rfl)]
  rfl

set_option maxHeartbeats 4000000 in
set_option maxRecDepth 100000 in
theorem awake_any (w : World) (hT : Tab w) : Calls Tryd.prog 6 #[] w fun e w' => e = .returned (.bool true) ∧ Below w.heap.size w w' := by
  obtain ⟨i0, hi, hz0, hz1, hz2⟩ := info_parts info_byte
  have kc := fun (W : World) (C : Array Value) (n c : Nat) => Lib.run_convert_bytes_const (P := Tryd.prog) W 25 5 C n c Tryd.underlying25 Tryd.underlying5
  have t0 : Txt (w.alloc (.cells #[.int .u8 97, .int .u8 98] 5 (2, 3))) (some ⟨w.heap.size, 0, none⟩) [97, 98] := lit_txt w [97, 98] _ rfl _ _
  have hb0 : Below w.heap.size w (w.alloc (.cells #[.int .u8 97, .int .u8 98] 5 (2, 3))) := (Below.refl _ _).alloc (Nat.le_refl _) _
  have HT := Lib.hid hT
  clear hT
  go_enter Tryd.func6, Tryd.ntmps6
  go_wp2_with fail
  refine (Frame_any 7 (some ⟨w.heap.size, 0, none⟩) 2 [97, 98] _ (HT.out.below hb0 (Nat.le_refl _)) (by decide) t0 (by simp)).mono ?_
  generalize w.alloc (.cells #[.int .u8 97, .int .u8 98] 5 (2, 3)) = w1 at hb0
  clear t0
  rintro e w2 ⟨rfl, hB2, hb2⟩
  have hT2 := HT.out.below (hb0.trans (hb2.mono hb0.size)) (Nat.le_refl _)
  have hbel2 := hb0.trans (hb2.mono hb0.size)
  have hl2 := frame_length 7 [97, 98]
  go_wp2_with fail
  have htk := Take_any (some ⟨w1.heap.size, 0, none⟩) 19 (frameOf 7 [97, 98]) w2 hT2 hB2.txt (by rw [hl2]; decide) (by decide)
  have et := take1_frame (n := 7) (b := [97, 98]) (by decide) (by simp) []
  rw [List.append_nil] at et
  rw [et, hl2] at htk
  refine htk.mono ?_
  rintro e w3 ⟨a3, c3, rfl, t3, _, _, _, hb3⟩
  have hbel3 := hbel2.trans (hb3.mono hbel2.size)
  have hT3 := HT.out.below hbel3 (Nat.le_refl _)
  clear htk et hl2 hB2 hT2 hb2 hb0
  go_wp2_with fail
  refine (Frame_any 0 none 0 [] w3 hT3 (by decide) (Txt.nil _ _) (by simp)).mono ?_
  rintro e w4 ⟨rfl, hB4, hb4⟩
  have hbel4 := hbel3.trans (hb4.mono hbel3.size)
  have t3' := t3.below hb4
  have hB4l := frame_length 0 []
  have hown4 := own_of_blk hB4 hbel3.size (by rw [hB4l]; decide)
  rw [hB4l] at hown4
  obtain ⟨F0, hF0⟩ : ∃ F, F = frameOf 0 [] := ⟨_, rfl⟩
  rw [← hF0] at hown4 hB4
  have HF0 := Lib.hid hF0
  clear hF0 hB4l hb3 hb4 hT3
  have t5 : Txt (w4.alloc (.cells #[.int .u8 120] 5 (1, 2))) (some ⟨w4.heap.size, 0, none⟩) [120] := lit_txt w4 [120] _ rfl _ _
  have hb5 : Below w4.heap.size w4 (w4.alloc (.cells #[.int .u8 120] 5 (1, 2))) := (Below.refl _ _).alloc (Nat.le_refl _) _
  go_wp2_with fail
  have hbel5 := hbel4.trans (hb5.mono hbel4.size)
  refine (Frame_any 1 (some ⟨w4.heap.size, 0, none⟩) 1 [120] _ (HT.out.below hbel5 (Nat.le_refl _)) (by decide) t5 (by simp)).mono ?_
  generalize hw5 : w4.alloc (.cells #[.int .u8 120] 5 (1, 2)) = w5 at hb5 hbel5
  clear t5 hw5
  rintro e w6 ⟨rfl, hB6, hb6⟩
  have hb46 := hb5.trans (hb6.mono hb5.size)
  have hbel6 := hbel5.trans (hb6.mono hbel5.size)
  have hg4 : w3.heap.size < w4.heap.size := hB4.lt
  have hB4' : Blk w6 w3.heap.size F0 := (hb46.block w3.heap.size hg4).trans hB4
  have hF0l : F0.length = 17 := by rw [HF0.out]; exact frame_length 0 []
  have hown6 : w6.ownsRow w.heap.size 5 1 (.slice (some ⟨w3.heap.size, 0, none⟩) 17 17) 17 (Lib.byteCells F0) := by
    have h := own_of_blk hB4' hbel3.size (by rw [hF0l]; decide)
    rwa [hF0l] at h
  have t6 := hB6.txt
  have hF1l : (frameOf 1 [120]).length = 18 := frame_length 1 [120]
  obtain ⟨F1, hF1⟩ : ∃ F, F = frameOf 1 [120] := ⟨_, rfl⟩
  rw [← hF1] at t6 hF1l
  have HF1 := Lib.hid hF1
  clear hF1 hB6 hB4 hB4' hown4 hb5 hb6
  go_wp2_with (at_builtin; refine wpList_append_txt _ rfl (.tmp 15) (.tmp 18) 25 rfl w.heap.size 5 i0 Tryd.underlying25 hi hz0 hz1 hz2 _ 17 (Lib.byteCells F0) rfl hown6 (some ⟨w5.heap.size, 0, none⟩) 18 F1 (by rw [hF1l]; rfl) t6 ?c1 ?c2 ?_)
  case c1 => rw [hF1l]; omega
  case c2 => exact hbel6.size
  intro v7 w7 hown7 hg7
  have hbel7 : Below w.heap.size w w7 := hbel6.grown hg7 hbel6.size (fun k hk => (hown6.lt k hk).1)
  have hlen7 : (F0 ++ F1).length = 35 := by rw [List.length_append, hF0l, hF1l]
  rw [← hlen7, ← Lib.byteCells_append] at hown7
  obtain ⟨a7, c7, rfl, t7, hc7, hm7⟩ := own_form hown7
  have hal := All_any a7 c7 (F0 ++ F1) 0 w7 (HT.out.below hbel7 (Nat.le_refl _)) (by decide) t7 hc7 hm7 (by rw [hlen7]; decide)
  have e2 : all1 (F0 ++ F1) 0 = ([[], [120]], 35) := by rw [HF0.out, HF1.out]; exact all2
  rw [e2, hlen7] at hal
  rw [hlen7]
  have t37 : Txt w7 a3 [97, 98] := (t3'.below hb46).keep hg7.size (fun b o e => by
    subst e
    obtain ⟨b', o', e', hlt, _⟩ := t3 (by simp)
    simp only [Option.some.injEq, Addr.mk.injEq, and_true] at e'
    exact hg7.block b (by have := hb46.size; omega) (by
      intro e2
      have hb3 : b = w3.heap.size := by simpa [Value.ownBlock] using e2
      omega))
  clear hown7 hown6 t6 t7 t3 t3'
  go_wp2_with fail
  refine hal.mono ?_
  rintro e w8 ⟨v8, xs, rfl, hown8, htx8, hb8⟩
  have hbel8 := hbel7.trans (hb8.mono hbel7.size)
  obtain ⟨a8, c8, rfl, hc8, hm8, hg8⟩ := row_form hown8
  obtain ⟨g8, rfl, hg8b, hg8lt, hcell8⟩ := hg8 (by simp)
  obtain ⟨a9, c9, hx1, t9, _⟩ := htx8.2 1 (by simp)
  have hcell := hcell8 1 (by simp)
  rw [hx1] at hcell
  have t37' := t37.below hb8
  have hc2 : 2 ≤ c8 := hc8
  clear hcell8 hg8 hx1 hown8 htx8 hal e2 hg7
  go_wp2_with fail
  have hb9 : Below w8.heap.size w8 (w8.alloc (.cells #[.int .u8 49, .int .u8 50, .int .u8 51, .int .u8 52, .int .u8 53, .int .u8 54, .int .u8 55, .int .u8 56, .int .u8 57] 5 (9, 10))) := (Below.refl _ _).alloc (Nat.le_refl _) _
  have t10 : Txt (w8.alloc (.cells #[.int .u8 49, .int .u8 50, .int .u8 51, .int .u8 52, .int .u8 53, .int .u8 54, .int .u8 55, .int .u8 56, .int .u8 57] 5 (9, 10))) (some ⟨w8.heap.size, 0, none⟩) [49, 50, 51, 52, 53, 54, 55, 56, 57] := lit_txt w8 [49, 50, 51, 52, 53, 54, 55, 56, 57] _ rfl _ _
  generalize w8.alloc (.cells #[.int .u8 49, .int .u8 50, .int .u8 51, .int .u8 52, .int .u8 53, .int .u8 54, .int .u8 55, .int .u8 56, .int .u8 57] 5 (9, 10)) = w9 at hb9 t10
  have hbel9 := hbel8.trans (hb9.mono hbel8.size)
  refine (Crc_any (some ⟨w8.heap.size, 0, none⟩) 9 [49, 50, 51, 52, 53, 54, 55, 56, 57] w9 (HT.out.below hbel9 (Nat.le_refl _)) t10 (by decide)).mono ?_
  rw [crc9]
  rintro e w10 ⟨rfl, rfl⟩
  have hcell9 : w9.cell? ⟨g8, 1, none⟩ = some (.slice a9 1 c9) := (hb9.cell (p := ⟨g8, 1, none⟩) hg8lt).trans hcell
  have k1 : (convert 25 9 (.slice a3 2 c3)).run Tryd.prog w9 = .ok (.string ⟨#[97, 98]⟩) w9 := run_string (P := Tryd.prog) w9 25 5 9 Tryd.underlying25 Tryd.underlying5 Tryd.underlying9 a3 [97, 98] c3 (t37'.below hb9)
  have k2 : (convert 25 9 (.slice a9 1 c9)).run Tryd.prog w9 = .ok (.string ⟨#[120]⟩) w9 := run_string (P := Tryd.prog) w9 25 5 9 Tryd.underlying25 Tryd.underlying5 Tryd.underlying9 a9 [120] c9 (t9.below hb9)
  clear t10 hb9 t37' t37 t9 hcell hg8lt hg8b hb8 hm8 hc8
  go_wp2_with fail
  go_ret
  exact ⟨rfl, hbel9⟩

end Go.Proofs.YtahffcbinpkdpaaDoor
