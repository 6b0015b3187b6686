/-
  What package lex's nameOf, numberOf and firstSign do.
-/
import Derived.Test.YtolcaebdmapfbaaDoorLwd
namespace Go.Proofs.YtolcaebdmapfbaaDoor
open Go Go.RowKit

/-- A call hands back a word; older memory is as it was. -/
def GivesWord (w : World) (v : Value) (e : Ending) (w' : World) : Prop := e = .returned v ∧ Below w.heap.size w w'

def nameV (s : ByteArray) : Value := if 24 < s.size then noWord else if keptB s.data.toList = true then wordV 2 s 0 0 else wordV 1 s 0 0

set_option maxHeartbeats 2000000 in
set_option maxRecDepth 100000 in
theorem nameOf_any (s : ByteArray) (w : World) (hs : s.size ≤ 140737488351232) : Calls Tryd.prog 23 #[.string s] w (GivesWord w (nameV s)) := by
  have hz := heap_alloc_new w (.cells #[.int .i64 0, .string ⟨#[]⟩, .int .i64 0, .int .i64 0] 35)
  have hb0 : Below w.heap.size w (w.alloc (.cells #[.int .i64 0, .string ⟨#[]⟩, .int .i64 0, .int .i64 0] 35)) := (Below.refl _ _).alloc (Nat.le_refl _) _
  have H1 := Lib.hid hz
  have H2 := Lib.hid size_word
  have H3 := Lib.hid hb0
  clear hz hb0
  unfold nameV
  by_cases h1 : 24 < s.size
  · rw [if_pos h1]
    have d1 : decide ((24 : Int) < (s.size : Int)) = true := by simp; omega
    go_enter Tryd.func23, Tryd.ntmps23
    go_wp2_with (refine wpList_store_row rfl 35 (.tmp 2) (.tmp 7) rfl w.heap.size #[.int .i64 0, .string ⟨#[]⟩, .int .i64 0, .int .i64 0] rfl rfl 35 _ H1.out H2.out rfl (word_one _ _ _ _) ?_)
    exact bodyPost_ret (v := noWord) (results_cell_row (p := 2) (ty := 35) rfl _ _ w.heap.size 35 #[.int .i64 0, .string ⟨#[]⟩, .int .i64 0, .int .i64 0] (0, 0) _ rfl (setRow_heap _ w.heap.size _ _ _ _ H1.out) Tryd.underlying35 rfl H2.out) rfl ⟨rfl, below_setRow H3.out (Nat.le_refl _) _⟩
  · rw [if_neg h1]
    have d1 : decide ((24 : Int) < (s.size : Int)) = false := by simp; omega
    have hk := Kept_any s
    have hw := fun k W => word_any k 0 s W (by omega)
    obtain ⟨b, hb⟩ : ∃ b, b = keptB s.data.toList := ⟨_, rfl⟩
    rw [← hb] at hk ⊢
    have HW := Lib.hid hw
    have HK := Lib.hid hk
    clear hw hk hb
    cases b
    · rw [if_neg (by decide)]
      go_enter Tryd.func23, Tryd.ntmps23
      go_wp2_with fail
      refine (HK.out _).mono ?_
      rintro e w1 ⟨rfl, rfl⟩
      go_wp2_with fail
      refine (HW.out 1 _).mono ?_
      rintro e w2 ⟨rfl, hb2⟩
      have hblk := (hb2.block w.heap.size (by simp)).trans H1.out
      have hbel : Below w.heap.size w w2 := H3.out.trans (hb2.mono H3.out.size)
      have H4 := Lib.hid hblk
      have H5 := Lib.hid hbel
      clear hblk hbel hb2
      unfold wordV
      go_wp2_with (refine wpList_store_row rfl 35 (.tmp 2) (.tmp 14) rfl w.heap.size #[.int .i64 1, .string s, .int .i64 0, .int .i64 0] rfl rfl 35 _ H4.out H2.out rfl (word_one _ _ _ _) ?_)
      exact bodyPost_ret (v := wordV 1 s 0 0) (results_cell_row (p := 2) (ty := 35) rfl _ _ w.heap.size 35 #[.int .i64 1, .string s, .int .i64 0, .int .i64 0] (0, 0) _ rfl (setRow_heap w2 w.heap.size _ _ _ _ H4.out) Tryd.underlying35 rfl H2.out) rfl ⟨rfl, below_setRow H5.out (Nat.le_refl _) _⟩
    · rw [if_pos rfl]
      go_enter Tryd.func23, Tryd.ntmps23
      go_wp2_with fail
      refine (HK.out _).mono ?_
      rintro e w1 ⟨rfl, rfl⟩
      go_wp2_with fail
      refine (HW.out 2 _).mono ?_
      rintro e w2 ⟨rfl, hb2⟩
      have hblk := (hb2.block w.heap.size (by simp)).trans H1.out
      have hbel : Below w.heap.size w w2 := H3.out.trans (hb2.mono H3.out.size)
      have H4 := Lib.hid hblk
      have H5 := Lib.hid hbel
      clear hblk hbel hb2
      unfold wordV
      go_wp2_with (refine wpList_store_row rfl 35 (.tmp 2) (.tmp 12) rfl w.heap.size #[.int .i64 2, .string s, .int .i64 0, .int .i64 0] rfl rfl 35 _ H4.out H2.out rfl (word_one _ _ _ _) ?_)
      exact bodyPost_ret (v := wordV 2 s 0 0) (results_cell_row (p := 2) (ty := 35) rfl _ _ w.heap.size 35 #[.int .i64 2, .string s, .int .i64 0, .int .i64 0] (0, 0) _ rfl (setRow_heap w2 w.heap.size _ _ _ _ H4.out) Tryd.underlying35 rfl H2.out) rfl ⟨rfl, below_setRow H5.out (Nat.le_refl _) _⟩
end Go.Proofs.YtolcaebdmapfbaaDoor
