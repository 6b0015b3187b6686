/-
  What package lex's word does.
-/
import Derived.Test.YtolcaebdmapfbaaDoorLrn
import Derived.Test.YtolcaebdmapfbaaDoorLkp
import Derived.Test.YtolcaebdmapfbaaDoorInf
import Derived.Laws.Rows
namespace Go.Proofs.YtolcaebdmapfbaaDoor
open Go Go.RowKit

/-- A word's value. -/
def wordV (k : Int) (s : ByteArray) (n a : Int) : Value := .agg #[.int .i64 k, .string s, .int .i64 n, .int .i64 a]
def noWord : Value := wordV 0 ByteArray.empty 0 0

theorem Clone_any (s : ByteArray) (w : World) (hs : s.size ≤ 281474976710656) : Calls Tryd.prog 36 #[.string s] w fun e w' => e = .returned (.string s) ∧ Below w.heap.size w w' := by
  have h := Tryd.stringslite_Clone s w hs
  go_enter Tryd.func36, Tryd.ntmps36
  go_wp2_with fail
  refine h.mono ?_
  rintro e w1 ⟨rfl, hb⟩
  go_wp2_with fail
  go_ret
  exact ⟨rfl, hb⟩

theorem word_one (k : Int) (s : ByteArray) (n a : Int) : (#[.int .i64 k, .string s, .int .i64 n, .int .i64 a] : Array Value).all (·.oneCell') = true := by simp [Value.oneCell']
theorem size_word : (Tryd.prog.info? 35).map (·.size) = some 4 := by kernel_rfl

set_option maxHeartbeats 1000000 in
set_option maxRecDepth 100000 in
theorem word_any (k n : Int) (s : ByteArray) (w : World) (hs : s.size ≤ 281474976710656) : Calls Tryd.prog 32 #[.int .i64 k, .string s, .int .i64 n] w fun e w' => e = .returned (wordV k s n 0) ∧ Below w.heap.size w w' := by
  have hc := fun W => Clone_any s W hs
  have HC := Lib.hid hc
  clear hc
  go_enter Tryd.func32, Tryd.ntmps32
  go_wp2_with fail
  refine (HC.out _).mono ?_
  rintro e w1 ⟨rfl, hb⟩
  have hblk := (hb.block w.heap.size (by simp)).trans (heap_alloc_new w _)
  have hbel : Below w.heap.size w w1 := ((Below.refl _ _).alloc (Nat.le_refl _) _).trans (hb.mono (by simp))
  clear hb
  have H1 := Lib.hid hblk
  have H2 := Lib.hid size_word
  clear hblk
  go_wp2_with (refine wpList_store_row rfl 35 (.tmp 6) (.tmp 11) rfl w.heap.size #[.int .i64 k, .string s, .int .i64 n, .int .i64 0] rfl rfl 35 _ H1.out H2.out rfl (word_one _ _ _ _) ?_)
  exact bodyPost_ret (v := wordV k s n 0) (results_cell_row (p := 6) (ty := 35) rfl _ _ w.heap.size 35 #[.int .i64 k, .string s, .int .i64 n, .int .i64 0] (0, 0) _ rfl (setRow_heap w1 w.heap.size _ _ _ _ H1.out) Tryd.underlying35 rfl H2.out) rfl ⟨rfl, below_setRow hbel (Nat.le_refl _) _⟩
end Go.Proofs.YtolcaebdmapfbaaDoor
