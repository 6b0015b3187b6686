/-
  What package lex's firstSign does.
-/
import Derived.Test.YtolcaebdmapfbaaDoorLnu
namespace Go.Proofs.YtolcaebdmapfbaaDoor
open Go Go.RowKit

def SIGNS : List UInt8 := [40, 41, 58, 59, 44, 61, 43, 45, 42, 47, 60, 62]
def TWO : List (List UInt8) := [[60, 61], [62, 61], [60, 62], [45, 62]]
def signV (s : ByteArray) : Value :=
  if 1 < s.size ∧ TWO.contains (s.extract 0 2).toList = true then wordV 4 (s.extract 0 2) 0 0
  else if SIGNS.contains (s.data.toList.headD 0) = true then wordV 4 (s.extract 0 1) 0 0 else noWord

theorem indexByte_ge (c : UInt8) : ∀ l : List UInt8, -1 ≤ Lib.indexByte l c
  | [] => by simp [Lib.indexByte]
  | b :: l => by
    have h := indexByte_ge c l
    unfold Lib.indexByte
    split
    · omega
    · split <;> omega
theorem indexByte_in (c : UInt8) : ∀ l : List UInt8, (0 ≤ Lib.indexByte l c) ↔ l.contains c = true
  | [] => by simp [Lib.indexByte]
  | b :: l => by
    have h := indexByte_in c l
    have g := indexByte_ge c l
    rw [List.contains_cons]
    unfold Lib.indexByte
    by_cases e : b = c
    · subst e; simp
    · have e1 : (b == c) = false := by simpa using e
      have e2 : (c == b) = false := by simpa using fun h => e h.symm
      rw [e1, e2, Bool.false_or]
      simp only [Bool.false_eq_true, if_false]
      by_cases i : Lib.indexByte l c = -1
      · rw [i] at h ⊢
        simp only [beq_self_eq_true, if_true]
        rw [← h]
      · have i1 : (Lib.indexByte l c == -1) = false := by simpa using i
        rw [i1, ← h]
        simp only [Bool.false_eq_true, if_false]
        omega
theorem head_get (s : ByteArray) (h : 0 < s.size) : s.data.toList.headD 0 = s[0] := by
  have h' : 0 < s.data.toList.length := by simpa using h
  rw [List.headD_eq_head?_getD, List.head?_eq_getElem?, List.getElem?_eq_getElem h']
  rfl

set_option maxHeartbeats 4000000 in
set_option maxRecDepth 100000 in
theorem firstSign_any (s : ByteArray) (w : World) (hs : s.size ≤ 140737488351232) (hs0 : 0 < s.size) : Calls Tryd.prog 28 #[.string s] w (GivesWord w (signV s)) := by
  have hz := heap_alloc_new w (.cells #[.int .i64 0, .string ⟨#[]⟩, .int .i64 0, .int .i64 0] 35)
  have hb0 : Below w.heap.size w (w.alloc (.cells #[.int .i64 0, .string ⟨#[]⟩, .int .i64 0, .int .i64 0] 35)) := (Below.refl _ _).alloc (Nat.le_refl _) _
  have hw1 := fun W => word_any 4 0 (s.extract 0 1) W (by rw [ByteArray.size_extract]; omega)
  have hw2 := fun W => word_any 4 0 (s.extract 0 2) W (by rw [ByteArray.size_extract]; omega)
  have hix := fun W => Tryd.strings_IndexByte ⟨#[40, 41, 58, 59, 44, 61, 43, 45, 42, 47, 60, 62]⟩ (s[0].toNat : Int) W
  have hiff := indexByte_in s[0] SIGNS
  have hge := indexByte_ge s[0] SIGNS
  have hhd := head_get s hs0
  have e8 : (s[0].toNat : Int).toNat.toUInt8 = s[0] := by simp
  rw [e8] at hix
  have esig : (⟨#[40, 41, 58, 59, 44, 61, 43, 45, 42, 47, 60, 62]⟩ : ByteArray).data.toList = SIGNS := rfl
  rw [esig] at hix
  have hv1 : ¬ (1 < s.size ∧ TWO.contains (s.extract 0 2).toList = true) → signV s = if (0 : Int) ≤ Lib.indexByte SIGNS s[0] then wordV 4 (s.extract 0 1) 0 0 else noWord := fun h => by
    unfold signV
    rw [if_neg h, hhd]
    by_cases g : (0 : Int) ≤ Lib.indexByte SIGNS s[0]
    · rw [if_pos g, if_pos (hiff.1 g)]
    · rw [if_neg g, if_neg (fun h => g (hiff.2 h))]
  have hv2 : (1 < s.size ∧ TWO.contains (s.extract 0 2).toList = true) → signV s = wordV 4 (s.extract 0 2) 0 0 := fun h => by unfold signV; rw [if_pos h]
  obtain ⟨z, hzz⟩ : ∃ z, z = Lib.indexByte SIGNS s[0] := ⟨_, rfl⟩
  rw [← hzz] at hix hge hv1
  have H1 := Lib.hid hz
  have H2 := Lib.hid size_word
  have H3 := Lib.hid hb0
  have HW1 := Lib.hid hw1
  have HW2 := Lib.hid hw2
  have HIX := Lib.hid hix
  have HV1 := Lib.hid hv1
  have HV2 := Lib.hid hv2
  clear hz hb0 hw1 hw2 hix hiff hhd e8 esig hv1 hv2 hzz
  by_cases h1 : 1 < s.size
  · have d1 : decide ((1 : Int) < (s.size : Int)) = true := by simp; omega
    have hsz2 : (s.extract 0 2).size ≤ 2 := by rw [ByteArray.size_extract]; omega

    by_cases m0 : ((s.extract 0 2).toList == [60, 61]) = true
    · have hval := HV2.out ⟨h1, by rw [show (s.extract 0 2).toList = [60, 61] from by simpa using m0]; rfl⟩
      have HVAL := Lib.hid hval
      clear hval
      go_enter Tryd.func28, Tryd.ntmps28
      go_wp2_with fail
      refine (HW2.out _).mono ?_
      rintro e w2 ⟨rfl, hb2⟩
      have hblk := (hb2.block w.heap.size (by simp)).trans H1.out
      have hbel : Below w.heap.size w w2 := H3.out.trans (hb2.mono H3.out.size)
      have H4 := Lib.hid hblk
      have H5 := Lib.hid hbel
      clear hblk hbel hb2
      unfold wordV
      go_wp2_with (refine wpList_store_row rfl 35 (.tmp 2) (.tmp 16) rfl w.heap.size #[.int .i64 4, .string (s.extract 0 2), .int .i64 0, .int .i64 0] rfl rfl 35 _ H4.out H2.out rfl (word_one _ _ _ _) ?_)
      exact bodyPost_ret (v := wordV 4 (s.extract 0 2) 0 0) (results_cell_row (p := 2) (ty := 35) rfl _ _ w.heap.size 35 #[.int .i64 4, .string (s.extract 0 2), .int .i64 0, .int .i64 0] (0, 0) _ rfl (setRow_heap w2 w.heap.size _ _ _ _ H4.out) Tryd.underlying35 rfl H2.out) rfl ⟨by rw [HVAL.out], below_setRow H5.out (Nat.le_refl _) _⟩
    have n0 : ((s.extract 0 2).toList == [60, 61]) = false := by simpa using m0
    clear m0
    by_cases m1 : ((s.extract 0 2).toList == [62, 61]) = true
    · have hval := HV2.out ⟨h1, by rw [show (s.extract 0 2).toList = [62, 61] from by simpa using m1]; rfl⟩
      have HVAL := Lib.hid hval
      clear hval
      go_enter Tryd.func28, Tryd.ntmps28
      go_wp2_with fail
      refine (HW2.out _).mono ?_
      rintro e w2 ⟨rfl, hb2⟩
      have hblk := (hb2.block w.heap.size (by simp)).trans H1.out
      have hbel : Below w.heap.size w w2 := H3.out.trans (hb2.mono H3.out.size)
      have H4 := Lib.hid hblk
      have H5 := Lib.hid hbel
      clear hblk hbel hb2
      unfold wordV
      go_wp2_with (refine wpList_store_row rfl 35 (.tmp 2) (.tmp 16) rfl w.heap.size #[.int .i64 4, .string (s.extract 0 2), .int .i64 0, .int .i64 0] rfl rfl 35 _ H4.out H2.out rfl (word_one _ _ _ _) ?_)
      exact bodyPost_ret (v := wordV 4 (s.extract 0 2) 0 0) (results_cell_row (p := 2) (ty := 35) rfl _ _ w.heap.size 35 #[.int .i64 4, .string (s.extract 0 2), .int .i64 0, .int .i64 0] (0, 0) _ rfl (setRow_heap w2 w.heap.size _ _ _ _ H4.out) Tryd.underlying35 rfl H2.out) rfl ⟨by rw [HVAL.out], below_setRow H5.out (Nat.le_refl _) _⟩
    have n1 : ((s.extract 0 2).toList == [62, 61]) = false := by simpa using m1
    clear m1
    by_cases m2 : ((s.extract 0 2).toList == [60, 62]) = true
    · have hval := HV2.out ⟨h1, by rw [show (s.extract 0 2).toList = [60, 62] from by simpa using m2]; rfl⟩
      have HVAL := Lib.hid hval
      clear hval
      go_enter Tryd.func28, Tryd.ntmps28
      go_wp2_with fail
      refine (HW2.out _).mono ?_
      rintro e w2 ⟨rfl, hb2⟩
      have hblk := (hb2.block w.heap.size (by simp)).trans H1.out
      have hbel : Below w.heap.size w w2 := H3.out.trans (hb2.mono H3.out.size)
      have H4 := Lib.hid hblk
      have H5 := Lib.hid hbel
      clear hblk hbel hb2
      unfold wordV
      go_wp2_with (refine wpList_store_row rfl 35 (.tmp 2) (.tmp 16) rfl w.heap.size #[.int .i64 4, .string (s.extract 0 2), .int .i64 0, .int .i64 0] rfl rfl 35 _ H4.out H2.out rfl (word_one _ _ _ _) ?_)
      exact bodyPost_ret (v := wordV 4 (s.extract 0 2) 0 0) (results_cell_row (p := 2) (ty := 35) rfl _ _ w.heap.size 35 #[.int .i64 4, .string (s.extract 0 2), .int .i64 0, .int .i64 0] (0, 0) _ rfl (setRow_heap w2 w.heap.size _ _ _ _ H4.out) Tryd.underlying35 rfl H2.out) rfl ⟨by rw [HVAL.out], below_setRow H5.out (Nat.le_refl _) _⟩
    have n2 : ((s.extract 0 2).toList == [60, 62]) = false := by simpa using m2
    clear m2
    by_cases m3 : ((s.extract 0 2).toList == [45, 62]) = true
    · have hval := HV2.out ⟨h1, by rw [show (s.extract 0 2).toList = [45, 62] from by simpa using m3]; rfl⟩
      have HVAL := Lib.hid hval
      clear hval
      go_enter Tryd.func28, Tryd.ntmps28
      go_wp2_with fail
      refine (HW2.out _).mono ?_
      rintro e w2 ⟨rfl, hb2⟩
      have hblk := (hb2.block w.heap.size (by simp)).trans H1.out
      have hbel : Below w.heap.size w w2 := H3.out.trans (hb2.mono H3.out.size)
      have H4 := Lib.hid hblk
      have H5 := Lib.hid hbel
      clear hblk hbel hb2
      unfold wordV
      go_wp2_with (refine wpList_store_row rfl 35 (.tmp 2) (.tmp 16) rfl w.heap.size #[.int .i64 4, .string (s.extract 0 2), .int .i64 0, .int .i64 0] rfl rfl 35 _ H4.out H2.out rfl (word_one _ _ _ _) ?_)
      exact bodyPost_ret (v := wordV 4 (s.extract 0 2) 0 0) (results_cell_row (p := 2) (ty := 35) rfl _ _ w.heap.size 35 #[.int .i64 4, .string (s.extract 0 2), .int .i64 0, .int .i64 0] (0, 0) _ rfl (setRow_heap w2 w.heap.size _ _ _ _ H4.out) Tryd.underlying35 rfl H2.out) rfl ⟨by rw [HVAL.out], below_setRow H5.out (Nat.le_refl _) _⟩
    have n3 : ((s.extract 0 2).toList == [45, 62]) = false := by simpa using m3
    clear m3
    have hval := HV1.out (by rintro ⟨_, h⟩; unfold TWO at h; simp only [List.contains_cons, List.contains_nil, n0, n1, n2, n3, Bool.or_self, Bool.false_eq_true] at h)
    by_cases hz0 : (0 : Int) ≤ z
    · rw [if_pos hz0] at hval
      have HVAL := Lib.hid hval
      have d9 : decide ((0 : Int) ≤ z) = true := by simpa using hz0
      clear hval
      go_enter Tryd.func28, Tryd.ntmps28
      go_wp2_with fail
      refine (HIX.out _).mono ?_
      rintro e w1 ⟨rfl, rfl⟩
      go_wp2_with fail
      refine (HW1.out _).mono ?_
      rintro e w2 ⟨rfl, hb2⟩
      have hblk := (hb2.block w.heap.size (by simp)).trans H1.out
      have hbel : Below w.heap.size w w2 := H3.out.trans (hb2.mono H3.out.size)
      have H4 := Lib.hid hblk
      have H5 := Lib.hid hbel
      clear hblk hbel hb2
      unfold wordV
      go_wp2_with (refine wpList_store_row rfl 35 (.tmp 2) (.tmp 23) rfl w.heap.size #[.int .i64 4, .string (s.extract 0 1), .int .i64 0, .int .i64 0] rfl rfl 35 _ H4.out H2.out rfl (word_one _ _ _ _) ?_)
      exact bodyPost_ret (v := wordV 4 (s.extract 0 1) 0 0) (results_cell_row (p := 2) (ty := 35) rfl _ _ w.heap.size 35 #[.int .i64 4, .string (s.extract 0 1), .int .i64 0, .int .i64 0] (0, 0) _ rfl (setRow_heap w2 w.heap.size _ _ _ _ H4.out) Tryd.underlying35 rfl H2.out) rfl ⟨by rw [HVAL.out], below_setRow H5.out (Nat.le_refl _) _⟩
    · rw [if_neg hz0] at hval
      have HVAL := Lib.hid hval
      have d9 : decide ((0 : Int) ≤ z) = false := by simpa using hz0
      clear hval
      go_enter Tryd.func28, Tryd.ntmps28
      go_wp2_with fail
      refine (HIX.out _).mono ?_
      rintro e w1 ⟨rfl, rfl⟩
      have H4 := H1
      have H5 := H3
      go_wp2_with (refine wpList_store_row rfl 35 (.tmp 2) (.tmp 24) rfl w.heap.size #[.int .i64 0, .string ⟨#[]⟩, .int .i64 0, .int .i64 0] rfl rfl 35 _ H4.out H2.out rfl (word_one _ _ _ _) ?_)
      exact bodyPost_ret (v := noWord) (results_cell_row (p := 2) (ty := 35) rfl _ _ w.heap.size 35 #[.int .i64 0, .string ⟨#[]⟩, .int .i64 0, .int .i64 0] (0, 0) _ rfl (setRow_heap _ w.heap.size _ _ _ _ H4.out) Tryd.underlying35 rfl H2.out) rfl ⟨by rw [HVAL.out], below_setRow H5.out (Nat.le_refl _) _⟩
  · have d1 : decide ((1 : Int) < (s.size : Int)) = false := by simp; omega
    have hval := HV1.out (fun h => h1 h.1)
    by_cases hz0 : (0 : Int) ≤ z
    · rw [if_pos hz0] at hval
      have HVAL := Lib.hid hval
      have d9 : decide ((0 : Int) ≤ z) = true := by simpa using hz0
      clear hval
      go_enter Tryd.func28, Tryd.ntmps28
      go_wp2_with fail
      refine (HIX.out _).mono ?_
      rintro e w1 ⟨rfl, rfl⟩
      go_wp2_with fail
      refine (HW1.out _).mono ?_
      rintro e w2 ⟨rfl, hb2⟩
      have hblk := (hb2.block w.heap.size (by simp)).trans H1.out
      have hbel : Below w.heap.size w w2 := H3.out.trans (hb2.mono H3.out.size)
      have H4 := Lib.hid hblk
      have H5 := Lib.hid hbel
      clear hblk hbel hb2
      unfold wordV
      go_wp2_with (refine wpList_store_row rfl 35 (.tmp 2) (.tmp 23) rfl w.heap.size #[.int .i64 4, .string (s.extract 0 1), .int .i64 0, .int .i64 0] rfl rfl 35 _ H4.out H2.out rfl (word_one _ _ _ _) ?_)
      exact bodyPost_ret (v := wordV 4 (s.extract 0 1) 0 0) (results_cell_row (p := 2) (ty := 35) rfl _ _ w.heap.size 35 #[.int .i64 4, .string (s.extract 0 1), .int .i64 0, .int .i64 0] (0, 0) _ rfl (setRow_heap w2 w.heap.size _ _ _ _ H4.out) Tryd.underlying35 rfl H2.out) rfl ⟨by rw [HVAL.out], below_setRow H5.out (Nat.le_refl _) _⟩
    · rw [if_neg hz0] at hval
      have HVAL := Lib.hid hval
      have d9 : decide ((0 : Int) ≤ z) = false := by simpa using hz0
      clear hval
      go_enter Tryd.func28, Tryd.ntmps28
      go_wp2_with fail
      refine (HIX.out _).mono ?_
      rintro e w1 ⟨rfl, rfl⟩
      have H4 := H1
      have H5 := H3
      go_wp2_with (refine wpList_store_row rfl 35 (.tmp 2) (.tmp 24) rfl w.heap.size #[.int .i64 0, .string ⟨#[]⟩, .int .i64 0, .int .i64 0] rfl rfl 35 _ H4.out H2.out rfl (word_one _ _ _ _) ?_)
      exact bodyPost_ret (v := noWord) (results_cell_row (p := 2) (ty := 35) rfl _ _ w.heap.size 35 #[.int .i64 0, .string ⟨#[]⟩, .int .i64 0, .int .i64 0] (0, 0) _ rfl (setRow_heap _ w.heap.size _ _ _ _ H4.out) Tryd.underlying35 rfl H2.out) rfl ⟨by rw [HVAL.out], below_setRow H5.out (Nat.le_refl _) _⟩
end Go.Proofs.YtolcaebdmapfbaaDoor
