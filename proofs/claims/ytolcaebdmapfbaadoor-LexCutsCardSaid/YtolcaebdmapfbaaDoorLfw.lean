/-
  What package lex's firstWord and line do.
-/
import Derived.Test.YtolcaebdmapfbaaDoorLsg
namespace Go.Proofs.YtolcaebdmapfbaaDoor
open Go Go.RowKit

def firstV (s : ByteArray) : Value :=
  if isL (s.data.toList.headD 0).toNat = true then nameV (s.extract 0 (runLen isN s.data.toList))
  else if isD (s.data.toList.headD 0).toNat = true then numV (s.extract 0 (runLen isD s.data.toList))
  else signV s

theorem runLen_pos (p : Nat → Bool) (l : List UInt8) (h : 0 < l.length) (hp : p (l.headD 0).toNat = true) : 0 < runLen p l := by
  cases l with
  | nil => simp at h
  | cons c r =>
    have hp2 : p c.toNat = true := hp
    unfold runLen; rw [List.takeWhile_cons, if_pos hp2, List.length_cons]; omega

set_option maxHeartbeats 2000000 in
set_option maxRecDepth 100000 in
theorem firstWord_any (s : ByteArray) (w : World) (hs : s.size ≤ 140737488351232) (hs0 : 0 < s.size) (hE : Errs w) : Calls Tryd.prog 14 #[.string s] w (GivesWord w (firstV s)) := by
  have hz := heap_alloc_new w (.cells #[.int .i64 0, .string ⟨#[]⟩, .int .i64 0, .int .i64 0] 35)
  have hb0 : Below w.heap.size w (w.alloc (.cells #[.int .i64 0, .string ⟨#[]⟩, .int .i64 0, .int .i64 0] 35)) := (Below.refl _ _).alloc (Nat.le_refl _) _
  have hE0 := hE.below hb0 (Nat.le_refl _)
  have hl := fun W => isLetter_any s[0].toNat W
  have hd := fun W => isDigit_any s[0].toNat W
  have hrn := fun W => run_name s W hs
  have hrd := fun W => run_digit s W hs
  have hhd := head_get s hs0
  have hlen : s.data.toList.length = s.size := by simp
  have hnm := fun W => nameOf_any (s.extract 0 (runLen isN s.data.toList)) W (by rw [ByteArray.size_extract]; omega)
  have hsg := fun W => firstSign_any s W hs hs0
  have hnu : isD s[0].toNat = true → ∀ W, Errs W → Calls Tryd.prog 27 #[.string (s.extract 0 (runLen isD s.data.toList))] W (GivesWord W (numV (s.extract 0 (runLen isD s.data.toList)))) := fun h W hE => by
    have hp := runLen_pos isD s.data.toList (by rw [hlen]; exact hs0) (by rw [hhd]; exact h)
    have hle := runLen_le isD s.data.toList
    exact numberOf_any _ W (by rw [ByteArray.size_extract]; omega) (by rw [ByteArray.size_extract]; omega) hE
  have hv : firstV s = if isL s[0].toNat = true then nameV (s.extract 0 (runLen isN s.data.toList)) else if isD s[0].toNat = true then numV (s.extract 0 (runLen isD s.data.toList)) else signV s := by unfold firstV; rw [hhd]
  have hword : ∀ v, (v = nameV (s.extract 0 (runLen isN s.data.toList)) ∨ v = numV (s.extract 0 (runLen isD s.data.toList)) ∨ v = signV s) → ∃ k t n a, v = wordV k t n a := by
    have hno : ∃ k t n a, noWord = wordV k t n a := ⟨_, _, _, _, rfl⟩
    rintro v (rfl | rfl | rfl)
    · unfold nameV; split
      · exact hno
      · split <;> exact ⟨_, _, _, _, rfl⟩
    · unfold numV; split
      · exact hno
      · split
        · exact ⟨_, _, _, _, rfl⟩
        · exact hno
    · unfold signV; split
      · exact ⟨_, _, _, _, rfl⟩
      · split
        · exact ⟨_, _, _, _, rfl⟩
        · exact hno
  obtain ⟨k1, t1, n1, a1, hw1⟩ := hword _ (.inl rfl)
  obtain ⟨k2, t2, n2, a2, hw2⟩ := hword _ (.inr (.inl rfl))
  obtain ⟨k3, t3, n3, a3, hw3⟩ := hword _ (.inr (.inr rfl))
  have hnil : ∀ k t n a, wordV k t n a = .agg #[.int .i64 k, .string t, .int .i64 n, .int .i64 a] := fun _ _ _ _ => rfl
  rw [hw1] at hnm
  rw [hw2] at hnu
  rw [hw3] at hsg
  rw [hw1, hw2, hw3] at hv
  generalize s.extract 0 (runLen isN s.data.toList) = sn at *
  generalize s.extract 0 (runLen isD s.data.toList) = sd at *
  have H1 := Lib.hid hz
  have H2 := Lib.hid size_word
  have H3 := Lib.hid hb0
  have HE := Lib.hid hE0
  have HL := Lib.hid hl
  have HD := Lib.hid hd
  have HRN := Lib.hid hrn
  have HRD := Lib.hid hrd
  have HNM := Lib.hid hnm
  have HSG := Lib.hid hsg
  clear hz hb0 hE0 hE hl hd hrn hrd hnm hsg hhd hlen hw1 hw2 hw3 hword hnil
  obtain ⟨bl, hbl⟩ : ∃ b, b = isL s[0].toNat := ⟨_, rfl⟩
  obtain ⟨bd, hbd⟩ : ∃ b, b = isD s[0].toNat := ⟨_, rfl⟩
  rw [← hbl] at HL hv
  rw [← hbd] at HD hv hnu
  clear hbl hbd
  cases bl
  · cases bd
    · have HV := Lib.hid (hv.trans (by rw [if_neg (by decide), if_neg (by decide)]) : firstV s = wordV k3 t3 n3 a3)
      clear hv hnu
      go_enter Tryd.func14, Tryd.ntmps14
      go_wp2_with fail
      refine (HL.out _).mono ?_
      rintro e w1 ⟨rfl, rfl⟩
      go_wp2_with fail
      refine (HD.out _).mono ?_
      rintro e w1 ⟨rfl, rfl⟩
      go_wp2_with fail
      refine (HSG.out _).mono ?_
      rintro e w2 ⟨rfl, hb2⟩
      have hblk := (hb2.block w.heap.size (by simp)).trans H1.out
      have hbel : Below w.heap.size w w2 := H3.out.trans (hb2.mono H3.out.size)
      have H4 := Lib.hid hblk
      have H5 := Lib.hid hbel
      clear hblk hbel hb2
      unfold wordV
      go_wp2_with (refine wpList_store_row rfl 35 (.tmp 2) (.tmp 19) rfl w.heap.size #[.int .i64 k3, .string t3, .int .i64 n3, .int .i64 a3] rfl rfl 35 _ H4.out H2.out rfl (word_one _ _ _ _) ?_)
      exact bodyPost_ret (v := wordV k3 t3 n3 a3) (results_cell_row (p := 2) (ty := 35) rfl _ _ w.heap.size 35 #[.int .i64 k3, .string t3, .int .i64 n3, .int .i64 a3] (0, 0) _ rfl (setRow_heap w2 w.heap.size _ _ _ _ H4.out) Tryd.underlying35 rfl H2.out) rfl ⟨by rw [HV.out], below_setRow H5.out (Nat.le_refl _) _⟩
    · have HV := Lib.hid (hv.trans (by rw [if_neg (by decide), if_pos rfl]) : firstV s = wordV k2 t2 n2 a2)
      have HNU := Lib.hid (hnu rfl)
      clear hv hnu
      go_enter Tryd.func14, Tryd.ntmps14
      go_wp2_with fail
      refine (HL.out _).mono ?_
      rintro e w1 ⟨rfl, rfl⟩
      go_wp2_with fail
      refine (HD.out _).mono ?_
      rintro e w1 ⟨rfl, rfl⟩
      go_wp2_with fail
      refine (HRD.out _).mono ?_
      rintro e w1 ⟨rfl, rfl⟩
      go_wp2_with fail
      refine (HNU.out _ HE.out).mono ?_
      rintro e w2 ⟨rfl, hb2⟩
      have hblk := (hb2.block w.heap.size (by simp)).trans H1.out
      have hbel : Below w.heap.size w w2 := H3.out.trans (hb2.mono H3.out.size)
      have H4 := Lib.hid hblk
      have H5 := Lib.hid hbel
      clear hblk hbel hb2
      unfold wordV
      go_wp2_with (refine wpList_store_row rfl 35 (.tmp 2) (.tmp 17) rfl w.heap.size #[.int .i64 k2, .string t2, .int .i64 n2, .int .i64 a2] rfl rfl 35 _ H4.out H2.out rfl (word_one _ _ _ _) ?_)
      exact bodyPost_ret (v := wordV k2 t2 n2 a2) (results_cell_row (p := 2) (ty := 35) rfl _ _ w.heap.size 35 #[.int .i64 k2, .string t2, .int .i64 n2, .int .i64 a2] (0, 0) _ rfl (setRow_heap w2 w.heap.size _ _ _ _ H4.out) Tryd.underlying35 rfl H2.out) rfl ⟨by rw [HV.out], below_setRow H5.out (Nat.le_refl _) _⟩
  · have HV := Lib.hid (hv.trans (by rw [if_pos rfl]) : firstV s = wordV k1 t1 n1 a1)
    clear hv hnu
    go_enter Tryd.func14, Tryd.ntmps14
    go_wp2_with fail
    refine (HL.out _).mono ?_
    rintro e w1 ⟨rfl, rfl⟩
    go_wp2_with fail
    refine (HRN.out _).mono ?_
    rintro e w1 ⟨rfl, rfl⟩
    go_wp2_with fail
    refine (HNM.out _).mono ?_
    rintro e w2 ⟨rfl, hb2⟩
    have hblk := (hb2.block w.heap.size (by simp)).trans H1.out
    have hbel : Below w.heap.size w w2 := H3.out.trans (hb2.mono H3.out.size)
    have H4 := Lib.hid hblk
    have H5 := Lib.hid hbel
    clear hblk hbel hb2
    unfold wordV
    go_wp2_with (refine wpList_store_row rfl 35 (.tmp 2) (.tmp 11) rfl w.heap.size #[.int .i64 k1, .string t1, .int .i64 n1, .int .i64 a1] rfl rfl 35 _ H4.out H2.out rfl (word_one _ _ _ _) ?_)
    exact bodyPost_ret (v := wordV k1 t1 n1 a1) (results_cell_row (p := 2) (ty := 35) rfl _ _ w.heap.size 35 #[.int .i64 k1, .string t1, .int .i64 n1, .int .i64 a1] (0, 0) _ rfl (setRow_heap w2 w.heap.size _ _ _ _ H4.out) Tryd.underlying35 rfl H2.out) rfl ⟨by rw [HV.out], below_setRow H5.out (Nat.le_refl _) _⟩

/-- How many bytes a text's first line has. -/
def lineN (l : List UInt8) : Nat := (l.takeWhile fun c => !(c == 10)).length
theorem lineN_le (l : List UInt8) : lineN l ≤ l.length := (List.takeWhile_sublist _).length_le
theorem lineN_index : ∀ l : List UInt8, (Lib.indexByte l 10 = -1 → lineN l = l.length) ∧ (0 ≤ Lib.indexByte l 10 → Lib.indexByte l 10 = (lineN l : Int))
  | [] => by simp [Lib.indexByte, lineN]
  | b :: l => by
    obtain ⟨h1, h2⟩ := lineN_index l
    have g := indexByte_ge 10 l
    unfold Lib.indexByte
    by_cases e : b = 10
    · subst e
      simp [lineN]
    · have e1 : (b == (10 : UInt8)) = false := by simpa using e
      have hl : lineN (b :: l) = lineN l + 1 := by unfold lineN; rw [List.takeWhile_cons, e1]; rfl
      rw [e1, hl]
      simp only [Bool.false_eq_true, if_false]
      by_cases i : Lib.indexByte l 10 = -1
      · rw [i]
        simp only [beq_self_eq_true, if_true]
        exact ⟨fun _ => by rw [h1 i, List.length_cons], fun h => by omega⟩
      · have i1 : (Lib.indexByte l 10 == -1) = false := by simpa using i
        rw [i1]
        simp only [Bool.false_eq_true, if_false]
        exact ⟨fun h => by omega, fun _ => by rw [h2 (by omega)]; omega⟩

set_option maxRecDepth 100000 in
theorem line_any (s : ByteArray) (w : World) (hs : s.size ≤ 140737488351232) : Calls Tryd.prog 21 #[.string s] w fun e w' => e = .returned (.int .i64 (lineN s.data.toList)) ∧ w' = w := by
  have hix := Tryd.strings_Index_one s 10 w
  obtain ⟨h1, h2⟩ := lineN_index s.data.toList
  have hge := indexByte_ge 10 s.data.toList
  have hlen : s.data.toList.length = s.size := by simp
  rw [hlen] at h1
  obtain ⟨z, hz⟩ : ∃ z, z = Lib.indexByte s.data.toList 10 := ⟨_, rfl⟩
  rw [← hz] at hix h1 h2 hge
  obtain ⟨L, hL⟩ : ∃ L, L = lineN s.data.toList := ⟨_, rfl⟩
  rw [← hL] at h1 h2 ⊢
  clear hz hL hlen
  by_cases h : z = -1
  · have e := h1 h
    subst e h
    clear h1 h2 hge
    go_enter Tryd.func21, Tryd.ntmps21
    go_wp2_with fail
    refine hix.mono ?_
    rintro e w1 ⟨rfl, rfl⟩
    go_wp2_with fail
    go_ret
    exact ⟨rfl, rfl⟩
  · have e := h2 (by omega)
    subst e
    clear h1 h2
    have d : decide ((0 : Int) ≤ (L : Int)) = true := by simp
    go_enter Tryd.func21, Tryd.ntmps21
    go_wp2_with fail
    refine hix.mono ?_
    rintro e w1 ⟨rfl, rfl⟩
    go_wp2_with fail
    go_ret
    exact ⟨rfl, rfl⟩
end Go.Proofs.YtolcaebdmapfbaaDoor
