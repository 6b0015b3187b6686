/-
  What package lex's gap does.
-/
import Derived.Test.YtolcaebdmapfbaaDoorLfw
import Derived.Lib.IndexBytes
namespace Go.Proofs.YtolcaebdmapfbaaDoor
open Go Go.RowKit

def BLANKS : List UInt8 := [32, 9, 10, 13]
/-- How many bytes stand ahead of a text's first word; in a remark (true), or not. -/
def gapS : Bool → List UInt8 → Nat
  | _, [] => 0
  | true, c :: r => if c = 10 then 1 + gapS false r else 1 + gapS true r
  | false, c :: r => if BLANKS.contains c = true then 1 + gapS false r else if c = 45 ∧ r.head? = some 45 then 1 + gapS true r else 0
def gapL (l : List UInt8) : Nat := gapS false l

theorem gapS_le : ∀ (l : List UInt8) (b : Bool), gapS b l ≤ l.length
  | [], b => by cases b <;> simp [gapS]
  | c :: r, true => by
    have h1 := gapS_le r true
    have h2 := gapS_le r false
    rw [gapS, List.length_cons]
    split <;> omega
  | c :: r, false => by
    have h1 := gapS_le r true
    have h2 := gapS_le r false
    rw [gapS, List.length_cons]
    split
    · omega
    · split <;> omega
theorem gapL_le (l : List UInt8) : gapL l ≤ l.length := gapS_le l false
theorem lineN_cons (c : UInt8) (r : List UInt8) (h : c ≠ 10) : lineN (c :: r) = lineN r + 1 := by
  have e : (c == (10 : UInt8)) = false := by simpa using h
  unfold lineN; rw [List.takeWhile_cons, e]; rfl
theorem gapS_true : ∀ l : List UInt8, gapS true l = lineN l + gapS false (l.drop (lineN l))
  | [] => by simp [gapS, lineN]
  | c :: r => by
    by_cases h : c = 10
    · subst h
      have e : lineN (10 :: r) = 0 := by simp [lineN]
      rw [e, gapS, if_pos rfl, List.drop_zero, gapS, if_pos (by decide)]
      omega
    · rw [lineN_cons c r h, gapS, if_neg h, gapS_true r, List.drop_succ_cons]
      omega
theorem gapL_nil : gapL [] = 0 := rfl
theorem gapL_blank (c : UInt8) (r : List UInt8) (h : BLANKS.contains c = true) : gapL (c :: r) = 1 + gapL r := by
  unfold gapL; rw [gapS, if_pos h]
theorem gapL_remark (l : List UInt8) (h : Lib.hasPrefix l [45, 45] = true) : gapL l = lineN l + gapL (l.drop (lineN l)) ∧ 2 ≤ lineN l := by
  unfold Lib.hasPrefix at h
  cases l with
  | nil => simp at h
  | cons a t =>
    cases t with
    | nil => simp at h
    | cons b r =>
      simp only [List.isPrefixOf, Bool.and_eq_true, beq_iff_eq, and_true] at h
      obtain ⟨rfl, rfl⟩ := h
      have e1 := lineN_cons 45 (45 :: r) (by decide)
      have e2 := lineN_cons 45 r (by decide)
      refine ⟨?_, by omega⟩
      unfold gapL
      rw [e1, List.drop_succ_cons, gapS, if_neg (by decide), if_pos ⟨rfl, rfl⟩, gapS_true (45 :: r)]
      omega
theorem gapL_none (c : UInt8) (r : List UInt8) (h1 : ¬ BLANKS.contains c = true) (h2 : Lib.hasPrefix (c :: r) [45, 45] = false) : gapL (c :: r) = 0 := by
  unfold gapL
  rw [gapS, if_neg h1, if_neg]
  rintro ⟨rfl, h⟩
  cases r with
  | nil => simp at h
  | cons b r =>
    simp only [List.head?_cons, Option.some.injEq] at h
    subst h
    simp [Lib.hasPrefix, List.isPrefixOf] at h2

set_option maxHeartbeats 2000000 in
set_option maxRecDepth 100000 in
theorem gap_any (s : ByteArray) (w : World) (hs : s.size ≤ 140737488351232) : Calls Tryd.prog 13 #[.string s] w fun e w' => e = .returned (.int .i64 (gapL s.data.toList)) ∧ w' = w := by
  have hlen : s.data.toList.length = s.size := by simp
  have hix : ∀ (c : UInt8) W, Calls Tryd.prog 19 #[.string ⟨#[32, 9, 10, 13]⟩, .int .u8 (c.toNat : Int)] W fun e w' => e = .returned (.int .i64 (Lib.indexByte BLANKS c)) ∧ w' = W := fun c W => by
    have h := Tryd.strings_IndexByte ⟨#[32, 9, 10, 13]⟩ (c.toNat : Int) W
    rw [show (c.toNat : Int).toNat.toUInt8 = c by simp] at h
    exact h
  have hpx := fun (k : Nat) W => Tryd.strings_HasPrefix (s.extract k s.size) ⟨#[45, 45]⟩ W
  have hln := fun (k : Nat) W => line_any (s.extract k s.size) W (by rw [ByteArray.size_extract]; omega)
  have epr : (⟨#[45, 45]⟩ : ByteArray).data.toList = [45, 45] := rfl
  have ext : ∀ k, (s.extract k s.size).data.toList = s.data.toList.drop k := fun k => Lib.extract_to_end s k
  simp only [epr, ext] at hpx
  simp only [ext] at hln
  have hget : ∀ k (h : k < s.size), s.data.toList.drop k = s[k] :: s.data.toList.drop (k + 1) := fun k h => by
    rw [List.drop_eq_getElem_cons (by rw [hlen]; exact h)]; rfl
  have hlenL : ∀ k, k ≤ s.size → (s.data.toList.drop k).length = s.size - k := fun k h => by rw [List.length_drop, hlen]
  have hnil : s.data.toList.drop s.size = [] := List.drop_of_length_le (by rw [hlen]; exact Nat.le_refl _)
  have hdd : ∀ k m, (s.data.toList.drop k).drop m = s.data.toList.drop (k + m) := fun k m => List.drop_drop
  have h0 : s.data.toList.drop 0 = s.data.toList := rfl
  obtain ⟨D, hD⟩ : ∃ D : Nat → List UInt8, D = fun k => s.data.toList.drop k := ⟨_, rfl⟩
  have hDk : ∀ k, s.data.toList.drop k = D k := fun k => by rw [hD]
  rw [hDk] at h0 hnil
  simp only [hDk] at hpx hln hget hlenL hdd
  rw [← h0]
  obtain ⟨G, hG⟩ : ∃ G, G = gapL (D 0) := ⟨_, rfl⟩
  rw [← hG]
  have hb : ∀ k (h : k < s.size), BLANKS.contains s[k] = true → gapL (D k) = 1 + gapL (D (k + 1)) := fun k h hb => by rw [hget k h]; exact gapL_blank _ _ hb
  have hr : ∀ k, k < s.size → Lib.hasPrefix (D k) [45, 45] = true → gapL (D k) = lineN (D k) + gapL (D (k + lineN (D k))) ∧ 2 ≤ lineN (D k) ∧ k + lineN (D k) ≤ s.size := fun k h hp => by
    obtain ⟨a, b⟩ := gapL_remark _ hp
    rw [hdd] at a
    have c := lineN_le (D k)
    rw [hlenL k (by omega)] at c
    exact ⟨a, b, by omega⟩
  have hn : ∀ k (h : k < s.size), ¬ BLANKS.contains s[k] = true → Lib.hasPrefix (D k) [45, 45] = false → gapL (D k) = 0 := fun k h h1 h2 => by
    rw [hget k h] at h2 ⊢; exact gapL_none _ _ h1 h2
  have hend : gapL (D s.size) = 0 := by rw [hnil]; rfl
  have hiff := fun c => indexByte_in c BLANKS
  have HIX := Lib.hid hix
  have HPX := Lib.hid hpx
  have HLN := Lib.hid hln
  have HB := Lib.hid hb
  have HR := Lib.hid hr
  have HN := Lib.hid hn
  have HF := Lib.hid hiff
  have HG := Lib.hid hG
  have HEN := Lib.hid hend
  clear hix hpx hln hb hr hn hiff hG hend hlen epr ext hget hlenL hnil hdd h0 hDk hD
  go_enter Tryd.func13, Tryd.ntmps13
  go_wp2
  go_loop [3] (fun vi => ∃ k : Nat, vi = .int .i64 (k : Int) ∧ k ≤ s.size ∧ G = k + gapL (D k)) (fun vi => s.size - (intOf vi).toNat)
  case atStart => exact ⟨0, rfl, Nat.zero_le _, by rw [HG.out]; omega⟩
  case round =>
    obtain ⟨k, rfl, hk, hGk⟩ := hrel
    have HGK := Lib.hid hGk
    clear hGk
    by_cases hlt : k < s.size
    · have hd : decide ((k : Int) < (s.size : Int)) = true := by simp; omega
      have hi := HIX.out s[k] w
      have hf := HF.out s[k]
      obtain ⟨z, hz⟩ : ∃ z, z = Lib.indexByte BLANKS s[k] := ⟨_, rfl⟩
      rw [← hz] at hi hf
      clear hz
      by_cases hb : BLANKS.contains s[k] = true
      · have hz0 := hf.2 hb
        have hdz : decide ((0 : Int) ≤ z) = true := by simpa using hz0
        have hnext := HB.out k hlt hb
        have HX := Lib.hid hnext
        clear hf hb hz0 hnext
        go_wp2_with fail
        refine hi.mono ?_
        rintro e w1 ⟨rfl, rfl⟩
        go_wp2_with fail
        refine ⟨⟨k + 1, by go_num, by omega, by rw [HGK.out, HX.out]; omega⟩, ?_⟩
        simp [intOf]; omega
      · have hz0 : ¬ (0 : Int) ≤ z := fun h => hb (hf.1 h)
        have hdz : decide ((0 : Int) ≤ z) = false := by simpa using hz0
        have hp := HPX.out k w
        cases hq : Lib.hasPrefix (D k) [45, 45] with
        | true =>
          obtain ⟨r1, r2, r3⟩ := HR.out k hlt hq
          have hl := HLN.out k w
          rw [hq] at hp
          obtain ⟨L, hL⟩ : ∃ L, L = lineN (D k) := ⟨_, rfl⟩
          rw [← hL] at r1 r2 r3 hl
          have HX := Lib.hid r1
          clear hf hb hz0 hq r1 hL
          go_wp2_with fail
          refine hi.mono ?_
          rintro e w1 ⟨rfl, rfl⟩
          go_wp2_with fail
          refine hp.mono ?_
          rintro e w1 ⟨rfl, rfl⟩
          go_wp2_with fail
          refine hl.mono ?_
          rintro e w1 ⟨rfl, rfl⟩
          go_wp2_with fail
          refine ⟨⟨k + L, by go_num, by omega, by rw [HGK.out, HX.out]; omega⟩, ?_⟩
          simp [intOf]; omega
        | false =>
          have r := HN.out k hlt hb hq
          rw [hq] at hp
          have HX := Lib.hid r
          clear hf hb hz0 hq r
          go_wp2_with fail
          refine hi.mono ?_
          rintro e w1 ⟨rfl, rfl⟩
          go_wp2_with fail
          refine hp.mono ?_
          rintro e w1 ⟨rfl, rfl⟩
          go_wp2_with fail
          go_ret
          exact ⟨by rw [HGK.out, HX.out]; rfl, rfl⟩
    · have hd : decide ((k : Int) < (s.size : Int)) = false := by simp; omega
      have he : G = k := by rw [HGK.out, show k = s.size by omega, HEN.out]; omega
      have HX := Lib.hid he
      clear he
      go_wp2_with fail
      go_ret
      exact ⟨by rw [HX.out]; rfl, rfl⟩
end Go.Proofs.YtolcaebdmapfbaaDoor
