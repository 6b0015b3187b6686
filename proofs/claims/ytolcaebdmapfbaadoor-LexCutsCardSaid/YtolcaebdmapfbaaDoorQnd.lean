/-
  A number's digits as a number: plain facts.
-/
import Derived.Test.YtolcaebdmapfbaaDoorLnm
import Derived.Lib.ParseIntBCases
namespace Go.Proofs.YtolcaebdmapfbaaDoor
open Go Go.RowKit

def foldD (a : Nat) (l : List UInt8) : Nat := l.foldl (fun a c => 10 * a + (c.toNat - 48)) a
theorem foldD_nil (a : Nat) : foldD a [] = a := rfl
theorem foldD_cons (a : Nat) (c : UInt8) (r : List UInt8) : foldD a (c :: r) = foldD (10 * a + (c.toNat - 48)) r := by unfold foldD; rw [List.foldl_cons]
theorem foldD_lo : ∀ (l : List UInt8) (a : Nat), a * 10 ^ l.length ≤ foldD a l
  | [], a => by rw [foldD_nil]; simp
  | c :: r, a => by
    have h := foldD_lo r (10 * a + (c.toNat - 48))
    rw [foldD_cons, List.length_cons]
    refine Nat.le_trans ?_ h
    rw [Nat.pow_succ, Nat.add_mul]
    have e : a * (10 ^ r.length * 10) = 10 * a * 10 ^ r.length := by rw [Nat.mul_comm (10 ^ r.length) 10, ← Nat.mul_assoc, Nat.mul_comm a 10]
    omega
theorem foldD_hi : ∀ (l : List UInt8) (a : Nat), (∀ c ∈ l, isD c.toNat = true) → foldD a l + 1 ≤ (a + 1) * 10 ^ l.length
  | [], a, _ => by rw [foldD_nil]; simp
  | c :: r, a, hd => by
    have hc := (isD_iff _).1 (hd c (by simp))
    have h := foldD_hi r (10 * a + (c.toNat - 48)) (fun x hx => hd x (by simp [hx]))
    rw [foldD_cons, List.length_cons]
    refine Nat.le_trans h ?_
    rw [Nat.pow_succ]
    have e : (a + 1) * (10 ^ r.length * 10) = (10 * a + 10) * 10 ^ r.length := by
      rw [Nat.mul_comm (10 ^ r.length) 10, ← Nat.mul_assoc, Nat.mul_comm (a + 1) 10, Nat.mul_add]
    rw [e]
    exact Nat.mul_le_mul_right _ (by omega)
theorem foldD_snoc (l : List UInt8) (a : Nat) (c : UInt8) : foldD a (l ++ [c]) = 10 * foldD a l + (c.toNat - 48) := by unfold foldD; rw [List.foldl_append]; rfl
theorem foldD_ge (l : List UInt8) (a : Nat) : a ≤ foldD a l := Nat.le_trans (Nat.le_mul_of_pos_right _ (Nat.pow_pos (by decide))) (foldD_lo l a)
theorem parseM_digits : ∀ (l : List UInt8) (a : Nat), (∀ c ∈ l, isD c.toNat = true) → a ≤ 18446744073709551615 →
    Lib.parseUintM 18446744073709551615 a l = if foldD a l ≤ 18446744073709551615 then .ok (foldD a l) else .range
  | [], a, _, ha => by rw [Lib.parseUintM, foldD_nil, if_pos ha]
  | c :: r, a, hd, ha => by
    have hc := (isD_iff _).1 (hd c (by simp))
    rw [Lib.parseUintM, if_pos hc, foldD_cons]
    have e : a * 10 + (c.toNat - 48) = 10 * a + (c.toNat - 48) := by omega
    have hge := foldD_ge r (10 * a + (c.toNat - 48))
    rw [e]
    by_cases h1 : 1844674407370955162 ≤ a
    · rw [if_pos h1, if_neg (by omega)]
    · rw [if_neg h1]
      by_cases h2 : 18446744073709551615 < 10 * a + (c.toNat - 48)
      · rw [if_pos h2, if_neg (by omega)]
      · rw [if_neg h2]
        exact parseM_digits r _ (fun x hx => hd x (by simp [hx])) (by omega)
theorem parse_digits (l : List UInt8) (hne : l ≠ []) (hd : ∀ c ∈ l, isD c.toNat = true) : Lib.parseIntB 64 l = if foldD 0 l < 9223372036854775808 then .ok (foldD 0 l : Int) else .range := by
  obtain ⟨c, r, rfl⟩ := List.exists_cons_of_ne_nil hne
  have hc := (isD_iff _).1 (hd c (by simp))
  have hm : Lib.parseUintB 64 (c :: r) = if foldD 0 (c :: r) ≤ 18446744073709551615 then .ok (foldD 0 (c :: r)) else .range := by
    unfold Lib.parseUintB
    rw [if_neg hne]
    exact parseM_digits (c :: r) 0 hd (by decide)
  rw [Lib.parseIntB_plain 64 c r (by omega) (by omega), hm]
  by_cases h1 : foldD 0 (c :: r) ≤ 18446744073709551615
  · rw [if_pos h1]
    by_cases h2 : foldD 0 (c :: r) < 9223372036854775808
    · rw [if_pos h2]; simp [Lib.signlessC]; omega
    · rw [if_neg h2]; simp [Lib.signlessC]; omega
  · rw [if_neg h1, if_neg (by omega)]; rfl

/-- A number's digits. -/
def textN (n : Nat) : List UInt8 := if n < 10 then [(48 + n).toUInt8] else textN (n / 10) ++ [(48 + n % 10).toUInt8]
termination_by n
decreasing_by omega
theorem textN_small (n : Nat) (h : n < 10) : textN n = [(48 + n).toUInt8] := by rw [textN, if_pos h]
theorem textN_big (n : Nat) (h : ¬ n < 10) : textN n = textN (n / 10) ++ [(48 + n % 10).toUInt8] := by rw [textN, if_neg h]
theorem digit_nat (n : Nat) (h : n < 10) : ((48 + n).toUInt8).toNat = 48 + n := by simp; omega
theorem digit_is (n : Nat) (h : n < 10) : isD ((48 + n).toUInt8).toNat = true := by rw [digit_nat n h, isD_iff]; omega
theorem textN_spec : ∀ (f n : Nat), n < f → (∀ c ∈ textN n, isD c.toNat = true) ∧ foldD 0 (textN n) = n ∧ textN n ≠ [] ∧ (0 < n → textN n ≠ [] ∧ (textN n).headD 0 ≠ 48)
  | 0, n, h => by omega
  | f + 1, n, h => by
    by_cases hn : n < 10
    · rw [textN_small n hn]
      have hd := digit_nat n hn
      refine ⟨fun c hc => ?_, ?_, by simp, fun h0 => ⟨by simp, ?_⟩⟩
      · rw [List.mem_singleton] at hc; subst hc; exact digit_is n hn
      · show 10 * 0 + ((48 + n).toUInt8.toNat - 48) = n
        rw [hd]; omega
      · intro e
        have e2 := congrArg UInt8.toNat e
        rw [show [(48 + n).toUInt8].headD 0 = (48 + n).toUInt8 from rfl, hd] at e2
        rw [show UInt8.toNat 48 = 48 from rfl] at e2
        omega
    · obtain ⟨a, b, c, d⟩ := textN_spec f (n / 10) (by omega)
      have hd := digit_nat (n % 10) (by omega)
      have d := d (by omega)
      rw [textN_big n hn]
      refine ⟨fun x hx => ?_, ?_, by simp, fun h0 => ⟨by simp, ?_⟩⟩
      · rcases List.mem_append.1 hx with h | h
        · exact a x h
        · rw [List.mem_singleton] at h; subst h; exact digit_is _ (by omega)
      · rw [foldD_snoc, b, hd]; omega
      · rw [headD_append _ _ c]; exact d.2
theorem textN_digits (n : Nat) : ∀ c ∈ textN n, isD c.toNat = true := (textN_spec (n + 1) n (by omega)).1
theorem textN_fold (n : Nat) : foldD 0 (textN n) = n := (textN_spec (n + 1) n (by omega)).2.1
theorem textN_ne (n : Nat) : textN n ≠ [] := (textN_spec (n + 1) n (by omega)).2.2.1
theorem textN_head (n : Nat) (h : 1 < (textN n).length) : (textN n).headD 0 ≠ 48 := by
  by_cases h0 : 0 < n
  · exact ((textN_spec (n + 1) n (by omega)).2.2.2 h0).2
  · obtain rfl : n = 0 := by omega
    rw [textN_small 0 (by decide)] at h
    simp at h
theorem textN_len (n : Nat) (h : n < 9223372036854775808) : (textN n).length ≤ 19 := by
  by_cases h1 : 1 < (textN n).length
  · have hh := textN_head n h1
    have hf := textN_fold n
    have hd := textN_digits n
    obtain ⟨c, r, hc⟩ := List.exists_cons_of_ne_nil (textN_ne n)
    rw [hc] at hh hf hd ⊢
    have hcd := (isD_iff _).1 (hd c (by simp))
    have hc1 : 48 < c.toNat := by
      rcases Nat.lt_or_ge 48 c.toNat with h | h
      · exact h
      · exact absurd (UInt8.toNat_inj.1 (by rw [show UInt8.toNat 48 = 48 from rfl]; omega : c.toNat = UInt8.toNat 48)) hh
    have lo := foldD_lo r (10 * 0 + (c.toNat - 48))
    rw [foldD_cons] at hf
    rw [hf] at lo
    rcases Nat.lt_or_ge 19 (c :: r).length with hl | hl
    · have hp : 10 ^ 19 ≤ 10 ^ r.length := Nat.pow_le_pow_right (by decide) (by simp at hl; omega)
      have : 1 * 10 ^ 19 ≤ (10 * 0 + (c.toNat - 48)) * 10 ^ r.length := Nat.mul_le_mul (by omega) hp
      have e19 : (10 : Nat) ^ 19 = 10000000000000000000 := by decide
      omega
    · exact hl
  · omega
theorem firstW_number (A r : List UInt8) (hne : A ≠ []) (hA : ∀ c ∈ A, isD c.toNat = true) (hr : r = [] ∨ ∃ c t, r = c :: t ∧ isD c.toNat = false) (h0 : 1 < A.length → A.headD 0 ≠ 48) (hf : foldD 0 A < 9223372036854775808) :
    firstW (A ++ r) = (3, A.length, (foldD 0 A : Int)) := by
  have hh : isD (A.headD 0).toNat = true := by
    obtain ⟨c, t, rfl⟩ := List.exists_cons_of_ne_nil hne
    exact hA c (by simp)
  have hh' := (isD_iff _).1 hh
  have hl : ¬ isL (A.headD 0).toNat = true := by rw [isL_iff]; omega
  unfold firstW
  rw [headD_append A r hne, if_neg hl, if_pos hh, runLen_append isD A r hA hr, if_neg (fun h => h0 h.1 h.2), List.take_left' rfl, parse_digits A hne hA, if_pos hf]
theorem firstW_nought (A r : List UInt8) (hA : ∀ c ∈ A, isD c.toNat = true) (hr : r = [] ∨ ∃ c t, r = c :: t ∧ isD c.toNat = false) (hne : A ≠ []) :
    firstW (48 :: A ++ r) = (0, 0, 0) := by
  have hA' : ∀ c ∈ 48 :: A, isD c.toNat = true := fun c hc => by
    rcases List.mem_cons.1 hc with rfl | h
    · decide
    · exact hA c h
  have h48 : (48 :: A).headD 0 = 48 := rfl
  unfold firstW
  rw [headD_append (48 :: A) r (by simp), h48, if_neg (show ¬ isL (UInt8.toNat 48) = true by decide), if_pos (show isD (UInt8.toNat 48) = true by decide), runLen_append isD (48 :: A) r hA' hr, if_pos ⟨by
    have := List.length_pos_iff.2 hne
    simp; omega, rfl⟩]

/-- What Cut tells of a number's digits. -/
theorem cut_number (n : Nat) (hn : n < 9223372036854775808) : cutAll (32 :: (textN n ++ [120])) = .ok [(3, (textN n).length, (n : Int), 1), (1, 1, 0, 1 + (textN n).length), (0, 0, 0, 2 + (textN n).length)] := by
  have hl := textN_len n hn
  have hne := textN_ne n
  have hd := textN_digits n
  have w1 := firstW_number (textN n) [120] hne hd (.inr ⟨120, [], rfl, by decide⟩) (textN_head n) (by rw [textN_fold]; exact hn)
  rw [textN_fold] at w1
  obtain ⟨A, hA⟩ : ∃ A, A = textN n := ⟨_, rfl⟩
  rw [← hA] at hl hne hd w1 ⊢
  obtain ⟨c, t, hc⟩ := List.exists_cons_of_ne_nil hne
  have hcd := (isD_iff _).1 (hd c (by rw [hc]; simp))
  have g0 : gapL (32 :: (A ++ [120])) = 1 := by rw [hc]; exact gapL_space c _ (by omega)
  have g1 : gapL [(120 : UInt8)] = 0 := gapL_word 120 [] (by decide)
  have w2 : firstW [(120 : UInt8)] = (1, 1, 0) := by decide +kernel
  have hlen : (32 :: (A ++ [(120 : UInt8)])).length = A.length + 2 := by simp
  unfold cutAll cut1
  rw [hlen, if_neg (by omega), g0, List.drop_succ_cons, List.drop_zero]
  rw [show A.length + 2 + 1 = A.length + 1 + 1 + 1 by omega]
  rw [cutF_word rfl w1 (by decide) hne, g1, List.drop_zero]
  rw [show A.length + 2 = A.length + 1 + 1 by omega, cutF_word (l := [120]) (A := [120]) (r := []) (k := 1) (n := 0) rfl w2 (by decide) (by simp), gapL_nil, List.drop_zero, cutF_end]
  simp only [consR]
  congr 1
  simp
  omega
theorem cut_nought (A : List UInt8) (hA : ∀ c ∈ A, isD c.toNat = true) (hne : A ≠ []) (hl : A.length ≤ 100) : cutAll (32 :: (48 :: A ++ [120])) = .error (7, 1) := by
  have w1 := firstW_nought A [120] hA (.inr ⟨120, [], rfl, by decide⟩) hne
  have g0 : gapL (32 :: (48 :: A ++ [120])) = 1 := gapL_space 48 _ (by decide)
  have hlen : (32 :: (48 :: A ++ [(120 : UInt8)])).length = A.length + 3 := by simp
  unfold cutAll cut1
  rw [hlen, if_neg (by omega), g0, List.drop_succ_cons, List.drop_zero, cutF_bad _ _ _ (by simp) (by rw [w1])]
end Go.Proofs.YtolcaebdmapfbaaDoor
