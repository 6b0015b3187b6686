/-
  Cutting a text word by word: plain facts on names, blanks, ends.
-/
import Derived.Test.YtolcaebdmapfbaaDoorLpu
namespace Go.Proofs.YtolcaebdmapfbaaDoor
open Go Go.RowKit

theorem runLen_append (p : Nat → Bool) : ∀ (A r : List UInt8), (∀ c ∈ A, p c.toNat = true) → (r = [] ∨ ∃ c t, r = c :: t ∧ p c.toNat = false) → runLen p (A ++ r) = A.length
  | [], r, _, hr => by
    rcases hr with rfl | ⟨c, t, rfl, h⟩
    · rfl
    · unfold runLen; rw [List.nil_append, List.takeWhile_cons, if_neg (by rw [h]; decide)]
  | a :: A, r, hA, hr => by
    have ih := runLen_append p A r (fun c hc => hA c (by simp [hc])) hr
    unfold runLen at ih ⊢
    rw [List.cons_append, List.takeWhile_cons, if_pos (hA a (by simp)), List.length_cons, ih, List.length_cons]
theorem headD_append (A r : List UInt8) (h : A ≠ []) : (A ++ r).headD 0 = A.headD 0 := by
  cases A with
  | nil => exact absurd rfl h
  | cons a A => rfl
theorem firstW_name (A r : List UInt8) (hne : A ≠ []) (hh : isL (A.headD 0).toNat = true) (hA : ∀ c ∈ A, isN c.toNat = true) (hr : r = [] ∨ ∃ c t, r = c :: t ∧ isN c.toNat = false) (h24 : A.length ≤ 24) :
    firstW (A ++ r) = (if keptB A = true then 2 else 1, A.length, 0) := by
  unfold firstW
  rw [headD_append A r hne, if_pos hh, runLen_append isN A r hA hr, if_neg (by omega), List.take_left' rfl]
  split <;> rfl

def consR (x : Nat × Nat × Int × Nat) : Except Nat (List (Nat × Nat × Int × Nat)) → Except Nat (List (Nat × Nat × Int × Nat))
  | .error p => .error p
  | .ok t => .ok (x :: t)
theorem cutF_word {f at_ k : Nat} {n : Int} {l A r : List UInt8} (hl : l = A ++ r) (hw : firstW l = (k, A.length, n)) (hk : k ≠ 0) (hA : A ≠ []) :
    cutF (f + 1) l at_ = consR (k, A.length, n, at_) (cutF f (r.drop (gapL r)) (at_ + A.length + gapL r)) := by
  have hne : l ≠ [] := by rw [hl]; intro h; exact hA (List.append_eq_nil_iff.1 h).1
  have hd : l.drop A.length = r := by rw [hl]; exact List.drop_left' rfl
  rw [cutF, if_neg hne, hw]
  simp only
  rw [if_neg hk, hd]
  cases cutF f (r.drop (gapL r)) (at_ + A.length + gapL r) <;> rfl

theorem blank_big (c : UInt8) (h : 33 ≤ c.toNat) : ¬ BLANKS.contains c = true := by
  intro hb
  simp only [BLANKS, List.contains_cons, List.contains_nil, Bool.or_false, Bool.or_eq_true, beq_iff_eq] at hb
  rcases hb with rfl | rfl | rfl | rfl <;> revert h <;> decide
theorem isL_iff (n : Nat) : isL n = true ↔ 97 ≤ n ∧ n ≤ 122 := by unfold isL; simp
theorem isD_iff (n : Nat) : isD n = true ↔ 48 ≤ n ∧ n ≤ 57 := by unfold isD; simp
theorem gapL_word (c : UInt8) (r : List UInt8) (h : 46 ≤ c.toNat) : gapL (c :: r) = 0 := by
  refine gapL_none c r (blank_big c (by omega)) ?_
  unfold Lib.hasPrefix
  have hc : ((45 : UInt8) == c) = false := by
    rw [beq_eq_false_iff_ne]
    rintro rfl
    revert h; decide
  rw [List.isPrefixOf, hc, Bool.false_and]
theorem gapL_space (c : UInt8) (r : List UInt8) (h : 46 ≤ c.toNat) : gapL (32 :: c :: r) = 1 := by
  rw [gapL_blank 32 _ (by decide), gapL_word c r h]

theorem kept_letters : KEPT.all (fun x => x.all fun c => isL c.toNat) = true := by decide +kernel
theorem kept_all {l : List UInt8} (h : keptB l = true) : ∀ c ∈ l, isL c.toNat = true := by
  have hm : l ∈ KEPT := by unfold keptB at h; exact List.contains_iff_mem.1 h
  exact List.all_eq_true.1 (List.all_eq_true.1 kept_letters l hm)
theorem kept_snoc (N : List UInt8) (c : UInt8) (hc : isL c.toNat = false) : keptB (N ++ [c]) = false := by
  cases h : keptB (N ++ [c]) with
  | false => rfl
  | true => exact absurd (kept_all h c (by simp)) (by rw [hc]; decide)

/-- A name, the name and a stroke, the name and a digit. -/
theorem cut_names (N : List UInt8) (h1 : 1 ≤ N.length) (h10 : N.length ≤ 10) (hN : ∀ c ∈ N, isL c.toNat = true) :
    cutAll (N ++ 32 :: (N ++ 95 :: 32 :: (N ++ [49]))) = .ok [(if keptB N = true then 2 else 1, N.length, 0, 0), (1, N.length + 1, 0, N.length + 1), (1, N.length + 1, 0, 2 * N.length + 3), (0, 0, 0, 3 * N.length + 4)] := by
  have hne : N ≠ [] := by rintro rfl; simp at h1
  obtain ⟨c, t, hc⟩ := List.exists_cons_of_ne_nil hne
  have hcl : isL c.toNat = true := hN c (by rw [hc]; simp)
  have hc97 := (isL_iff _).1 hcl
  have hhead : isL (N.headD 0).toNat = true := by rw [hc]; exact hcl
  have hNN : ∀ x ∈ N, isN x.toNat = true := fun x hx => by unfold isN; rw [hN x hx]; rfl
  have hlen : (N ++ 32 :: (N ++ 95 :: 32 :: (N ++ [49]))).length = 3 * N.length + 4 := by simp; omega
  have g0 : gapL (N ++ 32 :: (N ++ 95 :: 32 :: (N ++ [49]))) = 0 := by rw [hc]; exact gapL_word c _ (by omega)
  have w1 := firstW_name N (32 :: (N ++ 95 :: 32 :: (N ++ [49]))) hne hhead hNN (.inr ⟨32, _, rfl, by decide⟩) (by omega)
  have g1 : gapL (32 :: (N ++ 95 :: 32 :: (N ++ [49]))) = 1 := by rw [hc]; exact gapL_space c _ (by omega)
  have w2 := firstW_name (N ++ [95]) (32 :: (N ++ [49])) (by simp) (by rw [headD_append _ _ hne]; exact hhead) (fun x hx => by
    rcases List.mem_append.1 hx with h | h
    · exact hNN x h
    · simp at h; subst h; decide) (.inr ⟨32, _, rfl, by decide⟩) (by simp; omega)
  rw [kept_snoc N 95 (by decide)] at w2
  have g2 : gapL (32 :: (N ++ [49])) = 1 := by rw [hc]; exact gapL_space c _ (by omega)
  have w3 := firstW_name (N ++ [49]) [] (by simp) (by rw [headD_append _ _ hne]; exact hhead) (fun x hx => by
    rcases List.mem_append.1 hx with h | h
    · exact hNN x h
    · simp at h; subst h; decide) (.inl rfl) (by simp; omega)
  rw [kept_snoc N 49 (by decide)] at w3
  have e2 : N ++ 95 :: 32 :: (N ++ [49]) = (N ++ [95]) ++ 32 :: (N ++ [49]) := by simp
  have e3 : N ++ [49] = (N ++ [49]) ++ [] := by simp
  have l2 : (N ++ [(95 : UInt8)]).length = N.length + 1 := by simp
  have l3 : (N ++ [(49 : UInt8)]).length = N.length + 1 := by simp
  unfold cutAll cut1
  rw [hlen, if_neg (by omega), g0, List.drop_zero]
  rw [show 3 * N.length + 4 + 1 = (3 * N.length + 1) + 1 + 1 + 1 + 1 by omega]
  rw [cutF_word rfl w1 (by split <;> decide) hne, g1, List.drop_succ_cons, List.drop_zero]
  rw [cutF_word e2 (by rw [e2, w2]; rfl) (k := 1) (n := 0) (by decide) (by simp), g2, List.drop_succ_cons, List.drop_zero]
  have w3' : firstW (N ++ [49]) = (1, (N ++ [(49 : UInt8)]).length, 0) := by
    rw [List.append_nil] at w3; exact w3
  rw [cutF_word (A := N ++ [49]) (r := []) e3 w3' (by decide) (by simp), gapL_nil, List.drop_zero, cutF_end]
  simp only [consR, l2, l3]
  congr 1
  simp
  omega
end Go.Proofs.YtolcaebdmapfbaaDoor
