/-
  Words written one behind the other with blanks, lines, remarks between are cut the same: plain facts.
-/
import Derived.Test.YtolcaebdmapfbaaDoorLnm
namespace Go.Proofs.YtolcaebdmapfbaaDoor
open Go Go.RowKit

def SEPS : List (List UInt8) := [[32], [9, 13, 10], [32, 45, 45, 32, 116, 104, 101, 110, 10], [10, 10]]
theorem gap_sep (sep r : List UInt8) (h : sep ∈ SEPS) : gapL (sep ++ r) = sep.length + gapL r := by
  simp only [SEPS, List.mem_cons, List.not_mem_nil, or_false] at h
  have b9 : BLANKS.contains 9 = true := by decide
  have b10 : BLANKS.contains 10 = true := by decide
  have b13 : BLANKS.contains 13 = true := by decide
  have b32 : BLANKS.contains 32 = true := by decide
  rcases h with rfl | rfl | rfl | rfl
  · show gapL (32 :: r) = _
    rw [gapL_blank 32 r b32]; rfl
  · show gapL (9 :: 13 :: 10 :: r) = _
    rw [gapL_blank 9 _ b9, gapL_blank 13 _ b13, gapL_blank 10 _ b10]
    simp only [List.length_cons, List.length_nil]; omega
  · show gapL (32 :: 45 :: 45 :: 32 :: 116 :: 104 :: 101 :: 110 :: 10 :: r) = _
    rw [gapL_blank 32 _ b32]
    have e : lineN (45 :: 45 :: 32 :: 116 :: 104 :: 101 :: 110 :: 10 :: r) = 7 := by
      rw [lineN_cons 45 _ (by decide), lineN_cons 45 _ (by decide), lineN_cons 32 _ (by decide), lineN_cons 116 _ (by decide), lineN_cons 104 _ (by decide), lineN_cons 101 _ (by decide), lineN_cons 110 _ (by decide)]
      simp [lineN]
    rw [(gapL_remark (45 :: 45 :: 32 :: 116 :: 104 :: 101 :: 110 :: 10 :: r) rfl).1, e]
    show 1 + (7 + gapL (10 :: r)) = _
    rw [gapL_blank 10 _ b10]
    simp only [List.length_cons, List.length_nil]; omega
  · show gapL (10 :: 10 :: r) = _
    rw [gapL_blank 10 _ b10, gapL_blank 10 _ b10]
    simp only [List.length_cons, List.length_nil]; omega
theorem sep_head {sep : List UInt8} (h : sep ∈ SEPS) : ∃ c t, sep = c :: t ∧ (c = 32 ∨ c = 9 ∨ c = 10) ∧ t.length ≤ 8 := by
  simp only [SEPS, List.mem_cons, List.not_mem_nil, or_false] at h
  rcases h with rfl | rfl | rfl | rfl
  · exact ⟨32, _, rfl, .inl rfl, by decide⟩
  · exact ⟨9, _, rfl, .inr (.inl rfl), by decide⟩
  · exact ⟨32, _, rfl, .inl rfl, by decide⟩
  · exact ⟨10, _, rfl, .inr (.inr rfl), by decide⟩

theorem two_heads : TWO.all (fun x => match x with
  | [a, b] => !isL a.toNat && !isD a.toNat && !BLANKS.contains a && !(a == 45 && b == 45)
  | _ => false) = true := by decide +kernel
theorem sign_heads : SIGNS.all (fun a => !isL a.toNat && !isD a.toNat && !BLANKS.contains a) = true := by decide +kernel
theorem two_tails : TWO.all (fun x => match x with
  | [_, b] => !(b == 32) && !(b == 9) && !(b == 10)
  | _ => false) = true := by decide +kernel

theorem runLen_all (p : Nat → Bool) (l : List UInt8) : ∀ c ∈ l.take (runLen p l), p c.toNat = true := by
  intro c hc
  have h : l.take (runLen p l) = l.takeWhile fun c => p c.toNat := by
    unfold runLen
    exact (List.prefix_iff_eq_take.1 (List.takeWhile_prefix _)).symm
  rw [h] at hc
  induction l with
  | nil => simp at hc
  | cons a t ih =>
    rw [List.takeWhile_cons] at hc
    by_cases ha : p a.toNat = true
    · rw [if_pos ha] at hc
      rcases List.mem_cons.1 hc with rfl | hc
      · exact ha
      · exact ih hc (by unfold runLen; exact (List.prefix_iff_eq_take.1 (List.takeWhile_prefix _)).symm)
    · rw [if_neg ha] at hc; simp at hc

theorem take_head {l : List UInt8} {n : Nat} (h : 0 < n) : (l.take n).headD 0 = l.headD 0 := by
  cases n with
  | zero => omega
  | succ n => cases l <;> rfl

/-- A first word, cut again behind which a blank stands. -/
theorem firstW_again (l : List UInt8) (hl : l ≠ []) (h0 : (firstW l).1 ≠ 0) (c : UInt8) (t : List UInt8) (hc : c = 32 ∨ c = 9 ∨ c = 10) :
    firstW (l.take (firstW l).2.1 ++ c :: t) = firstW l ∧ gapL (l.take (firstW l).2.1 ++ c :: t) = 0 := by
  have hpos := List.length_pos_iff.2 hl
  have cN : isN c.toNat = false := by rcases hc with rfl | rfl | rfl <;> decide
  have cD : isD c.toNat = false := by rcases hc with rfl | rfl | rfl <;> decide
  have c45 : ((45 : UInt8) == c) = false := by rcases hc with rfl | rfl | rfl <;> decide
  by_cases a : isL (l.headD 0).toNat = true
  · have p := runLen_pos isN l hpos (by unfold isN; rw [a]; rfl)
    have hle := runLen_le isN l
    have hA := runLen_all isN l
    have e : firstW l = if 24 < runLen isN l then (0, 0, 0) else if keptB (l.take (runLen isN l)) = true then (2, runLen isN l, 0) else (1, runLen isN l, 0) := by unfold firstW; rw [if_pos a]
    have h24 : ¬ 24 < runLen isN l := fun h => h0 (by rw [e, if_pos h])
    have e2 : (firstW l).2.1 = runLen isN l := by rw [e, if_neg h24]; split <;> rfl
    have hne : l.take (runLen isN l) ≠ [] := fun h => by have := congrArg List.length h; rw [List.length_take, List.length_nil] at this; omega
    rw [e2]
    have hh : isL ((l.take (runLen isN l)).headD 0).toNat = true := by rw [take_head p]; exact a
    have hlen : (l.take (runLen isN l)).length = runLen isN l := by rw [List.length_take]; omega
    refine ⟨?_, ?_⟩
    · rw [firstW_name _ (c :: t) hne hh hA (.inr ⟨c, t, rfl, cN⟩) (by rw [hlen]; omega), e, if_neg h24, hlen]
      split <;> rfl
    · obtain ⟨x, y, hxy⟩ := List.exists_cons_of_ne_nil hne
      rw [hxy] at hh ⊢
      have := (isL_iff _).1 hh
      exact gapL_word x _ (by show 46 ≤ x.toNat; have h2 : 97 ≤ x.toNat := this.1; omega)
  · by_cases b : isD (l.headD 0).toNat = true
    · have p := runLen_pos isD l hpos b
      have hle := runLen_le isD l
      have hA := runLen_all isD l
      have hne : l.take (runLen isD l) ≠ [] := fun h => by have := congrArg List.length h; rw [List.length_take, List.length_nil] at this; omega
      have hlen : (l.take (runLen isD l)).length = runLen isD l := by rw [List.length_take]; omega
      have hq := take_head (l := l) p
      have hrun := runLen_append isD (l.take (runLen isD l)) (c :: t) hA (.inr ⟨c, t, rfl, cD⟩)
      have hd := headD_append (l.take (runLen isD l)) (c :: t) hne
      have e : firstW l = if 1 < runLen isD l ∧ l.headD 0 = 48 then (0, 0, 0) else match Lib.parseIntB 64 (l.take (runLen isD l)) with
        | .ok v => (3, runLen isD l, v)
        | _ => (0, 0, 0) := by unfold firstW; rw [if_neg a, if_pos b]; rfl
      have h48 : ¬ (1 < runLen isD l ∧ l.headD 0 = 48) := fun h => h0 (by rw [e, if_pos h])
      rw [if_neg h48] at e
      cases hp : Lib.parseIntB 64 (l.take (runLen isD l))
      case ok v =>
        rw [hp] at e
        have e2 : (firstW l).2.1 = runLen isD l := by rw [e]
        rw [e2]
        refine ⟨?_, ?_⟩
        · rw [e]
          unfold firstW
          rw [hd, hq, if_neg a, if_pos b, hrun, hlen, if_neg h48, List.take_left' hlen, hp]
        · obtain ⟨x, y, hxy⟩ := List.exists_cons_of_ne_nil hne
          rw [← hq, hxy] at b
          rw [hxy]
          have := (isD_iff _).1 b
          exact gapL_word x _ (by have h2 : 48 ≤ x.toNat := this.1; omega)
      all_goals (rw [hp] at e; exact absurd (by rw [e]) h0)
    · by_cases d : 1 < l.length ∧ TWO.contains (l.take 2) = true
      · have e : firstW l = (4, 2, 0) := by unfold firstW; rw [if_neg a, if_neg b, if_pos d]
        have hm : l.take 2 ∈ TWO := List.contains_iff_mem.1 d.2
        have ht := List.all_eq_true.1 two_heads _ hm
        obtain ⟨d1, d2⟩ := d
        obtain ⟨x, y, r, rfl⟩ : ∃ x y r, l = x :: y :: r := by
          match l, d1 with
          | x :: y :: r, _ => exact ⟨x, y, r, rfl⟩
        rw [e]
        show firstW (x :: y :: c :: t) = _ ∧ gapL (x :: y :: c :: t) = 0
        have ht : (!isL x.toNat && !isD x.toNat && !BLANKS.contains x && !(x == 45 && y == 45)) = true := ht
        simp only [Bool.and_eq_true, Bool.not_eq_true', Bool.and_eq_false_iff] at ht
        refine ⟨?_, gapL_none _ _ (by rw [ht.1.2]; decide) ?_⟩
        · unfold firstW
          rw [if_neg (by rw [show (x :: y :: c :: t).headD 0 = x from rfl, ht.1.1.1]; decide), if_neg (by rw [show (x :: y :: c :: t).headD 0 = x from rfl, ht.1.1.2]; decide), if_pos ⟨by simp, d2⟩]
        · unfold Lib.hasPrefix
          rw [List.isPrefixOf, List.isPrefixOf]
          rcases ht.2 with h | h
          · rw [Bool.and_eq_false_iff]; left; rw [beq_eq_false_iff_ne] at h ⊢; exact fun q => h q.symm
          · rw [Bool.and_eq_false_iff]; right; rw [Bool.and_eq_false_iff]; left; rw [beq_eq_false_iff_ne] at h ⊢; exact fun q => h q.symm
      · have e : firstW l = if SIGNS.contains (l.headD 0) = true then (4, 1, 0) else (0, 0, 0) := by unfold firstW; rw [if_neg a, if_neg b, if_neg d]
        by_cases hs : SIGNS.contains (l.headD 0) = true
        · rw [if_pos hs] at e
          rw [e]
          obtain ⟨x, r, rfl⟩ := List.exists_cons_of_ne_nil hl
          show firstW (x :: c :: t) = _ ∧ gapL (x :: c :: t) = 0
          have hs' : SIGNS.contains x = true := hs
          have hsg := List.all_eq_true.1 sign_heads x (List.contains_iff_mem.1 hs')
          simp only [Bool.and_eq_true, Bool.not_eq_true'] at hsg
          have htw : ¬ TWO.contains [x, c] = true := fun h => by
            have := List.all_eq_true.1 two_tails _ (List.contains_iff_mem.1 h)
            have : (!(c == 32) && !(c == 9) && !(c == 10)) = true := this
            rcases hc with rfl | rfl | rfl <;> simp at this
          refine ⟨?_, gapL_none _ _ (by rw [hsg.2]; decide) ?_⟩
          · unfold firstW
            rw [if_neg (by rw [show (x :: c :: t).headD 0 = x from rfl, hsg.1.1]; decide), if_neg (by rw [show (x :: c :: t).headD 0 = x from rfl, hsg.1.2]; decide), if_neg (fun h => htw h.2)]
            exact if_pos hs'
          · unfold Lib.hasPrefix
            rw [List.isPrefixOf, List.isPrefixOf, c45, Bool.false_and, Bool.and_false]
        · rw [if_neg hs] at e
          exact absurd (by rw [e]) h0

/-- What a reader sees of a word: its kind, its text, its number. -/
def seen (D : List UInt8) (x : Nat × Nat × Int × Nat) : Nat × List UInt8 × Int := (x.1, (D.drop x.2.2.2).take x.2.1, x.2.2.1)
def anew (D sep : List UInt8) (L : List (Nat × Nat × Int × Nat)) : List UInt8 := L.flatMap fun x => (D.drop x.2.2.2).take x.2.1 ++ sep
theorem anew_snoc (D sep : List UInt8) (L : List (Nat × Nat × Int × Nat)) (x : Nat × Nat × Int × Nat) : anew D sep (L ++ [x]) = anew D sep L ++ ((D.drop x.2.2.2).take x.2.1 ++ sep) := by simp [anew]

theorem again_ok (D sep : List UInt8) (hsep : sep ∈ SEPS) : ∀ (f k : Nat) (L : List (Nat × Nat × Int × Nat)), cutF f (D.drop k) k = .ok L → ∀ (g : Nat) (P S : List UInt8), L.length ≤ g → S = P ++ anew D sep L →
    ∃ M, cutF g ((anew D sep L).drop (gapL (anew D sep L))) (P.length + gapL (anew D sep L)) = .ok M ∧ M.map (seen S) = L.map (seen D)
  | 0, k, L, h => by simp [cutF] at h
  | f + 1, k, L, h => by
    intro g P S hg hS
    by_cases hl : D.drop k = []
    · rw [hl, cutF_end] at h
      injection h with h
      subst h
      obtain ⟨g, rfl⟩ : ∃ g', g = g' + 1 := ⟨g - 1, by simp at hg; omega⟩
      have e : anew D sep [(0, 0, 0, k)] = sep ++ [] := by simp [anew]
      have hgp := gap_sep sep [] hsep
      rw [e, hgp, gapL_nil]
      simp only [Nat.add_zero, List.append_nil]
      rw [List.drop_of_length_le (Nat.le_refl _), cutF_end]
      exact ⟨_, rfl, by simp [seen]⟩
    · rw [cutF, if_neg hl] at h
      by_cases h0 : (firstW (D.drop k)).1 = 0
      · rw [if_pos h0] at h; cases h
      · rw [if_neg h0] at h
        obtain ⟨c, t, hct, hc, _⟩ := sep_head hsep
        obtain ⟨hb1, hb2, _⟩ := firstW_len (D.drop k) (List.length_pos_iff.2 hl)
        have hb2 := hb2 h0
        have hag := fun r => firstW_again (D.drop k) hl h0 c (t ++ r) hc
        obtain ⟨x, hx⟩ : ∃ x, x = firstW (D.drop k) := ⟨_, rfl⟩
        rw [← hx] at h h0 hb1 hb2 hag
        obtain ⟨xk, xm, xn⟩ := x
        simp only at h h0 hb1 hb2 hag
        simp only [List.drop_drop] at h
        cases hr : cutF f (D.drop (k + xm + gapL (D.drop (k + xm)))) (k + xm + gapL (D.drop (k + xm))) with
        | error p => rw [hr] at h; cases h
        | ok L0 =>
          rw [hr] at h
          injection h with h
          subst h
          obtain ⟨g, rfl⟩ : ∃ g', g = g' + 1 := ⟨g - 1, by simp at hg; omega⟩
          have hA : ((D.drop k).take xm).length = xm := by rw [List.length_take]; omega
          have hne : (D.drop k).take xm ≠ [] := fun e => by rw [e] at hA; simp at hA; omega
          have e : anew D sep ((xk, xm, xn, k) :: L0) = (D.drop k).take xm ++ (sep ++ anew D sep L0) := by simp [anew]
          have e' : (D.drop k).take xm ++ (sep ++ anew D sep L0) = (D.drop k).take xm ++ c :: (t ++ anew D sep L0) := by rw [hct]; rfl
          obtain ⟨M, hM, hseen⟩ := again_ok D sep hsep f _ L0 hr g (P ++ (D.drop k).take xm ++ sep) S (by simp at hg; omega) (by rw [hS, e]; simp)
          obtain ⟨q1, q2⟩ := hag (anew D sep L0)
          rw [← e', ← e] at q1 q2
          rw [q2, List.drop_zero]
          have q1' : firstW (anew D sep ((xk, xm, xn, k) :: L0)) = (xk, ((D.drop k).take xm).length, xn) := by rw [q1, hA]
          have hgs := gap_sep sep (anew D sep L0) hsep
          rw [cutF_word e q1' h0 hne, hgs, hA]
          have hd2 : (sep ++ anew D sep L0).drop (sep.length + gapL (anew D sep L0)) = (anew D sep L0).drop (gapL (anew D sep L0)) := by
            rw [← List.drop_drop, List.drop_left' rfl]
          rw [hd2, show P.length + 0 + xm + (sep.length + gapL (anew D sep L0)) = (P ++ (D.drop k).take xm ++ sep).length + gapL (anew D sep L0) by simp only [List.length_append, hA]; omega, hM]
          refine ⟨_, rfl, ?_⟩
          rw [List.map_cons, List.map_cons, hseen]
          congr 1
          unfold seen
          simp only
          rw [hS, e, Nat.add_zero, List.drop_left' rfl, List.take_left' hA]

theorem cutF_length : ∀ (f : Nat) (l : List UInt8) (k : Nat) (L : List (Nat × Nat × Int × Nat)), cutF f l k = .ok L → L.length ≤ l.length + 1 ∧ ∀ D : List UInt8, l = D.drop k → (anew D [] L).length ≤ l.length
  | 0, l, k, L, h => by simp [cutF] at h
  | f + 1, l, k, L, h => by
    by_cases hl : l = []
    · rw [hl, cutF_end] at h
      injection h with h
      subst h
      exact ⟨by simp, fun D _ => by simp [anew]⟩
    · rw [cutF, if_neg hl] at h
      by_cases h0 : (firstW l).1 = 0
      · rw [if_pos h0] at h; cases h
      · rw [if_neg h0] at h
        obtain ⟨hb1, hb2, _⟩ := firstW_len l (List.length_pos_iff.2 hl)
        have hb2 := hb2 h0
        obtain ⟨x, hx⟩ : ∃ x, x = firstW l := ⟨_, rfl⟩
        rw [← hx] at h hb1 hb2
        obtain ⟨xk, xm, xn⟩ := x
        simp only at h hb1 hb2
        rw [List.drop_drop] at h
        cases hr : cutF f (l.drop (xm + gapL (l.drop xm))) (k + xm + gapL (l.drop xm)) with
        | error p => rw [hr] at h; cases h
        | ok L0 =>
          rw [hr] at h
          injection h with h
          subst h
          obtain ⟨i1, i2⟩ := cutF_length f _ _ L0 hr
          rw [List.length_drop] at i1 i2
          refine ⟨by simp; omega, fun D hD => ?_⟩
          have h2 := i2 D (by rw [hD, List.drop_drop]; congr 1; omega)
          have e : anew D [] ((xk, xm, xn, k) :: L0) = (D.drop k).take xm ++ anew D [] L0 := by simp [anew]
          rw [e, List.length_append, List.length_take, ← hD]
          omega
theorem anew_length (D sep : List UInt8) : ∀ L, (anew D sep L).length = (anew D [] L).length + L.length * sep.length
  | [] => by simp [anew]
  | x :: L => by
    have h := anew_length D sep L
    have e1 : anew D sep (x :: L) = (D.drop x.2.2.2).take x.2.1 ++ sep ++ anew D sep L := by simp [anew]
    have e2 : anew D [] (x :: L) = (D.drop x.2.2.2).take x.2.1 ++ anew D [] L := by simp [anew]
    rw [e1, e2, List.length_append, List.length_append, List.length_append, h, List.length_cons, Nat.add_mul]
    omega

theorem cutF_ne (f : Nat) (l : List UInt8) (k : Nat) : cutF f l k ≠ .ok [] := by
  cases f with
  | zero => simp [cutF]
  | succ f =>
    rw [cutF]
    split
    · simp
    · split
      · simp
      · split <;> simp
/-- Words written anew are cut the same. -/
theorem cut_again (D sep : List UInt8) (hD : D.length ≤ 800) (hsep : sep ∈ SEPS) (L : List (Nat × Nat × Int × Nat)) (h : cutAll D = .ok L) :
    ∃ M, cutAll (anew D sep L) = .ok M ∧ M.map (seen (anew D sep L)) = L.map (seen D) ∧ (anew D sep L).length ≤ 10000 := by
  unfold cutAll at h
  rw [if_neg (by omega)] at h
  unfold cut1 at h
  cases hr : cutF (D.length + 1) (D.drop (gapL D)) (gapL D) with
  | error p => rw [hr] at h; cases h
  | ok L' =>
    rw [hr] at h
    injection h with h
    subst h
    obtain ⟨b1, b2⟩ := cutF_length _ _ _ _ hr
    have b2 := b2 D rfl
    have hlen := anew_length D sep L'
    have hs : sep.length ≤ 9 := by obtain ⟨c, t, rfl, _, h8⟩ := sep_head hsep; simp; omega
    have hs1 : 1 ≤ sep.length := by obtain ⟨c, t, rfl, _, h8⟩ := sep_head hsep; simp
    rw [List.length_drop] at b1 b2
    have hm : L'.length * sep.length ≤ 801 * 9 := Nat.mul_le_mul (by omega) hs
    have hm1 : L'.length * 1 ≤ L'.length * sep.length := Nat.mul_le_mul_left _ hs1
    obtain ⟨M, hM, hseen⟩ := again_ok D sep hsep _ _ L' hr ((anew D sep L').length + 1) [] (anew D sep L') (by omega) rfl
    refine ⟨M, ?_, hseen, by omega⟩
    unfold cutAll cut1
    rw [if_neg (by omega)]
    rw [show ([] : List UInt8).length + gapL (anew D sep L') = gapL (anew D sep L') by simp] at hM
    rw [hM]
end Go.Proofs.YtolcaebdmapfbaaDoor
