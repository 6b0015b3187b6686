/-
  Texts that the statements stand on, part 3.
-/
import Derived.Test.YtejljfoacbpliaaMb
import Derived.WalkKit
import Derived.Lib.Hide
import Derived.LoopTactic
import Derived.Laws.Rows
import Derived.Lib.SmallJoins
import Derived.Lib.IndexBytes
import Derived.Lib.ParseIntBCases
import Derived.Deep.QuietTactic
import Derived.BigQuiet
import Derived.OwnWalk
import Derived.Deep.DeepCutAuto
import Derived.Deep.CutBlock
set_option linter.unusedVariables false
set_option linter.unusedSimpArgs false
namespace Go.Proofs.Ytejljfoacbpliaa
open Go Go.RowKit
-- out of Lfn
def isL (n : Nat) : Bool := decide (97 ≤ n) && decide (n ≤ 122)
def isD (n : Nat) : Bool := decide (48 ≤ n) && decide (n ≤ 57)
def isN (n : Nat) : Bool := isL n || isD n || n == 95
-- out of Lrn
def runLen (p : Nat → Bool) (l : List UInt8) : Nat := (l.takeWhile fun c => p c.toNat).length
theorem runLen_le (p : Nat → Bool) (l : List UInt8) : runLen p l ≤ l.length := (List.takeWhile_sublist _).length_le
theorem runLen_in (p : Nat → Bool) : ∀ (l : List UInt8) (k : Nat) (hk : k < l.length), k < runLen p l → p l[k].toNat = true
  | c :: r, 0, _, h => by
    unfold runLen at h
    rw [List.takeWhile_cons] at h
    by_cases hp : p c.toNat = true
    · exact hp
    · rw [if_neg hp] at h; simp at h
  | c :: r, k + 1, hk, h => by
    unfold runLen at h
    rw [List.takeWhile_cons] at h
    by_cases hp : p c.toNat = true
    · rw [if_pos hp, List.length_cons] at h
      exact runLen_in p r k (by simpa using hk) (by unfold runLen; omega)
    · rw [if_neg hp] at h; simp at h
theorem runLen_out (p : Nat → Bool) : ∀ (l : List UInt8) (hk : runLen p l < l.length), p l[runLen p l].toNat = false
  | c :: r, hk => by
    by_cases hp : p c.toNat = true
    · have e : runLen p (c :: r) = runLen p r + 1 := by unfold runLen; rw [List.takeWhile_cons, if_pos hp, List.length_cons]
      have h := runLen_out p r (by rw [e] at hk; simpa using hk)
      simp only [e, List.getElem_cons_succ]
      exact h
    · have e : runLen p (c :: r) = 0 := by unfold runLen; rw [List.takeWhile_cons, if_neg hp]; rfl
      simp only [e, List.getElem_cons_zero]
      simpa using hp
theorem bytes_get (s : ByteArray) (k : Nat) (h : k < s.size) : s.data.toList[k]'(by simpa using h) = s[k] := rfl
-- out of Lkp
def KEPT : List (List UInt8) := [[110,111,100,101],[114,101,116,117,114,110,115],[118,97,114],[108,101,116],[116,101,108],[98,111,111,108],[105,110,116],[116,114,117,101],[102,97,108,115,101],[110,111,116],[97,110,100],[111,114],[120,111,114],[109,111,100],[105,102],[116,104,101,110],[101,108,115,101],[112,114,101],[102,98,121],[119,104,101,110],[109,101,114,103,101]]
def keptB (l : List UInt8) : Bool := KEPT.contains l
-- out of Lsg
def SIGNS : List UInt8 := [40, 41, 58, 59, 44, 61, 43, 45, 42, 47, 60, 62]
def TWO : List (List UInt8) := [[60, 61], [62, 61], [60, 62], [45, 62]]
theorem head_get (s : ByteArray) (h : 0 < s.size) : s.data.toList.headD 0 = s[0] := by
  have h' : 0 < s.data.toList.length := by simpa using h
  rw [List.headD_eq_head?_getD, List.head?_eq_getElem?, List.getElem?_eq_getElem h']
  rfl
-- out of Lfw
theorem runLen_pos (p : Nat → Bool) (l : List UInt8) (h : 0 < l.length) (hp : p (l.headD 0).toNat = true) : 0 < runLen p l := by
  cases l with
  | nil => simp at h
  | cons c r =>
    have hp2 : p c.toNat = true := hp
    unfold runLen; rw [List.takeWhile_cons, if_pos hp2, List.length_cons]; omega
def lineN (l : List UInt8) : Nat := (l.takeWhile fun c => !(c == 10)).length
theorem lineN_le (l : List UInt8) : lineN l ≤ l.length := (List.takeWhile_sublist _).length_le
-- out of Lga
def BLANKS : List UInt8 := [32, 9, 10, 13]
def gapS : Bool → List UInt8 → Nat
  | _, [] => 0
  | true, c :: r => if c = 10 then 1 + gapS false r else 1 + gapS true r
  | false, c :: r => if BLANKS.contains c = true then 1 + gapS false r else if c = 45 ∧ r.head? = some 45 then 1 + gapS true r else 0
def gapL (l : List UInt8) : Nat := gapS false l
theorem lineN_cons (c : UInt8) (r : List UInt8) (h : c ≠ 10) : lineN (c :: r) = lineN r + 1 := by
  have e : (c == (10 : UInt8)) = false := by simpa using h
  unfold lineN; rw [List.takeWhile_cons, e]; rfl
theorem gapS_true : ∀ l : List UInt8, gapS true l = lineN l + gapS false (l.drop (lineN l))
  | [] => by simp [gapS, lineN]
  | c :: r => by
    by_cases h : c = 10
    · subst h
      have e : lineN (10 :: r) = 0 := by simp [lineN]
      rw [e, gapS, if_pos rfl, List.drop_zero, gapS, if_pos (by decide)]
      omega
    · rw [lineN_cons c r h, gapS, if_neg h, gapS_true r, List.drop_succ_cons]
      omega
theorem gapL_nil : gapL [] = 0 := rfl
theorem gapL_blank (c : UInt8) (r : List UInt8) (h : BLANKS.contains c = true) : gapL (c :: r) = 1 + gapL r := by
  unfold gapL; rw [gapS, if_pos h]
theorem gapL_remark (l : List UInt8) (h : Lib.hasPrefix l [45, 45] = true) : gapL l = lineN l + gapL (l.drop (lineN l)) ∧ 2 ≤ lineN l := by
  unfold Lib.hasPrefix at h
  cases l with
  | nil => simp at h
  | cons a t =>
    cases t with
    | nil => simp at h
    | cons b r =>
      simp only [List.isPrefixOf, Bool.and_eq_true, beq_iff_eq, and_true] at h
      obtain ⟨rfl, rfl⟩ := h
      have e1 := lineN_cons 45 (45 :: r) (by decide)
      have e2 := lineN_cons 45 r (by decide)
      refine ⟨?_, by omega⟩
      unfold gapL
      rw [e1, List.drop_succ_cons, gapS, if_neg (by decide), if_pos ⟨rfl, rfl⟩, gapS_true (45 :: r)]
      omega
theorem gapL_none (c : UInt8) (r : List UInt8) (h1 : ¬ BLANKS.contains c = true) (h2 : Lib.hasPrefix (c :: r) [45, 45] = false) : gapL (c :: r) = 0 := by
  unfold gapL
  rw [gapS, if_neg h1, if_neg]
  rintro ⟨rfl, h⟩
  cases r with
  | nil => simp at h
  | cons b r =>
    simp only [List.head?_cons, Option.some.injEq] at h
    subst h
    simp [Lib.hasPrefix, List.isPrefixOf] at h2
-- out of Lpu
def firstW (l : List UInt8) : Nat × Nat × Int :=
  if isL (l.headD 0).toNat = true then
    if 24 < runLen isN l then (0, 0, 0) else if keptB (l.take (runLen isN l)) = true then (2, runLen isN l, 0) else (1, runLen isN l, 0)
  else if isD (l.headD 0).toNat = true then
    if 1 < runLen isD l ∧ l.headD 0 = 48 then (0, 0, 0) else
    match Lib.parseIntB 64 (l.take (runLen isD l)) with
    | .ok v => (3, runLen isD l, v)
    | _ => (0, 0, 0)
  else if 1 < l.length ∧ TWO.contains (l.take 2) = true then (4, 2, 0)
  else if SIGNS.contains (l.headD 0) = true then (4, 1, 0) else (0, 0, 0)
theorem firstW_len (l : List UInt8) (hl : 0 < l.length) : (firstW l).2.1 ≤ l.length ∧ ((firstW l).1 ≠ 0 → 1 ≤ (firstW l).2.1) ∧ ((firstW l).1 = 0 → firstW l = (0, 0, 0)) := by
  have h1 := runLen_le isN l
  have h2 := runLen_le isD l
  unfold firstW
  by_cases a : isL (l.headD 0).toNat = true
  · have p := runLen_pos isN l hl (by unfold isN; rw [a]; rfl)
    rw [if_pos a]
    split
    · simp
    · split
      · exact ⟨h1, fun _ => p, fun h => by simp at h⟩
      · exact ⟨h1, fun _ => p, fun h => by simp at h⟩
  · rw [if_neg a]
    by_cases b : isD (l.headD 0).toNat = true
    · have p := runLen_pos isD l hl b
      rw [if_pos b]
      split
      · simp
      · split
        · exact ⟨h2, fun _ => p, fun h => by simp at h⟩
        · simp
    · rw [if_neg b]
      split
      · rename_i c
        exact ⟨by have := c.1; show 2 ≤ l.length; omega, fun _ => by decide, fun h => by simp at h⟩
      · split
        · exact ⟨by show 1 ≤ l.length; omega, fun _ => by decide, fun h => by simp at h⟩
        · simp
theorem bytes_inj {a b : ByteArray} (h : a.data.toList = b.data.toList) : a = b := by
  obtain ⟨⟨a⟩⟩ := a
  obtain ⟨⟨b⟩⟩ := b
  simp only at h
  rw [h]
theorem extract_nil (s : ByteArray) (a : Nat) : s.extract a a = ByteArray.empty := by
  apply bytes_inj
  rw [Lib.extract_data, Nat.sub_self]
  rfl
def cutF : Nat → List UInt8 → Nat → Except Nat (List (Nat × Nat × Int × Nat))
  | 0, _, at_ => .error at_
  | f + 1, l, at_ =>
    if l = [] then .ok [(0, 0, 0, at_)] else
    if (firstW l).1 = 0 then .error at_ else
    match cutF f ((l.drop (firstW l).2.1).drop (gapL (l.drop (firstW l).2.1))) (at_ + (firstW l).2.1 + gapL (l.drop (firstW l).2.1)) with
    | .error p => .error p
    | .ok t => .ok (((firstW l).1, (firstW l).2.1, (firstW l).2.2, at_) :: t)
def cut1 (l : List UInt8) : Except Nat (List (Nat × Nat × Int × Nat)) := cutF (l.length + 1) (l.drop (gapL l)) (gapL l)
def cutAll (l : List UInt8) : Except (Nat × Nat) (List (Nat × Nat × Int × Nat)) :=
  if 16384 < l.length then .error (2, l.length) else
  match cut1 l with
  | .error p => .error (7, p)
  | .ok t => .ok t
def ahead (d : List (Nat × Nat × Int × Nat)) : Except Nat (List (Nat × Nat × Int × Nat)) → Except Nat (List (Nat × Nat × Int × Nat))
  | .error p => .error p
  | .ok t => .ok (d ++ t)
theorem ahead_nil (r : Except Nat (List (Nat × Nat × Int × Nat))) : ahead [] r = r := by cases r <;> rfl
theorem cutF_end (f at_ : Nat) : cutF (f + 1) [] at_ = .ok [(0, 0, 0, at_)] := by rw [cutF, if_pos rfl]
theorem cutF_bad (f at_ : Nat) (l : List UInt8) (h : l ≠ []) (h0 : (firstW l).1 = 0) : cutF (f + 1) l at_ = .error at_ := by rw [cutF, if_neg h, if_pos h0]
theorem cutF_go (f at_ : Nat) (l : List UInt8) (d : List (Nat × Nat × Int × Nat)) (h : l ≠ []) (h0 : (firstW l).1 ≠ 0) :
    ahead d (cutF (f + 1) l at_) = ahead (d ++ [((firstW l).1, (firstW l).2.1, (firstW l).2.2, at_)]) (cutF f ((l.drop (firstW l).2.1).drop (gapL (l.drop (firstW l).2.1))) (at_ + (firstW l).2.1 + gapL (l.drop (firstW l).2.1))) := by
  rw [cutF, if_neg h, if_neg h0]
  cases cutF f ((l.drop (firstW l).2.1).drop (gapL (l.drop (firstW l).2.1))) (at_ + (firstW l).2.1 + gapL (l.drop (firstW l).2.1)) with
  | error p => rfl
  | ok t => simp [ahead]
def wordC (s : ByteArray) (x : Nat × Nat × Int × Nat) : List Value := [.int .i64 (x.1 : Int), .string (s.extract x.2.2.2 (x.2.2.2 + x.2.1)), .int .i64 x.2.2.1, .int .i64 (x.2.2.2 : Int)]
def wordsC (s : ByteArray) (l : List (Nat × Nat × Int × Nat)) : List Value := l.flatMap (wordC s)
theorem wordsC_snoc (s : ByteArray) (l : List (Nat × Nat × Int × Nat)) (x : Nat × Nat × Int × Nat) : wordsC s (l ++ [x]) = wordsC s l ++ wordC s x := by simp [wordsC]
-- out of Lnm
theorem isD_iff (n : Nat) : isD n = true ↔ 48 ≤ n ∧ n ≤ 57 := by unfold isD; simp
-- out of Qnd
def foldD (a : Nat) (l : List UInt8) : Nat := l.foldl (fun a c => 10 * a + (c.toNat - 48)) a
theorem foldD_nil (a : Nat) : foldD a [] = a := rfl
theorem foldD_cons (a : Nat) (c : UInt8) (r : List UInt8) : foldD a (c :: r) = foldD (10 * a + (c.toNat - 48)) r := by unfold foldD; rw [List.foldl_cons]
theorem foldD_lo : ∀ (l : List UInt8) (a : Nat), a * 10 ^ l.length ≤ foldD a l
  | [], a => by rw [foldD_nil]; simp
  | c :: r, a => by
    have h := foldD_lo r (10 * a + (c.toNat - 48))
    rw [foldD_cons, List.length_cons]
    refine Nat.le_trans ?_ h
    rw [Nat.pow_succ, Nat.add_mul]
    have e : a * (10 ^ r.length * 10) = 10 * a * 10 ^ r.length := by rw [Nat.mul_comm (10 ^ r.length) 10, ← Nat.mul_assoc, Nat.mul_comm a 10]
    omega
theorem foldD_hi : ∀ (l : List UInt8) (a : Nat), (∀ c ∈ l, isD c.toNat = true) → foldD a l + 1 ≤ (a + 1) * 10 ^ l.length
  | [], a, _ => by rw [foldD_nil]; simp
  | c :: r, a, hd => by
    have hc := (isD_iff _).1 (hd c (by simp))
    have h := foldD_hi r (10 * a + (c.toNat - 48)) (fun x hx => hd x (by simp [hx]))
    rw [foldD_cons, List.length_cons]
    refine Nat.le_trans h ?_
    rw [Nat.pow_succ]
    have e : (a + 1) * (10 ^ r.length * 10) = (10 * a + 10) * 10 ^ r.length := by
      rw [Nat.mul_comm (10 ^ r.length) 10, ← Nat.mul_assoc, Nat.mul_comm (a + 1) 10, Nat.mul_add]
    rw [e]
    exact Nat.mul_le_mul_right _ (by omega)
theorem foldD_snoc (l : List UInt8) (a : Nat) (c : UInt8) : foldD a (l ++ [c]) = 10 * foldD a l + (c.toNat - 48) := by unfold foldD; rw [List.foldl_append]; rfl
theorem foldD_ge (l : List UInt8) (a : Nat) : a ≤ foldD a l := Nat.le_trans (Nat.le_mul_of_pos_right _ (Nat.pow_pos (by decide))) (foldD_lo l a)
theorem parseM_digits : ∀ (l : List UInt8) (a : Nat), (∀ c ∈ l, isD c.toNat = true) → a ≤ 18446744073709551615 →
    Lib.parseUintM 18446744073709551615 a l = if foldD a l ≤ 18446744073709551615 then .ok (foldD a l) else .range
  | [], a, _, ha => by rw [Lib.parseUintM, foldD_nil, if_pos ha]
  | c :: r, a, hd, ha => by
    have hc := (isD_iff _).1 (hd c (by simp))
    rw [Lib.parseUintM, if_pos hc, foldD_cons]
    have e : a * 10 + (c.toNat - 48) = 10 * a + (c.toNat - 48) := by omega
    have hge := foldD_ge r (10 * a + (c.toNat - 48))
    rw [e]
    by_cases h1 : 1844674407370955162 ≤ a
    · rw [if_pos h1, if_neg (by omega)]
    · rw [if_neg h1]
      by_cases h2 : 18446744073709551615 < 10 * a + (c.toNat - 48)
      · rw [if_pos h2, if_neg (by omega)]
      · rw [if_neg h2]
        exact parseM_digits r _ (fun x hx => hd x (by simp [hx])) (by omega)
theorem parse_digits (l : List UInt8) (hne : l ≠ []) (hd : ∀ c ∈ l, isD c.toNat = true) : Lib.parseIntB 64 l = if foldD 0 l < 9223372036854775808 then .ok (foldD 0 l : Int) else .range := by
  obtain ⟨c, r, rfl⟩ := List.exists_cons_of_ne_nil hne
  have hc := (isD_iff _).1 (hd c (by simp))
  have hm : Lib.parseUintB 64 (c :: r) = if foldD 0 (c :: r) ≤ 18446744073709551615 then .ok (foldD 0 (c :: r)) else .range := by
    unfold Lib.parseUintB
    rw [if_neg hne]
    exact parseM_digits (c :: r) 0 hd (by decide)
  rw [Lib.parseIntB_plain 64 c r (by omega) (by omega), hm]
  by_cases h1 : foldD 0 (c :: r) ≤ 18446744073709551615
  · rw [if_pos h1]
    by_cases h2 : foldD 0 (c :: r) < 9223372036854775808
    · rw [if_pos h2]; simp [Lib.signlessC]; omega
    · rw [if_neg h2]; simp [Lib.signlessC]; omega
  · rw [if_neg h1, if_neg (by omega)]; rfl
-- out of Qlx
set_option maxRecDepth 100000 in
theorem rLetter_any (c : Nat) (w : World) : Calls Try.prog 113 #[.int .u8 (c : Int)] w fun e w' => e = .returned (.bool (isL c)) ∧ w' = w := by
  unfold isL
  by_cases h1 : 97 ≤ c
  · by_cases h2 : c ≤ 122
    · rw [decide_eq_true h1, decide_eq_true h2]
      have i1 : decide ((97 : Int) ≤ (c : Int)) = true := by simp; omega
      have i2 : decide ((c : Int) ≤ 122) = true := by simp; omega
      go_enter Try.func113, Try.ntmps113
      go_wp2
      go_ret
      exact ⟨rfl, rfl⟩
    · rw [decide_eq_true h1, decide_eq_false h2]
      have i1 : decide ((97 : Int) ≤ (c : Int)) = true := by simp; omega
      have i2 : decide ((c : Int) ≤ 122) = false := by simp; omega
      go_enter Try.func113, Try.ntmps113
      go_wp2
      go_ret
      exact ⟨rfl, rfl⟩
  · rw [decide_eq_false h1]
    have i1 : decide ((97 : Int) ≤ (c : Int)) = false := by simp; omega
    go_enter Try.func113, Try.ntmps113
    go_wp2
    go_ret
    exact ⟨rfl, rfl⟩
set_option maxRecDepth 100000 in
theorem rDigit_any (c : Nat) (w : World) : Calls Try.prog 114 #[.int .u8 (c : Int)] w fun e w' => e = .returned (.bool (isD c)) ∧ w' = w := by
  unfold isD
  by_cases h1 : 48 ≤ c
  · by_cases h2 : c ≤ 57
    · rw [decide_eq_true h1, decide_eq_true h2]
      have i1 : decide ((48 : Int) ≤ (c : Int)) = true := by simp; omega
      have i2 : decide ((c : Int) ≤ 57) = true := by simp; omega
      go_enter Try.func114, Try.ntmps114
      go_wp2
      go_ret
      exact ⟨rfl, rfl⟩
    · rw [decide_eq_true h1, decide_eq_false h2]
      have i1 : decide ((48 : Int) ≤ (c : Int)) = true := by simp; omega
      have i2 : decide ((c : Int) ≤ 57) = false := by simp; omega
      go_enter Try.func114, Try.ntmps114
      go_wp2
      go_ret
      exact ⟨rfl, rfl⟩
  · rw [decide_eq_false h1]
    have i1 : decide ((48 : Int) ≤ (c : Int)) = false := by simp; omega
    go_enter Try.func114, Try.ntmps114
    go_wp2
    go_ret
    exact ⟨rfl, rfl⟩
def KB (i : Nat) : ByteArray := ⟨(KEPT.getD i []).toArray⟩
theorem KB_list (i : Nat) : (KB i).data.toList = KEPT.getD i [] := by simp [KB]
theorem kept_cell (i : Nat) (h : i < 21) : (#[.string ⟨#[110, 111, 100, 101]⟩, .string ⟨#[114, 101, 116, 117, 114, 110, 115]⟩, .string ⟨#[118, 97, 114]⟩, .string ⟨#[108, 101, 116]⟩, .string ⟨#[116, 101, 108]⟩, .string ⟨#[98, 111, 111, 108]⟩, .string ⟨#[105, 110, 116]⟩, .string ⟨#[116, 114, 117, 101]⟩, .string ⟨#[102, 97, 108, 115, 101]⟩, .string ⟨#[110, 111, 116]⟩, .string ⟨#[97, 110, 100]⟩, .string ⟨#[111, 114]⟩, .string ⟨#[120, 111, 114]⟩, .string ⟨#[109, 111, 100]⟩, .string ⟨#[105, 102]⟩, .string ⟨#[116, 104, 101, 110]⟩, .string ⟨#[101, 108, 115, 101]⟩, .string ⟨#[112, 114, 101]⟩, .string ⟨#[102, 98, 121]⟩, .string ⟨#[119, 104, 101, 110]⟩, .string ⟨#[109, 101, 114, 103, 101]⟩] : Array Value)[i]? = some (.string (KB i)) := by
  rcases (by omega : i = 0 ∨ i = 1 ∨ i = 2 ∨ i = 3 ∨ i = 4 ∨ i = 5 ∨ i = 6 ∨ i = 7 ∨ i = 8 ∨ i = 9 ∨ i = 10 ∨ i = 11 ∨ i = 12 ∨ i = 13 ∨ i = 14 ∨ i = 15 ∨ i = 16 ∨ i = 17 ∨ i = 18 ∨ i = 19 ∨ i = 20) with rfl | rfl | rfl | rfl | rfl | rfl | rfl | rfl | rfl | rfl | rfl | rfl | rfl | rfl | rfl | rfl | rfl | rfl | rfl | rfl | rfl <;> rfl
theorem kept_yes (s : ByteArray) (i : Nat) (h : i < 21) (e : KB i = s) : keptB s.data.toList = true := by
  unfold keptB
  rw [List.contains_iff_mem, ← e, KB_list]
  have hl : KEPT.length = 21 := rfl
  rw [List.getD_eq_getElem?_getD, List.getElem?_eq_getElem (by omega)]
  exact List.getElem_mem _
theorem kept_no (s : ByteArray) (h : ∀ i, i < 21 → KB i ≠ s) : keptB s.data.toList = false := by
  cases hk : keptB s.data.toList with
  | false => rfl
  | true =>
    exfalso
    unfold keptB at hk
    obtain ⟨i, hi, e⟩ := List.getElem_of_mem (List.contains_iff_mem.1 hk)
    have hl : KEPT.length = 21 := rfl
    refine h i (by omega) (bytes_inj ?_)
    rw [KB_list, List.getD_eq_getElem?_getD, List.getElem?_eq_getElem (by omega)]
    exact e
theorem ret_str {a b : ByteArray} (h : a = b) : Ending.returned (.string a) = .returned (.string b) := by rw [h]
theorem str_eq (a b : ByteArray) : (a.toList == b.toList) = true ↔ a = b := by
  rw [Lib.toList_data, Lib.toList_data]
  constructor
  · intro h; exact bytes_inj (by simpa using h)
  · rintro rfl; simp
theorem str_ne (a b : ByteArray) (h : a ≠ b) : (a.toList == b.toList) = false := by
  cases e : a.toList == b.toList with
  | false => rfl
  | true => exact absurd ((str_eq a b).1 e) h
set_option maxHeartbeats 4000000 in
set_option maxRecDepth 100000 in
theorem rKept_any (s : ByteArray) (w : World) : Calls Try.prog 115 #[.string s] w fun e w' => e = .returned (.bool (keptB s.data.toList)) ∧ Below w.heap.size w w' := by
  have hck : ∀ i, i < 21 → (w.alloc (.cells #[.string ⟨#[110, 111, 100, 101]⟩, .string ⟨#[114, 101, 116, 117, 114, 110, 115]⟩, .string ⟨#[118, 97, 114]⟩, .string ⟨#[108, 101, 116]⟩, .string ⟨#[116, 101, 108]⟩, .string ⟨#[98, 111, 111, 108]⟩, .string ⟨#[105, 110, 116]⟩, .string ⟨#[116, 114, 117, 101]⟩, .string ⟨#[102, 97, 108, 115, 101]⟩, .string ⟨#[110, 111, 116]⟩, .string ⟨#[97, 110, 100]⟩, .string ⟨#[111, 114]⟩, .string ⟨#[120, 111, 114]⟩, .string ⟨#[109, 111, 100]⟩, .string ⟨#[105, 102]⟩, .string ⟨#[116, 104, 101, 110]⟩, .string ⟨#[101, 108, 115, 101]⟩, .string ⟨#[112, 114, 101]⟩, .string ⟨#[102, 98, 121]⟩, .string ⟨#[119, 104, 101, 110]⟩, .string ⟨#[109, 101, 114, 103, 101]⟩] 9)).cell? ⟨w.heap.size, i, none⟩ = some (.string (KB i)) := fun i hi => by
    have h := heap_alloc_new w (.cells #[.string ⟨#[110, 111, 100, 101]⟩, .string ⟨#[114, 101, 116, 117, 114, 110, 115]⟩, .string ⟨#[118, 97, 114]⟩, .string ⟨#[108, 101, 116]⟩, .string ⟨#[116, 101, 108]⟩, .string ⟨#[98, 111, 111, 108]⟩, .string ⟨#[105, 110, 116]⟩, .string ⟨#[116, 114, 117, 101]⟩, .string ⟨#[102, 97, 108, 115, 101]⟩, .string ⟨#[110, 111, 116]⟩, .string ⟨#[97, 110, 100]⟩, .string ⟨#[111, 114]⟩, .string ⟨#[120, 111, 114]⟩, .string ⟨#[109, 111, 100]⟩, .string ⟨#[105, 102]⟩, .string ⟨#[116, 104, 101, 110]⟩, .string ⟨#[101, 108, 115, 101]⟩, .string ⟨#[112, 114, 101]⟩, .string ⟨#[102, 98, 121]⟩, .string ⟨#[119, 104, 101, 110]⟩, .string ⟨#[109, 101, 114, 103, 101]⟩] 9)
    simp only [World.cell?, h]
    exact kept_cell i hi
  have hbel : Below w.heap.size w (w.alloc (.cells #[.string ⟨#[110, 111, 100, 101]⟩, .string ⟨#[114, 101, 116, 117, 114, 110, 115]⟩, .string ⟨#[118, 97, 114]⟩, .string ⟨#[108, 101, 116]⟩, .string ⟨#[116, 101, 108]⟩, .string ⟨#[98, 111, 111, 108]⟩, .string ⟨#[105, 110, 116]⟩, .string ⟨#[116, 114, 117, 101]⟩, .string ⟨#[102, 97, 108, 115, 101]⟩, .string ⟨#[110, 111, 116]⟩, .string ⟨#[97, 110, 100]⟩, .string ⟨#[111, 114]⟩, .string ⟨#[120, 111, 114]⟩, .string ⟨#[109, 111, 100]⟩, .string ⟨#[105, 102]⟩, .string ⟨#[116, 104, 101, 110]⟩, .string ⟨#[101, 108, 115, 101]⟩, .string ⟨#[112, 114, 101]⟩, .string ⟨#[102, 98, 121]⟩, .string ⟨#[119, 104, 101, 110]⟩, .string ⟨#[109, 101, 114, 103, 101]⟩] 9)) := (Below.refl _ _).alloc (Nat.le_refl _) _
  have HC := Lib.hid hck
  have HB := Lib.hid hbel
  have HY := Lib.hid (kept_yes s)
  have HN := Lib.hid (kept_no s)
  clear hck hbel
  obtain ⟨b, hb⟩ : ∃ b, b = keptB s.data.toList := ⟨_, rfl⟩
  rw [← hb] at HY HN ⊢
  clear hb
  go_enter Try.func115, Try.ntmps115
  go_wp2
  generalize w.alloc (.cells #[.string ⟨#[110, 111, 100, 101]⟩, .string ⟨#[114, 101, 116, 117, 114, 110, 115]⟩, .string ⟨#[118, 97, 114]⟩, .string ⟨#[108, 101, 116]⟩, .string ⟨#[116, 101, 108]⟩, .string ⟨#[98, 111, 111, 108]⟩, .string ⟨#[105, 110, 116]⟩, .string ⟨#[116, 114, 117, 101]⟩, .string ⟨#[102, 97, 108, 115, 101]⟩, .string ⟨#[110, 111, 116]⟩, .string ⟨#[97, 110, 100]⟩, .string ⟨#[111, 114]⟩, .string ⟨#[120, 111, 114]⟩, .string ⟨#[109, 111, 100]⟩, .string ⟨#[105, 102]⟩, .string ⟨#[116, 104, 101, 110]⟩, .string ⟨#[101, 108, 115, 101]⟩, .string ⟨#[112, 114, 101]⟩, .string ⟨#[102, 98, 121]⟩, .string ⟨#[119, 104, 101, 110]⟩, .string ⟨#[109, 101, 114, 103, 101]⟩] 9) = w1 at HC HB ⊢
  go_loop [4] (fun vi => ∃ i : Nat, vi = .int .i64 (i : Int) ∧ i ≤ 21 ∧ ∀ j, j < i → KB j ≠ s) (fun vi => 21 - (intOf vi).toNat)
  case atStart => exact ⟨0, rfl, by omega, fun j hj => absurd hj (by omega)⟩
  case round =>
    obtain ⟨i, rfl, hi, hne⟩ := hrel
    have HNE := Lib.hid hne
    clear hne
    by_cases hlt : i < 21
    · have d1 : decide ((i : Int) < 21) = true := by simp; omega
      have hc := HC.out i hlt
      have i0 : (0 : Int) ≤ (i : Int) := by omega
      have i1 : (i : Int) < 21 := by omega
      by_cases he : KB i = s
      · obtain rfl := HY.out i hlt he
        have e1 := (str_eq (KB i) s).2 he
        obtain ⟨T, hT⟩ : ∃ T, T = KB i := ⟨_, rfl⟩
        rw [← hT] at e1 hc
        clear he hT
        go_wp2_with fail
        go_ret
        exact ⟨rfl, HB.out⟩
      · have e1 := str_ne (KB i) s he
        have HE := Lib.hid he
        clear he
        obtain ⟨T, hT⟩ : ∃ T, T = KB i := ⟨_, rfl⟩
        rw [← hT] at e1 hc
        have HT := Lib.hid hT
        clear hT
        go_wp2_with fail
        go_round
        case rel => exact ⟨i + 1, by go_num, by omega, fun j hj => by
          by_cases h : j = i
          · subst h; exact HE.out
          · exact HNE.out j (by omega)⟩
        case measure => simp [intOf]; omega
    · obtain rfl : i = 21 := by omega
      have d1 : decide (((21 : Nat) : Int) < 21) = false := by decide
      obtain rfl := HN.out HNE.out
      go_wp2_with fail
      go_ret
      exact ⟨rfl, HB.out⟩
def signN (l : List UInt8) : Nat := if 1 < l.length ∧ TWO.contains (l.take 2) = true then 2 else if SIGNS.contains (l.headD 0) = true then 1 else 0
def TB (i : Nat) : ByteArray := ⟨(TWO.getD i []).toArray⟩
theorem TB_list (i : Nat) : (TB i).data.toList = TWO.getD i [] := by simp [TB]
theorem two_cell (i : Nat) (h : i < 4) : (#[.string ⟨#[60, 61]⟩, .string ⟨#[62, 61]⟩, .string ⟨#[60, 62]⟩, .string ⟨#[45, 62]⟩] : Array Value)[i]? = some (.string (TB i)) := by
  rcases (by omega : i = 0 ∨ i = 1 ∨ i = 2 ∨ i = 3) with rfl | rfl | rfl | rfl <;> rfl
theorem two_yes (s : ByteArray) (i : Nat) (h : i < 4) (h2 : 2 ≤ s.size) (e : s.extract 0 2 = TB i) : signN s.data.toList = 2 := by
  have hl : s.data.toList.length = s.size := by simp
  unfold signN
  rw [if_pos]
  refine ⟨by omega, ?_⟩
  have e2 := congrArg (fun x : ByteArray => x.data.toList) e
  simp only [Lib.extract_data, TB_list] at e2
  rw [List.contains_iff_mem, show s.data.toList.take 2 = (s.data.toList.drop 0).take (2 - 0) from rfl, e2]
  have h4 : TWO.length = 4 := rfl
  rw [List.getD_eq_getElem?_getD, List.getElem?_eq_getElem (by omega)]
  exact List.getElem_mem _
theorem two_no (s : ByteArray) (h : s.size < 2 ∨ ∀ i, i < 4 → s.extract 0 2 ≠ TB i) : signN s.data.toList = if SIGNS.contains (s.data.toList.headD 0) = true then 1 else 0 := by
  have hl : s.data.toList.length = s.size := by simp
  unfold signN
  rw [if_neg]
  rintro ⟨h1, hc⟩
  rcases h with h | h
  · omega
  · obtain ⟨i, hi, e⟩ := List.getElem_of_mem (List.contains_iff_mem.1 hc)
    have h4 : TWO.length = 4 := rfl
    refine h i (by omega) (bytes_inj ?_)
    rw [Lib.extract_data, TB_list, List.getD_eq_getElem?_getD, List.getElem?_eq_getElem (by omega)]
    exact e.symm
theorem run_index_one {P : Program} (W : World) {t : TypeId} (ht : P.underlying t = some .string) (k : Nat) (hk : k < 12) :
    (Instr.index t (.string ⟨#[40, 41, 58, 59, 44, 61, 43, 45, 42, 47, 60, 62]⟩) (.int .i64 (k : Int))).run P W = .ok (.int .u8 ((SIGNS.getD k 0).toNat : Int)) W := by
  rcases (by omega : k = 0 ∨ k = 1 ∨ k = 2 ∨ k = 3 ∨ k = 4 ∨ k = 5 ∨ k = 6 ∨ k = 7 ∨ k = 8 ∨ k = 9 ∨ k = 10 ∨ k = 11) with rfl | rfl | rfl | rfl | rfl | rfl | rfl | rfl | rfl | rfl | rfl | rfl <;>
    simp [Instr.index, asIntOf, Sem.run_bind, run_underlying ht, SIGNS] <;> rfl
theorem sign_yes (c : UInt8) (k : Nat) (hk : k < 12) (h : c = SIGNS.getD k 0) : SIGNS.contains c = true := by
  have h4 : SIGNS.length = 12 := rfl
  rw [List.contains_iff_mem, h, List.getD_eq_getElem?_getD, List.getElem?_eq_getElem (by omega)]
  exact List.getElem_mem _
theorem sign_no (c : UInt8) (h : ∀ k, k < 12 → c ≠ SIGNS.getD k 0) : SIGNS.contains c = false := by
  cases hc : SIGNS.contains c with
  | false => rfl
  | true =>
    exfalso
    obtain ⟨i, hi, e⟩ := List.getElem_of_mem (List.contains_iff_mem.1 hc)
    have h4 : SIGNS.length = 12 := rfl
    refine h i (by omega) ?_
    rw [List.getD_eq_getElem?_getD, List.getElem?_eq_getElem (by omega)]
    exact e.symm
set_option maxHeartbeats 4000000 in
set_option maxRecDepth 100000 in
theorem rSign_any (s : ByteArray) (w : World) (hs : s.size ≤ 140737488351232) (hs0 : 0 < s.size) : Calls Try.prog 117 #[.string s] w fun e w' => e = .returned (.string (s.extract 0 (signN s.data.toList))) ∧ Below w.heap.size w w' := by
  have hck : ∀ i, i < 4 → (w.alloc (.cells #[.string ⟨#[60, 61]⟩, .string ⟨#[62, 61]⟩, .string ⟨#[60, 62]⟩, .string ⟨#[45, 62]⟩] 9)).cell? ⟨w.heap.size, i, none⟩ = some (.string (TB i)) := fun i hi => by
    have h := heap_alloc_new w (.cells #[.string ⟨#[60, 61]⟩, .string ⟨#[62, 61]⟩, .string ⟨#[60, 62]⟩, .string ⟨#[45, 62]⟩] 9)
    simp only [World.cell?, h]
    exact two_cell i hi
  have hbel : Below w.heap.size w (w.alloc (.cells #[.string ⟨#[60, 61]⟩, .string ⟨#[62, 61]⟩, .string ⟨#[60, 62]⟩, .string ⟨#[45, 62]⟩] 9)) := (Below.refl _ _).alloc (Nat.le_refl _) _
  have hlt0 : w.heap.size < (w.alloc (.cells #[.string ⟨#[60, 61]⟩, .string ⟨#[62, 61]⟩, .string ⟨#[60, 62]⟩, .string ⟨#[45, 62]⟩] 9)).heap.size := by simp
  have hhd := head_get s hs0
  have HC := Lib.hid hck
  have HB := Lib.hid hbel
  have HY := Lib.hid (two_yes s)
  have HN := Lib.hid (two_no s)
  have HD := Lib.hid hhd
  have HL := Lib.hid hlt0
  clear hck hbel hhd hlt0
  obtain ⟨m, hm⟩ : ∃ m, m = signN s.data.toList := ⟨_, rfl⟩
  rw [← hm] at HY HN ⊢
  clear hm
  go_enter Try.func117, Try.ntmps117
  go_wp2
  generalize w.alloc (.cells #[.string ⟨#[60, 61]⟩, .string ⟨#[62, 61]⟩, .string ⟨#[60, 62]⟩, .string ⟨#[45, 62]⟩] 9) = w1 at HC HB HL ⊢
  go_loopw [4] (fun vi wr => ∃ i : Nat, vi = .int .i64 (i : Int) ∧ i ≤ 4 ∧ (s.size < 2 ∨ ∀ j, j < i → s.extract 0 2 ≠ TB j) ∧ Below w1.heap.size w1 wr) (fun vi _ => 4 - (intOf vi).toNat)
  case atStart => exact ⟨0, rfl, by omega, .inr (fun j hj => absurd hj (by omega)), Below.refl _ _⟩
  case round =>
    obtain ⟨i, rfl, hi, hne, hbr⟩ := hrel
    have HNE := Lib.hid hne
    have HBR := Lib.hid hbr
    clear hne hbr
    by_cases hlt : i < 4
    · have d1 : decide ((i : Int) < 4) = true := by simp; omega
      have hc := (HBR.out.cell (p := ⟨w.heap.size, i, none⟩) HL.out).trans (HC.out i hlt)
      have i0 : (0 : Int) ≤ (i : Int) := by omega
      have i1 : (i : Int) < 4 := by omega
      by_cases h2 : s.size < 2
      · have d2 : decide ((2 : Int) ≤ (s.size : Int)) = false := by simp; omega
        go_wp2_with fail
        go_quiet (fail)
        go_wp2_with fail
        refine ⟨⟨i + 1, by go_num, by omega, .inl h2, below_drewN HBR.out _⟩, ?_⟩
        simp [intOf]; omega
      · have d2 : decide ((2 : Int) ≤ (s.size : Int)) = true := by simp; omega
        have b2 : (2 : Int) ≤ (s.size : Int) := by omega
        by_cases he : s.extract 0 2 = TB i
        · obtain rfl := HY.out i hlt (by omega) he
          have e1 := (str_eq (s.extract 0 2) (TB i)).2 he
          have hr : s.extract 0 2 = TB i := he
          have HE := Lib.hid he
          clear he hr
          obtain ⟨T, hT⟩ : ∃ T, T = TB i := ⟨_, rfl⟩
          rw [← hT] at e1 hc HE
          clear hT
          go_wp2_with fail
          go_quiet (fail)
          go_wp2_with fail
          go_ret
          exact ⟨ret_str HE.out.symm, below_drewN (HB.out.trans (HBR.out.mono HB.out.size)) _⟩
        · have e1 := str_ne (s.extract 0 2) (TB i) he
          have HE := Lib.hid he
          clear he
          obtain ⟨T, hT⟩ : ∃ T, T = TB i := ⟨_, rfl⟩
          rw [← hT] at e1 hc
          have HT := Lib.hid hT
          clear hT
          go_wp2_with fail
          go_quiet (fail)
          go_wp2_with fail
          refine ⟨⟨i + 1, by go_num, by omega, .inr (fun j hj => ?_), below_drewN HBR.out _⟩, ?_⟩
          · by_cases h : j = i
            · subst h; exact HE.out
            · rcases HNE.out with h3 | h3
              · exact absurd h3 h2
              · exact h3 j (by omega)
          · simp [intOf]; omega
    · obtain rfl : i = 4 := by omega
      have d1 : decide (((4 : Nat) : Int) < 4) = false := by decide
      have hm := HN.out HNE.out
      rw [HD.out] at hm
      have HM := Lib.hid hm
      clear hm HNE HC
      obtain ⟨w2, hw2⟩ : ∃ w2 : World, w2 = wr := ⟨_, rfl⟩
      have HB2 := Lib.hid (HB.out.trans (HBR.out.mono HB.out.size))
      rw [← hw2] at HB2 ⊢
      clear HBR hw2
      have s0 : (0 : Int) < (s.size : Int) := by omega
      have ix0 : ∀ W, (Instr.index 9 (.string s) (.int .i64 0)).run Try.prog W = .ok (.int .u8 (s[0].toNat : Int)) W := fun W => by
        simp [Instr.index, asIntOf, Sem.run_bind, run_underlying Try.underlying9, hs0]
      go_wp2_with fail
      go_loopw [6] (fun vi wr => ∃ i : Nat, vi = .int .i64 (i : Int) ∧ i ≤ 12 ∧ (∀ j, j < i → s[0] ≠ SIGNS.getD j 0) ∧ Below w.heap.size w wr) (fun vi _ => 12 - (intOf vi).toNat)
      case atStart => exact ⟨0, rfl, by omega, fun j hj => absurd hj (by omega), HB2.out⟩
      case round =>
        obtain ⟨i, rfl, hi, hne, hbr⟩ := hrel
        have HNE := Lib.hid hne
        have HBR := Lib.hid hbr
        clear hne hbr
        by_cases hlt : i < 12
        · have d3 : decide ((i : Int) < 12) = true := by simp; omega
          have ixi : ∀ W, (Instr.index 9 (.string ⟨#[40, 41, 58, 59, 44, 61, 43, 45, 42, 47, 60, 62]⟩) (.int .i64 (i : Int))).run Try.prog W = .ok (.int .u8 ((SIGNS.getD i 0).toNat : Int)) W := fun W => run_index_one W Try.underlying9 i hlt
          by_cases he : s[0] = SIGNS.getD i 0
          · have e1 : ((s[0].toNat : Int) == ((SIGNS.getD i 0).toNat : Int)) = true := by rw [he]; simp
            have hmm := HM.out
            rw [if_pos (sign_yes _ i hlt he)] at hmm
            obtain rfl := hmm
            obtain ⟨c, hcc⟩ : ∃ c, c = (SIGNS.getD i 0).toNat := ⟨_, rfl⟩
            rw [← hcc] at e1 ixi
            obtain ⟨x, hx⟩ : ∃ x, x = s[0].toNat := ⟨_, rfl⟩
            rw [← hx] at e1 ix0
            clear he hcc hx HM
            go_wp2_with fail
            go_quiet (fail)
            go_wp2_with fail
            go_ret
            exact ⟨rfl, below_drewN HBR.out _⟩
          · have hne2 : s[0].toNat ≠ (SIGNS.getD i 0).toNat := fun h => he (UInt8.toNat_inj.1 h)
            have HE := Lib.hid he
            obtain ⟨c, hcc⟩ : ∃ c, c = (SIGNS.getD i 0).toNat := ⟨_, rfl⟩
            rw [← hcc] at hne2 ixi
            obtain ⟨x, hx⟩ : ∃ x, x = s[0].toNat := ⟨_, rfl⟩
            rw [← hx] at hne2 ix0
            have e1 : ((x : Int) == (c : Int)) = false := by simp; omega
            clear he hcc hx hne2
            go_wp2_with fail
            go_quiet (fail)
            go_wp2_with fail
            refine ⟨⟨i + 1, by go_num, by omega, fun j hj => ?_, below_drewN HBR.out _⟩, ?_⟩
            · by_cases h : j = i
              · subst h; exact HE.out
              · exact HNE.out j (by omega)
            · simp [intOf]; omega
        · obtain rfl : i = 12 := by omega
          have d3 : decide (((12 : Nat) : Int) < 12) = false := by decide
          have hmm := HM.out
          rw [if_neg (by rw [sign_no _ HNE.out]; decide)] at hmm
          obtain rfl := hmm
          clear HM
          have hx0 : s.extract 0 0 = ⟨#[]⟩ := extract_nil s 0
          have HX := Lib.hid hx0
          clear hx0
          go_wp2_with fail
          go_ret
          exact ⟨ret_str HX.out.symm, HBR.out⟩
theorem fold_take (s : ByteArray) (i : Nat) (h : i < s.size) : foldD 0 (s.data.toList.take (i + 1)) = 10 * foldD 0 (s.data.toList.take i) + (s[i].toNat - 48) := by
  have hl : s.data.toList.length = s.size := by simp
  rw [List.take_succ_eq_append_getElem (by omega), foldD_snoc]
  rfl
def okN (s : ByteArray) : Prop := ¬ (1 < s.size ∧ s.data.toList.headD 0 = 48) ∧ foldD 0 s.data.toList < 9223372036854775808
def GivesNum (s : ByteArray) (w : World) (e : Ending) (w' : World) : Prop := w' = w ∧ ∃ (x : Int) (b : Bool), e = .returned (.tuple #[.int .i64 x, .bool b]) ∧ (b = true ↔ okN s) ∧ (b = true → x = (foldD 0 s.data.toList : Int))
set_option maxHeartbeats 4000000 in
set_option maxRecDepth 100000 in
theorem rNumber_any (s : ByteArray) (w : World) (hs0 : 0 < s.size) (hs : s.size ≤ 140737488351232) (hd : ∀ c ∈ s.data.toList, isD c.toNat = true) : Calls Try.prog 116 #[.string s] w (GivesNum s w) := by
  have hl : s.data.toList.length = s.size := by simp
  have hhd := head_get s hs0
  have s0 : (0 : Int) < (s.size : Int) := by omega
  by_cases h1 : 1 < s.size ∧ s.data.toList.headD 0 = 48
  · have d1 : decide ((1 : Int) < (s.size : Int)) = true := by simp; omega
    have d2 : ((s[0].toNat : Int) == 48) = true := by rw [← hhd, h1.2]; decide
    have hno : ¬ okN s := fun h => h.1 h1
    have HNO := Lib.hid hno
    clear hl hhd h1 hd hno
    go_enter Try.func116, Try.ntmps116
    go_wp2_with fail
    go_ret2
    exact ⟨rfl, 0, false, rfl, ⟨fun h => (by cases h), fun h => absurd h HNO.out⟩, fun h => (by cases h)⟩
  · have hpart : ((1 < s.size) ∧ ((s[0].toNat : Int) == 48) = false) ∨ ¬ 1 < s.size := by
      by_cases h : 1 < s.size
      · refine .inl ⟨h, ?_⟩
        have h48 : s[0] ≠ 48 := fun e => h1 ⟨h, hhd.trans e⟩
        have : s[0].toNat ≠ 48 := fun e => h48 (UInt8.toNat_inj.1 e)
        simp; omega
      · exact .inr h
    have H1 := Lib.hid h1
    by_cases h19 : 19 < s.size
    · have hbig : ¬ foldD 0 s.data.toList < 9223372036854775808 := by
        obtain ⟨c, r, hcr⟩ := List.exists_cons_of_ne_nil (List.length_pos_iff.1 (by rw [hl]; exact hs0) : s.data.toList ≠ [])
        have hcd := (isD_iff _).1 (hd c (by rw [hcr]; simp))
        have hc48 : c ≠ 48 := fun e => h1 ⟨by omega, by rw [hcr]; exact e⟩
        have hc1 : 48 < c.toNat := by
          rcases Nat.lt_or_ge 48 c.toNat with h | h
          · exact h
          · exact absurd (UInt8.toNat_inj.1 (by rw [show UInt8.toNat 48 = 48 from rfl]; omega : c.toNat = UInt8.toNat 48)) hc48
        have lo := foldD_lo r (10 * 0 + (c.toNat - 48))
        rw [hcr] at hl ⊢
        rw [foldD_cons]
        have hp : 10 ^ 19 ≤ 10 ^ r.length := Nat.pow_le_pow_right (by decide) (by simp at hl; omega)
        have : 1 * 10 ^ 19 ≤ (10 * 0 + (c.toNat - 48)) * 10 ^ r.length := Nat.mul_le_mul (by omega) hp
        have e19 : (10 : Nat) ^ 19 = 10000000000000000000 := by decide
        omega
      have d1 : decide ((1 : Int) < (s.size : Int)) = true := by simp; omega
      have d3 : decide ((19 : Int) < (s.size : Int)) = true := by simp; omega
      obtain ⟨_, d2⟩ : 1 < s.size ∧ ((s[0].toNat : Int) == 48) = false := hpart.resolve_right (fun h => h (by omega))
      have hno : ¬ okN s := fun h => hbig h.2
      have HNO := Lib.hid hno
      clear hl hhd h1 hd hpart hbig hno
      go_enter Try.func116, Try.ntmps116
      go_wp2_with fail
      go_ret2
      exact ⟨rfl, 0, false, rfl, ⟨fun h => (by cases h), fun h => absurd h HNO.out⟩, fun h => (by cases h)⟩
    · have d3 : decide ((19 : Int) < (s.size : Int)) = false := by simp; omega
      have hstep := fold_take s
      have hdig : ∀ i (h : i < s.size), 48 ≤ s[i].toNat ∧ s[i].toNat ≤ 57 := fun i h => (isD_iff _).1 (hd _ (by rw [← bytes_get s i h]; exact List.getElem_mem _))
      have hub : ∀ i, i ≤ s.size → i ≤ 18 → foldD 0 (s.data.toList.take i) < 1000000000000000000 := fun i hi h18 => by
        have h := foldD_hi (s.data.toList.take i) 0 (fun c hc => hd c (List.mem_of_mem_take hc))
        rw [List.length_take, hl, Nat.min_eq_left hi] at h
        have hp : 10 ^ i ≤ 10 ^ 18 := Nat.pow_le_pow_right (by decide) h18
        have e18 : (10 : Nat) ^ 18 = 1000000000000000000 := by decide
        omega
      have hfull : s.data.toList.take s.size = s.data.toList := List.take_of_length_le (by omega)
      have HS := Lib.hid hstep
      have HDG := Lib.hid hdig
      have HU := Lib.hid hub
      obtain ⟨F, hF⟩ : ∃ F : Nat → Nat, F = fun i => foldD 0 (s.data.toList.take i) := ⟨_, rfl⟩
      have hFi : ∀ i, foldD 0 (s.data.toList.take i) = F i := fun i => by rw [hF]
      have hFf : foldD 0 s.data.toList = F s.size := by rw [hF]; simp only [hfull]
      simp only [hFi] at HS HU
      have hok : okN s ↔ F s.size < 9223372036854775808 := by
        unfold okN
        rw [hFf]
        exact ⟨fun h => h.2, fun h => ⟨h1, h⟩⟩
      have HOK := Lib.hid hok
      have HFF := Lib.hid hFf
      have hF0 : F 0 = 0 := by rw [hF]; rfl
      have HF0 := Lib.hid hF0
      have HP := Lib.hid hpart
      clear hl hhd h1 hd hstep hdig hub hfull hF hFi hFf hF0 hpart hok
      rcases HP.out with ⟨hp1, d2⟩ | hp1
      · have d1 : decide ((1 : Int) < (s.size : Int)) = true := by simp; omega
        go_enter Try.func116, Try.ntmps116
        go_wp2_with fail
        go_loop [4, 5] (fun vv vi => ∃ i : Nat, vi = .int .i64 (i : Int) ∧ i ≤ s.size ∧ vv = .int .u64 (F i : Int)) (fun _ vi => s.size - (intOf vi).toNat)
        case atStart => exact ⟨0, rfl, by omega, by rw [HF0.out]; rfl⟩
        case round =>
          obtain ⟨i, rfl, hi, rfl⟩ := hrel
          by_cases hlt : i < s.size
          · have d4 : decide ((i : Int) < (s.size : Int)) = true := by simp; omega
            obtain ⟨g1, g2⟩ := HDG.out i hlt
            have hf := HU.out i (by omega) (by omega)
            have hs1 := HS.out i hlt
            have hn : (F (i + 1) : Int) = 10 * (F i : Int) + ((s[i].toNat : Int) - 48) := by omega
            have HN := Lib.hid hn
            have i0 : (0 : Int) ≤ (i : Int) := by omega
            have i1 : (i : Int) < (s.size : Int) := by omega
            have c1 : (48 : Int) ≤ (s[i].toNat : Int) := by omega
            have c2 : (s[i].toNat : Int) ≤ 57 := by omega
            have f0 : (0 : Int) ≤ (F i : Int) := by omega
            have f1 : (F i : Int) < 1000000000000000000 := by omega
            clear hs1 hn hf
            go_wp2_with fail
            refine ⟨⟨i + 1, by go_num, by omega, ?_⟩, ?_⟩
            · rw [HN.out]
            · simp [intOf]; omega
          · obtain rfl : i = s.size := by omega
            have d4 : decide ((s.size : Int) < (s.size : Int)) = false := by simp
            by_cases hb : F s.size < 9223372036854775808
            · have f0 : (0 : Int) ≤ (F s.size : Int) := by omega
              have f1 : (F s.size : Int) < 9223372036854775808 := by omega
              have d5 : decide ((F s.size : Int) < 9223372036854775808) = true := by simp; omega
              have hbn := Lib.hid hb
              clear hb
              go_wp2_with fail
              go_ret2
              exact ⟨rfl, _, true, rfl, ⟨fun _ => HOK.out.2 hbn.out, fun _ => rfl⟩, fun _ => by rw [HFF.out]⟩
            · have d5 : decide ((F s.size : Int) < 9223372036854775808) = false := by simp; omega
              have hbn := Lib.hid hb
              clear hb
              go_wp2_with fail
              go_ret2
              exact ⟨rfl, _, false, rfl, ⟨fun h => (by cases h), fun h => absurd (HOK.out.1 h) hbn.out⟩, fun h => (by cases h)⟩
      · have d1 : decide ((1 : Int) < (s.size : Int)) = false := by simp; omega
        go_enter Try.func116, Try.ntmps116
        go_wp2_with fail
        go_loop [4, 5] (fun vv vi => ∃ i : Nat, vi = .int .i64 (i : Int) ∧ i ≤ s.size ∧ vv = .int .u64 (F i : Int)) (fun _ vi => s.size - (intOf vi).toNat)
        case atStart => exact ⟨0, rfl, by omega, by rw [HF0.out]; rfl⟩
        case round =>
          obtain ⟨i, rfl, hi, rfl⟩ := hrel
          by_cases hlt : i < s.size
          · have d4 : decide ((i : Int) < (s.size : Int)) = true := by simp; omega
            obtain ⟨g1, g2⟩ := HDG.out i hlt
            have hf := HU.out i (by omega) (by omega)
            have hs1 := HS.out i hlt
            have hn : (F (i + 1) : Int) = 10 * (F i : Int) + ((s[i].toNat : Int) - 48) := by omega
            have HN := Lib.hid hn
            have i0 : (0 : Int) ≤ (i : Int) := by omega
            have i1 : (i : Int) < (s.size : Int) := by omega
            have c1 : (48 : Int) ≤ (s[i].toNat : Int) := by omega
            have c2 : (s[i].toNat : Int) ≤ 57 := by omega
            have f0 : (0 : Int) ≤ (F i : Int) := by omega
            have f1 : (F i : Int) < 1000000000000000000 := by omega
            clear hs1 hn hf
            go_wp2_with fail
            refine ⟨⟨i + 1, by go_num, by omega, ?_⟩, ?_⟩
            · rw [HN.out]
            · simp [intOf]; omega
          · obtain rfl : i = s.size := by omega
            have d4 : decide ((s.size : Int) < (s.size : Int)) = false := by simp
            by_cases hb : F s.size < 9223372036854775808
            · have f0 : (0 : Int) ≤ (F s.size : Int) := by omega
              have f1 : (F s.size : Int) < 9223372036854775808 := by omega
              have d5 : decide ((F s.size : Int) < 9223372036854775808) = true := by simp; omega
              have hbn := Lib.hid hb
              clear hb
              go_wp2_with fail
              go_ret2
              exact ⟨rfl, _, true, rfl, ⟨fun _ => HOK.out.2 hbn.out, fun _ => rfl⟩, fun _ => by rw [HFF.out]⟩
            · have d5 : decide ((F s.size : Int) < 9223372036854775808) = false := by simp; omega
              have hbn := Lib.hid hb
              clear hb
              go_wp2_with fail
              go_ret2
              exact ⟨rfl, _, false, rfl, ⟨fun h => (by cases h), fun h => absurd (HOK.out.1 h) hbn.out⟩, fun h => (by cases h)⟩
-- out of Lcu
theorem fault_one (a b : Int) : (#[.int .i64 a, .int .i64 b] : Array Value).all (·.oneCell') = true := by simp [Value.oneCell']
theorem results_tmp_cell {P : Program} {fn : Func} {q p : Tmp} {ty : TypeId} (h : fn.results = #[.tmp q, .cell p ty]) (tmps : Array Value) (w : World) (g : Nat) (t : TypeId) (cs : Array Value) (fr : Nat × Nat) (d : TypeDesc)
    (hp : tmps.getD p undef = .pointer (some ⟨g, 0, none⟩)) (hg : w.heap[g]? = some (.cells cs t fr))
    (hu : P.underlying ty = some d) (hd : (match d with | .struct _ | .array _ _ => true | _ => false) = true) (hi : (P.info? ty).map (·.size) = some cs.size) :
    (results fn tmps).run P w = .ok (.tuple #[tmps.getD q undef, .agg cs]) w := by
  have hp' : tmps[p]?.getD undef = .pointer (some ⟨g, 0, none⟩) := by simpa using hp
  simp [results, h, hp', asAddr, run_loadVar_row w g t ty cs fr d hg hu hd hi]
theorem own_weaken' {w : World} {base base' : Nat} {e : TypeId} {s : Nat} {v : Value} {n : Nat} {xs : List Value} (h : w.ownsRow base e s v n xs) (hb : base' ≤ base) : w.ownsRow base' e s v n xs := by
  refine ⟨h.1, ?_⟩
  rcases h.2 with h0 | ⟨g, cap, cur, h1, h2, h3⟩
  · exact .inl h0
  · exact .inr ⟨g, cap, cur, h1, Nat.le_trans hb h2, h3⟩
theorem own_setRow {w : World} {base : Nat} {e : TypeId} {s : Nat} {v : Value} {n : Nat} {xs : List Value} (h : w.ownsRow base e s v n xs) {g : Nat} {cs : Array Value} (hg : g < base) : (w.setRow g cs).ownsRow base e s v n xs := by
  refine ⟨h.1, ?_⟩
  rcases h.2 with h0 | ⟨g', cap, cur, h1, h2, h3, h4⟩
  · exact .inl h0
  · exact .inr ⟨g', cap, cur, h1, h2, (setRow_other w g g' cs (by omega)).trans h3, h4⟩
-- out of Qbw
theorem runLen_all (p : Nat → Bool) (l : List UInt8) : ∀ c ∈ l.take (runLen p l), p c.toNat = true := by
  intro c hc
  have h : l.take (runLen p l) = l.takeWhile fun c => p c.toNat := by
    unfold runLen
    exact (List.prefix_iff_eq_take.1 (List.takeWhile_prefix _)).symm
  rw [h] at hc
  induction l with
  | nil => simp at hc
  | cons a t ih =>
    rw [List.takeWhile_cons] at hc
    by_cases ha : p a.toNat = true
    · rw [if_pos ha] at hc
      rcases List.mem_cons.1 hc with rfl | hc
      · exact ha
      · exact ih hc (by unfold runLen; exact (List.prefix_iff_eq_take.1 (List.takeWhile_prefix _)).symm)
    · rw [if_neg ha] at hc; simp at hc
theorem take_head {l : List UInt8} {n : Nat} (h : 0 < n) : (l.take n).headD 0 = l.headD 0 := by
  cases n with
  | zero => omega
  | succ n => cases l <;> rfl
-- out of Qcu
theorem info_rword : (Try.prog.info? 148).map (fun i => (i.zero, i.size, i.bytes)) = some (some (.agg #[.int .i64 0, .string ⟨#[]⟩, .int .i64 0, .int .i64 0]), 4, 40) := by kernel_rfl
theorem size_bad : (Try.prog.info? 30).map (·.size) = some 2 := by kernel_rfl
theorem size_rword : (Try.prog.info? 148).map (·.size) = some 4 := by kernel_rfl
def GivesRCut (s : ByteArray) (w : World) (e : Ending) (w' : World) : Prop :=
  Below w.heap.size w w' ∧ match cutAll s.data.toList with
  | .error (err, p) => e = .returned (.tuple #[.slice none 0 0, .agg #[.int .i64 (err : Int), .int .i64 (p : Int)]])
  | .ok l => ∃ v, e = .returned (.tuple #[v, .agg #[.int .i64 0, .int .i64 0]]) ∧ w'.ownsRow w.heap.size 148 4 v l.length (wordsC s l)
theorem blank_iff (c : UInt8) : BLANKS.contains c = true ↔ (c.toNat = 32 ∨ c.toNat = 9 ∨ c.toNat = 10 ∨ c.toNat = 13) := by
  constructor
  · intro hb
    simp only [BLANKS, List.contains_cons, List.contains_nil, Bool.or_false, Bool.or_eq_true, beq_iff_eq] at hb
    rcases hb with h | h | h | h <;> rw [h] <;> decide
  · rintro (h | h | h | h)
    · obtain rfl : c = 32 := UInt8.toNat_inj.1 h
      decide
    · obtain rfl : c = 9 := UInt8.toNat_inj.1 h
      decide
    · obtain rfl : c = 10 := UInt8.toNat_inj.1 h
      decide
    · obtain rfl : c = 13 := UInt8.toNat_inj.1 h
      decide
theorem idx_str (s : ByteArray) (j : Nat) (h : j < s.size) (W : World) : (Instr.index 9 (.string s) (.int .i64 (j : Int))).run Try.prog W = .ok (.int .u8 (s[j].toNat : Int)) W := by
  simp [Instr.index, asIntOf, Sem.run_bind, run_underlying Try.underlying9, h]
theorem sl_str (s : ByteArray) (i j : Nat) (hij : i ≤ j) (hj : j ≤ s.size) (z : Int) (hz : z = (j : Int)) (W : World) : (Instr.slice 9 (.string s) (some (.int .i64 (i : Int))) (some (.int .i64 z)) none).run Try.prog W = .ok (.string (s.extract i j)) W := by
  subst hz
  have h := run_slice_string (P := Try.prog) W 9 s .i64 .i64 (i : Int) (j : Int) Try.underlying9 (by omega) (by omega) (by omega)
  simpa using h
theorem firstW_dig (l : List UInt8) (hl : l ≠ []) (a : ¬ isL (l.headD 0).toNat = true) (b : isD (l.headD 0).toNat = true) :
    firstW l = if ¬ (1 < runLen isD l ∧ l.headD 0 = 48) ∧ foldD 0 (l.take (runLen isD l)) < 9223372036854775808 then (3, runLen isD l, (foldD 0 (l.take (runLen isD l)) : Int)) else (0, 0, 0) := by
  have p := runLen_pos isD l (List.length_pos_iff.2 hl) b
  have hle := runLen_le isD l
  have hne : l.take (runLen isD l) ≠ [] := fun h => by have := congrArg List.length h; rw [List.length_take, List.length_nil] at this; omega
  have hp := parse_digits (l.take (runLen isD l)) hne (runLen_all isD l)
  unfold firstW
  rw [if_neg a, if_pos b, hp]
  by_cases h1 : 1 < runLen isD l ∧ l.headD 0 = 48
  · rw [if_pos h1, if_neg (fun h => h.1 h1)]
  · rw [if_neg h1]
    by_cases h2 : foldD 0 (l.take (runLen isD l)) < 9223372036854775808
    · rw [if_pos h2, if_pos ⟨h1, h2⟩]
    · rw [if_neg h2, if_neg (fun h => h2 h.2)]
theorem firstW_sgn (l : List UInt8) (a : ¬ isL (l.headD 0).toNat = true) (b : ¬ isD (l.headD 0).toNat = true) : firstW l = if signN l = 0 then (0, 0, 0) else (4, signN l, 0) := by
  unfold firstW signN
  rw [if_neg a, if_neg b]
  by_cases h : 1 < l.length ∧ TWO.contains (l.take 2) = true
  · rw [if_pos h, if_pos h, if_neg (by decide)]
  · rw [if_neg h, if_neg h]
    by_cases h2 : SIGNS.contains (l.headD 0) = true
    · rw [if_pos h2, if_pos h2, if_neg (by decide)]
    · rw [if_neg h2, if_neg h2, if_pos rfl]
theorem signN_le (l : List UInt8) (h : 0 < l.length) : signN l ≤ l.length := by
  unfold signN
  split
  · omega
  · split <;> omega
def Chosen (k : Nat) (x : Nat × Nat × Int) (G : Nat) (w0 : World) (v7 v9 : Value) (wx : World) : Prop :=
  Below G w0 wx ∧ ((x.1 ≠ 0 ∧ v7 = .int .i64 (x.2.1 : Int) ∧ v9 = .bool true ∧ wx.heap[G]? = some (.cells #[.int .i64 (x.1 : Int), .string ⟨#[]⟩, .int .i64 x.2.2, .int .i64 (k : Int)] 148 (0, 0))) ∨ (x.1 = 0 ∧ v9 = .bool false))
def cutG (f k : Nat) (D : List UInt8) : Except Nat (List (Nat × Nat × Int × Nat)) := cutF f (D.drop (k + gapL (D.drop k))) (k + gapL (D.drop k))
theorem cutG_blank (f k : Nat) (D : List UInt8) (c : UInt8) (r : List UInt8) (h : D.drop k = c :: r) (hb : BLANKS.contains c = true) : cutG f k D = cutG f (k + 1) D := by
  have h1 : D.drop (k + 1) = r := by rw [← List.drop_drop, h]; rfl
  unfold cutG
  rw [h, h1, gapL_blank c r hb, show k + (1 + gapL r) = k + 1 + gapL r by omega]
theorem cutG_remark (f k : Nat) (D : List UInt8) (h : Lib.hasPrefix (D.drop k) [45, 45] = true) : cutG f k D = cutG f (k + lineN (D.drop k)) D := by
  unfold cutG
  have e := (gapL_remark (D.drop k) h).1
  rw [List.drop_drop] at e
  rw [e, show k + (lineN (D.drop k) + gapL (D.drop (k + lineN (D.drop k)))) = k + lineN (D.drop k) + gapL (D.drop (k + lineN (D.drop k))) by omega]
theorem cutG_word (f k : Nat) (D : List UInt8) (c : UInt8) (r : List UInt8) (h : D.drop k = c :: r) (hb : ¬ BLANKS.contains c = true) (hr : Lib.hasPrefix (D.drop k) [45, 45] = false) : cutG f k D = cutF f (D.drop k) k := by
  unfold cutG
  rw [h] at hr ⊢
  rw [gapL_none c r hb hr, Nat.add_zero, h]
theorem cutG_go (f k : Nat) (D : List UInt8) (d : List (Nat × Nat × Int × Nat)) (h : D.drop k ≠ []) (h0 : (firstW (D.drop k)).1 ≠ 0) :
    ahead d (cutF (f + 1) (D.drop k) k) = ahead (d ++ [((firstW (D.drop k)).1, (firstW (D.drop k)).2.1, (firstW (D.drop k)).2.2, k)]) (cutG f (k + (firstW (D.drop k)).2.1) D) := by
  rw [cutF_go f k _ d h h0]
  unfold cutG
  simp only [List.drop_drop, Nat.add_assoc]
theorem line_in : ∀ (l : List UInt8) (m : Nat) (h : m < l.length), m < lineN l → l[m] ≠ 10
  | [], m, h, _ => by simp at h
  | c :: r, m, h, hm => by
    by_cases hc : c = 10
    · subst hc; simp [lineN] at hm
    · rw [lineN_cons c r hc] at hm
      cases m with
      | zero => exact hc
      | succ m => exact line_in r m (by simpa using h) (by omega)
theorem line_out : ∀ (l : List UInt8) (h : lineN l < l.length), l[lineN l] = 10
  | [], h => by simp at h
  | c :: r, h => by
    by_cases hc : c = 10
    · subst hc; simp [lineN]
    · have e := lineN_cons c r hc
      have h2 : lineN r < r.length := by rw [e] at h; simpa using h
      have := line_out r h2
      simp only [e, List.getElem_cons_succ]
      exact this
set_option maxHeartbeats 8000000 in
set_option maxRecDepth 100000 in
theorem rCut_any (s : ByteArray) (w : World) (hs : s.size ≤ 140737488351232) : Calls Try.prog 77 #[.string s] w (GivesRCut s w) := by
  have hlen : s.data.toList.length = s.size := by simp
  obtain ⟨i0, hi0, hz0, hz1, hz2⟩ := info_parts info_rword
  have hblk := heap_alloc_new w (.cells #[.int .i64 0, .int .i64 0] 30)
  have hbel : Below w.heap.size w (w.alloc (.cells #[.int .i64 0, .int .i64 0] 30)) := (Below.refl _ _).alloc (Nat.le_refl _) _
  have B0 := Lib.hid hblk
  have B1 := Lib.hid hbel
  have HF := Lib.hid size_bad
  have HWs := Lib.hid size_rword
  clear hblk hbel
  by_cases hbig : 16384 < s.size
  · have hc : cutAll s.data.toList = .error (2, s.size) := by unfold cutAll; rw [hlen, if_pos hbig]
    have HC := Lib.hid hc
    have d1 : decide ((16384 : Int) < (s.size : Int)) = true := by simp; omega
    clear hc hlen
    go_enter Try.func77, Try.ntmps77
    go_wp2_with (refine wpList_store_row rfl 30 (.tmp 3) (.tmp 15) rfl w.heap.size #[.int .i64 2, .int .i64 (s.size : Int)] rfl rfl 30 _ B0.out HF.out rfl (fault_one _ _) ?_)
    refine bodyPost_ret (v := .tuple #[.slice none 0 0, .agg #[.int .i64 2, .int .i64 (s.size : Int)]]) (results_tmp_cell (q := 2) (p := 3) (ty := 30) rfl _ _ w.heap.size 30 #[.int .i64 2, .int .i64 (s.size : Int)] (0, 0) _ rfl (setRow_heap _ w.heap.size _ _ _ _ B0.out) Try.underlying30 rfl HF.out) rfl ⟨below_setRow B1.out (Nat.le_refl _) _, ?_⟩
    rw [HC.out]
    rfl
  · have d1 : decide ((16384 : Int) < (s.size : Int)) = false := by simp; omega
    have hcut : cutAll s.data.toList = match cut1 s.data.toList with | .error p => .error (7, p) | .ok t => .ok t := by unfold cutAll; rw [hlen, if_neg hbig]
    have hc1 : cut1 s.data.toList = cutG (s.size + 1) 0 s.data.toList := by unfold cut1 cutG; rw [hlen, List.drop_zero, Nat.zero_add]
    obtain ⟨R, hR⟩ : ∃ R, R = cut1 s.data.toList := ⟨_, rfl⟩
    rw [← hR] at hcut hc1
    have HCUT := Lib.hid hcut
    have HC1 := Lib.hid hc1
    have HLEN := Lib.hid hlen
    have hmk : ∀ W, (Instr.makeSlice 141 (.int .i64 0) (.int .i64 0)).run Try.prog W = .ok (.slice (some ⟨W.heap.size, 0, none⟩) 0 0) (W.alloc (.cells #[] 148)) := fun W => by kernel_rfl
    clear hcut hc1 hR hlen
    go_enter Try.func77, Try.ntmps77
    go_wp2
    have hbl0 : ((w.alloc (.cells #[.int .i64 0, .int .i64 0] 30)).alloc (.cells #[] 148)).heap[w.heap.size]? = some (.cells #[.int .i64 0, .int .i64 0] 30 (0, 0)) := by
      rw [Below.heap_alloc _ _ _ (by simp)]; exact B0.out
    have hbe0 : Below w.heap.size w ((w.alloc (.cells #[.int .i64 0, .int .i64 0] 30)).alloc (.cells #[] 148)) := B1.out.alloc B1.out.size _
    have how0 : ((w.alloc (.cells #[.int .i64 0, .int .i64 0] 30)).alloc (.cells #[] 148)).ownsRow (w.heap.size + 1) 148 4 (.slice (some ⟨w.heap.size + 1, 0, none⟩) 0 0) 0 [] := by
      have h := heap_alloc_new (w.alloc (.cells #[.int .i64 0, .int .i64 0] 30)) (.cells #[] 148)
      rw [show (w.alloc (.cells #[.int .i64 0, .int .i64 0] 30)).heap.size = w.heap.size + 1 by simp] at h
      exact ⟨rfl, .inr ⟨w.heap.size + 1, 0, #[], rfl, Nat.le_refl _, h, Nat.le_refl _, by unfold maxLen; omega, rfl, rfl⟩⟩
    have K0 := Lib.hid hbl0
    have K1 := Lib.hid hbe0
    have K2 := Lib.hid how0
    clear hbl0 hbe0 how0 hmk
    generalize (w.alloc (.cells #[.int .i64 0, .int .i64 0] 30)).alloc (.cells #[] 148) = w0 at K0 K1 K2 ⊢
    go_loopw [4, 5] (fun vl va wr => ∃ (V : Value) (k : Nat) (d : List (Nat × Nat × Int × Nat)) (f : Nat), V = vl ∧ va = .int .i64 (k : Int) ∧ k ≤ s.size ∧ d.length ≤ k ∧ s.size < k + f ∧ R = ahead d (cutG f k s.data.toList) ∧ wr.ownsRow (w.heap.size + 1) 148 4 V d.length (wordsC s d) ∧ Below w.heap.size w wr ∧ wr.heap[w.heap.size]? = some (.cells #[.int .i64 0, .int .i64 0] 30 (0, 0)))
      (fun _ va _ => s.size - (intOf va).toNat)
    case atStart => exact ⟨_, 0, [], s.size + 1, rfl, rfl, Nat.zero_le _, Nat.zero_le _, by omega, by rw [ahead_nil]; exact HC1.out, K2.out, K1.out, K0.out⟩
    case round =>
      obtain ⟨V, k, d, f, hV, rfl, hk, hdk, hf, hRk, hown, hbel, hblk⟩ := hrel
      subst hV
      clear B0 B1 HC1 K0 K1 K2
      have HRK := Lib.hid hRk
      have HO := Lib.hid hown
      have HB := Lib.hid hbel
      have HBK := Lib.hid hblk
      clear hRk hown hbel hblk
      by_cases hlt : k < s.size
      · have d2 : decide ((k : Int) < (s.size : Int)) = true := by simp; omega
        have hget : s.data.toList.drop k = s[k] :: s.data.toList.drop (k + 1) := by rw [List.drop_eq_getElem_cons (by rw [HLEN.out]; exact hlt)]; rfl
        have HGET := Lib.hid hget
        clear hget
        have k0 : (0 : Int) ≤ (k : Int) := by omega
        have k1 : (k : Int) < (s.size : Int) := by omega
        by_cases hb : BLANKS.contains s[k] = true
        · as_aux_lemma =>
            have hnext := cutG_blank f k s.data.toList _ _ HGET.out hb
            have HX := Lib.hid (HRK.out.trans (by rw [hnext]))
            have hb4 : s[k].toNat = 32 ∨ s[k].toNat = 9 ∨ s[k].toNat = 10 ∨ s[k].toNat = 13 := by
              simp only [BLANKS, List.contains_cons, List.contains_nil, Bool.or_false, Bool.or_eq_true, beq_iff_eq] at hb
              rcases hb with h | h | h | h <;> rw [h] <;> decide
            obtain ⟨c, hc⟩ : ∃ c, c = s[k].toNat := ⟨_, rfl⟩
            have ixk : ∀ W, (Instr.index 9 (.string s) (.int .i64 (k : Int))).run Try.prog W = .ok (.int .u8 (c : Int)) W := fun W => by
              simp [Instr.index, asIntOf, Sem.run_bind, run_underlying Try.underlying9, hlt, hc]
            rw [← hc] at hb4
            clear hnext hc hb
            rcases hb4 with rfl | rfl | rfl | rfl
            all_goals
              go_wp2_with fail
              refine ⟨⟨V, k + 1, d, f, rfl, by go_num, by omega, by omega, by omega, HX.out, HO.out, HB.out, HBK.out⟩, ?_⟩
              simp [intOf]; omega
        · have hx0 : Lib.hasPrefix (s.data.toList.drop k) [45, 45] = true ∨ Lib.hasPrefix (s.data.toList.drop k) [45, 45] = false := by cases Lib.hasPrefix (s.data.toList.drop k) [45, 45] <;> simp
          have hne4 : s[k].toNat ≠ 32 ∧ s[k].toNat ≠ 9 ∧ s[k].toNat ≠ 10 ∧ s[k].toNat ≠ 13 := by
            have h : ¬ (s[k].toNat = 32 ∨ s[k].toNat = 9 ∨ s[k].toNat = 10 ∨ s[k].toNat = 13) := fun x => hb ((blank_iff _).2 x)
            omega
          have hpre : Lib.hasPrefix (s.data.toList.drop k) [45, 45] = true ↔ s[k].toNat = 45 ∧ ∃ h : k + 1 < s.size, s[k + 1].toNat = 45 := by
            rw [HGET.out]
            by_cases h1 : k + 1 < s.size
            · have e : s.data.toList.drop (k + 1) = s[k + 1] :: s.data.toList.drop (k + 1 + 1) := by rw [List.drop_eq_getElem_cons (by rw [HLEN.out]; exact h1)]; rfl
              rw [e]
              unfold Lib.hasPrefix
              simp only [List.isPrefixOf, Bool.and_true, Bool.and_eq_true, beq_iff_eq]
              constructor
              · rintro ⟨h2, h3⟩
                exact ⟨by rw [← h2]; rfl, h1, by rw [← h3]; rfl⟩
              · rintro ⟨h2, _, h3⟩
                exact ⟨(UInt8.toNat_inj.1 (h2.trans (show (45 : Nat) = UInt8.toNat 45 from rfl))).symm, (UInt8.toNat_inj.1 (h3.trans (show (45 : Nat) = UInt8.toNat 45 from rfl))).symm⟩
            · have e : s.data.toList.drop (k + 1) = [] := List.drop_of_length_le (by rw [HLEN.out]; omega)
              rw [e]
              unfold Lib.hasPrefix
              simp only [List.isPrefixOf, Bool.and_false]
              exact ⟨fun h => (by cases h), fun h => absurd h.2.1 h1⟩
          obtain ⟨q, hq⟩ : ∃ q, q = Lib.hasPrefix (s.data.toList.drop k) [45, 45] := ⟨_, rfl⟩
          rw [← hq] at hpre hx0
          obtain ⟨c, hc⟩ : ∃ c, c = s[k].toNat := ⟨_, rfl⟩
          have ixk : ∀ W, (Instr.index 9 (.string s) (.int .i64 (k : Int))).run Try.prog W = .ok (.int .u8 (c : Int)) W := fun W => by
            simp [Instr.index, asIntOf, Sem.run_bind, run_underlying Try.underlying9, hlt, hc]
          rw [← hc] at hpre hne4
          have n1 : ((c : Int) == 32) = false := by simp; omega
          have n2 : ((c : Int) == 9) = false := by simp; omega
          have n3 : ((c : Int) == 10) = false := by simp; omega
          have n4 : ((c : Int) == 13) = false := by simp; omega
          have HQ := Lib.hid hq
          have HC := Lib.hid hc
          have HP := Lib.hid hpre
          have HNB := Lib.hid hb
          clear hq hc hpre hb hne4 hx0
          go_upto_region 9 with fail
          go_cut [55] (fun v wx => v = .bool q ∧ wx = wr)
          case first =>
            by_cases e45 : c = 45
            · subst e45
              by_cases h1 : k + 1 < s.size
              · have d5 : decide ((k : Int) + 1 < (s.size : Int)) = true := by simp; omega
                have ixn : ∀ W, (Instr.index 9 (.string s) (.int .i64 ((k : Int) + 1))).run Try.prog W = .ok (.int .u8 (s[k + 1].toNat : Int)) W := fun W => by
                  have h := idx_str s (k + 1) h1 W
                  rw [show ((k + 1 : Nat) : Int) = (k : Int) + 1 by omega] at h
                  exact h
                by_cases e2 : s[k + 1].toNat = 45
                · have e3 : ((s[k + 1].toNat : Int) == 45) = true := by rw [e2]; decide
                  obtain rfl : q = true := HP.out.2 ⟨rfl, h1, e2⟩
                  clear e2
                  go_wp2_with fail
                  go_meet
                  exact ⟨rfl, rfl⟩
                · have e3 : ((s[k + 1].toNat : Int) == 45) = false := by simp; omega
                  obtain rfl : q = false := by
                    cases q with
                    | false => rfl
                    | true => exact absurd (HP.out.1 rfl).2.2 e2
                  clear e2
                  go_wp2_with fail
                  go_meet
                  exact ⟨rfl, rfl⟩
              · have d5 : decide ((k : Int) + 1 < (s.size : Int)) = false := by simp; omega
                obtain rfl : q = false := by
                  cases q with
                  | false => rfl
                  | true => exact absurd (HP.out.1 rfl).2.1 h1
                go_wp2_with fail
                go_meet
                exact ⟨rfl, rfl⟩
            · have n5 : ((c : Int) == 45) = false := by simp; omega
              obtain rfl : q = false := by
                cases q with
                | false => rfl
                | true => exact absurd (HP.out.1 rfl).1 e45
              go_wp2_with fail
              go_meet
              exact ⟨rfl, rfl⟩
          case rest =>
            obtain ⟨rfl, rfl⟩ := hcut
            cases q with
            | true =>
              as_aux_lemma =>
                have hpx : Lib.hasPrefix (s.data.toList.drop k) [45, 45] = true := HQ.out.symm
                obtain ⟨N, hN⟩ : ∃ N, N = lineN (s.data.toList.drop k) := ⟨_, rfl⟩
                have hnext := cutG_remark f k s.data.toList hpx
                have h2 := (gapL_remark _ hpx).2
                have hle := lineN_le (s.data.toList.drop k)
                rw [List.length_drop, HLEN.out] at hle
                have hin : ∀ m (h : k + m < s.size), m < N → s[k + m].toNat ≠ 10 := fun m h hm e => by
                  rw [hN] at hm
                  have h3 := line_in (s.data.toList.drop k) m (by rw [List.length_drop, HLEN.out]; omega) hm
                  rw [List.getElem_drop] at h3
                  exact h3 (UInt8.toNat_inj.1 e)
                have hout : ∀ (h : k + N < s.size), s[k + N].toNat = 10 := fun h => by
                  subst hN
                  have h3 := line_out (s.data.toList.drop k) (by rw [List.length_drop, HLEN.out]; omega)
                  rw [List.getElem_drop] at h3
                  exact congrArg UInt8.toNat h3
                rw [← hN] at hnext h2 hle
                have HX := Lib.hid (HRK.out.trans (by rw [hnext]))
                have HI := Lib.hid hin
                have HU := Lib.hid hout
                clear hpx hnext hin hout hN HP HQ ixk n1 n2 n3 n4
                go_wp2_with fail
                go_loop [5] (fun vi => ∃ m : Nat, vi = .int .i64 ((k + m : Nat) : Int) ∧ m ≤ N) (fun vi => s.size - (intOf vi).toNat)
                case atStart => exact ⟨0, rfl, Nat.zero_le _⟩
                case round =>
                  obtain ⟨m, rfl, hm⟩ := hrel
                  by_cases hmN : m < N
                  · obtain ⟨j, hj⟩ : ∃ j, j = k + m := ⟨_, rfl⟩
                    have hjs : j < s.size := by omega
                    have hx : s[j].toNat ≠ 10 := by
                      subst hj
                      exact HI.out m hjs hmN
                    have ixm := idx_str s j hjs
                    obtain ⟨y, hy⟩ : ∃ y, y = s[j].toNat := ⟨_, rfl⟩
                    rw [← hy] at hx ixm
                    rw [← hj]
                    have d6 : decide ((j : Int) < (s.size : Int)) = true := by simp; omega
                    have e10 : ((y : Int) != 10) = true := by simp; omega
                    clear hy
                    have j0 : (0 : Int) ≤ (j : Int) := by omega
                    have j1 : (j : Int) < (s.size : Int) := by omega
                    have HJ := Lib.hid hj
                    clear hx hj
                    go_wp2_with fail
                    refine ⟨⟨m + 1, ?_, by omega⟩, ?_⟩
                    · have := HJ.out
                      rw [show ((k + (m + 1) : Nat) : Int) = (j : Int) + 1 by omega]
                    · simp [intOf]; omega
                  · obtain rfl : m = N := by omega
                    by_cases hend : k + m < s.size
                    · obtain ⟨j, hj⟩ : ∃ j, j = k + m := ⟨_, rfl⟩
                      have hjs : j < s.size := by omega
                      have hx : s[j].toNat = 10 := by
                        subst hj
                        exact HU.out hjs
                      have ixm := idx_str s j hjs
                      rw [hx] at ixm
                      rw [← hj]
                      have d6 : decide ((j : Int) < (s.size : Int)) = true := by simp; omega
                      have j0 : (0 : Int) ≤ (j : Int) := by omega
                      have j1 : (j : Int) < (s.size : Int) := by omega
                      have HJ := Lib.hid hj
                      clear hx hj
                      go_wp2_with fail
                      refine ⟨⟨V, j, d, f, rfl, rfl, by omega, by have := HJ.out; omega, by have := HJ.out; omega, by rw [HJ.out]; exact HX.out, HO.out, HB.out, HBK.out⟩, ?_⟩
                      have := HJ.out
                      simp [intOf]; omega
                    · obtain ⟨j, hj⟩ : ∃ j, j = k + m := ⟨_, rfl⟩
                      have d6 : decide ((j : Int) < (s.size : Int)) = false := by simp; omega
                      rw [← hj]
                      have d7 : decide (j < s.size) = false := by simp; omega
                      have d8 : ¬ (j : Int) < (s.size : Int) := by omega
                      have d9 : ¬ j < s.size := by omega
                      have HJ := Lib.hid hj
                      clear hj
                      go_wp2_with fail
                      refine ⟨⟨V, j, d, f, rfl, rfl, by have := HJ.out; omega, by have := HJ.out; omega, by have := HJ.out; omega, by rw [HJ.out]; exact HX.out, HO.out, HB.out, HBK.out⟩, ?_⟩
                      have := HJ.out
                      simp [intOf]; omega
            | false =>
              have hpx : Lib.hasPrefix (s.data.toList.drop k) [45, 45] = false := HQ.out.symm
              have hword := cutG_word f k s.data.toList _ _ HGET.out HNB.out hpx
              have hRw := HRK.out.trans (by rw [hword])
              have HRW := Lib.hid hRw
              clear hpx hword hRw HP HQ
              have hlt0 : w.heap.size < wc.heap.size := (Array.getElem?_eq_some_iff.1 HBK.out).1
              have HLT0 := Lib.hid hlt0
              clear hlt0
              obtain ⟨x, hx⟩ : ∃ x, x = firstW (s.data.toList.drop k) := ⟨_, rfl⟩
              have HXW := Lib.hid hx
              clear hx
              obtain ⟨wo, rfl⟩ : ∃ wo : World, wo = wc := ⟨_, rfl⟩
              go_upto_block 4 with fail
              go_cut [7, 9] (fun v7 v9 wx => Chosen k x wo.heap.size wo v7 v9 wx)
              case first =>
                obtain ⟨wc, rfl⟩ : ∃ wc : World, wc = wo := ⟨_, rfl⟩
                have hfw := HXW.out
                unfold firstW at hfw
                rw [show (s.data.toList.drop k).headD 0 = s[k] by rw [HGET.out]; rfl, show s[k].toNat = c from HC.out.symm] at hfw
                have hdl : (s.data.toList.drop k).length = s.size - k := by rw [List.length_drop, HLEN.out]
                have hDget : ∀ m (h : k + m < s.size), (s.data.toList.drop k)[m]'(by rw [hdl]; omega) = s[k + m] := fun m h => by rw [List.getElem_drop]; rfl
                have hne : s.data.toList.drop k ≠ [] := by rw [HGET.out]; simp
                have c256 : c < 256 := by rw [HC.out]; exact UInt8.toNat_lt _
                by_cases hL : isL c = true
                · as_aux_lemma =>
                    have kl := rLetter_any c
                    rw [hL] at kl
                    rw [if_pos hL] at hfw
                    obtain ⟨L, hLe⟩ : ∃ L, L = runLen isN (s.data.toList.drop k) := ⟨_, rfl⟩
                    rw [← hLe] at hfw
                    have hLp := runLen_pos isN (s.data.toList.drop k) (by rw [hdl]; omega) (by rw [show (s.data.toList.drop k).headD 0 = s[k] by rw [HGET.out]; rfl, ← HC.out]; unfold isN; rw [hL]; rfl)
                    have hLle := runLen_le isN (s.data.toList.drop k)
                    rw [hdl] at hLle
                    have hin : ∀ m (h : k + m < s.size), m < L → isN s[k + m].toNat = true := fun m h hm => by
                      rw [hLe] at hm
                      have h3 := runLen_in isN _ m (by rw [hdl]; omega) hm
                      rw [hDget m h] at h3
                      exact h3
                    have hout : ∀ (h : k + L < s.size), isN s[k + L].toNat = false := fun h => by
                      subst hLe
                      have h3 := runLen_out isN (s.data.toList.drop k) (by rw [hdl]; omega)
                      rw [hDget _ h] at h3
                      exact h3
                    have htk : (s.extract k (k + L)).data.toList = (s.data.toList.drop k).take L := by rw [Lib.extract_data, Nat.add_sub_cancel_left]
                    rw [← htk] at hfw
                    rw [← hLe] at hLp hLle
                    have HI := Lib.hid hin
                    have HU := Lib.hid hout
                    have HFW := Lib.hid hfw
                    have KL := Lib.hid kl
                    clear hin hout hfw htk hLe hDget hne hdl kl
                    go_wp2_with fail
                    refine (KL.out _).mono ?_
                    rintro e w2 ⟨rfl, rfl⟩
                    go_wp2_with fail
                    go_loop [7] (fun vi => ∃ m : Nat, vi = .int .i64 (m : Int) ∧ m ≤ L) (fun vi => L - (intOf vi).toNat)
                    case atStart => exact ⟨0, rfl, Nat.zero_le _⟩
                    case round =>
                      obtain ⟨m, rfl, hm⟩ := hrel
                      by_cases hmL : m < L
                      · have hms : k + m < s.size := by omega
                        have hx := HI.out m hms hmL
                        have ixm : ∀ W, (Instr.index 9 (.string s) (.int .i64 ((k : Int) + (m : Int)))).run Try.prog W = .ok (.int .u8 (s[k + m].toNat : Int)) W := fun W => by
                          have h := idx_str s (k + m) hms W
                          rw [show ((k + m : Nat) : Int) = (k : Int) + (m : Int) by omega] at h
                          exact h
                        obtain ⟨y, hy⟩ : ∃ y, y = s[k + m].toNat := ⟨_, rfl⟩
                        rw [← hy] at hx ixm
                        have d6 : decide ((k : Int) + (m : Int) < (s.size : Int)) = true := by simp; omega
                        have b6 : (k : Int) + (m : Int) < (s.size : Int) := by omega
                        have b7 : (0 : Int) ≤ (m : Int) := by omega
                        have y1 := Lib.hid (fun W => rLetter_any y W)
                        have y2 := Lib.hid (fun W => rDigit_any y W)
                        clear hy
                        by_cases p1 : isL y = true
                        · rw [p1] at y1
                          clear hx
                          go_wp2_with fail
                          refine (y1.out _).mono ?_
                          rintro e w2 ⟨rfl, rfl⟩
                          go_wp2_with fail
                          refine ⟨⟨m + 1, by go_num, by omega⟩, ?_⟩
                          simp [intOf]; omega
                        · have p1' : isL y = false := by simpa using p1
                          rw [p1'] at y1
                          by_cases p2 : isD y = true
                          · rw [p2] at y2
                            clear hx
                            go_wp2_with fail
                            refine (y1.out _).mono ?_
                            rintro e w2 ⟨rfl, rfl⟩
                            go_wp2_with fail
                            refine (y2.out _).mono ?_
                            rintro e w2 ⟨rfl, rfl⟩
                            go_wp2_with fail
                            refine ⟨⟨m + 1, by go_num, by omega⟩, ?_⟩
                            simp [intOf]; omega
                          · have p2' : isD y = false := by simpa using p2
                            rw [p2'] at y2
                            obtain rfl : y = 95 := by
                              unfold isN at hx
                              rw [p1', p2'] at hx
                              simpa using hx
                            clear hx
                            go_wp2_with fail
                            refine (y1.out _).mono ?_
                            rintro e w2 ⟨rfl, rfl⟩
                            go_wp2_with fail
                            refine (y2.out _).mono ?_
                            rintro e w2 ⟨rfl, rfl⟩
                            go_wp2_with fail
                            refine ⟨⟨m + 1, by go_num, by omega⟩, ?_⟩
                            simp [intOf]; omega
                      · obtain rfl : m = L := by omega
                        have kk := Lib.hid (fun W => rKept_any (s.extract k (k + m)) W)
                        obtain ⟨b, hbk⟩ : ∃ b, b = keptB (s.extract k (k + m)).data.toList := ⟨_, rfl⟩
                        rw [← hbk] at kk HFW
                        clear hbk
                        have b7 : (0 : Int) ≤ (m : Int) := by omega
                        have b8 : (k : Int) + (m : Int) ≤ (s.size : Int) := by omega
                        have hbw : Below wc.heap.size wc (wc.alloc (.cells #[.int .i64 1, .string ⟨#[]⟩, .int .i64 0, .int .i64 (k : Int)] 148)) := (Below.refl _ _).alloc (Nat.le_refl _) _
                        have hnew := heap_alloc_new wc (.cells #[.int .i64 1, .string ⟨#[]⟩, .int .i64 0, .int .i64 (k : Int)] 148)
                        have hlt1 : wc.heap.size < (wc.alloc (.cells #[.int .i64 1, .string ⟨#[]⟩, .int .i64 0, .int .i64 (k : Int)] 148)).heap.size := by simp
                        have BW := Lib.hid hbw
                        have NW := Lib.hid hnew
                        have LT1 := Lib.hid hlt1
                        clear hbw hnew hlt1
                        have ksl := sl_str s k (k + m) (by omega) (by omega) ((k : Int) + (m : Int)) (by omega)
                        rcases Nat.lt_or_eq_of_le (show k + m ≤ s.size by omega) with hms | hms
                        · have hx := HU.out hms
                          have ixm : ∀ W, (Instr.index 9 (.string s) (.int .i64 ((k : Int) + (m : Int)))).run Try.prog W = .ok (.int .u8 (s[k + m].toNat : Int)) W := fun W => by
                            have h := idx_str s (k + m) hms W
                            rw [show ((k + m : Nat) : Int) = (k : Int) + (m : Int) by omega] at h
                            exact h
                          obtain ⟨y, hy⟩ : ∃ y, y = s[k + m].toNat := ⟨_, rfl⟩
                          rw [← hy] at hx ixm
                          have d6 : decide ((k : Int) + (m : Int) < (s.size : Int)) = true := by simp; omega
                          have b6 : (k : Int) + (m : Int) < (s.size : Int) := by omega
                          have y1 := Lib.hid (fun W => rLetter_any y W)
                          have y2 := Lib.hid (fun W => rDigit_any y W)
                          unfold isN at hx
                          simp only [Bool.or_eq_false_iff] at hx
                          obtain ⟨⟨p1, p2⟩, p3⟩ := hx
                          rw [p1] at y1
                          rw [p2] at y2
                          have p4 : ((y : Int) == 95) = false := by
                            have : y ≠ 95 := by simpa using p3
                            simp; omega
                          clear hy p1 p2 p3
                          go_wp2_with fail
                          refine (y1.out _).mono ?_
                          rintro e w2 ⟨rfl, rfl⟩
                          go_wp2_with fail
                          refine (y2.out _).mono ?_
                          rintro e w2 ⟨rfl, rfl⟩
                          go_wp2_with fail
                          (with_reducible refine (kk.out _).mono ?_)
                          rintro e w2 ⟨rfl, hb2⟩
                          have hrow := (hb2.block _ LT1.out).trans NW.out
                          have hc0 := cell_of_row _ wc.heap.size 0 _ _ _ hrow
                          have hf0 := frozen_of_row _ wc.heap.size 0 _ _ hrow
                          have hset := heap_setCell_same _ wc.heap.size 0 _ _ (.int .i64 2) hrow
                          have hbe : Below wc.heap.size wc w2 := BW.out.trans (hb2.mono BW.out.size)
                          have HBE := Lib.hid hbe
                          have HROW := Lib.hid hrow
                          have HSET := Lib.hid hset
                          clear hb2 hrow hbe hset
                          by_cases h24 : 24 < m
                          · have d24 : decide ((m : Int) ≤ 24) = false := by simp; omega
                            have hfx := HFW.out
                            rw [if_pos h24] at hfx
                            have HFX := Lib.hid hfx
                            clear hfx
                            cases b
                            · go_wp2_with fail
                              go_meet
                              exact ⟨HBE.out, .inr ⟨by rw [HFX.out], rfl⟩⟩
                            · go_wp2_with fail
                              go_meet
                              exact ⟨HBE.out.setCell (Nat.le_refl _) _, .inr ⟨by rw [HFX.out], rfl⟩⟩
                          · have d24 : decide ((m : Int) ≤ 24) = true := by simp; omega
                            have hfx := HFW.out
                            rw [if_neg h24] at hfx
                            cases b
                            · rw [if_neg (by decide)] at hfx
                              have HFX := Lib.hid hfx
                              clear hfx
                              go_wp2_with fail
                              go_meet
                              refine ⟨HBE.out, .inl ?_⟩
                              rw [HFX.out]
                              exact ⟨by simp, rfl, rfl, HROW.out⟩
                            · rw [if_pos rfl] at hfx
                              have HFX := Lib.hid hfx
                              clear hfx
                              go_wp2_with fail
                              go_meet
                              refine ⟨HBE.out.setCell (Nat.le_refl _) _, .inl ?_⟩
                              rw [HFX.out]
                              exact ⟨by simp, rfl, rfl, HSET.out⟩
                        · have d6 : decide ((k : Int) + (m : Int) < (s.size : Int)) = false := by simp; omega
                          have d7 : ¬ (k : Int) + (m : Int) < (s.size : Int) := by omega
                          clear hms
                          go_wp2_with fail
                          (with_reducible refine (kk.out _).mono ?_)
                          rintro e w2 ⟨rfl, hb2⟩
                          have hrow := (hb2.block _ LT1.out).trans NW.out
                          have hc0 := cell_of_row _ wc.heap.size 0 _ _ _ hrow
                          have hf0 := frozen_of_row _ wc.heap.size 0 _ _ hrow
                          have hset := heap_setCell_same _ wc.heap.size 0 _ _ (.int .i64 2) hrow
                          have hbe : Below wc.heap.size wc w2 := BW.out.trans (hb2.mono BW.out.size)
                          have HBE := Lib.hid hbe
                          have HROW := Lib.hid hrow
                          have HSET := Lib.hid hset
                          clear hb2 hrow hbe hset
                          by_cases h24 : 24 < m
                          · have d24 : decide ((m : Int) ≤ 24) = false := by simp; omega
                            have hfx := HFW.out
                            rw [if_pos h24] at hfx
                            have HFX := Lib.hid hfx
                            clear hfx
                            cases b
                            · go_wp2_with fail
                              go_meet
                              exact ⟨HBE.out, .inr ⟨by rw [HFX.out], rfl⟩⟩
                            · go_wp2_with fail
                              go_meet
                              exact ⟨HBE.out.setCell (Nat.le_refl _) _, .inr ⟨by rw [HFX.out], rfl⟩⟩
                          · have d24 : decide ((m : Int) ≤ 24) = true := by simp; omega
                            have hfx := HFW.out
                            rw [if_neg h24] at hfx
                            cases b
                            · rw [if_neg (by decide)] at hfx
                              have HFX := Lib.hid hfx
                              clear hfx
                              go_wp2_with fail
                              go_meet
                              refine ⟨HBE.out, .inl ?_⟩
                              rw [HFX.out]
                              exact ⟨by simp, rfl, rfl, HROW.out⟩
                            · rw [if_pos rfl] at hfx
                              have HFX := Lib.hid hfx
                              clear hfx
                              go_wp2_with fail
                              go_meet
                              refine ⟨HBE.out.setCell (Nat.le_refl _) _, .inl ?_⟩
                              rw [HFX.out]
                              exact ⟨by simp, rfl, rfl, HSET.out⟩
                · have hL' : isL c = false := by simpa using hL
                  have kl := Lib.hid (fun W => rLetter_any c W)
                  rw [hL'] at kl
                  have hhd : (s.data.toList.drop k).headD 0 = s[k] := by rw [HGET.out]; rfl
                  have haL : ¬ isL ((s.data.toList.drop k).headD 0).toNat = true := by rw [hhd, ← HC.out]; exact hL
                  clear hfw
                  by_cases hD : isD c = true
                  · as_aux_lemma =>
                      have kd := Lib.hid (fun W => rDigit_any c W)
                      rw [hD] at kd
                      have hbD : isD ((s.data.toList.drop k).headD 0).toNat = true := by rw [hhd, ← HC.out]; exact hD
                      have hfw := HXW.out.trans (firstW_dig _ hne haL hbD)
                      obtain ⟨L, hLe⟩ : ∃ L, L = runLen isD (s.data.toList.drop k) := ⟨_, rfl⟩
                      rw [← hLe] at hfw
                      have hLp := runLen_pos isD (s.data.toList.drop k) (by rw [hdl]; omega) hbD
                      have hLle := runLen_le isD (s.data.toList.drop k)
                      rw [hdl] at hLle
                      have hin : ∀ m (h : k + m < s.size), m < L → isD s[k + m].toNat = true := fun m h hm => by
                        rw [hLe] at hm
                        have h3 := runLen_in isD _ m (by rw [hdl]; omega) hm
                        rw [hDget m h] at h3
                        exact h3
                      have hout : ∀ (h : k + L < s.size), isD s[k + L].toNat = false := fun h => by
                        subst hLe
                        have h3 := runLen_out isD (s.data.toList.drop k) (by rw [hdl]; omega)
                        rw [hDget _ h] at h3
                        exact h3
                      have htk : (s.extract k (k + L)).data.toList = (s.data.toList.drop k).take L := by rw [Lib.extract_data, Nat.add_sub_cancel_left]
                      have hall := runLen_all isD (s.data.toList.drop k)
                      rw [← hLe] at hLp hLle hall
                      rw [← htk] at hfw hall
                      have htz : (s.extract k (k + L)).size = L := by rw [ByteArray.size_extract]; omega
                      have hth : (s.extract k (k + L)).data.toList.headD 0 = (s.data.toList.drop k).headD 0 := by rw [htk]; exact take_head hLp
                      have kn := fun W => rNumber_any (s.extract k (k + L)) W (by rw [htz]; exact hLp) (by rw [htz]; omega) hall
                      have hok : okN (s.extract k (k + L)) ↔ (¬ (1 < L ∧ (s.data.toList.drop k).headD 0 = 48) ∧ foldD 0 (s.extract k (k + L)).data.toList < 9223372036854775808) := by unfold okN; rw [htz, hth]
                      have HI := Lib.hid hin
                      have HU := Lib.hid hout
                      have HFW := Lib.hid hfw
                      have KN := Lib.hid kn
                      have HOK := Lib.hid hok
                      clear hin hout hfw htk hLe hDget hne hdl hall htz hth kn hok hhd haL hbD hL hD
                      go_wp2_with fail
                      (with_reducible refine (kl.out _).mono ?_)
                      rintro e w2 ⟨rfl, rfl⟩
                      go_wp2_with fail
                      (with_reducible refine (kd.out _).mono ?_)
                      rintro e w2 ⟨rfl, rfl⟩
                      go_wp2_with fail
                      go_loop [7] (fun vi => ∃ m : Nat, vi = .int .i64 (m : Int) ∧ m ≤ L) (fun vi => L - (intOf vi).toNat)
                      case atStart => exact ⟨0, rfl, Nat.zero_le _⟩
                      case round =>
                        obtain ⟨m, rfl, hm⟩ := hrel
                        by_cases hmL : m < L
                        · have hms : k + m < s.size := by omega
                          have hx := HI.out m hms hmL
                          have ixm : ∀ W, (Instr.index 9 (.string s) (.int .i64 ((k : Int) + (m : Int)))).run Try.prog W = .ok (.int .u8 (s[k + m].toNat : Int)) W := fun W => by
                            have h := idx_str s (k + m) hms W
                            rw [show ((k + m : Nat) : Int) = (k : Int) + (m : Int) by omega] at h
                            exact h
                          obtain ⟨y, hy⟩ : ∃ y, y = s[k + m].toNat := ⟨_, rfl⟩
                          rw [← hy] at hx ixm
                          have d6 : decide ((k : Int) + (m : Int) < (s.size : Int)) = true := by simp; omega
                          have b6 : (k : Int) + (m : Int) < (s.size : Int) := by omega
                          have b7 : (0 : Int) ≤ (m : Int) := by omega
                          have y2 := Lib.hid (fun W => rDigit_any y W)
                          rw [hx] at y2
                          clear hy hx
                          go_wp2_with fail
                          (with_reducible refine (y2.out _).mono ?_)
                          rintro e w2 ⟨rfl, rfl⟩
                          go_wp2_with fail
                          refine ⟨⟨m + 1, by go_num, by omega⟩, ?_⟩
                          simp [intOf]; omega
                        · obtain rfl : m = L := by omega
                          have b7 : (0 : Int) ≤ (m : Int) := by omega
                          have b8 : (k : Int) + (m : Int) ≤ (s.size : Int) := by omega
                          have ksl := sl_str s k (k + m) (by omega) (by omega) ((k : Int) + (m : Int)) (by omega)
                          rcases Nat.lt_or_eq_of_le (show k + m ≤ s.size by omega) with hms | hms
                          · have hx := HU.out hms
                            have ixm : ∀ W, (Instr.index 9 (.string s) (.int .i64 ((k : Int) + (m : Int)))).run Try.prog W = .ok (.int .u8 (s[k + m].toNat : Int)) W := fun W => by
                              have h := idx_str s (k + m) hms W
                              rw [show ((k + m : Nat) : Int) = (k : Int) + (m : Int) by omega] at h
                              exact h
                            obtain ⟨y, hy⟩ : ∃ y, y = s[k + m].toNat := ⟨_, rfl⟩
                            rw [← hy] at hx ixm
                            have d6 : decide ((k : Int) + (m : Int) < (s.size : Int)) = true := by simp; omega
                            have b6 : (k : Int) + (m : Int) < (s.size : Int) := by omega
                            have y2 := Lib.hid (fun W => rDigit_any y W)
                            rw [hx] at y2
                            clear hy hx
                            go_wp2_with fail
                            (with_reducible refine (y2.out _).mono ?_)
                            rintro e w2 ⟨rfl, rfl⟩
                            go_wp2_with fail
                            (with_reducible refine (KN.out _).mono ?_)
                            rintro e w2 ⟨rfl, z, b, rfl, hb1, hb2⟩
                            have hfx := HFW.out
                            cases b
                            · have hno : ¬ okN (s.extract k (k + m)) := fun h => by have := hb1.2 h; cases this
                              rw [if_neg (fun h => hno (HOK.out.2 h))] at hfx
                              have HFX := Lib.hid hfx
                              clear hfx hb1 hb2 hno
                              go_wp2_with fail
                              go_meet
                              exact ⟨(Below.refl _ _).alloc (Nat.le_refl _) _, .inr ⟨by rw [HFX.out], rfl⟩⟩
                            · have hyes := hb1.1 rfl
                              rw [if_pos (HOK.out.1 hyes)] at hfx
                              have hz := hb2 rfl
                              rw [← hz] at hfx
                              have HFX := Lib.hid hfx
                              clear hfx hb1 hb2 hyes hz
                              go_wp2_with fail
                              go_meet
                              refine ⟨(Below.refl _ _).alloc (Nat.le_refl _) _, .inl ?_⟩
                              rw [HFX.out]
                              exact ⟨by simp, rfl, rfl, heap_alloc_new _ _⟩
                          · have d6 : decide ((k : Int) + (m : Int) < (s.size : Int)) = false := by simp; omega
                            have d7 : ¬ (k : Int) + (m : Int) < (s.size : Int) := by omega
                            clear hms
                            go_wp2_with fail
                            (with_reducible refine (KN.out _).mono ?_)
                            rintro e w2 ⟨rfl, z, b, rfl, hb1, hb2⟩
                            have hfx := HFW.out
                            cases b
                            · have hno : ¬ okN (s.extract k (k + m)) := fun h => by have := hb1.2 h; cases this
                              rw [if_neg (fun h => hno (HOK.out.2 h))] at hfx
                              have HFX := Lib.hid hfx
                              clear hfx hb1 hb2 hno
                              go_wp2_with fail
                              go_meet
                              exact ⟨(Below.refl _ _).alloc (Nat.le_refl _) _, .inr ⟨by rw [HFX.out], rfl⟩⟩
                            · have hyes := hb1.1 rfl
                              rw [if_pos (HOK.out.1 hyes)] at hfx
                              have hz := hb2 rfl
                              rw [← hz] at hfx
                              have HFX := Lib.hid hfx
                              clear hfx hb1 hb2 hyes hz
                              go_wp2_with fail
                              go_meet
                              refine ⟨(Below.refl _ _).alloc (Nat.le_refl _) _, .inl ?_⟩
                              rw [HFX.out]
                              exact ⟨by simp, rfl, rfl, heap_alloc_new _ _⟩
                  · as_aux_lemma =>
                      have hD' : isD c = false := by simpa using hD
                      have kd := Lib.hid (fun W => rDigit_any c W)
                      rw [hD'] at kd
                      have hbD : ¬ isD ((s.data.toList.drop k).headD 0).toNat = true := by rw [hhd, ← HC.out]; exact hD
                      have hfw := HXW.out.trans (firstW_sgn _ haL hbD)
                      have hse : (s.extract k s.size).data.toList = s.data.toList.drop k := Lib.extract_to_end s k
                      have hsz : (s.extract k s.size).size = s.size - k := by rw [ByteArray.size_extract]; omega
                      have ksg := fun W => rSign_any (s.extract k s.size) W (by rw [hsz]; omega) (by rw [hsz]; omega)
                      rw [hse] at ksg
                      have hle := signN_le (s.data.toList.drop k) (by rw [hdl]; omega)
                      rw [hdl] at hle
                      obtain ⟨n, hn⟩ : ∃ n, n = signN (s.data.toList.drop k) := ⟨_, rfl⟩
                      rw [← hn] at hfw ksg hle
                      have hes : ((s.extract k s.size).extract 0 n).size = n := by rw [ByteArray.size_extract, hsz]; omega
                      obtain ⟨T, hT⟩ : ∃ T, T = (s.extract k s.size).extract 0 n := ⟨_, rfl⟩
                      rw [← hT] at ksg hes
                      have HFW := Lib.hid hfw
                      have KSG := Lib.hid ksg
                      have HES := Lib.hid hes
                      have hbw : Below wc.heap.size wc (wc.alloc (.cells #[.int .i64 4, .string ⟨#[]⟩, .int .i64 0, .int .i64 (k : Int)] 148)) := (Below.refl _ _).alloc (Nat.le_refl _) _
                      have hnew := heap_alloc_new wc (.cells #[.int .i64 4, .string ⟨#[]⟩, .int .i64 0, .int .i64 (k : Int)] 148)
                      have hlt1 : wc.heap.size < (wc.alloc (.cells #[.int .i64 4, .string ⟨#[]⟩, .int .i64 0, .int .i64 (k : Int)] 148)).heap.size := by simp
                      have BW := Lib.hid hbw
                      have NW := Lib.hid hnew
                      have LT1 := Lib.hid hlt1
                      clear hbw hnew hlt1 hfw hse hsz ksg hn hT hDget hne hdl hhd haL hbD hL hD hle hes
                      go_wp2_with fail
                      (with_reducible refine (kl.out _).mono ?_)
                      rintro e w2 ⟨rfl, rfl⟩
                      go_wp2_with fail
                      (with_reducible refine (kd.out _).mono ?_)
                      rintro e w2 ⟨rfl, rfl⟩
                      go_wp2_with fail
                      (with_reducible refine (KSG.out _).mono ?_)
                      rintro e w2 ⟨rfl, hb2⟩
                      have hrow := (hb2.block _ LT1.out).trans NW.out
                      have hbe : Below wc.heap.size wc w2 := BW.out.trans (hb2.mono BW.out.size)
                      have HBE := Lib.hid hbe
                      have HROW := Lib.hid hrow
                      clear hb2 hrow hbe
                      have hfx := HFW.out
                      have hts := HES.out
                      by_cases h0 : n = 0
                      · rw [if_pos h0] at hfx
                        have e0 : decide (0 < T.size) = false := decide_eq_false (by omega)
                        have e1 : ¬ 0 < T.size := by omega
                        have HFX := Lib.hid hfx
                        clear hfx hts h0
                        go_wp2_with fail
                        go_meet
                        exact ⟨HBE.out, .inr ⟨by rw [HFX.out], by first | rfl | rw [e0]⟩⟩
                      · rw [if_neg h0] at hfx
                        have e0 : decide (0 < T.size) = true := decide_eq_true (by omega)
                        have e1 : 0 < T.size := by omega
                        have HFX := Lib.hid hfx
                        have HTS := Lib.hid hts
                        clear hfx hts h0
                        go_wp2_with fail
                        go_meet
                        refine ⟨HBE.out, .inl ?_⟩
                        rw [HFX.out]
                        exact ⟨by simp, by rw [HTS.out], by first | rfl | rw [e0], HROW.out⟩
              case rest =>
                as_aux_lemma =>
                  obtain ⟨hbc, hch⟩ := hcut
                  obtain ⟨w1, rfl⟩ : ∃ w1 : World, w1 = wc := ⟨_, rfl⟩
                  have hne : s.data.toList.drop k ≠ [] := by rw [HGET.out]; simp
                  have hdl : (s.data.toList.drop k).length = s.size - k := by rw [List.length_drop, HLEN.out]
                  obtain ⟨q1, q2, _⟩ := firstW_len (s.data.toList.drop k) (List.length_pos_iff.2 hne)
                  have hgo := fun f' => cutG_go f' k s.data.toList d hne
                  have hbad := fun f' => cutF_bad f' k (s.data.toList.drop k) hne
                  rw [hdl] at q1
                  rw [← HXW.out] at q1 q2
                  simp only [← HXW.out] at hgo hbad
                  obtain ⟨f', rfl⟩ : ∃ f', f = f' + 1 := ⟨f - 1, by omega⟩
                  have hgo := hgo f'
                  have hbad := hbad f'
                  obtain ⟨xk, xm, xn⟩ := x
                  simp only at q1 q2 hgo hbad hch
                  have hB1 := HB.out.trans (hbc.mono HB.out.size)
                  have hfl1 := (hbc.block w.heap.size HLT0.out).trans HBK.out
                  have HB1 := Lib.hid hB1
                  have HFL := Lib.hid hfl1
                  have HBC := Lib.hid hbc
                  clear hne hdl hB1 hfl1 hbc HXW
                  rcases hch with ⟨hk0, rfl, rfl, hrow⟩ | ⟨hk0, rfl⟩
                  · have hm1 := q2 hk0
                    have hgo1 := HRW.out.trans (hgo hk0)
                    obtain ⟨tx, htx⟩ : ∃ t, t = s.extract k (k + xm) := ⟨_, rfl⟩
                    have ksl := sl_str s k (k + xm) (by omega) (by omega) ((k : Int) + (xm : Int)) (by omega)
                    rw [← htx] at ksl
                    have hwc : wordsC s (d ++ [(xk, xm, xn, k)]) = wordsC s d ++ [.int .i64 (xk : Int), .string tx, .int .i64 xn, .int .i64 (k : Int)] := by rw [wordsC_snoc, htx]; rfl
                    have c1 := cell_of_row _ wo.heap.size 1 _ _ _ hrow
                    have f1 := frozen_of_row _ wo.heap.size 1 _ _ hrow
                    have hr4 := heap_setCell_same _ wo.heap.size 1 _ _ (.string tx) hrow
                    obtain ⟨w4, hw4⟩ : ∃ w4, w4 = w1.setCell ⟨wo.heap.size, 1, none⟩ (.string tx) := ⟨_, rfl⟩
                    have hr4' : w4.heap[wo.heap.size]? = some (.cells #[.int .i64 (xk : Int), .string tx, .int .i64 xn, .int .i64 (k : Int)] 148 (0, 0)) := by rw [hw4]; exact hr4
                    have hbw4 : Below wo.heap.size wo w4 := by rw [hw4]; exact HBC.out.setCell (Nat.le_refl _) _
                    have hlt4 : wo.heap.size < w4.heap.size := (Array.getElem?_eq_some_iff.1 hr4').1
                    have hbw5 : Below wo.heap.size wo (w4.alloc (.cells #[.int .i64 (xk : Int), .string tx, .int .i64 xn, .int .i64 (k : Int)] 148)) := hbw4.alloc hbw4.size _
                    have hown5 := own_below HO.out hbw5
                    have hnews : ∀ j u, ([.int .i64 (xk : Int), .string tx, .int .i64 xn, .int .i64 (k : Int)] : List Value)[j]? = some u → (w4.alloc (.cells #[.int .i64 (xk : Int), .string tx, .int .i64 xn, .int .i64 (k : Int)] 148)).cell? (Addr.add ⟨w4.heap.size, 0, none⟩ j) = some u := fun j u hu => by
                      rw [Addr.add_lit, Nat.zero_add, cell_of_row _ w4.heap.size j _ _ _ (heap_alloc_new w4 _), ← hu]
                      simp
                    have hone : ∀ u ∈ ([.int .i64 (xk : Int), .string tx, .int .i64 xn, .int .i64 (k : Int)] : List Value), u.oneCell' = true := fun u hu => by
                      simp only [List.mem_cons, List.not_mem_nil, or_false] at hu
                      rcases hu with rfl | rfl | rfl | rfl <;> rfl
                    have h63 : d.length + 1 ≤ maxLen := by unfold maxLen; omega
                    have hby : (d.length + 1) * 40 ≤ 140737488355328 := by omega
                    have hsz1 : w.heap.size + 1 ≤ wo.heap.size := HLT0.out
                    have hbase : w.heap.size + 1 ≤ (w4.alloc (.cells #[.int .i64 (xk : Int), .string tx, .int .i64 xn, .int .i64 (k : Int)] 148)).heap.size := Nat.le_trans hsz1 hbw5.size
                    have hneb : ∀ g', V.ownBlock = some g' → w.heap.size + 1 ≤ g' ∧ g' < wo.heap.size := fun g' h => HO.out.lt g' h
                    have hsz4 : w1.heap.size = w4.heap.size := by rw [hw4]; simp
                    have HW4 := Lib.hid hw4
                    have N4 := Lib.hid hr4'
                    have N5 := Lib.hid hown5
                    have N7 := Lib.hid hnews
                    have N8 := Lib.hid hbw5
                    have N9 := Lib.hid hneb
                    have HRN := Lib.hid hgo1
                    have HWC := Lib.hid hwc
                    have HS4 := Lib.hid hsz4
                    have b7 : (0 : Int) ≤ (xm : Int) := by omega
                    have b8 : (k : Int) + (xm : Int) ≤ (s.size : Int) := by omega
                    clear hr4 hw4 hr4' hbw4 hown5 hnews hbw5 hlt4 hneb hgo hbad hgo1 hwc hrow hsz4 htx HO q2 hk0
                    go_wp2_with (first
                      | (rw [← HW4.out]
                         refine wpList_load_row rfl 148 (.tmp 8) rfl wo.heap.size rfl 148 #[.int .i64 (xk : Int), .string tx, .int .i64 xn, .int .i64 (k : Int)] (0, 0) _ N4.out Try.underlying148 rfl HWs.out ?_)
                      | (at_builtin
                         refine wpList_append_own _ rfl (.tmp 166) (.tmp 168) 141 rfl (w.heap.size + 1) 148 i0 _ 4 40 Try.underlying141 hi0 hz0 hz1 hz2 rfl (by decide) V d.length (wordsC s d) rfl N5.out ⟨w4.heap.size, 0, none⟩ 1 1 [.int .i64 (xk : Int), .string tx, .int .i64 xn, .int .i64 (k : Int)] rfl rfl N7.out hone h63 hby hbase ?_
                         intro v5 w5 hown5 hg5 _
                         have O5 := Lib.hid hown5
                         have G5 := Lib.hid hg5
                         clear hown5 hg5 c1 f1))
                    have hbel8 := HB.out.trans (N8.out.mono HB.out.size)
                    have hbel6 : Below w.heap.size w w5 := hbel8.grown G5.out hbel8.size (fun g' h => by have := (N9.out g' h).1; omega)
                    have hbk8 := (N8.out.block w.heap.size HLT0.out).trans HBK.out
                    have hbk6 := (G5.out.block w.heap.size (Nat.lt_of_lt_of_le HLT0.out N8.out.size) (fun e => by have := (N9.out _ e.symm).1; omega)).trans hbk8
                    have hown6 : w5.ownsRow (w.heap.size + 1) 148 4 v5 (d ++ [(xk, xm, xn, k)]).length (wordsC s (d ++ [(xk, xm, xn, k)])) := by
                      rw [HWC.out, List.length_append]
                      exact O5.out
                    refine ⟨⟨v5, k + xm, d ++ [(xk, xm, xn, k)], f', rfl, by go_num, by omega, by simp; omega, by omega, HRN.out, hown6, hbel6, hbk6⟩, ?_⟩
                    simp [intOf]; omega
                  · have hR2 : R = .error k := HRW.out.trans (by rw [hbad hk0]; rfl)
                    have hcut : cutAll s.data.toList = .error (7, k) := by rw [HCUT.out, hR2]
                    have HR2 := Lib.hid hcut
                    clear hR2 hcut hgo hbad hk0 HO HRW HBC q2
                    go_wp2_with (refine wpList_store_row rfl 30 (.tmp 3) (.tmp 158) rfl w.heap.size #[.int .i64 7, .int .i64 (k : Int)] rfl rfl 30 _ HFL.out HF.out rfl (fault_one _ _) ?_)
                    refine bodyPost_ret (v := .tuple #[.slice none 0 0, .agg #[.int .i64 7, .int .i64 (k : Int)]]) (results_tmp_cell (q := 2) (p := 3) (ty := 30) rfl _ _ w.heap.size 30 #[.int .i64 7, .int .i64 (k : Int)] (0, 0) _ rfl (setRow_heap _ w.heap.size _ _ _ _ HFL.out) Try.underlying30 rfl HF.out) rfl ⟨below_setRow HB1.out (Nat.le_refl _) _, ?_⟩
                    rw [HR2.out]
                    rfl
      · as_aux_lemma =>
          obtain rfl : k = s.size := by omega
          have d2 : decide ((s.size : Int) < (s.size : Int)) = false := by simp
          have hnil : s.data.toList.drop s.size = [] := List.drop_of_length_le (by rw [HLEN.out]; exact Nat.le_refl _)
          obtain ⟨f', rfl⟩ : ∃ f', f = f' + 1 := ⟨f - 1, by omega⟩
          have hR2 : R = .ok (d ++ [(0, 0, 0, s.size)]) := by
            rw [HRK.out]
            unfold cutG
            rw [hnil, gapL_nil]
            simp only [Nat.add_zero, hnil]
            rw [cutF_end]
            rfl
          have hcut : cutAll s.data.toList = .ok (d ++ [(0, 0, 0, s.size)]) := by rw [HCUT.out, hR2]
          have hwc : wordsC s (d ++ [(0, 0, 0, s.size)]) = wordsC s d ++ [.int .i64 0, .string ⟨#[]⟩, .int .i64 0, .int .i64 (s.size : Int)] := by
            rw [wordsC_snoc]
            unfold wordC
            rw [show s.extract s.size (s.size + 0) = ByteArray.empty from extract_nil s s.size]
            rfl
          have hb2 : Below wr.heap.size wr (wr.alloc (.cells #[.int .i64 0, .string ⟨#[]⟩, .int .i64 0, .int .i64 (s.size : Int)] 148)) := (Below.refl _ _).alloc (Nat.le_refl _) _
          have hown2 := own_below HO.out hb2
          have hnews : ∀ j u, ([.int .i64 0, .string ⟨#[]⟩, .int .i64 0, .int .i64 (s.size : Int)] : List Value)[j]? = some u → (wr.alloc (.cells #[.int .i64 0, .string ⟨#[]⟩, .int .i64 0, .int .i64 (s.size : Int)] 148)).cell? (Addr.add ⟨wr.heap.size, 0, none⟩ j) = some u := fun j u hu => by
            rw [Addr.add_lit, Nat.zero_add, cell_of_row _ wr.heap.size j _ _ _ (heap_alloc_new wr _), ← hu]
            simp
          have hone : ∀ u ∈ ([.int .i64 0, .string ⟨#[]⟩, .int .i64 0, .int .i64 (s.size : Int)] : List Value), u.oneCell' = true := fun u hu => by
            simp only [List.mem_cons, List.not_mem_nil, or_false] at hu
            rcases hu with rfl | rfl | rfl | rfl <;> rfl
          have h63 : d.length + 1 ≤ maxLen := by unfold maxLen; omega
          have hby : (d.length + 1) * 40 ≤ 140737488355328 := by omega
          have hsz1 : w.heap.size + 1 ≤ wr.heap.size := (Array.getElem?_eq_some_iff.1 HBK.out).1
          have hbase : w.heap.size + 1 ≤ (wr.alloc (.cells #[.int .i64 0, .string ⟨#[]⟩, .int .i64 0, .int .i64 (s.size : Int)] 148)).heap.size := Nat.le_trans hsz1 hb2.size
          have hbk2 := (hb2.block w.heap.size hsz1).trans HBK.out
          have hbel2 := HB.out.trans (hb2.mono HB.out.size)
          have HO2 := Lib.hid hown2
          have HC := Lib.hid hcut
          have HW := Lib.hid hwc
          have HN := Lib.hid hnews
          have HBB := Lib.hid hbel2
          have HK := Lib.hid hbk2
          have HL := hown2.lt
          have HLT := Lib.hid HL
          clear hR2 hcut hwc hb2 hown2 hnews hbel2 hbk2 HL hnil HRK HO HB HBK
          go_wp2_with (first
            | (at_builtin
               refine wpList_append_own _ rfl (.tmp 173) (.tmp 177) 141 rfl (w.heap.size + 1) 148 i0 _ 4 40 Try.underlying141 hi0 hz0 hz1 hz2 rfl (by decide) V d.length (wordsC s d) rfl HO2.out ⟨wr.heap.size, 0, none⟩ 1 1 [.int .i64 0, .string ⟨#[]⟩, .int .i64 0, .int .i64 (s.size : Int)] rfl rfl HN.out hone h63 hby hbase ?_
               intro v5 w5 hown5 hg5 _
               have hbk5 := (hg5.block w.heap.size (Array.getElem?_eq_some_iff.1 HK.out).1 (fun e => by have := (HLT.out _ e.symm).1; omega)).trans HK.out
               have hbel5 : Below w.heap.size w w5 := HBB.out.grown hg5 HBB.out.size (fun g' h => by have := (HLT.out g' h).1; omega)
               have P1 := Lib.hid hown5
               have P2 := Lib.hid hbk5
               have P3 := Lib.hid hbel5
               clear hown5 hg5 hbk5 hbel5)
            | (refine wpList_store_row rfl 30 (.tmp 3) (.tmp 179) rfl w.heap.size #[.int .i64 0, .int .i64 0] rfl rfl 30 _ P2.out HF.out rfl (fault_one _ _) ?_))
          refine bodyPost_ret (v := .tuple #[v5, .agg #[.int .i64 0, .int .i64 0]]) (results_tmp_cell (q := 2) (p := 3) (ty := 30) rfl _ _ w.heap.size 30 #[.int .i64 0, .int .i64 0] (0, 0) _ rfl (setRow_heap _ w.heap.size _ _ _ _ P2.out) Try.underlying30 rfl HF.out) rfl ⟨below_setRow P3.out (Nat.le_refl _) _, ?_⟩
          rw [HC.out]
          refine ⟨v5, rfl, ?_⟩
          rw [HW.out, List.length_append]
          exact own_weaken' (own_setRow P1.out (Nat.lt_succ_self _)) (Nat.le_succ _)
end Go.Proofs.Ytejljfoacbpliaa

namespace Go.Proofs.Ytejljfoacbpliaa
open Go Go.RowKit
def wordL4 (s : ByteArray) (x : Nat × Nat × Int × Nat) : W4 := ⟨x.1, s.extract x.2.2.2 (x.2.2.2 + x.2.1), x.2.2.1, x.2.2.2⟩
def words4 (s : ByteArray) (d : List (Nat × Nat × Int × Nat)) : List W4 := d.map (wordL4 s)
theorem words4_len (s : ByteArray) (d : List (Nat × Nat × Int × Nat)) : (words4 s d).length = d.length := by unfold words4; rw [List.length_map]
theorem cutF_facts : ∀ (f : Nat) (l : List UInt8) (a : Nat) (d : List (Nat × Nat × Int × Nat)), cutF f l a = .ok d → 0 < d.length ∧ (∀ i (h : i < d.length), (d[i]).1 ≠ 0 → i + 1 < d.length) ∧ d.length ≤ l.length + 1
  | 0, l, a, d, h => by simp [cutF] at h
  | f + 1, l, a, d, h => by
    unfold cutF at h
    by_cases hl : l = []
    · rw [if_pos hl] at h
      injection h with h
      subst h
      refine ⟨by simp, fun i hi hk => ?_, by simp⟩
      have : i = 0 := by simpa using hi
      subst this
      simp at hk
    · rw [if_neg hl] at h
      by_cases hk : (firstW l).1 = 0
      · rw [if_pos hk] at h; cases h
      · rw [if_neg hk] at h
        have hlp : 0 < l.length := List.length_pos_iff.2 hl
        have hfw := firstW_len l hlp
        have h1 := hfw.2.1 hk
        cases hc : cutF f ((l.drop (firstW l).2.1).drop (gapL (l.drop (firstW l).2.1))) (a + (firstW l).2.1 + gapL (l.drop (firstW l).2.1)) with
        | error p => rw [hc] at h; cases h
        | ok t =>
          rw [hc] at h
          injection h with h
          subst h
          obtain ⟨i1, i2, i4⟩ := cutF_facts f _ _ t hc
          refine ⟨by simp, fun i hi hne => ?_, ?_⟩
          · cases i with
            | zero => simp only [List.length_cons]; omega
            | succ i =>
              simp only [List.length_cons] at hi ⊢
              have := i2 i (by omega) (by simpa using hne)
              omega
          · simp only [List.length_drop] at i4
            simp only [List.length_cons]
            omega
theorem words4_getD (s : ByteArray) (d : List (Nat × Nat × Int × Nat)) (i : Nat) (h : i < d.length) : (words4 s d).getD i no4 = wordL4 s d[i] := by
  unfold words4
  rw [List.getD_eq_getElem?_getD, List.getElem?_map, List.getElem?_eq_getElem h]
  rfl
theorem cut4_good (s : ByteArray) (d : List (Nat × Nat × Int × Nat)) (h : cutAll s.data.toList = .ok d) : 0 < (words4 s d).length ∧ (∀ i, i < (words4 s d).length → ((words4 s d).getD i no4).kind ≠ 0 → i + 1 < (words4 s d).length) ∧ (words4 s d).length < 100000 := by
  unfold cutAll at h
  by_cases hb : 16384 < s.data.toList.length
  · rw [if_pos hb] at h; cases h
  · rw [if_neg hb] at h
    cases hc : cut1 s.data.toList with
    | error p => rw [hc] at h; cases h
    | ok t =>
      rw [hc] at h
      injection h with h
      subst h
      unfold cut1 at hc
      obtain ⟨h1, h2, h4⟩ := cutF_facts _ _ _ t hc
      rw [words4_len]
      refine ⟨h1, fun i hi hk => ?_, ?_⟩
      · rw [words4_getD s t i hi] at hk
        exact h2 i hi hk
      · simp only [List.length_drop] at h4
        omega
theorem cutAll_err {l : List UInt8} {e p : Nat} (h : cutAll l = .error (e, p)) : e ≠ 0 := by
  unfold cutAll at h
  split at h
  · injection h with h; injection h with h; omega
  · split at h
    · injection h with h; injection h with h; omega
    · cases h
theorem wordsC_cell (s : ByteArray) (d : List (Nat × Nat × Int × Nat)) : ∀ (i : Nat) (h : i < d.length) (j : Nat) (v : Value), (wordL4 s d[i]).cells[j]? = some v → (wordsC s d)[i * 4 + j]? = some v := by
  induction d with
  | nil => intro i h; simp at h
  | cons x r ih =>
    intro i h j v hv
    have hj : j < 4 := by
      have := (List.getElem?_eq_some_iff.1 hv).1
      simpa [W4.cells] using this
    have hc : (wordC s x).length = 4 := rfl
    show (wordC s x ++ wordsC s r)[i * 4 + j]? = some v
    cases i with
    | zero =>
      rw [List.getElem?_append_left (by omega), Nat.zero_mul, Nat.zero_add]
      exact hv
    | succ i =>
      rw [List.getElem?_append_right (by omega), hc, show (i + 1) * 4 + j - 4 = i * 4 + j by omega]
      exact ih i (by simpa using h) j v (by simpa using hv)
theorem par4_start (s : ByteArray) (d : List (Nat × Nat × Int × Nat)) (w : World) (base gp : Nat) (x : Option Addr) (n c : Nat) (hd : 0 < d.length) (h : w.ownsRow base 148 4 (.slice x n c) d.length (wordsC s d)) (hb : ∀ k, (Value.slice x n c).ownBlock = some k → k ≠ gp) (hr : w.heap[gp]? = some (.cells #[.slice x n c, .int .i64 0, .int .i64 0, .int .i64 0, .int .i64 0, .int .i64 0, .int .i64 0] 146 (0, 0)))
    (hg1 : ∀ i, i < (words4 s d).length → ((words4 s d).getD i no4).kind ≠ 0 → i + 1 < (words4 s d).length) (hg2 : (words4 s d).length < 100000) :
    ∃ gw, Good4 ⟨words4 s d, gp, gw, c⟩ ∧ Par4 ⟨words4 s d, gp, gw, c⟩ w 0 s0 := by
  rcases h.2 with ⟨_, h0⟩ | ⟨g, cap, cur, e, hbg, hg, hn, hc, hcs, ht⟩
  · omega
  · injection e with e1 e2 e3
    subst e1 e2 e3
    refine ⟨g, ⟨by rw [words4_len]; exact hd, hg1, hg2, hb g rfl, by show (words4 s d).length ≤ c; rw [words4_len]; exact hn, hc⟩, ?_, fun i hi j u hu => ?_, by show 0 < (words4 s d).length; rw [words4_len]; exact hd, (Array.getElem?_eq_some_iff.1 hg).1⟩
    · unfold parC4
      rw [hr]
      simp only [words4_len]
      rfl
    · simp only [words4_len] at hi
      rw [show ((⟨words4 s d, gp, g, c⟩ : K4).L.getD i no4) = wordL4 s d[i] from words4_getD s d i hi] at hu
      have := h.cells (g := g) rfl (i * 4 + j) u (wordsC_cell s d i hi j u hu)
      rwa [Addr.add_lit, Nat.zero_add] at this
theorem own4_below {w w' : World} {base : Nat} {v : Value} {n : Nat} {xs : List Value} {T : TypeId} {sz : Nat} (h : w.ownsRow base T sz v n xs) (hb : Below w.heap.size w w') : w'.ownsRow base T sz v n xs := by
  refine h.kept (row := none) ⟨hb.os, hb.tape, hb.output, hb.size, fun k hk _ => hb.block k hk⟩ ?_
  cases v.ownBlock with
  | none => exact .inl rfl
  | some k => exact .inr (by simp)
def parse4 (s : ByteArray) : Except (Nat × Nat) (List Nd) :=
  match cutAll s.data.toList with
  | .error e => .error e
  | .ok d => nodes4 (words4 s d)
def GivesP4 (r : Except (Nat × Nat) (List Nd)) (w : World) (e : Ending) (w' : World) : Prop :=
  Below w.heap.size w w' ∧ match r with
  | .error (er, ea) => e = .returned (.tuple #[.slice none 0 0, .agg #[.int .i64 (er : Int), .int .i64 (ea : Int)]])
  | .ok l => ∃ v, e = .returned (.tuple #[v, .agg #[.int .i64 0, .int .i64 0]]) ∧ OwnD 38 6 w' w.heap.size v l.length (ndsD l) ∧ l.length ≤ 32
theorem nodesL4_stop (L : List W4) (f : Nat) (l : List Nd) (s : S4) (h : ¬ (s.er = 0 ∧ (l = [] ∨ (cur4 L s).kind ≠ 0))) : nodesL4 L f l s = (l, s) := by
  cases f with
  | zero => rfl
  | succ f => unfold nodesL4; rw [if_neg h]
theorem nodesL4_full (L : List W4) (f : Nat) (l : List Nd) (s : S4) (h : s.er = 0 ∧ (l = [] ∨ (cur4 L s).kind ≠ 0)) (hl : l.length = 32) : nodesL4 L (f + 1) l s = (l, fail4 L 2 s) := by
  conv => lhs; unfold nodesL4
  rw [if_pos h, if_pos hl]
theorem nodesL4_go (L : List W4) (f : Nat) (l : List Nd) (s : S4) (h : s.er = 0 ∧ (l = [] ∨ (cur4 L s).kind ≠ 0)) (hl : l.length ≠ 32) : nodesL4 L (f + 1) l s = nodesL4 L f (l ++ [(node4 L s).1]) (node4 L s).2 := by
  conv => lhs; unfold nodesL4
  rw [if_pos h, if_neg hl]
theorem fa_par2 (g : Nat) (W : World) : (Instr.fieldAt 146 (.pointer (some ⟨g, 0, none⟩)) 2).run Try.prog W = .ok (.pointer (some ⟨g, 2, none⟩)) W := by kernel_rfl
theorem run_ldmid4 {o : Oper} {ρ : Operand → Value} {x : Operand} {g : Nat} {c1 c2 : Value} {W : World} (ho : o.op = .load 30 x) (hx : ρ x = .pointer (some ⟨g, 2, none⟩)) (h1 : W.cell? ⟨g, 2, none⟩ = some c1) (h2 : W.cell? ⟨g, 3, none⟩ = some c2) : (execOp ρ o).run Try.prog W = .ok (.value (.agg #[c1, c2])) W := by
  have h := run_loadVar_mid (P := Try.prog) W g 2 30 [c1, c2] _ (fun j v hv => by
    match j, hv with
    | 0, hv => rw [h1]; simpa using hv
    | 1, hv => rw [h2]; simpa using hv
    | _ + 2, hv => simp at hv) Try.underlying30 rfl size_bad
  unfold execOp
  simp only [ho, hx, Instr.loadAt, Instr.sureAddr, Sem.run_bind, Sem.run_pure, Result.andThen_ok, h]
theorem below_gb {w w' : World} {gp B : Nat} (h : w.grownBy w' (some gp)) (hB : B ≤ w.heap.size) (hgp : B ≤ gp) : Below B w w' :=
  ⟨h.os, h.tape, h.output, h.size, fun k hk => h.block k (Nat.lt_of_lt_of_le hk hB) (by intro e; injection e with e; omega)⟩
theorem ndC_rows {ok : Nat → Prop} {w : World} {n : Nd} {xi xo xl xe : Option Addr} {ci co cl ce : Nat} (h1 : IsD ok w (.slice xi n.ins.length ci) (.sl n.ins.length (vrsD n.ins))) (h2 : IsD ok w (.slice xo n.outs.length co) (.sl n.outs.length (vrsD n.outs))) (h3 : IsD ok w (.slice xl n.locs.length cl) (.sl n.locs.length (vrsD n.locs))) (h4 : IsD ok w (.slice xe n.eqs.length ce) (.sl n.eqs.length (qesD n.eqs))) :
    RowsD ok w [.string n.name, .slice xi n.ins.length ci, .slice xo n.outs.length co, .slice xl n.locs.length cl, .slice xe n.eqs.length ce, .int .i64 (n.at_ : Int)] (ndD n) :=
  ⟨by unfold IsD; rfl, h1, h2, h3, h4, by unfold IsD; rfl, trivial⟩
end Go.Proofs.Ytejljfoacbpliaa

namespace Go.Proofs.Ytejljfoacbpliaa
open Go Go.RowKit
set_option maxHeartbeats 4000000 in
set_option maxRecDepth 100000 in
theorem Parse4_any (s : ByteArray) (w : World) (hs : s.size ≤ 140737488351232) : Calls Try.prog 41 #[.string s] w (GivesP4 (parse4 s) w) := by
  have hb0 : Below w.heap.size w (w.alloc (.cells #[.int .i64 0, .int .i64 0] 30)) := (Below.refl _ _).alloc (Nat.le_refl _) _
  have hn0 := heap_alloc_new w (.cells #[.int .i64 0, .int .i64 0] 30)
  have hs0 : (w.alloc (.cells #[.int .i64 0, .int .i64 0] 30)).heap.size = w.heap.size + 1 := by simp
  have kc := rCut_any s (w.alloc (.cells #[.int .i64 0, .int .i64 0] 30)) hs
  have hgood := cut4_good s
  have herr := fun e p => cutAll_err (l := s.data.toList) (e := e) (p := p)
  obtain ⟨PR, hPR⟩ : ∃ p, p = parse4 s := ⟨_, rfl⟩
  rw [← hPR]
  unfold parse4 at hPR
  unfold GivesRCut at kc
  obtain ⟨CR, hCR⟩ : ∃ c, c = cutAll s.data.toList := ⟨_, rfl⟩
  simp only [← hCR] at kc hPR herr hgood
  have HB0 := Lib.hid hb0
  have HN0 := Lib.hid hn0
  have HSF := Lib.hid size_bad
  clear hb0 hn0 hCR
  cases CR with
  | error ep =>
    obtain ⟨ce, cp⟩ := ep
    simp only at kc hPR
    have hne := herr ce cp rfl
    have HPR := Lib.hid hPR
    have d0 : ((ce : Int) != 0) = true := by simp; omega
    clear herr hgood hPR hne
    go_enter Try.func41, Try.ntmps41
    go_wp2_with fail
    (with_reducible refine kc.mono ?_)
    rintro e w2 ⟨hb, rfl⟩
    have hs2 : w.heap.size + 1 ≤ w2.heap.size := by rw [← hs0]; exact hb.size
    have hb3 : Below w2.heap.size w2 (w2.alloc (.cells #[.int .i64 (ce : Int), .int .i64 (cp : Int)] 30)) := (Below.refl _ _).alloc (Nat.le_refl _) _
    have hn3 := heap_alloc_new w2 (.cells #[.int .i64 (ce : Int), .int .i64 (cp : Int)] 30)
    have c30 := cell_of_row _ w2.heap.size 0 _ _ _ hn3
    have HB3 := Lib.hid (HB0.out.trans ((hb.trans (hb3.mono hb.size)).mono (by omega)))
    have LR := Lib.hid ((hb3.block w.heap.size (by omega)).trans ((hb.block w.heap.size (by omega)).trans HN0.out))
    have HN3 := Lib.hid hn3
    have ha3 : (w2.alloc (.cells #[.int .i64 (ce : Int), .int .i64 (cp : Int)] 30)).heap.size = w2.heap.size + 1 := by simp
    clear hb hb3 hn3 kc
    go_wp2_with fail
    obtain ⟨w3, hw3⟩ : ∃ w3, w3 = w2.alloc (.cells #[.int .i64 (ce : Int), .int .i64 (cp : Int)] 30) := ⟨_, rfl⟩
    rw [← hw3] at HB3 LR HN3 ha3 ⊢
    refine wp_region_steps_then (words [wIs (.agg #[.int .i64 (ce : Int), .int .i64 (cp : Int)]), wIs (.slice none 0 0)]) w3.heap.size w3 (by kernel_rfl) (Below.refl _ _) (Nat.le_refl _) (words_stable ?stab) rfl rfl rfl (by kernel_rfl) _ rfl ?steps ?last
    case stab =>
      intro f hf
      simp only [List.mem_cons, List.not_mem_nil, or_false] at hf
      rcases hf with rfl | rfl <;> exact stable_is _
    case steps =>
      refine Steps.cons (step_value rfl fun a W hp => ?_) ?_
      · have f1 : a.tmps.getD 5 undef = .pointer (some ⟨w2.heap.size, 0, none⟩) := hp.old 5 rfl
        exact ⟨wanted_none rfl, _, _, run_ldrow rfl f1 ((hp.below.block w2.heap.size (by omega)).trans HN3.out) Try.underlying30 rfl HSF.out, rfl, Below.refl _ _⟩
      refine Steps.cons (step_value rfl fun a W hp => ⟨wanted_none rfl, _, _, run_move (.inr rfl), rfl, Below.refl _ _⟩) ?_
      exact Steps.nil
    case last =>
      intro a W hI
      have f16 : a.tmps.getD 17 undef = .agg #[.int .i64 (ce : Int), .int .i64 (cp : Int)] := hI.new 0 _ 17 rfl rfl rfl
      have f2 : a.tmps.getD 2 undef = .slice none 0 0 := hI.new 1 _ 2 rfl rfl rfl
      have f3 : a.tmps.getD 3 undef = .pointer (some ⟨w.heap.size, 0, none⟩) := hI.old 3 (by simp)
      have hdf : a.defers = [] := hI.defers
      have lr := (hI.below.block w.heap.size (by omega)).trans LR.out
      have hbW := HB3.out.trans (hI.below.mono HB3.out.size)
      clear hI
      refine wpOp_of rfl (wanted_none rfl) ?_
      refine wp_store_row 30 (.tmp 3) (.tmp 17) rfl w.heap.size #[.int .i64 (ce : Int), .int .i64 (cp : Int)] f3 f16 30 _ lr HSF.out rfl (fault_one _ _) ?_
      have hset := setRow_heap W w.heap.size _ #[.int .i64 (ce : Int), .int .i64 (cp : Int)] _ _ lr
      obtain ⟨a2, ha2⟩ : ∃ a2, a2 = a.put none undef := ⟨_, rfl⟩
      have g3 : a2.tmps.getD 3 undef = .pointer (some ⟨w.heap.size, 0, none⟩) := by rw [ha2]; exact f3
      have g2 : a2.tmps.getD 2 undef = .slice none 0 0 := by rw [ha2]; exact f2
      have gd : a2.defers = [] := by rw [ha2]; exact hdf
      rw [← ha2]
      clear ha2
      go_wp2_with fail
      refine bodyPost_ret (results_tmp_cell (q := 2) (p := 3) (ty := 30) rfl _ _ w.heap.size 30 #[.int .i64 (ce : Int), .int .i64 (cp : Int)] (0, 0) _ g3 hset Try.underlying30 rfl HSF.out) gd ?_
      rw [HPR.out]
      refine ⟨below_setRow hbW (Nat.le_refl _) _, ?_⟩
      show _ = _
      rw [g2]
  | ok d =>
    obtain ⟨hd0, hg1, hg2⟩ := hgood d rfl
    simp only at kc hPR
    have hd : 0 < d.length := by rwa [words4_len] at hd0
    unfold nodes4 at hPR
    obtain ⟨QQ, hQQ⟩ : ∃ p, p = nodesL4 (words4 s d) ((words4 s d).length + 1) [] s0 := ⟨_, rfl⟩
    simp only [← hQQ] at hPR
    have HPR := Lib.hid hPR
    have HQQ := Lib.hid hQQ
    have HG1 := Lib.hid hg1
    have HG2 := Lib.hid hg2
    clear herr hgood hPR hQQ hg1 hg2 hd0
    go_enter Try.func41, Try.ntmps41
    go_wp2_with fail
    (with_reducible refine kc.mono ?_)
    rintro e w2 ⟨hb, v, rfl, hown⟩
    obtain ⟨xw, cw, rfl⟩ : ∃ x c, v = .slice x d.length c := by
      rcases hown.2 with ⟨h1, h2⟩ | ⟨g, cap, cur, h1, _⟩
      · exact ⟨none, 0, by rw [h1, h2]⟩
      · exact ⟨_, cap, h1⟩
    have hs2 : w.heap.size + 1 ≤ w2.heap.size := by rw [← hs0]; exact hb.size
    have hb3 : Below w2.heap.size w2 (w2.alloc (.cells #[.int .i64 0, .int .i64 0] 30)) := (Below.refl _ _).alloc (Nat.le_refl _) _
    have hn3 := heap_alloc_new w2 (.cells #[.int .i64 0, .int .i64 0] 30)
    have c30 := cell_of_row _ w2.heap.size 0 _ _ _ hn3
    have ha3 : (w2.alloc (.cells #[.int .i64 0, .int .i64 0] 30)).heap.size = w2.heap.size + 1 := by simp
    have hb4 : Below (w2.alloc (.cells #[.int .i64 0, .int .i64 0] 30)).heap.size (w2.alloc (.cells #[.int .i64 0, .int .i64 0] 30)) ((w2.alloc (.cells #[.int .i64 0, .int .i64 0] 30)).alloc (.cells #[.slice xw d.length cw, .int .i64 0, .int .i64 0, .int .i64 0, .int .i64 0, .int .i64 0, .int .i64 0] 146)) := (Below.refl _ _).alloc (Nat.le_refl _) _
    have hn4 := heap_alloc_new (w2.alloc (.cells #[.int .i64 0, .int .i64 0] 30)) (.cells #[.slice xw d.length cw, .int .i64 0, .int .i64 0, .int .i64 0, .int .i64 0, .int .i64 0, .int .i64 0] 146)
    rw [ha3] at hn4
    have ha4 : ((w2.alloc (.cells #[.int .i64 0, .int .i64 0] 30)).alloc (.cells #[.slice xw d.length cw, .int .i64 0, .int .i64 0, .int .i64 0, .int .i64 0, .int .i64 0, .int .i64 0] 146)).heap.size = w2.heap.size + 2 := by simp
    have hob : ∀ k, (Value.slice xw d.length cw).ownBlock = some k → k ≠ w2.heap.size + 1 := fun k hk => by have := (hown.lt k hk).2; omega
    obtain ⟨gw, hG', hpar'⟩ := par4_start s d _ _ (w2.heap.size + 1) _ _ _ hd (own4_below (own4_below hown hb3) hb4) hob hn4 HG1.out HG2.out
    have hB4 : Below w.heap.size w ((w2.alloc (.cells #[.int .i64 0, .int .i64 0] 30)).alloc (.cells #[.slice xw d.length cw, .int .i64 0, .int .i64 0, .int .i64 0, .int .i64 0, .int .i64 0, .int .i64 0] 146)) := HB0.out.trans ((hb.trans ((hb3.trans (hb4.mono (by rw [ha3]; omega))).mono hb.size)).mono (by omega))
    have lR := (hb4.block w.heap.size (by omega)).trans ((hb3.block w.heap.size (by omega)).trans ((hb.block w.heap.size (by omega)).trans HN0.out))
    obtain ⟨wA, hFA, hAs, hB, hR⟩ : ∃ wA : World, Fr ⟨words4 s d, w2.heap.size + 1, gw, cw⟩ wA 0 [] [] ((w2.alloc (.cells #[.int .i64 0, .int .i64 0] 30)).alloc (.cells #[.slice xw d.length cw, .int .i64 0, .int .i64 0, .int .i64 0, .int .i64 0, .int .i64 0, .int .i64 0] 146)) s0 ∧ wA.heap.size = w2.heap.size + 2 ∧ Below w.heap.size w wA ∧ wA.heap[w.heap.size]? = some (.cells #[.int .i64 0, .int .i64 0] 30 (0, 0)) := ⟨_, Fr.start hpar', ha4, hB4, lR⟩
    obtain ⟨K, hKg, hKL, hG, hFA⟩ : ∃ K : K4, K.gp = w2.heap.size + 1 ∧ K.L = words4 s d ∧ Good4 K ∧ Fr K wA 0 [] [] ((w2.alloc (.cells #[.int .i64 0, .int .i64 0] 30)).alloc (.cells #[.slice xw d.length cw, .int .i64 0, .int .i64 0, .int .i64 0, .int .i64 0, .int .i64 0, .int .i64 0] 146)) s0 := ⟨_, rfl, rfl, hG', hFA⟩
    have HQ := Lib.hid (show nodesL4 K.L (K.L.length + 1) [] s0 = QQ by rw [hKL]; exact HQQ.out.symm)
    have HKG := Lib.hid hKg
    have HAS := Lib.hid hAs
    have HBA := Lib.hid hB
    have HRA := Lib.hid hR
    have HFA := Lib.hid hFA
    have HIN := Lib.hid info_n4
    have HSN := Lib.hid size_n4
    have HS2 := Lib.hid hs2
    clear hb hb3 hn3 hb4 hn4 hown hpar' hob kc ha4 HG1 HG2 hB4 lR hFA hAs hB hR hKg hKL HQQ HB0 HN0 hs0 hG' ha3 hs2 hd
    go_upto_block 0 with fail
    go_cut [7] (fun v7 wx => ∃ (V : Value) (l : List Nd) (S : S4), V = v7 ∧ (l, S) = QQ ∧ Fr K wA 0 [] [] wx S ∧ OwnD 38 6 wx (w2.heap.size + 1) V l.length (ndsD l) ∧ l.length ≤ 32)
    case first =>
      go_wp2_with fail
      go_loopw [7] (fun v7 wr => ∃ (V : Value) (f : Nat) (l : List Nd) (S : S4), V = v7 ∧ nodesL4 K.L f l S = QQ ∧ mS4 K S ≤ f ∧ Fr K wA 0 [] [] wr S ∧ OwnD 38 6 wr (w2.heap.size + 1) V l.length (ndsD l) ∧ l.length ≤ 32)
        (fun _ wr => mea4 K wr)
      case atStart => exact ⟨_, K.L.length + 1, [], s0, rfl, HQ.out, by have := mS4_bound K s0; omega, HFA.out, OwnD.nil _ _ _ _, Nat.zero_le _⟩
      case round =>
        clear HFA HQ
        obtain ⟨V, f, l, S, rfl, hR, hf, hF, hO, hl⟩ := hrel
        have hme := mea4_par hF.par
        obtain ⟨_, _, p2, _, _, _, _⟩ := hF.par.cells
        rw [HKG.out] at p2
        obtain ⟨xv, cv, rfl, _, _⟩ := hO.slice
        have HFe := Lib.hid hF
        have HO := Lib.hid hO
        have HL := Lib.hid hl
        have HFu := Lib.hid hf
        have HME := Lib.hid hme
        have HR := Lib.hid hR
        clear hF hO hl hme
        by_cases e0 : S.er = 0
        · have d0 : ((S.er : Int) == 0) = true := by simp; omega
          have hmS : 0 < mS4 K S := by unfold mS4; rw [if_pos e0]; have := HFe.out.par.lt; omega
          obtain ⟨f', hf'⟩ : ∃ f', f = f' + 1 := ⟨f - 1, by omega⟩
          have HF' := Lib.hid hf'
          have HMS := Lib.hid hmS
          have HRf := Lib.hid ((congrArg (fun k => nodesL4 K.L k l S) hf'.symm).trans hR)
          have HE0 := Lib.hid e0
          clear hf' hmS hR hf e0
          by_cases h0 : l.length = 0
          · have d1 : ((l.length : Int) == 0) = true := by rw [h0]; rfl
            have d2 : ((l.length : Int) == 32) = false := by simp; omega
            have HGO := Lib.hid (HRf.out.symm.trans (nodesL4_go K.L f' l S ⟨HE0.out, .inl (List.eq_nil_of_length_eq_zero h0)⟩ (by omega)))
            have HN32 := Lib.hid (show l.length < 32 by omega)
            clear h0 HRf HR
            have kn := node4_any hG _ S HFe.out.par
            have hgo := HGO.out
            obtain ⟨r, hr⟩ : ∃ r, r = node4 K.L S := ⟨_, rfl⟩
            rw [← hr] at kn hgo
            rw [HKG.out] at kn
            obtain ⟨nd, S2⟩ := r
            simp only at hgo
            have HGo := Lib.hid hgo
            clear hgo hr HGO
            go_wp2_with fail
            (with_reducible refine kn.mono ?_)
            rintro e w6 ⟨xi, ci, xo, co, xl, cl, xe, ce, rfl, h1, h2, h3, h4, hp, hg, hm, hgs⟩
            simp only at h1 h2 h3 h4 hp hm hgs ⊢
            have F6 := (((((Fr.start HFe.out.par).call hp hg).more (h1.mono (fun k hk _ => ⟨hk, fun y hy => by simp at hy⟩))).more (h2.mono (fun k hk _ => ⟨hk, fun y hy => by simp at hy⟩))).more (h3.mono (fun k hk _ => ⟨hk, fun y hy => by simp at hy⟩))).more (h4.mono (fun k hk _ => ⟨hk, fun y hy => by simp at hy⟩)) |>.alloc w6.heap.size rfl 38 #[.string nd.name, .slice xi nd.ins.length ci, .slice xo nd.outs.length co, .slice xl nd.locs.length cl, .slice xe nd.eqs.length ce, .int .i64 (nd.at_ : Int)]
            have HLX := Lib.hid (F6.get 0 rfl)
            have F7 := F6.make 38 #[.string nd.name, .slice xi nd.ins.length ci, .slice xo nd.outs.length co, .slice xl nd.locs.length cl, .slice xe nd.eqs.length ce, .int .i64 (nd.at_ : Int)] (w6.heap.size + 1) (by simp) 1 (by decide) (by decide) (ndsD [nd]) (by
              rw [ndsD_one_]
              exact ndC_rows (n := nd) (F6.inn 0 rfl) (F6.inn 1 rfl) (F6.inn 2 rfl) (F6.inn 3 rfl))
            have HF7 := Lib.hid (HFe.out.call F7.par F7.gb)
            have HO7 := Lib.hid (HO.out.keptG F7.gb (by rw [HKG.out]; exact Nat.le_refl _))
            have HTR := Lib.hid (F7.out 4 rfl)
            have HBW := Lib.hid (show w2.heap.size + 1 + 1 ≤ ((w6.alloc (.cells #[.string nd.name, .slice xi nd.ins.length ci, .slice xo nd.outs.length co, .slice xl nd.locs.length cl, .slice xe nd.eqs.length ce, .int .i64 (nd.at_ : Int)] 38)).alloc (.cells #[.string nd.name, .slice xi nd.ins.length ci, .slice xo nd.outs.length co, .slice xl nd.locs.length cl, .slice xe nd.eqs.length ce, .int .i64 (nd.at_ : Int)] 38)).heap.size by have h1 := HF7.out.gb.size; have h2 := HAS.out; omega)
            have HOK := Lib.hid (show ∀ k, wr.heap.size ≤ k → w2.heap.size + 1 < k ∧ some k ≠ Value.ownBlock (.slice xv l.length cv) from fun k hk => by
              have h1 := HFe.out.gb.size
              have h2 := HAS.out
              exact ⟨by omega, fun e => by have := (HO.out.gt k e.symm).2; omega⟩)
            have HNM := Lib.hid (show l.length + 1 ≤ 100000000000 by have := HN32.out; omega)
            obtain ⟨i6, hi6, ⟨z6, hz6, hzs6⟩, hs6, hb6⟩ := HIN.out
            have HI6 := Lib.hid hi6
            have HZ6 := Lib.hid hz6
            have HZS6 := Lib.hid hzs6
            have HS6 := Lib.hid hs6
            have HB6 := Lib.hid hb6
            have HDEC := Lib.hid (show mS4 K S2 < mS4 K S by
              rcases hgs HE0.out with h | h
              · have := HMS.out
                unfold mS4 at this ⊢
                rw [if_neg h]
                exact this
              · exact mS4_lt2 HE0.out HFe.out.par.lt h)
            clear hp hg h1 h2 h3 h4 hm hgs kn F6 F7 hi6 hz6 hzs6 hs6 hb6
            go_wp2_with (first | (refine wpList_load_row rfl 38 (.tmp 8) rfl w6.heap.size rfl 38 #[.string nd.name, .slice xi nd.ins.length ci, .slice xo nd.outs.length co, .slice xl nd.locs.length cl, .slice xe nd.eqs.length ce, .int .i64 (nd.at_ : Int)] (0, 0) _ HLX.out Try.underlying38 rfl HSN.out ?_) | (refine wpList_appT rfl (.tmp 45) (.tmp 47) 23 rfl i6 z6 120 Try.underlying23 HI6.out HZ6.out HS6.out HB6.out HZS6.out (by decide) (by decide) rfl HO7.out HBW.out (w6.heap.size + 1) 1 1 rfl (ndsD [nd]) (by rw [ndsD_len]; rfl) (by decide) HTR.out (ndsD_ones _) (fun k hk hl => HOK.out k hk) HNM.out ?_))
            intro v8 w8 hO8 hg8 _
            obtain ⟨l2, hl2⟩ : ∃ q, q = l ++ [nd] := ⟨_, rfl⟩
            have hl2l : l2.length = l.length + 1 := by rw [hl2]; simp
            have hgo := HGo.out
            rw [← ndsD_app, ← hl2l, ← hl2] at hO8
            rw [← hl2] at hgo
            have HF8 := Lib.hid (HF7.out.grow hg8 (fun k hk => ⟨by have := (HO7.out.gt k hk).1; have := HAS.out; omega, fun x hx => by simp at hx⟩))
            have HO8 := Lib.hid hO8
            have HNX := Lib.hid hgo.symm
            have HFL := Lib.hid (show mS4 K S2 ≤ f' by have := HFu.out; have := HF'.out; have := HDEC.out; omega)
            have HL32 := Lib.hid (show l2.length ≤ 32 by have := HN32.out; omega)
            clear hO8 hg8 hl2 hl2l hgo HGo
            go_wp2_with fail
            refine ⟨⟨_, f', l2, S2, rfl, HNX.out, HFL.out, HF8.out, HO8.out, HL32.out⟩, ?_⟩
            rw [mea4_par HF8.out.par, HME.out]
            exact HDEC.out
          · have d1 : ((l.length : Int) == 0) = false := beq_eq_false_iff_ne.2 (by omega)
            have kw := w_any hG _ 0 S HFe.out.par
            rw [HKG.out] at kw
            have hst := nodesL4_stop K.L f l S
            have hfl := nodesL4_full K.L f' l S
            have hgo := nodesL4_go K.L f' l S
            rw [HRf.out] at hfl hgo
            rw [HR.out] at hst
            obtain ⟨y, hy⟩ : ∃ y, y = cur4 K.L S := ⟨_, rfl⟩
            rw [← hy] at kw hst hfl hgo
            obtain ⟨yk, yt, yn, ya⟩ := y
            unfold W4.cells at kw
            simp only at kw hst hfl hgo
            have kfi := field4_k (yk : Int) yn (ya : Int) yt
            have HST := Lib.hid hst
            have HFL0 := Lib.hid hfl
            have HGO0 := Lib.hid hgo
            clear hst hfl hgo hy HR HRf
            by_cases ek : yk = 0
            · have d3 : ((yk : Int) != 0) = false := by simp; omega
              have HNX := Lib.hid (HST.out (fun h => h.2.elim (fun e => h0 (by rw [e]; rfl)) (fun e => e ek)))
              clear HST HFL0 HGO0 ek h0
              go_wp2_with fail
              (with_reducible refine kw.mono ?_)
              rintro e wa ⟨rfl, hb⟩
              have HFA := Lib.hid (HFe.out.call (HFe.out.par.below hb) (gb_below hb))
              have HOA := Lib.hid (HO.out.below hb)
              clear hb kw
              go_wp2_with fail
              go_meet
              exact ⟨_, l, S, rfl, HNX.out.symm, HFA.out, HOA.out, HL.out⟩
            · have d3 : ((yk : Int) != 0) = true := by simp; omega
              by_cases h32 : l.length = 32
              · have d2 : ((l.length : Int) == 32) = true := by simp; omega
                have HNX := Lib.hid (HFL0.out ⟨HE0.out, .inr ek⟩ h32)
                clear HST HFL0 HGO0 ek h0 h32
                go_wp2_with fail
                (with_reducible refine kw.mono ?_)
                rintro e wa ⟨rfl, hb⟩
                have FA := HFe.out.call (HFe.out.par.below hb) (gb_below hb)
                have HOA := Lib.hid (HO.out.below hb)
                have kf := fail2_any hG _ 0 S FA.par
                rw [HKG.out] at kf
                have HFA := Lib.hid FA
                clear hb kw FA
                go_wp2_with fail
                (with_reducible refine kf.mono ?_)
                rintro e wb ⟨rfl, hp, hg, _⟩
                have HFB := Lib.hid (HFA.out.call hp hg)
                have HOB := Lib.hid (HOA.out.keptG hg (by rw [HKG.out]; exact Nat.le_refl _))
                clear hp hg kf
                go_wp2_with fail
                go_meet
                exact ⟨_, l, _, rfl, HNX.out.symm, HFB.out, HOB.out, HL.out⟩
              · have d2 : ((l.length : Int) == 32) = false := by simp; omega
                have HGO := Lib.hid (HGO0.out ⟨HE0.out, .inr ek⟩ h32)
                have HN32 := Lib.hid (show l.length < 32 by have := HL.out; omega)
                have HFe0 := HFe
                have HO0 := HO
                clear HST HFL0 HGO0 ek h0 h32
                go_wp2_with fail
                (with_reducible refine kw.mono ?_)
                rintro e wa ⟨rfl, hb⟩
                have HFe := Lib.hid (HFe0.out.call (HFe0.out.par.below hb) (gb_below hb))
                have HO := Lib.hid (HO0.out.below hb)
                clear hb kw HFe0 HO0
                have kn := node4_any hG _ S HFe.out.par
                have hgo := HGO.out
                obtain ⟨r, hr⟩ : ∃ r, r = node4 K.L S := ⟨_, rfl⟩
                rw [← hr] at kn hgo
                rw [HKG.out] at kn
                obtain ⟨nd, S2⟩ := r
                simp only at hgo
                have HGo := Lib.hid hgo
                clear hgo hr HGO
                go_wp2_with fail
                (with_reducible refine kn.mono ?_)
                rintro e w6 ⟨xi, ci, xo, co, xl, cl, xe, ce, rfl, h1, h2, h3, h4, hp, hg, hm, hgs⟩
                simp only at h1 h2 h3 h4 hp hm hgs ⊢
                have F6 := (((((Fr.start HFe.out.par).call hp hg).more (h1.mono (fun k hk _ => ⟨hk, fun y hy => by simp at hy⟩))).more (h2.mono (fun k hk _ => ⟨hk, fun y hy => by simp at hy⟩))).more (h3.mono (fun k hk _ => ⟨hk, fun y hy => by simp at hy⟩))).more (h4.mono (fun k hk _ => ⟨hk, fun y hy => by simp at hy⟩)) |>.alloc w6.heap.size rfl 38 #[.string nd.name, .slice xi nd.ins.length ci, .slice xo nd.outs.length co, .slice xl nd.locs.length cl, .slice xe nd.eqs.length ce, .int .i64 (nd.at_ : Int)]
                have HLX := Lib.hid (F6.get 0 rfl)
                have F7 := F6.make 38 #[.string nd.name, .slice xi nd.ins.length ci, .slice xo nd.outs.length co, .slice xl nd.locs.length cl, .slice xe nd.eqs.length ce, .int .i64 (nd.at_ : Int)] (w6.heap.size + 1) (by simp) 1 (by decide) (by decide) (ndsD [nd]) (by
                  rw [ndsD_one_]
                  exact ndC_rows (n := nd) (F6.inn 0 rfl) (F6.inn 1 rfl) (F6.inn 2 rfl) (F6.inn 3 rfl))
                have HF7 := Lib.hid (HFe.out.call F7.par F7.gb)
                have HO7 := Lib.hid (HO.out.keptG F7.gb (by rw [HKG.out]; exact Nat.le_refl _))
                have HTR := Lib.hid (F7.out 4 rfl)
                have HBW := Lib.hid (show w2.heap.size + 1 + 1 ≤ ((w6.alloc (.cells #[.string nd.name, .slice xi nd.ins.length ci, .slice xo nd.outs.length co, .slice xl nd.locs.length cl, .slice xe nd.eqs.length ce, .int .i64 (nd.at_ : Int)] 38)).alloc (.cells #[.string nd.name, .slice xi nd.ins.length ci, .slice xo nd.outs.length co, .slice xl nd.locs.length cl, .slice xe nd.eqs.length ce, .int .i64 (nd.at_ : Int)] 38)).heap.size by have h1 := HF7.out.gb.size; have h2 := HAS.out; omega)
                have HOK := Lib.hid (show ∀ k, wa.heap.size ≤ k → w2.heap.size + 1 < k ∧ some k ≠ Value.ownBlock (.slice xv l.length cv) from fun k hk => by
                  have h1 := HFe.out.gb.size
                  have h2 := HAS.out
                  exact ⟨by omega, fun e => by have := (HO.out.gt k e.symm).2; omega⟩)
                have HNM := Lib.hid (show l.length + 1 ≤ 100000000000 by have := HN32.out; omega)
                obtain ⟨i6, hi6, ⟨z6, hz6, hzs6⟩, hs6, hb6⟩ := HIN.out
                have HI6 := Lib.hid hi6
                have HZ6 := Lib.hid hz6
                have HZS6 := Lib.hid hzs6
                have HS6 := Lib.hid hs6
                have HB6 := Lib.hid hb6
                have HDEC := Lib.hid (show mS4 K S2 < mS4 K S by
                  rcases hgs HE0.out with h | h
                  · have := HMS.out
                    unfold mS4 at this ⊢
                    rw [if_neg h]
                    exact this
                  · exact mS4_lt2 HE0.out HFe.out.par.lt h)
                clear hp hg h1 h2 h3 h4 hm hgs kn F6 F7 hi6 hz6 hzs6 hs6 hb6
                go_wp2_with (first | (refine wpList_load_row rfl 38 (.tmp 8) rfl w6.heap.size rfl 38 #[.string nd.name, .slice xi nd.ins.length ci, .slice xo nd.outs.length co, .slice xl nd.locs.length cl, .slice xe nd.eqs.length ce, .int .i64 (nd.at_ : Int)] (0, 0) _ HLX.out Try.underlying38 rfl HSN.out ?_) | (refine wpList_appT rfl (.tmp 45) (.tmp 47) 23 rfl i6 z6 120 Try.underlying23 HI6.out HZ6.out HS6.out HB6.out HZS6.out (by decide) (by decide) rfl HO7.out HBW.out (w6.heap.size + 1) 1 1 rfl (ndsD [nd]) (by rw [ndsD_len]; rfl) (by decide) HTR.out (ndsD_ones _) (fun k hk hl => HOK.out k hk) HNM.out ?_))
                intro v8 w8 hO8 hg8 _
                obtain ⟨l2, hl2⟩ : ∃ q, q = l ++ [nd] := ⟨_, rfl⟩
                have hl2l : l2.length = l.length + 1 := by rw [hl2]; simp
                have hgo := HGo.out
                rw [← ndsD_app, ← hl2l, ← hl2] at hO8
                rw [← hl2] at hgo
                have HF8 := Lib.hid (HF7.out.grow hg8 (fun k hk => ⟨by have := (HO7.out.gt k hk).1; have := HAS.out; omega, fun x hx => by simp at hx⟩))
                have HO8 := Lib.hid hO8
                have HNX := Lib.hid hgo.symm
                have HFL := Lib.hid (show mS4 K S2 ≤ f' by have := HFu.out; have := HF'.out; have := HDEC.out; omega)
                have HL32 := Lib.hid (show l2.length ≤ 32 by have := HN32.out; omega)
                clear hO8 hg8 hl2 hl2l hgo HGo
                go_wp2_with fail
                refine ⟨⟨_, f', l2, S2, rfl, HNX.out, HFL.out, HF8.out, HO8.out, HL32.out⟩, ?_⟩
                rw [mea4_par HF8.out.par, HME.out]
                exact HDEC.out
        · have d0 : ((S.er : Int) == 0) = false := by simp; omega
          have HNX := Lib.hid ((nodesL4_stop K.L f l S (fun h => e0 h.1)).symm.trans HR.out)
          clear HR e0
          go_wp2_with fail
          go_meet
          exact ⟨_, l, S, rfl, HNX.out, HFe.out, HO.out, HL.out⟩
    case rest =>
      obtain ⟨V, l, S, rfl, hQ, hF, hO, hl32⟩ := hcut
      have HL32 := Lib.hid hl32
      clear hl32
      have HPR2 := Lib.hid (show PR = if S.er = 0 then .ok l else .error (S.er, S.ea) by rw [HPR.out, ← hQ])
      obtain ⟨_, _, pe, pa, _, _, _⟩ := hF.par.cells
      have HB5 := Lib.hid (HBA.out.trans (below_gb hF.gb (by rw [HAS.out]; have := HS2.out; omega) (by rw [HKG.out]; have := HS2.out; omega)))
      have LR5 := Lib.hid ((hF.gb.block w.heap.size (by rw [HAS.out]; have := HS2.out; omega) (by intro e; injection e with e; have := HKG.out; have := HS2.out; omega)).trans HRA.out)
      have HO := Lib.hid hO
      have hsz := hF.gb.size
      rw [HAS.out] at hsz
      obtain ⟨er, her⟩ : ∃ x, x = S.er := ⟨_, rfl⟩
      obtain ⟨ea, hea⟩ : ∃ x, x = S.ea := ⟨_, rfl⟩
      rw [← her, ← hea] at HPR2
      rw [← her, HKG.out] at pe
      rw [← hea, HKG.out] at pa
      obtain ⟨w5, hw5⟩ : ∃ x, x = wc := ⟨_, rfl⟩
      clear hQ hF hO HPR HFA HQ her hea
      by_cases he0 : er = 0
      · have HR : Hid (PR = .ok l) := Lib.hid (by rw [HPR2.out, if_pos he0])
        subst he0
        clear HPR2
        go_wp2_with (refine wpList_store_row rfl 30 (.tmp 3) (.tmp 60) rfl w.heap.size #[.int .i64 0, .int .i64 0] rfl rfl 30 _ LR5.out HSF.out rfl (fault_one _ _) ?_)
        have hset := setRow_heap wc w.heap.size _ #[.int .i64 0, .int .i64 0] _ _ LR5.out
        refine bodyPost_ret (results_tmp_cell (q := 2) (p := 3) (ty := 30) rfl _ _ w.heap.size 30 #[.int .i64 0, .int .i64 0] (0, 0) _ rfl hset Try.underlying30 rfl HSF.out) rfl ?_
        rw [HR.out]
        refine ⟨below_setRow HB5.out (Nat.le_refl _) _, V, rfl, (HO.out.kept (w' := wc.setRow w.heap.size #[.int .i64 0, .int .i64 0]) (row := some w.heap.size) ⟨rfl, rfl, rfl, by rw [setRow_size]; exact Nat.le_refl _, fun k _ hk => setRow_other wc w.heap.size k _ (fun e => hk (by rw [e]))⟩ (fun k hk => by injection hk with hk; have := HS2.out; omega)).mono (by have := HS2.out; omega), HL32.out⟩
      · have HR : Hid (PR = .error (er, ea)) := Lib.hid (by rw [HPR2.out, if_neg he0])
        have d0 : ((er : Int) != 0) = true := by simp; omega
        clear HPR2 he0
        go_wp2_with fail
        have PE := Lib.hid pe
        have PA := Lib.hid pa
        clear pe pa
        refine wp_region_steps_then (words [wIs (.pointer (some ⟨w2.heap.size + 1, 0, none⟩)), wIs (.pointer (some ⟨w2.heap.size + 1, 0, none⟩)), wIs (.pointer (some ⟨w2.heap.size + 1, 2, none⟩)), wIs (.agg #[.int .i64 (er : Int), .int .i64 (ea : Int)]), wIs (.slice none 0 0)]) wc.heap.size wc (by kernel_rfl) (Below.refl _ _) (Nat.le_refl _) (words_stable ?stab) rfl rfl rfl (by kernel_rfl) _ rfl ?steps ?last
        case stab =>
          intro f hf
          simp only [List.mem_cons, List.not_mem_nil, or_false] at hf
          rcases hf with rfl | rfl | rfl | rfl | rfl <;> exact stable_is _
        case steps =>
          refine Steps.cons (step_value rfl fun a W hp => ⟨wanted_none rfl, _, _, run_move (.inl rfl), hp.old 6 rfl, Below.refl _ _⟩) ?_
          refine Steps.cons (step_value rfl fun a W hp => ?_) ?_
          · have f1 : a.tmps.getD 55 undef = .pointer (some ⟨w2.heap.size + 1, 0, none⟩) := (hp.on_ 0 rfl rfl rfl).2
            exact ⟨wanted_none rfl, _, _, run_nil rfl f1, rfl, Below.refl _ _⟩
          refine Steps.cons (step_value rfl fun a W hp => ?_) ?_
          · have f1 : a.tmps.getD 56 undef = .pointer (some ⟨w2.heap.size + 1, 0, none⟩) := (hp.on_ 1 rfl rfl rfl).2
            exact ⟨wanted_none rfl, _, _, run_fa4 rfl f1 (fa_par2 _ W), rfl, Below.refl _ _⟩
          refine Steps.cons (step_value rfl fun a W hp => ?_) ?_
          · have f1 : a.tmps.getD 57 undef = .pointer (some ⟨w2.heap.size + 1, 2, none⟩) := (hp.on_ 2 rfl rfl rfl).2
            have hblk := hp.below.block (w2.heap.size + 1) (by omega)
            exact ⟨wanted_none rfl, _, _, run_ldmid4 rfl f1 (by simp only [World.cell?, hblk]; exact PE.out) (by simp only [World.cell?, hblk]; exact PA.out), rfl, Below.refl _ _⟩
          refine Steps.cons (step_value rfl fun a W hp => ⟨wanted_none rfl, _, _, run_move (.inr rfl), rfl, Below.refl _ _⟩) ?_
          exact Steps.nil
        case last =>
          intro a W hI
          have f16 : a.tmps.getD 58 undef = .agg #[.int .i64 (er : Int), .int .i64 (ea : Int)] := hI.new 3 _ 58 rfl rfl rfl
          have f2 : a.tmps.getD 2 undef = .slice none 0 0 := hI.new 4 _ 2 rfl rfl rfl
          have f3 : a.tmps.getD 3 undef = .pointer (some ⟨w.heap.size, 0, none⟩) := hI.old 3 (by simp)
          have hdf : a.defers = [] := hI.defers
          have lr := (hI.below.block w.heap.size (by have := HS2.out; omega)).trans LR5.out
          have hbW := HB5.out.trans (hI.below.mono HB5.out.size)
          clear hI
          refine wpOp_of rfl (wanted_none rfl) ?_
          refine wp_store_row 30 (.tmp 3) (.tmp 58) rfl w.heap.size #[.int .i64 (er : Int), .int .i64 (ea : Int)] f3 f16 30 _ lr HSF.out rfl (fault_one _ _) ?_
          have hset := setRow_heap W w.heap.size _ #[.int .i64 (er : Int), .int .i64 (ea : Int)] _ _ lr
          obtain ⟨a2, ha2⟩ : ∃ a2, a2 = a.put none undef := ⟨_, rfl⟩
          have g3 : a2.tmps.getD 3 undef = .pointer (some ⟨w.heap.size, 0, none⟩) := by rw [ha2]; exact f3
          have g2 : a2.tmps.getD 2 undef = .slice none 0 0 := by rw [ha2]; exact f2
          have gd : a2.defers = [] := by rw [ha2]; exact hdf
          rw [← ha2]
          clear ha2
          go_wp2_with fail
          refine bodyPost_ret (results_tmp_cell (q := 2) (p := 3) (ty := 30) rfl _ _ w.heap.size 30 #[.int .i64 (er : Int), .int .i64 (ea : Int)] (0, 0) _ g3 hset Try.underlying30 rfl HSF.out) gd ?_
          rw [HR.out]
          refine ⟨below_setRow hbW (Nat.le_refl _) _, ?_⟩
          show _ = _
          rw [g2]
end Go.Proofs.Ytejljfoacbpliaa

namespace Go.Proofs.Ytejljfoacbpliaa
open Go Go.RowKit
section
variable {P : Program} {Q : Exit → Act → World → Prop} {md : Region.Mode} {l : List Oper} {Sp : Nat → Value → World → Prop} {B : Nat} {w0 : World} {a0 : Act}
def covers3 (md : Region.Mode) (l : List Oper) (n : Nat) : Bool := l.length == n + 3 && ((List.range n).all fun i => (reaches md l l.length [n]).contains i) && (match l[n + 2]? with
  | some o => (o.after.toList.any fun e => e.on == n && Region.binds md e) && (o.after.toList.any fun e => e.on == n + 1 && Region.binds md e)
  | none => false)
theorem Inv.less {lo : List Oper} {listed listed' : Array Bool} {a : Act} {W : World} (h : Inv lo l Sp B w0 a0 listed a W) (hs : listed'.size = l.length) (hl : ∀ i, listed'.getD i false = true → listed.getD i false = true) : Inv lo l Sp B w0 a0 listed' a W :=
  ⟨hs, h.below, h.base, h.defers, h.tmps, h.old, fun i x d hi hli hd => h.new i x d hi (hl i hli) hd⟩
theorem ready_some (h3 : aheadOps md l = true) (listed : Array Bool) (hsz : listed.size = l.length) (hex : ∃ i, i < l.length ∧ listed.getD i true = false) : Region.ready md l.toArray listed ≠ [] := by
  obtain ⟨i0, hi0, hf0⟩ := hex
  intro hr
  have all : ∀ n i, i < n → i < l.length → listed.getD i false = true := by
    intro n
    induction n with
    | zero => intro i hi; omega
    | succ n ih =>
      intro i hi hil
      by_cases hin : i < n
      · exact ih i hin hil
      · cases hb : listed.getD i false with
        | true => rfl
        | false =>
          have hlt : i < listed.size := by omega
          have hmem : i ∈ Region.ready md l.toArray listed := by
            rw [mem_ready]
            refine ⟨by simpa [Array.getD, hlt] using hb, l[i], by simp [hil], fun e he hbe => ?_⟩
            have hlt' := aheadOps_spec h3 (i := i) (o := l[i]) (by simp [hil]) (Array.mem_toList_iff.2 he) hbe
            exact ih e.on (by omega) (by omega)
          rw [hr] at hmem
          cases hmem
  have hlt : i0 < listed.size := by omega
  have := all (i0 + 1) i0 (Nat.lt_succ_self _) hi0
  simp [Array.getD, hlt] at this hf0
  rw [this] at hf0
  cases hf0
theorem getD_both {x : Array Bool} {i : Nat} (h : i < x.size) : x.getD i true = x.getD i false := by simp [Array.getD, h]
theorem getD_get {x : Array Bool} {i : Nat} {b : Bool} (h : i < x.size) : x.getD i b = x[i] := by simp [Array.getD, h]
theorem getD_setT {x : Array Bool} {i k : Nat} {b c : Bool} (h : i < x.size) : (x.setIfInBounds i b).getD k c = if k = i then b else x.getD k c := by
  by_cases hk : k = i
  · subst hk
    rw [if_pos rfl]
    simp [Array.getD, h]
  · rw [if_neg hk]
    by_cases hlt : k < x.size
    · simp only [Array.getD, Array.size_setIfInBounds, hlt, dite_true]
      rw [Array.getInternal_eq_getElem, Array.getElem_setIfInBounds_ne (by assumption) (by omega)]
      rfl
    · simp [Array.getD, hlt]
variable (hst : ∀ i v W W', Sp i v W → Below W.heap.size W W' → Sp i v W') (h1 : single l = true) (h2 : within l a0.tmps.size = true) (h3 : aheadOps md l = true) (n : Nat) (hln : l.length = n + 3)
  (o0 o1 o2 : Oper) (ho0 : l[n]? = some o0) (ho1 : l[n + 1]? = some o1) (ho2 : l[n + 2]? = some o2) (d0 d1 : Tmp) (hd0 : o0.dst = some d0) (hd1 : o1.dst = some d1) (u : Value)
  (hfin : ∀ a W, a.defers = a0.defers → a.tmps.size = a0.tmps.size → (∀ j, (∀ x ∈ l, x.dst ≠ some j) → a.tmps.getD j undef = a0.tmps.getD j undef) → Sp n (a.tmps.getD d0 undef) W → a.tmps.getD d1 undef = u → wpOp P l.toArray Q (n + 2) (fun a' W' => Q .normal a' W') a W)
include hln h3 hfin in
theorem then3_last (fuel : Nat) (listed : Array Bool) (hsz : listed.size = l.length) (hl : ∀ i, i < l.length → listed.getD i true = false → i = n + 2) (hn : listed.getD (n + 2) true = false) (a : Act) (W : World) (e1 : a.defers = a0.defers) (e2 : a.tmps.size = a0.tmps.size) (e3 : ∀ j, (∀ x ∈ l, x.dst ≠ some j) → a.tmps.getD j undef = a0.tmps.getD j undef) (e4 : Sp n (a.tmps.getD d0 undef) W) (e5 : a.tmps.getD d1 undef = u) :
    wpAny P md l.toArray Q (fuel + 1) listed a W := by
  refine ⟨fun hr => absurd hr (ready_some h3 _ hsz ⟨n + 2, by omega, hn⟩), fun j hj => ?_⟩
  have hjl : j < l.length := by
    rw [mem_ready] at hj
    obtain ⟨_, o', ho', _⟩ := hj
    have : l[j]? = some o' := by simpa using ho'
    exact (List.getElem?_eq_some_iff.1 this).1
  obtain rfl : j = n + 2 := by
    rw [mem_ready] at hj
    exact hl j hjl hj.1
  refine wpOp_mono ?_ (hfin a W e1 e2 e3 e4 e5)
  intro a'' W'' hQ2
  have hready : Region.ready md l.toArray (listed.setIfInBounds (n + 2) true) = [] := by
    cases hr : Region.ready md l.toArray (listed.setIfInBounds (n + 2) true) with
    | nil => rfl
    | cons j js =>
      have hj : j ∈ Region.ready md l.toArray (listed.setIfInBounds (n + 2) true) := by rw [hr]; exact List.mem_cons_self ..
      rw [mem_ready] at hj
      obtain ⟨hf, o', ho', _⟩ := hj
      have hjl : j < l.length := by
        have : l[j]? = some o' := by simpa using ho'
        exact (List.getElem?_eq_some_iff.1 this).1
      rw [getD_setT (by omega)] at hf
      by_cases hjn : j = n + 2
      · rw [if_pos hjn] at hf; cases hf
      · rw [if_neg hjn] at hf
        exact absurd (hl j hjl hf) hjn
  cases fuel with
  | zero => exact ⟨hready, hQ2⟩
  | succ f => exact ⟨fun _ => hQ2, fun i hi => by rw [hready] at hi; cases hi⟩
variable (hu : ∀ v W, Sp (n + 1) v W ↔ v = u)
  (hfa : ∀ a W, (∀ j, (∀ x ∈ l, x.dst ≠ some j) → a.tmps.getD j undef = a0.tmps.getD j undef) → wpOp P l.toArray Q (n + 1) (fun a' W' => a' = a.put o1.dst u ∧ W' = W) a W)
  (hs : Steps P md Q l l Sp B w0 a0 0 (l.take n))
  (happ : ∀ a W, Inv l l Sp B w0 a0 ((((Array.replicate l.length true).setIfInBounds n false).setIfInBounds (n + 1) false).setIfInBounds (n + 2) false) a W → wpOp P l.toArray Q n (fun a' W' => ∃ v, a' = a.put o0.dst v ∧ Sp n v W') a W)
  (h4 : covers3 md l n = true)
include hst h1 h2 h3 hln ho0 ho1 ho2 hd0 hd1 hfin hu hfa hs happ h4 in
theorem wpAny_steps_then3 :
    ∀ (fuel : Nat) (listed : Array Bool) (a : Act) (W : World), Inv l l Sp B w0 a0 listed a W → listed.getD n true = false → listed.getD (n + 2) true = false →
      (∀ i, listed.getD i false = true → ∀ o, l[i]? = some o → ∀ e ∈ o.after.toList, Region.binds md e = true → listed.getD e.on false = true) → listed.toList.count false ≤ fuel → wpAny P md l.toArray Q fuel listed a W := by
  unfold covers3 at h4
  rw [Bool.and_eq_true, Bool.and_eq_true, ho2] at h4
  obtain ⟨⟨_, h4⟩, h5⟩ := h4
  rw [Bool.and_eq_true] at h5
  obtain ⟨h5, h6⟩ := h5
  obtain ⟨e0, he0, hb0⟩ := List.any_eq_true.1 h5
  obtain ⟨e1, he1, hb1⟩ := List.any_eq_true.1 h6
  rw [Bool.and_eq_true, beq_iff_eq] at hb0 hb1
  have hd01 : d0 ≠ d1 := fun e => by
    subst e
    have := single_spec h1 ho0 ho1 hd0 hd1
    omega
  intro fuel
  induction fuel with
  | zero =>
    intro listed a W hI hlast0 _ _ hc
    exfalso
    have hlt : n < listed.size := by rw [hI.size]; omega
    have hv : listed[n] = false := by simpa [Array.getD, hlt] using hlast0
    have hpos : 0 < listed.toList.count false := List.count_pos_iff.2 (by rw [← hv]; simp)
    omega
  | succ fuel ih =>
    intro listed a W hI hlast0 hlast2 hcl hc
    refine ⟨fun hr => absurd hr (ready_some h3 _ hI.size ⟨n, by omega, hlast0⟩), fun i hi => ?_⟩
    rw [mem_ready] at hi
    obtain ⟨hf, o, ho, hpre⟩ := hi
    have hio : l[i]? = some o := by simpa using ho
    have hil : i < l.length := (List.getElem?_eq_some_iff.1 hio).1
    have hmem := List.mem_of_getElem? hio
    have hcnt := count_set hf
    have hclose : ∀ j, (listed.setIfInBounds i true).getD j false = true → ∀ x, l[j]? = some x → ∀ e ∈ x.after.toList, Region.binds md e = true → (listed.setIfInBounds i true).getD e.on false = true := by
      intro j hj x hx e he hb'
      have mono : ∀ k, listed.getD k false = true → (listed.setIfInBounds i true).getD k false = true := by
        intro k hk
        rw [getD_setT (by rw [hI.size]; exact hil)]
        split
        · rfl
        · exact hk
      by_cases hji : j = i
      · subst hji
        rw [hio] at hx
        injection hx with hx
        subst hx
        exact mono _ (hpre e (Array.mem_toList_iff.1 he) hb')
      · rw [getD_set_ne _ (Ne.symm hji)] at hj
        exact mono _ (hcl j hj x hx e he hb')
    have keep : ∀ k, k ≠ i → listed.getD k true = false → (listed.setIfInBounds i true).getD k true = false := by
      intro k hk h
      rw [getD_setT (by rw [hI.size]; exact hil), if_neg hk]
      exact h
    by_cases hi0 : i < n
    · have hst' := Steps.at_ (l.take n) 0 hs i o (by rw [List.getElem?_take, if_pos hi0]; exact hio)
      rw [Nat.zero_add] at hst'
      refine wpOp_mono ?_ (hst' a W hI.below hI.base hI.old (fun e he hb x hx d hd => ⟨by rw [hI.tmps]; exact within_spec h2 (List.mem_of_getElem? hx) hd, hI.new e.on x d hx (hpre e (Array.mem_toList_iff.1 he) hb) hd⟩))
      rintro a' W' ⟨v, rfl, hv, hb⟩
      exact ih _ _ _ (hI.step hst h1 h2 hio hmem hv hb) (keep _ (by omega) hlast0) (keep _ (by omega) hlast2) hclose (by omega)
    · by_cases hi1 : i = n + 1
      · subst hi1
        rw [ho1] at hio
        injection hio with hio
        subst hio
        refine wpOp_mono ?_ (hfa a W hI.old)
        rintro a' W' ⟨rfl, rfl⟩
        exact ih _ _ _ (hI.step hst h1 h2 ho1 hmem ((hu u W').2 rfl) (Below.refl _ _)) (keep _ (by omega) hlast0) (keep _ (by omega) hlast2) hclose (by omega)
      · by_cases hi2 : i = n + 2
        · exfalso
          subst hi2
          rw [ho2] at hio
          injection hio with hio
          subst hio
          have h := hpre e0 (Array.mem_toList_iff.1 he0) hb0.2
          rw [hb0.1, ← getD_both (by rw [hI.size]; omega), hlast0] at h
          cases h
        · obtain rfl : i = n := by omega
          rw [ho0] at hio
          injection hio with hio
          subst hio
          have good := reaches_good md l (fun j => j = i ∨ listed.getD j false = true) (fun j hj x hx e he hb => by
            rcases hj with rfl | hj
            · rw [ho0] at hx
              injection hx with hx
              subst hx
              exact .inr (hpre e (Array.mem_toList_iff.1 he) hb)
            · exact .inr (hcl j hj x hx e he hb)) l.length [i] (fun j hj => by
              rw [List.mem_singleton] at hj
              exact .inl hj)
          have hall : ∀ j, j < i → listed.getD j false = true := by
            intro j hj
            rw [List.all_eq_true] at h4
            rcases good j (List.contains_iff_mem.1 (h4 j (List.mem_range.2 (by omega)))) with h | h
            · omega
            · exact h
          have hI3 : Inv l l Sp B w0 a0 ((((Array.replicate l.length true).setIfInBounds i false).setIfInBounds (i + 1) false).setIfInBounds (i + 2) false) a W := hI.less (by simp) (fun j hj => by
            rw [getD_setT (by simp; omega), getD_setT (by simp; omega), getD_setT (by simp; omega)] at hj
            split at hj
            · cases hj
            · split at hj
              · cases hj
              · split at hj
                · cases hj
                · rename_i q1 q2 q3
                  by_cases hjl : j < l.length
                  · exact hall j (by omega)
                  · simp [Array.getD, hjl] at hj)
          refine wpOp_mono ?_ (happ a W hI3)
          rintro a' W' ⟨v, rfl, hv⟩
          have hcA : a.tmps.size = a0.tmps.size := hI.tmps
          have hdl : d0 < a.tmps.size := by rw [hcA]; exact within_spec h2 hmem hd0
          have g0 : (a.put o0.dst v).tmps.getD d0 undef = v := by rw [hd0]; exact put_same hdl
          have gold : ∀ j, (∀ x ∈ l, x.dst ≠ some j) → (a.put o0.dst v).tmps.getD j undef = a0.tmps.getD j undef := fun j hj => by rw [put_other (hj o0 hmem), hI.old j hj]
          have gsz : (a.put o0.dst v).tmps.size = a0.tmps.size := put_size.trans hcA
          have gdf : (a.put o0.dst v).defers = a0.defers := put_defers.trans hI.defers
          have hszL : (listed.setIfInBounds i true).size = l.length := by simpa using hI.size
          -- the store is still to come
          have hn2 : (listed.setIfInBounds i true).getD (i + 2) true = false := keep _ (by omega) hlast2
          obtain ⟨fuel, rfl⟩ : ∃ f, fuel = f + 1 := by
            have hlt : i + 2 < (listed.setIfInBounds i true).size := by omega
            have hv' : (listed.setIfInBounds i true)[i + 2] = false := by
              rw [getD_get hlt] at hn2
              exact hn2
            have hpos : 0 < (listed.setIfInBounds i true).toList.count false := List.count_pos_iff.2 (by have h := Array.getElem_mem_toList hlt; rw [hv'] at h; exact h)
            exact ⟨fuel - 1, by omega⟩
          cases hfd : listed.getD (i + 1) false with
          | true =>
            refine then3_last h3 i hln d0 d1 u hfin fuel _ hszL (fun j hj hjf => ?_) hn2 _ _ gdf gsz gold (by rw [g0]; exact hv) ?_
            · rw [getD_setT (by rw [hI.size]; exact hil)] at hjf
              split at hjf
              · cases hjf
              · rw [getD_both (by rw [hI.size]; exact hj)] at hjf
                by_cases h1' : j < i
                · rw [hall j h1'] at hjf; cases hjf
                · by_cases h2' : j = i + 1
                  · subst h2'; rw [hfd] at hjf; cases hjf
                  · omega
            · rw [put_other (by rw [hd0]; intro e; injection e with e; exact hd01 e)]
              exact (hu _ _).1 (hI.new (i + 1) o1 d1 ho1 hfd hd1)
          | false =>
            have hmem1 := List.mem_of_getElem? ho1
            have hn1 : (listed.setIfInBounds i true).getD (i + 1) true = false := keep _ (by omega) (by rw [getD_both (by rw [hI.size]; omega)]; exact hfd)
            refine ⟨fun hr => absurd hr (ready_some h3 _ hszL ⟨i + 1, by omega, hn1⟩), fun j hj => ?_⟩
            rw [mem_ready] at hj
            obtain ⟨hjf, o', ho', hpre'⟩ := hj
            have hjo : l[j]? = some o' := by simpa using ho'
            have hjl : j < l.length := (List.getElem?_eq_some_iff.1 hjo).1
            have hj2 : j ≠ i + 2 := fun e => by
              subst e
              rw [ho2] at hjo
              injection hjo with hjo
              subst hjo
              have h := hpre' e1 (Array.mem_toList_iff.1 he1) hb1.2
              rw [hb1.1, ← getD_both (by omega), hn1] at h
              cases h
            obtain rfl : j = i + 1 := by
              rw [getD_setT (by rw [hI.size]; exact hil)] at hjf
              split at hjf
              · cases hjf
              · rw [getD_both (by rw [hI.size]; exact hjl)] at hjf
                by_cases h1' : j < i
                · rw [hall j h1'] at hjf; cases hjf
                · omega
            refine wpOp_mono ?_ (hfa _ _ gold)
            rintro a2 W2 ⟨rfl, rfl⟩
            have hcnt2 := count_set hjf
            obtain ⟨fuel, rfl⟩ : ∃ f, fuel = f + 1 := by
              have hlt : i + 2 < ((listed.setIfInBounds i true).setIfInBounds (i + 1) true).size := by simp; rw [hI.size]; omega
              have hv' : ((listed.setIfInBounds i true).setIfInBounds (i + 1) true)[i + 2] = false := by
                have h := hn2
                have hlt2 : i + 2 < (listed.setIfInBounds i true).size := by omega
                rw [getD_get hlt2] at h
                rw [Array.getElem_setIfInBounds_ne (by simpa using hlt) (by omega)]
                exact h
              have hpos : 0 < ((listed.setIfInBounds i true).setIfInBounds (i + 1) true).toList.count false := List.count_pos_iff.2 (by have h := Array.getElem_mem_toList hlt; rw [hv'] at h; exact h)
              exact ⟨fuel - 1, by omega⟩
            have hdl1 : d1 < (a.put o0.dst v).tmps.size := by rw [gsz]; exact within_spec h2 hmem1 hd1
            refine then3_last h3 i hln d0 d1 u hfin fuel _ (by simpa using hszL) (fun j hj hjf => ?_) ?_ _ _ (put_defers.trans gdf) (put_size.trans gsz) (fun j hj => by rw [put_other (hj o1 hmem1), gold j hj]) ?_ ?_
            · rw [getD_setT (by omega)] at hjf
              split at hjf
              · cases hjf
              · rw [getD_setT (by rw [hI.size]; exact hil)] at hjf
                split at hjf
                · cases hjf
                · rw [getD_both (by rw [hI.size]; exact hj)] at hjf
                  by_cases h1' : j < i
                  · rw [hall j h1'] at hjf; cases hjf
                  · omega
            · rw [getD_setT (by omega), if_neg (by omega)]
              exact hn2
            · rw [put_other (by rw [hd1]; intro e; injection e with e; exact hd01 e.symm), g0]
              exact hv
            · rw [hd1]
              exact put_same hdl1
theorem wp_region_steps_then3 {id : Nat} {w : World} (Sp : Nat → Value → World → Prop) (B : Nat) (w0 : World) (hm : P.follows .mixedOrders = true) (hB : Below B w0 w) (hBw : B ≤ w.heap.size)
    (hst : ∀ i v W W', Sp i v W → Below W.heap.size W W' → Sp i v W') (h1 : single l = true) (h2 : within l a0.tmps.size = true) (h3 : aheadOps .any l = true) (n : Nat) (h4 : covers3 .any l n = true) (o0 o1 o2 : Oper) (ho0 : l[n]? = some o0) (ho1 : l[n + 1]? = some o1) (ho2 : l[n + 2]? = some o2) (d0 d1 : Tmp) (hd0 : o0.dst = some d0) (hd1 : o1.dst = some d1) (u : Value)
    (hu : ∀ v W, Sp (n + 1) v W ↔ v = u)
    (hs : Steps P .any Q l l Sp B w0 a0 0 (l.take n))
    (hfa : ∀ a W, (∀ j, (∀ x ∈ l, x.dst ≠ some j) → a.tmps.getD j undef = a0.tmps.getD j undef) → wpOp P l.toArray Q (n + 1) (fun a' W' => a' = a.put o1.dst u ∧ W' = W) a W)
    (happ : ∀ a W, Inv l l Sp B w0 a0 ((((Array.replicate l.length true).setIfInBounds n false).setIfInBounds (n + 1) false).setIfInBounds (n + 2) false) a W → wpOp P l.toArray Q n (fun a' W' => ∃ v, a' = a.put o0.dst v ∧ Sp n v W') a W)
    (hfin : ∀ a W, a.defers = a0.defers → a.tmps.size = a0.tmps.size → (∀ j, (∀ x ∈ l, x.dst ≠ some j) → a.tmps.getD j undef = a0.tmps.getD j undef) → Sp n (a.tmps.getD d0 undef) W → a.tmps.getD d1 undef = u → wpOp P l.toArray Q (n + 2) (fun a' W' => Q .normal a' W') a W) :
    (Code.region id l.toArray true).wp P Q a0 w := by
  have hln : l.length = n + 3 := by
    unfold covers3 at h4
    rw [Bool.and_eq_true, Bool.and_eq_true, beq_iff_eq] at h4
    exact h4.1.1
  refine wp_region_any hm ?_
  have hfalse : ∀ i, (Array.replicate l.toArray.size false).getD i false = false := by
    intro i
    simp [Array.getD]
  refine wpAny_steps_then3 hst h1 h2 h3 n hln o0 o1 o2 ho0 ho1 ho2 d0 d1 hd0 hd1 u hfin hu hfa hs happ h4 _ _ _ _ ⟨by simp, hB.drew, hBw, rfl, rfl, fun _ _ => rfl, fun i x d _ hl _ => ?_⟩ ?_ ?_ ?_ ?_
  · rw [hfalse] at hl
    cases hl
  · simp [Array.getD, hln]
  · simp [Array.getD, hln]
  · intro i hi
    rw [hfalse] at hi
    cases hi
  · simp
end
end Go.Proofs.Ytejljfoacbpliaa

namespace Go.Proofs.Ytejljfoacbpliaa
open Go Go.RowKit
theorem IsDs.app {ok : Nat → Prop} {w : World} {g : Nat} : ∀ (a b : List Dt) (i : Nat), IsDs ok w g i (a ++ b) → IsDs ok w g i a ∧ IsDs ok w g (i + a.length) b
  | [], b, i, h => ⟨by unfold IsDs; trivial, by simpa using h⟩
  | d :: r, b, i, h => by
    rw [List.cons_append] at h
    unfold IsDs at h
    obtain ⟨h1, h2⟩ := IsDs.app r b (i + 1) h.2
    refine ⟨by unfold IsDs; exact ⟨h.1, h1⟩, ?_⟩
    rw [List.length_cons, show i + (r.length + 1) = i + 1 + r.length by omega]
    exact h2
theorem IsDs.nth {ok : Nat → Prop} {w : World} {g : Nat} {α : Type} {f : α → List Dt} {sz : Nat} (hf : ∀ a, (f a).length = sz) : ∀ (l : List α) (i o : Nat) (h : i < l.length), IsDs ok w g o (l.flatMap f) → IsDs ok w g (o + i * sz) (f l[i])
  | [], i, o, h, _ => absurd h (by simp)
  | a :: r, 0, o, h, k => by
    rw [List.flatMap_cons] at k
    have := (IsDs.app _ _ _ k).1
    rw [Nat.zero_mul, Nat.add_zero]
    exact this
  | a :: r, i + 1, o, h, k => by
    rw [List.flatMap_cons] at k
    have h2 := (IsDs.app _ _ _ k).2
    rw [hf a] at h2
    have h3 := IsDs.nth hf r i (o + sz) (by simpa using h) h2
    rw [Nat.succ_mul, show o + (i * sz + sz) = o + sz + i * sz by omega]
    exact h3
theorem exsD_flat : ∀ l : List Ex, exsD l = l.flatMap exD
  | [] => by rw [exsD_nil]; rfl
  | e :: r => by rw [exsD_cons, List.flatMap_cons, exsD_flat r]
theorem RowsD.ex {ok : Nat → Prop} {w : World} {xs : List Value} {e : Ex} (h : RowsD ok w xs (exD e)) : ∃ x c, xs = exC e x c ∧ KidsD ok w e x c := by
  rw [exD_eq] at h
  match xs, h with
  | [a, b, c, d, u], ⟨h1, h2, h3, h4, h5, _⟩ =>
    unfold IsD at h1 h2 h3 h4
    obtain ⟨x, cc, rfl, _, _⟩ := h5.slice
    exact ⟨x, cc, by rw [h1, h2, h3, h4]; rfl, h5⟩
theorem KidsD.at_ {ok : Nat → Prop} {w : World} {e : Ex} {x : Option Addr} {c : Nat} (h : KidsD ok w e x c) (i : Nat) (hi : i < e.kids.length) : ∃ g, x = some ⟨g, 0, none⟩ ∧ g < w.heap.size ∧ ∃ xk ck, w.rangeAt g (i * 5) (exC e.kids[i] xk ck) ∧ KidsD ok w e.kids[i] xk ck := by
  obtain ⟨g, e1, _, e3, e4⟩ := IsD.some_ h (by omega)
  rw [exsD_flat] at e4
  have h5 := IsDs.nth exD_len e.kids i 0 hi e4
  rw [Nat.zero_add] at h5
  obtain ⟨xs, h7, h6⟩ := h5.rows
  obtain ⟨xk, ck, rfl, h8⟩ := h7.ex
  exact ⟨g, e1, e3, xk, ck, h6, h8⟩
theorem run_idxG {ts t : TypeId} {sz : Nat} {W : World} {o : Oper} {ρ : Operand → Value} {x ix : Operand} {g n c k : Nat} (hu : Try.prog.underlying ts = some (.slice t)) (hs : (Try.prog.info? t).map (·.size) = some sz) (ho : o.op = .indexAddr ts x ix) (hx : ρ x = .slice (some ⟨g, 0, none⟩) n c) (hk : ρ ix = .int .i64 (k : Int)) (hlt : k < n) : (execOp ρ o).run Try.prog W = .ok (.value (.pointer (some ⟨g, k * sz, none⟩))) W := by
  cases hi : Try.prog.info? t with
  | none => rw [hi] at hs; simp at hs
  | some i =>
    rw [hi] at hs
    simp at hs
    have he : Try.prog.elem ts = t := by simp [Program.elem, hu]
    have ht' : Try.prog.underlying ts = some (.slice (Try.prog.elem ts)) := by rw [he]; exact hu
    simp [execOp, ho, hx, hk, run_indexAt_slice W ts ⟨g, 0, none⟩ n c .i64 (k : Int) ht', he, sizeOf, typeInfo, hi, hs, hlt, Result.andThen, Addr.add_lit]
theorem run_ldmidG {t : TypeId} {d : TypeDesc} {o : Oper} {ρ : Operand → Value} {x : Operand} {g off : Nat} {vs : List Value} {W : World} (ho : o.op = .load t x) (hx : ρ x = .pointer (some ⟨g, off, none⟩)) (hr : W.rangeAt g off vs) (hd : (match d with | .struct _ | .array _ _ => true | _ => false) = true) (hu : Try.prog.underlying t = some d) (hs : (Try.prog.info? t).map (·.size) = some vs.length) : (execOp ρ o).run Try.prog W = .ok (.value (.agg vs.toArray)) W := by
  have h := run_loadVar_mid (P := Try.prog) W g off t vs _ hr hu hd hs
  unfold execOp
  simp only [ho, hx, Instr.loadAt, Instr.sureAddr, Sem.run_bind, Sem.run_pure, Result.andThen_ok, h]
theorem run_appD {P : Program} {o : Oper} {ρ : Operand → Value} {s x : Operand} {t : TypeId} (ho : o.op = .call { callee := .builtin .append, args := #[s, x], argTypes := #[t, t] })
    {T : TypeId} {sz : Nat} {w : World} {b : Nat} {v : Value} {n : Nat} {ds : List Dt} (i : TypeInfo) (z : Value) (bytes : Nat) (ht : P.underlying t = some (.slice T)) (hi : P.info? T = some i) (hz : i.zero = some z)
    (hsize : i.size = sz) (hby : i.bytes = bytes) (hzs : z.cells.size = sz) (hsz : 0 < sz) (hbl : bytes ≤ 1000)
    (hs : ρ s = v) (h : OwnD T sz w b v n ds) (hbw : b + 1 ≤ w.heap.size) {ok : Nat → Prop} {u : Value} {m : Nat} (hx : ρ x = u) (es : List Dt) (hl : es.length = m * sz) (hm : 0 < m)
    (hd : IsD ok w u (.sl m es)) (hone : ∀ d ∈ es, d.one) (hok : ∀ k, ok k → k < w.heap.size → b < k ∧ some k ≠ v.ownBlock) (hnm : n + m ≤ 100000000000) :
    ∃ v' w', (execOp ρ o).run P w = .ok (.value v') w' ∧ OwnD T sz w' b v' (n + m) (ds ++ es) ∧ w.grownBy w' v.ownBlock ∧ (v'.ownBlock = v.ownBlock ∨ v'.ownBlock = some w.heap.size) := by
  obtain ⟨xx, c, rfl, _, _⟩ := hd.slice
  obtain ⟨g, rfl, _, _, hds⟩ := hd.some_ hm
  obtain ⟨news, hr, hcells⟩ := hds.rows
  obtain ⟨v', w', hrun, h1, h2, h3⟩ := h.append (P := P) t o.type i z bytes ht hi hz hsize hby hzs hsz hbl hbw g 0 m c news es hl hr hcells hone hok hnm
  refine ⟨v', w', ?_, h1, h2, h3⟩
  simp [execOp, ho, resolve, invoke, builtin, hs, hx, hrun, Result.andThen]
theorem wpOp_appD {P : Program} {Q : Exit → Act → World → Prop} {l : List Oper} {i : Nat} {o : Oper} {a : Act} {K : Act → World → Prop} (hi : l[i]? = some o) (hw : Region.wanted o (yielded l.toArray a.tmps) = true) (s x : Operand) (t : TypeId) (ho : o.op = .call { callee := .builtin .append, args := #[s, x], argTypes := #[t, t] })
    {T : TypeId} {sz : Nat} {w : World} {b : Nat} {v : Value} {n : Nat} {ds : List Dt} (i' : TypeInfo) (z : Value) (bytes : Nat) (ht : P.underlying t = some (.slice T)) (hi' : P.info? T = some i') (hz : i'.zero = some z)
    (hsize : i'.size = sz) (hby : i'.bytes = bytes) (hzs : z.cells.size = sz) (hsz : 0 < sz) (hbl : bytes ≤ 1000)
    (hs : a.eval s = v) (h : OwnD T sz w b v n ds) (hbw : b + 1 ≤ w.heap.size) {ok : Nat → Prop} {u : Value} {m : Nat} (hx : a.eval x = u) (es : List Dt) (hl : es.length = m * sz) (hm : 0 < m)
    (hd : IsD ok w u (.sl m es)) (hone : ∀ d ∈ es, d.one) (hok : ∀ k, ok k → k < w.heap.size → b < k ∧ some k ≠ v.ownBlock) (hnm : n + m ≤ 100000000000)
    (hK : ∀ v' w', OwnD T sz w' b v' (n + m) (ds ++ es) → w.grownBy w' v.ownBlock → K (a.put o.dst v') w') : wpOp P l.toArray Q i K a w := by
  obtain ⟨v', w', hrun, j1, j2, _⟩ := run_appD (P := P) ho i' z bytes ht hi' hz hsize hby hzs hsz hbl hs h hbw hx es hl hm hd hone hok hnm
  exact wpOp_value hi hw hrun (hK v' w' j1 j2)
theorem run_bsl1 {P : Program} {o : Oper} {ρ : Operand → Value} {t : TypeId} {i : Nat} {x : Operand} {v : Value} {W W' : World} (ho : o.op = .buildSlice t 1 #[(i, x)]) (h : (Instr.buildSlice t 1 #[(i, ρ x)]).run P W = .ok v W') : (execOp ρ o).run P W = .ok (.value v) W' := by
  unfold execOp
  rw [ho]
  simp [h, Result.andThen]
theorem slice_oneS (o m : ByteArray) (n a : Int) (x : Option Addr) (l c : Nat) (W : World) : (Instr.buildSlice 41 1 #[(0, .agg #[.string o, .string m, .int .i64 n, .int .i64 a, .slice x l c])]).run Try.prog W = .ok (.slice (some ⟨W.heap.size, 0, none⟩) 1 1) (W.alloc (.cells #[.string o, .string m, .int .i64 n, .int .i64 a, .slice x l c] 43)) := by kernel_rfl
theorem size_eS : (Try.prog.info? 43).map (·.size) = some 5 := by kernel_rfl
theorem fa_e4k (g : Nat) (W : World) : (Instr.fieldAt 53 (.pointer (some ⟨g, 0, none⟩)) 4).run Try.prog W = .ok (.pointer (some ⟨g, 4, none⟩)) W := by kernel_rfl
theorem fa_eSk (g : Nat) (W : World) : (Instr.fieldAt 43 (.pointer (some ⟨g, 0, none⟩)) 4).run Try.prog W = .ok (.pointer (some ⟨g, 4, none⟩)) W := by kernel_rfl
theorem size_slS : (Try.prog.info? 41).map (·.size) = some 1 := by kernel_rfl
theorem size_sl4e : (Try.prog.info? 51).map (·.size) = some 1 := by kernel_rfl
theorem info_eS : ∃ i, Try.prog.info? 43 = some i ∧ (∃ z, i.zero = some z ∧ z.cells.size = 5) ∧ i.size = 5 ∧ i.bytes = 72 := by
  have h : (Try.prog.info? 43).map (fun i => (i.zero.map (·.cells.size), i.size, i.bytes)) = some (some 5, 5, 72) := by kernel_rfl
  cases hi : Try.prog.info? 43 with
  | none => rw [hi] at h; simp at h
  | some i =>
    rw [hi] at h
    simp only [Option.map_some, Option.some.injEq, Prod.mk.injEq] at h
    obtain ⟨hz, hs, hb⟩ := h
    cases hzz : i.zero with
    | none => rw [hzz] at hz; simp at hz
    | some z => exact ⟨i, rfl, ⟨z, hzz, by rw [hzz] at hz; simpa using hz⟩, hs, hb⟩
def GivesB (e : Ex) (w : World) (en : Ending) (w' : World) : Prop := ∃ x c, en = .returned (exV e x c) ∧ KidsD (w.heap.size ≤ ·) w' e x c ∧ Below w.heap.size w w'
theorem kid_less {e : Ex} {i : Nat} (h : i < e.kids.length) : SizeOf.sizeOf e.kids[i] < SizeOf.sizeOf e := by
  obtain ⟨o, m, n, a, k⟩ := e
  have h1 : SizeOf.sizeOf k[i] < SizeOf.sizeOf k := List.sizeOf_lt_of_mem (List.getElem_mem h)
  have h2 : SizeOf.sizeOf (Ex.mk o m n a k) = 1 + SizeOf.sizeOf o + SizeOf.sizeOf m + SizeOf.sizeOf n + SizeOf.sizeOf a + SizeOf.sizeOf k := by simp
  show SizeOf.sizeOf k[i] < SizeOf.sizeOf (Ex.mk o m n a k)
  omega
theorem exsD_take {l : List Ex} {i : Nat} (h : i < l.length) : exsD (l.take i) ++ exsD [l[i]] = exsD (l.take (i + 1)) := by
  rw [← exsD_app, List.take_add_one, List.getElem?_eq_getElem h]
  rfl
theorem wp_store_cell {P : Program} {op : Oper} {a : Act} {w : World} {K : Act → World → Prop} {Q : Exit → Act → World → Prop} (ty : TypeId) (x y : Operand) (ho : op.op = .store ty x y) (g j : Nat) (v c : Value) (hx : a.eval x = .pointer (some ⟨g, j, none⟩)) (hy : a.eval y = v) (hc : w.cell? ⟨g, j, none⟩ = some c) (hf : w.frozen? ⟨g, j, none⟩ = false)
    (hi : (P.info? ty).map (·.size) = some 1) (h1 : v.oneCell' = true) (h : K (a.put op.dst undef) (w.setCell ⟨g, j, none⟩ v)) : op.wp P a w K Q := by
  have hcs : v.cells = #[v] := by cases v <;> first | rfl | cases h1
  have hv : storeVar ty ⟨g, j, none⟩ v = storeVar ty ⟨g, j, none⟩ (.agg #[v]) := by
    have hca : (Value.agg #[v]).cells = #[v] := rfl
    simp only [storeVar, hcs, hca]
  have hr := run_storeVar_mid (P := P) w g j ty #[v] (fun k hk => by
    have : k = 0 := by simpa using hk
    subst this
    exact ⟨by rw [Nat.add_zero, hc]; rfl, by rw [Nat.add_zero]; exact hf⟩) (by simpa using hi) (by simpa using h1)
  unfold Oper.wp execOp
  simp only [ho, hx, hy, Instr.storeAt, Instr.sureAddr, Sem.run_bind, Sem.run_pure, Result.andThen_ok, hv, hr]
  exact h
theorem below_own {w W W' : World} {row : Option Nat} (h : Below w.heap.size w W) (hg : W.grownBy W' row) (hr : ∀ k, row = some k → w.heap.size ≤ k) : Below w.heap.size w W' :=
  ⟨hg.os.trans h.os, hg.tape.trans h.tape, hg.output.trans h.output, Nat.le_trans h.size hg.size, fun k hk => (hg.block k (Nat.lt_of_lt_of_le hk h.size) (fun e => by have := hr k e.symm; omega)).trans (h.block k hk)⟩
theorem three_new (w : World) (a b c : Obj) : (((w.alloc a).alloc b).alloc c).heap[w.heap.size]? = some a ∧ (((w.alloc a).alloc b).alloc c).heap[w.heap.size + 1]? = some b ∧ (((w.alloc a).alloc b).alloc c).heap[w.heap.size + 1 + 1]? = some c ∧ ((w.alloc a).alloc b).heap[w.heap.size]? = some a ∧ Below w.heap.size w (((w.alloc a).alloc b).alloc c) := by
  have s1 : (w.alloc a).heap.size = w.heap.size + 1 := by simp
  have s2 : ((w.alloc a).alloc b).heap.size = w.heap.size + 1 + 1 := by simp
  have n1 := heap_alloc_new w a
  have n2 := heap_alloc_new (w.alloc a) b
  have n3 := heap_alloc_new ((w.alloc a).alloc b) c
  rw [s1] at n2
  rw [s2] at n3
  have hb1 : Below w.heap.size w (w.alloc a) := (Below.refl _ _).alloc (Nat.le_refl _) _
  have hb2 : Below (w.alloc a).heap.size (w.alloc a) ((w.alloc a).alloc b) := (Below.refl _ _).alloc (Nat.le_refl _) _
  have hb3 : Below ((w.alloc a).alloc b).heap.size ((w.alloc a).alloc b) (((w.alloc a).alloc b).alloc c) := (Below.refl _ _).alloc (Nat.le_refl _) _
  have h0 := (hb2.block w.heap.size (by omega)).trans n1
  exact ⟨(hb3.block w.heap.size (by omega)).trans h0, (hb3.block (w.heap.size + 1) (by omega)).trans n2, n3, h0, (hb1.trans (hb2.mono (by omega))).trans (hb3.mono (by omega))⟩
def wKid (B : Nat) (e : Ex) (v : Value) (W : World) : Prop := ∃ x c, v = exV e x c ∧ KidsD (B ≤ ·) W e x c
def wRow (B : Nat) (ds : List Dt) (v : Value) (W : World) : Prop := ∃ g, v = .slice (some ⟨g, 0, none⟩) 1 1 ∧ IsD (B ≤ ·) W (.slice (some ⟨g, 0, none⟩) 1 1) (.sl 1 ds)
def wApp (w : World) (e : Ex) (x : Option Addr) (c : Nat) (V : Value) (n : Nat) (v : Value) (W : World) : Prop := Below w.heap.size w W ∧ W.heap[w.heap.size]? = some (.cells #[.string e.op, .string e.name, .int .i64 e.n, .int .i64 (e.at_ : Int), .slice x e.kids.length c] 53 (0, 0)) ∧ W.heap[(w.heap.size + 1)]? = some (.cells #[.string ⟨#[]⟩, .string ⟨#[]⟩, .int .i64 0, .int .i64 0, .slice none 0 0] 43 (0, 0)) ∧ W.heap[(w.heap.size + 1 + 1)]? = some (.cells #[.string e.op, .string e.name, .int .i64 e.n, .int .i64 (e.at_ : Int), V] 43 (0, 0)) ∧ OwnD 43 5 W (w.heap.size + 1 + 1) v n (exsD (e.kids.take n))
theorem stable_kid (B : Nat) (e : Ex) : Stable (wKid B e) := fun _ _ _ ⟨x, c, h1, h2⟩ hb => ⟨x, c, h1, IsD.below hb h2⟩
theorem stable_row (B : Nat) (ds : List Dt) : Stable (wRow B ds) := fun _ _ _ ⟨g, h1, h2⟩ hb => ⟨g, h1, IsD.below hb h2⟩
theorem stable_app (w : World) (e : Ex) (x : Option Addr) (c : Nat) (V : Value) (n : Nat) : Stable (wApp w e x c V n) := fun _ W _ ⟨h1, h2, h3, h4, h5⟩ hb =>
  have l := (Array.getElem?_eq_some_iff.1 h4).1
  ⟨h1.trans (hb.mono h1.size), (hb.block _ (by omega)).trans h2, (hb.block _ (by omega)).trans h3, (hb.block _ l).trans h4, h5.below hb⟩
end Go.Proofs.Ytejljfoacbpliaa

namespace Go.Proofs.Ytejljfoacbpliaa
open Go Go.RowKit
set_option maxHeartbeats 4000000 in
set_option maxRecDepth 100000 in
theorem back_lt : ∀ (m : Nat) (e : Ex), SizeOf.sizeOf e < m → ∀ (w : World) (ok : Nat → Prop) (x : Option Addr) (c : Nat), KidsD ok w e x c → Calls Try.prog 46 #[exV e x c] w (GivesB e w) := by
  intro m
  induction m with
  | zero => intro e h; omega
  | succ m ih =>
    intro e hm w ok x c hk
    have IH := Lib.hid (fun (i : Nat) (hi : i < e.kids.length) => ih e.kids[i] (by have := kid_less hi; omega))
    have HK := Lib.hid hk
    have HSE := Lib.hid size_eS
    have HIS := Lib.hid info_eS
    obtain ⟨hrA, hrB, hrC, h0, hbC⟩ := three_new w (.cells #[.string e.op, .string e.name, .int .i64 e.n, .int .i64 (e.at_ : Int), .slice x e.kids.length c] 53) (.cells #[.string ⟨#[]⟩, .string ⟨#[]⟩, .int .i64 0, .int .i64 0, .slice none 0 0] 43) (.cells #[.string e.op, .string e.name, .int .i64 e.n, .int .i64 (e.at_ : Int), .slice none 0 0] 43)
    have c0 := cell_of_row _ w.heap.size 0 _ _ _ h0
    have c1 := cell_of_row _ w.heap.size 1 _ _ _ h0
    have c2 := cell_of_row _ w.heap.size 2 _ _ _ h0
    have c3 := cell_of_row _ w.heap.size 3 _ _ _ h0
    have HR0 := Lib.hid ((⟨hbC, hrA, hrB, hrC⟩ : Below w.heap.size w (((w.alloc (.cells #[.string e.op, .string e.name, .int .i64 e.n, .int .i64 (e.at_ : Int), .slice x e.kids.length c] 53)).alloc (.cells #[.string ⟨#[]⟩, .string ⟨#[]⟩, .int .i64 0, .int .i64 0, .slice none 0 0] 43)).alloc (.cells #[.string e.op, .string e.name, .int .i64 e.n, .int .i64 (e.at_ : Int), .slice none 0 0] 43)) ∧ (((w.alloc (.cells #[.string e.op, .string e.name, .int .i64 e.n, .int .i64 (e.at_ : Int), .slice x e.kids.length c] 53)).alloc (.cells #[.string ⟨#[]⟩, .string ⟨#[]⟩, .int .i64 0, .int .i64 0, .slice none 0 0] 43)).alloc (.cells #[.string e.op, .string e.name, .int .i64 e.n, .int .i64 (e.at_ : Int), .slice none 0 0] 43)).heap[w.heap.size]? = some (.cells #[.string e.op, .string e.name, .int .i64 e.n, .int .i64 (e.at_ : Int), .slice x e.kids.length c] 53 (0, 0)) ∧ (((w.alloc (.cells #[.string e.op, .string e.name, .int .i64 e.n, .int .i64 (e.at_ : Int), .slice x e.kids.length c] 53)).alloc (.cells #[.string ⟨#[]⟩, .string ⟨#[]⟩, .int .i64 0, .int .i64 0, .slice none 0 0] 43)).alloc (.cells #[.string e.op, .string e.name, .int .i64 e.n, .int .i64 (e.at_ : Int), .slice none 0 0] 43)).heap[(w.heap.size + 1)]? = some (.cells #[.string ⟨#[]⟩, .string ⟨#[]⟩, .int .i64 0, .int .i64 0, .slice none 0 0] 43 (0, 0)) ∧ (((w.alloc (.cells #[.string e.op, .string e.name, .int .i64 e.n, .int .i64 (e.at_ : Int), .slice x e.kids.length c] 53)).alloc (.cells #[.string ⟨#[]⟩, .string ⟨#[]⟩, .int .i64 0, .int .i64 0, .slice none 0 0] 43)).alloc (.cells #[.string e.op, .string e.name, .int .i64 e.n, .int .i64 (e.at_ : Int), .slice none 0 0] 43)).heap[(w.heap.size + 1 + 1)]? = some (.cells #[.string e.op, .string e.name, .int .i64 e.n, .int .i64 (e.at_ : Int), .slice none 0 0] 43 (0, 0))))
    clear hbC hrA hrB hrC h0 hk ih hm
    unfold exV
    go_enter Try.func46, Try.ntmps46
    go_wp2_with fail
    go_loopw [4] (fun v4 wr => ∃ (i : Nat) (V : Value), v4 = .int .i64 (i : Int) ∧ i ≤ e.kids.length ∧ (Below w.heap.size w wr ∧ wr.heap[w.heap.size]? = some (.cells #[.string e.op, .string e.name, .int .i64 e.n, .int .i64 (e.at_ : Int), .slice x e.kids.length c] 53 (0, 0)) ∧ wr.heap[(w.heap.size + 1)]? = some (.cells #[.string ⟨#[]⟩, .string ⟨#[]⟩, .int .i64 0, .int .i64 0, .slice none 0 0] 43 (0, 0)) ∧ wr.heap[(w.heap.size + 1 + 1)]? = some (.cells #[.string e.op, .string e.name, .int .i64 e.n, .int .i64 (e.at_ : Int), V] 43 (0, 0))) ∧ OwnD 43 5 wr (w.heap.size + 1 + 1) V i (exsD (e.kids.take i)))
      (fun v4 _ => e.kids.length - (intOf v4).toNat)
    case atStart => exact ⟨0, _, rfl, Nat.zero_le _, HR0.out, by rw [List.take_zero, exsD_nil]; exact OwnD.nil _ _ _ _⟩
    case round =>
      clear HR0 c0 c1 c2 c3
      obtain ⟨i, V, rfl, hi, ⟨hb, r0, r1, r2⟩, hO⟩ := hrel
      obtain ⟨xv, cv, rfl, _, _⟩ := hO.slice
      have k4 := cell_of_row _ w.heap.size 4 _ _ _ r0
      have HB := Lib.hid hb
      have HR0 := Lib.hid r0
      have HR1 := Lib.hid r1
      have HR2 := Lib.hid r2
      have HO := Lib.hid hO
      have HI := Lib.hid hi
      clear hb r0 r1 r2 hO hi
      by_cases hil : i < e.kids.length
      · have d1 : decide ((i : Int) < (e.kids.length : Int)) = true := by simp; omega
        have HIL := Lib.hid hil
        clear hil
        obtain ⟨g, rfl, hg, xk, ck, hrg, hkk⟩ := HK.out.at_ i HIL.out
        have hgw := HB.out.block g hg
        have HG := Lib.hid (show g < wr.heap.size from Nat.lt_of_lt_of_le hg HB.out.size)
        have HRG := Lib.hid (show wr.rangeAt g (i * 5) (exC e.kids[i] xk ck) from fun j v hv => by
          have := hrg j v hv
          simp only [World.cell?] at this ⊢
          rw [hgw]; exact this)
        have HKK := Lib.hid (show KidsD (fun k => ok k ∧ k < w.heap.size) wr e.kids[i] xk ck from IsD.keep HB.out.size (fun k _ hl => HB.out.block k hl) (fun k hk hl => ⟨hk, hl⟩) _ hkk)
        have HLB := Lib.hid (show (w.heap.size + 1 + 1) < wr.heap.size from (Array.getElem?_eq_some_iff.1 HR2.out).1)
        clear hrg hkk hgw hg
        go_wp2_with fail
        refine wp_region_steps_then3 (words [wIs (.pointer (some ⟨(w.heap.size + 1 + 1), 4, none⟩)), wIs (.slice xv i cv), wIs (.pointer (some ⟨w.heap.size, 4, none⟩)), wIs (.slice (some ⟨g, 0, none⟩) e.kids.length c), wIs (.int .i64 (i : Int)), wIs (.pointer (some ⟨g, i * 5, none⟩)), wIs (exV e.kids[i] xk ck), wKid wr.heap.size e.kids[i], wRow wr.heap.size (exsD [e.kids[i]]), wApp w e (some ⟨g, 0, none⟩) c (.slice xv i cv) (i + 1), wIs (.pointer (some ⟨(w.heap.size + 1 + 1), 4, none⟩))]) wr.heap.size wr (by kernel_rfl) (Below.refl _ _) (Nat.le_refl _) (words_stable ?stab) rfl rfl rfl 9 (by kernel_rfl) _ _ _ rfl rfl rfl 30 31 rfl rfl (.pointer (some ⟨(w.heap.size + 1 + 1), 4, none⟩)) (fun v W => Iff.rfl) ?steps ?fa ?app ?fin
        case stab =>
          intro f hf
          simp only [List.mem_cons, List.not_mem_nil, or_false] at hf
          rcases hf with rfl | rfl | rfl | rfl | rfl | rfl | rfl | rfl | rfl | rfl | rfl <;> first | exact stable_is _ | exact stable_kid _ _ | exact stable_row _ _ | exact stable_app _ _ _ _ _ _
        case steps =>
          refine Steps.cons (step_value rfl fun xa W hp => ?_) ?_
          · have f0 : xa.tmps.getD 3 undef = .pointer (some ⟨(w.heap.size + 1 + 1), 0, none⟩) := hp.old 3 rfl
            exact ⟨wanted_none rfl, _, _, run_fa4 rfl f0 (fa_eSk _ W), rfl, Below.refl _ _⟩
          refine Steps.cons (step_value rfl fun xa W hp => ?_) ?_
          · have f0 : xa.tmps.getD 21 undef = .pointer (some ⟨(w.heap.size + 1 + 1), 4, none⟩) := (hp.on_ 0 rfl rfl rfl).2
            exact ⟨wanted_none rfl, _, _, run_ldv rfl f0 (cell_of_row W (w.heap.size + 1 + 1) 4 _ _ _ ((hp.below.block (w.heap.size + 1 + 1) HLB.out).trans HR2.out)) Try.underlying41 rfl size_slS, rfl, Below.refl _ _⟩
          refine Steps.cons (step_value rfl fun xa W hp => ?_) ?_
          · have f0 : xa.tmps.getD 1 undef = .pointer (some ⟨w.heap.size, 0, none⟩) := hp.old 1 rfl
            exact ⟨wanted_none rfl, _, _, run_fa4 rfl f0 (fa_e4k _ W), rfl, Below.refl _ _⟩
          refine Steps.cons (step_value rfl fun xa W hp => ?_) ?_
          · have f0 : xa.tmps.getD 23 undef = .pointer (some ⟨w.heap.size, 4, none⟩) := (hp.on_ 2 rfl rfl rfl).2
            exact ⟨wanted_none rfl, _, _, run_ldv rfl f0 (cell_of_row W w.heap.size 4 _ _ _ ((hp.below.block w.heap.size (by have := HLB.out; omega)).trans HR0.out)) Try.underlying51 rfl size_sl4e, rfl, Below.refl _ _⟩
          refine Steps.cons (step_value rfl fun xa W hp => ⟨wanted_none rfl, _, _, run_move (.inl rfl), hp.old 4 rfl, Below.refl _ _⟩) ?_
          refine Steps.cons (step_value rfl fun xa W hp => ?_) ?_
          · have f0 : xa.tmps.getD 24 undef = .slice (some ⟨g, 0, none⟩) e.kids.length c := (hp.on_ 3 rfl rfl rfl).2
            have f1 : xa.tmps.getD 25 undef = .int .i64 (i : Int) := (hp.on_ 4 rfl rfl rfl).2
            exact ⟨wanted_none rfl, _, _, run_idxG Try.underlying51 size_e4 rfl f0 f1 HIL.out, rfl, Below.refl _ _⟩
          refine Steps.cons (step_value rfl fun xa W hp => ?_) ?_
          · have f0 : xa.tmps.getD 26 undef = .pointer (some ⟨g, i * 5, none⟩) := (hp.on_ 5 rfl rfl rfl).2
            have hW := hp.below.block g HG.out
            exact ⟨wanted_none rfl, _, _, run_ldmidG rfl f0 (vs := exC e.kids[i] xk ck) (fun j v hv => by
              have := HRG.out j v hv
              simp only [World.cell?] at this ⊢
              rw [hW]; exact this) rfl Try.underlying53 size_e4, rfl, Below.refl _ _⟩
          refine Steps.cons (step_enter rfl fun xa W hp => ?_) ?_
          · have f0 : xa.tmps.getD 27 undef = exV e.kids[i] xk ck := (hp.on_ 6 rfl rfl rfl).2
            refine ⟨wanted_none rfl, 46, _, run_enter1 rfl rfl Try.call46, ?_⟩
            show Calls _ _ #[xa.tmps.getD 27 undef] W _
            rw [f0]
            refine (IH.out i HIL.out W _ xk ck (IsD.keep hp.below.size (fun k _ hl => hp.below.block k hl) (fun _ h _ => h) _ HKK.out)).mono (fun e' W' h => ?_)
            obtain ⟨x', c', h1, h2, h3⟩ := h
            exact ⟨_, h1, ⟨x', c', rfl, IsD.monoB hp.below.size h2⟩, h3⟩
          refine Steps.cons (step_value rfl fun xa W hp => ?_) ?_
          · have f0 : wKid wr.heap.size e.kids[i] (xa.tmps.getD 28 undef) W := (hp.on_ 7 rfl rfl rfl).2
            obtain ⟨x', c', h1, h2⟩ := f0
            refine ⟨wanted_none rfl, _, _, run_bsl1 rfl (by
              show (Instr.buildSlice _ 1 #[(0, xa.tmps.getD 28 undef)]).run _ W = _
              rw [h1]
              exact slice_oneS _ _ _ _ _ _ _ W), ⟨W.heap.size, rfl, ?_⟩, (Below.refl _ _).alloc (Nat.le_refl _) _⟩
            exact IsD.made 43 _ W.heap.size rfl 1 (by decide) (by decide) (exsD [e.kids[i]]) hp.below.size (by
              rw [exsD_cons, exsD_nil, List.append_nil]
              exact KidsD.rows (e := e.kids[i]) h2)
          exact Steps.nil
        case fa =>
          intro xa W hold
          have f0 : xa.tmps.getD 3 undef = .pointer (some ⟨(w.heap.size + 1 + 1), 0, none⟩) := hold 3 (by simp)
          exact wpOp_value rfl (wanted_none rfl) (run_fa4 rfl f0 (fa_eSk _ W)) ⟨rfl, rfl⟩
        case app =>
          intro xa W hI
          have f22 : xa.tmps.getD 22 undef = .slice xv i cv := hI.new 1 _ 22 rfl rfl rfl
          obtain ⟨g', f29, h29⟩ : wRow wr.heap.size (exsD [e.kids[i]]) (xa.tmps.getD 29 undef) W := hI.new 8 _ 29 rfl rfl rfl
          obtain ⟨i5, hi5, ⟨z5, hz5, hzs5⟩, hs5, hb5⟩ := HIS.out
          have hOW := HO.out.below hI.below
          have hbs := hI.below.size
          have hlb := HLB.out
          refine wpOp_appD rfl (wanted_none rfl) (.tmp 22) (.tmp 29) 41 rfl i5 z5 72 Try.underlying41 hi5 hz5 hs5 hb5 hzs5 (by decide) (by decide) f22 hOW (by omega) (m := 1) f29 (exsD [e.kids[i]]) (by rw [exsD_len]; rfl) (by decide) h29 (exsD_one _) (fun k hk hl => ⟨by have : wr.heap.size ≤ k := hk; omega, fun e' => by have := (HO.out.gt k e'.symm).2; have : wr.heap.size ≤ k := hk; omega⟩) (by have := HIL.out; have := IsD.few HK.out; omega) (fun v' w' j1 j2 => ⟨v', rfl, ?_⟩)
          have hgt : ∀ k, Value.ownBlock (.slice xv i cv) = some k → (w.heap.size + 1 + 1) < k := fun k hk => (HO.out.gt k hk).1
          have hne : ∀ k, k ≤ (w.heap.size + 1 + 1) → some k ≠ Value.ownBlock (.slice xv i cv) := fun k hk e' => by have := hgt k e'.symm; omega
          refine ⟨below_own (HB.out.trans (hI.below.mono HB.out.size)) j2 (fun k hk => by have := hgt k hk; omega), ?_, ?_, ?_, ?_⟩
          · exact (j2.block w.heap.size (by omega) (hne _ (by omega))).trans ((hI.below.block w.heap.size (by omega)).trans HR0.out)
          · exact (j2.block (w.heap.size + 1) (by omega) (hne _ (by omega))).trans ((hI.below.block (w.heap.size + 1) (by omega)).trans HR1.out)
          · exact (j2.block (w.heap.size + 1 + 1) (by omega) (hne _ (by omega))).trans ((hI.below.block (w.heap.size + 1 + 1) (by omega)).trans HR2.out)
          · rw [exsD_take HIL.out] at j1
            exact j1
        case fin =>
          intro xa W hdf hsz hold h30 h31
          have f0 := hold 0 (by simp)
          have f1 : xa.tmps.getD 1 undef = .pointer (some ⟨w.heap.size, 0, none⟩) := hold 1 (by simp)
          have f2 : xa.tmps.getD 2 undef = .pointer (some ⟨(w.heap.size + 1), 0, none⟩) := hold 2 (by simp)
          have f3 : xa.tmps.getD 3 undef = .pointer (some ⟨(w.heap.size + 1 + 1), 0, none⟩) := hold 3 (by simp)
          have f4 : xa.tmps.getD 4 undef = .int .i64 (i : Int) := hold 4 (by simp)
          obtain ⟨hb, q0, q1, q2, hO⟩ : wApp w e (some ⟨g, 0, none⟩) c (.slice xv i cv) (i + 1) (xa.tmps.getD 30 undef) W := h30
          obtain ⟨V, hV⟩ : ∃ V, V = xa.tmps.getD 30 undef := ⟨_, rfl⟩
          rw [← hV] at hO
          obtain ⟨xn, cn, rfl, _, _⟩ := hO.slice
          refine wpOp_of rfl (wanted_none rfl) ?_
          refine wp_store_cell 41 (.tmp 31) (.tmp 30) rfl (w.heap.size + 1 + 1) 4 (.slice xn (i + 1) cn) _ h31 hV.symm (cell_of_row W (w.heap.size + 1 + 1) 4 _ _ _ q2) (frozen_of_row W (w.heap.size + 1 + 1) 4 _ _ q2) size_slS rfl ?_
          have hgs := gb_set W (w.heap.size + 1 + 1) 4 (.slice xn (i + 1) cn)
          have HBN := Lib.hid (below_own hb hgs (fun k hk => by injection hk with hk; omega))
          have HRN0 := Lib.hid ((heap_setCell_other W ⟨(w.heap.size + 1 + 1), 4, none⟩ w.heap.size (.slice xn (i + 1) cn) (by show w.heap.size ≠ (w.heap.size + 1 + 1); omega)).trans q0)
          have HRN1 := Lib.hid ((heap_setCell_other W ⟨(w.heap.size + 1 + 1), 4, none⟩ (w.heap.size + 1) (.slice xn (i + 1) cn) (by show (w.heap.size + 1) ≠ (w.heap.size + 1 + 1); omega)).trans q1)
          have HRN2 := Lib.hid (heap_setCell_same W (w.heap.size + 1 + 1) 4 _ _ (.slice xn (i + 1) cn) q2)
          have HON := Lib.hid (hO.kept hgs (fun k hk => by injection hk with hk; omega))
          have h0 : xa.tmps.getD 0 undef = .agg #[.string e.op, .string e.name, .int .i64 e.n, .int .i64 (e.at_ : Int), .slice (some ⟨g, 0, none⟩) e.kids.length c] := hold 0 (by simp)
          have h1 : xa.tmps.getD 1 undef = (.pointer (some ⟨w.heap.size, 0, none⟩)) := hold 1 (by simp)
          have h2 : xa.tmps.getD 2 undef = .pointer (some ⟨(w.heap.size + 1), 0, none⟩) := hold 2 (by simp)
          have h3 : xa.tmps.getD 3 undef = .pointer (some ⟨(w.heap.size + 1 + 1), 0, none⟩) := hold 3 (by simp)
          have h4 : xa.tmps.getD 4 undef = .int .i64 (i : Int) := hold 4 (by simp)
          have h5 : xa.tmps.getD 5 undef = (.pointer (some ⟨w.heap.size, 0, none⟩)) := hold 5 (by simp)
          have h6 : xa.tmps.getD 6 undef = .string e.op := hold 6 (by simp)
          have h7 : xa.tmps.getD 7 undef = (.pointer (some ⟨w.heap.size, 1, none⟩)) := hold 7 (by simp)
          have h8 : xa.tmps.getD 8 undef = .string e.name := hold 8 (by simp)
          have h9 : xa.tmps.getD 9 undef = (.pointer (some ⟨w.heap.size, 2, none⟩)) := hold 9 (by simp)
          have h10 : xa.tmps.getD 10 undef = .int .i64 e.n := hold 10 (by simp)
          have h11 : xa.tmps.getD 11 undef = (.pointer (some ⟨w.heap.size, 3, none⟩)) := hold 11 (by simp)
          have h12 : xa.tmps.getD 12 undef = .int .i64 (e.at_ : Int) := hold 12 (by simp)
          have h13 : xa.tmps.getD 13 undef = .agg #[.string e.op, .string e.name, .int .i64 e.n, .int .i64 (e.at_ : Int), .slice none 0 0] := hold 13 (by simp)
          have h32 : xa.tmps.getD 32 undef = undef := hold 32 (by simp)
          have hsz' : xa.tmps.size = 33 := hsz
          have hdf' : xa.defers = [] := hdf
          obtain ⟨f, hf, hx⟩ := act_eta hsz' hdf'
          rw [hf] at h0 h1 h2 h3 h4 h5 h6 h7 h8 h9 h10 h11 h12 h13 h32
          clear hold h31 hV hf hsz hdf hsz' hdf' f0 f1 f2 f3 f4
          subst hx
          have hl : ((List.range 33).map f).toArray = #[f 0, f 1, f 2, f 3, f 4, f 5, f 6, f 7, f 8, f 9, f 10, f 11, f 12, f 13, f 14, f 15, f 16, f 17, f 18, f 19, f 20, f 21, f 22, f 23, f 24, f 25, f 26, f 27, f 28, f 29, f 30, f 31, f 32] := rfl
          simp only [Exit.inBlock, Exit.then, Act.put]
          rw [hl, h0, h1, h2, h3, h4, h5, h6, h7, h8, h9, h10, h11, h12, h13, h32]
          clear hl h0 h1 h2 h3 h4 h5 h6 h7 h8 h9 h10 h11 h12 h13 h32
          have i0 : (0 : Int) ≤ (i : Int) := by omega
          have i1 : (i : Int) < (e.kids.length : Int) := by have := HIL.out; omega
          have i2 : (i : Int) < 1000000000 := by have := HIL.out; have := IsD.few HK.out; omega
          go_wp2_with fail
          refine ⟨⟨i + 1, _, by go_num, HIL.out, ⟨HBN.out, HRN0.out, HRN1.out, HRN2.out⟩, HON.out⟩, ?_⟩
          simp [intOf]; omega
      · have d1 : decide ((i : Int) < (e.kids.length : Int)) = false := by simp; omega
        obtain rfl : i = e.kids.length := by have := HI.out; omega
        clear hil
        have hgr : wr.grownBy (wr.setRow (w.heap.size + 1) #[.string e.op, .string e.name, .int .i64 e.n, .int .i64 (e.at_ : Int), .slice xv e.kids.length cv]) (some (w.heap.size + 1)) := ⟨rfl, rfl, rfl, by rw [setRow_size]; exact Nat.le_refl _, fun k _ hk => setRow_other wr (w.heap.size + 1) k _ (fun e => hk (by rw [e]))⟩
        have HBZ := Lib.hid (below_own HB.out hgr (fun k hk => by injection hk with hk; omega))
        have HOZ := Lib.hid (HO.out.kept hgr (fun k hk => by injection hk with hk; omega))
        have hset := setRow_heap wr (w.heap.size + 1) _ #[.string e.op, .string e.name, .int .i64 e.n, .int .i64 (e.at_ : Int), .slice xv e.kids.length cv] _ _ HR1.out
        have HST := Lib.hid hset
        clear hgr hset
        go_wp2_with (first | (refine wpList_load_row rfl 43 (.tmp 3) rfl (w.heap.size + 1 + 1) rfl 43 #[.string e.op, .string e.name, .int .i64 e.n, .int .i64 (e.at_ : Int), .slice xv e.kids.length cv] (0, 0) _ HR2.out Try.underlying43 rfl HSE.out ?_) | (refine wpList_store_row rfl 43 (.tmp 2) (.tmp 32) rfl (w.heap.size + 1) #[.string e.op, .string e.name, .int .i64 e.n, .int .i64 (e.at_ : Int), .slice xv e.kids.length cv] rfl rfl 43 _ HR1.out HSE.out rfl (e4_one _ _ _ _ _ _ _) ?_))
        refine bodyPost_ret (v := .agg #[.string e.op, .string e.name, .int .i64 e.n, .int .i64 (e.at_ : Int), .slice xv e.kids.length cv]) (results_cell_row (p := 2) (ty := 43) rfl _ _ (w.heap.size + 1) 43 _ (0, 0) _ rfl HST.out Try.underlying43 rfl HSE.out) rfl ?_
        refine ⟨xv, cv, rfl, ?_, HBZ.out⟩
        have h := HOZ.out
        rw [List.take_length] at h
        exact (h.ends (IsD.few HK.out)).mono (fun k hk _ => by have : (w.heap.size + 1 + 1) < k := hk; show w.heap.size ≤ k; omega)
end Go.Proofs.Ytejljfoacbpliaa

namespace Go.Proofs.Ytejljfoacbpliaa
open Go Go.RowKit
theorem rangeAt_below {w W : World} {g o : Nat} {vs : List Value} (h : w.rangeAt g o vs) (hb : Below w.heap.size w W) (hg : g < w.heap.size) : W.rangeAt g o vs := fun j v hv => by
  have := h j v hv
  have e := hb.block g hg
  simp only [World.cell?] at this ⊢
  rw [e]; exact this
theorem vrD_len (v : Vr) : (vrD v).length = 5 := rfl
theorem RowsD.vr {ok : Nat → Prop} {w : World} {xs : List Value} {v : Vr} (h : RowsD ok w xs (vrD v)) : xs = vrC v := by
  match xs, h with
  | [a, b, c, d, u], ⟨h1, h2, h3, h4, h5, _⟩ =>
    unfold IsD at h1 h2 h3 h4 h5
    rw [h1, h2, h3, h4, h5]; rfl
theorem var_at {ok : Nat → Prop} {w : World} {l : List Vr} {x : Option Addr} {c : Nat} (h : IsD ok w (.slice x l.length c) (.sl l.length (vrsD l))) (i : Nat) (hi : i < l.length) : ∃ g, x = some ⟨g, 0, none⟩ ∧ g < w.heap.size ∧ w.rangeAt g (i * 5) (vrC l[i]) := by
  obtain ⟨g, e1, _, e3, e4⟩ := IsD.some_ h (by omega)
  have h5 := IsDs.nth vrD_len l i 0 hi e4
  rw [Nat.zero_add] at h5
  obtain ⟨xs, h7, h6⟩ := h5.rows
  have e := h7.vr
  subst e
  exact ⟨g, e1, e3, h6⟩
theorem run_bld {P : Program} {o : Oper} {ρ : Operand → Value} {t : TypeId} {parts : Array (Nat × Operand)} {v : Value} {W W' : World} (ho : o.op = .build t parts) (h : (Instr.build t (parts.map fun (i, x) => (i, ρ x))).run P W = .ok v W') : (execOp ρ o).run P W = .ok (.value v) W' := by
  simp only [execOp, ho]
  simp [h, Result.andThen]
theorem run_bld5 {P : Program} {o : Oper} {ρ : Operand → Value} {t : TypeId} {i j k m n : Nat} {x y z u q : Operand} {v : Value} {W W' : World} (ho : o.op = .build t #[(i, x), (j, y), (k, z), (m, u), (n, q)]) (h : (Instr.build t #[(i, ρ x), (j, ρ y), (k, ρ z), (m, ρ u), (n, ρ q)]).run P W = .ok v W') : (execOp ρ o).run P W = .ok (.value v) W' := run_bld ho (by simpa using h)
theorem run_bld3 {P : Program} {o : Oper} {ρ : Operand → Value} {t : TypeId} {i j k : Nat} {x y z : Operand} {v : Value} {W W' : World} (ho : o.op = .build t #[(i, x), (j, y), (k, z)]) (h : (Instr.build t #[(i, ρ x), (j, ρ y), (k, ρ z)]).run P W = .ok v W') : (execOp ρ o).run P W = .ok (.value v) W' := run_bld ho (by simpa using h)
theorem build_vS (a o : ByteArray) (k t : Int) (b : Bool) (W : World) : (Instr.build 126 #[(0, .string a), (1, .int .i64 k), (2, .string o), (3, .bool b), (4, .int .i64 t)]).run Try.prog W = .ok (.agg #[.string a, .int .i64 k, .string o, .bool b, .int .i64 t]) W := by kernel_rfl
theorem slice_oneV (a o : ByteArray) (k t : Int) (b : Bool) (W : World) : (Instr.buildSlice 46 1 #[(0, .agg #[.string a, .int .i64 k, .string o, .bool b, .int .i64 t])]).run Try.prog W = .ok (.slice (some ⟨W.heap.size, 0, none⟩) 1 1) (W.alloc (.cells #[.string a, .int .i64 k, .string o, .bool b, .int .i64 t] 126)) := by kernel_rfl
theorem fa_v4_0 (g o : Nat) (W : World) : (Instr.fieldAt 62 (.pointer (some ⟨g, o, none⟩)) 0).run Try.prog W = .ok (.pointer (some ⟨g, o + 0, none⟩)) W := by kernel_rfl
theorem fa_v4_1 (g o : Nat) (W : World) : (Instr.fieldAt 62 (.pointer (some ⟨g, o, none⟩)) 1).run Try.prog W = .ok (.pointer (some ⟨g, o + 1, none⟩)) W := by kernel_rfl
theorem fa_v4_2 (g o : Nat) (W : World) : (Instr.fieldAt 62 (.pointer (some ⟨g, o, none⟩)) 2).run Try.prog W = .ok (.pointer (some ⟨g, o + 2, none⟩)) W := by kernel_rfl
theorem fa_v4_3 (g o : Nat) (W : World) : (Instr.fieldAt 62 (.pointer (some ⟨g, o, none⟩)) 3).run Try.prog W = .ok (.pointer (some ⟨g, o + 3, none⟩)) W := by kernel_rfl
theorem fa_v4_4 (g o : Nat) (W : World) : (Instr.fieldAt 62 (.pointer (some ⟨g, o, none⟩)) 4).run Try.prog W = .ok (.pointer (some ⟨g, o + 4, none⟩)) W := by kernel_rfl
theorem info_vS : ∃ i, Try.prog.info? 126 = some i ∧ (∃ z, i.zero = some z ∧ z.cells.size = 5) ∧ i.size = 5 ∧ i.bytes = 56 := by
  have h : (Try.prog.info? 126).map (fun i => (i.zero.map (·.cells.size), i.size, i.bytes)) = some (some 5, 5, 56) := by kernel_rfl
  cases hi : Try.prog.info? 126 with
  | none => rw [hi] at h; simp at h
  | some i =>
    rw [hi] at h
    simp only [Option.map_some, Option.some.injEq, Prod.mk.injEq] at h
    obtain ⟨hz, hs, hb⟩ := h
    cases hzz : i.zero with
    | none => rw [hzz] at hz; simp at hz
    | some z => exact ⟨i, rfl, ⟨z, hzz, by rw [hzz] at hz; simpa using hz⟩, hs, hb⟩
theorem vrsD_take {l : List Vr} {i : Nat} (h : i < l.length) : vrsD (l.take i) ++ vrD l[i] = vrsD (l.take (i + 1)) := by
  rw [List.take_add_one, List.getElem?_eq_getElem h, vrsD_app]
  show _ = _ ++ vrsD [l[i]]
  rw [vrsD_one_]
def GivesBV (l : List Vr) (w : World) (en : Ending) (w' : World) : Prop := ∃ x c, en = .returned (.slice x l.length c) ∧ IsD (w.heap.size ≤ ·) w' (.slice x l.length c) (.sl l.length (vrsD l)) ∧ Below w.heap.size w w'
end Go.Proofs.Ytejljfoacbpliaa

namespace Go.Proofs.Ytejljfoacbpliaa
open Go Go.RowKit
set_option maxHeartbeats 4000000 in
set_option maxRecDepth 100000 in
theorem backVars_any (l : List Vr) (w : World) (hw : 0 < w.heap.size) (ok : Nat → Prop) (x : Option Addr) (c : Nat) (hk : IsD ok w (.slice x l.length c) (.sl l.length (vrsD l))) : Calls Try.prog 45 #[.slice x l.length c] w (GivesBV l w) := by
  have HK := Lib.hid hk
  have HW := Lib.hid hw
  have HIS := Lib.hid info_vS
  clear hk hw
  go_enter Try.func45, Try.ntmps45
  go_wp2_with fail
  go_loopw [3, 4] (fun v3 v4 wr => ∃ (V : Value) (i : Nat), V = v3 ∧ v4 = .int .i64 (i : Int) ∧ i ≤ l.length ∧ Below w.heap.size w wr ∧ OwnD 126 5 wr (w.heap.size - 1) V i (vrsD (l.take i)))
    (fun _ v4 _ => l.length - (intOf v4).toNat)
  case atStart => exact ⟨_, 0, rfl, rfl, Nat.zero_le _, Below.refl _ _, by rw [List.take_zero, vrsD_nil]; exact OwnD.nil _ _ _ _⟩
  case round =>
    obtain ⟨V, i, rfl, rfl, hi, hb, hO⟩ := hrel
    obtain ⟨xv, cv, rfl, _, _⟩ := hO.slice
    have HB := Lib.hid hb
    have HO := Lib.hid hO
    have HI := Lib.hid hi
    clear hb hO hi
    by_cases hil : i < l.length
    · have d1 : decide ((i : Int) < (l.length : Int)) = true := by simp; omega
      have HIL := Lib.hid hil
      clear hil
      obtain ⟨g, rfl, hg, hrg⟩ := var_at HK.out i HIL.out
      obtain ⟨vv, hvv⟩ : ∃ vv, vv = l[i]'HIL.out := ⟨_, rfl⟩
      rw [← hvv] at hrg
      have HVV := Lib.hid hvv
      have HG := Lib.hid (show g < wr.heap.size from Nat.lt_of_lt_of_le hg HB.out.size)
      have HRG := Lib.hid (rangeAt_below hrg HB.out hg)
      have HBS := Lib.hid HB.out.size
      clear hrg hg hvv
      go_wp2_with fail
      refine wp_region_steps_then2 (words [wIs (.slice xv i cv), wIs (.slice (some ⟨g, 0, none⟩) l.length c), wIs (.int .i64 (i : Int)), wIs (.pointer (some ⟨g, i * 5, none⟩)), wIs (.pointer (some ⟨g, i * 5 + 0, none⟩)), wIs (.string vv.name), wIs (.slice (some ⟨g, 0, none⟩) l.length c), wIs (.int .i64 (i : Int)), wIs (.pointer (some ⟨g, i * 5, none⟩)), wIs (.pointer (some ⟨g, i * 5 + 1, none⟩)), wIs (.int .i64 (vv.kind : Int)), wIs (.slice (some ⟨g, 0, none⟩) l.length c), wIs (.int .i64 (i : Int)), wIs (.pointer (some ⟨g, i * 5, none⟩)), wIs (.pointer (some ⟨g, i * 5 + 2, none⟩)), wIs (.string vv.on), wIs (.slice (some ⟨g, 0, none⟩) l.length c), wIs (.int .i64 (i : Int)), wIs (.pointer (some ⟨g, i * 5, none⟩)), wIs (.pointer (some ⟨g, i * 5 + 3, none⟩)), wIs (.bool vv.not_), wIs (.slice (some ⟨g, 0, none⟩) l.length c), wIs (.int .i64 (i : Int)), wIs (.pointer (some ⟨g, i * 5, none⟩)), wIs (.pointer (some ⟨g, i * 5 + 4, none⟩)), wIs (.int .i64 (vv.at_ : Int)), wIs (.agg #[.string vv.name, .int .i64 (vv.kind : Int), .string vv.on, .bool vv.not_, .int .i64 (vv.at_ : Int)]), wRow wr.heap.size (vrD vv)]) wr.heap.size wr (by kernel_rfl) (Below.refl _ _) (Nat.le_refl _) (words_stable ?stab) rfl rfl (by kernel_rfl) (by kernel_rfl) 28 _ _ rfl rfl rfl ?steps ?last
      case stab =>
        intro f hf
        simp only [List.mem_cons, List.not_mem_nil, or_false] at hf
        rcases hf with rfl | rfl | rfl | rfl | rfl | rfl | rfl | rfl | rfl | rfl | rfl | rfl | rfl | rfl | rfl | rfl | rfl | rfl | rfl | rfl | rfl | rfl | rfl | rfl | rfl | rfl | rfl | rfl <;> first | exact stable_is _ | exact stable_row _ _
      case steps =>
          refine Steps.cons (step_value rfl fun xa W hp => ⟨wanted_none rfl, _, _, run_move (.inl rfl), hp.old 3 rfl, Below.refl _ _⟩) ?_
          refine Steps.cons (step_value rfl fun xa W hp => ⟨wanted_none rfl, _, _, run_move (.inl rfl), hp.old 0 rfl, Below.refl _ _⟩) ?_
          refine Steps.cons (step_value rfl fun xa W hp => ⟨wanted_none rfl, _, _, run_move (.inl rfl), hp.old 4 rfl, Below.refl _ _⟩) ?_
          refine Steps.cons (step_value rfl fun xa W hp => ?_) ?_
          · have f0 : xa.tmps.getD 12 undef = .slice (some ⟨g, 0, none⟩) l.length c := (hp.on_ 1 rfl rfl rfl).2
            have f1 : xa.tmps.getD 13 undef = .int .i64 (i : Int) := (hp.on_ 2 rfl rfl rfl).2
            exact ⟨wanted_none rfl, _, _, run_idxG Try.underlying35 size_v4 rfl f0 f1 HIL.out, rfl, Below.refl _ _⟩
          refine Steps.cons (step_value rfl fun xa W hp => ?_) ?_
          · have f0 : xa.tmps.getD 14 undef = .pointer (some ⟨g, i * 5, none⟩) := (hp.on_ 3 rfl rfl rfl).2
            exact ⟨wanted_none rfl, _, _, run_fa4 rfl f0 (fa_v4_0 _ _ W), rfl, Below.refl _ _⟩
          refine Steps.cons (step_value rfl fun xa W hp => ?_) ?_
          · have f0 : xa.tmps.getD 15 undef = .pointer (some ⟨g, i * 5 + 0, none⟩) := (hp.on_ 4 rfl rfl rfl).2
            exact ⟨wanted_none rfl, _, _, run_ldv rfl f0 (rangeAt_below HRG.out hp.below HG.out 0 _ rfl) Try.underlying9 rfl (by kernel_rfl), rfl, Below.refl _ _⟩
          refine Steps.cons (step_value rfl fun xa W hp => ⟨wanted_none rfl, _, _, run_move (.inl rfl), hp.old 0 rfl, Below.refl _ _⟩) ?_
          refine Steps.cons (step_value rfl fun xa W hp => ⟨wanted_none rfl, _, _, run_move (.inl rfl), hp.old 4 rfl, Below.refl _ _⟩) ?_
          refine Steps.cons (step_value rfl fun xa W hp => ?_) ?_
          · have f0 : xa.tmps.getD 17 undef = .slice (some ⟨g, 0, none⟩) l.length c := (hp.on_ 6 rfl rfl rfl).2
            have f1 : xa.tmps.getD 18 undef = .int .i64 (i : Int) := (hp.on_ 7 rfl rfl rfl).2
            exact ⟨wanted_none rfl, _, _, run_idxG Try.underlying35 size_v4 rfl f0 f1 HIL.out, rfl, Below.refl _ _⟩
          refine Steps.cons (step_value rfl fun xa W hp => ?_) ?_
          · have f0 : xa.tmps.getD 19 undef = .pointer (some ⟨g, i * 5, none⟩) := (hp.on_ 8 rfl rfl rfl).2
            exact ⟨wanted_none rfl, _, _, run_fa4 rfl f0 (fa_v4_1 _ _ W), rfl, Below.refl _ _⟩
          refine Steps.cons (step_value rfl fun xa W hp => ?_) ?_
          · have f0 : xa.tmps.getD 20 undef = .pointer (some ⟨g, i * 5 + 1, none⟩) := (hp.on_ 9 rfl rfl rfl).2
            exact ⟨wanted_none rfl, _, _, run_ldv rfl f0 (rangeAt_below HRG.out hp.below HG.out 1 _ rfl) Try.underlying3 rfl (by kernel_rfl), rfl, Below.refl _ _⟩
          refine Steps.cons (step_value rfl fun xa W hp => ⟨wanted_none rfl, _, _, run_move (.inl rfl), hp.old 0 rfl, Below.refl _ _⟩) ?_
          refine Steps.cons (step_value rfl fun xa W hp => ⟨wanted_none rfl, _, _, run_move (.inl rfl), hp.old 4 rfl, Below.refl _ _⟩) ?_
          refine Steps.cons (step_value rfl fun xa W hp => ?_) ?_
          · have f0 : xa.tmps.getD 22 undef = .slice (some ⟨g, 0, none⟩) l.length c := (hp.on_ 11 rfl rfl rfl).2
            have f1 : xa.tmps.getD 23 undef = .int .i64 (i : Int) := (hp.on_ 12 rfl rfl rfl).2
            exact ⟨wanted_none rfl, _, _, run_idxG Try.underlying35 size_v4 rfl f0 f1 HIL.out, rfl, Below.refl _ _⟩
          refine Steps.cons (step_value rfl fun xa W hp => ?_) ?_
          · have f0 : xa.tmps.getD 24 undef = .pointer (some ⟨g, i * 5, none⟩) := (hp.on_ 13 rfl rfl rfl).2
            exact ⟨wanted_none rfl, _, _, run_fa4 rfl f0 (fa_v4_2 _ _ W), rfl, Below.refl _ _⟩
          refine Steps.cons (step_value rfl fun xa W hp => ?_) ?_
          · have f0 : xa.tmps.getD 25 undef = .pointer (some ⟨g, i * 5 + 2, none⟩) := (hp.on_ 14 rfl rfl rfl).2
            exact ⟨wanted_none rfl, _, _, run_ldv rfl f0 (rangeAt_below HRG.out hp.below HG.out 2 _ rfl) Try.underlying9 rfl (by kernel_rfl), rfl, Below.refl _ _⟩
          refine Steps.cons (step_value rfl fun xa W hp => ⟨wanted_none rfl, _, _, run_move (.inl rfl), hp.old 0 rfl, Below.refl _ _⟩) ?_
          refine Steps.cons (step_value rfl fun xa W hp => ⟨wanted_none rfl, _, _, run_move (.inl rfl), hp.old 4 rfl, Below.refl _ _⟩) ?_
          refine Steps.cons (step_value rfl fun xa W hp => ?_) ?_
          · have f0 : xa.tmps.getD 27 undef = .slice (some ⟨g, 0, none⟩) l.length c := (hp.on_ 16 rfl rfl rfl).2
            have f1 : xa.tmps.getD 28 undef = .int .i64 (i : Int) := (hp.on_ 17 rfl rfl rfl).2
            exact ⟨wanted_none rfl, _, _, run_idxG Try.underlying35 size_v4 rfl f0 f1 HIL.out, rfl, Below.refl _ _⟩
          refine Steps.cons (step_value rfl fun xa W hp => ?_) ?_
          · have f0 : xa.tmps.getD 29 undef = .pointer (some ⟨g, i * 5, none⟩) := (hp.on_ 18 rfl rfl rfl).2
            exact ⟨wanted_none rfl, _, _, run_fa4 rfl f0 (fa_v4_3 _ _ W), rfl, Below.refl _ _⟩
          refine Steps.cons (step_value rfl fun xa W hp => ?_) ?_
          · have f0 : xa.tmps.getD 30 undef = .pointer (some ⟨g, i * 5 + 3, none⟩) := (hp.on_ 19 rfl rfl rfl).2
            exact ⟨wanted_none rfl, _, _, run_ldv rfl f0 (rangeAt_below HRG.out hp.below HG.out 3 _ rfl) Try.underlying4 rfl (by kernel_rfl), rfl, Below.refl _ _⟩
          refine Steps.cons (step_value rfl fun xa W hp => ⟨wanted_none rfl, _, _, run_move (.inl rfl), hp.old 0 rfl, Below.refl _ _⟩) ?_
          refine Steps.cons (step_value rfl fun xa W hp => ⟨wanted_none rfl, _, _, run_move (.inl rfl), hp.old 4 rfl, Below.refl _ _⟩) ?_
          refine Steps.cons (step_value rfl fun xa W hp => ?_) ?_
          · have f0 : xa.tmps.getD 32 undef = .slice (some ⟨g, 0, none⟩) l.length c := (hp.on_ 21 rfl rfl rfl).2
            have f1 : xa.tmps.getD 33 undef = .int .i64 (i : Int) := (hp.on_ 22 rfl rfl rfl).2
            exact ⟨wanted_none rfl, _, _, run_idxG Try.underlying35 size_v4 rfl f0 f1 HIL.out, rfl, Below.refl _ _⟩
          refine Steps.cons (step_value rfl fun xa W hp => ?_) ?_
          · have f0 : xa.tmps.getD 34 undef = .pointer (some ⟨g, i * 5, none⟩) := (hp.on_ 23 rfl rfl rfl).2
            exact ⟨wanted_none rfl, _, _, run_fa4 rfl f0 (fa_v4_4 _ _ W), rfl, Below.refl _ _⟩
          refine Steps.cons (step_value rfl fun xa W hp => ?_) ?_
          · have f0 : xa.tmps.getD 35 undef = .pointer (some ⟨g, i * 5 + 4, none⟩) := (hp.on_ 24 rfl rfl rfl).2
            exact ⟨wanted_none rfl, _, _, run_ldv rfl f0 (rangeAt_below HRG.out hp.below HG.out 4 _ rfl) Try.underlying3 rfl (by kernel_rfl), rfl, Below.refl _ _⟩
          refine Steps.cons (step_value rfl fun xa W hp => ?_) ?_
          · have f0 : xa.tmps.getD 16 undef = .string vv.name := (hp.on_ 5 rfl rfl rfl).2
            have f1 : xa.tmps.getD 21 undef = .int .i64 (vv.kind : Int) := (hp.on_ 10 rfl rfl rfl).2
            have f2 : xa.tmps.getD 26 undef = .string vv.on := (hp.on_ 15 rfl rfl rfl).2
            have f3 : xa.tmps.getD 31 undef = .bool vv.not_ := (hp.on_ 20 rfl rfl rfl).2
            have f4 : xa.tmps.getD 36 undef = .int .i64 (vv.at_ : Int) := (hp.on_ 25 rfl rfl rfl).2
            refine ⟨wanted_none rfl, _, _, run_bld5 rfl ?_, rfl, Below.refl _ _⟩
            show (Instr.build _ #[(0, xa.tmps.getD 16 undef), (1, xa.tmps.getD 21 undef), (2, xa.tmps.getD 26 undef), (3, xa.tmps.getD 31 undef), (4, xa.tmps.getD 36 undef)]).run _ W = _
            rw [f0, f1, f2, f3, f4]
            exact build_vS _ _ _ _ _ W
          refine Steps.cons (step_value rfl fun xa W hp => ?_) ?_
          · have f0 : xa.tmps.getD 37 undef = .agg #[.string vv.name, .int .i64 (vv.kind : Int), .string vv.on, .bool vv.not_, .int .i64 (vv.at_ : Int)] := (hp.on_ 26 rfl rfl rfl).2
            refine ⟨wanted_none rfl, _, _, run_bsl1 rfl (by
              show (Instr.buildSlice _ 1 #[(0, xa.tmps.getD 37 undef)]).run _ W = _
              rw [f0]
              exact slice_oneV _ _ _ _ _ W), ⟨W.heap.size, rfl, ?_⟩, (Below.refl _ _).alloc (Nat.le_refl _) _⟩
            exact IsD.made 126 _ W.heap.size rfl 1 (by decide) (by decide) (vrD vv) hp.below.size (vrC_rows _ _ vv)
          exact Steps.nil
      case last =>
          intro xa W hI
          have f11 : xa.tmps.getD 11 undef = .slice xv i cv := hI.new 0 _ 11 rfl rfl rfl
          obtain ⟨g', f38, h38⟩ : wRow wr.heap.size (vrD vv) (xa.tmps.getD 38 undef) W := hI.new 27 _ 38 rfl rfl rfl
          obtain ⟨i5, hi5, ⟨z5, hz5, hzs5⟩, hs5, hb5⟩ := HIS.out
          have hOW := HO.out.below hI.below
          have hbs := hI.below.size
          refine wpOp_appD rfl (wanted_none rfl) (.tmp 11) (.tmp 38) 46 rfl i5 z5 56 Try.underlying46 hi5 hz5 hs5 hb5 hzs5 (by decide) (by decide) f11 hOW (by have := HBS.out; have := HW.out; omega) (m := 1) f38 (vrD vv) (by rw [vrD_len]) (by decide) h38 (vrD_one vv) (fun k hk hl => ⟨by have h1 : wr.heap.size ≤ k := hk; have h2 := HBS.out; have h3 := HW.out; omega, fun e' => by have := (HO.out.gt k e'.symm).2; have : wr.heap.size ≤ k := hk; omega⟩) (by have := HIL.out; have := IsD.few HK.out; omega) (fun v' w' j1 j2 => ?_)
          refine wpOp_value rfl (wanted_none rfl) (run_move (.inr rfl)) ?_
          rw [HVV.out, vrsD_take HIL.out] at j1
          have HBN := Lib.hid (below_own (HB.out.trans (hI.below.mono HB.out.size)) j2 (fun k hk => by have := (HO.out.gt k hk).1; omega))
          have HON := Lib.hid j1
          have h0 : xa.tmps.getD 0 undef = .slice (some ⟨g, 0, none⟩) l.length c := hI.old 0 (by simp)
          have h1 : xa.tmps.getD 1 undef = undef := hI.old 1 (by simp)
          have h2 : xa.tmps.getD 2 undef = .slice none 0 0 := hI.old 2 (by simp)
          have h4 : xa.tmps.getD 4 undef = .int .i64 (i : Int) := hI.old 4 (by simp)
          have h40 : xa.tmps.getD 40 undef = undef := hI.old 40 (by simp)
          have hsz : xa.tmps.size = 41 := hI.tmps
          have hdf : xa.defers = [] := hI.defers
          obtain ⟨f, hf, hx⟩ := act_eta hsz hdf
          rw [hf] at h0 h1 h2 h4 h40
          clear hI f11 f38 h38 hOW j1 j2 hsz hdf
          rw [show ((xa.put (some 39) v').eval (.tmp 39)) = v' from put_same (by rw [hx]; simp)]
          clear hf
          subst hx
          have hl : ((List.range 41).map f).toArray = #[f 0, f 1, f 2, f 3, f 4, f 5, f 6, f 7, f 8, f 9, f 10, f 11, f 12, f 13, f 14, f 15, f 16, f 17, f 18, f 19, f 20, f 21, f 22, f 23, f 24, f 25, f 26, f 27, f 28, f 29, f 30, f 31, f 32, f 33, f 34, f 35, f 36, f 37, f 38, f 39, f 40] := rfl
          simp only [Exit.inBlock, Exit.then, Act.put]
          rw [hl, h0, h1, h2, h4, h40]
          clear hl h0 h1 h2 h4 h40
          have i0 : (0 : Int) ≤ (i : Int) := by omega
          have i1 : (i : Int) < (l.length : Int) := by have := HIL.out; omega
          have i2 : (i : Int) < 1000000000 := by have := HIL.out; have := IsD.few HK.out; omega
          go_wp2_with fail
          refine ⟨⟨_, i + 1, rfl, by go_num, HIL.out, HBN.out, HON.out⟩, ?_⟩
          simp [intOf]; omega
    · have d1 : decide ((i : Int) < (l.length : Int)) = false := by simp; omega
      obtain rfl : i = l.length := by have := HI.out; omega
      clear hil
      go_wp2_with fail
      go_ret
      have h := HO.out
      rw [List.take_length] at h
      exact ⟨xv, cv, rfl, (h.ends (IsD.few HK.out)).mono (fun k hk _ => by have : (w.heap.size - 1) < k := hk; show w.heap.size ≤ k; omega), HB.out⟩
end Go.Proofs.Ytejljfoacbpliaa

namespace Go.Proofs.Ytejljfoacbpliaa
open Go Go.RowKit
theorem qeD_len' (q : Qe) : (qeD q).length = 7 := qeD_len q
theorem ndD_len (n : Nd) : (ndD n).length = 6 := rfl
def ndC (n : Nd) (xi xo xl xe : Option Addr) (ci co cl ce : Nat) : List Value := [.string n.name, .slice xi n.ins.length ci, .slice xo n.outs.length co, .slice xl n.locs.length cl, .slice xe n.eqs.length ce, .int .i64 (n.at_ : Int)]
theorem RowsD.nd {ok : Nat → Prop} {w : World} {xs : List Value} {n : Nd} (h : RowsD ok w xs (ndD n)) : ∃ xi ci xo co xl cl xe ce, xs = ndC n xi xo xl xe ci co cl ce ∧ IsD ok w (.slice xi n.ins.length ci) (.sl n.ins.length (vrsD n.ins)) ∧ IsD ok w (.slice xo n.outs.length co) (.sl n.outs.length (vrsD n.outs)) ∧ IsD ok w (.slice xl n.locs.length cl) (.sl n.locs.length (vrsD n.locs)) ∧ IsD ok w (.slice xe n.eqs.length ce) (.sl n.eqs.length (qesD n.eqs)) := by
  match xs, h with
  | [a, b, c, d, e, u], ⟨h1, h2, h3, h4, h5, h6, _⟩ =>
    unfold IsD at h1 h6
    obtain ⟨xi, ci, rfl, _, _⟩ := h2.slice
    obtain ⟨xo, co, rfl, _, _⟩ := h3.slice
    obtain ⟨xl, cl, rfl, _, _⟩ := h4.slice
    obtain ⟨xe, ce, rfl, _, _⟩ := h5.slice
    exact ⟨xi, ci, xo, co, xl, cl, xe, ce, by rw [h1, h6]; rfl, h2, h3, h4, h5⟩
theorem nd_at {ok : Nat → Prop} {w : World} {l : List Nd} {x : Option Addr} {c : Nat} (h : IsD ok w (.slice x l.length c) (.sl l.length (ndsD l))) (i : Nat) (hi : i < l.length) : ∃ g, x = some ⟨g, 0, none⟩ ∧ g < w.heap.size ∧ ∃ xi ci xo co xl cl xe ce, w.rangeAt g (i * 6) (ndC l[i] xi xo xl xe ci co cl ce) ∧ IsD ok w (.slice xi l[i].ins.length ci) (.sl l[i].ins.length (vrsD l[i].ins)) ∧ IsD ok w (.slice xo l[i].outs.length co) (.sl l[i].outs.length (vrsD l[i].outs)) ∧ IsD ok w (.slice xl l[i].locs.length cl) (.sl l[i].locs.length (vrsD l[i].locs)) ∧ IsD ok w (.slice xe l[i].eqs.length ce) (.sl l[i].eqs.length (qesD l[i].eqs)) := by
  obtain ⟨g, e1, _, e3, e4⟩ := IsD.some_ h (by omega)
  have h5 := IsDs.nth ndD_len l i 0 hi e4
  rw [Nat.zero_add] at h5
  obtain ⟨xs, h7, h6⟩ := h5.rows
  obtain ⟨xi, ci, xo, co, xl, cl, xe, ce, rfl, k⟩ := h7.nd
  exact ⟨g, e1, e3, xi, ci, xo, co, xl, cl, xe, ce, h6, k⟩
theorem RowsD.qe {ok : Nat → Prop} {w : World} {xs : List Value} {q : Qe} (h : RowsD ok w xs (qeD q)) : ∃ x c, xs = qeC q.name q.e x c (q.at_ : Int) ∧ KidsD ok w q.e x c := by
  unfold qeD at h
  rw [exD_eq] at h
  match xs, h with
  | [n, a, b, c, d, e, u], ⟨h0, h1, h2, h3, h4, h5, h6, _⟩ =>
    unfold IsD at h0 h1 h2 h3 h4 h6
    obtain ⟨x, cc, rfl, _, _⟩ := h5.slice
    exact ⟨x, cc, by rw [h0, h1, h2, h3, h4, h6]; rfl, h5⟩
theorem qe_at {ok : Nat → Prop} {w : World} {l : List Qe} {x : Option Addr} {c : Nat} (h : IsD ok w (.slice x l.length c) (.sl l.length (qesD l))) (i : Nat) (hi : i < l.length) : ∃ g, x = some ⟨g, 0, none⟩ ∧ g < w.heap.size ∧ ∃ xe ce, w.rangeAt g (i * 7) (qeC l[i].name l[i].e xe ce (l[i].at_ : Int)) ∧ KidsD ok w l[i].e xe ce := by
  obtain ⟨g, e1, _, e3, e4⟩ := IsD.some_ h (by omega)
  have h5 := IsDs.nth qeD_len' l i 0 hi e4
  rw [Nat.zero_add] at h5
  obtain ⟨xs, h7, h6⟩ := h5.rows
  obtain ⟨xe, ce, rfl, k⟩ := h7.qe
  exact ⟨g, e1, e3, xe, ce, h6, k⟩
theorem qe_mid {w : World} {g o : Nat} {nm : ByteArray} {e : Ex} {x : Option Addr} {c : Nat} {a : Int} (h : w.rangeAt g o (qeC nm e x c a)) : w.rangeAt g (o + 1) (exC e x c) := fun j v hv => by
  have hj : j < 5 := (List.getElem?_eq_some_iff.1 hv).1
  have := h (j + 1) v (by
    unfold qeC
    rw [List.getElem?_cons_succ, List.getElem?_append_left (by exact hj)]
    exact hv)
  rw [show o + 1 + j = o + (j + 1) by omega]
  exact this
theorem fa_q4_0 (g o : Nat) (W : World) : (Instr.fieldAt 55 (.pointer (some ⟨g, o, none⟩)) 0).run Try.prog W = .ok (.pointer (some ⟨g, o + 0, none⟩)) W := by kernel_rfl
theorem fa_q4_1 (g o : Nat) (W : World) : (Instr.fieldAt 55 (.pointer (some ⟨g, o, none⟩)) 1).run Try.prog W = .ok (.pointer (some ⟨g, o + 1, none⟩)) W := by kernel_rfl
theorem fa_q4_2 (g o : Nat) (W : World) : (Instr.fieldAt 55 (.pointer (some ⟨g, o, none⟩)) 2).run Try.prog W = .ok (.pointer (some ⟨g, o + 6, none⟩)) W := by kernel_rfl
theorem fa_nS4 (g : Nat) (W : World) : (Instr.fieldAt 49 (.pointer (some ⟨g, 0, none⟩)) 4).run Try.prog W = .ok (.pointer (some ⟨g, 4, none⟩)) W := by kernel_rfl
theorem build_nS (a : ByteArray) (x1 x2 x3 : Option Addr) (l1 c1 l2 c2 l3 c3 : Nat) (t : Int) (W : World) : (Instr.build 49 #[(0, .string a), (1, .slice x1 l1 c1), (2, .slice x2 l2 c2), (3, .slice x3 l3 c3), (5, .int .i64 t)]).run Try.prog W = .ok (.agg #[.string a, .slice x1 l1 c1, .slice x2 l2 c2, .slice x3 l3 c3, .slice none 0 0, .int .i64 t]) W := by kernel_rfl
theorem build_qS (a o m : ByteArray) (n b : Int) (x : Option Addr) (l c : Nat) (t : Int) (W : World) : (Instr.build 45 #[(0, .string a), (1, .agg #[.string o, .string m, .int .i64 n, .int .i64 b, .slice x l c]), (2, .int .i64 t)]).run Try.prog W = .ok (.agg #[.string a, .string o, .string m, .int .i64 n, .int .i64 b, .slice x l c, .int .i64 t]) W := by kernel_rfl
theorem slice_oneQ (a o m : ByteArray) (n b : Int) (x : Option Addr) (l c : Nat) (t : Int) (W : World) : (Instr.buildSlice 47 1 #[(0, .agg #[.string a, .string o, .string m, .int .i64 n, .int .i64 b, .slice x l c, .int .i64 t])]).run Try.prog W = .ok (.slice (some ⟨W.heap.size, 0, none⟩) 1 1) (W.alloc (.cells #[.string a, .string o, .string m, .int .i64 n, .int .i64 b, .slice x l c, .int .i64 t] 45)) := by kernel_rfl
theorem size_nS : (Try.prog.info? 49).map (·.size) = some 6 := by kernel_rfl
theorem size_qsl : (Try.prog.info? 47).map (·.size) = some 1 := by kernel_rfl
theorem alloc_nS {o : Oper} {ρ : Operand → Value} {W : World} (ho : o.op = .alloc 49) : (execOp ρ o).run Try.prog W = .ok (.value (.pointer (some ⟨W.heap.size, 0, none⟩))) (W.alloc (.cells #[.string ⟨#[]⟩, .slice none 0 0, .slice none 0 0, .slice none 0 0, .slice none 0 0, .int .i64 0] 49)) := by
  unfold execOp
  rw [ho]
  kernel_rfl
theorem fa_n4_0 (g o : Nat) (W : World) : (Instr.fieldAt 38 (.pointer (some ⟨g, o, none⟩)) 0).run Try.prog W = .ok (.pointer (some ⟨g, o + 0, none⟩)) W := by kernel_rfl
theorem fa_n4_1 (g o : Nat) (W : World) : (Instr.fieldAt 38 (.pointer (some ⟨g, o, none⟩)) 1).run Try.prog W = .ok (.pointer (some ⟨g, o + 1, none⟩)) W := by kernel_rfl
theorem fa_n4_2 (g o : Nat) (W : World) : (Instr.fieldAt 38 (.pointer (some ⟨g, o, none⟩)) 2).run Try.prog W = .ok (.pointer (some ⟨g, o + 2, none⟩)) W := by kernel_rfl
theorem fa_n4_3 (g o : Nat) (W : World) : (Instr.fieldAt 38 (.pointer (some ⟨g, o, none⟩)) 3).run Try.prog W = .ok (.pointer (some ⟨g, o + 3, none⟩)) W := by kernel_rfl
theorem fa_n4_4 (g o : Nat) (W : World) : (Instr.fieldAt 38 (.pointer (some ⟨g, o, none⟩)) 4).run Try.prog W = .ok (.pointer (some ⟨g, o + 4, none⟩)) W := by kernel_rfl
theorem fa_n4_5 (g o : Nat) (W : World) : (Instr.fieldAt 38 (.pointer (some ⟨g, o, none⟩)) 5).run Try.prog W = .ok (.pointer (some ⟨g, o + 5, none⟩)) W := by kernel_rfl
theorem info_nS : ∃ i, Try.prog.info? 49 = some i ∧ (∃ z, i.zero = some z ∧ z.cells.size = 6) ∧ i.size = 6 ∧ i.bytes = 120 := by
  have h : (Try.prog.info? 49).map (fun i => (i.zero.map (·.cells.size), i.size, i.bytes)) = some (some 6, 6, 120) := by kernel_rfl
  cases hi : Try.prog.info? 49 with
  | none => rw [hi] at h; simp at h
  | some i =>
    rw [hi] at h
    simp only [Option.map_some, Option.some.injEq, Prod.mk.injEq] at h
    obtain ⟨hz, hs, hb⟩ := h
    cases hzz : i.zero with
    | none => rw [hzz] at hz; simp at hz
    | some z => exact ⟨i, rfl, ⟨z, hzz, by rw [hzz] at hz; simpa using hz⟩, hs, hb⟩
theorem info_qS : ∃ i, Try.prog.info? 45 = some i ∧ (∃ z, i.zero = some z ∧ z.cells.size = 7) ∧ i.size = 7 ∧ i.bytes = 96 := by
  have h : (Try.prog.info? 45).map (fun i => (i.zero.map (·.cells.size), i.size, i.bytes)) = some (some 7, 7, 96) := by kernel_rfl
  cases hi : Try.prog.info? 45 with
  | none => rw [hi] at h; simp at h
  | some i =>
    rw [hi] at h
    simp only [Option.map_some, Option.some.injEq, Prod.mk.injEq] at h
    obtain ⟨hz, hs, hb⟩ := h
    cases hzz : i.zero with
    | none => rw [hzz] at hz; simp at hz
    | some z => exact ⟨i, rfl, ⟨z, hzz, by rw [hzz] at hz; simpa using hz⟩, hs, hb⟩
theorem qesD_take {l : List Qe} {i : Nat} (h : i < l.length) : qesD (l.take i) ++ qeD l[i] = qesD (l.take (i + 1)) := by
  rw [List.take_add_one, List.getElem?_eq_getElem h, qesD_app]
  show _ = _ ++ qesD [l[i]]
  rw [qesD_one_]
theorem ndsD_take {l : List Nd} {i : Nat} (h : i < l.length) : ndsD (l.take i) ++ ndD l[i] = ndsD (l.take (i + 1)) := by
  rw [List.take_add_one, List.getElem?_eq_getElem h, ndsD_app]
  show _ = _ ++ ndsD [l[i]]
  rw [ndsD_one_]
theorem ndD_one (n : Nd) : ∀ d ∈ ndD n, d.one := fun d hd => ndsD_ones [n] d (by rw [ndsD_one_]; exact hd)
def wVars (B : Nat) (l : List Vr) (v : Value) (W : World) : Prop := ∃ x c, v = .slice x l.length c ∧ IsD (B ≤ ·) W (.slice x l.length c) (.sl l.length (vrsD l))
theorem stable_vars (B : Nat) (l : List Vr) : Stable (wVars B l) := fun _ _ _ ⟨x, c, h1, h2⟩ hb => ⟨x, c, h1, IsD.below hb h2⟩
def wNode (B : Nat) (n : Nd) (v : Value) (W : World) : Prop := ∃ xi ci xo co xl cl, v = .agg #[.string n.name, .slice xi n.ins.length ci, .slice xo n.outs.length co, .slice xl n.locs.length cl, .slice none 0 0, .int .i64 (n.at_ : Int)]
  ∧ IsD (B ≤ ·) W (.slice xi n.ins.length ci) (.sl n.ins.length (vrsD n.ins)) ∧ IsD (B ≤ ·) W (.slice xo n.outs.length co) (.sl n.outs.length (vrsD n.outs)) ∧ IsD (B ≤ ·) W (.slice xl n.locs.length cl) (.sl n.locs.length (vrsD n.locs))
theorem stable_node (B : Nat) (n : Nd) : Stable (wNode B n) := fun _ _ _ ⟨xi, ci, xo, co, xl, cl, h1, h2, h3, h4⟩ hb => ⟨xi, ci, xo, co, xl, cl, h1, IsD.below hb h2, IsD.below hb h3, IsD.below hb h4⟩
def wNew (B : Nat) (v : Value) (W : World) : Prop := ∃ b, v = .pointer (some ⟨b, 0, none⟩) ∧ B ≤ b ∧ W.heap[b]? = some (.cells #[.string ⟨#[]⟩, .slice none 0 0, .slice none 0 0, .slice none 0 0, .slice none 0 0, .int .i64 0] 49 (0, 0))
theorem stable_new (B : Nat) : Stable (wNew B) := fun _ _ _ ⟨b, h1, h2, h3⟩ hb => ⟨b, h1, h2, (hb.block b (Array.getElem?_eq_some_iff.1 h3).1).trans h3⟩
def wEq (B : Nat) (q : Qe) (v : Value) (W : World) : Prop := ∃ x c, v = .agg (qeC q.name q.e x c (q.at_ : Int)).toArray ∧ KidsD (B ≤ ·) W q.e x c
theorem stable_eq (B : Nat) (q : Qe) : Stable (wEq B q) := fun _ _ _ ⟨x, c, h1, h2⟩ hb => ⟨x, c, h1, IsD.below hb h2⟩
theorem IsDs.plain {ok ok' : Nat → Prop} {w : World} {g : Nat} : ∀ (ds : List Dt) (i : Nat), (∀ d ∈ ds, ∃ x, d = .v x) → IsDs ok w g i ds → IsDs ok' w g i ds
  | [], _, _, _ => by unfold IsDs; trivial
  | d :: r, i, hp, h => by
    obtain ⟨y, rfl⟩ := hp d (List.mem_cons_self ..)
    unfold IsDs at h ⊢
    obtain ⟨⟨u, h1, h2⟩, hr⟩ := h
    exact ⟨⟨u, h1, by unfold IsD at h2 ⊢; exact h2⟩, IsDs.plain r (i + 1) (fun d hd => hp d (List.mem_cons_of_mem _ hd)) hr⟩
theorem vars_apart {ok : Nat → Prop} {w : World} {l : List Vr} {x : Option Addr} {c b : Nat} (h : IsD ok w (.slice x l.length c) (.sl l.length (vrsD l))) (hb : w.heap[b]? = some (.cells #[.string ⟨#[]⟩, .slice none 0 0, .slice none 0 0, .slice none 0 0, .slice none 0 0, .int .i64 0] 49 (0, 0))) : IsD (fun k => ok k ∧ k ≠ b ∧ k < w.heap.size) w (.slice x l.length c) (.sl l.length (vrsD l)) := by
  by_cases hl : 0 < l.length
  · obtain ⟨g, e1, e2, e3, e4⟩ := IsD.some_ h hl
    obtain ⟨g', e1', _, hr⟩ := var_at h 0 hl
    have hgg : g' = g := by rw [e1] at e1'; injection e1' with e; injection e with e; exact e.symm
    subst hgg
    have hne : g' ≠ b := fun e => by
      subst e
      have h1 := hr 1 _ rfl
      have h2 := cell_of_row w g' 1 _ _ _ hb
      rw [Nat.zero_mul, Nat.zero_add] at h1
      rw [h1] at h2
      simp at h2
    obtain ⟨y, c', e, q1, q2⟩ := h.slice
    injection e with _ _ e5
    subst e5
    rw [e1]
    exact IsD.of_cells hl q1 q2 (IsD.few h) ⟨e2, hne, e3⟩ e3 (IsDs.plain _ _ (vrsD_plain l) e4)
  · obtain ⟨y, c', e, q1, q2⟩ := h.slice
    injection e with _ _ e5
    subst e5
    have h0 : l.length = 0 := by omega
    have hn : l = [] := List.eq_nil_of_length_eq_zero h0
    subst hn
    exact IsD.nil q2
def wEqs (wo : World) (m b : Nat) (cs : Array Value) (tr : List (Value × Dt)) (n : Nat) (ds : List Dt) (v : Value) (W : World) : Prop :=
  Below wo.heap.size wo W ∧ m ≤ W.heap.size ∧ W.heap[b]? = some (.cells cs 49 (0, 0)) ∧ Tre (fun k => wo.heap.size ≤ k ∧ k ≠ b ∧ k < m) W tr ∧ OwnD 45 7 W (m - 1) v n ds
theorem tre_below {ok : Nat → Prop} {w w' : World} {l : List (Value × Dt)} (h : Tre ok w l) (hb : Below w.heap.size w w') : Tre ok w' l := fun x hx => (h x hx).below hb
theorem stable_eqs (wo : World) (m b : Nat) (cs : Array Value) (tr : List (Value × Dt)) (n : Nat) (ds : List Dt) : Stable (wEqs wo m b cs tr n ds) := fun _ W _ ⟨h1, h2, h3, h4, h5⟩ hb =>
  ⟨h1.trans (hb.mono h1.size), Nat.le_trans h2 hb.size, (hb.block _ (Array.getElem?_eq_some_iff.1 h3).1).trans h3, tre_below h4 hb, h5.below hb⟩
def GivesBN (l : List Nd) (w : World) (en : Ending) (w' : World) : Prop := ∃ x c, en = .returned (.slice x l.length c) ∧ IsD (w.heap.size ≤ ·) w' (.slice x l.length c) (.sl l.length (ndsD l)) ∧ Below w.heap.size w w'
end Go.Proofs.Ytejljfoacbpliaa

namespace Go.Proofs.Ytejljfoacbpliaa
open Go Go.RowKit
set_option maxHeartbeats 4000000 in
set_option maxRecDepth 100000 in
theorem Bad_any (er ea : Int) (w : World) : Calls Try.prog 13 #[.agg #[.int .i64 er, .int .i64 ea]] w (fun e w' => e = .returned (.agg #[.int .i64 er, .int .i64 ea]) ∧ Below w.heap.size w w') := by
  have s1 : (w.alloc (.cells #[.int .i64 er, .int .i64 ea] 32)).heap.size = w.heap.size + 1 := by simp
  have n1 := heap_alloc_new w (.cells #[.int .i64 er, .int .i64 ea] 32)
  have n2 := heap_alloc_new (w.alloc (.cells #[.int .i64 er, .int .i64 ea] 32)) (.cells #[.int .i64 0, .int .i64 0] 30)
  rw [s1] at n2
  have hb1 : Below w.heap.size w (w.alloc (.cells #[.int .i64 er, .int .i64 ea] 32)) := (Below.refl _ _).alloc (Nat.le_refl _) _
  have hb2 : Below (w.alloc (.cells #[.int .i64 er, .int .i64 ea] 32)).heap.size (w.alloc (.cells #[.int .i64 er, .int .i64 ea] 32)) ((w.alloc (.cells #[.int .i64 er, .int .i64 ea] 32)).alloc (.cells #[.int .i64 0, .int .i64 0] 30)) := (Below.refl _ _).alloc (Nat.le_refl _) _
  have h0 := (hb2.block w.heap.size (by omega)).trans n1
  have c0 := cell_of_row _ w.heap.size 0 _ _ _ h0
  have c1 := cell_of_row _ w.heap.size 1 _ _ _ h0
  have HB := Lib.hid (hb1.trans (hb2.mono (by omega)))
  have HN := Lib.hid n2
  have HSB := Lib.hid size_bad
  have hset := setRow_heap ((w.alloc (.cells #[.int .i64 er, .int .i64 ea] 32)).alloc (.cells #[.int .i64 0, .int .i64 0] 30)) (w.heap.size + 1) _ #[.int .i64 er, .int .i64 ea] _ _ n2
  have HST := Lib.hid hset
  clear s1 n1 n2 hb1 hb2 h0 hset
  go_enter Try.func13, Try.ntmps13
  go_wp2_with (refine wpList_store_row rfl 30 (.tmp 2) (.tmp 7) rfl (w.heap.size + 1) #[.int .i64 er, .int .i64 ea] rfl rfl 30 _ HN.out HSB.out rfl (fault_one _ _) ?_)
  refine bodyPost_ret (v := .agg #[.int .i64 er, .int .i64 ea]) (results_cell_row (p := 2) (ty := 30) rfl _ _ (w.heap.size + 1) 30 _ (0, 0) _ rfl HST.out Try.underlying30 rfl HSB.out) rfl ?_
  exact ⟨rfl, below_setRow HB.out (by omega) _⟩
end Go.Proofs.Ytejljfoacbpliaa
