/-
  Words of a text as plain functions; the words' values in memory.
-/
import Derived.Test.YtolcaebdmapfbaaDoorLga
namespace Go.Proofs.YtolcaebdmapfbaaDoor
open Go Go.RowKit

/-- The first word of a text: its kind (0: none), its length, its number. -/
def firstW (l : List UInt8) : Nat × Nat × Int :=
  if isL (l.headD 0).toNat = true then
    if 24 < runLen isN l then (0, 0, 0) else if keptB (l.take (runLen isN l)) = true then (2, runLen isN l, 0) else (1, runLen isN l, 0)
  else if isD (l.headD 0).toNat = true then
    if 1 < runLen isD l ∧ l.headD 0 = 48 then (0, 0, 0) else
    match Lib.parseIntB 64 (l.take (runLen isD l)) with
    | .ok v => (3, runLen isD l, v)
    | _ => (0, 0, 0)
  else if 1 < l.length ∧ TWO.contains (l.take 2) = true then (4, 2, 0)
  else if SIGNS.contains (l.headD 0) = true then (4, 1, 0) else (0, 0, 0)

theorem firstW_len (l : List UInt8) (hl : 0 < l.length) : (firstW l).2.1 ≤ l.length ∧ ((firstW l).1 ≠ 0 → 1 ≤ (firstW l).2.1) ∧ ((firstW l).1 = 0 → firstW l = (0, 0, 0)) := by
  have h1 := runLen_le isN l
  have h2 := runLen_le isD l
  unfold firstW
  by_cases a : isL (l.headD 0).toNat = true
  · have p := runLen_pos isN l hl (by unfold isN; rw [a]; rfl)
    rw [if_pos a]
    split
    · simp
    · split
      · exact ⟨h1, fun _ => p, fun h => by simp at h⟩
      · exact ⟨h1, fun _ => p, fun h => by simp at h⟩
  · rw [if_neg a]
    by_cases b : isD (l.headD 0).toNat = true
    · have p := runLen_pos isD l hl b
      rw [if_pos b]
      split
      · simp
      · split
        · exact ⟨h2, fun _ => p, fun h => by simp at h⟩
        · simp
    · rw [if_neg b]
      split
      · rename_i c
        exact ⟨by have := c.1; show 2 ≤ l.length; omega, fun _ => by decide, fun h => by simp at h⟩
      · split
        · exact ⟨by show 1 ≤ l.length; omega, fun _ => by decide, fun h => by simp at h⟩
        · simp

theorem bytes_inj {a b : ByteArray} (h : a.data.toList = b.data.toList) : a = b := by
  obtain ⟨⟨a⟩⟩ := a
  obtain ⟨⟨b⟩⟩ := b
  simp only at h
  rw [h]
theorem extract_nil (s : ByteArray) (a : Nat) : s.extract a a = ByteArray.empty := by
  apply bytes_inj
  rw [Lib.extract_data, Nat.sub_self]
  rfl

theorem firstV_eq (s : ByteArray) : firstV s = wordV (firstW s.data.toList).1 (s.extract 0 (firstW s.data.toList).2.1) (firstW s.data.toList).2.2 0 := by
  have hlen : s.data.toList.length = s.size := by simp
  have h1 := runLen_le isN s.data.toList
  have h2 := runLen_le isD s.data.toList
  rw [hlen] at h1 h2
  have sz : ∀ m, m ≤ s.size → (s.extract 0 m).size = m := fun m h => by rw [ByteArray.size_extract]; omega
  have dt : ∀ m, (s.extract 0 m).data.toList = s.data.toList.take m := fun m => by rw [Lib.extract_data]; simp
  have hno : noWord = wordV 0 (s.extract 0 0) 0 0 := by rw [extract_nil]; rfl
  have hd : ∀ m, 0 < m → (s.data.toList.take m).headD 0 = s.data.toList.headD 0 := fun m h => by
    cases m with
    | zero => omega
    | succ m => cases s.data.toList <;> rfl
  unfold firstV firstW
  by_cases a : isL (s.data.toList.headD 0).toNat = true
  · rw [if_pos a, if_pos a]
    unfold nameV
    rw [sz _ h1, dt]
    by_cases c : 24 < runLen isN s.data.toList
    · rw [if_pos c, if_pos c]; exact hno
    · rw [if_neg c, if_neg c]
      split <;> rfl
  · rw [if_neg a, if_neg a]
    by_cases b : isD (s.data.toList.headD 0).toNat = true
    · rw [if_pos b, if_pos b]
      unfold numV
      rw [sz _ h2, dt]
      by_cases c : 1 < runLen isD s.data.toList
      · rw [hd _ (by omega)]
        split
        · exact hno
        · cases Lib.parseIntB 64 (s.data.toList.take (runLen isD s.data.toList)) <;> first | rfl | exact hno
      · rw [if_neg (fun h => c h.1), if_neg (fun h => c h.1)]
        cases Lib.parseIntB 64 (s.data.toList.take (runLen isD s.data.toList)) <;> first | rfl | exact hno
    · rw [if_neg b, if_neg b]
      unfold signV
      rw [Lib.toList_data, dt, hlen]
      split
      · rfl
      · split
        · rfl
        · exact hno

/-- Cutting on from a place: the words, or the place of the first fault. -/
def cutF : Nat → List UInt8 → Nat → Except Nat (List (Nat × Nat × Int × Nat))
  | 0, _, at_ => .error at_
  | f + 1, l, at_ =>
    if l = [] then .ok [(0, 0, 0, at_)] else
    if (firstW l).1 = 0 then .error at_ else
    match cutF f ((l.drop (firstW l).2.1).drop (gapL (l.drop (firstW l).2.1))) (at_ + (firstW l).2.1 + gapL (l.drop (firstW l).2.1)) with
    | .error p => .error p
    | .ok t => .ok (((firstW l).1, (firstW l).2.1, (firstW l).2.2, at_) :: t)
def cut1 (l : List UInt8) : Except Nat (List (Nat × Nat × Int × Nat)) := cutF (l.length + 1) (l.drop (gapL l)) (gapL l)
/-- What Cut tells. -/
def cutAll (l : List UInt8) : Except (Nat × Nat) (List (Nat × Nat × Int × Nat)) :=
  if 16384 < l.length then .error (2, l.length) else
  match cut1 l with
  | .error p => .error (7, p)
  | .ok t => .ok t

/-- Words that were found stand ahead of what is found further on. -/
def ahead (d : List (Nat × Nat × Int × Nat)) : Except Nat (List (Nat × Nat × Int × Nat)) → Except Nat (List (Nat × Nat × Int × Nat))
  | .error p => .error p
  | .ok t => .ok (d ++ t)
theorem ahead_nil (r : Except Nat (List (Nat × Nat × Int × Nat))) : ahead [] r = r := by cases r <;> rfl
theorem cutF_end (f at_ : Nat) : cutF (f + 1) [] at_ = .ok [(0, 0, 0, at_)] := by rw [cutF, if_pos rfl]
theorem cutF_bad (f at_ : Nat) (l : List UInt8) (h : l ≠ []) (h0 : (firstW l).1 = 0) : cutF (f + 1) l at_ = .error at_ := by rw [cutF, if_neg h, if_pos h0]
theorem cutF_go (f at_ : Nat) (l : List UInt8) (d : List (Nat × Nat × Int × Nat)) (h : l ≠ []) (h0 : (firstW l).1 ≠ 0) :
    ahead d (cutF (f + 1) l at_) = ahead (d ++ [((firstW l).1, (firstW l).2.1, (firstW l).2.2, at_)]) (cutF f ((l.drop (firstW l).2.1).drop (gapL (l.drop (firstW l).2.1))) (at_ + (firstW l).2.1 + gapL (l.drop (firstW l).2.1))) := by
  rw [cutF, if_neg h, if_neg h0]
  cases cutF f ((l.drop (firstW l).2.1).drop (gapL (l.drop (firstW l).2.1))) (at_ + (firstW l).2.1 + gapL (l.drop (firstW l).2.1)) with
  | error p => rfl
  | ok t => simp [ahead]

/-- A word's cells. -/
def wordC (s : ByteArray) (x : Nat × Nat × Int × Nat) : List Value := [.int .i64 (x.1 : Int), .string (s.extract x.2.2.2 (x.2.2.2 + x.2.1)), .int .i64 x.2.2.1, .int .i64 (x.2.2.2 : Int)]
def wordsC (s : ByteArray) (l : List (Nat × Nat × Int × Nat)) : List Value := l.flatMap (wordC s)
theorem wordsC_snoc (s : ByteArray) (l : List (Nat × Nat × Int × Nat)) (x : Nat × Nat × Int × Nat) : wordsC s (l ++ [x]) = wordsC s l ++ wordC s x := by simp [wordsC]
theorem wordsC_length (s : ByteArray) : ∀ l : List (Nat × Nat × Int × Nat), (wordsC s l).length = l.length * 4
  | [] => rfl
  | x :: l => by
    have h := wordsC_length s l
    unfold wordsC at *
    rw [List.flatMap_cons, List.length_append, h, List.length_cons]
    show 4 + _ = _
    omega
theorem extract_sub (s : ByteArray) (a m : Nat) (h : a + m ≤ s.size) : (s.extract a s.size).extract 0 m = s.extract a (a + m) := by
  apply bytes_inj
  rw [Lib.extract_data, Lib.extract_data, Lib.extract_data]
  simp only [List.drop_zero, Nat.sub_zero, List.take_take]
  congr 1
  omega
end Go.Proofs.YtolcaebdmapfbaaDoor
