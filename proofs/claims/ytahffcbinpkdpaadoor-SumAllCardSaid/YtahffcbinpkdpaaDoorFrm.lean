/-
  The frames of chapter 2 as plain lists of bytes: a frame; the frame that a list begins with; several. Nothing here speaks of the program.
-/
import Derived.Test.YtahffcbinpkdpaaDoorCrc
import Derived.Test.YtahffcbinpkdpaaDoorLow
namespace Go.Proofs.YtahffcbinpkdpaaDoor
open Go

/-- The sum of what stands on both sides of the sum. -/
def sumOf (f : List UInt8) : Nat := crc (piece f 1 13 ++ f.drop 17)

def frameOf (n : Nat) (b : List UInt8) : List UInt8 := [90] ++ (low 4 b.length ++ (low 8 n ++ (low 4 (crc ((low 4 b.length ++ low 8 n) ++ b)) ++ b)))

/-- How many bytes the frame has that l begins with; 0: there is none. -/
def size1 (l : List UInt8) : Nat :=
  if l.length < 17 then 0
  else if l.headD 0 ≠ 90 then 0
  else if 60000 < up (piece l 1 5) then 0
  else if l.length - 17 < up (piece l 1 5) then 0
  else if up (piece l 13 17) = sumOf (l.take (17 + up (piece l 1 5))) then 17 + up (piece l 1 5) else 0

def take1 (l : List UInt8) : Nat × List UInt8 × Nat :=
  if size1 l = 0 then (0, [], 0) else (up (piece l 5 13), piece l 17 (size1 l), size1 l)

theorem size1_bounds (l : List UInt8) : size1 l = 0 ∨ (17 ≤ size1 l ∧ size1 l ≤ l.length ∧ size1 l ≤ 60017) := by
  unfold size1
  split
  · exact .inl rfl
  · split
    · exact .inl rfl
    · split
      · exact .inl rfl
      · split
        · exact .inl rfl
        · split
          · exact .inr ⟨by omega, by omega, by omega⟩
          · exact .inl rfl

theorem piece_take {l : List UInt8} {i j n : Nat} (h : j ≤ n) : piece (l.take n) i j = piece l i j := by
  unfold piece
  rw [List.drop_take, List.take_take, Nat.min_eq_left (by omega)]
theorem piece_drop {l : List UInt8} {i n : Nat} : (l.take n).drop i = piece l i n := by
  unfold piece
  rw [List.drop_take]
theorem piece_append {l r : List UInt8} {i j : Nat} (h : j ≤ l.length) : piece (l ++ r) i j = piece l i j := by
  unfold piece
  by_cases hij : i ≤ j
  · rw [List.drop_append_of_le_length (by omega), List.take_append_of_le_length (by simp; omega)]
  · rw [show j - i = 0 by omega, List.take_zero, List.take_zero]

theorem frame_length (n : Nat) (b : List UInt8) : (frameOf n b).length = 17 + b.length := by
  simp [frameOf, low_length]; omega

theorem frame_1_5 (n : Nat) (b : List UInt8) : piece (frameOf n b) 1 5 = low 4 b.length := piece_at rfl (low_length _ _)
theorem frame_5_13 (n : Nat) (b : List UInt8) : piece (frameOf n b) 5 13 = low 8 n := by
  unfold frameOf
  rw [← List.append_assoc]
  exact piece_at (by simp [low_length]) (low_length _ _)
theorem frame_13_17 (n : Nat) (b : List UInt8) : piece (frameOf n b) 13 17 = low 4 (crc ((low 4 b.length ++ low 8 n) ++ b)) := by
  unfold frameOf
  rw [← List.append_assoc, ← List.append_assoc]
  exact piece_at (by simp [low_length]) (low_length _ _)
theorem frame_17 (n : Nat) (b : List UInt8) : (frameOf n b).drop 17 = b := by
  unfold frameOf
  rw [← List.append_assoc, ← List.append_assoc, ← List.append_assoc]
  exact List.drop_left' (by simp [low_length])
theorem frame_1_13 (n : Nat) (b : List UInt8) : piece (frameOf n b) 1 13 = low 4 b.length ++ low 8 n := by
  unfold frameOf
  rw [← List.append_assoc (low 4 _)]
  exact piece_at rfl (by simp [low_length])
theorem frame_sum (n : Nat) (b : List UInt8) : sumOf (frameOf n b) = crc ((low 4 b.length ++ low 8 n) ++ b) := by
  rw [sumOf, frame_1_13, frame_17]
theorem frame_head (n : Nat) (b r : List UInt8) : (frameOf n b ++ r).headD 0 = 90 := rfl

/-- What stands in a frame is taken out, whatever stands behind it. -/
theorem size1_frame {n : Nat} {b : List UInt8} (hb : b.length ≤ 60000) (r : List UInt8) : size1 (frameOf n b ++ r) = 17 + b.length := by
  have hl := frame_length n b
  have hp : up (piece (frameOf n b ++ r) 1 5) = b.length := by
    rw [piece_append (by omega), frame_1_5, up_low_lt (by omega)]
  have hs : up (piece (frameOf n b ++ r) 13 17) = sumOf (frameOf n b) := by
    rw [piece_append (by omega), frame_13_17, frame_sum]
    exact up_low_lt (by have := crc_lt (low 4 b.length ++ low 8 n ++ b); omega)
  have ht : (frameOf n b ++ r).take (17 + b.length) = frameOf n b := by
    rw [← hl, List.take_left]
  unfold size1
  rw [if_neg (by rw [List.length_append]; omega), if_neg (by rw [frame_head]; decide), hp, if_neg (by omega), if_neg (by rw [List.length_append]; omega), hs, ht, if_pos rfl]

theorem take1_frame {n : Nat} {b : List UInt8} (hn : n < 18446744073709551616) (hb : b.length ≤ 60000) (r : List UInt8) : take1 (frameOf n b ++ r) = (n, b, 17 + b.length) := by
  have hl := frame_length n b
  unfold take1
  rw [size1_frame hb, if_neg (by omega), piece_append (by omega), frame_5_13, up_low_lt hn, piece_append (by omega)]
  have e : piece (frameOf n b) 17 (17 + b.length) = b := by
    rw [← piece_drop, ← hl, List.take_length, frame_17]
  rw [e]

/-- Cut off anywhere, it is none. -/
theorem size1_cut {n : Nat} {b : List UInt8} (hb : b.length ≤ 60000) {k : Nat} (hk : k < 17 + b.length) : size1 ((frameOf n b).take k) = 0 := by
  have hl := frame_length n b
  have hlk : ((frameOf n b).take k).length = k := by rw [List.length_take]; omega
  unfold size1
  rw [hlk]
  split
  · rfl
  · rw [piece_take (by omega), frame_1_5, up_low_lt (by omega)]
    split
    · rfl
    · split
      · rfl
      · rw [if_pos (by omega)]

/-- Several, one right behind the other. -/
def allN : Nat → List UInt8 → Nat → List (List UInt8) × Nat
  | 0, _, _ => ([], 0)
  | k + 1, l, first =>
    if size1 l = 0 then ([], 0)
    else if up (piece l 5 13) ≠ first then ([], 0)
    else if first = 18446744073709551615 then ([piece l 17 (size1 l)], size1 l)
    else (piece l 17 (size1 l) :: (allN k (l.drop (size1 l)) (first + 1)).1, size1 l + (allN k (l.drop (size1 l)) (first + 1)).2)

theorem allN_more : ∀ (k k' : Nat) (l : List UInt8) (first : Nat), l.length < k → l.length < k' → allN k l first = allN k' l first
  | k + 1, k' + 1, l, first, h, h' => by
    unfold allN
    split
    · rfl
    · split
      · rfl
      · split
        · rfl
        · rename_i h0 _ _
          have hb := size1_bounds l
          have hd : (l.drop (size1 l)).length = l.length - size1 l := List.length_drop
          rw [allN_more k k' (l.drop (size1 l)) (first + 1) (by omega) (by omega)]

def all1 (l : List UInt8) (first : Nat) : List (List UInt8) × Nat := allN (l.length + 1) l first

theorem all1_none {l : List UInt8} {first : Nat} (h : size1 l = 0 ∨ up (piece l 5 13) ≠ first) : all1 l first = ([], 0) := by
  unfold all1 allN
  rcases h with h | h
  · rw [if_pos h]
  · split
    · rfl
    · first | rfl | rw [if_pos h]
theorem all1_last {l : List UInt8} {first : Nat} (h : size1 l ≠ 0) (h2 : up (piece l 5 13) = first) (h3 : first = 18446744073709551615) : all1 l first = ([piece l 17 (size1 l)], size1 l) := by
  unfold all1 allN
  rw [if_neg h, if_neg (by simpa using h2), if_pos h3]
theorem all1_step {l : List UInt8} {first : Nat} (h : size1 l ≠ 0) (h2 : up (piece l 5 13) = first) (h3 : first ≠ 18446744073709551615) :
    all1 l first = (piece l 17 (size1 l) :: (all1 (l.drop (size1 l)) (first + 1)).1, size1 l + (all1 (l.drop (size1 l)) (first + 1)).2) := by
  have hb := size1_bounds l
  have hd : (l.drop (size1 l)).length = l.length - size1 l := List.length_drop
  conv => lhs; unfold all1 allN
  rw [if_neg h, if_neg (by simpa using h2), if_neg h3]
  unfold all1
  rw [allN_more l.length ((l.drop (size1 l)).length + 1) (l.drop (size1 l)) (first + 1) (by omega) (by omega)]

theorem all1_size (l : List UInt8) (first : Nat) : (all1 l first).2 ≤ l.length ∧ 17 * (all1 l first).1.length ≤ (all1 l first).2 := by
  suffices h : ∀ (k : Nat) (l : List UInt8) (first : Nat), (allN k l first).2 ≤ l.length ∧ 17 * (allN k l first).1.length ≤ (allN k l first).2 from h _ l first
  intro k
  induction k with
  | zero => intro l first; simp [allN]
  | succ k ih =>
    intro l first
    have hb := size1_bounds l
    unfold allN
    split
    · simp
    · split
      · simp
      · split
        · simp; omega
        · have := ih (l.drop (size1 l)) (first + 1)
          rw [List.length_drop] at this
          simp only [List.length_cons]
          omega

theorem all1_frame {n : Nat} {b r : List UInt8} (hn : n < 18446744073709551616) (hb : b.length ≤ 60000) {first : Nat} (hf : n = first) (h3 : first ≠ 18446744073709551615) :
    all1 (frameOf n b ++ r) first = (b :: (all1 r (first + 1)).1, 17 + b.length + (all1 r (first + 1)).2) := by
  have ht := take1_frame hn hb r
  have hs := size1_frame (n := n) hb r
  have hl := frame_length n b
  unfold take1 at ht
  rw [hs, if_neg (by omega)] at ht
  have h1 := congrArg Prod.fst ht
  have h2 := congrArg (fun x => x.2.1) ht
  simp only at h1 h2
  rw [all1_step (by omega) (by rw [h1, hf]) h3, hs, h2, ← hl, List.drop_left]

end Go.Proofs.YtahffcbinpkdpaaDoor
