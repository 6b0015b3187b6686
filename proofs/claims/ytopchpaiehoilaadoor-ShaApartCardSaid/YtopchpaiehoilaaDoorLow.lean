/-
  Numbers as so many bytes, the lowest first; pieces of lists. Plain functions and their laws. Nothing here speaks of the program.
-/
import Derived.Lib.Varint
import Derived.Lib.VarintDec
import Derived.Lib.VarintMem
namespace Go.Proofs.YtopchpaiehoilaaDoor
open Go

/-- A number as k bytes, the lowest first. -/
def low : Nat → Nat → List UInt8
  | 0, _ => []
  | k + 1, v => (v % 256).toUInt8 :: low k (v / 256)
/-- Back. -/
def up : List UInt8 → Nat
  | [] => 0
  | c :: r => c.toNat + 256 * up r

theorem low_length : ∀ k v, (low k v).length = k
  | 0, _ => rfl
  | k + 1, v => by rw [low, List.length_cons, low_length k]

theorem toUInt8_mod (v : Nat) : ((v % 256).toUInt8).toNat = v % 256 := Lib.toUInt8_toNat (by omega)

theorem up_lt : ∀ l : List UInt8, up l < 256 ^ l.length
  | [] => by simp [up]
  | c :: r => by
    have := up_lt r
    have hc := c.toNat_lt
    rw [up, List.length_cons, Nat.pow_succ]
    omega

theorem up_low : ∀ (k v : Nat), up (low k v) = v % 256 ^ k
  | 0, v => by simp [low, up, Nat.mod_one]
  | k + 1, v => by
    rw [low, up, up_low k, toUInt8_mod, Nat.pow_succ, Nat.mul_comm (256 ^ k), Nat.mod_mul]

theorem up_low_lt {k v : Nat} (h : v < 256 ^ k) : up (low k v) = v := by rw [up_low, Nat.mod_eq_of_lt h]

theorem up_snoc : ∀ (l : List UInt8) (c : UInt8), up (l ++ [c]) = up l + c.toNat * 256 ^ l.length
  | [], c => by simp [up]
  | b :: l, c => by
    rw [List.cons_append, up, up, up_snoc l c, List.length_cons, Nat.pow_succ]
    have e : c.toNat * (256 ^ l.length * 256) = 256 * (c.toNat * 256 ^ l.length) := by rw [Nat.mul_comm (256 ^ l.length) 256, ← Nat.mul_assoc, Nat.mul_comm c.toNat 256, Nat.mul_assoc]
    rw [e]
    omega

theorem low_snoc : ∀ (k v : Nat), low (k + 1) v = low k v ++ [(v / 256 ^ k % 256).toUInt8]
  | 0, v => by simp [low]
  | k + 1, v => by
    have e : v / 256 / 256 ^ k = v / 256 ^ (k + 1) := by rw [Nat.div_div_eq_div_mul, Nat.pow_succ, Nat.mul_comm]
    rw [low, low_snoc k (v / 256), e]
    rfl

theorem low_inj {k a b : Nat} (ha : a < 256 ^ k) (hb : b < 256 ^ k) (h : low k a = low k b) : a = b := by
  rw [← up_low_lt ha, h, up_low_lt hb]

theorem up_set : ∀ (l : List UInt8) (i : Nat) (h : i < l.length) (c : UInt8), up (l.set i c) + l[i].toNat * 256 ^ i = up l + c.toNat * 256 ^ i
  | b :: l, 0, _, c => by
    simp only [List.set_cons_zero, up, List.getElem_cons_zero, Nat.pow_zero, Nat.mul_one]
    omega
  | b :: l, i + 1, h, c => by
    have := up_set l i (by simpa using h) c
    simp only [List.set_cons_succ, up, List.getElem_cons_succ, Nat.pow_succ]
    have e1 : ∀ x : Nat, x * (256 ^ i * 256) = 256 * (x * 256 ^ i) := fun x => by rw [Nat.mul_comm (256 ^ i) 256, ← Nat.mul_assoc, Nat.mul_comm x 256, Nat.mul_assoc]
    rw [e1, e1]
    omega

/-- Put over a list from a place on. -/
def lay (L : List UInt8) (o : Nat) (m : List UInt8) : List UInt8 := L.take o ++ (m ++ L.drop (o + m.length))
theorem lay_length {L m : List UInt8} {o : Nat} (h : o + m.length ≤ L.length) : (lay L o m).length = L.length := by
  simp [lay]; omega
theorem lay_nil (L : List UInt8) (o : Nat) : lay L o [] = L := by simp [lay]
theorem lay_set {L m : List UInt8} {o : Nat} (h : o + m.length < L.length) (c : UInt8) : (lay L o m).set (o + m.length) c = lay L o (m ++ [c]) := by
  have hd : L.drop (o + m.length) = L[o + m.length] :: L.drop (o + m.length + 1) := List.drop_eq_getElem_cons h
  unfold lay
  rw [hd, List.length_append, List.length_singleton, List.set_append_right _ _ (by rw [List.length_take]; omega), List.length_take, Nat.min_eq_left (by omega), Nat.add_sub_cancel_left, List.set_append_right _ _ (Nat.le_refl _), Nat.sub_self, List.set_cons_zero, List.append_assoc]
  rfl
theorem lay_at {A M B m : List UInt8} {o : Nat} (ho : A.length = o) (hm : M.length = m.length) : lay (A ++ (M ++ B)) o m = A ++ (m ++ B) := by
  unfold lay
  subst ho
  simp only [List.take_left, List.drop_append, List.drop_eq_nil_of_le (Nat.le_add_right _ _), List.nil_append, Nat.add_sub_cancel_left, ← hm, List.drop_left]
  congr 2
  simp

/-- The piece from i up to j. -/
def piece (l : List UInt8) (i j : Nat) : List UInt8 := (l.drop i).take (j - i)
theorem piece_length {l : List UInt8} {i j : Nat} (hij : i ≤ j) (hj : j ≤ l.length) : (piece l i j).length = j - i := by
  simp [piece]; omega
theorem piece_at {A M B : List UInt8} {i j : Nat} (hi : A.length = i) (hj : M.length = j - i) : piece (A ++ (M ++ B)) i j = M := by
  unfold piece
  subst hi
  rw [List.drop_left, ← hj, List.take_left]
theorem piece_set_out {l : List UInt8} {i j k : Nat} (c : UInt8) (h : k < i ∨ j ≤ k) : piece (l.set k c) i j = piece l i j := by
  unfold piece
  rcases h with h | h
  · rw [List.drop_set_of_lt h]
  · by_cases hki : k < i
    · rw [List.drop_set_of_lt hki]
    · rw [List.drop_set, if_neg hki, List.take_set_of_le (by omega)]
theorem piece_set_in {l : List UInt8} {i j k : Nat} (c : UInt8) (h1 : i ≤ k) (h2 : k < j) : piece (l.set k c) i j = (piece l i j).set (k - i) c := by
  unfold piece
  rw [List.drop_set, if_neg (by omega), List.take_set]
theorem piece_get {l : List UInt8} {i j k : Nat} (h : k < (piece l i j).length) (hk : i + k < l.length) : (piece l i j)[k] = l[i + k] := by
  simp only [piece, List.getElem_take, List.getElem_drop]

end Go.Proofs.YtopchpaiehoilaaDoor
