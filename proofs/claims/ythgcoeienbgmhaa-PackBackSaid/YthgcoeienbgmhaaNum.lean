/-
  The numbers and texts of chapter 1 read back: plain functions on lists of bytes, and their laws. Nothing here speaks of the program.
-/
import Derived.Lib.Varint
import Derived.Lib.VarintDec
import Derived.Lib.VarintMem
namespace Go.Proofs.Ythgcoeienbgmhaa
open Go

/-- The number that stands first, i bytes of it being read with the value acc; and how many bytes it has (0: there is none). -/
def numFrom (i acc : Nat) : List UInt8 → Nat × Nat
  | [] => (0, 0)
  | c :: r =>
    if i = 9 ∧ 1 < c.toNat then (0, 0)
    else if 128 ≤ c.toNat then numFrom (i + 1) (acc + c.toNat % 128 * 2 ^ (7 * i)) r
    else if c.toNat = 0 ∧ 0 < i then (0, 0)
    else (acc + c.toNat * 2 ^ (7 * i), i + 1)

def num (l : List UInt8) : Nat × Nat := numFrom 0 0 l

/-- What a reader holds: the bytes that are left, and whether it is bad. -/
abbrev St := List UInt8 × Bool

def rdU (s : St) : Nat × St := if (num s.1).2 = 0 then (0, [], true) else ((num s.1).1, s.1.drop (num s.1).2, s.2)
def rdI (s : St) : Int × St := (Lib.unzigzag (rdU s).1, (rdU s).2)
def rdS (s : St) : List UInt8 × St :=
  if (rdU s).2.1.length < (rdU s).1 then ([], [], true)
  else ((rdU s).2.1.take (rdU s).1, (rdU s).2.1.drop (rdU s).1, (rdU s).2.2)

theorem numFrom_size : ∀ (l : List UInt8) (i acc : Nat), (numFrom i acc l).2 = 0 ∨ (i < (numFrom i acc l).2 ∧ (numFrom i acc l).2 ≤ i + l.length)
  | [], _, _ => .inl rfl
  | c :: r, i, acc => by
    unfold numFrom
    split
    · exact .inl rfl
    · split
      · rcases numFrom_size r (i + 1) (acc + c.toNat % 128 * 2 ^ (7 * i)) with h | h
        · exact .inl h
        · exact .inr ⟨by omega, by simp only [List.length_cons]; omega⟩
      · split
        · exact .inl rfl
        · exact .inr ⟨Nat.lt_succ_self _, by simp only [List.length_cons]; omega⟩

theorem num_size (l : List UInt8) : (num l).2 ≤ l.length := by
  rcases numFrom_size l 0 0 with h | h
  · unfold num; omega
  · unfold num; omega

theorem numFrom_lt : ∀ (l : List UInt8) (i acc : Nat), i ≤ 9 → acc < 2 ^ (7 * i) → (numFrom i acc l).1 < 18446744073709551616
  | [], _, _, _, _ => by simp [numFrom]
  | c :: r, i, acc, hi, hacc => by
    have hc := c.toNat_lt
    unfold numFrom
    have hp : (2 : Nat) ^ (7 * (i + 1)) = 128 * 2 ^ (7 * i) := by rw [show 7 * (i + 1) = 7 + 7 * i by omega, Nat.pow_add]
    split
    · simp
    · rename_i h9
      split
      · rename_i h128
        have hi9 : i ≠ 9 := fun h => h9 ⟨h, by omega⟩
        refine numFrom_lt r (i + 1) _ (by omega) ?_
        rw [hp]
        have h1 : c.toNat % 128 * 2 ^ (7 * i) ≤ 127 * 2 ^ (7 * i) := Nat.mul_le_mul_right _ (by omega)
        omega
      · split
        · simp
        · show acc + c.toNat * 2 ^ (7 * i) < _
          by_cases h : i = 9
          · subst h
            have hle : c.toNat ≤ 1 := by
              rcases Nat.lt_or_ge 1 c.toNat with h | h
              · exact absurd ⟨rfl, h⟩ h9
              · exact h
            have e9 : (2 : Nat) ^ (7 * 9) = 9223372036854775808 := by decide
            rw [e9] at hacc ⊢
            have := Nat.mul_le_mul_right 9223372036854775808 hle
            omega
          · have h1 : c.toNat * 2 ^ (7 * i) ≤ 127 * 2 ^ (7 * i) := Nat.mul_le_mul_right _ (by omega)
            have h2 : (2 : Nat) ^ (7 * (i + 1)) ≤ 2 ^ 63 := Nat.pow_le_pow_right (by decide) (by omega)
            rw [hp] at h2
            have e63 : (2 : Nat) ^ 63 = 9223372036854775808 := by decide
            omega

theorem num_lt (l : List UInt8) : (num l).1 < 18446744073709551616 := numFrom_lt l 0 0 (by omega) (by decide)

theorem numFrom_zero : ∀ (l : List UInt8) (i acc : Nat), (numFrom i acc l).2 = 0 → (numFrom i acc l).1 = 0
  | [], _, _, _ => rfl
  | c :: r, i, acc, h => by
    unfold numFrom at h ⊢
    split
    · rfl
    · rename_i h9
      rw [if_neg h9] at h
      split
      · rename_i h128
        rw [if_pos h128] at h
        exact numFrom_zero r _ _ h
      · rename_i h128
        rw [if_neg h128] at h
        split
        · rfl
        · rename_i h0
          rw [if_neg h0] at h
          simp at h

theorem byte_lo {y : Nat} (h : y < 128) : (y.toUInt8).toNat = y := Lib.toUInt8_toNat (by omega)
theorem byte_hi (y : Nat) : ((y % 128 + 128).toUInt8).toNat = y % 128 + 128 := Lib.toUInt8_toNat (by omega)

/-- What was written is read back, whatever stands behind it. -/
theorem numFrom_uvarint : ∀ (y i acc : Nat) (r : List UInt8), i ≤ 9 → y < 2 ^ (64 - 7 * i) → (y ≠ 0 ∨ i = 0) →
    numFrom i acc (Lib.uvarint y ++ r) = (acc + y * 2 ^ (7 * i), i + (Lib.uvarint y).length) := by
  intro y
  induction y using Nat.strongRecOn with
  | _ y ih =>
    intro i acc r hi hy h0
    by_cases h : y < 128
    · rw [Lib.uvarint_small h]
      simp only [List.cons_append, List.nil_append, List.length_cons, List.length_nil]
      unfold numFrom
      rw [byte_lo h, if_neg, if_neg (by omega), if_neg (by omega)]
      rintro ⟨rfl, h1⟩
      have e1 : (2 : Nat) ^ (64 - 7 * 9) = 2 := by decide
      omega
    · have hi9 : i ≤ 8 := by
        rcases Nat.lt_or_ge i 9 with h9 | h9
        · omega
        · obtain rfl : i = 9 := by omega
          have e1 : (2 : Nat) ^ (64 - 7 * 9) = 2 := by decide
          omega
      have hp : (2 : Nat) ^ (64 - 7 * i) = 128 * 2 ^ (64 - 7 * (i + 1)) := by
        rw [show 64 - 7 * i = 7 + (64 - 7 * (i + 1)) by omega, Nat.pow_add]
      have hq : (2 : Nat) ^ (7 * (i + 1)) = 128 * 2 ^ (7 * i) := by rw [show 7 * (i + 1) = 7 + 7 * i by omega, Nat.pow_add]
      rw [Lib.uvarint_big (by omega), List.cons_append]
      unfold numFrom
      rw [byte_hi, if_neg (by omega), if_pos (by omega), ih (y / 128) (by omega) (i + 1) _ r (by omega) (by omega) (by omega)]
      refine Prod.ext ?_ ?_
      · show acc + (y % 128 + 128) % 128 * 2 ^ (7 * i) + y / 128 * 2 ^ (7 * (i + 1)) = acc + y * 2 ^ (7 * i)
        rw [hq, show (y % 128 + 128) % 128 = y % 128 by omega]
        have e : y * 2 ^ (7 * i) = (y % 128 + 128 * (y / 128)) * 2 ^ (7 * i) := by rw [Nat.mod_add_div]
        rw [e, Nat.add_mul, Nat.mul_assoc, Nat.add_assoc]
        congr 2
        rw [← Nat.mul_assoc, ← Nat.mul_assoc, Nat.mul_comm (y / 128) 128]
      · simp only [List.length_cons]
        omega

theorem num_uvarint {x : Nat} (hx : x < 18446744073709551616) (r : List UInt8) : num (Lib.uvarint x ++ r) = (x, (Lib.uvarint x).length) := by
  unfold num
  rw [numFrom_uvarint x 0 0 r (by omega) (by simpa using hx) (.inr rfl)]
  simp

/-- Cut off ahead of its end, it can't be read. -/
theorem numFrom_cut : ∀ (k y i acc : Nat), k < (Lib.uvarint y).length → (numFrom i acc ((Lib.uvarint y).take k)).2 = 0
  | 0, y, i, acc, _ => by simp [numFrom]
  | k + 1, y, i, acc, h => by
    by_cases hs : y < 128
    · rw [Lib.uvarint_small hs] at h
      simp at h
    · rw [Lib.uvarint_big (by omega)] at h ⊢
      rw [List.take_succ_cons]
      unfold numFrom
      rw [byte_hi]
      split
      · rfl
      · rw [if_pos (by omega)]
        exact numFrom_cut k (y / 128) _ _ (by simpa using h)

theorem num_cut {k y : Nat} (h : k < (Lib.uvarint y).length) : (num ((Lib.uvarint y).take k)).2 = 0 := numFrom_cut k y 0 0 h

theorem uvarint_ne_nil (x : Nat) : Lib.uvarint x ≠ [] := by
  have := Lib.uvarint_pos x
  intro h
  rw [h] at this
  simp at this

/-- None is the beginning of another. -/
theorem uvarint_prefix {a b : Nat} (ha : a < 18446744073709551616) (hb : b < 18446744073709551616) {r : List UInt8} (h : Lib.uvarint b = Lib.uvarint a ++ r) : a = b := by
  have h1 := num_uvarint ha r
  have h2 := num_uvarint hb []
  rw [List.append_nil, h, h1] at h2
  exact congrArg Prod.fst h2

theorem uvarint_mono : ∀ (b a : Nat), a ≤ b → (Lib.uvarint a).length ≤ (Lib.uvarint b).length := by
  intro b
  induction b using Nat.strongRecOn with
  | _ b ih =>
    intro a hab
    by_cases hb : b < 128
    · rw [Lib.uvarint_small hb, Lib.uvarint_small (by omega)]
      simp
    · by_cases ha : a < 128
      · rw [Lib.uvarint_small ha]
        exact Lib.uvarint_pos b
      · rw [Lib.uvarint_big (x := a) (by omega), Lib.uvarint_big (x := b) (by omega), List.length_cons, List.length_cons]
        have := ih (b / 128) (by omega) (a / 128) (by omega)
        omega

theorem zigzag_mirror {v : Int} : (Lib.uvarint (Lib.zigzag v)).length = (Lib.uvarint (Lib.zigzag (-1 - v))).length := by
  have key : ∀ n : Nat, (Lib.uvarint (2 * n)).length = (Lib.uvarint (2 * n + 1)).length := by
    intro n
    by_cases h : 2 * n < 128
    · rw [Lib.uvarint_small h, Lib.uvarint_small (by omega)]
      simp
    · rw [Lib.uvarint_big (x := 2 * n) (by omega), Lib.uvarint_big (x := 2 * n + 1) (by omega), show (2 * n + 1) / 128 = 2 * n / 128 by omega]
      simp
  by_cases h : 0 ≤ v
  · have e1 : Lib.zigzag v = 2 * v.toNat := by unfold Lib.zigzag; rw [if_pos h]; omega
    have e2 : Lib.zigzag (-1 - v) = 2 * v.toNat + 1 := by unfold Lib.zigzag; rw [if_neg (by omega)]; omega
    rw [e1, e2, key]
  · have e1 : Lib.zigzag v = 2 * (-1 - v).toNat + 1 := by unfold Lib.zigzag; rw [if_neg h]; omega
    have e2 : Lib.zigzag (-1 - v) = 2 * (-1 - v).toNat := by unfold Lib.zigzag; rw [if_pos (by omega)]; omega
    rw [e1, e2, key]

theorem unzigzag_zigzag (v : Int) : Lib.unzigzag (Lib.zigzag v) = v := by
  unfold Lib.unzigzag Lib.zigzag
  split <;> split <;> omega

theorem rdU_uvarint {x : Nat} (hx : x < 18446744073709551616) (r : List UInt8) (b : Bool) : rdU (Lib.uvarint x ++ r, b) = (x, r, b) := by
  unfold rdU
  have := Lib.uvarint_pos x
  rw [num_uvarint hx]
  simp only
  rw [if_neg (by omega)]
  simp

theorem rdI_uvarint {v : Int} (h0 : -9223372036854775808 ≤ v) (h1 : v ≤ 9223372036854775807) (r : List UInt8) (b : Bool) : rdI (Lib.uvarint (Lib.zigzag v) ++ r, b) = (v, r, b) := by
  unfold rdI
  have hz : Lib.zigzag v < 18446744073709551616 := by unfold Lib.zigzag; split <;> omega
  rw [rdU_uvarint hz, unzigzag_zigzag]

theorem rdS_uvarint {s : List UInt8} (hs : s.length < 18446744073709551616) (r : List UInt8) (b : Bool) : rdS (Lib.uvarint s.length ++ s ++ r, b) = (s, r, b) := by
  unfold rdS
  rw [List.append_assoc, rdU_uvarint hs, if_neg (by simp)]
  simp

theorem rdU_lt (s : St) : (rdU s).1 < 18446744073709551616 := by
  unfold rdU
  split
  · simp
  · exact num_lt _

theorem rdU_bad : rdU ([], true) = (0, [], true) := rfl
theorem rdI_bad : rdI ([], true) = (0, [], true) := by
  unfold rdI
  rw [rdU_bad]
  rfl
theorem rdS_bad : rdS ([], true) = ([], [], true) := rfl

/-- How many bytes a number has beyond a first one: none if nothing is left. -/
def more (y : Nat) : Nat := if y = 0 then 0 else (Lib.uvarint y).length

theorem more_zero : more 0 = 0 := rfl
theorem length_more (x : Nat) : (Lib.uvarint x).length = 1 + more (x / 128) := by
  unfold more
  by_cases h : x < 128
  · rw [Lib.uvarint_small h, if_pos (by omega)]
    rfl
  · rw [Lib.uvarint_big (x := x) (by omega), if_neg (by omega), List.length_cons, Nat.add_comm]
theorem more_step {y : Nat} (h : y ≠ 0) : more y = 1 + more (y / 128) := by
  rw [← length_more]
  unfold more
  rw [if_neg h]

end Go.Proofs.Ythgcoeienbgmhaa
