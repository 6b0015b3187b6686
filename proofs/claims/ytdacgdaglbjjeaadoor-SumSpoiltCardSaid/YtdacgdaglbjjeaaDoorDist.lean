/-
  How far apart the sums of chapter 2 are: no two, and no three, of the first 8128 single bits cancel each other. By the kernel: their sums, the highest bit struck, are all different. Nothing here speaks of the program.
-/
import Derived.Test.YtdacgdaglbjjeaaDoorCrc
import Derived.KernelRfl
namespace Go.Proofs.YtdacgdaglbjjeaaDoor
open Go

/-- A set of numbers, by their lowest bits. -/
inductive Trie where
  | lf (l : List Nat)
  | nd (a b : Trie)

namespace Trie
def left : Trie → Trie
  | lf _ => lf []
  | nd a _ => a
def right : Trie → Trie
  | lf _ => lf []
  | nd _ b => b
def here : Trie → List Nat
  | lf l => l
  | nd _ _ => []
def has : Nat → Trie → Nat → Bool
  | 0, t, v => t.here.any (Nat.beq v)
  | d + 1, t, v => cond (Nat.beq (v % 2) 1) (has d t.right (v / 2)) (has d t.left (v / 2))
def ins : Nat → Trie → Nat → Trie
  | 0, t, v => lf (v :: t.here)
  | d + 1, t, v => cond (Nat.beq (v % 2) 1) (nd t.left (ins d t.right (v / 2))) (nd (ins d t.left (v / 2)) t.right)

theorem has_ins : ∀ (d : Nat) (t : Trie) (v w : Nat), has d (ins d t v) w = (Nat.beq w v || has d t w)
  | 0, t, v, w => rfl
  | d + 1, t, v, w => by
    have key : ∀ a b : Nat, a % 2 = b % 2 → Nat.beq (a / 2) (b / 2) = Nat.beq a b := fun a b h => by
      rw [Bool.eq_iff_iff, Nat.beq_eq, Nat.beq_eq]
      omega
    have diff : ∀ a b : Nat, a % 2 ≠ b % 2 → Nat.beq a b = false := fun a b h => by
      rw [Bool.eq_false_iff]
      intro h1
      rw [Nat.beq_eq] at h1
      subst h1
      exact h rfl
    have b0 : ∀ n, n % 2 = 0 → Nat.beq (n % 2) 1 = false := fun n h => by rw [h]; rfl
    have b1 : ∀ n, n % 2 = 1 → Nat.beq (n % 2) 1 = true := fun n h => by rw [h]; rfl
    rcases Nat.mod_two_eq_zero_or_one v with hv | hv <;> rcases Nat.mod_two_eq_zero_or_one w with hw | hw
    · simp only [has, ins, b0 v hv, b0 w hw, cond, left, right]
      rw [has_ins d, key w v (by omega)]
    · simp only [has, ins, b0 v hv, b1 w hw, cond, left, right]
      rw [diff w v (by omega), Bool.false_or]
    · simp only [has, ins, b1 v hv, b0 w hw, cond, left, right]
      rw [diff w v (by omega), Bool.false_or]
    · simp only [has, ins, b1 v hv, b1 w hw, cond, left, right]
      rw [has_ins d, key w v (by omega)]
end Trie

/-- What a sum is but for its highest bit. -/
def low31 (r : Nat) : Nat := r % 2147483648

def inner : Nat → Nat → Trie → Option Trie
  | 0, _, t => some t
  | n + 1, r, t => cond (Trie.has 13 t (low31 r)) none (inner n (crcBit r) (Trie.ins 13 t (low31 r)))
def outer : Nat → Nat → Trie → Bool
  | 0, _, _ => true
  | n + 1, r, t => match inner 127 r t with
    | none => false
    | some t' => outer n (crcBits 127 r) t'

set_option maxRecDepth 1000000 in
theorem outer_true : outer 64 2147483648 (.lf []) = true := by kernel_rfl

/-- The words of a good pass: what was there is there, what came in is there, and what came in was not there. -/
theorem inner_good : ∀ (n r : Nat) (t t' : Trie), inner n r t = some t' →
    (∀ w, Trie.has 13 t w = true → Trie.has 13 t' w = true) ∧ (∀ i, i < n → Trie.has 13 t' (low31 (crcBits i r)) = true) ∧ (∀ i, i < n → Trie.has 13 t (low31 (crcBits i r)) = false) ∧
      (∀ i j, i < j → j < n → low31 (crcBits i r) ≠ low31 (crcBits j r))
  | 0, r, t, t', h => by
    injection h with h
    subst h
    exact ⟨fun _ h => h, fun i h => absurd h (by omega), fun i h => absurd h (by omega), fun i j _ h => absurd h (by omega)⟩
  | n + 1, r, t, t', h => by
    unfold inner at h
    cases hh : Trie.has 13 t (low31 r) with
    | true => rw [hh] at h; cases h
    | false =>
      rw [hh] at h
      obtain ⟨h1, h2, h3, h4⟩ := inner_good n (crcBit r) _ t' h
      have hin : Trie.has 13 (Trie.ins 13 t (low31 r)) (low31 r) = true := by rw [Trie.has_ins, Nat.beq_refl]; rfl
      refine ⟨fun w hw => h1 w (by rw [Trie.has_ins, hw, Bool.or_true]), fun i hi => ?_, fun i hi => ?_, fun i j hij hj => ?_⟩
      · cases i with
        | zero => exact h1 _ hin
        | succ i => exact h2 i (by omega)
      · cases i with
        | zero => exact hh
        | succ i =>
          have := h3 i (by omega)
          rw [Trie.has_ins, Bool.or_eq_false_iff] at this
          exact this.2
      · cases j with
        | zero => omega
        | succ j =>
          cases i with
          | zero =>
            have := h3 j (by omega)
            rw [Trie.has_ins, Bool.or_eq_false_iff] at this
            intro e
            have e' : low31 (crcBits j (crcBit r)) = low31 r := e.symm
            rw [e', Nat.beq_refl] at this
            exact absurd this.1 (by decide)
          | succ i => exact h4 i j (by omega) (by omega)

theorem outer_good : ∀ (n r : Nat) (t : Trie), outer n r t = true → (∀ i, i < 127 * n → Trie.has 13 t (low31 (crcBits i r)) = false) ∧ (∀ i j, i < j → j < 127 * n → low31 (crcBits i r) ≠ low31 (crcBits j r))
  | 0, r, t, _ => ⟨fun i h => absurd h (by omega), fun i j _ h => absurd h (by omega)⟩
  | n + 1, r, t, h => by
    unfold outer at h
    cases hi : inner 127 r t with
    | none => rw [hi] at h; cases h
    | some t' =>
      rw [hi] at h
      obtain ⟨a1, a2, a3, a4⟩ := inner_good 127 r t t' hi
      obtain ⟨b1, b2⟩ := outer_good n _ t' h
      have shift : ∀ i, 127 ≤ i → crcBits i r = crcBits (i - 127) (crcBits 127 r) := fun i hi => by rw [← crcBits_add, show 127 + (i - 127) = i by omega]
      refine ⟨fun i h => ?_, fun i j hij hj => ?_⟩
      · by_cases h127 : i < 127
        · exact a3 i h127
        · rw [shift i (by omega)]
          have := b1 (i - 127) (by omega)
          cases hc : Trie.has 13 t (low31 (crcBits (i - 127) (crcBits 127 r))) with
          | false => rfl
          | true => rw [a1 _ hc] at this; cases this
      · by_cases hj127 : j < 127
        · exact a4 i j hij hj127
        · by_cases hi127 : i < 127
          · intro e
            have h1 := a2 i hi127
            have h2 := b1 (j - 127) (by omega)
            rw [← shift j (by omega), ← e, h1] at h2
            cases h2
          · rw [shift i (by omega), shift j (by omega)]
            exact b2 _ _ (by omega) (by omega)

/-- A single bit's sum, e bits ahead of the end. -/
def bitSum (e : Nat) : Nat := crcBits e 2147483648

theorem bitSum_lt (e : Nat) : bitSum e < 4294967296 := crcBits_lt e (by decide)

theorem low31_apart {i j : Nat} (hij : i < j) (hj : j < 8128) : low31 (bitSum i) ≠ low31 (bitSum j) := by
  have h := (outer_good 64 2147483648 (.lf []) outer_true).2 i j hij (by omega)
  exact h

theorem bitSum_ne_zero (e : Nat) : bitSum e ≠ 0 := fun h => absurd (crcBits_pos e (by decide) h) (by decide)

theorem bitSum_add (m e : Nat) : bitSum (e + m) = crcBits m (bitSum e) := crcBits_add e m _

/-- Two bits never cancel. -/
theorem bitSum_two {i j : Nat} (hne : i ≠ j) (hi : i < 8128) (hj : j < 8128) : bitSum i ^^^ bitSum j ≠ 0 := by
  intro h
  have e : bitSum i = bitSum j := by
    have h2 : (bitSum i ^^^ bitSum j) ^^^ bitSum j = 0 ^^^ bitSum j := by rw [h]
    rwa [Nat.xor_assoc, Nat.xor_self, Nat.xor_zero, Nat.zero_xor] at h2
  rcases Nat.lt_or_gt_of_ne hne with hl | hl
  · exact low31_apart hl hj (by rw [e])
  · exact low31_apart hl hi (by rw [e])

theorem low31_xor (a b : Nat) : low31 (a ^^^ b) = low31 a ^^^ low31 b := Nat.xor_mod_two_pow (n := 31)

/-- Three bits never cancel, the first of them being the last of all. -/
theorem bitSum_three0 {i j : Nat} (hne : i ≠ j) (hi : i < 8128) (hj : j < 8128) : (bitSum 0 ^^^ bitSum i) ^^^ bitSum j ≠ 0 := by
  intro h
  have e : bitSum 0 ^^^ bitSum i = bitSum j := by
    have h2 : ((bitSum 0 ^^^ bitSum i) ^^^ bitSum j) ^^^ bitSum j = 0 ^^^ bitSum j := by rw [h]
    rwa [Nat.xor_assoc, Nat.xor_self, Nat.xor_zero, Nat.zero_xor] at h2
  have e2 := congrArg low31 e
  rw [low31_xor, show low31 (bitSum 0) = 0 from rfl, Nat.zero_xor] at e2
  rcases Nat.lt_or_gt_of_ne hne with hl | hl
  · exact low31_apart hl hj e2
  · exact low31_apart hl hi e2.symm

theorem bitSum_three {i j k : Nat} (hij : i ≠ j) (hik : i ≠ k) (hjk : j ≠ k) (hi : i < 8128) (hj : j < 8128) (hk : k < 8128) : (bitSum i ^^^ bitSum j) ^^^ bitSum k ≠ 0 := by
  have core : ∀ m a b : Nat, a ≠ b → m ≤ a → m ≤ b → a < 8128 → b < 8128 → (bitSum m ^^^ bitSum a) ^^^ bitSum b ≠ 0 := by
    intro m a b hab hma hmb ha hb h
    have e : ∀ x, m ≤ x → bitSum x = crcBits m (bitSum (x - m)) := fun x hx => by rw [← bitSum_add, show x - m + m = x by omega]
    rw [e m (Nat.le_refl _), e a hma, e b hmb, ← crcBits_xor, ← crcBits_xor, Nat.sub_self] at h
    exact bitSum_three0 (by omega) (by omega) (by omega) (crcBits_pos m (xor_lt32 (xor_lt32 (bitSum_lt _) (bitSum_lt _)) (bitSum_lt _)) h)
  rcases Nat.le_total i j with h1 | h1 <;> rcases Nat.le_total i k with h2 | h2 <;> rcases Nat.le_total j k with h3 | h3
  · exact core i j k hjk h1 h2 hj hk
  · exact core i j k hjk h1 h2 hj hk
  · exact core i j k hjk h1 (by omega) hj hk
  · rw [Nat.xor_comm]; rw [← Nat.xor_assoc]; exact core k i j hij (by omega) (by omega) hi hj
  · rw [Nat.xor_comm (bitSum i)]; exact core j i k hik h1 h3 hi hk
  · exact core i j k hjk (by omega) h2 hj hk
  · rw [Nat.xor_comm (bitSum i)]; exact core j i k hik h1 h3 hi hk
  · rw [Nat.xor_comm]; rw [← Nat.xor_assoc]; exact core k i j hij (by omega) (by omega) hi hj

end Go.Proofs.YtdacgdaglbjjeaaDoor
