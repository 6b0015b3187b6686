/-
  Numbers as limbs of 16 bits; a carry; the test on the whole part. Plain functions and their laws. Nothing here speaks of the program.
-/
namespace Go.Proofs.YtopchpaiehoilaaDoor

/-- A number's limbs of 16 bits, the lowest first. -/
def val : List Nat → Nat
  | [] => 0
  | c :: r => c + 65536 * val r
theorem val_lt : ∀ l : List Nat, (∀ x ∈ l, x < 65536) → val l < 65536 ^ l.length
  | [], _ => by simp [val]
  | c :: r, h => by
    have h1 := val_lt r (fun x hx => h x (by simp [hx]))
    have h2 := h c (by simp)
    rw [val, List.length_cons, Nat.pow_succ]
    omega
theorem val_append : ∀ (l r : List Nat), val (l ++ r) = val l + val r * 65536 ^ l.length
  | [], r => by simp [val]
  | c :: l, r => by
    rw [List.cons_append, val, val, val_append l r, List.length_cons, Nat.pow_succ]
    have e : val r * (65536 ^ l.length * 65536) = 65536 * (val r * 65536 ^ l.length) := by rw [← Nat.mul_assoc, Nat.mul_comm]
    rw [e]
    omega
theorem val_set : ∀ (l : List Nat) (i x : Nat), i < l.length → val (l.set i x) + l.getD i 0 * 65536 ^ i = val l + x * 65536 ^ i
  | c :: r, 0, x, _ => by simp [val]; omega
  | c :: r, i + 1, x, h => by
    have ih := val_set r i x (by simpa using h)
    rw [List.set_cons_succ, val, val, List.getD_cons_succ, Nat.pow_succ]
    have e1 : ∀ y : Nat, y * (65536 ^ i * 65536) = 65536 * (y * 65536 ^ i) := fun y => by rw [← Nat.mul_assoc, Nat.mul_comm]
    rw [e1, e1]
    omega
theorem val_zero (n : Nat) : val (List.replicate n 0) = 0 := by
  induction n with
  | zero => rfl
  | succ n ih => rw [List.replicate_succ, val, ih]
theorem limbs_set {l : List Nat} {i x : Nat} (h : ∀ y ∈ l, y < 65536) (hx : x < 65536) : ∀ y ∈ l.set i x, y < 65536 := by
  intro y hy
  rcases List.mem_or_eq_of_mem_set hy with h1 | h1
  · exact h y h1
  · rw [h1]; exact hx
theorem limb_lt {l : List Nat} (h : ∀ y ∈ l, y < 65536) (i : Nat) : l.getD i 0 < 65536 := by
  by_cases hi : i < l.length
  · have e : l.getD i 0 = l[i] := by simp [List.getD_eq_getElem?_getD, hi]
    rw [e]; exact h _ (List.getElem_mem hi)
  · rw [List.getD_eq_getElem?_getD, List.getElem?_eq_none (by omega)]; exact (by decide : (0 : Nat) < 65536)

/-- One step of a carry: what is kept. -/
theorem carry_step (y : List Nat) (c z : Nat) (hc : c < y.length) :
    val (y.set c ((z + y.getD c 0) % 65536)) + (z + y.getD c 0) / 65536 * 65536 ^ (c + 1) = val y + z * 65536 ^ c := by
  have h := val_set y c ((z + y.getD c 0) % 65536) hc
  generalize y.getD c 0 = v at *
  rw [Nat.pow_succ]
  generalize 65536 ^ c = P at *
  have e1 : (z + v) / 65536 * (P * 65536) = ((z + v) / 65536 * 65536) * P := by
    rw [Nat.mul_assoc, Nat.mul_comm 65536 P]
  have e2 : (z + v) % 65536 * P + ((z + v) / 65536 * 65536) * P = z * P + v * P := by
    rw [← Nat.add_mul, ← Nat.add_mul]
    congr 1
    omega
  rw [e1]
  omega
/-- A carry that is not yet nought has room. -/
theorem carry_room {y : List Nat} {c z n T : Nat} (hT : val y + z * 65536 ^ c = T) (hb : T < 65536 ^ n) (hz : 0 < z) : c < n := by
  rcases Nat.lt_or_ge c n with h | h
  · exact h
  · exfalso
    have h1 : 65536 ^ n ≤ 65536 ^ c := Nat.pow_le_pow_right (by decide) h
    have h2 : 65536 ^ c ≤ z * 65536 ^ c := Nat.le_mul_of_pos_left _ hz
    omega
theorem val_take_succ (x : List Nat) (a : Nat) (h : a < x.length) : val (x.take (a + 1)) = val (x.take a) + x.getD a 0 * 65536 ^ a := by
  rw [List.take_succ_eq_append_getElem h, val_append, List.length_take, Nat.min_eq_left (by omega)]
  simp [val, List.getD_eq_getElem?_getD, h]
theorem val_take_le (x : List Nat) (a : Nat) : val (x.take a) ≤ val x := by
  have h := val_append (x.take a) (x.drop a)
  rw [List.take_append_drop] at h
  omega
/-- A number's three limbs. -/
theorem val_three (m : Nat) : val [m % 65536, m / 65536 % 65536, m / 4294967296] = m := by
  simp only [val]
  omega
theorem val_drop (x : List Nat) (n : Nat) (h : ∀ y ∈ x, y < 65536) (hn : n ≤ x.length) : val (x.drop n) = val x / 65536 ^ n ∧ val (x.take n) = val x % 65536 ^ n := by
  have e := val_append (x.take n) (x.drop n)
  rw [List.take_append_drop, List.length_take, Nat.min_eq_left hn] at e
  have hl := val_lt (x.take n) (fun y hy => h y (List.mem_of_mem_take hy))
  rw [List.length_take, Nat.min_eq_left hn] at hl
  have hp : 0 < 65536 ^ n := Nat.pow_pos (by decide)
  constructor
  · rw [e, Nat.add_mul_div_right _ _ hp, Nat.div_eq_of_lt hl, Nat.zero_add]
  · rw [e, Nat.add_mul_mod_self_right, Nat.mod_eq_of_lt hl]
theorem val_eq_zero : ∀ l : List Nat, val l = 0 ↔ ∀ y ∈ l, y = 0
  | [] => by simp [val]
  | c :: r => by
    have ih := val_eq_zero r
    rw [val]
    constructor
    · intro h y hy
      rcases List.mem_cons.1 hy with h1 | h1
      · omega
      · exact ih.1 (by omega) y h1
    · intro h
      have h1 := h c (by simp)
      have h2 := ih.2 (fun y hy => h y (by simp [hy]))
      omega
/-- The test: is the whole part below, or just there with nothing behind? -/
theorem below_test (V p n : Nat) : (V / 65536 ^ n < p ∨ (V / 65536 ^ n = p ∧ V % 65536 ^ n = 0)) ↔ V ≤ p * 65536 ^ n := by
  have hp : 0 < 65536 ^ n := Nat.pow_pos (by decide)
  generalize 65536 ^ n = P at *
  have e := Nat.div_add_mod V P
  have hm := Nat.mod_lt V hp
  generalize V / P = q at *
  generalize V % P = r at *
  constructor
  · rintro (h | ⟨h1, h2⟩)
    · have : (q + 1) * P ≤ p * P := Nat.mul_le_mul_right _ h
      rw [Nat.add_mul, Nat.one_mul, Nat.mul_comm q P] at this
      omega
    · subst h1 h2
      rw [← e, Nat.mul_comm]; omega
  · intro h
    rcases Nat.lt_or_ge q p with h1 | h1
    · exact .inl h1
    · right
      have : p * P ≤ q * P := Nat.mul_le_mul_right _ h1
      rw [Nat.mul_comm q P] at this
      have hr : r = 0 := by omega
      have hpq : P * q = P * p := by rw [Nat.mul_comm P p]; omega
      exact ⟨Nat.eq_of_mul_eq_mul_left hp hpq, hr⟩

end Go.Proofs.YtopchpaiehoilaaDoor
