/-
  The sum of chapter 2 as a plain function on lists of bytes: linear, and one to one byte by byte. Nothing here speaks of the program.
-/
import Derived.Lib.Varint
namespace Go.Proofs.YtahffcbinpkdpaaDoor
open Go

/-- One bit leaves a sum. -/
def crcBit (c : Nat) : Nat := cond (Nat.beq (c % 2) 1) (Nat.xor (c / 2) 3988292384) (c / 2)

def crcBits : Nat → Nat → Nat
  | 0, c => c
  | k + 1, c => crcBits k (crcBit c)

/-- Further bytes are summed. -/
def crcOn (c : Nat) (l : List UInt8) : Nat := l.foldl (fun c b => crcBits 8 (c ^^^ b.toNat)) c

def crc (l : List UInt8) : Nat := crcOn 4294967295 l ^^^ 4294967295

theorem crcBit_odd {c : Nat} (h : c % 2 = 1) : crcBit c = (c / 2) ^^^ 3988292384 := by
  unfold crcBit
  rw [h]
  rfl
theorem crcBit_even {c : Nat} (h : c % 2 = 0) : crcBit c = c / 2 := by
  unfold crcBit
  rw [h]
  rfl

theorem crcBit_lt {c : Nat} (h : c < 4294967296) : crcBit c < 4294967296 := by
  rcases Nat.mod_two_eq_zero_or_one c with h0 | h1
  · rw [crcBit_even h0]; omega
  · rw [crcBit_odd h1]
    exact Nat.xor_lt_two_pow (n := 32) (by omega) (by decide)

theorem xor_div2 (a b : Nat) : (a ^^^ b) / 2 = (a / 2) ^^^ (b / 2) := by
  have := Nat.shiftRight_xor_distrib (a := a) (b := b) (i := 1)
  simpa [Nat.shiftRight_eq_div_pow] using this

theorem xor_mod2 (a b : Nat) : (a ^^^ b) % 2 = (a % 2 + b % 2) % 2 := by
  have h : ∀ n : Nat, n % 2 = if n.testBit 0 then 1 else 0 := by
    intro n
    rw [Nat.testBit_zero]
    rcases Nat.mod_two_eq_zero_or_one n with h | h <;> simp [h]
  rw [h (a ^^^ b), h a, h b, Nat.testBit_xor]
  cases a.testBit 0 <;> cases b.testBit 0 <;> rfl

theorem crcBit_xor (a b : Nat) : crcBit (a ^^^ b) = crcBit a ^^^ crcBit b := by
  have hm := xor_mod2 a b
  have hd := xor_div2 a b
  have e1 : ∀ x y p : Nat, (x ^^^ y) ^^^ p = (x ^^^ p) ^^^ y := fun x y p => by rw [Nat.xor_assoc, Nat.xor_comm y p, ← Nat.xor_assoc]
  have e2 : ∀ x y p : Nat, (x ^^^ y) ^^^ p = x ^^^ (y ^^^ p) := fun x y p => Nat.xor_assoc ..
  have e3 : ∀ x y p : Nat, x ^^^ y = (x ^^^ p) ^^^ (y ^^^ p) := fun x y p => by
    rw [Nat.xor_assoc, Nat.xor_comm y p, ← Nat.xor_assoc p p, Nat.xor_self, Nat.zero_xor]
  rcases Nat.mod_two_eq_zero_or_one a with ha | ha <;> rcases Nat.mod_two_eq_zero_or_one b with hb | hb
  · rw [crcBit_even ha, crcBit_even hb, crcBit_even (by rw [hm, ha, hb]), hd]
  · rw [crcBit_even ha, crcBit_odd hb, crcBit_odd (by rw [hm, ha, hb]), hd, e2]
  · rw [crcBit_odd ha, crcBit_even hb, crcBit_odd (by rw [hm, ha, hb]), hd, e1]
  · rw [crcBit_odd ha, crcBit_odd hb, crcBit_even (by rw [hm, ha, hb]), hd]
    exact e3 _ _ _

theorem crcBit_zero : crcBit 0 = 0 := rfl

theorem crcBit_pos {c : Nat} (h : c < 4294967296) (h0 : crcBit c = 0) : c = 0 := by
  rcases Nat.mod_two_eq_zero_or_one c with he | ho
  · rw [crcBit_even he] at h0; omega
  · rw [crcBit_odd ho] at h0
    have h1 : c / 2 = 3988292384 := by
      have h2 : (c / 2 ^^^ 3988292384) ^^^ 3988292384 = 0 ^^^ 3988292384 := by rw [h0]
      rwa [Nat.xor_assoc, Nat.xor_self, Nat.xor_zero, Nat.zero_xor] at h2
    omega

theorem crcBits_lt : ∀ (k : Nat) {c : Nat}, c < 4294967296 → crcBits k c < 4294967296
  | 0, _, h => h
  | k + 1, _, h => crcBits_lt k (crcBit_lt h)
theorem crcBits_xor : ∀ (k a b : Nat), crcBits k (a ^^^ b) = crcBits k a ^^^ crcBits k b
  | 0, _, _ => rfl
  | k + 1, a, b => by
    show crcBits k (crcBit (a ^^^ b)) = _
    rw [crcBit_xor, crcBits_xor k]
    rfl
theorem crcBits_zero : ∀ k, crcBits k 0 = 0
  | 0 => rfl
  | k + 1 => crcBits_zero k
theorem crcBits_pos : ∀ (k : Nat) {c : Nat}, c < 4294967296 → crcBits k c = 0 → c = 0
  | 0, _, _, h => h
  | k + 1, _, hc, h => crcBit_pos hc (crcBits_pos k (crcBit_lt hc) h)
theorem crcBits_add : ∀ (m n c : Nat), crcBits (m + n) c = crcBits n (crcBits m c)
  | 0, n, c => by rw [Nat.zero_add]; rfl
  | m + 1, n, c => by
    rw [show m + 1 + n = (m + n) + 1 by omega]
    exact crcBits_add m n (crcBit c)

/-- The even ones shrink: what is a multiple loses its lowest bits. -/
theorem crcBits_shift : ∀ (k h : Nat), crcBits k (2 ^ k * h) = h
  | 0, h => by rw [Nat.pow_zero, Nat.one_mul]; rfl
  | k + 1, h => by
    show crcBits k (crcBit _) = h
    have e : 2 ^ (k + 1) * h = 2 * (2 ^ k * h) := by rw [Nat.pow_succ, Nat.mul_comm (2 ^ k) 2, Nat.mul_assoc]
    rw [e, crcBit_even (Nat.mul_mod_right 2 _), Nat.mul_div_cancel_left _ (by decide)]
    exact crcBits_shift k h

/-- By four bits at once, as a table of sixteen has them. -/
theorem split16 (c : Nat) : c = (2 ^ 4 * (c / 16)) ^^^ (c % 16) := by
  apply Nat.eq_of_testBit_eq
  intro i
  rw [Nat.testBit_xor, Nat.testBit_two_pow_mul, show (16 : Nat) = 2 ^ 4 from rfl, Nat.testBit_mod_two_pow, Nat.testBit_div_two_pow]
  by_cases h : i < 4
  · simp [h, show ¬ 4 ≤ i by omega]
  · have h' : 4 ≤ i := by omega
    simp [h, h', Nat.sub_add_cancel h']
theorem crcBits_four (c : Nat) : crcBits 4 c = (c / 16) ^^^ crcBits 4 (c % 16) := by
  conv => lhs; rw [split16 c]
  rw [crcBits_xor, crcBits_shift]
theorem crcBits_eight (c : Nat) : crcBits 8 c = crcBits 4 (crcBits 4 c) := crcBits_add 4 4 c

theorem crcOn_nil (c : Nat) : crcOn c [] = c := rfl
theorem crcOn_cons (c : Nat) (b : UInt8) (l : List UInt8) : crcOn c (b :: l) = crcOn (crcBits 8 (c ^^^ b.toNat)) l := rfl
theorem crcOn_append (c : Nat) (a b : List UInt8) : crcOn c (a ++ b) = crcOn (crcOn c a) b := by
  unfold crcOn
  rw [List.foldl_append]
theorem crcOn_snoc (c : Nat) (l : List UInt8) (b : UInt8) : crcOn c (l ++ [b]) = crcBits 8 (crcOn c l ^^^ b.toNat) := by
  rw [crcOn_append]
  rfl

theorem xor_lt32 {a b : Nat} (ha : a < 4294967296) (hb : b < 4294967296) : a ^^^ b < 4294967296 := Nat.xor_lt_two_pow (n := 32) ha hb
theorem byte_lt32 (b : UInt8) : b.toNat < 4294967296 := by have := b.toNat_lt; omega

theorem crcOn_lt : ∀ (l : List UInt8) {c : Nat}, c < 4294967296 → crcOn c l < 4294967296
  | [], _, h => h
  | b :: l, _, h => crcOn_lt l (crcBits_lt 8 (xor_lt32 h (byte_lt32 b)))
theorem crc_lt (l : List UInt8) : crc l < 4294967296 := xor_lt32 (crcOn_lt l (by decide)) (by decide)

def xorL (x y : List UInt8) : List UInt8 := List.zipWith (· ^^^ ·) x y

theorem crcOn_xor : ∀ (x y : List UInt8) (a b : Nat), x.length = y.length → crcOn (a ^^^ b) (xorL x y) = crcOn a x ^^^ crcOn b y
  | [], [], _, _, _ => rfl
  | p :: x, q :: y, a, b, h => by
    show crcOn (crcBits 8 ((a ^^^ b) ^^^ (p ^^^ q).toNat)) (xorL x y) = _
    have e : (a ^^^ b) ^^^ (p ^^^ q).toNat = (a ^^^ p.toNat) ^^^ (b ^^^ q.toNat) := by
      rw [UInt8.toNat_xor, Nat.xor_assoc, Nat.xor_assoc, ← Nat.xor_assoc b, Nat.xor_comm b p.toNat, Nat.xor_assoc]
    rw [e, crcBits_xor]
    exact crcOn_xor x y _ _ (by simpa using h)

theorem crcOn_zeros : ∀ (n c : Nat), crcOn c (List.replicate n 0) = crcBits (8 * n) c
  | 0, _ => rfl
  | n + 1, c => by
    rw [List.replicate_succ, crcOn_cons, crcOn_zeros n]
    have e : c ^^^ (0 : UInt8).toNat = c := Nat.xor_zero c
    rw [e, show 8 * (n + 1) = 8 + 8 * n by omega, crcBits_add]

/-- Set at one place by an xor: the sum turns by what that byte alone makes. -/
theorem crcOn_turn (l : List UInt8) (i : Nat) (h : i < l.length) (d : UInt8) (c : Nat) : crcOn c (l.set i (l[i] ^^^ d)) = crcOn c l ^^^ crcBits (8 * (l.length - i)) d.toNat := by
  have hs : l = l.take i ++ l[i] :: l.drop (i + 1) := by simp
  have hset : l.set i (l[i] ^^^ d) = l.take i ++ (l[i] ^^^ d) :: l.drop (i + 1) := by rw [List.set_eq_take_append_cons_drop, if_pos h]
  rw [hset]
  conv => rhs; rw [hs]
  simp only [crcOn_append, crcOn_cons]
  have e1 : crcOn c (l.take i) ^^^ (l[i] ^^^ d).toNat = (crcOn c (l.take i) ^^^ l[i].toNat) ^^^ d.toNat := by rw [UInt8.toNat_xor, Nat.xor_assoc]
  have e2 : ∀ (x y : Nat) (t : List UInt8), crcOn (x ^^^ y) t = crcOn x t ^^^ crcBits (8 * t.length) y := by
    intro x y t
    rw [← crcOn_zeros, ← crcOn_xor t _ _ _ (by simp)]
    congr 1
    unfold xorL
    apply List.ext_getElem
    · simp
    · intro j h1 h2
      simp
  rw [e1, crcBits_xor, e2, List.length_drop, ← crcBits_add]
  congr 2
  simp
  omega

end Go.Proofs.YtahffcbinpkdpaaDoor
