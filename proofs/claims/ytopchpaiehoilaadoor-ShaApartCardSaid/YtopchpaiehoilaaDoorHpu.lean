/-
  SHA-256 as a plain function on lists. Nothing here speaks of the program.
-/
namespace Go.Proofs.YtopchpaiehoilaaDoor

/-- Turned right by n. -/
def rot (n x : Nat) : Nat := (x / 2 ^ n) ||| (x * 2 ^ (32 - n) % 4294967296)
def add32 (a b : Nat) : Nat := (a + b) % 4294967296

theorem rot_lt {n x : Nat} (hx : x < 4294967296) : rot n x < 4294967296 := by
  unfold rot
  exact Nat.or_lt_two_pow (n := 32) (Nat.lt_of_le_of_lt (Nat.div_le_self _ _) hx) (Nat.mod_lt _ (by decide))
theorem add32_lt (a b : Nat) : add32 a b < 4294967296 := Nat.mod_lt _ (by decide)
theorem xor_lt {a b : Nat} (ha : a < 4294967296) (hb : b < 4294967296) : a ^^^ b < 4294967296 := Nat.xor_lt_two_pow (n := 32) ha hb
theorem and_lt {a b : Nat} (ha : a < 4294967296) : a &&& b < 4294967296 := Nat.lt_of_le_of_lt Nat.and_le_left ha
theorem or_lt {a b : Nat} (ha : a < 4294967296) (hb : b < 4294967296) : a ||| b < 4294967296 := Nat.or_lt_two_pow (n := 32) ha hb

/-- The state. -/
structure S8 where
  a : Nat
  b : Nat
  c : Nat
  d : Nat
  e : Nat
  f : Nat
  g : Nat
  h : Nat
def S8.list (s : S8) : List Nat := [s.a, s.b, s.c, s.d, s.e, s.f, s.g, s.h]
def S8.Ok (s : S8) : Prop := s.a < 4294967296 ∧ s.b < 4294967296 ∧ s.c < 4294967296 ∧ s.d < 4294967296 ∧ s.e < 4294967296 ∧ s.f < 4294967296 ∧ s.g < 4294967296 ∧ s.h < 4294967296

/-- A block's words. -/
def word (p q r t : Nat) : Nat := ((p * 16777216 ||| q * 65536) ||| r * 256) ||| t
def far (x : Nat) : Nat := (rot 7 x ^^^ rot 18 x) ^^^ (x / 8)
def near (x : Nat) : Nat := (rot 17 x ^^^ rot 19 x) ^^^ (x / 1024)
def nextWord (b : List UInt8) (l : List Nat) (k : Nat) : Nat :=
  if k < 16 then word (b.getD (4 * k) 0).toNat (b.getD (4 * k + 1) 0).toNat (b.getD (4 * k + 2) 0).toNat (b.getD (4 * k + 3) 0).toNat
  else add32 (add32 (add32 (l.getD (k - 16) 0) (far (l.getD (k - 15) 0))) (l.getD (k - 7) 0)) (near (l.getD (k - 2) 0))
def wordsOf (b : List UInt8) : Nat → List Nat
  | 0 => []
  | k + 1 => wordsOf b k ++ [nextWord b (wordsOf b k) k]

/-- A turn. -/
def high (e : Nat) : Nat := (rot 6 e ^^^ rot 11 e) ^^^ rot 25 e
def low_ (a : Nat) : Nat := (rot 2 a ^^^ rot 13 a) ^^^ rot 22 a
def chs (e f g : Nat) : Nat := (e &&& f) ^^^ ((4294967295 ^^^ e) &&& g)
def maj (a b c : Nat) : Nat := ((a &&& b) ^^^ (a &&& c)) ^^^ (b &&& c)
def one8 (s : S8) (k w : Nat) : Nat := add32 (add32 (add32 (add32 s.h (high s.e)) (chs s.e s.f s.g)) k) w
def two8 (s : S8) : Nat := add32 (low_ s.a) (maj s.a s.b s.c)
def turn8 (s : S8) (k w : Nat) : S8 := ⟨add32 (one8 s k w) (two8 s), s.a, s.b, s.c, add32 s.d (one8 s k w), s.e, s.f, s.g⟩
def runs (K W : List Nat) (s : S8) : Nat → S8
  | 0 => s
  | n + 1 => turn8 (runs K W s n) (K.getD n 0) (W.getD n 0)
def add8 (s t : S8) : S8 := ⟨add32 s.a t.a, add32 s.b t.b, add32 s.c t.c, add32 s.d t.d, add32 s.e t.e, add32 s.f t.f, add32 s.g t.g, add32 s.h t.h⟩
def mix8 (K : List Nat) (s : S8) (b : List UInt8) : S8 := add8 s (runs K (wordsOf b 64) s 64)

theorem far_lt {x : Nat} (h : x < 4294967296) : far x < 4294967296 := xor_lt (xor_lt (rot_lt h) (rot_lt h)) (Nat.lt_of_le_of_lt (Nat.div_le_self _ _) h)
theorem near_lt {x : Nat} (h : x < 4294967296) : near x < 4294967296 := xor_lt (xor_lt (rot_lt h) (rot_lt h)) (Nat.lt_of_le_of_lt (Nat.div_le_self _ _) h)
theorem high_lt {x : Nat} (h : x < 4294967296) : high x < 4294967296 := xor_lt (xor_lt (rot_lt h) (rot_lt h)) (rot_lt h)
theorem low_lt_ {x : Nat} (h : x < 4294967296) : low_ x < 4294967296 := xor_lt (xor_lt (rot_lt h) (rot_lt h)) (rot_lt h)
theorem word_lt {p q r t : Nat} (hp : p < 256) (hq : q < 256) (hr : r < 256) (ht : t < 256) : word p q r t < 4294967296 := or_lt (or_lt (or_lt (by omega) (by omega)) (by omega)) (by omega)
theorem nextWord_lt (b : List UInt8) (l : List Nat) (k : Nat) : nextWord b l k < 4294967296 := by
  unfold nextWord
  split
  · exact word_lt (UInt8.toNat_lt _) (UInt8.toNat_lt _) (UInt8.toNat_lt _) (UInt8.toNat_lt _)
  · exact add32_lt _ _
theorem wordsOf_length (b : List UInt8) : ∀ k, (wordsOf b k).length = k
  | 0 => rfl
  | k + 1 => by simp [wordsOf, wordsOf_length b k]
theorem wordsOf_lt (b : List UInt8) : ∀ k i, (wordsOf b k).getD i 0 < 4294967296
  | 0, i => by simp [wordsOf]
  | k + 1, i => by
    rw [wordsOf]
    by_cases h : i < k
    · have := wordsOf_lt b k i
      simp only [List.getD_eq_getElem?_getD, List.getElem?_append_left (show i < (wordsOf b k).length by rw [wordsOf_length]; exact h)] at *
      exact this
    · simp only [List.getD_eq_getElem?_getD, List.getElem?_append_right (show (wordsOf b k).length ≤ i by rw [wordsOf_length]; omega)]
      cases hi : i - (wordsOf b k).length with
      | zero => simpa using nextWord_lt _ _ _
      | succ j => simp

theorem turn8_ok {s : S8} (h : s.Ok) (k w : Nat) : (turn8 s k w).Ok := ⟨add32_lt _ _, h.1, h.2.1, h.2.2.1, add32_lt _ _, h.2.2.2.2.1, h.2.2.2.2.2.1, h.2.2.2.2.2.2.1⟩
theorem runs_ok {s : S8} (h : s.Ok) (K W : List Nat) : ∀ n, (runs K W s n).Ok
  | 0 => h
  | n + 1 => turn8_ok (runs_ok h K W n) _ _
theorem add8_ok (s t : S8) : (add8 s t).Ok := ⟨add32_lt _ _, add32_lt _ _, add32_lt _ _, add32_lt _ _, add32_lt _ _, add32_lt _ _, add32_lt _ _, add32_lt _ _⟩
theorem mix8_ok (K : List Nat) (s : S8) (b : List UInt8) : (mix8 K s b).Ok := add8_ok _ _

/-- All whole blocks, one behind the other. -/
def soakF (K : List Nat) : Nat → S8 → List UInt8 → S8
  | 0, s, _ => s
  | n + 1, s, l => soakF K n (mix8 K s (l.take 64)) (l.drop 64)
def soak (K : List Nat) (s : S8) (l : List UInt8) : S8 := soakF K (l.length / 64) s l

theorem soakF_ok (K : List Nat) : ∀ n s l, S8.Ok s → (soakF K n s l).Ok
  | 0, _, _, h => h
  | n + 1, _, _, _ => soakF_ok K n _ _ (mix8_ok _ _ _)
theorem soak_ok (K : List Nat) {s : S8} (h : s.Ok) (l : List UInt8) : (soak K s l).Ok := soakF_ok K _ _ _ h

theorem soakF_add (K : List Nat) : ∀ n m s l, soakF K (n + m) s l = soakF K m (soakF K n s l) (l.drop (64 * n))
  | 0, m, s, l => by simp [soakF]
  | n + 1, m, s, l => by
    rw [show n + 1 + m = (n + m) + 1 by omega, soakF, soakF_add K n m, soakF, List.drop_drop]
    congr 2
    omega
theorem soakF_take (K : List Nat) : ∀ n s l r, 64 * n ≤ l.length → soakF K n s (l ++ r) = soakF K n s l
  | 0, _, _, _, _ => rfl
  | n + 1, s, l, r, h => by
    rw [soakF, soakF, List.take_append_of_le_length (by omega), List.drop_append_of_le_length (by omega)]
    exact soakF_take K n _ _ r (by simp; omega)

/-- A tail that fills no block changes nothing. -/
theorem soak_tail (K : List Nat) (s : S8) (l r : List UInt8) (h : (l.length + r.length) / 64 = l.length / 64) : soak K s (l ++ r) = soak K s l := by
  unfold soak
  rw [List.length_append, h]
  exact soakF_take K _ _ _ _ (by omega)
/-- One more block. -/
theorem soak_block (K : List Nat) (s : S8) (l b : List UInt8) (hl : l.length % 64 = 0) (hb : b.length = 64) : soak K s (l ++ b) = mix8 K (soak K s l) b := by
  unfold soak
  rw [List.length_append, hb, show (l.length + 64) / 64 = l.length / 64 + 1 by omega, soakF_add]
  rw [soakF_take K _ _ _ _ (by omega), show 64 * (l.length / 64) = l.length by omega, List.drop_left]
  rw [soakF, soakF, List.take_of_length_le (by omega)]

/-- What stands behind the last byte. -/
def be8 : Nat → Nat → List UInt8
  | 0, _ => []
  | n + 1, u => be8 n (u / 256) ++ [(u % 256).toUInt8]
def padOf (n : Nat) : List UInt8 := 128 :: (List.replicate ((119 - n % 64) % 64) 0 ++ be8 8 (8 * n))
def outOf (s : S8) : List UInt8 := s.list.flatMap fun u => be8 4 u
def shaWith (K : List Nat) (s : S8) (l : List UInt8) : List UInt8 := outOf (soak K s (l ++ padOf l.length))

theorem be8_length (u : Nat) : ∀ n, (be8 n u).length = n
  | 0 => rfl
  | n + 1 => by simp [be8, be8_length (u / 256) n]
theorem padOf_length (n : Nat) : (padOf n).length = 9 + (119 - n % 64) % 64 := by simp [padOf, be8_length]; omega
theorem padOf_whole (n : Nat) : (n + (padOf n).length) % 64 = 0 := by rw [padOf_length]; omega
theorem outOf_length (s : S8) : (outOf s).length = 32 := by simp [outOf, S8.list, be8_length]

end Go.Proofs.YtopchpaiehoilaaDoor
