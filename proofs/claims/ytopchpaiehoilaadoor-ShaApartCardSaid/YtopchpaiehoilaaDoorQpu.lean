/-
  The document's own tables of SHA-256: the first primes, their roots' fractions by bisection: plain functions, and that they are the constants. Nothing here speaks of the program.
-/
import Derived.Test.YtopchpaiehoilaaDoorHtb
namespace Go.Proofs.YtopchpaiehoilaaDoor
set_option maxRecDepth 100000

/-- The numbers from 2 up, k of them looked at: those that none ahead divides. -/
def pr : Nat → List Nat
  | 0 => []
  | k + 1 => if (pr k).all fun q => (k + 2) % q != 0 then pr k ++ [k + 2] else pr k
def PRIMES : List Nat := [2, 3, 5, 7, 11, 13, 17, 19, 23, 29, 31, 37, 41, 43, 47, 53, 59, 61, 67, 71, 73, 79, 83, 89, 97, 101, 103, 107, 109, 113, 127, 131, 137, 139, 149, 151, 157, 163, 167, 173, 179, 181, 191, 193, 197, 199, 211, 223, 227, 229, 233, 239, 241, 251, 257, 263, 269, 271, 277, 281, 283, 293, 307, 311]
/-- The same with what was found so far at hand: for the kernel. -/
def prF : Nat → Nat → List Nat → List Nat
  | 0, _, l => l
  | n + 1, p, l => prF n (p + 1) (if l.all fun q => p % q != 0 then l ++ [p] else l)
theorem pr_prF : ∀ n k, prF n (k + 2) (pr k) = pr (k + n)
  | 0, k => rfl
  | n + 1, k => by
    have h := pr_prF n (k + 1)
    rw [show k + 1 + n = k + (n + 1) by omega] at h
    rw [prF, ← h]
    rfl
theorem pr_309 : pr 309 = PRIMES.take 63 := by
  have h := pr_prF 309 0
  rw [Nat.zero_add] at h
  rw [← h]
  decide +kernel
theorem pr_310 : pr 310 = PRIMES := by
  have h := pr_prF 310 0
  rw [Nat.zero_add] at h
  rw [← h]
  decide +kernel
theorem pr_mono : ∀ k, (pr k).length ≤ (pr (k + 1)).length := fun k => by
  show _ ≤ (if (pr k).all fun q => (k + 2) % q != 0 then pr k ++ [k + 2] else pr k).length
  split
  · simp
  · exact Nat.le_refl _
theorem pr_le : ∀ d k, (pr k).length ≤ (pr (k + d)).length
  | 0, _ => Nat.le_refl _
  | d + 1, k => Nat.le_trans (pr_le d k) (pr_mono (k + d))
theorem pr_short (k : Nat) (h : k ≤ 309) : (pr k).length ≤ 63 := by
  have h1 := pr_le (309 - k) k
  rw [show k + (309 - k) = 309 by omega, pr_309] at h1
  exact Nat.le_trans h1 (by decide)

/-- The bisection. -/
def bis (k p : Nat) : Nat → Nat × Nat
  | 0 => (0, 137438953472)
  | j + 1 => let s := bis k p j; let m := (s.1 + s.2) / 2; if m ^ k ≤ p * 2 ^ (32 * k) then (m, s.2) else (s.1, m)
def rootOf (p k : Nat) : Nat := (bis k p 37).1 % 4294967296
def CUBES : List Nat := [5411319704, 6194414737, 7344290767, 8215976869, 9551921755, 10098905585, 11043570340, 11460697813, 12214315672, 13195500289, 13492127166, 14311783875, 14809980276, 15046980094, 15499789991, 16133124468, 16720292289, 16907126662, 17444216262, 17784676812, 17950125167, 18429019306, 18734950876, 19175934170, 19734090066, 20001703533, 20132865992, 20390182855, 20516441075, 20764397895, 21588763473, 21813078375, 22141143685, 22248366392, 22769593852, 22871018771, 23170020180, 23461497531, 23651862830, 23931792517, 24205322401, 24295138891, 24734567280, 24820601251, 24990902297, 25075189284, 25569408389, 26045227120, 26200031510, 26276752392, 26428864332, 26653801653, 26727943347, 27092625994, 27306805839, 27517677555, 27725365998, 27793908591, 27997534228, 28131656200, 28198240250, 28526537963, 28973835255, 29099129074]
def SQUARES : List Nat := [6074000999, 7439101573, 9603838834, 11363415354, 14244795007, 15485724812, 17708603819, 18721328409]
/-- How far apart. -/
theorem bis_width (k p : Nat) : ∀ j, j ≤ 37 → (bis k p j).2 = (bis k p j).1 + 2 ^ (37 - j)
  | 0, _ => by simp [bis]
  | j + 1, h => by
    have ih := bis_width k p j (by omega)
    have e : 2 ^ (37 - j) = 2 * 2 ^ (37 - (j + 1)) := by rw [show 37 - j = (37 - (j + 1)) + 1 by omega, Nat.pow_succ, Nat.mul_comm]
    generalize 2 ^ (37 - (j + 1)) = d at *
    simp only [bis]
    generalize bis k p j = s at *
    obtain ⟨lo, hi⟩ := s
    simp only at ih ⊢
    split <;> simp only <;> omega
theorem bis_le (k p : Nat) (j : Nat) (h : j ≤ 37) : (bis k p j).2 ≤ 137438953472 := by
  induction j with
  | zero => exact Nat.le_refl _
  | succ j ih =>
    have h0 := ih (by omega)
    have w := bis_width k p j (by omega)
    have w2 : 0 < 2 ^ (37 - j) := Nat.pow_pos (by decide)
    simp only [bis]
    generalize 2 ^ (37 - j) = d at *
    split <;> simp only <;> omega

theorem bis_spec (k p : Nat) (hk : 0 < k) (hp : p * 2 ^ (32 * k) < 137438953472 ^ k) : ∀ j, (bis k p j).1 ^ k ≤ p * 2 ^ (32 * k) ∧ p * 2 ^ (32 * k) < (bis k p j).2 ^ k
  | 0 => ⟨by show 0 ^ k ≤ _; rw [Nat.zero_pow hk]; exact Nat.zero_le _, hp⟩
  | j + 1 => by
    obtain ⟨h1, h2⟩ := bis_spec k p hk hp j
    simp only [bis]
    split
    · exact ⟨by assumption, h2⟩
    · exact ⟨h1, by simp only; omega⟩
theorem root_is (k p c : Nat) (hk : 0 < k) (hp : p * 2 ^ (32 * k) < 137438953472 ^ k) (h1 : c ^ k ≤ p * 2 ^ (32 * k)) (h2 : p * 2 ^ (32 * k) < (c + 1) ^ k) : (bis k p 37).1 = c := by
  obtain ⟨s1, s2⟩ := bis_spec k p hk hp 37
  have w := bis_width k p 37 (Nat.le_refl _)
  rw [w, show 37 - 37 = 0 from rfl, Nat.pow_zero] at s2
  have a1 : (bis k p 37).1 < c + 1 := (Nat.pow_lt_pow_iff_left (by omega)).1 (Nat.lt_of_le_of_lt s1 h2)
  have a2 : c < (bis k p 37).1 + 1 := (Nat.pow_lt_pow_iff_left (by omega)).1 (Nat.lt_of_le_of_lt h1 s2)
  omega
def fits (k : Nat) (x : Nat × Nat) : Bool := decide (x.1 * 2 ^ (32 * k) < 137438953472 ^ k) && (decide (x.2 ^ k ≤ x.1 * 2 ^ (32 * k)) && decide (x.1 * 2 ^ (32 * k) < (x.2 + 1) ^ k))
theorem cubes_fit : (PRIMES.zip CUBES).all (fits 3) = true := by decide +kernel
theorem squares_fit : ((PRIMES.take 8).zip SQUARES).all (fits 2) = true := by decide +kernel
theorem cubes_low : CUBES.map (· % 4294967296) = KT := by decide +kernel
theorem squares_low : SQUARES.map (· % 4294967296) = IT := by decide +kernel
theorem roots_all (k : Nat) (hk : 0 < k) : ∀ (P C : List Nat), P.length = C.length → (P.zip C).all (fits k) = true → P.map (fun p => rootOf p k) = C.map (· % 4294967296)
  | [], [], _, _ => rfl
  | [], _ :: _, h, _ => by simp at h
  | _ :: _, [], h, _ => by simp at h
  | p :: P, c :: C, h, hf => by
    rw [List.zip_cons_cons, List.all_cons, Bool.and_eq_true] at hf
    obtain ⟨h1, h2⟩ := hf
    simp only [fits, Bool.and_eq_true, decide_eq_true_eq] at h1
    rw [List.map_cons, List.map_cons, roots_all k hk P C (by simpa using h) h2, rootOf, root_is k p c hk h1.1 h1.2.1 h1.2.2]
theorem cube_roots : PRIMES.map (fun p => rootOf p 3) = KT := (roots_all 3 (by decide) PRIMES CUBES rfl cubes_fit).trans cubes_low
theorem square_roots : (PRIMES.take 8).map (fun p => rootOf p 2) = IT := (roots_all 2 (by decide) (PRIMES.take 8) SQUARES rfl squares_fit).trans squares_low

end Go.Proofs.YtopchpaiehoilaaDoor
