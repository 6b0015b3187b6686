/-
  What pack's readers do: firstNumber, unfold, the Reader's methods.
-/
import Derived.Test.YthgcoeienbgmhaaPwr2
import Derived.Test.YthgcoeienbgmhaaNum
import Derived.Lib.VarintBits
namespace Go.Proofs.Ythgcoeienbgmhaa
open Go Go.RowKit

theorem or_step (k acc m : Nat) (hacc : acc < 2 ^ (7 * k)) (hlt : acc + m * 2 ^ (7 * k) < 18446744073709551616) :
    bits .or .u64 (acc : Int) (IntKind.u64.wrap ((m : Int) * 2 ^ (7 * k))) = ((acc + m * 2 ^ (7 * k) : Nat) : Int) := by
  have e1 : ((m : Int) * 2 ^ (7 * k)) = ((m * 2 ^ (7 * k) : Nat) : Int) := by
    rw [Int.natCast_mul, Int.natCast_pow]; rfl
  generalize hp : m * 2 ^ (7 * k) = p at *
  have e2 : IntKind.u64.wrap (p : Int) = (p : Int) := by rw [IntKind.wrap_u64]; omega
  rw [e1, e2, u64_or_nat _ _ (by omega) (by omega)]
  congr 1
  have h := Nat.two_pow_add_eq_or_of_lt hacc m
  rw [Nat.mul_comm, hp] at h
  rw [Nat.or_comm, ← h, Nat.add_comm]

theorem step_lt (k acc m : Nat) (hk : k ≤ 8) (hacc : acc < 2 ^ (7 * k)) (hm : m < 128) : acc + m * 2 ^ (7 * k) < 2 ^ (7 * (k + 1)) ∧ 2 ^ (7 * (k + 1)) ≤ 9223372036854775808 := by
  have hp : (2 : Nat) ^ (7 * (k + 1)) = 128 * 2 ^ (7 * k) := by rw [show 7 * (k + 1) = 7 + 7 * k by omega, Nat.pow_add]
  have h1 : m * 2 ^ (7 * k) ≤ 127 * 2 ^ (7 * k) := Nat.mul_le_mul_right _ (by omega)
  have h2 : (2 : Nat) ^ (7 * (k + 1)) ≤ 2 ^ 63 := Nat.pow_le_pow_right (by decide) (by omega)
  exact ⟨by omega, by simpa using h2⟩

theorem tuple_eq {a b c d : Int} (h : a = b) (h' : c = d) : Ending.returned (.tuple #[.int .u64 a, .int .i64 c]) = .returned (.tuple #[.int .u64 b, .int .i64 d]) := by rw [h, h']

set_option maxHeartbeats 2000000 in
set_option maxRecDepth 100000 in
/-- firstNumber(b), b not empty. -/
theorem firstNumber_some (b o c : Nat) (l : List UInt8) (w : World) (hl : l.length ≤ maxLen) (hcell : ∀ i (h : i < l.length), w.cell? ⟨b, o + i, none⟩ = some (.int .u8 (l[i].toNat : Int))) :
    Calls Try.prog 27 #[.slice (some ⟨b, o, none⟩) l.length c] w fun e w' => e = .returned (.tuple #[.int .u64 (num l).1, .int .i64 (num l).2]) ∧ w = w' := by
  unfold maxLen at hl
  go_enter Try.func27, Try.ntmps27
  go_wp2
  go_loop [2, 9] (fun vu vi => ∃ k acc : Nat, vi = .int .i64 k ∧ vu = .int .u64 acc ∧ k ≤ 9 ∧ k ≤ l.length ∧ acc < 2 ^ (7 * k) ∧ num l = numFrom k acc (l.drop k))
    (fun _ vi => l.length - (intOf vi).toNat)
  case atStart => exact ⟨0, 0, rfl, rfl, by omega, by omega, by decide, rfl⟩
  case round =>
    obtain ⟨k, acc, rfl, rfl, hk9, hkn, hacc, hdec⟩ := hrel
    by_cases hk : k < l.length
    · have hc := hcell k hk
      have hdrop : l.drop k = l[k]'(by omega) :: l.drop (k + 1) := List.drop_eq_getElem_cons (by omega)
      rw [hdrop] at hdec
      generalize l[k]'(by omega) = x at hc hdec
      have hb256 : x.toNat < 256 := x.toNat_lt
      clear hcell hdrop
      obtain ⟨m, hm⟩ : ∃ m, m = x.toNat % 128 := ⟨_, rfl⟩
      have hm128 : m < 128 := by omega
      have hand : bits .and .u8 (x.toNat : Int) 127 = (m : Int) := by rw [u8_and127 _ (by omega) (by omega)]; omega
      have HM := Lib.hid hm
      clear hm
      unfold numFrom at hdec
      by_cases k9 : k = 9
      · have t1 : ((k : Int) == 9) = true := by simp; omega
        by_cases hx1 : 1 < x.toNat
        · rw [if_pos ⟨k9, hx1⟩] at hdec
          have HD := Lib.hid hdec
          have HA := Lib.hid hacc
          clear hdec hacc k9
          go_wp2
          go_ret2
          exact ⟨by rw [HD.out]; rfl, rfl⟩
        · by_cases hx0 : x.toNat = 0
          · rw [if_neg (by omega), if_neg (by omega), if_pos (by omega)] at hdec
            have t2 : ((x.toNat : Int) == 0) = true := by simp; omega
            have hk0 : (0 : Int) < (k : Int) := by omega
            have HD := Lib.hid hdec
            have HA := Lib.hid hacc
            have hx0' : x.toNat ≤ 0 := by omega
            clear hdec hacc k9 hx0
            go_wp2
            go_ret2
            exact ⟨by rw [HD.out]; rfl, rfl⟩
          · rw [if_neg (by omega), if_neg (by omega), if_neg (by omega)] at hdec
            have t2 : ((x.toNat : Int) == 0) = false := by simp; omega
            have HD := Lib.hid hdec
            have HA := Lib.hid hacc
            have HK := Lib.hid k9
            have hx1' : x.toNat = 1 := by omega
            have HX := Lib.hid hx1'
            clear hdec hacc k9 hx0 hx1'
            go_wp2
            go_ret2
            have hm := HM.out
            have hacc := HA.out
            have hk9' := HK.out
            have hx1' := HX.out
            have e9 : (2 : Nat) ^ (7 * k) = 9223372036854775808 := by rw [hk9']
            have hmx : m = x.toNat := by omega
            have hlt : acc + m * 2 ^ (7 * k) < 18446744073709551616 := by rw [e9] at hacc ⊢; omega
            exact ⟨tuple_eq (by rw [or_step k acc m HA.out hlt, HD.out, hmx]) (by rw [HD.out]; rfl), rfl⟩
      · have t1 : ((k : Int) == 9) = false := by simp; omega
        rw [if_neg (by omega)] at hdec
        by_cases hx : x.toNat < 128
        · rw [if_neg (by omega)] at hdec
          by_cases hz : x.toNat = 0 ∧ 0 < k
          · rw [if_pos hz] at hdec
            obtain ⟨hz0, hk0⟩ := hz
            have t2 : ((x.toNat : Int) == 0) = true := by simp; omega
            have HD := Lib.hid hdec
            have HA := Lib.hid hacc
            have hx0' : x.toNat ≤ 0 := by omega
            clear hdec hacc k9 hz0
            go_wp2
            go_ret2
            exact ⟨by rw [HD.out]; rfl, rfl⟩
          · rw [if_neg hz] at hdec
            have HD := Lib.hid hdec
            have HA := Lib.hid hacc
            by_cases hz0 : x.toNat = 0
            · have t2 : ((x.toNat : Int) == 0) = true := by simp; omega
              have hk0 : k ≤ 0 := by omega
              have hx0' : x.toNat ≤ 0 := by omega
              clear hdec hacc hz hz0
              go_wp2
              go_ret2
              have hm := HM.out
              have hs := step_lt k acc m (by omega) HA.out hm128
              have hmx : m = x.toNat := by omega
              exact ⟨tuple_eq (by rw [or_step k acc m HA.out (by omega), HD.out, hmx]) (by rw [HD.out]; rfl), rfl⟩
            · have t2 : ((x.toNat : Int) == 0) = false := by simp; omega
              clear hdec hacc hz
              go_wp2
              go_ret2
              have hm := HM.out
              have hs := step_lt k acc m (by omega) HA.out hm128
              have hmx : m = x.toNat := by omega
              exact ⟨tuple_eq (by rw [or_step k acc m HA.out (by omega), HD.out, hmx]) (by rw [HD.out]; rfl), rfl⟩
        · rw [if_pos (by omega)] at hdec
          have HD := Lib.hid hdec
          have HA := Lib.hid hacc
          clear hdec hacc
          go_wp2
          have hs := step_lt k acc m (by omega) HA.out hm128
          have hm := HM.out
          refine ⟨⟨k + 1, acc + m * 2 ^ (7 * k), by go_num, ?_, by omega, by omega, hs.1, ?_⟩, ?_⟩
          · rw [or_step k acc m HA.out (by omega)]
          · rw [HD.out, hm]
          · simp [intOf]; omega
    · obtain rfl : k = l.length := by omega
      rw [List.drop_length] at hdec
      have HD := Lib.hid hdec
      have HA := Lib.hid hacc
      clear hdec hacc
      go_wp2
      go_ret2
      exact ⟨by rw [HD.out]; rfl, rfl⟩

/-- firstNumber(b), b empty. -/
theorem firstNumber_none (a : Option Addr) (c : Nat) (w : World) :
    Calls Try.prog 27 #[.slice a 0 c] w fun e w' => e = .returned (.tuple #[.int .u64 (num []).1, .int .i64 (num []).2]) ∧ w = w' := by
  go_enter Try.func27, Try.ntmps27
  go_wp2
  refine wp_loop_rounds 1 ?_
  rw [rounds_succ]
  go_wp2
  go_ret2
  exact ⟨rfl, rfl⟩

/-- firstNumber(b). -/
theorem firstNumber_any (a : Option Addr) (c : Nat) (l : List UInt8) (w : World) (ht : Txt w a l) (hl : l.length ≤ maxLen) :
    Calls Try.prog 27 #[.slice a l.length c] w fun e w' => e = .returned (.tuple #[.int .u64 (num l).1, .int .i64 (num l).2]) ∧ w = w' := by
  cases l with
  | nil => exact firstNumber_none a c w
  | cons x r =>
    obtain ⟨b, o, rfl, _, hc⟩ := ht (by simp)
    exact firstNumber_some b o c _ w hl hc

end Go.Proofs.Ythgcoeienbgmhaa
