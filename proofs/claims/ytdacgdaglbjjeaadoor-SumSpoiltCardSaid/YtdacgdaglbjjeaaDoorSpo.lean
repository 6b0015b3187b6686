/-
  A frame of chapter 2 with up to three bits turned (none of them in its size) is none. Plain lists of bytes. Nothing here speaks of the program.
-/
import Derived.Test.YtdacgdaglbjjeaaDoorFrm
import Derived.Test.YtdacgdaglbjjeaaDoorDist
namespace Go.Proofs.YtdacgdaglbjjeaaDoor
open Go

def bitB (j : Nat) : UInt8 := (2 ^ j).toUInt8
theorem bitB_nat {j : Nat} (h : j < 8) : (bitB j).toNat = 2 ^ j := Lib.toUInt8_toNat (Nat.lt_of_lt_of_le (Nat.pow_lt_pow_right (by decide) h) (by decide))

/-- Bit i turned. -/
def turn (f : List UInt8) (i : Nat) : List UInt8 := f.set (i / 8) (f.getD (i / 8) 0 ^^^ bitB (i % 8))

theorem turn_length (f : List UInt8) (i : Nat) : (turn f i).length = f.length := List.length_set

theorem turn_eq {f : List UInt8} {i : Nat} (h : i / 8 < f.length) : turn f i = f.set (i / 8) (f[i / 8] ^^^ bitB (i % 8)) := by
  unfold turn
  simp [List.getD, h]

theorem byte_plus {x : Nat} (hx : x < 256) (m : Nat) : x + 256 * m = (256 * m) ^^^ x := by
  apply Nat.eq_of_testBit_eq
  intro i
  rw [Nat.testBit_xor, Nat.add_comm x, show (256 : Nat) = 2 ^ 8 from rfl, Nat.testBit_two_pow_mul_add m (by simpa using hx), Nat.testBit_two_pow_mul]
  by_cases h : i < 8
  · simp [h, show ¬ 8 ≤ i by omega]
  · have hx2 : x.testBit i = false := Nat.testBit_lt_two_pow (Nat.lt_of_lt_of_le hx (by
      have : 2 ^ 8 ≤ 2 ^ i := Nat.pow_le_pow_right (by decide) (by omega)
      simpa using this))
    simp [h, show 8 ≤ i by omega, hx2]

theorem mul256_xor (a b : Nat) : 256 * (a ^^^ b) = (256 * a) ^^^ (256 * b) := by
  apply Nat.eq_of_testBit_eq
  intro i
  rw [Nat.testBit_xor, show (256 : Nat) = 2 ^ 8 from rfl, Nat.testBit_two_pow_mul, Nat.testBit_two_pow_mul, Nat.testBit_two_pow_mul, Nat.testBit_xor]
  cases decide (i ≥ 8) <;> simp

theorem up_turn : ∀ (l : List UInt8) (i : Nat) (h : i < l.length) (d : UInt8), up (l.set i (l[i] ^^^ d)) = up l ^^^ (d.toNat * 256 ^ i)
  | c :: r, 0, _, d => by
    simp only [List.set_cons_zero, List.getElem_cons_zero, up, Nat.pow_zero, Nat.mul_one]
    rw [byte_plus (c ^^^ d).toNat_lt, byte_plus c.toNat_lt, UInt8.toNat_xor, Nat.xor_assoc]
  | c :: r, i + 1, h, d => by
    simp only [List.set_cons_succ, List.getElem_cons_succ, up]
    rw [up_turn r i (by simpa using h) d, byte_plus c.toNat_lt, byte_plus c.toNat_lt, mul256_xor, Nat.pow_succ]
    have e : 256 * (d.toNat * 256 ^ i) = d.toNat * (256 ^ i * 256) := by rw [Nat.mul_comm (256 ^ i) 256, ← Nat.mul_assoc, Nat.mul_comm 256, Nat.mul_assoc]
    rw [e, Nat.xor_assoc, Nat.xor_assoc, Nat.xor_comm (d.toNat * _)]

/-- What does not fit in a frame: nothing, where it is whole. -/
def val (f : List UInt8) : Nat := sumOf f ^^^ up (piece f 13 17)

/-- How many bits stand behind bit i, as the sum reads them. -/
def expo (N i : Nat) : Nat := if i < 104 then 8 * (N - 1 - i / 8) + (7 - i % 8) else if i < 136 then 8 * (16 - i / 8) + (7 - i % 8) else 8 * (N - i / 8 + 3) + (7 - i % 8)

theorem pow_bitSum {j : Nat} (h : j < 32) : 2 ^ j = bitSum (31 - j) := by
  unfold bitSum
  have e : (2147483648 : Nat) = 2 ^ (31 - j) * 2 ^ j := by
    rw [← Nat.pow_add, show 31 - j + j = 31 by omega]
  rw [e, crcBits_shift]

theorem byte_bitSum {j : Nat} (h : j < 8) (m : Nat) : crcBits (8 * m) (bitB j).toNat = bitSum (8 * m + (31 - j)) := by
  rw [bitB_nat h, pow_bitSum (by omega), Nat.add_comm, bitSum_add]

theorem crc_turn (l : List UInt8) (i : Nat) (h : i < l.length) (d : UInt8) : crc (l.set i (l[i] ^^^ d)) = crc l ^^^ crcBits (8 * (l.length - i)) d.toNat := by
  unfold crc
  rw [crcOn_turn l i h d, Nat.xor_assoc, Nat.xor_comm (crcBits _ _), ← Nat.xor_assoc]

theorem val_turn {f : List UInt8} {i : Nat} (hN : 17 ≤ f.length) (h8 : 8 ≤ i) (hi : i < 8 * f.length) : val (turn f i) = val f ^^^ bitSum (expo f.length i) := by
  have hq : i / 8 < f.length := by omega
  have hj : i % 8 < 8 := Nat.mod_lt _ (by decide)
  have hp1 : (piece f 1 13).length = 12 := piece_length (by omega) (by omega)
  have hp2 : (piece f 13 17).length = 4 := piece_length (by omega) (by omega)
  have hd : (f.drop 17).length = f.length - 17 := by simp
  rw [turn_eq hq]
  unfold val sumOf
  by_cases c1 : i < 104
  · have hq1 : i / 8 < 13 := by omega
    rw [piece_set_in _ (by omega) hq1, List.drop_set_of_lt (by omega), piece_set_out _ (.inl hq1)]
    have hb : i / 8 - 1 < (piece f 1 13 ++ f.drop 17).length := by rw [List.length_append]; omega
    have hg : (piece f 1 13 ++ f.drop 17)[i / 8 - 1] = f[i / 8] := by
      rw [List.getElem_append_left (by omega), piece_get (by omega) (by omega)]
      congr 1
      omega
    have hs : (piece f 1 13).set (i / 8 - 1) (f[i / 8] ^^^ bitB (i % 8)) ++ f.drop 17 = (piece f 1 13 ++ f.drop 17).set (i / 8 - 1) ((piece f 1 13 ++ f.drop 17)[i / 8 - 1] ^^^ bitB (i % 8)) := by
      rw [hg, List.set_append_left _ _ (by omega)]
    rw [hs, crc_turn _ _ hb, byte_bitSum hj, Nat.xor_assoc, Nat.xor_comm (bitSum _), ← Nat.xor_assoc]
    congr 2
    unfold expo
    rw [if_pos c1, List.length_append, hp1, hd]
    omega
  · by_cases c2 : i < 136
    · rw [piece_set_out _ (.inr (by omega)), List.drop_set_of_lt (by omega), piece_set_in _ (by omega) (by omega)]
      have hb : i / 8 - 13 < (piece f 13 17).length := by omega
      have hg : (piece f 13 17)[i / 8 - 13] = f[i / 8] := by
        rw [piece_get (by omega) (by omega)]
        congr 1
        omega
      rw [← hg, up_turn _ _ hb, bitB_nat hj, ← Nat.xor_assoc]
      congr 1
      have e : (256 : Nat) ^ (i / 8 - 13) = 2 ^ (8 * (i / 8 - 13)) := by rw [Nat.pow_mul]
      rw [e, ← Nat.pow_add, pow_bitSum (by omega)]
      congr 1
      unfold expo
      rw [if_neg c1, if_pos c2]
      omega
    · rw [piece_set_out _ (.inr (by omega)), List.drop_set, if_neg (by omega), piece_set_out _ (.inr (by omega))]
      have hb : i / 8 - 5 < (piece f 1 13 ++ f.drop 17).length := by rw [List.length_append]; omega
      have hg : (piece f 1 13 ++ f.drop 17)[i / 8 - 5] = f[i / 8] := by
        rw [List.getElem_append_right (by omega)]
        simp only [List.getElem_drop, hp1]
        congr 1
        omega
      have hs : piece f 1 13 ++ (f.drop 17).set (i / 8 - 17) (f[i / 8] ^^^ bitB (i % 8)) = (piece f 1 13 ++ f.drop 17).set (i / 8 - 5) ((piece f 1 13 ++ f.drop 17)[i / 8 - 5] ^^^ bitB (i % 8)) := by
        rw [hg, List.set_append_right _ _ (by omega), hp1, show i / 8 - 5 - 12 = i / 8 - 17 by omega]
      rw [hs, crc_turn _ _ hb, byte_bitSum hj, Nat.xor_assoc, Nat.xor_comm (bitSum _), ← Nat.xor_assoc]
      congr 2
      unfold expo
      rw [if_neg c1, if_neg c2, List.length_append, hp1, hd]
      omega

theorem expo_lt {N i : Nat} (hN : N ≤ 1017) (h8 : 8 ≤ i) (hi : i < 8 * N) : expo N i < 8128 := by
  unfold expo
  split
  · omega
  · split
    · omega
    · omega
theorem expo_inj {N i k : Nat} (hN : 17 ≤ N) (h8 : 8 ≤ i) (hi : i < 8 * N) (k8 : 8 ≤ k) (hk : k < 8 * N) (h : expo N i = expo N k) : i = k := by
  unfold expo at h
  split at h <;> split at h <;> (try split at h) <;> (try split at h) <;> omega

theorem head_turn {f : List UInt8} {i : Nat} (h : 0 < f.length) : ((turn f i).headD 0).toNat = (f.headD 0).toNat ^^^ (if i < 8 then 2 ^ i else 0) := by
  obtain ⟨c, r, rfl⟩ : ∃ c r, f = c :: r := by
    cases f with
    | nil => simp at h
    | cons c r => exact ⟨c, r, rfl⟩
  unfold turn
  by_cases hi : i < 8
  · rw [if_pos hi, show i / 8 = 0 by omega, show i % 8 = i by omega]
    show (c ^^^ bitB i).toNat = _
    rw [UInt8.toNat_xor, bitB_nat hi]
    rfl
  · rw [if_neg hi, Nat.xor_zero]
    obtain ⟨q, hq⟩ : ∃ q, i / 8 = q + 1 := ⟨i / 8 - 1, by omega⟩
    rw [hq]
    rfl

theorem hb_test {i k : Nat} (hk : k < 8) : (if i < 8 then 2 ^ i else 0 : Nat).testBit k = decide (i = k) := by
  split
  · rw [Nat.testBit_two_pow]
  · rw [Nat.zero_testBit]
    simp
    omega

theorem size_turn {f : List UInt8} {i : Nat} (h : i < 8 ∨ 40 ≤ i) : piece (turn f i) 1 5 = piece f 1 5 := by
  unfold turn
  exact piece_set_out _ (by omega)

theorem size1_zero {f : List UInt8} {N : Nat} (hl : f.length = N) (hup : up (piece f 1 5) = N - 17) (h : (f.headD 0).toNat ≠ 90 ∨ val f ≠ 0) : size1 f = 0 := by
  unfold size1
  split
  · rfl
  · split
    · rfl
    · rename_i hh
      split
      · rfl
      · split
        · rfl
        · rw [hup, if_neg]
          intro e
          rw [show 17 + (N - 17) = f.length by omega, List.take_length] at e
          rcases h with h | h
          · exact hh (fun h90 => h (by rw [h90]; rfl))
          · apply h
            unfold val
            rw [← e, Nat.xor_self]

theorem val_frame (n : Nat) (b : List UInt8) : val (frameOf n b) = 0 := by
  unfold val
  rw [frame_sum, frame_13_17, up_low_lt (by have := crc_lt (low 4 b.length ++ low 8 n ++ b); omega), Nat.xor_self]

/-- ONE, TWO OR THREE BITS. -/
theorem spoilt (n : Nat) (b : List UInt8) (hb : b.length ≤ 1000) (bs : List Nat) (h1 : 1 ≤ bs.length) (h3 : bs.length ≤ 3) (hnd : bs.Nodup) (hlt : ∀ i ∈ bs, i < 8 * (17 + b.length)) (hout : ∀ i ∈ bs, i < 8 ∨ 40 ≤ i) : size1 (bs.foldl turn (frameOf n b)) = 0 := by
  have hl := frame_length n b
  have hup : up (piece (frameOf n b) 1 5) = 17 + b.length - 17 := by rw [frame_1_5, up_low_lt (by omega)]; omega
  have hhd : ((frameOf n b).headD 0).toNat = 90 := rfl
  have hv := val_frame n b
  generalize frameOf n b = f at hl hup hhd hv
  have cancel : ∀ x : Nat, 90 ^^^ x = 90 → x = 0 := fun x h => by
    have h2 : 90 ^^^ (90 ^^^ x) = 90 ^^^ 90 := by rw [h]
    rwa [← Nat.xor_assoc, Nat.xor_self, Nat.zero_xor] at h2
  match bs, h1, h3, hnd, hlt, hout with
  | [i], _, _, _, hlt, hout =>
    have o1 := hout i (by simp)
    have l1 := hlt i (by simp)
    show size1 (turn f i) = 0
    refine size1_zero (N := 17 + b.length) (by rw [turn_length, hl]) (by rw [size_turn o1, hup]) ?_
    by_cases c1 : i < 8
    · left
      rw [head_turn (by omega), hhd]
      intro h
      have := congrArg (fun x => x.testBit i) (cancel _ h)
      simp only [hb_test c1, Nat.zero_testBit] at this
      simp at this
    · right
      rw [val_turn (by omega) (by omega) (by omega), hv, Nat.zero_xor]
      exact bitSum_ne_zero _
  | [i, j], _, _, hnd, hlt, hout =>
    have o1 := hout i (by simp)
    have l1 := hlt i (by simp)
    have o2 := hout j (by simp)
    have l2 := hlt j (by simp)
    have hij : i ≠ j := by simpa using hnd
    show size1 (turn (turn f i) j) = 0
    refine size1_zero (N := 17 + b.length) (by rw [turn_length, turn_length, hl]) (by rw [size_turn o2, size_turn o1, hup]) ?_
    by_cases c : i < 8 ∨ j < 8
    · left
      rw [head_turn (by rw [turn_length]; omega), head_turn (by omega), hhd, Nat.xor_assoc]
      intro h
      have h0 := cancel _ h
      rcases c with c | c
      · have := congrArg (fun x => x.testBit i) h0
        simp only [Nat.testBit_xor, hb_test c, Nat.zero_testBit] at this
        simp [Ne.symm hij] at this
      · have := congrArg (fun x => x.testBit j) h0
        simp only [Nat.testBit_xor, hb_test c, Nat.zero_testBit] at this
        simp [hij] at this
    · right
      rw [val_turn (by rw [turn_length]; omega) (by omega) (by rw [turn_length]; omega), val_turn (by omega) (by omega) (by omega), hv, Nat.zero_xor, turn_length]
      exact bitSum_two (fun e => hij (expo_inj (by omega) (by omega) (by omega) (by omega) (by omega) e)) (expo_lt (by omega) (by omega) (by omega)) (expo_lt (by omega) (by omega) (by omega))
  | [i, j, k], _, _, hnd, hlt, hout =>
    have o1 := hout i (by simp)
    have l1 := hlt i (by simp)
    have o2 := hout j (by simp)
    have l2 := hlt j (by simp)
    have o3 := hout k (by simp)
    have l3 := hlt k (by simp)
    have hnd' : (i ≠ j ∧ i ≠ k) ∧ j ≠ k := by simpa using hnd
    obtain ⟨⟨hij, hik⟩, hjk⟩ := hnd'
    show size1 (turn (turn (turn f i) j) k) = 0
    refine size1_zero (N := 17 + b.length) (by rw [turn_length, turn_length, turn_length, hl]) (by rw [size_turn o3, size_turn o2, size_turn o1, hup]) ?_
    by_cases c : i < 8 ∨ j < 8 ∨ k < 8
    · left
      rw [head_turn (by rw [turn_length, turn_length]; omega), head_turn (by rw [turn_length]; omega), head_turn (by omega), hhd, Nat.xor_assoc, Nat.xor_assoc]
      intro h
      have h0 := cancel _ h
      rcases c with c | c | c
      · have := congrArg (fun x => x.testBit i) h0
        simp only [Nat.testBit_xor, hb_test c, Nat.zero_testBit] at this
        simp [Ne.symm hij, Ne.symm hik] at this
      · have := congrArg (fun x => x.testBit j) h0
        simp only [Nat.testBit_xor, hb_test c, Nat.zero_testBit] at this
        simp [hij, Ne.symm hjk] at this
      · have := congrArg (fun x => x.testBit k) h0
        simp only [Nat.testBit_xor, hb_test c, Nat.zero_testBit] at this
        simp [hik, hjk] at this
    · right
      rw [val_turn (by rw [turn_length, turn_length]; omega) (by omega) (by rw [turn_length, turn_length]; omega), val_turn (by rw [turn_length]; omega) (by omega) (by rw [turn_length]; omega), val_turn (by omega) (by omega) (by omega), hv, Nat.zero_xor, turn_length, turn_length, turn_length]
      exact bitSum_three (fun e => hij (expo_inj (by omega) (by omega) (by omega) (by omega) (by omega) e)) (fun e => hik (expo_inj (by omega) (by omega) (by omega) (by omega) (by omega) e)) (fun e => hjk (expo_inj (by omega) (by omega) (by omega) (by omega) (by omega) e)) (expo_lt (by omega) (by omega) (by omega)) (expo_lt (by omega) (by omega) (by omega)) (expo_lt (by omega) (by omega) (by omega))

end Go.Proofs.YtdacgdaglbjjeaaDoor
