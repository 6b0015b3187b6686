/-
  What the document's own Crc, Low and Up do.
-/
import Derived.Test.YtahffcbinpkdpaaDoorSput
namespace Go.Proofs.YtahffcbinpkdpaaDoor
open Go Go.RowKit

theorem and1 (a : Nat) (ha : a < 4294967296) : bits .and .u32 (a : Int) 1 = ((a % 2 : Nat) : Int) := by
  have h := u32_and_nat a 1 ha (by decide)
  rw [Nat.and_one_is_mod] at h
  exact h

set_option maxHeartbeats 4000000 in
set_option maxRecDepth 100000 in
theorem rCrc_some (b o c : Nat) (l : List UInt8) (w : World) (hl : l.length ≤ maxLen) (hcell : ∀ i (h : i < l.length), w.cell? ⟨b, o + i, none⟩ = some (.int .u8 (l[i].toNat : Int))) :
    Calls Tryd.prog 19 #[.slice (some ⟨b, o, none⟩) l.length c] w fun e w' => e = .returned (.int .u32 (crc l)) ∧ w = w' := by
  unfold maxLen at hl
  go_enter Tryd.func19, Tryd.ntmps19
  go_wp2
  go_loop [3, 4] (fun vs vi => ∃ k s' : Nat, vi = .int .i64 k ∧ vs = .int .u32 s' ∧ k ≤ l.length ∧ s' < 4294967296 ∧ crcOn 4294967295 l = crcOn s' (l.drop k))
    (fun _ vi => l.length - (intOf vi).toNat)
  case atStart => exact ⟨0, 4294967295, rfl, rfl, by omega, by decide, rfl⟩
  case round =>
    obtain ⟨k, s', rfl, rfl, hkn, hs', hdec⟩ := hrel
    by_cases hk : k < l.length
    · have hc := hcell k hk
      have hdrop : l.drop k = l[k]'(by omega) :: l.drop (k + 1) := List.drop_eq_getElem_cons (by omega)
      rw [hdrop] at hdec
      generalize l[k]'(by omega) = x at hc hdec
      have hb256 : x.toNat < 256 := x.toNat_lt
      clear hcell hdrop
      obtain ⟨y0, hy0⟩ : ∃ y0, y0 = s' ^^^ x.toNat := ⟨_, rfl⟩
      have ly0 : y0 < 4294967296 := by rw [hy0]; exact xor_lt32 hs' (by omega)
      have b0 : bits .xor .u32 (s' : Int) (x.toNat : Int) = (y0 : Int) := by rw [hy0]; exact xor32 _ _ hs' (by omega)
      rw [crcOn_cons, ← hy0] at hdec
      have HD := Lib.hid hdec
      clear hdec hy0
      go_wp2
      go_loop [3, 5] (fun vs vk => ∃ j t : Nat, vk = .int .i64 j ∧ vs = .int .u32 t ∧ j ≤ 8 ∧ t < 4294967296 ∧ crcBits 8 y0 = crcBits (8 - j) t)
        (fun _ vk => 8 - (intOf vk).toNat)
      case atStart => exact ⟨0, y0, rfl, rfl, by omega, ly0, rfl⟩
      case round =>
        obtain ⟨j, t, rfl, rfl, hj8, ht32, hcr⟩ := hrel
        by_cases hj : j < 8
        · have hstep : crcBits (8 - j) t = crcBits (8 - (j + 1)) (crcBit t) := by
            rw [show 8 - j = (8 - (j + 1)) + 1 by omega]
            rfl
          rw [hstep] at hcr
          have HC := Lib.hid hcr
          have lt2 := crcBit_lt ht32
          clear hcr hstep hc b0
          rcases Nat.mod_two_eq_zero_or_one t with hm | hm
          · have a1 : bits .and .u32 (t : Int) 1 = 0 := by rw [and1 t ht32, hm]; rfl
            have e1 : crcBit t = t / 2 := crcBit_even hm
            rw [e1] at HC lt2
            clear e1 hm
            go_wp2
            refine ⟨⟨j + 1, t / 2, by go_num, by go_num, by omega, lt2, HC.out⟩, ?_⟩
            simp [intOf]; omega
          · have a1 : bits .and .u32 (t : Int) 1 = 1 := by rw [and1 t ht32, hm]; rfl
            have e1 : crcBit t = (t / 2) ^^^ 3988292384 := crcBit_odd hm
            have x1 : bits .xor .u32 ((t : Int) / 2) 3988292384 = ((crcBit t : Nat) : Int) := by
              have h := u32_xor_nat (t / 2) 3988292384 (by omega) (by decide)
              rw [← e1] at h
              simpa using h
            generalize crcBit t = t2 at *
            clear e1 hm
            go_wp2
            refine ⟨⟨j + 1, t2, by go_num, rfl, by omega, lt2, HC.out⟩, ?_⟩
            simp [intOf]; omega
        · obtain rfl : j = 8 := by omega
          have hcr' : crcBits 8 y0 = t := hcr
          have HC := Lib.hid hcr'
          clear hcr hcr' hc b0
          go_wp2
          refine ⟨⟨k + 1, t, by go_num, rfl, by omega, ht32, ?_⟩, ?_⟩
          · rw [HD.out, HC.out]
          · simp [intOf]; omega
    · obtain rfl : k = l.length := by omega
      rw [List.drop_length] at hdec
      have hcrc : bits .xor .u32 IntKind.u32.max (s' : Int) = ((crc l : Nat) : Int) := by
        rw [not32 s' hs', crc, hdec]
        rfl
      have HC := Lib.hid hcrc
      clear hdec hcrc hcell
      go_wp2
      go_ret
      exact ⟨by rw [← HC.out]; rfl, rfl⟩

set_option maxRecDepth 100000 in
theorem rCrc_none (a : Option Addr) (c : Nat) (w : World) :
    Calls Tryd.prog 19 #[.slice a 0 c] w fun e w' => e = .returned (.int .u32 (crc [])) ∧ w = w' := by
  go_enter Tryd.func19, Tryd.ntmps19
  go_wp2
  refine wp_loop_rounds 1 ?_
  rw [rounds_succ]
  go_wp2
  go_ret
  exact ⟨rfl, rfl⟩

theorem rCrc_any (a : Option Addr) (n c : Nat) (l : List UInt8) (w : World) (hn : n = l.length) (ht : Txt w a l) (hl : l.length ≤ maxLen) :
    Calls Tryd.prog 19 #[.slice a n c] w fun e w' => e = .returned (.int .u32 (crc l)) ∧ w = w' := by
  subst hn
  cases l with
  | nil => exact rCrc_none a c w
  | cons x r =>
    obtain ⟨b, o, rfl, _, hc⟩ := ht (by simp)
    exact rCrc_some b o c _ w hl hc

set_option maxHeartbeats 2000000 in
set_option maxRecDepth 100000 in
theorem rLow_any (v n : Nat) (w : World) (hv : v < 18446744073709551616) (hn : n ≤ 8) (hn1 : 1 ≤ n) :
    Calls Tryd.prog 18 #[.int .u64 v, .int .i64 n] w fun e w' => e = .returned (.slice (some ⟨w.heap.size, 0, none⟩) n n) ∧ Blk w' w.heap.size (low n v) ∧ Below w.heap.size w w' := by
  obtain ⟨w1, hmk, hB0, hb1⟩ : ∃ w1, (Instr.makeSlice 25 (.int .i64 (n : Int)) (.int .i64 (n : Int))).run Tryd.prog w = .ok (.slice (some ⟨w.heap.size, 0, none⟩) n n) w1 ∧ Blk w1 w.heap.size (List.replicate n 0) ∧ Below w.heap.size w w1 :=
    ⟨_, run_make_bytes n (by omega) _ _ rfl rfl w, heap_alloc_new w _, (Below.refl _ _).alloc (Nat.le_refl _) _⟩
  obtain ⟨G, hG⟩ : ∃ G, G = w.heap.size := ⟨_, rfl⟩
  rw [← hG] at hmk hB0 hb1 ⊢
  clear hG
  go_enter Tryd.func18, Tryd.ntmps18
  go_wp2
  go_loopw [6] (fun vi wr => ∃ i : Nat, vi = .int .i64 i ∧ i ≤ n ∧ wr = w1.setRow G (Lib.byteCells (lay (List.replicate n 0) 0 (low i v))).toArray)
    (fun vi _ => n - (intOf vi).toNat)
  case atStart => exact ⟨0, rfl, by omega, by rw [low, lay_nil]; exact (setRow_self w1 G _ _ _ hB0).symm⟩
  case round =>
    obtain ⟨i, rfl, hik, hwr⟩ := hrel
    have hll := low_length i v
    have hlen : (lay (List.replicate n 0) 0 (low i v)).length = n := by rw [lay_length (by rw [List.length_replicate]; omega), List.length_replicate]
    by_cases hlt : i < n
    · have hBr : Blk wr G (lay (List.replicate n 0) 0 (low i v)) := by rw [hwr]; exact hB0.put _
      have hc := hBr.cell i (by omega)
      have hf := hBr.frozen i
      have e8 : ((v : Int) / 2 ^ (8 * i) % 256) = (((v / 256 ^ i % 256).toUInt8).toNat : Int) := by
        rw [toUInt8_mod]
        have e : (256 : Nat) ^ i = 2 ^ (8 * i) := by rw [Nat.pow_mul]
        rw [e]
        simp
      have hs := hBr.set i (v / 256 ^ i % 256).toUInt8
      have hset : (lay (List.replicate n 0) 0 (low i v)).set i (v / 256 ^ i % 256).toUInt8 = lay (List.replicate n 0) 0 (low (i + 1) v) := by
        have h := lay_set (L := List.replicate n 0) (m := low i v) (o := 0) (by rw [List.length_replicate]; omega) (v / 256 ^ i % 256).toUInt8
        rw [hll, Nat.zero_add] at h
        rw [h, low_snoc]
      rw [hset, hwr, setRow_setRow, ← hwr, ← e8] at hs
      have HS := Lib.hid hs
      clear hs hset e8 hBr hwr hB0 hmk
      generalize (lay (List.replicate n 0) 0 (low i v))[i] = old at hc
      go_wp2
      refine ⟨⟨i + 1, by go_num, by omega, HS.out⟩, ?_⟩
      simp [intOf]; omega
    · obtain rfl : i = n := by omega
      have hlow : lay (List.replicate i 0) 0 (low i v) = low i v := by
        unfold lay
        rw [hll, Nat.zero_add, List.drop_eq_nil_of_le (by simp)]
        simp
      have hBr : Blk wr G (low i v) := by rw [hwr, hlow]; exact hB0.put _
      have hbr : Below G w wr := by rw [hwr]; exact below_setRow hb1 (Nat.le_refl _) _
      clear hwr hmk
      go_wp2
      go_ret
      exact ⟨rfl, hBr, hbr⟩

theorem or8_low (acc x : Nat) (hacc : acc < 72057594037927936) (hx : x < 256) : bits .or .u64 ((acc : Int) * 256) (x : Int) = ((x + 256 * acc : Nat) : Int) := by
  have e2 : ((acc : Int) * 256) = ((256 * acc : Nat) : Int) := by omega
  rw [e2, u64_or_nat _ _ (by omega) (by omega)]
  congr 1
  have h := Nat.two_pow_add_eq_or_of_lt (i := 8) (b := x) hx acc
  rw [Nat.add_comm]
  exact h.symm

set_option maxHeartbeats 2000000 in
set_option maxRecDepth 100000 in
theorem rUp_some (b o c : Nat) (l : List UInt8) (w : World) (hl : l.length ≤ 8) (hcell : ∀ i (h : i < l.length), w.cell? ⟨b, o + i, none⟩ = some (.int .u8 (l[i].toNat : Int))) :
    Calls Tryd.prog 32 #[.slice (some ⟨b, o, none⟩) l.length c] w fun e w' => e = .returned (.int .u64 (up l)) ∧ w = w' := by
  go_enter Tryd.func32, Tryd.ntmps32
  go_wp2
  go_loop [3, 4] (fun vu vi => ∃ k acc : Nat, vi = .int .i64 ((k : Int) - 1) ∧ vu = .int .u64 acc ∧ k ≤ l.length ∧ acc = up (l.drop k))
    (fun _ vi => (intOf vi + 1).toNat)
  case atStart => exact ⟨l.length, 0, rfl, rfl, Nat.le_refl _, by rw [List.drop_length]; rfl⟩
  case round =>
    obtain ⟨k, acc, rfl, rfl, hkn, hacc⟩ := hrel
    by_cases hk : 0 < k
    · obtain ⟨j, rfl⟩ : ∃ j, k = j + 1 := ⟨k - 1, by omega⟩
      have hc := hcell j (by omega)
      have hdrop : l.drop j = l[j]'(by omega) :: l.drop (j + 1) := List.drop_eq_getElem_cons (by omega)
      have hup : up (l.drop j) = l[j].toNat + 256 * acc := by rw [hdrop, up, hacc]
      have hlt := up_lt (l.drop (j + 1))
      rw [← hacc] at hlt
      have h7 : acc < 72057594037927936 := by
        have h8 : (256 : Nat) ^ (l.drop (j + 1)).length ≤ 256 ^ 7 := Nat.pow_le_pow_right (by decide) (by simp; omega)
        have e7 : (256 : Nat) ^ 7 = 72057594037927936 := by decide
        omega
      generalize l[j] = x at hc hup
      have hb256 : x.toNat < 256 := x.toNat_lt
      have hor := or8_low acc x.toNat h7 hb256
      have ej : ((j + 1 : Nat) : Int) - 1 = (j : Int) := by omega
      rw [ej]
      obtain ⟨z, hz⟩ : ∃ z, z = x.toNat + 256 * acc := ⟨_, rfl⟩
      rw [← hz] at hup hor
      have HU := Lib.hid hup
      clear hcell hdrop hlt hacc hz hup ej
      go_wp2
      refine ⟨⟨j, z, by go_num, rfl, by omega, HU.out.symm⟩, ?_⟩
      simp [intOf]
    · obtain rfl : k = 0 := by omega
      rw [List.drop_zero] at hacc
      have HD := Lib.hid hacc
      clear hacc
      go_wp2
      go_ret
      exact ⟨by rw [HD.out]; rfl, rfl⟩

theorem rUp_any (a : Option Addr) (n c : Nat) (l : List UInt8) (w : World) (hn : n = l.length) (hl : l.length ≤ 8) (hl1 : 1 ≤ l.length) (ht : Txt w a l) :
    Calls Tryd.prog 32 #[.slice a n c] w fun e w' => e = .returned (.int .u64 (up l)) ∧ w = w' := by
  subst hn
  obtain ⟨b, o, rfl, _, hc⟩ := ht (by rintro rfl; simp at hl1)
  exact rUp_some b o c l w hl hc

end Go.Proofs.YtahffcbinpkdpaaDoor
