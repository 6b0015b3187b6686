/-
  What package sum's small functions do, on: goOn of any slice, Crc, get, put, frameSum.
-/
import Derived.Test.YtahffcbinpkdpaaDoorSgo
import Derived.Test.YtahffcbinpkdpaaDoorFrm
import Derived.Deep.QuietTactic
import Derived.BigQuiet
namespace Go.Proofs.YtahffcbinpkdpaaDoor
open Go Go.RowKit

set_option maxRecDepth 100000 in
theorem goOn_none (s : Nat) (a : Option Addr) (c : Nat) (w : World) :
    Calls Tryd.prog 31 #[.int .u32 s, .slice a 0 c] w fun e w' => e = .returned (.int .u32 (crcOn s [])) ∧ w = w' := by
  go_enter Tryd.func31, Tryd.ntmps31
  go_wp2
  refine wp_loop_rounds 1 ?_
  rw [rounds_succ]
  go_wp2
  go_ret
  exact ⟨rfl, rfl⟩

theorem goOn_any (s : Nat) (a : Option Addr) (c : Nat) (l : List UInt8) (w : World) (hT : Tab w) (hs : s < 4294967296) (ht : Txt w a l) (hl : l.length ≤ maxLen) :
    Calls Tryd.prog 31 #[.int .u32 s, .slice a l.length c] w fun e w' => e = .returned (.int .u32 (crcOn s l)) ∧ w = w' := by
  cases l with
  | nil => exact goOn_none s a c w
  | cons x r =>
    obtain ⟨b, o, rfl, _, hc⟩ := ht (by simp)
    exact goOn_some s b o c _ w hT hs hl hc

theorem not32 (z : Nat) (hz : z < 4294967296) : bits .xor .u32 IntKind.u32.max (z : Int) = ((z ^^^ 4294967295 : Nat) : Int) := by
  have h := u32_xor_nat 4294967295 z (by decide) hz
  rw [Nat.xor_comm] at h
  exact h

set_option maxRecDepth 100000 in
theorem Crc_any (a : Option Addr) (c : Nat) (l : List UInt8) (w : World) (hT : Tab w) (ht : Txt w a l) (hl : l.length ≤ maxLen) :
    Calls Tryd.prog 17 #[.slice a l.length c] w fun e w' => e = .returned (.int .u32 (crc l)) ∧ w = w' := by
  go_enter Tryd.func17, Tryd.ntmps17
  go_wp2_with fail
  refine (goOn_any 4294967295 a c l w hT (by decide) ht hl).mono ?_
  rintro e w1 ⟨rfl, rfl⟩
  obtain ⟨z, hz⟩ : ∃ z, z = crcOn 4294967295 l := ⟨_, rfl⟩
  rw [← hz]
  go_wp2
  go_ret
  exact ⟨by rw [show crc l = (crcOn 4294967295 l ^^^ 4294967295) from rfl, ← not32 _ (crcOn_lt l (by decide))]; rfl, rfl⟩

theorem or8_step (k acc m : Nat) (hacc : acc < 256 ^ k) (hlt : acc + m * 256 ^ k < 18446744073709551616) :
    bits .or .u64 (acc : Int) (IntKind.u64.wrap ((m : Int) * 2 ^ (8 * k))) = ((acc + m * 256 ^ k : Nat) : Int) := by
  have e0 : (256 : Nat) ^ k = 2 ^ (8 * k) := by rw [Nat.pow_mul]
  rw [e0] at hacc hlt ⊢
  have e1 : ((m : Int) * 2 ^ (8 * k)) = ((m * 2 ^ (8 * k) : Nat) : Int) := by
    rw [Int.natCast_mul, Int.natCast_pow]; rfl
  generalize hp : m * 2 ^ (8 * k) = p at *
  have e2 : IntKind.u64.wrap (p : Int) = (p : Int) := by rw [IntKind.wrap_u64]; omega
  rw [e1, e2, u64_or_nat _ _ (by omega) (by omega)]
  congr 1
  have h := Nat.two_pow_add_eq_or_of_lt hacc m
  rw [Nat.mul_comm, hp] at h
  rw [Nat.or_comm, ← h, Nat.add_comm]

set_option maxHeartbeats 2000000 in
set_option maxRecDepth 100000 in
theorem get_some (b o c : Nat) (l : List UInt8) (w : World) (hl : l.length ≤ 8) (hcell : ∀ i (h : i < l.length), w.cell? ⟨b, o + i, none⟩ = some (.int .u8 (l[i].toNat : Int))) :
    Calls Tryd.prog 28 #[.slice (some ⟨b, o, none⟩) l.length c] w fun e w' => e = .returned (.int .u64 (up l)) ∧ w = w' := by
  go_enter Tryd.func28, Tryd.ntmps28
  go_wp2
  go_loop [3, 8] (fun vu vi => ∃ k acc : Nat, vi = .int .i64 k ∧ vu = .int .u64 acc ∧ k ≤ l.length ∧ acc = up (l.take k))
    (fun _ vi => l.length - (intOf vi).toNat)
  case atStart => exact ⟨0, 0, rfl, rfl, by omega, rfl⟩
  case round =>
    obtain ⟨k, acc, rfl, rfl, hkn, hacc⟩ := hrel
    by_cases hk : k < l.length
    · have hc := hcell k hk
      have htake : l.take (k + 1) = l.take k ++ [l[k]] := by simp
      have hup := up_snoc (l.take k) l[k]
      rw [← htake, List.length_take, Nat.min_eq_left (by omega), ← hacc] at hup
      have hlt := up_lt (l.take (k + 1))
      have hlt0 := up_lt (l.take k)
      rw [List.length_take, Nat.min_eq_left (by omega)] at hlt hlt0
      rw [← hacc] at hlt0
      have h8 : 256 ^ (k + 1) ≤ 256 ^ 8 := Nat.pow_le_pow_right (by decide) (by omega)
      rw [hup] at hlt
      have h64 : acc + l[k].toNat * 256 ^ k < 18446744073709551616 := Nat.lt_of_lt_of_le hlt (by simpa using h8)
      have hor := or8_step k acc l[k].toNat hlt0 h64
      generalize l[k] = x at hc hup hor h64
      have hb256 : x.toNat < 256 := x.toNat_lt
      obtain ⟨z, hz⟩ : ∃ z, z = acc + x.toNat * 256 ^ k := ⟨_, rfl⟩
      rw [← hz] at hup hor
      have HU := Lib.hid hup
      clear hcell htake hlt hlt0 h8 hup hacc h64 hz
      go_wp2
      refine ⟨⟨k + 1, z, by go_num, rfl, by omega, HU.out.symm⟩, ?_⟩
      simp [intOf]; omega
    · obtain rfl : k = l.length := by omega
      rw [List.take_length] at hacc
      have HD := Lib.hid hacc
      clear hacc
      go_wp2
      go_ret
      exact ⟨by rw [HD.out]; rfl, rfl⟩

theorem get_any (a : Option Addr) (n c : Nat) (l : List UInt8) (w : World) (hn : n = l.length) (hl : l.length ≤ 8) (hl1 : 1 ≤ l.length) (ht : Txt w a l) :
    Calls Tryd.prog 28 #[.slice a n c] w fun e w' => e = .returned (.int .u64 (up l)) ∧ w = w' := by
  subst hn
  obtain ⟨b, o, rfl, _, hc⟩ := ht (by rintro rfl; simp at hl1)
  exact get_some b o c l w hl hc

theorem goOn_len (s n : Nat) (a : Option Addr) (c : Nat) (l : List UInt8) (w : World) (hn : n = l.length) (hT : Tab w) (hs : s < 4294967296) (ht : Txt w a l) (hl : l.length ≤ maxLen) :
    Calls Tryd.prog 31 #[.int .u32 s, .slice a n c] w fun e w' => e = .returned (.int .u32 (crcOn s l)) ∧ w = w' := by
  subst hn
  exact goOn_any s a c l w hT hs ht hl

theorem Txt.piece {w : World} {b o : Nat} {l : List UInt8} (h : Txt w (some ⟨b, o, none⟩) l) (i j : Nat) : Txt w (some ⟨b, o + i, none⟩) (piece l i j) := fun hne => by
  have hl : l ≠ [] := by rintro rfl; exact hne (by simp [YtahffcbinpkdpaaDoor.piece])
  obtain ⟨b', o', e, hlt, hc⟩ := h hl
  simp only [Option.some.injEq, Addr.mk.injEq, and_true] at e
  obtain ⟨rfl, rfl⟩ := e
  refine ⟨b, o + i, rfl, hlt, fun k hk => ?_⟩
  have hk2 : i + k < l.length := by simp [YtahffcbinpkdpaaDoor.piece] at hk; omega
  rw [piece_get hk hk2, Nat.add_assoc]
  exact hc (i + k) hk2

theorem Tab.drewN {w : World} (h : Tab w) (n : Nat) : Tab (w.drewN n) := h

set_option maxHeartbeats 2000000 in
set_option maxRecDepth 100000 in
theorem frameSum_any (b o c : Nat) (f : List UInt8) (w : World) (hT : Tab w) (ht : Txt w (some ⟨b, o, none⟩) f) (hl : 17 ≤ f.length) (hc : f.length ≤ c) (hm : c ≤ maxLen) :
    Calls Tryd.prog 30 #[.slice (some ⟨b, o, none⟩) f.length c] w fun e w' => e = .returned (.int .u32 (sumOf f)) ∧ ∃ m, w' = w.drewN m := by
  have p1 := ht.piece 1 13
  have l1 := piece_length (l := f) (i := 1) (j := 13) (by omega) (by omega)
  have lt1 := crcOn_lt (Go.Proofs.YtahffcbinpkdpaaDoor.piece f 1 13) (c := 4294967295) (by decide)
  have lt2 := crcOn_lt (f.drop 17) lt1
  have e2 : sumOf f = (crcOn (crcOn 4294967295 (Go.Proofs.YtahffcbinpkdpaaDoor.piece f 1 13)) (f.drop 17) ^^^ 4294967295) := by rw [sumOf, crc, crcOn_append]
  have l2 : (f.drop 17).length = f.length - 17 := by simp
  unfold maxLen at hm
  have g1 : ∀ n c', Calls Tryd.prog 31 #[.int .u32 4294967295, .slice (some ⟨b, o + 1, none⟩) 12 c'] (w.drewN n) fun e w' => e = .returned (.int .u32 (crcOn 4294967295 (Go.Proofs.YtahffcbinpkdpaaDoor.piece f 1 13))) ∧ w' = w.drewN n := fun n c' => (goOn_len 4294967295 12 _ c' _ (w.drewN n) (by rw [l1]) (hT.drewN n) (by decide) (p1.drewN n) (by unfold maxLen; omega)).mono fun _ _ ⟨h1, h2⟩ => ⟨h1, h2.symm⟩
  obtain ⟨z1, hz1⟩ : ∃ z, z = crcOn 4294967295 (Go.Proofs.YtahffcbinpkdpaaDoor.piece f 1 13) := ⟨_, rfl⟩
  rw [← hz1] at g1 lt1 lt2 e2
  have g2 : ∀ n c' a', Txt w a' (f.drop 17) → Calls Tryd.prog 31 #[.int .u32 z1, .slice a' (f.length - 17) c'] (w.drewN n) fun e w' => e = .returned (.int .u32 (crcOn z1 (f.drop 17))) ∧ w' = w.drewN n := fun n c' a' h => (goOn_len z1 _ a' c' _ (w.drewN n) l2.symm (hT.drewN n) lt1 (h.drewN n) (by unfold maxLen; omega)).mono fun _ _ ⟨h1, h2⟩ => ⟨h1, h2.symm⟩
  obtain ⟨z2, hz2⟩ : ∃ z, z = crcOn z1 (f.drop 17) := ⟨_, rfl⟩
  rw [← hz2] at g2 lt2 e2
  have e3 := not32 z2 lt2
  rw [← e2] at e3
  have t2 : Txt w (some ⟨b, o + 17, none⟩) (f.drop 17) := by
    have h := ht.piece 17 f.length
    have e : Go.Proofs.YtahffcbinpkdpaaDoor.piece f 17 f.length = f.drop 17 := by unfold Go.Proofs.YtahffcbinpkdpaaDoor.piece; rw [List.take_of_length_le (by simp)]
    rwa [e] at h
  clear e2 hz2 hz1 p1 lt1 lt2 hT ht l2
  by_cases h17 : f.length = 17
  · have hnil : f.drop 17 = [] := List.eq_nil_of_length_eq_zero (by simp; omega)
    have G0 := fun n c' a' => g2 n c' a' (by rw [hnil]; exact Txt.nil _ _)
    rw [show f.length - 17 = 0 by omega] at G0
    clear t2 g2 hnil
    generalize sumOf f = S at *
    rw [h17]
    rw [h17] at hc
    clear h17 l1 hl
    by_cases hc17 : c = 17
    · subst hc17
      go_enter Tryd.func30, Tryd.ntmps30
      go_wp2
      go_quiet (first | (go_at_call_of 31 (Value.int .u32 4294967295); exact Calls.quiet_of_same (g1 _ _)) | (go_at_call_of 31 (Value.int .u32 (z1 : Int)); exact Calls.quiet_of_same (G0 _ _ _)))
      go_wp2
      go_ret
      exact ⟨rfl, _, rfl⟩
    · have hc18 : ¬ c - 17 = 0 := by omega
      go_enter Tryd.func30, Tryd.ntmps30
      go_wp2
      go_quiet (first | (go_at_call_of 31 (Value.int .u32 4294967295); exact Calls.quiet_of_same (g1 _ _)) | (go_at_call_of 31 (Value.int .u32 (z1 : Int)); exact Calls.quiet_of_same (G0 _ _ _)))
      go_wp2
      go_ret
      exact ⟨rfl, _, rfl⟩
  · have G2 := fun n c' => g2 n c' _ t2
    clear t2 g2
    generalize sumOf f = S at *
    have hl' : ¬ f.length - 17 = 0 := by omega
    go_enter Tryd.func30, Tryd.ntmps30
    go_wp2
    go_quiet (first | (go_at_call_of 31 (Value.int .u32 4294967295); exact Calls.quiet_of_same (g1 _ _)) | (go_at_call_of 31 (Value.int .u32 (z1 : Int)); exact Calls.quiet_of_same (G2 _ _)))
    go_wp2
    go_ret
    exact ⟨rfl, _, rfl⟩

end Go.Proofs.YtahffcbinpkdpaaDoor
