/-
  Proved: SumSpoilt of escapementlaw2 returns true for every input, and leaves what it was handed as it was. No conditions.
-/
import Derived.Test.YtdacgdaglbjjeaaDoorRows
import Derived.Test.YtdacgdaglbjjeaaDoorArg
import Derived.Test.YtdacgdaglbjjeaaDoorSawk
import Derived.Test.YtdacgdaglbjjeaaDoorSpo
import Derived.Test.YtdacgdaglbjjeaaDoorOps
import Derived.WalkKit
import Derived.ProofKit
import Derived.OpenShut
import Derived.ShutString
import Derived.ChangeOld
import Derived.SizedLaws
import Derived.Test.YtdacgdaglbjjeaaDoorStab
import Derived.Test.YtdacgdaglbjjeaaDoorTie
import Derived.Test.YtdacgdaglbjjeaaDoorCards
import Derived.LaidMore
import Derived.Lay
import Derived.SevenTiedAt
import Derived.Stop.Joined
namespace Go.Proofs.YtdacgdaglbjjeaaDoor.sumSpoilt
open Go.ChangeShapes Go.WideShapes Go.ChangeAt Go.RowKit
open Go.ChangeMaps (open_string shut_string)
set_option linter.unusedVariables false

theorem own : ownKnob Tryd.prog.godebug = none := by kernel_rfl
theorem laidOut : laidOutB Tryd.prog = true := by kernel_rfl

/-- What is known of the bits that the loop has been through. -/
structure Seen (bits : List Int) (N i : Nat) : Prop where
  inb : ∀ j (hj : j < bits.length), j < i → 0 ≤ bits[j] ∧ bits[j] < 8 * (N : Int)
  apart : ∀ j k (hj : j < bits.length) (hk : k < bits.length), j < k → k < i → bits[j] ≠ bits[k]

def bn (bits : List Int) (i : Nat) : List Nat := (bits.take i).map Int.toNat

theorem turns_length : ∀ (l : List Nat) (f : List UInt8), (l.foldl turn f).length = f.length
  | [], _ => rfl
  | i :: l, f => by
    rw [List.foldl_cons, turns_length l, turn_length]

theorem bn_succ {bits : List Int} {i : Nat} (h : i < bits.length) : bn bits (i + 1) = bn bits i ++ [bits[i].toNat] := by
  unfold bn
  have e : bits.take (i + 1) = bits.take i ++ [bits[i]] := by simp
  rw [e, List.map_append]
  rfl

set_option maxHeartbeats 8000000 in
set_option maxRecDepth 100000 in
theorem walk (n : Int) (a_b : Option Addr) (c_b : Nat) (b : List UInt8) (a_bits : Option Addr) (c_bits : Nat) (bits : List Int) (w : World) (hT : Tab w) (w_n : (Lit.int .u64 n).wf = true) (l_b : b.length ≤ c_b) (m_b : c_b ≤ maxLen) (t_b : Txt w a_b b) (l_bits : bits.length ≤ c_bits) (m_bits : c_bits ≤ maxLen) (t_bits : Row (Value.int .i64) w a_bits bits) (r_bits : ∀ n ∈ bits, (Lit.int .i64 n).wf = true) :
    Calls Tryd.prog 6 #[.int .u64 n, .slice a_b b.length c_b, .slice a_bits bits.length c_bits] w fun e w' => e = .returned (.bool true) ∧ Below w.heap.size w w' := by
  obtain ⟨i0, hi0, hz0, hz1, hz2⟩ := info_parts info_byte
  obtain ⟨n0, n1⟩ := u64_wf w_n
  obtain ⟨n, rfl⟩ := Int.eq_ofNat_of_zero_le n0
  have hn : n < 18446744073709551616 := by omega
  clear n0 n1 w_n
  have HT := Lib.hid hT
  have HB := Lib.hid t_b
  have HQ := Lib.hid t_bits
  clear hT t_b t_bits
  go_enter Tryd.func6, Tryd.ntmps6
  go_wp2_with fail
  refine (awake_any w HT.out).mono ?_
  rintro e w1 ⟨rfl, hb1⟩
  by_cases c1 : 1000 < b.length
  · go_wp2_with fail
    go_ret
    exact ⟨rfl, hb1⟩
  by_cases c2 : bits.length < 1
  · go_wp2_with fail
    go_ret
    exact ⟨rfl, hb1⟩
  by_cases c3 : 3 < bits.length
  · go_wp2_with fail
    go_ret
    exact ⟨rfl, hb1⟩
  have hfr := Frame_any n a_b c_b b w1 (HT.out.below hb1 (Nat.le_refl _)) hn (HB.out.below hb1) (by omega)
  go_wp2_with fail
  refine hfr.mono ?_
  rintro e w2 ⟨rfl, hB2, hb2⟩
  have hbel2 := hb1.trans (hb2.mono hb1.size)
  obtain ⟨g, hg⟩ : ∃ g, g = w1.heap.size := ⟨_, rfl⟩
  have hgw : w.heap.size ≤ g := by rw [hg]; exact hb1.size
  rw [← hg] at hB2 ⊢
  obtain ⟨qb, qo, rfl, hqlt, hqc⟩ := HQ.out (by rintro rfl; simp at c2)
  obtain ⟨N, hN⟩ : ∃ N, N = 17 + b.length := ⟨_, rfl⟩
  rw [← hN]
  have HN := Lib.hid hN
  have hcell : ∀ W, Below w.heap.size w W → ∀ i (h : i < bits.length), W.cell? ⟨qb, qo + i, none⟩ = some (.int .i64 bits[i]) := fun W hW i h => (hW.cell (p := ⟨qb, qo + i, none⟩) hqlt).trans (hqc i h)
  have hNl : N ≤ 1017 := by omega
  clear hfr hb2 hg hqc hN
  have HC := Lib.hid hcell
  clear hcell
  go_wp2_with fail
  go_loopw [8] (fun vi wr => ∃ i : Nat, vi = .int .i64 i ∧ i ≤ bits.length ∧ Seen bits N i ∧ Blk wr g ((bn bits i).foldl turn (frameOf n b)) ∧ Below w.heap.size w wr)
    (fun vi _ => bits.length - (intOf vi).toNat)
  case atStart => exact ⟨0, rfl, Nat.zero_le _, ⟨fun j hj h => absurd h (by omega), fun j k _ _ _ h => absurd h (by omega)⟩, hB2, hbel2⟩
  case round =>
    obtain ⟨i, rfl, hiL, hseen, hB, hbel⟩ := hrel
    by_cases hlt : i < bits.length
    · have hc := HC.out wr hbel i hlt
      have hx64 := i64_wf (r_bits bits[i] (List.getElem_mem _))
      obtain ⟨x, hx⟩ : ∃ x, x = bits[i] := ⟨_, rfl⟩
      rw [← hx] at hc hx64
      have HX := Lib.hid hx
      clear hx
      by_cases x0 : x < 0
      · go_wp2_with fail
        go_ret
        exact ⟨rfl, hbel⟩
      by_cases x1 : 8 * (N : Int) ≤ x
      · go_wp2_with fail
        go_ret
        exact ⟨rfl, hbel⟩
      obtain ⟨X, rfl⟩ := Int.eq_ofNat_of_zero_le (show 0 ≤ x by omega)
      have hX8 : X < 8 * N := by omega
      have HB2 := Lib.hid hB
      have HS := Lib.hid hseen
      clear hB hseen x0
      go_wp2_with fail
      go_loopw [9] (fun vk wr2 => ∃ k : Nat, vk = .int .i64 k ∧ k ≤ i ∧ (∀ j (hj : j < bits.length), j < k → bits[j] ≠ (X : Int)) ∧ Blk wr2 g ((bn bits i).foldl turn (frameOf n b)) ∧ Below w.heap.size w wr2)
        (fun vk _ => i - (intOf vk).toNat)
      case atStart => exact ⟨0, rfl, Nat.zero_le _, fun j hj h => absurd h (by omega), HB2.out, hbel⟩
      case round =>
        obtain ⟨k, rfl, hki, hne, hB3, hbel3⟩ := hrel
        by_cases hk : k < i
        · have hc3 := HC.out wr hbel3 i hlt
          rw [← HX.out] at hc3
          have hk3 := HC.out wr hbel3 k (by omega)
          obtain ⟨y, hy⟩ : ∃ y, y = bits[k] := ⟨_, rfl⟩
          rw [← hy] at hk3
          have HY := Lib.hid hy
          have HN3 := Lib.hid hne
          have HB3 := Lib.hid hB3
          clear hc hy hne hB3
          have ii : (i : Int) < (bits.length : Int) := by omega
          have ik : (k : Int) < (bits.length : Int) := by omega
          by_cases hyx : y = (X : Int)
          · have t1 : (y == (X : Int)) = true := by simpa using hyx
            go_wp2_with fail
            go_quiet (fail)
            go_wp2
            go_ret
            exact ⟨rfl, below_drewN hbel3 _⟩
          · have t1 : (y == (X : Int)) = false := by simpa using hyx
            go_wp2_with fail
            go_quiet (fail)
            go_wp2
            refine ⟨⟨k + 1, by go_num, by omega, fun j hj hjk => ?_, HB3.out, below_drewN hbel3 _⟩, ?_⟩
            · by_cases hjk' : j = k
              · subst hjk'
                rw [← HY.out]
                exact hyx
              · exact HN3.out j hj (by omega)
            · simp [intOf]; omega
        · obtain rfl : k = i := by omega
          have hc3 := HC.out wr hbel3 k hlt
          rw [← HX.out] at hc3
          have hN3 := hne
          have HN3 := Lib.hid hN3
          obtain ⟨iI, hiI, hsI⟩ : ∃ iI, Tryd.prog.info? 3 = some iI ∧ iI.size = 1 := by
            have h : (Tryd.prog.info? 3).map (·.size) = some 1 := by kernel_rfl
            obtain ⟨iI, h1, h2⟩ := Option.map_eq_some_iff.1 h
            exact ⟨iI, h1, h2⟩
          obtain ⟨F, hF⟩ : ∃ F, F = (bn bits k).foldl turn (frameOf n b) := ⟨_, rfl⟩
          rw [← hF] at hB3
          have hFl : F.length = N := by rw [hF, turns_length, frame_length, HN.out]
          have HF := Lib.hid hF
          have hqN : X / 8 < N := by omega
          have hqlt3 : qb < wr.heap.size := Nat.lt_of_lt_of_le hqlt hbel3.size
          obtain ⟨OB, hOBe⟩ : ∃ OB, OB = (F[X / 8]'(by omega)).toNat := ⟨_, rfl⟩
          have hOB : OB < 256 := by rw [hOBe]; exact UInt8.toNat_lt _
          have hcg' : wr.cell? ⟨g, 0 + X / 8, none⟩ = some (.int .u8 (OB : Int)) := by
            rw [hOBe, Nat.zero_add]
            exact hB3.cell (X / 8) (by omega)
          have HO := Lib.hid hOBe
          have HCG := Lib.hid hcg'
          have HC3 := Lib.hid hc3
          clear hc hne hN3 hF hOBe hcg' hc3
          go_wp2_with fail
          refine wp_region_steps_then (words [wIs (.slice (some ⟨g, 0, none⟩) N N), wIs (.slice (some ⟨qb, qo, none⟩) bits.length c_bits), wIs (.int .i64 (k : Int)), wIs (.pointer (some ⟨qb, qo + k, none⟩)), wIs (.int .i64 (X : Int)), wIs (.int .i64 ((X / 8 : Nat) : Int)), wIs (.slice (some ⟨g, 0, none⟩) N N), wIs (.slice (some ⟨qb, qo, none⟩) bits.length c_bits), wIs (.int .i64 (k : Int)), wIs (.pointer (some ⟨qb, qo + k, none⟩)), wIs (.int .i64 (X : Int)), wIs (.int .i64 ((X / 8 : Nat) : Int)), wIs (.pointer (some ⟨g, 0 + X / 8, none⟩)), wIs (.int .u8 ((OB : Nat) : Int)), wIs (.slice (some ⟨qb, qo, none⟩) bits.length c_bits), wIs (.int .i64 (k : Int)), wIs (.pointer (some ⟨qb, qo + k, none⟩)), wIs (.int .i64 (X : Int)), wIs (.int .i64 ((X % 8 : Nat) : Int)), wIs (.int .u64 ((X % 8 : Nat) : Int)), wIs (.int .u8 ((2 ^ (X % 8) : Nat) : Int)), wIs (.int .u8 ((OB ^^^ 2 ^ (X % 8) : Nat) : Int)), wIs (.pointer (some ⟨g, 0 + X / 8, none⟩))]) wr.heap.size wr (by kernel_rfl) (Below.refl _ _) (Nat.le_refl _) (words_stable ?stab) rfl rfl rfl (by kernel_rfl) _ rfl ?steps ?last
          case stab =>
            intro f hf
            simp only [List.mem_cons, List.not_mem_nil, or_false] at hf
            rcases hf with rfl | rfl | rfl | rfl | rfl | rfl | rfl | rfl | rfl | rfl | rfl | rfl | rfl | rfl | rfl | rfl | rfl | rfl | rfl | rfl | rfl | rfl | rfl <;> exact stable_is _
          case steps =>
            refine Steps.cons (step_value rfl fun x W hp => ⟨wanted_none rfl, _, _, run_move (.inl rfl), (hp.old 7 rfl), Below.refl _ _⟩) ?_
            refine Steps.cons (step_value rfl fun x W hp => ⟨wanted_none rfl, _, _, run_move (.inl rfl), (hp.old 2 rfl), Below.refl _ _⟩) ?_
            refine Steps.cons (step_value rfl fun x W hp => ⟨wanted_none rfl, _, _, run_move (.inl rfl), (hp.old 8 rfl), Below.refl _ _⟩) ?_
            refine Steps.cons (step_value rfl fun x W hp => ?_) ?_
            · have f1 : wIs (.slice (some ⟨qb, qo, none⟩) bits.length c_bits) (x.tmps.getD 67 undef) W := (hp.on_ 1 rfl rfl rfl).2
              have f2 : wIs (.int .i64 (k : Int)) (x.tmps.getD 68 undef) W := (hp.on_ 2 rfl rfl rfl).2
              exact ⟨wanted_none rfl, _, _, run_idx rfl Tryd.underlying35 hiI hsI f1 f2 hlt, (show _ = _ by rw [Addr.add_lit]), Below.refl _ _⟩
            refine Steps.cons (step_value rfl fun x W hp => ?_) ?_
            · have f1 : wIs (.pointer (some ⟨qb, qo + k, none⟩)) (x.tmps.getD 69 undef) W := (hp.on_ 3 rfl rfl rfl).2
              exact ⟨wanted_none rfl, _, _, run_ld rfl Tryd.underlying3 hiI hsI f1 ((hp.below.cell (p := ⟨qb, qo + k, none⟩) hqlt3).trans HC3.out), rfl, Below.refl _ _⟩
            refine Steps.cons (step_value rfl fun x W hp => ?_) ?_
            · have f1 : wIs (.int .i64 (X : Int)) (x.tmps.getD 70 undef) W := (hp.on_ 4 rfl rfl rfl).2
              refine ⟨wanted_none rfl, _, _, run_bin rfl rfl (v := .int .i64 ((X / 8 : Nat) : Int)) ?_, rfl, Below.refl _ _⟩
              show (binOp .quo _ (x.tmps.getD 70 undef) _).run _ W = _
              rw [show x.tmps.getD 70 undef = _ from f1]
              exact bin_quo8 X (by omega)
            refine Steps.cons (step_value rfl fun x W hp => ⟨wanted_none rfl, _, _, run_move (.inl rfl), (hp.old 7 rfl), Below.refl _ _⟩) ?_
            refine Steps.cons (step_value rfl fun x W hp => ⟨wanted_none rfl, _, _, run_move (.inl rfl), (hp.old 2 rfl), Below.refl _ _⟩) ?_
            refine Steps.cons (step_value rfl fun x W hp => ⟨wanted_none rfl, _, _, run_move (.inl rfl), (hp.old 8 rfl), Below.refl _ _⟩) ?_
            refine Steps.cons (step_value rfl fun x W hp => ?_) ?_
            · have f1 : wIs (.slice (some ⟨qb, qo, none⟩) bits.length c_bits) (x.tmps.getD 73 undef) W := (hp.on_ 7 rfl rfl rfl).2
              have f2 : wIs (.int .i64 (k : Int)) (x.tmps.getD 74 undef) W := (hp.on_ 8 rfl rfl rfl).2
              exact ⟨wanted_none rfl, _, _, run_idx rfl Tryd.underlying35 hiI hsI f1 f2 hlt, (show _ = _ by rw [Addr.add_lit]), Below.refl _ _⟩
            refine Steps.cons (step_value rfl fun x W hp => ?_) ?_
            · have f1 : wIs (.pointer (some ⟨qb, qo + k, none⟩)) (x.tmps.getD 75 undef) W := (hp.on_ 9 rfl rfl rfl).2
              exact ⟨wanted_none rfl, _, _, run_ld rfl Tryd.underlying3 hiI hsI f1 ((hp.below.cell (p := ⟨qb, qo + k, none⟩) hqlt3).trans HC3.out), rfl, Below.refl _ _⟩
            refine Steps.cons (step_value rfl fun x W hp => ?_) ?_
            · have f1 : wIs (.int .i64 (X : Int)) (x.tmps.getD 76 undef) W := (hp.on_ 10 rfl rfl rfl).2
              refine ⟨wanted_none rfl, _, _, run_bin rfl rfl (v := .int .i64 ((X / 8 : Nat) : Int)) ?_, rfl, Below.refl _ _⟩
              show (binOp .quo _ (x.tmps.getD 76 undef) _).run _ W = _
              rw [show x.tmps.getD 76 undef = _ from f1]
              exact bin_quo8 X (by omega)
            refine Steps.cons (step_value rfl fun x W hp => ?_) ?_
            · have f1 : wIs (.slice (some ⟨g, 0, none⟩) N N) (x.tmps.getD 72 undef) W := (hp.on_ 6 rfl rfl rfl).2
              have f2 : wIs (.int .i64 ((X / 8 : Nat) : Int)) (x.tmps.getD 77 undef) W := (hp.on_ 11 rfl rfl rfl).2
              exact ⟨wanted_none rfl, _, _, run_idx rfl Tryd.underlying24 hi0 hz1 f1 f2 hqN, (show _ = _ by rw [Addr.add_lit]), Below.refl _ _⟩
            refine Steps.cons (step_value rfl fun x W hp => ?_) ?_
            · have f1 : wIs (.pointer (some ⟨g, 0 + X / 8, none⟩)) (x.tmps.getD 78 undef) W := (hp.on_ 12 rfl rfl rfl).2
              exact ⟨wanted_none rfl, _, _, run_ld rfl Tryd.underlying5 hi0 hz1 f1 ((hp.below.cell (p := ⟨g, 0 + X / 8, none⟩) hB3.lt).trans HCG.out), rfl, Below.refl _ _⟩
            refine Steps.cons (step_value rfl fun x W hp => ⟨wanted_none rfl, _, _, run_move (.inl rfl), (hp.old 2 rfl), Below.refl _ _⟩) ?_
            refine Steps.cons (step_value rfl fun x W hp => ⟨wanted_none rfl, _, _, run_move (.inl rfl), (hp.old 8 rfl), Below.refl _ _⟩) ?_
            refine Steps.cons (step_value rfl fun x W hp => ?_) ?_
            · have f1 : wIs (.slice (some ⟨qb, qo, none⟩) bits.length c_bits) (x.tmps.getD 80 undef) W := (hp.on_ 14 rfl rfl rfl).2
              have f2 : wIs (.int .i64 (k : Int)) (x.tmps.getD 81 undef) W := (hp.on_ 15 rfl rfl rfl).2
              exact ⟨wanted_none rfl, _, _, run_idx rfl Tryd.underlying35 hiI hsI f1 f2 hlt, (show _ = _ by rw [Addr.add_lit]), Below.refl _ _⟩
            refine Steps.cons (step_value rfl fun x W hp => ?_) ?_
            · have f1 : wIs (.pointer (some ⟨qb, qo + k, none⟩)) (x.tmps.getD 82 undef) W := (hp.on_ 16 rfl rfl rfl).2
              exact ⟨wanted_none rfl, _, _, run_ld rfl Tryd.underlying3 hiI hsI f1 ((hp.below.cell (p := ⟨qb, qo + k, none⟩) hqlt3).trans HC3.out), rfl, Below.refl _ _⟩
            refine Steps.cons (step_value rfl fun x W hp => ?_) ?_
            · have f1 : wIs (.int .i64 (X : Int)) (x.tmps.getD 83 undef) W := (hp.on_ 17 rfl rfl rfl).2
              refine ⟨wanted_none rfl, _, _, run_bin rfl rfl (v := .int .i64 ((X % 8 : Nat) : Int)) ?_, rfl, Below.refl _ _⟩
              show (binOp .rem _ (x.tmps.getD 83 undef) _).run _ W = _
              rw [show x.tmps.getD 83 undef = _ from f1]
              exact bin_rem8 X (by omega)
            refine Steps.cons (step_value rfl fun x W hp => ?_) ?_
            · have f1 : wIs (.int .i64 ((X % 8 : Nat) : Int)) (x.tmps.getD 84 undef) W := (hp.on_ 18 rfl rfl rfl).2
              refine ⟨wanted_none rfl, .int .u64 ((X % 8 : Nat) : Int), W, run_conv rfl ?_, rfl, Below.refl _ _⟩
              show (convert _ _ (x.tmps.getD 84 undef)).run _ W = _
              rw [show x.tmps.getD 84 undef = _ from f1]
              have hk : Tryd.prog.intKind 36 = .u64 := by simp [Program.intKind, Tryd.underlying36]
              have h := run_convert_int (P := Tryd.prog) W 3 36 .i64 ((X % 8 : Nat) : Int) (by rw [Tryd.underlying3]; rfl) (by rw [hk]; exact Tryd.underlying36)
              rw [h, hk, IntKind.wrap_u64, show (((X % 8 : Nat) : Int)) % 18446744073709551616 = ((X % 8 : Nat) : Int) by omega]
            refine Steps.cons (step_value rfl fun x W hp => ?_) ?_
            · have f1 : wIs (.int .u64 ((X % 8 : Nat) : Int)) (x.tmps.getD 85 undef) W := (hp.on_ 19 rfl rfl rfl).2
              refine ⟨wanted_none rfl, _, _, run_bin rfl rfl (v := .int .u8 ((2 ^ (X % 8) : Nat) : Int)) ?_, rfl, Below.refl _ _⟩
              show (binOp .shl _ _ (x.tmps.getD 85 undef)).run _ W = _
              rw [show x.tmps.getD 85 undef = _ from f1]
              exact bin_shl1 (X % 8) (Nat.mod_lt _ (by decide))
            refine Steps.cons (step_value rfl fun x W hp => ?_) ?_
            · have f1 : wIs (.int .u8 ((OB : Nat) : Int)) (x.tmps.getD 79 undef) W := (hp.on_ 13 rfl rfl rfl).2
              have f2 : wIs (.int .u8 ((2 ^ (X % 8) : Nat) : Int)) (x.tmps.getD 86 undef) W := (hp.on_ 20 rfl rfl rfl).2
              refine ⟨wanted_none rfl, _, _, run_bin rfl rfl (v := .int .u8 ((OB ^^^ 2 ^ (X % 8) : Nat) : Int)) ?_, rfl, Below.refl _ _⟩
              show (binOp .xor _ (x.tmps.getD 79 undef) (x.tmps.getD 86 undef)).run _ W = _
              rw [show x.tmps.getD 79 undef = _ from f1, show x.tmps.getD 86 undef = _ from f2]
              exact bin_xor8 OB _ hOB (by rw [← bitB_nat (Nat.mod_lt _ (by decide))]; exact (bitB _).toNat_lt)
            refine Steps.cons (step_value rfl fun x W hp => ?_) ?_
            · have f1 : wIs (.slice (some ⟨g, 0, none⟩) N N) (x.tmps.getD 66 undef) W := (hp.on_ 0 rfl rfl rfl).2
              have f2 : wIs (.int .i64 ((X / 8 : Nat) : Int)) (x.tmps.getD 71 undef) W := (hp.on_ 5 rfl rfl rfl).2
              exact ⟨wanted_none rfl, _, _, run_idx rfl Tryd.underlying24 hi0 hz1 f1 f2 hqN, (show _ = _ by rw [Addr.add_lit]), Below.refl _ _⟩
            exact Steps.nil
          case last =>
            intro x W hI
            have h88 : x.tmps.getD 88 undef = .pointer (some ⟨g, 0 + X / 8, none⟩) := hI.new 22 _ 88 rfl rfl rfl
            have h87 : x.tmps.getD 87 undef = .int .u8 ((OB ^^^ 2 ^ (X % 8) : Nat) : Int) := hI.new 21 _ 87 rfl rfl rfl
            have hBW : Blk W g F := (hI.below.block g hB3.lt).trans hB3
            have hbW : Below w.heap.size w W := hbel3.trans (hI.below.mono hbel3.size)
            obtain ⟨f, _, hx⟩ := hI.puts [66, 67, 68, 69, 70, 71, 72, 73, 74, 75, 76, 77, 78, 79, 80, 81, 82, 83, 84, 85, 86, 87, 88] rfl
            clear hI
            have hcW := hBW.cell (X / 8) (by omega)
            have hfW := hBW.frozen (X / 8)
            refine wpOp_of rfl (wanted_none rfl) ?_
            unfold Oper.wp
            rw [run_st rfl Tryd.underlying5 hi0 hz1 (show x.eval (.tmp 88) = _ from h88.trans (by rw [Nat.zero_add])) (show x.eval (.tmp 87) = _ from h87) hcW hfW, Oper.upon_skip]
            have hset := hBW.set (X / 8) (F[X / 8]'(by omega) ^^^ bitB (X % 8))
            have hval : ((F[X / 8]'(by omega) ^^^ bitB (X % 8)).toNat : Int) = ((OB ^^^ 2 ^ (X % 8) : Nat) : Int) := by
              rw [UInt8.toNat_xor, bitB_nat (Nat.mod_lt _ (by decide)), HO.out]
            rw [hval, ← turn_eq (by omega)] at hset
            rw [hset]
            have hB6 : Blk (W.setRow g (Lib.byteCells (turn F X)).toArray) g (turn F X) := hBW.put _
            have hb6 : Below w.heap.size w (W.setRow g (Lib.byteCells (turn F X)).toArray) := below_setRow hbW hgw _
            generalize W.setRow g (Lib.byteCells (turn F X)).toArray = W6 at hB6 hb6
            clear hset hval hcW hfW hBW hbW h88 h87
            subst hx
            simp only [List.foldl_cons, List.foldl_nil]
            simp only [Exit.inBlock, Exit.then]
            go_wp2
            refine ⟨⟨k + 1, by go_num, by omega, ?_, ?_, hb6⟩, ?_⟩
            · refine ⟨fun j hj hjk => ?_, fun j j2 hj hj2 hjj hjk => ?_⟩
              · by_cases hjk' : j = k
                · subst hjk'
                  rw [← HX.out]
                  omega
                · exact HS.out.inb j hj (by omega)
              · by_cases hjk' : j2 = k
                · subst hjk'
                  rw [← HX.out]
                  exact HN3.out j hj hjj
                · exact HS.out.apart j j2 hj hj2 hjj (by omega)
            · rw [bn_succ hlt, List.foldl_append, ← HX.out, ← HF.out]
              exact hB6
            · simp [intOf]; omega
    · obtain rfl : i = bits.length := by omega
      have hT3 := HT.out.below hbel (Nat.le_refl _)
      have hFl : ((bn bits bits.length).foldl turn (frameOf n b)).length = N := by rw [turns_length, frame_length, HN.out]
      have hnd : (bn bits bits.length).Nodup := by
        unfold bn
        rw [List.take_length]
        refine List.pairwise_iff_getElem.2 fun j k hj hk hjk => ?_
        rw [List.length_map] at hj hk
        have h := hseen.apart j k hj hk hjk hk
        have h1 := hseen.inb j hj hj
        have h2 := hseen.inb k hk hk
        simp only [List.getElem_map]
        omega
      have hbl : (bn bits bits.length).length = bits.length := by simp [bn]
      have hin : ∀ q ∈ bn bits bits.length, q < 8 * (17 + b.length) := by
        intro q hq
        unfold bn at hq
        rw [List.take_length] at hq
        obtain ⟨x, hx, rfl⟩ := List.mem_map.1 hq
        obtain ⟨j, hj, rfl⟩ := List.getElem_of_mem hx
        have := hseen.inb j hj hj
        have := HN.out
        omega
      have hsp : (∀ q ∈ bn bits bits.length, q < 8 ∨ 40 ≤ q) → size1 ((bn bits bits.length).foldl turn (frameOf n b)) = 0 := fun ho => spoilt n b (by omega) _ (by omega) (by omega) hnd hin ho
      obtain ⟨FF, hFF⟩ : ∃ FF, FF = (bn bits bits.length).foldl turn (frameOf n b) := ⟨_, rfl⟩
      rw [← hFF] at hsp hFl hB
      have HSP := Lib.hid hsp
      have htk : size1 FF = 0 → Calls Tryd.prog 11 #[.slice (some ⟨g, 0, none⟩) N N] wr (Took wr (0, [], 0)) := by
        intro h0
        have h := Take_any (some ⟨g, 0, none⟩) N FF wr hT3 hB.txt (by omega) (by unfold maxLen; omega)
        have e : take1 FF = (0, [], 0) := by unfold take1; rw [if_pos h0]
        rw [hFl, e] at h
        exact h
      have HTK := Lib.hid htk
      have HSE := Lib.hid hseen
      clear hsp htk hseen hnd hin hbl hFF hFl hB hT3
      match bits, c2, c3 with
      | [x], _, _ =>
        have px : 0 ≤ x := (HSE.out.inb 0 (by simp) (by simp)).1
        have qx : wr.cell? ⟨qb, qo, none⟩ = some (.int .i64 x) := HC.out wr hbel 0 (by simp)
        clear HSE HC
        rcases (show x < 8 ∨ (8 ≤ x ∧ x < 40) ∨ 40 ≤ x by omega) with kx | ⟨kx, lx⟩ | kx
        · have h0 := HSP.out (by
            intro q hq
            simp [bn] at hq
            omega)
          have hk := HTK.out h0
          clear HSP HTK h0
          go_wp2_with fail
          refine hk.mono ?_
          rintro e w7 ⟨a7, c7, rfl, _, _, _, _, hb7⟩
          have hbel7 := hbel.trans (hb7.mono hbel.size)
          clear hk hb7
          go_wp2_with fail
          go_ret
          exact ⟨rfl, hbel7⟩
        · clear HSP HTK
          go_wp2_with fail
          go_ret
          exact ⟨rfl, hbel⟩
        · have gx : 8 ≤ x := by omega
          have h0 := HSP.out (by
            intro q hq
            simp [bn] at hq
            omega)
          have hk := HTK.out h0
          clear HSP HTK h0
          go_wp2_with fail
          refine hk.mono ?_
          rintro e w7 ⟨a7, c7, rfl, _, _, _, _, hb7⟩
          have hbel7 := hbel.trans (hb7.mono hbel.size)
          clear hk hb7
          go_wp2_with fail
          go_ret
          exact ⟨rfl, hbel7⟩
      | [x, y], _, _ =>
        have px : 0 ≤ x := (HSE.out.inb 0 (by simp) (by simp)).1
        have qx : wr.cell? ⟨qb, qo, none⟩ = some (.int .i64 x) := HC.out wr hbel 0 (by simp)
        have py : 0 ≤ y := (HSE.out.inb 1 (by simp) (by simp)).1
        have qy : wr.cell? ⟨qb, qo + 1, none⟩ = some (.int .i64 y) := HC.out wr hbel 1 (by simp)
        clear HSE HC
        rcases (show x < 8 ∨ (8 ≤ x ∧ x < 40) ∨ 40 ≤ x by omega) with kx | ⟨kx, lx⟩ | kx
        · rcases (show y < 8 ∨ (8 ≤ y ∧ y < 40) ∨ 40 ≤ y by omega) with ky | ⟨ky, ly⟩ | ky
          · have h0 := HSP.out (by
              intro q hq
              simp [bn] at hq
              rcases hq with rfl | rfl <;> omega)
            have hk := HTK.out h0
            clear HSP HTK h0
            go_wp2_with fail
            refine hk.mono ?_
            rintro e w7 ⟨a7, c7, rfl, _, _, _, _, hb7⟩
            have hbel7 := hbel.trans (hb7.mono hbel.size)
            clear hk hb7
            go_wp2_with fail
            go_ret
            exact ⟨rfl, hbel7⟩
          · clear HSP HTK
            go_wp2_with fail
            go_ret
            exact ⟨rfl, hbel⟩
          · have gy : 8 ≤ y := by omega
            have h0 := HSP.out (by
              intro q hq
              simp [bn] at hq
              rcases hq with rfl | rfl <;> omega)
            have hk := HTK.out h0
            clear HSP HTK h0
            go_wp2_with fail
            refine hk.mono ?_
            rintro e w7 ⟨a7, c7, rfl, _, _, _, _, hb7⟩
            have hbel7 := hbel.trans (hb7.mono hbel.size)
            clear hk hb7
            go_wp2_with fail
            go_ret
            exact ⟨rfl, hbel7⟩
        · clear HSP HTK
          go_wp2_with fail
          go_ret
          exact ⟨rfl, hbel⟩
        · have gx : 8 ≤ x := by omega
          rcases (show y < 8 ∨ (8 ≤ y ∧ y < 40) ∨ 40 ≤ y by omega) with ky | ⟨ky, ly⟩ | ky
          · have h0 := HSP.out (by
              intro q hq
              simp [bn] at hq
              rcases hq with rfl | rfl <;> omega)
            have hk := HTK.out h0
            clear HSP HTK h0
            go_wp2_with fail
            refine hk.mono ?_
            rintro e w7 ⟨a7, c7, rfl, _, _, _, _, hb7⟩
            have hbel7 := hbel.trans (hb7.mono hbel.size)
            clear hk hb7
            go_wp2_with fail
            go_ret
            exact ⟨rfl, hbel7⟩
          · clear HSP HTK
            go_wp2_with fail
            go_ret
            exact ⟨rfl, hbel⟩
          · have gy : 8 ≤ y := by omega
            have h0 := HSP.out (by
              intro q hq
              simp [bn] at hq
              rcases hq with rfl | rfl <;> omega)
            have hk := HTK.out h0
            clear HSP HTK h0
            go_wp2_with fail
            refine hk.mono ?_
            rintro e w7 ⟨a7, c7, rfl, _, _, _, _, hb7⟩
            have hbel7 := hbel.trans (hb7.mono hbel.size)
            clear hk hb7
            go_wp2_with fail
            go_ret
            exact ⟨rfl, hbel7⟩
      | [x, y, z], _, _ =>
        have px : 0 ≤ x := (HSE.out.inb 0 (by simp) (by simp)).1
        have qx : wr.cell? ⟨qb, qo, none⟩ = some (.int .i64 x) := HC.out wr hbel 0 (by simp)
        have py : 0 ≤ y := (HSE.out.inb 1 (by simp) (by simp)).1
        have qy : wr.cell? ⟨qb, qo + 1, none⟩ = some (.int .i64 y) := HC.out wr hbel 1 (by simp)
        have pz : 0 ≤ z := (HSE.out.inb 2 (by simp) (by simp)).1
        have qz : wr.cell? ⟨qb, qo + 2, none⟩ = some (.int .i64 z) := HC.out wr hbel 2 (by simp)
        clear HSE HC
        rcases (show x < 8 ∨ (8 ≤ x ∧ x < 40) ∨ 40 ≤ x by omega) with kx | ⟨kx, lx⟩ | kx
        · rcases (show y < 8 ∨ (8 ≤ y ∧ y < 40) ∨ 40 ≤ y by omega) with ky | ⟨ky, ly⟩ | ky
          · rcases (show z < 8 ∨ (8 ≤ z ∧ z < 40) ∨ 40 ≤ z by omega) with kz | ⟨kz, lz⟩ | kz
            · have h0 := HSP.out (by
                intro q hq
                simp [bn] at hq
                rcases hq with rfl | rfl | rfl <;> omega)
              have hk := HTK.out h0
              clear HSP HTK h0
              go_wp2_with fail
              refine hk.mono ?_
              rintro e w7 ⟨a7, c7, rfl, _, _, _, _, hb7⟩
              have hbel7 := hbel.trans (hb7.mono hbel.size)
              clear hk hb7
              go_wp2_with fail
              go_ret
              exact ⟨rfl, hbel7⟩
            · clear HSP HTK
              go_wp2_with fail
              go_ret
              exact ⟨rfl, hbel⟩
            · have gz : 8 ≤ z := by omega
              have h0 := HSP.out (by
                intro q hq
                simp [bn] at hq
                rcases hq with rfl | rfl | rfl <;> omega)
              have hk := HTK.out h0
              clear HSP HTK h0
              go_wp2_with fail
              refine hk.mono ?_
              rintro e w7 ⟨a7, c7, rfl, _, _, _, _, hb7⟩
              have hbel7 := hbel.trans (hb7.mono hbel.size)
              clear hk hb7
              go_wp2_with fail
              go_ret
              exact ⟨rfl, hbel7⟩
          · clear HSP HTK
            go_wp2_with fail
            go_ret
            exact ⟨rfl, hbel⟩
          · have gy : 8 ≤ y := by omega
            rcases (show z < 8 ∨ (8 ≤ z ∧ z < 40) ∨ 40 ≤ z by omega) with kz | ⟨kz, lz⟩ | kz
            · have h0 := HSP.out (by
                intro q hq
                simp [bn] at hq
                rcases hq with rfl | rfl | rfl <;> omega)
              have hk := HTK.out h0
              clear HSP HTK h0
              go_wp2_with fail
              refine hk.mono ?_
              rintro e w7 ⟨a7, c7, rfl, _, _, _, _, hb7⟩
              have hbel7 := hbel.trans (hb7.mono hbel.size)
              clear hk hb7
              go_wp2_with fail
              go_ret
              exact ⟨rfl, hbel7⟩
            · clear HSP HTK
              go_wp2_with fail
              go_ret
              exact ⟨rfl, hbel⟩
            · have gz : 8 ≤ z := by omega
              have h0 := HSP.out (by
                intro q hq
                simp [bn] at hq
                rcases hq with rfl | rfl | rfl <;> omega)
              have hk := HTK.out h0
              clear HSP HTK h0
              go_wp2_with fail
              refine hk.mono ?_
              rintro e w7 ⟨a7, c7, rfl, _, _, _, _, hb7⟩
              have hbel7 := hbel.trans (hb7.mono hbel.size)
              clear hk hb7
              go_wp2_with fail
              go_ret
              exact ⟨rfl, hbel7⟩
        · clear HSP HTK
          go_wp2_with fail
          go_ret
          exact ⟨rfl, hbel⟩
        · have gx : 8 ≤ x := by omega
          rcases (show y < 8 ∨ (8 ≤ y ∧ y < 40) ∨ 40 ≤ y by omega) with ky | ⟨ky, ly⟩ | ky
          · rcases (show z < 8 ∨ (8 ≤ z ∧ z < 40) ∨ 40 ≤ z by omega) with kz | ⟨kz, lz⟩ | kz
            · have h0 := HSP.out (by
                intro q hq
                simp [bn] at hq
                rcases hq with rfl | rfl | rfl <;> omega)
              have hk := HTK.out h0
              clear HSP HTK h0
              go_wp2_with fail
              refine hk.mono ?_
              rintro e w7 ⟨a7, c7, rfl, _, _, _, _, hb7⟩
              have hbel7 := hbel.trans (hb7.mono hbel.size)
              clear hk hb7
              go_wp2_with fail
              go_ret
              exact ⟨rfl, hbel7⟩
            · clear HSP HTK
              go_wp2_with fail
              go_ret
              exact ⟨rfl, hbel⟩
            · have gz : 8 ≤ z := by omega
              have h0 := HSP.out (by
                intro q hq
                simp [bn] at hq
                rcases hq with rfl | rfl | rfl <;> omega)
              have hk := HTK.out h0
              clear HSP HTK h0
              go_wp2_with fail
              refine hk.mono ?_
              rintro e w7 ⟨a7, c7, rfl, _, _, _, _, hb7⟩
              have hbel7 := hbel.trans (hb7.mono hbel.size)
              clear hk hb7
              go_wp2_with fail
              go_ret
              exact ⟨rfl, hbel7⟩
          · clear HSP HTK
            go_wp2_with fail
            go_ret
            exact ⟨rfl, hbel⟩
          · have gy : 8 ≤ y := by omega
            rcases (show z < 8 ∨ (8 ≤ z ∧ z < 40) ∨ 40 ≤ z by omega) with kz | ⟨kz, lz⟩ | kz
            · have h0 := HSP.out (by
                intro q hq
                simp [bn] at hq
                rcases hq with rfl | rfl | rfl <;> omega)
              have hk := HTK.out h0
              clear HSP HTK h0
              go_wp2_with fail
              refine hk.mono ?_
              rintro e w7 ⟨a7, c7, rfl, _, _, _, _, hb7⟩
              have hbel7 := hbel.trans (hb7.mono hbel.size)
              clear hk hb7
              go_wp2_with fail
              go_ret
              exact ⟨rfl, hbel7⟩
            · clear HSP HTK
              go_wp2_with fail
              go_ret
              exact ⟨rfl, hbel⟩
            · have gz : 8 ≤ z := by omega
              have h0 := HSP.out (by
                intro q hq
                simp [bn] at hq
                rcases hq with rfl | rfl | rfl <;> omega)
              have hk := HTK.out h0
              clear HSP HTK h0
              go_wp2_with fail
              refine hk.mono ?_
              rintro e w7 ⟨a7, c7, rfl, _, _, _, _, hb7⟩
              have hbel7 := hbel.trans (hb7.mono hbel.size)
              clear hk hb7
              go_wp2_with fail
              go_ret
              exact ⟨rfl, hbel7⟩

set_option maxRecDepth 100000 in
theorem lifted (os : Os) (started : os.Started) (H : Type) (enc : TypeId × Value → H) :
    ReturnsInHanded {} Tryd.checked os 6 .any (fun w args => (Rows.sumSpoiltSpec.pre enc Tryd.prog Tryd.f6 Rows.sumSpoiltRow.domain false w args ∧ laidMetH Tryd.prog LAID w) ∧ sizedMet enc Tryd.prog Tryd.f6 (OpenSpec.ofChange Rows.sumSpoiltSpec) false w args) (Rows.sumSpoiltSpec.post enc Tryd.prog Tryd.f6 false true false false) := by
  refine returnsInHanded_of_change_and (C := Tryd.checked) (X := fun w _ => laidMetH Tryd.prog LAID w) (fun _ _ _ hh h => h.of_heap hh) own started (by kernel_rfl) Tryd.func6
    (ChangeSpec.witness_shaped (enc := enc) (C := Tryd.checked) (os := os) (X := fun w _ => laidMetH Tryd.prog LAID w) false (World.laidAll Tryd.prog os LAID) #[.int .u64 0, .slice none 0 0, .slice none 0 0] 8 (World.laidAll_os _ _ _)
      (World.shaped_of_ZipB (by kernel_rfl) (by kernel_rfl)) (by kernel_rfl) (by kernel_rfl) (by kernel_rfl)
      (by rw [MakeChecks.laidMetH_plain _ _ _ (by kernel_rfl)]; exact laidMet_laidAll _ (by kernel_rfl) (by kernel_rfl))) ?_
  intro W base args ds gs before hval0 hW hcnd hsz0 hL _
  have hT : Tab W := tab_of (by rw [MakeChecks.laidMetH_plain _ _ _ (by kernel_rfl)] at hL; exact hL)
  have hval : ∀ (j : Nat) t v, Tryd.f6.params[j]? = some t → args[j]? = some v → Value.okWide Tryd.prog W .any base t v := hval0
  have hW' := hW
  obtain ⟨p, q, hA0, hV, rfl, hfz, hnd⟩ := hW
  have hA : DataW.TrodAll enc Tryd.prog W 0 (fun _ => true) true Tryd.f6.params.toList args.toList ds p := hA0
  rw [Tryd.params6] at hA hval
  obtain ⟨v0, vs0, d0, ds0, p0, q0, hargs, rfl, rfl, h0, r0⟩ := trodAll_cons hA
  obtain ⟨v1, vs1, d1, ds1, p1, q1, rfl, rfl, rfl, h1, r1⟩ := trodAll_cons r0
  obtain ⟨v2, vs2, d2, ds2, p2, q2, rfl, rfl, rfl, h2, r2⟩ := trodAll_cons r1
  obtain ⟨rfl, rfl, rfl⟩ := trodAll_nil r2
  obtain rfl : args = #[v0, v1, v2] := by cases args; simp_all
  obtain ⟨rfl, rfl⟩ := trodVars_none hV
  obtain ⟨n, rfl, rfl, rfl, w_n⟩ := open_int Tryd.underlying23 (hval 0 23 v0 rfl rfl) h0
  obtain ⟨a_b, len_b, c_b, rfl⟩ := okWide_slice Tryd.underlying24 (hval 1 24 v1 rfl rfl)
  have k1 := h1
  have lt1 : ∀ x ∈ p1, x.block < W.heap.size := by obtain ⟨m, hm⟩ := k1; exact DataW.trod_lt m _ _ _ hm
  obtain ⟨b, n_b, l_b, m_b, t_b⟩ : ∃ b : List UInt8, b.length = len_b ∧ b.length ≤ c_b ∧ c_b ≤ maxLen ∧ Txt W a_b b := by
    obtain ⟨fuel, hf⟩ := h1
    rcases open_ints Tryd.underlying24 Tryd.underlying5 (by kernel_rfl) hf with ⟨hcs, _⟩ | ⟨x, l, c, zs, hcs, _, hl, hm, hz, _, hcell, hwz⟩
    · simp [Value.cells] at hcs
      obtain ⟨rfl, rfl, rfl⟩ := hcs
      exact ⟨[], rfl, Nat.zero_le _, Nat.zero_le _, Txt.nil _ _⟩
    · simp [Value.cells] at hcs
      obtain ⟨rfl, rfl, rfl⟩ := hcs
      have hr := row_some (f := Value.int .u8) hl (by simpa using hz) hcell
      obtain ⟨r, hrl, hrt⟩ := txt_of_row hr.2 (fun n hn => hwz n (List.mem_of_mem_take hn))
      exact ⟨r, hrl.trans hr.1, by rw [hrl, hr.1]; exact hl, hm, hrt⟩
  subst n_b
  obtain ⟨a_bits, len_bits, c_bits, rfl⟩ := okWide_slice Tryd.underlying35 (hval 2 35 v2 rfl rfl)
  have k2 := h2
  have lt2 : ∀ x ∈ p2, x.block < W.heap.size := by obtain ⟨m, hm⟩ := k2; exact DataW.trod_lt m _ _ _ hm
  obtain ⟨bits, n_bits, l_bits, m_bits, t_bits, r_bits⟩ : ∃ bits : List Int, bits.length = len_bits ∧ bits.length ≤ c_bits ∧ c_bits ≤ maxLen ∧ Row (Value.int .i64) W a_bits bits ∧ (∀ n ∈ bits, (Lit.int .i64 n).wf = true) := by
    obtain ⟨fuel, hf⟩ := h2
    rcases open_ints Tryd.underlying35 Tryd.underlying3 (by kernel_rfl) hf with ⟨hcs, _⟩ | ⟨x, l, c, zs, hcs, _, hl, hm, hz, _, hcell, hwz⟩
    · simp [Value.cells] at hcs
      obtain ⟨rfl, rfl, rfl⟩ := hcs
      exact ⟨[], rfl, Nat.zero_le _, Nat.zero_le _, Row.nil _ _ _, fun _ h => by cases h⟩
    · simp [Value.cells] at hcs
      obtain ⟨rfl, rfl, rfl⟩ := hcs
      have hr := row_some (f := Value.int .i64) hl (by simpa using hz) hcell
      exact ⟨_, hr.1, by rw [hr.1]; exact hl, hm, hr.2, fun n hn => hwz n (List.mem_of_mem_take hn)⟩
  subst n_bits
  clear hA0 hval0
  refine (walk n a_b c_b b a_bits c_bits bits W hT w_n l_b m_b t_b l_bits m_bits t_bits r_bits).mono fun e W' ⟨he, bel⟩ => ?_
  subst he
  exact ⟨_, rfl, _, _, _, [], _, [], hW', trodAll_mk1 (shut_bool Tryd.underlying4 _), (trodAll_cons_mk (shut_int Tryd.underlying23 w_n) (trodAll_cons_mk (Below.trod laidOut (by kernel_rfl) (of_decide_eq_true (by kernel_rfl)) k1 bel lt1) (trodAll_cons_mk (Below.trod laidOut (by kernel_rfl) (of_decide_eq_true (by kernel_rfl)) k2 bel lt2) trodAll_mk0))), rfl, bel.frame _, fun h => by cases h⟩

theorem over : Rows.sumSpoiltRow.holds Tryd.pinned (OpenSpec.ofChange Rows.sumSpoiltSpec) :=
  OpenClaim.holds_of_wide 6 Tryd.f6 rfl rfl rfl rfl rfl rfl rfl ⟨rfl, rfl, rfl, rfl, rfl⟩ rfl rfl rfl rfl rfl (by kernel_rfl) Tryd.func6 (by kernel_rfl)
    (of_decide_eq_true (by kernel_rfl)) (by unfold Func.isWrapper; first | (rw [if_pos (by decide +kernel)]; kernel_rfl) | (rw [if_neg (by decide +kernel)]; exact ⟨rfl, rfl⟩))
    (fun os started H enc _ => lifted os started H enc)

set_option maxRecDepth 100000 in
theorem proved : Rows.SumSpoiltCardSaid :=
  Claim7.holds_tied_plain_at .later [] [.data] true Rows.sumSpoiltCard.stood.harness false over (fun _ h => by cases h) (by kernel_rfl) (fun _ h => by cases h) sumSpoilt_row_tie rfl ⟨rfl, rfl⟩ (by kernel_rfl) rfl
    (fun f fn hf hfn => by
      obtain rfl : f = 6 := Option.some.inj ((show Tryd.prog.funcNamed "escapement/escapementlaw2.SumSpoilt" = some 6 by kernel_rfl).symm.trans hf) |>.symm
      obtain rfl : fn = Tryd.f6 := (Option.some.inj (Tryd.func6.symm.trans hfn)).symm
      exact ⟨by kernel_rfl, fun j t ht => by
        rw [Tryd.params6] at ht
        have hm : t ∈ ([23, 24, 35] : List TypeId) := by simpa using Array.mem_of_getElem? ht
        have hall : (([23, 24, 35] : List TypeId).all fun u => !Tryd.prog.wantsStandIn u) = true := by kernel_rfl
        exact (show Tryd.prog.wantsStandIn t = false by simpa using List.all_eq_true.1 hall t hm)⟩)
    (by kernel_rfl)
#print axioms proved
end Go.Proofs.YtdacgdaglbjjeaaDoor.sumSpoilt
