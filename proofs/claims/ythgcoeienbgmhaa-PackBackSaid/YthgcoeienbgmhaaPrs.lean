/-
  What pack's Reader does: unfold, I, S.
-/
import Derived.Test.YthgcoeienbgmhaaPrm
namespace Go.Proofs.Ythgcoeienbgmhaa
open Go Go.RowKit

theorem i64_xor_zero (x : Nat) (hx : x < 9223372036854775808) : bits .xor .i64 (x : Int) 0 = (x : Int) := by
  show IntKind.i64.wrap ((BitVec.ofInt 64 (x : Int) ^^^ BitVec.ofInt 64 0).toNat : Int) = _
  have h2 : (BitVec.ofInt 64 (x : Int)).toNat = x := by
    rw [BitVec.ofInt_natCast, BitVec.toNat_ofNat]; exact Nat.mod_eq_of_lt (by omega)
  have h1 : (BitVec.ofInt 64 0).toNat = 0 := by decide
  rw [BitVec.toNat_xor, h1, h2, Nat.xor_zero, IntKind.wrap_i64]
  omega

theorem i64_xor_ones (x : Nat) (hx : x < 9223372036854775808) : bits .xor .i64 (x : Int) (-1) = -(x : Int) - 1 := by
  show IntKind.i64.wrap ((BitVec.ofInt 64 (x : Int) ^^^ BitVec.ofInt 64 (-1)).toNat : Int) = _
  have h1 : (BitVec.ofInt 64 (-1)).toNat = 2 ^ 64 - 1 := by decide
  have h2 : (BitVec.ofInt 64 (x : Int)).toNat = x := by
    rw [BitVec.ofInt_natCast, BitVec.toNat_ofNat]; exact Nat.mod_eq_of_lt (by omega)
  rw [BitVec.toNat_xor, h1, h2, Nat.xor_comm, Lib.xor_ones64 x (by omega), IntKind.wrap_i64]
  omega

theorem unfold_bits (u : Nat) (hu : u < 18446744073709551616) :
    bits .xor .i64 ((u : Int) / 2) (wrap64 (-wrap64 (bits .and .u64 (u : Int) 1))) = Lib.unzigzag u := by
  rw [Lib.u64_and1 _ (by omega) (by omega)]
  have e0 : ((u : Int) / 2) = ((u / 2 : Nat) : Int) := by omega
  unfold Lib.unzigzag
  by_cases h : u % 2 = 0
  · have e1 : wrap64 (-wrap64 ((u : Int) % 2)) = 0 := by unfold wrap64; omega
    rw [e1, e0, i64_xor_zero _ (by omega), if_pos h]
  · have e1 : wrap64 (-wrap64 ((u : Int) % 2)) = -1 := by unfold wrap64; omega
    rw [e1, e0, i64_xor_ones _ (by omega), if_neg h]

theorem i64_eq {a b : Int} (h : a = b) : Ending.returned (.int .i64 a) = .returned (.int .i64 b) := by rw [h]

set_option maxHeartbeats 400000 in
theorem unfold_any (u : Nat) (w : World) (hu : u < 18446744073709551616) :
    Calls Try.prog 29 #[.int .u64 u] w fun e w' => e = .returned (.int .i64 (Lib.unzigzag u)) ∧ w = w' := by
  go_enter Try.func29, Try.ntmps29
  go_wp2
  go_ret
  exact ⟨i64_eq (unfold_bits u hu), rfl⟩

set_option maxHeartbeats 400000 in
/-- (*Reader).I. -/
theorem RI_any (g : Nat) (s : St) (w : World) (h : Rd 50 w g s) :
    Calls Try.prog 16 #[.pointer (some ⟨g, 0, none⟩)] w fun e w' => e = .returned (.int .i64 (rdI s).1) ∧ Rd 50 w' g (rdI s).2 ∧ w.grownBy w' (some g) := by
  go_enter Try.func16, Try.ntmps16
  go_wp2_with fail
  refine (RU_any g s w h).mono ?_
  rintro e w1 ⟨rfl, hr, hg⟩
  go_wp2_with fail
  refine (unfold_any _ w1 (rdU_lt s)).mono ?_
  rintro e w2 ⟨rfl, rfl⟩
  go_wp2_with fail
  go_ret
  exact ⟨rfl, hr, hg⟩

set_option maxHeartbeats 1000000 in
/-- (*Reader).S. -/
theorem RS_any (g : Nat) (s : St) (w : World) (h : Rd 50 w g s) :
    Calls Try.prog 15 #[.pointer (some ⟨g, 0, none⟩)] w fun e w' => e = .returned (.string ⟨(rdS s).1.toArray⟩) ∧ Rd 50 w' g (rdS s).2 ∧ w.grownBy w' (some g) := by
  unfold rdS
  by_cases hlt : (rdU s).2.1.length < (rdU s).1
  · rw [if_pos hlt]
    go_enter Try.func15, Try.ntmps15
    go_wp2_with fail
    refine (RU_any g s w h).mono ?_
    rintro e w1 ⟨rfl, hr, hg⟩
    have hr' := Lib.hid hr
    obtain ⟨a, c, hgg, ht, hlc, hcm, hne⟩ := hr
    obtain ⟨hc0, hc1, hf0, hf1⟩ := two_cells hgg
    unfold maxLen at hcm
    have hU := rdU_lt s
    clear hgg ht hne
    go_wp2_with fail
    refine (fail_any g _ w1 hr'.out).mono ?_
    rintro e w2 ⟨rfl, hr2, hg2⟩
    go_wp2
    go_ret
    exact ⟨rfl, hr2, grown_trans hg hg2⟩
  · rw [if_neg hlt]
    have hru := Lib.hid (RU_any g s w h)
    have hU := rdU_lt s
    generalize (rdU s).1 = n at *
    generalize (rdU s).2 = s1 at *
    obtain ⟨l, bad⟩ := s1
    dsimp only at *
    go_enter Try.func15, Try.ntmps15
    go_wp2_with fail
    refine hru.out.mono ?_
    rintro e w1 ⟨rfl, hr, hg⟩
    have hr' := Lib.hid hr
    obtain ⟨a, c, hgg, ht, hlc, hcm, hne⟩ := hr
    obtain ⟨hc0, hc1, hf0, hf1⟩ := two_cells hgg
    unfold maxLen at hcm
    clear hgg
    dsimp only at *
    by_cases hl0 : l = []
    · subst hl0
      obtain rfl : n = 0 := by simp at hlt; omega
      have hconv := run_string (P := Try.prog) w1 25 5 9 Try.underlying25 Try.underlying5 Try.underlying9 a [] c (Txt.nil _ _)
      rw [List.length_nil] at hconv hc0
      have hset := hr'.out.set0 (a := a) (n := 0) (c := c) (l := []) rfl (Txt.nil _ _) (Nat.zero_le _) (by unfold maxLen; omega) hne
      have HS := Lib.hid hset
      have HT := Lib.hid ht
      have HN := Lib.hid hne
      clear hset ht hne hlt
      cases a with
      | none =>
        by_cases hc : c = 0
        · subst hc
          go_wp2
          go_ret
          exact ⟨rfl, HS.out, grown_trans hg (set_grown w1 g 0 _)⟩
        · go_wp2
          go_ret
          exact ⟨rfl, HS.out, grown_trans hg (set_grown w1 g 0 _)⟩
      | some ad =>
        by_cases hc : c = 0
        · subst hc
          go_wp2
          go_ret
          exact ⟨rfl, HS.out, grown_trans hg (set_grown w1 g 0 _)⟩
        · go_wp2
          go_ret
          exact ⟨rfl, HS.out, grown_trans hg (set_grown w1 g 0 _)⟩
    · obtain ⟨b, o, rfl, hbl, _⟩ := ht hl0
      have hbg := hne b o rfl
      have hL : 0 < l.length := List.length_pos_iff.2 hl0
      have htake : Txt w1 (some ⟨b, o, none⟩) (l.take n) := by
        intro hne'
        obtain ⟨b', o', e, h1, h2⟩ := ht hl0
        refine ⟨b', o', e, h1, fun i hi => ?_⟩
        rw [List.length_take] at hi
        rw [h2 i (by omega), List.getElem_take]
      have hconv := run_string (P := Try.prog) w1 25 5 9 Try.underlying25 Try.underlying5 Try.underlying9 _ (l.take n) c htake
      rw [List.length_take, Nat.min_eq_left (by omega)] at hconv
      have hcut := ht.cut n
      by_cases hcn : c = n
      · obtain rfl : n = l.length := by omega
        subst hcn
        have hset := hr'.out.set0 (a := some ⟨b, o, none⟩) (n := 0) (c := 0) (l := []) rfl (Txt.nil _ _) (Nat.le_refl _) (Nat.zero_le _) hne
        have HS := Lib.hid hset
        have HN := Lib.hid hne
        clear hset ht htake hcut hne hl0
        go_wp2
        go_ret
        exact ⟨rfl, HS.out, grown_trans hg (set_grown w1 g 0 _)⟩
      · have hset := hr'.out.set0 (a := some ⟨b, o + n, none⟩) (n := l.length - n) (c := c - n) (l := l.drop n) (by simp) hcut (by omega) (by unfold maxLen; omega) (by intro b' o' e; simp only [Option.some.injEq, Addr.mk.injEq, and_true] at e; omega)
        have HS := Lib.hid hset
        have HN := Lib.hid hne
        clear hset ht htake hcut hne hl0
        go_wp2
        go_ret
        exact ⟨rfl, HS.out, grown_trans hg (set_grown w1 g 0 _)⟩

end Go.Proofs.Ythgcoeienbgmhaa
