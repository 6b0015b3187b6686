/-
  What the document's own Reader does: fail, U.
-/
import Derived.Test.YthgcoeienbgmhaaPrs
namespace Go.Proofs.Ythgcoeienbgmhaa
open Go Go.RowKit

set_option maxHeartbeats 400000 in
theorem rfail_any (g : Nat) (s : St) (w : World) (h : Rd 38 w g s) :
    Calls Try.prog 32 #[.pointer (some ⟨g, 0, none⟩)] w fun e w' => e = .returned (.int .u64 0) ∧ Rd 38 w' g ([], true) ∧ w.grownBy w' (some g) := by
  have h2 : Rd 38 ((w.setCell ⟨g, 1, none⟩ (.bool true)).setCell ⟨g, 0, none⟩ (.slice none 0 0)) g ([], true) :=
    (h.set1 true).set0 (a := none) (n := 0) (c := 0) (l := []) rfl (Txt.nil _ _) (Nat.le_refl _) (Nat.zero_le _) (fun _ _ e => by cases e)
  have hgr : w.grownBy ((w.setCell ⟨g, 1, none⟩ (.bool true)).setCell ⟨g, 0, none⟩ (.slice none 0 0)) (some g) := grown_trans (set_grown w g 1 _) (set_grown _ g 0 _)
  have H2 := Lib.hid h2
  have HG := Lib.hid hgr
  clear h2 hgr
  obtain ⟨a, c, hg, _⟩ := h
  obtain ⟨hc0, hc1, hf0, hf1⟩ := two_cells hg
  clear hg
  go_enter Try.func32, Try.ntmps32
  go_wp2
  go_ret
  exact ⟨rfl, H2.out, HG.out⟩

theorem drop_state {l : List UInt8} {bad : Bool} {n m : Nat} (h : num l = (n, m + 1)) : rdU (l, bad) = (n, l.drop (m + 1), bad) := by
  unfold rdU
  rw [h]
  rfl
theorem fail_state {l : List UInt8} {bad : Bool} (h : num l = (0, 0)) : rdU (l, bad) = (0, [], true) := by
  unfold rdU
  rw [h]
  rfl

set_option maxHeartbeats 4000000 in
set_option maxRecDepth 100000 in
theorem rU_any (g : Nat) (s : St) (w : World) (h : Rd 38 w g s) :
    Calls Try.prog 23 #[.pointer (some ⟨g, 0, none⟩)] w fun e w' => e = .returned (.int .u64 (rdU s).1) ∧ Rd 38 w' g (rdU s).2 ∧ w.grownBy w' (some g) := by
  obtain ⟨l, bad⟩ := s
  have h' := Lib.hid h
  obtain ⟨a, c, hg, ht, hlc, hcm, hne⟩ := h
  obtain ⟨hc0, hc1, hf0, hf1⟩ := two_cells hg
  clear hg
  dsimp only at ht hlc hc0 hc1
  unfold maxLen at hcm
  have HT := Lib.hid ht
  have HN := Lib.hid hne
  clear ht hne
  go_enter Try.func23, Try.ntmps23
  go_wp2_with fail
  go_loop [3, 4] (fun vu vi => ∃ k acc : Nat, vi = .int .i64 k ∧ vu = .int .u64 acc ∧ k ≤ 9 ∧ k ≤ l.length ∧ acc < 2 ^ (7 * k) ∧ num l = numFrom k acc (l.drop k))
    (fun _ vi => l.length - (intOf vi).toNat)
  case atStart => exact ⟨0, 0, rfl, rfl, by omega, by omega, by decide, rfl⟩
  case round =>
    obtain ⟨k, acc, rfl, rfl, hk9, hkn, hacc, hdec⟩ := hrel
    have hk10 : (k : Int) < 10 := by omega
    by_cases hk : k < l.length
    · obtain ⟨b, o, rfl, hbl, hcell⟩ := HT.out (by rintro rfl; simp at hk)
      have hc := hcell k hk
      have hdrop : l.drop k = l[k]'(by omega) :: l.drop (k + 1) := List.drop_eq_getElem_cons (by omega)
      rw [hdrop] at hdec
      generalize l[k]'(by omega) = x at hc hdec
      have hb256 : x.toNat < 256 := x.toNat_lt
      clear hcell hdrop
      obtain ⟨m, hm⟩ : ∃ m, m = x.toNat % 128 := ⟨_, rfl⟩
      have hm128 : m < 128 := by omega
      have hand : bits .and .u8 (x.toNat : Int) 127 = (m : Int) := by rw [u8_and127 _ (by omega) (by omega)]; omega
      have HM := Lib.hid hm
      clear hm
      unfold numFrom at hdec
      by_cases k9 : k = 9
      · have t1 : ((k : Int) == 9) = true := by simp; omega
        by_cases hx1 : 1 < x.toNat
        · rw [if_pos ⟨k9, hx1⟩] at hdec
          have HR := Lib.hid (fail_state (bad := bad) hdec)
          have HA := Lib.hid hacc
          clear hdec hacc k9
          go_wp2_with fail
          refine (rfail_any g (l, bad) w h'.out).mono ?_
          rintro e w1 ⟨rfl, hr, hgr⟩
          go_wp2
          go_ret
          rw [HR.out]
          exact ⟨rfl, hr, hgr⟩
        · by_cases hx0 : x.toNat = 0
          · rw [if_neg (by omega), if_neg (by omega), if_pos (by omega)] at hdec
            have t2 : ((x.toNat : Int) == 0) = true := by simp; omega
            have hk0 : (0 : Int) < (k : Int) := by omega
            have HR := Lib.hid (fail_state (bad := bad) hdec)
            have HA := Lib.hid hacc
            have hx0' : x.toNat ≤ 0 := by omega
            clear hdec hacc k9 hx0
            go_wp2_with fail
            refine (rfail_any g (l, bad) w h'.out).mono ?_
            rintro e w1 ⟨rfl, hr, hgr⟩
            go_wp2
            go_ret
            rw [HR.out]
            exact ⟨rfl, hr, hgr⟩
          · rw [if_neg (by omega), if_neg (by omega), if_neg (by omega)] at hdec
            have t2 : ((x.toNat : Int) == 0) = false := by simp; omega
            have e9 : (2 : Nat) ^ (7 * k) = 9223372036854775808 := by rw [k9]
            have hm := HM.out
            have hmx : m = x.toNat := by omega
            have hx1' : x.toNat = 1 := by omega
            have hAlt : acc + m * 2 ^ (7 * k) < 18446744073709551616 := by rw [e9] at hacc ⊢; omega
            have HK := Lib.hid k9
            have HR := Lib.hid (drop_state (bad := bad) hdec)
            have HA := Lib.hid hacc
            have HLT := Lib.hid hAlt
            have HMX := Lib.hid hmx
            have hcut := HT.out.cut (k + 1)
            by_cases hck : c = k + 1
            · have hset := h'.out.set0 (a := some ⟨b, o, none⟩) (n := 0) (c := 0) (l := l.drop (k + 1)) (by simp; omega) (by rw [List.drop_eq_nil_of_le (by omega)]; exact Txt.nil _ _) (Nat.le_refl _) (Nat.zero_le _) HN.out
              have HS := Lib.hid hset
              have hll : l.length = k + 1 := by omega
              have HLL := Lib.hid hll
              subst hck
              rw [hll] at hc0
              clear hdec hacc hcut hset hAlt hmx hll k9 hm e9 hx1' hx0
              go_wp2_with fail
              go_ret
              rw [HR.out]
              exact ⟨u64_eq (by rw [or_step k acc m HA.out HLT.out, HMX.out]), HS.out, set_grown w g 0 _⟩
            · have hset := h'.out.set0 (a := some ⟨b, o + (k + 1), none⟩) (n := l.length - (k + 1)) (c := c - (k + 1)) (l := l.drop (k + 1)) (by simp) hcut (by omega) (by unfold maxLen; omega) (by intro b' o' e; simp only [Option.some.injEq, Addr.mk.injEq, and_true] at e; have := HN.out b o rfl; omega)
              have HS := Lib.hid hset
              clear hdec hacc hcut hset hAlt hmx k9 hm e9 hx1' hx0
              go_wp2_with fail
              go_ret
              rw [HR.out]
              exact ⟨u64_eq (by rw [or_step k acc m HA.out HLT.out, HMX.out]), HS.out, set_grown w g 0 _⟩
      · have t1 : ((k : Int) == 9) = false := by simp; omega
        rw [if_neg (by omega)] at hdec
        by_cases hx : x.toNat < 128
        · rw [if_neg (by omega)] at hdec
          by_cases hz : x.toNat = 0 ∧ 0 < k
          · rw [if_pos hz] at hdec
            obtain ⟨hz0, hk0⟩ := hz
            have t2 : ((x.toNat : Int) == 0) = true := by simp; omega
            have HR := Lib.hid (fail_state (bad := bad) hdec)
            have HA := Lib.hid hacc
            have hx0' : x.toNat ≤ 0 := by omega
            clear hdec hacc k9 hz0
            go_wp2_with fail
            refine (rfail_any g (l, bad) w h'.out).mono ?_
            rintro e w1 ⟨rfl, hr, hgr⟩
            go_wp2
            go_ret
            rw [HR.out]
            exact ⟨rfl, hr, hgr⟩
          · rw [if_neg hz] at hdec
            have hs := step_lt k acc m (by omega) hacc hm128
            have hAlt : acc + m * 2 ^ (7 * k) < 18446744073709551616 := by omega
            have hmx : m = x.toNat := by have hm := HM.out; omega
            by_cases hz0 : x.toNat = 0
            · have t2 : ((x.toNat : Int) == 0) = true := by simp; omega
              have hk0 : k ≤ 0 := by omega
              have hx0' : x.toNat ≤ 0 := by omega
              have HR := Lib.hid (drop_state (bad := bad) hdec)
              have HA := Lib.hid hacc
              have HLT := Lib.hid hAlt
              have HMX := Lib.hid hmx
              have hcut := HT.out.cut (k + 1)
              by_cases hck : c = k + 1
              · have hset := h'.out.set0 (a := some ⟨b, o, none⟩) (n := 0) (c := 0) (l := l.drop (k + 1)) (by simp; omega) (by rw [List.drop_eq_nil_of_le (by omega)]; exact Txt.nil _ _) (Nat.le_refl _) (Nat.zero_le _) HN.out
                have HS := Lib.hid hset
                have hll : l.length = k + 1 := by omega
                have HLL := Lib.hid hll
                subst hck
                rw [hll] at hc0
                clear hdec hacc hcut hset hAlt hmx hll hs hz0 hz
                go_wp2_with fail
                go_ret
                rw [HR.out]
                exact ⟨u64_eq (by rw [or_step k acc m HA.out HLT.out, HMX.out]), HS.out, set_grown w g 0 _⟩
              · have hset := h'.out.set0 (a := some ⟨b, o + (k + 1), none⟩) (n := l.length - (k + 1)) (c := c - (k + 1)) (l := l.drop (k + 1)) (by simp) hcut (by omega) (by unfold maxLen; omega) (by intro b' o' e; simp only [Option.some.injEq, Addr.mk.injEq, and_true] at e; have := HN.out b o rfl; omega)
                have HS := Lib.hid hset
                clear hdec hacc hcut hset hAlt hmx hs hz0 hz
                go_wp2_with fail
                go_ret
                rw [HR.out]
                exact ⟨u64_eq (by rw [or_step k acc m HA.out HLT.out, HMX.out]), HS.out, set_grown w g 0 _⟩
            · have t2 : ((x.toNat : Int) == 0) = false := by simp; omega
              have HR := Lib.hid (drop_state (bad := bad) hdec)
              have HA := Lib.hid hacc
              have HLT := Lib.hid hAlt
              have HMX := Lib.hid hmx
              have hcut := HT.out.cut (k + 1)
              by_cases hck : c = k + 1
              · have hset := h'.out.set0 (a := some ⟨b, o, none⟩) (n := 0) (c := 0) (l := l.drop (k + 1)) (by simp; omega) (by rw [List.drop_eq_nil_of_le (by omega)]; exact Txt.nil _ _) (Nat.le_refl _) (Nat.zero_le _) HN.out
                have HS := Lib.hid hset
                have hll : l.length = k + 1 := by omega
                have HLL := Lib.hid hll
                subst hck
                rw [hll] at hc0
                clear hdec hacc hcut hset hAlt hmx hll hs hz0 hz
                go_wp2_with fail
                go_ret
                rw [HR.out]
                exact ⟨u64_eq (by rw [or_step k acc m HA.out HLT.out, HMX.out]), HS.out, set_grown w g 0 _⟩
              · have hset := h'.out.set0 (a := some ⟨b, o + (k + 1), none⟩) (n := l.length - (k + 1)) (c := c - (k + 1)) (l := l.drop (k + 1)) (by simp) hcut (by omega) (by unfold maxLen; omega) (by intro b' o' e; simp only [Option.some.injEq, Addr.mk.injEq, and_true] at e; have := HN.out b o rfl; omega)
                have HS := Lib.hid hset
                clear hdec hacc hcut hset hAlt hmx hs hz0 hz
                go_wp2_with fail
                go_ret
                rw [HR.out]
                exact ⟨u64_eq (by rw [or_step k acc m HA.out HLT.out, HMX.out]), HS.out, set_grown w g 0 _⟩
        · rw [if_pos (by omega)] at hdec
          have HD := Lib.hid hdec
          have HA := Lib.hid hacc
          clear hdec hacc
          go_wp2_with fail
          have hs := step_lt k acc m (by omega) HA.out hm128
          have hm := HM.out
          go_round
          case rel => exact ⟨k + 1, acc + m * 2 ^ (7 * k), by go_num, by rw [or_step k acc m HA.out (by omega)], by omega, by omega, hs.1, by rw [HD.out, hm]⟩
          case measure => simp [intOf]; omega
    · obtain rfl : k = l.length := by omega
      rw [List.drop_length] at hdec
      have HR := Lib.hid (fail_state (bad := bad) hdec)
      have HA := Lib.hid hacc
      clear hdec hacc
      go_wp2_with fail
      refine (rfail_any g (l, bad) w h'.out).mono ?_
      rintro e w1 ⟨rfl, hr, hgr⟩
      go_wp2
      go_ret
      rw [HR.out]
      exact ⟨rfl, hr, hgr⟩

end Go.Proofs.Ythgcoeienbgmhaa
