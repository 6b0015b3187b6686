/-
  What the document's own rooted does, where power does what it should.
-/
import Derived.Test.YtopchpaiehoilaaDoorInf
import Derived.Test.YtopchpaiehoilaaDoorQpu
namespace Go.Proofs.YtopchpaiehoilaaDoor
open Go Go.RowKit

/-- Power's contract. -/
def PowerDoes (k p : Nat) : Prop := ∀ (m : Nat) (w : World), m < 137438953472 → Calls Tryd.prog 19 #[.int .u64 m, .int .i64 k, .int .u64 p] w fun e w' => e = .returned (.bool (decide (m ^ k ≤ p * 2 ^ (32 * k)))) ∧ Below w.heap.size w w'

set_option maxHeartbeats 2000000 in
set_option maxRecDepth 100000 in
theorem rooted_any (p k : Nat) (w : World) (hP : PowerDoes k p) (hp : p < 65536) (hk : k ≤ 3) :
    Calls Tryd.prog 14 #[.int .u64 p, .int .i64 k] w fun e w' => e = .returned (.int .u32 (rootOf p k)) ∧ Below w.heap.size w w' := by
  have HP := Lib.hid hP
  clear hP
  go_enter Tryd.func14, Tryd.ntmps14
  go_wp2
  go_loopw [5, 6] (fun v5 v6 wr => ∃ j : Nat, j ≤ 37 ∧ v5 = .int .u64 ((bis k p j).1 : Int) ∧ v6 = .int .u64 ((bis k p j).2 : Int) ∧ Below w.heap.size w wr)
    (fun v5 v6 _ => (intOf v6 - intOf v5).toNat)
  case atStart => exact ⟨0, by omega, rfl, rfl, Below.refl _ _⟩
  case round =>
    obtain ⟨j, hj, rfl, rfl, hbel⟩ := hrel
    have hw := bis_width k p j hj
    have hle := bis_le k p j hj
    by_cases hlt : j < 37
    · have hd : 2 ^ (37 - j) = 2 * 2 ^ (36 - j) := by rw [show 37 - j = (36 - j) + 1 by omega, Nat.pow_succ, Nat.mul_comm]
      have he : 0 < 2 ^ (36 - j) := Nat.pow_pos (by decide)
      rw [hd] at hw
      have hb1 : bis k p (j + 1) = if (((bis k p j).1 + (bis k p j).2) / 2) ^ k ≤ p * 2 ^ (32 * k) then (((bis k p j).1 + (bis k p j).2) / 2, (bis k p j).2) else ((bis k p j).1, ((bis k p j).1 + (bis k p j).2) / 2) := rfl
      generalize 2 ^ (36 - j) = d at hw he
      obtain ⟨lo, hlo⟩ : ∃ lo, lo = (bis k p j).1 := ⟨_, rfl⟩
      obtain ⟨hi, hhi⟩ : ∃ hi, hi = (bis k p j).2 := ⟨_, rfl⟩
      rw [← hlo, ← hhi] at hw hb1
      rw [← hhi] at hle
      rw [← hlo, ← hhi]
      obtain ⟨m, hm⟩ : ∃ m, m = (lo + hi) / 2 := ⟨_, rfl⟩
      rw [← hm] at hb1
      have hmI : ((lo : Int) + (hi : Int)) / 2 = (m : Int) := by omega
      have hml : m < 137438953472 := by omega
      have hpow := HP.out m wr hml
      have hlm : lo < m := by omega
      have hmh : m < hi := by omega
      have hlh : lo + 1 < hi := by omega
      have HB := Lib.hid hb1
      have HL := Lib.hid hbel
      clear hb1 hbel hw hd hlo hhi hm
      by_cases c : m ^ k ≤ p * 2 ^ (32 * k)
      · have e1 : bis k p (j + 1) = (m, hi) := by rw [HB.out, if_pos c]
        rw [decide_eq_true c] at hpow
        have E1 := Lib.hid e1
        clear e1 c
        go_wp2_with fail
        refine hpow.mono ?_
        rintro e w2 ⟨rfl, hb2⟩
        have hb3 := HL.out.trans (hb2.mono HL.out.size)
        have H3 := Lib.hid hb3
        clear hb2 hb3 hpow
        go_wp2
        refine ⟨⟨j + 1, by omega, by rw [E1.out], by rw [E1.out], H3.out⟩, ?_⟩
        simp [intOf]; omega
      · have e1 : bis k p (j + 1) = (lo, m) := by rw [HB.out, if_neg c]
        rw [decide_eq_false c] at hpow
        have E1 := Lib.hid e1
        clear e1 c
        go_wp2_with fail
        refine hpow.mono ?_
        rintro e w2 ⟨rfl, hb2⟩
        have hb3 := HL.out.trans (hb2.mono HL.out.size)
        have H3 := Lib.hid hb3
        clear hb2 hb3 hpow
        go_wp2
        refine ⟨⟨j + 1, by omega, by rw [E1.out], by rw [E1.out], H3.out⟩, ?_⟩
        simp [intOf]; omega
    · rw [show 37 - j = 0 by omega, Nat.pow_zero] at hw
      have hr : rootOf p k = (bis k p j).1 % 4294967296 := by rw [rootOf, show j = 37 by omega]
      obtain ⟨lo, hlo⟩ : ∃ lo, lo = (bis k p j).1 := ⟨_, rfl⟩
      obtain ⟨hi, hhi⟩ : ∃ hi, hi = (bis k p j).2 := ⟨_, rfl⟩
      rw [← hlo, ← hhi] at hw
      rw [← hhi] at hle
      rw [← hlo] at hr
      rw [← hlo, ← hhi]
      have HR := Lib.hid hr
      have HL := Lib.hid hbel
      clear hr hbel hlo hhi hlt
      subst hw
      go_wp2
      go_ret
      refine ⟨?_, HL.out⟩
      congr 2
      rw [HR.out]
      simp
end Go.Proofs.YtopchpaiehoilaaDoor
