/-
  What package lex's isLetter, isDigit and isNamePart do.
-/
import Derived.Test.YtolcaebdmapfbaaDoorShelf
import Derived.WalkKit
import Derived.Lib.Hide
namespace Go.Proofs.YtolcaebdmapfbaaDoor
open Go Go.RowKit

def isL (n : Nat) : Bool := decide (97 ≤ n) && decide (n ≤ 122)
def isD (n : Nat) : Bool := decide (48 ≤ n) && decide (n ≤ 57)
def isN (n : Nat) : Bool := isL n || isD n || n == 95

set_option maxRecDepth 100000 in
theorem isLetter_any (c : Nat) (w : World) : Calls Tryd.prog 22 #[.int .u8 (c : Int)] w fun e w' => e = .returned (.bool (isL c)) ∧ w' = w := by
  unfold isL
  by_cases h1 : 97 ≤ c
  · by_cases h2 : c ≤ 122
    · rw [decide_eq_true h1, decide_eq_true h2]
      have i1 : decide ((97 : Int) ≤ (c : Int)) = true := by simp; omega
      have i2 : decide ((c : Int) ≤ 122) = true := by simp; omega
      go_enter Tryd.func22, Tryd.ntmps22
      go_wp2
      go_ret
      exact ⟨rfl, rfl⟩
    · rw [decide_eq_true h1, decide_eq_false h2]
      have i1 : decide ((97 : Int) ≤ (c : Int)) = true := by simp; omega
      have i2 : decide ((c : Int) ≤ 122) = false := by simp; omega
      go_enter Tryd.func22, Tryd.ntmps22
      go_wp2
      go_ret
      exact ⟨rfl, rfl⟩
  · rw [decide_eq_false h1]
    have i1 : decide ((97 : Int) ≤ (c : Int)) = false := by simp; omega
    go_enter Tryd.func22, Tryd.ntmps22
    go_wp2
    go_ret
    exact ⟨rfl, rfl⟩

set_option maxRecDepth 100000 in
theorem isDigit_any (c : Nat) (w : World) : Calls Tryd.prog 26 #[.int .u8 (c : Int)] w fun e w' => e = .returned (.bool (isD c)) ∧ w' = w := by
  unfold isD
  by_cases h1 : 48 ≤ c
  · by_cases h2 : c ≤ 57
    · rw [decide_eq_true h1, decide_eq_true h2]
      have i1 : decide ((48 : Int) ≤ (c : Int)) = true := by simp; omega
      have i2 : decide ((c : Int) ≤ 57) = true := by simp; omega
      go_enter Tryd.func26, Tryd.ntmps26
      go_wp2
      go_ret
      exact ⟨rfl, rfl⟩
    · rw [decide_eq_true h1, decide_eq_false h2]
      have i1 : decide ((48 : Int) ≤ (c : Int)) = true := by simp; omega
      have i2 : decide ((c : Int) ≤ 57) = false := by simp; omega
      go_enter Tryd.func26, Tryd.ntmps26
      go_wp2
      go_ret
      exact ⟨rfl, rfl⟩
  · rw [decide_eq_false h1]
    have i1 : decide ((48 : Int) ≤ (c : Int)) = false := by simp; omega
    go_enter Tryd.func26, Tryd.ntmps26
    go_wp2
    go_ret
    exact ⟨rfl, rfl⟩

set_option maxRecDepth 100000 in
theorem isNamePart_any (c : Nat) (w : World) : Calls Tryd.prog 25 #[.int .u8 (c : Int)] w fun e w' => e = .returned (.bool (isN c)) ∧ w' = w := by
  have k1 := isLetter_any c w
  have k2 := isDigit_any c w
  unfold isN
  generalize isL c = b1 at *
  generalize isD c = b2 at *
  cases b1
  · cases b2
    · by_cases h : c = 95
      · subst h
        go_enter Tryd.func25, Tryd.ntmps25
        go_wp2_with fail
        refine k1.mono ?_
        rintro e w1 ⟨rfl, rfl⟩
        go_wp2_with fail
        refine k2.mono ?_
        rintro e w1 ⟨rfl, rfl⟩
        go_wp2_with fail
        go_ret
        exact ⟨rfl, rfl⟩
      · have i1 : ((c : Int) == 95) = false := by simp; omega
        have i2 : (c == 95) = false := by simpa using h
        rw [i2]
        go_enter Tryd.func25, Tryd.ntmps25
        go_wp2_with fail
        refine k1.mono ?_
        rintro e w1 ⟨rfl, rfl⟩
        go_wp2_with fail
        refine k2.mono ?_
        rintro e w1 ⟨rfl, rfl⟩
        go_wp2_with fail
        go_ret
        exact ⟨rfl, rfl⟩
    · go_enter Tryd.func25, Tryd.ntmps25
      go_wp2_with fail
      refine k1.mono ?_
      rintro e w1 ⟨rfl, rfl⟩
      go_wp2_with fail
      refine k2.mono ?_
      rintro e w1 ⟨rfl, rfl⟩
      go_wp2_with fail
      go_ret
      exact ⟨rfl, rfl⟩
  · go_enter Tryd.func25, Tryd.ntmps25
    go_wp2_with fail
    refine k1.mono ?_
    rintro e w1 ⟨rfl, rfl⟩
    go_wp2_with fail
    go_ret
    exact ⟨rfl, rfl⟩
end Go.Proofs.YtolcaebdmapfbaaDoor
