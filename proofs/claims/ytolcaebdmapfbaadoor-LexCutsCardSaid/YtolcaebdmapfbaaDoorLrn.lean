/-
  What package lex's run does: the length of what a text begins with.
-/
import Derived.Test.YtolcaebdmapfbaaDoorLfn
import Derived.LoopTactic
namespace Go.Proofs.YtolcaebdmapfbaaDoor
open Go Go.RowKit

/-- How many bytes that fit a text begins with. -/
def runLen (p : Nat → Bool) (l : List UInt8) : Nat := (l.takeWhile fun c => p c.toNat).length
theorem runLen_le (p : Nat → Bool) (l : List UInt8) : runLen p l ≤ l.length := (List.takeWhile_sublist _).length_le
theorem runLen_in (p : Nat → Bool) : ∀ (l : List UInt8) (k : Nat) (hk : k < l.length), k < runLen p l → p l[k].toNat = true
  | c :: r, 0, _, h => by
    unfold runLen at h
    rw [List.takeWhile_cons] at h
    by_cases hp : p c.toNat = true
    · exact hp
    · rw [if_neg hp] at h; simp at h
  | c :: r, k + 1, hk, h => by
    unfold runLen at h
    rw [List.takeWhile_cons] at h
    by_cases hp : p c.toNat = true
    · rw [if_pos hp, List.length_cons] at h
      exact runLen_in p r k (by simpa using hk) (by unfold runLen; omega)
    · rw [if_neg hp] at h; simp at h
theorem runLen_out (p : Nat → Bool) : ∀ (l : List UInt8) (hk : runLen p l < l.length), p l[runLen p l].toNat = false
  | c :: r, hk => by
    by_cases hp : p c.toNat = true
    · have e : runLen p (c :: r) = runLen p r + 1 := by unfold runLen; rw [List.takeWhile_cons, if_pos hp, List.length_cons]
      have h := runLen_out p r (by rw [e] at hk; simpa using hk)
      simp only [e, List.getElem_cons_succ]
      exact h
    · have e : runLen p (c :: r) = 0 := by unfold runLen; rw [List.takeWhile_cons, if_neg hp]; rfl
      simp only [e, List.getElem_cons_zero]
      simpa using hp

theorem bytes_get (s : ByteArray) (k : Nat) (h : k < s.size) : s.data.toList[k]'(by simpa using h) = s[k] := rfl

set_option maxHeartbeats 1000000 in
set_option maxRecDepth 100000 in
theorem run_name (s : ByteArray) (w : World) (hs : s.size ≤ 140737488351232) :
    Calls Tryd.prog 24 #[.string s, .func (.func 25) #[] #[]] w fun e w' => e = .returned (.string (s.extract 0 (runLen isN s.data.toList))) ∧ w' = w := by
  have hle := runLen_le isN s.data.toList
  have hsz : s.data.toList.length = s.size := by simp
  rw [hsz] at hle
  obtain ⟨L, hL⟩ : ∃ L, L = runLen isN s.data.toList := ⟨_, rfl⟩
  have hin : ∀ k (h : k < s.size), k < L → isN s[k].toNat = true := fun k h hk => by
    rw [hL] at hk; exact runLen_in isN s.data.toList k (by rw [hsz]; exact h) hk
  have hout : ∀ h : L < s.size, isN s[L].toNat = false := fun h => by
    subst hL; exact runLen_out isN s.data.toList (by rw [hsz]; exact h)
  rw [← hL] at hle ⊢
  have HI := Lib.hid hin
  have HO := Lib.hid hout
  clear hin hout hL hsz
  go_enter Tryd.func24, Tryd.ntmps24
  go_wp2
  go_loop [5] (fun vi => ∃ k : Nat, vi = .int .i64 (k : Int) ∧ k ≤ L) (fun vi => L - (intOf vi).toNat)
  case atStart => exact ⟨0, rfl, Nat.zero_le _⟩
  case round =>
    obtain ⟨k, rfl, hk⟩ := hrel
    by_cases hlt : k < s.size
    · have hc := isNamePart_any s[k].toNat w
      by_cases hkL : k < L
      · rw [HI.out k hlt hkL] at hc
        have hd : decide ((k : Int) < (s.size : Int)) = true := by simp; omega
        go_wp2_with fail
        refine hc.mono ?_
        rintro e w1 ⟨rfl, rfl⟩
        go_wp2_with fail
        refine ⟨⟨k + 1, by go_num, by omega⟩, ?_⟩
        simp [intOf]; omega
      · obtain rfl : k = L := by omega
        rw [HO.out hlt] at hc
        have hd : decide ((k : Int) < (s.size : Int)) = true := by simp; omega
        go_wp2_with fail
        refine hc.mono ?_
        rintro e w1 ⟨rfl, rfl⟩
        go_wp2_with fail
        go_ret
        exact ⟨rfl, rfl⟩
    · obtain rfl : k = L := by omega
      have hd : decide ((k : Int) < (s.size : Int)) = false := by simp; omega
      go_wp2_with fail
      go_ret
      exact ⟨rfl, rfl⟩

set_option maxHeartbeats 1000000 in
set_option maxRecDepth 100000 in
theorem run_digit (s : ByteArray) (w : World) (hs : s.size ≤ 140737488351232) :
    Calls Tryd.prog 24 #[.string s, .func (.func 26) #[] #[]] w fun e w' => e = .returned (.string (s.extract 0 (runLen isD s.data.toList))) ∧ w' = w := by
  have hle := runLen_le isD s.data.toList
  have hsz : s.data.toList.length = s.size := by simp
  rw [hsz] at hle
  obtain ⟨L, hL⟩ : ∃ L, L = runLen isD s.data.toList := ⟨_, rfl⟩
  have hin : ∀ k (h : k < s.size), k < L → isD s[k].toNat = true := fun k h hk => by
    rw [hL] at hk; exact runLen_in isD s.data.toList k (by rw [hsz]; exact h) hk
  have hout : ∀ h : L < s.size, isD s[L].toNat = false := fun h => by
    subst hL; exact runLen_out isD s.data.toList (by rw [hsz]; exact h)
  rw [← hL] at hle ⊢
  have HI := Lib.hid hin
  have HO := Lib.hid hout
  clear hin hout hL hsz
  go_enter Tryd.func24, Tryd.ntmps24
  go_wp2
  go_loop [5] (fun vi => ∃ k : Nat, vi = .int .i64 (k : Int) ∧ k ≤ L) (fun vi => L - (intOf vi).toNat)
  case atStart => exact ⟨0, rfl, Nat.zero_le _⟩
  case round =>
    obtain ⟨k, rfl, hk⟩ := hrel
    by_cases hlt : k < s.size
    · have hc := isDigit_any s[k].toNat w
      by_cases hkL : k < L
      · rw [HI.out k hlt hkL] at hc
        have hd : decide ((k : Int) < (s.size : Int)) = true := by simp; omega
        go_wp2_with fail
        refine hc.mono ?_
        rintro e w1 ⟨rfl, rfl⟩
        go_wp2_with fail
        refine ⟨⟨k + 1, by go_num, by omega⟩, ?_⟩
        simp [intOf]; omega
      · obtain rfl : k = L := by omega
        rw [HO.out hlt] at hc
        have hd : decide ((k : Int) < (s.size : Int)) = true := by simp; omega
        go_wp2_with fail
        refine hc.mono ?_
        rintro e w1 ⟨rfl, rfl⟩
        go_wp2_with fail
        go_ret
        exact ⟨rfl, rfl⟩
    · obtain rfl : k = L := by omega
      have hd : decide ((k : Int) < (s.size : Int)) = false := by simp; omega
      go_wp2_with fail
      go_ret
      exact ⟨rfl, rfl⟩
end Go.Proofs.YtolcaebdmapfbaaDoor
