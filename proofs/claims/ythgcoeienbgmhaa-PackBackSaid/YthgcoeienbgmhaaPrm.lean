/-
  What pack's Reader does: Read, fail, Left, Bad, U.
-/
import Derived.Test.YthgcoeienbgmhaaPrd
import Derived.Test.YthgcoeienbgmhaaRdr
namespace Go.Proofs.Ythgcoeienbgmhaa
open Go Go.RowKit

set_option maxHeartbeats 400000 in
theorem fail_any (g : Nat) (s : St) (w : World) (h : Rd 50 w g s) :
    Calls Try.prog 28 #[.pointer (some ⟨g, 0, none⟩)] w fun e w' => e = .returned (.tuple #[]) ∧ Rd 50 w' g ([], true) ∧ w.grownBy w' (some g) := by
  have h2 : Rd 50 ((w.setCell ⟨g, 0, none⟩ (.slice none 0 0)).setCell ⟨g, 1, none⟩ (.bool true)) g ([], true) :=
    (h.set0 (a := none) (n := 0) (c := 0) (l := []) rfl (Txt.nil _ _) (Nat.le_refl _) (Nat.zero_le _) (fun _ _ e => by cases e)).set1 true
  have hgr : w.grownBy ((w.setCell ⟨g, 0, none⟩ (.slice none 0 0)).setCell ⟨g, 1, none⟩ (.bool true)) (some g) := grown_trans (set_grown w g 0 _) (set_grown _ g 1 _)
  have H2 := Lib.hid h2
  have HG := Lib.hid hgr
  clear h2 hgr
  obtain ⟨a, c, hg, _⟩ := h
  obtain ⟨hc0, hc1, hf0, hf1⟩ := two_cells hg
  clear hg
  go_enter Try.func28, Try.ntmps28
  go_wp2
  go_end0
  exact ⟨rfl, H2.out, HG.out⟩

set_option maxHeartbeats 400000 in
theorem Left_any (g : Nat) (s : St) (w : World) (h : Rd 50 w g s) :
    Calls Try.prog 14 #[.pointer (some ⟨g, 0, none⟩)] w fun e w' => e = .returned (.int .i64 s.1.length) ∧ w = w' := by
  obtain ⟨a, c, hg, _⟩ := h
  obtain ⟨hc0, hc1, hf0, hf1⟩ := two_cells hg
  clear hg
  go_enter Try.func14, Try.ntmps14
  go_wp2
  go_ret
  exact ⟨rfl, rfl⟩

set_option maxHeartbeats 400000 in
theorem Bad_any (g : Nat) (s : St) (w : World) (h : Rd 50 w g s) :
    Calls Try.prog 13 #[.pointer (some ⟨g, 0, none⟩)] w fun e w' => e = .returned (.bool s.2) ∧ w = w' := by
  obtain ⟨a, c, hg, _⟩ := h
  obtain ⟨hc0, hc1, hf0, hf1⟩ := two_cells hg
  clear hg
  go_enter Try.func13, Try.ntmps13
  go_wp2
  go_ret
  exact ⟨rfl, rfl⟩

set_option maxHeartbeats 400000 in
/-- Read(b): a new reader. -/
theorem Read_any (a : Option Addr) (c : Nat) (l : List UInt8) (w : World) (ht : Txt w a l) (hb : l.length ≤ 140737488355328) :
    Calls Try.prog 11 #[.slice a l.length c] w fun e w' => ∃ g, e = .returned (.pointer (some ⟨g, 0, none⟩)) ∧ w.heap.size ≤ g ∧ Rd 50 w' g (l, false) ∧ Below w.heap.size w w' := by
  go_enter Try.func11, Try.ntmps11
  go_wp2_with fail
  refine (copyWithRoom_any a c 0 l w ht (by omega)).mono ?_
  rintro e w1 ⟨v, rfl, hown, hb1⟩
  rcases hown.2 with ⟨rfl, h0⟩ | ⟨g, cap, cur, rfl, hg1, hgg, hnc, hcm, _, _⟩
  · obtain rfl : l = [] := List.eq_nil_of_length_eq_zero h0
    go_wp2_with fail
    go_ret
    refine ⟨w1.heap.size, rfl, hb1.size, ⟨none, 0, ?_, ?_, by simp, Nat.zero_le _, fun _ _ e => by cases e⟩, hb1.alloc hb1.size _⟩
    · exact heap_alloc_new w1 _
    · exact Txt.nil _ _
  · have ho := Txt.of_own hown
    have hlt := (Array.getElem?_eq_some_iff.1 hgg).1
    clear hgg
    go_wp2_with fail
    go_ret
    refine ⟨w1.heap.size, rfl, hb1.size, ⟨some ⟨g, 0, none⟩, cap, heap_alloc_new w1 _, ho.1.below ((Below.refl _ _).alloc (Nat.le_refl _) _), hnc, hcm, ?_⟩, hb1.alloc hb1.size _⟩
    intro b o e
    simp only [Option.some.injEq, Addr.mk.injEq, and_true] at e
    omega

set_option maxHeartbeats 1000000 in
/-- (*Reader).U. -/
theorem RU_any (g : Nat) (s : St) (w : World) (h : Rd 50 w g s) :
    Calls Try.prog 12 #[.pointer (some ⟨g, 0, none⟩)] w fun e w' => e = .returned (.int .u64 (rdU s).1) ∧ Rd 50 w' g (rdU s).2 ∧ w.grownBy w' (some g) := by
  obtain ⟨l, bad⟩ := s
  have h' := Lib.hid h
  obtain ⟨a, c, hg, ht, hlc, hcm, hne⟩ := h
  obtain ⟨hc0, hc1, hf0, hf1⟩ := two_cells hg
  clear hg
  dsimp only at ht hlc hc0 hc1
  have hns := num_size l
  have hnlt := num_lt l
  unfold rdU
  dsimp only
  by_cases hz : (num l).2 = 0
  · rw [if_pos hz]
    have HZ := Lib.hid hz
    have hn1 : (num l).1 = 0 := numFrom_zero l 0 0 hz
    have tz : ((((num l).2 : Nat) : Int) == 0) = true := by simp; omega
    clear hz
    generalize hnu : num l = nu at *
    have HN := Lib.hid hnu
    clear hnu
    go_enter Try.func12, Try.ntmps12
    go_wp2_with fail
    refine (firstNumber_any a c l w ht (by omega)).mono ?_
    rw [HN.out]
    rintro e w1 ⟨rfl, rfl⟩
    go_wp2_with fail
    refine (fail_any g (l, bad) w h'.out).mono ?_
    rintro e w1 ⟨rfl, hr, hgr⟩
    go_wp2
    go_ret
    exact ⟨rfl, hr, hgr⟩
  · rw [if_neg hz]
    have tz : ((((num l).2 : Nat) : Int) == 0) = false := by simp; omega
    have hpos : 0 < (num l).2 := by omega
    have hl0 : l ≠ [] := by rintro rfl; simp [num, numFrom] at hz
    obtain ⟨b, o, rfl, hlt, _⟩ := ht hl0
    have hbg := hne b o rfl
    have hf := firstNumber_any _ c l w ht (by omega)
    clear hz hl0
    generalize (num l).1 = n at *
    generalize (num l).2 = k at *
    have hcut := ht.cut k
    unfold maxLen at hcm
    by_cases hck : c = k
    · obtain rfl : k = l.length := by omega
      subst hck
      have hset := h'.out.set0 (a := some ⟨b, o, none⟩) (n := 0) (c := 0) (l := l.drop l.length) (by simp) (by rw [List.drop_length]; exact Txt.nil _ _) (Nat.le_refl _) (Nat.zero_le _) hne
      have HS := Lib.hid hset
      have HF := Lib.hid hf
      have HT := Lib.hid ht
      have HX := Lib.hid hcut
      clear hset hf hcut ht hne
      go_enter Try.func12, Try.ntmps12
      go_wp2_with fail
      refine HF.out.mono ?_
      rintro e w1 ⟨rfl, rfl⟩
      go_wp2
      go_ret
      exact ⟨rfl, HS.out, set_grown w g 0 _⟩
    · have hset := h'.out.set0 (a := some ⟨b, o + k, none⟩) (n := l.length - k) (c := c - k) (l := l.drop k) (by simp) hcut (by omega) (by unfold maxLen; omega) (by intro b' o' e; simp only [Option.some.injEq, Addr.mk.injEq, and_true] at e; omega)
      have HS := Lib.hid hset
      have HF := Lib.hid hf
      have HT := Lib.hid ht
      have HX := Lib.hid hcut
      clear hset hf hcut ht hne
      go_enter Try.func12, Try.ntmps12
      go_wp2_with fail
      refine HF.out.mono ?_
      rintro e w1 ⟨rfl, rfl⟩
      go_wp2
      go_ret
      exact ⟨rfl, HS.out, set_grown w g 0 _⟩

end Go.Proofs.Ythgcoeienbgmhaa
