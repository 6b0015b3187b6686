/-
  What the document's own Reader does: I, S.
-/
import Derived.Test.YthgcoeienbgmhaaRefr
namespace Go.Proofs.Ythgcoeienbgmhaa
open Go Go.RowKit

set_option maxHeartbeats 400000 in
theorem rI_any (g : Nat) (s : St) (w : World) (h : Rd 38 w g s) :
    Calls Try.prog 24 #[.pointer (some ⟨g, 0, none⟩)] w fun e w' => e = .returned (.int .i64 (rdI s).1) ∧ Rd 38 w' g (rdI s).2 ∧ w.grownBy w' (some g) := by
  have hru := Lib.hid (rU_any g s w h)
  have hU := rdU_lt s
  unfold rdI
  generalize (rdU s).1 = n at *
  generalize (rdU s).2 = s1 at *
  unfold Lib.unzigzag
  by_cases hn : n % 2 = 0
  · rw [if_pos hn]
    have hn' : ((n : Int) % 2 == 0) = true := by simp; omega
    have HN := Lib.hid hn
    clear hn
    go_enter Try.func24, Try.ntmps24
    go_wp2_with fail
    refine hru.out.mono ?_
    rintro e w1 ⟨rfl, hr, hg⟩
    go_wp2_with fail
    go_ret
    exact ⟨i64_eq (by omega), hr, hg⟩
  · rw [if_neg hn]
    have hn' : ((n : Int) % 2 == 0) = false := by simp; omega
    have HN := Lib.hid hn
    clear hn
    go_enter Try.func24, Try.ntmps24
    go_wp2_with fail
    refine hru.out.mono ?_
    rintro e w1 ⟨rfl, hr, hg⟩
    go_wp2_with fail
    go_ret
    exact ⟨i64_eq (by omega), hr, hg⟩

set_option maxHeartbeats 1000000 in
theorem rS_any (g : Nat) (s : St) (w : World) (h : Rd 38 w g s) :
    Calls Try.prog 25 #[.pointer (some ⟨g, 0, none⟩)] w fun e w' => e = .returned (.string ⟨(rdS s).1.toArray⟩) ∧ Rd 38 w' g (rdS s).2 ∧ w.grownBy w' (some g) := by
  unfold rdS
  by_cases hlt : (rdU s).2.1.length < (rdU s).1
  · rw [if_pos hlt]
    go_enter Try.func25, Try.ntmps25
    go_wp2_with fail
    refine (rU_any g s w h).mono ?_
    rintro e w1 ⟨rfl, hr, hg⟩
    have hr' := Lib.hid hr
    obtain ⟨a, c, hgg, ht, hlc, hcm, hne⟩ := hr
    obtain ⟨hc0, hc1, hf0, hf1⟩ := two_cells hgg
    unfold maxLen at hcm
    have hU := rdU_lt s
    clear hgg ht hne
    go_wp2_with fail
    refine (rfail_any g _ w1 hr'.out).mono ?_
    rintro e w2 ⟨rfl, hr2, hg2⟩
    go_wp2
    go_ret
    exact ⟨rfl, hr2, grown_trans hg hg2⟩
  · rw [if_neg hlt]
    have hru := Lib.hid (rU_any g s w h)
    have hU := rdU_lt s
    generalize (rdU s).1 = n at *
    generalize (rdU s).2 = s1 at *
    obtain ⟨l, bad⟩ := s1
    dsimp only at *
    go_enter Try.func25, Try.ntmps25
    go_wp2_with fail
    refine hru.out.mono ?_
    rintro e w1 ⟨rfl, hr, hg⟩
    have hr' := Lib.hid hr
    obtain ⟨a, c, hgg, ht, hlc, hcm, hne⟩ := hr
    obtain ⟨hc0, hc1, hf0, hf1⟩ := two_cells hgg
    unfold maxLen at hcm
    clear hgg
    dsimp only at *
    by_cases hl0 : l = []
    · subst hl0
      obtain rfl : n = 0 := by simp at hlt; omega
      have hconv := run_string (P := Try.prog) w1 25 5 9 Try.underlying25 Try.underlying5 Try.underlying9 a [] c (Txt.nil _ _)
      rw [List.length_nil] at hconv hc0
      have hset := hr'.out.set0 (a := a) (n := 0) (c := c) (l := []) rfl (Txt.nil _ _) (Nat.zero_le _) (by unfold maxLen; omega) hne
      have HS := Lib.hid hset
      have HT := Lib.hid ht
      have HN := Lib.hid hne
      clear hset ht hne hlt
      cases a with
      | none =>
        by_cases hc : c = 0
        · subst hc
          go_wp2
          go_ret
          exact ⟨rfl, HS.out, grown_trans hg (set_grown w1 g 0 _)⟩
        · go_wp2
          go_ret
          exact ⟨rfl, HS.out, grown_trans hg (set_grown w1 g 0 _)⟩
      | some ad =>
        by_cases hc : c = 0
        · subst hc
          go_wp2
          go_ret
          exact ⟨rfl, HS.out, grown_trans hg (set_grown w1 g 0 _)⟩
        · go_wp2
          go_ret
          exact ⟨rfl, HS.out, grown_trans hg (set_grown w1 g 0 _)⟩
    · obtain ⟨b, o, rfl, hbl, _⟩ := ht hl0
      have hbg := hne b o rfl
      have hL : 0 < l.length := List.length_pos_iff.2 hl0
      have htake : Txt w1 (some ⟨b, o, none⟩) (l.take n) := by
        intro hne'
        obtain ⟨b', o', e, h1, h2⟩ := ht hl0
        refine ⟨b', o', e, h1, fun i hi => ?_⟩
        rw [List.length_take] at hi
        rw [h2 i (by omega), List.getElem_take]
      have hconv := run_string (P := Try.prog) w1 25 5 9 Try.underlying25 Try.underlying5 Try.underlying9 _ (l.take n) c htake
      rw [List.length_take, Nat.min_eq_left (by omega)] at hconv
      have hcut := ht.cut n
      by_cases hcn : c = n
      · obtain rfl : n = l.length := by omega
        subst hcn
        have hset := hr'.out.set0 (a := some ⟨b, o, none⟩) (n := 0) (c := 0) (l := []) rfl (Txt.nil _ _) (Nat.le_refl _) (Nat.zero_le _) hne
        have HS := Lib.hid hset
        have HN := Lib.hid hne
        clear hset ht htake hcut hne hl0
        go_wp2
        go_ret
        exact ⟨rfl, HS.out, grown_trans hg (set_grown w1 g 0 _)⟩
      · have hset := hr'.out.set0 (a := some ⟨b, o + n, none⟩) (n := l.length - n) (c := c - n) (l := l.drop n) (by simp) hcut (by omega) (by unfold maxLen; omega) (by intro b' o' e; simp only [Option.some.injEq, Addr.mk.injEq, and_true] at e; omega)
        have HS := Lib.hid hset
        have HN := Lib.hid hne
        clear hset ht htake hcut hne hl0
        go_wp2
        go_ret
        exact ⟨rfl, HS.out, grown_trans hg (set_grown w1 g 0 _)⟩

end Go.Proofs.Ythgcoeienbgmhaa
