/-
  What package sum's Take does.
-/
import Derived.Test.YtahffcbinpkdpaaDoorSfir
namespace Go.Proofs.YtahffcbinpkdpaaDoor
open Go Go.RowKit

/-- A call hands back a number, the bytes L, and a size; older memory is as it was. -/
def Took (w : World) (r : Nat × List UInt8 × Nat) (e : Ending) (w' : World) : Prop :=
  ∃ a c, e = .returned (.tuple #[.int .u64 r.1, .slice a r.2.1.length c, .int .i64 r.2.2]) ∧ Txt w' a r.2.1 ∧ (r.2.1 ≠ [] → ∃ b, a = some ⟨b, 0, none⟩ ∧ w.heap.size ≤ b) ∧ r.2.1.length ≤ c ∧ c ≤ maxLen ∧ Below w.heap.size w w'

set_option maxHeartbeats 4000000 in
set_option maxRecDepth 100000 in
theorem Take_any (a : Option Addr) (c : Nat) (l : List UInt8) (w : World) (hT : Tab w) (ht : Txt w a l) (hc : l.length ≤ c) (hm : c ≤ maxLen) :
    Calls Tryd.prog 15 #[.slice a l.length c] w (Took w (take1 l)) := by
  have hb := size1_bounds l
  have hfir := firstFrame_any a c l w hT ht hc hm
  have htk : take1 l = take1 l := rfl
  conv at htk => rhs; unfold take1
  by_cases h0 : size1 l = 0
  · rw [if_pos h0] at htk
    rw [htk]
    rw [h0] at hfir
    clear htk h0 hb
    go_enter Tryd.func15, Tryd.ntmps15
    go_wp2_with fail
    refine hfir.mono ?_
    rintro e w1 ⟨rfl, m, rfl⟩
    go_wp2_with fail
    go_ret3
    exact ⟨none, 0, rfl, Txt.nil _ _, fun h => absurd rfl h, Nat.le_refl _, Nat.zero_le _, below_drewN (Below.refl _ _) m⟩
  · rw [if_neg h0] at htk
    have hN : 17 ≤ size1 l ∧ size1 l ≤ l.length ∧ size1 l ≤ 60017 := by omega
    obtain ⟨b, o, rfl, hlt, _⟩ := ht (by rintro rfl; simp at hN; omega)
    obtain ⟨N, hNe⟩ : ∃ N, N = size1 l := ⟨_, rfl⟩
    rw [← hNe] at hfir hN htk
    obtain ⟨h17, hNl, hN6⟩ := hN
    have lp := piece_length (l := l) (i := 17) (j := N) (by omega) (by omega)
    have tp := ht.piece 17 N
    have tq := ht.piece 5 13
    have lq := piece_length (l := l) (i := 5) (j := 13) (by omega) (by omega)
    rw [htk]
    have hcm := hm
    unfold maxLen at hm
    clear htk h0 hb hNe ht
    obtain ⟨p, hp⟩ : ∃ p, p = Go.Proofs.YtahffcbinpkdpaaDoor.piece l 17 N := ⟨_, rfl⟩
    rw [← hp] at lp tp ⊢
    obtain ⟨q, hq⟩ : ∃ q, q = Go.Proofs.YtahffcbinpkdpaaDoor.piece l 5 13 := ⟨_, rfl⟩
    rw [← hq] at lq tq ⊢
    clear hp hq
    have hmk := run_make_bytes (N - 17) (by omega) ((N : Int) - 17) ((N : Int) - 17) (by omega) (by omega)
    have hq1 : ∀ c' W, Below w.heap.size w W → Calls Tryd.prog 28 #[.slice (some ⟨b, o + 5, none⟩) 8 c'] W fun e w' => e = .returned (.int .u64 (up q)) ∧ W = w' := by
      intro c' W hW
      exact get_any _ 8 c' q W (by omega) (by omega) (by omega) (tq.below hW)
    have tp' := Lib.hid tp
    have lpn : p.length = N - 17 := lp
    clear tq lq hT tp lp
    by_cases hN17 : N = 17
    · subst hN17
      obtain rfl : p = [] := List.eq_nil_of_length_eq_zero (by omega)
      have hmk0 := run_make_bytes 0 (by omega) 0 0 rfl rfl
      clear tp' hmk lpn
      have hcase : (c = 17 ∧ l.length = 17) ∨ (¬ c - 17 = 0 ∧ l.length = 17) ∨ (¬ c - 17 = 0 ∧ ¬ l.length - 17 = 0) := by omega
      clear hlt
      have hN0 : ((17 : Int) == 0) = false := by simp
      rcases hcase with ⟨k1, k2⟩ | ⟨k1, k2⟩ | ⟨k1, k2⟩
      · rw [k2] at hfir hNl ⊢
        subst k1
        clear k2 hc
        go_enter Tryd.func15, Tryd.ntmps15
        go_wp2_with fail
        refine hfir.mono ?_
        rintro e w1 ⟨rfl, m, rfl⟩
        go_wp2_with (with_reducible refine wpList_copy_nothing rfl (.tmp 12) (.tmp 14) 25 25 rfl 5 Tryd.underlying25 size_byte _ _ 0 0 _ _ rfl rfl ?c1 ?_)
        case c1 => simp
        go_wp2_with fail
        have hb2 := (below_drewN (Below.refl w.heap.size w) m).alloc (by simp) (.cells (Lib.byteCells (List.replicate 0 0)).toArray 5)
        refine (hq1 _ _ hb2).mono ?_
        rintro e w3 ⟨rfl, rfl⟩
        go_wp2_with fail
        go_ret3
        exact ⟨_, 0, rfl, Txt.nil _ _, fun h => absurd rfl h, Nat.le_refl _, Nat.zero_le _, hb2⟩
      · rw [k2] at hfir hNl hc ⊢
        clear k2
        go_enter Tryd.func15, Tryd.ntmps15
        go_wp2_with fail
        refine hfir.mono ?_
        rintro e w1 ⟨rfl, m, rfl⟩
        go_wp2_with (with_reducible refine wpList_copy_nothing rfl (.tmp 12) (.tmp 14) 25 25 rfl 5 Tryd.underlying25 size_byte _ _ 0 0 _ _ rfl rfl ?c1 ?_)
        case c1 => simp
        go_wp2_with fail
        have hb2 := (below_drewN (Below.refl w.heap.size w) m).alloc (by simp) (.cells (Lib.byteCells (List.replicate 0 0)).toArray 5)
        refine (hq1 _ _ hb2).mono ?_
        rintro e w3 ⟨rfl, rfl⟩
        go_wp2_with fail
        go_ret3
        exact ⟨_, 0, rfl, Txt.nil _ _, fun h => absurd rfl h, Nat.le_refl _, Nat.zero_le _, hb2⟩
      · skip
        go_enter Tryd.func15, Tryd.ntmps15
        go_wp2_with fail
        refine hfir.mono ?_
        rintro e w1 ⟨rfl, m, rfl⟩
        go_wp2_with (with_reducible refine wpList_copy_nothing rfl (.tmp 12) (.tmp 14) 25 25 rfl 5 Tryd.underlying25 size_byte _ _ 0 0 _ _ rfl rfl ?c1 ?_)
        case c1 => simp
        go_wp2_with fail
        have hb2 := (below_drewN (Below.refl w.heap.size w) m).alloc (by simp) (.cells (Lib.byteCells (List.replicate 0 0)).toArray 5)
        refine (hq1 _ _ hb2).mono ?_
        rintro e w3 ⟨rfl, rfl⟩
        go_wp2_with fail
        go_ret3
        exact ⟨_, 0, rfl, Txt.nil _ _, fun h => absurd rfl h, Nat.le_refl _, Nat.zero_le _, hb2⟩
    · have k1 : ¬ c - 17 = 0 := by omega
      have k2 : ¬ l.length - 17 = 0 := by omega
      have k3 : ¬ N - 17 = 0 := by omega
      have hN0 : ((N : Int) == 0) = false := by simp; omega
      go_enter Tryd.func15, Tryd.ntmps15
      go_wp2_with fail
      refine hfir.mono ?_
      rintro e w1 ⟨rfl, m, rfl⟩
      go_wp2_with (with_reducible refine wpList_copy_splice rfl (.tmp 12) (.tmp 14) 25 25 rfl 5 Tryd.underlying25 size_byte _ _ (N - 17) (N - 17) _ _ rfl rfl w.heap.size 0 (Lib.byteCells (List.replicate (N - 17) 0)) 5 ?c1 (Lib.byteCells p) ?c2 ?c3 ?c4 (byteCells_one p) w.heap.size w ?c5 (Nat.le_refl _) ?_)
      case c1 => exact heap_alloc_new (w.drewN m) _
      case c2 =>
        rw [show (l.length - 17).min (N - 17) = N - 17 from Nat.min_eq_right (by omega)]
        simp [Lib.byteCells]; omega
      case c3 =>
        intro _ j v hj
        have h := (tp'.out.drewN m).cells j v hj
        rw [Addr.add_lit] at h
        exact (World.cell?_alloc_lt _ _ _ (by simpa using hlt)).trans h
      case c4 => simp [Lib.byteCells]; omega
      case c5 => exact (below_drewN (Below.refl w.heap.size w) m).alloc (by simp) _
      intro w2 hg2 hb2
      go_wp2_with fail
      refine (hq1 _ _ hb2).mono ?_
      rintro e w3 ⟨rfl, rfl⟩
      go_wp2_with fail
      go_ret3
      have hB : Blk w2 w.heap.size p := by
        have h := hg2.out
        have e : splice (Lib.byteCells (List.replicate (N - 17) 0)) 0 (Lib.byteCells p) = Lib.byteCells p := by
          unfold splice
          rw [List.drop_eq_nil_of_le (by simp [Lib.byteCells]; omega)]
          simp
        rw [e] at h
        exact h
      refine ⟨some ⟨w.heap.size, 0, none⟩, N - 17, ?_, hB.txt, fun _ => ⟨w.heap.size, rfl, Nat.le_refl _⟩, by show p.length ≤ _; omega, by unfold maxLen; omega, hb2⟩
      rw [lpn]
      rfl

end Go.Proofs.YtahffcbinpkdpaaDoor
