/-
  What package sum's firstFrame and Take do.
-/
import Derived.Test.YtahffcbinpkdpaaDoorSput
namespace Go.Proofs.YtahffcbinpkdpaaDoor
open Go Go.RowKit

theorem headD_get {l : List UInt8} (h : 0 < l.length) : l.headD 0 = l[0] := by
  cases l with
  | nil => simp at h
  | cons x r => rfl

theorem Txt.take {w : World} {a : Option Addr} {l : List UInt8} (h : Txt w a l) (n : Nat) : Txt w a (l.take n) := fun hne => by
  obtain ⟨b, o, e, h1, h2⟩ := h (by rintro rfl; simp at hne)
  refine ⟨b, o, e, h1, fun i hi => ?_⟩
  rw [List.length_take] at hi
  rw [h2 i (by omega), List.getElem_take]

set_option maxHeartbeats 4000000 in
set_option maxRecDepth 100000 in
theorem firstFrame_some (b o c : Nat) (l : List UInt8) (w : World) (hT : Tab w) (ht : Txt w (some ⟨b, o, none⟩) l) (hl : 17 ≤ l.length) (hc : l.length ≤ c) (hm : c ≤ maxLen) :
    Calls Tryd.prog 27 #[.slice (some ⟨b, o, none⟩) l.length c] w fun e w' => e = .returned (.int .i64 (size1 l)) ∧ ∃ m, w' = w.drewN m := by
  obtain ⟨b', o', e, hlt, hcell⟩ := ht (by rintro rfl; simp at hl)
  simp only [Option.some.injEq, Addr.mk.injEq, and_true] at e
  obtain ⟨rfl, rfl⟩ := e
  have h0 := hcell 0 (by omega)
  rw [Nat.add_zero, ← headD_get (by omega)] at h0
  have hsz : size1 l = size1 l := rfl
  conv at hsz => rhs; unfold size1
  rw [if_neg (by omega)] at hsz
  have hcm := hm
  unfold maxLen at hm
  clear hcell
  have g1 : ∀ c' W, W = w → Calls Tryd.prog 28 #[.slice (some ⟨b, o + 1, none⟩) 4 c'] W fun e w' => e = .returned (.int .u64 (up (Go.Proofs.YtahffcbinpkdpaaDoor.piece l 1 5))) ∧ w = w' := by
    intro c' W hW
    rw [hW]
    exact get_any _ 4 c' (Go.Proofs.YtahffcbinpkdpaaDoor.piece l 1 5) w (by rw [piece_length (by omega) (by omega)]) (by rw [piece_length (by omega) (by omega)]; omega) (by rw [piece_length (by omega) (by omega)]; omega) (ht.piece 1 5)
  have hup := up_lt (Go.Proofs.YtahffcbinpkdpaaDoor.piece l 1 5)
  rw [piece_length (by omega) (by omega)] at hup
  have hup' : up (Go.Proofs.YtahffcbinpkdpaaDoor.piece l 1 5) < 4294967296 := hup
  clear hup
  by_cases hh : l.headD 0 = 90
  · rw [if_neg (by simpa using hh)] at hsz
    rw [hh] at h0
    have h0' : w.cell? ⟨b, o, none⟩ = some (.int .u8 90) := h0
    clear h0 hh
    by_cases h6 : 60000 < up (Go.Proofs.YtahffcbinpkdpaaDoor.piece l 1 5)
    · rw [if_pos h6] at hsz
      obtain ⟨s, hs⟩ : ∃ s, s = up (Go.Proofs.YtahffcbinpkdpaaDoor.piece l 1 5) := ⟨_, rfl⟩
      rw [← hs] at g1 h6 hup'
      have HZ := Lib.hid hsz
      clear hsz hs ht
      go_enter Tryd.func27, Tryd.ntmps27
      go_wp2_with fail
      refine (g1 _ _ rfl).mono ?_
      rintro e w1 ⟨rfl, rfl⟩
      go_wp2_with fail
      go_ret
      exact ⟨by rw [HZ.out]; rfl, 0, rfl⟩
    · rw [if_neg h6] at hsz
      by_cases h7 : l.length - 17 < up (Go.Proofs.YtahffcbinpkdpaaDoor.piece l 1 5)
      · rw [if_pos h7] at hsz
        obtain ⟨s, hs⟩ : ∃ s, s = up (Go.Proofs.YtahffcbinpkdpaaDoor.piece l 1 5) := ⟨_, rfl⟩
        rw [← hs] at g1 h6 hup' h7
        have HZ := Lib.hid hsz
        clear hsz hs ht
        go_enter Tryd.func27, Tryd.ntmps27
        go_wp2_with fail
        refine (g1 _ _ rfl).mono ?_
        rintro e w1 ⟨rfl, rfl⟩
        go_wp2_with fail
        go_ret
        exact ⟨by rw [HZ.out]; rfl, 0, rfl⟩
      · rw [if_neg h7] at hsz
        obtain ⟨s, hs⟩ : ∃ s, s = up (Go.Proofs.YtahffcbinpkdpaaDoor.piece l 1 5) := ⟨_, rfl⟩
        rw [← hs] at g1 h6 hup' h7 hsz
        have hlen : (l.take (17 + s)).length = 17 + s := by rw [List.length_take]; omega
        have g2 : ∀ c' W, W = w → Calls Tryd.prog 28 #[.slice (some ⟨b, o + 13, none⟩) 4 c'] W fun e w' => e = .returned (.int .u64 (up (Go.Proofs.YtahffcbinpkdpaaDoor.piece l 13 17))) ∧ w = w' := by
          intro c' W hW
          rw [hW]
          exact get_any _ 4 c' (Go.Proofs.YtahffcbinpkdpaaDoor.piece l 13 17) w (by rw [piece_length (by omega) (by omega)]) (by rw [piece_length (by omega) (by omega)]; omega) (by rw [piece_length (by omega) (by omega)]; omega) (ht.piece 13 17)
        have g3 : ∀ W, W = w → Calls Tryd.prog 30 #[.slice (some ⟨b, o, none⟩) (17 + s) c] W fun e w' => e = .returned (.int .u32 (sumOf (l.take (17 + s)))) ∧ ∃ m, w' = w.drewN m := by
          intro W hW
          rw [hW]
          have h := frameSum_any b o c (l.take (17 + s)) w hT (ht.take _) (by omega) (by omega) hcm
          rwa [hlen] at h
        have hgl := up_lt (Go.Proofs.YtahffcbinpkdpaaDoor.piece l 13 17)
        rw [piece_length (by omega) (by omega)] at hgl
        have hgl' : up (Go.Proofs.YtahffcbinpkdpaaDoor.piece l 13 17) < 4294967296 := hgl
        have hsl : sumOf (l.take (17 + s)) < 4294967296 := crc_lt _
        clear hgl
        obtain ⟨x, hx⟩ : ∃ x, x = up (Go.Proofs.YtahffcbinpkdpaaDoor.piece l 13 17) := ⟨_, rfl⟩
        obtain ⟨y, hy⟩ : ∃ y, y = sumOf (l.take (17 + s)) := ⟨_, rfl⟩
        rw [← hx] at g2 hgl' hsz
        rw [← hy] at g3 hsl hsz
        clear hx hy hs ht hlen hT
        by_cases hxy : x = y
        · rw [if_pos hxy] at hsz
          subst hxy
          have HZ := Lib.hid hsz
          clear hsz
          go_enter Tryd.func27, Tryd.ntmps27
          go_wp2_with fail
          refine (g1 _ _ rfl).mono ?_
          rintro e w1 ⟨rfl, rfl⟩
          go_wp2_with fail
          refine (g2 _ _ rfl).mono ?_
          rintro e w1 ⟨rfl, rfl⟩
          go_wp2_with fail
          refine (g3 _ rfl).mono ?_
          rintro e w1 ⟨rfl, m, rfl⟩
          go_wp2_with fail
          go_ret
          exact ⟨by rw [HZ.out]; rfl, m, rfl⟩
        · rw [if_neg hxy] at hsz
          have hne : ((x : Int) == (y : Int)) = false := by simp; omega
          have HZ := Lib.hid hsz
          clear hsz hxy
          go_enter Tryd.func27, Tryd.ntmps27
          go_wp2_with fail
          refine (g1 _ _ rfl).mono ?_
          rintro e w1 ⟨rfl, rfl⟩
          go_wp2_with fail
          refine (g2 _ _ rfl).mono ?_
          rintro e w1 ⟨rfl, rfl⟩
          go_wp2_with fail
          refine (g3 _ rfl).mono ?_
          rintro e w1 ⟨rfl, m, rfl⟩
          go_wp2_with fail
          go_ret
          exact ⟨by rw [HZ.out]; rfl, m, rfl⟩
  · rw [if_pos (by simpa using hh)] at hsz
    have hx : (l.headD 0).toNat ≠ 90 := fun h => hh (UInt8.toNat_inj.1 h)
    generalize (l.headD 0).toNat = x at h0 hx
    have hx' : ((x : Int) != 90) = true := by simp; omega
    have HZ := Lib.hid hsz
    clear hsz hh hx ht g1 hup'
    go_enter Tryd.func27, Tryd.ntmps27
    go_wp2_with fail
    go_ret
    exact ⟨by rw [HZ.out]; rfl, 0, rfl⟩

set_option maxHeartbeats 400000 in
set_option maxRecDepth 100000 in
theorem firstFrame_short (a : Option Addr) (n c : Nat) (w : World) (hl : n < 17) :
    Calls Tryd.prog 27 #[.slice a n c] w fun e w' => e = .returned (.int .i64 0) ∧ w = w' := by
  go_enter Tryd.func27, Tryd.ntmps27
  go_wp2
  go_ret
  exact ⟨rfl, rfl⟩

theorem firstFrame_any (a : Option Addr) (c : Nat) (l : List UInt8) (w : World) (hT : Tab w) (ht : Txt w a l) (hc : l.length ≤ c) (hm : c ≤ maxLen) :
    Calls Tryd.prog 27 #[.slice a l.length c] w fun e w' => e = .returned (.int .i64 (size1 l)) ∧ ∃ m, w' = w.drewN m := by
  by_cases h : l.length < 17
  · have e : size1 l = 0 := by unfold size1; rw [if_pos h]
    rw [e]
    exact (firstFrame_short a l.length c w h).mono fun e w' ⟨h1, h2⟩ => ⟨h1, 0, h2.symm⟩
  · obtain ⟨b, o, rfl, _, _⟩ := ht (by rintro rfl; simp at h)
    exact firstFrame_some b o c l w hT ht (by omega) hc hm

end Go.Proofs.YtahffcbinpkdpaaDoor
