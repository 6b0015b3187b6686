/-
  Proved: SumAll of escapementlaw2 returns true for every input, and leaves what it was handed as it was. No conditions.
-/
import Derived.Test.YtahffcbinpkdpaaDoorRows
import Derived.Test.YtahffcbinpkdpaaDoorArg
import Derived.Test.YtahffcbinpkdpaaDoorSawk
import Derived.Test.YtahffcbinpkdpaaDoorRall
import Derived.Test.YtahffcbinpkdpaaDoorTro
import Derived.Test.YtahffcbinpkdpaaDoorApp
import Derived.Deep.QuietTactic
import Derived.BigQuiet
import Derived.WalkKit
import Derived.ProofKit
import Derived.OpenShut
import Derived.ShutString
import Derived.ChangeOld
import Derived.SizedLaws
import Derived.Test.YtahffcbinpkdpaaDoorStab
import Derived.Test.YtahffcbinpkdpaaDoorTie
import Derived.Test.YtahffcbinpkdpaaDoorCards
import Derived.LaidMore
import Derived.Lay
import Derived.SevenTiedAt
import Derived.Stop.Joined
namespace Go.Proofs.YtahffcbinpkdpaaDoor.sumAll
open Go.ChangeShapes Go.WideShapes Go.ChangeAt Go.RowKit
open Go.ChangeMaps (open_string shut_string)
set_option linter.unusedVariables false

theorem own : ownKnob Tryd.prog.godebug = none := by kernel_rfl
theorem laidOut : laidOutB Tryd.prog = true := by kernel_rfl

/-- The frames of the first i texts, one behind the other. -/
def fcat (f : Nat) (l : List (List UInt8)) : Nat → List UInt8
  | 0 => []
  | i + 1 => fcat f l i ++ frameOf ((f + i) % 18446744073709551616) (l.getD i [])
theorem fcat_succ (f : Nat) (l : List (List UInt8)) (i : Nat) (h : i < l.length) : fcat f l (i + 1) = fcat f l i ++ frameOf ((f + i) % 18446744073709551616) l[i] := by
  simp [fcat, List.getD_eq_getElem?_getD, h]

/-- One byte of a text is turned. -/
theorem txt_setB {w : World} {g : Nat} {L : List UInt8} (h : Txt w (some ⟨g, 0, none⟩) L) (i : Nat) (x : UInt8) (hi : i < L.length) : Txt (w.setCell ⟨g, i, none⟩ (.int .u8 (x.toNat : Int))) (some ⟨g, 0, none⟩) (L.set i x) := by
  intro _
  obtain ⟨b', o', e, hlt, hc⟩ := h (by intro e; rw [e] at hi; simp at hi)
  simp only [Option.some.injEq, Addr.mk.injEq, and_true] at e
  obtain ⟨rfl, rfl⟩ := e
  refine ⟨g, 0, rfl, by simpa using hlt, fun j hj => ?_⟩
  have hj' : j < L.length := by simpa using hj
  have h1 := hc j hj'
  rw [Nat.zero_add] at h1 ⊢
  by_cases hij : i = j
  · subst hij
    rw [World.cell?_setCell_same _ _ _ h1]
    simp
  · rw [World.cell?_setCell_other _ _ _ _ (by simp [hij]), h1]
    simp [List.getElem_set_ne hij]

/-- A row of bytes of the call's own: nothing, or a block of its own. -/
theorem own_parts {w : World} {base : Nat} {v : Value} {L : List UInt8} (h : w.ownsRow base 5 1 v L.length (Lib.byteCells L)) : (v = .slice none 0 0 ∧ L = []) ∨ ∃ g cap, v = .slice (some ⟨g, 0, none⟩) L.length cap ∧ base ≤ g ∧ L.length ≤ cap ∧ cap ≤ maxLen ∧ (∀ i, w.frozen? ⟨g, i, none⟩ = false) ∧ Txt w (some ⟨g, 0, none⟩) L := by
  rcases h.2 with ⟨rfl, h0⟩ | ⟨g, cap, cur, rfl, hb, hgc, hnc, hcm, _⟩
  · exact .inl ⟨rfl, List.eq_nil_of_length_eq_zero h0⟩
  · exact .inr ⟨g, cap, rfl, hb, hnc, hcm, fun i => by simp [World.frozen?, hgc], (Txt.of_own h).1⟩
theorem txt_takeM {w : World} {a : Option Addr} {L : List UInt8} (h : Txt w a L) (M : Nat) : Txt w a (L.take M) := by
  intro hne
  obtain ⟨b, o, e, hlt, hc⟩ := h (by intro e; rw [e] at hne; simp at hne)
  exact ⟨b, o, e, hlt, fun i hi => by rw [List.length_take] at hi; rw [hc i (by omega)]; simp⟩

set_option maxHeartbeats 16000000 in
set_option maxRecDepth 100000 in
theorem walk (a_l : Option Addr) (c_l : Nat) (l : List (List UInt8)) (first : Int) (cut : Int) (at_ : Int) (by_ : Int) (w : World) (hT : Tab w) (l_l : l.length ≤ c_l) (m_l : c_l ≤ maxLen) (t_l : TRow w a_l l) (w_first : (Lit.int .u64 first).wf = true) (w_cut : (Lit.int .i64 cut).wf = true) (w_at_ : (Lit.int .i64 at_).wf = true) (w_by_ : (Lit.int .u8 by_).wf = true) :
    Calls Tryd.prog 3 #[.slice a_l l.length c_l, .int .u64 first, .int .i64 cut, .int .i64 at_, .int .u8 by_] w fun e w' => e = .returned (.bool true) ∧ Below w.heap.size w w' := by
  obtain ⟨i0, hi0, hz0, hz1, hz2⟩ := info_parts info_byte
  obtain ⟨y0, y1⟩ := u64_wf w_first
  obtain ⟨f, rfl⟩ := Int.eq_ofNat_of_zero_le y0
  have hcut64 := i64_wf w_cut
  have hat64 := i64_wf w_at_
  obtain ⟨z0, z1⟩ := u8_wf w_by_
  obtain ⟨y, rfl⟩ := Int.eq_ofNat_of_zero_le z0
  have HT := Lib.hid hT
  have TL := Lib.hid t_l
  clear hT t_l w_first w_cut w_at_ w_by_ y0 z0
  go_enter Tryd.func3, Tryd.ntmps3
  go_wp2_with fail
  refine (awake_any w HT.out).mono ?_
  rintro e w1 ⟨rfl, hb1⟩
  by_cases c1 : 8 < l.length
  · have c1' : decide ((8 : Int) < (l.length : Int)) = true := by simp; omega
    clear y1 z1
    go_wp2_with fail
    go_ret
    exact ⟨rfl, hb1⟩
  have c1' : decide ((8 : Int) < (l.length : Int)) = false := by simp; omega
  by_cases c2 : cut < 0
  · have c2' : decide (cut < 0) = true := by simp; omega
    clear y1 z1
    go_wp2_with fail
    go_ret
    exact ⟨rfl, hb1⟩
  obtain ⟨K, rfl⟩ := Int.eq_ofNat_of_zero_le (show 0 ≤ cut by omega)
  have hf : f < 18446744073709551616 := by omega
  have hy : y < 256 := by omega
  have c2' : decide ((K : Int) < 0) = false := by simp
  clear y1 z1
  go_wp2_with fail
  go_loopw [11, 12] (fun vb vi wr => ∃ (V : Value) (i : Nat), V = vb ∧ vi = .int .i64 i ∧ i ≤ l.length ∧ (fcat f l i).length ≤ 217 * i ∧ wr.ownsRow w.heap.size 5 1 V (fcat f l i).length (Lib.byteCells (fcat f l i)) ∧ Below w.heap.size w wr)
    (fun _ vi _ => l.length - (intOf vi).toNat)
  case atStart => exact ⟨_, 0, rfl, rfl, Nat.zero_le _, Nat.zero_le _, ⟨rfl, .inl ⟨rfl, rfl⟩⟩, hb1⟩
  case round =>
    obtain ⟨V, i, hV, rfl, hi, hcl, hown, hbel⟩ := hrel
    subst hV
    clear hb1
    by_cases ci : i < l.length
    · obtain ⟨bb, o, rfl, hblt, hcell⟩ := TL.out (fun e => absurd ci (by rw [e]; simp))
      obtain ⟨a1, c1', hc1, ht1, hl1, hm1⟩ := hcell i ci
      have hcr : wr.cell? ⟨bb, o + i, none⟩ = some (.slice a1 l[i].length c1') := (hbel.cell (p := ⟨bb, o + i, none⟩) hblt).trans hc1
      have hsucc := fcat_succ f l i ci
      obtain ⟨x, hx⟩ : ∃ x, x = l[i] := ⟨_, rfl⟩
      rw [← hx] at hcr ht1 hl1 hsucc
      clear hc1 hcell hx
      by_cases cx : 200 < x.length
      · have HB := Lib.hid hbel
        clear hbel hown hsucc ht1
        go_wp2_with fail
        go_ret
        exact ⟨rfl, HB.out⟩
      have htr := ht1.below hbel
      have hfr := rFrame_any ((f + i) % 18446744073709551616) a1 c1' x wr (by omega) htr (by omega)
      have hnv : IntKind.u64.wrap ((f : Int) + (i : Int)) = (((f + i) % 18446744073709551616 : Nat) : Int) := by
        rw [IntKind.wrap_u64]; omega
      rw [← hnv] at hfr
      have hfl := frame_length ((f + i) % 18446744073709551616) x
      obtain ⟨F, hF⟩ : ∃ F, F = frameOf ((f + i) % 18446744073709551616) x := ⟨_, rfl⟩
      rw [← hF] at hfl hfr hsucc
      have hfl2 : F.length ≤ 217 := by omega
      have S1 := Lib.hid hbel
      have S2 := Lib.hid hown
      have S4 := Lib.hid hsucc
      clear hbel hown htr hsucc ht1 hF hnv hfl
      go_wp2_with fail
      refine hfr.mono ?_
      rintro e w4 ⟨a4, c4, rfl, t4, hc4, hm4, hb4⟩
      have hown4 := own_below S2.out hb4
      have hbel4 := S1.out.trans (hb4.mono S1.out.size)
      have hle : (fcat f l i).length + F.length ≤ 140737488355328 := by omega
      clear hfr hb4
      go_wp2_with (at_builtin; refine wpList_append_txt _ rfl (.tmp 39) (.tmp 48) 25 rfl w.heap.size 5 i0 Tryd.underlying25 hi0 hz0 hz1 hz2 _ (fcat f l i).length (Lib.byteCells (fcat f l i)) rfl hown4 a4 c4 F rfl t4 hle hbel4.size ?_)
      intro v5 w5 hown5 hg5
      have hbel5 : Below w.heap.size w w5 := hbel4.grown hg5 hbel4.size (fun k hk => (hown4.lt k hk).1)
      have hcat : (fcat f l (i + 1)).length = (fcat f l i).length + F.length := by rw [S4.out, List.length_append]
      rw [← Lib.byteCells_append, ← S4.out, ← hcat] at hown5
      have hcl5 : (fcat f l (i + 1)).length ≤ 217 * (i + 1) := by omega
      have T1 := Lib.hid hown5
      have T2 := Lib.hid hbel5
      have T5 := Lib.hid hcl5
      have hend : i + 1 ≤ l.length := by omega
      clear hown5 hg5 hbel5 hcl5 hown4 t4 hle hcat
      go_wp2
      refine ⟨⟨v5, i + 1, rfl, by go_num, hend, T5.out, T1.out, T2.out⟩, ?_⟩
      simp [intOf]; omega
    · obtain rfl : i = l.length := by omega
      obtain ⟨B, hB⟩ : ∃ B, B = fcat f l l.length := ⟨_, rfl⟩
      rw [← hB] at hown hcl
      have hBl : B.length ≤ 1736 := by omega
      clear hB hcl
      have hcut : ∃ (M : Nat) (L : List UInt8) (a : Option Addr) (c : Nat), V = .slice a B.length c ∧ M = L.length ∧ M ≤ 1736 ∧ M ≤ c ∧ c ≤ maxLen ∧ Txt wr a L ∧ (M ≠ 0 → ∃ g, a = some ⟨g, 0, none⟩ ∧ w.heap.size ≤ g ∧ (∀ i, wr.frozen? ⟨g, i, none⟩ = false)) ∧ (if K < B.length then M = B.length - K else M = B.length) ∧ B.length ≤ c := by
        rcases own_parts hown with ⟨rfl, rfl⟩ | ⟨g, c, rfl, hg, hnc, hcm, hfz, tB⟩
        · exact ⟨0, [], none, 0, rfl, rfl, by omega, by omega, by unfold maxLen; omega, Txt.nil _ _, fun h => absurd rfl h, by simp, by simp⟩
        · by_cases hk : K < B.length
          · exact ⟨B.length - K, B.take (B.length - K), _, c, rfl, by rw [List.length_take]; omega, by omega, by omega, hcm, txt_takeM tB _, fun _ => ⟨g, rfl, hg, hfz⟩, by rw [if_pos hk], hnc⟩
          · exact ⟨B.length, B, _, c, rfl, rfl, by omega, hnc, hcm, tB, fun _ => ⟨g, rfl, hg, hfz⟩, by rw [if_neg hk], hnc⟩
      obtain ⟨M, L, a, c, rfl, hML, hM, hMc, hcm, tL, hwr, hMk, hnc⟩ := hcut
      obtain ⟨N, hN⟩ : ∃ N, N = B.length := ⟨_, rfl⟩
      rw [← hN] at hMk hnc hBl ⊢
      have HML := Lib.hid hML
      have TL0 := Lib.hid tL
      have HBL := Lib.hid hbel
      clear hown hML tL hbel hN TL
      by_cases hat : 0 ≤ at_ ∧ at_ < M
      · obtain ⟨j, rfl⟩ := Int.eq_ofNat_of_zero_le hat.1
        have hj : j < M := by omega
        obtain ⟨g, rfl, hg, hfz⟩ := hwr (by omega)
        have hfzj := hfz j
        obtain ⟨bb, o, e, hlt, hcell⟩ := TL0.out (by intro e; have h := HML.out; rw [e] at h; simp at h; omega)
        simp only [Option.some.injEq, Addr.mk.injEq, and_true] at e
        obtain ⟨rfl, rfl⟩ := e
        have hcj := hcell j (by rw [← HML.out]; exact hj)
        rw [Nat.zero_add] at hcj
        have hlx := (L[j]'(by rw [← HML.out]; exact hj)).toNat_lt
        have tS := fun x => txt_setB TL0.out j x (by rw [← HML.out]; exact hj)
        generalize (L[j]'(by rw [← HML.out]; exact hj)).toNat = x0 at hcj hlx
        have hx8 := u8_xor_nat x0 y hlx hy
        have hz8 : ((UInt8.ofNat (x0 ^^^ y)).toNat : Int) = ((x0 ^^^ y : Nat) : Int) := by
          have : x0 ^^^ y < 256 := Nat.xor_lt_two_pow (n := 8) hlx hy
          rw [UInt8.toNat_ofNat', Nat.mod_eq_of_lt (by omega)]
        have tS2 := tS (UInt8.ofNat (x0 ^^^ y))
        rw [hz8] at tS2
        rw [← hx8] at tS2
        have HX : Hid (M = (L.set j (UInt8.ofNat (x0 ^^^ y))).length) := Lib.hid (by rw [List.length_set]; exact HML.out)
        have hbel2 := HBL.out.setCell (p := ⟨g, j, none⟩) hg (.int .u8 (bits .xor .u8 (x0 : Int) (y : Int)))
        have TX := Lib.hid tS2
        have HB2 := Lib.hid hbel2
        generalize L.set j (UInt8.ofNat (x0 ^^^ y)) = Y at TX HX
        have p0 : decide ((0 : Int) ≤ (j : Int)) = true := by simp
        have p1 : decide ((j : Int) < (M : Int)) = true := by simp; omega
        clear hwr hfz hcell hx8 hz8 tS tS2 hbel2 HML TL0 HBL hat
        by_cases hk : K < N
        · rw [if_pos hk] at hMk
          have hsub : (N : Int) - (K : Int) = (M : Int) := by omega
          clear hMk
          have hb4 := (Below.refl _ _ : Below (wr.setCell ⟨g, j, none⟩ (.int .u8 (bits .xor .u8 (x0 : Int) (y : Int)))).heap.size (wr.setCell ⟨g, j, none⟩ (.int .u8 (bits .xor .u8 (x0 : Int) (y : Int)))) (wr.setCell ⟨g, j, none⟩ (.int .u8 (bits .xor .u8 (x0 : Int) (y : Int))))).alloc (Nat.le_refl _) (.cells #[] 5)
          have hown4 : ((wr.setCell ⟨g, j, none⟩ (.int .u8 (bits .xor .u8 (x0 : Int) (y : Int)))).alloc (.cells #[] 5)).ownsRow wr.heap.size 5 1 (.slice (some ⟨wr.heap.size, 0, none⟩) 0 0) 0 [] := by
            have h := own_empty (wr.setCell ⟨g, j, none⟩ (.int .u8 (bits .xor .u8 (x0 : Int) (y : Int)))) (wr.setCell ⟨g, j, none⟩ (.int .u8 (bits .xor .u8 (x0 : Int) (y : Int)))).heap.size 5 (Nat.le_refl _)
            simpa using h
          have t4 := TX.out.below hb4
          have hle3 : 0 + Y.length ≤ 140737488355328 := by rw [← HX.out]; omega
          have hsz3 : wr.heap.size ≤ ((wr.setCell ⟨g, j, none⟩ (.int .u8 (bits .xor .u8 (x0 : Int) (y : Int)))).alloc (.cells #[] 5)).heap.size := by simp
          go_wp2_with (at_builtin; refine wpList_append_txt _ rfl (.tmp 78) (.tmp 79) 25 rfl wr.heap.size 5 i0 Tryd.underlying25 hi0 hz0 hz1 hz2 _ 0 [] rfl hown4 (some ⟨g, 0, none⟩) c Y (by rw [← HX.out]; rfl) t4 hle3 hsz3 ?_)
          intro v5 w5 hown5 hg5
          have hb5 : Below (wr.setCell ⟨g, j, none⟩ (.int .u8 (bits .xor .u8 (x0 : Int) (y : Int)))).heap.size (wr.setCell ⟨g, j, none⟩ (.int .u8 (bits .xor .u8 (x0 : Int) (y : Int)))) w5 := hb4.grown hg5 (by simp) (fun k hk => by have := (hown4.lt k hk).1; simpa using this)
          have hbel5 := HB2.out.trans (hb5.mono HB2.out.size)
          have t5 := TX.out.below hb5
          try simp only [Nat.zero_add, List.nil_append] at hown5
          clear hown4 t4 hg5 hb4 hle3 hsz3
          generalize (wr.setCell ⟨g, j, none⟩ (.int .u8 (bits .xor .u8 (x0 : Int) (y : Int)))) = wx at *
          obtain ⟨a5, c5, rfl, t55, hc5, hm5⟩ := own_form hown5
          have hal := All_any a5 c5 Y f w5 (HT.out.below hbel5 (Nat.le_refl _)) hf t55 hc5 hm5 (by rw [← HX.out]; omega)
          have hral := fun W (h : Below w5.heap.size w5 W) => rAll_any (some ⟨g, 0, none⟩) c Y f W hf (t5.below h) (by rw [← HX.out]; omega) hcm (by rw [← HX.out]; omega)
          obtain ⟨R, hR⟩ : ∃ R, R = all1 Y f := ⟨_, rfl⟩
          rw [← hR] at hal hral
          rw [← HX.out] at hal hral ⊢
          obtain ⟨ts, sz⟩ := R
          have HRL := Lib.hid hral
          clear hown5 t55 hc5 hm5 hR hral hb5
          go_wp2_with fail
          refine hal.mono ?_
          rintro e w6 ⟨v6, xs, rfl, hown6, tx6, hb6⟩
          have hral6 := HRL.out w6 hb6
          have hbel6 := hbel5.trans (hb6.mono hbel5.size)
          have O6 := Lib.hid hown6
          have X6 := Lib.hid tx6
          obtain ⟨a6, c6, rfl, hc6, hm6, _⟩ := row_form hown6
          clear hal hown6 tx6
          go_wp2_with fail
          refine hral6.mono ?_
          rintro e w7 ⟨v7, ys, rfl, hown7, tx7, hb7⟩
          have hbel7 := hbel6.trans (hb7.mono hbel6.size)
          have O7 := Lib.hid hown7
          have X7 := Lib.hid tx7
          have O6' := Lib.hid (own_below O6.out hb7)
          have X6' := Lib.hid (X6.out.below hb7)
          have B7 := Lib.hid hbel7
          obtain ⟨a7, c7, rfl, hc7, hm7, hk7⟩ := row_form hown7
          obtain ⟨_, _, e6, _, _, hk6⟩ := row_form O6'.out
          injection e6 with e6
          subst e6
          have hK6 := Lib.hid hk6
          have hK7 := Lib.hid hk7
          have htl : ts.length ≤ 9223372036854775807 := Nat.le_trans hc7 hm7
          clear hk6 hk7
          clear hral6 hown7 tx7 hbel7 hbel6 hbel5 hb7 hb6 O6 X6 HRL TX HB2 t5
          simp only
          go_wp2_with fail
          go_loopw [17] (fun vi wr => ∃ (j : Nat) (n : Nat), vi = .int .i64 j ∧ j ≤ ts.length ∧ wr = w7.drewN n)
            (fun vi _ => ts.length - (intOf vi).toNat)
          case atStart => exact ⟨0, 0, rfl, Nat.zero_le _, rfl⟩
          case round =>
            obtain ⟨j, n, rfl, hj, rfl⟩ := hrel
            by_cases hlt : j < ts.length
            · obtain ⟨b1, d1, hx1, ht1, hl1, hm1⟩ := X6'.out.2 j hlt
              obtain ⟨b2, d2, hx2, ht2, hl2, hm2⟩ := X7.out.2 j hlt
              obtain ⟨g6, e6', _, _, hk6⟩ := hK6.out (by omega)
              obtain ⟨g7, e7', _, _, hk7⟩ := hK7.out (by omega)
              subst e6' e7'
              have cc6 := (hk6 j hlt).trans hx1
              have cc7 := (hk7 j hlt).trans hx2
              have k1 := fun n => run_stringN (P := Tryd.prog) w7 25 5 9 Tryd.underlying25 Tryd.underlying5 Tryd.underlying9 b1 ts[j] d1 ht1 n
              have k2 := fun n => run_stringN (P := Tryd.prog) w7 25 5 9 Tryd.underlying25 Tryd.underlying5 Tryd.underlying9 b2 ts[j] d2 ht2 n
              clear hk6 hk7 hx1 hx2 ht1 ht2
              generalize ts[j] = tj at *
              go_wp2
              go_quiet (fail)
              go_wp2
              refine ⟨⟨j + 1, n + nq, by go_num, by omega, rfl⟩, ?_⟩
              simp [intOf]; omega
            · have hlt' : ¬ ((j : Int) < (ts.length : Int)) := by omega
              go_wp2_with fail
              go_ret
              exact ⟨rfl, below_drewN B7.out n⟩
        · rw [if_neg hk] at hMk
          obtain rfl : N = M := by omega
          clear hMk
          have hb4 := (Below.refl _ _ : Below (wr.setCell ⟨g, j, none⟩ (.int .u8 (bits .xor .u8 (x0 : Int) (y : Int)))).heap.size (wr.setCell ⟨g, j, none⟩ (.int .u8 (bits .xor .u8 (x0 : Int) (y : Int)))) (wr.setCell ⟨g, j, none⟩ (.int .u8 (bits .xor .u8 (x0 : Int) (y : Int))))).alloc (Nat.le_refl _) (.cells #[] 5)
          have hown4 : ((wr.setCell ⟨g, j, none⟩ (.int .u8 (bits .xor .u8 (x0 : Int) (y : Int)))).alloc (.cells #[] 5)).ownsRow wr.heap.size 5 1 (.slice (some ⟨wr.heap.size, 0, none⟩) 0 0) 0 [] := by
            have h := own_empty (wr.setCell ⟨g, j, none⟩ (.int .u8 (bits .xor .u8 (x0 : Int) (y : Int)))) (wr.setCell ⟨g, j, none⟩ (.int .u8 (bits .xor .u8 (x0 : Int) (y : Int)))).heap.size 5 (Nat.le_refl _)
            simpa using h
          have t4 := TX.out.below hb4
          have hle3 : 0 + Y.length ≤ 140737488355328 := by rw [← HX.out]; omega
          have hsz3 : wr.heap.size ≤ ((wr.setCell ⟨g, j, none⟩ (.int .u8 (bits .xor .u8 (x0 : Int) (y : Int)))).alloc (.cells #[] 5)).heap.size := by simp
          go_wp2_with (at_builtin; refine wpList_append_txt _ rfl (.tmp 78) (.tmp 79) 25 rfl wr.heap.size 5 i0 Tryd.underlying25 hi0 hz0 hz1 hz2 _ 0 [] rfl hown4 (some ⟨g, 0, none⟩) c Y (by rw [← HX.out]; rfl) t4 hle3 hsz3 ?_)
          intro v5 w5 hown5 hg5
          have hb5 : Below (wr.setCell ⟨g, j, none⟩ (.int .u8 (bits .xor .u8 (x0 : Int) (y : Int)))).heap.size (wr.setCell ⟨g, j, none⟩ (.int .u8 (bits .xor .u8 (x0 : Int) (y : Int)))) w5 := hb4.grown hg5 (by simp) (fun k hk => by have := (hown4.lt k hk).1; simpa using this)
          have hbel5 := HB2.out.trans (hb5.mono HB2.out.size)
          have t5 := TX.out.below hb5
          try simp only [Nat.zero_add, List.nil_append] at hown5
          clear hown4 t4 hg5 hb4 hle3 hsz3
          generalize (wr.setCell ⟨g, j, none⟩ (.int .u8 (bits .xor .u8 (x0 : Int) (y : Int)))) = wx at *
          obtain ⟨a5, c5, rfl, t55, hc5, hm5⟩ := own_form hown5
          have hal := All_any a5 c5 Y f w5 (HT.out.below hbel5 (Nat.le_refl _)) hf t55 hc5 hm5 (by rw [← HX.out]; omega)
          have hral := fun W (h : Below w5.heap.size w5 W) => rAll_any (some ⟨g, 0, none⟩) c Y f W hf (t5.below h) (by rw [← HX.out]; omega) hcm (by rw [← HX.out]; omega)
          obtain ⟨R, hR⟩ : ∃ R, R = all1 Y f := ⟨_, rfl⟩
          rw [← hR] at hal hral
          rw [← HX.out] at hal hral ⊢
          obtain ⟨ts, sz⟩ := R
          have HRL := Lib.hid hral
          clear hown5 t55 hc5 hm5 hR hral hb5
          go_wp2_with fail
          refine hal.mono ?_
          rintro e w6 ⟨v6, xs, rfl, hown6, tx6, hb6⟩
          have hral6 := HRL.out w6 hb6
          have hbel6 := hbel5.trans (hb6.mono hbel5.size)
          have O6 := Lib.hid hown6
          have X6 := Lib.hid tx6
          obtain ⟨a6, c6, rfl, hc6, hm6, _⟩ := row_form hown6
          clear hal hown6 tx6
          go_wp2_with fail
          refine hral6.mono ?_
          rintro e w7 ⟨v7, ys, rfl, hown7, tx7, hb7⟩
          have hbel7 := hbel6.trans (hb7.mono hbel6.size)
          have O7 := Lib.hid hown7
          have X7 := Lib.hid tx7
          have O6' := Lib.hid (own_below O6.out hb7)
          have X6' := Lib.hid (X6.out.below hb7)
          have B7 := Lib.hid hbel7
          obtain ⟨a7, c7, rfl, hc7, hm7, hk7⟩ := row_form hown7
          obtain ⟨_, _, e6, _, _, hk6⟩ := row_form O6'.out
          injection e6 with e6
          subst e6
          have hK6 := Lib.hid hk6
          have hK7 := Lib.hid hk7
          have htl : ts.length ≤ 9223372036854775807 := Nat.le_trans hc7 hm7
          clear hk6 hk7
          clear hral6 hown7 tx7 hbel7 hbel6 hbel5 hb7 hb6 O6 X6 HRL TX HB2 t5
          simp only
          go_wp2_with fail
          go_loopw [17] (fun vi wr => ∃ (j : Nat) (n : Nat), vi = .int .i64 j ∧ j ≤ ts.length ∧ wr = w7.drewN n)
            (fun vi _ => ts.length - (intOf vi).toNat)
          case atStart => exact ⟨0, 0, rfl, Nat.zero_le _, rfl⟩
          case round =>
            obtain ⟨j, n, rfl, hj, rfl⟩ := hrel
            by_cases hlt : j < ts.length
            · obtain ⟨b1, d1, hx1, ht1, hl1, hm1⟩ := X6'.out.2 j hlt
              obtain ⟨b2, d2, hx2, ht2, hl2, hm2⟩ := X7.out.2 j hlt
              obtain ⟨g6, e6', _, _, hk6⟩ := hK6.out (by omega)
              obtain ⟨g7, e7', _, _, hk7⟩ := hK7.out (by omega)
              subst e6' e7'
              have cc6 := (hk6 j hlt).trans hx1
              have cc7 := (hk7 j hlt).trans hx2
              have k1 := fun n => run_stringN (P := Tryd.prog) w7 25 5 9 Tryd.underlying25 Tryd.underlying5 Tryd.underlying9 b1 ts[j] d1 ht1 n
              have k2 := fun n => run_stringN (P := Tryd.prog) w7 25 5 9 Tryd.underlying25 Tryd.underlying5 Tryd.underlying9 b2 ts[j] d2 ht2 n
              clear hk6 hk7 hx1 hx2 ht1 ht2
              generalize ts[j] = tj at *
              go_wp2
              go_quiet (fail)
              go_wp2
              refine ⟨⟨j + 1, n + nq, by go_num, by omega, rfl⟩, ?_⟩
              simp [intOf]; omega
            · have hlt' : ¬ ((j : Int) < (ts.length : Int)) := by omega
              go_wp2_with fail
              go_ret
              exact ⟨rfl, below_drewN B7.out n⟩
      · obtain ⟨Y, rfl⟩ : ∃ Y, Y = L := ⟨_, rfl⟩
        have HX := HML
        have TX := TL0
        have HB2 := HBL
        clear HML TL0 HBL hwr
        by_cases hk : K < N
        · rw [if_pos hk] at hMk
          have hsub : (N : Int) - (K : Int) = (M : Int) := by omega
          clear hMk
          by_cases h0 : 0 ≤ at_
          · have p0 : decide (0 ≤ at_) = true := by simp; omega
            have p1 : decide (at_ < (M : Int)) = false := by simp; omega
            clear hat
            have hb4 := (Below.refl _ _ : Below wr.heap.size wr wr).alloc (Nat.le_refl _) (.cells #[] 5)
            have hown4 : (wr.alloc (.cells #[] 5)).ownsRow wr.heap.size 5 1 (.slice (some ⟨wr.heap.size, 0, none⟩) 0 0) 0 [] := by
              have h := own_empty wr wr.heap.size 5 (Nat.le_refl _)
              simpa using h
            have t4 := TX.out.below hb4
            have hle3 : 0 + Y.length ≤ 140737488355328 := by rw [← HX.out]; omega
            have hsz3 : wr.heap.size ≤ (wr.alloc (.cells #[] 5)).heap.size := by simp
            go_wp2_with (at_builtin; refine wpList_append_txt _ rfl (.tmp 78) (.tmp 79) 25 rfl wr.heap.size 5 i0 Tryd.underlying25 hi0 hz0 hz1 hz2 _ 0 [] rfl hown4 a c Y (by rw [← HX.out]; rfl) t4 hle3 hsz3 ?_)
            intro v5 w5 hown5 hg5
            have hb5 : Below wr.heap.size wr w5 := hb4.grown hg5 (by simp) (fun k hk => by have := (hown4.lt k hk).1; simpa using this)
            have hbel5 := HB2.out.trans (hb5.mono HB2.out.size)
            have t5 := TX.out.below hb5
            try simp only [Nat.zero_add, List.nil_append] at hown5
            clear hown4 t4 hg5 hb4 hle3 hsz3
            generalize wr = wx at *
            obtain ⟨a5, c5, rfl, t55, hc5, hm5⟩ := own_form hown5
            have hal := All_any a5 c5 Y f w5 (HT.out.below hbel5 (Nat.le_refl _)) hf t55 hc5 hm5 (by rw [← HX.out]; omega)
            have hral := fun W (h : Below w5.heap.size w5 W) => rAll_any a c Y f W hf (t5.below h) (by rw [← HX.out]; omega) hcm (by rw [← HX.out]; omega)
            obtain ⟨R, hR⟩ : ∃ R, R = all1 Y f := ⟨_, rfl⟩
            rw [← hR] at hal hral
            rw [← HX.out] at hal hral ⊢
            obtain ⟨ts, sz⟩ := R
            have HRL := Lib.hid hral
            clear hown5 t55 hc5 hm5 hR hral hb5
            go_wp2_with fail
            refine hal.mono ?_
            rintro e w6 ⟨v6, xs, rfl, hown6, tx6, hb6⟩
            have hral6 := HRL.out w6 hb6
            have hbel6 := hbel5.trans (hb6.mono hbel5.size)
            have O6 := Lib.hid hown6
            have X6 := Lib.hid tx6
            obtain ⟨a6, c6, rfl, hc6, hm6, _⟩ := row_form hown6
            clear hal hown6 tx6
            go_wp2_with fail
            refine hral6.mono ?_
            rintro e w7 ⟨v7, ys, rfl, hown7, tx7, hb7⟩
            have hbel7 := hbel6.trans (hb7.mono hbel6.size)
            have O7 := Lib.hid hown7
            have X7 := Lib.hid tx7
            have O6' := Lib.hid (own_below O6.out hb7)
            have X6' := Lib.hid (X6.out.below hb7)
            have B7 := Lib.hid hbel7
            obtain ⟨a7, c7, rfl, hc7, hm7, hk7⟩ := row_form hown7
            obtain ⟨_, _, e6, _, _, hk6⟩ := row_form O6'.out
            injection e6 with e6
            subst e6
            have hK6 := Lib.hid hk6
            have hK7 := Lib.hid hk7
            have htl : ts.length ≤ 9223372036854775807 := Nat.le_trans hc7 hm7
            clear hk6 hk7
            clear hral6 hown7 tx7 hbel7 hbel6 hbel5 hb7 hb6 O6 X6 HRL TX HB2 t5
            simp only
            go_wp2_with fail
            go_loopw [17] (fun vi wr => ∃ (j : Nat) (n : Nat), vi = .int .i64 j ∧ j ≤ ts.length ∧ wr = w7.drewN n)
              (fun vi _ => ts.length - (intOf vi).toNat)
            case atStart => exact ⟨0, 0, rfl, Nat.zero_le _, rfl⟩
            case round =>
              obtain ⟨j, n, rfl, hj, rfl⟩ := hrel
              by_cases hlt : j < ts.length
              · obtain ⟨b1, d1, hx1, ht1, hl1, hm1⟩ := X6'.out.2 j hlt
                obtain ⟨b2, d2, hx2, ht2, hl2, hm2⟩ := X7.out.2 j hlt
                obtain ⟨g6, e6', _, _, hk6⟩ := hK6.out (by omega)
                obtain ⟨g7, e7', _, _, hk7⟩ := hK7.out (by omega)
                subst e6' e7'
                have cc6 := (hk6 j hlt).trans hx1
                have cc7 := (hk7 j hlt).trans hx2
                have k1 := fun n => run_stringN (P := Tryd.prog) w7 25 5 9 Tryd.underlying25 Tryd.underlying5 Tryd.underlying9 b1 ts[j] d1 ht1 n
                have k2 := fun n => run_stringN (P := Tryd.prog) w7 25 5 9 Tryd.underlying25 Tryd.underlying5 Tryd.underlying9 b2 ts[j] d2 ht2 n
                clear hk6 hk7 hx1 hx2 ht1 ht2
                generalize ts[j] = tj at *
                go_wp2
                go_quiet (fail)
                go_wp2
                refine ⟨⟨j + 1, n + nq, by go_num, by omega, rfl⟩, ?_⟩
                simp [intOf]; omega
              · have hlt' : ¬ ((j : Int) < (ts.length : Int)) := by omega
                go_wp2_with fail
                go_ret
                exact ⟨rfl, below_drewN B7.out n⟩
          · have p0 : decide (0 ≤ at_) = false := by simp; omega
            clear hat
            have hb4 := (Below.refl _ _ : Below wr.heap.size wr wr).alloc (Nat.le_refl _) (.cells #[] 5)
            have hown4 : (wr.alloc (.cells #[] 5)).ownsRow wr.heap.size 5 1 (.slice (some ⟨wr.heap.size, 0, none⟩) 0 0) 0 [] := by
              have h := own_empty wr wr.heap.size 5 (Nat.le_refl _)
              simpa using h
            have t4 := TX.out.below hb4
            have hle3 : 0 + Y.length ≤ 140737488355328 := by rw [← HX.out]; omega
            have hsz3 : wr.heap.size ≤ (wr.alloc (.cells #[] 5)).heap.size := by simp
            go_wp2_with (at_builtin; refine wpList_append_txt _ rfl (.tmp 78) (.tmp 79) 25 rfl wr.heap.size 5 i0 Tryd.underlying25 hi0 hz0 hz1 hz2 _ 0 [] rfl hown4 a c Y (by rw [← HX.out]; rfl) t4 hle3 hsz3 ?_)
            intro v5 w5 hown5 hg5
            have hb5 : Below wr.heap.size wr w5 := hb4.grown hg5 (by simp) (fun k hk => by have := (hown4.lt k hk).1; simpa using this)
            have hbel5 := HB2.out.trans (hb5.mono HB2.out.size)
            have t5 := TX.out.below hb5
            try simp only [Nat.zero_add, List.nil_append] at hown5
            clear hown4 t4 hg5 hb4 hle3 hsz3
            generalize wr = wx at *
            obtain ⟨a5, c5, rfl, t55, hc5, hm5⟩ := own_form hown5
            have hal := All_any a5 c5 Y f w5 (HT.out.below hbel5 (Nat.le_refl _)) hf t55 hc5 hm5 (by rw [← HX.out]; omega)
            have hral := fun W (h : Below w5.heap.size w5 W) => rAll_any a c Y f W hf (t5.below h) (by rw [← HX.out]; omega) hcm (by rw [← HX.out]; omega)
            obtain ⟨R, hR⟩ : ∃ R, R = all1 Y f := ⟨_, rfl⟩
            rw [← hR] at hal hral
            rw [← HX.out] at hal hral ⊢
            obtain ⟨ts, sz⟩ := R
            have HRL := Lib.hid hral
            clear hown5 t55 hc5 hm5 hR hral hb5
            go_wp2_with fail
            refine hal.mono ?_
            rintro e w6 ⟨v6, xs, rfl, hown6, tx6, hb6⟩
            have hral6 := HRL.out w6 hb6
            have hbel6 := hbel5.trans (hb6.mono hbel5.size)
            have O6 := Lib.hid hown6
            have X6 := Lib.hid tx6
            obtain ⟨a6, c6, rfl, hc6, hm6, _⟩ := row_form hown6
            clear hal hown6 tx6
            go_wp2_with fail
            refine hral6.mono ?_
            rintro e w7 ⟨v7, ys, rfl, hown7, tx7, hb7⟩
            have hbel7 := hbel6.trans (hb7.mono hbel6.size)
            have O7 := Lib.hid hown7
            have X7 := Lib.hid tx7
            have O6' := Lib.hid (own_below O6.out hb7)
            have X6' := Lib.hid (X6.out.below hb7)
            have B7 := Lib.hid hbel7
            obtain ⟨a7, c7, rfl, hc7, hm7, hk7⟩ := row_form hown7
            obtain ⟨_, _, e6, _, _, hk6⟩ := row_form O6'.out
            injection e6 with e6
            subst e6
            have hK6 := Lib.hid hk6
            have hK7 := Lib.hid hk7
            have htl : ts.length ≤ 9223372036854775807 := Nat.le_trans hc7 hm7
            clear hk6 hk7
            clear hral6 hown7 tx7 hbel7 hbel6 hbel5 hb7 hb6 O6 X6 HRL TX HB2 t5
            simp only
            go_wp2_with fail
            go_loopw [17] (fun vi wr => ∃ (j : Nat) (n : Nat), vi = .int .i64 j ∧ j ≤ ts.length ∧ wr = w7.drewN n)
              (fun vi _ => ts.length - (intOf vi).toNat)
            case atStart => exact ⟨0, 0, rfl, Nat.zero_le _, rfl⟩
            case round =>
              obtain ⟨j, n, rfl, hj, rfl⟩ := hrel
              by_cases hlt : j < ts.length
              · obtain ⟨b1, d1, hx1, ht1, hl1, hm1⟩ := X6'.out.2 j hlt
                obtain ⟨b2, d2, hx2, ht2, hl2, hm2⟩ := X7.out.2 j hlt
                obtain ⟨g6, e6', _, _, hk6⟩ := hK6.out (by omega)
                obtain ⟨g7, e7', _, _, hk7⟩ := hK7.out (by omega)
                subst e6' e7'
                have cc6 := (hk6 j hlt).trans hx1
                have cc7 := (hk7 j hlt).trans hx2
                have k1 := fun n => run_stringN (P := Tryd.prog) w7 25 5 9 Tryd.underlying25 Tryd.underlying5 Tryd.underlying9 b1 ts[j] d1 ht1 n
                have k2 := fun n => run_stringN (P := Tryd.prog) w7 25 5 9 Tryd.underlying25 Tryd.underlying5 Tryd.underlying9 b2 ts[j] d2 ht2 n
                clear hk6 hk7 hx1 hx2 ht1 ht2
                generalize ts[j] = tj at *
                go_wp2
                go_quiet (fail)
                go_wp2
                refine ⟨⟨j + 1, n + nq, by go_num, by omega, rfl⟩, ?_⟩
                simp [intOf]; omega
              · have hlt' : ¬ ((j : Int) < (ts.length : Int)) := by omega
                go_wp2_with fail
                go_ret
                exact ⟨rfl, below_drewN B7.out n⟩
        · rw [if_neg hk] at hMk
          obtain rfl : N = M := by omega
          clear hMk
          by_cases h0 : 0 ≤ at_
          · have p0 : decide (0 ≤ at_) = true := by simp; omega
            have p1 : decide (at_ < (N : Int)) = false := by simp; omega
            clear hat
            have hb4 := (Below.refl _ _ : Below wr.heap.size wr wr).alloc (Nat.le_refl _) (.cells #[] 5)
            have hown4 : (wr.alloc (.cells #[] 5)).ownsRow wr.heap.size 5 1 (.slice (some ⟨wr.heap.size, 0, none⟩) 0 0) 0 [] := by
              have h := own_empty wr wr.heap.size 5 (Nat.le_refl _)
              simpa using h
            have t4 := TX.out.below hb4
            have hle3 : 0 + Y.length ≤ 140737488355328 := by rw [← HX.out]; omega
            have hsz3 : wr.heap.size ≤ (wr.alloc (.cells #[] 5)).heap.size := by simp
            go_wp2_with (at_builtin; refine wpList_append_txt _ rfl (.tmp 78) (.tmp 79) 25 rfl wr.heap.size 5 i0 Tryd.underlying25 hi0 hz0 hz1 hz2 _ 0 [] rfl hown4 a c Y (by rw [← HX.out]; rfl) t4 hle3 hsz3 ?_)
            intro v5 w5 hown5 hg5
            have hb5 : Below wr.heap.size wr w5 := hb4.grown hg5 (by simp) (fun k hk => by have := (hown4.lt k hk).1; simpa using this)
            have hbel5 := HB2.out.trans (hb5.mono HB2.out.size)
            have t5 := TX.out.below hb5
            try simp only [Nat.zero_add, List.nil_append] at hown5
            clear hown4 t4 hg5 hb4 hle3 hsz3
            generalize wr = wx at *
            obtain ⟨a5, c5, rfl, t55, hc5, hm5⟩ := own_form hown5
            have hal := All_any a5 c5 Y f w5 (HT.out.below hbel5 (Nat.le_refl _)) hf t55 hc5 hm5 (by rw [← HX.out]; omega)
            have hral := fun W (h : Below w5.heap.size w5 W) => rAll_any a c Y f W hf (t5.below h) (by rw [← HX.out]; omega) hcm (by rw [← HX.out]; omega)
            obtain ⟨R, hR⟩ : ∃ R, R = all1 Y f := ⟨_, rfl⟩
            rw [← hR] at hal hral
            rw [← HX.out] at hal hral ⊢
            obtain ⟨ts, sz⟩ := R
            have HRL := Lib.hid hral
            clear hown5 t55 hc5 hm5 hR hral hb5
            go_wp2_with fail
            refine hal.mono ?_
            rintro e w6 ⟨v6, xs, rfl, hown6, tx6, hb6⟩
            have hral6 := HRL.out w6 hb6
            have hbel6 := hbel5.trans (hb6.mono hbel5.size)
            have O6 := Lib.hid hown6
            have X6 := Lib.hid tx6
            obtain ⟨a6, c6, rfl, hc6, hm6, _⟩ := row_form hown6
            clear hal hown6 tx6
            go_wp2_with fail
            refine hral6.mono ?_
            rintro e w7 ⟨v7, ys, rfl, hown7, tx7, hb7⟩
            have hbel7 := hbel6.trans (hb7.mono hbel6.size)
            have O7 := Lib.hid hown7
            have X7 := Lib.hid tx7
            have O6' := Lib.hid (own_below O6.out hb7)
            have X6' := Lib.hid (X6.out.below hb7)
            have B7 := Lib.hid hbel7
            obtain ⟨a7, c7, rfl, hc7, hm7, hk7⟩ := row_form hown7
            obtain ⟨_, _, e6, _, _, hk6⟩ := row_form O6'.out
            injection e6 with e6
            subst e6
            have hK6 := Lib.hid hk6
            have hK7 := Lib.hid hk7
            have htl : ts.length ≤ 9223372036854775807 := Nat.le_trans hc7 hm7
            clear hk6 hk7
            clear hral6 hown7 tx7 hbel7 hbel6 hbel5 hb7 hb6 O6 X6 HRL TX HB2 t5
            simp only
            go_wp2_with fail
            go_loopw [17] (fun vi wr => ∃ (j : Nat) (n : Nat), vi = .int .i64 j ∧ j ≤ ts.length ∧ wr = w7.drewN n)
              (fun vi _ => ts.length - (intOf vi).toNat)
            case atStart => exact ⟨0, 0, rfl, Nat.zero_le _, rfl⟩
            case round =>
              obtain ⟨j, n, rfl, hj, rfl⟩ := hrel
              by_cases hlt : j < ts.length
              · obtain ⟨b1, d1, hx1, ht1, hl1, hm1⟩ := X6'.out.2 j hlt
                obtain ⟨b2, d2, hx2, ht2, hl2, hm2⟩ := X7.out.2 j hlt
                obtain ⟨g6, e6', _, _, hk6⟩ := hK6.out (by omega)
                obtain ⟨g7, e7', _, _, hk7⟩ := hK7.out (by omega)
                subst e6' e7'
                have cc6 := (hk6 j hlt).trans hx1
                have cc7 := (hk7 j hlt).trans hx2
                have k1 := fun n => run_stringN (P := Tryd.prog) w7 25 5 9 Tryd.underlying25 Tryd.underlying5 Tryd.underlying9 b1 ts[j] d1 ht1 n
                have k2 := fun n => run_stringN (P := Tryd.prog) w7 25 5 9 Tryd.underlying25 Tryd.underlying5 Tryd.underlying9 b2 ts[j] d2 ht2 n
                clear hk6 hk7 hx1 hx2 ht1 ht2
                generalize ts[j] = tj at *
                go_wp2
                go_quiet (fail)
                go_wp2
                refine ⟨⟨j + 1, n + nq, by go_num, by omega, rfl⟩, ?_⟩
                simp [intOf]; omega
              · have hlt' : ¬ ((j : Int) < (ts.length : Int)) := by omega
                go_wp2_with fail
                go_ret
                exact ⟨rfl, below_drewN B7.out n⟩
          · have p0 : decide (0 ≤ at_) = false := by simp; omega
            clear hat
            have hb4 := (Below.refl _ _ : Below wr.heap.size wr wr).alloc (Nat.le_refl _) (.cells #[] 5)
            have hown4 : (wr.alloc (.cells #[] 5)).ownsRow wr.heap.size 5 1 (.slice (some ⟨wr.heap.size, 0, none⟩) 0 0) 0 [] := by
              have h := own_empty wr wr.heap.size 5 (Nat.le_refl _)
              simpa using h
            have t4 := TX.out.below hb4
            have hle3 : 0 + Y.length ≤ 140737488355328 := by rw [← HX.out]; omega
            have hsz3 : wr.heap.size ≤ (wr.alloc (.cells #[] 5)).heap.size := by simp
            go_wp2_with (at_builtin; refine wpList_append_txt _ rfl (.tmp 78) (.tmp 79) 25 rfl wr.heap.size 5 i0 Tryd.underlying25 hi0 hz0 hz1 hz2 _ 0 [] rfl hown4 a c Y (by rw [← HX.out]; rfl) t4 hle3 hsz3 ?_)
            intro v5 w5 hown5 hg5
            have hb5 : Below wr.heap.size wr w5 := hb4.grown hg5 (by simp) (fun k hk => by have := (hown4.lt k hk).1; simpa using this)
            have hbel5 := HB2.out.trans (hb5.mono HB2.out.size)
            have t5 := TX.out.below hb5
            try simp only [Nat.zero_add, List.nil_append] at hown5
            clear hown4 t4 hg5 hb4 hle3 hsz3
            generalize wr = wx at *
            obtain ⟨a5, c5, rfl, t55, hc5, hm5⟩ := own_form hown5
            have hal := All_any a5 c5 Y f w5 (HT.out.below hbel5 (Nat.le_refl _)) hf t55 hc5 hm5 (by rw [← HX.out]; omega)
            have hral := fun W (h : Below w5.heap.size w5 W) => rAll_any a c Y f W hf (t5.below h) (by rw [← HX.out]; omega) hcm (by rw [← HX.out]; omega)
            obtain ⟨R, hR⟩ : ∃ R, R = all1 Y f := ⟨_, rfl⟩
            rw [← hR] at hal hral
            rw [← HX.out] at hal hral ⊢
            obtain ⟨ts, sz⟩ := R
            have HRL := Lib.hid hral
            clear hown5 t55 hc5 hm5 hR hral hb5
            go_wp2_with fail
            refine hal.mono ?_
            rintro e w6 ⟨v6, xs, rfl, hown6, tx6, hb6⟩
            have hral6 := HRL.out w6 hb6
            have hbel6 := hbel5.trans (hb6.mono hbel5.size)
            have O6 := Lib.hid hown6
            have X6 := Lib.hid tx6
            obtain ⟨a6, c6, rfl, hc6, hm6, _⟩ := row_form hown6
            clear hal hown6 tx6
            go_wp2_with fail
            refine hral6.mono ?_
            rintro e w7 ⟨v7, ys, rfl, hown7, tx7, hb7⟩
            have hbel7 := hbel6.trans (hb7.mono hbel6.size)
            have O7 := Lib.hid hown7
            have X7 := Lib.hid tx7
            have O6' := Lib.hid (own_below O6.out hb7)
            have X6' := Lib.hid (X6.out.below hb7)
            have B7 := Lib.hid hbel7
            obtain ⟨a7, c7, rfl, hc7, hm7, hk7⟩ := row_form hown7
            obtain ⟨_, _, e6, _, _, hk6⟩ := row_form O6'.out
            injection e6 with e6
            subst e6
            have hK6 := Lib.hid hk6
            have hK7 := Lib.hid hk7
            have htl : ts.length ≤ 9223372036854775807 := Nat.le_trans hc7 hm7
            clear hk6 hk7
            clear hral6 hown7 tx7 hbel7 hbel6 hbel5 hb7 hb6 O6 X6 HRL TX HB2 t5
            simp only
            go_wp2_with fail
            go_loopw [17] (fun vi wr => ∃ (j : Nat) (n : Nat), vi = .int .i64 j ∧ j ≤ ts.length ∧ wr = w7.drewN n)
              (fun vi _ => ts.length - (intOf vi).toNat)
            case atStart => exact ⟨0, 0, rfl, Nat.zero_le _, rfl⟩
            case round =>
              obtain ⟨j, n, rfl, hj, rfl⟩ := hrel
              by_cases hlt : j < ts.length
              · obtain ⟨b1, d1, hx1, ht1, hl1, hm1⟩ := X6'.out.2 j hlt
                obtain ⟨b2, d2, hx2, ht2, hl2, hm2⟩ := X7.out.2 j hlt
                obtain ⟨g6, e6', _, _, hk6⟩ := hK6.out (by omega)
                obtain ⟨g7, e7', _, _, hk7⟩ := hK7.out (by omega)
                subst e6' e7'
                have cc6 := (hk6 j hlt).trans hx1
                have cc7 := (hk7 j hlt).trans hx2
                have k1 := fun n => run_stringN (P := Tryd.prog) w7 25 5 9 Tryd.underlying25 Tryd.underlying5 Tryd.underlying9 b1 ts[j] d1 ht1 n
                have k2 := fun n => run_stringN (P := Tryd.prog) w7 25 5 9 Tryd.underlying25 Tryd.underlying5 Tryd.underlying9 b2 ts[j] d2 ht2 n
                clear hk6 hk7 hx1 hx2 ht1 ht2
                generalize ts[j] = tj at *
                go_wp2
                go_quiet (fail)
                go_wp2
                refine ⟨⟨j + 1, n + nq, by go_num, by omega, rfl⟩, ?_⟩
                simp [intOf]; omega
              · have hlt' : ¬ ((j : Int) < (ts.length : Int)) := by omega
                go_wp2_with fail
                go_ret
                exact ⟨rfl, below_drewN B7.out n⟩

set_option maxRecDepth 100000 in
theorem lifted (os : Os) (started : os.Started) (H : Type) (enc : TypeId × Value → H) :
    ReturnsInHanded {} Tryd.checked os 3 .any (fun w args => (Rows.sumAllSpec.pre enc Tryd.prog Tryd.f3 Rows.sumAllRow.domain false w args ∧ laidMetH Tryd.prog LAID w) ∧ sizedMet enc Tryd.prog Tryd.f3 (OpenSpec.ofChange Rows.sumAllSpec) false w args) (Rows.sumAllSpec.post enc Tryd.prog Tryd.f3 false true false false) := by
  refine returnsInHanded_of_change_and (C := Tryd.checked) (X := fun w _ => laidMetH Tryd.prog LAID w) (fun _ _ _ hh h => h.of_heap hh) own started (by kernel_rfl) Tryd.func3
    (ChangeSpec.witness_shaped (enc := enc) (C := Tryd.checked) (os := os) (X := fun w _ => laidMetH Tryd.prog LAID w) false (World.laidAll Tryd.prog os LAID) #[.slice none 0 0, .int .u64 0, .int .i64 0, .int .i64 0, .int .u8 0] 8 (World.laidAll_os _ _ _)
      (World.shaped_of_ZipB (by kernel_rfl) (by kernel_rfl)) (by kernel_rfl) (by kernel_rfl) (by kernel_rfl)
      (by rw [MakeChecks.laidMetH_plain _ _ _ (by kernel_rfl)]; exact laidMet_laidAll _ (by kernel_rfl) (by kernel_rfl))) ?_
  intro W base args ds gs before hval0 hW hcnd hsz0 hL _
  have hT : Tab W := tab_of (by rw [MakeChecks.laidMetH_plain _ _ _ (by kernel_rfl)] at hL; exact hL)
  have hval : ∀ (j : Nat) t v, Tryd.f3.params[j]? = some t → args[j]? = some v → Value.okWide Tryd.prog W .any base t v := hval0
  have hW' := hW
  obtain ⟨p, q, hA0, hV, rfl, hfz, hnd⟩ := hW
  have hA : DataW.TrodAll enc Tryd.prog W 0 (fun _ => true) true Tryd.f3.params.toList args.toList ds p := hA0
  rw [Tryd.params3] at hA hval
  obtain ⟨v0, vs0, d0, ds0, p0, q0, hargs, rfl, rfl, h0, r0⟩ := trodAll_cons hA
  obtain ⟨v1, vs1, d1, ds1, p1, q1, rfl, rfl, rfl, h1, r1⟩ := trodAll_cons r0
  obtain ⟨v2, vs2, d2, ds2, p2, q2, rfl, rfl, rfl, h2, r2⟩ := trodAll_cons r1
  obtain ⟨v3, vs3, d3, ds3, p3, q3, rfl, rfl, rfl, h3, r3⟩ := trodAll_cons r2
  obtain ⟨v4, vs4, d4, ds4, p4, q4, rfl, rfl, rfl, h4, r4⟩ := trodAll_cons r3
  obtain ⟨rfl, rfl, rfl⟩ := trodAll_nil r4
  obtain rfl : args = #[v0, v1, v2, v3, v4] := by cases args; simp_all
  obtain ⟨rfl, rfl⟩ := trodVars_none hV
  obtain ⟨a_l, len_l, c_l, rfl⟩ := okWide_slice Tryd.underlying22 (hval 0 22 v0 rfl rfl)
  have k0 := h0
  have lt0 : ∀ x ∈ p0, x.block < W.heap.size := by obtain ⟨m, hm⟩ := k0; exact DataW.trod_lt m _ _ _ hm
  obtain ⟨l, n_l, l_l, m_l, t_l⟩ : ∃ l : List (List UInt8), l.length = len_l ∧ l.length ≤ c_l ∧ c_l ≤ maxLen ∧ TRow W a_l l := by
    obtain ⟨fuel, hf⟩ := h0
    exact open_texts Tryd.underlying22 Tryd.underlying25 Tryd.underlying5 (by kernel_rfl) (by kernel_rfl) hf
  subst n_l
  obtain ⟨first, rfl, rfl, rfl, w_first⟩ := open_int Tryd.underlying23 (hval 1 23 v1 rfl rfl) h1
  obtain ⟨cut, rfl, rfl, rfl, w_cut⟩ := open_int Tryd.underlying3 (hval 2 3 v2 rfl rfl) h2
  obtain ⟨at_, rfl, rfl, rfl, w_at_⟩ := open_int Tryd.underlying3 (hval 3 3 v3 rfl rfl) h3
  obtain ⟨by_, rfl, rfl, rfl, w_by_⟩ := open_int Tryd.underlying5 (hval 4 5 v4 rfl rfl) h4
  clear hA0 hval0
  refine (walk a_l c_l l first cut at_ by_ W hT l_l m_l t_l w_first w_cut w_at_ w_by_).mono fun e W' ⟨he, bel⟩ => ?_
  subst he
  exact ⟨_, rfl, _, _, _, [], _, [], hW', trodAll_mk1 (shut_bool Tryd.underlying4 _), (trodAll_cons_mk (Below.trod laidOut (by kernel_rfl) (of_decide_eq_true (by kernel_rfl)) k0 bel lt0) (trodAll_cons_mk (shut_int Tryd.underlying23 w_first) (trodAll_cons_mk (shut_int Tryd.underlying3 w_cut) (trodAll_cons_mk (shut_int Tryd.underlying3 w_at_) (trodAll_cons_mk (shut_int Tryd.underlying5 w_by_) trodAll_mk0))))), rfl, bel.frame _, fun h => by cases h⟩

theorem over : Rows.sumAllRow.holds Tryd.pinned (OpenSpec.ofChange Rows.sumAllSpec) :=
  OpenClaim.holds_of_wide 3 Tryd.f3 rfl rfl rfl rfl rfl rfl rfl ⟨rfl, rfl, rfl, rfl, rfl⟩ rfl rfl rfl rfl rfl (by kernel_rfl) Tryd.func3 (by kernel_rfl)
    (of_decide_eq_true (by kernel_rfl)) (by unfold Func.isWrapper; first | (rw [if_pos (by decide +kernel)]; kernel_rfl) | (rw [if_neg (by decide +kernel)]; exact ⟨rfl, rfl⟩))
    (fun os started H enc _ => lifted os started H enc)

set_option maxRecDepth 100000 in
theorem proved : Rows.SumAllCardSaid :=
  Claim7.holds_tied_plain_at .later [] [.data] true Rows.sumAllCard.stood.harness false over (fun _ h => by cases h) (by kernel_rfl) (fun _ h => by cases h) sumAll_row_tie rfl ⟨rfl, rfl⟩ (by kernel_rfl) rfl
    (fun f fn hf hfn => by
      obtain rfl : f = 3 := Option.some.inj ((show Tryd.prog.funcNamed "escapement/escapementlaw2.SumAll" = some 3 by kernel_rfl).symm.trans hf) |>.symm
      obtain rfl : fn = Tryd.f3 := (Option.some.inj (Tryd.func3.symm.trans hfn)).symm
      exact ⟨by kernel_rfl, fun j t ht => by
        rw [Tryd.params3] at ht
        have hm : t ∈ ([22, 23, 3, 3, 5] : List TypeId) := by simpa using Array.mem_of_getElem? ht
        have hall : (([22, 23, 3, 3, 5] : List TypeId).all fun u => !Tryd.prog.wantsStandIn u) = true := by kernel_rfl
        exact (show Tryd.prog.wantsStandIn t = false by simpa using List.all_eq_true.1 hall t hm)⟩)
    (by kernel_rfl)
#print axioms proved
end Go.Proofs.YtahffcbinpkdpaaDoor.sumAll
