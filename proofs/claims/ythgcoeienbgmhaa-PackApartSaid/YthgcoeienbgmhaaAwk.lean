/-
  The awake test of layer 1's statements is true in every world and leaves older memory as it was.
-/
import Derived.Test.YthgcoeienbgmhaaPrs
namespace Go.Proofs.Ythgcoeienbgmhaa
open Go Go.RowKit

/-- A call hands back the bytes L, and older memory is as it was. -/
def Gives (w : World) (L : List UInt8) (e : Ending) (w' : World) : Prop :=
  ∃ a c, e = .returned (.slice a L.length c) ∧ Txt w' a L ∧ L.length ≤ c ∧ c ≤ maxLen ∧ Below w.heap.size w w'

theorem gives_of {w w' : World} {L : List UInt8} {e : Ending} (h : ∃ v, e = .returned v ∧ w'.ownsRow w.heap.size 5 1 v L.length (Lib.byteCells L) ∧ Below w.heap.size w w') : Gives w L e w' := by
  obtain ⟨v, rfl, hown, hb⟩ := h
  rcases hown.2 with ⟨rfl, h0⟩ | ⟨g, cap, cur, rfl, _, _, hnc, hcm, _⟩
  · obtain rfl : L = [] := List.eq_nil_of_length_eq_zero h0
    exact ⟨none, 0, rfl, Txt.nil _ _, Nat.le_refl _, Nat.zero_le _, hb⟩
  · exact ⟨_, cap, rfl, (Txt.of_own hown).1, hnc, hcm, hb⟩

theorem U_gives (a : Option Addr) (c x : Nat) (l : List UInt8) (w : World) (ht : Txt w a l) (hx : x < 18446744073709551616) (hb : l.length + 10 ≤ 140737488355328) :
    Calls Try.prog 17 #[.slice a l.length c, .int .u64 x] w (Gives w (l ++ Lib.uvarint x)) := (U_any a c x l w ht hx hb).mono fun _ _ h => gives_of h
theorem I_gives (a : Option Addr) (c : Nat) (v : Int) (l : List UInt8) (w : World) (ht : Txt w a l) (h0 : -9223372036854775808 ≤ v) (h1 : v ≤ 9223372036854775807) (hb : l.length + 10 ≤ 140737488355328) :
    Calls Try.prog 19 #[.slice a l.length c, .int .i64 v] w (Gives w (l ++ Lib.uvarint (Lib.zigzag v))) := (I_any a c v l w ht h0 h1 hb).mono fun _ _ h => gives_of h
theorem S_gives (a : Option Addr) (c : Nat) (s : ByteArray) (l : List UInt8) (w : World) (ht : Txt w a l) (hb : l.length + 20 + s.size ≤ 140737488355328) :
    Calls Try.prog 21 #[.slice a l.length c, .string s] w (Gives w (l ++ Lib.uvarint s.size ++ s.data.toList)) := (S_any a c s l w ht hb).mono fun _ _ h => gives_of h

theorem U_nil (x : Nat) (w : World) (hx : x < 18446744073709551616) : Calls Try.prog 17 #[.slice none 0 0, .int .u64 x] w (Gives w (Lib.uvarint x)) := by
  have h := U_gives none 0 x [] w (Txt.nil _ _) hx (by simp)
  simpa using h
theorem I_nil (v : Int) (w : World) (h0 : -9223372036854775808 ≤ v) (h1 : v ≤ 9223372036854775807) : Calls Try.prog 19 #[.slice none 0 0, .int .i64 v] w (Gives w (Lib.uvarint (Lib.zigzag v))) := by
  have h := I_gives none 0 v [] w (Txt.nil _ _) h0 h1 (by simp)
  simpa using h
theorem S_nil (s : ByteArray) (w : World) (hs : s.size + 20 ≤ 140737488355328) : Calls Try.prog 21 #[.slice none 0 0, .string s] w (Gives w (Lib.uvarint s.size ++ s.data.toList)) := by
  have h := S_gives none 0 s [] w (Txt.nil _ _) (by simp; omega)
  simpa using h

/-- Only block g, a new one, has turned. -/
theorem below_grown {B g : Nat} {w0 w w' : World} (hb : Below B w0 w) (hg : w.grownBy w' (some g)) (hB : B ≤ w.heap.size) (hg' : B ≤ g) : Below B w0 w' :=
  hb.grown hg hB (fun k e => by injection e with e; omega)

theorem enc300 : ([] : List UInt8) ++ Lib.uvarint 300 = [172, 2] := by
  rw [Lib.uvarint_big (by omega), Lib.uvarint_small (by omega)]
  rfl
theorem encm1 : [172, 2] ++ Lib.uvarint (Lib.zigzag (-1)) = [172, 2, 1] := by
  rw [show Lib.zigzag (-1) = 1 from rfl, Lib.uvarint_small (by omega)]
  rfl
theorem encab : [172, 2, 1] ++ Lib.uvarint 2 ++ [97, 98] = [172, 2, 1, 2, 97, 98] := by
  rw [Lib.uvarint_small (by omega)]
  rfl
theorem rd1 : rdU ([172, 2, 1, 2, 97, 98], false) = (300, [1, 2, 97, 98], false) := rfl
theorem rd2 : rdI ([1, 2, 97, 98], false) = (-1, [2, 97, 98], false) := rfl
theorem rd3 : rdS ([2, 97, 98], false) = ([97, 98], [], false) := rfl

set_option maxHeartbeats 1000000 in
theorem awake_any (w : World) : Calls Try.prog 10 #[] w fun e w' => e = .returned (.bool true) ∧ Below w.heap.size w w' := by
  go_enter Try.func10, Try.ntmps10
  go_wp2_with fail
  refine (U_gives none 0 300 [] w (Txt.nil _ _) (by omega) (by simp)).mono ?_
  rw [enc300]
  rintro e w1 ⟨a1, c1, rfl, ht1, hc1, hm1, hb1⟩
  go_wp2_with fail
  refine (I_gives a1 c1 (-1) [172, 2] w1 ht1 (by omega) (by omega) (by simp)).mono ?_
  rw [encm1]
  rintro e w2 ⟨a2, c2, rfl, ht2, hc2, hm2, hb2⟩
  go_wp2_with fail
  refine (S_gives a2 c2 ⟨#[97, 98]⟩ [172, 2, 1] w2 ht2 (by decide)).mono ?_
  rintro e w3 ⟨a3, c3, rfl, ht3, hc3, hm3, hb3⟩
  have e3 : [172, 2, 1] ++ Lib.uvarint (ByteArray.size ⟨#[97, 98]⟩) ++ (⟨#[97, 98]⟩ : ByteArray).data.toList = [172, 2, 1, 2, 97, 98] := encab
  rw [e3] at ht3 hc3 ⊢
  go_wp2_with fail
  refine (Read_any a3 c3 [172, 2, 1, 2, 97, 98] w3 ht3 (by decide)).mono ?_
  rintro e w4 ⟨g, rfl, hg4, hr4, hb4⟩
  have hconv : (convert 25 9 (.slice a3 6 c3)).run Try.prog w4 = .ok (.string ⟨#[172, 2, 1, 2, 97, 98]⟩) w4 := run_string w4 25 5 9 Try.underlying25 Try.underlying5 Try.underlying9 a3 [172, 2, 1, 2, 97, 98] c3 (ht3.below hb4)
  have hB4 : Below w.heap.size w w4 := ((hb1.trans (hb2.mono hb1.size)).trans (hb3.mono (hb1.trans (hb2.mono hb1.size)).size)).trans (hb4.mono ((hb1.trans (hb2.mono hb1.size)).trans (hb3.mono (hb1.trans (hb2.mono hb1.size)).size)).size)
  have hgw : w.heap.size ≤ g := Nat.le_trans ((hb1.trans (hb2.mono hb1.size)).trans (hb3.mono (hb1.trans (hb2.mono hb1.size)).size)).size hg4
  clear hb1 hb2 hb3 hb4 ht1 ht2 ht3 e3
  go_wp2_with fail
  refine (RU_any g _ w4 hr4).mono ?_
  rw [rd1]
  rintro e w5 ⟨rfl, hr5, hG5⟩
  have hB5 := below_grown hB4 hG5 hB4.size hgw
  go_wp2_with fail
  refine (RI_any g _ w5 hr5).mono ?_
  rw [rd2]
  rintro e w6 ⟨rfl, hr6, hG6⟩
  have hB6 := below_grown hB5 hG6 hB5.size hgw
  go_wp2_with fail
  refine (RS_any g _ w6 hr6).mono ?_
  rw [rd3]
  rintro e w7 ⟨rfl, hr7, hG7⟩
  have hB7 := below_grown hB6 hG7 hB6.size hgw
  clear hconv hG5 hG6 hG7
  go_wp2_with fail
  refine (Left_any g _ w7 hr7).mono ?_
  rintro e w8 ⟨rfl, rfl⟩
  go_wp2_with fail
  refine (Bad_any g _ w7 hr7).mono ?_
  rintro e w8 ⟨rfl, rfl⟩
  go_wp2_with fail
  go_ret
  exact ⟨rfl, hB7⟩

end Go.Proofs.Ythgcoeienbgmhaa
