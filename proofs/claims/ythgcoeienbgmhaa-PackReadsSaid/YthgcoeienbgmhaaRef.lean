/-
  What the document's own writers do: PutU, PutI, PutS. Each leaves older memory as it was.
-/
import Derived.Test.YthgcoeienbgmhaaAwk
import Derived.Test.YthgcoeienbgmhaaApp
namespace Go.Proofs.Ythgcoeienbgmhaa
open Go Go.RowKit

set_option maxHeartbeats 4000000 in
set_option maxRecDepth 100000 in
theorem PutU_any (a : Option Addr) (c x : Nat) (l : List UInt8) (w : World) (ht : Txt w a l) (hx : x < 18446744073709551616) (hb : l.length + 10 ≤ 140737488355328) :
    Calls Try.prog 18 #[.slice a l.length c, .int .u64 x] w fun e w' => ∃ v, e = .returned v ∧ w'.ownsRow w.heap.size 5 1 v (l ++ Lib.uvarint x).length (Lib.byteCells (l ++ Lib.uvarint x)) ∧ Below w.heap.size w w' := by
  obtain ⟨i0, hi, hz0, hz1, hz2⟩ := info_parts info_byte
  have hlen := Lib.uvarint_length64 hx
  have ht1 : Txt (w.alloc (.cells #[] 5)) a l := ht.below ((Below.refl _ _).alloc (Nat.le_refl _) _)
  go_enter Try.func18, Try.ntmps18
  go_wp2_with (at_builtin; refine wpList_append_txt _ rfl (.tmp 6) (.tmp 7) 25 rfl w.heap.size 5 i0 Try.underlying25 hi hz0 hz1 hz2 _ 0 [] rfl (own_empty w _ _ (Nat.le_refl _)) a c l rfl ht1 ?c1 ?c2 ?_)
  case c1 => omega
  case c2 => simp
  intro v1 w1 hown0 hgr0
  have hb1 : Below w.heap.size w w1 := ((Below.refl _ _).alloc (Nat.le_refl _) _).grown hgr0 (by simp) (by intro k hk; simp [Value.ownBlock] at hk; omega)
  clear hgr0 ht1
  go_wp2_with fail
  go_loopw [1, 5] (fun vx vb wr => ∃ (y : Nat) (pre : List UInt8), vx = .int .u64 y ∧ y ≤ x ∧ Lib.uvarint x = pre ++ Lib.uvarint y ∧ wr.ownsRow w.heap.size 5 1 vb (l.length + pre.length) (Lib.byteCells l ++ Lib.byteCells pre) ∧ Below w.heap.size w wr)
    (fun vx _ _ => (intOf vx).toNat)
  case atStart => exact ⟨x, [], rfl, Nat.le_refl _, rfl, by simpa [Lib.byteCells] using hown0, hb1⟩
  case round =>
    clear hown0 hb1
    obtain ⟨y, pre, rfl, hy, hsplit, hown1, hnx⟩ := hrel
    have hpl : pre.length + (Lib.uvarint y).length ≤ 10 := by
      have h2 := congrArg List.length hsplit
      rw [List.length_append] at h2
      omega
    have hyp := Lib.uvarint_pos y
    have HS := Lib.hid hsplit
    clear hsplit
    by_cases h128 : 128 ≤ y
    · go_wp2_with (at_builtin; refine wpList_append_own _ rfl _ _ 25 rfl w.heap.size 5 i0 (.int .u8 0) 1 1 Try.underlying25 hi hz0 hz1 hz2 rfl (by decide) _ _ _ rfl (hown1.alloc _) ⟨wr.heap.size, 0, none⟩ 1 1 [Value.int .u8 ((y : Int) % 128 + 128)] rfl rfl ?d1 ?d2 ?d3 ?d4 ?d5 ?_)
      case d1 =>
        intro j u hj
        match j, hj with
        | 0, hj => simp at hj; subst hj; simp [Addr.add]
      case d2 => intro u hu; simp at hu; subst hu; rfl
      case d3 => unfold maxLen; omega
      case d4 => omega
      case d5 => have := hnx.size; simp; omega
      intro v' w2 hown' hgrow _
      have hnx1 : Below w.heap.size w w2 := (hnx.alloc (by have := hnx.size; omega) _).grown hgrow (by have := hnx.size; simp; omega) (fun k hk => (hown1.lt k hk).1)
      go_wp2
      go_roundw
      case rel =>
        refine ⟨y / 128, pre ++ [(y % 128 + 128).toUInt8], by go_num, by omega, by rw [HS.out, Lib.uvarint_big h128]; simp, ?_, hnx1⟩
        have ec : ((y % 128 + 128 : Nat) : Int) = (y : Int) % 128 + 128 := by omega
        rw [Lib.byteCells_snoc pre (by omega), List.length_append, List.length_singleton, ← Nat.add_assoc, ec]
        exact hown'
      case measure => simp [intOf]; omega
    · have hsm : Lib.uvarint y = [y.toUInt8] := Lib.uvarint_small (by omega)
      have hsplit := HS.out
      go_wp2_with (at_builtin; refine wpList_append_own _ rfl _ _ 25 rfl w.heap.size 5 i0 (.int .u8 0) 1 1 Try.underlying25 hi hz0 hz1 hz2 rfl (by decide) _ _ _ rfl (hown1.alloc _) ⟨wr.heap.size, 0, none⟩ 1 1 [Value.int .u8 (y : Int)] rfl rfl ?d1 ?d2 ?d3 ?d4 ?d5 ?_)
      case d1 =>
        intro j u hj
        match j, hj with
        | 0, hj => simp at hj; subst hj; simp [Addr.add]
      case d2 => intro u hu; simp at hu; subst hu; rfl
      case d3 => unfold maxLen; omega
      case d4 => omega
      case d5 => have := hnx.size; simp; omega
      intro v' w2 hown' hgrow _
      have hnx1 : Below w.heap.size w w2 := (hnx.alloc (by have := hnx.size; omega) _).grown hgrow (by have := hnx.size; simp; omega) (fun k hk => (hown1.lt k hk).1)
      go_wp2
      go_ret
      refine ⟨v', rfl, ?_, hnx1⟩
      rw [hsplit, hsm, List.length_append, List.length_append, Lib.byteCells_append, Lib.byteCells_snoc pre (by omega), List.length_singleton, ← Nat.add_assoc]
      exact hown'

theorem PutU_gives (a : Option Addr) (c x : Nat) (l : List UInt8) (w : World) (ht : Txt w a l) (hx : x < 18446744073709551616) (hb : l.length + 10 ≤ 140737488355328) :
    Calls Try.prog 18 #[.slice a l.length c, .int .u64 x] w (Gives w (l ++ Lib.uvarint x)) := (PutU_any a c x l w ht hx hb).mono fun _ _ h => gives_of h

set_option maxHeartbeats 800000 in
theorem PutI_gives (a : Option Addr) (c : Nat) (v : Int) (l : List UInt8) (w : World) (ht : Txt w a l) (h0 : -9223372036854775808 ≤ v) (h1 : v ≤ 9223372036854775807) (hb : l.length + 10 ≤ 140737488355328) :
    Calls Try.prog 20 #[.slice a l.length c, .int .i64 v] w (Gives w (l ++ Lib.uvarint (Lib.zigzag v))) := by
  have hz := Lib.zigzag_lt h0 h1
  by_cases hv : 0 ≤ v
  · have e : (2 * v) = ((Lib.zigzag v : Nat) : Int) := by unfold Lib.zigzag; rw [if_pos hv]; omega
    have HE := Lib.hid e
    clear e
    go_enter Try.func20, Try.ntmps20
    go_wp2_with fail
    rw [HE.out]
    refine (PutU_gives a c _ l w ht hz hb).mono ?_
    rintro e w2 ⟨a2, c2, rfl, t2, l2, m2, hb2⟩
    go_wp2_with fail
    go_ret
    exact ⟨a2, c2, by rw [List.length_append]; rfl, t2, l2, m2, hb2⟩
  · have e : (2 * -(v + 1) + 1) = ((Lib.zigzag v : Nat) : Int) := by unfold Lib.zigzag; rw [if_neg hv]; omega
    have HE := Lib.hid e
    clear e
    go_enter Try.func20, Try.ntmps20
    go_wp2_with fail
    rw [HE.out]
    refine (PutU_gives a c _ l w ht hz hb).mono ?_
    rintro e w2 ⟨a2, c2, rfl, t2, l2, m2, hb2⟩
    go_wp2_with fail
    go_ret
    exact ⟨a2, c2, by rw [List.length_append]; rfl, t2, l2, m2, hb2⟩

set_option maxHeartbeats 800000 in
theorem PutS_gives (a : Option Addr) (c : Nat) (s : ByteArray) (l : List UInt8) (w : World) (ht : Txt w a l) (hb : l.length + 20 + s.size ≤ 140737488355328) :
    Calls Try.prog 22 #[.slice a l.length c, .string s] w (Gives w (l ++ Lib.uvarint s.size ++ s.data.toList)) := by
  obtain ⟨i0, hi, hz0, hz1, hz2⟩ := info_parts info_byte
  go_enter Try.func22, Try.ntmps22
  go_wp2_with fail
  refine (PutU_any a c s.size l w ht (by omega) (by omega)).mono ?_
  rintro e w2 ⟨v2, rfl, hown2, hb2⟩
  have hul := Lib.uvarint_length64 (x := s.size) (by omega)
  have hlen : (l ++ Lib.uvarint s.size).length ≤ l.length + 10 := by rw [List.length_append]; omega
  obtain ⟨L, hL⟩ : ∃ L, L = l ++ Lib.uvarint s.size := ⟨_, rfl⟩
  rw [← hL] at hown2 hlen
  have HL := Lib.hid hL
  clear hL
  go_wp2_with (at_builtin; refine Lib.wpList_append_own_string _ rfl _ _ 25 9 rfl w.heap.size 5 i0 Try.underlying25 Try.underlying9 hi hz0 hz1 hz2 _ _ _ rfl hown2 s rfl ?c1 ?c2 ?c3 ?_)
  case c1 => unfold maxLen; omega
  case c2 => omega
  case c3 => exact hb2.size
  intro v3 w3 hown3 hg3 _
  go_wp2
  go_ret
  refine gives_of ⟨v3, rfl, ?_, hb2.grown hg3 hb2.size (fun k hk => (hown2.lt k hk).1)⟩
  rw [Lib.strCells_eq] at hown3
  rw [← HL.out, List.length_append, Lib.byteCells_append]
  simpa using hown3

end Go.Proofs.Ythgcoeienbgmhaa
