/-
  What package lex's numberOf and firstSign do.
-/
import Derived.Test.YtolcaebdmapfbaaDoorLwn
import Derived.Lib.SmallJoins
namespace Go.Proofs.YtolcaebdmapfbaaDoor
open Go Go.RowKit

/-- The library's two errors are there. -/
structure Errs (w : World) : Prop where
  syn : ∃ te pe, w.cell? ⟨1, 0, none⟩ = some (.iface te pe)
  range : ∃ te pe, w.cell? ⟨2, 0, none⟩ = some (.iface te pe)
theorem Errs.below {w w' : World} {B : Nat} (h : Errs w) (hb : Below B w w') (hB : w.heap.size ≤ B) : Errs w' := by
  obtain ⟨⟨t1, p1, h1⟩, ⟨t2, p2, h2⟩⟩ := h
  exact ⟨⟨t1, p1, (hb.cell (p := ⟨1, 0, none⟩) (Nat.lt_of_lt_of_le (World.block_lt_of_cell? w _ h1) hB)).trans h1⟩, ⟨t2, p2, (hb.cell (p := ⟨2, 0, none⟩) (Nat.lt_of_lt_of_le (World.block_lt_of_cell? w _ h2) hB)).trans h2⟩⟩

def numV (s : ByteArray) : Value :=
  if 1 < s.size ∧ s.data.toList.headD 0 = 48 then noWord else
  match Lib.parseIntB 64 s.data.toList with
  | .ok v => wordV 3 s v 0
  | _ => noWord

/-- What ParseInt answers, in one: a number and no error, or an error. -/
theorem parse_any (s : ByteArray) (w : World) (hs : s.size ≤ 140737488351232) (hE : Errs w) :
    Calls Tryd.prog 33 #[.string s, .int .i64 10, .int .i64 64] w fun e w' => Below w.heap.size w w' ∧ ((∃ v, Lib.parseIntB 64 s.data.toList = .ok v ∧ e = .returned (.tuple #[.int .i64 v, .nilIface])) ∨ ((∀ v, Lib.parseIntB 64 s.data.toList ≠ .ok v) ∧ ∃ x N, e = .returned (.tuple #[.int .i64 x, .iface 65 (.pointer (some ⟨N, 0, none⟩))]))) := by
  obtain ⟨⟨t1, p1, h1⟩, ⟨t2, p2, h2⟩⟩ := hE
  cases hp : Lib.parseIntB 64 s.data.toList
  case ok v =>
    refine (Tryd.strconv_ParseInt_10_at64_ok s (by omega) v hp w).mono ?_
    rintro e w' ⟨rfl, hw⟩
    refine ⟨?_, .inl ⟨v, rfl, rfl⟩⟩
    rcases hw with rfl | ⟨t, rfl⟩
    · exact Below.refl _ _
    · exact Go.Joins.below_bytesWorld _ _ _ _ (Nat.le_refl _)
  case range =>
    refine (Tryd.strconv_ParseInt_10_at64_range s (by omega) hp _ w h2 (.inr ⟨_, _, rfl⟩)).mono ?_
    rintro e w' ⟨N, rfl, _, _, hb⟩
    exact ⟨hb, .inr ⟨fun v => by simp, _, N, rfl⟩⟩
  · refine (Any.strconv_ParseInt_10_at64_syntax Tryd.laysC174 s (by omega) hp _ w h1 (.inr ⟨_, _, rfl⟩)).mono ?_
    rintro e w' ⟨N, rfl, _, _, hb⟩
    exact ⟨hb, .inr ⟨fun v => by simp, _, N, rfl⟩⟩

set_option maxHeartbeats 2000000 in
set_option maxRecDepth 100000 in
theorem numberOf_any (s : ByteArray) (w : World) (hs : s.size ≤ 140737488351232) (hs0 : 0 < s.size) (hE : Errs w) : Calls Tryd.prog 27 #[.string s] w (GivesWord w (numV s)) := by
  have hz := heap_alloc_new w (.cells #[.int .i64 0, .string ⟨#[]⟩, .int .i64 0, .int .i64 0] 35)
  have hb0 : Below w.heap.size w (w.alloc (.cells #[.int .i64 0, .string ⟨#[]⟩, .int .i64 0, .int .i64 0] 35)) := (Below.refl _ _).alloc (Nat.le_refl _) _
  have hE0 := hE.below hb0 (Nat.le_refl _)
  have hhd : s.data.toList.headD 0 = s[0] := by
    have h : 0 < s.data.toList.length := by simpa using hs0
    rw [List.headD_eq_head?_getD, List.head?_eq_getElem?, List.getElem?_eq_getElem h]
    rfl
  have hp := parse_any s _ hs hE0
  have H1 := Lib.hid hz
  have H2 := Lib.hid size_word
  have H3 := Lib.hid hb0
  have HP := Lib.hid hp
  clear hz hb0 hE0 hp hE
  have hlt := s[0].toNat_lt
  by_cases h1 : 1 < s.size ∧ s.data.toList.headD 0 = 48
  · have hv : numV s = noWord := by unfold numV; rw [if_pos h1]
    rw [hv]
    obtain ⟨h1, h2⟩ := h1
    rw [hhd] at h2
    have d1 : decide ((1 : Int) < (s.size : Int)) = true := by simp; omega
    have d2 : ((s[0].toNat : Int) == 48) = true := by rw [h2]; rfl
    clear hv hhd h2
    go_enter Tryd.func27, Tryd.ntmps27
    go_wp2_with (refine wpList_store_row rfl 35 (.tmp 2) (.tmp 13) rfl w.heap.size #[.int .i64 0, .string ⟨#[]⟩, .int .i64 0, .int .i64 0] rfl rfl 35 _ H1.out H2.out rfl (word_one _ _ _ _) ?_)
    exact bodyPost_ret (v := noWord) (results_cell_row (p := 2) (ty := 35) rfl _ _ w.heap.size 35 #[.int .i64 0, .string ⟨#[]⟩, .int .i64 0, .int .i64 0] (0, 0) _ rfl (setRow_heap _ w.heap.size _ _ _ _ H1.out) Tryd.underlying35 rfl H2.out) rfl ⟨rfl, below_setRow H3.out (Nat.le_refl _) _⟩
  · have hg : (1 < s.size ∧ (s[0].toNat : Int) ≠ 48) ∨ ¬ 1 < s.size := by
      by_cases h : 1 < s.size
      · refine .inl ⟨h, fun e => h1 ⟨h, ?_⟩⟩
        rw [hhd]
        have e' : s[0].toNat = 48 := by omega
        exact UInt8.toNat_inj.1 e'
      · exact .inr h
    have hnv : numV s = match Lib.parseIntB 64 s.data.toList with | .ok v => wordV 3 s v 0 | _ => noWord := by unfold numV; rw [if_neg h1]
    have HNV := Lib.hid hnv
    clear hnv hhd h1
    rcases hg with ⟨h1, h2⟩ | h1
    · have d1 : decide ((1 : Int) < (s.size : Int)) = true := by simp; omega
      have d2 : ((s[0].toNat : Int) == 48) = false := by simpa using h2
      clear h2
      go_enter Tryd.func27, Tryd.ntmps27
      go_wp2_with fail
      refine HP.out.mono ?_
      rintro e w2 ⟨hb2, ⟨v, hv, rfl⟩ | ⟨hn, x, N, rfl⟩⟩
      · have hval : numV s = wordV 3 s v 0 := by rw [HNV.out, hv]
        have HVAL := Lib.hid hval
        have hblk := (hb2.block w.heap.size (by simp)).trans H1.out
        have hbel : Below w.heap.size w w2 := H3.out.trans (hb2.mono H3.out.size)
        have HV := word_any 3 v s w2 (by omega)
        have H4 := Lib.hid hblk
        have H5 := Lib.hid hbel
        clear hblk hbel hb2 hv hval
        go_wp2_with fail
        refine HV.mono ?_
        rintro e w3 ⟨rfl, hb3⟩
        have hblk := (hb3.block w.heap.size (by have := H5.out.size; have := (Array.getElem?_eq_some_iff.1 H4.out).1; omega)).trans H4.out
        have hbel : Below w.heap.size w w3 := H5.out.trans (hb3.mono H5.out.size)
        have H6 := Lib.hid hblk
        have H7 := Lib.hid hbel
        clear hblk hbel hb3 HV
        unfold wordV
        go_wp2_with (refine wpList_store_row rfl 35 (.tmp 2) (.tmp 24) rfl w.heap.size #[.int .i64 3, .string s, .int .i64 v, .int .i64 0] rfl rfl 35 _ H6.out H2.out rfl (word_one _ _ _ _) ?_)
        exact bodyPost_ret (v := wordV 3 s v 0) (results_cell_row (p := 2) (ty := 35) rfl _ _ w.heap.size 35 #[.int .i64 3, .string s, .int .i64 v, .int .i64 0] (0, 0) _ rfl (setRow_heap w3 w.heap.size _ _ _ _ H6.out) Tryd.underlying35 rfl H2.out) rfl ⟨by rw [HVAL.out], below_setRow H7.out (Nat.le_refl _) _⟩
      · have hval : numV s = noWord := by
          rw [HNV.out]
          cases hq : Lib.parseIntB 64 s.data.toList
          case ok v => exact absurd hq (hn v)
          all_goals rfl
        have HVAL := Lib.hid hval
        have hblk := (hb2.block w.heap.size (by simp)).trans H1.out
        have hbel : Below w.heap.size w w2 := H3.out.trans (hb2.mono H3.out.size)
        have H4 := Lib.hid hblk
        have H5 := Lib.hid hbel
        clear hblk hbel hb2 hn hval
        go_wp2_with (refine wpList_store_row rfl 35 (.tmp 2) (.tmp 21) rfl w.heap.size #[.int .i64 0, .string ⟨#[]⟩, .int .i64 0, .int .i64 0] rfl rfl 35 _ H4.out H2.out rfl (word_one _ _ _ _) ?_)
        exact bodyPost_ret (v := noWord) (results_cell_row (p := 2) (ty := 35) rfl _ _ w.heap.size 35 #[.int .i64 0, .string ⟨#[]⟩, .int .i64 0, .int .i64 0] (0, 0) _ rfl (setRow_heap w2 w.heap.size _ _ _ _ H4.out) Tryd.underlying35 rfl H2.out) rfl ⟨by rw [HVAL.out], below_setRow H5.out (Nat.le_refl _) _⟩
    · have d1 : decide ((1 : Int) < (s.size : Int)) = false := by simp; omega
      go_enter Tryd.func27, Tryd.ntmps27
      go_wp2_with fail
      refine HP.out.mono ?_
      rintro e w2 ⟨hb2, ⟨v, hv, rfl⟩ | ⟨hn, x, N, rfl⟩⟩
      · have hval : numV s = wordV 3 s v 0 := by rw [HNV.out, hv]
        have HVAL := Lib.hid hval
        have hblk := (hb2.block w.heap.size (by simp)).trans H1.out
        have hbel : Below w.heap.size w w2 := H3.out.trans (hb2.mono H3.out.size)
        have HV := word_any 3 v s w2 (by omega)
        have H4 := Lib.hid hblk
        have H5 := Lib.hid hbel
        clear hblk hbel hb2 hv hval
        go_wp2_with fail
        refine HV.mono ?_
        rintro e w3 ⟨rfl, hb3⟩
        have hblk := (hb3.block w.heap.size (by have := H5.out.size; have := (Array.getElem?_eq_some_iff.1 H4.out).1; omega)).trans H4.out
        have hbel : Below w.heap.size w w3 := H5.out.trans (hb3.mono H5.out.size)
        have H6 := Lib.hid hblk
        have H7 := Lib.hid hbel
        clear hblk hbel hb3 HV
        unfold wordV
        go_wp2_with (refine wpList_store_row rfl 35 (.tmp 2) (.tmp 24) rfl w.heap.size #[.int .i64 3, .string s, .int .i64 v, .int .i64 0] rfl rfl 35 _ H6.out H2.out rfl (word_one _ _ _ _) ?_)
        exact bodyPost_ret (v := wordV 3 s v 0) (results_cell_row (p := 2) (ty := 35) rfl _ _ w.heap.size 35 #[.int .i64 3, .string s, .int .i64 v, .int .i64 0] (0, 0) _ rfl (setRow_heap w3 w.heap.size _ _ _ _ H6.out) Tryd.underlying35 rfl H2.out) rfl ⟨by rw [HVAL.out], below_setRow H7.out (Nat.le_refl _) _⟩
      · have hval : numV s = noWord := by
          rw [HNV.out]
          cases hq : Lib.parseIntB 64 s.data.toList
          case ok v => exact absurd hq (hn v)
          all_goals rfl
        have HVAL := Lib.hid hval
        have hblk := (hb2.block w.heap.size (by simp)).trans H1.out
        have hbel : Below w.heap.size w w2 := H3.out.trans (hb2.mono H3.out.size)
        have H4 := Lib.hid hblk
        have H5 := Lib.hid hbel
        clear hblk hbel hb2 hn hval
        go_wp2_with (refine wpList_store_row rfl 35 (.tmp 2) (.tmp 21) rfl w.heap.size #[.int .i64 0, .string ⟨#[]⟩, .int .i64 0, .int .i64 0] rfl rfl 35 _ H4.out H2.out rfl (word_one _ _ _ _) ?_)
        exact bodyPost_ret (v := noWord) (results_cell_row (p := 2) (ty := 35) rfl _ _ w.heap.size 35 #[.int .i64 0, .string ⟨#[]⟩, .int .i64 0, .int .i64 0] (0, 0) _ rfl (setRow_heap w2 w.heap.size _ _ _ _ H4.out) Tryd.underlying35 rfl H2.out) rfl ⟨by rw [HVAL.out], below_setRow H5.out (Nat.le_refl _) _⟩
end Go.Proofs.YtolcaebdmapfbaaDoor
