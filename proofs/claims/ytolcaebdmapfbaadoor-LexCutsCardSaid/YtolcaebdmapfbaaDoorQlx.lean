/-
  What the document's own letter, digit, Kept, sign and number do.
-/
import Derived.Test.YtolcaebdmapfbaaDoorQnd
import Derived.Deep.QuietTactic
import Derived.BigQuiet
namespace Go.Proofs.YtolcaebdmapfbaaDoor
open Go Go.RowKit

set_option maxRecDepth 100000 in
theorem rLetter_any (c : Nat) (w : World) : Calls Tryd.prog 15 #[.int .u8 (c : Int)] w fun e w' => e = .returned (.bool (isL c)) ∧ w' = w := by
  unfold isL
  by_cases h1 : 97 ≤ c
  · by_cases h2 : c ≤ 122
    · rw [decide_eq_true h1, decide_eq_true h2]
      have i1 : decide ((97 : Int) ≤ (c : Int)) = true := by simp; omega
      have i2 : decide ((c : Int) ≤ 122) = true := by simp; omega
      go_enter Tryd.func15, Tryd.ntmps15
      go_wp2
      go_ret
      exact ⟨rfl, rfl⟩
    · rw [decide_eq_true h1, decide_eq_false h2]
      have i1 : decide ((97 : Int) ≤ (c : Int)) = true := by simp; omega
      have i2 : decide ((c : Int) ≤ 122) = false := by simp; omega
      go_enter Tryd.func15, Tryd.ntmps15
      go_wp2
      go_ret
      exact ⟨rfl, rfl⟩
  · rw [decide_eq_false h1]
    have i1 : decide ((97 : Int) ≤ (c : Int)) = false := by simp; omega
    go_enter Tryd.func15, Tryd.ntmps15
    go_wp2
    go_ret
    exact ⟨rfl, rfl⟩

set_option maxRecDepth 100000 in
theorem rDigit_any (c : Nat) (w : World) : Calls Tryd.prog 16 #[.int .u8 (c : Int)] w fun e w' => e = .returned (.bool (isD c)) ∧ w' = w := by
  unfold isD
  by_cases h1 : 48 ≤ c
  · by_cases h2 : c ≤ 57
    · rw [decide_eq_true h1, decide_eq_true h2]
      have i1 : decide ((48 : Int) ≤ (c : Int)) = true := by simp; omega
      have i2 : decide ((c : Int) ≤ 57) = true := by simp; omega
      go_enter Tryd.func16, Tryd.ntmps16
      go_wp2
      go_ret
      exact ⟨rfl, rfl⟩
    · rw [decide_eq_true h1, decide_eq_false h2]
      have i1 : decide ((48 : Int) ≤ (c : Int)) = true := by simp; omega
      have i2 : decide ((c : Int) ≤ 57) = false := by simp; omega
      go_enter Tryd.func16, Tryd.ntmps16
      go_wp2
      go_ret
      exact ⟨rfl, rfl⟩
  · rw [decide_eq_false h1]
    have i1 : decide ((48 : Int) ≤ (c : Int)) = false := by simp; omega
    go_enter Tryd.func16, Tryd.ntmps16
    go_wp2
    go_ret
    exact ⟨rfl, rfl⟩


def KB (i : Nat) : ByteArray := ⟨(KEPT.getD i []).toArray⟩
theorem KB_list (i : Nat) : (KB i).data.toList = KEPT.getD i [] := by simp [KB]
theorem kept_cell (i : Nat) (h : i < 21) : (#[.string ⟨#[110, 111, 100, 101]⟩, .string ⟨#[114, 101, 116, 117, 114, 110, 115]⟩, .string ⟨#[118, 97, 114]⟩, .string ⟨#[108, 101, 116]⟩, .string ⟨#[116, 101, 108]⟩, .string ⟨#[98, 111, 111, 108]⟩, .string ⟨#[105, 110, 116]⟩, .string ⟨#[116, 114, 117, 101]⟩, .string ⟨#[102, 97, 108, 115, 101]⟩, .string ⟨#[110, 111, 116]⟩, .string ⟨#[97, 110, 100]⟩, .string ⟨#[111, 114]⟩, .string ⟨#[120, 111, 114]⟩, .string ⟨#[109, 111, 100]⟩, .string ⟨#[105, 102]⟩, .string ⟨#[116, 104, 101, 110]⟩, .string ⟨#[101, 108, 115, 101]⟩, .string ⟨#[112, 114, 101]⟩, .string ⟨#[102, 98, 121]⟩, .string ⟨#[119, 104, 101, 110]⟩, .string ⟨#[109, 101, 114, 103, 101]⟩] : Array Value)[i]? = some (.string (KB i)) := by
  rcases (by omega : i = 0 ∨ i = 1 ∨ i = 2 ∨ i = 3 ∨ i = 4 ∨ i = 5 ∨ i = 6 ∨ i = 7 ∨ i = 8 ∨ i = 9 ∨ i = 10 ∨ i = 11 ∨ i = 12 ∨ i = 13 ∨ i = 14 ∨ i = 15 ∨ i = 16 ∨ i = 17 ∨ i = 18 ∨ i = 19 ∨ i = 20) with rfl | rfl | rfl | rfl | rfl | rfl | rfl | rfl | rfl | rfl | rfl | rfl | rfl | rfl | rfl | rfl | rfl | rfl | rfl | rfl | rfl <;> rfl
theorem kept_yes (s : ByteArray) (i : Nat) (h : i < 21) (e : KB i = s) : keptB s.data.toList = true := by
  unfold keptB
  rw [List.contains_iff_mem, ← e, KB_list]
  have hl : KEPT.length = 21 := rfl
  rw [List.getD_eq_getElem?_getD, List.getElem?_eq_getElem (by omega)]
  exact List.getElem_mem _
theorem kept_no (s : ByteArray) (h : ∀ i, i < 21 → KB i ≠ s) : keptB s.data.toList = false := by
  cases hk : keptB s.data.toList with
  | false => rfl
  | true =>
    exfalso
    unfold keptB at hk
    obtain ⟨i, hi, e⟩ := List.getElem_of_mem (List.contains_iff_mem.1 hk)
    have hl : KEPT.length = 21 := rfl
    refine h i (by omega) (bytes_inj ?_)
    rw [KB_list, List.getD_eq_getElem?_getD, List.getElem?_eq_getElem (by omega)]
    exact e
theorem ret_str {a b : ByteArray} (h : a = b) : Ending.returned (.string a) = .returned (.string b) := by rw [h]
theorem str_eq (a b : ByteArray) : (a.toList == b.toList) = true ↔ a = b := by
  rw [Lib.toList_data, Lib.toList_data]
  constructor
  · intro h; exact bytes_inj (by simpa using h)
  · rintro rfl; simp
theorem str_ne (a b : ByteArray) (h : a ≠ b) : (a.toList == b.toList) = false := by
  cases e : a.toList == b.toList with
  | false => rfl
  | true => exact absurd ((str_eq a b).1 e) h

set_option maxHeartbeats 4000000 in
set_option maxRecDepth 100000 in
theorem rKept_any (s : ByteArray) (w : World) : Calls Tryd.prog 11 #[.string s] w fun e w' => e = .returned (.bool (keptB s.data.toList)) ∧ Below w.heap.size w w' := by
  have hck : ∀ i, i < 21 → (w.alloc (.cells #[.string ⟨#[110, 111, 100, 101]⟩, .string ⟨#[114, 101, 116, 117, 114, 110, 115]⟩, .string ⟨#[118, 97, 114]⟩, .string ⟨#[108, 101, 116]⟩, .string ⟨#[116, 101, 108]⟩, .string ⟨#[98, 111, 111, 108]⟩, .string ⟨#[105, 110, 116]⟩, .string ⟨#[116, 114, 117, 101]⟩, .string ⟨#[102, 97, 108, 115, 101]⟩, .string ⟨#[110, 111, 116]⟩, .string ⟨#[97, 110, 100]⟩, .string ⟨#[111, 114]⟩, .string ⟨#[120, 111, 114]⟩, .string ⟨#[109, 111, 100]⟩, .string ⟨#[105, 102]⟩, .string ⟨#[116, 104, 101, 110]⟩, .string ⟨#[101, 108, 115, 101]⟩, .string ⟨#[112, 114, 101]⟩, .string ⟨#[102, 98, 121]⟩, .string ⟨#[119, 104, 101, 110]⟩, .string ⟨#[109, 101, 114, 103, 101]⟩] 9)).cell? ⟨w.heap.size, i, none⟩ = some (.string (KB i)) := fun i hi => by
    have h := heap_alloc_new w (.cells #[.string ⟨#[110, 111, 100, 101]⟩, .string ⟨#[114, 101, 116, 117, 114, 110, 115]⟩, .string ⟨#[118, 97, 114]⟩, .string ⟨#[108, 101, 116]⟩, .string ⟨#[116, 101, 108]⟩, .string ⟨#[98, 111, 111, 108]⟩, .string ⟨#[105, 110, 116]⟩, .string ⟨#[116, 114, 117, 101]⟩, .string ⟨#[102, 97, 108, 115, 101]⟩, .string ⟨#[110, 111, 116]⟩, .string ⟨#[97, 110, 100]⟩, .string ⟨#[111, 114]⟩, .string ⟨#[120, 111, 114]⟩, .string ⟨#[109, 111, 100]⟩, .string ⟨#[105, 102]⟩, .string ⟨#[116, 104, 101, 110]⟩, .string ⟨#[101, 108, 115, 101]⟩, .string ⟨#[112, 114, 101]⟩, .string ⟨#[102, 98, 121]⟩, .string ⟨#[119, 104, 101, 110]⟩, .string ⟨#[109, 101, 114, 103, 101]⟩] 9)
    simp only [World.cell?, h]
    exact kept_cell i hi
  have hbel : Below w.heap.size w (w.alloc (.cells #[.string ⟨#[110, 111, 100, 101]⟩, .string ⟨#[114, 101, 116, 117, 114, 110, 115]⟩, .string ⟨#[118, 97, 114]⟩, .string ⟨#[108, 101, 116]⟩, .string ⟨#[116, 101, 108]⟩, .string ⟨#[98, 111, 111, 108]⟩, .string ⟨#[105, 110, 116]⟩, .string ⟨#[116, 114, 117, 101]⟩, .string ⟨#[102, 97, 108, 115, 101]⟩, .string ⟨#[110, 111, 116]⟩, .string ⟨#[97, 110, 100]⟩, .string ⟨#[111, 114]⟩, .string ⟨#[120, 111, 114]⟩, .string ⟨#[109, 111, 100]⟩, .string ⟨#[105, 102]⟩, .string ⟨#[116, 104, 101, 110]⟩, .string ⟨#[101, 108, 115, 101]⟩, .string ⟨#[112, 114, 101]⟩, .string ⟨#[102, 98, 121]⟩, .string ⟨#[119, 104, 101, 110]⟩, .string ⟨#[109, 101, 114, 103, 101]⟩] 9)) := (Below.refl _ _).alloc (Nat.le_refl _) _
  have HC := Lib.hid hck
  have HB := Lib.hid hbel
  have HY := Lib.hid (kept_yes s)
  have HN := Lib.hid (kept_no s)
  clear hck hbel
  obtain ⟨b, hb⟩ : ∃ b, b = keptB s.data.toList := ⟨_, rfl⟩
  rw [← hb] at HY HN ⊢
  clear hb
  go_enter Tryd.func11, Tryd.ntmps11
  go_wp2
  generalize w.alloc (.cells #[.string ⟨#[110, 111, 100, 101]⟩, .string ⟨#[114, 101, 116, 117, 114, 110, 115]⟩, .string ⟨#[118, 97, 114]⟩, .string ⟨#[108, 101, 116]⟩, .string ⟨#[116, 101, 108]⟩, .string ⟨#[98, 111, 111, 108]⟩, .string ⟨#[105, 110, 116]⟩, .string ⟨#[116, 114, 117, 101]⟩, .string ⟨#[102, 97, 108, 115, 101]⟩, .string ⟨#[110, 111, 116]⟩, .string ⟨#[97, 110, 100]⟩, .string ⟨#[111, 114]⟩, .string ⟨#[120, 111, 114]⟩, .string ⟨#[109, 111, 100]⟩, .string ⟨#[105, 102]⟩, .string ⟨#[116, 104, 101, 110]⟩, .string ⟨#[101, 108, 115, 101]⟩, .string ⟨#[112, 114, 101]⟩, .string ⟨#[102, 98, 121]⟩, .string ⟨#[119, 104, 101, 110]⟩, .string ⟨#[109, 101, 114, 103, 101]⟩] 9) = w1 at HC HB ⊢
  go_loop [4] (fun vi => ∃ i : Nat, vi = .int .i64 (i : Int) ∧ i ≤ 21 ∧ ∀ j, j < i → KB j ≠ s) (fun vi => 21 - (intOf vi).toNat)
  case atStart => exact ⟨0, rfl, by omega, fun j hj => absurd hj (by omega)⟩
  case round =>
    obtain ⟨i, rfl, hi, hne⟩ := hrel
    have HNE := Lib.hid hne
    clear hne
    by_cases hlt : i < 21
    · have d1 : decide ((i : Int) < 21) = true := by simp; omega
      have hc := HC.out i hlt
      have i0 : (0 : Int) ≤ (i : Int) := by omega
      have i1 : (i : Int) < 21 := by omega
      by_cases he : KB i = s
      · obtain rfl := HY.out i hlt he
        have e1 := (str_eq (KB i) s).2 he
        obtain ⟨T, hT⟩ : ∃ T, T = KB i := ⟨_, rfl⟩
        rw [← hT] at e1 hc
        clear he hT
        go_wp2_with fail
        go_ret
        exact ⟨rfl, HB.out⟩
      · have e1 := str_ne (KB i) s he
        have HE := Lib.hid he
        clear he
        obtain ⟨T, hT⟩ : ∃ T, T = KB i := ⟨_, rfl⟩
        rw [← hT] at e1 hc
        have HT := Lib.hid hT
        clear hT
        go_wp2_with fail
        go_round
        case rel => exact ⟨i + 1, by go_num, by omega, fun j hj => by
          by_cases h : j = i
          · subst h; exact HE.out
          · exact HNE.out j (by omega)⟩
        case measure => simp [intOf]; omega
    · obtain rfl : i = 21 := by omega
      have d1 : decide (((21 : Nat) : Int) < 21) = false := by decide
      obtain rfl := HN.out HNE.out
      go_wp2_with fail
      go_ret
      exact ⟨rfl, HB.out⟩

/-- How long a sign a text begins with. -/
def signN (l : List UInt8) : Nat := if 1 < l.length ∧ TWO.contains (l.take 2) = true then 2 else if SIGNS.contains (l.headD 0) = true then 1 else 0
def TB (i : Nat) : ByteArray := ⟨(TWO.getD i []).toArray⟩
theorem TB_list (i : Nat) : (TB i).data.toList = TWO.getD i [] := by simp [TB]
theorem two_cell (i : Nat) (h : i < 4) : (#[.string ⟨#[60, 61]⟩, .string ⟨#[62, 61]⟩, .string ⟨#[60, 62]⟩, .string ⟨#[45, 62]⟩] : Array Value)[i]? = some (.string (TB i)) := by
  rcases (by omega : i = 0 ∨ i = 1 ∨ i = 2 ∨ i = 3) with rfl | rfl | rfl | rfl <;> rfl
theorem two_yes (s : ByteArray) (i : Nat) (h : i < 4) (h2 : 2 ≤ s.size) (e : s.extract 0 2 = TB i) : signN s.data.toList = 2 := by
  have hl : s.data.toList.length = s.size := by simp
  unfold signN
  rw [if_pos]
  refine ⟨by omega, ?_⟩
  have e2 := congrArg (fun x : ByteArray => x.data.toList) e
  simp only [Lib.extract_data, TB_list] at e2
  rw [List.contains_iff_mem, show s.data.toList.take 2 = (s.data.toList.drop 0).take (2 - 0) from rfl, e2]
  have h4 : TWO.length = 4 := rfl
  rw [List.getD_eq_getElem?_getD, List.getElem?_eq_getElem (by omega)]
  exact List.getElem_mem _
theorem two_no (s : ByteArray) (h : s.size < 2 ∨ ∀ i, i < 4 → s.extract 0 2 ≠ TB i) : signN s.data.toList = if SIGNS.contains (s.data.toList.headD 0) = true then 1 else 0 := by
  have hl : s.data.toList.length = s.size := by simp
  unfold signN
  rw [if_neg]
  rintro ⟨h1, hc⟩
  rcases h with h | h
  · omega
  · obtain ⟨i, hi, e⟩ := List.getElem_of_mem (List.contains_iff_mem.1 hc)
    have h4 : TWO.length = 4 := rfl
    refine h i (by omega) (bytes_inj ?_)
    rw [Lib.extract_data, TB_list, List.getD_eq_getElem?_getD, List.getElem?_eq_getElem (by omega)]
    exact e.symm
theorem run_index_one {P : Program} (W : World) {t : TypeId} (ht : P.underlying t = some .string) (k : Nat) (hk : k < 12) :
    (Instr.index t (.string ⟨#[40, 41, 58, 59, 44, 61, 43, 45, 42, 47, 60, 62]⟩) (.int .i64 (k : Int))).run P W = .ok (.int .u8 ((SIGNS.getD k 0).toNat : Int)) W := by
  rcases (by omega : k = 0 ∨ k = 1 ∨ k = 2 ∨ k = 3 ∨ k = 4 ∨ k = 5 ∨ k = 6 ∨ k = 7 ∨ k = 8 ∨ k = 9 ∨ k = 10 ∨ k = 11) with rfl | rfl | rfl | rfl | rfl | rfl | rfl | rfl | rfl | rfl | rfl | rfl <;>
    simp [Instr.index, asIntOf, Sem.run_bind, run_underlying ht, SIGNS] <;> rfl
theorem sign_yes (c : UInt8) (k : Nat) (hk : k < 12) (h : c = SIGNS.getD k 0) : SIGNS.contains c = true := by
  have h4 : SIGNS.length = 12 := rfl
  rw [List.contains_iff_mem, h, List.getD_eq_getElem?_getD, List.getElem?_eq_getElem (by omega)]
  exact List.getElem_mem _
theorem sign_no (c : UInt8) (h : ∀ k, k < 12 → c ≠ SIGNS.getD k 0) : SIGNS.contains c = false := by
  cases hc : SIGNS.contains c with
  | false => rfl
  | true =>
    exfalso
    obtain ⟨i, hi, e⟩ := List.getElem_of_mem (List.contains_iff_mem.1 hc)
    have h4 : SIGNS.length = 12 := rfl
    refine h i (by omega) ?_
    rw [List.getD_eq_getElem?_getD, List.getElem?_eq_getElem (by omega)]
    exact e.symm

set_option maxHeartbeats 4000000 in
set_option maxRecDepth 100000 in
theorem rSign_any (s : ByteArray) (w : World) (hs : s.size ≤ 140737488351232) (hs0 : 0 < s.size) : Calls Tryd.prog 18 #[.string s] w fun e w' => e = .returned (.string (s.extract 0 (signN s.data.toList))) ∧ Below w.heap.size w w' := by
  have hck : ∀ i, i < 4 → (w.alloc (.cells #[.string ⟨#[60, 61]⟩, .string ⟨#[62, 61]⟩, .string ⟨#[60, 62]⟩, .string ⟨#[45, 62]⟩] 9)).cell? ⟨w.heap.size, i, none⟩ = some (.string (TB i)) := fun i hi => by
    have h := heap_alloc_new w (.cells #[.string ⟨#[60, 61]⟩, .string ⟨#[62, 61]⟩, .string ⟨#[60, 62]⟩, .string ⟨#[45, 62]⟩] 9)
    simp only [World.cell?, h]
    exact two_cell i hi
  have hbel : Below w.heap.size w (w.alloc (.cells #[.string ⟨#[60, 61]⟩, .string ⟨#[62, 61]⟩, .string ⟨#[60, 62]⟩, .string ⟨#[45, 62]⟩] 9)) := (Below.refl _ _).alloc (Nat.le_refl _) _
  have hlt0 : w.heap.size < (w.alloc (.cells #[.string ⟨#[60, 61]⟩, .string ⟨#[62, 61]⟩, .string ⟨#[60, 62]⟩, .string ⟨#[45, 62]⟩] 9)).heap.size := by simp
  have hhd := head_get s hs0
  have HC := Lib.hid hck
  have HB := Lib.hid hbel
  have HY := Lib.hid (two_yes s)
  have HN := Lib.hid (two_no s)
  have HD := Lib.hid hhd
  have HL := Lib.hid hlt0
  clear hck hbel hhd hlt0
  obtain ⟨m, hm⟩ : ∃ m, m = signN s.data.toList := ⟨_, rfl⟩
  rw [← hm] at HY HN ⊢
  clear hm
  go_enter Tryd.func18, Tryd.ntmps18
  go_wp2
  generalize w.alloc (.cells #[.string ⟨#[60, 61]⟩, .string ⟨#[62, 61]⟩, .string ⟨#[60, 62]⟩, .string ⟨#[45, 62]⟩] 9) = w1 at HC HB HL ⊢
  go_loopw [4] (fun vi wr => ∃ i : Nat, vi = .int .i64 (i : Int) ∧ i ≤ 4 ∧ (s.size < 2 ∨ ∀ j, j < i → s.extract 0 2 ≠ TB j) ∧ Below w1.heap.size w1 wr) (fun vi _ => 4 - (intOf vi).toNat)
  case atStart => exact ⟨0, rfl, by omega, .inr (fun j hj => absurd hj (by omega)), Below.refl _ _⟩
  case round =>
    obtain ⟨i, rfl, hi, hne, hbr⟩ := hrel
    have HNE := Lib.hid hne
    have HBR := Lib.hid hbr
    clear hne hbr
    by_cases hlt : i < 4
    · have d1 : decide ((i : Int) < 4) = true := by simp; omega
      have hc := (HBR.out.cell (p := ⟨w.heap.size, i, none⟩) HL.out).trans (HC.out i hlt)
      have i0 : (0 : Int) ≤ (i : Int) := by omega
      have i1 : (i : Int) < 4 := by omega
      by_cases h2 : s.size < 2
      · have d2 : decide ((2 : Int) ≤ (s.size : Int)) = false := by simp; omega
        go_wp2_with fail
        go_quiet (fail)
        go_wp2_with fail
        refine ⟨⟨i + 1, by go_num, by omega, .inl h2, below_drewN HBR.out _⟩, ?_⟩
        simp [intOf]; omega
      · have d2 : decide ((2 : Int) ≤ (s.size : Int)) = true := by simp; omega
        have b2 : (2 : Int) ≤ (s.size : Int) := by omega
        by_cases he : s.extract 0 2 = TB i
        · obtain rfl := HY.out i hlt (by omega) he
          have e1 := (str_eq (s.extract 0 2) (TB i)).2 he
          have hr : s.extract 0 2 = TB i := he
          have HE := Lib.hid he
          clear he hr
          obtain ⟨T, hT⟩ : ∃ T, T = TB i := ⟨_, rfl⟩
          rw [← hT] at e1 hc HE
          clear hT
          go_wp2_with fail
          go_quiet (fail)
          go_wp2_with fail
          go_ret
          exact ⟨ret_str HE.out.symm, below_drewN (HB.out.trans (HBR.out.mono HB.out.size)) _⟩
        · have e1 := str_ne (s.extract 0 2) (TB i) he
          have HE := Lib.hid he
          clear he
          obtain ⟨T, hT⟩ : ∃ T, T = TB i := ⟨_, rfl⟩
          rw [← hT] at e1 hc
          have HT := Lib.hid hT
          clear hT
          go_wp2_with fail
          go_quiet (fail)
          go_wp2_with fail
          refine ⟨⟨i + 1, by go_num, by omega, .inr (fun j hj => ?_), below_drewN HBR.out _⟩, ?_⟩
          · by_cases h : j = i
            · subst h; exact HE.out
            · rcases HNE.out with h3 | h3
              · exact absurd h3 h2
              · exact h3 j (by omega)
          · simp [intOf]; omega
    · obtain rfl : i = 4 := by omega
      have d1 : decide (((4 : Nat) : Int) < 4) = false := by decide
      have hm := HN.out HNE.out
      rw [HD.out] at hm
      have HM := Lib.hid hm
      clear hm HNE HC
      obtain ⟨w2, hw2⟩ : ∃ w2 : World, w2 = wr := ⟨_, rfl⟩
      have HB2 := Lib.hid (HB.out.trans (HBR.out.mono HB.out.size))
      rw [← hw2] at HB2 ⊢
      clear HBR hw2
      have s0 : (0 : Int) < (s.size : Int) := by omega
      have ix0 : ∀ W, (Instr.index 9 (.string s) (.int .i64 0)).run Tryd.prog W = .ok (.int .u8 (s[0].toNat : Int)) W := fun W => by
        simp [Instr.index, asIntOf, Sem.run_bind, run_underlying Tryd.underlying9, hs0]
      go_wp2_with fail
      go_loopw [6] (fun vi wr => ∃ i : Nat, vi = .int .i64 (i : Int) ∧ i ≤ 12 ∧ (∀ j, j < i → s[0] ≠ SIGNS.getD j 0) ∧ Below w.heap.size w wr) (fun vi _ => 12 - (intOf vi).toNat)
      case atStart => exact ⟨0, rfl, by omega, fun j hj => absurd hj (by omega), HB2.out⟩
      case round =>
        obtain ⟨i, rfl, hi, hne, hbr⟩ := hrel
        have HNE := Lib.hid hne
        have HBR := Lib.hid hbr
        clear hne hbr
        by_cases hlt : i < 12
        · have d3 : decide ((i : Int) < 12) = true := by simp; omega
          have ixi : ∀ W, (Instr.index 9 (.string ⟨#[40, 41, 58, 59, 44, 61, 43, 45, 42, 47, 60, 62]⟩) (.int .i64 (i : Int))).run Tryd.prog W = .ok (.int .u8 ((SIGNS.getD i 0).toNat : Int)) W := fun W => run_index_one W Tryd.underlying9 i hlt
          by_cases he : s[0] = SIGNS.getD i 0
          · have e1 : ((s[0].toNat : Int) == ((SIGNS.getD i 0).toNat : Int)) = true := by rw [he]; simp
            have hmm := HM.out
            rw [if_pos (sign_yes _ i hlt he)] at hmm
            obtain rfl := hmm
            obtain ⟨c, hcc⟩ : ∃ c, c = (SIGNS.getD i 0).toNat := ⟨_, rfl⟩
            rw [← hcc] at e1 ixi
            obtain ⟨x, hx⟩ : ∃ x, x = s[0].toNat := ⟨_, rfl⟩
            rw [← hx] at e1 ix0
            clear he hcc hx HM
            go_wp2_with fail
            go_quiet (fail)
            go_wp2_with fail
            go_ret
            exact ⟨rfl, below_drewN HBR.out _⟩
          · have hne2 : s[0].toNat ≠ (SIGNS.getD i 0).toNat := fun h => he (UInt8.toNat_inj.1 h)
            have HE := Lib.hid he
            obtain ⟨c, hcc⟩ : ∃ c, c = (SIGNS.getD i 0).toNat := ⟨_, rfl⟩
            rw [← hcc] at hne2 ixi
            obtain ⟨x, hx⟩ : ∃ x, x = s[0].toNat := ⟨_, rfl⟩
            rw [← hx] at hne2 ix0
            have e1 : ((x : Int) == (c : Int)) = false := by simp; omega
            clear he hcc hx hne2
            go_wp2_with fail
            go_quiet (fail)
            go_wp2_with fail
            refine ⟨⟨i + 1, by go_num, by omega, fun j hj => ?_, below_drewN HBR.out _⟩, ?_⟩
            · by_cases h : j = i
              · subst h; exact HE.out
              · exact HNE.out j (by omega)
            · simp [intOf]; omega
        · obtain rfl : i = 12 := by omega
          have d3 : decide (((12 : Nat) : Int) < 12) = false := by decide
          have hmm := HM.out
          rw [if_neg (by rw [sign_no _ HNE.out]; decide)] at hmm
          obtain rfl := hmm
          clear HM
          have hx0 : s.extract 0 0 = ⟨#[]⟩ := extract_nil s 0
          have HX := Lib.hid hx0
          clear hx0
          go_wp2_with fail
          go_ret
          exact ⟨ret_str HX.out.symm, HBR.out⟩

/-- A number's digits. -/
theorem fold_take (s : ByteArray) (i : Nat) (h : i < s.size) : foldD 0 (s.data.toList.take (i + 1)) = 10 * foldD 0 (s.data.toList.take i) + (s[i].toNat - 48) := by
  have hl : s.data.toList.length = s.size := by simp
  rw [List.take_succ_eq_append_getElem (by omega), foldD_snoc]
  rfl
def okN (s : ByteArray) : Prop := ¬ (1 < s.size ∧ s.data.toList.headD 0 = 48) ∧ foldD 0 s.data.toList < 9223372036854775808
def GivesNum (s : ByteArray) (w : World) (e : Ending) (w' : World) : Prop := w' = w ∧ ∃ (x : Int) (b : Bool), e = .returned (.tuple #[.int .i64 x, .bool b]) ∧ (b = true ↔ okN s) ∧ (b = true → x = (foldD 0 s.data.toList : Int))
set_option maxHeartbeats 4000000 in
set_option maxRecDepth 100000 in
theorem rNumber_any (s : ByteArray) (w : World) (hs0 : 0 < s.size) (hs : s.size ≤ 140737488351232) (hd : ∀ c ∈ s.data.toList, isD c.toNat = true) : Calls Tryd.prog 17 #[.string s] w (GivesNum s w) := by
  have hl : s.data.toList.length = s.size := by simp
  have hhd := head_get s hs0
  have s0 : (0 : Int) < (s.size : Int) := by omega
  by_cases h1 : 1 < s.size ∧ s.data.toList.headD 0 = 48
  · have d1 : decide ((1 : Int) < (s.size : Int)) = true := by simp; omega
    have d2 : ((s[0].toNat : Int) == 48) = true := by rw [← hhd, h1.2]; decide
    have hno : ¬ okN s := fun h => h.1 h1
    have HNO := Lib.hid hno
    clear hl hhd h1 hd hno
    go_enter Tryd.func17, Tryd.ntmps17
    go_wp2_with fail
    go_ret2
    exact ⟨rfl, 0, false, rfl, ⟨fun h => (by cases h), fun h => absurd h HNO.out⟩, fun h => (by cases h)⟩
  · have hpart : ((1 < s.size) ∧ ((s[0].toNat : Int) == 48) = false) ∨ ¬ 1 < s.size := by
      by_cases h : 1 < s.size
      · refine .inl ⟨h, ?_⟩
        have h48 : s[0] ≠ 48 := fun e => h1 ⟨h, hhd.trans e⟩
        have : s[0].toNat ≠ 48 := fun e => h48 (UInt8.toNat_inj.1 e)
        simp; omega
      · exact .inr h
    have H1 := Lib.hid h1
    by_cases h19 : 19 < s.size
    · have hbig : ¬ foldD 0 s.data.toList < 9223372036854775808 := by
        obtain ⟨c, r, hcr⟩ := List.exists_cons_of_ne_nil (List.length_pos_iff.1 (by rw [hl]; exact hs0) : s.data.toList ≠ [])
        have hcd := (isD_iff _).1 (hd c (by rw [hcr]; simp))
        have hc48 : c ≠ 48 := fun e => h1 ⟨by omega, by rw [hcr]; exact e⟩
        have hc1 : 48 < c.toNat := by
          rcases Nat.lt_or_ge 48 c.toNat with h | h
          · exact h
          · exact absurd (UInt8.toNat_inj.1 (by rw [show UInt8.toNat 48 = 48 from rfl]; omega : c.toNat = UInt8.toNat 48)) hc48
        have lo := foldD_lo r (10 * 0 + (c.toNat - 48))
        rw [hcr] at hl ⊢
        rw [foldD_cons]
        have hp : 10 ^ 19 ≤ 10 ^ r.length := Nat.pow_le_pow_right (by decide) (by simp at hl; omega)
        have : 1 * 10 ^ 19 ≤ (10 * 0 + (c.toNat - 48)) * 10 ^ r.length := Nat.mul_le_mul (by omega) hp
        have e19 : (10 : Nat) ^ 19 = 10000000000000000000 := by decide
        omega
      have d1 : decide ((1 : Int) < (s.size : Int)) = true := by simp; omega
      have d3 : decide ((19 : Int) < (s.size : Int)) = true := by simp; omega
      obtain ⟨_, d2⟩ : 1 < s.size ∧ ((s[0].toNat : Int) == 48) = false := hpart.resolve_right (fun h => h (by omega))
      have hno : ¬ okN s := fun h => hbig h.2
      have HNO := Lib.hid hno
      clear hl hhd h1 hd hpart hbig hno
      go_enter Tryd.func17, Tryd.ntmps17
      go_wp2_with fail
      go_ret2
      exact ⟨rfl, 0, false, rfl, ⟨fun h => (by cases h), fun h => absurd h HNO.out⟩, fun h => (by cases h)⟩
    · have d3 : decide ((19 : Int) < (s.size : Int)) = false := by simp; omega
      have hstep := fold_take s
      have hdig : ∀ i (h : i < s.size), 48 ≤ s[i].toNat ∧ s[i].toNat ≤ 57 := fun i h => (isD_iff _).1 (hd _ (by rw [← bytes_get s i h]; exact List.getElem_mem _))
      have hub : ∀ i, i ≤ s.size → i ≤ 18 → foldD 0 (s.data.toList.take i) < 1000000000000000000 := fun i hi h18 => by
        have h := foldD_hi (s.data.toList.take i) 0 (fun c hc => hd c (List.mem_of_mem_take hc))
        rw [List.length_take, hl, Nat.min_eq_left hi] at h
        have hp : 10 ^ i ≤ 10 ^ 18 := Nat.pow_le_pow_right (by decide) h18
        have e18 : (10 : Nat) ^ 18 = 1000000000000000000 := by decide
        omega
      have hfull : s.data.toList.take s.size = s.data.toList := List.take_of_length_le (by omega)
      have HS := Lib.hid hstep
      have HDG := Lib.hid hdig
      have HU := Lib.hid hub
      obtain ⟨F, hF⟩ : ∃ F : Nat → Nat, F = fun i => foldD 0 (s.data.toList.take i) := ⟨_, rfl⟩
      have hFi : ∀ i, foldD 0 (s.data.toList.take i) = F i := fun i => by rw [hF]
      have hFf : foldD 0 s.data.toList = F s.size := by rw [hF]; simp only [hfull]
      simp only [hFi] at HS HU
      have hok : okN s ↔ F s.size < 9223372036854775808 := by
        unfold okN
        rw [hFf]
        exact ⟨fun h => h.2, fun h => ⟨h1, h⟩⟩
      have HOK := Lib.hid hok
      have HFF := Lib.hid hFf
      have hF0 : F 0 = 0 := by rw [hF]; rfl
      have HF0 := Lib.hid hF0
      have HP := Lib.hid hpart
      clear hl hhd h1 hd hstep hdig hub hfull hF hFi hFf hF0 hpart hok
      rcases HP.out with ⟨hp1, d2⟩ | hp1
      · have d1 : decide ((1 : Int) < (s.size : Int)) = true := by simp; omega
        go_enter Tryd.func17, Tryd.ntmps17
        go_wp2_with fail
        go_loop [4, 5] (fun vv vi => ∃ i : Nat, vi = .int .i64 (i : Int) ∧ i ≤ s.size ∧ vv = .int .u64 (F i : Int)) (fun _ vi => s.size - (intOf vi).toNat)
        case atStart => exact ⟨0, rfl, by omega, by rw [HF0.out]; rfl⟩
        case round =>
          obtain ⟨i, rfl, hi, rfl⟩ := hrel
          by_cases hlt : i < s.size
          · have d4 : decide ((i : Int) < (s.size : Int)) = true := by simp; omega
            obtain ⟨g1, g2⟩ := HDG.out i hlt
            have hf := HU.out i (by omega) (by omega)
            have hs1 := HS.out i hlt
            have hn : (F (i + 1) : Int) = 10 * (F i : Int) + ((s[i].toNat : Int) - 48) := by omega
            have HN := Lib.hid hn
            have i0 : (0 : Int) ≤ (i : Int) := by omega
            have i1 : (i : Int) < (s.size : Int) := by omega
            have c1 : (48 : Int) ≤ (s[i].toNat : Int) := by omega
            have c2 : (s[i].toNat : Int) ≤ 57 := by omega
            have f0 : (0 : Int) ≤ (F i : Int) := by omega
            have f1 : (F i : Int) < 1000000000000000000 := by omega
            clear hs1 hn hf
            go_wp2_with fail
            refine ⟨⟨i + 1, by go_num, by omega, ?_⟩, ?_⟩
            · rw [HN.out]
            · simp [intOf]; omega
          · obtain rfl : i = s.size := by omega
            have d4 : decide ((s.size : Int) < (s.size : Int)) = false := by simp
            by_cases hb : F s.size < 9223372036854775808
            · have f0 : (0 : Int) ≤ (F s.size : Int) := by omega
              have f1 : (F s.size : Int) < 9223372036854775808 := by omega
              have d5 : decide ((F s.size : Int) < 9223372036854775808) = true := by simp; omega
              have hbn := Lib.hid hb
              clear hb
              go_wp2_with fail
              go_ret2
              exact ⟨rfl, _, true, rfl, ⟨fun _ => HOK.out.2 hbn.out, fun _ => rfl⟩, fun _ => by rw [HFF.out]⟩
            · have d5 : decide ((F s.size : Int) < 9223372036854775808) = false := by simp; omega
              have hbn := Lib.hid hb
              clear hb
              go_wp2_with fail
              go_ret2
              exact ⟨rfl, _, false, rfl, ⟨fun h => (by cases h), fun h => absurd (HOK.out.1 h) hbn.out⟩, fun h => (by cases h)⟩
      · have d1 : decide ((1 : Int) < (s.size : Int)) = false := by simp; omega
        go_enter Tryd.func17, Tryd.ntmps17
        go_wp2_with fail
        go_loop [4, 5] (fun vv vi => ∃ i : Nat, vi = .int .i64 (i : Int) ∧ i ≤ s.size ∧ vv = .int .u64 (F i : Int)) (fun _ vi => s.size - (intOf vi).toNat)
        case atStart => exact ⟨0, rfl, by omega, by rw [HF0.out]; rfl⟩
        case round =>
          obtain ⟨i, rfl, hi, rfl⟩ := hrel
          by_cases hlt : i < s.size
          · have d4 : decide ((i : Int) < (s.size : Int)) = true := by simp; omega
            obtain ⟨g1, g2⟩ := HDG.out i hlt
            have hf := HU.out i (by omega) (by omega)
            have hs1 := HS.out i hlt
            have hn : (F (i + 1) : Int) = 10 * (F i : Int) + ((s[i].toNat : Int) - 48) := by omega
            have HN := Lib.hid hn
            have i0 : (0 : Int) ≤ (i : Int) := by omega
            have i1 : (i : Int) < (s.size : Int) := by omega
            have c1 : (48 : Int) ≤ (s[i].toNat : Int) := by omega
            have c2 : (s[i].toNat : Int) ≤ 57 := by omega
            have f0 : (0 : Int) ≤ (F i : Int) := by omega
            have f1 : (F i : Int) < 1000000000000000000 := by omega
            clear hs1 hn hf
            go_wp2_with fail
            refine ⟨⟨i + 1, by go_num, by omega, ?_⟩, ?_⟩
            · rw [HN.out]
            · simp [intOf]; omega
          · obtain rfl : i = s.size := by omega
            have d4 : decide ((s.size : Int) < (s.size : Int)) = false := by simp
            by_cases hb : F s.size < 9223372036854775808
            · have f0 : (0 : Int) ≤ (F s.size : Int) := by omega
              have f1 : (F s.size : Int) < 9223372036854775808 := by omega
              have d5 : decide ((F s.size : Int) < 9223372036854775808) = true := by simp; omega
              have hbn := Lib.hid hb
              clear hb
              go_wp2_with fail
              go_ret2
              exact ⟨rfl, _, true, rfl, ⟨fun _ => HOK.out.2 hbn.out, fun _ => rfl⟩, fun _ => by rw [HFF.out]⟩
            · have d5 : decide ((F s.size : Int) < 9223372036854775808) = false := by simp; omega
              have hbn := Lib.hid hb
              clear hb
              go_wp2_with fail
              go_ret2
              exact ⟨rfl, _, false, rfl, ⟨fun h => (by cases h), fun h => absurd (HOK.out.1 h) hbn.out⟩, fun h => (by cases h)⟩
end Go.Proofs.YtolcaebdmapfbaaDoor
