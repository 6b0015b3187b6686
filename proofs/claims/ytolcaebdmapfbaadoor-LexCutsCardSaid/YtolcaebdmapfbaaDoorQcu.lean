/-
  What the document's own Cut does.
-/
import Derived.Test.YtolcaebdmapfbaaDoorQlx
import Derived.Test.YtolcaebdmapfbaaDoorLaw
import Derived.Test.YtolcaebdmapfbaaDoorQbw
import Derived.Deep.DeepCutAuto
import Derived.Deep.CutBlock
namespace Go.Proofs.YtolcaebdmapfbaaDoor
open Go Go.RowKit

theorem info_rword : (Tryd.prog.info? 36).map (fun i => (i.zero, i.size, i.bytes)) = some (some (.agg #[.int .i64 0, .string ⟨#[]⟩, .int .i64 0, .int .i64 0]), 4, 40) := by kernel_rfl
theorem size_bad : (Tryd.prog.info? 30).map (·.size) = some 2 := by kernel_rfl
theorem size_rword : (Tryd.prog.info? 36).map (·.size) = some 4 := by kernel_rfl
def GivesRCut (s : ByteArray) (w : World) (e : Ending) (w' : World) : Prop :=
  Below w.heap.size w w' ∧ match cutAll s.data.toList with
  | .error (err, p) => e = .returned (.tuple #[.slice none 0 0, .agg #[.int .i64 (err : Int), .int .i64 (p : Int)]])
  | .ok l => ∃ v, e = .returned (.tuple #[v, .agg #[.int .i64 0, .int .i64 0]]) ∧ w'.ownsRow w.heap.size 36 4 v l.length (wordsC s l)

theorem blank_iff (c : UInt8) : BLANKS.contains c = true ↔ (c.toNat = 32 ∨ c.toNat = 9 ∨ c.toNat = 10 ∨ c.toNat = 13) := by
  constructor
  · intro hb
    simp only [BLANKS, List.contains_cons, List.contains_nil, Bool.or_false, Bool.or_eq_true, beq_iff_eq] at hb
    rcases hb with h | h | h | h <;> rw [h] <;> decide
  · rintro (h | h | h | h)
    · obtain rfl : c = 32 := UInt8.toNat_inj.1 h
      decide
    · obtain rfl : c = 9 := UInt8.toNat_inj.1 h
      decide
    · obtain rfl : c = 10 := UInt8.toNat_inj.1 h
      decide
    · obtain rfl : c = 13 := UInt8.toNat_inj.1 h
      decide
theorem idx_str (s : ByteArray) (j : Nat) (h : j < s.size) (W : World) : (Instr.index 9 (.string s) (.int .i64 (j : Int))).run Tryd.prog W = .ok (.int .u8 (s[j].toNat : Int)) W := by
  simp [Instr.index, asIntOf, Sem.run_bind, run_underlying Tryd.underlying9, h]
theorem sl_str (s : ByteArray) (i j : Nat) (hij : i ≤ j) (hj : j ≤ s.size) (z : Int) (hz : z = (j : Int)) (W : World) : (Instr.slice 9 (.string s) (some (.int .i64 (i : Int))) (some (.int .i64 z)) none).run Tryd.prog W = .ok (.string (s.extract i j)) W := by
  subst hz
  have h := run_slice_string (P := Tryd.prog) W 9 s .i64 .i64 (i : Int) (j : Int) Tryd.underlying9 (by omega) (by omega) (by omega)
  simpa using h
theorem firstW_dig (l : List UInt8) (hl : l ≠ []) (a : ¬ isL (l.headD 0).toNat = true) (b : isD (l.headD 0).toNat = true) :
    firstW l = if ¬ (1 < runLen isD l ∧ l.headD 0 = 48) ∧ foldD 0 (l.take (runLen isD l)) < 9223372036854775808 then (3, runLen isD l, (foldD 0 (l.take (runLen isD l)) : Int)) else (0, 0, 0) := by
  have p := runLen_pos isD l (List.length_pos_iff.2 hl) b
  have hle := runLen_le isD l
  have hne : l.take (runLen isD l) ≠ [] := fun h => by have := congrArg List.length h; rw [List.length_take, List.length_nil] at this; omega
  have hp := parse_digits (l.take (runLen isD l)) hne (runLen_all isD l)
  unfold firstW
  rw [if_neg a, if_pos b, hp]
  by_cases h1 : 1 < runLen isD l ∧ l.headD 0 = 48
  · rw [if_pos h1, if_neg (fun h => h.1 h1)]
  · rw [if_neg h1]
    by_cases h2 : foldD 0 (l.take (runLen isD l)) < 9223372036854775808
    · rw [if_pos h2, if_pos ⟨h1, h2⟩]
    · rw [if_neg h2, if_neg (fun h => h2 h.2)]
theorem firstW_sgn (l : List UInt8) (a : ¬ isL (l.headD 0).toNat = true) (b : ¬ isD (l.headD 0).toNat = true) : firstW l = if signN l = 0 then (0, 0, 0) else (4, signN l, 0) := by
  unfold firstW signN
  rw [if_neg a, if_neg b]
  by_cases h : 1 < l.length ∧ TWO.contains (l.take 2) = true
  · rw [if_pos h, if_pos h, if_neg (by decide)]
  · rw [if_neg h, if_neg h]
    by_cases h2 : SIGNS.contains (l.headD 0) = true
    · rw [if_pos h2, if_pos h2, if_neg (by decide)]
    · rw [if_neg h2, if_neg h2, if_pos rfl]
theorem signN_le (l : List UInt8) (h : 0 < l.length) : signN l ≤ l.length := by
  unfold signN
  split
  · omega
  · split <;> omega
/-- What the choice among the kinds of words leaves: n, whether all is well, the word's cells. -/
def Chosen (k : Nat) (x : Nat × Nat × Int) (G : Nat) (w0 : World) (v7 v9 : Value) (wx : World) : Prop :=
  Below G w0 wx ∧ ((x.1 ≠ 0 ∧ v7 = .int .i64 (x.2.1 : Int) ∧ v9 = .bool true ∧ wx.heap[G]? = some (.cells #[.int .i64 (x.1 : Int), .string ⟨#[]⟩, .int .i64 x.2.2, .int .i64 (k : Int)] 36 (0, 0))) ∨ (x.1 = 0 ∧ v9 = .bool false))

/-- From a place on, what stands ahead of the first word left out. -/
def cutG (f k : Nat) (D : List UInt8) : Except Nat (List (Nat × Nat × Int × Nat)) := cutF f (D.drop (k + gapL (D.drop k))) (k + gapL (D.drop k))
theorem cutG_blank (f k : Nat) (D : List UInt8) (c : UInt8) (r : List UInt8) (h : D.drop k = c :: r) (hb : BLANKS.contains c = true) : cutG f k D = cutG f (k + 1) D := by
  have h1 : D.drop (k + 1) = r := by rw [← List.drop_drop, h]; rfl
  unfold cutG
  rw [h, h1, gapL_blank c r hb, show k + (1 + gapL r) = k + 1 + gapL r by omega]
theorem cutG_remark (f k : Nat) (D : List UInt8) (h : Lib.hasPrefix (D.drop k) [45, 45] = true) : cutG f k D = cutG f (k + lineN (D.drop k)) D := by
  unfold cutG
  have e := (gapL_remark (D.drop k) h).1
  rw [List.drop_drop] at e
  rw [e, show k + (lineN (D.drop k) + gapL (D.drop (k + lineN (D.drop k)))) = k + lineN (D.drop k) + gapL (D.drop (k + lineN (D.drop k))) by omega]
theorem cutG_word (f k : Nat) (D : List UInt8) (c : UInt8) (r : List UInt8) (h : D.drop k = c :: r) (hb : ¬ BLANKS.contains c = true) (hr : Lib.hasPrefix (D.drop k) [45, 45] = false) : cutG f k D = cutF f (D.drop k) k := by
  unfold cutG
  rw [h] at hr ⊢
  rw [gapL_none c r hb hr, Nat.add_zero, h]
theorem cutG_go (f k : Nat) (D : List UInt8) (d : List (Nat × Nat × Int × Nat)) (h : D.drop k ≠ []) (h0 : (firstW (D.drop k)).1 ≠ 0) :
    ahead d (cutF (f + 1) (D.drop k) k) = ahead (d ++ [((firstW (D.drop k)).1, (firstW (D.drop k)).2.1, (firstW (D.drop k)).2.2, k)]) (cutG f (k + (firstW (D.drop k)).2.1) D) := by
  rw [cutF_go f k _ d h h0]
  unfold cutG
  simp only [List.drop_drop, Nat.add_assoc]
theorem line_in : ∀ (l : List UInt8) (m : Nat) (h : m < l.length), m < lineN l → l[m] ≠ 10
  | [], m, h, _ => by simp at h
  | c :: r, m, h, hm => by
    by_cases hc : c = 10
    · subst hc; simp [lineN] at hm
    · rw [lineN_cons c r hc] at hm
      cases m with
      | zero => exact hc
      | succ m => exact line_in r m (by simpa using h) (by omega)
theorem line_out : ∀ (l : List UInt8) (h : lineN l < l.length), l[lineN l] = 10
  | [], h => by simp at h
  | c :: r, h => by
    by_cases hc : c = 10
    · subst hc; simp [lineN]
    · have e := lineN_cons c r hc
      have h2 : lineN r < r.length := by rw [e] at h; simpa using h
      have := line_out r h2
      simp only [e, List.getElem_cons_succ]
      exact this

set_option maxHeartbeats 8000000 in
set_option maxRecDepth 100000 in
theorem rCut_any (s : ByteArray) (w : World) (hs : s.size ≤ 140737488351232) : Calls Tryd.prog 8 #[.string s] w (GivesRCut s w) := by
  have hlen : s.data.toList.length = s.size := by simp
  obtain ⟨i0, hi0, hz0, hz1, hz2⟩ := info_parts info_rword
  have hblk := heap_alloc_new w (.cells #[.int .i64 0, .int .i64 0] 30)
  have hbel : Below w.heap.size w (w.alloc (.cells #[.int .i64 0, .int .i64 0] 30)) := (Below.refl _ _).alloc (Nat.le_refl _) _
  have B0 := Lib.hid hblk
  have B1 := Lib.hid hbel
  have HF := Lib.hid size_bad
  have HWs := Lib.hid size_rword
  clear hblk hbel
  by_cases hbig : 16384 < s.size
  · have hc : cutAll s.data.toList = .error (2, s.size) := by unfold cutAll; rw [hlen, if_pos hbig]
    have HC := Lib.hid hc
    have d1 : decide ((16384 : Int) < (s.size : Int)) = true := by simp; omega
    clear hc hlen
    go_enter Tryd.func8, Tryd.ntmps8
    go_wp2_with (refine wpList_store_row rfl 30 (.tmp 3) (.tmp 15) rfl w.heap.size #[.int .i64 2, .int .i64 (s.size : Int)] rfl rfl 30 _ B0.out HF.out rfl (fault_one _ _) ?_)
    refine bodyPost_ret (v := .tuple #[.slice none 0 0, .agg #[.int .i64 2, .int .i64 (s.size : Int)]]) (results_tmp_cell (q := 2) (p := 3) (ty := 30) rfl _ _ w.heap.size 30 #[.int .i64 2, .int .i64 (s.size : Int)] (0, 0) _ rfl (setRow_heap _ w.heap.size _ _ _ _ B0.out) Tryd.underlying30 rfl HF.out) rfl ⟨below_setRow B1.out (Nat.le_refl _) _, ?_⟩
    rw [HC.out]
    rfl
  · have d1 : decide ((16384 : Int) < (s.size : Int)) = false := by simp; omega
    have hcut : cutAll s.data.toList = match cut1 s.data.toList with | .error p => .error (7, p) | .ok t => .ok t := by unfold cutAll; rw [hlen, if_neg hbig]; rfl
    have hc1 : cut1 s.data.toList = cutG (s.size + 1) 0 s.data.toList := by unfold cut1 cutG; rw [hlen, List.drop_zero, Nat.zero_add]
    obtain ⟨R, hR⟩ : ∃ R, R = cut1 s.data.toList := ⟨_, rfl⟩
    rw [← hR] at hcut hc1
    have HCUT := Lib.hid hcut
    have HC1 := Lib.hid hc1
    have HLEN := Lib.hid hlen
    have hmk : ∀ W, (Instr.makeSlice 29 (.int .i64 0) (.int .i64 0)).run Tryd.prog W = .ok (.slice (some ⟨W.heap.size, 0, none⟩) 0 0) (W.alloc (.cells #[] 36)) := fun W => by kernel_rfl
    clear hcut hc1 hR hlen
    go_enter Tryd.func8, Tryd.ntmps8
    go_wp2
    have hbl0 : ((w.alloc (.cells #[.int .i64 0, .int .i64 0] 30)).alloc (.cells #[] 36)).heap[w.heap.size]? = some (.cells #[.int .i64 0, .int .i64 0] 30 (0, 0)) := by
      rw [Below.heap_alloc _ _ _ (by simp)]; exact B0.out
    have hbe0 : Below w.heap.size w ((w.alloc (.cells #[.int .i64 0, .int .i64 0] 30)).alloc (.cells #[] 36)) := B1.out.alloc B1.out.size _
    have how0 : ((w.alloc (.cells #[.int .i64 0, .int .i64 0] 30)).alloc (.cells #[] 36)).ownsRow (w.heap.size + 1) 36 4 (.slice (some ⟨w.heap.size + 1, 0, none⟩) 0 0) 0 [] := by
      have h := heap_alloc_new (w.alloc (.cells #[.int .i64 0, .int .i64 0] 30)) (.cells #[] 36)
      rw [show (w.alloc (.cells #[.int .i64 0, .int .i64 0] 30)).heap.size = w.heap.size + 1 by simp] at h
      exact ⟨rfl, .inr ⟨w.heap.size + 1, 0, #[], rfl, Nat.le_refl _, h, Nat.le_refl _, by unfold maxLen; omega, rfl, rfl⟩⟩
    have K0 := Lib.hid hbl0
    have K1 := Lib.hid hbe0
    have K2 := Lib.hid how0
    clear hbl0 hbe0 how0 hmk
    generalize (w.alloc (.cells #[.int .i64 0, .int .i64 0] 30)).alloc (.cells #[] 36) = w0 at K0 K1 K2 ⊢
    go_loopw [4, 5] (fun vl va wr => ∃ (V : Value) (k : Nat) (d : List (Nat × Nat × Int × Nat)) (f : Nat), V = vl ∧ va = .int .i64 (k : Int) ∧ k ≤ s.size ∧ d.length ≤ k ∧ s.size < k + f ∧ R = ahead d (cutG f k s.data.toList) ∧ wr.ownsRow (w.heap.size + 1) 36 4 V d.length (wordsC s d) ∧ Below w.heap.size w wr ∧ wr.heap[w.heap.size]? = some (.cells #[.int .i64 0, .int .i64 0] 30 (0, 0)))
      (fun _ va _ => s.size - (intOf va).toNat)
    case atStart => exact ⟨_, 0, [], s.size + 1, rfl, rfl, Nat.zero_le _, Nat.zero_le _, by omega, by rw [ahead_nil]; exact HC1.out, K2.out, K1.out, K0.out⟩
    case round =>
      obtain ⟨V, k, d, f, hV, rfl, hk, hdk, hf, hRk, hown, hbel, hblk⟩ := hrel
      subst hV
      clear B0 B1 HC1 K0 K1 K2
      have HRK := Lib.hid hRk
      have HO := Lib.hid hown
      have HB := Lib.hid hbel
      have HBK := Lib.hid hblk
      clear hRk hown hbel hblk
      by_cases hlt : k < s.size
      · have d2 : decide ((k : Int) < (s.size : Int)) = true := by simp; omega
        have hget : s.data.toList.drop k = s[k] :: s.data.toList.drop (k + 1) := by rw [List.drop_eq_getElem_cons (by rw [HLEN.out]; exact hlt)]; rfl
        have HGET := Lib.hid hget
        clear hget
        have k0 : (0 : Int) ≤ (k : Int) := by omega
        have k1 : (k : Int) < (s.size : Int) := by omega
        by_cases hb : BLANKS.contains s[k] = true
--STUB        · sorry
        · as_aux_lemma =>
            have hnext := cutG_blank f k s.data.toList _ _ HGET.out hb
            have HX := Lib.hid (HRK.out.trans (by rw [hnext]))
            have hb4 : s[k].toNat = 32 ∨ s[k].toNat = 9 ∨ s[k].toNat = 10 ∨ s[k].toNat = 13 := by
              simp only [BLANKS, List.contains_cons, List.contains_nil, Bool.or_false, Bool.or_eq_true, beq_iff_eq] at hb
              rcases hb with h | h | h | h <;> rw [h] <;> decide
            obtain ⟨c, hc⟩ : ∃ c, c = s[k].toNat := ⟨_, rfl⟩
            have ixk : ∀ W, (Instr.index 9 (.string s) (.int .i64 (k : Int))).run Tryd.prog W = .ok (.int .u8 (c : Int)) W := fun W => by
              simp [Instr.index, asIntOf, Sem.run_bind, run_underlying Tryd.underlying9, hlt, hc]
            rw [← hc] at hb4
            clear hnext hc hb
            rcases hb4 with rfl | rfl | rfl | rfl
            all_goals
              go_wp2_with fail
              refine ⟨⟨V, k + 1, d, f, rfl, by go_num, by omega, by omega, by omega, HX.out, HO.out, HB.out, HBK.out⟩, ?_⟩
              simp [intOf]; omega
--END
        · have hx0 : Lib.hasPrefix (s.data.toList.drop k) [45, 45] = true ∨ Lib.hasPrefix (s.data.toList.drop k) [45, 45] = false := by cases Lib.hasPrefix (s.data.toList.drop k) [45, 45] <;> simp
          have hne4 : s[k].toNat ≠ 32 ∧ s[k].toNat ≠ 9 ∧ s[k].toNat ≠ 10 ∧ s[k].toNat ≠ 13 := by
            have h : ¬ (s[k].toNat = 32 ∨ s[k].toNat = 9 ∨ s[k].toNat = 10 ∨ s[k].toNat = 13) := fun x => hb ((blank_iff _).2 x)
            omega
          have hpre : Lib.hasPrefix (s.data.toList.drop k) [45, 45] = true ↔ s[k].toNat = 45 ∧ ∃ h : k + 1 < s.size, s[k + 1].toNat = 45 := by
            rw [HGET.out]
            by_cases h1 : k + 1 < s.size
            · have e : s.data.toList.drop (k + 1) = s[k + 1] :: s.data.toList.drop (k + 1 + 1) := by rw [List.drop_eq_getElem_cons (by rw [HLEN.out]; exact h1)]; rfl
              rw [e]
              unfold Lib.hasPrefix
              simp only [List.isPrefixOf, Bool.and_true, Bool.and_eq_true, beq_iff_eq]
              constructor
              · rintro ⟨h2, h3⟩
                exact ⟨by rw [← h2]; rfl, h1, by rw [← h3]; rfl⟩
              · rintro ⟨h2, _, h3⟩
                exact ⟨(UInt8.toNat_inj.1 (h2.trans (show (45 : Nat) = UInt8.toNat 45 from rfl))).symm, (UInt8.toNat_inj.1 (h3.trans (show (45 : Nat) = UInt8.toNat 45 from rfl))).symm⟩
            · have e : s.data.toList.drop (k + 1) = [] := List.drop_of_length_le (by rw [HLEN.out]; omega)
              rw [e]
              unfold Lib.hasPrefix
              simp only [List.isPrefixOf, Bool.and_false]
              exact ⟨fun h => (by cases h), fun h => absurd h.2.1 h1⟩
          obtain ⟨q, hq⟩ : ∃ q, q = Lib.hasPrefix (s.data.toList.drop k) [45, 45] := ⟨_, rfl⟩
          rw [← hq] at hpre hx0
          obtain ⟨c, hc⟩ : ∃ c, c = s[k].toNat := ⟨_, rfl⟩
          have ixk : ∀ W, (Instr.index 9 (.string s) (.int .i64 (k : Int))).run Tryd.prog W = .ok (.int .u8 (c : Int)) W := fun W => by
            simp [Instr.index, asIntOf, Sem.run_bind, run_underlying Tryd.underlying9, hlt, hc]
          rw [← hc] at hpre hne4
          have n1 : ((c : Int) == 32) = false := by simp; omega
          have n2 : ((c : Int) == 9) = false := by simp; omega
          have n3 : ((c : Int) == 10) = false := by simp; omega
          have n4 : ((c : Int) == 13) = false := by simp; omega
          have HQ := Lib.hid hq
          have HC := Lib.hid hc
          have HP := Lib.hid hpre
          have HNB := Lib.hid hb
          clear hq hc hpre hb hne4 hx0
          go_upto_region 9 with fail
          go_cut [55] (fun v wx => v = .bool q ∧ wx = wr)
          case first =>
            by_cases e45 : c = 45
            · subst e45
              by_cases h1 : k + 1 < s.size
              · have d5 : decide ((k : Int) + 1 < (s.size : Int)) = true := by simp; omega
                have ixn : ∀ W, (Instr.index 9 (.string s) (.int .i64 ((k : Int) + 1))).run Tryd.prog W = .ok (.int .u8 (s[k + 1].toNat : Int)) W := fun W => by
                  have h := idx_str s (k + 1) h1 W
                  rw [show ((k + 1 : Nat) : Int) = (k : Int) + 1 by omega] at h
                  exact h
                by_cases e2 : s[k + 1].toNat = 45
                · have e3 : ((s[k + 1].toNat : Int) == 45) = true := by rw [e2]; decide
                  obtain rfl : q = true := HP.out.2 ⟨rfl, h1, e2⟩
                  clear e2
                  go_wp2_with fail
                  go_meet
                  exact ⟨rfl, rfl⟩
                · have e3 : ((s[k + 1].toNat : Int) == 45) = false := by simp; omega
                  obtain rfl : q = false := by
                    cases q with
                    | false => rfl
                    | true => exact absurd (HP.out.1 rfl).2.2 e2
                  clear e2
                  go_wp2_with fail
                  go_meet
                  exact ⟨rfl, rfl⟩
              · have d5 : decide ((k : Int) + 1 < (s.size : Int)) = false := by simp; omega
                obtain rfl : q = false := by
                  cases q with
                  | false => rfl
                  | true => exact absurd (HP.out.1 rfl).2.1 h1
                go_wp2_with fail
                go_meet
                exact ⟨rfl, rfl⟩
            · have n5 : ((c : Int) == 45) = false := by simp; omega
              obtain rfl : q = false := by
                cases q with
                | false => rfl
                | true => exact absurd (HP.out.1 rfl).1 e45
              go_wp2_with fail
              go_meet
              exact ⟨rfl, rfl⟩
          case rest =>
            obtain ⟨rfl, rfl⟩ := hcut
            cases q with
            | true =>
--STUB              sorry
              as_aux_lemma =>
                have hpx : Lib.hasPrefix (s.data.toList.drop k) [45, 45] = true := HQ.out.symm
                obtain ⟨N, hN⟩ : ∃ N, N = lineN (s.data.toList.drop k) := ⟨_, rfl⟩
                have hnext := cutG_remark f k s.data.toList hpx
                have h2 := (gapL_remark _ hpx).2
                have hle := lineN_le (s.data.toList.drop k)
                rw [List.length_drop, HLEN.out] at hle
                have hin : ∀ m (h : k + m < s.size), m < N → s[k + m].toNat ≠ 10 := fun m h hm e => by
                  rw [hN] at hm
                  have h3 := line_in (s.data.toList.drop k) m (by rw [List.length_drop, HLEN.out]; omega) hm
                  rw [List.getElem_drop] at h3
                  exact h3 (UInt8.toNat_inj.1 e)
                have hout : ∀ (h : k + N < s.size), s[k + N].toNat = 10 := fun h => by
                  subst hN
                  have h3 := line_out (s.data.toList.drop k) (by rw [List.length_drop, HLEN.out]; omega)
                  rw [List.getElem_drop] at h3
                  exact congrArg UInt8.toNat h3
                rw [← hN] at hnext h2 hle
                have HX := Lib.hid (HRK.out.trans (by rw [hnext]))
                have HI := Lib.hid hin
                have HU := Lib.hid hout
                clear hpx hnext hin hout hN HP HQ ixk n1 n2 n3 n4
                go_wp2_with fail
                go_loop [5] (fun vi => ∃ m : Nat, vi = .int .i64 ((k + m : Nat) : Int) ∧ m ≤ N) (fun vi => s.size - (intOf vi).toNat)
                case atStart => exact ⟨0, rfl, Nat.zero_le _⟩
                case round =>
                  obtain ⟨m, rfl, hm⟩ := hrel
                  by_cases hmN : m < N
                  · obtain ⟨j, hj⟩ : ∃ j, j = k + m := ⟨_, rfl⟩
                    have hjs : j < s.size := by omega
                    have hx : s[j].toNat ≠ 10 := by
                      subst hj
                      exact HI.out m hjs hmN
                    have ixm := idx_str s j hjs
                    obtain ⟨y, hy⟩ : ∃ y, y = s[j].toNat := ⟨_, rfl⟩
                    rw [← hy] at hx ixm
                    rw [← hj]
                    have d6 : decide ((j : Int) < (s.size : Int)) = true := by simp; omega
                    have e10 : ((y : Int) != 10) = true := by simp; omega
                    clear hy
                    have j0 : (0 : Int) ≤ (j : Int) := by omega
                    have j1 : (j : Int) < (s.size : Int) := by omega
                    have HJ := Lib.hid hj
                    clear hx hj
                    go_wp2_with fail
                    refine ⟨⟨m + 1, ?_, by omega⟩, ?_⟩
                    · have := HJ.out
                      rw [show ((k + (m + 1) : Nat) : Int) = (j : Int) + 1 by omega]
                    · simp [intOf]; omega
                  · obtain rfl : m = N := by omega
                    by_cases hend : k + m < s.size
                    · obtain ⟨j, hj⟩ : ∃ j, j = k + m := ⟨_, rfl⟩
                      have hjs : j < s.size := by omega
                      have hx : s[j].toNat = 10 := by
                        subst hj
                        exact HU.out hjs
                      have ixm := idx_str s j hjs
                      rw [hx] at ixm
                      rw [← hj]
                      have d6 : decide ((j : Int) < (s.size : Int)) = true := by simp; omega
                      have j0 : (0 : Int) ≤ (j : Int) := by omega
                      have j1 : (j : Int) < (s.size : Int) := by omega
                      have HJ := Lib.hid hj
                      clear hx hj
                      go_wp2_with fail
                      refine ⟨⟨V, j, d, f, rfl, rfl, by omega, by have := HJ.out; omega, by have := HJ.out; omega, by rw [HJ.out]; exact HX.out, HO.out, HB.out, HBK.out⟩, ?_⟩
                      have := HJ.out
                      simp [intOf]; omega
                    · obtain ⟨j, hj⟩ : ∃ j, j = k + m := ⟨_, rfl⟩
                      have d6 : decide ((j : Int) < (s.size : Int)) = false := by simp; omega
                      rw [← hj]
                      have d7 : decide (j < s.size) = false := by simp; omega
                      have d8 : ¬ (j : Int) < (s.size : Int) := by omega
                      have d9 : ¬ j < s.size := by omega
                      have HJ := Lib.hid hj
                      clear hj
                      go_wp2_with fail
                      refine ⟨⟨V, j, d, f, rfl, rfl, by have := HJ.out; omega, by have := HJ.out; omega, by have := HJ.out; omega, by rw [HJ.out]; exact HX.out, HO.out, HB.out, HBK.out⟩, ?_⟩
                      have := HJ.out
                      simp [intOf]; omega
--END
            | false =>
              have hpx : Lib.hasPrefix (s.data.toList.drop k) [45, 45] = false := HQ.out.symm
              have hword := cutG_word f k s.data.toList _ _ HGET.out HNB.out hpx
              have hRw := HRK.out.trans (by rw [hword])
              have HRW := Lib.hid hRw
              clear hpx hword hRw HP HQ
              have hlt0 : w.heap.size < wc.heap.size := (Array.getElem?_eq_some_iff.1 HBK.out).1
              have HLT0 := Lib.hid hlt0
              clear hlt0
              obtain ⟨x, hx⟩ : ∃ x, x = firstW (s.data.toList.drop k) := ⟨_, rfl⟩
              have HXW := Lib.hid hx
              clear hx
              obtain ⟨wo, rfl⟩ : ∃ wo : World, wo = wc := ⟨_, rfl⟩
              go_upto_block 4 with fail
              go_cut [7, 9] (fun v7 v9 wx => Chosen k x wo.heap.size wo v7 v9 wx)
--STUB              case first => sorry
              case first =>
                obtain ⟨wc, rfl⟩ : ∃ wc : World, wc = wo := ⟨_, rfl⟩
                have hfw := HXW.out
                unfold firstW at hfw
                rw [show (s.data.toList.drop k).headD 0 = s[k] by rw [HGET.out]; rfl, show s[k].toNat = c from HC.out.symm] at hfw
                have hdl : (s.data.toList.drop k).length = s.size - k := by rw [List.length_drop, HLEN.out]
                have hDget : ∀ m (h : k + m < s.size), (s.data.toList.drop k)[m]'(by rw [hdl]; omega) = s[k + m] := fun m h => by rw [List.getElem_drop]; rfl
                have hne : s.data.toList.drop k ≠ [] := by rw [HGET.out]; simp
                have c256 : c < 256 := by rw [HC.out]; exact UInt8.toNat_lt _
                by_cases hL : isL c = true
                · as_aux_lemma =>
                    have kl := rLetter_any c
                    rw [hL] at kl
                    rw [if_pos hL] at hfw
                    obtain ⟨L, hLe⟩ : ∃ L, L = runLen isN (s.data.toList.drop k) := ⟨_, rfl⟩
                    rw [← hLe] at hfw
                    have hLp := runLen_pos isN (s.data.toList.drop k) (by rw [hdl]; omega) (by rw [show (s.data.toList.drop k).headD 0 = s[k] by rw [HGET.out]; rfl, ← HC.out]; unfold isN; rw [hL]; rfl)
                    have hLle := runLen_le isN (s.data.toList.drop k)
                    rw [hdl] at hLle
                    have hin : ∀ m (h : k + m < s.size), m < L → isN s[k + m].toNat = true := fun m h hm => by
                      rw [hLe] at hm
                      have h3 := runLen_in isN _ m (by rw [hdl]; omega) hm
                      rw [hDget m h] at h3
                      exact h3
                    have hout : ∀ (h : k + L < s.size), isN s[k + L].toNat = false := fun h => by
                      subst hLe
                      have h3 := runLen_out isN (s.data.toList.drop k) (by rw [hdl]; omega)
                      rw [hDget _ h] at h3
                      exact h3
                    have htk : (s.extract k (k + L)).data.toList = (s.data.toList.drop k).take L := by rw [Lib.extract_data, Nat.add_sub_cancel_left]
                    rw [← htk] at hfw
                    rw [← hLe] at hLp hLle
                    have HI := Lib.hid hin
                    have HU := Lib.hid hout
                    have HFW := Lib.hid hfw
                    have KL := Lib.hid kl
                    clear hin hout hfw htk hLe hDget hne hdl kl
                    go_wp2_with fail
                    refine (KL.out _).mono ?_
                    rintro e w2 ⟨rfl, rfl⟩
                    go_wp2_with fail
                    go_loop [7] (fun vi => ∃ m : Nat, vi = .int .i64 (m : Int) ∧ m ≤ L) (fun vi => L - (intOf vi).toNat)
                    case atStart => exact ⟨0, rfl, Nat.zero_le _⟩
                    case round =>
                      obtain ⟨m, rfl, hm⟩ := hrel
                      by_cases hmL : m < L
                      · have hms : k + m < s.size := by omega
                        have hx := HI.out m hms hmL
                        have ixm : ∀ W, (Instr.index 9 (.string s) (.int .i64 ((k : Int) + (m : Int)))).run Tryd.prog W = .ok (.int .u8 (s[k + m].toNat : Int)) W := fun W => by
                          have h := idx_str s (k + m) hms W
                          rw [show ((k + m : Nat) : Int) = (k : Int) + (m : Int) by omega] at h
                          exact h
                        obtain ⟨y, hy⟩ : ∃ y, y = s[k + m].toNat := ⟨_, rfl⟩
                        rw [← hy] at hx ixm
                        have d6 : decide ((k : Int) + (m : Int) < (s.size : Int)) = true := by simp; omega
                        have b6 : (k : Int) + (m : Int) < (s.size : Int) := by omega
                        have b7 : (0 : Int) ≤ (m : Int) := by omega
                        have y1 := Lib.hid (fun W => rLetter_any y W)
                        have y2 := Lib.hid (fun W => rDigit_any y W)
                        clear hy
                        by_cases p1 : isL y = true
                        · rw [p1] at y1
                          clear hx
                          go_wp2_with fail
                          refine (y1.out _).mono ?_
                          rintro e w2 ⟨rfl, rfl⟩
                          go_wp2_with fail
                          refine ⟨⟨m + 1, by go_num, by omega⟩, ?_⟩
                          simp [intOf]; omega
                        · have p1' : isL y = false := by simpa using p1
                          rw [p1'] at y1
                          by_cases p2 : isD y = true
                          · rw [p2] at y2
                            clear hx
                            go_wp2_with fail
                            refine (y1.out _).mono ?_
                            rintro e w2 ⟨rfl, rfl⟩
                            go_wp2_with fail
                            refine (y2.out _).mono ?_
                            rintro e w2 ⟨rfl, rfl⟩
                            go_wp2_with fail
                            refine ⟨⟨m + 1, by go_num, by omega⟩, ?_⟩
                            simp [intOf]; omega
                          · have p2' : isD y = false := by simpa using p2
                            rw [p2'] at y2
                            obtain rfl : y = 95 := by
                              unfold isN at hx
                              rw [p1', p2'] at hx
                              simpa using hx
                            clear hx
                            go_wp2_with fail
                            refine (y1.out _).mono ?_
                            rintro e w2 ⟨rfl, rfl⟩
                            go_wp2_with fail
                            refine (y2.out _).mono ?_
                            rintro e w2 ⟨rfl, rfl⟩
                            go_wp2_with fail
                            refine ⟨⟨m + 1, by go_num, by omega⟩, ?_⟩
                            simp [intOf]; omega
                      · obtain rfl : m = L := by omega
                        have kk := Lib.hid (fun W => rKept_any (s.extract k (k + m)) W)
                        obtain ⟨b, hbk⟩ : ∃ b, b = keptB (s.extract k (k + m)).data.toList := ⟨_, rfl⟩
                        rw [← hbk] at kk HFW
                        clear hbk
                        have b7 : (0 : Int) ≤ (m : Int) := by omega
                        have b8 : (k : Int) + (m : Int) ≤ (s.size : Int) := by omega
                        have hbw : Below wc.heap.size wc (wc.alloc (.cells #[.int .i64 1, .string ⟨#[]⟩, .int .i64 0, .int .i64 (k : Int)] 36)) := (Below.refl _ _).alloc (Nat.le_refl _) _
                        have hnew := heap_alloc_new wc (.cells #[.int .i64 1, .string ⟨#[]⟩, .int .i64 0, .int .i64 (k : Int)] 36)
                        have hlt1 : wc.heap.size < (wc.alloc (.cells #[.int .i64 1, .string ⟨#[]⟩, .int .i64 0, .int .i64 (k : Int)] 36)).heap.size := by simp
                        have BW := Lib.hid hbw
                        have NW := Lib.hid hnew
                        have LT1 := Lib.hid hlt1
                        clear hbw hnew hlt1
                        have ksl := sl_str s k (k + m) (by omega) (by omega) ((k : Int) + (m : Int)) (by omega)
                        rcases Nat.lt_or_eq_of_le (show k + m ≤ s.size by omega) with hms | hms
                        · have hx := HU.out hms
                          have ixm : ∀ W, (Instr.index 9 (.string s) (.int .i64 ((k : Int) + (m : Int)))).run Tryd.prog W = .ok (.int .u8 (s[k + m].toNat : Int)) W := fun W => by
                            have h := idx_str s (k + m) hms W
                            rw [show ((k + m : Nat) : Int) = (k : Int) + (m : Int) by omega] at h
                            exact h
                          obtain ⟨y, hy⟩ : ∃ y, y = s[k + m].toNat := ⟨_, rfl⟩
                          rw [← hy] at hx ixm
                          have d6 : decide ((k : Int) + (m : Int) < (s.size : Int)) = true := by simp; omega
                          have b6 : (k : Int) + (m : Int) < (s.size : Int) := by omega
                          have y1 := Lib.hid (fun W => rLetter_any y W)
                          have y2 := Lib.hid (fun W => rDigit_any y W)
                          unfold isN at hx
                          simp only [Bool.or_eq_false_iff] at hx
                          obtain ⟨⟨p1, p2⟩, p3⟩ := hx
                          rw [p1] at y1
                          rw [p2] at y2
                          have p4 : ((y : Int) == 95) = false := by
                            have : y ≠ 95 := by simpa using p3
                            simp; omega
                          clear hy p1 p2 p3
                          go_wp2_with fail
                          refine (y1.out _).mono ?_
                          rintro e w2 ⟨rfl, rfl⟩
                          go_wp2_with fail
                          refine (y2.out _).mono ?_
                          rintro e w2 ⟨rfl, rfl⟩
                          go_wp2_with fail
                          (with_reducible refine (kk.out _).mono ?_)
                          rintro e w2 ⟨rfl, hb2⟩
                          have hrow := (hb2.block _ LT1.out).trans NW.out
                          have hc0 := cell_of_row _ wc.heap.size 0 _ _ _ hrow
                          have hf0 := frozen_of_row _ wc.heap.size 0 _ _ hrow
                          have hset := heap_setCell_same _ wc.heap.size 0 _ _ (.int .i64 2) hrow
                          have hbe : Below wc.heap.size wc w2 := BW.out.trans (hb2.mono BW.out.size)
                          have HBE := Lib.hid hbe
                          have HROW := Lib.hid hrow
                          have HSET := Lib.hid hset
                          clear hb2 hrow hbe hset
                          by_cases h24 : 24 < m
                          · have d24 : decide ((m : Int) ≤ 24) = false := by simp; omega
                            have hfx := HFW.out
                            rw [if_pos h24] at hfx
                            have HFX := Lib.hid hfx
                            clear hfx
                            cases b
                            · go_wp2_with fail
                              go_meet
                              exact ⟨HBE.out, .inr ⟨by rw [HFX.out], rfl⟩⟩
                            · go_wp2_with fail
                              go_meet
                              exact ⟨HBE.out.setCell (Nat.le_refl _) _, .inr ⟨by rw [HFX.out], rfl⟩⟩
                          · have d24 : decide ((m : Int) ≤ 24) = true := by simp; omega
                            have hfx := HFW.out
                            rw [if_neg h24] at hfx
                            cases b
                            · rw [if_neg (by decide)] at hfx
                              have HFX := Lib.hid hfx
                              clear hfx
                              go_wp2_with fail
                              go_meet
                              refine ⟨HBE.out, .inl ?_⟩
                              rw [HFX.out]
                              exact ⟨by simp, rfl, rfl, HROW.out⟩
                            · rw [if_pos rfl] at hfx
                              have HFX := Lib.hid hfx
                              clear hfx
                              go_wp2_with fail
                              go_meet
                              refine ⟨HBE.out.setCell (Nat.le_refl _) _, .inl ?_⟩
                              rw [HFX.out]
                              exact ⟨by simp, rfl, rfl, HSET.out⟩
                        · have d6 : decide ((k : Int) + (m : Int) < (s.size : Int)) = false := by simp; omega
                          have d7 : ¬ (k : Int) + (m : Int) < (s.size : Int) := by omega
                          clear hms
                          go_wp2_with fail
                          (with_reducible refine (kk.out _).mono ?_)
                          rintro e w2 ⟨rfl, hb2⟩
                          have hrow := (hb2.block _ LT1.out).trans NW.out
                          have hc0 := cell_of_row _ wc.heap.size 0 _ _ _ hrow
                          have hf0 := frozen_of_row _ wc.heap.size 0 _ _ hrow
                          have hset := heap_setCell_same _ wc.heap.size 0 _ _ (.int .i64 2) hrow
                          have hbe : Below wc.heap.size wc w2 := BW.out.trans (hb2.mono BW.out.size)
                          have HBE := Lib.hid hbe
                          have HROW := Lib.hid hrow
                          have HSET := Lib.hid hset
                          clear hb2 hrow hbe hset
                          by_cases h24 : 24 < m
                          · have d24 : decide ((m : Int) ≤ 24) = false := by simp; omega
                            have hfx := HFW.out
                            rw [if_pos h24] at hfx
                            have HFX := Lib.hid hfx
                            clear hfx
                            cases b
                            · go_wp2_with fail
                              go_meet
                              exact ⟨HBE.out, .inr ⟨by rw [HFX.out], rfl⟩⟩
                            · go_wp2_with fail
                              go_meet
                              exact ⟨HBE.out.setCell (Nat.le_refl _) _, .inr ⟨by rw [HFX.out], rfl⟩⟩
                          · have d24 : decide ((m : Int) ≤ 24) = true := by simp; omega
                            have hfx := HFW.out
                            rw [if_neg h24] at hfx
                            cases b
                            · rw [if_neg (by decide)] at hfx
                              have HFX := Lib.hid hfx
                              clear hfx
                              go_wp2_with fail
                              go_meet
                              refine ⟨HBE.out, .inl ?_⟩
                              rw [HFX.out]
                              exact ⟨by simp, rfl, rfl, HROW.out⟩
                            · rw [if_pos rfl] at hfx
                              have HFX := Lib.hid hfx
                              clear hfx
                              go_wp2_with fail
                              go_meet
                              refine ⟨HBE.out.setCell (Nat.le_refl _) _, .inl ?_⟩
                              rw [HFX.out]
                              exact ⟨by simp, rfl, rfl, HSET.out⟩
                · have hL' : isL c = false := by simpa using hL
                  have kl := Lib.hid (fun W => rLetter_any c W)
                  rw [hL'] at kl
                  have hhd : (s.data.toList.drop k).headD 0 = s[k] := by rw [HGET.out]; rfl
                  have haL : ¬ isL ((s.data.toList.drop k).headD 0).toNat = true := by rw [hhd, ← HC.out]; exact hL
                  clear hfw
                  by_cases hD : isD c = true
                  · as_aux_lemma =>
                      have kd := Lib.hid (fun W => rDigit_any c W)
                      rw [hD] at kd
                      have hbD : isD ((s.data.toList.drop k).headD 0).toNat = true := by rw [hhd, ← HC.out]; exact hD
                      have hfw := HXW.out.trans (firstW_dig _ hne haL hbD)
                      obtain ⟨L, hLe⟩ : ∃ L, L = runLen isD (s.data.toList.drop k) := ⟨_, rfl⟩
                      rw [← hLe] at hfw
                      have hLp := runLen_pos isD (s.data.toList.drop k) (by rw [hdl]; omega) hbD
                      have hLle := runLen_le isD (s.data.toList.drop k)
                      rw [hdl] at hLle
                      have hin : ∀ m (h : k + m < s.size), m < L → isD s[k + m].toNat = true := fun m h hm => by
                        rw [hLe] at hm
                        have h3 := runLen_in isD _ m (by rw [hdl]; omega) hm
                        rw [hDget m h] at h3
                        exact h3
                      have hout : ∀ (h : k + L < s.size), isD s[k + L].toNat = false := fun h => by
                        subst hLe
                        have h3 := runLen_out isD (s.data.toList.drop k) (by rw [hdl]; omega)
                        rw [hDget _ h] at h3
                        exact h3
                      have htk : (s.extract k (k + L)).data.toList = (s.data.toList.drop k).take L := by rw [Lib.extract_data, Nat.add_sub_cancel_left]
                      have hall := runLen_all isD (s.data.toList.drop k)
                      rw [← hLe] at hLp hLle hall
                      rw [← htk] at hfw hall
                      have htz : (s.extract k (k + L)).size = L := by rw [ByteArray.size_extract]; omega
                      have hth : (s.extract k (k + L)).data.toList.headD 0 = (s.data.toList.drop k).headD 0 := by rw [htk]; exact take_head hLp
                      have kn := fun W => rNumber_any (s.extract k (k + L)) W (by rw [htz]; exact hLp) (by rw [htz]; omega) hall
                      have hok : okN (s.extract k (k + L)) ↔ (¬ (1 < L ∧ (s.data.toList.drop k).headD 0 = 48) ∧ foldD 0 (s.extract k (k + L)).data.toList < 9223372036854775808) := by unfold okN; rw [htz, hth]
                      have HI := Lib.hid hin
                      have HU := Lib.hid hout
                      have HFW := Lib.hid hfw
                      have KN := Lib.hid kn
                      have HOK := Lib.hid hok
                      clear hin hout hfw htk hLe hDget hne hdl hall htz hth kn hok hhd haL hbD hL hD
                      go_wp2_with fail
                      (with_reducible refine (kl.out _).mono ?_)
                      rintro e w2 ⟨rfl, rfl⟩
                      go_wp2_with fail
                      (with_reducible refine (kd.out _).mono ?_)
                      rintro e w2 ⟨rfl, rfl⟩
                      go_wp2_with fail
                      go_loop [7] (fun vi => ∃ m : Nat, vi = .int .i64 (m : Int) ∧ m ≤ L) (fun vi => L - (intOf vi).toNat)
                      case atStart => exact ⟨0, rfl, Nat.zero_le _⟩
                      case round =>
                        obtain ⟨m, rfl, hm⟩ := hrel
                        by_cases hmL : m < L
                        · have hms : k + m < s.size := by omega
                          have hx := HI.out m hms hmL
                          have ixm : ∀ W, (Instr.index 9 (.string s) (.int .i64 ((k : Int) + (m : Int)))).run Tryd.prog W = .ok (.int .u8 (s[k + m].toNat : Int)) W := fun W => by
                            have h := idx_str s (k + m) hms W
                            rw [show ((k + m : Nat) : Int) = (k : Int) + (m : Int) by omega] at h
                            exact h
                          obtain ⟨y, hy⟩ : ∃ y, y = s[k + m].toNat := ⟨_, rfl⟩
                          rw [← hy] at hx ixm
                          have d6 : decide ((k : Int) + (m : Int) < (s.size : Int)) = true := by simp; omega
                          have b6 : (k : Int) + (m : Int) < (s.size : Int) := by omega
                          have b7 : (0 : Int) ≤ (m : Int) := by omega
                          have y2 := Lib.hid (fun W => rDigit_any y W)
                          rw [hx] at y2
                          clear hy hx
                          go_wp2_with fail
                          (with_reducible refine (y2.out _).mono ?_)
                          rintro e w2 ⟨rfl, rfl⟩
                          go_wp2_with fail
                          refine ⟨⟨m + 1, by go_num, by omega⟩, ?_⟩
                          simp [intOf]; omega
                        · obtain rfl : m = L := by omega
                          have b7 : (0 : Int) ≤ (m : Int) := by omega
                          have b8 : (k : Int) + (m : Int) ≤ (s.size : Int) := by omega
                          have ksl := sl_str s k (k + m) (by omega) (by omega) ((k : Int) + (m : Int)) (by omega)
                          rcases Nat.lt_or_eq_of_le (show k + m ≤ s.size by omega) with hms | hms
                          · have hx := HU.out hms
                            have ixm : ∀ W, (Instr.index 9 (.string s) (.int .i64 ((k : Int) + (m : Int)))).run Tryd.prog W = .ok (.int .u8 (s[k + m].toNat : Int)) W := fun W => by
                              have h := idx_str s (k + m) hms W
                              rw [show ((k + m : Nat) : Int) = (k : Int) + (m : Int) by omega] at h
                              exact h
                            obtain ⟨y, hy⟩ : ∃ y, y = s[k + m].toNat := ⟨_, rfl⟩
                            rw [← hy] at hx ixm
                            have d6 : decide ((k : Int) + (m : Int) < (s.size : Int)) = true := by simp; omega
                            have b6 : (k : Int) + (m : Int) < (s.size : Int) := by omega
                            have y2 := Lib.hid (fun W => rDigit_any y W)
                            rw [hx] at y2
                            clear hy hx
                            go_wp2_with fail
                            (with_reducible refine (y2.out _).mono ?_)
                            rintro e w2 ⟨rfl, rfl⟩
                            go_wp2_with fail
                            (with_reducible refine (KN.out _).mono ?_)
                            rintro e w2 ⟨rfl, z, b, rfl, hb1, hb2⟩
                            have hfx := HFW.out
                            cases b
                            · have hno : ¬ okN (s.extract k (k + m)) := fun h => by have := hb1.2 h; cases this
                              rw [if_neg (fun h => hno (HOK.out.2 h))] at hfx
                              have HFX := Lib.hid hfx
                              clear hfx hb1 hb2 hno
                              go_wp2_with fail
                              go_meet
                              exact ⟨(Below.refl _ _).alloc (Nat.le_refl _) _, .inr ⟨by rw [HFX.out], rfl⟩⟩
                            · have hyes := hb1.1 rfl
                              rw [if_pos (HOK.out.1 hyes)] at hfx
                              have hz := hb2 rfl
                              rw [← hz] at hfx
                              have HFX := Lib.hid hfx
                              clear hfx hb1 hb2 hyes hz
                              go_wp2_with fail
                              go_meet
                              refine ⟨(Below.refl _ _).alloc (Nat.le_refl _) _, .inl ?_⟩
                              rw [HFX.out]
                              exact ⟨by simp, rfl, rfl, heap_alloc_new _ _⟩
                          · have d6 : decide ((k : Int) + (m : Int) < (s.size : Int)) = false := by simp; omega
                            have d7 : ¬ (k : Int) + (m : Int) < (s.size : Int) := by omega
                            clear hms
                            go_wp2_with fail
                            (with_reducible refine (KN.out _).mono ?_)
                            rintro e w2 ⟨rfl, z, b, rfl, hb1, hb2⟩
                            have hfx := HFW.out
                            cases b
                            · have hno : ¬ okN (s.extract k (k + m)) := fun h => by have := hb1.2 h; cases this
                              rw [if_neg (fun h => hno (HOK.out.2 h))] at hfx
                              have HFX := Lib.hid hfx
                              clear hfx hb1 hb2 hno
                              go_wp2_with fail
                              go_meet
                              exact ⟨(Below.refl _ _).alloc (Nat.le_refl _) _, .inr ⟨by rw [HFX.out], rfl⟩⟩
                            · have hyes := hb1.1 rfl
                              rw [if_pos (HOK.out.1 hyes)] at hfx
                              have hz := hb2 rfl
                              rw [← hz] at hfx
                              have HFX := Lib.hid hfx
                              clear hfx hb1 hb2 hyes hz
                              go_wp2_with fail
                              go_meet
                              refine ⟨(Below.refl _ _).alloc (Nat.le_refl _) _, .inl ?_⟩
                              rw [HFX.out]
                              exact ⟨by simp, rfl, rfl, heap_alloc_new _ _⟩
                  · as_aux_lemma =>
                      have hD' : isD c = false := by simpa using hD
                      have kd := Lib.hid (fun W => rDigit_any c W)
                      rw [hD'] at kd
                      have hbD : ¬ isD ((s.data.toList.drop k).headD 0).toNat = true := by rw [hhd, ← HC.out]; exact hD
                      have hfw := HXW.out.trans (firstW_sgn _ haL hbD)
                      have hse : (s.extract k s.size).data.toList = s.data.toList.drop k := Lib.extract_to_end s k
                      have hsz : (s.extract k s.size).size = s.size - k := by rw [ByteArray.size_extract]; omega
                      have ksg := fun W => rSign_any (s.extract k s.size) W (by rw [hsz]; omega) (by rw [hsz]; omega)
                      rw [hse] at ksg
                      have hle := signN_le (s.data.toList.drop k) (by rw [hdl]; omega)
                      rw [hdl] at hle
                      obtain ⟨n, hn⟩ : ∃ n, n = signN (s.data.toList.drop k) := ⟨_, rfl⟩
                      rw [← hn] at hfw ksg hle
                      have hes : ((s.extract k s.size).extract 0 n).size = n := by rw [ByteArray.size_extract, hsz]; omega
                      obtain ⟨T, hT⟩ : ∃ T, T = (s.extract k s.size).extract 0 n := ⟨_, rfl⟩
                      rw [← hT] at ksg hes
                      have HFW := Lib.hid hfw
                      have KSG := Lib.hid ksg
                      have HES := Lib.hid hes
                      have hbw : Below wc.heap.size wc (wc.alloc (.cells #[.int .i64 4, .string ⟨#[]⟩, .int .i64 0, .int .i64 (k : Int)] 36)) := (Below.refl _ _).alloc (Nat.le_refl _) _
                      have hnew := heap_alloc_new wc (.cells #[.int .i64 4, .string ⟨#[]⟩, .int .i64 0, .int .i64 (k : Int)] 36)
                      have hlt1 : wc.heap.size < (wc.alloc (.cells #[.int .i64 4, .string ⟨#[]⟩, .int .i64 0, .int .i64 (k : Int)] 36)).heap.size := by simp
                      have BW := Lib.hid hbw
                      have NW := Lib.hid hnew
                      have LT1 := Lib.hid hlt1
                      clear hbw hnew hlt1 hfw hse hsz ksg hn hT hDget hne hdl hhd haL hbD hL hD hle hes
                      go_wp2_with fail
                      (with_reducible refine (kl.out _).mono ?_)
                      rintro e w2 ⟨rfl, rfl⟩
                      go_wp2_with fail
                      (with_reducible refine (kd.out _).mono ?_)
                      rintro e w2 ⟨rfl, rfl⟩
                      go_wp2_with fail
                      (with_reducible refine (KSG.out _).mono ?_)
                      rintro e w2 ⟨rfl, hb2⟩
                      have hrow := (hb2.block _ LT1.out).trans NW.out
                      have hbe : Below wc.heap.size wc w2 := BW.out.trans (hb2.mono BW.out.size)
                      have HBE := Lib.hid hbe
                      have HROW := Lib.hid hrow
                      clear hb2 hrow hbe
                      have hfx := HFW.out
                      have hts := HES.out
                      by_cases h0 : n = 0
                      · rw [if_pos h0] at hfx
                        have e0 : decide (0 < T.size) = false := decide_eq_false (by omega)
                        have e1 : ¬ 0 < T.size := by omega
                        have HFX := Lib.hid hfx
                        clear hfx hts h0
                        go_wp2_with fail
                        go_meet
                        exact ⟨HBE.out, .inr ⟨by rw [HFX.out], by first | rfl | rw [e0]⟩⟩
                      · rw [if_neg h0] at hfx
                        have e0 : decide (0 < T.size) = true := decide_eq_true (by omega)
                        have e1 : 0 < T.size := by omega
                        have HFX := Lib.hid hfx
                        have HTS := Lib.hid hts
                        clear hfx hts h0
                        go_wp2_with fail
                        go_meet
                        refine ⟨HBE.out, .inl ?_⟩
                        rw [HFX.out]
                        exact ⟨by simp, by rw [HTS.out], by first | rfl | rw [e0], HROW.out⟩
--END
              case rest =>
                as_aux_lemma =>
                  obtain ⟨hbc, hch⟩ := hcut
                  obtain ⟨w1, rfl⟩ : ∃ w1 : World, w1 = wc := ⟨_, rfl⟩
                  have hne : s.data.toList.drop k ≠ [] := by rw [HGET.out]; simp
                  have hdl : (s.data.toList.drop k).length = s.size - k := by rw [List.length_drop, HLEN.out]
                  obtain ⟨q1, q2, _⟩ := firstW_len (s.data.toList.drop k) (List.length_pos_iff.2 hne)
                  have hgo := fun f' => cutG_go f' k s.data.toList d hne
                  have hbad := fun f' => cutF_bad f' k (s.data.toList.drop k) hne
                  rw [hdl] at q1
                  rw [← HXW.out] at q1 q2
                  simp only [← HXW.out] at hgo hbad
                  obtain ⟨f', rfl⟩ : ∃ f', f = f' + 1 := ⟨f - 1, by omega⟩
                  have hgo := hgo f'
                  have hbad := hbad f'
                  obtain ⟨xk, xm, xn⟩ := x
                  simp only at q1 q2 hgo hbad hch
                  have hB1 := HB.out.trans (hbc.mono HB.out.size)
                  have hfl1 := (hbc.block w.heap.size HLT0.out).trans HBK.out
                  have HB1 := Lib.hid hB1
                  have HFL := Lib.hid hfl1
                  have HBC := Lib.hid hbc
                  clear hne hdl hB1 hfl1 hbc HXW
                  rcases hch with ⟨hk0, rfl, rfl, hrow⟩ | ⟨hk0, rfl⟩
                  · have hm1 := q2 hk0
                    have hgo1 := HRW.out.trans (hgo hk0)
                    obtain ⟨tx, htx⟩ : ∃ t, t = s.extract k (k + xm) := ⟨_, rfl⟩
                    have ksl := sl_str s k (k + xm) (by omega) (by omega) ((k : Int) + (xm : Int)) (by omega)
                    rw [← htx] at ksl
                    have hwc : wordsC s (d ++ [(xk, xm, xn, k)]) = wordsC s d ++ [.int .i64 (xk : Int), .string tx, .int .i64 xn, .int .i64 (k : Int)] := by rw [wordsC_snoc, htx]; rfl
                    have c1 := cell_of_row _ wo.heap.size 1 _ _ _ hrow
                    have f1 := frozen_of_row _ wo.heap.size 1 _ _ hrow
                    have hr4 := heap_setCell_same _ wo.heap.size 1 _ _ (.string tx) hrow
                    obtain ⟨w4, hw4⟩ : ∃ w4, w4 = w1.setCell ⟨wo.heap.size, 1, none⟩ (.string tx) := ⟨_, rfl⟩
                    have hr4' : w4.heap[wo.heap.size]? = some (.cells #[.int .i64 (xk : Int), .string tx, .int .i64 xn, .int .i64 (k : Int)] 36 (0, 0)) := by rw [hw4]; exact hr4
                    have hbw4 : Below wo.heap.size wo w4 := by rw [hw4]; exact HBC.out.setCell (Nat.le_refl _) _
                    have hlt4 : wo.heap.size < w4.heap.size := (Array.getElem?_eq_some_iff.1 hr4').1
                    have hbw5 : Below wo.heap.size wo (w4.alloc (.cells #[.int .i64 (xk : Int), .string tx, .int .i64 xn, .int .i64 (k : Int)] 36)) := hbw4.alloc hbw4.size _
                    have hown5 := own_below HO.out hbw5
                    have hnews : ∀ j u, ([.int .i64 (xk : Int), .string tx, .int .i64 xn, .int .i64 (k : Int)] : List Value)[j]? = some u → (w4.alloc (.cells #[.int .i64 (xk : Int), .string tx, .int .i64 xn, .int .i64 (k : Int)] 36)).cell? (Addr.add ⟨w4.heap.size, 0, none⟩ j) = some u := fun j u hu => by
                      rw [Addr.add_lit, Nat.zero_add, cell_of_row _ w4.heap.size j _ _ _ (heap_alloc_new w4 _), ← hu]
                      simp
                    have hone : ∀ u ∈ ([.int .i64 (xk : Int), .string tx, .int .i64 xn, .int .i64 (k : Int)] : List Value), u.oneCell' = true := fun u hu => by
                      simp only [List.mem_cons, List.not_mem_nil, or_false] at hu
                      rcases hu with rfl | rfl | rfl | rfl <;> rfl
                    have h63 : d.length + 1 ≤ maxLen := by unfold maxLen; omega
                    have hby : (d.length + 1) * 40 ≤ 140737488355328 := by omega
                    have hsz1 : w.heap.size + 1 ≤ wo.heap.size := HLT0.out
                    have hbase : w.heap.size + 1 ≤ (w4.alloc (.cells #[.int .i64 (xk : Int), .string tx, .int .i64 xn, .int .i64 (k : Int)] 36)).heap.size := Nat.le_trans hsz1 hbw5.size
                    have hneb : ∀ g', V.ownBlock = some g' → w.heap.size + 1 ≤ g' ∧ g' < wo.heap.size := fun g' h => HO.out.lt g' h
                    have hsz4 : w1.heap.size = w4.heap.size := by rw [hw4]; simp
                    have HW4 := Lib.hid hw4
                    have N4 := Lib.hid hr4'
                    have N5 := Lib.hid hown5
                    have N7 := Lib.hid hnews
                    have N8 := Lib.hid hbw5
                    have N9 := Lib.hid hneb
                    have HRN := Lib.hid hgo1
                    have HWC := Lib.hid hwc
                    have HS4 := Lib.hid hsz4
                    have b7 : (0 : Int) ≤ (xm : Int) := by omega
                    have b8 : (k : Int) + (xm : Int) ≤ (s.size : Int) := by omega
                    clear hr4 hw4 hr4' hbw4 hown5 hnews hbw5 hlt4 hneb hgo hbad hgo1 hwc hrow hsz4 htx HO q2 hk0
                    go_wp2_with (first
                      | (rw [← HW4.out]
                         refine wpList_load_row rfl 36 (.tmp 8) rfl wo.heap.size rfl 36 #[.int .i64 (xk : Int), .string tx, .int .i64 xn, .int .i64 (k : Int)] (0, 0) _ N4.out Tryd.underlying36 rfl HWs.out ?_)
                      | (at_builtin
                         refine wpList_append_own _ rfl (.tmp 166) (.tmp 168) 29 rfl (w.heap.size + 1) 36 i0 _ 4 40 Tryd.underlying29 hi0 hz0 hz1 hz2 rfl (by decide) V d.length (wordsC s d) rfl N5.out ⟨w4.heap.size, 0, none⟩ 1 1 [.int .i64 (xk : Int), .string tx, .int .i64 xn, .int .i64 (k : Int)] rfl rfl N7.out hone h63 hby hbase ?_
                         intro v5 w5 hown5 hg5 _
                         have O5 := Lib.hid hown5
                         have G5 := Lib.hid hg5
                         clear hown5 hg5 c1 f1))
                    have hbel8 := HB.out.trans (N8.out.mono HB.out.size)
                    have hbel6 : Below w.heap.size w w5 := hbel8.grown G5.out hbel8.size (fun g' h => by have := (N9.out g' h).1; omega)
                    have hbk8 := (N8.out.block w.heap.size HLT0.out).trans HBK.out
                    have hbk6 := (G5.out.block w.heap.size (Nat.lt_of_lt_of_le HLT0.out N8.out.size) (fun e => by have := (N9.out _ e.symm).1; omega)).trans hbk8
                    have hown6 : w5.ownsRow (w.heap.size + 1) 36 4 v5 (d ++ [(xk, xm, xn, k)]).length (wordsC s (d ++ [(xk, xm, xn, k)])) := by
                      rw [HWC.out, List.length_append]
                      exact O5.out
                    refine ⟨⟨v5, k + xm, d ++ [(xk, xm, xn, k)], f', rfl, by go_num, by omega, by simp; omega, by omega, HRN.out, hown6, hbel6, hbk6⟩, ?_⟩
                    simp [intOf]; omega
                  · have hR2 : R = .error k := HRW.out.trans (by rw [hbad hk0]; rfl)
                    have hcut : cutAll s.data.toList = .error (7, k) := by rw [HCUT.out, hR2]
                    have HR2 := Lib.hid hcut
                    clear hR2 hcut hgo hbad hk0 HO HRW HBC q2
                    go_wp2_with (refine wpList_store_row rfl 30 (.tmp 3) (.tmp 158) rfl w.heap.size #[.int .i64 7, .int .i64 (k : Int)] rfl rfl 30 _ HFL.out HF.out rfl (fault_one _ _) ?_)
                    refine bodyPost_ret (v := .tuple #[.slice none 0 0, .agg #[.int .i64 7, .int .i64 (k : Int)]]) (results_tmp_cell (q := 2) (p := 3) (ty := 30) rfl _ _ w.heap.size 30 #[.int .i64 7, .int .i64 (k : Int)] (0, 0) _ rfl (setRow_heap _ w.heap.size _ _ _ _ HFL.out) Tryd.underlying30 rfl HF.out) rfl ⟨below_setRow HB1.out (Nat.le_refl _) _, ?_⟩
                    rw [HR2.out]
                    rfl
      · as_aux_lemma =>
          obtain rfl : k = s.size := by omega
          have d2 : decide ((s.size : Int) < (s.size : Int)) = false := by simp
          have hnil : s.data.toList.drop s.size = [] := List.drop_of_length_le (by rw [HLEN.out]; exact Nat.le_refl _)
          obtain ⟨f', rfl⟩ : ∃ f', f = f' + 1 := ⟨f - 1, by omega⟩
          have hR2 : R = .ok (d ++ [(0, 0, 0, s.size)]) := by
            rw [HRK.out]
            unfold cutG
            rw [hnil, gapL_nil]
            simp only [Nat.add_zero, hnil]
            rw [cutF_end]
            rfl
          have hcut : cutAll s.data.toList = .ok (d ++ [(0, 0, 0, s.size)]) := by rw [HCUT.out, hR2]
          have hwc : wordsC s (d ++ [(0, 0, 0, s.size)]) = wordsC s d ++ [.int .i64 0, .string ⟨#[]⟩, .int .i64 0, .int .i64 (s.size : Int)] := by
            rw [wordsC_snoc]
            unfold wordC
            rw [show s.extract s.size (s.size + 0) = ByteArray.empty from extract_nil s s.size]
            rfl
          have hb2 : Below wr.heap.size wr (wr.alloc (.cells #[.int .i64 0, .string ⟨#[]⟩, .int .i64 0, .int .i64 (s.size : Int)] 36)) := (Below.refl _ _).alloc (Nat.le_refl _) _
          have hown2 := own_below HO.out hb2
          have hnews : ∀ j u, ([.int .i64 0, .string ⟨#[]⟩, .int .i64 0, .int .i64 (s.size : Int)] : List Value)[j]? = some u → (wr.alloc (.cells #[.int .i64 0, .string ⟨#[]⟩, .int .i64 0, .int .i64 (s.size : Int)] 36)).cell? (Addr.add ⟨wr.heap.size, 0, none⟩ j) = some u := fun j u hu => by
            rw [Addr.add_lit, Nat.zero_add, cell_of_row _ wr.heap.size j _ _ _ (heap_alloc_new wr _), ← hu]
            simp
          have hone : ∀ u ∈ ([.int .i64 0, .string ⟨#[]⟩, .int .i64 0, .int .i64 (s.size : Int)] : List Value), u.oneCell' = true := fun u hu => by
            simp only [List.mem_cons, List.not_mem_nil, or_false] at hu
            rcases hu with rfl | rfl | rfl | rfl <;> rfl
          have h63 : d.length + 1 ≤ maxLen := by unfold maxLen; omega
          have hby : (d.length + 1) * 40 ≤ 140737488355328 := by omega
          have hsz1 : w.heap.size + 1 ≤ wr.heap.size := (Array.getElem?_eq_some_iff.1 HBK.out).1
          have hbase : w.heap.size + 1 ≤ (wr.alloc (.cells #[.int .i64 0, .string ⟨#[]⟩, .int .i64 0, .int .i64 (s.size : Int)] 36)).heap.size := Nat.le_trans hsz1 hb2.size
          have hbk2 := (hb2.block w.heap.size hsz1).trans HBK.out
          have hbel2 := HB.out.trans (hb2.mono HB.out.size)
          have HO2 := Lib.hid hown2
          have HC := Lib.hid hcut
          have HW := Lib.hid hwc
          have HN := Lib.hid hnews
          have HBB := Lib.hid hbel2
          have HK := Lib.hid hbk2
          have HL := hown2.lt
          have HLT := Lib.hid HL
          clear hR2 hcut hwc hb2 hown2 hnews hbel2 hbk2 HL hnil HRK HO HB HBK
          go_wp2_with (first
            | (at_builtin
               refine wpList_append_own _ rfl (.tmp 173) (.tmp 177) 29 rfl (w.heap.size + 1) 36 i0 _ 4 40 Tryd.underlying29 hi0 hz0 hz1 hz2 rfl (by decide) V d.length (wordsC s d) rfl HO2.out ⟨wr.heap.size, 0, none⟩ 1 1 [.int .i64 0, .string ⟨#[]⟩, .int .i64 0, .int .i64 (s.size : Int)] rfl rfl HN.out hone h63 hby hbase ?_
               intro v5 w5 hown5 hg5 _
               have hbk5 := (hg5.block w.heap.size (Array.getElem?_eq_some_iff.1 HK.out).1 (fun e => by have := (HLT.out _ e.symm).1; omega)).trans HK.out
               have hbel5 : Below w.heap.size w w5 := HBB.out.grown hg5 HBB.out.size (fun g' h => by have := (HLT.out g' h).1; omega)
               have P1 := Lib.hid hown5
               have P2 := Lib.hid hbk5
               have P3 := Lib.hid hbel5
               clear hown5 hg5 hbk5 hbel5)
            | (refine wpList_store_row rfl 30 (.tmp 3) (.tmp 179) rfl w.heap.size #[.int .i64 0, .int .i64 0] rfl rfl 30 _ P2.out HF.out rfl (fault_one _ _) ?_))
          refine bodyPost_ret (v := .tuple #[v5, .agg #[.int .i64 0, .int .i64 0]]) (results_tmp_cell (q := 2) (p := 3) (ty := 30) rfl _ _ w.heap.size 30 #[.int .i64 0, .int .i64 0] (0, 0) _ rfl (setRow_heap _ w.heap.size _ _ _ _ P2.out) Tryd.underlying30 rfl HF.out) rfl ⟨below_setRow P3.out (Nat.le_refl _) _, ?_⟩
          rw [HC.out]
          refine ⟨v5, rfl, ?_⟩
          rw [HW.out, List.length_append]
          exact own_weaken' (own_setRow P1.out (Nat.lt_succ_self _)) (Nat.le_succ _)
end Go.Proofs.YtolcaebdmapfbaaDoor
