/-
  What package lex's Cut does.
-/
import Derived.Test.YtolcaebdmapfbaaDoorLpu
import Derived.OwnWalk
namespace Go.Proofs.YtolcaebdmapfbaaDoor
open Go Go.RowKit

theorem info_word : (Tryd.prog.info? 35).map (fun i => (i.zero, i.size, i.bytes)) = some (some (.agg #[.int .i64 0, .string ⟨#[]⟩, .int .i64 0, .int .i64 0]), 4, 40) := by kernel_rfl
theorem size_fault : (Tryd.prog.info? 26).map (·.size) = some 2 := by kernel_rfl
theorem fault_one (a b : Int) : (#[.int .i64 a, .int .i64 b] : Array Value).all (·.oneCell') = true := by simp [Value.oneCell']
theorem wordC_one (s : ByteArray) (x : Nat × Nat × Int × Nat) : ∀ u ∈ wordC s x, u.oneCell' = true := by
  intro u hu
  simp only [wordC, List.mem_cons, List.not_mem_nil, or_false] at hu
  rcases hu with rfl | rfl | rfl | rfl <;> rfl

theorem results_tmp_cell {P : Program} {fn : Func} {q p : Tmp} {ty : TypeId} (h : fn.results = #[.tmp q, .cell p ty]) (tmps : Array Value) (w : World) (g : Nat) (t : TypeId) (cs : Array Value) (fr : Nat × Nat) (d : TypeDesc)
    (hp : tmps.getD p undef = .pointer (some ⟨g, 0, none⟩)) (hg : w.heap[g]? = some (.cells cs t fr))
    (hu : P.underlying ty = some d) (hd : (match d with | .struct _ | .array _ _ => true | _ => false) = true) (hi : (P.info? ty).map (·.size) = some cs.size) :
    (results fn tmps).run P w = .ok (.tuple #[tmps.getD q undef, .agg cs]) w := by
  have hp' : tmps[p]?.getD undef = .pointer (some ⟨g, 0, none⟩) := by simpa using hp
  simp [results, h, hp', asAddr, run_loadVar_row w g t ty cs fr d hg hu hd hi]

theorem own_weaken' {w : World} {base base' : Nat} {e : TypeId} {s : Nat} {v : Value} {n : Nat} {xs : List Value} (h : w.ownsRow base e s v n xs) (hb : base' ≤ base) : w.ownsRow base' e s v n xs := by
  refine ⟨h.1, ?_⟩
  rcases h.2 with h0 | ⟨g, cap, cur, h1, h2, h3⟩
  · exact .inl h0
  · exact .inr ⟨g, cap, cur, h1, Nat.le_trans hb h2, h3⟩
/-- A row of the call's own stays when a block ahead of it is stored whole. -/
theorem own_setRow {w : World} {base : Nat} {e : TypeId} {s : Nat} {v : Value} {n : Nat} {xs : List Value} (h : w.ownsRow base e s v n xs) {g : Nat} {cs : Array Value} (hg : g < base) : (w.setRow g cs).ownsRow base e s v n xs := by
  refine ⟨h.1, ?_⟩
  rcases h.2 with h0 | ⟨g', cap, cur, h1, h2, h3, h4⟩
  · exact .inl h0
  · exact .inr ⟨g', cap, cur, h1, h2, (setRow_other w g g' cs (by omega)).trans h3, h4⟩

/-- A call hands back the words of a text, or its first fault. -/
def GivesCut (s : ByteArray) (w : World) (e : Ending) (w' : World) : Prop :=
  Below w.heap.size w w' ∧ match cutAll s.data.toList with
  | .error (err, p) => e = .returned (.tuple #[.slice none 0 0, .agg #[.int .i64 (err : Int), .int .i64 (p : Int)]])
  | .ok l => ∃ v, e = .returned (.tuple #[v, .agg #[.int .i64 0, .int .i64 0]]) ∧ w'.ownsRow w.heap.size 35 4 v l.length (wordsC s l)

set_option maxHeartbeats 8000000 in
set_option maxRecDepth 100000 in
theorem Cut_any (s : ByteArray) (w : World) (hs : s.size ≤ 140737488351232) (hE : Errs w) : Calls Tryd.prog 7 #[.string s] w (GivesCut s w) := by
  have hlen : s.data.toList.length = s.size := by simp
  obtain ⟨i0, hi0, hz0, hz1, hz2⟩ := info_parts info_word
  have hblk := heap_alloc_new w (.cells #[.int .i64 0, .int .i64 0] 26)
  have hbel : Below w.heap.size w (w.alloc (.cells #[.int .i64 0, .int .i64 0] 26)) := (Below.refl _ _).alloc (Nat.le_refl _) _
  have B0 := Lib.hid hblk
  have B1 := Lib.hid hbel
  have HF := Lib.hid size_fault
  have HWs := Lib.hid size_word
  have HE := Lib.hid hE
  clear hblk hbel hE
  by_cases hbig : 16384 < s.size
  · have hc : cutAll s.data.toList = .error (2, s.size) := by unfold cutAll; rw [hlen, if_pos hbig]
    have HC := Lib.hid hc
    have d1 : decide ((16384 : Int) < (s.size : Int)) = true := by simp; omega
    clear hc hlen
    go_enter Tryd.func7, Tryd.ntmps7
    go_wp2_with (refine wpList_store_row rfl 26 (.tmp 3) (.tmp 12) rfl w.heap.size #[.int .i64 2, .int .i64 (s.size : Int)] rfl rfl 26 _ B0.out HF.out rfl (fault_one _ _) ?_)
    refine bodyPost_ret (v := .tuple #[.slice none 0 0, .agg #[.int .i64 2, .int .i64 (s.size : Int)]]) (results_tmp_cell (q := 2) (p := 3) (ty := 26) rfl _ _ w.heap.size 26 #[.int .i64 2, .int .i64 (s.size : Int)] (0, 0) _ rfl (setRow_heap _ w.heap.size _ _ _ _ B0.out) Tryd.underlying26 rfl HF.out) rfl ⟨below_setRow B1.out (Nat.le_refl _) _, ?_⟩
    rw [HC.out]
    rfl
  · have d1 : decide ((16384 : Int) < (s.size : Int)) = false := by simp; omega
    have hg := fun W => gap_any s W hs
    have hgle := gapL_le s.data.toList
    have hcut : cutAll s.data.toList = match cut1 s.data.toList with | .error p => .error (7, p) | .ok t => .ok t := by unfold cutAll; rw [hlen, if_neg hbig]; rfl
    have hc1 : cut1 s.data.toList = cutF (s.size + 1) (s.data.toList.drop (gapL s.data.toList)) (gapL s.data.toList) := by unfold cut1; rw [hlen]
    rw [hlen] at hgle
    obtain ⟨g0, hg0⟩ : ∃ g, g = gapL s.data.toList := ⟨_, rfl⟩
    rw [← hg0] at hg hgle hc1
    obtain ⟨R, hR⟩ : ∃ R, R = cut1 s.data.toList := ⟨_, rfl⟩
    rw [← hR] at hcut hc1
    have HG := Lib.hid hg
    have HCUT := Lib.hid hcut
    have HC1 := Lib.hid hc1
    have HLEN := Lib.hid hlen
    clear hg hcut hc1 hg0 hR hlen
    go_enter Tryd.func7, Tryd.ntmps7
    go_wp2_with fail
    refine (HG.out _).mono ?_
    rintro e w1 ⟨rfl, rfl⟩
    go_wp2_with fail
    generalize w.alloc (.cells #[.int .i64 0, .int .i64 0] 26) = w0 at B0 B1 ⊢
    go_loopw [4, 5] (fun vl va wr => ∃ (V : Value) (k : Nat) (d : List (Nat × Nat × Int × Nat)) (f : Nat), V = vl ∧ va = .int .i64 (k : Int) ∧ k ≤ s.size ∧ d.length ≤ k ∧ s.size < k + f ∧ R = ahead d (cutF f (s.data.toList.drop k) k) ∧ wr.ownsRow (w.heap.size + 1) 35 4 V d.length (wordsC s d) ∧ Below w.heap.size w wr ∧ wr.heap[w.heap.size]? = some (.cells #[.int .i64 0, .int .i64 0] 26 (0, 0)))
      (fun _ va _ => s.size - (intOf va).toNat)
    case atStart => exact ⟨_, g0, [], s.size + 1, rfl, rfl, hgle, Nat.zero_le _, by omega, by rw [ahead_nil]; exact HC1.out, ⟨rfl, .inl ⟨rfl, rfl⟩⟩, B1.out, B0.out⟩
    case round =>
      obtain ⟨V, k, d, f, hV, rfl, hk, hdk, hf, hRk, hown, hbel, hblk⟩ := hrel
      subst hV
      clear B0 B1 HC1
      by_cases hlt : k < s.size
      · have d2 : decide ((k : Int) < (s.size : Int)) = true := by simp; omega
        have hsub : (s.extract k s.size).data.toList = s.data.toList.drop k := Lib.extract_to_end s k
        have hssz : (s.extract k s.size).size = s.size - k := by rw [ByteArray.size_extract]; omega
        have hne : s.data.toList.drop k ≠ [] := by
          intro e
          have h := congrArg List.length e
          rw [List.length_drop, HLEN.out] at h
          simp at h; omega
        have hfw := fun W hE => firstWord_any (s.extract k s.size) W (by omega) (by omega) hE
        rw [firstV_eq, hsub] at hfw
        obtain ⟨q1, q2, q3⟩ := firstW_len (s.data.toList.drop k) (List.length_pos_iff.2 hne)
        rw [List.length_drop, HLEN.out] at q1
        obtain ⟨f', rfl⟩ : ∃ f', f = f' + 1 := ⟨f - 1, by omega⟩
        have hbad := cutF_bad f' k (s.data.toList.drop k) hne
        have hgo := cutF_go f' k (s.data.toList.drop k) d hne
        obtain ⟨x, hx⟩ : ∃ x, x = firstW (s.data.toList.drop k) := ⟨_, rfl⟩
        rw [← hx] at hfw q1 q2 q3 hbad hgo
        obtain ⟨xk, xm, xn⟩ := x
        simp only at hfw q1 q2 q3 hbad hgo
        rw [extract_sub s k xm (by omega)] at hfw
        simp only [List.drop_drop] at hgo
        have HX := Lib.hid hfw
        have HBAD := Lib.hid hbad
        have HGO := Lib.hid hgo
        have HRK := Lib.hid hRk
        have HO := Lib.hid hown
        have HB := Lib.hid hbel
        have HBK := Lib.hid hblk
        have hEr := HE.out.below hbel (Nat.le_refl _)
        clear hfw hbad hgo hRk hown hbel hblk hsub hssz hne hx
        unfold wordV at HX
        obtain ⟨tx, htx⟩ : ∃ t, t = s.extract k (k + xm) := ⟨_, rfl⟩
        have htxs : tx.size = xm := by rw [htx, ByteArray.size_extract]; omega
        rw [← htx] at HX
        by_cases hk0 : xk = 0
        · subst hk0
          have hR2 : R = .error k := by rw [HRK.out, HBAD.out rfl]; rfl
          have hcut : cutAll s.data.toList = .error (7, k) := by rw [HCUT.out, hR2]
          have HR2 := Lib.hid hcut
          have HT := Lib.hid htx
          have HTS := Lib.hid htxs
          clear hR2 hcut HRK HBAD HGO HCUT HLEN HG HE q1 q2 q3 htx htxs HO
          go_wp2_with fail
          refine (HX.out _ hEr).mono ?_
          rintro e w2 ⟨rfl, hb2⟩
          have hnew := heap_alloc_new w2 (.cells #[.int .i64 0, .string ⟨#[]⟩, .int .i64 0, .int .i64 0] 35)
          have hrow := setRow_heap _ w2.heap.size _ #[.int .i64 0, .string tx, .int .i64 xn, .int .i64 0] _ _ hnew
          have hbw : Below wr.heap.size wr ((w2.alloc (.cells #[.int .i64 0, .string ⟨#[]⟩, .int .i64 0, .int .i64 0] 35)).setRow w2.heap.size #[.int .i64 0, .string tx, .int .i64 xn, .int .i64 0]) := below_setRow (hb2.alloc hb2.size _) hb2.size _
          have c0 : ((w2.alloc (.cells #[.int .i64 0, .string ⟨#[]⟩, .int .i64 0, .int .i64 0] 35)).setRow w2.heap.size #[.int .i64 0, .string tx, .int .i64 xn, .int .i64 0]).cell? ⟨w2.heap.size, 0, none⟩ = some (.int .i64 0) := cell_of_row _ w2.heap.size 0 _ _ _ hrow
          have hbig2 : w.heap.size < wr.heap.size := (Array.getElem?_eq_some_iff.1 HBK.out).1
          have hfl := (hbw.block w.heap.size hbig2).trans HBK.out
          have hbelw := HB.out.trans (hbw.mono HB.out.size)
          have N1 := Lib.hid hnew
          have N2 := Lib.hid hfl
          have N3 := Lib.hid hbelw
          clear hnew hrow hbw hfl hbelw hb2 HX hEr
          go_wp2_with (first
            | (refine wpList_store_row rfl 35 (.tmp 6) (.tmp 22) rfl w2.heap.size #[.int .i64 0, .string tx, .int .i64 xn, .int .i64 0] rfl rfl 35 _ N1.out HWs.out rfl (word_one _ _ _ _) ?_)
            | (refine wpList_store_row rfl 26 (.tmp 3) (.tmp 27) rfl w.heap.size #[.int .i64 7, .int .i64 (k : Int)] rfl rfl 26 _ N2.out HF.out rfl (fault_one _ _) ?_))
          refine bodyPost_ret (v := .tuple #[.slice none 0 0, .agg #[.int .i64 7, .int .i64 (k : Int)]]) (results_tmp_cell (q := 2) (p := 3) (ty := 26) rfl _ _ w.heap.size 26 #[.int .i64 7, .int .i64 (k : Int)] (0, 0) _ rfl (setRow_heap _ w.heap.size _ _ _ _ N2.out) Tryd.underlying26 rfl HF.out) rfl ⟨below_setRow N3.out (Nat.le_refl _) _, ?_⟩
          rw [HR2.out]
          rfl
        · have q4 := q2 hk0
          have hgo := HGO.out hk0
          have hgap := fun W => gap_any (s.extract (k + xm) s.size) W (by rw [ByteArray.size_extract]; omega)
          rw [show (s.extract (k + xm) s.size).data.toList = s.data.toList.drop (k + xm) from Lib.extract_to_end s (k + xm)] at hgap
          have hgle := gapL_le (s.data.toList.drop (k + xm))
          rw [List.length_drop, HLEN.out] at hgle
          obtain ⟨g, hg⟩ : ∃ g, g = gapL (s.data.toList.drop (k + xm)) := ⟨_, rfl⟩
          rw [← hg] at hgap hgle hgo
          have hRn := HRK.out.trans hgo
          have hwc : wordsC s (d ++ [(xk, xm, xn, k)]) = wordsC s d ++ [.int .i64 (xk : Int), .string tx, .int .i64 xn, .int .i64 (k : Int)] := by rw [wordsC_snoc, htx]; rfl
          have hkx : ((xk : Int) == 0) = false := by simpa using hk0
          have HRN := Lib.hid hRn
          have HWC := Lib.hid hwc
          have HGP := Lib.hid hgap
          have HT := Lib.hid htx
          clear hgo hRn hwc hgap htx HRK HBAD HGO hg q2 q3
          go_wp2_with fail
          refine (HX.out _ hEr).mono ?_
          rintro e w2 ⟨rfl, hb2⟩
          have hnew := heap_alloc_new w2 (.cells #[.int .i64 0, .string ⟨#[]⟩, .int .i64 0, .int .i64 0] 35)
          have hrow := setRow_heap _ w2.heap.size _ #[.int .i64 (xk : Int), .string tx, .int .i64 xn, .int .i64 0] _ _ hnew
          have hbw : Below wr.heap.size wr ((w2.alloc (.cells #[.int .i64 0, .string ⟨#[]⟩, .int .i64 0, .int .i64 0] 35)).setRow w2.heap.size #[.int .i64 (xk : Int), .string tx, .int .i64 xn, .int .i64 0]) := below_setRow (hb2.alloc hb2.size _) hb2.size _
          have hbb := hb2.size
          have N1 := Lib.hid hnew
          have c0 := cell_of_row _ w2.heap.size 0 _ _ _ hrow
          have c3 := cell_of_row _ w2.heap.size 3 _ _ _ hrow
          have f3 := frozen_of_row _ w2.heap.size 3 _ _ hrow
          have hr4 := heap_setCell_same _ w2.heap.size 3 _ _ (.int .i64 (k : Int)) hrow
          obtain ⟨w4, hw4⟩ : ∃ w4, w4 = ((w2.alloc (.cells #[.int .i64 0, .string ⟨#[]⟩, .int .i64 0, .int .i64 0] 35)).setRow w2.heap.size #[.int .i64 (xk : Int), .string tx, .int .i64 xn, .int .i64 0]).setCell ⟨w2.heap.size, 3, none⟩ (.int .i64 (k : Int)) := ⟨_, rfl⟩
          have hr4' : w4.heap[w2.heap.size]? = some (.cells #[.int .i64 (xk : Int), .string tx, .int .i64 xn, .int .i64 (k : Int)] 35 (0, 0)) := by rw [hw4]; exact hr4
          have hbw4 : Below wr.heap.size wr w4 := by rw [hw4]; exact hbw.setCell hbb _
          have hlt4 : w2.heap.size < w4.heap.size := (Array.getElem?_eq_some_iff.1 hr4').1
          have hbw5 : Below wr.heap.size wr (w4.alloc (.cells #[.int .i64 (xk : Int), .string tx, .int .i64 xn, .int .i64 (k : Int)] 35)) := hbw4.alloc hbw4.size _
          have hown5 := own_below HO.out hbw5
          have hr5 : (w4.alloc (.cells #[.int .i64 (xk : Int), .string tx, .int .i64 xn, .int .i64 (k : Int)] 35)).heap[w2.heap.size]? = some (.cells #[.int .i64 (xk : Int), .string tx, .int .i64 xn, .int .i64 (k : Int)] 35 (0, 0)) := (Below.heap_alloc w4 _ _ hlt4).trans hr4'
          have hnews : ∀ j u, ([.int .i64 (xk : Int), .string tx, .int .i64 xn, .int .i64 (k : Int)] : List Value)[j]? = some u → (w4.alloc (.cells #[.int .i64 (xk : Int), .string tx, .int .i64 xn, .int .i64 (k : Int)] 35)).cell? (Addr.add ⟨w4.heap.size, 0, none⟩ j) = some u := fun j u hu => by
            rw [Addr.add_lit, Nat.zero_add, cell_of_row _ w4.heap.size j _ _ _ (heap_alloc_new w4 _), ← hu]
            simp
          have hone : ∀ u ∈ ([.int .i64 (xk : Int), .string tx, .int .i64 xn, .int .i64 (k : Int)] : List Value), u.oneCell' = true := fun u hu => by
            simp only [List.mem_cons, List.not_mem_nil, or_false] at hu
            rcases hu with rfl | rfl | rfl | rfl <;> rfl
          have h63 : d.length + 1 ≤ maxLen := by unfold maxLen; omega
          have hby : (d.length + 1) * 40 ≤ 140737488355328 := by omega
          have hsz1 : w.heap.size + 1 ≤ wr.heap.size := (Array.getElem?_eq_some_iff.1 HBK.out).1
          have hbase : w.heap.size + 1 ≤ (w4.alloc (.cells #[.int .i64 (xk : Int), .string tx, .int .i64 xn, .int .i64 (k : Int)] 35)).heap.size := Nat.le_trans hsz1 hbw5.size
          have hne : ∀ g', V.ownBlock = some g' → w.heap.size + 1 ≤ g' ∧ g' < wr.heap.size := fun g' h => HO.out.lt g' h
          have HW4 := Lib.hid hw4
          have N4 := Lib.hid hr4'
          have N5 := Lib.hid hown5
          have N6 := Lib.hid hr5
          have N7 := Lib.hid hnews
          have N8 := Lib.hid hbw5
          have N9 := Lib.hid hne
          clear hnew hb2 HX hEr hrow hbw hr4 hw4 hr4' hbw4 hown5 hr5 hnews hbw5 hlt4 hne HO
          go_wp2_with (first
            | (refine wpList_store_row rfl 35 (.tmp 6) (.tmp 22) rfl w2.heap.size #[.int .i64 (xk : Int), .string tx, .int .i64 xn, .int .i64 0] rfl rfl 35 _ N1.out HWs.out rfl (word_one _ _ _ _) ?_)
            | (rw [← HW4.out]
               refine wpList_load_row rfl 35 (.tmp 6) rfl w2.heap.size rfl 35 #[.int .i64 (xk : Int), .string tx, .int .i64 xn, .int .i64 (k : Int)] (0, 0) _ N4.out Tryd.underlying35 rfl HWs.out ?_)
            | (at_builtin
               refine wpList_append_own _ rfl (.tmp 30) (.tmp 32) 23 rfl (w.heap.size + 1) 35 i0 _ 4 40 Tryd.underlying23 hi0 hz0 hz1 hz2 rfl (by decide) V d.length (wordsC s d) rfl N5.out ⟨w4.heap.size, 0, none⟩ 1 1 [.int .i64 (xk : Int), .string tx, .int .i64 xn, .int .i64 (k : Int)] rfl rfl N7.out hone h63 hby hbase ?_
               intro v5 w5 hown5 hg5 _
               have c5 : w5.cell? ⟨w2.heap.size, 1, none⟩ = some (.string tx) := hg5.cell (cell_of_row _ w2.heap.size 1 _ _ _ N6.out) (fun e => by have := (N9.out _ e.symm).2; simp only at this; omega)
               have O5 := Lib.hid hown5
               have G5 := Lib.hid hg5
               clear hown5 hg5 c0 c3 f3))
          refine (HGP.out _).mono ?_
          rintro e w6 ⟨rfl, rfl⟩
          have hbel8 := HB.out.trans (N8.out.mono HB.out.size)
          have hbel6 : Below w.heap.size w w6 := hbel8.grown G5.out hbel8.size (fun g' h => by have := (N9.out g' h).1; omega)
          have hlt0 : w.heap.size < wr.heap.size := hsz1
          have hbk8 := (N8.out.block w.heap.size hlt0).trans HBK.out
          have hbk6 := (G5.out.block w.heap.size (Nat.lt_of_lt_of_le hlt0 N8.out.size) (fun e => by have := (N9.out _ e.symm).1; omega)).trans hbk8
          have hown6 : w6.ownsRow (w.heap.size + 1) 35 4 v5 (d ++ [(xk, xm, xn, k)]).length (wordsC s (d ++ [(xk, xm, xn, k)])) := by
            rw [HWC.out, List.length_append]
            exact O5.out
          have P1 := Lib.hid hbel6
          have P2 := Lib.hid hbk6
          have P3 := Lib.hid hown6
          clear hbel8 hbel6 hbk8 hbk6 hown6 c5 N4 N5 N6 N7 N8 N9 O5 G5 HB HBK N1 HW4
          go_wp2_with fail
          refine ⟨⟨v5, k + xm + g, d ++ [(xk, xm, xn, k)], f', rfl, by go_num, by omega, by simp; omega, by omega, ?_, P3.out, P1.out, P2.out⟩, ?_⟩
          · exact HRN.out
          · simp [intOf]; omega
      · obtain rfl : k = s.size := by omega
        have d2 : decide ((s.size : Int) < (s.size : Int)) = false := by simp
        have hnil : s.data.toList.drop s.size = [] := List.drop_of_length_le (by rw [HLEN.out]; exact Nat.le_refl _)
        obtain ⟨f', rfl⟩ : ∃ f', f = f' + 1 := ⟨f - 1, by omega⟩
        have hR2 : R = .ok (d ++ [(0, 0, 0, s.size)]) := by rw [hRk, hnil, cutF_end]; rfl
        have hcut : cutAll s.data.toList = .ok (d ++ [(0, 0, 0, s.size)]) := by rw [HCUT.out, hR2]
        have hwc : wordsC s (d ++ [(0, 0, 0, s.size)]) = wordsC s d ++ [.int .i64 0, .string ⟨#[]⟩, .int .i64 0, .int .i64 (s.size : Int)] := by
          rw [wordsC_snoc]
          unfold wordC
          rw [show s.extract s.size (s.size + 0) = ByteArray.empty from extract_nil s s.size]
          rfl
        have hb2 : Below wr.heap.size wr (wr.alloc (.cells #[.int .i64 0, .string ⟨#[]⟩, .int .i64 0, .int .i64 (s.size : Int)] 35)) := (Below.refl _ _).alloc (Nat.le_refl _) _
        have hown2 := own_below hown hb2
        have hnews : ∀ j u, ([.int .i64 0, .string ⟨#[]⟩, .int .i64 0, .int .i64 (s.size : Int)] : List Value)[j]? = some u → (wr.alloc (.cells #[.int .i64 0, .string ⟨#[]⟩, .int .i64 0, .int .i64 (s.size : Int)] 35)).cell? (Addr.add ⟨wr.heap.size, 0, none⟩ j) = some u := fun j u hu => by
          rw [Addr.add_lit, Nat.zero_add, cell_of_row _ wr.heap.size j _ _ _ (heap_alloc_new wr _), ← hu]
          simp
        have hone : ∀ u ∈ ([.int .i64 0, .string ⟨#[]⟩, .int .i64 0, .int .i64 (s.size : Int)] : List Value), u.oneCell' = true := fun u hu => by
          simp only [List.mem_cons, List.not_mem_nil, or_false] at hu
          rcases hu with rfl | rfl | rfl | rfl <;> rfl
        have h63 : d.length + 1 ≤ maxLen := by unfold maxLen; omega
        have hby : (d.length + 1) * 40 ≤ 140737488355328 := by omega
        have hsz1 : w.heap.size + 1 ≤ wr.heap.size := (Array.getElem?_eq_some_iff.1 hblk).1
        have hbase : w.heap.size + 1 ≤ (wr.alloc (.cells #[.int .i64 0, .string ⟨#[]⟩, .int .i64 0, .int .i64 (s.size : Int)] 35)).heap.size := Nat.le_trans hsz1 hb2.size
        have hbk2 := (hb2.block w.heap.size hsz1).trans hblk
        have hbel2 := hbel.trans (hb2.mono hbel.size)
        have HO := Lib.hid hown2
        have HC := Lib.hid hcut
        have HW := Lib.hid hwc
        have HN := Lib.hid hnews
        have HB := Lib.hid hbel2
        have HK := Lib.hid hbk2
        have HL := hown2.lt
        have HLT := Lib.hid HL
        clear hRk hR2 hcut hwc hb2 hown hown2 hnews hbel hbel2 hblk hbk2 HL hnil HCUT HLEN HG HE
        go_wp2_with (first
          | (at_builtin
             refine wpList_append_own _ rfl (.tmp 45) (.tmp 48) 23 rfl (w.heap.size + 1) 35 i0 _ 4 40 Tryd.underlying23 hi0 hz0 hz1 hz2 rfl (by decide) V d.length (wordsC s d) rfl HO.out ⟨wr.heap.size, 0, none⟩ 1 1 [.int .i64 0, .string ⟨#[]⟩, .int .i64 0, .int .i64 (s.size : Int)] rfl rfl HN.out hone h63 hby hbase ?_
             intro v5 w5 hown5 hg5 _
             have hbk5 := (hg5.block w.heap.size (Array.getElem?_eq_some_iff.1 HK.out).1 (fun e => by have := (HLT.out _ e.symm).1; omega)).trans HK.out
             have hbel5 : Below w.heap.size w w5 := HB.out.grown hg5 HB.out.size (fun g' h => by have := (HLT.out g' h).1; omega)
             have P1 := Lib.hid hown5
             have P2 := Lib.hid hbk5
             have P3 := Lib.hid hbel5
             clear hown5 hg5 hbk5 hbel5)
          | (refine wpList_store_row rfl 26 (.tmp 3) (.tmp 50) rfl w.heap.size #[.int .i64 0, .int .i64 0] rfl rfl 26 _ P2.out HF.out rfl (fault_one _ _) ?_))
        refine bodyPost_ret (v := .tuple #[v5, .agg #[.int .i64 0, .int .i64 0]]) (results_tmp_cell (q := 2) (p := 3) (ty := 26) rfl _ _ w.heap.size 26 #[.int .i64 0, .int .i64 0] (0, 0) _ rfl (setRow_heap _ w.heap.size _ _ _ _ P2.out) Tryd.underlying26 rfl HF.out) rfl ⟨below_setRow P3.out (Nat.le_refl _) _, ?_⟩
        rw [HC.out]
        refine ⟨v5, rfl, ?_⟩
        rw [HW.out, List.length_append]
        exact own_weaken' (own_setRow P1.out (Nat.lt_succ_self _)) (Nat.le_succ _)
end Go.Proofs.YtolcaebdmapfbaaDoor
