/-
  What both cuts hand back, said alike; the document's Bad.
-/
import Derived.Test.YtolcaebdmapfbaaDoorQcu
import Derived.Test.YtolcaebdmapfbaaDoorOps3
namespace Go.Proofs.YtolcaebdmapfbaaDoor
open Go Go.RowKit

/-- A row of words in memory. -/
def Rows4 (w : World) (s : ByteArray) (L : List (Nat × Nat × Int × Nat)) (a : Option Addr) : Prop := ∀ i (h : i < L.length), ∃ g, a = some ⟨g, 0, none⟩ ∧ g < w.heap.size ∧
  w.cell? ⟨g, i * 4, none⟩ = some (.int .i64 (L[i].1 : Int)) ∧ w.cell? ⟨g, i * 4 + 1, none⟩ = some (.string (s.extract L[i].2.2.2 (L[i].2.2.2 + L[i].2.1))) ∧ w.cell? ⟨g, i * 4 + 2, none⟩ = some (.int .i64 L[i].2.2.1) ∧ w.cell? ⟨g, i * 4 + 3, none⟩ = some (.int .i64 (L[i].2.2.2 : Int))
theorem Rows4.below {w w' : World} {s : ByteArray} {L : List (Nat × Nat × Int × Nat)} {a : Option Addr} (h : Rows4 w s L a) (hb : Below w.heap.size w w') : Rows4 w' s L a := fun i hi => by
  obtain ⟨g, h1, h2, c0, c1, c2, c3⟩ := h i hi
  exact ⟨g, h1, Nat.lt_of_lt_of_le h2 hb.size, (hb.cell (p := ⟨g, _, none⟩) h2).trans c0, (hb.cell (p := ⟨g, _, none⟩) h2).trans c1, (hb.cell (p := ⟨g, _, none⟩) h2).trans c2, (hb.cell (p := ⟨g, _, none⟩) h2).trans c3⟩
theorem wordsC_at (s : ByteArray) : ∀ (L : List (Nat × Nat × Int × Nat)) (i : Nat) (h : i < L.length) (j : Nat), j < 4 → (wordsC s L)[i * 4 + j]? = (wordC s L[i])[j]?
  | [], i, h, j, hj => by simp at h
  | x :: L, 0, h, j, hj => by
    have e : wordsC s (x :: L) = wordC s x ++ wordsC s L := by simp [wordsC]
    rw [e, Nat.zero_mul, Nat.zero_add, List.getElem?_append_left (by show j < 4; exact hj)]
    rfl
  | x :: L, i + 1, h, j, hj => by
    have e : wordsC s (x :: L) = wordC s x ++ wordsC s L := by simp [wordsC]
    have hl : (wordC s x).length = 4 := rfl
    rw [e, List.getElem?_append_right (by rw [hl]; omega), hl, show (i + 1) * 4 + j - 4 = i * 4 + j by omega]
    exact wordsC_at s L i (by simpa using h) j hj
theorem rows_own {w : World} {base : Nat} {t : TypeId} {v : Value} {s : ByteArray} {L : List (Nat × Nat × Int × Nat)} (h : w.ownsRow base t 4 v L.length (wordsC s L)) : ∃ a c, v = .slice a L.length c ∧ Rows4 w s L a := by
  rcases h.2 with ⟨rfl, h0⟩ | ⟨g, cap, cur, rfl, hb, hg, hnc, hcm, hsz, ht⟩
  · rw [h0]
    exact ⟨none, 0, rfl, fun i hi => by omega⟩
  · have hc : ∀ i, i < L.length * 4 → w.cell? ⟨g, i, none⟩ = (wordsC s L)[i]? := fun i hi => by
      rw [← ht, List.getElem?_take, if_pos hi]
      simp [World.cell?, hg]
    refine ⟨_, cap, rfl, fun i hi => ⟨g, rfl, (Array.getElem?_eq_some_iff.1 hg).1, ?_, ?_, ?_, ?_⟩⟩
    · have h := wordsC_at s L i hi 0 (by decide)
      rw [Nat.add_zero] at h
      rw [hc (i * 4) (by omega), h]; rfl
    · rw [hc _ (by omega), wordsC_at s L i hi 1 (by decide)]; rfl
    · rw [hc _ (by omega), wordsC_at s L i hi 2 (by decide)]; rfl
    · rw [hc _ (by omega), wordsC_at s L i hi 3 (by decide)]; rfl

def cutL (D : List UInt8) : List (Nat × Nat × Int × Nat) := match cutAll D with | .error _ => [] | .ok l => l
def cutE (D : List UInt8) : Nat × Nat := match cutAll D with | .error x => x | .ok _ => (0, 0)
theorem cutL_len (D : List UInt8) : (cutL D).length ≤ D.length + 1 := by
  unfold cutL cutAll
  by_cases h : 16384 < D.length
  · rw [if_pos h]; simp
  · rw [if_neg h]
    unfold cut1
    cases hc : cutF (D.length + 1) (D.drop (gapL D)) (gapL D) with
    | error p => simp
    | ok t =>
      have := (cutF_length _ _ _ _ hc).1
      rw [List.length_drop] at this
      simp only
      omega
def GivesRows (s : ByteArray) (w : World) (e : Ending) (w' : World) : Prop :=
  Below w.heap.size w w' ∧ ∃ a c, e = .returned (.tuple #[.slice a (cutL s.data.toList).length c, .agg #[.int .i64 ((cutE s.data.toList).1 : Int), .int .i64 ((cutE s.data.toList).2 : Int)]]) ∧ Rows4 w' s (cutL s.data.toList) a
theorem Cut_rows (s : ByteArray) (w : World) (hs : s.size ≤ 140737488351232) (hE : Errs w) : Calls Tryd.prog 7 #[.string s] w (GivesRows s w) := by
  refine (Cut_any s w hs hE).mono ?_
  rintro e w' ⟨hb, h⟩
  refine ⟨hb, ?_⟩
  unfold cutL cutE
  cases hc : cutAll s.data.toList with
  | error x =>
    obtain ⟨er, p⟩ := x
    rw [hc] at h
    exact ⟨none, 0, h, fun i hi => absurd hi (by simp)⟩
  | ok l =>
    rw [hc] at h
    obtain ⟨v, he, hown⟩ := h
    obtain ⟨a, c, rfl, hr⟩ := rows_own hown
    exact ⟨a, c, he, hr⟩
theorem rCut_rows (s : ByteArray) (w : World) (hs : s.size ≤ 140737488351232) : Calls Tryd.prog 8 #[.string s] w (GivesRows s w) := by
  refine (rCut_any s w hs).mono ?_
  rintro e w' ⟨hb, h⟩
  refine ⟨hb, ?_⟩
  unfold cutL cutE
  cases hc : cutAll s.data.toList with
  | error x =>
    obtain ⟨er, p⟩ := x
    rw [hc] at h
    exact ⟨none, 0, h, fun i hi => absurd hi (by simp)⟩
  | ok l =>
    rw [hc] at h
    obtain ⟨v, he, hown⟩ := h
    obtain ⟨a, c, rfl, hr⟩ := rows_own hown
    exact ⟨a, c, he, hr⟩

set_option maxRecDepth 100000 in
set_option maxHeartbeats 2000000 in
theorem rBad_any (er pl : Int) (w : World) : Calls Tryd.prog 9 #[.agg #[.int .i64 er, .int .i64 pl]] w fun e w' => e = .returned (.agg #[.int .i64 er, .int .i64 pl]) ∧ Below w.heap.size w w' := by
  have hrow : ((w.alloc (.cells #[.int .i64 er, .int .i64 pl] 26)).alloc (.cells #[.int .i64 er, .int .i64 pl] 30)).heap[w.heap.size + 1]? = some (.cells #[.int .i64 er, .int .i64 pl] 30 (0, 0)) := by
    have h := heap_alloc_new (w.alloc (.cells #[.int .i64 er, .int .i64 pl] 26)) (.cells #[.int .i64 er, .int .i64 pl] 30)
    rw [show (w.alloc (.cells #[.int .i64 er, .int .i64 pl] 26)).heap.size = w.heap.size + 1 by simp] at h
    exact h
  have hbel : Below w.heap.size w ((w.alloc (.cells #[.int .i64 er, .int .i64 pl] 26)).alloc (.cells #[.int .i64 er, .int .i64 pl] 30)) := ((Below.refl _ _).alloc (Nat.le_refl _) _).alloc (by simp) _
  have HR := Lib.hid hrow
  have HB := Lib.hid hbel
  have HF := Lib.hid size_bad
  clear hrow hbel
  go_enter Tryd.func9, Tryd.ntmps9
  go_wp2
  exact bodyPost_ret (v := .agg #[.int .i64 er, .int .i64 pl]) (results_cell_row (p := 2) (ty := 30) rfl _ _ (w.heap.size + 1) 30 #[.int .i64 er, .int .i64 pl] (0, 0) _ rfl HR.out Tryd.underlying30 rfl HF.out) rfl ⟨rfl, HB.out⟩

theorem bad_same (er pl : Int) (W : World) : (binOp .neq 30 (.agg #[.int .i64 er, .int .i64 pl]) (.agg #[.int .i64 er, .int .i64 pl])).run Tryd.prog W = .ok (.bool false) W := by
  have E : ∀ W, (Op.equalIn 10000 30 (.agg #[.int .i64 er, .int .i64 pl]) (.agg #[.int .i64 er, .int .i64 pl])).run Tryd.prog W = .ok true W := fun W => by
    simp [go_sem, Program.fieldsOf, Tryd.underlying30, part]
  rw [run_neq_struct, E]
  rfl
theorem run_lenS {P : Program} {W : World} {o : Oper} {ρ : Operand → Value} {t e : TypeId} {x : Operand} {a : Option Addr} {n c : Nat} (ho : o.op = .call { callee := .builtin .len, args := #[x], argTypes := #[t] }) (ht : P.underlying t = some (.slice e)) (hx : ρ x = .slice a n c) : (execOp ρ o).run P W = .ok (.value (.int .i64 (n : Int))) W := by
  have he : P.elem t = e := by simp [Program.elem, ht]
  have ht' : P.underlying t = some (.slice (P.elem t)) := by rw [he]; exact ht
  unfold execOp
  simp only [ho, resolve, invoke, builtin, Sem.run_bind, Sem.run_pure, Result.andThen_ok, List.map_toArray, List.map_cons, List.map_nil, hx, run_len_slice W t o.type a n c ht']
  rfl
end Go.Proofs.YtolcaebdmapfbaaDoor
