/-
  Rows of slices of bytes: what a list of texts is in memory, and how it stays.
-/
import Derived.Test.YtahffcbinpkdpaaDoorInf
namespace Go.Proofs.YtahffcbinpkdpaaDoor
open Go Go.RowKit

theorem info_bytes : (Tryd.prog.info? 25).map (fun i => (i.zero, i.size, i.bytes)) = some (some (.slice none 0 0), 1, 24) := by kernel_rfl

/-- The values xs are slices that hold the texts ts. -/
def Texts (w : World) (xs : List Value) (ts : List (List UInt8)) : Prop := xs.length = ts.length ∧ ∀ i (h : i < ts.length), ∃ a c, xs[i]? = some (.slice a ts[i].length c) ∧ Txt w a ts[i] ∧ ts[i].length ≤ c ∧ c ≤ maxLen

theorem Texts.nil (w : World) : Texts w [] [] := ⟨rfl, fun i h => by simp at h⟩
theorem Texts.below {w w' : World} {xs : List Value} {ts : List (List UInt8)} (h : Texts w xs ts) (hb : Below w.heap.size w w') : Texts w' xs ts :=
  ⟨h.1, fun i hi => by
    obtain ⟨a, c, h1, h2, h3⟩ := h.2 i hi
    exact ⟨a, c, h1, h2.below hb, h3⟩⟩
theorem Texts.snoc {w : World} {xs : List Value} {ts : List (List UInt8)} (h : Texts w xs ts) {a : Option Addr} {c : Nat} {t : List UInt8} (ht : Txt w a t) (hc : t.length ≤ c) (hm : c ≤ maxLen) : Texts w (xs ++ [.slice a t.length c]) (ts ++ [t]) := by
  refine ⟨by rw [List.length_append, List.length_append, h.1]; rfl, fun i hi => ?_⟩
  by_cases hlt : i < ts.length
  · obtain ⟨a', c', h1, h2⟩ := h.2 i hlt
    refine ⟨a', c', ?_, ?_⟩
    · rw [List.getElem?_append_left (by rw [h.1]; exact hlt), h1, List.getElem_append_left hlt]
    · rw [List.getElem_append_left hlt]; exact h2
  · have e : i = ts.length := by simp at hi; omega
    subst e
    refine ⟨a, c, ?_, ?_⟩
    · rw [List.getElem?_append_right (by rw [h.1]; exact Nat.le_refl _), h.1]
      simp
    · simp only [List.getElem_append_right (Nat.le_refl _), Nat.sub_self, List.getElem_cons_zero]
      exact ⟨ht, hc, hm⟩

/-- The texts lie at their blocks' beginnings. -/
def Heads (xs : List Value) (ts : List (List UInt8)) : Prop := ∀ i (h : i < ts.length), ts[i] ≠ [] → ∃ b n c, xs[i]? = some (.slice (some ⟨b, 0, none⟩) n c)

theorem Heads.nil : Heads [] [] := fun i h => by simp at h
theorem Heads.snoc {xs : List Value} {ts : List (List UInt8)} (hl : xs.length = ts.length) (h : Heads xs ts) {a : Option Addr} {c n : Nat} {t : List UInt8} (ha : t ≠ [] → ∃ b, a = some ⟨b, 0, none⟩) : Heads (xs ++ [.slice a n c]) (ts ++ [t]) := by
  intro i hi hne
  by_cases hlt : i < ts.length
  · rw [List.getElem_append_left hlt] at hne
    obtain ⟨b, n', c', h1⟩ := h i hlt hne
    exact ⟨b, n', c', by rw [List.getElem?_append_left (by rw [hl]; exact hlt), h1]⟩
  · have e : i = ts.length := by simp at hi; omega
    subst e
    rw [List.getElem_append_right (Nat.le_refl _)] at hne
    simp only [Nat.sub_self, List.getElem_cons_zero] at hne
    obtain ⟨b, rfl⟩ := ha hne
    exact ⟨b, n, c, by rw [List.getElem?_append_right (by rw [hl]; exact Nat.le_refl _), hl]; simp⟩

/-- A row of slices that grows keeps the texts: no text's block is the row's own. -/
theorem Texts.grown {w w' : World} {base : Nat} {v : Value} {xs : List Value} {ts : List (List UInt8)} (h : Texts w xs ts) (hh : Heads xs ts) (hown : w.ownsRow base 25 1 v ts.length xs) (hg : w.grownBy w' v.ownBlock) : Texts w' xs ts := by
  refine ⟨h.1, fun i hi => ?_⟩
  obtain ⟨a, c, h1, h2, h3⟩ := h.2 i hi
  refine ⟨a, c, h1, ?_, h3⟩
  by_cases hne : ts[i] = []
  · rw [hne]; exact Txt.nil _ _
  · obtain ⟨b, n, c', h4⟩ := hh i hi hne
    rw [h1] at h4
    injection h4 with h4
    injection h4 with h4 h5 h6
    subst h4
    intro _
    obtain ⟨b', o', e, hlt, hc⟩ := h2 hne
    simp only [Option.some.injEq, Addr.mk.injEq, and_true] at e
    obtain ⟨rfl, rfl⟩ := e
    have hblk : some b ≠ v.ownBlock := by
      intro hb
      have hpos : 0 < ts[i].length := List.length_pos_iff.2 hne
      have hc0 := hc 0 hpos
      rcases hown.2 with ⟨rfl, h0⟩ | ⟨g, cap, cur, rfl, _, hgc, hnc, _, hsz, htake⟩
      · simp [Value.ownBlock] at hb
      · have hbg : b = g := by simpa [Value.ownBlock] using hb
        subst hbg
        have hx0 : xs[0]? = cur[0]? := by
          rw [← htake, List.getElem?_take, if_pos (by omega)]
          simp
        have hcell : w.cell? ⟨b, 0 + 0, none⟩ = cur[0]? := by simp [World.cell?, hgc]
        obtain ⟨a0, c0, h00, _⟩ := h.2 0 (by omega)
        rw [hcell, ← hx0, h00] at hc0
        injection hc0 with hc0
        cases hc0
    exact ⟨b, 0, rfl, Nat.lt_of_lt_of_le hlt hg.size, fun j hj => hg.cell (hc j hj) hblk⟩

/-- One more text, which a call has just made: wr the world ahead of that call, w1 behind it, w2 behind the row's growth. -/
theorem Texts.push {wr w1 w2 : World} {base : Nat} {v : Value} {xs : List Value} {ts : List (List UInt8)} {o : Obj} {a : Option Addr} {c : Nat} {t : List UInt8} (h : Texts wr xs ts) (hh : Heads xs ts) (hown : wr.ownsRow base 25 1 v ts.length xs) (hb : Below wr.heap.size wr w1)
    (hg : (w1.alloc o).grownBy w2 v.ownBlock) (ht : Txt w1 a t) (ha : t ≠ [] → ∃ b, a = some ⟨b, 0, none⟩ ∧ wr.heap.size ≤ b) (hc : t.length ≤ c) (hm : c ≤ maxLen) :
    Texts w2 (xs ++ [.slice a t.length c]) (ts ++ [t]) ∧ Heads (xs ++ [.slice a t.length c]) (ts ++ [t]) := by
  have hba : Below wr.heap.size wr (w1.alloc o) := hb.alloc hb.size o
  have hown2 : (w1.alloc o).ownsRow base 25 1 v ts.length xs := by
    refine ⟨hown.1, ?_⟩
    rcases hown.2 with h | ⟨g, cap, cur, e, hg, hgc, h5⟩
    · exact .inl h
    · exact .inr ⟨g, cap, cur, e, hg, (hba.block g (Array.getElem?_eq_some_iff.1 hgc).1).trans hgc, h5⟩
  refine ⟨((h.below hba).grown hh hown2 hg).snoc ?_ hc hm, hh.snoc h.1 fun hne => ?_⟩
  · intro hne
    obtain ⟨b, rfl, hbl⟩ := ha hne
    obtain ⟨b', o', e, hlt, hcell⟩ := ht hne
    simp only [Option.some.injEq, Addr.mk.injEq, and_true] at e
    obtain ⟨rfl, rfl⟩ := e
    have hblk : some b ≠ v.ownBlock := fun e => by
      have := (hown.lt b e.symm).2
      omega
    refine ⟨b, 0, rfl, Nat.lt_of_lt_of_le (Nat.lt_of_lt_of_le hlt (by simp)) hg.size, fun j hj => hg.cell (a := ⟨b, 0 + j, none⟩) ?_ hblk⟩
    exact (World.cell?_alloc_lt w1 _ _ (by simpa using hlt)).trans (hcell j hj)
  · obtain ⟨b, rfl, _⟩ := ha hne
    exact ⟨b, rfl⟩

/-- A row of slices: its form, its length, its cells. -/
theorem row_form {w : World} {base : Nat} {v : Value} {xs : List Value} {n : Nat} (h : w.ownsRow base 25 1 v n xs) : ∃ a c, v = .slice a n c ∧ n ≤ c ∧ c ≤ maxLen ∧ (0 < n → ∃ g, a = some ⟨g, 0, none⟩ ∧ base ≤ g ∧ g < w.heap.size ∧ ∀ i, i < n → w.cell? ⟨g, i, none⟩ = xs[i]?) := by
  rcases h.2 with ⟨rfl, rfl⟩ | ⟨g, cap, cur, rfl, hb, hg, hnc, hcm, hsz, ht⟩
  · exact ⟨none, 0, rfl, Nat.le_refl _, Nat.zero_le _, fun h => absurd h (by omega)⟩
  · refine ⟨_, cap, rfl, hnc, hcm, fun _ => ⟨g, rfl, hb, (Array.getElem?_eq_some_iff.1 hg).1, fun i hi => ?_⟩⟩
    rw [← ht, List.getElem?_take, if_pos (by omega)]
    simp [World.cell?, hg]

end Go.Proofs.YtahffcbinpkdpaaDoor
