/-
  A reader in memory: a block of two cells (what is left, whether it is bad), and its laws.
-/
import Derived.Test.YthgcoeienbgmhaaByt
import Derived.Test.YthgcoeienbgmhaaNum
namespace Go.Proofs.Ythgcoeienbgmhaa
open Go Go.RowKit

/-- Block g, of type T, is a reader that holds s. -/
def Rd (T : TypeId) (w : World) (g : Nat) (s : St) : Prop :=
  ∃ a c, w.heap[g]? = some (.cells #[.slice a s.1.length c, .bool s.2] T (0, 0)) ∧ Txt w a s.1 ∧ s.1.length ≤ c ∧ c ≤ maxLen ∧ ∀ b o, a = some ⟨b, o, none⟩ → b ≠ g

theorem Rd.lt {T : TypeId} {w : World} {g : Nat} {s : St} (h : Rd T w g s) : g < w.heap.size := by
  obtain ⟨a, c, hg, _⟩ := h
  exact (Array.getElem?_eq_some_iff.1 hg).1

/-- A reader is kept where its block and the others are. -/
theorem Rd.below {T : TypeId} {w w' : World} {g : Nat} {s : St} (h : Rd T w g s) (hb : Below w.heap.size w w') : Rd T w' g s := by
  have hlt := h.lt
  obtain ⟨a, c, hg, ht, hc, hm, hne⟩ := h
  exact ⟨a, c, (hb.block g hlt).trans hg, ht.below hb, hc, hm, hne⟩

/-- The two cells, in whatever world. -/
theorem two_cells {T : TypeId} {w : World} {g : Nat} {x y : Value} (h : w.heap[g]? = some (.cells #[x, y] T (0, 0))) :
    w.cell? ⟨g, 0, none⟩ = some x ∧ w.cell? ⟨g, 1, none⟩ = some y ∧ w.frozen? ⟨g, 0, none⟩ = false ∧ w.frozen? ⟨g, 1, none⟩ = false :=
  ⟨cell_of_row w g 0 _ T (0, 0) h, cell_of_row w g 1 _ T (0, 0) h, frozen_of_row w g 0 _ T h, frozen_of_row w g 1 _ T h⟩

theorem set_grown (w : World) (g j : Nat) (u : Value) : w.grownBy (w.setCell ⟨g, j, none⟩ u) (some g) :=
  ⟨rfl, rfl, rfl, by simp [World.setCell], fun k _ hk => heap_setCell_other w ⟨g, j, none⟩ k u (fun e => hk (by simp [e]))⟩

theorem grown_trans {a b c : World} {g : Nat} (h : a.grownBy b (some g)) (k : b.grownBy c (some g)) : a.grownBy c (some g) :=
  ⟨k.os.trans h.os, k.tape.trans h.tape, k.output.trans h.output, Nat.le_trans h.size k.size, fun i hi hne => (k.block i (Nat.lt_of_lt_of_le hi h.size) hne).trans (h.block i hi hne)⟩

theorem Txt.grown {w w' : World} {a : Option Addr} {l : List UInt8} {g : Nat} (h : Txt w a l) (hg : w.grownBy w' (some g)) (hne : ∀ b o, a = some ⟨b, o, none⟩ → b ≠ g) : Txt w' a l := fun hl => by
  obtain ⟨b, o, rfl, hlt, hc⟩ := h hl
  exact ⟨b, o, rfl, Nat.lt_of_lt_of_le hlt hg.size, fun i hi => (World.cell?_of_block (w := w) (a := ⟨b, o + i, none⟩) (hg.block b hlt (fun e => hne b o rfl (by injection e)))).trans (hc i hi)⟩

theorem Txt.cut {w : World} {b o : Nat} {l : List UInt8} (h : Txt w (some ⟨b, o, none⟩) l) (k : Nat) : Txt w (some ⟨b, o + k, none⟩) (l.drop k) := fun hl => by
  have hk : k < l.length := by
    rcases Nat.lt_or_ge k l.length with h1 | h1
    · exact h1
    · exact absurd (List.drop_eq_nil_of_le h1) hl
  obtain ⟨b', o', e, hlt, hc⟩ := h (by rintro rfl; simp at hk)
  simp only [Option.some.injEq, Addr.mk.injEq, and_true] at e
  obtain ⟨rfl, rfl⟩ := e
  refine ⟨b, o + k, rfl, hlt, fun i hi => ?_⟩
  rw [List.length_drop] at hi
  rw [Nat.add_assoc, hc (k + i) (by omega), List.getElem_drop]

/-- Both cells written anew. -/
theorem Rd.set0 {T : TypeId} {w : World} {g : Nat} {s : St} (h : Rd T w g s) {a : Option Addr} {n c : Nat} {l : List UInt8} (hn : n = l.length) (ht : Txt w a l) (hl : n ≤ c) (hm : c ≤ maxLen) (hne : ∀ b o, a = some ⟨b, o, none⟩ → b ≠ g) :
    Rd T (w.setCell ⟨g, 0, none⟩ (.slice a n c)) g (l, s.2) := by
  obtain ⟨a0, c0, hg, _⟩ := h
  refine ⟨a, c, ?_, ht.grown (set_grown w g 0 _) hne, by simpa [hn] using hl, hm, hne⟩
  rw [heap_setCell_same w g 0 _ T _ hg, hn]
  rfl
theorem Rd.set1 {T : TypeId} {w : World} {g : Nat} {s : St} (h : Rd T w g s) (b : Bool) : Rd T (w.setCell ⟨g, 1, none⟩ (.bool b)) g (s.1, b) := by
  obtain ⟨a0, c0, hg, ht, hl, hm, hne⟩ := h
  refine ⟨a0, c0, ?_, ht.grown (set_grown w g 1 _) hne, hl, hm, hne⟩
  rw [heap_setCell_same w g 1 _ T _ hg]
  rfl

/-- Another reader is kept. -/
theorem Rd.other {T T' : TypeId} {w w' : World} {g h : Nat} {s s' : St} (hh : Rd T w h s) (hg : Rd T' w g s') (hne : h ≠ g) (hgr : w.grownBy w' (some g)) : Rd T w' h s := by
  have hlt := hh.lt
  obtain ⟨a, c, hb, ht, hlc, hcm, hn⟩ := hh
  obtain ⟨a', c', hb', _⟩ := hg
  refine ⟨a, c, (hgr.block h hlt (fun e => hne (by injection e))).trans hb, fun hl => ?_, hlc, hcm, hn⟩
  obtain ⟨b, o, rfl, hbl, hc⟩ := ht hl
  have hbg : b ≠ g := by
    rintro rfl
    have h0 := hc 0 (by have := List.length_pos_iff.2 hl; omega)
    rw [cell_of_row w b _ _ T' (0, 0) hb'] at h0
    match o + 0, h0 with
    | 0, h0 => simp at h0
    | 1, h0 => simp at h0
    | n + 2, h0 => simp at h0
  exact ⟨b, o, rfl, Nat.lt_of_lt_of_le hbl hgr.size, fun i hi => (World.cell?_of_block (w := w) (a := ⟨b, o + i, none⟩) (hgr.block b hbl (fun e => hbg (by injection e)))).trans (hc i hi)⟩

theorem Rd.drew {T : TypeId} {w : World} {g : Nat} {s : St} (h : Rd T w g s) : Rd T w.drew g s := h
theorem Rd.drewN {T : TypeId} {w : World} {g : Nat} {s : St} (h : Rd T w g s) (n : Nat) : Rd T (w.drewN n) g s := h

end Go.Proofs.Ythgcoeienbgmhaa
