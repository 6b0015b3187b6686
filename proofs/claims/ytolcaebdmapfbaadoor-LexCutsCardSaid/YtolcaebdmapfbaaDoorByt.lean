/-
  General words for this seat's proofs: a slice of bytes that can be read in a world, and what a call leaves of older memory. Nothing here speaks of the program.
-/
import Derived.WalkKit
import Derived.Lib.VarintMem
import Derived.Lib.Hide
import Derived.Laws.CopyOwn
import Derived.Deep.Draws
import Derived.Laws.BytesArg
namespace Go.Proofs.YtolcaebdmapfbaaDoor
open Go Go.RowKit

/-- The slice address a holds the bytes l, in a block that is there. -/
def Txt (w : World) (a : Option Addr) (l : List UInt8) : Prop :=
  l ≠ [] → ∃ b o, a = some ⟨b, o, none⟩ ∧ b < w.heap.size ∧ ∀ i (h : i < l.length), w.cell? ⟨b, o + i, none⟩ = some (.int .u8 (l[i].toNat : Int))

theorem Txt.nil (w : World) (a : Option Addr) : Txt w a [] := fun h => absurd rfl h

theorem Txt.below {w w' : World} {a : Option Addr} {l : List UInt8} (h : Txt w a l) (hb : Below w.heap.size w w') : Txt w' a l := fun hne => by
  obtain ⟨b, o, rfl, hlt, hc⟩ := h hne
  exact ⟨b, o, rfl, Nat.lt_of_lt_of_le hlt hb.size, fun i hi => (hb.cell (p := ⟨b, o + i, none⟩) hlt).trans (hc i hi)⟩

theorem Txt.keep {w w' : World} {a : Option Addr} {l : List UInt8} (h : Txt w a l) (hs : w.heap.size ≤ w'.heap.size) (hk : ∀ b o, a = some ⟨b, o, none⟩ → w'.heap[b]? = w.heap[b]?) : Txt w' a l := fun hne => by
  obtain ⟨b, o, rfl, hlt, hc⟩ := h hne
  exact ⟨b, o, rfl, Nat.lt_of_lt_of_le hlt hs, fun i hi => (World.cell?_of_block (w := w) (a := ⟨b, o + i, none⟩) (hk b o rfl)).trans (hc i hi)⟩

theorem Txt.cells {w : World} {b o : Nat} {l : List UInt8} (h : Txt w (some ⟨b, o, none⟩) l) : ∀ j u, (Lib.byteCells l)[j]? = some u → w.cell? (Addr.add ⟨b, o, none⟩ j) = some u := by
  intro j u hu
  have hj : j < l.length := by
    have := (List.getElem?_eq_some_iff.1 hu).1
    simpa [Lib.byteCells] using this
  obtain ⟨b', o', e, _, hc⟩ := h (by rintro rfl; simp at hj)
  simp only [Option.some.injEq, Addr.mk.injEq, and_true] at e
  obtain ⟨rfl, rfl⟩ := e
  rw [Addr.add_lit, hc j hj, ← hu]
  simp [Lib.byteCells, hj]

theorem Txt.of_own {w : World} {base : Nat} {e : TypeId} {a : Option Addr} {c n : Nat} {l : List UInt8} (h : w.ownsRow base e 1 (.slice a n c) n (Lib.byteCells l)) : Txt w a l ∧ n = l.length := by
  have hn : n = l.length := by have := h.1; simpa [Lib.byteCells] using this.symm
  refine ⟨fun hne => ?_, hn⟩
  rcases h.2 with ⟨h1, h2⟩ | ⟨g, cap, cur, h1, _, hg, _, _, _, _⟩
  · exact absurd (List.eq_nil_of_length_eq_zero (by omega)) hne
  · injection h1 with h1 _ h3
    subst h1
    refine ⟨g, 0, rfl, (Array.getElem?_eq_some_iff.1 hg).1, fun i hi => ?_⟩
    have := h.cells (g := g) rfl i (.int .u8 (l[i].toNat : Int)) (by simp [Lib.byteCells, hi])
    rw [Addr.add_lit] at this
    exact this

theorem byteCells_one (l : List UInt8) : ∀ u ∈ Lib.byteCells l, u.oneCell' = true := by
  intro u hu
  obtain ⟨_, _, rfl⟩ := List.mem_map.1 hu
  rfl

/-- 'string(b)'. -/
theorem run_string {P : Program} (w : World) (src e dst : TypeId) (hs : P.underlying src = some (.slice e)) (he : P.underlying e = some (.int .u8)) (hd : P.underlying dst = some .string) (a : Option Addr) (l : List UInt8) (c : Nat) (h : Txt w a l) :
    (convert src dst (.slice a l.length c)).run P w = .ok (.string ⟨l.toArray⟩) w := by
  cases l with
  | nil =>
    cases a with
    | none => exact run_convert_bytes_nil (P := P) w src e hs he 0 c dst hd
    | some ad =>
      have hl : (loadCells ad 0).run P w = .ok (([] : List Int).map (Value.int .u8)).toArray w := run_loadCells_list (P := P) w ad [] (fun j v hj => by simp at hj)
      rw [List.length_nil, run_convert_bytes_string w src dst e _ 0 c hs he hd, run_bytesToString w _ 0 c [] hl]
      rfl
  | cons x r =>
    obtain ⟨b, o, rfl, hlt, hc⟩ := h (by simp)
    have hr := run_convert_bytes_arg (P := P) w src e hs he b o (x :: r).length c ((x :: r).map fun u => (u.toNat : Int)) (by simp) (fun i hi => by
      rw [hc i hi]
      simp only [List.getD, List.getElem?_map, List.getElem?_eq_getElem hi, Option.map_some, Option.getD_some]) dst hd
    rw [hr]
    congr 2
    apply ByteArray.ext
    apply Array.toList_inj.1
    rw [strOfNums_data, List.map_map]
    conv => rhs; rw [← List.map_id (x :: r)]
    apply List.map_congr_left
    intro u _
    simp

theorem Txt.drewN {w : World} {a : Option Addr} {l : List UInt8} (h : Txt w a l) (n : Nat) : Txt (w.drewN n) a l := h

/-- 'string(b)' behind some draws. -/
theorem run_stringN {P : Program} (w : World) (src e dst : TypeId) (hs : P.underlying src = some (.slice e)) (he : P.underlying e = some (.int .u8)) (hd : P.underlying dst = some .string) (a : Option Addr) (l : List UInt8) (c : Nat) (h : Txt w a l) (n : Nat) :
    (convert src dst (.slice a l.length c)).run P (w.drewN n) = .ok (.string ⟨l.toArray⟩) (w.drewN n) := run_string (w.drewN n) src e dst hs he hd a l c (h.drewN n)

end Go.Proofs.YtolcaebdmapfbaaDoor
