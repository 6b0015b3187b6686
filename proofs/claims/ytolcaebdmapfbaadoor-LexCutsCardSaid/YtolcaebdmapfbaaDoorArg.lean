/-
  Arguments of a statement, opened: a slice of bytes, of numbers, of strings. Nothing here speaks of the program.
-/
import Derived.Test.YtolcaebdmapfbaaDoorByt
import Derived.ProofKit
import Derived.SliceStrings
namespace Go.Proofs.YtolcaebdmapfbaaDoor
open Go Go.RowKit

/-- The slice address a holds l's values, in a block that is there. -/
def Row {α : Type} (f : α → Value) (w : World) (a : Option Addr) (l : List α) : Prop :=
  l ≠ [] → ∃ b o, a = some ⟨b, o, none⟩ ∧ b < w.heap.size ∧ ∀ i (h : i < l.length), w.cell? ⟨b, o + i, none⟩ = some (f l[i])

theorem Row.nil {α : Type} (f : α → Value) (w : World) (a : Option Addr) : Row f w a [] := fun h => absurd rfl h

theorem Row.below {α : Type} {f : α → Value} {w w' : World} {a : Option Addr} {l : List α} (h : Row f w a l) (hb : Below w.heap.size w w') : Row f w' a l := fun hne => by
  obtain ⟨b, o, rfl, hlt, hc⟩ := h hne
  exact ⟨b, o, rfl, Nat.lt_of_lt_of_le hlt hb.size, fun i hi => (hb.cell (p := ⟨b, o + i, none⟩) hlt).trans (hc i hi)⟩

theorem Row.below' {α : Type} {f : α → Value} {w w' : World} {a : Option Addr} {l : List α} {B : Nat} (h : Row f w a l) (hB : w.heap.size ≤ B) (hb : Below B w w') : Row f w' a l := h.below (hb.mono hB)

theorem row_some {α : Type} {f : α → Value} {d : α} {w : World} {x : Addr} {len cap : Nat} {zs : List α} (hl : len ≤ cap) (hz : zs.length = cap) (hcell : ∀ i, i < zs.length → w.cell? (x.add i) = some (f (zs.getD i d))) :
    (zs.take len).length = len ∧ Row f w (some x) (zs.take len) := by
  refine ⟨by rw [List.length_take]; omega, fun hne => ?_⟩
  have h0 : 0 < zs.length := by
    rcases Nat.eq_zero_or_pos zs.length with h | h
    · rw [List.eq_nil_of_length_eq_zero h] at hne; simp at hne
    · exact h
  obtain ⟨b, o, spot⟩ := x
  have hc := hcell 0 h0
  have hspot : spot = none := by simpa [Addr.add] using World.cell?_spot hc
  subst hspot
  have hb := World.block_lt_of_cell? w _ hc
  refine ⟨b, o, rfl, by simpa [Addr.add] using hb, fun i hi => ?_⟩
  have hi' : i < zs.length := by rw [List.length_take] at hi; omega
  have h := hcell i hi'
  rw [Addr.add_lit] at h
  rw [h, List.getElem_take]
  simp [List.getD, List.getElem?_eq_getElem hi']

theorem u8_wf {n : Int} (h : (Lit.int .u8 n).wf = true) : 0 ≤ n ∧ n ≤ 255 := by
  have h1 : IntKind.u8.min = 0 := rfl
  have h2 : IntKind.u8.max = 255 := rfl
  simp only [Lit.wf, Bool.and_eq_true, decide_eq_true_eq] at h
  omega
theorem u64_wf {n : Int} (h : (Lit.int .u64 n).wf = true) : 0 ≤ n ∧ n < 18446744073709551616 := by
  have h1 : IntKind.u64.min = 0 := rfl
  have h2 : IntKind.u64.max = 18446744073709551615 := rfl
  simp only [Lit.wf, Bool.and_eq_true, decide_eq_true_eq] at h
  omega
theorem i64_wf {n : Int} (h : (Lit.int .i64 n).wf = true) : -9223372036854775808 ≤ n ∧ n ≤ 9223372036854775807 := by
  have h1 : IntKind.i64.min = -9223372036854775808 := rfl
  have h2 : IntKind.i64.max = 9223372036854775807 := rfl
  simp only [Lit.wf, Bool.and_eq_true, decide_eq_true_eq] at h
  omega

/-- Numbers that are bytes are bytes. -/
theorem txt_of_row {w : World} {a : Option Addr} {l : List Int} (h : Row (Value.int .u8) w a l) (hw : ∀ n ∈ l, (Lit.int .u8 n).wf = true) : ∃ r : List UInt8, r.length = l.length ∧ Txt w a r := by
  refine ⟨l.map fun n => UInt8.ofNat n.toNat, by simp, fun hne => ?_⟩
  obtain ⟨b, o, rfl, hlt, hc⟩ := h (by rintro rfl; simp at hne)
  refine ⟨b, o, rfl, hlt, fun i hi => ?_⟩
  rw [List.length_map] at hi
  rw [hc i hi, List.getElem_map]
  have := u8_wf (hw l[i] (List.getElem_mem hi))
  have e : ((UInt8.ofNat (l[i]).toNat).toNat : Int) = l[i] := by
    rw [UInt8.toNat_ofNat']
    omega
  rw [e]

/-- Numbers without a sign, as natural numbers. -/
theorem nats_of_row {w : World} {a : Option Addr} {l : List Int} (h : Row (Value.int .u64) w a l) (hw : ∀ n ∈ l, (Lit.int .u64 n).wf = true) :
    ∃ r : List Nat, r.length = l.length ∧ Row (fun n : Nat => Value.int .u64 (n : Int)) w a r ∧ ∀ n ∈ r, n < 18446744073709551616 := by
  refine ⟨l.map Int.toNat, by simp, fun hne => ?_, fun n hn => ?_⟩
  · obtain ⟨b, o, rfl, hlt, hc⟩ := h (by rintro rfl; simp at hne)
    refine ⟨b, o, rfl, hlt, fun i hi => ?_⟩
    rw [List.length_map] at hi
    rw [hc i hi, List.getElem_map]
    have := u64_wf (hw l[i] (List.getElem_mem hi))
    have e : ((l[i].toNat : Nat) : Int) = l[i] := by omega
    show _ = some (Value.int .u64 ((l[i].toNat : Nat) : Int))
    rw [e]
  · obtain ⟨m, hm, rfl⟩ := List.mem_map.1 hn
    have := u64_wf (hw m hm)
    omega

end Go.Proofs.YtolcaebdmapfbaaDoor
