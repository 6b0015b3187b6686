/-
  A slice of slices of bytes that came in, opened; 'x[lo:hi]' of a slice of bytes. Of types alone.
-/
import Derived.Test.YtopchpaiehoilaaDoorArg
import Derived.Test.YtopchpaiehoilaaDoorInf
import Derived.Deep.Matrix
namespace Go.Proofs.YtopchpaiehoilaaDoor
open Go Go.RowKit

/-- The slice address a holds slices that hold the texts l. -/
def TRow (w : World) (a : Option Addr) (l : List (List UInt8)) : Prop :=
  l ≠ [] → ∃ b o, a = some ⟨b, o, none⟩ ∧ b < w.heap.size ∧ ∀ i (h : i < l.length), ∃ a' c, w.cell? ⟨b, o + i, none⟩ = some (.slice a' l[i].length c) ∧ Txt w a' l[i] ∧ l[i].length ≤ c ∧ c ≤ maxLen

theorem TRow.nil (w : World) (a : Option Addr) : TRow w a [] := fun h => absurd rfl h
theorem TRow.below {w w' : World} {a : Option Addr} {l : List (List UInt8)} (h : TRow w a l) (hb : Below w.heap.size w w') : TRow w' a l := fun hne => by
  obtain ⟨b, o, rfl, hlt, hc⟩ := h hne
  refine ⟨b, o, rfl, Nat.lt_of_lt_of_le hlt hb.size, fun i hi => ?_⟩
  obtain ⟨a', c, h1, h2, h3, h4⟩ := hc i hi
  exact ⟨a', c, (hb.cell (p := ⟨b, o + i, none⟩) hlt).trans h1, h2.below hb, h3, h4⟩

theorem open_texts {H : Type} {enc : TypeId × Value → H} {P : Program} {w : World} {base : Nat} {held : Bool} {t e q : TypeId} {fuel : Nat} {a : Option Addr} {len cap : Nat} {x : DataW H × List MemPlace}
    (ht : P.underlying t = some (.slice e)) (he : P.underlying e = some (.slice q)) (hq : P.underlying q = some (.int .u8)) (ce : P.cellsOf e = 1) (cq : P.cellsOf q = 1)
    (h : DataW.trod enc P w base (fun _ => true) held fuel t (Value.slice a len cap).cells.toList = some x) : ∃ l : List (List UInt8), l.length = len ∧ l.length ≤ cap ∧ cap ≤ maxLen ∧ TRow w a l := by
  rcases Go.Deep.open_int_rows ht he hq ce cq h with ⟨hcs, _⟩ | ⟨ad, ln, cp, A, L, C, Z, hcs, _, hl, hm, _, hr⟩
  · simp [Value.cells] at hcs
    obtain ⟨rfl, rfl, rfl⟩ := hcs
    exact ⟨[], rfl, Nat.zero_le _, Nat.zero_le _, TRow.nil _ _⟩
  · simp [Value.cells] at hcs
    obtain ⟨rfl, rfl, rfl⟩ := hcs
    refine ⟨(List.range len).map fun r => ((Z r).take (L r)).map fun n => UInt8.ofNat n.toNat, by simp, by simpa using hl, hm, fun hne => ?_⟩
    have hpos : 0 < len := by
      rcases Nat.eq_zero_or_pos len with h0 | h0
      · subst h0; simp at hne
      · exact h0
    obtain ⟨b, o, spot⟩ := ad
    have hc0 := (hr 0 (by omega)).1
    have hspot : spot = none := by simpa [Addr.add] using World.cell?_spot hc0
    subst hspot
    have hbk := World.block_lt_of_cell? w _ hc0
    refine ⟨b, o, rfl, by simpa [Addr.add] using hbk, fun i hi => ?_⟩
    have hi' : i < len := by simpa using hi
    obtain ⟨hc, hLC, hC, hZ, hwf, hnone, hsome⟩ := hr i (by omega)
    rw [Addr.add_lit] at hc
    have hlen : (((Z i).take (L i)).map fun n => UInt8.ofNat n.toNat).length = L i := by rw [List.length_map, List.length_take]; omega
    refine ⟨A i, C i, ?_, ?_, ?_, hC⟩
    · simp only [List.getElem_map, List.getElem_range]
      rw [hlen, hc]
    · simp only [List.getElem_map, List.getElem_range]
      intro hne2
      have hLp : 0 < L i := by
        rcases Nat.eq_zero_or_pos (L i) with h0 | h0
        · rw [h0] at hne2; simp at hne2
        · exact h0
      cases hA : A i with
      | none => have := hnone hA; omega
      | some a' =>
        obtain ⟨_, hcells⟩ := hsome a' hA
        obtain ⟨b', o', spot'⟩ := a'
        have hc1 := hcells 0 (by omega)
        have hspot' : spot' = none := by simpa [Addr.add] using World.cell?_spot hc1
        subst hspot'
        have hbk' := World.block_lt_of_cell? w _ hc1
        refine ⟨b', o', rfl, by simpa [Addr.add] using hbk', fun j hj => ?_⟩
        rw [hlen] at hj
        have hcj := hcells j (by omega)
        rw [Addr.add_lit] at hcj
        have hjz : j < (Z i).length := by omega
        rw [hcj]
        have hw := u8_wf (hwf (Z i)[j] (List.getElem_mem hjz))
        have e2 : (Z i).getD j 0 = (Z i)[j] := by simp [List.getD_eq_getElem?_getD, hjz]
        simp only [List.getElem_map, List.getElem_take]
        rw [e2]
        have e : ((UInt8.ofNat ((Z i)[j]).toNat).toNat : Int) = (Z i)[j] := by
          rw [UInt8.toNat_ofNat']
          omega
        rw [e]
    · simp only [List.getElem_map, List.getElem_range]
      rw [hlen]; exact hLC

/-- 'x[lo:hi]'. -/
theorem slice_mid {w : World} {a : Option Addr} {l : List UInt8} (ht : Txt w a l) (lo hi len c : Nat) (zl zh : Int) (hzl : zl = lo) (hzh : zh = hi) (hlen : len = l.length) (h1 : lo ≤ hi) (h2 : hi ≤ l.length) (hc : l.length ≤ c) :
    ∃ a', (∀ W, (Instr.sliceAt 22 (.slice a len c) (some (.int .i64 zl)) (some (.int .i64 zh)) none).run Tryd.prog W = .ok (.slice a' (hi - lo) (c - lo)) W) ∧ Txt w a' ((l.drop lo).take (hi - lo)) ∧ ∀ b o, a' = some ⟨b, o, none⟩ → (l.drop lo).take (hi - lo) ≠ [] → ∃ o0, a = some ⟨b, o0, none⟩ := by
  subst hlen hzl hzh
  have he : Tryd.prog.elem 22 = 5 := by simp [Program.elem, Tryd.underlying22]
  have ht' : Tryd.prog.underlying 22 = some (.slice (Tryd.prog.elem 22)) := by rw [he]; exact Tryd.underlying22
  have hz : ∀ W, (sizeOf (Tryd.prog.elem 22)).run Tryd.prog W = .ok 1 W := fun W => by
    rw [he]
    cases hq : Tryd.prog.info? 5 with
    | none => have h := size_byte; simp [hq] at h
    | some i => have h := size_byte; simp [hq] at h; simp [sizeOf, typeInfo, hq, h]
  have addm : ∀ (b o j : Nat), (⟨b, o, none⟩ : Addr).add j = ⟨b, o + j, none⟩ := fun b o j => by unfold Addr.add; split <;> simp_all
  refine ⟨if c = lo then a else a.map (·.add lo), fun W => ?_, ?_, ?_⟩
  · rw [run_sliceAt_slice W _ _ _ _ _ ht', run_slice_lh W _ a l.length c ht' .i64 .i64 (lo : Int) (hi : Int) (by omega) (by omega) (by omega), hz]
    simp only [Result.andThen, sliced, Int.toNat_natCast, Nat.mul_one]
  · intro hne
    have hlt : lo < hi := by
      rcases Nat.lt_or_ge lo hi with h | h
      · exact h
      · rw [show hi - lo = 0 by omega] at hne; simp at hne
    obtain ⟨b, o, rfl, h3, h4⟩ := ht (by rintro rfl; simp at h2; omega)
    refine ⟨b, o + lo, by rw [if_neg (by omega)]; simp [addm], h3, fun i hi' => ?_⟩
    rw [List.length_take, List.length_drop] at hi'
    rw [Nat.add_assoc, h4 (lo + i) (by omega), List.getElem_take, List.getElem_drop]
  · intro b o h hne
    have hlt : lo < hi := by
      rcases Nat.lt_or_ge lo hi with h | h
      · exact h
      · rw [show hi - lo = 0 by omega] at hne; simp at hne
    obtain ⟨b', o', rfl, _, _⟩ := ht (by rintro rfl; simp at h2; omega)
    rw [if_neg (by omega)] at h
    simp only [Option.map_some, addm, Option.some.injEq, Addr.mk.injEq, and_true] at h
    obtain ⟨rfl, _⟩ := h
    exact ⟨_, rfl⟩

end Go.Proofs.YtopchpaiehoilaaDoor
