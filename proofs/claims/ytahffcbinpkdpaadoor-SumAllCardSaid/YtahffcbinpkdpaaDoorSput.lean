/-
  What package sum's put does: so many bytes of a block are a number's.
-/
import Derived.Test.YtahffcbinpkdpaaDoorSget
namespace Go.Proofs.YtahffcbinpkdpaaDoor
open Go Go.RowKit

/-- Block g holds the bytes L. -/
def Blk (w : World) (g : Nat) (L : List UInt8) : Prop := w.heap[g]? = some (.cells (Lib.byteCells L).toArray 5 (0, 0))

/-- The world with block g's bytes set. -/
def World.putRow (w : World) (g : Nat) (L : List UInt8) : World := w.setRow g (Lib.byteCells L).toArray

theorem Blk.lt {w : World} {g : Nat} {L : List UInt8} (h : Blk w g L) : g < w.heap.size := (Array.getElem?_eq_some_iff.1 h).1
theorem Blk.put {w : World} {g : Nat} {L : List UInt8} (h : Blk w g L) (M : List UInt8) : Blk (w.setRow g (Lib.byteCells M).toArray) g M := setRow_heap w g _ _ _ _ h
theorem Blk.cell {w : World} {g : Nat} {L : List UInt8} (h : Blk w g L) (i : Nat) (hi : i < L.length) : w.cell? ⟨g, i, none⟩ = some (.int .u8 (L[i].toNat : Int)) := by
  have h' : w.heap[g]? = some (.cells (Lib.byteCells L).toArray 5 (0, 0)) := h
  simp [World.cell?, h', Lib.byteCells, hi]
theorem Blk.txt {w : World} {g : Nat} {L : List UInt8} (h : Blk w g L) : Txt w (some ⟨g, 0, none⟩) L := fun _ => ⟨g, 0, rfl, h.lt, fun i hi => by rw [Nat.zero_add]; exact h.cell i hi⟩

theorem Blk.frozen {w : World} {g : Nat} {L : List UInt8} (h : Blk w g L) (i : Nat) : w.frozen? ⟨g, i, none⟩ = false := by
  have h' : w.heap[g]? = some (.cells (Lib.byteCells L).toArray 5 (0, 0)) := h
  simp [World.frozen?, h']
theorem Blk.set {w : World} {g : Nat} {L : List UInt8} (h : Blk w g L) (i : Nat) (x : UInt8) : w.setCell ⟨g, i, none⟩ (.int .u8 (x.toNat : Int)) = w.setRow g (Lib.byteCells (L.set i x)).toArray := by
  rw [setCell_eq_setRow w g i _ _ _ _ h]
  congr 1
  simp [Lib.byteCells, List.map_set]

set_option maxHeartbeats 2000000 in
set_option maxRecDepth 100000 in
theorem put_any (g o k c u : Nat) (L : List UInt8) (w : World) (hB : Blk w g L) (hk : k ≤ 8) (hk1 : 1 ≤ k) (hfit : o + k ≤ L.length) (hu : u < 18446744073709551616) :
    Calls Tryd.prog 29 #[.slice (some ⟨g, o, none⟩) k c, .int .u64 u] w fun e w' => e = .returned (.tuple #[]) ∧ w' = w.setRow g (Lib.byteCells (lay L o (low k u))).toArray := by
  go_enter Tryd.func29, Tryd.ntmps29
  go_wp2
  go_loopw [7] (fun vi wr => ∃ i : Nat, vi = .int .i64 i ∧ i ≤ k ∧ wr = w.setRow g (Lib.byteCells (lay L o (low i u))).toArray)
    (fun vi _ => k - (intOf vi).toNat)
  case atStart => exact ⟨0, rfl, by omega, by rw [low, lay_nil]; exact (setRow_self w g _ _ _ hB).symm⟩
  case round =>
    obtain ⟨i, rfl, hik, hwr⟩ := hrel
    by_cases hlt : i < k
    · have hll := low_length i u
      have hlen : (lay L o (low i u)).length = L.length := lay_length (by omega)
      have hBr : Blk wr g (lay L o (low i u)) := by rw [hwr]; exact hB.put _
      have hc := hBr.cell (o + i) (by omega)
      have hf := hBr.frozen (o + i)
      have e8 : ((u : Int) / 2 ^ (8 * i) % 256) = (((u / 256 ^ i % 256).toUInt8).toNat : Int) := by
        rw [toUInt8_mod]
        have e : (256 : Nat) ^ i = 2 ^ (8 * i) := by rw [Nat.pow_mul]
        rw [e]
        simp
      have hs := hBr.set (o + i) (u / 256 ^ i % 256).toUInt8
      have hset : (lay L o (low i u)).set (o + i) (u / 256 ^ i % 256).toUInt8 = lay L o (low (i + 1) u) := by
        rw [low_snoc, ← lay_set (by omega), hll]
      rw [hset, hwr, setRow_setRow, ← hwr, ← e8] at hs
      have HS := Lib.hid hs
      clear hs hset e8 hBr hwr hB
      generalize (lay L o (low i u))[o + i] = old at hc
      go_wp2
      refine ⟨⟨i + 1, by go_num, by omega, HS.out⟩, ?_⟩
      simp [intOf]; omega
    · obtain rfl : i = k := by omega
      have HW := Lib.hid hwr
      clear hwr
      go_wp2
      go_end0
      exact ⟨rfl, HW.out⟩

/-- A whole block as a row of the call's own. -/
theorem own_of_blk {w : World} {g base : Nat} {L : List UInt8} (h : Blk w g L) (hb : base ≤ g) (hm : L.length ≤ maxLen) : w.ownsRow base 5 1 (.slice (some ⟨g, 0, none⟩) L.length L.length) L.length (Lib.byteCells L) :=
  ⟨by simp [Lib.byteCells], .inr ⟨g, L.length, _, rfl, hb, h, Nat.le_refl _, hm, by simp [Lib.byteCells], by simp [Lib.byteCells, List.take_of_length_le]⟩⟩

/-- A row of bytes as a slice. -/
theorem own_form {w : World} {base : Nat} {v : Value} {L : List UInt8} (h : w.ownsRow base 5 1 v L.length (Lib.byteCells L)) : ∃ a c, v = .slice a L.length c ∧ Txt w a L ∧ L.length ≤ c ∧ c ≤ maxLen := by
  rcases h.2 with ⟨rfl, h0⟩ | ⟨g, cap, cur, rfl, _, _, hnc, hcm, _⟩
  · obtain rfl : L = [] := List.eq_nil_of_length_eq_zero h0
    exact ⟨none, 0, rfl, Txt.nil _ _, Nat.le_refl _, Nat.zero_le _⟩
  · exact ⟨_, cap, rfl, (Txt.of_own h).1, hnc, hcm⟩

theorem own_weaken {w : World} {base base' : Nat} {e : TypeId} {s : Nat} {v : Value} {n : Nat} {xs : List Value} (h : w.ownsRow base e s v n xs) (hb : base' ≤ base) : w.ownsRow base' e s v n xs := by
  refine ⟨h.1, ?_⟩
  rcases h.2 with h | ⟨g, cap, cur, e, hg, h5⟩
  · exact .inl h
  · exact .inr ⟨g, cap, cur, e, Nat.le_trans hb hg, h5⟩

end Go.Proofs.YtahffcbinpkdpaaDoor
