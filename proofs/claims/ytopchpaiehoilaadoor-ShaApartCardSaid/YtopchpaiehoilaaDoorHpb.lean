/-
  Rows of bytes of whatever type in memory; what package sha's putBig does.
-/
import Derived.Test.YtopchpaiehoilaaDoorHro
import Derived.Test.YtopchpaiehoilaaDoorHwr
import Derived.Test.YtopchpaiehoilaaDoorLow
namespace Go.Proofs.YtopchpaiehoilaaDoor
open Go Go.RowKit

/-- Block g, of type t, holds the bytes L. -/
def BRow (w : World) (g : Nat) (t : TypeId) (L : List UInt8) : Prop := w.heap[g]? = some (.cells (Lib.byteCells L).toArray t (0, 0))

theorem BRow.lt {w : World} {g : Nat} {t : TypeId} {L : List UInt8} (h : BRow w g t L) : g < w.heap.size := (Array.getElem?_eq_some_iff.1 h).1
theorem BRow.put {w : World} {g : Nat} {t : TypeId} {L : List UInt8} (h : BRow w g t L) (M : List UInt8) : BRow (w.setRow g (Lib.byteCells M).toArray) g t M := setRow_heap w g _ _ _ _ h
theorem BRow.cell {w : World} {g : Nat} {t : TypeId} {L : List UInt8} (h : BRow w g t L) (i : Nat) (hi : i < L.length) : w.cell? ⟨g, i, none⟩ = some (.int .u8 (L[i].toNat : Int)) := by
  have h' : w.heap[g]? = some (.cells (Lib.byteCells L).toArray t (0, 0)) := h
  simp [World.cell?, h', Lib.byteCells, hi]
theorem BRow.txt {w : World} {g : Nat} {t : TypeId} {L : List UInt8} (h : BRow w g t L) : Txt w (some ⟨g, 0, none⟩) L := fun _ => ⟨g, 0, rfl, h.lt, fun i hi => by rw [Nat.zero_add]; exact h.cell i hi⟩
theorem BRow.frozen {w : World} {g : Nat} {t : TypeId} {L : List UInt8} (h : BRow w g t L) (i : Nat) : w.frozen? ⟨g, i, none⟩ = false := by
  have h' : w.heap[g]? = some (.cells (Lib.byteCells L).toArray t (0, 0)) := h
  simp [World.frozen?, h']
theorem BRow.set {w : World} {g : Nat} {t : TypeId} {L : List UInt8} (h : BRow w g t L) (i : Nat) (x : UInt8) : w.setCell ⟨g, i, none⟩ (.int .u8 (x.toNat : Int)) = w.setRow g (Lib.byteCells (L.set i x)).toArray := by
  rw [setCell_eq_setRow w g i _ _ _ _ h]
  congr 1
  simp [Lib.byteCells, List.map_set]
theorem BRow.below {w w' : World} {g B : Nat} {t : TypeId} {L : List UInt8} (h : BRow w g t L) (hb : Below B w w') (hB : g < B) : BRow w' g t L := (hb.block g hB).trans h

theorem be8_cons : ∀ (n u : Nat), be8 (n + 1) u = (u / 256 ^ n % 256).toUInt8 :: be8 n u
  | 0, u => by simp [be8]
  | n + 1, u => by
    have e : u / 256 / 256 ^ n = u / 256 ^ (n + 1) := by rw [Nat.div_div_eq_div_mul, Nat.pow_succ, Nat.mul_comm]
    rw [be8, be8_cons n (u / 256), e]
    rfl

theorem lay_front {L m : List UInt8} {p : Nat} (h : p + 1 + m.length ≤ L.length) (x : UInt8) : (lay L (p + 1) m).set p x = lay L p (x :: m) := by
  have ht : L.take (p + 1) = L.take p ++ [L[p]] := by rw [List.take_succ_eq_append_getElem (by omega)]
  unfold lay
  rw [ht, List.append_assoc, List.set_append_right _ _ (by rw [List.length_take]; omega), List.length_take, Nat.min_eq_left (by omega), Nat.sub_self]
  simp only [List.singleton_append, List.set_cons_zero, List.length_cons, List.cons_append, List.nil_append]
  rw [show p + (m.length + 1) = p + 1 + m.length by omega]

set_option maxHeartbeats 2000000 in
set_option maxRecDepth 100000 in
theorem putBig_any (g o k c u : Nat) (t : TypeId) (L : List UInt8) (w : World) (hB : BRow w g t L) (hk : k ≤ 8) (hk1 : 1 ≤ k) (hfit : o + k ≤ L.length) (hu : u < 18446744073709551616) :
    Calls Tryd.prog 18 #[.slice (some ⟨g, o, none⟩) k c, .int .u64 u] w fun e w' => e = .returned (.tuple #[]) ∧ w' = w.setRow g (Lib.byteCells (lay L o (be8 k u))).toArray := by
  go_enter Tryd.func18, Tryd.ntmps18
  go_wp2
  go_loopw [7] (fun vi wr => ∃ i : Nat, vi = .int .i64 i ∧ i ≤ k ∧ wr = w.setRow g (Lib.byteCells (lay L (o + k - i) (be8 i u))).toArray)
    (fun vi _ => k - (intOf vi).toNat)
  case atStart => exact ⟨0, rfl, by omega, by rw [be8, lay_nil]; exact (setRow_self w g _ _ _ hB).symm⟩
  case round =>
    obtain ⟨i, rfl, hik, hwr⟩ := hrel
    by_cases hlt : i < k
    · obtain ⟨q, rfl⟩ : ∃ q, k = q + 1 + i := ⟨k - 1 - i, by omega⟩
      have hll := be8_length u i
      have hlen : (lay L (o + (q + 1 + i) - i) (be8 i u)).length = L.length := lay_length (by omega)
      have hBr : BRow wr g t (lay L (o + (q + 1 + i) - i) (be8 i u)) := by rw [hwr]; exact hB.put _
      have hc := hBr.cell (o + q) (by omega)
      have hf := hBr.frozen (o + q)
      have e8 : ((u : Int) / 2 ^ (8 * i) % 256) = (((u / 256 ^ i % 256).toUInt8).toNat : Int) := by
        rw [toUInt8_mod]
        have e : (256 : Nat) ^ i = 2 ^ (8 * i) := by rw [Nat.pow_mul]
        rw [e]
        simp
      have hs := hBr.set (o + q) (u / 256 ^ i % 256).toUInt8
      have hset : (lay L (o + (q + 1 + i) - i) (be8 i u)).set (o + q) (u / 256 ^ i % 256).toUInt8 = lay L (o + (q + 1 + i) - (i + 1)) (be8 (i + 1) u) := by
        rw [show o + (q + 1 + i) - i = o + q + 1 by omega, show o + (q + 1 + i) - (i + 1) = o + q by omega, lay_front (by omega), be8_cons]
      rw [hset, hwr, setRow_setRow, ← hwr, ← e8] at hs
      have HS := Lib.hid hs
      have HW := Lib.hid hwr
      have e1 : (q : Int) + 1 + (i : Int) - 1 - (i : Int) = (q : Int) := by omega
      generalize (lay L (o + (q + 1 + i) - i) (be8 i u))[o + q] = old at hc
      clear hs hset e8 hBr hwr hB hlen hll
      go_wp2
      refine ⟨⟨i + 1, by go_num, by omega, HS.out⟩, ?_⟩
      simp [intOf]; omega
    · obtain rfl : i = k := by omega
      have HW := Lib.hid hwr
      clear hwr
      go_wp2
      go_end0
      exact ⟨rfl, by rw [HW.out, show o + i - i = o by omega]⟩

end Go.Proofs.YtopchpaiehoilaaDoor
