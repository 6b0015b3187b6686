/-
  What package sum's small functions do: goOn, Crc.
-/
import Derived.Test.YtahffcbinpkdpaaDoorInf
import Derived.Test.YtahffcbinpkdpaaDoorCrc
import Derived.Laws.BitsAllLaws
namespace Go.Proofs.YtahffcbinpkdpaaDoor
open Go Go.RowKit

/-- The variable steps holds what it was laid with. -/
def Tab (w : World) : Prop := ∀ r : Nat, r < 16 → w.cell? ⟨1, r, none⟩ = some (.int .u32 ((crcBits 4 r : Nat) : Int))

theorem Tab.lt {w : World} (h : Tab w) : 1 < w.heap.size := by
  have h0 := h 0 (by decide)
  rcases Nat.lt_or_ge 1 w.heap.size with hl | hl
  · exact hl
  · exfalso
    have hn : w.heap[1]? = none := Array.getElem?_eq_none hl
    simp [World.cell?, hn] at h0
theorem Tab.below {w w' : World} {B : Nat} (h : Tab w) (hb : Below B w w') (hB : w.heap.size ≤ B) : Tab w' := fun r hr => (hb.cell (p := ⟨1, r, none⟩) (Nat.lt_of_lt_of_le h.lt hB)).trans (h r hr)

theorem xor32 (a b : Nat) (ha : a < 4294967296) (hb : b < 4294967296) : bits .xor .u32 (a : Int) (b : Int) = ((a ^^^ b : Nat) : Int) := u32_xor_nat a b ha hb
theorem and15 (a : Nat) (ha : a < 4294967296) : bits .and .u32 (a : Int) 15 = ((a % 16 : Nat) : Int) := by
  have h := u32_and_nat a 15 ha (by decide)
  have e : a &&& 15 = a % 16 := Nat.and_two_pow_sub_one_eq_mod a 4
  rw [e] at h
  exact h
theorem xor_shr (y t z : Nat) (hy : y < 4294967296) (ht : t < 4294967296) (hz : (y / 16) ^^^ t = z) : bits .xor .u32 ((y : Int) / 16) (t : Int) = (z : Int) := by
  have h := u32_xor_nat (y / 16) t (by omega) ht
  rw [hz] at h
  simpa using h

set_option maxHeartbeats 2000000 in
set_option maxRecDepth 100000 in
theorem goOn_some (s b o c : Nat) (l : List UInt8) (w : World) (hT : Tab w) (hs : s < 4294967296) (hl : l.length ≤ maxLen) (hcell : ∀ i (h : i < l.length), w.cell? ⟨b, o + i, none⟩ = some (.int .u8 (l[i].toNat : Int))) :
    Calls Tryd.prog 31 #[.int .u32 s, .slice (some ⟨b, o, none⟩) l.length c] w fun e w' => e = .returned (.int .u32 (crcOn s l)) ∧ w = w' := by
  unfold maxLen at hl
  go_enter Tryd.func31, Tryd.ntmps31
  go_wp2
  go_loop [0, 9] (fun vs vi => ∃ k s' : Nat, vi = .int .i64 k ∧ vs = .int .u32 s' ∧ k ≤ l.length ∧ s' < 4294967296 ∧ crcOn s l = crcOn s' (l.drop k))
    (fun _ vi => l.length - (intOf vi).toNat)
  case atStart => exact ⟨0, s, rfl, rfl, by omega, hs, rfl⟩
  case round =>
    obtain ⟨k, s', rfl, rfl, hkn, hs', hdec⟩ := hrel
    by_cases hk : k < l.length
    · have hc := hcell k hk
      have hdrop : l.drop k = l[k]'(by omega) :: l.drop (k + 1) := List.drop_eq_getElem_cons (by omega)
      rw [hdrop] at hdec
      generalize l[k]'(by omega) = x at hc hdec
      have hb256 : x.toNat < 256 := x.toNat_lt
      clear hcell hdrop
      obtain ⟨y0, hy0⟩ : ∃ y0, y0 = s' ^^^ x.toNat := ⟨_, rfl⟩
      have ly0 : y0 < 4294967296 := by rw [hy0]; exact xor_lt32 hs' (by omega)
      have b0 : bits .xor .u32 (s' : Int) (x.toNat : Int) = (y0 : Int) := by rw [hy0]; exact xor32 _ _ hs' (by omega)
      obtain ⟨r0, hr0⟩ : ∃ r0, r0 = y0 % 16 := ⟨_, rfl⟩
      have lr0 : r0 < 16 := by omega
      have a0 : bits .and .u32 (y0 : Int) 15 = (r0 : Int) := by rw [and15 y0 ly0, hr0]
      have c0 := hT r0 lr0
      obtain ⟨t0, ht0⟩ : ∃ t0, t0 = crcBits 4 r0 := ⟨_, rfl⟩
      rw [← ht0] at c0
      obtain ⟨y1, hy1⟩ : ∃ y1, y1 = (y0 / 16) ^^^ t0 := ⟨_, rfl⟩
      have x0 : bits .xor .u32 ((y0 : Int) / 16) (t0 : Int) = (y1 : Int) := xor_shr _ _ _ ly0 (by rw [ht0]; exact crcBits_lt 4 (by omega)) hy1.symm
      have e1 : y1 = crcBits 4 y0 := by rw [hy1, ht0, hr0, ← crcBits_four]
      have ly1 : y1 < 4294967296 := by rw [e1]; exact crcBits_lt 4 ly0
      obtain ⟨r1, hr1⟩ : ∃ r1, r1 = y1 % 16 := ⟨_, rfl⟩
      have lr1 : r1 < 16 := by omega
      have a1 : bits .and .u32 (y1 : Int) 15 = (r1 : Int) := by rw [and15 y1 ly1, hr1]
      have c1 := hT r1 lr1
      obtain ⟨t1, ht1⟩ : ∃ t1, t1 = crcBits 4 r1 := ⟨_, rfl⟩
      rw [← ht1] at c1
      obtain ⟨y2, hy2⟩ : ∃ y2, y2 = (y1 / 16) ^^^ t1 := ⟨_, rfl⟩
      have x1 : bits .xor .u32 ((y1 : Int) / 16) (t1 : Int) = (y2 : Int) := xor_shr _ _ _ ly1 (by rw [ht1]; exact crcBits_lt 4 (by omega)) hy2.symm
      have e2 : y2 = crcBits 8 (s' ^^^ x.toNat) := by rw [hy2, ht1, hr1, ← crcBits_four, crcBits_eight, e1, hy0]
      have ly2 : y2 < 4294967296 := by rw [e2, ← hy0]; exact crcBits_lt 8 ly0
      rw [crcOn_cons, ← e2] at hdec
      have HD := Lib.hid hdec
      clear hdec e1 e2 hy0 hr0 ht0 hy1 hr1 ht1 hy2 hT
      go_wp2
      refine ⟨⟨k + 1, y2, by go_num, rfl, by omega, ly2, HD.out⟩, ?_⟩
      simp [intOf]; omega
    · obtain rfl : k = l.length := by omega
      rw [List.drop_length] at hdec
      have HD := Lib.hid hdec
      clear hdec
      go_wp2
      go_ret
      exact ⟨by rw [HD.out]; rfl, rfl⟩

end Go.Proofs.YtahffcbinpkdpaaDoor
