/-
  What package sha's Hex does.
-/
import Derived.Test.YtopchpaiehoilaaDoorHen
import Derived.BigRegion
namespace Go.Proofs.YtopchpaiehoilaaDoor
open Go Go.RowKit

def hexd : List UInt8 := [48, 49, 50, 51, 52, 53, 54, 55, 56, 57, 97, 98, 99, 100, 101, 102]
def hexOf (l : List UInt8) : List UInt8 := l.flatMap fun c => [hexd.getD (c.toNat / 16) 0, hexd.getD (c.toNat % 16) 0]

theorem info_text : (Tryd.prog.info? 42).map (fun i => (i.zero, i.size)) = some (some (.agg (Lib.byteCells (List.replicate 64 0)).toArray), 64) := by kernel_rfl

theorem BRow.setB {w : World} {g : Nat} {t : TypeId} {L : List UInt8} (h : BRow w g t L) (i : Nat) (x : UInt8) : BRow (w.setCell ⟨g, i, none⟩ (.int .u8 (x.toNat : Int))) g t (L.set i x) := by
  rw [h.set]; exact h.put _
theorem two_set (A : List UInt8) (n m : Nat) (p q : UInt8) (hA : A.length = m) (hn : 2 ≤ n) : ((A ++ List.replicate n 0).set m p).set (m + 1) q = (A ++ [p, q]) ++ List.replicate (n - 2) 0 := by
  obtain ⟨r, rfl⟩ : ∃ r, n = r + 2 := ⟨n - 2, by omega⟩
  subst hA
  rw [List.set_append_right _ _ (Nat.le_refl _), Nat.sub_self, List.set_append_right _ _ (by omega), Nat.add_sub_cancel_left, List.append_assoc]
  simp [List.replicate_succ]
theorem hexOf_length (l : List UInt8) : (hexOf l).length = 2 * l.length := by
  induction l with
  | nil => rfl
  | cons x r ih => unfold hexOf at *; rw [List.flatMap_cons, List.length_append, ih, List.length_cons]; simp; omega
theorem hexOf_succ (d : List UInt8) (k : Nat) (hk : k < d.length) : hexOf (d.take (k + 1)) = hexOf (d.take k) ++ [hexd.getD ((d.getD k 0).toNat / 16) 0, hexd.getD ((d.getD k 0).toNat % 16) 0] := by
  unfold hexOf
  rw [List.take_succ_eq_append_getElem hk, List.flatMap_append]
  simp [List.getD_eq_getElem?_getD, hk]
theorem and15_u8 (a : Nat) (ha : a < 256) : bits .and .u8 (a : Int) 15 = ((a % 16 : Nat) : Int) := by
  have h := u8_and_nat a 15 ha (by decide)
  have e : a &&& 15 = a % 16 := Nat.and_two_pow_sub_one_eq_mod a 4
  rw [e] at h
  exact h
theorem run_index_u8 {P : Program} (W : World) {t e : TypeId} {n : Nat} (ht : P.underlying t = some (.array n e)) (he : P.underlying e = some (.int .u8)) (hz : (P.info? e).map (·.size) = some 1) (l : List UInt8) (hl : l.length = n) (k : Nat) (hk : k < n) :
    (Instr.index t (.agg (Lib.byteCells l).toArray) (.int .i64 (k : Int))).run P W = .ok (.int .u8 (((l.getD k 0).toNat : Nat) : Int)) W := by
  have hkl : k < l.length := by omega
  have hagg : (isAgg e).run P W = .ok false W := by
    unfold isAgg
    rw [Sem.run_bind, run_underlying he W]
    rfl
  cases hq : P.info? e with
  | none => simp [hq] at hz
  | some i =>
    have hs : i.size = 1 := by simpa [hq] using hz
    simp [Instr.index, asIntOf, Sem.run_bind, run_underlying ht, hk, sizeOf, typeInfo, hq, hs, part, hagg, Lib.byteCells, hkl]
theorem run_index_hex {P : Program} (W : World) {t : TypeId} (ht : P.underlying t = some .string) (k : Nat) (z : Int) (hk : k < 16) (hz : z = (k : Int)) :
    (Instr.index t (.string ⟨#[48, 49, 50, 51, 52, 53, 54, 55, 56, 57, 97, 98, 99, 100, 101, 102]⟩) (.int .u8 z)).run P W = .ok (.int .u8 ((hexd.getD k 0).toNat : Int)) W := by
  subst hz
  rcases (by omega : k = 0 ∨ k = 1 ∨ k = 2 ∨ k = 3 ∨ k = 4 ∨ k = 5 ∨ k = 6 ∨ k = 7 ∨ k = 8 ∨ k = 9 ∨ k = 10 ∨ k = 11 ∨ k = 12 ∨ k = 13 ∨ k = 14 ∨ k = 15) with rfl | rfl | rfl | rfl | rfl | rfl | rfl | rfl | rfl | rfl | rfl | rfl | rfl | rfl | rfl | rfl <;>
    simp [Instr.index, asIntOf, Sem.run_bind, run_underlying ht, hexd] <;> rfl

set_option maxHeartbeats 8000000 in
set_option maxRecDepth 100000 in
theorem Hex_any (d : List UInt8) (w : World) (hd : d.length = 32) :
    Calls Tryd.prog 8 #[.agg (Lib.byteCells d).toArray] w fun e w' => e = .returned (.string ⟨(hexOf d).toArray⟩) ∧ Below w.heap.size w w' := by
  obtain ⟨D, hD⟩ : ∃ D, D = (Lib.byteCells d).toArray := ⟨_, rfl⟩
  rw [← hD]
  have HD := Lib.hid hD
  obtain ⟨hz, _⟩ := zero_of_info info_text
  obtain ⟨zs, hzs⟩ : ∃ z, z = (Lib.byteCells (List.replicate 64 0)).toArray := ⟨_, rfl⟩
  rw [← hzs] at hz
  have hsz : (Tryd.prog.info? 24).map (·.size) = some D.size := by rw [hD, List.size_toArray]; simp only [Lib.byteCells, List.length_map, hd]; exact (zero_of_info info_digest).2
  have hl1 : ((w.alloc (.cells D 24)).alloc (.cells zs 42)).heap[w.heap.size]? = some (.cells D 24 (0, 0)) := heap_alloc2_old w _ _
  have hb1 : BRow ((w.alloc (.cells D 24)).alloc (.cells zs 42)) (w.heap.size + 1) 42 (List.replicate 64 0) := by unfold BRow; rw [heap_alloc2_new, hzs]
  have hbel : Below w.heap.size w ((w.alloc (.cells D 24)).alloc (.cells zs 42)) := ((Below.refl _ _).alloc (Nat.le_refl _) _).alloc (by simp) _
  have HL1 := Lib.hid hl1
  have HB1 := Lib.hid hb1
  have HBL := Lib.hid hbel
  have HSZ := Lib.hid hsz
  have HLD := Lib.hid hd
  clear hD hd hl1 hb1 hbel hsz hzs
  go_enter Tryd.func8, Tryd.ntmps8
  go_wp2_with (refine wpList_load_row rfl 24 (.tmp 1) rfl w.heap.size rfl 24 D (0, 0) _ HL1.out Tryd.underlying24 rfl HSZ.out ?_)
  generalize (w.alloc (.cells D 24)).alloc (.cells zs 42) = w0 at HL1 HB1 HBL ⊢
  have hix : ∀ (k : Nat) (W : World), k < 32 → (Instr.index 24 (.agg D) (.int .i64 (k : Int))).run Tryd.prog W = .ok (.int .u8 (((d.getD k 0).toNat : Nat) : Int)) W := fun k W hk => by
    rw [HD.out]; exact run_index_u8 (P := Tryd.prog) W Tryd.underlying24 Tryd.underlying5 size_byte d HLD.out k hk
  have HX := Lib.hid hix
  have h0 : BRow w0 (w.heap.size + 1) 42 (hexOf (d.take 0) ++ List.replicate (64 - (hexOf (d.take 0)).length) 0) := HB1.out
  have H0 := Lib.hid h0
  clear hix h0 hz
  go_loopw [7] (fun vi wr => ∃ k : Nat, vi = .int .i64 k ∧ k ≤ 32 ∧ Below w.heap.size w wr ∧ BRow wr (w.heap.size + 1) 42 (hexOf (d.take k) ++ List.replicate (64 - (hexOf (d.take k)).length) 0))
    (fun vi _ => 32 - (intOf vi).toNat)
  case atStart => exact ⟨0, rfl, by omega, HBL.out, H0.out⟩
  case round =>
    obtain ⟨k, rfl, hk32, hbel, hrow⟩ := hrel
    clear H0 HBL HL1 HB1
    by_cases hk : k < 32
    · have hi := fun W => HX.out k W hk
      have hlen := hexOf_length (d.take k)
      rw [List.length_take, HLD.out, Nat.min_eq_left (by omega)] at hlen
      have hsucc := hexOf_succ d k (by rw [HLD.out]; exact hk)
      have lx := (d.getD k 0).toNat_lt
      obtain ⟨x, hx⟩ : ∃ x, x = (d.getD k 0).toNat := ⟨_, rfl⟩
      rw [← hx] at hi lx hsucc
      have x256 : x < 256 := lx
      have hx15 : bits .and .u8 (x : Int) 15 = ((x % 16 : Nat) : Int) := and15_u8 x x256
      obtain ⟨p, hp⟩ : ∃ p, p = (hexd.getD (x / 16) 0) := ⟨_, rfl⟩
      obtain ⟨q, hq⟩ : ∃ q, q = (hexd.getD (x % 16) 0) := ⟨_, rfl⟩
      have ip : ∀ W : World, (Instr.index 9 (.string ⟨#[48, 49, 50, 51, 52, 53, 54, 55, 56, 57, 97, 98, 99, 100, 101, 102]⟩) (.int .u8 ((x : Int) / 16))).run Tryd.prog W = .ok (.int .u8 (p.toNat : Int)) W := fun W => by
        rw [hp]; exact run_index_hex (P := Tryd.prog) W Tryd.underlying9 (x / 16) _ (by omega) (by omega)
      obtain ⟨m, hm⟩ : ∃ m, m = x % 16 := ⟨_, rfl⟩
      have iq : ∀ W : World, (Instr.index 9 (.string ⟨#[48, 49, 50, 51, 52, 53, 54, 55, 56, 57, 97, 98, 99, 100, 101, 102]⟩) (.int .u8 (m : Int))).run Tryd.prog W = .ok (.int .u8 (q.toNat : Int)) W := fun W => by
        rw [hq, ← hm]; exact run_index_hex (P := Tryd.prog) W Tryd.underlying9 m _ (by omega) rfl
      rw [← hm] at hx15
      rw [← hp, ← hq] at hsucc
      obtain ⟨o1, c1⟩ : ∃ v, wr.cell? ⟨w.heap.size + 1, 2 * k, none⟩ = some v := ⟨_, hrow.cell (2 * k) (by rw [List.length_append, List.length_replicate, hlen]; omega)⟩
      obtain ⟨o2, c2⟩ : ∃ v, wr.cell? ⟨w.heap.size + 1, 2 * k + 1, none⟩ = some v := ⟨_, hrow.cell (2 * k + 1) (by rw [List.length_append, List.length_replicate, hlen]; omega)⟩
      have f1 := hrow.frozen (2 * k)
      have f2 := hrow.frozen (2 * k + 1)
      have HS := Lib.hid hsucc
      have HE := Lib.hid hlen
      have HB := Lib.hid hbel
      have HR := Lib.hid hrow
      clear hsucc hlen hbel hrow hx hp hq hm lx
      go_wp2_with fail
      go_region
      have hrow2 : BRow (((wr.setCell ⟨w.heap.size + 1, 2 * k, none⟩ (.int .u8 (p.toNat : Int))).setCell ⟨w.heap.size + 1, 2 * k + 1, none⟩ (.int .u8 (q.toNat : Int))).drew) (w.heap.size + 1) 42 (hexOf (d.take (k + 1)) ++ List.replicate (64 - (hexOf (d.take (k + 1))).length) 0) := by
        have h := (HR.out.setB (2 * k) p).setB (2 * k + 1) q
        rw [two_set _ _ _ p q HE.out (by rw [HE.out]; omega), ← HS.out] at h
        rw [show (hexOf (d.take (k + 1))).length = (hexOf (d.take k)).length + 2 by rw [HS.out]; simp, ← Nat.sub_sub]
        exact h
      have hbel2 : Below w.heap.size w (((wr.setCell ⟨w.heap.size + 1, 2 * k, none⟩ (.int .u8 (p.toNat : Int))).setCell ⟨w.heap.size + 1, 2 * k + 1, none⟩ (.int .u8 (q.toNat : Int))).drew) := ((HB.out.setCell (by simp) _).setCell (by simp) _).drew
      generalize ((wr.setCell ⟨w.heap.size + 1, 2 * k, none⟩ (.int .u8 (p.toNat : Int))).setCell ⟨w.heap.size + 1, 2 * k + 1, none⟩ (.int .u8 (q.toNat : Int))).drew = w5 at hrow2 hbel2 ⊢
      have G1 := Lib.hid hrow2
      have G2 := Lib.hid hbel2
      clear hrow2 hbel2 c1 c2 f1 f2
      go_wp2
      refine ⟨⟨k + 1, by go_num, by omega, G2.out, G1.out⟩, ?_⟩
      simp [intOf]; omega
    · have hlen := hexOf_length d
      rw [HLD.out] at hlen
      rw [show k = 32 by omega, List.take_of_length_le (by rw [HLD.out]; exact Nat.le_refl _), hlen, show 64 - 2 * 32 = 0 from rfl, List.replicate_zero, List.append_nil] at hrow
      have hdk : decide ((k : Int) < 32) = false := by simpa using (by omega : ¬ (k : Int) < 32)
      have hsl : ∀ W : World, (Instr.sliceAt 42 (.pointer (some ⟨w.heap.size + 1, 0, none⟩)) none none none).run Tryd.prog W = .ok (.slice (some ⟨w.heap.size + 1, 0, none⟩) 64 64) W := fun W => run_slice_arr_all (P := Tryd.prog) W Tryd.underlying42 size_byte _ 0 (by decide)
      have kst := run_string (P := Tryd.prog) wr 22 5 9 Tryd.underlying22 Tryd.underlying5 Tryd.underlying9 (some ⟨w.heap.size + 1, 0, none⟩) (hexOf d) 64 hrow.txt
      rw [hlen] at kst
      have kst' : (convert 22 9 (.slice (some ⟨w.heap.size + 1, 0, none⟩) 64 64)).run Tryd.prog wr = .ok (.string ⟨(hexOf d).toArray⟩) wr := kst
      have HB := Lib.hid hbel
      clear kst hrow hlen hbel hk hk32
      go_wp2
      go_ret
      exact ⟨rfl, HB.out⟩

end Go.Proofs.YtopchpaiehoilaaDoor
