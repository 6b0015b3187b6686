/-
  The awake test of layer 3's statements is true in every world in which the tables lie, and leaves older memory as it was.
-/
import Derived.Test.YtopchpaiehoilaaDoorHof
import Derived.Test.YtopchpaiehoilaaDoorHhx
import Derived.Lib.SlBytesConst
import Derived.Stop.BytesEq
namespace Go.Proofs.YtopchpaiehoilaaDoor
open Go Go.RowKit

/-- The digest. -/
def shaOf (l : List UInt8) : List UInt8 := shaWith KT I8 l
theorem shaOf_length (l : List UInt8) : (shaOf l).length = 32 := outOf_length _

theorem abc_hex : hexOf (shaOf [97, 98, 99]) = [98, 97, 55, 56, 49, 54, 98, 102, 56, 102, 48, 49, 99, 102, 101, 97, 52, 49, 52, 49, 52, 48, 100, 101, 53, 100, 97, 101, 50, 50, 50, 51, 98, 48, 48, 51, 54, 49, 97, 51, 57, 54, 49, 55, 55, 97, 57, 99, 98, 52, 49, 48, 102, 102, 54, 49, 102, 50, 48, 48, 49, 53, 97, 100] := by kernel_rfl

theorem Held.below {w w' : World} {g : Nat} {L : List UInt8} (h : Held w g L) (hb : Below w.heap.size w w') : Held w' g L := h.grown (grownBy_below hb (r := none)) (by simp)

/-- Two digests compared. -/
theorem run_eq_digest (x y : List UInt8) (hx : x.length = 32) (hy : y.length = 32) (W : World) : (binOp .eql 24 (.agg (Lib.byteCells x).toArray) (.agg (Lib.byteCells y).toArray)).run Tryd.prog W = .ok (.bool (x == y)) W := by
  have hsz : ∀ w, (sizeOf 5).run Tryd.prog w = .ok 1 w := fun w => by
    cases hq : Tryd.prog.info? 5 with
    | none => have h := size_byte; simp [hq] at h
    | some i => have h := size_byte; simp [hq] at h; simp [sizeOf, typeInfo, hq, h]
  exact run_eql_bytes (P := Tryd.prog) W 24 5 32 Tryd.underlying24 Tryd.underlying5 hsz x y hx hy
theorem run_ne_digest (x y : List UInt8) (hx : x.length = 32) (hy : y.length = 32) (W : World) : (binOp .neq 24 (.agg (Lib.byteCells x).toArray) (.agg (Lib.byteCells y).toArray)).run Tryd.prog W = .ok (.bool (!(x == y))) W := by
  have hsz : ∀ w, (sizeOf 5).run Tryd.prog w = .ok 1 w := fun w => by
    cases hq : Tryd.prog.info? 5 with
    | none => have h := size_byte; simp [hq] at h
    | some i => have h := size_byte; simp [hq] at h; simp [sizeOf, typeInfo, hq, h]
  rw [run_neq_struct]
  have h := run_equalIn_bytes (P := Tryd.prog) W 9998 24 5 32 Tryd.underlying24 Tryd.underlying5 hsz x y hx hy
  have e : ∀ l, Lib.byteCells l = l.map Extern.Stop.cell := fun l => rfl
  rw [e, e, h]
  rfl

theorem digest_same (x : List UInt8) (hx : x.length = 32) : ∀ W : World, (binOp .eql 24 (.agg (Lib.byteCells x).toArray) (.agg (Lib.byteCells x).toArray)).run Tryd.prog W = .ok (.bool true) W := fun W => by
  rw [run_eq_digest x x hx hx W]; simp

set_option maxHeartbeats 8000000 in
set_option maxRecDepth 100000 in
theorem awake_any (w : World) (hT : Tabs w) : Calls Tryd.prog 5 #[] w fun e w' => e = .returned (.bool true) ∧ Below w.heap.size w w' := by
  have kc := fun (W : World) (C : Array Value) (n c : Nat) => Lib.run_convert_bytes_const (P := Tryd.prog) W 22 5 C n c Tryd.underlying22 Tryd.underlying5
  have hnew := New_held w hT
  have hlt := hT.lt
  have HT := Lib.hid hT
  clear hT
  go_enter Tryd.func5, Tryd.ntmps5
  go_wp2_with fail
  refine hnew.mono ?_
  rintro e w1 ⟨rfl, hh1, hb1⟩
  have hgl := hh1.lt
  have H1 := Lib.hid hh1
  have B1 := Lib.hid hb1
  clear hnew hh1 hb1
  obtain ⟨g, hg⟩ : ∃ g, g = w.heap.size := ⟨_, rfl⟩
  rw [← hg] at H1 hgl ⊢
  have HG := Lib.hid hg
  have g2 : 1 < g := by omega
  clear hg
  go_wp2_with fail
  have t2 := lit_txt w1 [97, 98] #[.int .u8 97, .int .u8 98] rfl 5 (2, 3)
  have b2 : Below w1.heap.size w1 (w1.alloc (.cells #[.int .u8 97, .int .u8 98] 5 (2, 3))) := (Below.refl _ _).alloc (Nat.le_refl _) _
  generalize w1.alloc (.cells #[.int .u8 97, .int .u8 98] 5 (2, 3)) = w2 at t2 b2 ⊢
  have hB2 : Below w.heap.size w w2 := B1.out.trans (b2.mono B1.out.size)
  refine (Add_any g 2 [] [97, 98] _ w2 (HT.out.below hB2 (Nat.le_refl _)) g2 (H1.out.below b2) t2 (by intro b o e _; injection e with e; injection e with e; omega) (by decide) (by decide) (by decide)).mono ?_
  rintro e w3 ⟨rfl, hh3, hg3⟩
  have hB3 := below_of_grown hB2 hg3 (by rw [← HG.out]; exact Nat.le_refl _)
  have hs3 := hg3.size
  have hs2 := b2.size
  have H3 := Lib.hid hh3
  have B3 := Lib.hid hB3
  clear hh3 hB3 hg3 hB2 b2 t2
  go_wp2_with fail
  have t4 := lit_txt w3 [99] #[.int .u8 99] rfl 5 (1, 2)
  have b4 : Below w3.heap.size w3 (w3.alloc (.cells #[.int .u8 99] 5 (1, 2))) := (Below.refl _ _).alloc (Nat.le_refl _) _
  generalize w3.alloc (.cells #[.int .u8 99] 5 (1, 2)) = w4 at t4 b4 ⊢
  have hB4 : Below w.heap.size w w4 := B3.out.trans (b4.mono B3.out.size)
  refine (Add_any g 1 [97, 98] [99] _ w4 (HT.out.below hB4 (Nat.le_refl _)) g2 (H3.out.below b4) t4 (by intro b o e _; injection e with e; injection e with e; omega) (by decide) (by decide) (by decide)).mono ?_
  rintro e w5 ⟨rfl, hh5, hg5⟩
  have hB5 := below_of_grown hB4 hg5 (by rw [← HG.out]; exact Nat.le_refl _)
  have hs5 := hg5.size
  have hs4 := b4.size
  have H5 := Lib.hid hh5
  have B5 := Lib.hid hB5
  clear hh5 hB5 hg5 hB4 b4 t4
  go_wp2_with fail
  have t6 := lit_txt w5 [97, 98, 99] #[.int .u8 97, .int .u8 98, .int .u8 99] rfl 5 (3, 4)
  have b6 : Below w5.heap.size w5 (w5.alloc (.cells #[.int .u8 97, .int .u8 98, .int .u8 99] 5 (3, 4))) := (Below.refl _ _).alloc (Nat.le_refl _) _
  generalize w5.alloc (.cells #[.int .u8 97, .int .u8 98, .int .u8 99] 5 (3, 4)) = w6 at t6 b6 ⊢
  have hB6 : Below w.heap.size w w6 := B5.out.trans (b6.mono B5.out.size)
  refine (Of_any _ 3 3 [97, 98, 99] w6 (HT.out.below hB6 (Nat.le_refl _)) rfl t6 (by decide) (by decide) (by decide)).mono ?_
  rintro e w7 ⟨rfl, hb7⟩
  have hB7 : Below w.heap.size w w7 := hB6.trans (hb7.mono hB6.size)
  have hh7 := (H5.out.below b6).below hb7
  have HH7 := Lib.hid hh7
  have B7 := Lib.hid hB7
  clear hh7 hB7 hB6 hb7 b6 t6
  have hhex := Hex_any (shaWith KT I8 [97, 98, 99]) w7 (shaOf_length _)
  rw [show hexOf (shaWith KT I8 [97, 98, 99]) = _ from abc_hex] at hhex
  have heq := digest_same (shaWith KT I8 [97, 98, 99]) (shaOf_length _)
  have hsum := fun W hT hg hh => Sum_any g [97, 98, 99] W hT hg hh (by decide)
  have hof := fun a W hT ht => Of_any a 3 3 [97, 98, 99] W hT rfl ht (by decide) (by decide) (by decide)
  generalize (Lib.byteCells (shaWith KT I8 [97, 98, 99])).toArray = A at hhex heq hsum hof ⊢
  have HS := Lib.hid hsum
  have HO := Lib.hid hof
  clear hsum hof
  go_wp2_with fail
  refine hhex.mono ?_
  rintro e w8 ⟨rfl, hb8⟩
  have hB8 : Below w.heap.size w w8 := B7.out.trans (hb8.mono B7.out.size)
  have hh8 := HH7.out.below hb8
  have B8 := Lib.hid hB8
  have H8 := Lib.hid hh8
  clear hB8 hh8 hb8 hhex
  go_wp2_with fail
  refine (HS.out _ (HT.out.below B8.out (Nat.le_refl _)) g2 H8.out).mono ?_
  rintro e w9 ⟨rfl, hb9⟩
  have hB9 : Below w.heap.size w w9 := B8.out.trans (hb9.mono B8.out.size)
  have B9 := Lib.hid hB9
  clear hB9 hb9
  go_wp2_with fail
  have t10 := lit_txt w9 [97, 98, 99] #[.int .u8 97, .int .u8 98, .int .u8 99] rfl 5 (3, 4)
  have b10 : Below w9.heap.size w9 (w9.alloc (.cells #[.int .u8 97, .int .u8 98, .int .u8 99] 5 (3, 4))) := (Below.refl _ _).alloc (Nat.le_refl _) _
  generalize w9.alloc (.cells #[.int .u8 97, .int .u8 98, .int .u8 99] 5 (3, 4)) = w10 at t10 b10 ⊢
  have hB10 : Below w.heap.size w w10 := B9.out.trans (b10.mono B9.out.size)
  refine (HO.out _ _ (HT.out.below hB10 (Nat.le_refl _)) t10).mono ?_
  rintro e w11 ⟨rfl, hb11⟩
  have hB11 : Below w.heap.size w w11 := hB10.trans (hb11.mono hB10.size)
  have B11 := Lib.hid hB11
  clear hB11 hb11 hB10 b10 t10
  go_wp2_with fail
  go_ret
  exact ⟨rfl, B11.out⟩

end Go.Proofs.YtopchpaiehoilaaDoor
