/-
  What lies in package sha's tables and in a Hash.
-/
import Derived.Test.YtopchpaiehoilaaDoorHro
import Derived.Test.YtopchpaiehoilaaDoorHwr
import Derived.Laws.AppendOwn
namespace Go.Proofs.YtopchpaiehoilaaDoor
open Go Go.RowKit

def IT : List Nat := [1779033703, 3144134277, 1013904242, 2773480762, 1359893119, 2600822924, 528734635, 1541459225]
def KT : List Nat := [1116352408, 1899447441, 3049323471, 3921009573, 961987163, 1508970993, 2453635748, 2870763221, 3624381080, 310598401, 607225278, 1426881987, 1925078388, 2162078206, 2614888103, 3248222580, 3835390401, 4022224774, 264347078, 604807628, 770255983, 1249150122, 1555081692, 1996064986, 2554220882, 2821834349, 2952996808, 3210313671, 3336571891, 3584528711, 113926993, 338241895, 666307205, 773529912, 1294757372, 1396182291, 1695183700, 1986661051, 2177026350, 2456956037, 2730485921, 2820302411, 3259730800, 3345764771, 3516065817, 3600352804, 4094571909, 275423344, 430227734, 506948616, 659060556, 883997877, 958139571, 1322822218, 1537002063, 1747873779, 1955562222, 2024104815, 2227730452, 2361852424, 2428436474, 2756734187, 3204031479, 3329325298]
def I8 : S8 := ⟨1779033703, 3144134277, 1013904242, 2773480762, 1359893119, 2600822924, 528734635, 1541459225⟩
theorem I8_list : I8.list = IT := rfl
theorem I8_ok : I8.Ok := by unfold I8 S8.Ok; decide
theorem KT_lt (i : Nat) : KT.getD i 0 < 4294967296 := by
  by_cases h : i < 64
  · have : ∀ i : Fin 64, KT.getD i.val 0 < 4294967296 := by decide
    exact this ⟨i, h⟩
  · have h' : KT.length ≤ i := by simp only [show KT.length = 64 from rfl]; omega
    simp [List.getD_eq_getElem?_getD, List.getElem?_eq_none h']

/-- The tables hold what they were laid with. -/
structure Tabs (w : World) : Prop where
  begun : ∀ r : Nat, r < 8 → w.cell? ⟨0, r, none⟩ = some (.int .u32 ((IT.getD r 0 : Nat) : Int))
  turns : ∀ r : Nat, r < 64 → w.cell? ⟨1, r, none⟩ = some (.int .u32 ((KT.getD r 0 : Nat) : Int))

theorem Tabs.lt {w : World} (h : Tabs w) : 1 < w.heap.size := World.block_lt_of_cell? w _ (h.turns 0 (by decide))
theorem Tabs.grown {w w' : World} {r : Option Nat} (h : Tabs w) (hg : w.grownBy w' r) (h2 : ∀ k, r = some k → 1 < k) : Tabs w' :=
  ⟨fun k hk => hg.cell (h.begun k hk) (fun e => by have := h2 _ e.symm; simp at this), fun k hk => hg.cell (h.turns k hk) (fun e => by have := h2 _ e.symm; simp at this)⟩
theorem Tabs.below {w w' : World} {B : Nat} (h : Tabs w) (hb : Below B w w') (hB : w.heap.size ≤ B) : Tabs w' :=
  ⟨fun k hk => (hb.cell (p := ⟨0, k, none⟩) (by have := h.lt; show 0 < B; omega)).trans (h.begun k hk), fun k hk => (hb.cell (p := ⟨1, k, none⟩) (by have := h.lt; show 1 < B; omega)).trans (h.turns k hk)⟩

/-- A Hash's cells. -/
def hcells (l : List Nat) (rest : List UInt8) (sz : Nat) : List Value := u32s l ++ (Lib.byteCells rest ++ [.int .u64 (sz : Int)])
/-- Block g is a Hash. -/
def HRow (w : World) (g : Nat) (l : List Nat) (rest : List UInt8) (sz : Nat) : Prop := w.heap[g]? = some (.cells (hcells l rest sz).toArray 44 (0, 0)) ∧ l.length = 8 ∧ rest.length = 64
def HBlk (w : World) (g : Nat) (s : S8) (rest : List UInt8) (sz : Nat) : Prop := HRow w g s.list rest sz

theorem HRow.lt {w : World} {g : Nat} {l : List Nat} {rest : List UInt8} {sz : Nat} (h : HRow w g l rest sz) : g < w.heap.size := (Array.getElem?_eq_some_iff.1 h.1).1
theorem HRow.frozen {w : World} {g : Nat} {l : List Nat} {rest : List UInt8} {sz : Nat} (h : HRow w g l rest sz) (i : Nat) : w.frozen? ⟨g, i, none⟩ = false := by
  simp [World.frozen?, h.1]
theorem HRow.cell {w : World} {g : Nat} {l : List Nat} {rest : List UInt8} {sz : Nat} (h : HRow w g l rest sz) (i : Nat) (hi : i < 8) : w.cell? ⟨g, i, none⟩ = some (.int .u32 ((l.getD i 0 : Nat) : Int)) := by
  have h8 := h.2.1
  simp [World.cell?, h.1, hcells, u32s, List.getElem?_append_left, h8, hi]
theorem HRow.cellr {w : World} {g : Nat} {l : List Nat} {rest : List UInt8} {sz : Nat} (h : HRow w g l rest sz) (i : Nat) (hi : i < rest.length) : w.cell? ⟨g, 8 + i, none⟩ = some (.int .u8 (rest[i].toNat : Int)) := by
  have h8 := h.2.1
  have h64 := h.2.2
  have e : (hcells l rest sz)[8 + i]? = some (.int .u8 (rest[i].toNat : Int)) := by
    unfold hcells
    rw [List.getElem?_append_right (by rw [u32s_length]; omega), u32s_length, h8, Nat.add_sub_cancel_left, List.getElem?_append_left (by simpa [Lib.byteCells] using hi)]
    simp [Lib.byteCells, hi]
  simp [World.cell?, h.1, e]
theorem HRow.cells {w : World} {g : Nat} {l : List Nat} {rest : List UInt8} {sz : Nat} (h : HRow w g l rest sz) : w.cell? ⟨g, 72, none⟩ = some (.int .u64 (sz : Int)) := by
  have h8 := h.2.1
  have h64 := h.2.2
  simp [World.cell?, h.1, hcells, u32s, List.getElem?_append_right, h8, h64, Lib.byteCells]
theorem HRow.txt {w : World} {g : Nat} {l : List Nat} {rest : List UInt8} {sz : Nat} (h : HRow w g l rest sz) : Txt w (some ⟨g, 8, none⟩) rest := fun _ => ⟨g, 8, rfl, h.lt, fun i hi => h.cellr i hi⟩
theorem HRow.setl {w : World} {g : Nat} {l : List Nat} {rest : List UInt8} {sz : Nat} (h : HRow w g l rest sz) (i x : Nat) (hi : i < 8) : HRow (w.setCell ⟨g, i, none⟩ (.int .u32 (x : Int))) g (l.set i x) rest sz := by
  refine ⟨?_, by simp [h.2.1], h.2.2⟩
  rw [heap_setCell_same w g i _ _ _ h.1]
  have h8 := h.2.1
  simp [hcells, u32s, List.map_set, List.set_append_left, h8, hi]
theorem HRow.sets {w : World} {g : Nat} {l : List Nat} {rest : List UInt8} {sz : Nat} (h : HRow w g l rest sz) (x : Nat) : HRow (w.setCell ⟨g, 72, none⟩ (.int .u64 (x : Int))) g l rest x := by
  refine ⟨?_, h.2.1, h.2.2⟩
  rw [heap_setCell_same w g 72 _ _ _ h.1]
  have h8 := h.2.1
  have h64 := h.2.2
  simp [hcells, u32s, List.set_append_right, h8, h64, Lib.byteCells]
theorem HRow.grown {w w' : World} {g : Nat} {r : Option Nat} {l : List Nat} {rest : List UInt8} {sz : Nat} (h : HRow w g l rest sz) (hg : w.grownBy w' r) (hr : some g ≠ r) : HRow w' g l rest sz := ⟨(hg.block g h.lt hr).trans h.1, h.2⟩

theorem grownBy_below {w w' : World} {r : Option Nat} (h : Below w.heap.size w w') : w.grownBy w' r := ⟨h.os, h.tape, h.output, h.size, fun k hk _ => h.block k hk⟩
theorem grownBy_trans {a b c : World} {r : Option Nat} (h : a.grownBy b r) (k : b.grownBy c r) : a.grownBy c r :=
  ⟨k.os.trans h.os, k.tape.trans h.tape, k.output.trans h.output, Nat.le_trans h.size k.size, fun i hi hr => (k.block i (Nat.lt_of_lt_of_le hi h.size) hr).trans (h.block i hi hr)⟩
theorem grownBy_setCell {a w : World} {r : Option Nat} (h : a.grownBy w r) (p : Addr) (v : Value) (hp : some p.block = r ∨ a.heap.size ≤ p.block) : a.grownBy (w.setCell p v) r :=
  ⟨h.os, h.tape, h.output, by simpa using h.size, fun i hi hr => by
    rw [heap_setCell_other w p i v (by rintro rfl; rcases hp with hp | hp <;> first | exact hr hp | omega)]
    exact h.block i hi hr⟩
theorem grownBy_drew {a w : World} {r : Option Nat} (h : a.grownBy w r) : a.grownBy w.drew r := ⟨h.os, h.tape, h.output, h.size, h.block⟩
theorem grownBy_drewN {a w : World} {r : Option Nat} (h : a.grownBy w r) (n : Nat) : a.grownBy (w.drewN n) r := ⟨h.os, h.tape, h.output, h.size, h.block⟩

theorem size_u32 : (Tryd.prog.info? 36).map (·.size) = some 1 := by kernel_rfl
theorem run_index_u32 {P : Program} (W : World) {t e : TypeId} {n : Nat} (ht : P.underlying t = some (.array n e)) (he : P.underlying e = some (.int .u32)) (hz : (P.info? e).map (·.size) = some 1) (l : List Nat) (hl : l.length = n) (k : Nat) (hk : k < n) :
    (Instr.index t (.agg (u32s l).toArray) (.int .i64 (k : Int))).run P W = .ok (.int .u32 ((l.getD k 0 : Nat) : Int)) W := by
  have hkl : k < l.length := by omega
  have hagg : (isAgg e).run P W = .ok false W := by
    unfold isAgg
    rw [Sem.run_bind, run_underlying he W]
    rfl
  cases hq : P.info? e with
  | none => simp [hq] at hz
  | some i =>
    have hs : i.size = 1 := by simpa [hq] using hz
    simp [Instr.index, asIntOf, Sem.run_bind, run_underlying ht, hk, sizeOf, typeInfo, hq, hs, part, hagg, u32s_get hkl]

end Go.Proofs.YtopchpaiehoilaaDoor
