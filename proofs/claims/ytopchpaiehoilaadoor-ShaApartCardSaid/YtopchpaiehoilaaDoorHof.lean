/-
  What package sha's New and Of do; what the row's condition says of its tables.
-/
import Derived.Test.YtopchpaiehoilaaDoorHsu
import Derived.Lib.LaidTab
import Derived.LaidSub
namespace Go.Proofs.YtopchpaiehoilaaDoor
open Go Go.RowKit

theorem built_hash : Tryd.prog.built 44 [(0, .agg (u32s IT).toArray)] = some (hcells IT (List.replicate 64 0) 0).toArray := by kernel_rfl

theorem wpList_build_as {P : Program} {w : World} {ops : Array Oper} {rest : List Oper} {o : Oper} {a : Act} {Q : Exit → Act → World → Prop} (hgd : o.guard = none) (t : TypeId) (i : Nat) (x : Operand) (v : Value) (C : Array Value) (ho : o.op = .build t #[(i, x)]) (hx : a.eval x = v)
    (hb : P.built t [(i, v)] = some C) (h : wpList P ops Q rest (a.put o.dst (.agg C)) w) : wpList P ops Q (o :: rest) a w :=
  wpList_build hgd t _ ho (by simp [hx, hb]) (by simpa [hx, hb] using h)

set_option maxRecDepth 100000 in
theorem New_any (w : World) (hT : Tabs w) : Calls Tryd.prog 10 #[] w fun e w' => e = .returned (.pointer (some ⟨w.heap.size, 0, none⟩)) ∧ w' = w.alloc (.cells (hcells IT (List.replicate 64 0) 0).toArray 44) := by
  have hr : w.rangeAt 0 0 (u32s IT) := fun j v hv => by
    have hj : j < (u32s IT).length := (List.getElem?_eq_some_iff.1 hv).1
    have hj8 : j < 8 := hj
    rw [Nat.zero_add, hT.begun j hj8, ← hv, u32s_get (by exact hj8)]
  have hbu := built_hash
  clear hT
  have hlen : (Tryd.prog.info? 37).map (·.size) = some (u32s IT).length := size_state
  generalize u32s IT = I at hr hbu hlen
  generalize (hcells IT (List.replicate 64 0) 0).toArray = H at hbu ⊢
  have HR := Lib.hid hr
  have HL := Lib.hid hlen
  have HB := Lib.hid hbu
  clear hr hlen hbu
  go_enter Tryd.func10, Tryd.ntmps10
  go_wp2_with (first | (refine wpList_load_mid rfl 37 (.global 0) rfl 0 0 rfl I _ HR.out Tryd.underlying37 rfl HL.out ?_) | (refine wpList_build_as rfl 44 0 (.tmp 1) (.agg I.toArray) H rfl rfl HB.out ?_))
  go_ret
  exact ⟨rfl, rfl⟩

theorem held_new (w : World) : Held (w.alloc (.cells (hcells IT (List.replicate 64 0) 0).toArray 44)) w.heap.size [] :=
  ⟨List.replicate 64 0, ⟨heap_alloc_new w _, rfl, by simp⟩, by simp⟩

theorem New_held (w : World) (hT : Tabs w) : Calls Tryd.prog 10 #[] w fun e w' => e = .returned (.pointer (some ⟨w.heap.size, 0, none⟩)) ∧ Held w' w.heap.size [] ∧ Below w.heap.size w w' := by
  refine (New_any w hT).mono ?_
  rintro e w' ⟨rfl, rfl⟩
  exact ⟨rfl, held_new w, (Below.refl _ _).alloc (Nat.le_refl _) _⟩

theorem below_of_grown {w w1 w2 : World} {g : Nat} (hb : Below w.heap.size w w1) (hg : w1.grownBy w2 (some g)) (hgl : w.heap.size ≤ g) : Below w.heap.size w w2 :=
  ⟨hg.os.trans hb.os, hg.tape.trans hb.tape, hg.output.trans hb.output, Nat.le_trans hb.size hg.size, fun k hk => (hg.block k (Nat.lt_of_lt_of_le hk hb.size) (by intro e; injection e with e; omega)).trans (hb.block k hk)⟩

theorem shaWith_length (K : List Nat) (s : S8) (l : List UInt8) : (shaWith K s l).length = 32 := outOf_length _

set_option maxHeartbeats 4000000 in
set_option maxRecDepth 100000 in
theorem Of_any (a : Option Addr) (n c : Nat) (l : List UInt8) (w : World) (hT : Tabs w) (hn : n = l.length) (ht : Txt w a l) (hc : l.length ≤ c) (hm : c ≤ maxLen) (hL : l.length ≤ 1152921504606846976) :
    Calls Tryd.prog 6 #[.slice a n c] w fun e w' => e = .returned (.agg (Lib.byteCells (shaWith KT I8 l)).toArray) ∧ Below w.heap.size w w' := by
  subst hn
  obtain ⟨hz, hsz⟩ := zero_of_info info_digest
  obtain ⟨zs, hzs⟩ : ∃ z, z = (Lib.byteCells (List.replicate 32 0)).toArray := ⟨_, rfl⟩
  rw [← hzs] at hz
  have hlt := hT.lt
  have hb1 : Below w.heap.size w (w.alloc (.cells zs 24)) := (Below.refl _ _).alloc (Nat.le_refl _) _
  have hres1 : (w.alloc (.cells zs 24)).heap[w.heap.size]? = some (.cells zs 24 (0, 0)) := heap_alloc_new w _
  have hnew := New_held (w.alloc (.cells zs 24)) (hT.below hb1 (Nat.le_refl _))
  have hs1 : (w.alloc (.cells zs 24)).heap.size = w.heap.size + 1 := by simp
  rw [hs1] at hnew
  have HZ := Lib.hid hzs
  have HSZ := Lib.hid hsz
  have HB1 := Lib.hid hb1
  have HR1 := Lib.hid hres1
  have HT := Lib.hid hT
  have HX := Lib.hid ht
  obtain ⟨n, hn⟩ : ∃ n, n = l.length := ⟨_, rfl⟩
  rw [← hn]
  have HN := Lib.hid hn
  clear hzs hsz hb1 hres1 hT ht hs1 hn
  go_enter Tryd.func6, Tryd.ntmps6
  go_wp2_with fail
  refine hnew.mono ?_
  generalize w.alloc (.cells zs 24) = w1 at HB1 HR1
  rintro e w2 ⟨rfl, hh2, hb2⟩
  have hb2' : Below (w.heap.size + 1) w1 w2 := hb2
  have hB2 : Below w.heap.size w w2 := HB1.out.trans (hb2.mono (by omega))
  have hR2 : w2.heap[w.heap.size]? = some (.cells zs 24 (0, 0)) := (hb2.block w.heap.size (by omega)).trans HR1.out
  have hadd := Add_any (w.heap.size + 1) c [] l a w2 (HT.out.below hB2 (Nat.le_refl _)) (by omega) hh2 (HX.out.below hB2) (fun b o e hne => by
    obtain ⟨b', o', e', hlt', _⟩ := HX.out hne
    rw [e] at e'
    simp only [Option.some.injEq, Addr.mk.injEq, and_true] at e'
    omega) hc hm (by simp)
  rw [← HN.out, List.nil_append] at hadd
  have HB2 := Lib.hid hB2
  have HR2 := Lib.hid hR2
  have hl2 := hh2.lt
  clear hb2 hb2' hB2 hR2 hh2 hnew
  go_wp2_with fail
  refine hadd.mono ?_
  rintro e w3 ⟨rfl, hh3, hg3⟩
  have hB3 : Below w.heap.size w w3 := below_of_grown HB2.out hg3 (by omega)
  have hR3 : w3.heap[w.heap.size]? = some (.cells zs 24 (0, 0)) := (hg3.block w.heap.size (by omega) (by intro e; injection e with e; omega)).trans HR2.out
  have hsum := Sum_any (w.heap.size + 1) l w3 (HT.out.below hB3 (Nat.le_refl _)) (by omega) hh3 hL
  have hl3 := hg3.size
  have HB3 := Lib.hid hB3
  have HR3 := Lib.hid hR3
  clear hB3 hR3 hh3 hg3 hadd
  go_wp2_with fail
  refine hsum.mono ?_
  rintro e w4 ⟨rfl, hb4⟩
  obtain ⟨V, hV⟩ : ∃ V, V = (Lib.byteCells (shaWith KT I8 l)).toArray := ⟨_, rfl⟩
  have A7 := Lib.hid hV
  rw [← hV]
  have hVs : V.size = 32 := by rw [hV, List.size_toArray]; simp [Lib.byteCells, shaWith_length]
  have hone : V.all (·.oneCell') = true := by rw [hV]; exact Array.all_eq_true_iff_forall_mem.2 (fun v hv => byteCells_one _ v (by simpa using hv))
  have hi1 : (Tryd.prog.info? 24).map (·.size) = some V.size := by rw [hVs]; exact HSZ.out
  have hzsz : zs.size = V.size := by
    have h := congrArg Array.size HZ.out
    rw [h, hVs]; simp [Lib.byteCells]
  have hR4 : w4.heap[w.heap.size]? = some (.cells zs 24 (0, 0)) := (hb4.block w.heap.size (by omega)).trans HR3.out
  have hB4 : Below w.heap.size w w4 := HB3.out.trans (hb4.mono (by omega))
  have A2 := Lib.hid hi1
  have A3 := Lib.hid hzsz
  have A4 := Lib.hid hone
  have A5 := Lib.hid hR4
  have A6 := Lib.hid hB4
  clear hV hVs hone hi1 hzsz hR4 hB4 hb4 hz hsum
  go_wp2_with (refine wpList_store_row rfl 24 (.tmp 2) (.tmp 9) rfl w.heap.size V rfl rfl 24 zs A5.out A2.out A3.out A4.out ?_)
  refine bodyPost_ret (v := .agg V) (results_cell_row (p := 2) (ty := 24) rfl _ _ w.heap.size 24 V (0, 0) _ rfl (setRow_heap w4 w.heap.size _ _ _ _ A5.out) Tryd.underlying24 rfl A2.out) rfl ⟨by rw [A7.out], below_setRow A6.out (Nat.le_refl _) V⟩

/-- The list that every row of this seat bears. -/
abbrev LAID : List (String × DataW Unit) := [("escapement/sha.begun", Rows.laid_escapement_sha_begun), ("escapement/sha.turns", Rows.laid_escapement_sha_turns)]

theorem begun_number : Tryd.prog.globalNamed "escapement/sha.begun" = some 0 := by kernel_rfl
theorem turns_number : Tryd.prog.globalNamed "escapement/sha.turns" = some 1 := by kernel_rfl
theorem begun_type : (Tryd.prog.globals[0]?).map (·.type) = some 37 := by kernel_rfl
theorem turns_type : (Tryd.prog.globals[1]?).map (·.type) = some 38 := by kernel_rfl
theorem cells_u32 : Tryd.prog.cellsOf 36 = 1 := by kernel_rfl
theorem cells_8 : Tryd.prog.cellsOf 37 = 8 := by kernel_rfl
theorem cells_64 : Tryd.prog.cellsOf 38 = 64 := by kernel_rfl
theorem begun_same : (Rows.laid_escapement_sha_begun : DataW Unit) = Lib.tabData .u32 (IT.map fun (n : Nat) => (n : Int)) := by
  unfold Rows.laid_escapement_sha_begun Lib.tabData
  rfl
theorem turns_same : (Rows.laid_escapement_sha_turns : DataW Unit) = Lib.tabData .u32 (KT.map fun (n : Nat) => (n : Int)) := by
  unfold Rows.laid_escapement_sha_turns Lib.tabData
  rfl

theorem tab_of {W : World} (h : laidMet Tryd.prog LAID W) : Tabs W := by
  unfold LAID at h
  rw [begun_same, turns_same] at h
  have h2 := h.filter (fun x => x.1 == "escapement/sha.turns")
  have e2 : ([("escapement/sha.begun", (Lib.tabData .u32 (IT.map fun (n : Nat) => (n : Int)) : DataW Unit)), ("escapement/sha.turns", Lib.tabData .u32 (KT.map fun (n : Nat) => (n : Int)))].filter fun x => x.1 == "escapement/sha.turns") = [("escapement/sha.turns", Lib.tabData .u32 (KT.map fun (n : Nat) => (n : Int)))] := by
    simp [List.filter]
  rw [e2] at h2
  have t1 := Lib.tabIs_of_head begun_number begun_type Tryd.underlying37 Tryd.underlying36 cells_u32 cells_8 h
  have t2 := Lib.tabIs_of_head turns_number turns_type Tryd.underlying38 Tryd.underlying36 cells_u32 cells_64 h2
  refine ⟨fun r hr => ?_, fun r hr => ?_⟩
  · rw [t1.cell begun_number r (by rw [List.length_map]; exact hr)]
    have hr' : r < IT.length := hr
    simp [List.getD_eq_getElem?_getD, hr']
  · rw [t2.cell turns_number r (by rw [List.length_map]; exact hr)]
    have hr' : r < KT.length := hr
    simp [List.getD_eq_getElem?_getD, hr']

end Go.Proofs.YtopchpaiehoilaaDoor
