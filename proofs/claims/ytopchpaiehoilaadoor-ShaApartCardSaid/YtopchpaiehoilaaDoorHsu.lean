/-
  What package sha's Sum, New and Of do.
-/
import Derived.Test.YtopchpaiehoilaaDoorHen
namespace Go.Proofs.YtopchpaiehoilaaDoor
open Go Go.RowKit

theorem info_hash : (Tryd.prog.info? 44).map (fun i => (i.zero, i.size)) = some (some (.agg (hcells (List.replicate 8 0) (List.replicate 64 0) 0).toArray), 73) := by kernel_rfl
theorem size_state : (Tryd.prog.info? 37).map (·.size) = some 8 := by kernel_rfl

def outN (s : S8) (k : Nat) : List UInt8 := (s.list.take k).flatMap fun u => be8 4 u
theorem outN_length (s : S8) : ∀ k, k ≤ 8 → (outN s k).length = 4 * k := by
  intro k hk
  unfold outN
  rw [List.length_flatMap]
  have h : ∀ l : List Nat, (l.map fun u => (be8 4 u).length).sum = 4 * l.length := by
    intro l
    induction l with
    | nil => rfl
    | cons x r ih => rw [List.map_cons, List.sum_cons, ih, be8_length, List.length_cons]; omega
  rw [h, List.length_take, show s.list.length = 8 from rfl, Nat.min_eq_left hk]
theorem outN_succ (s : S8) (k : Nat) (hk : k < 8) : outN s (k + 1) = outN s k ++ be8 4 (s.list.getD k 0) := by
  unfold outN
  have hl : k < s.list.length := hk
  rw [List.take_succ_eq_append_getElem hl, List.flatMap_append]
  simp [List.getD_eq_getElem?_getD, hl]
theorem lay_next (A m : List UInt8) (n : Nat) (h : m.length ≤ n) : lay (A ++ List.replicate n 0) A.length m = (A ++ m) ++ List.replicate (n - m.length) 0 := by
  have e : List.replicate n (0 : UInt8) = List.replicate m.length 0 ++ List.replicate (n - m.length) 0 := by rw [List.replicate_append_replicate, show m.length + (n - m.length) = n by omega]
  rw [e, lay_at rfl (by simp), List.append_assoc]

set_option maxHeartbeats 8000000 in
set_option maxRecDepth 100000 in
theorem Sum_any (g : Nat) (L : List UInt8) (w : World) (hT : Tabs w) (hg : 1 < g) (hh : Held w g L) (hL : L.length ≤ 1152921504606846976) :
    Calls Tryd.prog 12 #[.pointer (some ⟨g, 0, none⟩)] w fun e w' => e = .returned (.agg (Lib.byteCells (shaWith KT I8 L)).toArray) ∧ Below w.heap.size w w' := by
  obtain ⟨hz, hsz⟩ := zero_of_info info_digest
  obtain ⟨hz2, hsz2⟩ := zero_of_info info_hash
  have hgl := hh.lt
  have hlt := hT.lt
  obtain ⟨rest, hh1, hr⟩ := hh
  obtain ⟨zs, hzs⟩ : ∃ z, z = (Lib.byteCells (List.replicate 32 0)).toArray := ⟨_, rfl⟩
  obtain ⟨zh, hzh⟩ : ∃ z, z = (hcells (List.replicate 8 0) (List.replicate 64 0) 0).toArray := ⟨_, rfl⟩
  rw [← hzs] at hz
  rw [← hzh] at hz2
  obtain ⟨C, hC⟩ : ∃ C, C = (hcells (soak KT I8 L).list rest L.length).toArray := ⟨_, rfl⟩
  have hcur := hh1.1
  rw [← hC] at hcur
  have hcs : C.size = 73 := by rw [hC, List.size_toArray, hcells_size, hh1.2.1, hh1.2.2]
  have hone : C.all (·.oneCell') = true := by
    rw [hC]
    refine Array.all_eq_true_iff_forall_mem.2 (fun v hv => ?_)
    have hv' : v ∈ hcells (soak KT I8 L).list rest L.length := by simpa using hv
    unfold hcells at hv'
    rcases List.mem_append.1 hv' with h | h
    · exact u32s_one _ v h
    · rcases List.mem_append.1 h with h | h
      · exact byteCells_one _ v h
      · simp at h; subst h; rfl
  have hb1 : Below w.heap.size w (w.alloc (.cells zs 24)) := (Below.refl _ _).alloc (Nat.le_refl _) _
  have hcur1 : (w.alloc (.cells zs 24)).heap[g]? = some (.cells C 44 (0, 0)) := (hb1.block g hgl).trans hcur
  have hi2 : (Tryd.prog.info? 44).map (·.size) = some C.size := by rw [hcs]; exact hsz2
  have hzc : zh.size = C.size := by rw [hcs, hzh, List.size_toArray, hcells_size]; simp
  have hnew : ((w.alloc (.cells zs 24)).alloc (.cells zh 44)).heap[w.heap.size + 1]? = some (.cells zh 44 (0, 0)) := heap_alloc2_new w _ _
  have hB2 : Below w.heap.size w (((w.alloc (.cells zs 24)).alloc (.cells zh 44)).setRow (w.heap.size + 1) C) := below_setRow ((hb1).alloc (by simp) _) (by omega) _
  have hfin : Held (((w.alloc (.cells zs 24)).alloc (.cells zh 44)).setRow (w.heap.size + 1) C) (w.heap.size + 1) L := by
    refine ⟨rest, ⟨?_, hh1.2⟩, hr⟩
    rw [setRow_heap _ _ _ _ _ _ hnew, hC]
  have hres : (((w.alloc (.cells zs 24)).alloc (.cells zh 44)).setRow (w.heap.size + 1) C).heap[w.heap.size]? = some (.cells zs 24 (0, 0)) := by
    rw [setRow_other _ _ _ _ (by omega)]; exact heap_alloc2_old w _ _
  have HC1 := Lib.hid hcur1
  have HI2 := Lib.hid hi2
  have HZC := Lib.hid hzc
  have HNW := Lib.hid hnew
  have HB2 := Lib.hid hB2
  have HF := Lib.hid hfin
  have HRS := Lib.hid hres
  have HO := Lib.hid hone
  have HT := Lib.hid hT
  have HZ := Lib.hid hzs
  have HSZ := Lib.hid hsz
  clear hcur1 hi2 hzc hnew hB2 hfin hres hone hT hzs hzh hsz hsz2 hcs hcur hC hb1 hh1 hr
  go_enter Tryd.func12, Tryd.ntmps12
  go_wp2_with (first | (refine wpList_load_row rfl 44 (.tmp 8) rfl g rfl 44 C (0, 0) _ HC1.out Tryd.underlying44 rfl HI2.out ?_) | (refine wpList_store_row rfl 44 (.tmp 3) (.tmp 9) rfl (w.heap.size + 1) C rfl rfl 44 zh HNW.out HI2.out HZC.out HO.out ?_))
  generalize ((w.alloc (.cells zs 24)).alloc (.cells zh 44)).setRow (w.heap.size + 1) C = w2 at HB2 HF HRS ⊢
  refine (end_any (w.heap.size + 1) L w2 (HT.out.below HB2.out (Nat.le_refl _)) (by omega) HF.out hL).mono ?_
  rintro e w3 ⟨rfl, hh3, hg3⟩
  have hB3 : Below w.heap.size w w3 := HB2.out.trans (B := w.heap.size) ⟨hg3.os, hg3.tape, hg3.output, hg3.size, fun k hk => hg3.block k (Nat.lt_of_lt_of_le hk HB2.out.size) (by intro e; injection e with e; omega)⟩
  have hres3 : w3.heap[w.heap.size]? = some (.cells zs 24 (0, 0)) := by
    rw [hg3.block w.heap.size (by rcases Nat.lt_or_ge w.heap.size w2.heap.size with h | h
                                  · exact h
                                  · have h1 := HRS.out; rw [Array.getElem?_eq_none h] at h1; cases h1) (by intro e; injection e with e; omega)]
    exact HRS.out
  obtain ⟨rest3, hh3, _⟩ := hh3
  have hgl3 := hh3.lt
  obtain ⟨s, hs⟩ : ∃ s, s = soak KT I8 (L ++ padOf L.length) := ⟨_, rfl⟩
  rw [← hs] at hh3
  have hok : s.Ok := by rw [hs]; exact soak_ok KT I8_ok _
  have hsha : shaWith KT I8 L = outN s 8 := by rw [hs]; rfl
  have hrange : ∀ o : Obj, (w3.alloc o).rangeAt (w.heap.size + 1) 0 (u32s s.list) := fun o j v hv => by
    have hj : j < (u32s s.list).length := (List.getElem?_eq_some_iff.1 hv).1
    have hj8 : j < 8 := by rw [u32s_length] at hj; exact hj
    rw [Nat.zero_add, World.cell?_alloc_lt w3 _ _ hgl3, hh3.cell j hj8, ← hv, u32s_get (by exact hj8)]
  have hix : ∀ (k : Nat) (W : World), k < 8 → (Instr.index 37 (.agg (u32s s.list).toArray) (.int .i64 (k : Int))).run Tryd.prog W = .ok (.int .u32 ((s.list.getD k 0 : Nat) : Int)) W := fun k W hk =>
    run_index_u32 (P := Tryd.prog) W Tryd.underlying37 Tryd.underlying36 size_u32 s.list rfl k hk
  have hsl : ∀ k, k < 8 → s.list.getD k 0 < 4294967296 := fun k hk => by
    obtain ⟨h0, h1, h2, h3, h4, h5, h6, h7⟩ := hok
    rcases (by omega : k = 0 ∨ k = 1 ∨ k = 2 ∨ k = 3 ∨ k = 4 ∨ k = 5 ∨ k = 6 ∨ k = 7) with rfl | rfl | rfl | rfl | rfl | rfl | rfl | rfl <;> assumption
  have hb4 : BRow (w3.alloc (.cells zs 24)) w3.heap.size 24 (outN s 0 ++ List.replicate (32 - (outN s 0).length) 0) := by
    unfold BRow; rw [heap_alloc_new, HZ.out]; rfl
  have hB4 : Below w.heap.size w (w3.alloc (.cells zs 24)) := hB3.alloc hB3.size _
  have hres4 : (w3.alloc (.cells zs 24)).heap[w.heap.size]? = some (.cells zs 24 (0, 0)) := by
    exact (((Below.refl w3.heap.size w3).alloc (Nat.le_refl _) _).block w.heap.size (by omega)).trans hres3
  have hne : w.heap.size + 1 < w3.heap.size := hgl3
  have K1 := Lib.hid hrange
  have K2 := Lib.hid hix
  have K3 := Lib.hid hsl
  have K4 := Lib.hid hb4
  have K5 := Lib.hid hB4
  have K6 := Lib.hid hres4
  have K8 := Lib.hid hsha
  clear hrange hix hsl hb4 hB4 hres4 hB3 hres3 hh3 hg3 hs hok hsha HC1 HI2 HZC HNW HB2 HF HRS HO HT hz2 hgl3
  have KK := K1.out (.cells zs 24)
  have K11 := Lib.hid KK
  clear KK
  go_wp2_with (refine wpList_load_mid rfl 37 (.tmp 11) rfl (w.heap.size + 1) 0 rfl (u32s s.list) _ K11.out Tryd.underlying37 rfl size_state ?_)
  clear K1 K11
  generalize (w3.alloc (.cells zs 24)) = w4 at K4 K5 K6 ⊢
  obtain ⟨B, hBe⟩ : ∃ B, B = w3.heap.size := ⟨_, rfl⟩
  rw [← hBe] at K4 hne ⊢
  clear hBe
  go_loopw [13] (fun vi wr => ∃ k : Nat, vi = .int .i64 k ∧ k ≤ 8 ∧ Below w.heap.size w wr ∧ BRow wr B 24 (outN s k ++ List.replicate (32 - (outN s k).length) 0) ∧ wr.heap[w.heap.size]? = some (.cells zs 24 (0, 0)))
    (fun vi _ => 8 - (intOf vi).toNat)
  case atStart => exact ⟨0, rfl, by omega, K5.out, K4.out, K6.out⟩
  case round =>
    obtain ⟨k, rfl, hk8, hbel, hrow, hzero⟩ := hrel
    clear K4 K5 K6
    by_cases hk : k < 8
    · have hi := fun W => K2.out k W hk
      have lx := K3.out k hk
      have hlen := outN_length s k (by omega)
      have hsucc := outN_succ s k hk
      obtain ⟨x, hx⟩ : ∃ x, x = s.list.getD k 0 := ⟨_, rfl⟩
      rw [← hx] at hi lx hsucc
      have hput := putBig_any B (4 * k) 4 (32 - 4 * k) x 24 _ wr hrow (by decide) (by decide) (by rw [List.length_append, List.length_replicate, hlen]; omega) (by omega)
      have hl8 := be8_length x 4
      have hlay : lay (outN s k ++ List.replicate (32 - (outN s k).length) 0) (4 * k) (be8 4 x) = outN s (k + 1) ++ List.replicate (32 - (outN s (k + 1)).length) 0 := by
        have h := lay_next (outN s k) (be8 4 x) (32 - (outN s k).length) (by omega)
        rw [hlen] at h
        rw [hlen, h, hsucc, List.length_append, hlen, hl8, show 32 - 4 * k - 4 = 32 - (4 * k + 4) by omega]
      rw [hlay] at hput
      have hsl : ∀ W : World, (Instr.sliceAt 24 (.pointer (some ⟨B, 0, none⟩)) (some (.int .i64 (4 * (k : Int)))) (some (.int .i64 (4 * (k : Int) + 4))) none).run Tryd.prog W = .ok (.slice (some ⟨B, 4 * k, none⟩) 4 (32 - 4 * k)) W := fun W => by
        have h := run_slice_arr (P := Tryd.prog) W Tryd.underlying24 size_byte B 0 .i64 .i64 (4 * (k : Int)) (4 * (k : Int) + 4) (4 * k) (4 * k + 4) (by omega) (by omega) (by omega) (by omega) (by omega)
        rw [h, Nat.zero_add, show 4 * k + 4 - 4 * k = 4 by omega]
      obtain ⟨M, hM⟩ : ∃ M, M = outN s (k + 1) ++ List.replicate (32 - (outN s (k + 1)).length) 0 := ⟨_, rfl⟩
      rw [← hM] at hput
      have hnew : BRow (wr.setRow B (Lib.byteCells M).toArray) B 24 M := hrow.put M
      have hbn : Below w.heap.size w (wr.setRow B (Lib.byteCells M).toArray) := below_setRow hbel (by omega) _
      have hzn : (wr.setRow B (Lib.byteCells M).toArray).heap[w.heap.size]? = some (.cells zs 24 (0, 0)) := by rw [setRow_other _ _ _ _ (by omega)]; exact hzero
      have A1 := Lib.hid hnew
      have A2 := Lib.hid hbn
      have A3 := Lib.hid hzn
      have A4 := Lib.hid hM
      clear hbel hrow hzero hlen hsucc hx hl8 hlay hM hnew hbn hzn
      go_wp2_with fail
      refine hput.mono ?_
      rintro e w5 ⟨rfl, rfl⟩
      generalize wr.setRow B (Lib.byteCells M).toArray = w6 at A1 A2 A3 ⊢
      clear hput
      go_wp2
      refine ⟨⟨k + 1, by go_num, by omega, A2.out, by rw [← A4.out]; exact A1.out, A3.out⟩, ?_⟩
      simp [intOf]; omega
    · rw [show k = 8 by omega] at hrow
      have hlen := outN_length s 8 (by omega)
      rw [hlen, show 32 - 4 * 8 = 0 from rfl, List.replicate_zero, List.append_nil] at hrow
      have hdk : decide ((k : Int) < 8) = false := by simpa using (by omega : ¬ (k : Int) < 8)
      obtain ⟨V, hV⟩ : ∃ V, V = (Lib.byteCells (outN s 8)).toArray := ⟨_, rfl⟩
      have hV' : wr.heap[B]? = some (.cells V 24 (0, 0)) := by rw [hV]; exact hrow
      have hVs : V.size = 32 := by rw [hV, List.size_toArray]; simp [Lib.byteCells, hlen]
      have hone : V.all (·.oneCell') = true := by rw [hV]; exact Array.all_eq_true_iff_forall_mem.2 (fun v hv => byteCells_one _ v (by simpa using hv))
      have hi1 : (Tryd.prog.info? 24).map (·.size) = some V.size := by rw [hVs]; exact HSZ.out
      have hzsz : zs.size = V.size := by
        have h := congrArg Array.size HZ.out
        rw [h, hVs]; simp [Lib.byteCells]
      have A1 := Lib.hid hV'
      have A2 := Lib.hid hi1
      have A3 := Lib.hid hzsz
      have A4 := Lib.hid hone
      have A5 := Lib.hid hzero
      have A6 := Lib.hid hbel
      have A7 := Lib.hid hV
      clear hV hV' hVs hone hi1 hzsz hzero hbel hrow hlen hk hk8 hz
      go_wp2_with (first | (refine wpList_load_row rfl 24 (.tmp 4) rfl B rfl 24 V (0, 0) _ A1.out Tryd.underlying24 rfl A2.out ?_) | (refine wpList_store_row rfl 24 (.tmp 2) (.tmp 27) rfl w.heap.size V rfl rfl 24 zs A5.out A2.out A3.out A4.out ?_))
      refine bodyPost_ret (v := .agg V) (results_cell_row (p := 2) (ty := 24) rfl _ _ w.heap.size 24 V (0, 0) _ rfl (setRow_heap wr w.heap.size _ _ _ _ A5.out) Tryd.underlying24 rfl A2.out) rfl ⟨by rw [A7.out, K8.out], below_setRow A6.out (Nat.le_refl _) V⟩

end Go.Proofs.YtopchpaiehoilaaDoor
