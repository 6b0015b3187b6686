/-
  What package sha's mix does: a block is turned into the state.
-/
import Derived.Test.YtopchpaiehoilaaDoorHsp
import Derived.Test.YtopchpaiehoilaaDoorHtb
import Derived.Outline
namespace Go.Proofs.YtopchpaiehoilaaDoor
open Go Go.RowKit

theorem mixed_at (A B : List Nat) (hA : A.length = 8) (hB : B.length = 8) (k : Nat) (hk : k < 8) : (A.take k ++ B.drop k).getD k 0 = B.getD k 0 := by
  rw [List.getD_eq_getElem?_getD, List.getElem?_append_right (by simp; omega), List.getElem?_drop, List.getD_eq_getElem?_getD]
  simp [hA, Nat.min_eq_left (Nat.le_of_lt hk)]
theorem mixed_set (A B : List Nat) (hA : A.length = 8) (hB : B.length = 8) (k : Nat) (hk : k < 8) : (A.take k ++ B.drop k).set k (A.getD k 0) = A.take (k + 1) ++ B.drop (k + 1) := by
  have hd : B.drop k = B[k] :: B.drop (k + 1) := List.drop_eq_getElem_cons (by omega)
  have ht : A.take (k + 1) = A.take k ++ [A[k]] := List.take_succ_eq_append_getElem (by omega)
  have hl : (A.take k).length = k := by rw [List.length_take]; omega
  rw [hd, ht, List.set_append_right _ _ (by rw [hl]; exact Nat.le_refl _), hl, Nat.sub_self, List.set_cons_zero, List.append_assoc]
  simp [List.getD_eq_getElem?_getD, show k < A.length by omega]
theorem add8_get (s t : S8) (k : Nat) (hk : k < 8) : (add8 s t).list.getD k 0 = add32 (s.list.getD k 0) (t.list.getD k 0) := by
  rcases (by omega : k = 0 ∨ k = 1 ∨ k = 2 ∨ k = 3 ∨ k = 4 ∨ k = 5 ∨ k = 6 ∨ k = 7) with rfl | rfl | rfl | rfl | rfl | rfl | rfl | rfl <;> rfl

set_option maxHeartbeats 4000000 in
set_option maxRecDepth 100000 in
theorem mix_any (g b o sz : Nat) (s : S8) (rest blk : List UInt8) (w : World) (hT : Tabs w) (hg : 1 < g) (hs : s.Ok) (hh : HBlk w g s rest sz) (ht : Txt w (some ⟨b, o, none⟩) blk) (hl : blk.length = 64) :
    Calls Tryd.prog 16 #[.pointer (some ⟨g, 0, none⟩), .pointer (some ⟨b, o, none⟩)] w fun e w' => e = .returned (.tuple #[]) ∧ HBlk w' g (mix8 KT s blk) rest sz ∧ w.grownBy w' (some g) := by
  obtain ⟨hz, hsz⟩ := zero_of_info info_words
  obtain ⟨zs, hzs⟩ : ∃ z, z = (u32s (List.replicate 64 0)).toArray := ⟨_, rfl⟩
  rw [← hzs] at hz
  have hsp := spread_any b o blk w ht hl
  obtain ⟨V, hV⟩ : ∃ V, V = (u32s (wordsOf blk 64)).toArray := ⟨_, rfl⟩
  rw [← hV] at hsp
  have hVs : V.size = 64 := by rw [hV]; simp [u32s_length, wordsOf_length]
  have hzsz : zs.size = V.size := by rw [hVs, hzs]; simp [u32s_length]
  have hsz' : (Tryd.prog.info? 38).map (·.size) = some V.size := by rw [hVs]; exact hsz
  have hone : V.all (·.oneCell') = true := by rw [hV]; exact Array.all_eq_true_iff_forall_mem.2 (fun v hv => u32s_one _ v (by simpa using hv))
  have hidx : ∀ (k : Nat) (W : World), k < 64 → (Instr.index 38 (.agg V) (.int .i64 (k : Int))).run Tryd.prog W = .ok (.int .u32 (((wordsOf blk 64).getD k 0 : Nat) : Int)) W := fun k W hk => by
    rw [hV]; exact run_index_u32 (P := Tryd.prog) W Tryd.underlying38 Tryd.underlying36 size_u32 _ (wordsOf_length blk 64) k hk
  have wlt := wordsOf_lt blk 64
  have H1 := Lib.hid hsz'
  have H2 := Lib.hid hzsz
  have H3 := Lib.hid hone
  have HI := Lib.hid hidx
  have HWL := Lib.hid wlt
  have HT := Lib.hid hT
  have HH := Lib.hid hh
  have HO := Lib.hid hs
  clear hzs hsz hsz' hzsz hone hidx wlt hT hh hs ht hl hV hVs
  go_enter Tryd.func16, Tryd.ntmps16
  go_wp2_with fail
  refine hsp.mono ?_
  rintro e w1 ⟨rfl, hb1⟩
  have HB1 := Lib.hid hb1
  have hnew : (w1.alloc (.cells zs 38)).heap[w1.heap.size]? = some (.cells zs 38 (0, 0)) := heap_alloc_new w1 _
  have HN := Lib.hid hnew
  clear hb1 hnew hsp
  go_wp2_with (refine wpList_store_row rfl 38 (.tmp 4) (.tmp 22) rfl w1.heap.size V rfl rfl 38 zs HN.out H1.out H2.out H3.out ?_)
  have hb2 : Below w.heap.size w ((w1.alloc (.cells zs 38)).setRow w1.heap.size V) := below_setRow (HB1.out.alloc HB1.out.size _) HB1.out.size V
  have hV2 : ((w1.alloc (.cells zs 38)).setRow w1.heap.size V).heap[w1.heap.size]? = some (.cells V 38 (0, 0)) := setRow_heap _ _ _ _ _ _ HN.out
  have hsize : w.heap.size ≤ w1.heap.size := HB1.out.size
  generalize (w1.alloc (.cells zs 38)).setRow w1.heap.size V = w2 at hb2 hV2 ⊢
  clear HN HB1 H2
  obtain ⟨m, hm⟩ : ∃ m, m = w1.heap.size := ⟨_, rfl⟩
  rw [← hm] at hV2 hsize ⊢
  clear hm
  have hh2 : HRow w2 g s.list rest sz := HH.out.grown (grownBy_below hb2 (r := none)) (by simp)
  have hT2 : Tabs w2 := HT.out.below hb2 (Nat.le_refl _)
  have c0 : w2.cell? ⟨g, 0, none⟩ = some (Value.int .u32 (s.a : Int)) := hh2.cell 0 (by decide)
  have c1 : w2.cell? ⟨g, 1, none⟩ = some (Value.int .u32 (s.b : Int)) := hh2.cell 1 (by decide)
  have c2 : w2.cell? ⟨g, 2, none⟩ = some (Value.int .u32 (s.c : Int)) := hh2.cell 2 (by decide)
  have c3 : w2.cell? ⟨g, 3, none⟩ = some (Value.int .u32 (s.d : Int)) := hh2.cell 3 (by decide)
  have c4 : w2.cell? ⟨g, 4, none⟩ = some (Value.int .u32 (s.e : Int)) := hh2.cell 4 (by decide)
  have c5 : w2.cell? ⟨g, 5, none⟩ = some (Value.int .u32 (s.f : Int)) := hh2.cell 5 (by decide)
  have c6 : w2.cell? ⟨g, 6, none⟩ = some (Value.int .u32 (s.g : Int)) := hh2.cell 6 (by decide)
  have c7 : w2.cell? ⟨g, 7, none⟩ = some (Value.int .u32 (s.h : Int)) := hh2.cell 7 (by decide)
  have HB2 := Lib.hid hb2
  have HV2 := Lib.hid hV2
  have HR2 := Lib.hid hh2
  have HT2 := Lib.hid hT2
  clear hb2 hV2 hh2 hT2 HT HH
  go_quiet (fail)
  go_wp2_with fail
  go_quiet (fail)
  clear c0 c1 c2 c3 c4 c5 c6 c7
  go_wp2_with (refine wpList_load_row rfl 38 (.tmp 4) rfl m rfl 38 V (0, 0) _ HV2.out Tryd.underlying38 rfl H1.out ?_)
  generalize hn3 : w2.drewN _ = w3
  have hc3 : ∀ r, r < 64 → w3.cell? ⟨1, r, none⟩ = some (Value.int .u32 ((KT.getD r 0 : Nat) : Int)) := by subst hn3; exact HT2.out.turns
  have hb3 : Below w.heap.size w w3 := by subst hn3; exact below_drewN HB2.out _
  have hh3 : HRow w3 g s.list rest sz := by subst hn3; exact HR2.out
  clear hn3
  have HC := Lib.hid hc3
  have HB := Lib.hid hb3
  have HR := Lib.hid hh3
  clear hc3 hb3 hh3 HB2 HR2 HT2 HV2 H1 H3 hz
  go_loop [5, 6, 7, 8, 9, 10, 11, 12, 64] (fun v5 v6 v7 v8 v9 v10 v11 v12 vi => ∃ n : Nat, n ≤ 64 ∧ vi = .int .i64 n ∧ v5 = .int .u32 ((runs KT (wordsOf blk 64) s n).a : Int) ∧ v6 = .int .u32 ((runs KT (wordsOf blk 64) s n).b : Int) ∧ v7 = .int .u32 ((runs KT (wordsOf blk 64) s n).c : Int) ∧ v8 = .int .u32 ((runs KT (wordsOf blk 64) s n).d : Int) ∧ v9 = .int .u32 ((runs KT (wordsOf blk 64) s n).e : Int) ∧ v10 = .int .u32 ((runs KT (wordsOf blk 64) s n).f : Int) ∧ v11 = .int .u32 ((runs KT (wordsOf blk 64) s n).g : Int) ∧ v12 = .int .u32 ((runs KT (wordsOf blk 64) s n).h : Int))
    (fun _ _ _ _ _ _ _ _ vi => 64 - (intOf vi).toNat)
  case atStart => exact ⟨0, by omega, rfl, rfl, rfl, rfl, rfl, rfl, rfl, rfl, rfl⟩
  case round =>
    obtain ⟨n, hn, rfl, rfl, rfl, rfl, rfl, rfl, rfl, rfl, rfl⟩ := hrel
    by_cases hlt : n < 64
    · have hok := runs_ok HO.out KT (wordsOf blk 64) n
      have hsucc : runs KT (wordsOf blk 64) s (n + 1) = turn8 (runs KT (wordsOf blk 64) s n) (KT.getD n 0) ((wordsOf blk 64).getD n 0) := rfl
      have cK := HC.out n hlt
      have iW := fun W => HI.out n W hlt
      have lW := HWL.out n
      have lK := KT_lt n
      obtain ⟨K, hK⟩ : ∃ K, K = KT.getD n 0 := ⟨_, rfl⟩
      obtain ⟨Wn, hWn⟩ : ∃ W, W = (wordsOf blk 64).getD n 0 := ⟨_, rfl⟩
      rw [← hK] at cK lK hsucc
      rw [← hWn] at iW lW hsucc
      generalize runs KT (wordsOf blk 64) s n = st at hok hsucc ⊢
      obtain ⟨xa, xb, xc, xd, xe, xf, xg, xh⟩ := st
      obtain ⟨la, lb, lc, ld, le, lf, lg, lh⟩ := hok
      dsimp only at la lb lc ld le lf lg lh ⊢

      obtain ⟨rA, h_rA⟩ : ∃ z, z = rot 6 xe := ⟨_, rfl⟩
      have l_rA : rA < 4294967296 := by rw [h_rA]; exact rot_lt le
      have q_rA : ∀ W, Calls Tryd.prog 22 #[.int .u32 xe, .int .i64 (-6)] W fun e w' => e = .returned (.int .u32 rA) ∧ W = w' := fun W => by rw [h_rA]; exact rot_at (-6) xe W (by decide) le
      obtain ⟨rB, h_rB⟩ : ∃ z, z = rot 11 xe := ⟨_, rfl⟩
      have l_rB : rB < 4294967296 := by rw [h_rB]; exact rot_lt le
      have q_rB : ∀ W, Calls Tryd.prog 22 #[.int .u32 xe, .int .i64 (-11)] W fun e w' => e = .returned (.int .u32 rB) ∧ W = w' := fun W => by rw [h_rB]; exact rot_at (-11) xe W (by decide) le
      obtain ⟨rC, h_rC⟩ : ∃ z, z = rot 25 xe := ⟨_, rfl⟩
      have l_rC : rC < 4294967296 := by rw [h_rC]; exact rot_lt le
      have q_rC : ∀ W, Calls Tryd.prog 22 #[.int .u32 xe, .int .i64 (-25)] W fun e w' => e = .returned (.int .u32 rC) ∧ W = w' := fun W => by rw [h_rC]; exact rot_at (-25) xe W (by decide) le
      obtain ⟨t1, h_t1⟩ : ∃ z, z = rA ^^^ rB := ⟨_, rfl⟩
      have l_t1 : t1 < 4294967296 := by rw [h_t1]; exact xor_lt l_rA l_rB
      have e_t1 : bits .xor .u32 (rA : Int) (rB : Int) = (t1 : Int) := by rw [h_t1]; exact xor_int l_rA l_rB
      obtain ⟨hi, h_hi⟩ : ∃ z, z = t1 ^^^ rC := ⟨_, rfl⟩
      have l_hi : hi < 4294967296 := by rw [h_hi]; exact xor_lt l_t1 l_rC
      have e_hi : bits .xor .u32 (t1 : Int) (rC : Int) = (hi : Int) := by rw [h_hi]; exact xor_int l_t1 l_rC
      obtain ⟨s1, h_s1⟩ : ∃ z, z = add32 xh hi := ⟨_, rfl⟩
      have l_s1 : s1 < 4294967296 := by rw [h_s1]; exact add32_lt _ _
      have e_s1 : ((xh : Int) + (hi : Int)) % 4294967296 = (s1 : Int) := by rw [h_s1]; exact add_int' _ _
      obtain ⟨p1, h_p1⟩ : ∃ z, z = xe &&& xf := ⟨_, rfl⟩
      have l_p1 : p1 < 4294967296 := by rw [h_p1]; exact and_lt le
      have e_p1 : bits .and .u32 (xe : Int) (xf : Int) = (p1 : Int) := by rw [h_p1]; exact u32_and_nat _ _ le lf
      obtain ⟨ne, h_ne⟩ : ∃ z, z = 4294967295 ^^^ xe := ⟨_, rfl⟩
      have l_ne : ne < 4294967296 := by rw [h_ne]; exact xor_lt (by decide) le
      have e_ne : bits .xor .u32 IntKind.u32.max (xe : Int) = (ne : Int) := by rw [h_ne]; exact xor_int (a := 4294967295) (by decide) le
      obtain ⟨p2, h_p2⟩ : ∃ z, z = ne &&& xg := ⟨_, rfl⟩
      have l_p2 : p2 < 4294967296 := by rw [h_p2]; exact and_lt l_ne
      have e_p2 : bits .and .u32 (ne : Int) (xg : Int) = (p2 : Int) := by rw [h_p2]; exact u32_and_nat _ _ l_ne lg
      obtain ⟨cc, h_cc⟩ : ∃ z, z = p1 ^^^ p2 := ⟨_, rfl⟩
      have l_cc : cc < 4294967296 := by rw [h_cc]; exact xor_lt l_p1 l_p2
      have e_cc : bits .xor .u32 (p1 : Int) (p2 : Int) = (cc : Int) := by rw [h_cc]; exact xor_int l_p1 l_p2
      obtain ⟨s2, h_s2⟩ : ∃ z, z = add32 s1 cc := ⟨_, rfl⟩
      have l_s2 : s2 < 4294967296 := by rw [h_s2]; exact add32_lt _ _
      have e_s2 : ((s1 : Int) + (cc : Int)) % 4294967296 = (s2 : Int) := by rw [h_s2]; exact add_int' _ _
      obtain ⟨s3, h_s3⟩ : ∃ z, z = add32 s2 K := ⟨_, rfl⟩
      have l_s3 : s3 < 4294967296 := by rw [h_s3]; exact add32_lt _ _
      have e_s3 : ((s2 : Int) + (K : Int)) % 4294967296 = (s3 : Int) := by rw [h_s3]; exact add_int' _ _
      obtain ⟨s4, h_s4⟩ : ∃ z, z = add32 s3 Wn := ⟨_, rfl⟩
      have l_s4 : s4 < 4294967296 := by rw [h_s4]; exact add32_lt _ _
      have e_s4 : ((s3 : Int) + (Wn : Int)) % 4294967296 = (s4 : Int) := by rw [h_s4]; exact add_int' _ _
      obtain ⟨rD, h_rD⟩ : ∃ z, z = rot 2 xa := ⟨_, rfl⟩
      have l_rD : rD < 4294967296 := by rw [h_rD]; exact rot_lt la
      have q_rD : ∀ W, Calls Tryd.prog 22 #[.int .u32 xa, .int .i64 (-2)] W fun e w' => e = .returned (.int .u32 rD) ∧ W = w' := fun W => by rw [h_rD]; exact rot_at (-2) xa W (by decide) la
      obtain ⟨rE, h_rE⟩ : ∃ z, z = rot 13 xa := ⟨_, rfl⟩
      have l_rE : rE < 4294967296 := by rw [h_rE]; exact rot_lt la
      have q_rE : ∀ W, Calls Tryd.prog 22 #[.int .u32 xa, .int .i64 (-13)] W fun e w' => e = .returned (.int .u32 rE) ∧ W = w' := fun W => by rw [h_rE]; exact rot_at (-13) xa W (by decide) la
      obtain ⟨rF, h_rF⟩ : ∃ z, z = rot 22 xa := ⟨_, rfl⟩
      have l_rF : rF < 4294967296 := by rw [h_rF]; exact rot_lt la
      have q_rF : ∀ W, Calls Tryd.prog 22 #[.int .u32 xa, .int .i64 (-22)] W fun e w' => e = .returned (.int .u32 rF) ∧ W = w' := fun W => by rw [h_rF]; exact rot_at (-22) xa W (by decide) la
      obtain ⟨t2, h_t2⟩ : ∃ z, z = rD ^^^ rE := ⟨_, rfl⟩
      have l_t2 : t2 < 4294967296 := by rw [h_t2]; exact xor_lt l_rD l_rE
      have e_t2 : bits .xor .u32 (rD : Int) (rE : Int) = (t2 : Int) := by rw [h_t2]; exact xor_int l_rD l_rE
      obtain ⟨lo, h_lo⟩ : ∃ z, z = t2 ^^^ rF := ⟨_, rfl⟩
      have l_lo : lo < 4294967296 := by rw [h_lo]; exact xor_lt l_t2 l_rF
      have e_lo : bits .xor .u32 (t2 : Int) (rF : Int) = (lo : Int) := by rw [h_lo]; exact xor_int l_t2 l_rF
      obtain ⟨m1, h_m1⟩ : ∃ z, z = xa &&& xb := ⟨_, rfl⟩
      have l_m1 : m1 < 4294967296 := by rw [h_m1]; exact and_lt la
      have e_m1 : bits .and .u32 (xa : Int) (xb : Int) = (m1 : Int) := by rw [h_m1]; exact u32_and_nat _ _ la lb
      obtain ⟨m2, h_m2⟩ : ∃ z, z = xa &&& xc := ⟨_, rfl⟩
      have l_m2 : m2 < 4294967296 := by rw [h_m2]; exact and_lt la
      have e_m2 : bits .and .u32 (xa : Int) (xc : Int) = (m2 : Int) := by rw [h_m2]; exact u32_and_nat _ _ la lc
      obtain ⟨m3, h_m3⟩ : ∃ z, z = m1 ^^^ m2 := ⟨_, rfl⟩
      have l_m3 : m3 < 4294967296 := by rw [h_m3]; exact xor_lt l_m1 l_m2
      have e_m3 : bits .xor .u32 (m1 : Int) (m2 : Int) = (m3 : Int) := by rw [h_m3]; exact xor_int l_m1 l_m2
      obtain ⟨m4, h_m4⟩ : ∃ z, z = xb &&& xc := ⟨_, rfl⟩
      have l_m4 : m4 < 4294967296 := by rw [h_m4]; exact and_lt lb
      have e_m4 : bits .and .u32 (xb : Int) (xc : Int) = (m4 : Int) := by rw [h_m4]; exact u32_and_nat _ _ lb lc
      obtain ⟨mj, h_mj⟩ : ∃ z, z = m3 ^^^ m4 := ⟨_, rfl⟩
      have l_mj : mj < 4294967296 := by rw [h_mj]; exact xor_lt l_m3 l_m4
      have e_mj : bits .xor .u32 (m3 : Int) (m4 : Int) = (mj : Int) := by rw [h_mj]; exact xor_int l_m3 l_m4
      obtain ⟨s5, h_s5⟩ : ∃ z, z = add32 lo mj := ⟨_, rfl⟩
      have l_s5 : s5 < 4294967296 := by rw [h_s5]; exact add32_lt _ _
      have e_s5 : ((lo : Int) + (mj : Int)) % 4294967296 = (s5 : Int) := by rw [h_s5]; exact add_int' _ _
      obtain ⟨na, h_na⟩ : ∃ z, z = add32 s4 s5 := ⟨_, rfl⟩
      have l_na : na < 4294967296 := by rw [h_na]; exact add32_lt _ _
      have e_na : ((s4 : Int) + (s5 : Int)) % 4294967296 = (na : Int) := by rw [h_na]; exact add_int' _ _
      obtain ⟨nd, h_nd⟩ : ∃ z, z = add32 xd s4 := ⟨_, rfl⟩
      have l_nd : nd < 4294967296 := by rw [h_nd]; exact add32_lt _ _
      have e_nd : ((xd : Int) + (s4 : Int)) % 4294967296 = (nd : Int) := by rw [h_nd]; exact add_int' _ _
      have hnext : turn8 ⟨xa, xb, xc, xd, xe, xf, xg, xh⟩ K Wn = ⟨na, xa, xb, xc, nd, xe, xf, xg⟩ := by rw [h_nd, h_na, h_s5, h_mj, h_m4, h_m3, h_m2, h_m1, h_lo, h_t2, h_rF, h_rE, h_rD, h_s4, h_s3, h_s2, h_cc, h_p2, h_ne, h_p1, h_s1, h_hi, h_t1, h_rC, h_rB, h_rA]; rfl
      rw [hnext] at hsucc
      have HX := Lib.hid hsucc
      clear hsucc hnext hK hWn h_rA h_rB h_rC h_t1 h_hi h_s1 h_p1 h_ne h_p2 h_cc h_s2 h_s3 h_s4 h_rD h_rE h_rF h_t2 h_lo h_m1 h_m2 h_m3 h_m4 h_mj h_s5 h_na h_nd
      go_wp2_with fail
      refine (q_rA _).mono ?_
      rintro e w' ⟨rfl, rfl⟩
      go_wp2_with fail
      refine (q_rB _).mono ?_
      rintro e w' ⟨rfl, rfl⟩
      go_wp2_with fail
      refine (q_rC _).mono ?_
      rintro e w' ⟨rfl, rfl⟩
      go_wp2_with fail
      refine (q_rD _).mono ?_
      rintro e w' ⟨rfl, rfl⟩
      go_wp2_with fail
      refine (q_rE _).mono ?_
      rintro e w' ⟨rfl, rfl⟩
      go_wp2_with fail
      refine (q_rF _).mono ?_
      rintro e w' ⟨rfl, rfl⟩
      go_wp2_with fail
      refine ⟨⟨n + 1, by omega, by go_num, ?_, ?_, ?_, ?_, ?_, ?_, ?_, ?_⟩, ?_⟩
      · rw [HX.out]; show Value.int .u32 _ = Value.int .u32 (na : Int); congr 1; omega
      · rw [HX.out]
      · rw [HX.out]
      · rw [HX.out]
      · rw [HX.out]; show Value.int .u32 _ = Value.int .u32 (nd : Int); congr 1; omega
      · rw [HX.out]
      · rw [HX.out]
      · rw [HX.out]
      · simp [intOf]; omega
    · have hmix : mix8 KT s blk = add8 s (runs KT (wordsOf blk 64) s n) := by rw [show n = 64 by omega]; rfl
      have hok := runs_ok HO.out KT (wordsOf blk 64) n
      generalize runs KT (wordsOf blk 64) s n = st at hmix hok ⊢
      have HM := Lib.hid hmix
      have HK := Lib.hid hok
      clear hmix hok HI HWL HC hn
      have hdn : decide ((n : Int) < 64) = false := by simpa using (by omega : ¬ (n : Int) < 64)
      clear hlt
      go_wp2
      have hix : ∀ (k : Nat) (W : World), k < 8 → (Instr.index 37 (.agg #[.int .u32 st.a, .int .u32 st.b, .int .u32 st.c, .int .u32 st.d, .int .u32 st.e, .int .u32 st.f, .int .u32 st.g, .int .u32 st.h]) (.int .i64 (k : Int))).run Tryd.prog W = .ok (.int .u32 ((st.list.getD k 0 : Nat) : Int)) W := fun k W hk =>
        run_index_u32 (P := Tryd.prog) W Tryd.underlying37 Tryd.underlying36 size_u32 st.list rfl k hk
      have HX := Lib.hid hix
      clear hix
      go_loopw [137] (fun vi wr => ∃ k : Nat, vi = .int .i64 k ∧ k ≤ 8 ∧ HRow wr g ((add8 s st).list.take k ++ s.list.drop k) rest sz ∧ w.grownBy wr (some g))
        (fun vi _ => 8 - (intOf vi).toNat)
      case atStart => exact ⟨0, rfl, by omega, HR.out, grownBy_below HB.out⟩
      case round =>
        obtain ⟨k, rfl, hk8, hrow, hgr⟩ := hrel
        by_cases hk : k < 8
        · have hi := fun W => HX.out k W hk
          have hc := hrow.cell k hk
          rw [mixed_at _ _ rfl rfl k hk] at hc
          have hf := hrow.frozen k
          have hz := add8_get s st k hk
          have hset := mixed_set (add8 s st).list s.list rfl rfl k hk
          obtain ⟨x, hx⟩ : ∃ x, x = s.list.getD k 0 := ⟨_, rfl⟩
          obtain ⟨y, hy⟩ : ∃ y, y = st.list.getD k 0 := ⟨_, rfl⟩
          rw [← hx] at hc hz
          rw [← hy] at hi hz
          obtain ⟨z, hzz⟩ : ∃ z, z = add32 x y := ⟨_, rfl⟩
          rw [hz, ← hzz] at hset
          have ez : IntKind.u32.wrap ((x : Int) + (y : Int)) = (z : Int) := by rw [hzz]; exact add_int _ _
          have HG := Lib.hid hgr
          have HW := Lib.hid hrow
          have HS := Lib.hid hset
          clear hrow hgr hset hz hx hy hzz
          have hkI : (k : Int) < 8 := by omega
          have hkN : (0 : Int) ≤ (k : Int) := by omega
          go_wp2
          go_still_tail 10, (by kernel_rfl)
          change wpList _ _ _ _ _ wr.drew
          have hc2 : wr.drew.cell? ⟨g, k, none⟩ = some (Value.int .u32 (x : Int)) := hc
          have hf2 : wr.drew.frozen? ⟨g, k, none⟩ = false := hf
          have hw2 : HRow (wr.drew.setCell ⟨g, k, none⟩ (.int .u32 (z : Int))) g ((add8 s st).list.take (k + 1) ++ s.list.drop (k + 1)) rest sz := by
            have h := HRow.setl (w := wr.drew) HW.out k z hk
            rwa [HS.out] at h
          have hg2 : w.grownBy (wr.drew.setCell ⟨g, k, none⟩ (.int .u32 (z : Int))) (some g) := grownBy_setCell (grownBy_drew HG.out) _ _ (.inl rfl)
          generalize wr.drew = w4 at hc2 hf2 hw2 hg2 ⊢
          have HW2 := Lib.hid hw2
          have HG2 := Lib.hid hg2
          clear hw2 hg2 hc hf
          go_wp2
          refine ⟨⟨k + 1, by go_num, by omega, HW2.out, HG2.out⟩, ?_⟩
          simp [intOf]; omega
        · rw [show k = 8 by omega, show (add8 s st).list.take 8 ++ s.list.drop 8 = (add8 s st).list from rfl] at hrow
          have hdk : decide ((k : Int) < 8) = false := by simpa using (by omega : ¬ (k : Int) < 8)
          have HW := Lib.hid hrow
          have HG := Lib.hid hgr
          clear hk hk8 hrow hgr
          go_wp2
          go_end0
          exact ⟨rfl, by rw [HM.out]; exact HW.out, HG.out⟩
end Go.Proofs.YtopchpaiehoilaaDoor
