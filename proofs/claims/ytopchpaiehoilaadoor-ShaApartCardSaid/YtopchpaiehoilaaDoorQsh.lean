/-
  What the document's own digest does.
-/
import Derived.Test.YtopchpaiehoilaaDoorQrd
import Derived.Test.YtopchpaiehoilaaDoorQpo
import Derived.Test.YtopchpaiehoilaaDoorHsu
import Derived.Test.YtopchpaiehoilaaDoorHhx
import Derived.Test.YtopchpaiehoilaaDoorApp
import Derived.Test.YtopchpaiehoilaaDoorTro
namespace Go.Proofs.YtopchpaiehoilaaDoor
open Go Go.RowKit

theorem prime_lt (i : Nat) (hi : i < 64) : PRIMES.getD i 0 < 65536 := by
  have h : PRIMES.all (· < 65536) = true := by decide +kernel
  have e : PRIMES.getD i 0 = PRIMES[i]'(by show i < 64; exact hi) := by simp [List.getD_eq_getElem?_getD, show i < PRIMES.length from hi]
  rw [e]
  have := List.all_eq_true.1 h _ (List.getElem_mem (by show i < 64; exact hi))
  simpa using this
theorem map_at (P : List Nat) (f : Nat → Nat) (T : List Nat) (h : P.map f = T) (i : Nat) (hi : i < P.length) : f (P.getD i 0) = T.getD i 0 := by
  subst h
  simp [List.getD_eq_getElem?_getD, hi]
theorem cube_at (i : Nat) (hi : i < 64) : rootOf (PRIMES.getD i 0) 3 = KT.getD i 0 := map_at PRIMES (fun p => rootOf p 3) KT cube_roots i hi
theorem take8_at (l : List Nat) (i : Nat) (hi : i < 8) : (l.take 8).getD i 0 = l.getD i 0 := by
  simp [List.getD_eq_getElem?_getD, List.getElem?_take, hi]
theorem square_at (i : Nat) (hi : i < 8) : rootOf (PRIMES.getD i 0) 2 = IT.getD i 0 := by
  have h := map_at (PRIMES.take 8) (fun p => rootOf p 2) IT square_roots i (show i < (PRIMES.take 8).length from hi)
  rw [take8_at _ i hi] at h
  exact h

/-- What is kept while the tables are made: bh, bk, gp the blocks of h, k, the primes. -/
structure Kp (w : World) (zs : Array Value) (bh bk gp : Nat) (kl hl : List Nat) (wr : World) : Prop where
  below : Below w.heap.size w wr
  res : wr.heap[w.heap.size]? = some (.cells zs 24 (0, 0))
  h : WRow wr bh 37 hl
  k : WRow wr bk 38 kl
  pr : ∀ i, i < 64 → wr.cell? ⟨gp, i, none⟩ = some (.int .u64 ((PRIMES.getD i 0 : Nat) : Int))
theorem Kp.step {w : World} {zs : Array Value} {bh bk gp : Nat} {kl hl : List Nat} {wr w' : World} (h : Kp w zs bh bk gp kl hl wr) (hb : Below wr.heap.size wr w') : Kp w zs bh bk gp kl hl w' :=
  ⟨h.below.trans (hb.mono h.below.size), (hb.block _ (Array.getElem?_eq_some_iff.1 h.res).1).trans h.res, h.h.below hb (Nat.le_refl _), h.k.below hb (Nat.le_refl _), fun i hi => (hb.cell (p := ⟨gp, i, none⟩) (World.block_lt_of_cell? wr _ (h.pr i hi))).trans (h.pr i hi)⟩
theorem Kp.setK {w : World} {zs : Array Value} {bh bk gp : Nat} {kl hl : List Nat} {wr : World} (h : Kp w zs bh bk gp kl hl wr) (i x : Nat) (h0 : w.heap.size < bk) (h1 : bh ≠ bk) (h2 : gp ≠ bk) : Kp w zs bh bk gp (kl.set i x) hl (wr.setCell ⟨bk, i, none⟩ (.int .u32 (x : Int))) := by
  refine ⟨h.below.setCell (by simp; omega) _, ?_, ?_, h.k.set i x, fun j hj => ?_⟩
  · rw [heap_setCell_other _ _ _ _ (by simp; omega)]; exact h.res
  · unfold WRow; rw [heap_setCell_other _ _ _ _ (by simpa using h1)]; exact h.h
  · rw [World.cell?_setCell_other _ _ _ _ (by simp only [ne_eq, Addr.mk.injEq, not_and]; intro e; exact absurd e.symm h2)]; exact h.pr j hj
theorem Kp.setH {w : World} {zs : Array Value} {bh bk gp : Nat} {kl hl : List Nat} {wr : World} (h : Kp w zs bh bk gp kl hl wr) (i x : Nat) (h0 : w.heap.size < bh) (h1 : bk ≠ bh) (h2 : gp ≠ bh) : Kp w zs bh bk gp kl (hl.set i x) (wr.setCell ⟨bh, i, none⟩ (.int .u32 (x : Int))) := by
  refine ⟨h.below.setCell (by simp; omega) _, ?_, h.h.set i x, ?_, fun j hj => ?_⟩
  · rw [heap_setCell_other _ _ _ _ (by simp; omega)]; exact h.res
  · unfold WRow; rw [heap_setCell_other _ _ _ _ (by simpa using h1)]; exact h.k
  · rw [World.cell?_setCell_other _ _ _ _ (by simp only [ne_eq, Addr.mk.injEq, not_and]; intro e; exact absurd e.symm h2)]; exact h.pr j hj
theorem table_set (T : List Nat) (n i : Nat) (hi : i < n) (hT : T.length = n) : (T.take i ++ List.replicate (n - i) 0).set i (T.getD i 0) = T.take (i + 1) ++ List.replicate (n - (i + 1)) 0 := by
  have hl : (T.take i).length = i := by rw [List.length_take]; omega
  have h := snoc_set (T.take i) n (T.getD i 0) (by omega)
  rw [hl] at h
  rw [h, List.length_append, hl, List.take_succ_eq_append_getElem (by omega)]
  simp [List.getD_eq_getElem?_getD, show i < T.length by omega]

/-- A row of bytes as a slice. -/
theorem own_bytes {w : World} {base : Nat} {v : Value} {L : List UInt8} (h : w.ownsRow base 5 1 v L.length (Lib.byteCells L)) : ∃ a c, v = .slice a L.length c ∧ Txt w a L ∧ L.length ≤ c ∧ c ≤ maxLen := by
  rcases h.2 with ⟨rfl, h0⟩ | ⟨g, cap, cur, rfl, _, _, hnc, hcm, _⟩
  · obtain rfl : L = [] := List.eq_nil_of_length_eq_zero h0
    exact ⟨none, 0, rfl, Txt.nil _ _, Nat.le_refl _, Nat.zero_le _⟩
  · exact ⟨_, cap, rfl, (Txt.of_own h).1, hnc, hcm⟩
/-- The padding's noughts: when the length fits. -/
theorem pad_stop (n j P : Nat) (hP : P = (119 - n % 64) % 64) (hj : j ≤ P) : ((n + 1 + j) % 64 = 56) ↔ j = P := by omega
theorem replicate_snoc (n : Nat) : List.replicate (n + 1) (0 : UInt8) = List.replicate n 0 ++ [0] := List.replicate_succ'
theorem be8_get : ∀ (n u t : Nat) (h : t < n), (be8 n u)[t]'(by rw [be8_length]; exact h) = (u / 256 ^ (n - 1 - t) % 256).toUInt8
  | n + 1, u, 0, _ => by simp [be8_cons]
  | n + 1, u, t + 1, h => by
    have ih := be8_get n u t (by omega)
    simp only [be8_cons, List.getElem_cons_succ]
    rw [ih, show n - 1 - t = n + 1 - 1 - (t + 1) by omega]
theorem be8_take (u i : Nat) (h : i < 8) : (be8 8 u).take (8 - i) = (be8 8 u).take (7 - i) ++ [(u / 256 ^ i % 256).toUInt8] := by
  have hl := be8_length u 8
  rw [show 8 - i = (7 - i) + 1 by omega, List.take_succ_eq_append_getElem (by omega), be8_get 8 u (7 - i) (by omega), show 8 - 1 - (7 - i) = i by omega]

/-- A whole row read in a region that draws its order. -/
theorem wpStill_load_row {P : Program} {ops : Array Oper} {w : World} {Q : Act → Prop} {a : Act} {o : Oper} {rest : List Oper} (hgd : o.guard = none) (ty : TypeId) (x : Operand) (ho : o.op = .load ty x) (g : Nat) (hx : a.eval x = .pointer (some ⟨g, 0, none⟩)) (t : TypeId) (cs : Array Value) (fr : Nat × Nat) (d : TypeDesc) (hg : w.heap[g]? = some (.cells cs t fr))
    (hu : P.underlying ty = some d) (hd : (match d with | .struct _ | .array _ _ => true | _ => false) = true) (hi : (P.info? ty).map (·.size) = some cs.size)
    (h : wpStill P ops w Q rest (a.put o.dst (.agg cs))) : wpStill P ops w Q (o :: rest) a := by
  refine wpStill_step fun K hK => ?_
  have hw : Region.wanted o (yielded ops a.tmps) = true := by simp [Region.wanted, hgd]
  rw [if_pos hw]
  unfold Oper.still execOp
  simp only [ho, hx, Instr.loadAt, Instr.sureAddr, Sem.run_bind, Sem.run_pure, Result.andThen_ok, run_loadVar_row w g t ty cs fr d hg hu hd hi]
  exact ⟨rfl, hK _ h⟩

/-- What is kept while the blocks are mixed in. -/
structure Kq (w : World) (zs : Array Value) (bh bk : Nat) (hl : List Nat) (aN : Option Addr) (N : List UInt8) (wr : World) : Prop where
  below : Below w.heap.size w wr
  res : wr.heap[w.heap.size]? = some (.cells zs 24 (0, 0))
  h : WRow wr bh 37 hl
  k : WRow wr bk 38 KT
  t : Txt wr aN N
theorem Kq.step {w : World} {zs : Array Value} {bh bk : Nat} {hl : List Nat} {aN : Option Addr} {N : List UInt8} {wr w' : World} (h : Kq w zs bh bk hl aN N wr) (hb : Below wr.heap.size wr w') : Kq w zs bh bk hl aN N w' :=
  ⟨h.below.trans (hb.mono h.below.size), (hb.block _ (Array.getElem?_eq_some_iff.1 h.res).1).trans h.res, h.h.below hb (Nat.le_refl _), h.k.below hb (Nat.le_refl _), h.t.below hb⟩

theorem Kq.put {w : World} {zs : Array Value} {bh bk : Nat} {hl : List Nat} {st : S8} {aN : Option Addr} {N : List UInt8} {wr : World} (h : Kq w zs bh bk hl aN N wr) (h0 : w.heap.size < bh) (h1 : bk = bh + 1) (h2 : ∀ b o, aN = some ⟨b, o, none⟩ → bh + 1 < b) (C : Array Value) (hC : C = (u32s st.list).toArray) : Kq w zs bh bk st.list aN N (wr.setRow bh C) := by
  refine ⟨below_setRow h.below (by omega) _, ?_, ?_, ?_, ?_⟩
  · rw [setRow_heap_other _ _ _ _ (by omega)]; exact h.res
  · unfold WRow; rw [setRow_heap _ _ _ _ _ _ h.h, hC]
  · unfold WRow; rw [setRow_heap_other _ _ _ _ (by omega)]; exact h.k
  · exact h.t.keep (by simp) (fun b o e => setRow_heap_other _ _ _ _ (by have := h2 b o e; omega))

theorem out_get (s : S8) (q r : Nat) (hq : q < 8) (hr : r < 4) : (outOf s)[4 * q + r]? = some (s.list.getD q 0 / 256 ^ (3 - r) % 256).toUInt8 := by
  rcases (by omega : r = 0 ∨ r = 1 ∨ r = 2 ∨ r = 3) with rfl | rfl | rfl | rfl <;>
  rcases (by omega : q = 0 ∨ q = 1 ∨ q = 2 ∨ q = 3 ∨ q = 4 ∨ q = 5 ∨ q = 6 ∨ q = 7) with rfl | rfl | rfl | rfl | rfl | rfl | rfl | rfl <;>
  simp [outOf, S8.list, be8, Nat.div_div_eq_div_mul]
theorem bytes_set (L : List UInt8) (n i : Nat) (x : UInt8) (hi : i < n) (hL : L.length = n) (hx : L[i]? = some x) : (L.take i ++ List.replicate (n - i) 0).set i x = L.take (i + 1) ++ List.replicate (n - (i + 1)) 0 := by
  have hl : (L.take i).length = i := by rw [List.length_take]; omega
  have hx' : L[i]'(by omega) = x := by rw [List.getElem?_eq_getElem (by omega)] at hx; exact Option.some.inj hx
  rw [List.set_append_right _ _ (by omega), hl, Nat.sub_self, show n - i = (n - (i + 1)) + 1 by omega, List.replicate_succ, List.set_cons_zero, List.take_succ_eq_append_getElem (by omega), hx', List.append_assoc]
  rfl
theorem s8_lt {s : S8} (h : s.Ok) (q : Nat) (hq : q < 8) : s.list.getD q 0 < 4294967296 := by
  obtain ⟨h0, h1, h2, h3, h4, h5, h6, h7⟩ := h
  rcases (by omega : q = 0 ∨ q = 1 ∨ q = 2 ∨ q = 3 ∨ q = 4 ∨ q = 5 ∨ q = 6 ∨ q = 7) with rfl | rfl | rfl | rfl | rfl | rfl | rfl | rfl <;> assumption

set_option maxHeartbeats 8000000 in
set_option maxRecDepth 100000 in
theorem rSha_any (a : Option Addr) (c : Nat) (l : List UInt8) (w : World) (ht : Txt w a l) (hc : l.length ≤ c) (hm : c ≤ maxLen) (hL : l.length ≤ 1073741824) :
    Calls Tryd.prog 7 #[.slice a l.length c] w fun e w' => e = .returned (.agg (Lib.byteCells (shaWith KT I8 l)).toArray) ∧ Below w.heap.size w w' := by
  obtain ⟨i0, hi0, hz0, hz1, hz2⟩ := info_parts info_byte
  obtain ⟨hzd, hszd⟩ := zero_of_info info_digest
  obtain ⟨hzh, hszh⟩ := zero_of_info info_state
  obtain ⟨hzk, hszk⟩ := zero_of_info info_words
  obtain ⟨zd, hzd'⟩ : ∃ z, z = (Lib.byteCells (List.replicate 32 0)).toArray := ⟨_, rfl⟩
  obtain ⟨zh, hzh'⟩ : ∃ z, z = (u32s (List.replicate 8 0)).toArray := ⟨_, rfl⟩
  obtain ⟨zk, hzk'⟩ : ∃ z, z = (u32s (List.replicate 64 0)).toArray := ⟨_, rfl⟩
  rw [← hzd'] at hzd
  rw [← hzh'] at hzh
  rw [← hzk'] at hzk
  have hb1 : Below w.heap.size w (w.alloc (.cells zd 24)) := (Below.refl _ _).alloc (Nat.le_refl _) _
  have hr1 := heap_alloc_new w (.cells zd 24)
  have hpr := primes_any (w.alloc (.cells zd 24))
  have hs1 : (w.alloc (.cells zd 24)).heap.size = w.heap.size + 1 := by simp
  have HB1 := Lib.hid hb1
  have HR1 := Lib.hid hr1
  have HS1 := Lib.hid hs1
  have HZD := Lib.hid hzd'
  have HZH := Lib.hid hzh'
  have HZK := Lib.hid hzk'
  have HSD := Lib.hid hszd
  have HSH := Lib.hid hszh
  have HSK := Lib.hid hszk
  have HTX := Lib.hid ht
  clear hb1 hr1 hs1 hzd' hzh' hzk' hszd hszh hszk ht
  go_enter Tryd.func7, Tryd.ntmps7
  go_wp2_with fail
  refine hpr.mono ?_
  rintro e w2 ⟨gp, cp, rfl, hgp, hcp, hcpm, hpr2, hb2⟩
  have hgl : gp < w2.heap.size := World.block_lt_of_cell? w2 _ (hpr2 0 (by decide))
  have hsz2 : w.heap.size < w2.heap.size := by have := hb2.size; rw [HS1.out] at this; omega
  have hK0 : Kp w zd w2.heap.size (w2.heap.size + 1) gp (KT.take 0 ++ List.replicate (64 - 0) 0) (IT.take 0 ++ List.replicate (8 - 0) 0) ((w2.alloc (.cells zh 37)).alloc (.cells zk 38)) := by
    have hb3 : Below w2.heap.size w2 ((w2.alloc (.cells zh 37)).alloc (.cells zk 38)) := ((Below.refl _ _).alloc (Nat.le_refl _) _).alloc (by simp) _
    have hbw2 : Below w.heap.size w w2 := HB1.out.trans (hb2.mono HB1.out.size)
    refine ⟨hbw2.trans (hb3.mono (by omega)), ?_, ?_, ?_, fun i hi => (hb3.cell (p := ⟨gp, i, none⟩) hgl).trans (hpr2 i hi)⟩
    · exact (hb3.block _ hsz2).trans ((hb2.block _ (by rw [HS1.out]; omega)).trans HR1.out)
    · unfold WRow; rw [heap_alloc2_old, HZH.out]; rfl
    · unfold WRow; rw [heap_alloc2_new, HZK.out]; rfl
  have K0 := Lib.hid hK0
  clear hK0 hpr2 hpr hb2 HB1 HR1 HS1
  go_wp2
  generalize (w2.alloc (.cells zh 37)).alloc (.cells zk 38) = w3 at K0 ⊢
  obtain ⟨B, hB⟩ : ∃ B, B = w2.heap.size := ⟨_, rfl⟩
  rw [← hB] at K0 hgl hsz2 ⊢
  clear hB hzh hzk
  go_loopw [6] (fun vi wr => ∃ i : Nat, vi = .int .i64 (i : Int) ∧ i ≤ 64 ∧ Kp w zd B (B + 1) gp (KT.take i ++ List.replicate (64 - i) 0) (IT.take 0 ++ List.replicate (8 - 0) 0) wr)
    (fun vi _ => 64 - (intOf vi).toNat)
  case atStart => exact ⟨0, rfl, by omega, K0.out⟩
  case round =>
    obtain ⟨i, rfl, hi64, hK⟩ := hrel
    clear K0
    by_cases hi : i < 64
    · have cp0 := hK.pr i hi
      have hrt := rooted_does (PRIMES.getD i 0) 3 wr (.inr rfl) (prime_lt i hi)
      rw [cube_at i hi] at hrt
      obtain ⟨p, hp⟩ : ∃ p, p = PRIMES.getD i 0 := ⟨_, rfl⟩
      rw [← hp] at cp0 hrt
      have hset := table_set KT 64 i hi rfl
      obtain ⟨x, hx⟩ : ∃ x, x = KT.getD i 0 := ⟨_, rfl⟩
      rw [← hx] at hrt hset
      have HK := Lib.hid hK
      have HSET := Lib.hid hset
      clear hK hp hset hx
      go_wp2_with fail
      refine hrt.mono ?_
      rintro e w4 ⟨rfl, hb4⟩
      have hK4 := HK.out.step hb4
      have ck := hK4.k.cell i (by rw [List.length_append, List.length_take, List.length_replicate, show KT.length = 64 from rfl]; omega)
      have cf := hK4.k.frozen i
      have hK5 := hK4.setK i x (by omega) (by omega) (by omega)
      rw [HSET.out] at hK5
      have H5 := Lib.hid hK5
      clear hK4 hK5 hb4 HK hrt cp0
      go_wp2
      refine ⟨⟨i + 1, by go_num, by omega, H5.out⟩, ?_⟩
      simp [intOf]; omega
    · have hdi : decide ((i : Int) < 64) = false := by simpa using (by omega : ¬ (i : Int) < 64)
      rw [show i = 64 by omega, show KT.take 64 ++ List.replicate (64 - 64) 0 = KT from by decide] at hK
      have K1 := Lib.hid hK
      clear hK
      go_wp2
      go_loopw [7] (fun vi wr => ∃ i : Nat, vi = .int .i64 (i : Int) ∧ i ≤ 8 ∧ Kp w zd B (B + 1) gp KT (IT.take i ++ List.replicate (8 - i) 0) wr)
        (fun vi _ => 8 - (intOf vi).toNat)
      case atStart => exact ⟨0, rfl, by omega, K1.out⟩
      case round =>
        obtain ⟨i, rfl, hi8, hK⟩ := hrel
        clear K1
        by_cases hi : i < 8
        · have cp0 := hK.pr i (by omega)
          have hrt := rooted_does (PRIMES.getD i 0) 2 wr (.inl rfl) (prime_lt i (by omega))
          rw [square_at i hi] at hrt
          obtain ⟨p, hp⟩ : ∃ p, p = PRIMES.getD i 0 := ⟨_, rfl⟩
          rw [← hp] at cp0 hrt
          have hset := table_set IT 8 i hi rfl
          obtain ⟨x, hx⟩ : ∃ x, x = IT.getD i 0 := ⟨_, rfl⟩
          rw [← hx] at hrt hset
          have HK := Lib.hid hK
          have HSET := Lib.hid hset
          clear hK hp hset hx
          go_wp2_with fail
          refine hrt.mono ?_
          rintro e w4 ⟨rfl, hb4⟩
          have hK4 := HK.out.step hb4
          have ck := hK4.h.cell i (by rw [List.length_append, List.length_take, List.length_replicate, show IT.length = 8 from rfl]; omega)
          have cf := hK4.h.frozen i
          have hK5 := hK4.setH i x (by omega) (by omega) (by omega)
          rw [HSET.out] at hK5
          have H5 := Lib.hid hK5
          clear hK4 hK5 hb4 HK hrt cp0
          go_wp2
          refine ⟨⟨i + 1, by go_num, by omega, H5.out⟩, ?_⟩
          simp [intOf]; omega
        · have hdi : decide ((i : Int) < 8) = false := by simpa using (by omega : ¬ (i : Int) < 8)
          rw [show i = 8 by omega, show IT.take 8 ++ List.replicate (8 - 8) 0 = IT from by decide] at hK
          have K2 := Lib.hid hK
          have hwr : w.heap.size ≤ wr.heap.size := hK.below.size
          obtain ⟨w5, rfl⟩ : ∃ w5 : World, w5 = wr := ⟨_, rfl⟩
          have htr := HTX.out.below hK.below
          have hb6 : Below w5.heap.size w5 (w5.alloc (.cells #[] 5)) := (Below.refl _ _).alloc (Nat.le_refl _) _
          have hown6 : (w5.alloc (.cells #[] 5)).ownsRow w5.heap.size 5 1 (.slice (some ⟨w5.heap.size, 0, none⟩) 0 0) 0 [] := own_empty w5 _ _ (Nat.le_refl _)
          have ht6 := htr.below hb6
          have hle6 : 0 + l.length ≤ 140737488355328 := by omega
          have hsz6 : w5.heap.size ≤ (w5.alloc (.cells #[] 5)).heap.size := by simp
          clear hK
          go_wp2_with (at_builtin; refine wpList_append_txt _ rfl (.tmp 36) (.tmp 37) 22 rfl w5.heap.size 5 i0 Tryd.underlying22 hi0 hz0 hz1 hz2 _ 0 [] rfl hown6 a c l rfl ht6 hle6 hsz6 ?_)
          intro v7 w7 hown7 hg7
          have hb7 : Below w5.heap.size w5 w7 := hb6.grown hg7 (by simp) (fun k hk => (hown6.lt k hk).1)
          try simp only [Nat.zero_add, List.nil_append] at hown7
          have hb8 : Below w7.heap.size w7 (w7.alloc (.cells #[.int .u8 128] 5)) := (Below.refl _ _).alloc (Nat.le_refl _) _
          have ht8 := lit_txt w7 [128] #[.int .u8 128] rfl 5 (0, 0)
          have hown8 := own_below hown7 hb8
          have hle8 : l.length + ([128] : List UInt8).length ≤ 140737488355328 := by simp; omega
          have hsz8 : w5.heap.size ≤ (w7.alloc (.cells #[.int .u8 128] 5)).heap.size := Nat.le_trans hb7.size hb8.size
          have HB7 := Lib.hid hb7
          clear hown6 ht6 hg7 hb6 hown7 hb7 htr
          go_wp2_with (at_builtin; refine wpList_append_txt _ rfl (.tmp 38) (.tmp 39) 22 rfl w5.heap.size 5 i0 Tryd.underlying22 hi0 hz0 hz1 hz2 v7 l.length (Lib.byteCells l) rfl hown8 (some ⟨w7.heap.size, 0, none⟩) 1 [128] rfl ht8 hle8 hsz8 ?_)
          intro v9 w9 hown9 hg9
          have hb9 : Below w5.heap.size w5 w9 := (HB7.out.trans (hb8.mono HB7.out.size)).grown hg9 hsz8 (fun k hk => (hown8.lt k hk).1)
          obtain ⟨P, hP⟩ : ∃ P, P = (119 - l.length % 64) % 64 := ⟨_, rfl⟩
          have hPs := fun j h => pad_stop l.length j P hP h
          have hP64 : P < 64 := by omega
          have hown9' : w9.ownsRow w5.heap.size 5 1 v9 (l.length + 1 + 0) (Lib.byteCells (l ++ 128 :: List.replicate 0 0)) := by
            rw [← Lib.byteCells_append] at hown9; exact hown9
          have O9 := Lib.hid hown9'
          have B9 := Lib.hid hb9
          have HPS := Lib.hid hPs
          have HP := Lib.hid hP
          obtain ⟨m0, hm0⟩ : ∃ m, m = w5.heap.size := ⟨_, rfl⟩
          rw [← hm0] at O9 B9 hwr
          have hm0' : m0 ≤ w5.heap.size := Nat.le_of_eq hm0
          have HM0 := Lib.hid hm0
          clear hm0
          clear hown8 ht8 hle8 hsz8 hb8 hown9 hg9 hb9 hown9' hPs hP HB7 hle6 hsz6
          go_wp2_with fail
          go_loopw [8] (fun v8 w' => ∃ (V : Value) (j : Nat), V = v8 ∧ j ≤ P ∧ w'.ownsRow m0 5 1 V (l.length + 1 + j) (Lib.byteCells (l ++ 128 :: List.replicate j 0)) ∧ Below m0 w5 w')
            (fun v8 _ => match v8 with | .slice _ n _ => l.length + 1 + P - n | _ => 0)
          case atStart => exact ⟨_, 0, rfl, Nat.zero_le _, O9.out, B9.out⟩
          case round =>
            obtain ⟨V, j, hV, hj, hown, hbel⟩ := hrel
            subst hV
            clear O9 B9
            obtain ⟨M, hM⟩ : ∃ M, M = l ++ 128 :: List.replicate j 0 := ⟨_, rfl⟩
            have hMl : M.length = l.length + 1 + j := by rw [hM]; simp; omega
            rw [← hM, ← hMl] at hown
            obtain ⟨aM, cM, rfl, tM, hcM, hmM⟩ := own_bytes hown
            by_cases hjP : j < P
            · have hst := HPS.out j hj
              have dm : (((M.length : Nat) : Int) % 64 != 56) = true := by
                have : ¬ (M.length % 64 = 56) := by rw [hMl]; exact fun h => absurd (hst.1 h) (by omega)
                simp; omega
              have hb10 : Below wr.heap.size wr (wr.alloc (.cells #[.int .u8 0] 5)) := (Below.refl _ _).alloc (Nat.le_refl _) _
              have ht10 := lit_txt wr [0] #[.int .u8 0] rfl 5 (0, 0)
              have hown10 := own_below hown hb10
              have hle10 : M.length + ([0] : List UInt8).length ≤ 140737488355328 := by simp; omega
              have hsz10 : m0 ≤ (wr.alloc (.cells #[.int .u8 0] 5)).heap.size := Nat.le_trans (Nat.le_trans hm0' hbel.size) hb10.size
              have HM := Lib.hid hM
              have HML := Lib.hid hMl
              have HB := Lib.hid hbel
              clear hst hown tM hM hbel hMl
              go_wp2_with (at_builtin; refine wpList_append_txt _ rfl (.tmp 45) (.tmp 46) 22 rfl m0 5 i0 Tryd.underlying22 hi0 hz0 hz1 hz2 _ M.length (Lib.byteCells M) rfl hown10 (some ⟨wr.heap.size, 0, none⟩) 1 [0] rfl ht10 hle10 hsz10 ?_)
              intro v11 w11 hown11 hg11
              have hb11 : Below m0 w5 w11 := (HB.out.trans (hb10.mono (Nat.le_trans hm0' HB.out.size))).grown hg11 hsz10 (fun k hk => (hown10.lt k hk).1)
              rw [← Lib.byteCells_append] at hown11
              have hown12 : w11.ownsRow m0 5 1 v11 (l.length + 1 + (j + 1)) (Lib.byteCells (l ++ 128 :: List.replicate (j + 1) 0)) := by
                have e : l ++ 128 :: List.replicate (j + 1) 0 = M ++ [0] := by rw [HM.out, replicate_snoc]; simp
                rw [e, show l.length + 1 + (j + 1) = M.length + 1 by rw [HML.out]; omega]
                exact hown11
              have hLn : (l ++ (128 : UInt8) :: List.replicate (j + 1) (0 : UInt8)).length = l.length + 1 + (j + 1) := by simp; omega
              have hown13 := hown12
              rw [← hLn] at hown13
              obtain ⟨a11, c11, e11, _⟩ := own_bytes hown13
              rw [hLn] at e11
              have O11 := Lib.hid hown12
              have B11 := Lib.hid hb11
              have E11 := Lib.hid e11
              clear hown10 ht10 hown11 hg11 hb10 hle10 hsz10 hb11 hown12 hown13 hLn e11
              go_wp2
              refine ⟨⟨v11, j + 1, rfl, by omega, O11.out, B11.out⟩, ?_⟩
              rw [E11.out]
              have := HML.out
              simp only
              omega
            · obtain rfl : j = P := by omega
              have hst := (HPS.out j (Nat.le_refl _)).2 rfl
              have dm : (((M.length : Nat) : Int) % 64 != 56) = false := by
                have : M.length % 64 = 56 := by rw [hMl]; exact hst
                simp; omega
              have HM := Lib.hid hM
              have HML := Lib.hid hMl
              have HB := Lib.hid hbel
              have HO := Lib.hid hown
              clear hst tM hM hbel hMl hown hcM
              go_wp2
              obtain ⟨V0, hV0⟩ : ∃ V, V = Value.slice aM M.length cM := ⟨_, rfl⟩
              obtain ⟨w6, rfl⟩ : ∃ w6 : World, w6 = wr := ⟨_, rfl⟩
              have hO0 : w6.ownsRow m0 5 1 (.slice aM M.length cM) (M.length + (8 - 8)) (Lib.byteCells (M ++ (be8 8 (8 * l.length)).take (8 - 8))) := by
                rw [Nat.sub_self, List.take_zero, List.append_nil]; exact HO.out
              have O0 := Lib.hid hO0
              clear hO0 HO hV0
              go_loopw [8, 9] (fun v8 v9 w' => ∃ (V : Value) (i : Nat), V = v8 ∧ v9 = .int .i64 ((i : Int) - 1) ∧ i ≤ 8 ∧ w'.ownsRow m0 5 1 V (M.length + (8 - i)) (Lib.byteCells (M ++ (be8 8 (8 * l.length)).take (8 - i))) ∧ Below m0 w5 w')
                (fun _ v9 _ => (intOf v9 + 1).toNat)
              case atStart => exact ⟨_, 8, rfl, rfl, Nat.le_refl _, O0.out, HB.out⟩
              case round =>
                obtain ⟨V, i, hV, rfl, hi, hown, hbel⟩ := hrel
                subst hV
                clear O0 HB
                have hMb : M.length ≤ 1073741900 := by have := HML.out; omega
                rcases (by omega : i = 0 ∨ i = 1 ∨ i = 2 ∨ i = 3 ∨ i = 4 ∨ i = 5 ∨ i = 6 ∨ i = 7 ∨ i = 8) with rfl | rfl | rfl | rfl | rfl | rfl | rfl | rfl | rfl
                · rw [show ((0 : Nat) : Int) - 1 = -1 from rfl]
                  rw [show M.length + (8 - 0) = M.length + 8 from rfl, show (be8 8 (8 * l.length)).take (8 - 0) = be8 8 (8 * l.length) from List.take_of_length_le (by rw [be8_length]; exact Nat.le_refl _)] at hown
                  obtain ⟨N, hN⟩ : ∃ N, N = M ++ be8 8 (8 * l.length) := ⟨_, rfl⟩
                  have hNl : N.length = M.length + 8 := by rw [hN, List.length_append, be8_length]
                  have hNp : N = l ++ padOf l.length := by
                    rw [hN, HM.out]
                    unfold padOf
                    rw [← HP.out, List.append_assoc]
                    rfl
                  have hN64 : N.length % 64 = 0 := by rw [hNp, List.length_append]; exact padOf_whole _
                  rw [← hN, ← hNl] at hown
                  obtain ⟨aN, cN, rfl, tN, hcN, hmN⟩ := own_bytes hown
                  have hNb : N.length ≤ 1073741910 := by omega
                  have hBm : B + 1 < m0 := by rw [HM0.out]; exact K2.out.k.lt
                  have hneN : ∀ b o, aN = some ⟨b, o, none⟩ → B + 1 < b := fun b o e => by
                    have := (hown.lt b (by rw [e]; rfl)).1; omega
                  have HNE := Lib.hid hneN
                  clear hneN
                  have hbw : Below w5.heap.size w5 wr := by rw [← HM0.out]; exact hbel
                  have hK3 := K2.out.step hbw
                  have hQ : Kq w zd B (B + 1) (soak KT I8 (N.take (64 * 0))).list aN N wr := ⟨hK3.below, hK3.res, by rw [show (soak KT I8 (N.take (64 * 0))).list = IT by rw [Nat.mul_zero, List.take_zero]; rfl]; exact hK3.h, hK3.k, tN⟩
                  have Q0 := Lib.hid hQ
                  have HNP := Lib.hid hNp
                  have HN64 := Lib.hid hN64
                  clear hQ hK3 hbw tN hown hN hNl hNp hN64 hbel K2 HM HML HPS HP HM0
                  go_wp2
                  generalize wr = w8 at Q0 ⊢
                  go_loopw [10] (fun va w' => ∃ t : Nat, va = .int .i64 ((64 * t : Nat) : Int) ∧ 64 * t ≤ N.length ∧ Kq w zd B (B + 1) (soak KT I8 (N.take (64 * t))).list aN N w')
                    (fun va _ => N.length - (intOf va).toNat)
                  case atStart => exact ⟨0, rfl, Nat.zero_le _, Q0.out⟩
                  case round =>
                    obtain ⟨t, rfl, ht, hQ⟩ := hrel
                    clear Q0
                    by_cases hlt : 64 * t < N.length
                    · have hle : 64 * t + 64 ≤ N.length := by have := HN64.out; omega
                      obtain ⟨z, hz⟩ : ∃ z, z = 64 * t := ⟨_, rfl⟩
                      have hz2 : 64 * (t + 1) = z + 64 := by omega
                      rw [← hz] at hlt hle hQ ⊢
                      obtain ⟨a', hsl, tS, _⟩ := slice_mid hQ.t z (z + 64) N.length cN (z : Int) ((z : Int) + 64) rfl (by omega) rfl (by omega) hle hcN
                      rw [show z + 64 - z = 64 by omega] at hsl tS
                      obtain ⟨blk, hblk⟩ : ∃ b, b = (N.drop z).take 64 := ⟨_, rfl⟩
                      have hbl : blk.length = 64 := by rw [hblk, List.length_take, List.length_drop]; omega
                      rw [← hblk] at tS
                      obtain ⟨b', o', rfl, _, _⟩ := tS (by intro e; rw [e] at hbl; simp at hbl)
                      have hmix : mix8 KT (soak KT I8 (N.take z)) blk = soak KT I8 (N.take (z + 64)) := by
                        rw [← soak_block KT I8 (N.take z) blk (by rw [List.length_take]; omega) hbl, hblk, List.take_add]
                      have hok := soak_ok KT I8_ok (N.take z)
                      generalize soak KT I8 (N.take z) = st at hmix hok hQ
                      obtain ⟨Hc, hHc⟩ : ∃ H, H = (u32s st.list).toArray := ⟨_, rfl⟩
                      obtain ⟨Kc, hKc⟩ : ∃ H, H = (u32s KT).toArray := ⟨_, rfl⟩
                      obtain ⟨Hn, hHn⟩ : ∃ H, H = (u32s (mix8 KT st blk).list).toArray := ⟨_, rfl⟩
                      have sH : (Tryd.prog.info? 37).map (·.size) = some Hc.size := by rw [HSH.out, hHc]; simp [u32s_length, S8.list]
                      have sK : (Tryd.prog.info? 38).map (·.size) = some Kc.size := by rw [HSK.out, hKc]; simp [u32s_length, show KT.length = 64 from rfl]
                      have sN : (Tryd.prog.info? 37).map (·.size) = some Hn.size := by rw [HSH.out, hHn]; simp [u32s_length, S8.list]
                      have sHN : Hc.size = Hn.size := by rw [hHc, hHn]; simp [u32s_length, S8.list]
                      have oN : Hn.all (·.oneCell') = true := by rw [hHn]; exact u32s_all _
                      have rH : wr.heap[B]? = some (.cells Hc 37 (0, 0)) := by rw [hHc]; exact hQ.h
                      have rK : wr.heap[B + 1]? = some (.cells Kc 38 (0, 0)) := by rw [hKc]; exact hQ.k
                      have RH := Lib.hid rH
                      have RK := Lib.hid rK
                      have SH := Lib.hid sH
                      have SK := Lib.hid sK
                      have hround := fun W tW => round_any b' o' (cN - z) st KT blk W hok rfl KT_lt tW hbl
                      rw [← hHc, ← hKc, ← hHn] at hround
                      have hNc : Kq w zd B (B + 1) st.list aN N wr := hQ
                      have hmz : IntKind.i64.wrap ((z : Int) + 64) = (z : Int) + 64 := by rw [IntKind.wrap_i64]; omega
                      have dl : decide ((z : Int) < (N.length : Int)) = true := by simp; omega
                      have X1 := Lib.hid hround
                      have X2 := Lib.hid hQ
                      have X3 := Lib.hid tS
                      have X4 := Lib.hid sN
                      have X5 := Lib.hid sHN
                      have X6 := Lib.hid oN
                      have X7 := Lib.hid hmix
                      have X8 := Lib.hid hHn
                      have X9 := Lib.hid hHc
                      have XZ := Lib.hid hz2
                      clear hround hQ hNc tS sN sHN oN hmix hHn hHc hKc hok hblk hbl rH rK sH sK hz hz2
                      go_wp2
                      refine wp_region_still_tail 7 (by kernel_rfl) (by kernel_rfl) ?_
                      simp only [List.take_succ_cons, List.take_zero, List.drop_succ_cons, List.drop_zero]
                      refine wpStill_load_row rfl 37 (.tmp 4) rfl B rfl 37 Hc (0, 0) _ RH.out Tryd.underlying37 rfl SH.out ?_
                      refine wpStill_load_row rfl 38 (.tmp 5) rfl (B + 1) rfl 38 Kc (0, 0) _ RK.out Tryd.underlying38 rfl SK.out ?_
                      iterate 5 still_step
                      refine wpStill_nil ?_
                      change wpList _ _ _ _ _ wr.drew
                      have Y2 : Kq w zd B (B + 1) st.list aN N wr.drew := ⟨X2.out.below.drew, X2.out.res, X2.out.h, X2.out.k, X2.out.t⟩
                      have Y3 : Txt wr.drew (some ⟨b', o', none⟩) blk := X3.out
                      have Z2 := Lib.hid Y2
                      have Z3 := Lib.hid Y3
                      clear RH RK hsl hmz X2 X3 Y2 Y3
                      generalize wr.drew = w9 at Z2 Z3 ⊢
                      go_wp2_with fail
                      refine (X1.out w9 Z3.out).mono ?_
                      rintro e w10 ⟨rfl, hb10⟩
                      have hQ10 := Z2.out.step hb10
                      have r10 : w10.heap[B]? = some (.cells Hc 37 (0, 0)) := by rw [X9.out]; exact hQ10.h
                      have R10 := Lib.hid r10
                      have Q10' := Lib.hid hQ10
                      have hput := Kq.put Q10'.out (by omega) (by omega) HNE.out Hn X8.out
                      rw [X7.out] at hput
                      have HPUT := Lib.hid hput
                      clear hb10 hQ10 r10 hput
                      go_wp2_with (refine wpList_store_row rfl 37 (.tmp 4) (.tmp 77) rfl B Hn rfl rfl 37 Hc R10.out X4.out X5.out X6.out ?_)
                      refine ⟨⟨t + 1, by rw [XZ.out]; go_num, by rw [XZ.out]; exact hle, by rw [XZ.out]; exact HPUT.out⟩, ?_⟩
                      simp [intOf]; omega
                    · have hT : 64 * t = N.length := by omega
                      have dl : decide (((64 * t : Nat) : Int) < (N.length : Int)) = false := by simp; omega
                      rw [hT, List.take_of_length_le (Nat.le_refl _)] at hQ
                      have hsha : shaWith KT I8 l = outOf (soak KT I8 N) := by unfold shaWith; rw [HNP.out]
                      have hok := soak_ok KT I8_ok N
                      generalize soak KT I8 N = st at hQ hsha hok
                      have hb11 : Below wr.heap.size wr (wr.alloc (.cells zd 24)) := (Below.refl _ _).alloc (Nat.le_refl _) _
                      have hQ11 := hQ.step hb11
                      have hd0 : BRow (wr.alloc (.cells zd 24)) wr.heap.size 24 ((outOf st).take 0 ++ List.replicate (32 - 0) 0) := by
                        unfold BRow; rw [heap_alloc_new, HZD.out]; rfl
                      have hBl : B + 1 < wr.heap.size := hQ.k.lt
                      have HSHA := Lib.hid hsha
                      have HOK := Lib.hid hok
                      have Q11 := Lib.hid hQ11
                      have D11 := Lib.hid hd0
                      clear hQ hsha hok hb11 hQ11 hd0 HN64 HNP HNE hT
                      go_wp2
                      generalize wr.alloc (.cells zd 24) = w12 at Q11 D11 ⊢
                      obtain ⟨dB, hdB⟩ : ∃ d, d = wr.heap.size := ⟨_, rfl⟩
                      rw [← hdB] at D11 hBl ⊢
                      clear hdB
                      go_loopw [12] (fun vi w' => ∃ i : Nat, vi = .int .i64 (i : Int) ∧ i ≤ 32 ∧ Below w.heap.size w w' ∧ w'.heap[w.heap.size]? = some (.cells zd 24 (0, 0)) ∧ WRow w' B 37 st.list ∧ BRow w' dB 24 ((outOf st).take i ++ List.replicate (32 - i) 0))
                        (fun vi _ => 32 - (intOf vi).toNat)
                      case atStart => exact ⟨0, rfl, by omega, Q11.out.below, Q11.out.res, Q11.out.h, D11.out⟩
                      case round =>
                        obtain ⟨i, rfl, hi32, hbel, hres, hh, hd⟩ := hrel
                        clear Q11 D11
                        by_cases hi : i < 32
                        · obtain ⟨q, r, hqr, hr4⟩ : ∃ q r, i = 4 * q + r ∧ r < 4 := ⟨i / 4, i % 4, by omega, by omega⟩
                          have hq8 : q < 8 := by omega
                          have ch := hh.cell q hq8
                          have hx32 := s8_lt HOK.out q hq8
                          have hog := out_get st q r hq8 hr4
                          rw [← hqr] at hog
                          have e1 : (i : Int) / 4 = (q : Int) := by omega
                          have e2 : (i : Int) % 4 = (r : Int) := by omega
                          obtain ⟨x, hx⟩ : ∃ x, x = st.list.getD q 0 := ⟨_, rfl⟩
                          rw [← hx] at ch hx32 hog
                          obtain ⟨y, hy⟩ : ∃ y, y = x / 256 ^ (3 - r) % 256 := ⟨_, rfl⟩
                          obtain ⟨u, hu⟩ : ∃ u : UInt8, u = y.toUInt8 := ⟨_, rfl⟩
                          have hy8 : y < 256 := by rw [hy]; exact Nat.mod_lt _ (by decide)
                          have huy : (u.toNat : Int) = (y : Int) := by rw [hu, Lib.toUInt8_toNat hy8]
                          rw [← hy, ← hu] at hog
                          have hset := bytes_set (outOf st) 32 i u hi (outOf_length st) hog
                          obtain ⟨o1, c1⟩ : ∃ v, wr.cell? ⟨dB, i, none⟩ = some v := ⟨_, hd.cell i (by rw [List.length_append, List.length_take, List.length_replicate, outOf_length]; omega)⟩
                          have f1 := hd.frozen i
                          have hd2 := hd.setB i u
                          rw [hset, huy] at hd2
                          have hb2 : Below w.heap.size w (wr.setCell ⟨dB, i, none⟩ (.int .u8 (y : Int))) := hbel.setCell (by simp; omega) _
                          have hr2 : (wr.setCell ⟨dB, i, none⟩ (.int .u8 (y : Int))).heap[w.heap.size]? = some (.cells zd 24 (0, 0)) := by rw [heap_setCell_other _ _ _ _ (by simp; omega)]; exact hres
                          have hh2 : WRow (wr.setCell ⟨dB, i, none⟩ (.int .u8 (y : Int))) B 37 st.list := by unfold WRow; rw [heap_setCell_other _ _ _ _ (by simp; omega)]; exact hh
                          have J1 := Lib.hid hd2
                          have J2 := Lib.hid hb2
                          have J3 := Lib.hid hr2
                          have J4 := Lib.hid hh2
                          clear hd hd2 hb2 hr2 hh2 hset hog hu huy hx hbel hres hh
                          rcases (by omega : r = 0 ∨ r = 1 ∨ r = 2 ∨ r = 3) with rfl | rfl | rfl | rfl
                          · have ev : (x : Int) / 16777216 = (y : Int) := by simp at hy; omega
                            have e3 : (i : Int) % 4 = 0 := by omega
                            clear e2 hy hqr hr4
                            go_wp2
                            refine ⟨⟨i + 1, by go_num, by omega, J2.out, J3.out, J4.out, J1.out⟩, ?_⟩
                            simp [intOf]; omega
                          · have ev : (x : Int) / 65536 % 256 = (y : Int) := by simp at hy; omega
                            have e3 : (i : Int) % 4 = 1 := by omega
                            clear e2 hy hqr hr4
                            go_wp2
                            refine ⟨⟨i + 1, by go_num, by omega, J2.out, J3.out, J4.out, J1.out⟩, ?_⟩
                            simp [intOf]; omega
                          · have ev : (x : Int) / 256 % 256 = (y : Int) := by simp at hy; omega
                            have e3 : (i : Int) % 4 = 2 := by omega
                            clear e2 hy hqr hr4
                            go_wp2
                            refine ⟨⟨i + 1, by go_num, by omega, J2.out, J3.out, J4.out, J1.out⟩, ?_⟩
                            simp [intOf]; omega
                          · have ev : (x : Int) % 256 = (y : Int) := by simp at hy; omega
                            have e3 : (i : Int) % 4 = 3 := by omega
                            clear e2 hy hqr hr4
                            go_wp2
                            refine ⟨⟨i + 1, by go_num, by omega, J2.out, J3.out, J4.out, J1.out⟩, ?_⟩
                            simp [intOf]; omega
                        · obtain rfl : i = 32 := by omega
                          rw [List.take_of_length_le (by rw [outOf_length]; exact Nat.le_refl _), Nat.sub_self, List.replicate_zero, List.append_nil] at hd
                          obtain ⟨V, hV⟩ : ∃ V, V = (Lib.byteCells (outOf st)).toArray := ⟨_, rfl⟩
                          have hV' : wr.heap[dB]? = some (.cells V 24 (0, 0)) := by rw [hV]; exact hd
                          have hVs : V.size = 32 := by rw [hV, List.size_toArray]; simp [Lib.byteCells, outOf_length]
                          have hone : V.all (·.oneCell') = true := by rw [hV]; exact Array.all_eq_true_iff_forall_mem.2 (fun v hv => byteCells_one _ v (by simpa using hv))
                          have hi1 : (Tryd.prog.info? 24).map (·.size) = some V.size := by rw [hVs]; exact HSD.out
                          have hzsz : zd.size = V.size := by
                            have h := congrArg Array.size HZD.out
                            rw [h, hVs]; simp [Lib.byteCells]
                          have A1 := Lib.hid hV'
                          have A2 := Lib.hid hi1
                          have A3 := Lib.hid hzsz
                          have A4 := Lib.hid hone
                          have A5 := Lib.hid hres
                          have A6 := Lib.hid hbel
                          have A7 := Lib.hid hV
                          clear hV hV' hVs hone hi1 hzsz hres hbel hd hh hzd
                          go_wp2_with (first | (refine wpList_load_row rfl 24 (.tmp 11) rfl dB rfl 24 V (0, 0) _ A1.out Tryd.underlying24 rfl A2.out ?_) | (refine wpList_store_row rfl 24 (.tmp 2) (.tmp 95) rfl w.heap.size V rfl rfl 24 zd A5.out A2.out A3.out A4.out ?_))
                          refine bodyPost_ret (v := .agg V) (results_cell_row (p := 2) (ty := 24) rfl _ _ w.heap.size 24 V (0, 0) _ rfl (setRow_heap wr w.heap.size _ _ _ _ A5.out) Tryd.underlying24 rfl A2.out) rfl ⟨by rw [A7.out, HSHA.out], below_setRow A6.out (Nat.le_refl _) V⟩
                · rw [show ((1 : Nat) : Int) - 1 = 0 from rfl]
                  obtain ⟨y, hy⟩ : ∃ y, y = 8 * l.length / 1 % 256 := ⟨_, rfl⟩
                  have hye : (l.length : Int) * 8 % 256 = (y : Int) := by omega
                  have hy8 : y < 256 := by omega
                  have htk : (be8 8 (8 * l.length)).take (8 - 0) = (be8 8 (8 * l.length)).take (8 - 1) ++ [y.toUInt8] := by rw [hy]; exact be8_take (8 * l.length) 0 (by decide)
                  have hC : (#[.int .u8 (y : Int)] : Array Value) = (Lib.byteCells [y.toUInt8]).toArray := by
                    have e : ((y.toUInt8).toNat : Int) = (y : Int) := by rw [Lib.toUInt8_toNat hy8]
                    simp only [Lib.byteCells, List.map_cons, List.map_nil, e]
                  have hb10 : Below wr.heap.size wr (wr.alloc (.cells #[.int .u8 (y : Int)] 5)) := (Below.refl _ _).alloc (Nat.le_refl _) _
                  have ht10 := lit_txt wr [y.toUInt8] #[.int .u8 (y : Int)] hC 5 (0, 0)
                  have hown10 := own_below hown hb10
                  have hle10 : (M.length + (8 - 1)) + ([y.toUInt8] : List UInt8).length ≤ 140737488355328 := by simp; omega
                  have hsz10 : m0 ≤ (wr.alloc (.cells #[.int .u8 (y : Int)] 5)).heap.size := Nat.le_trans (Nat.le_trans hm0' hbel.size) hb10.size
                  have HTK := Lib.hid htk
                  have HBL := Lib.hid hbel
                  clear hy htk hC hown hbel
                  go_wp2_with (at_builtin; refine wpList_append_txt _ rfl (.tmp 52) (.tmp 62) 22 rfl m0 5 i0 Tryd.underlying22 hi0 hz0 hz1 hz2 V _ _ rfl hown10 (some ⟨wr.heap.size, 0, none⟩) 1 [y.toUInt8] rfl ht10 hle10 hsz10 ?_)
                  intro v11 w11 hown11 hg11
                  have hb11 : Below m0 w5 w11 := (HBL.out.trans (hb10.mono (Nat.le_trans hm0' HBL.out.size))).grown hg11 hsz10 (fun k hk => (hown10.lt k hk).1)
                  have hown12 : w11.ownsRow m0 5 1 v11 (M.length + (8 - 0)) (Lib.byteCells (M ++ (be8 8 (8 * l.length)).take (8 - 0))) := by
                    rw [HTK.out, ← List.append_assoc, Lib.byteCells_append]
                    exact hown11
                  have O11 := Lib.hid hown12
                  have B11 := Lib.hid hb11
                  clear hown10 ht10 hown11 hg11 hb10 hle10 hsz10 hb11 hown12 hye hy8
                  go_wp2
                  refine ⟨⟨v11, 0, rfl, rfl, by decide, O11.out, B11.out⟩, ?_⟩
                  decide
                · rw [show ((2 : Nat) : Int) - 1 = 1 from rfl]
                  obtain ⟨y, hy⟩ : ∃ y, y = 8 * l.length / 256 % 256 := ⟨_, rfl⟩
                  have hye : (l.length : Int) * 8 / 256 % 256 = (y : Int) := by omega
                  have hy8 : y < 256 := by omega
                  have htk : (be8 8 (8 * l.length)).take (8 - 1) = (be8 8 (8 * l.length)).take (8 - 2) ++ [y.toUInt8] := by rw [hy]; exact be8_take (8 * l.length) 1 (by decide)
                  have hC : (#[.int .u8 (y : Int)] : Array Value) = (Lib.byteCells [y.toUInt8]).toArray := by
                    have e : ((y.toUInt8).toNat : Int) = (y : Int) := by rw [Lib.toUInt8_toNat hy8]
                    simp only [Lib.byteCells, List.map_cons, List.map_nil, e]
                  have hb10 : Below wr.heap.size wr (wr.alloc (.cells #[.int .u8 (y : Int)] 5)) := (Below.refl _ _).alloc (Nat.le_refl _) _
                  have ht10 := lit_txt wr [y.toUInt8] #[.int .u8 (y : Int)] hC 5 (0, 0)
                  have hown10 := own_below hown hb10
                  have hle10 : (M.length + (8 - 2)) + ([y.toUInt8] : List UInt8).length ≤ 140737488355328 := by simp; omega
                  have hsz10 : m0 ≤ (wr.alloc (.cells #[.int .u8 (y : Int)] 5)).heap.size := Nat.le_trans (Nat.le_trans hm0' hbel.size) hb10.size
                  have HTK := Lib.hid htk
                  have HBL := Lib.hid hbel
                  clear hy htk hC hown hbel
                  go_wp2_with (at_builtin; refine wpList_append_txt _ rfl (.tmp 52) (.tmp 62) 22 rfl m0 5 i0 Tryd.underlying22 hi0 hz0 hz1 hz2 V _ _ rfl hown10 (some ⟨wr.heap.size, 0, none⟩) 1 [y.toUInt8] rfl ht10 hle10 hsz10 ?_)
                  intro v11 w11 hown11 hg11
                  have hb11 : Below m0 w5 w11 := (HBL.out.trans (hb10.mono (Nat.le_trans hm0' HBL.out.size))).grown hg11 hsz10 (fun k hk => (hown10.lt k hk).1)
                  have hown12 : w11.ownsRow m0 5 1 v11 (M.length + (8 - 1)) (Lib.byteCells (M ++ (be8 8 (8 * l.length)).take (8 - 1))) := by
                    rw [HTK.out, ← List.append_assoc, Lib.byteCells_append]
                    exact hown11
                  have O11 := Lib.hid hown12
                  have B11 := Lib.hid hb11
                  clear hown10 ht10 hown11 hg11 hb10 hle10 hsz10 hb11 hown12 hye hy8
                  go_wp2
                  refine ⟨⟨v11, 1, rfl, rfl, by decide, O11.out, B11.out⟩, ?_⟩
                  decide
                · rw [show ((3 : Nat) : Int) - 1 = 2 from rfl]
                  obtain ⟨y, hy⟩ : ∃ y, y = 8 * l.length / 65536 % 256 := ⟨_, rfl⟩
                  have hye : (l.length : Int) * 8 / 65536 % 256 = (y : Int) := by omega
                  have hy8 : y < 256 := by omega
                  have htk : (be8 8 (8 * l.length)).take (8 - 2) = (be8 8 (8 * l.length)).take (8 - 3) ++ [y.toUInt8] := by rw [hy]; exact be8_take (8 * l.length) 2 (by decide)
                  have hC : (#[.int .u8 (y : Int)] : Array Value) = (Lib.byteCells [y.toUInt8]).toArray := by
                    have e : ((y.toUInt8).toNat : Int) = (y : Int) := by rw [Lib.toUInt8_toNat hy8]
                    simp only [Lib.byteCells, List.map_cons, List.map_nil, e]
                  have hb10 : Below wr.heap.size wr (wr.alloc (.cells #[.int .u8 (y : Int)] 5)) := (Below.refl _ _).alloc (Nat.le_refl _) _
                  have ht10 := lit_txt wr [y.toUInt8] #[.int .u8 (y : Int)] hC 5 (0, 0)
                  have hown10 := own_below hown hb10
                  have hle10 : (M.length + (8 - 3)) + ([y.toUInt8] : List UInt8).length ≤ 140737488355328 := by simp; omega
                  have hsz10 : m0 ≤ (wr.alloc (.cells #[.int .u8 (y : Int)] 5)).heap.size := Nat.le_trans (Nat.le_trans hm0' hbel.size) hb10.size
                  have HTK := Lib.hid htk
                  have HBL := Lib.hid hbel
                  clear hy htk hC hown hbel
                  go_wp2_with (at_builtin; refine wpList_append_txt _ rfl (.tmp 52) (.tmp 62) 22 rfl m0 5 i0 Tryd.underlying22 hi0 hz0 hz1 hz2 V _ _ rfl hown10 (some ⟨wr.heap.size, 0, none⟩) 1 [y.toUInt8] rfl ht10 hle10 hsz10 ?_)
                  intro v11 w11 hown11 hg11
                  have hb11 : Below m0 w5 w11 := (HBL.out.trans (hb10.mono (Nat.le_trans hm0' HBL.out.size))).grown hg11 hsz10 (fun k hk => (hown10.lt k hk).1)
                  have hown12 : w11.ownsRow m0 5 1 v11 (M.length + (8 - 2)) (Lib.byteCells (M ++ (be8 8 (8 * l.length)).take (8 - 2))) := by
                    rw [HTK.out, ← List.append_assoc, Lib.byteCells_append]
                    exact hown11
                  have O11 := Lib.hid hown12
                  have B11 := Lib.hid hb11
                  clear hown10 ht10 hown11 hg11 hb10 hle10 hsz10 hb11 hown12 hye hy8
                  go_wp2
                  refine ⟨⟨v11, 2, rfl, rfl, by decide, O11.out, B11.out⟩, ?_⟩
                  decide
                · rw [show ((4 : Nat) : Int) - 1 = 3 from rfl]
                  obtain ⟨y, hy⟩ : ∃ y, y = 8 * l.length / 16777216 % 256 := ⟨_, rfl⟩
                  have hye : (l.length : Int) * 8 / 16777216 % 256 = (y : Int) := by omega
                  have hy8 : y < 256 := by omega
                  have htk : (be8 8 (8 * l.length)).take (8 - 3) = (be8 8 (8 * l.length)).take (8 - 4) ++ [y.toUInt8] := by rw [hy]; exact be8_take (8 * l.length) 3 (by decide)
                  have hC : (#[.int .u8 (y : Int)] : Array Value) = (Lib.byteCells [y.toUInt8]).toArray := by
                    have e : ((y.toUInt8).toNat : Int) = (y : Int) := by rw [Lib.toUInt8_toNat hy8]
                    simp only [Lib.byteCells, List.map_cons, List.map_nil, e]
                  have hb10 : Below wr.heap.size wr (wr.alloc (.cells #[.int .u8 (y : Int)] 5)) := (Below.refl _ _).alloc (Nat.le_refl _) _
                  have ht10 := lit_txt wr [y.toUInt8] #[.int .u8 (y : Int)] hC 5 (0, 0)
                  have hown10 := own_below hown hb10
                  have hle10 : (M.length + (8 - 4)) + ([y.toUInt8] : List UInt8).length ≤ 140737488355328 := by simp; omega
                  have hsz10 : m0 ≤ (wr.alloc (.cells #[.int .u8 (y : Int)] 5)).heap.size := Nat.le_trans (Nat.le_trans hm0' hbel.size) hb10.size
                  have HTK := Lib.hid htk
                  have HBL := Lib.hid hbel
                  clear hy htk hC hown hbel
                  go_wp2_with (at_builtin; refine wpList_append_txt _ rfl (.tmp 52) (.tmp 62) 22 rfl m0 5 i0 Tryd.underlying22 hi0 hz0 hz1 hz2 V _ _ rfl hown10 (some ⟨wr.heap.size, 0, none⟩) 1 [y.toUInt8] rfl ht10 hle10 hsz10 ?_)
                  intro v11 w11 hown11 hg11
                  have hb11 : Below m0 w5 w11 := (HBL.out.trans (hb10.mono (Nat.le_trans hm0' HBL.out.size))).grown hg11 hsz10 (fun k hk => (hown10.lt k hk).1)
                  have hown12 : w11.ownsRow m0 5 1 v11 (M.length + (8 - 3)) (Lib.byteCells (M ++ (be8 8 (8 * l.length)).take (8 - 3))) := by
                    rw [HTK.out, ← List.append_assoc, Lib.byteCells_append]
                    exact hown11
                  have O11 := Lib.hid hown12
                  have B11 := Lib.hid hb11
                  clear hown10 ht10 hown11 hg11 hb10 hle10 hsz10 hb11 hown12 hye hy8
                  go_wp2
                  refine ⟨⟨v11, 3, rfl, rfl, by decide, O11.out, B11.out⟩, ?_⟩
                  decide
                · rw [show ((5 : Nat) : Int) - 1 = 4 from rfl]
                  obtain ⟨y, hy⟩ : ∃ y, y = 8 * l.length / 4294967296 % 256 := ⟨_, rfl⟩
                  have hye : (l.length : Int) * 8 / 4294967296 = (y : Int) := by omega
                  have hy8 : y < 256 := by omega
                  have htk : (be8 8 (8 * l.length)).take (8 - 4) = (be8 8 (8 * l.length)).take (8 - 5) ++ [y.toUInt8] := by rw [hy]; exact be8_take (8 * l.length) 4 (by decide)
                  have hC : (#[.int .u8 (y : Int)] : Array Value) = (Lib.byteCells [y.toUInt8]).toArray := by
                    have e : ((y.toUInt8).toNat : Int) = (y : Int) := by rw [Lib.toUInt8_toNat hy8]
                    simp only [Lib.byteCells, List.map_cons, List.map_nil, e]
                  have hb10 : Below wr.heap.size wr (wr.alloc (.cells #[.int .u8 (y : Int)] 5)) := (Below.refl _ _).alloc (Nat.le_refl _) _
                  have ht10 := lit_txt wr [y.toUInt8] #[.int .u8 (y : Int)] hC 5 (0, 0)
                  have hown10 := own_below hown hb10
                  have hle10 : (M.length + (8 - 5)) + ([y.toUInt8] : List UInt8).length ≤ 140737488355328 := by simp; omega
                  have hsz10 : m0 ≤ (wr.alloc (.cells #[.int .u8 (y : Int)] 5)).heap.size := Nat.le_trans (Nat.le_trans hm0' hbel.size) hb10.size
                  have HTK := Lib.hid htk
                  have HBL := Lib.hid hbel
                  clear hy htk hC hown hbel
                  go_wp2_with (at_builtin; refine wpList_append_txt _ rfl (.tmp 52) (.tmp 62) 22 rfl m0 5 i0 Tryd.underlying22 hi0 hz0 hz1 hz2 V _ _ rfl hown10 (some ⟨wr.heap.size, 0, none⟩) 1 [y.toUInt8] rfl ht10 hle10 hsz10 ?_)
                  intro v11 w11 hown11 hg11
                  have hb11 : Below m0 w5 w11 := (HBL.out.trans (hb10.mono (Nat.le_trans hm0' HBL.out.size))).grown hg11 hsz10 (fun k hk => (hown10.lt k hk).1)
                  have hown12 : w11.ownsRow m0 5 1 v11 (M.length + (8 - 4)) (Lib.byteCells (M ++ (be8 8 (8 * l.length)).take (8 - 4))) := by
                    rw [HTK.out, ← List.append_assoc, Lib.byteCells_append]
                    exact hown11
                  have O11 := Lib.hid hown12
                  have B11 := Lib.hid hb11
                  clear hown10 ht10 hown11 hg11 hb10 hle10 hsz10 hb11 hown12 hye hy8
                  go_wp2
                  refine ⟨⟨v11, 4, rfl, rfl, by decide, O11.out, B11.out⟩, ?_⟩
                  decide
                · rw [show ((6 : Nat) : Int) - 1 = 5 from rfl]
                  obtain ⟨y, hy⟩ : ∃ y, y = 8 * l.length / 1099511627776 % 256 := ⟨_, rfl⟩
                  have hye : (l.length : Int) * 8 / 1099511627776 = (y : Int) := by omega
                  have hy8 : y < 256 := by omega
                  have htk : (be8 8 (8 * l.length)).take (8 - 5) = (be8 8 (8 * l.length)).take (8 - 6) ++ [y.toUInt8] := by rw [hy]; exact be8_take (8 * l.length) 5 (by decide)
                  have hC : (#[.int .u8 (y : Int)] : Array Value) = (Lib.byteCells [y.toUInt8]).toArray := by
                    have e : ((y.toUInt8).toNat : Int) = (y : Int) := by rw [Lib.toUInt8_toNat hy8]
                    simp only [Lib.byteCells, List.map_cons, List.map_nil, e]
                  have hb10 : Below wr.heap.size wr (wr.alloc (.cells #[.int .u8 (y : Int)] 5)) := (Below.refl _ _).alloc (Nat.le_refl _) _
                  have ht10 := lit_txt wr [y.toUInt8] #[.int .u8 (y : Int)] hC 5 (0, 0)
                  have hown10 := own_below hown hb10
                  have hle10 : (M.length + (8 - 6)) + ([y.toUInt8] : List UInt8).length ≤ 140737488355328 := by simp; omega
                  have hsz10 : m0 ≤ (wr.alloc (.cells #[.int .u8 (y : Int)] 5)).heap.size := Nat.le_trans (Nat.le_trans hm0' hbel.size) hb10.size
                  have HTK := Lib.hid htk
                  have HBL := Lib.hid hbel
                  clear hy htk hC hown hbel
                  go_wp2_with (at_builtin; refine wpList_append_txt _ rfl (.tmp 52) (.tmp 62) 22 rfl m0 5 i0 Tryd.underlying22 hi0 hz0 hz1 hz2 V _ _ rfl hown10 (some ⟨wr.heap.size, 0, none⟩) 1 [y.toUInt8] rfl ht10 hle10 hsz10 ?_)
                  intro v11 w11 hown11 hg11
                  have hb11 : Below m0 w5 w11 := (HBL.out.trans (hb10.mono (Nat.le_trans hm0' HBL.out.size))).grown hg11 hsz10 (fun k hk => (hown10.lt k hk).1)
                  have hown12 : w11.ownsRow m0 5 1 v11 (M.length + (8 - 5)) (Lib.byteCells (M ++ (be8 8 (8 * l.length)).take (8 - 5))) := by
                    rw [HTK.out, ← List.append_assoc, Lib.byteCells_append]
                    exact hown11
                  have O11 := Lib.hid hown12
                  have B11 := Lib.hid hb11
                  clear hown10 ht10 hown11 hg11 hb10 hle10 hsz10 hb11 hown12 hye hy8
                  go_wp2
                  refine ⟨⟨v11, 5, rfl, rfl, by decide, O11.out, B11.out⟩, ?_⟩
                  decide
                · rw [show ((7 : Nat) : Int) - 1 = 6 from rfl]
                  obtain ⟨y, hy⟩ : ∃ y, y = 8 * l.length / 281474976710656 % 256 := ⟨_, rfl⟩
                  have hye : (l.length : Int) * 8 / 281474976710656 = (y : Int) := by omega
                  have hy8 : y < 256 := by omega
                  have htk : (be8 8 (8 * l.length)).take (8 - 6) = (be8 8 (8 * l.length)).take (8 - 7) ++ [y.toUInt8] := by rw [hy]; exact be8_take (8 * l.length) 6 (by decide)
                  have hC : (#[.int .u8 (y : Int)] : Array Value) = (Lib.byteCells [y.toUInt8]).toArray := by
                    have e : ((y.toUInt8).toNat : Int) = (y : Int) := by rw [Lib.toUInt8_toNat hy8]
                    simp only [Lib.byteCells, List.map_cons, List.map_nil, e]
                  have hb10 : Below wr.heap.size wr (wr.alloc (.cells #[.int .u8 (y : Int)] 5)) := (Below.refl _ _).alloc (Nat.le_refl _) _
                  have ht10 := lit_txt wr [y.toUInt8] #[.int .u8 (y : Int)] hC 5 (0, 0)
                  have hown10 := own_below hown hb10
                  have hle10 : (M.length + (8 - 7)) + ([y.toUInt8] : List UInt8).length ≤ 140737488355328 := by simp; omega
                  have hsz10 : m0 ≤ (wr.alloc (.cells #[.int .u8 (y : Int)] 5)).heap.size := Nat.le_trans (Nat.le_trans hm0' hbel.size) hb10.size
                  have HTK := Lib.hid htk
                  have HBL := Lib.hid hbel
                  clear hy htk hC hown hbel
                  go_wp2_with (at_builtin; refine wpList_append_txt _ rfl (.tmp 52) (.tmp 62) 22 rfl m0 5 i0 Tryd.underlying22 hi0 hz0 hz1 hz2 V _ _ rfl hown10 (some ⟨wr.heap.size, 0, none⟩) 1 [y.toUInt8] rfl ht10 hle10 hsz10 ?_)
                  intro v11 w11 hown11 hg11
                  have hb11 : Below m0 w5 w11 := (HBL.out.trans (hb10.mono (Nat.le_trans hm0' HBL.out.size))).grown hg11 hsz10 (fun k hk => (hown10.lt k hk).1)
                  have hown12 : w11.ownsRow m0 5 1 v11 (M.length + (8 - 6)) (Lib.byteCells (M ++ (be8 8 (8 * l.length)).take (8 - 6))) := by
                    rw [HTK.out, ← List.append_assoc, Lib.byteCells_append]
                    exact hown11
                  have O11 := Lib.hid hown12
                  have B11 := Lib.hid hb11
                  clear hown10 ht10 hown11 hg11 hb10 hle10 hsz10 hb11 hown12 hye hy8
                  go_wp2
                  refine ⟨⟨v11, 6, rfl, rfl, by decide, O11.out, B11.out⟩, ?_⟩
                  decide
                · rw [show ((8 : Nat) : Int) - 1 = 7 from rfl]
                  obtain ⟨y, hy⟩ : ∃ y, y = 8 * l.length / 72057594037927936 % 256 := ⟨_, rfl⟩
                  have hye : (l.length : Int) * 8 / 72057594037927936 = (y : Int) := by omega
                  have hy8 : y < 256 := by omega
                  have htk : (be8 8 (8 * l.length)).take (8 - 7) = (be8 8 (8 * l.length)).take (8 - 8) ++ [y.toUInt8] := by rw [hy]; exact be8_take (8 * l.length) 7 (by decide)
                  have hC : (#[.int .u8 (y : Int)] : Array Value) = (Lib.byteCells [y.toUInt8]).toArray := by
                    have e : ((y.toUInt8).toNat : Int) = (y : Int) := by rw [Lib.toUInt8_toNat hy8]
                    simp only [Lib.byteCells, List.map_cons, List.map_nil, e]
                  have hb10 : Below wr.heap.size wr (wr.alloc (.cells #[.int .u8 (y : Int)] 5)) := (Below.refl _ _).alloc (Nat.le_refl _) _
                  have ht10 := lit_txt wr [y.toUInt8] #[.int .u8 (y : Int)] hC 5 (0, 0)
                  have hown10 := own_below hown hb10
                  have hle10 : (M.length + (8 - 8)) + ([y.toUInt8] : List UInt8).length ≤ 140737488355328 := by simp; omega
                  have hsz10 : m0 ≤ (wr.alloc (.cells #[.int .u8 (y : Int)] 5)).heap.size := Nat.le_trans (Nat.le_trans hm0' hbel.size) hb10.size
                  have HTK := Lib.hid htk
                  have HBL := Lib.hid hbel
                  clear hy htk hC hown hbel
                  go_wp2_with (at_builtin; refine wpList_append_txt _ rfl (.tmp 52) (.tmp 62) 22 rfl m0 5 i0 Tryd.underlying22 hi0 hz0 hz1 hz2 V _ _ rfl hown10 (some ⟨wr.heap.size, 0, none⟩) 1 [y.toUInt8] rfl ht10 hle10 hsz10 ?_)
                  intro v11 w11 hown11 hg11
                  have hb11 : Below m0 w5 w11 := (HBL.out.trans (hb10.mono (Nat.le_trans hm0' HBL.out.size))).grown hg11 hsz10 (fun k hk => (hown10.lt k hk).1)
                  have hown12 : w11.ownsRow m0 5 1 v11 (M.length + (8 - 7)) (Lib.byteCells (M ++ (be8 8 (8 * l.length)).take (8 - 7))) := by
                    rw [HTK.out, Nat.sub_self, List.take_zero, List.nil_append, Lib.byteCells_append]
                    exact hown11
                  have O11 := Lib.hid hown12
                  have B11 := Lib.hid hb11
                  clear hown10 ht10 hown11 hg11 hb10 hle10 hsz10 hb11 hown12 hye hy8
                  go_wp2
                  refine ⟨⟨v11, 7, rfl, rfl, by decide, O11.out, B11.out⟩, ?_⟩
                  decide
end Go.Proofs.YtopchpaiehoilaaDoor
