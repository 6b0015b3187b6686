/-
  Texts that the statements stand on, part 5.
-/
import Derived.Test.YthlhogfebicooaaMd
import Derived.Lib.AppendZeros
import Derived.Deep.DeepCutAuto
import Derived.Deep.CutBlock
set_option linter.unusedVariables false
set_option linter.unusedSimpArgs false
namespace Go.Proofs.Ythlhogfebicooaa
open Go Go.RowKit
/-- A whole row read in a region that draws its order. -/
theorem wpStill_rowI {P : Program} {ops : Array Oper} {w : World} {Q : Act → Prop} {a : Act} {o : Oper} {rest : List Oper} (hgd : o.guard = none) (ty : TypeId) (x : Operand) (ho : o.op = .load ty x) (g : Nat) (hx : a.eval x = .pointer (some ⟨g, 0, none⟩)) (t : TypeId) (cs : Array Value) (fr : Nat × Nat) (d : TypeDesc) (hg : w.heap[g]? = some (.cells cs t fr))
    (hu : P.underlying ty = some d) (hd : (match d with | .struct _ | .array _ _ => true | _ => false) = true) (hi : (P.info? ty).map (·.size) = some cs.size)
    (h : wpStill P ops w Q rest (a.put o.dst (.agg cs))) : wpStill P ops w Q (o :: rest) a := by
  refine wpStill_step fun K hK => ?_
  have hw : Region.wanted o (yielded ops a.tmps) = true := by simp [Region.wanted, hgd]
  rw [if_pos hw]
  unfold Oper.still execOp
  simp only [ho, hx, Instr.loadAt, Instr.sureAddr, Sem.run_bind, Sem.run_pure, Result.andThen_ok, run_loadVar_row w g t ty cs fr d hg hu hd hi]
  exact ⟨rfl, hK _ h⟩
theorem early_all {g : List UInt8 → Bool} {e : Ex} (h : e.op.data.toList = [112, 114, 101] ∨ e.op.data.toList = [102, 98, 121] ∨ e.op.data.toList = [99, 97, 108, 108]) : earlyI g e = e.kids.any (lateI g) := by
  unfold earlyI namedI kidsI PREL
  rcases h with h | h | h <;> rw [h] <;> simp
theorem early_arrow {g : List UInt8 → Bool} {e : Ex} (h : e.op.data.toList = [45, 62]) : earlyI g e = (e.kids.take 1).any (lateI g) := by
  unfold earlyI namedI kidsI
  rw [h]; simp
theorem early_when {g : List UInt8 → Bool} {e : Ex} (h : e.op.data.toList = [119, 104, 101, 110]) : earlyI g e = g e.name.data.toList := by
  unfold earlyI namedI kidsI PREL
  rw [h]; simp
theorem early_merge {g : List UInt8 → Bool} {e : Ex} (h : e.op.data.toList = [109, 101, 114, 103, 101]) : earlyI g e = (g e.name.data.toList || e.kids.any (lateI g)) := by
  unfold earlyI namedI kidsI PREL
  rw [h]; simp
theorem early_other {g : List UInt8 → Bool} {e : Ex} (h1 : e.op.data.toList ≠ [45, 62]) (h2 : e.op.data.toList ≠ [112, 114, 101]) (h3 : e.op.data.toList ≠ [102, 98, 121]) (h4 : e.op.data.toList ≠ [99, 97, 108, 108]) (h5 : e.op.data.toList ≠ [119, 104, 101, 110]) (h6 : e.op.data.toList ≠ [109, 101, 114, 103, 101]) : earlyI g e = false := by
  unfold earlyI namedI kidsI PREL
  rw [if_neg h1, if_neg (by rintro (h | h | h | h) <;> contradiction), beq_eq_false_iff_ne.2 h5, beq_eq_false_iff_ne.2 h6]
  simp
set_option maxHeartbeats 4000000 in
set_option maxRecDepth 100000 in
theorem early_pre_any (w : World) (bl bw k : Nat) (g : List UInt8 → Bool) (hS : SetI w bl k g) (e : Ex) (hoe : okE e = true) (hfe : fewE e = true) (ok : Nat → Prop) (x : Option Addr) (c : Nat) (hkk : KidsD ok w e x c) (hop : e.op.data.toList = [112, 114, 101]) : Calls Try.prog 133 #[.agg #[.map (some bl), .map (some bw)], .agg #[.string e.op, .string e.name, .int .i64 e.n, .int .i64 (e.at_ : Int), .slice x e.kids.length c]] w (fun e' w' => e' = .returned (.bool (earlyI g e)) ∧ Below w.heap.size w w') := by
  rw [early_all (by rw [hop]; simp)]
  have HSC := Lib.hid size_ckI
  have HSE := Lib.hid size_eS
  have P1 := ((Fx.start w).alloc w.heap.size rfl 120 #[.map (some bl), .map (some bw)]).alloc (w.heap.size + 1) (by simp) 43 #[.string e.op, .string e.name, .int .i64 e.n, .int .i64 (e.at_ : Int), .slice x e.kids.length c]
  have c0 := cell_of_row _ (w.heap.size + 1) 0 _ _ _ (P1.get 1 rfl)
  have c1 := cell_of_row _ (w.heap.size + 1) 1 _ _ _ (P1.get 1 rfl)
  have c4 := cell_of_row _ (w.heap.size + 1) 4 _ _ _ (P1.get 1 rfl)
  have q0 := cell_of_row _ w.heap.size 0 _ _ _ (P1.get 0 rfl)
  have HL := Lib.hid (P1.get 0 rfl)
  have hoe' := hoe
  rw [okE_eq] at hoe'
  simp only [Bool.and_eq_true] at hoe'
  have hnm := okNm_le hoe'.2.1
  have hS1 := SetI.below hS P1.below
  have hk1 := IsD.below P1.below hkk
  have HB1 := Lib.hid P1.below
  have k0 : (e.op.toList == [45, 62]) = false := by rw [Lib.toList_data, hop]; rfl
  have k1 : (e.op.toList == [112, 114, 101]) = true := by rw [Lib.toList_data, hop]; rfl
  have k2 : (e.op.toList == [102, 98, 121]) = false := by rw [Lib.toList_data, hop]; rfl
  have k3 : (e.op.toList == [99, 97, 108, 108]) = false := by rw [Lib.toList_data, hop]; rfl
  have k4 : (e.op.toList == [119, 104, 101, 110]) = false := by rw [Lib.toList_data, hop]; rfl
  have k5 : (e.op.toList == [109, 101, 114, 103, 101]) = false := by rw [Lib.toList_data, hop]; rfl
  have ks := someLate_any ((w.alloc (.cells #[.map (some bl), .map (some bw)] 120)).alloc (.cells #[.string e.op, .string e.name, .int .i64 e.n, .int .i64 (e.at_ : Int), .slice x e.kids.length c] 43)) bl bw k g hS1 e hoe hfe ok x c hk1 e.kids.length (Nat.le_refl _)
  rw [List.take_length] at ks
  obtain ⟨q, hq⟩ : ∃ q, q = e.kids.any (lateI g) := ⟨_, rfl⟩
  rw [← hq] at ks ⊢
  clear P1 hoe' hnm hS1 hk1 hS hoe hfe hkk hop hq
  go_enter Try.func133, Try.ntmps133
  go_wp2_with (refine wpList_load_row rfl 120 (.tmp 2) rfl w.heap.size rfl 120 #[.map (some bl), .map (some bw)] (0, 0) _ ?_ Try.underlying120 rfl HSC.out ?_; (exact HL.out))
  (with_reducible refine ks.mono ?_)
  rintro e9 w2 ⟨rfl, hb⟩
  have HB2 := Lib.hid (HB1.out.trans (hb.mono HB1.out.size))
  clear ks hb c0 c1 c4 q0
  go_wp2_with fail
  go_ret
  exact ⟨rfl, HB2.out⟩
set_option maxHeartbeats 4000000 in
set_option maxRecDepth 100000 in
theorem early_fby_any (w : World) (bl bw k : Nat) (g : List UInt8 → Bool) (hS : SetI w bl k g) (e : Ex) (hoe : okE e = true) (hfe : fewE e = true) (ok : Nat → Prop) (x : Option Addr) (c : Nat) (hkk : KidsD ok w e x c) (hop : e.op.data.toList = [102, 98, 121]) : Calls Try.prog 133 #[.agg #[.map (some bl), .map (some bw)], .agg #[.string e.op, .string e.name, .int .i64 e.n, .int .i64 (e.at_ : Int), .slice x e.kids.length c]] w (fun e' w' => e' = .returned (.bool (earlyI g e)) ∧ Below w.heap.size w w') := by
  rw [early_all (by rw [hop]; simp)]
  have HSC := Lib.hid size_ckI
  have HSE := Lib.hid size_eS
  have P1 := ((Fx.start w).alloc w.heap.size rfl 120 #[.map (some bl), .map (some bw)]).alloc (w.heap.size + 1) (by simp) 43 #[.string e.op, .string e.name, .int .i64 e.n, .int .i64 (e.at_ : Int), .slice x e.kids.length c]
  have c0 := cell_of_row _ (w.heap.size + 1) 0 _ _ _ (P1.get 1 rfl)
  have c1 := cell_of_row _ (w.heap.size + 1) 1 _ _ _ (P1.get 1 rfl)
  have c4 := cell_of_row _ (w.heap.size + 1) 4 _ _ _ (P1.get 1 rfl)
  have q0 := cell_of_row _ w.heap.size 0 _ _ _ (P1.get 0 rfl)
  have HL := Lib.hid (P1.get 0 rfl)
  have hoe' := hoe
  rw [okE_eq] at hoe'
  simp only [Bool.and_eq_true] at hoe'
  have hnm := okNm_le hoe'.2.1
  have hS1 := SetI.below hS P1.below
  have hk1 := IsD.below P1.below hkk
  have HB1 := Lib.hid P1.below
  have k0 : (e.op.toList == [45, 62]) = false := by rw [Lib.toList_data, hop]; rfl
  have k1 : (e.op.toList == [112, 114, 101]) = false := by rw [Lib.toList_data, hop]; rfl
  have k2 : (e.op.toList == [102, 98, 121]) = true := by rw [Lib.toList_data, hop]; rfl
  have k3 : (e.op.toList == [99, 97, 108, 108]) = false := by rw [Lib.toList_data, hop]; rfl
  have k4 : (e.op.toList == [119, 104, 101, 110]) = false := by rw [Lib.toList_data, hop]; rfl
  have k5 : (e.op.toList == [109, 101, 114, 103, 101]) = false := by rw [Lib.toList_data, hop]; rfl
  have ks := someLate_any ((w.alloc (.cells #[.map (some bl), .map (some bw)] 120)).alloc (.cells #[.string e.op, .string e.name, .int .i64 e.n, .int .i64 (e.at_ : Int), .slice x e.kids.length c] 43)) bl bw k g hS1 e hoe hfe ok x c hk1 e.kids.length (Nat.le_refl _)
  rw [List.take_length] at ks
  obtain ⟨q, hq⟩ : ∃ q, q = e.kids.any (lateI g) := ⟨_, rfl⟩
  rw [← hq] at ks ⊢
  clear P1 hoe' hnm hS1 hk1 hS hoe hfe hkk hop hq
  go_enter Try.func133, Try.ntmps133
  go_wp2_with (refine wpList_load_row rfl 120 (.tmp 2) rfl w.heap.size rfl 120 #[.map (some bl), .map (some bw)] (0, 0) _ ?_ Try.underlying120 rfl HSC.out ?_; (exact HL.out))
  (with_reducible refine ks.mono ?_)
  rintro e9 w2 ⟨rfl, hb⟩
  have HB2 := Lib.hid (HB1.out.trans (hb.mono HB1.out.size))
  clear ks hb c0 c1 c4 q0
  go_wp2_with fail
  go_ret
  exact ⟨rfl, HB2.out⟩
set_option maxHeartbeats 4000000 in
set_option maxRecDepth 100000 in
theorem early_call_any (w : World) (bl bw k : Nat) (g : List UInt8 → Bool) (hS : SetI w bl k g) (e : Ex) (hoe : okE e = true) (hfe : fewE e = true) (ok : Nat → Prop) (x : Option Addr) (c : Nat) (hkk : KidsD ok w e x c) (hop : e.op.data.toList = [99, 97, 108, 108]) : Calls Try.prog 133 #[.agg #[.map (some bl), .map (some bw)], .agg #[.string e.op, .string e.name, .int .i64 e.n, .int .i64 (e.at_ : Int), .slice x e.kids.length c]] w (fun e' w' => e' = .returned (.bool (earlyI g e)) ∧ Below w.heap.size w w') := by
  rw [early_all (by rw [hop]; simp)]
  have HSC := Lib.hid size_ckI
  have HSE := Lib.hid size_eS
  have P1 := ((Fx.start w).alloc w.heap.size rfl 120 #[.map (some bl), .map (some bw)]).alloc (w.heap.size + 1) (by simp) 43 #[.string e.op, .string e.name, .int .i64 e.n, .int .i64 (e.at_ : Int), .slice x e.kids.length c]
  have c0 := cell_of_row _ (w.heap.size + 1) 0 _ _ _ (P1.get 1 rfl)
  have c1 := cell_of_row _ (w.heap.size + 1) 1 _ _ _ (P1.get 1 rfl)
  have c4 := cell_of_row _ (w.heap.size + 1) 4 _ _ _ (P1.get 1 rfl)
  have q0 := cell_of_row _ w.heap.size 0 _ _ _ (P1.get 0 rfl)
  have HL := Lib.hid (P1.get 0 rfl)
  have hoe' := hoe
  rw [okE_eq] at hoe'
  simp only [Bool.and_eq_true] at hoe'
  have hnm := okNm_le hoe'.2.1
  have hS1 := SetI.below hS P1.below
  have hk1 := IsD.below P1.below hkk
  have HB1 := Lib.hid P1.below
  have k0 : (e.op.toList == [45, 62]) = false := by rw [Lib.toList_data, hop]; rfl
  have k1 : (e.op.toList == [112, 114, 101]) = false := by rw [Lib.toList_data, hop]; rfl
  have k2 : (e.op.toList == [102, 98, 121]) = false := by rw [Lib.toList_data, hop]; rfl
  have k3 : (e.op.toList == [99, 97, 108, 108]) = true := by rw [Lib.toList_data, hop]; rfl
  have k4 : (e.op.toList == [119, 104, 101, 110]) = false := by rw [Lib.toList_data, hop]; rfl
  have k5 : (e.op.toList == [109, 101, 114, 103, 101]) = false := by rw [Lib.toList_data, hop]; rfl
  have ks := someLate_any ((w.alloc (.cells #[.map (some bl), .map (some bw)] 120)).alloc (.cells #[.string e.op, .string e.name, .int .i64 e.n, .int .i64 (e.at_ : Int), .slice x e.kids.length c] 43)) bl bw k g hS1 e hoe hfe ok x c hk1 e.kids.length (Nat.le_refl _)
  rw [List.take_length] at ks
  obtain ⟨q, hq⟩ : ∃ q, q = e.kids.any (lateI g) := ⟨_, rfl⟩
  rw [← hq] at ks ⊢
  clear P1 hoe' hnm hS1 hk1 hS hoe hfe hkk hop hq
  go_enter Try.func133, Try.ntmps133
  go_wp2_with (refine wpList_load_row rfl 120 (.tmp 2) rfl w.heap.size rfl 120 #[.map (some bl), .map (some bw)] (0, 0) _ ?_ Try.underlying120 rfl HSC.out ?_; (exact HL.out))
  (with_reducible refine ks.mono ?_)
  rintro e9 w2 ⟨rfl, hb⟩
  have HB2 := Lib.hid (HB1.out.trans (hb.mono HB1.out.size))
  clear ks hb c0 c1 c4 q0
  go_wp2_with fail
  go_ret
  exact ⟨rfl, HB2.out⟩
set_option maxHeartbeats 4000000 in
set_option maxRecDepth 100000 in
theorem early_when_any (w : World) (bl bw k : Nat) (g : List UInt8 → Bool) (hS : SetI w bl k g) (e : Ex) (hoe : okE e = true) (hfe : fewE e = true) (ok : Nat → Prop) (x : Option Addr) (c : Nat) (hkk : KidsD ok w e x c) (hop : e.op.data.toList = [119, 104, 101, 110]) : Calls Try.prog 133 #[.agg #[.map (some bl), .map (some bw)], .agg #[.string e.op, .string e.name, .int .i64 e.n, .int .i64 (e.at_ : Int), .slice x e.kids.length c]] w (fun e' w' => e' = .returned (.bool (earlyI g e)) ∧ Below w.heap.size w w') := by
  rw [early_when hop]
  have HSC := Lib.hid size_ckI
  have HSE := Lib.hid size_eS
  have P1 := ((Fx.start w).alloc w.heap.size rfl 120 #[.map (some bl), .map (some bw)]).alloc (w.heap.size + 1) (by simp) 43 #[.string e.op, .string e.name, .int .i64 e.n, .int .i64 (e.at_ : Int), .slice x e.kids.length c]
  have c0 := cell_of_row _ (w.heap.size + 1) 0 _ _ _ (P1.get 1 rfl)
  have c1 := cell_of_row _ (w.heap.size + 1) 1 _ _ _ (P1.get 1 rfl)
  have c4 := cell_of_row _ (w.heap.size + 1) 4 _ _ _ (P1.get 1 rfl)
  have q0 := cell_of_row _ w.heap.size 0 _ _ _ (P1.get 0 rfl)
  have HL := Lib.hid (P1.get 0 rfl)
  have hoe' := hoe
  rw [okE_eq] at hoe'
  simp only [Bool.and_eq_true] at hoe'
  have hnm := okNm_le hoe'.2.1
  have hS1 := SetI.below hS P1.below
  have hk1 := IsD.below P1.below hkk
  have HB1 := Lib.hid P1.below
  have k0 : (e.op.toList == [45, 62]) = false := by rw [Lib.toList_data, hop]; rfl
  have k1 : (e.op.toList == [112, 114, 101]) = false := by rw [Lib.toList_data, hop]; rfl
  have k2 : (e.op.toList == [102, 98, 121]) = false := by rw [Lib.toList_data, hop]; rfl
  have k3 : (e.op.toList == [99, 97, 108, 108]) = false := by rw [Lib.toList_data, hop]; rfl
  have k4 : (e.op.toList == [119, 104, 101, 110]) = true := by rw [Lib.toList_data, hop]; rfl
  have k5 : (e.op.toList == [109, 101, 114, 103, 101]) = false := by rw [Lib.toList_data, hop]; rfl
  have kh := hasI_any ((w.alloc (.cells #[.map (some bl), .map (some bw)] 120)).alloc (.cells #[.string e.op, .string e.name, .int .i64 e.n, .int .i64 (e.at_ : Int), .slice x e.kids.length c] 43)) bl k g hS1 e.name hnm
  obtain ⟨q, hq⟩ : ∃ q, q = g e.name.data.toList := ⟨_, rfl⟩
  rw [← hq] at kh ⊢
  clear P1 hoe' hnm hS1 hk1 hS hoe hfe hkk hop hq
  go_enter Try.func133, Try.ntmps133
  go_wp2_with fail
  (with_reducible refine kh.mono ?_)
  rintro e9 w2 ⟨rfl, hb⟩
  have HB2 := Lib.hid (HB1.out.trans (hb.mono HB1.out.size))
  clear kh hb c0 c1 c4 q0
  go_wp2_with fail
  go_ret
  exact ⟨rfl, HB2.out⟩
set_option maxHeartbeats 4000000 in
set_option maxRecDepth 100000 in
theorem early_merge_any (w : World) (bl bw k : Nat) (g : List UInt8 → Bool) (hS : SetI w bl k g) (e : Ex) (hoe : okE e = true) (hfe : fewE e = true) (ok : Nat → Prop) (x : Option Addr) (c : Nat) (hkk : KidsD ok w e x c) (hop : e.op.data.toList = [109, 101, 114, 103, 101]) : Calls Try.prog 133 #[.agg #[.map (some bl), .map (some bw)], .agg #[.string e.op, .string e.name, .int .i64 e.n, .int .i64 (e.at_ : Int), .slice x e.kids.length c]] w (fun e' w' => e' = .returned (.bool (earlyI g e)) ∧ Below w.heap.size w w') := by
  rw [early_merge hop]
  have HSC := Lib.hid size_ckI
  have HSE := Lib.hid size_eS
  have P1 := ((Fx.start w).alloc w.heap.size rfl 120 #[.map (some bl), .map (some bw)]).alloc (w.heap.size + 1) (by simp) 43 #[.string e.op, .string e.name, .int .i64 e.n, .int .i64 (e.at_ : Int), .slice x e.kids.length c]
  have c0 := cell_of_row _ (w.heap.size + 1) 0 _ _ _ (P1.get 1 rfl)
  have c1 := cell_of_row _ (w.heap.size + 1) 1 _ _ _ (P1.get 1 rfl)
  have c4 := cell_of_row _ (w.heap.size + 1) 4 _ _ _ (P1.get 1 rfl)
  have q0 := cell_of_row _ w.heap.size 0 _ _ _ (P1.get 0 rfl)
  have HL := Lib.hid (P1.get 0 rfl)
  have hoe' := hoe
  rw [okE_eq] at hoe'
  simp only [Bool.and_eq_true] at hoe'
  have hnm := okNm_le hoe'.2.1
  have hS1 := SetI.below hS P1.below
  have hk1 := IsD.below P1.below hkk
  have HB1 := Lib.hid P1.below
  have k0 : (e.op.toList == [45, 62]) = false := by rw [Lib.toList_data, hop]; rfl
  have k1 : (e.op.toList == [112, 114, 101]) = false := by rw [Lib.toList_data, hop]; rfl
  have k2 : (e.op.toList == [102, 98, 121]) = false := by rw [Lib.toList_data, hop]; rfl
  have k3 : (e.op.toList == [99, 97, 108, 108]) = false := by rw [Lib.toList_data, hop]; rfl
  have k4 : (e.op.toList == [119, 104, 101, 110]) = false := by rw [Lib.toList_data, hop]; rfl
  have k5 : (e.op.toList == [109, 101, 114, 103, 101]) = true := by rw [Lib.toList_data, hop]; rfl
  have kh := hasI_any ((w.alloc (.cells #[.map (some bl), .map (some bw)] 120)).alloc (.cells #[.string e.op, .string e.name, .int .i64 e.n, .int .i64 (e.at_ : Int), .slice x e.kids.length c] 43)) bl k g hS1 e.name hnm
  obtain ⟨q, hq⟩ : ∃ q, q = g e.name.data.toList := ⟨_, rfl⟩
  obtain ⟨y, hy⟩ : ∃ y, y = e.kids.any (lateI g) := ⟨_, rfl⟩
  have HY := Lib.hid hy
  rw [← hq, ← hy]
  rw [← hq] at kh
  have HS1 := Lib.hid hS1
  have HK1 := Lib.hid hk1
  have HOE := Lib.hid hoe
  have HFE := Lib.hid hfe
  have HP1 := Lib.hid P1
  clear P1 hoe' hnm hS1 hk1 hS hoe hfe hkk hop hq hy
  cases q with
  | true =>
    go_enter Try.func133, Try.ntmps133
    go_wp2_with fail
    (with_reducible refine kh.mono ?_)
    rintro e9 w2 ⟨rfl, hb⟩
    have HB2 := Lib.hid (HB1.out.trans (hb.mono HB1.out.size))
    clear kh hb c0 c1 c4 q0
    go_wp2_with fail
    go_ret
    exact ⟨rfl, HB2.out⟩
  | false =>
    go_enter Try.func133, Try.ntmps133
    go_wp2_with fail
    (with_reducible refine kh.mono ?_)
    rintro e9 w2 ⟨rfl, hb⟩
    have P2 := HP1.out.call hb
    have ks := someLate_any w2 bl bw k g (SetI.below HS1.out hb) e HOE.out HFE.out ok x c (IsD.below hb HK1.out) e.kids.length (Nat.le_refl _)
    rw [List.take_length, ← HY.out] at ks
    have d4 := cell_of_row _ (w.heap.size + 1) 4 _ _ _ (P2.get 1 rfl)
    have HL2 := Lib.hid (P2.get 0 rfl)
    have HB2 := Lib.hid P2.below
    clear kh hb c0 c1 c4 q0 P2
    go_wp2_with (refine wpList_load_row_g 5 false rfl rfl 120 (.tmp 2) rfl w.heap.size rfl 120 #[.map (some bl), .map (some bw)] (0, 0) _ ?_ Try.underlying120 rfl HSC.out ?_; (exact HL2.out))
    (with_reducible refine ks.mono ?_)
    rintro e9 w3 ⟨rfl, hb⟩
    have HB3 := Lib.hid (HB2.out.trans (hb.mono HB2.out.size))
    clear ks hb d4
    go_wp2_with fail
    go_ret
    exact ⟨rfl, HB3.out⟩
set_option maxHeartbeats 4000000 in
set_option maxRecDepth 100000 in
theorem early_other_any (w : World) (bl bw k : Nat) (g : List UInt8 → Bool) (hS : SetI w bl k g) (e : Ex) (hoe : okE e = true) (hfe : fewE e = true) (ok : Nat → Prop) (x : Option Addr) (c : Nat) (hkk : KidsD ok w e x c) (h1 : e.op.data.toList ≠ [45, 62]) (h2 : e.op.data.toList ≠ [112, 114, 101]) (h3 : e.op.data.toList ≠ [102, 98, 121]) (h4 : e.op.data.toList ≠ [99, 97, 108, 108]) (h5 : e.op.data.toList ≠ [119, 104, 101, 110]) (h6 : e.op.data.toList ≠ [109, 101, 114, 103, 101]) : Calls Try.prog 133 #[.agg #[.map (some bl), .map (some bw)], .agg #[.string e.op, .string e.name, .int .i64 e.n, .int .i64 (e.at_ : Int), .slice x e.kids.length c]] w (fun e' w' => e' = .returned (.bool (earlyI g e)) ∧ Below w.heap.size w w') := by
  rw [early_other h1 h2 h3 h4 h5 h6]
  have HSC := Lib.hid size_ckI
  have HSE := Lib.hid size_eS
  have P1 := ((Fx.start w).alloc w.heap.size rfl 120 #[.map (some bl), .map (some bw)]).alloc (w.heap.size + 1) (by simp) 43 #[.string e.op, .string e.name, .int .i64 e.n, .int .i64 (e.at_ : Int), .slice x e.kids.length c]
  have c0 := cell_of_row _ (w.heap.size + 1) 0 _ _ _ (P1.get 1 rfl)
  have c1 := cell_of_row _ (w.heap.size + 1) 1 _ _ _ (P1.get 1 rfl)
  have c4 := cell_of_row _ (w.heap.size + 1) 4 _ _ _ (P1.get 1 rfl)
  have q0 := cell_of_row _ w.heap.size 0 _ _ _ (P1.get 0 rfl)
  have HL := Lib.hid (P1.get 0 rfl)
  have hoe' := hoe
  rw [okE_eq] at hoe'
  simp only [Bool.and_eq_true] at hoe'
  have hnm := okNm_le hoe'.2.1
  have hS1 := SetI.below hS P1.below
  have hk1 := IsD.below P1.below hkk
  have HB1 := Lib.hid P1.below
  have k0 : (e.op.toList == [45, 62]) = false := by rw [Lib.toList_data]; exact beq_eq_false_iff_ne.2 h1
  have k1 : (e.op.toList == [112, 114, 101]) = false := by rw [Lib.toList_data]; exact beq_eq_false_iff_ne.2 h2
  have k2 : (e.op.toList == [102, 98, 121]) = false := by rw [Lib.toList_data]; exact beq_eq_false_iff_ne.2 h3
  have k3 : (e.op.toList == [99, 97, 108, 108]) = false := by rw [Lib.toList_data]; exact beq_eq_false_iff_ne.2 h4
  have k4 : (e.op.toList == [119, 104, 101, 110]) = false := by rw [Lib.toList_data]; exact beq_eq_false_iff_ne.2 h5
  have k5 : (e.op.toList == [109, 101, 114, 103, 101]) = false := by rw [Lib.toList_data]; exact beq_eq_false_iff_ne.2 h6
  clear P1 hoe' hnm hS1 hk1 hS hoe hfe hkk h1 h2 h3 h4 h5 h6 c1 c4 q0
  go_enter Try.func133, Try.ntmps133
  go_wp2_with fail
  go_ret
  exact ⟨rfl, HB1.out⟩
set_option maxHeartbeats 4000000 in
set_option maxRecDepth 100000 in
theorem early_arrow_any (w : World) (bl bw k : Nat) (g : List UInt8 → Bool) (hS : SetI w bl k g) (e : Ex) (hoe : okE e = true) (hfe : fewE e = true) (ok : Nat → Prop) (x : Option Addr) (c : Nat) (hkk : KidsD ok w e x c) (hop : e.op.data.toList = [45, 62]) : Calls Try.prog 133 #[.agg #[.map (some bl), .map (some bw)], .agg #[.string e.op, .string e.name, .int .i64 e.n, .int .i64 (e.at_ : Int), .slice x e.kids.length c]] w (fun e' w' => e' = .returned (.bool (earlyI g e)) ∧ Below w.heap.size w w') := by
  rw [early_arrow hop]
  have HSC := Lib.hid size_ckI
  have HSE := Lib.hid size_eS
  have P1 := ((Fx.start w).alloc w.heap.size rfl 120 #[.map (some bl), .map (some bw)]).alloc (w.heap.size + 1) (by simp) 43 #[.string e.op, .string e.name, .int .i64 e.n, .int .i64 (e.at_ : Int), .slice x e.kids.length c]
  have c0 := cell_of_row _ (w.heap.size + 1) 0 _ _ _ (P1.get 1 rfl)
  have c1 := cell_of_row _ (w.heap.size + 1) 1 _ _ _ (P1.get 1 rfl)
  have c4 := cell_of_row _ (w.heap.size + 1) 4 _ _ _ (P1.get 1 rfl)
  have q0 := cell_of_row _ w.heap.size 0 _ _ _ (P1.get 0 rfl)
  have HL := Lib.hid (P1.get 0 rfl)
  have hoe' := hoe
  rw [okE_eq] at hoe'
  simp only [Bool.and_eq_true] at hoe'
  have hnm := okNm_le hoe'.2.1
  have hS1 := SetI.below hS P1.below
  have hk1 := IsD.below P1.below hkk
  have HB1 := Lib.hid P1.below
  have k0 : (e.op.toList == [45, 62]) = true := by rw [Lib.toList_data, hop]; rfl
  have k1 : (e.op.toList == [112, 114, 101]) = false := by rw [Lib.toList_data, hop]; rfl
  have k2 : (e.op.toList == [102, 98, 121]) = false := by rw [Lib.toList_data, hop]; rfl
  have k3 : (e.op.toList == [99, 97, 108, 108]) = false := by rw [Lib.toList_data, hop]; rfl
  have k4 : (e.op.toList == [119, 104, 101, 110]) = false := by rw [Lib.toList_data, hop]; rfl
  have k5 : (e.op.toList == [109, 101, 114, 103, 101]) = false := by rw [Lib.toList_data, hop]; rfl
  obtain ⟨m, hm⟩ : ∃ m, m = min 1 e.kids.length := ⟨_, rfl⟩
  have hmt : e.kids.take m = e.kids.take 1 := by
    rw [hm]
    cases e.kids with
    | nil => rfl
    | cons a r => simp
  have ks := fun (W : World) (hb : Below ((w.alloc (.cells #[.map (some bl), .map (some bw)] 120)).alloc (.cells #[.string e.op, .string e.name, .int .i64 e.n, .int .i64 (e.at_ : Int), .slice x e.kids.length c] 43)).heap.size ((w.alloc (.cells #[.map (some bl), .map (some bw)] 120)).alloc (.cells #[.string e.op, .string e.name, .int .i64 e.n, .int .i64 (e.at_ : Int), .slice x e.kids.length c] 43)) W) => someLate_any W bl bw k g (SetI.below hS1 hb) e hoe hfe ok x c (IsD.below hb hk1) m (by rw [hm]; exact Nat.min_le_right _ _)
  rw [hmt] at ks
  obtain ⟨q, hq⟩ : ∃ q, q = (e.kids.take 1).any (lateI g) := ⟨_, rfl⟩
  rw [← hq] at ks ⊢
  have HM := Lib.hid hm
  obtain ⟨w1, hw1⟩ : ∃ w1, w1 = ((w.alloc (.cells #[.map (some bl), .map (some bw)] 120)).alloc (.cells #[.string e.op, .string e.name, .int .i64 e.n, .int .i64 (e.at_ : Int), .slice x e.kids.length c] 43)) := ⟨_, rfl⟩
  have HW1 := Lib.hid hw1
  have d4 : w1.cell? ⟨w.heap.size + 1, 4, none⟩ = some (.slice x e.kids.length c) := by rw [hw1]; exact c4
  rw [← hw1] at P1 ks
  have HP1 := Lib.hid P1
  have KS := Lib.hid ks
  have HS1 := Lib.hid hS1
  have HK1 := Lib.hid hk1
  have HCC := Lib.hid (show e.kids.length ≤ c by obtain ⟨x', c', e1, e2, _⟩ := IsD.slice hkk; injection e1 with _ _ e1; subst e1; exact e2)
  have HL := Lib.hid (P1.get 0 rfl)
  clear hw1 c1 c4 q0
  clear P1 hoe' hnm hS1 hk1 hS hoe hfe hkk hop hq hm hmt ks
  go_enter Try.func133, Try.ntmps133
  go_upto_region 3 with fail
  rw [← HW1.out]
  clear c0
  refine wp_region_still_tail 8 (by kernel_rfl) (by kernel_rfl) ?_
  simp only [List.take_succ_cons, List.take_zero, List.drop_succ_cons, List.drop_zero]
  refine wpStill_rowI rfl 120 (.tmp 2) rfl w.heap.size rfl 120 #[.map (some bl), .map (some bw)] (0, 0) _ HL.out Try.underlying120 rfl HSC.out ?_
  iterate 5 still_step
  have hcc : e.kids.length ≤ c := HCC.out
  rcases Nat.eq_zero_or_pos e.kids.length with hz | hp
  · have hz' : (e.kids.length : Int) = 0 := by omega
    have hm0 : m = 0 := by rw [HM.out, hz]; rfl
    still_step
    cases x with
    | none =>
      still_step
      refine wpStill_nil ?_
      change wpList _ _ _ _ _ w1.drew
      have k9 := KS.out w1.drew (Below.refl _ _).drew
      rw [hm0] at k9
      clear hz hz' hm0 hcc d4 HM
      go_wp2_with fail
      (with_reducible refine k9.mono ?_)
      rintro e9 w2 ⟨rfl, hb⟩
      have HB2 := Lib.hid (HP1.out.below.trans (((Below.refl w1.heap.size w1).drew.trans hb).mono HP1.out.below.size))
      clear k9 hb
      go_wp2_with fail
      go_ret
      exact ⟨rfl, HB2.out⟩
    | some ax =>
      still_step
      refine wpStill_nil ?_
      change wpList _ _ _ _ _ w1.drew
      have k9 := KS.out w1.drew (Below.refl _ _).drew
      rw [hm0] at k9
      clear hz hz' hm0 hcc d4 HM
      go_wp2_with fail
      (with_reducible refine k9.mono ?_)
      rintro e9 w2 ⟨rfl, hb⟩
      have HB2 := Lib.hid (HP1.out.below.trans (((Below.refl w1.heap.size w1).drew.trans hb).mono HP1.out.below.size))
      clear k9 hb
      go_wp2_with fail
      go_ret
      exact ⟨rfl, HB2.out⟩
  · have hp1 : ¬ ((e.kids.length : Int) < 1) := by omega
    have hp2 : (1 : Int) ≤ (e.kids.length : Int) := by omega
    have hp3 : (1 : Int) ≤ (c : Int) := by omega
    have hm1 : m = 1 := by rw [HM.out]; omega
    obtain ⟨gx, rfl⟩ : ∃ gx : Nat, x = some ⟨gx, 0, none⟩ := by
      obtain ⟨gx, e1, _⟩ := KidsD.at_ HK1.out 0 hp
      exact ⟨gx, e1⟩
    still_step
    still_step
    refine wpStill_nil ?_
    change wpList _ _ _ _ _ w1.drew
    have k9 := KS.out w1.drew (Below.refl _ _).drew
    rw [hm1] at k9
    clear hp hp1 hp2 hp3 hm1 hcc d4 HM
    go_wp2_with fail
    (with_reducible refine k9.mono ?_)
    rintro e9 w2 ⟨rfl, hb⟩
    have HB2 := Lib.hid (HP1.out.below.trans (((Below.refl w1.heap.size w1).drew.trans hb).mono HP1.out.below.size))
    clear k9 hb
    go_wp2_with fail
    go_ret
    exact ⟨rfl, HB2.out⟩
set_option maxHeartbeats 4000000 in
set_option maxRecDepth 100000 in
theorem isEarly_any (w : World) (bl bw k : Nat) (g : List UInt8 → Bool) (hS : SetI w bl k g) (e : Ex) (hoe : okE e = true) (hfe : fewE e = true) (ok : Nat → Prop) (x : Option Addr) (c : Nat) (hkk : KidsD ok w e x c) : Calls Try.prog 133 #[.agg #[.map (some bl), .map (some bw)], exV e x c] w (fun e' w' => e' = .returned (.bool (earlyI g e)) ∧ Below w.heap.size w w') := by
  unfold exV
  by_cases h1 : e.op.data.toList = [45, 62]
  · exact early_arrow_any w bl bw k g hS e hoe hfe ok x c hkk h1
  by_cases h2 : e.op.data.toList = [112, 114, 101]
  · exact early_pre_any w bl bw k g hS e hoe hfe ok x c hkk h2
  by_cases h3 : e.op.data.toList = [102, 98, 121]
  · exact early_fby_any w bl bw k g hS e hoe hfe ok x c hkk h3
  by_cases h4 : e.op.data.toList = [99, 97, 108, 108]
  · exact early_call_any w bl bw k g hS e hoe hfe ok x c hkk h4
  by_cases h5 : e.op.data.toList = [119, 104, 101, 110]
  · exact early_when_any w bl bw k g hS e hoe hfe ok x c hkk h5
  by_cases h6 : e.op.data.toList = [109, 101, 114, 103, 101]
  · exact early_merge_any w bl bw k g hS e hoe hfe ok x c hkk h6
  exact early_other_any w bl bw k g hS e hoe hfe ok x c hkk h1 h2 h3 h4 h5 h6
end Go.Proofs.Ythlhogfebicooaa

namespace Go.Proofs.Ythlhogfebicooaa
open Go Go.RowKit
theorem partsI_skip {g : List UInt8 → Bool} {e : Ex} {r : List Ex} (h : partI g e = none) : partsI g (e :: r) = partsI g r := by
  conv => lhs; unfold partsI
  rw [h]
theorem partsI_hit {g : List UInt8 → Bool} {e : Ex} {r : List Ex} {a : Nat} (h : partI g e = some a) : partsI g (e :: r) = some a := by
  unfold partsI
  rw [h]
set_option maxHeartbeats 4000000 in
set_option maxRecDepth 100000 in
theorem partI_lt (g : List UInt8 → Bool) : ∀ (d : Nat) (e : Ex), SizeOf.sizeOf e < d → okE e = true → fewE e = true → ∀ (w : World) (bl bw k : Nat) (ok : Nat → Prop) (x : Option Addr) (c : Nat), SetI w bl k g → KidsD ok w e x c → Calls Try.prog 98 #[.agg #[.map (some bl), .map (some bw)], exV e x c] w (GivesO 11 (partI g e) w) := by
  intro d
  induction d with
  | zero => intro e h; omega
  | succ d ih =>
    intro e hd hoe hfe w bl bw k ok x c hS hkk
    have hoe' := hoe
    rw [okE_eq] at hoe'
    simp only [Bool.and_eq_true] at hoe'
    have HOE := Lib.hid hoe
    have HFE := Lib.hid hfe
    have IH := Lib.hid (fun (i : Nat) (hi : i < e.kids.length) => ih e.kids[i] (by have := kid_less hi; omega) (okEs_at _ i hi hoe'.2.2) (fewE_kid hfe i hi))
    have HKK := Lib.hid hkk
    have HS := Lib.hid hS
    have HSE := Lib.hid size_eS
    have HSC := Lib.hid size_ckI
    have HSF := Lib.hid size_flt
    have F0 := (((Fx.start w).alloc (w.heap.size) rfl 120 #[.map (some bl), .map (some bw)]).alloc (w.heap.size + 1) (by simp) 43 #[.string e.op, .string e.name, .int .i64 e.n, .int .i64 (e.at_ : Int), .slice x e.kids.length c]).alloc (w.heap.size + 1 + 1) (by simp) 32 #[.int .i64 0, .int .i64 0]
    have c4 := cell_of_row _ (w.heap.size + 1) 4 _ _ _ (F0.get 1 rfl)
    have HF0 : Hid (Fx w [(w.heap.size, 120, #[.map (some bl), .map (some bw)]), (w.heap.size + 1, 43, #[.string e.op, .string e.name, .int .i64 e.n, .int .i64 (e.at_ : Int), .slice x e.kids.length c]), (w.heap.size + 1 + 1, 32, #[.int .i64 0, .int .i64 0])] _) := Lib.hid F0
    obtain ⟨R, hR⟩ : ∃ R, R = partI g e := ⟨_, rfl⟩
    rw [← hR]
    rw [partI_eq] at hR
    have HRR := Lib.hid hR
    clear hkk ih hd F0 hS hR hoe hfe hoe'
    unfold exV
    go_enter Try.func98, Try.ntmps98
    go_wp2_with fail
    go_loopw [11] (fun v11 wr => ∃ (i : Nat), v11 = .int .i64 (i : Int) ∧ i ≤ e.kids.length ∧ Fx w [(w.heap.size, 120, #[.map (some bl), .map (some bw)]), (w.heap.size + 1, 43, #[.string e.op, .string e.name, .int .i64 e.n, .int .i64 (e.at_ : Int), .slice x e.kids.length c]), (w.heap.size + 1 + 1, 32, #[.int .i64 0, .int .i64 0])] wr ∧ partsI g e.kids = partsI g (e.kids.drop i))
      (fun v11 _ => e.kids.length - (intOf v11).toNat)
    case atStart => exact ⟨0, rfl, Nat.zero_le _, HF0.out, rfl⟩
    case round =>
      clear HF0 c4
      obtain ⟨i, rfl, hi, hF, hq⟩ := hrel
      have HF := Lib.hid hF
      have HI_ := Lib.hid hi
      clear hF hi
      by_cases hil : i < e.kids.length
      · have d1 : decide ((i : Int) < (e.kids.length : Int)) = true := by simp; omega
        have HIL := Lib.hid hil
        rw [List.drop_eq_getElem_cons hil] at hq
        obtain ⟨ek, hek⟩ : ∃ ek, ek = e.kids[i]'HIL.out := ⟨_, rfl⟩
        obtain ⟨g1, rfl, hg1, xk, ck, hrg, hkk⟩ := HKK.out.at_ i HIL.out
        have ih := IH.out i HIL.out
        rw [← hek] at hrg hkk ih hq
        have HRK := Lib.hid (rangeAt_below hrg HF.out.below hg1)
        have HAL := Lib.hid (heap_alloc_new wr (.cells #[.string ⟨#[]⟩, .string ⟨#[]⟩, .int .i64 0, .int .i64 0, .slice none 0 0] 43))
        obtain ⟨hnb, hnr⟩ := new_row wr 43 #[.string ⟨#[]⟩, .string ⟨#[]⟩, .int .i64 0, .int .i64 0, .slice none 0 0] #[.string ek.op, .string ek.name, .int .i64 ek.n, .int .i64 (ek.at_ : Int), .slice xk ek.kids.length ck]
        have HF1 := Lib.hid (HF.out.call hnb)
        have HN1 := Lib.hid hnr
        have HL0 := Lib.hid (HF1.out.get 0 rfl)
        have kk := ih ((wr.alloc (.cells #[.string ⟨#[]⟩, .string ⟨#[]⟩, .int .i64 0, .int .i64 0, .slice none 0 0] 43)).setRow wr.heap.size #[.string ek.op, .string ek.name, .int .i64 ek.n, .int .i64 (ek.at_ : Int), .slice xk ek.kids.length ck]) bl bw k ok xk ck (SetI.below HS.out HF1.out.below) (IsD.below HF1.out.below hkk)
        unfold exV GivesO at kk
        have HQ := Lib.hid hq
        have i0 : (0 : Int) ≤ (i : Int) := by omega
        have i1 : (i : Int) < (e.kids.length : Int) := by omega
        clear hil hrg hkk hg1 hnb hnr ih hq hek
        cases hp : partI g ek with
        | none =>
          have HQ2 := Lib.hid (show partsI g e.kids = partsI g (e.kids.drop (i + 1)) by rw [HQ.out, partsI_skip hp])
          rw [hp] at kk
          have kk2 : Calls Try.prog 98 #[.agg #[.map (some bl), .map (some bw)], .agg #[.string ek.op, .string ek.name, .int .i64 ek.n, .int .i64 (ek.at_ : Int), .slice xk ek.kids.length ck]] ((wr.alloc (.cells #[.string ⟨#[]⟩, .string ⟨#[]⟩, .int .i64 0, .int .i64 0, .slice none 0 0] 43)).setRow wr.heap.size #[.string ek.op, .string ek.name, .int .i64 ek.n, .int .i64 (ek.at_ : Int), .slice xk ek.kids.length ck]) (fun e w' => e = .returned (.agg #[.int .i64 0, .int .i64 0]) ∧ Below ((wr.alloc (.cells #[.string ⟨#[]⟩, .string ⟨#[]⟩, .int .i64 0, .int .i64 0, .slice none 0 0] 43)).setRow wr.heap.size #[.string ek.op, .string ek.name, .int .i64 ek.n, .int .i64 (ek.at_ : Int), .slice xk ek.kids.length ck]).heap.size ((wr.alloc (.cells #[.string ⟨#[]⟩, .string ⟨#[]⟩, .int .i64 0, .int .i64 0, .slice none 0 0] 43)).setRow wr.heap.size #[.string ek.op, .string ek.name, .int .i64 ek.n, .int .i64 (ek.at_ : Int), .slice xk ek.kids.length ck]) w') := kk
          clear kk hp
          go_wp2_with (first | (refine wpList_load_mid rfl 43 (.tmp 13) rfl g1 (i * 5) rfl (exC ek xk ck) _ ?_ Try.underlying43 rfl HSE.out ?_; (exact HRK.out)) | (refine wpList_store_row rfl 43 (.tmp 6) (.tmp 14) rfl wr.heap.size #[.string ek.op, .string ek.name, .int .i64 ek.n, .int .i64 (ek.at_ : Int), .slice xk ek.kids.length ck] rfl rfl 43 #[.string ⟨#[]⟩, .string ⟨#[]⟩, .int .i64 0, .int .i64 0, .slice none 0 0] ?_ HSE.out rfl (e4_one _ _ _ _ _ _ _) ?_; (exact HAL.out)) | (refine wpList_load_row rfl 120 (.tmp 2) rfl (w.heap.size) rfl 120 #[.map (some bl), .map (some bw)] (0, 0) _ ?_ Try.underlying120 rfl HSC.out ?_; (exact HL0.out)) | (refine wpList_load_row rfl 43 (.tmp 6) rfl (wr.heap.size) rfl 43 #[.string ek.op, .string ek.name, .int .i64 ek.n, .int .i64 (ek.at_ : Int), .slice xk ek.kids.length ck] (0, 0) _ ?_ Try.underlying43 rfl HSE.out ?_; (exact HN1.out)))
          (with_reducible refine kk2.mono ?_)
          rintro e9 w2 ⟨rfl, hb⟩
          have F2 := HF1.out.call hb
          have HAF := Lib.hid (heap_alloc_new w2 (.cells #[.int .i64 0, .int .i64 0] 32))
          obtain ⟨hnb, hnr⟩ := new_row w2 32 #[.int .i64 0, .int .i64 0] #[.int .i64 0, .int .i64 0]
          have q0 := cell_of_row _ w2.heap.size 0 _ _ _ hnr
          have HF3 := Lib.hid (F2.call hnb)
          clear kk2 hb F2 hnb hnr
          go_wp2_with (refine wpList_store_row rfl 32 (.tmp 7) (.tmp 17) rfl (w2.heap.size) #[.int .i64 0, .int .i64 0] rfl rfl 32 #[.int .i64 0, .int .i64 0] ?_ HSF.out rfl (fault_one _ _) ?_; (exact HAF.out))
          refine ⟨⟨i + 1, wrap_succ (by have := HIL.out; have := IsD.few HKK.out; omega), HIL.out, HF3.out, HQ2.out⟩, ?_⟩
          rw [wrap_succ (by have := HIL.out; have := IsD.few HKK.out; omega)]
          have := HIL.out
          simp [intOf]; omega
        | some a =>
          have HR2 := Lib.hid (show R = some a by rw [HRR.out, HQ.out, partsI_hit hp])
          rw [hp] at kk
          have kk2 : Calls Try.prog 98 #[.agg #[.map (some bl), .map (some bw)], .agg #[.string ek.op, .string ek.name, .int .i64 ek.n, .int .i64 (ek.at_ : Int), .slice xk ek.kids.length ck]] ((wr.alloc (.cells #[.string ⟨#[]⟩, .string ⟨#[]⟩, .int .i64 0, .int .i64 0, .slice none 0 0] 43)).setRow wr.heap.size #[.string ek.op, .string ek.name, .int .i64 ek.n, .int .i64 (ek.at_ : Int), .slice xk ek.kids.length ck]) (fun e w' => e = .returned (.agg #[.int .i64 11, .int .i64 (a : Int)]) ∧ Below ((wr.alloc (.cells #[.string ⟨#[]⟩, .string ⟨#[]⟩, .int .i64 0, .int .i64 0, .slice none 0 0] 43)).setRow wr.heap.size #[.string ek.op, .string ek.name, .int .i64 ek.n, .int .i64 (ek.at_ : Int), .slice xk ek.kids.length ck]).heap.size ((wr.alloc (.cells #[.string ⟨#[]⟩, .string ⟨#[]⟩, .int .i64 0, .int .i64 0, .slice none 0 0] 43)).setRow wr.heap.size #[.string ek.op, .string ek.name, .int .i64 ek.n, .int .i64 (ek.at_ : Int), .slice xk ek.kids.length ck]) w') := kk
          clear kk hp HQ HRR
          go_wp2_with (first | (refine wpList_load_mid rfl 43 (.tmp 13) rfl g1 (i * 5) rfl (exC ek xk ck) _ ?_ Try.underlying43 rfl HSE.out ?_; (exact HRK.out)) | (refine wpList_store_row rfl 43 (.tmp 6) (.tmp 14) rfl wr.heap.size #[.string ek.op, .string ek.name, .int .i64 ek.n, .int .i64 (ek.at_ : Int), .slice xk ek.kids.length ck] rfl rfl 43 #[.string ⟨#[]⟩, .string ⟨#[]⟩, .int .i64 0, .int .i64 0, .slice none 0 0] ?_ HSE.out rfl (e4_one _ _ _ _ _ _ _) ?_; (exact HAL.out)) | (refine wpList_load_row rfl 120 (.tmp 2) rfl (w.heap.size) rfl 120 #[.map (some bl), .map (some bw)] (0, 0) _ ?_ Try.underlying120 rfl HSC.out ?_; (exact HL0.out)) | (refine wpList_load_row rfl 43 (.tmp 6) rfl (wr.heap.size) rfl 43 #[.string ek.op, .string ek.name, .int .i64 ek.n, .int .i64 (ek.at_ : Int), .slice xk ek.kids.length ck] (0, 0) _ ?_ Try.underlying43 rfl HSE.out ?_; (exact HN1.out)))
          (with_reducible refine kk2.mono ?_)
          rintro e9 w2 ⟨rfl, hb⟩
          have F2 := HF1.out.call hb
          have HAF := Lib.hid (heap_alloc_new w2 (.cells #[.int .i64 0, .int .i64 0] 32))
          obtain ⟨hnb, hnr⟩ := new_row w2 32 #[.int .i64 0, .int .i64 0] #[.int .i64 11, .int .i64 (a : Int)]
          have q0 := cell_of_row _ w2.heap.size 0 _ _ _ hnr
          have HF3 := Lib.hid (F2.call hnb)
          have HN3 := Lib.hid hnr
          have HL2 := Lib.hid (HF3.out.get 2 rfl)
          clear kk2 hb F2 hnb hnr
          go_wp2_with (first | (refine wpList_store_row rfl 32 (.tmp 7) (.tmp 17) rfl (w2.heap.size) #[.int .i64 11, .int .i64 (a : Int)] rfl rfl 32 #[.int .i64 0, .int .i64 0] ?_ HSF.out rfl (fault_one _ _) ?_; (exact HAF.out)) | (refine wpList_load_row rfl 32 (.tmp 7) rfl (w2.heap.size) rfl 32 #[.int .i64 11, .int .i64 (a : Int)] (0, 0) _ ?_ Try.underlying32 rfl HSF.out ?_; (exact HN3.out)) | (refine wpList_store_row rfl 32 (.tmp 4) (.tmp 21) rfl (w.heap.size + 1 + 1) #[.int .i64 11, .int .i64 (a : Int)] rfl rfl 32 #[.int .i64 0, .int .i64 0] ?_ HSF.out rfl (fault_one _ _) ?_; (exact HL2.out)))
          refine bodyPost_ret (v := .agg #[.int .i64 11, .int .i64 (a : Int)]) (results_cell_row (p := 4) (ty := 32) rfl _ _ (w.heap.size + 1 + 1) 32 _ (0, 0) _ rfl (setRow_heap _ (w.heap.size + 1 + 1) _ _ _ _ HL2.out) Try.underlying32 rfl HSF.out) rfl ?_
          rw [HR2.out]
          exact ⟨rfl, below_setRow HF3.out.below (by omega) _⟩
      · have d1 : decide ((i : Int) < (e.kids.length : Int)) = false := by simp; omega
        obtain rfl : i = e.kids.length := by have := HI_.out; omega
        have hnone : partsI g e.kids = none := by rw [hq, List.drop_length]; rfl
        have HL0 := Lib.hid (HF.out.get 0 rfl)
        have HL1 := Lib.hid (HF.out.get 1 rfl)
        have ke := isEarly_any wr bl bw k g (SetI.below HS.out HF.out.below) e HOE.out HFE.out ok x c (IsD.below HF.out.below HKK.out)
        unfold exV at ke
        have HNO := Lib.hid hnone
        clear hil hq hnone
        cases hp : earlyI g e with
        | true =>
          have HR2 := Lib.hid (show R = some e.at_ by rw [HRR.out, HNO.out]; exact if_pos hp)
          rw [hp] at ke
          clear hp HRR HNO
          go_wp2_with (first | (refine wpList_load_row rfl 120 (.tmp 2) rfl (w.heap.size) rfl 120 #[.map (some bl), .map (some bw)] (0, 0) _ ?_ Try.underlying120 rfl HSC.out ?_; (exact HL0.out)) | (refine wpList_load_row rfl 43 (.tmp 3) rfl (w.heap.size + 1) rfl 43 #[.string e.op, .string e.name, .int .i64 e.n, .int .i64 (e.at_ : Int), .slice x e.kids.length c] (0, 0) _ ?_ Try.underlying43 rfl HSE.out ?_; (exact HL1.out)))
          (with_reducible refine ke.mono ?_)
          rintro e9 w2 ⟨rfl, hb⟩
          have HF2 := Lib.hid (HF.out.call hb)
          have c3 := cell_of_row _ (w.heap.size + 1) 3 _ _ _ (HF2.out.get 1 rfl)
          clear ke hb
          go_wp2_with fail
          (with_reducible refine (iniFault_any (e.at_ : Int) _).mono ?_)
          unfold GivesF
          rintro e9 w3 ⟨rfl, hb⟩
          have HF3 := Lib.hid (HF2.out.call hb)
          have HL2 := Lib.hid (HF3.out.get 2 rfl)
          clear hb c3
          go_wp2_with (refine wpList_store_row rfl 32 (.tmp 4) (.tmp 28) rfl (w.heap.size + 1 + 1) #[.int .i64 11, .int .i64 (e.at_ : Int)] rfl rfl 32 #[.int .i64 0, .int .i64 0] ?_ HSF.out rfl (fault_one _ _) ?_; (exact HL2.out))
          refine bodyPost_ret (v := .agg #[.int .i64 11, .int .i64 (e.at_ : Int)]) (results_cell_row (p := 4) (ty := 32) rfl _ _ (w.heap.size + 1 + 1) 32 _ (0, 0) _ rfl (setRow_heap _ (w.heap.size + 1 + 1) _ _ _ _ HL2.out) Try.underlying32 rfl HSF.out) rfl ?_
          rw [HR2.out]
          exact ⟨rfl, below_setRow HF3.out.below (by omega) _⟩
        | false =>
          have HR2 := Lib.hid (show R = none by rw [HRR.out, HNO.out]; exact if_neg (by rw [hp]; decide))
          rw [hp] at ke
          have bz : ∀ W : World, (Instr.build 32 #[]).run Try.prog W = .ok (.agg #[.int .i64 0, .int .i64 0]) W := fun W => by kernel_rfl
          clear hp HRR HNO
          go_wp2_with (first | (refine wpList_load_row rfl 120 (.tmp 2) rfl (w.heap.size) rfl 120 #[.map (some bl), .map (some bw)] (0, 0) _ ?_ Try.underlying120 rfl HSC.out ?_; (exact HL0.out)) | (refine wpList_load_row rfl 43 (.tmp 3) rfl (w.heap.size + 1) rfl 43 #[.string e.op, .string e.name, .int .i64 e.n, .int .i64 (e.at_ : Int), .slice x e.kids.length c] (0, 0) _ ?_ Try.underlying43 rfl HSE.out ?_; (exact HL1.out)))
          (with_reducible refine ke.mono ?_)
          rintro e9 w2 ⟨rfl, hb⟩
          have HF2 := Lib.hid (HF.out.call hb)
          have HL2 := Lib.hid (HF2.out.get 2 rfl)
          clear ke hb
          go_wp2_with (refine wpList_store_row rfl 32 (.tmp 4) (.tmp 29) rfl (w.heap.size + 1 + 1) #[.int .i64 0, .int .i64 0] rfl rfl 32 #[.int .i64 0, .int .i64 0] ?_ HSF.out rfl (fault_one _ _) ?_; (exact HL2.out))
          refine bodyPost_ret (v := .agg #[.int .i64 0, .int .i64 0]) (results_cell_row (p := 4) (ty := 32) rfl _ _ (w.heap.size + 1 + 1) 32 _ (0, 0) _ rfl (setRow_heap _ (w.heap.size + 1 + 1) _ _ _ _ HL2.out) Try.underlying32 rfl HSF.out) rfl ?_
          rw [HR2.out]
          exact ⟨rfl, below_setRow HF2.out.below (by omega) _⟩
end Go.Proofs.Ythlhogfebicooaa

namespace Go.Proofs.Ythlhogfebicooaa
open Go Go.RowKit
theorem eqI_hit {g wt : List UInt8 → Bool} {q : Qe} {a : Nat} (h : partI g q.e = some a) : eqI g wt q = some a := by unfold eqI; rw [h]
theorem eqI_want {g wt : List UInt8 → Bool} {q : Qe} (h : partI g q.e = none) : eqI g wt q = if wt q.name.data.toList = true ∧ g q.name.data.toList = true then some q.at_ else none := by unfold eqI; rw [h]
set_option maxHeartbeats 4000000 in
set_option maxRecDepth 100000 in
theorem equationI_any (g wt : List UInt8 → Bool) (q : Qe) (hnm : okNm q.name = true) (hoe : okE q.e = true) (hfe : fewE q.e = true) (w : World) (bl bw k kw : Nat) (ok : Nat → Prop) (x : Option Addr) (c : Nat) (hS : SetI w bl k g) (hW : SetI w bw kw wt) (hkk : KidsD ok w q.e x c) : Calls Try.prog 66 #[.agg #[.map (some bl), .map (some bw)], qeV q x c] w (GivesO 11 (eqI g wt q) w) := by
  have HSE := Lib.hid size_eS
  have HSC := Lib.hid size_ckI
  have HSF := Lib.hid size_flt
  have HSZ := Lib.hid (okNm_le hnm)
  have F0 := (((Fx.start w).alloc (w.heap.size) rfl 120 #[.map (some bl), .map (some bw)]).alloc (w.heap.size + 1) (by simp) 45 #[.string q.name, .string q.e.op, .string q.e.name, .int .i64 q.e.n, .int .i64 (q.e.at_ : Int), .slice x q.e.kids.length c, .int .i64 (q.at_ : Int)]).alloc (w.heap.size + 1 + 1) (by simp) 32 #[.int .i64 0, .int .i64 0]
  have kp := partI_lt g _ q.e (Nat.lt_succ_self _) hoe hfe (((w.alloc (.cells #[.map (some bl), .map (some bw)] 120)).alloc (.cells #[.string q.name, .string q.e.op, .string q.e.name, .int .i64 q.e.n, .int .i64 (q.e.at_ : Int), .slice x q.e.kids.length c, .int .i64 (q.at_ : Int)] 45)).alloc (.cells #[.int .i64 0, .int .i64 0] 32)) bl bw k ok x c (SetI.below hS F0.below) (IsD.below F0.below hkk)
  unfold exV GivesO at kp
  have HF0 : Hid (Fx w [(w.heap.size, 120, #[.map (some bl), .map (some bw)]), (w.heap.size + 1, 45, #[.string q.name, .string q.e.op, .string q.e.name, .int .i64 q.e.n, .int .i64 (q.e.at_ : Int), .slice x q.e.kids.length c, .int .i64 (q.at_ : Int)]), (w.heap.size + 1 + 1, 32, #[.int .i64 0, .int .i64 0])] (((w.alloc (.cells #[.map (some bl), .map (some bw)] 120)).alloc (.cells #[.string q.name, .string q.e.op, .string q.e.name, .int .i64 q.e.n, .int .i64 (q.e.at_ : Int), .slice x q.e.kids.length c, .int .i64 (q.at_ : Int)] 45)).alloc (.cells #[.int .i64 0, .int .i64 0] 32))) := Lib.hid F0
  have HRE : Hid ((((w.alloc (.cells #[.map (some bl), .map (some bw)] 120)).alloc (.cells #[.string q.name, .string q.e.op, .string q.e.name, .int .i64 q.e.n, .int .i64 (q.e.at_ : Int), .slice x q.e.kids.length c, .int .i64 (q.at_ : Int)] 45)).alloc (.cells #[.int .i64 0, .int .i64 0] 32)).rangeAt (w.heap.size + 1) 1 (exC q.e x c)) := Lib.hid (range_of_row (F0.get 1 rfl) 1 _ (fun j v hj => by
    have hlt : j < 5 := (List.getElem?_eq_some_iff.1 hj).1
    rcases j with _ | _ | _ | _ | _ | j
    all_goals first | exact hj | omega))
  have HL0 := Lib.hid (F0.get 0 rfl)
  have HS := Lib.hid hS
  have HW := Lib.hid hW
  obtain ⟨R, hR⟩ : ∃ R, R = eqI g wt q := ⟨_, rfl⟩
  rw [← hR]
  have HR := Lib.hid hR
  clear F0 hR hS hW hnm hoe hfe hkk
  unfold qeV
  cases hp : partI g q.e with
  | some a =>
    have HR2 := Lib.hid (show R = some a by rw [HR.out, eqI_hit hp])
    rw [hp] at kp
    have kp2 : Calls Try.prog 98 #[.agg #[.map (some bl), .map (some bw)], .agg (exC q.e x c).toArray] (((w.alloc (.cells #[.map (some bl), .map (some bw)] 120)).alloc (.cells #[.string q.name, .string q.e.op, .string q.e.name, .int .i64 q.e.n, .int .i64 (q.e.at_ : Int), .slice x q.e.kids.length c, .int .i64 (q.at_ : Int)] 45)).alloc (.cells #[.int .i64 0, .int .i64 0] 32)) (fun e w' => e = .returned (.agg #[.int .i64 11, .int .i64 (a : Int)]) ∧ Below (((w.alloc (.cells #[.map (some bl), .map (some bw)] 120)).alloc (.cells #[.string q.name, .string q.e.op, .string q.e.name, .int .i64 q.e.n, .int .i64 (q.e.at_ : Int), .slice x q.e.kids.length c, .int .i64 (q.at_ : Int)] 45)).alloc (.cells #[.int .i64 0, .int .i64 0] 32)).heap.size (((w.alloc (.cells #[.map (some bl), .map (some bw)] 120)).alloc (.cells #[.string q.name, .string q.e.op, .string q.e.name, .int .i64 q.e.n, .int .i64 (q.e.at_ : Int), .slice x q.e.kids.length c, .int .i64 (q.at_ : Int)] 45)).alloc (.cells #[.int .i64 0, .int .i64 0] 32)) w') := kp
    clear kp hp HR
    go_enter Try.func66, Try.ntmps66
    go_wp2_with (first | (refine wpList_load_row rfl 120 (.tmp 2) rfl (w.heap.size) rfl 120 #[.map (some bl), .map (some bw)] (0, 0) _ ?_ Try.underlying120 rfl HSC.out ?_; (exact HL0.out)) | (refine wpList_load_mid rfl 43 (.tmp 7) rfl (w.heap.size + 1) 1 rfl (exC q.e x c) _ ?_ Try.underlying43 rfl HSE.out ?_; (exact HRE.out)))
    (with_reducible refine kp2.mono ?_)
    rintro e9 w2 ⟨rfl, hb⟩
    have F2 := HF0.out.call hb
    have HAF := Lib.hid (heap_alloc_new w2 (.cells #[.int .i64 0, .int .i64 0] 32))
    obtain ⟨hnb, hnr⟩ := new_row w2 32 #[.int .i64 0, .int .i64 0] #[.int .i64 11, .int .i64 (a : Int)]
    have q0 := cell_of_row _ w2.heap.size 0 _ _ _ hnr
    have HF3 := Lib.hid (F2.call hnb)
    have HN3 := Lib.hid hnr
    have HL2 := Lib.hid (HF3.out.get 2 rfl)
    clear kp2 hb F2 hnb hnr
    go_wp2_with (first | (refine wpList_store_row rfl 32 (.tmp 5) (.tmp 9) rfl (w2.heap.size) #[.int .i64 11, .int .i64 (a : Int)] rfl rfl 32 #[.int .i64 0, .int .i64 0] ?_ HSF.out rfl (fault_one _ _) ?_; (exact HAF.out)) | (refine wpList_load_row rfl 32 (.tmp 5) rfl (w2.heap.size) rfl 32 #[.int .i64 11, .int .i64 (a : Int)] (0, 0) _ ?_ Try.underlying32 rfl HSF.out ?_; (exact HN3.out)) | (refine wpList_store_row rfl 32 (.tmp 4) (.tmp 13) rfl (w.heap.size + 1 + 1) #[.int .i64 11, .int .i64 (a : Int)] rfl rfl 32 #[.int .i64 0, .int .i64 0] ?_ HSF.out rfl (fault_one _ _) ?_; (exact HL2.out)))
    refine bodyPost_ret (v := .agg #[.int .i64 11, .int .i64 (a : Int)]) (results_cell_row (p := 4) (ty := 32) rfl _ _ (w.heap.size + 1 + 1) 32 _ (0, 0) _ rfl (setRow_heap _ (w.heap.size + 1 + 1) _ _ _ _ HL2.out) Try.underlying32 rfl HSF.out) rfl ?_
    rw [HR2.out]
    exact ⟨rfl, below_setRow HF3.out.below (by omega) _⟩
  | none =>
    have HR2 := Lib.hid (HR.out.trans (eqI_want hp))
    rw [hp] at kp
    have kp2 : Calls Try.prog 98 #[.agg #[.map (some bl), .map (some bw)], .agg (exC q.e x c).toArray] (((w.alloc (.cells #[.map (some bl), .map (some bw)] 120)).alloc (.cells #[.string q.name, .string q.e.op, .string q.e.name, .int .i64 q.e.n, .int .i64 (q.e.at_ : Int), .slice x q.e.kids.length c, .int .i64 (q.at_ : Int)] 45)).alloc (.cells #[.int .i64 0, .int .i64 0] 32)) (fun e w' => e = .returned (.agg #[.int .i64 0, .int .i64 0]) ∧ Below (((w.alloc (.cells #[.map (some bl), .map (some bw)] 120)).alloc (.cells #[.string q.name, .string q.e.op, .string q.e.name, .int .i64 q.e.n, .int .i64 (q.e.at_ : Int), .slice x q.e.kids.length c, .int .i64 (q.at_ : Int)] 45)).alloc (.cells #[.int .i64 0, .int .i64 0] 32)).heap.size (((w.alloc (.cells #[.map (some bl), .map (some bw)] 120)).alloc (.cells #[.string q.name, .string q.e.op, .string q.e.name, .int .i64 q.e.n, .int .i64 (q.e.at_ : Int), .slice x q.e.kids.length c, .int .i64 (q.at_ : Int)] 45)).alloc (.cells #[.int .i64 0, .int .i64 0] 32)) w') := kp
    clear kp hp HR
    go_enter Try.func66, Try.ntmps66
    go_upto_region 1 with fail
    go_wp2_with (first | (refine wpList_load_row rfl 120 (.tmp 2) rfl (w.heap.size) rfl 120 #[.map (some bl), .map (some bw)] (0, 0) _ ?_ Try.underlying120 rfl HSC.out ?_; (exact HL0.out)) | (refine wpList_load_mid rfl 43 (.tmp 7) rfl (w.heap.size + 1) 1 rfl (exC q.e x c) _ ?_ Try.underlying43 rfl HSE.out ?_; (exact HRE.out)))
    (with_reducible refine kp2.mono ?_)
    rintro e9 w2 ⟨rfl, hb⟩
    have F2 := HF0.out.call hb
    have HAF := Lib.hid (heap_alloc_new w2 (.cells #[.int .i64 0, .int .i64 0] 32))
    obtain ⟨hnb, hnr⟩ := new_row w2 32 #[.int .i64 0, .int .i64 0] #[.int .i64 0, .int .i64 0]
    obtain ⟨w3, hw3⟩ : ∃ w3, w3 = ((w2.alloc (.cells #[.int .i64 0, .int .i64 0] 32)).setRow w2.heap.size #[.int .i64 0, .int .i64 0]) := ⟨_, rfl⟩
    have q0 := cell_of_row _ w2.heap.size 0 _ _ _ hnr
    have F3 := F2.call hnb
    rw [← hw3] at F3
    have HW3 := Lib.hid hw3
    have HF3 := Lib.hid F3
    clear kp2 hb F2 hnb hnr hw3 F3
    go_upto_region 4 with (refine wpList_store_row rfl 32 (.tmp 5) (.tmp 9) rfl (w2.heap.size) #[.int .i64 0, .int .i64 0] rfl rfl 32 #[.int .i64 0, .int .i64 0] ?_ HSF.out rfl (fault_one _ _) ?_; (exact HAF.out))
    rw [← HW3.out]
    clear q0
    have e0 := cell_of_row _ (w.heap.size) 0 _ _ _ (HF3.out.get 0 rfl)
    have e1 := cell_of_row _ (w.heap.size) 1 _ _ _ (HF3.out.get 0 rfl)
    have e2 := cell_of_row _ (w.heap.size + 1) 0 _ _ _ (HF3.out.get 1 rfl)
    have kw_ := hasI_any w3 bw kw wt (SetI.below HW.out HF3.out.below) q.name HSZ.out
    obtain ⟨y1, hy1⟩ : ∃ y, y = wt q.name.data.toList := ⟨_, rfl⟩
    obtain ⟨y2, hy2⟩ : ∃ y, y = g q.name.data.toList := ⟨_, rfl⟩
    have HR3 := Lib.hid (show R = if y1 = true ∧ y2 = true then some q.at_ else none by rw [hy1, hy2]; exact HR2.out)
    rw [← hy1] at kw_
    have HY2 := Lib.hid hy2
    clear hy1 hy2 HR2
    have bz : ∀ W : World, (Instr.build 32 #[]).run Try.prog W = .ok (.agg #[.int .i64 0, .int .i64 0]) W := fun W => by kernel_rfl
    cases y1 with
    | false =>
      have HR4 := Lib.hid (show R = none by rw [HR3.out]; exact if_neg (by rintro ⟨h, _⟩; cases h))
      clear HR3
      go_wp2_with fail
      (with_reducible refine kw_.mono ?_)
      rintro e9 w4 ⟨rfl, hb⟩
      have HF4 := Lib.hid (HF3.out.call hb)
      have HL2 := Lib.hid (HF4.out.get 2 rfl)
      clear kw_ hb e0 e1 e2
      go_wp2_with (refine wpList_store_row rfl 32 (.tmp 4) (.tmp 29) rfl (w.heap.size + 1 + 1) #[.int .i64 0, .int .i64 0] rfl rfl 32 #[.int .i64 0, .int .i64 0] ?_ HSF.out rfl (fault_one _ _) ?_; (exact HL2.out))
      refine bodyPost_ret (v := .agg #[.int .i64 0, .int .i64 0]) (results_cell_row (p := 4) (ty := 32) rfl _ _ (w.heap.size + 1 + 1) 32 _ (0, 0) _ rfl (setRow_heap _ (w.heap.size + 1 + 1) _ _ _ _ HL2.out) Try.underlying32 rfl HSF.out) rfl ?_
      rw [HR4.out]
      exact ⟨rfl, below_setRow HF4.out.below (by omega) _⟩
    | true =>
      go_wp2_with fail
      (with_reducible refine kw_.mono ?_)
      rintro e9 w4 ⟨rfl, hb⟩
      have HF4 := Lib.hid (HF3.out.call hb)
      clear kw_ hb e0 e1 e2
      have e0 := cell_of_row _ (w.heap.size) 0 _ _ _ (HF4.out.get 0 rfl)
      have e2 := cell_of_row _ (w.heap.size + 1) 0 _ _ _ (HF4.out.get 1 rfl)
      have kh := hasI_any w4 bl k g (SetI.below HS.out HF4.out.below) q.name HSZ.out
      rw [← HY2.out] at kh
      cases y2 with
      | false =>
        have HR4 := Lib.hid (show R = none by rw [HR3.out]; exact if_neg (by rintro ⟨_, h⟩; cases h))
        clear HR3 HY2
        go_wp2_with fail
        (with_reducible refine kh.mono ?_)
        rintro e9 w5 ⟨rfl, hb⟩
        have HF5 := Lib.hid (HF4.out.call hb)
        have HL2 := Lib.hid (HF5.out.get 2 rfl)
        clear kh hb e0 e2
        go_wp2_with (refine wpList_store_row rfl 32 (.tmp 4) (.tmp 29) rfl (w.heap.size + 1 + 1) #[.int .i64 0, .int .i64 0] rfl rfl 32 #[.int .i64 0, .int .i64 0] ?_ HSF.out rfl (fault_one _ _) ?_; (exact HL2.out))
        refine bodyPost_ret (v := .agg #[.int .i64 0, .int .i64 0]) (results_cell_row (p := 4) (ty := 32) rfl _ _ (w.heap.size + 1 + 1) 32 _ (0, 0) _ rfl (setRow_heap _ (w.heap.size + 1 + 1) _ _ _ _ HL2.out) Try.underlying32 rfl HSF.out) rfl ?_
        rw [HR4.out]
        exact ⟨rfl, below_setRow HF5.out.below (by omega) _⟩
      | true =>
        have HR4 := Lib.hid (show R = some q.at_ by rw [HR3.out]; simp)
        clear HR3 HY2
        go_wp2_with fail
        (with_reducible refine kh.mono ?_)
        rintro e9 w5 ⟨rfl, hb⟩
        have HF5 := Lib.hid (HF4.out.call hb)
        clear kh hb e0 e2
        have e6 := cell_of_row _ (w.heap.size + 1) 6 _ _ _ (HF5.out.get 1 rfl)
        go_wp2_with fail
        (with_reducible refine (iniFault_any (q.at_ : Int) _).mono ?_)
        unfold GivesF
        rintro e9 w6 ⟨rfl, hb⟩
        have HF6 := Lib.hid (HF5.out.call hb)
        have HL2 := Lib.hid (HF6.out.get 2 rfl)
        clear hb e6
        go_wp2_with (refine wpList_store_row rfl 32 (.tmp 4) (.tmp 28) rfl (w.heap.size + 1 + 1) #[.int .i64 11, .int .i64 (q.at_ : Int)] rfl rfl 32 #[.int .i64 0, .int .i64 0] ?_ HSF.out rfl (fault_one _ _) ?_; (exact HL2.out))
        refine bodyPost_ret (v := .agg #[.int .i64 11, .int .i64 (q.at_ : Int)]) (results_cell_row (p := 4) (ty := 32) rfl _ _ (w.heap.size + 1 + 1) 32 _ (0, 0) _ rfl (setRow_heap _ (w.heap.size + 1 + 1) _ _ _ _ HL2.out) Try.underlying32 rfl HSF.out) rfl ?_
        rw [HR4.out]
        exact ⟨rfl, below_setRow HF6.out.below (by omega) _⟩
end Go.Proofs.Ythlhogfebicooaa

namespace Go.Proofs.Ythlhogfebicooaa
open Go Go.RowKit
def locW (l : List Vr) (s : List UInt8) : Bool := l.any (fun v => !(v.on.data.toList == []) && v.on.data.toList == s)
def outW (l : List Vr) (s : List UInt8) : Bool := l.any (fun v => v.name.data.toList == s)
theorem outW_add (l : List Vr) (v : Vr) : addI (outW l) v.name = outW (l ++ [v]) := any_add l v
theorem locW_add (f : List UInt8 → Bool) (l : List Vr) (v : Vr) (h : (v.on.data.toList == []) = false) : addI (fun s => f s || locW l s) v.on = fun s => f s || locW (l ++ [v]) s := by
  funext s
  unfold addI locW
  rw [List.any_append, List.any_cons, List.any_nil, h, Bool.or_false, Bool.not_false, Bool.true_and]
  have e : (s == v.on.data.toList) = (v.on.data.toList == s) := Bool.beq_comm
  rw [e]
  cases (v.on.data.toList == s) <;> simp
theorem locW_skip (f : List UInt8 → Bool) (l : List Vr) (v : Vr) (h : (v.on.data.toList == []) = true) : (fun s => f s || locW (l ++ [v]) s) = fun s => f s || locW l s := by
  funext s
  unfold locW
  rw [List.any_append, List.any_cons, List.any_nil, h]
  simp
def GivesCo (n : Nd) (w : World) (e : Ending) (w' : World) : Prop := ∃ bl bw k m, e = .returned (.agg #[.map (some bl), .map (some bw)]) ∧ SetI w' bl k (lateB n) ∧ SetI w' bw m (wantI n) ∧ Below w.heap.size w w'
set_option maxHeartbeats 4000000 in
set_option maxRecDepth 100000 in
theorem checkerOf_any (n : Nd) (hon : okNd n = true) (hfq : fewQs n.eqs = true) (w : World) (ok : Nat → Prop) (xi xo xl xe : Option Addr) (ci co cl ce : Nat) (hkn : NdIn ok w n xi xo xl xe ci co cl ce) : Calls Try.prog 65 #[ndV n xi xo xl xe ci co cl ce] w (GivesCo n w) := by
  have HSN := Lib.hid size_nS
  have HSV := Lib.hid size_vS
  have HSC := Lib.hid size_ckI
  have F0 := ((Fx.start w).alloc (w.heap.size) rfl 49 #[.string n.name, .slice xi n.ins.length ci, .slice xo n.outs.length co, .slice xl n.locs.length cl, .slice xe n.eqs.length ce, .int .i64 (n.at_ : Int)]).alloc (w.heap.size + 1) (by simp) 120 #[.map none, .map none]
  have kl := lateOf_any n hon hfq ((w.alloc (.cells #[.string n.name, .slice xi n.ins.length ci, .slice xo n.outs.length co, .slice xl n.locs.length cl, .slice xe n.eqs.length ce, .int .i64 (n.at_ : Int)] 49)).alloc (.cells #[.map none, .map none] 120)) ok xi xo xl xe ci co cl ce (NdIn.below F0.below hkn)
  unfold GivesLo ndV at kl
  have HF0 := Lib.hid F0
  have HL0 := Lib.hid (F0.get 0 rfl)
  have hon' := hon
  simp only [okNd, Bool.and_eq_true, decide_eq_true_eq] at hon'
  have HOO := Lib.hid hon'.2.2.2.1
  have HOL := Lib.hid hon'.2.2.2.2.1
  have HKO := Lib.hid hkn.2.1
  have HKL := Lib.hid hkn.2.2.1
  have HLO := Lib.hid (show n.outs.length ≤ 1000000 by have := hon'.1; omega)
  have HLL := Lib.hid (show n.locs.length ≤ 1000000 by have := hon'.1; omega)
  clear F0 hon hon' hfq hkn
  unfold ndV
  go_enter Try.func65, Try.ntmps65
  go_wp2_with (refine wpList_load_row rfl 49 (.tmp 1) rfl (w.heap.size) rfl 49 #[.string n.name, .slice xi n.ins.length ci, .slice xo n.outs.length co, .slice xl n.locs.length cl, .slice xe n.eqs.length ce, .int .i64 (n.at_ : Int)] (0, 0) _ ?_ Try.underlying49 rfl HSN.out ?_; (exact HL0.out))
  (with_reducible refine kl.mono ?_)
  rintro e9 w2 ⟨bl, k, rfl, hS, _, hlo, hb⟩
  have HLB := Lib.hid (show w.heap.size + 1 < bl by have h : ((w.alloc (.cells #[.string n.name, .slice xi n.ins.length ci, .slice xo n.outs.length co, .slice xl n.locs.length cl, .slice xe n.eqs.length ce, .int .i64 (n.at_ : Int)] 49)).alloc (.cells #[.map none, .map none] 120)).heap.size = w.heap.size + 1 + 1 := by simp
                                                    omega)
  clear hlo
  have F2 := HF0.out.call hb
  have hmm := run_makeMap (P := Try.prog) 118 w2
  obtain ⟨bw, hbw⟩ : ∃ bw, bw = w2.heap.size := ⟨_, rfl⟩
  have hS3 := SetI.below hS ((Below.refl _ _).alloc (Nat.le_refl _) (.map #[] 0))
  have hW3 := SetI.made w2
  have hlt : bl < w2.heap.size := SetI.lt hS
  obtain ⟨w3, hw3⟩ : ∃ w3, w3 = w2.alloc (.map #[] 0) := ⟨_, rfl⟩
  have F3 := F2.make (.map #[] 0)
  rw [← hw3] at hS3 hW3 F3 hmm
  rw [← hbw] at hW3 hmm hlt
  have HBB := Lib.hid hlt
  have HB0 := Lib.hid (show w.heap.size + 1 < bw by rw [hbw]; exact F2.lt_ 1 rfl)
  have bb : ∀ W : World, (Instr.build 120 #[(0, .map (some bl)), (1, .map (some bw))]).run Try.prog W = .ok (.agg #[.map (some bl), .map (some bw)]) W := fun W => by kernel_rfl
  have HAL := Lib.hid (heap_alloc_new w3 (.cells #[.map none, .map none] 120))
  obtain ⟨hnb, hnr⟩ := new_row w3 120 #[.map none, .map none] #[.map (some bl), .map (some bw)]
  have F4 := (F3.alloc w3.heap.size rfl 120 #[.map none, .map none]).store 2 rfl #[.map (some bl), .map (some bw)]
  obtain ⟨b3, hb3⟩ : ∃ b3, b3 = w3.heap.size := ⟨_, rfl⟩
  have HB3 := Lib.hid (show bw < b3 by rw [hb3]; exact SetI.lt hW3)
  obtain ⟨w4, hw4⟩ : ∃ w4, w4 = ((w3.alloc (.cells #[.map none, .map none] 120)).setRow w3.heap.size #[.map (some bl), .map (some bw)]) := ⟨_, rfl⟩
  rw [← hw4] at F4 hnb
  rw [← hb3] at F4
  have HF4 : Hid (Fx w [(w.heap.size, 49, #[.string n.name, .slice xi n.ins.length ci, .slice xo n.outs.length co, .slice xl n.locs.length cl, .slice xe n.eqs.length ce, .int .i64 (n.at_ : Int)]), (w.heap.size + 1, 120, #[.map none, .map none]), (b3, 120, #[.map (some bl), .map (some bw)])] w4) := Lib.hid F4
  have HS4 := Lib.hid (SetI.below hS3 hnb)
  have HW4 := Lib.hid (SetI.below hW3 hnb)
  have HW3_ := Lib.hid hw3
  have HW4_ := Lib.hid hw4
  have HB3_ := Lib.hid hb3
  have c2 := cell_of_row w4 (w.heap.size) 2 _ _ _ (F4.get 0 rfl)
  clear kl hS hb F2 hS3 hW3 hlt F3 hnb hnr F4 hw3 hw4 hb3 hbw
  go_upto_region 2 with (refine wpList_store_row rfl 120 (.tmp 3) (.tmp 11) rfl w3.heap.size #[.map (some bl), .map (some bw)] rfl rfl 120 #[.map none, .map none] ?_ HSC.out rfl (ck_oneI _ _) ?_; (exact HAL.out))
  rw [← HW4_.out, ← HB3_.out]
  clear hmm bb
  go_wp2_with fail
  clear c2
  go_loopw [15] (fun v15 wr => ∃ (i : Nat), v15 = .int .i64 (i : Int) ∧ i ≤ n.outs.length ∧ Fx w [(w.heap.size, 49, #[.string n.name, .slice xi n.ins.length ci, .slice xo n.outs.length co, .slice xl n.locs.length cl, .slice xe n.eqs.length ce, .int .i64 (n.at_ : Int)]), (w.heap.size + 1, 120, #[.map none, .map none]), (b3, 120, #[.map (some bl), .map (some bw)])] wr ∧ SetI wr bl k (lateB n) ∧ SetI wr bw i (outW (n.outs.take i)))
    (fun v15 _ => n.outs.length - (intOf v15).toNat)
  case atStart => exact ⟨0, rfl, Nat.zero_le _, HF4.out, HS4.out, HW4.out⟩
  case round =>
    clear HF4 HS4 HW4
    obtain ⟨i, rfl, hi, hF, hS, hW⟩ := hrel
    have HI := Lib.hid hi
    have HF := Lib.hid hF
    have HS := Lib.hid hS
    have HW := Lib.hid hW
    clear hi hF hS hW
    by_cases hil : i < n.outs.length
    · have d1 : decide ((i : Int) < (n.outs.length : Int)) = true := by simp; omega
      have HIL := Lib.hid hil
      obtain ⟨g1, rfl, hg1, hrg1⟩ := var_at (IsD.below HF.out.below HKO.out) i hil
      have hov := (okVs_at HOO.out i hil).1
      have htk : n.outs.take (i + 1) = n.outs.take i ++ [n.outs[i]'hil] := by rw [List.take_add_one, List.getElem?_eq_getElem hil]; rfl
      obtain ⟨v, hv⟩ : ∃ v, v = n.outs[i]'hil := ⟨_, rfl⟩
      rw [← hv] at hrg1 hov htk
      have HRV := Lib.hid hrg1
      have HTK := Lib.hid htk
      have HAL := Lib.hid (heap_alloc_new wr (.cells #[.string ⟨#[]⟩, .int .i64 0, .string ⟨#[]⟩, .bool false, .int .i64 0] 127))
      obtain ⟨hnb, hnr⟩ := new_row wr 127 #[.string ⟨#[]⟩, .int .i64 0, .string ⟨#[]⟩, .bool false, .int .i64 0] #[.string v.name, .int .i64 (v.kind : Int), .string v.on, .bool v.not_, .int .i64 (v.at_ : Int)]
      have F1 := HF.out.call hnb
      have HF1 := Lib.hid F1
      have HS1 := Lib.hid (SetI.below HS.out hnb)
      have HW1 := Lib.hid (SetI.below HW.out hnb)
      have c0 := cell_of_row _ wr.heap.size 0 _ _ _ hnr
      have c31 := cell_of_row _ b3 1 _ _ _ (F1.get 2 rfl)
      have hml : maxLen = 9223372036854775807 := rfl
      have ka := addI_any _ _ _ _ HW1.out (by have := HIL.out; have := HLO.out; omega) v.name hov
      unfold GivesAd at ka
      rw [outW_add, ← HTK.out] at ka
      have i0 : (0 : Int) ≤ (i : Int) := by omega
      have i1 : (i : Int) < (n.outs.length : Int) := by omega
      clear hil hv hrg1 hnb hnr hov hg1 htk hml F1
      go_wp2_with (first | (refine wpList_load_mid rfl 127 (.tmp 17) rfl g1 (i * 5) rfl (vrC v) _ ?_ Try.underlying127 rfl HSV.out ?_; (exact HRV.out)) | (refine wpList_store_row rfl 127 (.tmp 5) (.tmp 18) rfl wr.heap.size #[.string v.name, .int .i64 (v.kind : Int), .string v.on, .bool v.not_, .int .i64 (v.at_ : Int)] rfl rfl 127 #[.string ⟨#[]⟩, .int .i64 0, .string ⟨#[]⟩, .bool false, .int .i64 0] ?_ HSV.out rfl (vS_one _ _ _ _ _) ?_; (exact HAL.out)))
      (with_reducible refine ka.mono ?_)
      rintro e9 w6 ⟨rfl, hW2, hg2⟩
      have hgt : ∀ j, some bw = some j → j = bw := fun j h => by injection h with h; exact h.symm
      have HW2 := Lib.hid hW2
      have HS2 := Lib.hid (SetI.kept HS1.out hg2 (fun e => by have := hgt _ e.symm; have := HBB.out; omega))
      have HF2 := Lib.hid (HF1.out.own hg2 (fun j hj => by
        have h1 := hgt j hj
        have h2 := HB3.out
        have h3 := HB0.out
        refine ⟨by omega, fun y hy => ?_⟩
        simp only [List.mem_cons, List.not_mem_nil, or_false] at hy
        rcases hy with rfl | rfl | rfl
        · show j ≠ w.heap.size; omega
        · show j ≠ w.heap.size + 1; omega
        · show j ≠ b3; omega))
      clear hW2 hg2 ka c0 c31 hgt
      go_wp2_with fail
      refine ⟨⟨i + 1, wrap_succ (by have := HIL.out; have := HLO.out; omega), HIL.out, HF2.out, HS2.out, HW2.out⟩, ?_⟩
      rw [wrap_succ (by have := HIL.out; have := HLO.out; omega)]
      have := HIL.out
      simp [intOf]; omega
    · have d1 : decide ((i : Int) < (n.outs.length : Int)) = false := by simp; omega
      have HW2 : Hid (SetI wr bw i (fun s => outW n.outs s || locW (n.locs.take 0) s)) := Lib.hid (by
        have h1 := HW.out
        rw [List.take_of_length_le (by omega)] at h1
        have e : (fun s => outW n.outs s || locW (n.locs.take 0) s) = outW n.outs := by funext s; simp [locW]
        rw [e]; exact h1)
      obtain rfl : i = n.outs.length := by have := HI.out; omega
      have c3 := cell_of_row _ (w.heap.size) 3 _ _ _ (HF.out.get 0 rfl)
      clear hil HW
      go_wp2_with fail
      obtain ⟨w6, rfl⟩ : ∃ w6 : World, w6 = wr := ⟨_, rfl⟩
      clear c3
      go_loopw [28] (fun v28 wr => ∃ (j m : Nat), v28 = .int .i64 (j : Int) ∧ j ≤ n.locs.length ∧ m ≤ n.outs.length + j ∧ Fx w [(w.heap.size, 49, #[.string n.name, .slice xi n.ins.length ci, .slice xo n.outs.length co, .slice xl n.locs.length cl, .slice xe n.eqs.length ce, .int .i64 (n.at_ : Int)]), (w.heap.size + 1, 120, #[.map none, .map none]), (b3, 120, #[.map (some bl), .map (some bw)])] wr ∧ SetI wr bl k (lateB n) ∧ SetI wr bw m (fun s => outW n.outs s || locW (n.locs.take j) s))
        (fun v28 _ => n.locs.length - (intOf v28).toNat)
      case atStart => exact ⟨0, _, rfl, Nat.zero_le _, Nat.le_refl _, HF.out, HS.out, HW2.out⟩
      case round =>
        clear HF HS HW2 HI
        obtain ⟨j, m, rfl, hj, hm, hF, hS, hW⟩ := hrel
        have HJ := Lib.hid hj
        have HM := Lib.hid hm
        have HF := Lib.hid hF
        have HS := Lib.hid hS
        have HW := Lib.hid hW
        clear hj hm hF hS hW
        by_cases hjl : j < n.locs.length
        · have d1 : decide ((j : Int) < (n.locs.length : Int)) = true := by simp; omega
          have HJL := Lib.hid hjl
          obtain ⟨g1, rfl, hg1, hrg1⟩ := var_at (IsD.below HF.out.below HKL.out) j hjl
          have hov := (okVs_at HOL.out j hjl).2
          have htk : n.locs.take (j + 1) = n.locs.take j ++ [n.locs[j]'hjl] := by rw [List.take_add_one, List.getElem?_eq_getElem hjl]; rfl
          obtain ⟨v, hv⟩ : ∃ v, v = n.locs[j]'hjl := ⟨_, rfl⟩
          rw [← hv] at hrg1 hov htk
          have HRV := Lib.hid hrg1
          have HAL := Lib.hid (heap_alloc_new wr (.cells #[.string ⟨#[]⟩, .int .i64 0, .string ⟨#[]⟩, .bool false, .int .i64 0] 127))
          obtain ⟨hnb, hnr⟩ := new_row wr 127 #[.string ⟨#[]⟩, .int .i64 0, .string ⟨#[]⟩, .bool false, .int .i64 0] #[.string v.name, .int .i64 (v.kind : Int), .string v.on, .bool v.not_, .int .i64 (v.at_ : Int)]
          have F1 := HF.out.call hnb
          have HF1 := Lib.hid F1
          have HS1 := Lib.hid (SetI.below HS.out hnb)
          have HW1 := Lib.hid (SetI.below HW.out hnb)
          have c2 := cell_of_row _ wr.heap.size 2 _ _ _ hnr
          have c31 := cell_of_row _ b3 1 _ _ _ (F1.get 2 rfl)
          have i0 : (0 : Int) ≤ (j : Int) := by omega
          have i1 : (j : Int) < (n.locs.length : Int) := by omega
          cases hon : (v.on.data.toList == ([] : List UInt8)) with
          | true =>
            have ho1 : (v.on.toList == []) = true := by rw [Lib.toList_data]; exact hon
            have HW2 := Lib.hid (show SetI _ bw m (fun s => outW n.outs s || locW (n.locs.take (j + 1)) s) by rw [htk, locW_skip _ _ _ hon]; exact HW1.out)
            clear hjl hv hrg1 hnb hnr hov hg1 htk F1 hon c31
            go_wp2_with (first | (refine wpList_load_mid rfl 127 (.tmp 30) rfl g1 (j * 5) rfl (vrC v) _ ?_ Try.underlying127 rfl HSV.out ?_; (exact HRV.out)) | (refine wpList_store_row rfl 127 (.tmp 7) (.tmp 31) rfl wr.heap.size #[.string v.name, .int .i64 (v.kind : Int), .string v.on, .bool v.not_, .int .i64 (v.at_ : Int)] rfl rfl 127 #[.string ⟨#[]⟩, .int .i64 0, .string ⟨#[]⟩, .bool false, .int .i64 0] ?_ HSV.out rfl (vS_one _ _ _ _ _) ?_; (exact HAL.out)))
            refine ⟨⟨j + 1, m, wrap_succ (by have := HJL.out; have := HLL.out; omega), HJL.out, by have := HM.out; omega, HF1.out, HS1.out, HW2.out⟩, ?_⟩
            rw [wrap_succ (by have := HJL.out; have := HLL.out; omega)]
            have := HJL.out
            simp [intOf]; omega
          | false =>
            have ho1 : (v.on.toList == []) = false := by rw [Lib.toList_data]; exact hon
            have hml : maxLen = 9223372036854775807 := rfl
            have ka := addI_any _ _ _ _ HW1.out (by have := HM.out; have := HJL.out; have := HLL.out; have := HLO.out; omega) v.on hov
            unfold GivesAd at ka
            rw [locW_add _ _ _ hon, ← htk] at ka
            clear hjl hv hrg1 hnb hnr hov hg1 htk F1 hon hml
            go_wp2_with (first | (refine wpList_load_mid rfl 127 (.tmp 30) rfl g1 (j * 5) rfl (vrC v) _ ?_ Try.underlying127 rfl HSV.out ?_; (exact HRV.out)) | (refine wpList_store_row rfl 127 (.tmp 7) (.tmp 31) rfl wr.heap.size #[.string v.name, .int .i64 (v.kind : Int), .string v.on, .bool v.not_, .int .i64 (v.at_ : Int)] rfl rfl 127 #[.string ⟨#[]⟩, .int .i64 0, .string ⟨#[]⟩, .bool false, .int .i64 0] ?_ HSV.out rfl (vS_one _ _ _ _ _) ?_; (exact HAL.out)))
            (with_reducible refine ka.mono ?_)
            rintro e9 w7 ⟨rfl, hW2, hg2⟩
            have hgt : ∀ j, some bw = some j → j = bw := fun j h => by injection h with h; exact h.symm
            have HW2 := Lib.hid hW2
            have HS2 := Lib.hid (SetI.kept HS1.out hg2 (fun e => by have := hgt _ e.symm; have := HBB.out; omega))
            have HF2 := Lib.hid (HF1.out.own hg2 (fun j hj => by
              have h1 := hgt j hj
              have h2 := HB3.out
              have h3 := HB0.out
              refine ⟨by omega, fun y hy => ?_⟩
              simp only [List.mem_cons, List.not_mem_nil, or_false] at hy
              rcases hy with rfl | rfl | rfl
              · show j ≠ w.heap.size; omega
              · show j ≠ w.heap.size + 1; omega
              · show j ≠ b3; omega))
            clear hW2 hg2 ka c2 c31 hgt
            go_wp2_with fail
            refine ⟨⟨j + 1, m + 1, wrap_succ (by have := HJL.out; have := HLL.out; omega), HJL.out, by have := HM.out; omega, HF2.out, HS2.out, HW2.out⟩, ?_⟩
            rw [wrap_succ (by have := HJL.out; have := HLL.out; omega)]
            have := HJL.out
            simp [intOf]; omega
        · have d1 : decide ((j : Int) < (n.locs.length : Int)) = false := by simp; omega
          have HW2 : Hid (SetI wr bw m (wantI n)) := Lib.hid (by have h1 := HW.out; rw [List.take_of_length_le (by omega)] at h1; exact h1)
          obtain rfl : j = n.locs.length := by have := HJ.out; omega
          have HL3 := Lib.hid (HF.out.get 2 rfl)
          have HL1 := Lib.hid (HF.out.get 1 rfl)
          have HFS := Lib.hid (HF.out.store 1 rfl #[.map (some bl), .map (some bw)])
          have HBS := Lib.hid (below_setRow (Below.refl wr.heap.size wr) (Nat.le_refl _) #[.map (some bl), .map (some bw)])
          have HRB := Lib.hid (show wr.grownBy (wr.setRow (w.heap.size + 1) #[.map (some bl), .map (some bw)]) (some (w.heap.size + 1)) from gb_rowN _ _ _)
          clear hjl HW
          go_wp2_with (first | (refine wpList_load_row rfl 120 (.tmp 3) rfl b3 rfl 120 #[.map (some bl), .map (some bw)] (0, 0) _ ?_ Try.underlying120 rfl HSC.out ?_; (exact HL3.out)) | (refine wpList_store_row rfl 120 (.tmp 2) (.tmp 41) rfl (w.heap.size + 1) #[.map (some bl), .map (some bw)] rfl rfl 120 #[.map none, .map none] ?_ HSC.out rfl (ck_oneI _ _) ?_; (exact HL1.out)))
          refine bodyPost_ret (v := .agg #[.map (some bl), .map (some bw)]) (results_cell_row (p := 2) (ty := 120) rfl _ _ (w.heap.size + 1) 120 _ (0, 0) _ rfl (HFS.out.get 1 rfl) Try.underlying120 rfl HSC.out) rfl ?_
          exact ⟨bl, bw, k, m, rfl, SetI.kept HS.out HRB.out (fun e => by injection e with e; have := HLB.out; omega), SetI.kept HW2.out HRB.out (fun e => by injection e with e; have := HB0.out; omega), HFS.out.below⟩
end Go.Proofs.Ythlhogfebicooaa

namespace Go.Proofs.Ythlhogfebicooaa
open Go Go.RowKit
theorem iniF_skip {n : Nd} {r : List Nd} (h : eqsI (lateB n) (wantI n) n.eqs = none) : iniF (n :: r) = iniF r := by
  conv => lhs; unfold iniF
  rw [h]
theorem iniF_hit {n : Nd} {r : List Nd} {a : Nat} (h : eqsI (lateB n) (wantI n) n.eqs = some a) : iniF (n :: r) = some a := by
  unfold iniF
  rw [h]
theorem eqsI_skip {g wt : List UInt8 → Bool} {q : Qe} {r : List Qe} (h : eqI g wt q = none) : eqsI g wt (q :: r) = eqsI g wt r := by
  conv => lhs; unfold eqsI
  rw [h]
theorem eqsI_hit {g wt : List UInt8 → Bool} {q : Qe} {r : List Qe} {a : Nat} (h : eqI g wt q = some a) : eqsI g wt (q :: r) = some a := by
  unfold eqsI
  rw [h]
set_option maxHeartbeats 4000000 in
set_option maxRecDepth 100000 in
theorem iniCheck_any (l : List Nd) (hall : ∀ (i : Nat) (h : i < l.length), okNd l[i] = true ∧ fewQs l[i].eqs = true) (w : World) (ok : Nat → Prop) (x : Option Addr) (c : Nat) (hk : IsD ok w (.slice x l.length c) (.sl l.length (ndsD l))) : Calls Try.prog 32 #[.slice x l.length c] w (GivesO 11 (iniF l) w) := by
  have HK := Lib.hid hk
  have HALL := Lib.hid hall
  have HSF := Lib.hid size_flt
  have HSN := Lib.hid size_nS
  have HSQ := Lib.hid size_qS
  have HSC := Lib.hid size_ckI
  have F0 := (Fx.start w).alloc w.heap.size rfl 32 #[.int .i64 0, .int .i64 0]
  have HF0 : Hid (Fx w [(w.heap.size, 32, #[.int .i64 0, .int .i64 0])] _) := Lib.hid F0
  obtain ⟨R, hR⟩ : ∃ R, R = iniF l := ⟨_, rfl⟩
  rw [← hR]
  have HRR := Lib.hid hR
  clear hk hall F0 hR
  go_enter Try.func32, Try.ntmps32
  go_wp2_with fail
  go_loopw [11] (fun v11 wr => ∃ (i : Nat), v11 = .int .i64 (i : Int) ∧ i ≤ l.length ∧ Fx w [(w.heap.size, 32, #[.int .i64 0, .int .i64 0])] wr ∧ iniF l = iniF (l.drop i))
    (fun v11 _ => l.length - (intOf v11).toNat)
  case atStart => exact ⟨0, rfl, Nat.zero_le _, HF0.out, rfl⟩
  case round =>
    clear HF0
    obtain ⟨i, rfl, hi, hF, hq⟩ := hrel
    have HF := Lib.hid hF
    have HI := Lib.hid hi
    clear hF hi
    by_cases hil : i < l.length
    · have d1 : decide ((i : Int) < (l.length : Int)) = true := by simp; omega
      have HIL := Lib.hid hil
      obtain ⟨hon, hfq⟩ := HALL.out i hil
      obtain ⟨g, rfl, hg, xi, ci, xo, co, xl, cl, xe, ce, hrg, t1, t2, t3, t4⟩ := nd_at HK.out i hil
      rw [List.drop_eq_getElem_cons hil] at hq
      obtain ⟨n, hn⟩ : ∃ n, n = l[i]'HIL.out := ⟨_, rfl⟩
      rw [← hn] at hrg t1 t2 t3 t4 hon hfq hq
      have HRG := Lib.hid (rangeAt_below hrg HF.out.below hg)
      have HAL := Lib.hid (heap_alloc_new wr (.cells #[.string ⟨#[]⟩, .slice none 0 0, .slice none 0 0, .slice none 0 0, .slice none 0 0, .int .i64 0] 49))
      obtain ⟨hnb, hnr⟩ := new_row wr 49 #[.string ⟨#[]⟩, .slice none 0 0, .slice none 0 0, .slice none 0 0, .slice none 0 0, .int .i64 0] #[.string n.name, .slice xi n.ins.length ci, .slice xo n.outs.length co, .slice xl n.locs.length cl, .slice xe n.eqs.length ce, .int .i64 (n.at_ : Int)]
      have HN1 := Lib.hid hnr
      have FN : Fx w [(w.heap.size, 32, #[.int .i64 0, .int .i64 0]), (wr.heap.size, 49, #[.string n.name, .slice xi n.ins.length ci, .slice xo n.outs.length co, .slice xl n.locs.length cl, .slice xe n.eqs.length ce, .int .i64 (n.at_ : Int)])] ((wr.alloc (.cells #[.string ⟨#[]⟩, .slice none 0 0, .slice none 0 0, .slice none 0 0, .slice none 0 0, .int .i64 0] 49)).setRow wr.heap.size #[.string n.name, .slice xi n.ins.length ci, .slice xo n.outs.length co, .slice xl n.locs.length cl, .slice xe n.eqs.length ce, .int .i64 (n.at_ : Int)]) := (HF.out.alloc wr.heap.size rfl 49 #[.string ⟨#[]⟩, .slice none 0 0, .slice none 0 0, .slice none 0 0, .slice none 0 0, .int .i64 0]).store 1 rfl #[.string n.name, .slice xi n.ins.length ci, .slice xo n.outs.length co, .slice xl n.locs.length cl, .slice xe n.eqs.length ce, .int .i64 (n.at_ : Int)]
      have ks := checkerOf_any n hon hfq ((wr.alloc (.cells #[.string ⟨#[]⟩, .slice none 0 0, .slice none 0 0, .slice none 0 0, .slice none 0 0, .int .i64 0] 49)).setRow wr.heap.size #[.string n.name, .slice xi n.ins.length ci, .slice xo n.outs.length co, .slice xl n.locs.length cl, .slice xe n.eqs.length ce, .int .i64 (n.at_ : Int)]) ok xi xo xl xe ci co cl ce (NdIn.below FN.below ⟨t1, t2, t3, t4⟩)
      unfold ndV GivesCo at ks
      have HOE := Lib.hid (show okQs n.eqs = true by simp only [okNd, Bool.and_eq_true] at hon; exact hon.2.2.2.2.2)
      have HFQ := Lib.hid hfq
      have HQ := Lib.hid hq
      have HTE := Lib.hid t4
      have HF1 := Lib.hid FN
      have i0 : (0 : Int) ≤ (i : Int) := by omega
      have i1 : (i : Int) < (l.length : Int) := by omega
      clear hil hon hfq hrg hg t1 t2 t3 t4 hn hq hnb hnr FN HF
      go_wp2_with (first | (refine wpList_load_mid rfl 49 (.tmp 13) rfl g (i * 6) rfl (ndC n xi xo xl xe ci co cl ce) _ ?_ Try.underlying49 rfl HSN.out ?_; (exact HRG.out)) | (refine wpList_store_row rfl 49 (.tmp 4) (.tmp 14) rfl (wr.heap.size) #[.string n.name, .slice xi n.ins.length ci, .slice xo n.outs.length co, .slice xl n.locs.length cl, .slice xe n.eqs.length ce, .int .i64 (n.at_ : Int)] rfl rfl 49 #[.string ⟨#[]⟩, .slice none 0 0, .slice none 0 0, .slice none 0 0, .slice none 0 0, .int .i64 0] ?_ HSN.out rfl (n4_one _ _ _ _ _ _ _ _ _ _ _ _ _ _) ?_; (exact HAL.out)) | (refine wpList_load_row rfl 49 (.tmp 4) rfl (wr.heap.size) rfl 49 #[.string n.name, .slice xi n.ins.length ci, .slice xo n.outs.length co, .slice xl n.locs.length cl, .slice xe n.eqs.length ce, .int .i64 (n.at_ : Int)] (0, 0) _ ?_ Try.underlying49 rfl HSN.out ?_; (exact HN1.out)))
      (with_reducible refine ks.mono ?_)
      rintro e9 w1 ⟨bl, bw, k, m, rfl, hS, hW, hb⟩
      have P1 := HF1.out.call hb
      have P2 : Fx w [(w.heap.size, 32, #[.int .i64 0, .int .i64 0]), (wr.heap.size, 49, #[.string n.name, .slice xi n.ins.length ci, .slice xo n.outs.length co, .slice xl n.locs.length cl, .slice xe n.eqs.length ce, .int .i64 (n.at_ : Int)]), (w1.heap.size, 120, #[.map (some bl), .map (some bw)])] ((w1.alloc (.cells #[.map none, .map none] 120)).setRow w1.heap.size #[.map (some bl), .map (some bw)]) := (P1.alloc w1.heap.size rfl 120 #[.map none, .map none]).store 2 rfl #[.map (some bl), .map (some bw)]
      have HA5 := Lib.hid (heap_alloc_new w1 (.cells #[.map none, .map none] 120))
      obtain ⟨hnb, hnr⟩ := new_row w1 120 #[.map none, .map none] #[.map (some bl), .map (some bw)]
      have c4 := cell_of_row _ (wr.heap.size) 4 _ _ _ (P2.get 1 rfl)
      have HF2 := Lib.hid P2
      have HS2 := Lib.hid (SetI.below hS hnb)
      have HW2 := Lib.hid (SetI.below hW hnb)
      clear P1 P2 hb hS hW ks HRG HAL HN1 HF1 i0 i1 hnb hnr
      go_wp2_with (refine wpList_store_row rfl 120 (.tmp 5) (.tmp 16) rfl (w1.heap.size) #[.map (some bl), .map (some bw)] rfl rfl 120 #[.map none, .map none] ?_ HSC.out rfl (ck_oneI _ _) ?_; (exact HA5.out))
      obtain ⟨w5, rfl⟩ : ∃ w5 : World, w5 = wr := ⟨_, rfl⟩
      obtain ⟨b5, hb5⟩ : ∃ b5, b5 = w1.heap.size := ⟨_, rfl⟩
      rw [← hb5] at HF2 HS2 HW2 ⊢
      clear c4 HA5 hb5
      go_loopw [20] (fun v20 wr => ∃ (j : Nat), v20 = .int .i64 (j : Int) ∧ j ≤ n.eqs.length ∧ Fx w [(w.heap.size, 32, #[.int .i64 0, .int .i64 0]), (w5.heap.size, 49, #[.string n.name, .slice xi n.ins.length ci, .slice xo n.outs.length co, .slice xl n.locs.length cl, .slice xe n.eqs.length ce, .int .i64 (n.at_ : Int)]), (b5, 120, #[.map (some bl), .map (some bw)])] wr ∧ SetI wr bl k (lateB n) ∧ SetI wr bw m (wantI n) ∧ eqsI (lateB n) (wantI n) n.eqs = eqsI (lateB n) (wantI n) (n.eqs.drop j))
        (fun v20 _ => n.eqs.length - (intOf v20).toNat)
      case atStart => exact ⟨0, rfl, Nat.zero_le _, HF2.out, HS2.out, HW2.out, by rw [List.drop_zero]⟩
      case round =>
        clear HF2 HS2 HW2
        obtain ⟨j, rfl, hj, hF, hS, hW, hq⟩ := hrel
        have HF := Lib.hid hF
        have HS := Lib.hid hS
        have HW := Lib.hid hW
        have HJE := Lib.hid hj
        clear hF hj hS hW
        by_cases hjl : j < n.eqs.length
        · have d1 : decide ((j : Int) < (n.eqs.length : Int)) = true := by simp; omega
          have HJL := Lib.hid hjl
          rw [List.drop_eq_getElem_cons hjl] at hq
          obtain ⟨g1, rfl, hg1, xk, ck, hrg1, hkk⟩ := qe_at HTE.out j hjl
          have hoq := okQs_at HOE.out j hjl
          have hfe := fewQs_mem HFQ.out (List.getElem_mem hjl)
          obtain ⟨q, hqq⟩ : ∃ q, q = n.eqs[j]'HJL.out := ⟨_, rfl⟩
          rw [← hqq] at hrg1 hq hoq hkk hfe
          have HRQ := Lib.hid (rangeAt_below hrg1 HF.out.below hg1)
          have HAL := Lib.hid (heap_alloc_new wr (.cells #[.string ⟨#[]⟩, .string ⟨#[]⟩, .string ⟨#[]⟩, .int .i64 0, .int .i64 0, .slice none 0 0, .int .i64 0] 45))
          obtain ⟨hnb, hnr⟩ := new_row wr 45 #[.string ⟨#[]⟩, .string ⟨#[]⟩, .string ⟨#[]⟩, .int .i64 0, .int .i64 0, .slice none 0 0, .int .i64 0] #[.string q.name, .string q.e.op, .string q.e.name, .int .i64 q.e.n, .int .i64 (q.e.at_ : Int), .slice xk q.e.kids.length ck, .int .i64 (q.at_ : Int)]
          have HF1 := Lib.hid (HF.out.call hnb)
          have HN1 := Lib.hid hnr
          have HS1 := Lib.hid (SetI.below HS.out hnb)
          have HW1 := Lib.hid (SetI.below HW.out hnb)
          have HL5 := Lib.hid (HF1.out.get 2 rfl)
          have ke := equationI_any (lateB n) (wantI n) q hoq.1 hoq.2 hfe ((wr.alloc (.cells #[.string ⟨#[]⟩, .string ⟨#[]⟩, .string ⟨#[]⟩, .int .i64 0, .int .i64 0, .slice none 0 0, .int .i64 0] 45)).setRow wr.heap.size #[.string q.name, .string q.e.op, .string q.e.name, .int .i64 q.e.n, .int .i64 (q.e.at_ : Int), .slice xk q.e.kids.length ck, .int .i64 (q.at_ : Int)]) bl bw k m ok xk ck HS1.out HW1.out (IsD.below HF1.out.below hkk)
          unfold qeV at ke
          have i0 : (0 : Int) ≤ (j : Int) := by omega
          have i1 : (j : Int) < (n.eqs.length : Int) := by omega
          have HQ2 := Lib.hid hq
          clear hjl hqq hrg1 hg1 hnb hnr hoq hfe hq hkk
          cases hke : eqI (lateB n) (wantI n) q with
          | none =>
            have HQN := Lib.hid (HQ2.out.trans (eqsI_skip hke))
            rw [hke] at ke
            have ke2 : Calls Try.prog 66 #[.agg #[.map (some bl), .map (some bw)], .agg #[.string q.name, .string q.e.op, .string q.e.name, .int .i64 q.e.n, .int .i64 (q.e.at_ : Int), .slice xk q.e.kids.length ck, .int .i64 (q.at_ : Int)]] ((wr.alloc (.cells #[.string ⟨#[]⟩, .string ⟨#[]⟩, .string ⟨#[]⟩, .int .i64 0, .int .i64 0, .slice none 0 0, .int .i64 0] 45)).setRow wr.heap.size #[.string q.name, .string q.e.op, .string q.e.name, .int .i64 q.e.n, .int .i64 (q.e.at_ : Int), .slice xk q.e.kids.length ck, .int .i64 (q.at_ : Int)]) (fun e w' => e = .returned (.agg #[.int .i64 0, .int .i64 0]) ∧ Below ((wr.alloc (.cells #[.string ⟨#[]⟩, .string ⟨#[]⟩, .string ⟨#[]⟩, .int .i64 0, .int .i64 0, .slice none 0 0, .int .i64 0] 45)).setRow wr.heap.size #[.string q.name, .string q.e.op, .string q.e.name, .int .i64 q.e.n, .int .i64 (q.e.at_ : Int), .slice xk q.e.kids.length ck, .int .i64 (q.at_ : Int)]).heap.size ((wr.alloc (.cells #[.string ⟨#[]⟩, .string ⟨#[]⟩, .string ⟨#[]⟩, .int .i64 0, .int .i64 0, .slice none 0 0, .int .i64 0] 45)).setRow wr.heap.size #[.string q.name, .string q.e.op, .string q.e.name, .int .i64 q.e.n, .int .i64 (q.e.at_ : Int), .slice xk q.e.kids.length ck, .int .i64 (q.at_ : Int)]) w') := ke
            clear ke hke HQ2
            go_wp2_with (first | (refine wpList_load_mid rfl 45 (.tmp 22) rfl g1 (j * 7) rfl (qeC q.name q.e xk ck (q.at_ : Int)) _ ?_ Try.underlying45 rfl HSQ.out ?_; (exact HRQ.out)) | (refine wpList_store_row rfl 45 (.tmp 7) (.tmp 23) rfl (wr.heap.size) #[.string q.name, .string q.e.op, .string q.e.name, .int .i64 q.e.n, .int .i64 (q.e.at_ : Int), .slice xk q.e.kids.length ck, .int .i64 (q.at_ : Int)] rfl rfl 45 #[.string ⟨#[]⟩, .string ⟨#[]⟩, .string ⟨#[]⟩, .int .i64 0, .int .i64 0, .slice none 0 0, .int .i64 0] ?_ HSQ.out rfl (qS_one _ _ _ _ _ _ _ _ _) ?_; (exact HAL.out)) | (refine wpList_load_row rfl 45 (.tmp 7) rfl (wr.heap.size) rfl 45 #[.string q.name, .string q.e.op, .string q.e.name, .int .i64 q.e.n, .int .i64 (q.e.at_ : Int), .slice xk q.e.kids.length ck, .int .i64 (q.at_ : Int)] (0, 0) _ ?_ Try.underlying45 rfl HSQ.out ?_; (exact HN1.out)) | (refine wpList_load_row rfl 120 (.tmp 5) rfl (b5) rfl 120 #[.map (some bl), .map (some bw)] (0, 0) _ ?_ Try.underlying120 rfl HSC.out ?_; (exact HL5.out)))
            (with_reducible refine ke2.mono ?_)
            rintro e9 w2 ⟨rfl, hb⟩
            have F2 := HF1.out.call hb
            have HAF := Lib.hid (heap_alloc_new w2 (.cells #[.int .i64 0, .int .i64 0] 32))
            obtain ⟨hnb, hnr⟩ := new_row w2 32 #[.int .i64 0, .int .i64 0] #[.int .i64 0, .int .i64 0]
            have c0 := cell_of_row _ w2.heap.size 0 _ _ _ hnr
            have HF3 := Lib.hid (F2.call hnb)
            have HS3 := Lib.hid (SetI.below (SetI.below HS1.out hb) hnb)
            have HW3 := Lib.hid (SetI.below (SetI.below HW1.out hb) hnb)
            clear ke2 hb F2 hnb hnr
            go_wp2_with (refine wpList_store_row rfl 32 (.tmp 8) (.tmp 26) rfl (w2.heap.size) #[.int .i64 0, .int .i64 0] rfl rfl 32 #[.int .i64 0, .int .i64 0] ?_ HSF.out rfl (fault_one _ _) ?_; (exact HAF.out))
            refine ⟨⟨j + 1, wrap_succ (by have := HJL.out; have := IsD.few HTE.out; omega), HJL.out, HF3.out, HS3.out, HW3.out, HQN.out⟩, ?_⟩
            rw [wrap_succ (by have := HJL.out; have := IsD.few HTE.out; omega)]
            have := HJL.out
            simp [intOf]; omega
          | some a =>
            have HR : Hid (R = some a) := Lib.hid (by rw [HRR.out, HQ.out, iniF_hit (by rw [HQ2.out, eqsI_hit hke])])
            rw [hke] at ke
            have ke2 : Calls Try.prog 66 #[.agg #[.map (some bl), .map (some bw)], .agg #[.string q.name, .string q.e.op, .string q.e.name, .int .i64 q.e.n, .int .i64 (q.e.at_ : Int), .slice xk q.e.kids.length ck, .int .i64 (q.at_ : Int)]] ((wr.alloc (.cells #[.string ⟨#[]⟩, .string ⟨#[]⟩, .string ⟨#[]⟩, .int .i64 0, .int .i64 0, .slice none 0 0, .int .i64 0] 45)).setRow wr.heap.size #[.string q.name, .string q.e.op, .string q.e.name, .int .i64 q.e.n, .int .i64 (q.e.at_ : Int), .slice xk q.e.kids.length ck, .int .i64 (q.at_ : Int)]) (fun e w' => e = .returned (.agg #[.int .i64 11, .int .i64 (a : Int)]) ∧ Below ((wr.alloc (.cells #[.string ⟨#[]⟩, .string ⟨#[]⟩, .string ⟨#[]⟩, .int .i64 0, .int .i64 0, .slice none 0 0, .int .i64 0] 45)).setRow wr.heap.size #[.string q.name, .string q.e.op, .string q.e.name, .int .i64 q.e.n, .int .i64 (q.e.at_ : Int), .slice xk q.e.kids.length ck, .int .i64 (q.at_ : Int)]).heap.size ((wr.alloc (.cells #[.string ⟨#[]⟩, .string ⟨#[]⟩, .string ⟨#[]⟩, .int .i64 0, .int .i64 0, .slice none 0 0, .int .i64 0] 45)).setRow wr.heap.size #[.string q.name, .string q.e.op, .string q.e.name, .int .i64 q.e.n, .int .i64 (q.e.at_ : Int), .slice xk q.e.kids.length ck, .int .i64 (q.at_ : Int)]) w') := ke
            clear ke hke HQ2 HQ HRR
            go_wp2_with (first | (refine wpList_load_mid rfl 45 (.tmp 22) rfl g1 (j * 7) rfl (qeC q.name q.e xk ck (q.at_ : Int)) _ ?_ Try.underlying45 rfl HSQ.out ?_; (exact HRQ.out)) | (refine wpList_store_row rfl 45 (.tmp 7) (.tmp 23) rfl (wr.heap.size) #[.string q.name, .string q.e.op, .string q.e.name, .int .i64 q.e.n, .int .i64 (q.e.at_ : Int), .slice xk q.e.kids.length ck, .int .i64 (q.at_ : Int)] rfl rfl 45 #[.string ⟨#[]⟩, .string ⟨#[]⟩, .string ⟨#[]⟩, .int .i64 0, .int .i64 0, .slice none 0 0, .int .i64 0] ?_ HSQ.out rfl (qS_one _ _ _ _ _ _ _ _ _) ?_; (exact HAL.out)) | (refine wpList_load_row rfl 45 (.tmp 7) rfl (wr.heap.size) rfl 45 #[.string q.name, .string q.e.op, .string q.e.name, .int .i64 q.e.n, .int .i64 (q.e.at_ : Int), .slice xk q.e.kids.length ck, .int .i64 (q.at_ : Int)] (0, 0) _ ?_ Try.underlying45 rfl HSQ.out ?_; (exact HN1.out)) | (refine wpList_load_row rfl 120 (.tmp 5) rfl (b5) rfl 120 #[.map (some bl), .map (some bw)] (0, 0) _ ?_ Try.underlying120 rfl HSC.out ?_; (exact HL5.out)))
            (with_reducible refine ke2.mono ?_)
            rintro e9 w2 ⟨rfl, hb⟩
            have F2 := HF1.out.call hb
            have HAF := Lib.hid (heap_alloc_new w2 (.cells #[.int .i64 0, .int .i64 0] 32))
            obtain ⟨hnb, hnr⟩ := new_row w2 32 #[.int .i64 0, .int .i64 0] #[.int .i64 11, .int .i64 (a : Int)]
            have c0 := cell_of_row _ w2.heap.size 0 _ _ _ hnr
            have HF3 := Lib.hid (F2.call hnb)
            have HN3 := Lib.hid hnr
            have HL2 := Lib.hid (HF3.out.get 0 rfl)
            clear ke2 hb F2 hnb hnr
            go_wp2_with (first | (refine wpList_store_row rfl 32 (.tmp 8) (.tmp 26) rfl (w2.heap.size) #[.int .i64 11, .int .i64 (a : Int)] rfl rfl 32 #[.int .i64 0, .int .i64 0] ?_ HSF.out rfl (fault_one _ _) ?_; (exact HAF.out)) | (refine wpList_load_row rfl 32 (.tmp 8) rfl (w2.heap.size) rfl 32 #[.int .i64 11, .int .i64 (a : Int)] (0, 0) _ ?_ Try.underlying32 rfl HSF.out ?_; (exact HN3.out)) | (refine wpList_store_row rfl 32 (.tmp 2) (.tmp 30) rfl (w.heap.size) #[.int .i64 11, .int .i64 (a : Int)] rfl rfl 32 #[.int .i64 0, .int .i64 0] ?_ HSF.out rfl (fault_one _ _) ?_; (exact HL2.out)))
            refine bodyPost_ret (v := .agg #[.int .i64 11, .int .i64 (a : Int)]) (results_cell_row (p := 2) (ty := 32) rfl _ _ (w.heap.size) 32 _ (0, 0) _ rfl (setRow_heap _ (w.heap.size) _ _ _ _ HL2.out) Try.underlying32 rfl HSF.out) rfl ?_
            rw [HR.out]
            exact ⟨rfl, below_setRow HF3.out.below (by omega) _⟩
        · have d1 : decide ((j : Int) < (n.eqs.length : Int)) = false := by simp; omega
          have hnil : n.eqs.drop j = [] := List.drop_of_length_le (by omega)
          have HQN := Lib.hid (show iniF l = iniF (l.drop (i + 1)) by rw [HQ.out, iniF_skip (by rw [hq, hnil]; rfl)])
          obtain rfl : j = n.eqs.length := by have := HJE.out; omega
          have HFE : Hid (Fx w [(w.heap.size, 32, #[.int .i64 0, .int .i64 0])] wr) := Lib.hid (Fx.first (bl := [_]) (cl := [_, _]) HF.out)
          clear hjl hnil hq
          go_wp2_with fail
          refine ⟨⟨i + 1, wrap_succ (by have := HIL.out; have := IsD.few HK.out; omega), HIL.out, HFE.out, HQN.out⟩, ?_⟩
          rw [wrap_succ (by have := HIL.out; have := IsD.few HK.out; omega)]
          have := HIL.out
          simp [intOf]; omega
    · have d1 : decide ((i : Int) < (l.length : Int)) = false := by simp; omega
      obtain rfl : i = l.length := by have := HI.out; omega
      have HR : Hid (R = none) := Lib.hid (by rw [HRR.out, hq, List.drop_length]; rfl)
      have HL2 := Lib.hid (HF.out.get 0 rfl)
      have bz : ∀ W : World, (Instr.build 32 #[]).run Try.prog W = .ok (.agg #[.int .i64 0, .int .i64 0]) W := fun W => by kernel_rfl
      clear hil hq
      go_wp2_with (refine wpList_store_row rfl 32 (.tmp 2) (.tmp 33) rfl (w.heap.size) #[.int .i64 0, .int .i64 0] rfl rfl 32 #[.int .i64 0, .int .i64 0] ?_ HSF.out rfl (fault_one _ _) ?_; (exact HL2.out))
      refine bodyPost_ret (v := .agg #[.int .i64 0, .int .i64 0]) (results_cell_row (p := 2) (ty := 32) rfl _ _ (w.heap.size) 32 _ (0, 0) _ rfl (setRow_heap _ (w.heap.size) _ _ _ _ HL2.out) Try.underlying32 rfl HSF.out) rfl ?_
      rw [HR.out]
      exact ⟨rfl, below_setRow HF.out.below (by omega) _⟩
end Go.Proofs.Ythlhogfebicooaa

namespace Go.Proofs.Ythlhogfebicooaa
open Go Go.RowKit
theorem zeroCells_size (z : Array Value) (n : Nat) : (Builtin.zeroCells z n).size = n * z.size := by simp [Builtin.zeroCells]
/-- A new row of noughts, cut to nothing: a row of one's own. -/
theorem OwnD.zeros (w : World) (T : TypeId) (sz b n cap : Nat) (z : Array Value) (hz : z.size = sz) (hb : b + 1 ≤ w.heap.size) (hc : cap ≤ maxLen) (hn : n ≤ cap) : OwnD T sz (w.drew.alloc (.cells (Builtin.zeroCells z n ++ Builtin.zeroCells z (cap - n)) T)) b (.slice (some ⟨w.heap.size, 0, none⟩) 0 cap) 0 [] := by
  refine ⟨[], ⟨by simp, .inr ⟨w.heap.size, cap, _, rfl, hb, heap_alloc_new w.drew _, Nat.zero_le _, hc, ?_, by simp⟩⟩, trivial⟩
  rw [Array.size_append, zeroCells_size, zeroCells_size, hz, ← Nat.add_mul]
  congr 1
  omega
set_option maxHeartbeats 4000000 in
set_option maxRecDepth 100000 in
theorem Grow_any (n b : Nat) (hn : n ≤ 1000000000) (w : World) (hb : b + 1 ≤ w.heap.size) : Calls Try.prog 102 #[.slice none 0 0, .int .i64 (n : Int)] w (fun e w' => ∃ v, e = .returned v ∧ OwnD 127 5 w' b v 0 [] ∧ Below w.heap.size w w') := by
  have d0 : decide ((n : Int) < 0) = false := by simp
  have hw : wrap64 (n : Int) = (n : Int) := by unfold wrap64; omega
  by_cases hz : n = 0
  · subst hz
    go_enter Try.func102, Try.ntmps102
    go_wp2_with fail
    go_ret
    exact ⟨_, rfl, OwnD.nil _ _ _ _, Below.refl _ _⟩
  · have d1 : 0 < n := by omega
    obtain ⟨i, hi, ⟨z, hz0, hz1⟩, hsi, hby⟩ := info_vS
    have hr := fun ty => Lib.run_append_nil_zeros (P := Try.prog) w 46 3 ty 127 i z .i64 .i64 Try.underlying46 Try.underlying3 hi hz0 n (by omega) (by omega) (by omega) (by rw [hby]; omega)
    obtain ⟨cap, hcap⟩ : ∃ cap, cap = grownCap w n 0 127 := ⟨_, rfl⟩
    have hge := grownCap_ge w n 0 127
    have hle := grownCap_le_maxLen w n 0 127 (Nat.le_trans hn (by decide))
    rw [← hcap] at hr hge hle
    have HO := Lib.hid (OwnD.zeros w 127 5 b n cap z.cells hz1 hb hle hge)
    have HBE := Lib.hid ((Below.refl w.heap.size w).drew.alloc (Nat.le_refl _) (.cells (Builtin.zeroCells z.cells n ++ Builtin.zeroCells z.cells (cap - n)) 127))
    have HR := Lib.hid hr
    have HGE := Lib.hid hge
    obtain ⟨cs, hcs⟩ : ∃ cs, cs = Builtin.zeroCells z.cells n ++ Builtin.zeroCells z.cells (cap - n) := ⟨_, rfl⟩
    rw [← hcs] at HO HBE HR
    clear hr hge hle hcap hz hcs
    go_enter Try.func102, Try.ntmps102
    go_wp2_with (at_builtin; refine Lib.wpList_append_run _ rfl _ _ _ _ rfl _ _ rfl rfl _ _ (HR.out _) ?_)
    go_ret
    exact ⟨_, rfl, HO.out, HBE.out⟩
end Go.Proofs.Ythlhogfebicooaa

namespace Go.Proofs.Ythlhogfebicooaa
open Go Go.RowKit
def rowD (l : List Vr) : Dt := .sl l.length (vrsD l)
theorem rowD_flat (L : List (List Vr)) : L.map rowD = L.flatMap (fun l => [rowD l]) := by
  induction L with
  | nil => rfl
  | cons a r ih => rw [List.flatMap_cons, ← ih]; rfl
theorem rows_at {ok : Nat → Prop} {w : World} {L : List (List Vr)} {x : Option Addr} {c : Nat} (h : IsD ok w (.slice x L.length c) (.sl L.length (L.map rowD))) (i : Nat) (hi : i < L.length) : ∃ g, x = some ⟨g, 0, none⟩ ∧ g < w.heap.size ∧ ∃ xl cl, w.cell? ⟨g, i, none⟩ = some (.slice xl L[i].length cl) ∧ IsD ok w (.slice xl L[i].length cl) (.sl L[i].length (vrsD L[i])) := by
  obtain ⟨g, e1, _, e3, e4⟩ := IsD.some_ h (by omega)
  rw [rowD_flat] at e4
  have h5 := IsDs.nth (f := fun l : List Vr => [rowD l]) (sz := 1) (fun _ => rfl) L i 0 hi e4
  rw [Nat.zero_add, Nat.mul_one] at h5
  unfold IsDs at h5
  obtain ⟨⟨u, q1, q2⟩, _⟩ := h5
  obtain ⟨xl, cl, rfl, _, _⟩ := IsD.slice q2
  exact ⟨g, e1, e3, xl, cl, q1, q2⟩
def lens (L : List (List Vr)) : Nat := (L.map List.length).sum
theorem lens_take {L : List (List Vr)} {i : Nat} (h : i < L.length) : lens (L.take (i + 1)) = lens (L.take i) + L[i].length := by
  have e : L.take (i + 1) = L.take i ++ [L[i]] := by rw [List.take_add_one, List.getElem?_eq_getElem h]; rfl
  rw [e]
  unfold lens
  rw [List.map_append, List.sum_append]
  simp
theorem lens_le (L : List (List Vr)) (i : Nat) : lens (L.take i) ≤ lens L := by
  have : lens L = lens (L.take i) + lens (L.drop i) := by
    unfold lens
    rw [← List.sum_append, ← List.map_append, List.take_append_drop]
  omega
theorem flat_take {L : List (List Vr)} {i : Nat} (h : i < L.length) : vrsD (L.take i).flatten ++ vrsD L[i] = vrsD (L.take (i + 1)).flatten := by
  have e : L.take (i + 1) = L.take i ++ [L[i]] := by rw [List.take_add_one, List.getElem?_eq_getElem h]; rfl
  rw [← vrsD_app, e, List.flatten_append]
  simp
theorem lens_flat (L : List (List Vr)) : lens L = L.flatten.length := by
  unfold lens
  rw [List.length_flatten]
def GivesVs (l : List Vr) (w : World) (e : Ending) (w' : World) : Prop := ∃ x c, e = .returned (.slice x l.length c) ∧ IsD (w.heap.size ≤ ·) w' (.slice x l.length c) (.sl l.length (vrsD l)) ∧ Below w.heap.size w w'
set_option maxHeartbeats 4000000 in
set_option maxRecDepth 100000 in
theorem Concat_any (L : List (List Vr)) (hT : lens L ≤ 1000000000) (w : World) (hw : 0 < w.heap.size) (ok : Nat → Prop) (x : Option Addr) (c : Nat) (hk : IsD ok w (.slice x L.length c) (.sl L.length (L.map rowD))) : Calls Try.prog 70 #[.slice x L.length c] w (GivesVs L.flatten w) := by
  have HK := Lib.hid hk
  have HT := Lib.hid hT
  have HW := Lib.hid hw
  have HIV := Lib.hid info_vS
  clear hk hT hw
  go_enter Try.func70, Try.ntmps70
  go_wp2_with fail
  go_loopw [3, 11] (fun v3 v11 wr => ∃ (j S : Nat), v3 = .int .i64 (S : Int) ∧ v11 = .int .i64 (j : Int) ∧ j ≤ L.length ∧ S = lens (L.take j) ∧ w = wr)
    (fun _ v11 _ => L.length - (intOf v11).toNat)
  case atStart => exact ⟨0, 0, rfl, rfl, Nat.zero_le _, rfl, rfl⟩
  case round =>
    obtain ⟨j, S, rfl, rfl, hj, hS, rfl⟩ := hrel
    have HJ := Lib.hid hj
    have HS := Lib.hid hS
    clear hj hS
    by_cases hjl : j < L.length
    · have d1 : decide ((j : Int) < (L.length : Int)) = true := by simp; omega
      have HJL := Lib.hid hjl
      obtain ⟨g, rfl, hg, xl, cl, hc, hl⟩ := rows_at HK.out j hjl
      obtain ⟨l, hll⟩ : ∃ l, l = L[j]'HJL.out := ⟨_, rfl⟩
      rw [← hll] at hc hl
      have HLL := Lib.hid hll
      obtain ⟨S', hS'⟩ : ∃ S', S' = S + l.length := ⟨_, rfl⟩
      have hle := lens_le L (j + 1)
      have hlt := lens_take hjl
      rw [← hll, ← HS.out, ← hS'] at hlt
      rw [hlt] at hle
      have hw1 : wrap64 ((S : Int) + (l.length : Int)) = (S' : Int) := by have := HT.out; unfold wrap64; omega
      have HW1 := Lib.hid hw1
      have d2 : decide ((S' : Int) < 0) = false := by simp
      have HLT := Lib.hid hlt.symm
      have i0 : (0 : Int) ≤ (j : Int) := by omega
      have i1 : (j : Int) < (L.length : Int) := by omega
      clear hjl hg hl hll hS' hle hlt
      go_wp2_with fail
      refine ⟨⟨j + 1, S', by rw [HW1.out], wrap_succ (by have := HJL.out; have := IsD.few HK.out; omega), HJL.out, HLT.out, trivial⟩, ?_⟩
      rw [wrap_succ (by have := HJL.out; have := IsD.few HK.out; omega)]
      simp [intOf]; omega
    · have d1 : decide ((j : Int) < (L.length : Int)) = false := by simp; omega
      obtain rfl : j = L.length := by have := HJ.out; omega
      have hS2 : S = lens L := by rw [HS.out, List.take_length]
      have HS2 := Lib.hid hS2
      have kg := Grow_any S (w.heap.size - 1) (by rw [hS2]; exact HT.out) w (by have := HW.out; omega)
      clear hjl HS hS2
      go_wp2_with fail
      (with_reducible refine kg.mono ?_)
      rintro e9 w1 ⟨v, rfl, hO, hb⟩
      have HO := Lib.hid hO
      have HB := Lib.hid hb
      clear kg hO hb
      go_wp2_with fail
      go_loopw [6, 27] (fun v6 v27 wr => ∃ (V : Value) (j : Nat), V = v6 ∧ v27 = .int .i64 (j : Int) ∧ j ≤ L.length ∧ OwnD 127 5 wr (w.heap.size - 1) V (lens (L.take j)) (vrsD (L.take j).flatten) ∧ Below w.heap.size w wr)
        (fun _ v27 _ => L.length - (intOf v27).toNat)
      case atStart => exact ⟨_, 0, rfl, rfl, Nat.zero_le _, HO.out, HB.out⟩
      case round =>
        clear HO HB
        obtain ⟨V, j, rfl, rfl, hj, hO, hb⟩ := hrel
        have HO := Lib.hid hO
        have HB := Lib.hid hb
        have HJ := Lib.hid hj
        obtain ⟨S, hS⟩ : ∃ S, S = lens (L.take j) := ⟨_, rfl⟩
        rw [← hS] at hO
        obtain ⟨xv, cv, rfl, _, _⟩ := hO.slice
        have HS := Lib.hid hS
        have HO := Lib.hid hO
        clear hO hb hj hS
        by_cases hjl : j < L.length
        · have d1 : decide ((j : Int) < (L.length : Int)) = true := by simp; omega
          have HJL := Lib.hid hjl
          obtain ⟨g, rfl, hg, xl, cl, hc, hl⟩ := rows_at HK.out j hjl
          obtain ⟨l, hll⟩ : ∃ l, l = L[j]'HJL.out := ⟨_, rfl⟩
          rw [← hll] at hc hl
          have HLL := Lib.hid hll
          have hc' : wr.cell? ⟨g, j, none⟩ = some (.slice xl l.length cl) := by
            have e := HB.out.block g hg
            simp only [World.cell?] at hc ⊢
            rw [e]; exact hc
          have HD := Lib.hid (IsD.below HB.out hl)
          have HBW := Lib.hid (show w.heap.size - 1 + 1 ≤ wr.heap.size by have := HB.out.size; have := HW.out; omega)
          have hlt := lens_take hjl
          have hle := lens_le L (j + 1)
          rw [← hll, ← HS.out] at hlt
          have HLT := Lib.hid hlt
          have HNM := Lib.hid (show S + l.length ≤ 100000000000 by have := HT.out; omega)
          have i0 : (0 : Int) ≤ (j : Int) := by omega
          have i1 : (j : Int) < (L.length : Int) := by omega
          clear hjl hg hc hl hll hlt hle
          go_wp2_with (at_builtin; refine wpList_appH rfl (.tmp 31) (.tmp 32) 46 rfl 56 Try.underlying46 HIV.out (by decide) (by decide) rfl HO.out HBW.out (vrsD l) rfl HD.out (vrsD_len l) (vrsD_plain l) (vrsD_ones l) HNM.out ?_)
          intro v' w' hO' hg' _
          rw [HLL.out, flat_take HJL.out, ← HLL.out, ← HLT.out] at hO'
          have HO2 := Lib.hid hO'
          have HB2 := Lib.hid (below_own HB.out hg' (fun k hk => by have := (HO.out.gt k hk).1; omega))
          clear hO' hg' hc'
          go_wp2_with fail
          refine ⟨⟨_, j + 1, rfl, wrap_succ (by have := HJL.out; have := IsD.few HK.out; omega), HJL.out, HO2.out, HB2.out⟩, ?_⟩
          rw [wrap_succ (by have := HJL.out; have := IsD.few HK.out; omega)]
          simp [intOf]; omega
        · have d1 : decide ((j : Int) < (L.length : Int)) = false := by simp; omega
          obtain rfl : j = L.length := by have := HJ.out; omega
          have HZ := Lib.hid HO.out
          clear hjl
          go_wp2_with fail
          go_ret
          have h := HZ.out
          rw [List.take_length] at h
          have hs : S = L.flatten.length := by rw [HS.out, List.take_length, lens_flat]
          subst hs
          exact ⟨xv, cv, rfl, (h.ends (by rw [← lens_flat]; exact HT.out)).mono (fun k hk _ => by have : w.heap.size - 1 < k := hk; show w.heap.size ≤ k; omega), HB.out⟩
end Go.Proofs.Ythlhogfebicooaa

namespace Go.Proofs.Ythlhogfebicooaa
open Go Go.RowKit
theorem Kinds.look_ok {w : World} {b n : Nat} {g : List UInt8 → Option Int} (h : Kinds w b n g) (s : ByteArray) (hs : s.size ≤ maxLen) : (Instr.lookup 87 (.map (some b)) (.string s) true).run Try.prog w = .ok (.tuple #[.int .i64 (kindOf g s), .bool (g s.data.toList).isSome]) w := by
  have := MapO.look_ok h Try.underlying9 Try.underlying87 (zero_kind w) s hs
  rw [this]
  unfold kindOf
  cases g s.data.toList <;> rfl
theorem okVs_app {a b : List Vr} (ha : okVs a = true) (hb : okVs b = true) : okVs (a ++ b) = true := by
  unfold okVs at *
  rw [List.all_append, ha, hb]; rfl
end Go.Proofs.Ythlhogfebicooaa

namespace Go.Proofs.Ythlhogfebicooaa
open Go Go.RowKit
def namesL (g : List UInt8 → Bool) (l : List Vr) : List ByteArray := (l.filter (fun v => g v.name.data.toList)).map (fun v => v.name)
/-- A node's late names, in the order in which they are declared. -/
noncomputable def lateL (n : Nd) : List ByteArray := namesL (lateB n) [n.ins, n.outs, n.locs].flatten
theorem namesL_hit (g : List UInt8 → Bool) (l : List Vr) (v : Vr) (h : g v.name.data.toList = true) : namesL g (l ++ [v]) = namesL g l ++ [v.name] := by
  unfold namesL
  rw [List.filter_append, List.map_append]
  simp [h]
theorem namesL_skip (g : List UInt8 → Bool) (l : List Vr) (v : Vr) (h : g v.name.data.toList = false) : namesL g (l ++ [v]) = namesL g l := by
  unfold namesL
  rw [List.filter_append, List.map_append]
  simp [h]
theorem namesL_len (g : List UInt8 → Bool) (l : List Vr) : (namesL g l).length ≤ l.length := by unfold namesL; rw [List.length_map]; exact List.length_filter_le _ _
def GivesTx (L : List ByteArray) (w : World) (e : Ending) (w' : World) : Prop := ∃ x c, e = .returned (.slice x L.length c) ∧ IsD (w.heap.size ≤ ·) w' (.slice x L.length c) (.sl L.length (TxD L)) ∧ Below w.heap.size w w'
theorem sl_three (xi xo xl : Option Addr) (a b d ci co cl : Nat) (W : World) : (Instr.buildSlice 177 3 #[(0, .slice xi a ci), (1, .slice xo b co), (2, .slice xl d cl)]).run Try.prog W = .ok (.slice (some ⟨W.heap.size, 0, none⟩) 3 3) (W.alloc (.cells #[.slice xi a ci, .slice xo b co, .slice xl d cl] 46)) := by kernel_rfl
set_option maxHeartbeats 4000000 in
set_option maxRecDepth 100000 in
theorem iniLate_any (n : Nd) (hon : okNd n = true) (hfq : fewQs n.eqs = true) (w : World) (ok : Nat → Prop) (xi xo xl xe : Option Addr) (ci co cl ce : Nat) (hkn : NdIn ok w n xi xo xl xe ci co cl ce) : Calls Try.prog 35 #[ndV n xi xo xl xe ci co cl ce] w (GivesTx (lateL n) w) := by
  have HSN := Lib.hid size_nS
  have HSV := Lib.hid size_vS
  have HIS := Lib.hid info_strI
  have F0 := (Fx.start w).alloc (w.heap.size) rfl 49 #[.string n.name, .slice xi n.ins.length ci, .slice xo n.outs.length co, .slice xl n.locs.length cl, .slice xe n.eqs.length ce, .int .i64 (n.at_ : Int)]
  have kl := lateOf_any n hon hfq (w.alloc (.cells #[.string n.name, .slice xi n.ins.length ci, .slice xo n.outs.length co, .slice xl n.locs.length cl, .slice xe n.eqs.length ce, .int .i64 (n.at_ : Int)] 49)) ok xi xo xl xe ci co cl ce (NdIn.below F0.below hkn)
  unfold GivesLo ndV at kl
  have HF0 := Lib.hid F0
  have HL0 := Lib.hid (F0.get 0 rfl)
  have hon' := hon
  simp only [okNd, Bool.and_eq_true, decide_eq_true_eq] at hon'
  have HOV := Lib.hid (show okVs [n.ins, n.outs, n.locs].flatten = true from okVs_app hon'.2.2.1 (okVs_app hon'.2.2.2.1 (okVs_app hon'.2.2.2.2.1 rfl)))
  have HDL := Lib.hid (show [n.ins, n.outs, n.locs].flatten.length ≤ 1000000 by have := hon'.1; show (n.ins ++ (n.outs ++ (n.locs ++ []))).length ≤ _; simp; omega)
  have HKN := Lib.hid hkn
  obtain ⟨R, hR⟩ : ∃ R, R = lateL n := ⟨_, rfl⟩
  rw [← hR]
  unfold lateL at hR
  have HRR := Lib.hid hR
  clear F0 hon hon' hfq hkn hR
  unfold ndV
  go_enter Try.func35, Try.ntmps35
  go_wp2_with (refine wpList_load_row rfl 49 (.tmp 1) rfl (w.heap.size) rfl 49 #[.string n.name, .slice xi n.ins.length ci, .slice xo n.outs.length co, .slice xl n.locs.length cl, .slice xe n.eqs.length ce, .int .i64 (n.at_ : Int)] (0, 0) _ ?_ Try.underlying49 rfl HSN.out ?_; (exact HL0.out))
  (with_reducible refine kl.mono ?_)
  rintro e9 w2 ⟨bl, k, rfl, hS, _, _, hb⟩
  have F2 := HF0.out.call hb
  have c1 := cell_of_row _ (w.heap.size) 1 _ _ _ (F2.get 0 rfl)
  have c2 := cell_of_row _ (w.heap.size) 2 _ _ _ (F2.get 0 rfl)
  have c3 := cell_of_row _ (w.heap.size) 3 _ _ _ (F2.get 0 rfl)
  have hmk : Below w2.heap.size w2 (w2.alloc (.cells #[.slice xi n.ins.length ci, .slice xo n.outs.length co, .slice xl n.locs.length cl] 46)) := (Below.refl _ _).alloc (Nat.le_refl _) _
  have F3 := F2.call hmk
  have hd : IsD (fun _ => True) (w2.alloc (.cells #[.slice xi n.ins.length ci, .slice xo n.outs.length co, .slice xl n.locs.length cl] 46)) (.slice (some ⟨w2.heap.size, 0, none⟩) 3 3) (.sl 3 ([n.ins, n.outs, n.locs].map rowD)) := IsD.made 46 _ _ rfl 3 (by decide) (by decide) _ trivial ⟨IsD.mono (fun _ _ _ => trivial) (IsD.below F2.below HKN.out.1), IsD.mono (fun _ _ _ => trivial) (IsD.below F2.below HKN.out.2.1), IsD.mono (fun _ _ _ => trivial) (IsD.below F2.below HKN.out.2.2.1), trivial⟩
  have kc : Calls Try.prog 70 #[.slice (some ⟨w2.heap.size, 0, none⟩) 3 3] (w2.alloc (.cells #[.slice xi n.ins.length ci, .slice xo n.outs.length co, .slice xl n.locs.length cl] 46)) _ := Concat_any [n.ins, n.outs, n.locs] (by rw [lens_flat]; exact Nat.le_trans HDL.out (by decide)) (w2.alloc (.cells #[.slice xi n.ins.length ci, .slice xo n.outs.length co, .slice xl n.locs.length cl] 46)) (by have := F3.lt_ 0 rfl; omega) _ _ 3 hd
  have bs := fun W => sl_three xi xo xl n.ins.length n.outs.length n.locs.length ci co cl W
  obtain ⟨D, hD⟩ : ∃ D, D = [n.ins, n.outs, n.locs].flatten := ⟨_, rfl⟩
  have hRR := HRR.out
  have hOV := HOV.out
  have hDL := HDL.out
  rw [← hD] at kc hRR hOV hDL
  have HF3 := Lib.hid F3
  have HS3 := Lib.hid (SetI.below hS hmk)
  have HR := Lib.hid hRR
  have HOVD := Lib.hid hOV
  have HDD := Lib.hid hDL
  unfold GivesVs at kc
  clear kl hS hb F2 hmk F3 hd hD hRR hOV hDL HRR HOV HDL HF0 HL0
  go_wp2_with fail
  (with_reducible refine kc.mono ?_)
  rintro e9 w5 ⟨xr, cr, rfl, hI, hb⟩
  have HF5 := Lib.hid (HF3.out.call hb)
  have HS5 := Lib.hid (SetI.below HS3.out hb)
  have HI5 := Lib.hid (hI.mono (ok' := (· < w5.heap.size)) (fun k _ hl => hl))
  obtain ⟨b, hb5⟩ : ∃ b, b + 1 = w5.heap.size := ⟨w5.heap.size - 1, by have := HF5.out.lt_ 0 rfl; omega⟩
  have HB5 := Lib.hid hb5
  have HBL := Lib.hid (show bl < w5.heap.size from SetI.lt HS5.out)
  have HBW := Lib.hid (show w.heap.size ≤ b by have := HF5.out.lt_ 0 rfl; omega)
  clear kc hb hI c1 c2 c3 bs hb5
  go_wp2_with fail
  go_loopw [4, 18] (fun v4 v18 wr => ∃ (V : Value) (j : Nat), V = v4 ∧ v18 = .int .i64 (j : Int) ∧ j ≤ D.length ∧ Fx w [(w.heap.size, 49, #[.string n.name, .slice xi n.ins.length ci, .slice xo n.outs.length co, .slice xl n.locs.length cl, .slice xe n.eqs.length ce, .int .i64 (n.at_ : Int)])] wr ∧ SetI wr bl k (lateB n) ∧ IsD (· < w5.heap.size) wr (.slice xr D.length cr) (.sl D.length (vrsD D)) ∧ OwnD 9 1 wr b V (namesL (lateB n) (D.take j)).length (TxD (namesL (lateB n) (D.take j))) ∧ w5.heap.size ≤ wr.heap.size)
    (fun _ v18 _ => D.length - (intOf v18).toNat)
  case atStart => exact ⟨_, 0, rfl, rfl, Nat.zero_le _, HF5.out, HS5.out, HI5.out, OwnD.nil _ _ _ _, Nat.le_refl _⟩
  case round =>
    clear HF5 HS5 HI5
    obtain ⟨V, j, rfl, rfl, hj, hF, hS, hI, hO, hs⟩ := hrel
    have HJ := Lib.hid hj
    have HF := Lib.hid hF
    have HS := Lib.hid hS
    have HI := Lib.hid hI
    have HO := Lib.hid hO
    have HSZ := Lib.hid hs
    clear hj hF hS hI hO hs
    obtain ⟨xv, cv, rfl, _, _⟩ := HO.out.slice
    by_cases hjl : j < D.length
    · have d1 : decide ((j : Int) < (D.length : Int)) = true := by simp; omega
      have HJL := Lib.hid hjl
      obtain ⟨g1, rfl, hg1, hrg1⟩ := var_at HI.out j hjl
      have hov := (okVs_at HOVD.out j hjl).1
      have htk : D.take (j + 1) = D.take j ++ [D[j]'hjl] := by rw [List.take_add_one, List.getElem?_eq_getElem hjl]; rfl
      obtain ⟨v, hv⟩ : ∃ v, v = D[j]'hjl := ⟨_, rfl⟩
      rw [← hv] at hrg1 hov htk
      obtain ⟨L, hL⟩ : ∃ L, L = namesL (lateB n) (D.take j) := ⟨_, rfl⟩
      have hO := HO.out
      rw [← hL] at hO ⊢
      have HO1 := Lib.hid hO
      have HLL := Lib.hid hL
      have HNL := Lib.hid (show L.length + 1 ≤ 100000000000 by have h1 := namesL_len (lateB n) (D.take j); rw [← hL, List.length_take] at h1; have := HDD.out; omega)
      have HRV := Lib.hid hrg1
      have HTK := Lib.hid htk
      have HAL := Lib.hid (heap_alloc_new wr (.cells #[.string ⟨#[]⟩, .int .i64 0, .string ⟨#[]⟩, .bool false, .int .i64 0] 127))
      obtain ⟨hnb, hnr⟩ := new_row wr 127 #[.string ⟨#[]⟩, .int .i64 0, .string ⟨#[]⟩, .bool false, .int .i64 0] #[.string v.name, .int .i64 (v.kind : Int), .string v.on, .bool v.not_, .int .i64 (v.at_ : Int)]
      have c0 := cell_of_row _ wr.heap.size 0 _ _ _ hnr
      have F1 : Fx w [(w.heap.size, 49, #[.string n.name, .slice xi n.ins.length ci, .slice xo n.outs.length co, .slice xl n.locs.length cl, .slice xe n.eqs.length ce, .int .i64 (n.at_ : Int)]), (wr.heap.size, 127, #[.string v.name, .int .i64 (v.kind : Int), .string v.on, .bool v.not_, .int .i64 (v.at_ : Int)])] ((wr.alloc (.cells #[.string ⟨#[]⟩, .int .i64 0, .string ⟨#[]⟩, .bool false, .int .i64 0] 127)).setRow wr.heap.size #[.string v.name, .int .i64 (v.kind : Int), .string v.on, .bool v.not_, .int .i64 (v.at_ : Int)]) := (HF.out.alloc wr.heap.size rfl 127 #[.string ⟨#[]⟩, .int .i64 0, .string ⟨#[]⟩, .bool false, .int .i64 0]).store 1 rfl #[.string v.name, .int .i64 (v.kind : Int), .string v.on, .bool v.not_, .int .i64 (v.at_ : Int)]
      obtain ⟨w6, hw6⟩ : ∃ w6, w6 = ((wr.alloc (.cells #[.string ⟨#[]⟩, .int .i64 0, .string ⟨#[]⟩, .bool false, .int .i64 0] 127)).setRow wr.heap.size #[.string v.name, .int .i64 (v.kind : Int), .string v.on, .bool v.not_, .int .i64 (v.at_ : Int)]) := ⟨_, rfl⟩
      rw [← hw6] at F1 hnb
      have HW6 := Lib.hid hw6
      have HF1 := Lib.hid F1
      have HS1 := Lib.hid (SetI.below HS.out hnb)
      have HI1 := Lib.hid (IsD.below hnb HI.out)
      have HO2 := Lib.hid (HO1.out.below hnb)
      have HZ6 := Lib.hid (Nat.le_trans HSZ.out hnb.size)
      have kh := hasI_any w6 bl k (lateB n) HS1.out v.name hov
      have i0 : (0 : Int) ≤ (j : Int) := by omega
      have i1 : (j : Int) < (D.length : Int) := by omega
      clear hjl hv hrg1 hnb hnr hov hg1 htk F1 hO hL hw6 HO HF HS HI
      cases hlt : lateB n v.name.data.toList with
      | false =>
        rw [hlt] at kh
        have HN2 := Lib.hid (show namesL (lateB n) (D.take (j + 1)) = L by rw [HTK.out, namesL_skip _ _ _ hlt, HLL.out])
        clear hlt
        go_upto_region 6 with (first | (refine wpList_load_mid rfl 127 (.tmp 20) rfl g1 (j * 5) rfl (vrC v) _ ?_ Try.underlying127 rfl HSV.out ?_; (exact HRV.out)) | (refine wpList_store_row rfl 127 (.tmp 6) (.tmp 21) rfl wr.heap.size #[.string v.name, .int .i64 (v.kind : Int), .string v.on, .bool v.not_, .int .i64 (v.at_ : Int)] rfl rfl 127 #[.string ⟨#[]⟩, .int .i64 0, .string ⟨#[]⟩, .bool false, .int .i64 0] ?_ HSV.out rfl (vS_one _ _ _ _ _) ?_; (exact HAL.out)))
        rw [← HW6.out] at c0 ⊢
        go_wp2_with fail
        (with_reducible refine kh.mono ?_)
        rintro e9 w7 ⟨rfl, hb⟩
        have HF2 := Lib.hid (Fx.first (bl := [_]) (cl := [_]) (HF1.out.call hb))
        have HS2 := Lib.hid (SetI.below HS1.out hb)
        have HI2 := Lib.hid (IsD.below hb HI1.out)
        have HO3 := Lib.hid (show OwnD 9 1 w7 b (.slice xv L.length cv) (namesL (lateB n) (D.take (j + 1))).length (TxD (namesL (lateB n) (D.take (j + 1)))) by rw [HN2.out]; exact HO2.out.below hb)
        have HZ7 := Lib.hid (Nat.le_trans HZ6.out hb.size)
        clear kh hb c0
        go_wp2_with fail
        refine ⟨⟨_, j + 1, rfl, wrap_succ (by have := HJL.out; have := HDD.out; omega), HJL.out, HF2.out, HS2.out, HI2.out, HO3.out, HZ7.out⟩, ?_⟩
        rw [wrap_succ (by have := HJL.out; have := HDD.out; omega)]
        have := HJL.out
        simp [intOf]; omega
      | true =>
        rw [hlt] at kh
        have HN2 := Lib.hid (show namesL (lateB n) (D.take (j + 1)) = L ++ [v.name] by rw [HTK.out, namesL_hit _ _ _ hlt, HLL.out])
        clear hlt
        go_upto_region 6 with (first | (refine wpList_load_mid rfl 127 (.tmp 20) rfl g1 (j * 5) rfl (vrC v) _ ?_ Try.underlying127 rfl HSV.out ?_; (exact HRV.out)) | (refine wpList_store_row rfl 127 (.tmp 6) (.tmp 21) rfl wr.heap.size #[.string v.name, .int .i64 (v.kind : Int), .string v.on, .bool v.not_, .int .i64 (v.at_ : Int)] rfl rfl 127 #[.string ⟨#[]⟩, .int .i64 0, .string ⟨#[]⟩, .bool false, .int .i64 0] ?_ HSV.out rfl (vS_one _ _ _ _ _) ?_; (exact HAL.out)))
        rw [← HW6.out] at c0 ⊢
        go_wp2_with fail
        (with_reducible refine kh.mono ?_)
        rintro e9 w7 ⟨rfl, hb⟩
        have F2 := HF1.out.call hb
        have e0 := cell_of_row _ wr.heap.size 0 _ _ _ (F2.get 1 rfl)
        have hb8 : Below w7.heap.size w7 (w7.alloc (.cells #[.string v.name] 9)) := (Below.refl _ _).alloc (Nat.le_refl _) _
        have HF8 := Lib.hid (F2.call hb8)
        have HS8 := Lib.hid (SetI.below (SetI.below HS1.out hb) hb8)
        have HI8 := Lib.hid (IsD.below hb8 (IsD.below hb HI1.out))
        have HO8 := Lib.hid ((HO2.out.below hb).below hb8)
        have HZ8 := Lib.hid (Nat.le_trans HZ6.out (Nat.le_trans hb.size hb8.size))
        have HBW8 := Lib.hid (show b + 1 ≤ (w7.alloc (.cells #[.string v.name] 9)).heap.size by have := HB5.out; have := HZ8.out; omega)
        have HD : Hid (IsD (fun _ => True) (w7.alloc (.cells #[.string v.name] 9)) (.slice (some ⟨w7.heap.size, 0, none⟩) 1 1) (.sl 1 (TxD [v.name]))) := Lib.hid (IsD.made 9 _ _ rfl 1 (by decide) (by decide) _ trivial ⟨by unfold IsD; rfl, trivial⟩)
        have bs := fun W => sl_oneS v.name W
        clear kh hb c0 F2 hb8
        go_wp2_with (at_builtin; refine wpList_appH rfl (.tmp 26) (.tmp 29) 71 rfl 16 Try.underlying71 HIS.out (by decide) (by decide) rfl HO8.out HBW8.out (TxD [v.name]) rfl HD.out rfl (TxD_plain _) (TxD_ones _) HNL.out ?_)
        intro v' w' hO' hg' _
        have hgt := HO8.out.gt
        have F9 := Fx.push HF8.out HO8.out HBW.out (by intro x hx; simp only [List.mem_cons, List.not_mem_nil, or_false] at hx; rcases hx with rfl | rfl; (show 9 ≠ 49; decide); (show 9 ≠ 127; decide)) hg'
        have HF9 := Lib.hid (Fx.first (bl := [_]) (cl := [_]) F9)
        have HS9 := Lib.hid (SetI.kept HS8.out hg' (fun e => by
          have h1 := (hgt _ e.symm).1
          have h2 := HB5.out
          have h3 := HBL.out
          omega))
        have HI9 := Lib.hid (IsD.grown hg' (fun k hk => by have := (hgt k hk).1; have := HB5.out; omega) HI8.out)
        have HO9 := Lib.hid (show OwnD 9 1 w' b v' (namesL (lateB n) (D.take (j + 1))).length (TxD (namesL (lateB n) (D.take (j + 1)))) by rw [HN2.out, TxD_app, List.length_append]; exact hO')
        have HZ9 := Lib.hid (Nat.le_trans HZ8.out hg'.size)
        clear hO' hg' hgt F9 bs e0
        go_wp2_with fail
        refine ⟨⟨_, j + 1, rfl, wrap_succ (by have := HJL.out; have := HDD.out; omega), HJL.out, HF9.out, HS9.out, HI9.out, HO9.out, HZ9.out⟩, ?_⟩
        rw [wrap_succ (by have := HJL.out; have := HDD.out; omega)]
        have := HJL.out
        simp [intOf]; omega
    · have d1 : decide ((j : Int) < (D.length : Int)) = false := by simp; omega
      have hlast : namesL (lateB n) (D.take j) = R := by rw [List.take_of_length_le (by omega), HR.out]
      have hO := HO.out
      rw [hlast] at hO ⊢
      have HO1 := Lib.hid hO
      have HRL := Lib.hid (show R.length ≤ 1000000000 by rw [HR.out]; have := namesL_len (lateB n) D; have := HDD.out; omega)
      obtain rfl : j = D.length := by have := HJ.out; omega
      clear hjl hO hlast HO
      go_wp2_with fail
      go_ret
      exact ⟨xv, cv, rfl, (HO1.out.ends HRL.out).mono (fun k hk _ => by have := HBW.out; omega), HF.out.below⟩
def wLs (n : Nd) (v : Value) (W : World) : Prop := ∃ b k, v = .map (some b) ∧ SetI W b k (lateB n)
theorem stable_ls (n : Nd) : Stable (wLs n) := fun _ _ _ ⟨b, k, h1, h2⟩ hb => ⟨b, k, h1, SetI.below h2 hb⟩
set_option maxHeartbeats 4000000 in
set_option maxRecDepth 100000 in
theorem iniExpr_any (n : Nd) (hon : okNd n = true) (hfq : fewQs n.eqs = true) (w : World) (ok : Nat → Prop) (xi xo xl xe : Option Addr) (ci co cl ce : Nat) (hkn : NdIn ok w n xi xo xl xe ci co cl ce) (e : Ex) (hoe : okE e = true) (hfe : fewE e = true) (okk : Nat → Prop) (x : Option Addr) (c : Nat) (hkk : KidsD okk w e x c) : Calls Try.prog 37 #[ndV n xi xo xl xe ci co cl ce, exV e x c] w (fun e' w' => e' = .returned (.bool (lateI (lateB n) e)) ∧ Below w.heap.size w w') := by
  have HSN := Lib.hid size_nS
  have HSE := Lib.hid size_eS
  have P0 := ((Fx.start w).alloc (w.heap.size) rfl 49 #[.string n.name, .slice xi n.ins.length ci, .slice xo n.outs.length co, .slice xl n.locs.length cl, .slice xe n.eqs.length ce, .int .i64 (n.at_ : Int)]).alloc (w.heap.size + 1) (by simp) 43 #[.string e.op, .string e.name, .int .i64 e.n, .int .i64 (e.at_ : Int), .slice x e.kids.length c]
  obtain ⟨W0, hW0⟩ : ∃ W0, W0 = ((w.alloc (.cells #[.string n.name, .slice xi n.ins.length ci, .slice xo n.outs.length co, .slice xl n.locs.length cl, .slice xe n.eqs.length ce, .int .i64 (n.at_ : Int)] 49)).alloc (.cells #[.string e.op, .string e.name, .int .i64 e.n, .int .i64 (e.at_ : Int), .slice x e.kids.length c] 43)) := ⟨_, rfl⟩
  rw [← hW0] at P0
  have HW0 := Lib.hid hW0
  have HP0 := Lib.hid P0
  have KL := Lib.hid (fun (W : World) (hb : Below W0.heap.size W0 W) => lateOf_any n hon hfq W ok xi xo xl xe ci co cl ce (NdIn.below hb (NdIn.below P0.below hkn)))
  have KI := Lib.hid (fun (W : World) (hb : Below W0.heap.size W0 W) (b k : Nat) (hS : SetI W b k (lateB n)) => isLate_any W b k (lateB n) hS e hoe hfe okk x c (IsD.below hb (IsD.below P0.below hkk)))
  obtain ⟨q, hq⟩ : ∃ q, q = lateI (lateB n) e := ⟨_, rfl⟩
  rw [← hq] at KI ⊢
  clear P0 hW0 hq hon hfq hkn hoe hfe hkk
  unfold ndV exV
  go_enter Try.func37, Try.ntmps37
  go_upto_region 1 with fail
  rw [← HW0.out]
  refine wp_region_steps (words [wIs (.agg #[.string n.name, .slice xi n.ins.length ci, .slice xo n.outs.length co, .slice xl n.locs.length cl, .slice xe n.eqs.length ce, .int .i64 (n.at_ : Int)]), wLs n, wIs (.agg #[.string e.op, .string e.name, .int .i64 e.n, .int .i64 (e.at_ : Int), .slice x e.kids.length c]), wIs (.bool q), wIs (.bool q)]) W0.heap.size W0 (by kernel_rfl) (Below.refl _ _) (Nat.le_refl _) (words_stable ?stab) rfl rfl rfl ?steps ?rest
  case stab =>
    intro f hf
    simp only [List.mem_cons, List.not_mem_nil, or_false] at hf
    rcases hf with rfl | rfl | rfl | rfl | rfl <;> first | exact stable_is _ | exact stable_ls _
  case steps =>
    refine Steps.cons (step_value rfl fun xa W hp => ?_) ?_
    · have f0 : xa.tmps.getD 2 undef = .pointer (some ⟨w.heap.size, 0, none⟩) := hp.old 2 rfl
      exact ⟨wanted_none rfl, _, _, run_ldrow rfl f0 ((HP0.out.call hp.below).get 0 rfl) Try.underlying49 rfl HSN.out, rfl, Below.refl _ _⟩
    refine Steps.cons (step_enter rfl fun xa W hp => ?_) ?_
    · have f0 : xa.tmps.getD 5 undef = .agg #[.string n.name, .slice xi n.ins.length ci, .slice xo n.outs.length co, .slice xl n.locs.length cl, .slice xe n.eqs.length ce, .int .i64 (n.at_ : Int)] := (hp.on_ 0 rfl rfl rfl).2
      refine ⟨wanted_none rfl, 69, _, run_enter1 rfl rfl Try.call69, ?_⟩
      show Calls _ _ #[xa.tmps.getD 5 undef] W _
      rw [f0]
      refine (KL.out W hp.below).mono (fun e' W' h => ?_)
      obtain ⟨b, k, h1, h2, _, _, h3⟩ := h
      exact ⟨_, h1, ⟨b, k, rfl, h2⟩, h3⟩
    refine Steps.cons (step_value rfl fun xa W hp => ?_) ?_
    · have f0 : xa.tmps.getD 3 undef = .pointer (some ⟨w.heap.size + 1, 0, none⟩) := hp.old 3 rfl
      exact ⟨wanted_none rfl, _, _, run_ldrow rfl f0 ((HP0.out.call hp.below).get 1 rfl) Try.underlying43 rfl HSE.out, rfl, Below.refl _ _⟩
    refine Steps.cons (step_enter rfl fun xa W hp => ?_) ?_
    · obtain ⟨b, k, f0, hS⟩ : wLs n (xa.tmps.getD 6 undef) W := (hp.on_ 1 rfl rfl rfl).2
      have f1 : xa.tmps.getD 7 undef = .agg #[.string e.op, .string e.name, .int .i64 e.n, .int .i64 (e.at_ : Int), .slice x e.kids.length c] := (hp.on_ 2 rfl rfl rfl).2
      refine ⟨wanted_none rfl, 73, _, run_enter2 rfl rfl Try.call73, ?_⟩
      show Calls _ _ #[xa.tmps.getD 6 undef, xa.tmps.getD 7 undef] W _
      rw [f0, f1]
      refine (KI.out W hp.below b k hS).mono (fun e' W' h => ?_)
      exact ⟨_, h.1, rfl, h.2⟩
    refine Steps.cons (step_value rfl fun xa W hp => ⟨wanted_none rfl, _, _, run_move (.inr rfl), (hp.on_ 3 rfl rfl rfl).2, Below.refl _ _⟩) ?_
    exact Steps.nil
  case rest =>
    intro act W hI
    have HBE := Lib.hid (HP0.out.call hI.below).below
    have h4 : act.tmps.getD 4 undef = .bool q := hI.new 4 _ 4 rfl rfl rfl
    have hsz_ : act.tmps.size = 9 := hI.tmps
    have hdf_ : act.defers = [] := hI.defers
    obtain ⟨fo, hf, hx⟩ := act_eta hsz_ hdf_
    rw [hf] at h4
    clear hI hsz_ hdf_ hf
    subst hx
    have hl : ((List.range 9).map fo).toArray = #[fo 0, fo 1, fo 2, fo 3, fo 4, fo 5, fo 6, fo 7, fo 8] := rfl
    simp only [Exit.inBlock, Exit.then, Act.put]
    rw [hl, h4]
    clear hl h4
    go_wp2_with fail
    go_ret
    exact ⟨rfl, HBE.out⟩
end Go.Proofs.Ythlhogfebicooaa

namespace Go.Proofs.Ythlhogfebicooaa
open Go Go.RowKit
def rndI (D : List Qe) (M : List (List UInt8)) : List (List UInt8) := (D.filter (fun q => (rtsI q.e).any (fun r => r.1 || M.contains r.2))).map (fun q => q.name.data.toList)
def latM (D : List Qe) : Nat → List (List UInt8)
  | 0 => []
  | k + 1 => rndI D (latM D k)
def latF (n : Nd) : List (List UInt8) := latM (defsI n) (defsI n).length
def latOk (n : Nd) : Bool := rndI (defsI n) (latF n) == latF n
theorem mem_rnd {D : List Qe} {M : List (List UInt8)} {s : List UInt8} : s ∈ rndI D M ↔ ∃ q ∈ D, q.name.data.toList = s ∧ ∃ r ∈ rtsI q.e, r.1 = true ∨ r.2 ∈ M := by
  unfold rndI
  simp only [List.mem_map, List.mem_filter, List.any_eq_true, Bool.or_eq_true, List.contains_iff_mem]
  constructor
  · rintro ⟨q, ⟨h1, h2⟩, h3⟩
    exact ⟨q, h1, h3, h2⟩
  · rintro ⟨q, h1, h3, h2⟩
    exact ⟨q, ⟨h1, h2⟩, h3⟩
theorem latM_sound (D : List Qe) : ∀ (k : Nat) (s : List UInt8), s ∈ latM D k → LateP D s
  | 0, s, h => by simp [latM] at h
  | k + 1, s, h => by
    obtain ⟨q, hq, rfl, ⟨b, nm⟩, hr, h2⟩ := mem_rnd.1 h
    cases b with
    | true => exact .pre q hq nm hr
    | false =>
      rcases h2 with h2 | h2
      · cases h2
      · exact .use q hq nm hr (latM_sound D k nm h2)
theorem lateB_eq {n : Nd} (h : latOk n = true) : lateB n = fun s => (latF n).contains s := by
  have hfix : rndI (defsI n) (latF n) = latF n := by unfold latOk at h; simpa using h
  have hc : ∀ s, LateP (defsI n) s → s ∈ latF n := fun s hs => by
    induction hs with
    | pre q hq nm hr =>
      rw [← hfix]
      exact mem_rnd.2 ⟨q, hq, rfl, (true, nm), hr, .inl rfl⟩
    | use q hq s' hr hs ih =>
      rw [← hfix]
      exact mem_rnd.2 ⟨q, hq, rfl, (false, s'), hr, .inr ih⟩
  funext s
  have h1 := lateB_iff n s
  cases hg : (latF n).contains s with
  | true =>
    have hm : s ∈ latF n := by simpa using hg
    exact h1.2 (latM_sound _ _ s hm)
  | false =>
    cases hb : lateB n s with
    | false => rfl
    | true =>
      have := hc s (h1.1 hb)
      rw [← List.contains_iff_mem, hg] at this
      cases this
def iniC : List Nd → Option Nat
  | [] => none
  | n :: r => match eqsI (fun s => (latF n).contains s) (wantI n) n.eqs with
    | some a => some a
    | none => iniC r
theorem iniF_eq : ∀ (l : List Nd), l.all latOk = true → iniF l = iniC l
  | [], _ => rfl
  | n :: r, h => by
    rw [List.all_cons, Bool.and_eq_true] at h
    unfold iniF iniC
    rw [lateB_eq h.1, iniF_eq r h.2]
    cases eqsI (fun s => (latF n).contains s) (wantI n) n.eqs <;> rfl
def lateC (n : Nd) : List ByteArray := namesL (fun s => (latF n).contains s) [n.ins, n.outs, n.locs].flatten
theorem lateL_eq {n : Nd} (h : latOk n = true) : lateL n = lateC n := by unfold lateL lateC; rw [lateB_eq h]
end Go.Proofs.Ythlhogfebicooaa

namespace Go.Proofs.Ythlhogfebicooaa
open Go Go.RowKit
set_option maxHeartbeats 4000000 in
set_option maxRecDepth 100000 in
theorem fault9_any (t : ByteArray) (w : World) (hs : t.size ≤ 140737488351232) (hall : ∀ (i : Nat) (h : i < (treeOf t).length), okNd (treeOf t)[i] = true ∧ fewQs (treeOf t)[i].eqs = true) : Calls Try.prog 31 #[.string t] w (GivesO 11 (iniF (treeOf t)) w) := by
  have HSB := Lib.hid size_bad
  have kp := fun (W : World) => parse_at t W hs
  have F0 := (Fx.start w).alloc w.heap.size rfl 30 #[.int .i64 0, .int .i64 0]
  obtain ⟨L, hL⟩ : ∃ L, L = treeOf t := ⟨_, rfl⟩
  obtain ⟨q1, hq1⟩ : ∃ q, q = perOf t := ⟨_, rfl⟩
  obtain ⟨q2, hq2⟩ : ∃ q, q = patOf t := ⟨_, rfl⟩
  rw [← hL] at hall ⊢
  rw [← hL, ← hq1, ← hq2] at kp
  have HF0 := Lib.hid F0
  have HALL := Lib.hid hall
  have kp1 := kp (w.alloc (.cells #[.int .i64 0, .int .i64 0] 30))
  clear hL hq1 hq2 hs hall F0 kp
  go_enter Try.func31, Try.ntmps31
  go_wp2_with fail
  (with_reducible refine kp1.mono ?_)
  rintro e9 w1 ⟨x, c, rfl, hI, hb⟩
  have F1 := (HF0.out.call hb).alloc w1.heap.size rfl 30 #[.int .i64 0, .int .i64 0]
  have F2 := F1.store 1 rfl #[.int .i64 (q1 : Int), .int .i64 (q2 : Int)]
  have HN1 := Lib.hid (F1.get 1 rfl)
  have hI2 := IsD.below (new_row w1 30 #[.int .i64 0, .int .i64 0] #[.int .i64 (q1 : Int), .int .i64 (q2 : Int)]).1 hI
  obtain ⟨W2, hW2⟩ : ∃ W2, W2 = ((w1.alloc (.cells #[.int .i64 0, .int .i64 0] 30)).setRow w1.heap.size #[.int .i64 (q1 : Int), .int .i64 (q2 : Int)]) := ⟨_, rfl⟩
  rw [← hW2] at F2 hI2
  have kb := Back_any L W2 (by have := F2.below.size; have := F2.lt_ 0 rfl; omega) _ x c hI2
  rw [hW2] at kb
  have HF2 := Lib.hid F2
  have HI2 := Lib.hid hI2
  have HW2 := Lib.hid hW2
  clear F1 F2 hI hI2 hb kp1 hW2
  go_wp2_with (refine wpList_store_row rfl 30 (.tmp 4) (.tmp 9) rfl w1.heap.size #[.int .i64 (q1 : Int), .int .i64 (q2 : Int)] rfl rfl 30 _ HN1.out HSB.out rfl (fault_one _ _) ?_)
  (with_reducible refine kb.mono ?_)
  rw [← HW2.out]
  rintro e9 w3 ⟨x3, c3, rfl, hI3, hb⟩
  have HF3 := Lib.hid (HF2.out.call hb)
  have kc : Calls Try.prog 32 #[.slice x3 L.length c3] w3 (GivesO 11 (iniF L) w3) := iniCheck_any L HALL.out w3 _ x3 c3 hI3
  unfold GivesO at kc
  obtain ⟨er, her⟩ : ∃ er, er = ferO 11 (iniF L) := ⟨_, rfl⟩
  obtain ⟨ea, hea⟩ : ∃ ea, ea = fatO (iniF L) := ⟨_, rfl⟩
  rw [← her, ← hea] at kc
  have HER := Lib.hid her
  have HEA := Lib.hid hea
  clear hb hI3 kb her hea
  go_wp2_with fail
  (with_reducible refine kc.mono ?_)
  rintro e9 w4 ⟨rfl, hb⟩
  have HF4 := Lib.hid (HF3.out.call hb)
  have kd := Bad_any er ea w4
  clear hb kc
  go_wp2_with fail
  (with_reducible refine kd.mono ?_)
  rintro e9 w5 ⟨rfl, hb⟩
  have HF5 := Lib.hid (HF4.out.call hb)
  have HL5 := Lib.hid (HF5.out.get 0 rfl)
  clear hb kd
  go_wp2_with (refine wpList_store_row rfl 30 (.tmp 2) (.tmp 13) rfl w.heap.size #[.int .i64 er, .int .i64 ea] rfl rfl 30 _ HL5.out HSB.out rfl (fault_one _ _) ?_)
  refine bodyPost_ret (v := .agg #[.int .i64 er, .int .i64 ea]) (results_cell_row (p := 2) (ty := 30) rfl _ _ w.heap.size 30 _ (0, 0) _ rfl (setRow_heap _ w.heap.size _ _ _ _ HL5.out) Try.underlying30 rfl HSB.out) rfl ?_
  exact ⟨by rw [HER.out, HEA.out], below_setRow HF5.out.below (Nat.le_refl _) _⟩
end Go.Proofs.Ythlhogfebicooaa

namespace Go.Proofs.Ythlhogfebicooaa
open Go Go.RowKit
theorem run_fldI {P : Program} {W : World} {o : Oper} {ρ : Operand → Value} {t : TypeId} {i : Nat} {x : Operand} {v r : Value} (ho : o.op = .field t x i) (hx : ρ x = v) (h : (Instr.field t v i).run P W = .ok r W) : (execOp ρ o).run P W = .ok (.value r) W := by
  unfold execOp
  rw [ho]
  simp [hx, h, Result.andThen]
theorem TxD_flat (l : List ByteArray) : TxD l = l.flatMap (fun s => [Dt.v (.string s)]) := by
  induction l with
  | nil => rfl
  | cons a r ih => rw [List.flatMap_cons, ← ih]; rfl
theorem tx_at {ok : Nat → Prop} {w : World} {l : List ByteArray} {x : Option Addr} {c : Nat} (h : IsD ok w (.slice x l.length c) (.sl l.length (TxD l))) (i : Nat) (hi : i < l.length) : ∃ g, x = some ⟨g, 0, none⟩ ∧ g < w.heap.size ∧ w.cell? ⟨g, i, none⟩ = some (.string l[i]) := by
  obtain ⟨g, e1, _, e3, e4⟩ := IsD.some_ h (by omega)
  rw [TxD_flat] at e4
  have h5 := IsDs.nth (f := fun s => [Dt.v (.string s)]) (sz := 1) (fun _ => rfl) l i 0 hi e4
  rw [Nat.zero_add, Nat.mul_one] at h5
  unfold IsDs at h5
  obtain ⟨⟨u, h6, h7⟩, _⟩ := h5
  unfold IsD at h7
  rw [h7] at h6
  exact ⟨g, e1, e3, h6⟩
def okAll (L : List UInt8) : Bool := (treeL L).all (fun n => okNd n && fewQs n.eqs)
theorem okAll_at {l : List Nd} (h : l.all (fun n => okNd n && fewQs n.eqs) = true) : ∀ (i : Nat) (hi : i < l.length), okNd l[i] = true ∧ fewQs l[i].eqs = true := fun i hi => by
  have := List.all_eq_true.1 h _ (List.getElem_mem hi)
  simpa using this
/-- A text whose bytes are known, and what its first fault is. -/
theorem fault9_val {t : ByteArray} {L : List UInt8} {o : Option Nat} (ht : t.data.toList = L) (hl : L.length ≤ 1000) (h1 : okAll L = true) (h3 : (treeL L).all latOk = true) (h2 : iniC (treeL L) = o) (w : World) : Calls Try.prog 31 #[.string t] w (GivesO 11 o w) := by
  have e : treeOf t = treeL L := by rw [treeOf_list, ht]
  have hs : t.size ≤ 1000 := by have : t.data.toList.length = t.size := by simp
                                rw [ht] at this; omega
  have h := fault9_any t w (by omega) (by rw [e]; exact okAll_at h1)
  rw [e, iniF_eq _ h3, h2] at h
  exact h
def aw9N : Nd := (treeL [110, 111, 100, 101, 32, 102, 40, 120, 58, 32, 105, 110, 116, 41, 32, 114, 101, 116, 117, 114, 110, 115, 32, 40, 121, 58, 32, 105, 110, 116, 41, 59, 32, 118, 97, 114, 32, 116, 58, 32, 105, 110, 116, 59, 32, 108, 101, 116, 32, 116, 32, 61, 32, 49, 32, 43, 32, 112, 114, 101, 32, 120, 59, 32, 121, 32, 61, 32, 48, 32, 45, 62, 32, 116, 59, 32, 116, 101, 108]).getD 0 (⟨⟨#[]⟩, [], [], [], [], 0⟩ : Nd)
def aw9Q : Qe := aw9N.eqs.getD 0 (⟨⟨#[]⟩, exZ, 0⟩ : Qe)
def aw9R : Qe := aw9N.eqs.getD 1 (⟨⟨#[]⟩, exZ, 0⟩ : Qe)
theorem aw9_tree : treeL [110, 111, 100, 101, 32, 102, 40, 120, 58, 32, 105, 110, 116, 41, 32, 114, 101, 116, 117, 114, 110, 115, 32, 40, 121, 58, 32, 105, 110, 116, 41, 59, 32, 118, 97, 114, 32, 116, 58, 32, 105, 110, 116, 59, 32, 108, 101, 116, 32, 116, 32, 61, 32, 49, 32, 43, 32, 112, 114, 101, 32, 120, 59, 32, 121, 32, 61, 32, 48, 32, 45, 62, 32, 116, 59, 32, 116, 101, 108] = [aw9N] := by kernel_rfl
theorem aw9_eqs : aw9N.eqs = [aw9Q, aw9R] := by kernel_rfl
theorem aw9_ok : okNd aw9N = true := by kernel_rfl
theorem aw9_few : fewQs aw9N.eqs = true := by kernel_rfl
theorem aw9_okQ : okE aw9Q.e = true := by kernel_rfl
theorem aw9_okR : okE aw9R.e = true := by kernel_rfl
theorem aw9_fewQ : fewE aw9Q.e = true := by kernel_rfl
theorem aw9_fewR : fewE aw9R.e = true := by kernel_rfl
theorem aw9_lat : latOk aw9N = true := by kernel_rfl
theorem aw9_ini : iniC [aw9N] = none := by kernel_rfl
theorem aw9_late : lateC aw9N = [⟨#[116]⟩] := by kernel_rfl
theorem aw9_q : lateI (fun s => (latF aw9N).contains s) aw9Q.e = true := by kernel_rfl
theorem aw9_r : lateI (fun s => (latF aw9N).contains s) aw9R.e = false := by kernel_rfl
theorem aw9_all1 : okAll [110, 111, 100, 101, 32, 102, 40, 120, 58, 32, 105, 110, 116, 41, 32, 114, 101, 116, 117, 114, 110, 115, 32, 40, 121, 58, 32, 105, 110, 116, 41, 59, 32, 108, 101, 116, 32, 121, 32, 61, 32, 112, 114, 101, 32, 120, 59, 32, 116, 101, 108] = true := by kernel_rfl
theorem aw9_lat1 : (treeL [110, 111, 100, 101, 32, 102, 40, 120, 58, 32, 105, 110, 116, 41, 32, 114, 101, 116, 117, 114, 110, 115, 32, 40, 121, 58, 32, 105, 110, 116, 41, 59, 32, 108, 101, 116, 32, 121, 32, 61, 32, 112, 114, 101, 32, 120, 59, 32, 116, 101, 108]).all latOk = true := by kernel_rfl
theorem aw9_ini1 : iniC (treeL [110, 111, 100, 101, 32, 102, 40, 120, 58, 32, 105, 110, 116, 41, 32, 114, 101, 116, 117, 114, 110, 115, 32, 40, 121, 58, 32, 105, 110, 116, 41, 59, 32, 108, 101, 116, 32, 121, 32, 61, 32, 112, 114, 101, 32, 120, 59, 32, 116, 101, 108]) = some 37 := by kernel_rfl
theorem aw9_all2 : okAll [110, 111, 100, 101, 32, 102, 40, 120, 58, 32, 105, 110, 116, 41, 32, 114, 101, 116, 117, 114, 110, 115, 32, 40, 121, 58, 32, 105, 110, 116, 41, 59, 32, 108, 101, 116, 32, 121, 32, 61, 32, 48, 32, 45, 62, 32, 112, 114, 101, 32, 120, 59, 32, 116, 101, 108] = true := by kernel_rfl
theorem aw9_lat2 : (treeL [110, 111, 100, 101, 32, 102, 40, 120, 58, 32, 105, 110, 116, 41, 32, 114, 101, 116, 117, 114, 110, 115, 32, 40, 121, 58, 32, 105, 110, 116, 41, 59, 32, 108, 101, 116, 32, 121, 32, 61, 32, 48, 32, 45, 62, 32, 112, 114, 101, 32, 120, 59, 32, 116, 101, 108]).all latOk = true := by kernel_rfl
theorem aw9_ini2 : iniC (treeL [110, 111, 100, 101, 32, 102, 40, 120, 58, 32, 105, 110, 116, 41, 32, 114, 101, 116, 117, 114, 110, 115, 32, 40, 121, 58, 32, 105, 110, 116, 41, 59, 32, 108, 101, 116, 32, 121, 32, 61, 32, 48, 32, 45, 62, 32, 112, 114, 101, 32, 120, 59, 32, 116, 101, 108]) = none := by kernel_rfl
theorem aw9_facts : ∃ (nd : Nd) (q r : Qe), treeOf (⟨(110 :: 111 :: 100 :: 101 :: 32 :: 102 :: 40 :: 120 :: 58 :: 32 :: 105 :: 110 :: 116 :: 41 :: 32 :: 114 :: 101 :: 116 :: 117 :: 114 :: 110 :: 115 :: 32 :: 40 :: 121 :: 58 :: 32 :: 105 :: 110 :: 116 :: 41 :: 59 :: 32 :: 118 :: 97 :: 114 :: 32 :: 116 :: 58 :: 32 :: 105 :: 110 :: 116 :: 59 :: 32 :: 108 :: 101 :: 116 :: 32 :: 116 :: 32 :: 61 :: 32 :: 49 :: 32 :: 43 :: 32 :: 112 :: 114 :: 101 :: 32 :: 120 :: 59 :: 32 :: 121 :: 32 :: 61 :: 32 :: 48 :: 32 :: 45 :: 62 :: 32 :: 116 :: 59 :: 32 :: 116 :: 101 :: 108 :: []).toArray⟩ : ByteArray) = [nd] ∧ nd.eqs = [q, r] ∧ (okNd nd = true ∧ fewQs nd.eqs = true) ∧ (okE q.e = true ∧ fewE q.e = true) ∧ (okE r.e = true ∧ fewE r.e = true) ∧ iniF [nd] = none ∧ lateL nd = [⟨#[116]⟩] ∧ lateI (lateB nd) q.e = true ∧ lateI (lateB nd) r.e = false := by
  refine ⟨aw9N, aw9Q, aw9R, by rw [treeOf_list]; exact aw9_tree, aw9_eqs, ⟨aw9_ok, aw9_few⟩, ⟨aw9_okQ, aw9_fewQ⟩, ⟨aw9_okR, aw9_fewR⟩, ?_, ?_, ?_, ?_⟩
  · rw [iniF_eq _ (by rw [List.all_cons, aw9_lat]; rfl)]; exact aw9_ini
  · rw [lateL_eq aw9_lat]; exact aw9_late
  · rw [lateB_eq aw9_lat]; exact aw9_q
  · rw [lateB_eq aw9_lat]; exact aw9_r
theorem one_at9 {nd : Nd} (h : okNd nd = true ∧ fewQs nd.eqs = true) : ∀ (i : Nat) (hi : i < [nd].length), okNd [nd][i] = true ∧ fewQs [nd][i].eqs = true := fun i hi => by
  have : i = 0 := by simp at hi; omega
  subst this
  exact h
theorem ex_range9 {w : World} {g o : Nat} {q : Qe} {xk : Option Addr} {ck : Nat} (h : w.rangeAt g o (qeC q.name q.e xk ck (q.at_ : Int))) : w.rangeAt g (o + 1) (exC q.e xk ck) := fun j v hj => by
  have hlt : j < 5 := (List.getElem?_eq_some_iff.1 hj).1
  have h2 := h (j + 1) v (by rcases j with _ | _ | _ | _ | _ | j; all_goals first | exact hj | omega)
  rwa [show o + (j + 1) = o + 1 + j by omega] at h2
set_option maxHeartbeats 8000000 in
set_option maxRecDepth 100000 in
theorem awake9_any (w : World) : Calls Try.prog 30 #[] w (fun e w' => e = .returned (.bool true) ∧ Below w.heap.size w w') := by
  obtain ⟨nd, q, r, e1, e2, e3, e4, e5, e6, e7, e8, e9⟩ := aw9_facts
  have kp := parse_at (⟨(110 :: 111 :: 100 :: 101 :: 32 :: 102 :: 40 :: 120 :: 58 :: 32 :: 105 :: 110 :: 116 :: 41 :: 32 :: 114 :: 101 :: 116 :: 117 :: 114 :: 110 :: 115 :: 32 :: 40 :: 121 :: 58 :: 32 :: 105 :: 110 :: 116 :: 41 :: 59 :: 32 :: 118 :: 97 :: 114 :: 32 :: 116 :: 58 :: 32 :: 105 :: 110 :: 116 :: 59 :: 32 :: 108 :: 101 :: 116 :: 32 :: 116 :: 32 :: 61 :: 32 :: 49 :: 32 :: 43 :: 32 :: 112 :: 114 :: 101 :: 32 :: 120 :: 59 :: 32 :: 121 :: 32 :: 61 :: 32 :: 48 :: 32 :: 45 :: 62 :: 32 :: 116 :: 59 :: 32 :: 116 :: 101 :: 108 :: []).toArray⟩ : ByteArray) w (by decide)
  have KF1 : Hid (∀ W, Calls Try.prog 31 #[.string (⟨#[110, 111, 100, 101, 32, 102, 40, 120, 58, 32, 105, 110, 116, 41, 32, 114, 101, 116, 117, 114, 110, 115, 32, 40, 121, 58, 32, 105, 110, 116, 41, 59, 32, 108, 101, 116, 32, 121, 32, 61, 32, 112, 114, 101, 32, 120, 59, 32, 116, 101, 108]⟩ : ByteArray)] W (fun e w' => e = .returned (.agg #[.int .i64 11, .int .i64 37]) ∧ Below W.heap.size W w')) := Lib.hid (fun W => fault9_val (L := [110, 111, 100, 101, 32, 102, 40, 120, 58, 32, 105, 110, 116, 41, 32, 114, 101, 116, 117, 114, 110, 115, 32, 40, 121, 58, 32, 105, 110, 116, 41, 59, 32, 108, 101, 116, 32, 121, 32, 61, 32, 112, 114, 101, 32, 120, 59, 32, 116, 101, 108]) rfl (by decide) aw9_all1 aw9_lat1 aw9_ini1 W)
  have KF2 : Hid (∀ W, Calls Try.prog 31 #[.string (⟨#[110, 111, 100, 101, 32, 102, 40, 120, 58, 32, 105, 110, 116, 41, 32, 114, 101, 116, 117, 114, 110, 115, 32, 40, 121, 58, 32, 105, 110, 116, 41, 59, 32, 108, 101, 116, 32, 121, 32, 61, 32, 48, 32, 45, 62, 32, 112, 114, 101, 32, 120, 59, 32, 116, 101, 108]⟩ : ByteArray)] W (fun e w' => e = .returned (.agg #[.int .i64 0, .int .i64 0]) ∧ Below W.heap.size W w')) := Lib.hid (fun W => fault9_val (L := [110, 111, 100, 101, 32, 102, 40, 120, 58, 32, 105, 110, 116, 41, 32, 114, 101, 116, 117, 114, 110, 115, 32, 40, 121, 58, 32, 105, 110, 116, 41, 59, 32, 108, 101, 116, 32, 121, 32, 61, 32, 48, 32, 45, 62, 32, 112, 114, 101, 32, 120, 59, 32, 116, 101, 108]) rfl (by decide) aw9_all2 aw9_lat2 aw9_ini2 W)
  rw [e1] at kp
  obtain ⟨q1, hq1⟩ : ∃ q, q = perOf (⟨(110 :: 111 :: 100 :: 101 :: 32 :: 102 :: 40 :: 120 :: 58 :: 32 :: 105 :: 110 :: 116 :: 41 :: 32 :: 114 :: 101 :: 116 :: 117 :: 114 :: 110 :: 115 :: 32 :: 40 :: 121 :: 58 :: 32 :: 105 :: 110 :: 116 :: 41 :: 59 :: 32 :: 118 :: 97 :: 114 :: 32 :: 116 :: 58 :: 32 :: 105 :: 110 :: 116 :: 59 :: 32 :: 108 :: 101 :: 116 :: 32 :: 116 :: 32 :: 61 :: 32 :: 49 :: 32 :: 43 :: 32 :: 112 :: 114 :: 101 :: 32 :: 120 :: 59 :: 32 :: 121 :: 32 :: 61 :: 32 :: 48 :: 32 :: 45 :: 62 :: 32 :: 116 :: 59 :: 32 :: 116 :: 101 :: 108 :: []).toArray⟩ : ByteArray) := ⟨_, rfl⟩
  obtain ⟨q2, hq2⟩ : ∃ q, q = patOf (⟨(110 :: 111 :: 100 :: 101 :: 32 :: 102 :: 40 :: 120 :: 58 :: 32 :: 105 :: 110 :: 116 :: 41 :: 32 :: 114 :: 101 :: 116 :: 117 :: 114 :: 110 :: 115 :: 32 :: 40 :: 121 :: 58 :: 32 :: 105 :: 110 :: 116 :: 41 :: 59 :: 32 :: 118 :: 97 :: 114 :: 32 :: 116 :: 58 :: 32 :: 105 :: 110 :: 116 :: 59 :: 32 :: 108 :: 101 :: 116 :: 32 :: 116 :: 32 :: 61 :: 32 :: 49 :: 32 :: 43 :: 32 :: 112 :: 114 :: 101 :: 32 :: 120 :: 59 :: 32 :: 121 :: 32 :: 61 :: 32 :: 48 :: 32 :: 45 :: 62 :: 32 :: 116 :: 59 :: 32 :: 116 :: 101 :: 108 :: []).toArray⟩ : ByteArray) := ⟨_, rfl⟩
  rw [← hq1, ← hq2] at kp
  have h1l : ([nd] : List Nd).length = 1 := rfl
  have HSB := Lib.hid size_bad
  have HSN := Lib.hid size_nS
  have HSQ := Lib.hid size_qS
  have HSS := Lib.hid size_strI
  have E2 := Lib.hid e2
  have E3 := Lib.hid e3
  have E4 := Lib.hid e4
  have E5 := Lib.hid e5
  have E6 := Lib.hid e6
  have E7 := Lib.hid e7
  have E8 := Lib.hid e8
  have E9 := Lib.hid e9
  clear e1 e2 e3 e4 e5 e6 e7 e8 e9 hq1 hq2
  go_enter Try.func30, Try.ntmps30
  go_wp2_with fail
  (with_reducible refine kp.mono ?_)
  rintro e9 w1 ⟨x, c, rfl, hI, hb⟩
  have F1 := ((Fx.start w).call hb).alloc w1.heap.size rfl 30 #[.int .i64 0, .int .i64 0]
  have F2 := F1.store 0 rfl #[.int .i64 (q1 : Int), .int .i64 (q2 : Int)]
  have HN1 := Lib.hid (F1.get 0 rfl)
  have hI2 := IsD.below (new_row w1 30 #[.int .i64 0, .int .i64 0] #[.int .i64 (q1 : Int), .int .i64 (q2 : Int)]).1 hI
  obtain ⟨W2, hW2⟩ : ∃ W2, W2 = ((w1.alloc (.cells #[.int .i64 0, .int .i64 0] 30)).setRow w1.heap.size #[.int .i64 (q1 : Int), .int .i64 (q2 : Int)]) := ⟨_, rfl⟩
  rw [← hW2] at F2 hI2
  have kb := Back_any [nd] W2 (by have := F2.lt_ 0 rfl; omega) _ x c hI2
  rw [hW2, h1l] at kb
  have HB2 := Lib.hid F2.below
  have HW2 := Lib.hid hW2
  clear F1 F2 hI hI2 hb kp hW2
  go_wp2_with (refine wpList_store_row rfl 30 (.tmp 2) (.tmp 8) rfl w1.heap.size #[.int .i64 (q1 : Int), .int .i64 (q2 : Int)] rfl rfl 30 _ HN1.out HSB.out rfl (fault_one _ _) ?_)
  (with_reducible refine kb.mono ?_)
  rw [← HW2.out]
  rintro e9 w3 ⟨x3, c3, rfl, hI3, hb⟩
  have HB3 := Lib.hid (HB2.out.trans (hb.mono HB2.out.size))
  obtain ⟨g, rfl, hg, xi, ci, xo, co, xl, cl, xe, ce, hrg, t1, t2, t3, t4⟩ := nd_at (l := [nd]) hI3 0 (by simp)
  simp only [List.getElem_cons_zero, Nat.zero_mul] at hrg t1 t2 t3 t4
  have ko : Calls Try.prog 35 #[.agg (ndC nd xi xo xl xe ci co cl ce).toArray] w3 (fun e w' => ∃ x c, e = .returned (.slice x 1 c) ∧ IsD (w3.heap.size ≤ ·) w' (.slice x 1 c) (.sl 1 (TxD [⟨#[116]⟩])) ∧ Below w3.heap.size w3 w') := by
    have := iniLate_any nd E3.out.1 E3.out.2 w3 _ xi xo xl xe ci co cl ce ⟨t1, t2, t3, t4⟩
    unfold GivesTx at this
    rw [E7.out] at this
    exact this
  have hc3 : 1 ≤ c3 := by obtain ⟨x', c', h1, h2, h3⟩ := IsD.slice hI3; injection h1 with _ _ h; subst h; exact h2
  have HRG3 := Lib.hid hrg
  have HTT := Lib.hid (show NdIn _ w3 nd xi xo xl xe ci co cl ce from ⟨t1, t2, t3, t4⟩)
  have HI3 := Lib.hid hI3
  have HG3 := Lib.hid hg
  clear hb hI3 kb hrg t1 t2 t3 t4 hg
  go_wp2_with (refine wpList_load_mid rfl 49 (.tmp 12) rfl g 0 rfl (ndC nd xi xo xl xe ci co cl ce) _ ?_ Try.underlying49 rfl HSN.out ?_; (exact HRG3.out))
  (with_reducible refine ko.mono ?_)
  rintro e9 W4 ⟨x4, c4, rfl, hI4, hb⟩
  have HB4 := Lib.hid (HB3.out.trans (hb.mono HB3.out.size))
  obtain ⟨g4, rfl, hg4, hr4⟩ := tx_at (l := [⟨#[116]⟩]) hI4 0 (by decide)
  have HT4 := Lib.hid (show W4.cell? ⟨g4, 0, none⟩ = some (.string ⟨#[116]⟩) from hr4)
  have HG4 := Lib.hid hg4
  have HTN := Lib.hid (NdIn.below hb HTT.out)
  have t4 := HTN.out.2.2.2
  rw [E2.out] at t4
  obtain ⟨ge, rfl, hge, xk, ck, hre, hkk⟩ := qe_at (l := [q, r]) t4 0 (by simp)
  obtain ⟨ge', hge', _, xr, cr, hre2, hkk2⟩ := qe_at (l := [q, r]) t4 1 (by simp)
  injection hge' with hge'
  injection hge' with hge' _ _
  subst hge'
  simp only [List.getElem_cons_zero, Nat.zero_mul, List.getElem_cons_succ, Nat.one_mul] at hre hkk hre2 hkk2
  have HI4 := Lib.hid (IsD.below hb HI3.out)
  have HGL := Lib.hid (Nat.lt_of_lt_of_le HG3.out hb.size)
  have HRG := Lib.hid (rangeAt_below HRG3.out hb HG3.out)
  have HC4 := Lib.hid (show W4.cell? ⟨g, 4, none⟩ = some (.slice (some ⟨ge, 0, none⟩) 2 ce) by
    have := HRG.out 4 _ (show (ndC nd xi xo xl (some ⟨ge, 0, none⟩) ci co cl ce)[4]? = some (.slice (some ⟨ge, 0, none⟩) nd.eqs.length ce) from rfl)
    rw [E2.out] at this
    exact this)
  have HRE1 := Lib.hid (ex_range9 hre)
  have HRE2 := Lib.hid (ex_range9 hre2)
  have HGE := Lib.hid hge
  have KE1 : Hid (∀ W, Below W4.heap.size W4 W → Calls Try.prog 37 #[.agg #[.string nd.name, .slice xi nd.ins.length ci, .slice xo nd.outs.length co, .slice xl nd.locs.length cl, .slice (some ⟨ge, 0, none⟩) nd.eqs.length ce, .int .i64 (nd.at_ : Int)], .agg #[.string q.e.op, .string q.e.name, .int .i64 q.e.n, .int .i64 (q.e.at_ : Int), .slice xk q.e.kids.length ck]] W (fun e w' => e = .returned (.bool true) ∧ Below W.heap.size W w')) := Lib.hid (fun W hb => by
    have := iniExpr_any nd E3.out.1 E3.out.2 W _ xi xo xl _ ci co cl ce (NdIn.below hb HTN.out) q.e E4.out.1 E4.out.2 _ xk ck (IsD.below hb hkk)
    rw [E8.out] at this
    exact this)
  have KE2 : Hid (∀ W, Below W4.heap.size W4 W → Calls Try.prog 37 #[.agg #[.string nd.name, .slice xi nd.ins.length ci, .slice xo nd.outs.length co, .slice xl nd.locs.length cl, .slice (some ⟨ge, 0, none⟩) nd.eqs.length ce, .int .i64 (nd.at_ : Int)], .agg #[.string r.e.op, .string r.e.name, .int .i64 r.e.n, .int .i64 (r.e.at_ : Int), .slice xr r.e.kids.length cr]] W (fun e w' => e = .returned (.bool false) ∧ Below W.heap.size W w')) := Lib.hid (fun W hb => by
    have := iniExpr_any nd E3.out.1 E3.out.2 W _ xi xo xl _ ci co cl ce (NdIn.below hb HTN.out) r.e E5.out.1 E5.out.2 _ xr cr (IsD.below hb hkk2)
    rw [E9.out] at this
    exact this)
  have KC : Hid (∀ W, Below W4.heap.size W4 W → Calls Try.prog 32 #[.slice (some ⟨g, 0, none⟩) 1 c3] W (fun e w' => e = .returned (.agg #[.int .i64 0, .int .i64 0]) ∧ Below W.heap.size W w')) := Lib.hid (fun W hb => by
    have kc := iniCheck_any [nd] (one_at9 E3.out) W _ (some ⟨g, 0, none⟩) c3 (IsD.below hb HI4.out)
    unfold GivesO at kc
    rw [E6.out] at kc
    exact kc)
  clear hb hI4 ko hr4 hg4 t4 hre hkk hge hre2 hkk2
  go_upto_region 4 with fail
  refine wp_region_steps (words [wIs (.agg #[.int .i64 11, .int .i64 37]), wIs (.agg #[.int .i64 11, .int .i64 37]), wIs (.bool true), wIs (.bool true), wIs (.agg #[.int .i64 0, .int .i64 0]), wIs (.int .i64 0), wIs (.bool true), wIs (.bool true), wIs (.bool true), wIs (.slice (some ⟨g, 0, none⟩) 1 c3), wIs (.agg #[.int .i64 0, .int .i64 0]), wIs (.agg #[.int .i64 0, .int .i64 0]), wIs (.bool true), wIs (.bool true), wIs (.bool true), wIs (.slice (some ⟨g4, 0, none⟩) 1 c4), wIs (.int .i64 1), wIs (.bool true), wIs (.bool true), wIs (.bool true), wIs (.slice (some ⟨g4, 0, none⟩) 1 c4), wIs (.pointer (some ⟨g4, 0, none⟩)), wIs (.string ⟨#[116]⟩), wIs (.bool true), wIs (.bool true), wIs (.bool true), wIs (.slice (some ⟨g, 0, none⟩) 1 c3), wIs (.pointer (some ⟨g, 0, none⟩)), wIs (.agg #[.string nd.name, .slice xi nd.ins.length ci, .slice xo nd.outs.length co, .slice xl nd.locs.length cl, .slice (some ⟨ge, 0, none⟩) nd.eqs.length ce, .int .i64 (nd.at_ : Int)]), wIs (.slice (some ⟨g, 0, none⟩) 1 c3), wIs (.pointer (some ⟨g, 0, none⟩)), wIs (.pointer (some ⟨g, 4, none⟩)), wIs (.slice (some ⟨ge, 0, none⟩) 2 ce), wIs (.pointer (some ⟨ge, 0, none⟩)), wIs (.pointer (some ⟨ge, 1, none⟩)), wIs (.agg #[.string q.e.op, .string q.e.name, .int .i64 q.e.n, .int .i64 (q.e.at_ : Int), .slice xk q.e.kids.length ck]), wIs (.bool true), wIs (.bool true), wIs (.bool true), wIs (.slice (some ⟨g, 0, none⟩) 1 c3), wIs (.pointer (some ⟨g, 0, none⟩)), wIs (.agg #[.string nd.name, .slice xi nd.ins.length ci, .slice xo nd.outs.length co, .slice xl nd.locs.length cl, .slice (some ⟨ge, 0, none⟩) nd.eqs.length ce, .int .i64 (nd.at_ : Int)]), wIs (.slice (some ⟨g, 0, none⟩) 1 c3), wIs (.pointer (some ⟨g, 0, none⟩)), wIs (.pointer (some ⟨g, 4, none⟩)), wIs (.slice (some ⟨ge, 0, none⟩) 2 ce), wIs (.pointer (some ⟨ge, 7, none⟩)), wIs (.pointer (some ⟨ge, 8, none⟩)), wIs (.agg #[.string r.e.op, .string r.e.name, .int .i64 r.e.n, .int .i64 (r.e.at_ : Int), .slice xr r.e.kids.length cr]), wIs (.bool false), wIs (.bool true), wIs (.bool true), wIs (.bool true)]) W4.heap.size W4 (by kernel_rfl) (Below.refl _ _) (Nat.le_refl _) (words_stable ?stab) rfl rfl rfl ?steps ?rest
  case stab =>
    intro f hf
    simp only [List.mem_cons, List.not_mem_nil, or_false] at hf
    rcases hf with rfl | rfl | rfl | rfl | rfl | rfl | rfl | rfl | rfl | rfl | rfl | rfl | rfl | rfl | rfl | rfl | rfl | rfl | rfl | rfl | rfl | rfl | rfl | rfl | rfl | rfl | rfl | rfl | rfl | rfl | rfl | rfl | rfl | rfl | rfl | rfl | rfl | rfl | rfl | rfl | rfl | rfl | rfl | rfl | rfl | rfl | rfl | rfl | rfl | rfl | rfl | rfl | rfl <;> first | exact stable_is _
  case steps =>
    refine Steps.cons (step_enter rfl fun xa W hp => ?_) ?_
    · refine ⟨wanted_none rfl, 31, _, run_enter1 rfl rfl Try.call31, ?_⟩
      refine (KF1.out W).mono (fun e' W' h => ?_)
      exact ⟨_, h.1, rfl, h.2⟩
    refine Steps.cons (step_value rfl fun xa W hp => ?_) ?_
    · exact ⟨wanted_none rfl, _, _, run_bld rfl (v := .agg #[.int .i64 11, .int .i64 37]) (by kernel_rfl), rfl, Below.refl _ _⟩
    refine Steps.cons (step_value rfl fun xa W hp => ?_) ?_
    · have f0 : xa.tmps.getD 15 undef = .agg #[.int .i64 11, .int .i64 37] := (hp.on_ 0 rfl rfl rfl).2
      have f1 : xa.tmps.getD 16 undef = .agg #[.int .i64 11, .int .i64 37] := (hp.on_ 1 rfl rfl rfl).2
      refine ⟨wanted_none rfl, _, _, run_bin3 rfl (v := .bool true) ?_ ?_, rfl, Below.refl _ _⟩
      · show (eqGuard .eql _ _ _ (xa.tmps.getD 15 undef) (xa.tmps.getD 16 undef)).run _ W = _
        rw [f0, f1]; first | rfl | kernel_rfl
      · show (binOp .eql _ (xa.tmps.getD 15 undef) (xa.tmps.getD 16 undef)).run _ W = _
        rw [f0, f1]; kernel_rfl
    refine Steps.cons (step_value rfl fun xa W hp => ⟨wanted_none rfl, _, _, run_move (.inl rfl), (hp.on_ 2 rfl rfl rfl).2, Below.refl _ _⟩) ?_
    refine Steps.cons (step_enter rfl fun xa W hp => ?_) ?_
    · refine ⟨wanted_some rfl rfl rfl (hp.on_ 3 rfl rfl rfl).1 (hp.on_ 3 rfl rfl rfl).2, 31, _, run_enter1 rfl rfl Try.call31, ?_⟩
      refine (KF2.out W).mono (fun e' W' h => ?_)
      exact ⟨_, h.1, rfl, h.2⟩
    refine Steps.cons (step_value rfl fun xa W hp => ?_) ?_
    · have f0 : xa.tmps.getD 19 undef = .agg #[.int .i64 0, .int .i64 0] := (hp.on_ 4 rfl rfl rfl).2
      exact ⟨wanted_some rfl rfl rfl (hp.on_ 3 rfl rfl rfl).1 (hp.on_ 3 rfl rfl rfl).2, _, _, run_fldI rfl f0 (r := .int .i64 0) (by kernel_rfl), rfl, Below.refl _ _⟩
    refine Steps.cons (step_value rfl fun xa W hp => ?_) ?_
    · have f0 : xa.tmps.getD 20 undef = .int .i64 0 := (hp.on_ 5 rfl rfl rfl).2
      refine ⟨wanted_some rfl rfl rfl (hp.on_ 3 rfl rfl rfl).1 (hp.on_ 3 rfl rfl rfl).2, _, _, run_bin3 rfl (v := .bool true) ?_ ?_, rfl, Below.refl _ _⟩
      · show (eqGuard .eql _ _ _ (xa.tmps.getD 20 undef) _).run _ W = _
        rw [f0]; first | rfl | kernel_rfl
      · show (binOp .eql _ (xa.tmps.getD 20 undef) _).run _ W = _
        rw [f0]; kernel_rfl
    refine Steps.cons (step_value rfl fun xa W hp => ⟨wanted_none rfl, _, _, run_pick rfl (hp.on_ 3 rfl rfl rfl).2, (hp.on_ 6 rfl rfl rfl).2, Below.refl _ _⟩) ?_
    refine Steps.cons (step_value rfl fun xa W hp => ⟨wanted_none rfl, _, _, run_move (.inl rfl), (hp.on_ 7 rfl rfl rfl).2, Below.refl _ _⟩) ?_
    refine Steps.cons (step_value rfl fun xa W hp => ⟨wanted_some rfl rfl rfl (hp.on_ 8 rfl rfl rfl).1 (hp.on_ 8 rfl rfl rfl).2, _, _, run_move (.inl rfl), hp.old 3 rfl, Below.refl _ _⟩) ?_
    refine Steps.cons (step_enter rfl fun xa W hp => ?_) ?_
    · have f0 : xa.tmps.getD 24 undef = .slice (some ⟨g, 0, none⟩) 1 c3 := (hp.on_ 9 rfl rfl rfl).2
      refine ⟨wanted_some rfl rfl rfl (hp.on_ 8 rfl rfl rfl).1 (hp.on_ 8 rfl rfl rfl).2, 32, _, run_enter1 rfl rfl Try.call32, ?_⟩
      show Calls _ _ #[xa.tmps.getD 24 undef] W _
      rw [f0]
      refine (KC.out W hp.below).mono (fun e' W' h => ?_)
      exact ⟨_, h.1, rfl, h.2⟩
    refine Steps.cons (step_value rfl fun xa W hp => ?_) ?_
    · exact ⟨wanted_some rfl rfl rfl (hp.on_ 8 rfl rfl rfl).1 (hp.on_ 8 rfl rfl rfl).2, _, _, run_bld rfl (v := .agg #[.int .i64 0, .int .i64 0]) (by kernel_rfl), rfl, Below.refl _ _⟩
    refine Steps.cons (step_value rfl fun xa W hp => ?_) ?_
    · have f0 : xa.tmps.getD 25 undef = .agg #[.int .i64 0, .int .i64 0] := (hp.on_ 10 rfl rfl rfl).2
      have f1 : xa.tmps.getD 26 undef = .agg #[.int .i64 0, .int .i64 0] := (hp.on_ 11 rfl rfl rfl).2
      refine ⟨wanted_some rfl rfl rfl (hp.on_ 8 rfl rfl rfl).1 (hp.on_ 8 rfl rfl rfl).2, _, _, run_bin3 rfl (v := .bool true) ?_ ?_, rfl, Below.refl _ _⟩
      · show (eqGuard .eql _ _ _ (xa.tmps.getD 25 undef) (xa.tmps.getD 26 undef)).run _ W = _
        rw [f0, f1]; first | rfl | kernel_rfl
      · show (binOp .eql _ (xa.tmps.getD 25 undef) (xa.tmps.getD 26 undef)).run _ W = _
        rw [f0, f1]; kernel_rfl
    refine Steps.cons (step_value rfl fun xa W hp => ⟨wanted_none rfl, _, _, run_pick rfl (hp.on_ 8 rfl rfl rfl).2, (hp.on_ 12 rfl rfl rfl).2, Below.refl _ _⟩) ?_
    refine Steps.cons (step_value rfl fun xa W hp => ⟨wanted_none rfl, _, _, run_move (.inl rfl), (hp.on_ 13 rfl rfl rfl).2, Below.refl _ _⟩) ?_
    refine Steps.cons (step_value rfl fun xa W hp => ⟨wanted_some rfl rfl rfl (hp.on_ 14 rfl rfl rfl).1 (hp.on_ 14 rfl rfl rfl).2, _, _, run_move (.inl rfl), hp.old 4 rfl, Below.refl _ _⟩) ?_
    refine Steps.cons (step_value rfl fun xa W hp => ?_) ?_
    · have f0 : xa.tmps.getD 30 undef = .slice (some ⟨g4, 0, none⟩) 1 c4 := (hp.on_ 15 rfl rfl rfl).2
      exact ⟨wanted_some rfl rfl rfl (hp.on_ 14 rfl rfl rfl).1 (hp.on_ 14 rfl rfl rfl).2, _, _, run_lenT rfl Try.underlying71 f0, rfl, Below.refl _ _⟩
    refine Steps.cons (step_value rfl fun xa W hp => ?_) ?_
    · have f0 : xa.tmps.getD 31 undef = .int .i64 1 := (hp.on_ 16 rfl rfl rfl).2
      refine ⟨wanted_some rfl rfl rfl (hp.on_ 14 rfl rfl rfl).1 (hp.on_ 14 rfl rfl rfl).2, _, _, run_bin3 rfl (v := .bool true) ?_ ?_, rfl, Below.refl _ _⟩
      · show (eqGuard .eql _ _ _ (xa.tmps.getD 31 undef) _).run _ W = _
        rw [f0]; first | rfl | kernel_rfl
      · show (binOp .eql _ (xa.tmps.getD 31 undef) _).run _ W = _
        rw [f0]; kernel_rfl
    refine Steps.cons (step_value rfl fun xa W hp => ⟨wanted_none rfl, _, _, run_pick rfl (hp.on_ 14 rfl rfl rfl).2, (hp.on_ 17 rfl rfl rfl).2, Below.refl _ _⟩) ?_
    refine Steps.cons (step_value rfl fun xa W hp => ⟨wanted_none rfl, _, _, run_move (.inl rfl), (hp.on_ 18 rfl rfl rfl).2, Below.refl _ _⟩) ?_
    refine Steps.cons (step_value rfl fun xa W hp => ⟨wanted_some rfl rfl rfl (hp.on_ 19 rfl rfl rfl).1 (hp.on_ 19 rfl rfl rfl).2, _, _, run_move (.inl rfl), hp.old 4 rfl, Below.refl _ _⟩) ?_
    refine Steps.cons (step_value rfl fun xa W hp => ?_) ?_
    · have f0 : xa.tmps.getD 35 undef = .slice (some ⟨g4, 0, none⟩) 1 c4 := (hp.on_ 20 rfl rfl rfl).2
      exact ⟨wanted_some rfl rfl rfl (hp.on_ 19 rfl rfl rfl).1 (hp.on_ 19 rfl rfl rfl).2, _, _, run_idxG (k := 0) Try.underlying71 HSS.out rfl f0 rfl (by decide), rfl, Below.refl _ _⟩
    refine Steps.cons (step_value rfl fun xa W hp => ?_) ?_
    · have f0 : xa.tmps.getD 36 undef = .pointer (some ⟨g4, 0, none⟩) := (hp.on_ 21 rfl rfl rfl).2
      exact ⟨wanted_some rfl rfl rfl (hp.on_ 19 rfl rfl rfl).1 (hp.on_ 19 rfl rfl rfl).2, _, _, run_ldv rfl f0 ((World.cell?_of_block (a := ⟨g4, 0, none⟩) (hp.below.block g4 HG4.out)).trans HT4.out) Try.underlying9 rfl (by kernel_rfl), rfl, Below.refl _ _⟩
    refine Steps.cons (step_value rfl fun xa W hp => ?_) ?_
    · have f0 : xa.tmps.getD 37 undef = .string ⟨#[116]⟩ := (hp.on_ 22 rfl rfl rfl).2
      refine ⟨wanted_some rfl rfl rfl (hp.on_ 19 rfl rfl rfl).1 (hp.on_ 19 rfl rfl rfl).2, _, _, run_bin3 rfl (v := .bool true) ?_ ?_, rfl, Below.refl _ _⟩
      · show (eqGuard .eql _ _ _ (xa.tmps.getD 37 undef) _).run _ W = _
        rw [f0]; first | rfl | kernel_rfl
      · show (binOp .eql _ (xa.tmps.getD 37 undef) _).run _ W = _
        rw [f0]; kernel_rfl
    refine Steps.cons (step_value rfl fun xa W hp => ⟨wanted_none rfl, _, _, run_pick rfl (hp.on_ 19 rfl rfl rfl).2, (hp.on_ 23 rfl rfl rfl).2, Below.refl _ _⟩) ?_
    refine Steps.cons (step_value rfl fun xa W hp => ⟨wanted_none rfl, _, _, run_move (.inl rfl), (hp.on_ 24 rfl rfl rfl).2, Below.refl _ _⟩) ?_
    refine Steps.cons (step_value rfl fun xa W hp => ⟨wanted_some rfl rfl rfl (hp.on_ 25 rfl rfl rfl).1 (hp.on_ 25 rfl rfl rfl).2, _, _, run_move (.inl rfl), hp.old 3 rfl, Below.refl _ _⟩) ?_
    refine Steps.cons (step_value rfl fun xa W hp => ?_) ?_
    · have f0 : xa.tmps.getD 41 undef = .slice (some ⟨g, 0, none⟩) 1 c3 := (hp.on_ 26 rfl rfl rfl).2
      exact ⟨wanted_some rfl rfl rfl (hp.on_ 25 rfl rfl rfl).1 (hp.on_ 25 rfl rfl rfl).2, _, _, run_idxG (k := 0) Try.underlying26 HSN.out rfl f0 rfl (by decide), rfl, Below.refl _ _⟩
    refine Steps.cons (step_value rfl fun xa W hp => ?_) ?_
    · have f0 : xa.tmps.getD 42 undef = .pointer (some ⟨g, 0, none⟩) := (hp.on_ 27 rfl rfl rfl).2
      exact ⟨wanted_some rfl rfl rfl (hp.on_ 25 rfl rfl rfl).1 (hp.on_ 25 rfl rfl rfl).2, _, _, run_ldmidG rfl f0 (rangeAt_below HRG.out hp.below HGL.out) rfl Try.underlying49 (by kernel_rfl), rfl, Below.refl _ _⟩
    refine Steps.cons (step_value rfl fun xa W hp => ⟨wanted_some rfl rfl rfl (hp.on_ 25 rfl rfl rfl).1 (hp.on_ 25 rfl rfl rfl).2, _, _, run_move (.inl rfl), hp.old 3 rfl, Below.refl _ _⟩) ?_
    refine Steps.cons (step_value rfl fun xa W hp => ?_) ?_
    · have f0 : xa.tmps.getD 44 undef = .slice (some ⟨g, 0, none⟩) 1 c3 := (hp.on_ 29 rfl rfl rfl).2
      exact ⟨wanted_some rfl rfl rfl (hp.on_ 25 rfl rfl rfl).1 (hp.on_ 25 rfl rfl rfl).2, _, _, run_idxG (k := 0) Try.underlying26 HSN.out rfl f0 rfl (by decide), rfl, Below.refl _ _⟩
    refine Steps.cons (step_value rfl fun xa W hp => ?_) ?_
    · have f0 : xa.tmps.getD 45 undef = .pointer (some ⟨g, 0, none⟩) := (hp.on_ 30 rfl rfl rfl).2
      have f1 : (Instr.fieldAt 49 (.pointer (some ⟨g, 0, none⟩)) 4).run Try.prog W = .ok (.pointer (some ⟨g, 4, none⟩)) W := by kernel_rfl
      exact ⟨wanted_some rfl rfl rfl (hp.on_ 25 rfl rfl rfl).1 (hp.on_ 25 rfl rfl rfl).2, _, _, run_fa4 rfl f0 f1, rfl, Below.refl _ _⟩
    refine Steps.cons (step_value rfl fun xa W hp => ?_) ?_
    · have f0 : xa.tmps.getD 46 undef = .pointer (some ⟨g, 4, none⟩) := (hp.on_ 31 rfl rfl rfl).2
      exact ⟨wanted_some rfl rfl rfl (hp.on_ 25 rfl rfl rfl).1 (hp.on_ 25 rfl rfl rfl).2, _, _, run_ldv rfl f0 ((World.cell?_of_block (a := ⟨g, 4, none⟩) (hp.below.block g HGL.out)).trans HC4.out) Try.underlying47 rfl (by kernel_rfl), rfl, Below.refl _ _⟩
    refine Steps.cons (step_value rfl fun xa W hp => ?_) ?_
    · have f0 : xa.tmps.getD 47 undef = .slice (some ⟨ge, 0, none⟩) 2 ce := (hp.on_ 32 rfl rfl rfl).2
      exact ⟨wanted_some rfl rfl rfl (hp.on_ 25 rfl rfl rfl).1 (hp.on_ 25 rfl rfl rfl).2, _, _, run_idxG (k := 0) Try.underlying47 HSQ.out rfl f0 rfl (by decide), rfl, Below.refl _ _⟩
    refine Steps.cons (step_value rfl fun xa W hp => ?_) ?_
    · have f0 : xa.tmps.getD 48 undef = .pointer (some ⟨ge, 0, none⟩) := (hp.on_ 33 rfl rfl rfl).2
      have f1 : (Instr.fieldAt 45 (.pointer (some ⟨ge, 0, none⟩)) 1).run Try.prog W = .ok (.pointer (some ⟨ge, 1, none⟩)) W := by kernel_rfl
      exact ⟨wanted_some rfl rfl rfl (hp.on_ 25 rfl rfl rfl).1 (hp.on_ 25 rfl rfl rfl).2, _, _, run_fa4 rfl f0 f1, rfl, Below.refl _ _⟩
    refine Steps.cons (step_value rfl fun xa W hp => ?_) ?_
    · have f0 : xa.tmps.getD 49 undef = .pointer (some ⟨ge, 1, none⟩) := (hp.on_ 34 rfl rfl rfl).2
      exact ⟨wanted_some rfl rfl rfl (hp.on_ 25 rfl rfl rfl).1 (hp.on_ 25 rfl rfl rfl).2, _, _, run_ldmidG rfl f0 (rangeAt_below HRE1.out hp.below HGE.out) rfl Try.underlying43 (by kernel_rfl), rfl, Below.refl _ _⟩
    refine Steps.cons (step_enter rfl fun xa W hp => ?_) ?_
    · have f0 : xa.tmps.getD 43 undef = .agg #[.string nd.name, .slice xi nd.ins.length ci, .slice xo nd.outs.length co, .slice xl nd.locs.length cl, .slice (some ⟨ge, 0, none⟩) nd.eqs.length ce, .int .i64 (nd.at_ : Int)] := (hp.on_ 28 rfl rfl rfl).2
      have f1 : xa.tmps.getD 50 undef = .agg #[.string q.e.op, .string q.e.name, .int .i64 q.e.n, .int .i64 (q.e.at_ : Int), .slice xk q.e.kids.length ck] := (hp.on_ 35 rfl rfl rfl).2
      refine ⟨wanted_some rfl rfl rfl (hp.on_ 25 rfl rfl rfl).1 (hp.on_ 25 rfl rfl rfl).2, 37, _, run_enter2 rfl rfl Try.call37, ?_⟩
      show Calls _ _ #[xa.tmps.getD 43 undef, xa.tmps.getD 50 undef] W _
      rw [f0, f1]
      refine (KE1.out W hp.below).mono (fun e' W' h => ?_)
      exact ⟨_, h.1, rfl, h.2⟩
    refine Steps.cons (step_value rfl fun xa W hp => ⟨wanted_none rfl, _, _, run_pick rfl (hp.on_ 25 rfl rfl rfl).2, (hp.on_ 36 rfl rfl rfl).2, Below.refl _ _⟩) ?_
    refine Steps.cons (step_value rfl fun xa W hp => ⟨wanted_none rfl, _, _, run_move (.inl rfl), (hp.on_ 37 rfl rfl rfl).2, Below.refl _ _⟩) ?_
    refine Steps.cons (step_value rfl fun xa W hp => ⟨wanted_some rfl rfl rfl (hp.on_ 38 rfl rfl rfl).1 (hp.on_ 38 rfl rfl rfl).2, _, _, run_move (.inl rfl), hp.old 3 rfl, Below.refl _ _⟩) ?_
    refine Steps.cons (step_value rfl fun xa W hp => ?_) ?_
    · have f0 : xa.tmps.getD 54 undef = .slice (some ⟨g, 0, none⟩) 1 c3 := (hp.on_ 39 rfl rfl rfl).2
      exact ⟨wanted_some rfl rfl rfl (hp.on_ 38 rfl rfl rfl).1 (hp.on_ 38 rfl rfl rfl).2, _, _, run_idxG (k := 0) Try.underlying26 HSN.out rfl f0 rfl (by decide), rfl, Below.refl _ _⟩
    refine Steps.cons (step_value rfl fun xa W hp => ?_) ?_
    · have f0 : xa.tmps.getD 55 undef = .pointer (some ⟨g, 0, none⟩) := (hp.on_ 40 rfl rfl rfl).2
      exact ⟨wanted_some rfl rfl rfl (hp.on_ 38 rfl rfl rfl).1 (hp.on_ 38 rfl rfl rfl).2, _, _, run_ldmidG rfl f0 (rangeAt_below HRG.out hp.below HGL.out) rfl Try.underlying49 (by kernel_rfl), rfl, Below.refl _ _⟩
    refine Steps.cons (step_value rfl fun xa W hp => ⟨wanted_some rfl rfl rfl (hp.on_ 38 rfl rfl rfl).1 (hp.on_ 38 rfl rfl rfl).2, _, _, run_move (.inl rfl), hp.old 3 rfl, Below.refl _ _⟩) ?_
    refine Steps.cons (step_value rfl fun xa W hp => ?_) ?_
    · have f0 : xa.tmps.getD 57 undef = .slice (some ⟨g, 0, none⟩) 1 c3 := (hp.on_ 42 rfl rfl rfl).2
      exact ⟨wanted_some rfl rfl rfl (hp.on_ 38 rfl rfl rfl).1 (hp.on_ 38 rfl rfl rfl).2, _, _, run_idxG (k := 0) Try.underlying26 HSN.out rfl f0 rfl (by decide), rfl, Below.refl _ _⟩
    refine Steps.cons (step_value rfl fun xa W hp => ?_) ?_
    · have f0 : xa.tmps.getD 58 undef = .pointer (some ⟨g, 0, none⟩) := (hp.on_ 43 rfl rfl rfl).2
      have f1 : (Instr.fieldAt 49 (.pointer (some ⟨g, 0, none⟩)) 4).run Try.prog W = .ok (.pointer (some ⟨g, 4, none⟩)) W := by kernel_rfl
      exact ⟨wanted_some rfl rfl rfl (hp.on_ 38 rfl rfl rfl).1 (hp.on_ 38 rfl rfl rfl).2, _, _, run_fa4 rfl f0 f1, rfl, Below.refl _ _⟩
    refine Steps.cons (step_value rfl fun xa W hp => ?_) ?_
    · have f0 : xa.tmps.getD 59 undef = .pointer (some ⟨g, 4, none⟩) := (hp.on_ 44 rfl rfl rfl).2
      exact ⟨wanted_some rfl rfl rfl (hp.on_ 38 rfl rfl rfl).1 (hp.on_ 38 rfl rfl rfl).2, _, _, run_ldv rfl f0 ((World.cell?_of_block (a := ⟨g, 4, none⟩) (hp.below.block g HGL.out)).trans HC4.out) Try.underlying47 rfl (by kernel_rfl), rfl, Below.refl _ _⟩
    refine Steps.cons (step_value rfl fun xa W hp => ?_) ?_
    · have f0 : xa.tmps.getD 60 undef = .slice (some ⟨ge, 0, none⟩) 2 ce := (hp.on_ 45 rfl rfl rfl).2
      exact ⟨wanted_some rfl rfl rfl (hp.on_ 38 rfl rfl rfl).1 (hp.on_ 38 rfl rfl rfl).2, _, _, run_idxG (k := 1) Try.underlying47 HSQ.out rfl f0 rfl (by decide), rfl, Below.refl _ _⟩
    refine Steps.cons (step_value rfl fun xa W hp => ?_) ?_
    · have f0 : xa.tmps.getD 61 undef = .pointer (some ⟨ge, 7, none⟩) := (hp.on_ 46 rfl rfl rfl).2
      have f1 : (Instr.fieldAt 45 (.pointer (some ⟨ge, 7, none⟩)) 1).run Try.prog W = .ok (.pointer (some ⟨ge, 8, none⟩)) W := by kernel_rfl
      exact ⟨wanted_some rfl rfl rfl (hp.on_ 38 rfl rfl rfl).1 (hp.on_ 38 rfl rfl rfl).2, _, _, run_fa4 rfl f0 f1, rfl, Below.refl _ _⟩
    refine Steps.cons (step_value rfl fun xa W hp => ?_) ?_
    · have f0 : xa.tmps.getD 62 undef = .pointer (some ⟨ge, 8, none⟩) := (hp.on_ 47 rfl rfl rfl).2
      exact ⟨wanted_some rfl rfl rfl (hp.on_ 38 rfl rfl rfl).1 (hp.on_ 38 rfl rfl rfl).2, _, _, run_ldmidG rfl f0 (rangeAt_below HRE2.out hp.below HGE.out) rfl Try.underlying43 (by kernel_rfl), rfl, Below.refl _ _⟩
    refine Steps.cons (step_enter rfl fun xa W hp => ?_) ?_
    · have f0 : xa.tmps.getD 56 undef = .agg #[.string nd.name, .slice xi nd.ins.length ci, .slice xo nd.outs.length co, .slice xl nd.locs.length cl, .slice (some ⟨ge, 0, none⟩) nd.eqs.length ce, .int .i64 (nd.at_ : Int)] := (hp.on_ 41 rfl rfl rfl).2
      have f1 : xa.tmps.getD 63 undef = .agg #[.string r.e.op, .string r.e.name, .int .i64 r.e.n, .int .i64 (r.e.at_ : Int), .slice xr r.e.kids.length cr] := (hp.on_ 48 rfl rfl rfl).2
      refine ⟨wanted_some rfl rfl rfl (hp.on_ 38 rfl rfl rfl).1 (hp.on_ 38 rfl rfl rfl).2, 37, _, run_enter2 rfl rfl Try.call37, ?_⟩
      show Calls _ _ #[xa.tmps.getD 56 undef, xa.tmps.getD 63 undef] W _
      rw [f0, f1]
      refine (KE2.out W hp.below).mono (fun e' W' h => ?_)
      exact ⟨_, h.1, rfl, h.2⟩
    refine Steps.cons (step_value rfl fun xa W hp => ?_) ?_
    · have f0 : xa.tmps.getD 64 undef = .bool false := (hp.on_ 49 rfl rfl rfl).2
      exact ⟨wanted_some rfl rfl rfl (hp.on_ 38 rfl rfl rfl).1 (hp.on_ 38 rfl rfl rfl).2, _, _, run_not rfl f0, rfl, Below.refl _ _⟩
    refine Steps.cons (step_value rfl fun xa W hp => ⟨wanted_none rfl, _, _, run_pick rfl (hp.on_ 38 rfl rfl rfl).2, (hp.on_ 50 rfl rfl rfl).2, Below.refl _ _⟩) ?_
    refine Steps.cons (step_value rfl fun xa W hp => ⟨wanted_none rfl, _, _, run_move (.inr rfl), (hp.on_ 51 rfl rfl rfl).2, Below.refl _ _⟩) ?_
    exact Steps.nil
  case rest =>
    intro act W hI
    have HBF := Lib.hid hI.below
    have h0 : act.tmps.getD 0 undef = .bool true := hI.new 52 _ 0 rfl rfl rfl
    have hsz_ : act.tmps.size = 67 := hI.tmps
    have hdf_ : act.defers = [] := hI.defers
    obtain ⟨fo, hf, hx⟩ := act_eta hsz_ hdf_
    rw [hf] at h0
    clear hI hsz_ hdf_ hf
    subst hx
    have hl : ((List.range 67).map fo).toArray = (fo 0 :: fo 1 :: fo 2 :: fo 3 :: fo 4 :: fo 5 :: fo 6 :: fo 7 :: fo 8 :: fo 9 :: fo 10 :: fo 11 :: fo 12 :: fo 13 :: fo 14 :: fo 15 :: fo 16 :: fo 17 :: fo 18 :: fo 19 :: fo 20 :: fo 21 :: fo 22 :: fo 23 :: fo 24 :: fo 25 :: fo 26 :: fo 27 :: fo 28 :: fo 29 :: fo 30 :: fo 31 :: fo 32 :: fo 33 :: fo 34 :: fo 35 :: fo 36 :: fo 37 :: fo 38 :: fo 39 :: fo 40 :: fo 41 :: fo 42 :: fo 43 :: fo 44 :: fo 45 :: fo 46 :: fo 47 :: fo 48 :: fo 49 :: fo 50 :: fo 51 :: fo 52 :: fo 53 :: fo 54 :: fo 55 :: fo 56 :: fo 57 :: fo 58 :: fo 59 :: fo 60 :: fo 61 :: fo 62 :: fo 63 :: fo 64 :: fo 65 :: fo 66 :: []).toArray := rfl
    simp only [Exit.inBlock, Exit.then, Act.put]
    rw [hl, h0]
    clear hl h0
    go_wp2_with fail
    go_ret
    exact ⟨rfl, HB4.out.trans (HBF.out.mono HB4.out.size)⟩
end Go.Proofs.Ythlhogfebicooaa

namespace Go.Proofs.Ythlhogfebicooaa
open Go Go.RowKit
theorem fld9_bad0 (a b : Int) (W : World) : (Instr.field 30 (.agg #[.int .i64 a, .int .i64 b]) 0).run Try.prog W = .ok (.int .i64 a) W := by kernel_rfl
theorem fld9_bad1 (a b : Int) (W : World) : (Instr.field 30 (.agg #[.int .i64 a, .int .i64 b]) 1).run Try.prog W = .ok (.int .i64 b) W := by kernel_rfl
theorem k9_ok0 : okAll [110, 111, 100, 101, 32, 102, 40, 120, 58, 32, 105, 110, 116, 41, 32, 114, 101, 116, 117, 114, 110, 115, 32, 40, 121, 58, 32, 105, 110, 116, 41, 59, 32, 108, 101, 116, 32, 121, 32, 61, 32, 48, 32, 45, 62, 32, 112, 114, 101, 32, 112, 114, 101, 32, 120, 59, 32, 116, 101, 108] = true := by kernel_rfl
theorem k9_la0 : (treeL [110, 111, 100, 101, 32, 102, 40, 120, 58, 32, 105, 110, 116, 41, 32, 114, 101, 116, 117, 114, 110, 115, 32, 40, 121, 58, 32, 105, 110, 116, 41, 59, 32, 108, 101, 116, 32, 121, 32, 61, 32, 48, 32, 45, 62, 32, 112, 114, 101, 32, 112, 114, 101, 32, 120, 59, 32, 116, 101, 108]).all latOk = true := by kernel_rfl
theorem k9_at0 : iniC (treeL [110, 111, 100, 101, 32, 102, 40, 120, 58, 32, 105, 110, 116, 41, 32, 114, 101, 116, 117, 114, 110, 115, 32, 40, 121, 58, 32, 105, 110, 116, 41, 59, 32, 108, 101, 116, 32, 121, 32, 61, 32, 48, 32, 45, 62, 32, 112, 114, 101, 32, 112, 114, 101, 32, 120, 59, 32, 116, 101, 108]) = some 46 := by kernel_rfl
theorem k9_any0 (w : World) : Calls Try.prog 31 #[.string (⟨#[110, 111, 100, 101, 32, 102, 40, 120, 58, 32, 105, 110, 116, 41, 32, 114, 101, 116, 117, 114, 110, 115, 32, 40, 121, 58, 32, 105, 110, 116, 41, 59, 32, 108, 101, 116, 32, 121, 32, 61, 32, 48, 32, 45, 62, 32, 112, 114, 101, 32, 112, 114, 101, 32, 120, 59, 32, 116, 101, 108]⟩ : ByteArray)] w (fun e w' => e = .returned (.agg #[.int .i64 11, .int .i64 46]) ∧ Below w.heap.size w w') := fault9_val (L := [110, 111, 100, 101, 32, 102, 40, 120, 58, 32, 105, 110, 116, 41, 32, 114, 101, 116, 117, 114, 110, 115, 32, 40, 121, 58, 32, 105, 110, 116, 41, 59, 32, 108, 101, 116, 32, 121, 32, 61, 32, 48, 32, 45, 62, 32, 112, 114, 101, 32, 112, 114, 101, 32, 120, 59, 32, 116, 101, 108]) rfl (by decide) k9_ok0 k9_la0 k9_at0 w
theorem k9_ok1 : okAll [110, 111, 100, 101, 32, 102, 40, 120, 58, 32, 105, 110, 116, 41, 32, 114, 101, 116, 117, 114, 110, 115, 32, 40, 121, 58, 32, 105, 110, 116, 41, 59, 32, 108, 101, 116, 32, 121, 32, 61, 32, 40, 112, 114, 101, 32, 120, 41, 32, 45, 62, 32, 48, 59, 32, 116, 101, 108] = true := by kernel_rfl
theorem k9_la1 : (treeL [110, 111, 100, 101, 32, 102, 40, 120, 58, 32, 105, 110, 116, 41, 32, 114, 101, 116, 117, 114, 110, 115, 32, 40, 121, 58, 32, 105, 110, 116, 41, 59, 32, 108, 101, 116, 32, 121, 32, 61, 32, 40, 112, 114, 101, 32, 120, 41, 32, 45, 62, 32, 48, 59, 32, 116, 101, 108]).all latOk = true := by kernel_rfl
theorem k9_at1 : iniC (treeL [110, 111, 100, 101, 32, 102, 40, 120, 58, 32, 105, 110, 116, 41, 32, 114, 101, 116, 117, 114, 110, 115, 32, 40, 121, 58, 32, 105, 110, 116, 41, 59, 32, 108, 101, 116, 32, 121, 32, 61, 32, 40, 112, 114, 101, 32, 120, 41, 32, 45, 62, 32, 48, 59, 32, 116, 101, 108]) = some 49 := by kernel_rfl
theorem k9_any1 (w : World) : Calls Try.prog 31 #[.string (⟨#[110, 111, 100, 101, 32, 102, 40, 120, 58, 32, 105, 110, 116, 41, 32, 114, 101, 116, 117, 114, 110, 115, 32, 40, 121, 58, 32, 105, 110, 116, 41, 59, 32, 108, 101, 116, 32, 121, 32, 61, 32, 40, 112, 114, 101, 32, 120, 41, 32, 45, 62, 32, 48, 59, 32, 116, 101, 108]⟩ : ByteArray)] w (fun e w' => e = .returned (.agg #[.int .i64 11, .int .i64 49]) ∧ Below w.heap.size w w') := fault9_val (L := [110, 111, 100, 101, 32, 102, 40, 120, 58, 32, 105, 110, 116, 41, 32, 114, 101, 116, 117, 114, 110, 115, 32, 40, 121, 58, 32, 105, 110, 116, 41, 59, 32, 108, 101, 116, 32, 121, 32, 61, 32, 40, 112, 114, 101, 32, 120, 41, 32, 45, 62, 32, 48, 59, 32, 116, 101, 108]) rfl (by decide) k9_ok1 k9_la1 k9_at1 w
theorem k9_ok2 : okAll [110, 111, 100, 101, 32, 102, 40, 120, 58, 32, 105, 110, 116, 41, 32, 114, 101, 116, 117, 114, 110, 115, 32, 40, 121, 58, 32, 105, 110, 116, 41, 59, 32, 108, 101, 116, 32, 121, 32, 61, 32, 48, 32, 102, 98, 121, 32, 112, 114, 101, 32, 120, 59, 32, 116, 101, 108] = true := by kernel_rfl
theorem k9_la2 : (treeL [110, 111, 100, 101, 32, 102, 40, 120, 58, 32, 105, 110, 116, 41, 32, 114, 101, 116, 117, 114, 110, 115, 32, 40, 121, 58, 32, 105, 110, 116, 41, 59, 32, 108, 101, 116, 32, 121, 32, 61, 32, 48, 32, 102, 98, 121, 32, 112, 114, 101, 32, 120, 59, 32, 116, 101, 108]).all latOk = true := by kernel_rfl
theorem k9_at2 : iniC (treeL [110, 111, 100, 101, 32, 102, 40, 120, 58, 32, 105, 110, 116, 41, 32, 114, 101, 116, 117, 114, 110, 115, 32, 40, 121, 58, 32, 105, 110, 116, 41, 59, 32, 108, 101, 116, 32, 121, 32, 61, 32, 48, 32, 102, 98, 121, 32, 112, 114, 101, 32, 120, 59, 32, 116, 101, 108]) = some 43 := by kernel_rfl
theorem k9_any2 (w : World) : Calls Try.prog 31 #[.string (⟨#[110, 111, 100, 101, 32, 102, 40, 120, 58, 32, 105, 110, 116, 41, 32, 114, 101, 116, 117, 114, 110, 115, 32, 40, 121, 58, 32, 105, 110, 116, 41, 59, 32, 108, 101, 116, 32, 121, 32, 61, 32, 48, 32, 102, 98, 121, 32, 112, 114, 101, 32, 120, 59, 32, 116, 101, 108]⟩ : ByteArray)] w (fun e w' => e = .returned (.agg #[.int .i64 11, .int .i64 43]) ∧ Below w.heap.size w w') := fault9_val (L := [110, 111, 100, 101, 32, 102, 40, 120, 58, 32, 105, 110, 116, 41, 32, 114, 101, 116, 117, 114, 110, 115, 32, 40, 121, 58, 32, 105, 110, 116, 41, 59, 32, 108, 101, 116, 32, 121, 32, 61, 32, 48, 32, 102, 98, 121, 32, 112, 114, 101, 32, 120, 59, 32, 116, 101, 108]) rfl (by decide) k9_ok2 k9_la2 k9_at2 w
theorem k9_ok3 : okAll [110, 111, 100, 101, 32, 103, 40, 120, 58, 32, 105, 110, 116, 41, 32, 114, 101, 116, 117, 114, 110, 115, 32, 40, 121, 58, 32, 105, 110, 116, 41, 59, 32, 108, 101, 116, 32, 121, 32, 61, 32, 120, 59, 32, 116, 101, 108, 32, 110, 111, 100, 101, 32, 102, 40, 120, 58, 32, 105, 110, 116, 41, 32, 114, 101, 116, 117, 114, 110, 115, 32, 40, 121, 58, 32, 105, 110, 116, 41, 59, 32, 108, 101, 116, 32, 121, 32, 61, 32, 48, 32, 45, 62, 32, 103, 40, 112, 114, 101, 32, 120, 41, 59, 32, 116, 101, 108] = true := by kernel_rfl
theorem k9_la3 : (treeL [110, 111, 100, 101, 32, 103, 40, 120, 58, 32, 105, 110, 116, 41, 32, 114, 101, 116, 117, 114, 110, 115, 32, 40, 121, 58, 32, 105, 110, 116, 41, 59, 32, 108, 101, 116, 32, 121, 32, 61, 32, 120, 59, 32, 116, 101, 108, 32, 110, 111, 100, 101, 32, 102, 40, 120, 58, 32, 105, 110, 116, 41, 32, 114, 101, 116, 117, 114, 110, 115, 32, 40, 121, 58, 32, 105, 110, 116, 41, 59, 32, 108, 101, 116, 32, 121, 32, 61, 32, 48, 32, 45, 62, 32, 103, 40, 112, 114, 101, 32, 120, 41, 59, 32, 116, 101, 108]).all latOk = true := by kernel_rfl
theorem k9_at3 : (iniC (treeL [110, 111, 100, 101, 32, 103, 40, 120, 58, 32, 105, 110, 116, 41, 32, 114, 101, 116, 117, 114, 110, 115, 32, 40, 121, 58, 32, 105, 110, 116, 41, 59, 32, 108, 101, 116, 32, 121, 32, 61, 32, 120, 59, 32, 116, 101, 108, 32, 110, 111, 100, 101, 32, 102, 40, 120, 58, 32, 105, 110, 116, 41, 32, 114, 101, 116, 117, 114, 110, 115, 32, 40, 121, 58, 32, 105, 110, 116, 41, 59, 32, 108, 101, 116, 32, 121, 32, 61, 32, 48, 32, 45, 62, 32, 103, 40, 112, 114, 101, 32, 120, 41, 59, 32, 116, 101, 108])).isSome = true := by kernel_rfl
theorem k9_any3 (w : World) : Calls Try.prog 31 #[.string (⟨(110 :: 111 :: 100 :: 101 :: 32 :: 103 :: 40 :: 120 :: 58 :: 32 :: 105 :: 110 :: 116 :: 41 :: 32 :: 114 :: 101 :: 116 :: 117 :: 114 :: 110 :: 115 :: 32 :: 40 :: 121 :: 58 :: 32 :: 105 :: 110 :: 116 :: 41 :: 59 :: 32 :: 108 :: 101 :: 116 :: 32 :: 121 :: 32 :: 61 :: 32 :: 120 :: 59 :: 32 :: 116 :: 101 :: 108 :: 32 :: 110 :: 111 :: 100 :: 101 :: 32 :: 102 :: 40 :: 120 :: 58 :: 32 :: 105 :: 110 :: 116 :: 41 :: 32 :: 114 :: 101 :: 116 :: 117 :: 114 :: 110 :: 115 :: 32 :: 40 :: 121 :: 58 :: 32 :: 105 :: 110 :: 116 :: 41 :: 59 :: 32 :: 108 :: 101 :: 116 :: 32 :: 121 :: 32 :: 61 :: 32 :: 48 :: 32 :: 45 :: 62 :: 32 :: 103 :: 40 :: 112 :: 114 :: 101 :: 32 :: 120 :: 41 :: 59 :: 32 :: 116 :: 101 :: 108 :: []).toArray⟩ : ByteArray)] w (fun e w' => ∃ a : Int, e = .returned (.agg #[.int .i64 11, .int .i64 a]) ∧ Below w.heap.size w w') := by
  obtain ⟨a, ha⟩ := Option.isSome_iff_exists.1 k9_at3
  refine (fault9_val (L := [110, 111, 100, 101, 32, 103, 40, 120, 58, 32, 105, 110, 116, 41, 32, 114, 101, 116, 117, 114, 110, 115, 32, 40, 121, 58, 32, 105, 110, 116, 41, 59, 32, 108, 101, 116, 32, 121, 32, 61, 32, 120, 59, 32, 116, 101, 108, 32, 110, 111, 100, 101, 32, 102, 40, 120, 58, 32, 105, 110, 116, 41, 32, 114, 101, 116, 117, 114, 110, 115, 32, 40, 121, 58, 32, 105, 110, 116, 41, 59, 32, 108, 101, 116, 32, 121, 32, 61, 32, 48, 32, 45, 62, 32, 103, 40, 112, 114, 101, 32, 120, 41, 59, 32, 116, 101, 108]) rfl (by decide) k9_ok3 k9_la3 ha w).mono ?_
  rintro e9 w' ⟨rfl, hb⟩
  exact ⟨_, rfl, hb⟩
theorem k9_ok4 : okAll [110, 111, 100, 101, 32, 102, 40, 120, 58, 32, 105, 110, 116, 41, 32, 114, 101, 116, 117, 114, 110, 115, 32, 40, 121, 58, 32, 105, 110, 116, 41, 59, 32, 108, 101, 116, 32, 121, 32, 61, 32, 48, 32, 45, 62, 32, 112, 114, 101, 32, 40, 48, 32, 45, 62, 32, 112, 114, 101, 32, 120, 41, 59, 32, 116, 101, 108] = true := by kernel_rfl
theorem k9_la4 : (treeL [110, 111, 100, 101, 32, 102, 40, 120, 58, 32, 105, 110, 116, 41, 32, 114, 101, 116, 117, 114, 110, 115, 32, 40, 121, 58, 32, 105, 110, 116, 41, 59, 32, 108, 101, 116, 32, 121, 32, 61, 32, 48, 32, 45, 62, 32, 112, 114, 101, 32, 40, 48, 32, 45, 62, 32, 112, 114, 101, 32, 120, 41, 59, 32, 116, 101, 108]).all latOk = true := by kernel_rfl
theorem k9_at4 : iniC (treeL [110, 111, 100, 101, 32, 102, 40, 120, 58, 32, 105, 110, 116, 41, 32, 114, 101, 116, 117, 114, 110, 115, 32, 40, 121, 58, 32, 105, 110, 116, 41, 59, 32, 108, 101, 116, 32, 121, 32, 61, 32, 48, 32, 45, 62, 32, 112, 114, 101, 32, 40, 48, 32, 45, 62, 32, 112, 114, 101, 32, 120, 41, 59, 32, 116, 101, 108]) = none := by kernel_rfl
theorem k9_any4 (w : World) : Calls Try.prog 31 #[.string (⟨(110 :: 111 :: 100 :: 101 :: 32 :: 102 :: 40 :: 120 :: 58 :: 32 :: 105 :: 110 :: 116 :: 41 :: 32 :: 114 :: 101 :: 116 :: 117 :: 114 :: 110 :: 115 :: 32 :: 40 :: 121 :: 58 :: 32 :: 105 :: 110 :: 116 :: 41 :: 59 :: 32 :: 108 :: 101 :: 116 :: 32 :: 121 :: 32 :: 61 :: 32 :: 48 :: 32 :: 45 :: 62 :: 32 :: 112 :: 114 :: 101 :: 32 :: 40 :: 48 :: 32 :: 45 :: 62 :: 32 :: 112 :: 114 :: 101 :: 32 :: 120 :: 41 :: 59 :: 32 :: 116 :: 101 :: 108 :: []).toArray⟩ : ByteArray)] w (fun e w' => e = .returned (.agg #[.int .i64 0, .int .i64 0]) ∧ Below w.heap.size w w') := fault9_val (L := [110, 111, 100, 101, 32, 102, 40, 120, 58, 32, 105, 110, 116, 41, 32, 114, 101, 116, 117, 114, 110, 115, 32, 40, 121, 58, 32, 105, 110, 116, 41, 59, 32, 108, 101, 116, 32, 121, 32, 61, 32, 48, 32, 45, 62, 32, 112, 114, 101, 32, 40, 48, 32, 45, 62, 32, 112, 114, 101, 32, 120, 41, 59, 32, 116, 101, 108]) rfl (by decide) k9_ok4 k9_la4 k9_at4 w
end Go.Proofs.Ythlhogfebicooaa

namespace Go.Proofs.Ythlhogfebicooaa
open Go Go.RowKit
/-- The expression behind k rounds, m of them with an arrow. -/
def gE (m : Nat) : Nat → List UInt8
  | 0 => [120]
  | k + 1 => if k < m then [40, 48, 32, 45, 62, 32] ++ (([112, 114, 101, 32, 40] ++ gE m k) ++ [41]) ++ [41] else ([112, 114, 101, 32, 40] ++ gE m k) ++ [41]
theorem gE_len (m : Nat) : ∀ k, (gE m k).length ≤ 1 + 13 * k
  | 0 => by simp [gE]
  | k + 1 => by
    have := gE_len m k
    unfold gE
    split <;> simp only [List.length_append, List.length_cons, List.length_nil] <;> omega
def gT (n m : Nat) : List UInt8 := [110, 111, 100, 101, 32, 102, 40, 120, 58, 32, 105, 110, 116, 41, 32, 114, 101, 116, 117, 114, 110, 115, 32, 40, 121, 58, 32, 105, 110, 116, 41, 59, 32, 108, 101, 116, 32, 121, 32, 61, 32] ++ gE m n ++ [59, 32, 116, 101, 108]
def fineG (L : List UInt8) (ok : Bool) : Bool := decide (L.length ≤ 1000) && (!(perL L == 0) || (okAll L && ((treeL L).all latOk && ((iniC (treeL L)).isNone == ok))))
theorem fineG_spec {L : List UInt8} {ok : Bool} (h : fineG L ok = true) (h0 : perL L = 0) : L.length ≤ 1000 ∧ okAll L = true ∧ (treeL L).all latOk = true ∧ (iniC (treeL L)).isNone = ok := by
  unfold fineG at h
  rw [h0] at h
  simpa using h
theorem fault9_fine {t : ByteArray} {L : List UInt8} {ok : Bool} (ht : t.data.toList = L) (h : fineG L ok = true) (h0 : perL L = 0) (w : World) : Calls Try.prog 31 #[.string t] w (fun e w' => ∃ er ea : Int, e = .returned (.agg #[.int .i64 er, .int .i64 ea]) ∧ (er == 0) = ok ∧ Below w.heap.size w w') := by
  obtain ⟨h1, h2, h3, h4⟩ := fineG_spec h h0
  refine (fault9_val ht h1 h2 h3 rfl w).mono ?_
  rintro e9 w' ⟨rfl, hb⟩
  refine ⟨_, _, rfl, ?_, hb⟩
  rw [← h4]
  cases iniC (treeL L) with
  | none => rfl
  | some a => rfl
set_option maxRecDepth 100000 in
theorem gT_all0 : ((List.range 13).all fun m => fineG (gT 0 m) (decide (0 ≤ m))) = true := by kernel_rfl
set_option maxRecDepth 100000 in
theorem gT_all1 : ((List.range 13).all fun m => fineG (gT 1 m) (decide (1 ≤ m))) = true := by kernel_rfl
set_option maxRecDepth 100000 in
theorem gT_all2 : ((List.range 13).all fun m => fineG (gT 2 m) (decide (2 ≤ m))) = true := by kernel_rfl
set_option maxRecDepth 100000 in
theorem gT_all3 : ((List.range 13).all fun m => fineG (gT 3 m) (decide (3 ≤ m))) = true := by kernel_rfl
set_option maxRecDepth 100000 in
theorem gT_all4 : ((List.range 13).all fun m => fineG (gT 4 m) (decide (4 ≤ m))) = true := by kernel_rfl
set_option maxRecDepth 100000 in
theorem gT_all5 : ((List.range 13).all fun m => fineG (gT 5 m) (decide (5 ≤ m))) = true := by kernel_rfl
set_option maxRecDepth 100000 in
theorem gT_all6 : ((List.range 13).all fun m => fineG (gT 6 m) (decide (6 ≤ m))) = true := by kernel_rfl
set_option maxRecDepth 100000 in
theorem gT_all7 : ((List.range 13).all fun m => fineG (gT 7 m) (decide (7 ≤ m))) = true := by kernel_rfl
set_option maxRecDepth 100000 in
theorem gT_all8 : ((List.range 13).all fun m => fineG (gT 8 m) (decide (8 ≤ m))) = true := by kernel_rfl
set_option maxRecDepth 100000 in
theorem gT_all9 : ((List.range 13).all fun m => fineG (gT 9 m) (decide (9 ≤ m))) = true := by kernel_rfl
set_option maxRecDepth 100000 in
theorem gT_all10 : ((List.range 13).all fun m => fineG (gT 10 m) (decide (10 ≤ m))) = true := by kernel_rfl
set_option maxRecDepth 100000 in
theorem gT_all11 : ((List.range 13).all fun m => fineG (gT 11 m) (decide (11 ≤ m))) = true := by kernel_rfl
set_option maxRecDepth 100000 in
theorem gT_all12 : ((List.range 13).all fun m => fineG (gT 12 m) (decide (12 ≤ m))) = true := by kernel_rfl
theorem gT_fine (n m : Nat) (hn : n < 13) (hm : m < 13) : fineG (gT n m) (decide (n ≤ m)) = true := by
  match n, hn with
  | 0, _ => exact List.all_eq_true.1 gT_all0 m (List.mem_range.2 hm)
  | 1, _ => exact List.all_eq_true.1 gT_all1 m (List.mem_range.2 hm)
  | 2, _ => exact List.all_eq_true.1 gT_all2 m (List.mem_range.2 hm)
  | 3, _ => exact List.all_eq_true.1 gT_all3 m (List.mem_range.2 hm)
  | 4, _ => exact List.all_eq_true.1 gT_all4 m (List.mem_range.2 hm)
  | 5, _ => exact List.all_eq_true.1 gT_all5 m (List.mem_range.2 hm)
  | 6, _ => exact List.all_eq_true.1 gT_all6 m (List.mem_range.2 hm)
  | 7, _ => exact List.all_eq_true.1 gT_all7 m (List.mem_range.2 hm)
  | 8, _ => exact List.all_eq_true.1 gT_all8 m (List.mem_range.2 hm)
  | 9, _ => exact List.all_eq_true.1 gT_all9 m (List.mem_range.2 hm)
  | 10, _ => exact List.all_eq_true.1 gT_all10 m (List.mem_range.2 hm)
  | 11, _ => exact List.all_eq_true.1 gT_all11 m (List.mem_range.2 hm)
  | 12, _ => exact List.all_eq_true.1 gT_all12 m (List.mem_range.2 hm)
  | _ + 13, h => omega
end Go.Proofs.Ythlhogfebicooaa
