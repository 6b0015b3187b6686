/-
  Proved: ShaApart of escapementlaw3 returns true for every input, and leaves what it was handed as it was. No conditions.
-/
import Derived.Test.YtopchpaiehoilaaDoorRows
import Derived.Test.YtopchpaiehoilaaDoorArg
import Derived.Test.YtopchpaiehoilaaDoorHaw
import Derived.Test.YtopchpaiehoilaaDoorQsh
import Derived.Test.YtopchpaiehoilaaDoorApp
import Derived.Test.YtopchpaiehoilaaDoorOps3
import Derived.Laws.BitsAllLaws
import Derived.WalkKit
import Derived.ProofKit
import Derived.OpenShut
import Derived.ShutString
import Derived.ChangeOld
import Derived.SizedLaws
import Derived.Test.YtopchpaiehoilaaDoorHof
import Derived.Test.YtopchpaiehoilaaDoorTie
import Derived.Test.YtopchpaiehoilaaDoorCards
import Derived.LaidMore
import Derived.Lay
import Derived.SevenTiedAt
import Derived.Stop.Joined
namespace Go.Proofs.YtopchpaiehoilaaDoor.shaApart
open Go.ChangeShapes Go.WideShapes Go.ChangeAt Go.RowKit
open Go.ChangeMaps (open_string shut_string)
set_option linter.unusedVariables false

theorem own : ownKnob Tryd.prog.godebug = none := by kernel_rfl
theorem laidOut : laidOutB Tryd.prog = true := by kernel_rfl

def wTxb (L : List UInt8) (v : Value) (W : World) : Prop := ∃ a c, v = .slice a L.length c ∧ Txt W a L ∧ L.length ≤ c ∧ c ≤ maxLen
theorem stable_txb (L : List UInt8) : Stable (wTxb L) := fun _ _ _ ⟨a, c, h1, h2, h3⟩ hb => ⟨a, c, h1, h2.below hb, h3⟩
theorem run_append_b {P : Program} (W : World) (t ty e : TypeId) (i : TypeInfo) (ht : P.underlying t = some (.slice e)) (hi : P.info? e = some i) (hz : i.zero = some (.int .u8 0)) (hsize : i.size = 1) (hby : i.bytes = 1)
    (v : Value) (hv : wEmp e v W) (a : Option Addr) (c : Nat) (l : List UInt8) (hne : l ≠ []) (htx : Txt W a l) (hb : l.length ≤ 140737488355328) :
    ∃ v' W', (Builtin.append_ #[t, t] ty #[v, .slice a l.length c]).run P W = .ok v' W' ∧ wTxb l v' W' ∧ Below W.heap.size W W' := by
  obtain ⟨g, rfl, hg⟩ := hv
  obtain ⟨b, o, rfl, _, _⟩ := htx hne
  obtain ⟨x, r, rfl⟩ : ∃ x r, l = x :: r := by
    cases l with
    | nil => exact absurd rfl hne
    | cons x r => exact ⟨x, r, rfl⟩
  obtain ⟨v', W', hr, r1, r2⟩ := run_append_arg_grows (P := P) W t ty e i (.int .u8 0) 1 1 ht hi hz hsize hby rfl (by decide) ⟨g, 0, none⟩ 0 0 [] (by simp) (fun j u hj => by simp at hj) ⟨b, o, none⟩ (x :: r).length c (Lib.byteCells (x :: r)) (by simp [Lib.byteCells]) htx.cells (by simp) (by unfold maxLen; omega) (by omega)
  rw [Nat.zero_add, List.nil_append] at r1
  refine ⟨v', W', hr, ?_, (Below.refl _ _).grown r2 (Nat.le_refl _) (fun k hk => by cases hk)⟩
  rcases r1.2 with ⟨rfl, h0⟩ | ⟨g', cap, cur, rfl, _, _, hnc, hcm, _⟩
  · simp at h0
  · exact ⟨_, cap, rfl, (Txt.of_own r1).1, hnc, hcm⟩
theorem digest_one (l : List UInt8) : (Lib.byteCells (shaWith KT I8 l)).toArray.all (·.oneCell') = true := Array.all_eq_true_iff_forall_mem.2 (fun v hv => byteCells_one _ v (by simpa using hv))
theorem digest_size (l : List UInt8) : (Lib.byteCells (shaWith KT I8 l)).toArray.size = 32 := by rw [List.size_toArray]; simp [Lib.byteCells, shaWith_length]
theorem bin_shl1' {P : Program} {W : World} {t : TypeId} (j : Nat) (hj : j < 8) : (binOp .shl t (.int .u8 1) (.int .u64 (j : Int))).run P W = .ok (.int .u8 ((2 ^ j : Nat) : Int)) W := by
  have h : j = 0 ∨ j = 1 ∨ j = 2 ∨ j = 3 ∨ j = 4 ∨ j = 5 ∨ j = 6 ∨ j = 7 := by omega
  rcases h with rfl | rfl | rfl | rfl | rfl | rfl | rfl | rfl <;> simp [go_sem]
  all_goals rfl
theorem pow8_lt (j : Nat) (hj : j < 8) : 2 ^ j < 256 := Nat.lt_of_le_of_lt (Nat.pow_le_pow_right (by decide) (by omega : j ≤ 7)) (by decide)
theorem flip_txt {w : World} {g q z : Nat} {L : List UInt8} (h : Txt w (some ⟨g, 0, none⟩) L) (hq : q < L.length) (hz : z < 256) : Txt (w.setCell ⟨g, q, none⟩ (.int .u8 (z : Int))) (some ⟨g, 0, none⟩) (L.set q z.toUInt8) := fun hne => by
  obtain ⟨b, o, e, hlt, hc⟩ := h (fun e => by rw [e] at hq; simp at hq)
  injection e with e
  injection e with e1 e2
  subst e1
  subst e2
  refine ⟨g, 0, rfl, by simpa using hlt, fun i hi => ?_⟩
  rw [List.length_set] at hi
  have h0 := hc i hi
  rw [Nat.zero_add] at h0 ⊢
  by_cases hiq : i = q
  · subst hiq
    rw [World.cell?_setCell_same _ _ _ h0]
    simp [Lib.toUInt8_toNat hz]
  · rw [World.cell?_setCell_other (h := by intro e; injection e with _ e _; exact hiq e.symm), h0]
    simp [List.getElem_set, Ne.symm hiq]

set_option maxHeartbeats 8000000 in
set_option maxRecDepth 100000 in
theorem walk (a_b : Option Addr) (c_b : Nat) (b : List UInt8) (bit : Int) (w : World) (hT : Tabs w) (l_b : b.length ≤ c_b) (m_b : c_b ≤ maxLen) (t_b : Txt w a_b b) (w_bit : (Lit.int .i64 bit).wf = true) :
    Calls Tryd.prog 4 #[.slice a_b b.length c_b, .int .i64 bit] w fun e w' => e = .returned (.bool true) ∧ Below w.heap.size w w' := by
  obtain ⟨i0, hi0, hz0, hz1, hz2⟩ := info_parts info_byte
  obtain ⟨hz, hsz⟩ := zero_of_info info_digest
  obtain ⟨zs, hzs⟩ : ∃ z, z = (Lib.byteCells (List.replicate 32 0)).toArray := ⟨_, rfl⟩
  rw [← hzs] at hz
  have hzsz : zs.size = 32 := by rw [hzs]; simp [Lib.byteCells]
  have HT := Lib.hid hT
  have HB := Lib.hid t_b
  obtain ⟨x0, x1⟩ := i64_wf w_bit
  clear hT t_b hzs w_bit
  have HZ := Lib.hid hzsz
  have HS0 := Lib.hid hsz
  clear hzsz hsz
  go_enter Tryd.func4, Tryd.ntmps4
  go_wp2_with fail
  refine (awake_any w HT.out).mono ?_
  rintro e w1 ⟨rfl, hb1⟩
  by_cases c1 : b.length < 1
  · have d1 : decide ((b.length : Int) < 1) = true := by simp; omega
    go_wp2_with fail
    go_ret
    exact ⟨rfl, hb1⟩
  have d1 : decide ((b.length : Int) < 1) = false := by simp; omega
  by_cases c2 : 500 < b.length
  · have d2 : decide ((500 : Int) < (b.length : Int)) = true := by simp; omega
    go_wp2_with fail
    go_ret
    exact ⟨rfl, hb1⟩
  have d2 : decide ((500 : Int) < (b.length : Int)) = false := by simp; omega
  by_cases c3 : bit < 0
  · have d3 : decide (bit < 0) = true := by simpa using c3
    go_wp2_with fail
    go_ret
    exact ⟨rfl, hb1⟩
  have d3 : decide (bit < 0) = false := by simpa using c3
  obtain ⟨X, rfl⟩ := Int.eq_ofNat_of_zero_le (by omega : 0 ≤ bit)
  by_cases c4 : 8 * b.length ≤ X
  · have d4 : decide (8 * (b.length : Int) ≤ (X : Int)) = true := by simp; omega
    go_wp2_with fail
    go_ret
    exact ⟨rfl, hb1⟩
  have d4 : decide (8 * (b.length : Int) ≤ (X : Int)) = false := by simp; omega
  have tb1 := HB.out.below hb1
  have hb2 : Below w1.heap.size w1 (w1.alloc (.cells #[] 5)) := (Below.refl _ _).alloc (Nat.le_refl _) _
  have hown2 : (w1.alloc (.cells #[] 5)).ownsRow w1.heap.size 5 1 (.slice (some ⟨w1.heap.size, 0, none⟩) 0 0) 0 [] := own_empty w1 _ _ (Nat.le_refl _)
  have t2 := tb1.below hb2
  go_wp2_with (at_builtin; refine wpList_append_txt _ rfl (.tmp 30) (.tmp 31) 22 rfl w1.heap.size 5 i0 Tryd.underlying22 hi0 hz0 hz1 hz2 _ 0 [] rfl hown2 a_b c_b b rfl t2 ?c3 ?c4 ?_)
  case c3 => omega
  case c4 => simp
  intro v5 w5 hown5 hg5
  have hb5 : Below w1.heap.size w1 w5 := hb2.grown hg5 (by simp) (fun k hk => (hown2.lt k hk).1)
  obtain ⟨g, cap, cur, rfl, hgb, hg, hnc, hcm, hsz, htk⟩ : ∃ g cap cur, v5 = .slice (some ⟨g, 0, none⟩) b.length cap ∧ w1.heap.size ≤ g ∧ w5.heap[g]? = some (.cells cur 5 (0, 0)) ∧ b.length ≤ cap ∧ cap ≤ maxLen ∧ cur.size = cap * 1 ∧ cur.toList.take (b.length * 1) = Lib.byteCells b := by
    rcases hown5.2 with ⟨rfl, h0⟩ | h
    · omega
    · exact h
  have tx5 : Txt w5 (some ⟨g, 0, none⟩) b := (Txt.of_own hown5).1
  obtain ⟨q, hq⟩ : ∃ q, q = X / 8 := ⟨_, rfl⟩
  obtain ⟨r, hr⟩ : ∃ r, r = X % 8 := ⟨_, rfl⟩
  have hdiv : (X : Int) / 8 = (q : Int) := by omega
  have hmod : (X : Int) % 8 = (r : Int) := by omega
  have hqb : q < b.length := by omega
  have hr8 : r < 8 := by omega
  obtain ⟨b', o', e', hlt5, hcl5⟩ := tx5 (fun e => by rw [e] at hqb; simp at hqb)
  injection e' with e'
  injection e' with e1 e2
  subst e1
  subst e2
  have hc5 := hcl5 q hqb
  rw [Nat.zero_add] at hc5
  obtain ⟨OB, hOB⟩ : ∃ OB, OB = (b[q]'hqb).toNat := ⟨_, rfl⟩
  have hOBl : OB < 256 := by rw [hOB]; exact UInt8.toNat_lt _
  rw [← hOB] at hc5
  have hfz := frozen_of_row w5 g q cur 5 hg
  have kshl : ∀ W, (binOp .shl 5 (.int .u8 1) (.int .u64 (r : Int))).run Tryd.prog W = .ok (.int .u8 ((2 ^ r : Nat) : Int)) W := fun W => bin_shl1' r hr8
  have hp2 := pow8_lt r hr8
  obtain ⟨p2, hp2e⟩ : ∃ p, p = 2 ^ r := ⟨_, rfl⟩
  have hsp : (2 : Int) ^ r % 256 = (p2 : Int) := by
    have e : ((2 ^ r : Nat) : Int) = (2 : Int) ^ r := by simp
    rw [← e, ← hp2e]
    rw [← hp2e] at hp2
    omega
  rw [← hp2e] at hp2
  clear kshl
  have kxor := u8_xor_nat OB p2 hOBl hp2
  obtain ⟨z, hze⟩ : ∃ z, z = OB ^^^ p2 := ⟨_, rfl⟩
  have hz256 : z < 256 := by rw [hze]; exact Nat.xor_lt_two_pow (n := 8) hOBl hp2
  rw [← hze] at kxor
  have ht6 := flip_txt tx5 hqb hz256
  have HT6 := Lib.hid ht6
  have HB5 := Lib.hid (hb1.trans (hb5.mono hb1.size))
  have HGL := Lib.hid hlt5
  have HCM := Lib.hid hcm
  have HGB := Lib.hid (Nat.le_trans hb1.size hgb)
  have q0 : (0 : Int) ≤ (q : Int) := by omega
  have q1 : (q : Int) < (b.length : Int) := by omega
  have r0 : (0 : Int) ≤ (r : Int) := by omega
  have r1 : (r : Int) < 8 := by omega
  have X0 : (0 : Int) ≤ (X : Int) := by omega
  have X1 : (X : Int) < 4000 := by omega
  clear tx5 hcl5 hOB hp2e hze ht6 hown5 hg5 hb5 hg hsz htk hcm hb2 hown2 t2 tb1 hq hr hgb hb1
  obtain ⟨C, hC⟩ : ∃ C, C = b.set q z.toUInt8 := ⟨_, rfl⟩
  have hCl : C.length = b.length := by rw [hC, List.length_set]
  rw [← hC] at HT6
  obtain ⟨w6, hw6⟩ : ∃ w6, w6 = w5.setCell ⟨g, q, none⟩ (.int .u8 (z : Int)) := ⟨_, rfl⟩
  have hB6 : Below w.heap.size w w6 := by rw [hw6]; exact HB5.out.setCell HGB.out _
  rw [← hw6] at HT6
  have hs6 : w6.heap.size = w5.heap.size := by rw [hw6]; simp
  have tb6 := HB.out.below hB6
  have hb7 : Below w6.heap.size w6 (w6.alloc (.cells #[] 5)) := (Below.refl _ _).alloc (Nat.le_refl _) _
  have hown7 : (w6.alloc (.cells #[] 5)).ownsRow w6.heap.size 5 1 (.slice (some ⟨w6.heap.size, 0, none⟩) 0 0) 0 [] := own_empty w6 _ _ (Nat.le_refl _)
  have t7 := tb6.below hb7
  have HS6 := Lib.hid hs6
  rw [hs6] at hown7
  have HW6 := Lib.hid hw6
  have HB6 := Lib.hid hB6
  have HCL := Lib.hid hCl
  clear hC hCl hw6 hB6 tb6 hs6
  go_wp2_with (first
    | (rw [← HW6.out]; at_builtin; refine wpList_append_txt _ rfl (.tmp 47) (.tmp 48) 22 rfl w5.heap.size 5 i0 Tryd.underlying22 hi0 hz0 hz1 hz2 _ 0 [] rfl hown7 a_b c_b b rfl t7 ?c5 ?c6 ?_))
  case c5 => omega
  case c6 => rw [← HS6.out]; simp
  intro v7 w7 hown7' hg7
  have hb7' : Below w6.heap.size w6 w7 := hb7.grown hg7 (by simp) (fun k hk => by have := (hown7.lt k hk).1; have := HS6.out; omega)
  have hb8 : Below w7.heap.size w7 (w7.alloc (.cells #[.int .u8 0] 5)) := (Below.refl _ _).alloc (Nat.le_refl _) _
  have hown8 := own_below hown7' hb8
  have t8 := lit_txt w7 [0] #[.int .u8 0] rfl 5 (0, 0)
  have hsz7 := hb7'.size
  have HB7 := Lib.hid hb7'
  clear hown7 t7 hb7 hg7 hown7' hb7'
  go_wp2_with (at_builtin; refine wpList_append_txt _ rfl (.tmp 49) (.tmp 50) 22 rfl w5.heap.size 5 i0 Tryd.underlying22 hi0 hz0 hz1 hz2 _ b.length (Lib.byteCells b) rfl hown8 (some ⟨w7.heap.size, 0, none⟩) 1 [0] rfl t8 ?c7 ?c8 ?_)
  case c7 => simp; omega
  case c8 => have := HS6.out; simp; omega
  intro v9 w9 hown9 hg9
  have hb9 : Below w6.heap.size w6 w9 := (HB7.out.trans (hb8.mono HB7.out.size)).grown hg9 (Nat.le_trans HB7.out.size hb8.size) (fun k hk => by have := (hown8.lt k hk).1; have := HS6.out; omega)
  rw [← Lib.byteCells_append] at hown9
  have ho9 : w9.ownsRow w5.heap.size 5 1 v9 (b ++ [(0 : UInt8)]).length (Lib.byteCells (b ++ [(0 : UInt8)])) := by
    rw [show (b ++ [(0 : UInt8)]).length = b.length + 1 by simp]
    exact hown9
  obtain ⟨a6, c6, rfl, tx9, hc9, hm9⟩ := own_bytes ho9
  have hlD : (b ++ [0]).length = b.length + 1 := by simp
  have hbt : ∀ W, Below w9.heap.size w9 W → Below w.heap.size w W := fun W h => (HB6.out.trans (hb9.mono HB6.out.size)).trans (h.mono (hb9.size |> Nat.le_trans HB6.out.size))
  have txc : ∀ W, Below w9.heap.size w9 W → Txt W (some ⟨g, 0, none⟩) C := fun W h => (HT6.out.below (hb9.trans (h.mono hb9.size)))
  have txd : ∀ W, Below w9.heap.size w9 W → Txt W a6 (b ++ [0]) := fun W h => tx9.below h
  have kob : ∀ W, Below w9.heap.size w9 W → Calls Tryd.prog 6 #[.slice a_b b.length c_b] W fun e w' => e = .returned (.agg (Lib.byteCells (shaWith KT I8 b)).toArray) ∧ Below W.heap.size W w' := fun W h => Of_any a_b b.length c_b b W (HT.out.below (hbt W h) (Nat.le_refl _)) rfl (HB.out.below (hbt W h)) l_b m_b (by omega)
  have koc : ∀ W, Below w9.heap.size w9 W → Calls Tryd.prog 6 #[.slice (some ⟨g, 0, none⟩) b.length cap] W fun e w' => e = .returned (.agg (Lib.byteCells (shaWith KT I8 C)).toArray) ∧ Below W.heap.size W w' := fun W h => Of_any _ b.length cap C W (HT.out.below (hbt W h) (Nat.le_refl _)) HCL.out.symm (txc W h) (by rw [HCL.out]; exact hnc) HCM.out (by rw [HCL.out]; omega)
  have kod : ∀ W, Below w9.heap.size w9 W → Calls Tryd.prog 6 #[.slice a6 (b.length + 1) c6] W fun e w' => e = .returned (.agg (Lib.byteCells (shaWith KT I8 (b ++ [0]))).toArray) ∧ Below W.heap.size W w' := fun W h => Of_any _ (b.length + 1) c6 (b ++ [0]) W (HT.out.below (hbt W h) (Nat.le_refl _)) hlD.symm (txd W h) hc9 hm9 (by omega)
  have koa : ∀ W aA cA, Below w9.heap.size w9 W → Txt W aA b → b.length ≤ cA → cA ≤ maxLen → Calls Tryd.prog 6 #[.slice aA b.length cA] W fun e w' => e = .returned (.agg (Lib.byteCells (shaWith KT I8 b)).toArray) ∧ Below W.heap.size W w' := fun W aA cA h hx l1 l2 => Of_any aA b.length cA b W (HT.out.below (hbt W h) (Nat.le_refl _)) rfl hx l1 l2 (by omega)
  have ksb : ∀ W, Below w9.heap.size w9 W → Calls Tryd.prog 7 #[.slice a_b b.length c_b] W fun e w' => e = .returned (.agg (Lib.byteCells (shaWith KT I8 b)).toArray) ∧ Below W.heap.size W w' := fun W h => rSha_any a_b c_b b W (HB.out.below (hbt W h)) l_b m_b (by omega)
  have ksc : ∀ W, Below w9.heap.size w9 W → Calls Tryd.prog 7 #[.slice (some ⟨g, 0, none⟩) b.length cap] W fun e w' => e = .returned (.agg (Lib.byteCells (shaWith KT I8 C)).toArray) ∧ Below W.heap.size W w' := fun W h => by
    have k := rSha_any (some ⟨g, 0, none⟩) cap C W (txc W h) (by rw [HCL.out]; exact hnc) HCM.out (by rw [HCL.out]; omega)
    rw [HCL.out] at k
    exact k
  have ksd : ∀ W, Below w9.heap.size w9 W → Calls Tryd.prog 7 #[.slice a6 (b.length + 1) c6] W fun e w' => e = .returned (.agg (Lib.byteCells (shaWith KT I8 (b ++ [0]))).toArray) ∧ Below W.heap.size W w' := fun W h => by
    have k := rSha_any a6 c6 (b ++ [0]) W (txd W h) hc9 hm9 (by omega)
    rw [hlD] at k
    exact k
  have e1 := run_eq_digest (shaWith KT I8 b) (shaWith KT I8 C) (shaWith_length _ _ _) (shaWith_length _ _ _)
  have e2 := run_eq_digest (shaWith KT I8 b) (shaWith KT I8 (b ++ [0])) (shaWith_length _ _ _) (shaWith_length _ _ _)
  have e3 := digest_same (shaWith KT I8 b) (shaWith_length _ _ _)
  obtain ⟨p1, hp1⟩ : ∃ p, p = (shaWith KT I8 b == shaWith KT I8 C) := ⟨_, rfl⟩
  obtain ⟨p2', hp2'⟩ : ∃ p, p = (shaWith KT I8 b == shaWith KT I8 (b ++ [0])) := ⟨_, rfl⟩
  rw [← hp1] at e1
  rw [← hp2'] at e2
  have vsb := digest_size b
  have vsc := digest_size C
  have v1b := digest_one b
  have v1c := digest_one C
  obtain ⟨VB, hVB⟩ : ∃ V, V = (Lib.byteCells (shaWith KT I8 b)).toArray := ⟨_, rfl⟩
  obtain ⟨VC, hVC⟩ : ∃ V, V = (Lib.byteCells (shaWith KT I8 C)).toArray := ⟨_, rfl⟩
  obtain ⟨VD, hVD⟩ : ∃ V, V = (Lib.byteCells (shaWith KT I8 (b ++ [0]))).toArray := ⟨_, rfl⟩
  rw [← hVB] at kob koa ksb e1 e2 e3 vsb v1b
  rw [← hVC] at koc ksc e1 vsc v1c
  rw [← hVD] at kod ksd e2
  have hsb : (Tryd.prog.info? 24).map (·.size) = some VB.size := by rw [vsb]; exact HS0.out
  have hsc : (Tryd.prog.info? 24).map (·.size) = some VC.size := by rw [vsc]; exact HS0.out
  have hzb : zs.size = VB.size := by rw [vsb, HZ.out]
  have hzc : zs.size = VC.size := by rw [vsc, HZ.out]
  have KOB0 := Lib.hid kob
  have KOC0 := Lib.hid koc
  have KOD0 := Lib.hid kod
  have KOA0 := Lib.hid koa
  have KSB0 := Lib.hid ksb
  have KSC0 := Lib.hid ksc
  have KSD0 := Lib.hid ksd
  have KTB0 := Lib.hid (fun W (h : Below w9.heap.size w9 W) => HB.out.below (hbt W h))
  have KBT := Lib.hid hbt
  have E1 := Lib.hid e1
  have E2 := Lib.hid e2
  have E3 := Lib.hid e3
  have HSB := Lib.hid hsb
  have HSC := Lib.hid hsc
  have HZB := Lib.hid hzb
  have HZC := Lib.hid hzc
  have H1B := Lib.hid v1b
  have H1C := Lib.hid v1c
  clear kob koc kod koa ksb ksc ksd hbt txc txd e1 e2 e3 hp1 hp2' vsb vsc v1b v1c hVB hVC hVD hsb hsc hzb hzc tx9 hown9 ho9 hg9 hown8 t8 hb8 hb9
  go_wp2_with fail
  refine (KSB0.out w9 (Below.refl _ _)).mono ?_
  rintro e w10 ⟨rfl, hb10⟩
  have HB10 := Lib.hid hb10
  clear hb10
  go_wp2_with fail
  refine (KSC0.out w10 HB10.out).mono ?_
  rintro e w11 ⟨rfl, hb11⟩
  have hB11 := HB10.out.trans (hb11.mono HB10.out.size)
  have hb12 : Below w9.heap.size w9 (w11.alloc (.cells zs 24)) := hB11.alloc hB11.size _
  have hb13 : Below w9.heap.size w9 ((w11.alloc (.cells zs 24)).alloc (.cells zs 24)) := hb12.alloc hb12.size _
  have hsz12 : (w11.alloc (.cells zs 24)).heap.size = w11.heap.size + 1 := by simp
  have hn7 : ((w11.alloc (.cells zs 24)).alloc (.cells zs 24)).heap[w11.heap.size]? = some (.cells zs 24 (0, 0)) := by
    have h := Below.heap_alloc (w11.alloc (.cells zs 24)) (.cells zs 24) w11.heap.size (by rw [hsz12]; omega)
    rw [h]; exact heap_alloc_new w11 _
  have hn8 : ((w11.alloc (.cells zs 24)).alloc (.cells zs 24)).heap[w11.heap.size + 1]? = some (.cells zs 24 (0, 0)) := by
    have h := heap_alloc_new (w11.alloc (.cells zs 24)) (.cells zs 24)
    rw [hsz12] at h; exact h
  have hr7 := setRow_heap _ w11.heap.size zs VB _ _ hn7
  have hr8 : (((w11.alloc (.cells zs 24)).alloc (.cells zs 24)).setRow w11.heap.size VB).heap[w11.heap.size + 1]? = some (.cells zs 24 (0, 0)) := (setRow_heap_other _ _ _ _ (by omega)).trans hn8
  have hq8 := setRow_heap _ (w11.heap.size + 1) zs VC _ _ hr8
  have hq7 := (setRow_heap_other (((w11.alloc (.cells zs 24)).alloc (.cells zs 24)).setRow w11.heap.size VB) (w11.heap.size + 1) VC w11.heap.size (by omega)).trans hr7
  have hb14 : Below w9.heap.size w9 (((w11.alloc (.cells zs 24)).alloc (.cells zs 24)).setRow w11.heap.size VB) := below_setRow hb13 hB11.size VB
  have hb15 : Below w9.heap.size w9 ((((w11.alloc (.cells zs 24)).alloc (.cells zs 24)).setRow w11.heap.size VB).setRow (w11.heap.size + 1) VC) := below_setRow hb14 (Nat.le_succ_of_le hB11.size) VC
  have N7 := Lib.hid hn7
  have N8 := Lib.hid hr8
  have HR8 := Lib.hid hq8
  have HR7 := Lib.hid hq7
  have HB15 := Lib.hid hb15
  clear hb11 hB11 hb12 hb13 hsz12 hn7 hn8 hr7 hr8 hq8 hq7 hb14 hb15
  go_wp2_with (first
    | (refine wpList_store_row rfl 24 (.tmp 7) (.tmp 53) rfl w11.heap.size VB rfl rfl 24 zs N7.out HSB.out HZB.out H1B.out ?_)
    | (refine wpList_store_row rfl 24 (.tmp 8) (.tmp 55) rfl (w11.heap.size + 1) VC rfl rfl 24 zs N8.out HSC.out HZC.out H1C.out ?_))
  obtain ⟨g7, hg7e⟩ : ∃ g, g = w11.heap.size := ⟨_, rfl⟩
  rw [← hg7e] at HR7 HR8 HB15 N7 N8 ⊢
  generalize (((w11.alloc (.cells zs 24)).alloc (.cells zs 24)).setRow g7 VB).setRow (g7 + 1) VC = w15 at HR7 HR8 HB15 ⊢
  have HL7 := Lib.hid (Array.getElem?_eq_some_iff.1 HR7.out).1
  have HL8 := Lib.hid (Array.getElem?_eq_some_iff.1 HR8.out).1
  have hB : ∀ W, Below w15.heap.size w15 W → Below w9.heap.size w9 W := fun W h => HB15.out.trans (h.mono HB15.out.size)
  have KOB := Lib.hid (fun W h => KOB0.out W (hB W h))
  have KOC := Lib.hid (fun W h => KOC0.out W (hB W h))
  have KOD := Lib.hid (fun W h => KOD0.out W (hB W h))
  have KOA := Lib.hid (fun W aA cA h => KOA0.out W aA cA (hB W h))
  have KSD := Lib.hid (fun W h => KSD0.out W (hB W h))
  have KTB := Lib.hid (fun W h => KTB0.out W (hB W h))
  have KBB := Lib.hid (fun W h => KBT.out W (hB W h))
  clear hB hg7e N7 N8
  refine wp_region_steps (words [wIs (.slice a_b b.length c_b), wIs (.agg VB), wIs (.slice (some ⟨g, 0, none⟩) b.length cap), wIs (.agg VC), wIs (.bool p1), wIs (.agg VB), wIs (.agg VC), wIs (.bool p1), wIs (.bool true), wIs (.bool true), wIs (.slice a_b b.length c_b), wIs (.agg VB), wIs (.slice a6 (b.length + 1) c6), wIs (.agg VD), wIs (.bool p2'), wIs (.agg VB), wIs (.slice a6 (b.length + 1) c6), wIs (.agg VD), wIs (.bool p2'), wIs (.bool true), wIs (.bool true), wIs (.bool true), wIs (.slice a_b b.length c_b), wIs (.agg VB), wEmp 5, wIs (.slice a_b b.length c_b), wTxb b, wIs (.agg VB), wIs (.bool true), wIs (.bool true), wIs (.bool true)]) w15.heap.size w15 (by kernel_rfl) (Below.refl _ _) (Nat.le_refl _) (words_stable ?stab) rfl rfl (by kernel_rfl) ?steps ?done
  case stab =>
    intro f hf
    simp only [List.mem_cons, List.not_mem_nil, or_false] at hf
    rcases hf with rfl | rfl | rfl | rfl | rfl | rfl | rfl | rfl | rfl | rfl | rfl | rfl | rfl | rfl | rfl | rfl | rfl | rfl | rfl | rfl | rfl | rfl | rfl | rfl | rfl | rfl | rfl | rfl | rfl | rfl | rfl <;> first | exact stable_is _ | exact stable_emp _ | exact stable_txb _
  case steps =>
    refine Steps.cons (step_value rfl fun xa W hp => ⟨wanted_none rfl, _, _, run_move (.inl rfl), (hp.old 0 rfl), Below.refl _ _⟩) ?_
    refine Steps.cons (step_enter rfl fun xa W hp => ?_) ?_
    · have f0 : wIs (.slice a_b b.length c_b) (xa.tmps.getD 56 undef) W := (hp.on_ 0 rfl rfl rfl).2
      refine ⟨wanted_none rfl, 6, _, run_enter1 rfl rfl Tryd.call6, ?_⟩
      show Calls _ _ #[xa.tmps.getD 56 undef] W _
      rw [show xa.tmps.getD 56 undef = _ from f0]
      exact (KOB.out W hp.below).mono (fun e W' ⟨he, hm⟩ => ⟨_, he, rfl, hm⟩)
    refine Steps.cons (step_value rfl fun xa W hp => ⟨wanted_none rfl, _, _, run_move (.inl rfl), (hp.old 5 rfl), Below.refl _ _⟩) ?_
    refine Steps.cons (step_enter rfl fun xa W hp => ?_) ?_
    · have f0 : wIs (.slice (some ⟨g, 0, none⟩) b.length cap) (xa.tmps.getD 58 undef) W := (hp.on_ 2 rfl rfl rfl).2
      refine ⟨wanted_none rfl, 6, _, run_enter1 rfl rfl Tryd.call6, ?_⟩
      show Calls _ _ #[xa.tmps.getD 58 undef] W _
      rw [show xa.tmps.getD 58 undef = _ from f0]
      exact (KOC.out W hp.below).mono (fun e W' ⟨he, hm⟩ => ⟨_, he, rfl, hm⟩)
    refine Steps.cons (step_value rfl fun xa W hp => ?_) ?_
    · have f0 : wIs (.agg VB) (xa.tmps.getD 57 undef) W := (hp.on_ 1 rfl rfl rfl).2
      have f1 : wIs (.agg VC) (xa.tmps.getD 59 undef) W := (hp.on_ 3 rfl rfl rfl).2
      refine ⟨wanted_none rfl, _, _, run_bin3 rfl (v := .bool p1) ?_ ?_, rfl, Below.refl _ _⟩
      · show (eqGuard .eql _ _ _ (xa.tmps.getD 57 undef) (xa.tmps.getD 59 undef)).run _ W = _
        rw [show xa.tmps.getD 57 undef = _ from f0, show xa.tmps.getD 59 undef = _ from f1]
        rfl
      · show (binOp .eql _ (xa.tmps.getD 57 undef) (xa.tmps.getD 59 undef)).run _ W = _
        rw [show xa.tmps.getD 57 undef = _ from f0, show xa.tmps.getD 59 undef = _ from f1]
        exact E1.out W
    refine Steps.cons (step_value rfl fun xa W hp => ?_) ?_
    · have f0 : xa.tmps.getD 7 undef = .pointer (some ⟨g7, 0, none⟩) := hp.old 7 rfl
      exact ⟨wanted_none rfl, _, _, run_ldrow rfl f0 ((hp.below.block g7 HL7.out).trans HR7.out) Tryd.underlying24 rfl (HSB.out), rfl, Below.refl _ _⟩
    refine Steps.cons (step_value rfl fun xa W hp => ?_) ?_
    · have f0 : xa.tmps.getD 8 undef = .pointer (some ⟨g7 + 1, 0, none⟩) := hp.old 8 rfl
      exact ⟨wanted_none rfl, _, _, run_ldrow rfl f0 ((hp.below.block (g7 + 1) HL8.out).trans HR8.out) Tryd.underlying24 rfl (HSC.out), rfl, Below.refl _ _⟩
    refine Steps.cons (step_value rfl fun xa W hp => ?_) ?_
    · have f0 : wIs (.agg VB) (xa.tmps.getD 61 undef) W := (hp.on_ 5 rfl rfl rfl).2
      have f1 : wIs (.agg VC) (xa.tmps.getD 62 undef) W := (hp.on_ 6 rfl rfl rfl).2
      refine ⟨wanted_none rfl, _, _, run_bin3 rfl (v := .bool p1) ?_ ?_, rfl, Below.refl _ _⟩
      · show (eqGuard .eql _ _ _ (xa.tmps.getD 61 undef) (xa.tmps.getD 62 undef)).run _ W = _
        rw [show xa.tmps.getD 61 undef = _ from f0, show xa.tmps.getD 62 undef = _ from f1]
        rfl
      · show (binOp .eql _ (xa.tmps.getD 61 undef) (xa.tmps.getD 62 undef)).run _ W = _
        rw [show xa.tmps.getD 61 undef = _ from f0, show xa.tmps.getD 62 undef = _ from f1]
        exact E1.out W
    refine Steps.cons (step_value rfl fun xa W hp => ?_) ?_
    · have f0 : wIs (.bool p1) (xa.tmps.getD 60 undef) W := (hp.on_ 4 rfl rfl rfl).2
      have f1 : wIs (.bool p1) (xa.tmps.getD 63 undef) W := (hp.on_ 7 rfl rfl rfl).2
      refine ⟨wanted_none rfl, _, _, run_bin3 rfl (v := .bool true) ?_ ?_, rfl, Below.refl _ _⟩
      · show (eqGuard .eql _ _ _ (xa.tmps.getD 60 undef) (xa.tmps.getD 63 undef)).run _ W = _
        rw [show xa.tmps.getD 60 undef = _ from f0, show xa.tmps.getD 63 undef = _ from f1]
        rfl
      · show (binOp .eql _ (xa.tmps.getD 60 undef) (xa.tmps.getD 63 undef)).run _ W = _
        rw [show xa.tmps.getD 60 undef = _ from f0, show xa.tmps.getD 63 undef = _ from f1]
        cases p1 <;> simp [go_sem]
    refine Steps.cons (step_value rfl fun xa W hp => ⟨wanted_none rfl, _, _, run_move (.inl rfl), (hp.on_ 8 rfl rfl rfl).2, Below.refl _ _⟩) ?_
    refine Steps.cons (step_value rfl fun xa W hp => ⟨wanted_some rfl rfl rfl (hp.on_ 9 rfl rfl rfl).1 (hp.on_ 9 rfl rfl rfl).2, _, _, run_move (.inl rfl), (hp.old 0 rfl), Below.refl _ _⟩) ?_
    refine Steps.cons (step_enter rfl fun xa W hp => ?_) ?_
    · have f0 : wIs (.slice a_b b.length c_b) (xa.tmps.getD 66 undef) W := (hp.on_ 10 rfl rfl rfl).2
      refine ⟨wanted_some rfl rfl rfl (hp.on_ 9 rfl rfl rfl).1 (hp.on_ 9 rfl rfl rfl).2, 6, _, run_enter1 rfl rfl Tryd.call6, ?_⟩
      show Calls _ _ #[xa.tmps.getD 66 undef] W _
      rw [show xa.tmps.getD 66 undef = _ from f0]
      exact (KOB.out W hp.below).mono (fun e W' ⟨he, hm⟩ => ⟨_, he, rfl, hm⟩)
    refine Steps.cons (step_value rfl fun xa W hp => ⟨wanted_some rfl rfl rfl (hp.on_ 9 rfl rfl rfl).1 (hp.on_ 9 rfl rfl rfl).2, _, _, run_move (.inl rfl), (hp.old 6 rfl), Below.refl _ _⟩) ?_
    refine Steps.cons (step_enter rfl fun xa W hp => ?_) ?_
    · have f0 : wIs (.slice a6 (b.length + 1) c6) (xa.tmps.getD 68 undef) W := (hp.on_ 12 rfl rfl rfl).2
      refine ⟨wanted_some rfl rfl rfl (hp.on_ 9 rfl rfl rfl).1 (hp.on_ 9 rfl rfl rfl).2, 6, _, run_enter1 rfl rfl Tryd.call6, ?_⟩
      show Calls _ _ #[xa.tmps.getD 68 undef] W _
      rw [show xa.tmps.getD 68 undef = _ from f0]
      exact (KOD.out W hp.below).mono (fun e W' ⟨he, hm⟩ => ⟨_, he, rfl, hm⟩)
    refine Steps.cons (step_value rfl fun xa W hp => ?_) ?_
    · have f0 : wIs (.agg VB) (xa.tmps.getD 67 undef) W := (hp.on_ 11 rfl rfl rfl).2
      have f1 : wIs (.agg VD) (xa.tmps.getD 69 undef) W := (hp.on_ 13 rfl rfl rfl).2
      refine ⟨wanted_some rfl rfl rfl (hp.on_ 9 rfl rfl rfl).1 (hp.on_ 9 rfl rfl rfl).2, _, _, run_bin3 rfl (v := .bool p2') ?_ ?_, rfl, Below.refl _ _⟩
      · show (eqGuard .eql _ _ _ (xa.tmps.getD 67 undef) (xa.tmps.getD 69 undef)).run _ W = _
        rw [show xa.tmps.getD 67 undef = _ from f0, show xa.tmps.getD 69 undef = _ from f1]
        rfl
      · show (binOp .eql _ (xa.tmps.getD 67 undef) (xa.tmps.getD 69 undef)).run _ W = _
        rw [show xa.tmps.getD 67 undef = _ from f0, show xa.tmps.getD 69 undef = _ from f1]
        exact E2.out W
    refine Steps.cons (step_value rfl fun xa W hp => ?_) ?_
    · have f0 : xa.tmps.getD 7 undef = .pointer (some ⟨g7, 0, none⟩) := hp.old 7 rfl
      exact ⟨wanted_some rfl rfl rfl (hp.on_ 9 rfl rfl rfl).1 (hp.on_ 9 rfl rfl rfl).2, _, _, run_ldrow rfl f0 ((hp.below.block g7 HL7.out).trans HR7.out) Tryd.underlying24 rfl (HSB.out), rfl, Below.refl _ _⟩
    refine Steps.cons (step_value rfl fun xa W hp => ⟨wanted_some rfl rfl rfl (hp.on_ 9 rfl rfl rfl).1 (hp.on_ 9 rfl rfl rfl).2, _, _, run_move (.inl rfl), (hp.old 6 rfl), Below.refl _ _⟩) ?_
    refine Steps.cons (step_enter rfl fun xa W hp => ?_) ?_
    · have f0 : wIs (.slice a6 (b.length + 1) c6) (xa.tmps.getD 72 undef) W := (hp.on_ 16 rfl rfl rfl).2
      refine ⟨wanted_some rfl rfl rfl (hp.on_ 9 rfl rfl rfl).1 (hp.on_ 9 rfl rfl rfl).2, 7, _, run_enter1 rfl rfl Tryd.call7, ?_⟩
      show Calls _ _ #[xa.tmps.getD 72 undef] W _
      rw [show xa.tmps.getD 72 undef = _ from f0]
      exact (KSD.out W hp.below).mono (fun e W' ⟨he, hm⟩ => ⟨_, he, rfl, hm⟩)
    refine Steps.cons (step_value rfl fun xa W hp => ?_) ?_
    · have f0 : wIs (.agg VB) (xa.tmps.getD 71 undef) W := (hp.on_ 15 rfl rfl rfl).2
      have f1 : wIs (.agg VD) (xa.tmps.getD 73 undef) W := (hp.on_ 17 rfl rfl rfl).2
      refine ⟨wanted_some rfl rfl rfl (hp.on_ 9 rfl rfl rfl).1 (hp.on_ 9 rfl rfl rfl).2, _, _, run_bin3 rfl (v := .bool p2') ?_ ?_, rfl, Below.refl _ _⟩
      · show (eqGuard .eql _ _ _ (xa.tmps.getD 71 undef) (xa.tmps.getD 73 undef)).run _ W = _
        rw [show xa.tmps.getD 71 undef = _ from f0, show xa.tmps.getD 73 undef = _ from f1]
        rfl
      · show (binOp .eql _ (xa.tmps.getD 71 undef) (xa.tmps.getD 73 undef)).run _ W = _
        rw [show xa.tmps.getD 71 undef = _ from f0, show xa.tmps.getD 73 undef = _ from f1]
        exact E2.out W
    refine Steps.cons (step_value rfl fun xa W hp => ?_) ?_
    · have f0 : wIs (.bool p2') (xa.tmps.getD 70 undef) W := (hp.on_ 14 rfl rfl rfl).2
      have f1 : wIs (.bool p2') (xa.tmps.getD 74 undef) W := (hp.on_ 18 rfl rfl rfl).2
      refine ⟨wanted_some rfl rfl rfl (hp.on_ 9 rfl rfl rfl).1 (hp.on_ 9 rfl rfl rfl).2, _, _, run_bin3 rfl (v := .bool true) ?_ ?_, rfl, Below.refl _ _⟩
      · show (eqGuard .eql _ _ _ (xa.tmps.getD 70 undef) (xa.tmps.getD 74 undef)).run _ W = _
        rw [show xa.tmps.getD 70 undef = _ from f0, show xa.tmps.getD 74 undef = _ from f1]
        rfl
      · show (binOp .eql _ (xa.tmps.getD 70 undef) (xa.tmps.getD 74 undef)).run _ W = _
        rw [show xa.tmps.getD 70 undef = _ from f0, show xa.tmps.getD 74 undef = _ from f1]
        cases p2' <;> simp [go_sem]
    refine Steps.cons (step_value rfl fun xa W hp => ⟨wanted_none rfl, _, _, run_pick rfl (hp.on_ 9 rfl rfl rfl).2, (hp.on_ 19 rfl rfl rfl).2, Below.refl _ _⟩) ?_
    refine Steps.cons (step_value rfl fun xa W hp => ⟨wanted_none rfl, _, _, run_move (.inl rfl), (hp.on_ 20 rfl rfl rfl).2, Below.refl _ _⟩) ?_
    refine Steps.cons (step_value rfl fun xa W hp => ⟨wanted_some rfl rfl rfl (hp.on_ 21 rfl rfl rfl).1 (hp.on_ 21 rfl rfl rfl).2, _, _, run_move (.inl rfl), (hp.old 0 rfl), Below.refl _ _⟩) ?_
    refine Steps.cons (step_enter rfl fun xa W hp => ?_) ?_
    · have f0 : wIs (.slice a_b b.length c_b) (xa.tmps.getD 78 undef) W := (hp.on_ 22 rfl rfl rfl).2
      refine ⟨wanted_some rfl rfl rfl (hp.on_ 21 rfl rfl rfl).1 (hp.on_ 21 rfl rfl rfl).2, 6, _, run_enter1 rfl rfl Tryd.call6, ?_⟩
      show Calls _ _ #[xa.tmps.getD 78 undef] W _
      rw [show xa.tmps.getD 78 undef = _ from f0]
      exact (KOB.out W hp.below).mono (fun e W' ⟨he, hm⟩ => ⟨_, he, rfl, hm⟩)
    refine Steps.cons (step_value rfl fun xa W hp => ?_) ?_
    · exact ⟨wanted_some rfl rfl rfl (hp.on_ 21 rfl rfl rfl).1 (hp.on_ 21 rfl rfl rfl).2, _, _, run_build0 rfl Tryd.underlying22 hi0, ⟨W.heap.size, rfl, heap_alloc_new W _⟩, (Below.refl _ _).alloc (Nat.le_refl _) _⟩
    refine Steps.cons (step_value rfl fun xa W hp => ⟨wanted_some rfl rfl rfl (hp.on_ 21 rfl rfl rfl).1 (hp.on_ 21 rfl rfl rfl).2, _, _, run_move (.inl rfl), (hp.old 0 rfl), Below.refl _ _⟩) ?_
    refine Steps.cons (step_value rfl fun xa W hp => ?_) ?_
    · have f1 : wEmp 5 (xa.tmps.getD 80 undef) W := (hp.on_ 24 rfl rfl rfl).2
      have f2 : wIs (.slice a_b b.length c_b) (xa.tmps.getD 81 undef) W := (hp.on_ 25 rfl rfl rfl).2
      obtain ⟨v', W', hr, h2, h3⟩ := run_append_b (P := Tryd.prog) W 22 22 5 i0 Tryd.underlying22 hi0 hz0 hz1 hz2 _ f1 a_b c_b b (by rintro rfl; simp at c1) (KTB.out W hp.below) (by omega)
      rw [← show xa.tmps.getD 81 undef = _ from f2] at hr
      exact ⟨wanted_some rfl rfl rfl (hp.on_ 21 rfl rfl rfl).1 (hp.on_ 21 rfl rfl rfl).2, v', W', run_app rfl hr, h2, h3⟩
    refine Steps.cons (step_enter rfl fun xa W hp => ?_) ?_
    · have f1 : wTxb b (xa.tmps.getD 82 undef) W := (hp.on_ 26 rfl rfl rfl).2
      obtain ⟨aA, cA, eA, tA, lA, mA⟩ := f1
      refine ⟨wanted_some rfl rfl rfl (hp.on_ 21 rfl rfl rfl).1 (hp.on_ 21 rfl rfl rfl).2, 6, _, run_enter1 rfl rfl Tryd.call6, ?_⟩
      show Calls _ _ #[xa.tmps.getD 82 undef] W _
      rw [eA]
      exact (KOA.out W aA cA hp.below tA lA mA).mono (fun e W' ⟨he, hm⟩ => ⟨_, he, rfl, hm⟩)
    refine Steps.cons (step_value rfl fun xa W hp => ?_) ?_
    · have f0 : wIs (.agg VB) (xa.tmps.getD 79 undef) W := (hp.on_ 23 rfl rfl rfl).2
      have f1 : wIs (.agg VB) (xa.tmps.getD 83 undef) W := (hp.on_ 27 rfl rfl rfl).2
      refine ⟨wanted_some rfl rfl rfl (hp.on_ 21 rfl rfl rfl).1 (hp.on_ 21 rfl rfl rfl).2, _, _, run_bin3 rfl (v := .bool true) ?_ ?_, rfl, Below.refl _ _⟩
      · show (eqGuard .eql _ _ _ (xa.tmps.getD 79 undef) (xa.tmps.getD 83 undef)).run _ W = _
        rw [show xa.tmps.getD 79 undef = _ from f0, show xa.tmps.getD 83 undef = _ from f1]
        rfl
      · show (binOp .eql _ (xa.tmps.getD 79 undef) (xa.tmps.getD 83 undef)).run _ W = _
        rw [show xa.tmps.getD 79 undef = _ from f0, show xa.tmps.getD 83 undef = _ from f1]
        exact E3.out W
    refine Steps.cons (step_value rfl fun xa W hp => ⟨wanted_none rfl, _, _, run_pick rfl (hp.on_ 21 rfl rfl rfl).2, (hp.on_ 28 rfl rfl rfl).2, Below.refl _ _⟩) ?_
    refine Steps.cons (step_value rfl fun xa W hp => ⟨wanted_none rfl, _, _, run_move (.inr rfl), (hp.on_ 29 rfl rfl rfl).2, Below.refl _ _⟩) ?_
    exact Steps.nil
  case done =>
    intro xa w16 hI
    have h4 : xa.tmps.getD 4 undef = .bool true := hI.new 30 _ 4 rfl rfl rfl
    have hszx : xa.tmps.size = 86 := hI.tmps
    have hdf : xa.defers = [] := hI.defers
    have hB16 := KBB.out w16 hI.below
    obtain ⟨f, hf, hx⟩ := act_eta hszx hdf
    rw [hf] at h4
    clear hI hf hszx hdf
    subst hx
    have hl : ((List.range 86).map f).toArray = #[f 0, f 1, f 2, f 3, f 4, f 5, f 6, f 7, f 8, f 9, f 10, f 11, f 12, f 13, f 14, f 15, f 16, f 17, f 18, f 19, f 20, f 21, f 22, f 23, f 24, f 25, f 26, f 27, f 28, f 29, f 30, f 31, f 32, f 33, f 34, f 35, f 36, f 37, f 38, f 39, f 40, f 41, f 42, f 43, f 44, f 45, f 46, f 47, f 48, f 49, f 50, f 51, f 52, f 53, f 54, f 55, f 56, f 57, f 58, f 59, f 60, f 61, f 62, f 63, f 64, f 65, f 66, f 67, f 68, f 69, f 70, f 71, f 72, f 73, f 74, f 75, f 76, f 77, f 78, f 79, f 80, f 81, f 82, f 83, f 84, f 85] := rfl
    simp only [Exit.then]
    rw [hl, h4]
    clear hl h4
    go_wp2_with fail
    go_ret
    exact ⟨rfl, hB16⟩

set_option maxRecDepth 100000 in
theorem lifted (os : Os) (started : os.Started) (H : Type) (enc : TypeId × Value → H) :
    ReturnsInHanded {} Tryd.checked os 4 .any (fun w args => (Rows.shaApartSpec.pre enc Tryd.prog Tryd.f4 Rows.shaApartRow.domain false w args ∧ laidMetH Tryd.prog LAID w) ∧ sizedMet enc Tryd.prog Tryd.f4 (OpenSpec.ofChange Rows.shaApartSpec) false w args) (Rows.shaApartSpec.post enc Tryd.prog Tryd.f4 false true false false) := by
  refine returnsInHanded_of_change_and (C := Tryd.checked) (X := fun w _ => laidMetH Tryd.prog LAID w) (fun _ _ _ hh h => h.of_heap hh) own started (by kernel_rfl) Tryd.func4
    (ChangeSpec.witness_shaped (enc := enc) (C := Tryd.checked) (os := os) (X := fun w _ => laidMetH Tryd.prog LAID w) false (World.laidAll Tryd.prog os LAID) #[.slice none 0 0, .int .i64 0] 8 (World.laidAll_os _ _ _)
      (World.shaped_of_ZipB (by kernel_rfl) (by kernel_rfl)) (by kernel_rfl) (by kernel_rfl) (by kernel_rfl)
      (by rw [MakeChecks.laidMetH_plain _ _ _ (by kernel_rfl)]; exact laidMet_laidAll _ (by kernel_rfl) (by kernel_rfl))) ?_
  intro W base args ds gs before hval0 hW hcnd hsz0 hL _
  have hT : Tabs W := tab_of (by rw [MakeChecks.laidMetH_plain _ _ _ (by kernel_rfl)] at hL; exact hL)
  have hval : ∀ (j : Nat) t v, Tryd.f4.params[j]? = some t → args[j]? = some v → Value.okWide Tryd.prog W .any base t v := hval0
  have hW' := hW
  obtain ⟨p, q, hA0, hV, rfl, hfz, hnd⟩ := hW
  have hA : DataW.TrodAll enc Tryd.prog W 0 (fun _ => true) true Tryd.f4.params.toList args.toList ds p := hA0
  rw [Tryd.params4] at hA hval
  obtain ⟨v0, vs0, d0, ds0, p0, q0, hargs, rfl, rfl, h0, r0⟩ := trodAll_cons hA
  obtain ⟨v1, vs1, d1, ds1, p1, q1, rfl, rfl, rfl, h1, r1⟩ := trodAll_cons r0
  obtain ⟨rfl, rfl, rfl⟩ := trodAll_nil r1
  obtain rfl : args = #[v0, v1] := by cases args; simp_all
  obtain ⟨rfl, rfl⟩ := trodVars_none hV
  obtain ⟨a_b, len_b, c_b, rfl⟩ := okWide_slice Tryd.underlying22 (hval 0 22 v0 rfl rfl)
  have k0 := h0
  have lt0 : ∀ x ∈ p0, x.block < W.heap.size := by obtain ⟨m, hm⟩ := k0; exact DataW.trod_lt m _ _ _ hm
  obtain ⟨b, n_b, l_b, m_b, t_b⟩ : ∃ b : List UInt8, b.length = len_b ∧ b.length ≤ c_b ∧ c_b ≤ maxLen ∧ Txt W a_b b := by
    obtain ⟨fuel, hf⟩ := h0
    rcases open_ints Tryd.underlying22 Tryd.underlying5 (by kernel_rfl) hf with ⟨hcs, _⟩ | ⟨x, l, c, zs, hcs, _, hl, hm, hz, _, hcell, hwz⟩
    · simp [Value.cells] at hcs
      obtain ⟨rfl, rfl, rfl⟩ := hcs
      exact ⟨[], rfl, Nat.zero_le _, Nat.zero_le _, Txt.nil _ _⟩
    · simp [Value.cells] at hcs
      obtain ⟨rfl, rfl, rfl⟩ := hcs
      have hr := row_some (f := Value.int .u8) hl (by simpa using hz) hcell
      obtain ⟨r, hrl, hrt⟩ := txt_of_row hr.2 (fun n hn => hwz n (List.mem_of_mem_take hn))
      exact ⟨r, hrl.trans hr.1, by rw [hrl, hr.1]; exact hl, hm, hrt⟩
  subst n_b
  obtain ⟨bit, rfl, rfl, rfl, w_bit⟩ := open_int Tryd.underlying3 (hval 1 3 v1 rfl rfl) h1
  clear hA0 hval0
  refine (walk a_b c_b b bit W hT l_b m_b t_b w_bit).mono fun e W' ⟨he, bel⟩ => ?_
  subst he
  exact ⟨_, rfl, _, _, _, [], _, [], hW', trodAll_mk1 (shut_bool Tryd.underlying4 _), (trodAll_cons_mk (Below.trod laidOut (by kernel_rfl) (of_decide_eq_true (by kernel_rfl)) k0 bel lt0) (trodAll_cons_mk (shut_int Tryd.underlying3 w_bit) trodAll_mk0)), rfl, bel.frame _, fun h => by cases h⟩

theorem over : Rows.shaApartRow.holds Tryd.pinned (OpenSpec.ofChange Rows.shaApartSpec) :=
  OpenClaim.holds_of_wide 4 Tryd.f4 rfl rfl rfl rfl rfl rfl rfl ⟨rfl, rfl, rfl, rfl, rfl⟩ rfl rfl rfl rfl rfl (by kernel_rfl) Tryd.func4 (by kernel_rfl)
    (of_decide_eq_true (by kernel_rfl)) (by unfold Func.isWrapper; first | (rw [if_pos (by decide +kernel)]; kernel_rfl) | (rw [if_neg (by decide +kernel)]; exact ⟨rfl, rfl⟩))
    (fun os started H enc _ => lifted os started H enc)

set_option maxRecDepth 100000 in
theorem proved : Rows.ShaApartCardSaid :=
  Claim7.holds_tied_plain_at .later [] [.data, .data] true Rows.shaApartCard.stood.harness false over (fun _ h => by cases h) (by kernel_rfl) (fun _ h => by cases h) shaApart_row_tie rfl ⟨rfl, rfl⟩ (by kernel_rfl) rfl
    (fun f fn hf hfn => by
      obtain rfl : f = 4 := Option.some.inj ((show Tryd.prog.funcNamed "escapement/escapementlaw3.ShaApart" = some 4 by kernel_rfl).symm.trans hf) |>.symm
      obtain rfl : fn = Tryd.f4 := (Option.some.inj (Tryd.func4.symm.trans hfn)).symm
      exact ⟨by kernel_rfl, fun j t ht => by
        rw [Tryd.params4] at ht
        have hm : t ∈ ([22, 3] : List TypeId) := by simpa using Array.mem_of_getElem? ht
        have hall : (([22, 3] : List TypeId).all fun u => !Tryd.prog.wantsStandIn u) = true := by kernel_rfl
        exact (show Tryd.prog.wantsStandIn t = false by simpa using List.all_eq_true.1 hall t hm)⟩)
    (by kernel_rfl)
#print axioms proved
end Go.Proofs.YtopchpaiehoilaaDoor.shaApart
