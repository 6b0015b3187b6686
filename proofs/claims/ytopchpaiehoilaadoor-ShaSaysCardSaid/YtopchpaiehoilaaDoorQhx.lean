/-
  What the document's own Hex does.
-/
import Derived.Test.YtopchpaiehoilaaDoorHhx
import Derived.Test.YtopchpaiehoilaaDoorApp
import Derived.Test.YtopchpaiehoilaaDoorHcp
import Derived.Test.YtopchpaiehoilaaDoorOps3
namespace Go.Proofs.YtopchpaiehoilaaDoor
open Go Go.RowKit

def wLit (L : List UInt8) (v : Value) (W : World) : Prop := ∃ g, v = .slice (some ⟨g, 0, none⟩) L.length L.length ∧ Txt W (some ⟨g, 0, none⟩) L
theorem stable_lit (L : List UInt8) : Stable (wLit L) := fun _ _ _ ⟨g, h1, h2⟩ hb => ⟨g, h1, h2.below hb⟩
theorem bin_shr4 {P : Program} {W : World} {t : TypeId} (x : Nat) (hx : x < 256) : (binOp .shr t (.int .u8 (x : Int)) (.int .u64 4)).run P W = .ok (.int .u8 ((x : Int) / 16)) W := by
  simp [go_sem]
theorem bin_and15 {P : Program} {W : World} {t : TypeId} (x m : Nat) (hx : x < 256) (hm : m = x % 16) : (binOp .and t (.int .u8 (x : Int)) (.int .u8 15)).run P W = .ok (.int .u8 (m : Int)) W := by
  have e : bits .and .u8 (x : Int) 15 = ((x % 16 : Nat) : Int) := and15_u8 x hx
  rw [hm]
  simp [go_sem, e]

set_option maxHeartbeats 8000000 in
set_option maxRecDepth 100000 in
theorem rHex_any (d : List UInt8) (w : World) (hd : d.length = 32) :
    Calls Tryd.prog 9 #[.agg (Lib.byteCells d).toArray] w fun e w' => e = .returned (.string ⟨(hexOf d).toArray⟩) ∧ Below w.heap.size w w' := by
  obtain ⟨i0, hi0, hz0, hz1, hz2⟩ := info_parts info_byte
  obtain ⟨D, hD⟩ : ∃ D, D = (Lib.byteCells d).toArray := ⟨_, rfl⟩
  rw [← hD]
  have hb1 : Below w.heap.size w (w.alloc (.cells D 24)) := (Below.refl _ _).alloc (Nat.le_refl _) _
  have hr1 : BRow (w.alloc (.cells D 24)) w.heap.size 24 d := by unfold BRow; rw [heap_alloc_new, hD]
  have hlt1 : w.heap.size + 1 ≤ (w.alloc (.cells D 24)).heap.size := by simp
  have hm := run_make_bytes 0 (by omega) 0 0 rfl rfl (w.alloc (.cells D 24))
  have HB1 := Lib.hid hb1
  have HR1 := Lib.hid hr1
  have HL1 := Lib.hid hlt1
  have HLD := Lib.hid hd
  clear hb1 hr1 hlt1 hd hD
  go_enter Tryd.func9, Tryd.ntmps9
  go_wp2
  have hown0 : ((w.alloc (.cells D 24)).alloc (.cells (Lib.byteCells []).toArray 5)).ownsRow (w.heap.size + 1) 5 1 (.slice (some ⟨w.heap.size + 1, 0, none⟩) 0 0) (2 * 0) (Lib.byteCells (hexOf (d.take 0))) := by
    have h := own_empty (w.alloc (.cells D 24)) (w.heap.size + 1) 5 HL1.out
    rw [show (w.alloc (.cells D 24)).heap.size = w.heap.size + 1 by simp] at h
    exact h
  have hb2 : Below w.heap.size w ((w.alloc (.cells D 24)).alloc (.cells (Lib.byteCells []).toArray 5)) := HB1.out.alloc HB1.out.size _
  have hr2 : BRow ((w.alloc (.cells D 24)).alloc (.cells (Lib.byteCells []).toArray 5)) w.heap.size 24 d := (Below.heap_alloc _ _ _ HR1.out.lt).trans HR1.out
  have K0 := Lib.hid hown0
  have K1 := Lib.hid hb2
  have K2 := Lib.hid hr2
  clear hown0 hb2 hr2 hm HB1 HR1 HL1
  generalize (w.alloc (.cells D 24)).alloc (.cells (Lib.byteCells []).toArray 5) = w2 at K0 K1 K2 ⊢
  go_loopw [4, 5] (fun v4 v5 w' => ∃ (V : Value) (i : Nat), V = v4 ∧ v5 = .int .i64 (i : Int) ∧ i ≤ 32 ∧ w'.ownsRow (w.heap.size + 1) 5 1 V (2 * i) (Lib.byteCells (hexOf (d.take i))) ∧ Below w.heap.size w w' ∧ BRow w' w.heap.size 24 d)
    (fun _ v5 _ => 32 - (intOf v5).toNat)
  case atStart => exact ⟨_, 0, rfl, rfl, Nat.zero_le _, K0.out, K1.out, K2.out⟩
  case round =>
    obtain ⟨V, i, hV, rfl, hi32, hown, hbel, hrow⟩ := hrel
    subst hV
    clear K0 K1 K2
    by_cases hi : i < 32
    · have hc := hrow.cell i (by rw [HLD.out]; exact hi)
      have lx := (d[i]'(by rw [HLD.out]; exact hi)).toNat_lt
      have hsucc := hexOf_succ d i (by rw [HLD.out]; exact hi)
      rw [show d.getD i 0 = d[i]'(by rw [HLD.out]; exact hi) by simp [List.getD_eq_getElem?_getD, HLD.out, hi]] at hsucc
      obtain ⟨x, hx⟩ : ∃ x, x = (d[i]'(by rw [HLD.out]; exact hi)).toNat := ⟨_, rfl⟩
      rw [← hx] at hc lx hsucc
      have x256 : x < 256 := lx
      have hx15 : bits .and .u8 (x : Int) 15 = ((x % 16 : Nat) : Int) := and15_u8 x x256
      obtain ⟨p, hp⟩ : ∃ p, p = (hexd.getD (x / 16) 0) := ⟨_, rfl⟩
      obtain ⟨q, hq⟩ : ∃ q, q = (hexd.getD (x % 16) 0) := ⟨_, rfl⟩
      have ip : ∀ W : World, (Instr.index 9 (.string ⟨#[48, 49, 50, 51, 52, 53, 54, 55, 56, 57, 97, 98, 99, 100, 101, 102]⟩) (.int .u8 ((x : Int) / 16))).run Tryd.prog W = .ok (.int .u8 (p.toNat : Int)) W := fun W => by
        rw [hp]; exact run_index_hex (P := Tryd.prog) W Tryd.underlying9 (x / 16) _ (by omega) (by omega)
      obtain ⟨m, hm⟩ : ∃ m, m = x % 16 := ⟨_, rfl⟩
      have iq : ∀ W : World, (Instr.index 9 (.string ⟨#[48, 49, 50, 51, 52, 53, 54, 55, 56, 57, 97, 98, 99, 100, 101, 102]⟩) (.int .u8 (m : Int))).run Tryd.prog W = .ok (.int .u8 (q.toNat : Int)) W := fun W => by
        rw [hq, ← hm]; exact run_index_hex (P := Tryd.prog) W Tryd.underlying9 m _ (by omega) rfl
      rw [← hm] at hx15
      rw [← hp, ← hq] at hsucc
      have HS := Lib.hid hsucc
      have HO := Lib.hid hown
      have HB := Lib.hid hbel
      have HR := Lib.hid hrow
      have HLT := Lib.hid hrow.lt
      have HMM := Lib.hid hm
      have b0 : (0 : Int) ≤ (i : Int) := by omega
      have b1 : (i : Int) < 32 := by omega
      clear hsucc hown hbel hrow hx hp hq hm lx
      go_wp2
      refine wp_region_steps_then2 (words [wIs (V), wIs (.string ⟨#[48, 49, 50, 51, 52, 53, 54, 55, 56, 57, 97, 98, 99, 100, 101, 102]⟩), wIs (.int .i64 (i : Int)), wIs (.pointer (some ⟨w.heap.size, i, none⟩)), wIs (.int .u8 (x : Int)), wIs (.int .u8 ((x : Int) / 16)), wIs (.int .u8 (p.toNat : Int)), wIs (.string ⟨#[48, 49, 50, 51, 52, 53, 54, 55, 56, 57, 97, 98, 99, 100, 101, 102]⟩), wIs (.int .i64 (i : Int)), wIs (.pointer (some ⟨w.heap.size, i, none⟩)), wIs (.int .u8 (x : Int)), wIs (.int .u8 (m : Int)), wIs (.int .u8 (q.toNat : Int)), wLit [p, q]]) wr.heap.size wr (by kernel_rfl) (Below.refl _ _) (Nat.le_refl _) (words_stable ?stab) rfl rfl (by kernel_rfl) (by kernel_rfl) 14 _ _ rfl rfl rfl ?steps ?last
      case stab =>
        intro f hf
        simp only [List.mem_cons, List.not_mem_nil, or_false] at hf
        rcases hf with rfl | rfl | rfl | rfl | rfl | rfl | rfl | rfl | rfl | rfl | rfl | rfl | rfl | rfl <;> first | exact stable_is _ | exact stable_lit _
      case steps =>
        refine Steps.cons (step_value rfl fun xa W hp => ⟨wanted_none rfl, _, _, run_move (.inl rfl), (hp.old 4 rfl), Below.refl _ _⟩) ?_
        refine Steps.cons (step_value rfl fun xa W hp => ⟨wanted_none rfl, _, _, run_move (.inl rfl), (hp.old 3 rfl), Below.refl _ _⟩) ?_
        refine Steps.cons (step_value rfl fun xa W hp => ⟨wanted_none rfl, _, _, run_move (.inl rfl), (hp.old 5 rfl), Below.refl _ _⟩) ?_
        refine Steps.cons (step_value rfl fun xa W hp => ?_) ?_
        · have f1 : wIs (.int .i64 (i : Int)) (xa.tmps.getD 13 undef) W := (hp.on_ 2 rfl rfl rfl).2
          exact ⟨wanted_none rfl, _, _, run_idxarr rfl Tryd.underlying24 hi0 hz1 (hp.old 1 rfl) f1 hi, rfl, Below.refl _ _⟩
        refine Steps.cons (step_value rfl fun xa W hp => ?_) ?_
        · have f0 : wIs (.pointer (some ⟨w.heap.size, i, none⟩)) (xa.tmps.getD 14 undef) W := (hp.on_ 3 rfl rfl rfl).2
          exact ⟨wanted_none rfl, _, _, run_ld1 rfl Tryd.underlying5 hi0 hz1 f0 ((hp.below.cell (p := ⟨w.heap.size, i, none⟩) HLT.out).trans hc), rfl, Below.refl _ _⟩
        refine Steps.cons (step_value rfl fun xa W hp => ?_) ?_
        · have f0 : wIs (.int .u8 (x : Int)) (xa.tmps.getD 15 undef) W := (hp.on_ 4 rfl rfl rfl).2
          refine ⟨wanted_none rfl, _, _, run_bin3 rfl (v := .int .u8 ((x : Int) / 16)) ?_ ?_, rfl, Below.refl _ _⟩
          · show (eqGuard .shr _ _ _ (xa.tmps.getD 15 undef) _).run _ W = _
            rw [show xa.tmps.getD 15 undef = _ from f0]
            rfl
          · show (binOp .shr _ (xa.tmps.getD 15 undef) _).run _ W = _
            rw [show xa.tmps.getD 15 undef = _ from f0]
            exact bin_shr4 x x256
        refine Steps.cons (step_value rfl fun xa W hp => ?_) ?_
        · have f1 : wIs (.string ⟨#[48, 49, 50, 51, 52, 53, 54, 55, 56, 57, 97, 98, 99, 100, 101, 102]⟩) (xa.tmps.getD 12 undef) W := (hp.on_ 1 rfl rfl rfl).2
          have f2 : wIs (.int .u8 ((x : Int) / 16)) (xa.tmps.getD 16 undef) W := (hp.on_ 5 rfl rfl rfl).2
          exact ⟨wanted_none rfl, _, _, run_idxstr rfl f1 f2 (ip W), rfl, Below.refl _ _⟩
        refine Steps.cons (step_value rfl fun xa W hp => ⟨wanted_none rfl, _, _, run_move (.inl rfl), (hp.old 3 rfl), Below.refl _ _⟩) ?_
        refine Steps.cons (step_value rfl fun xa W hp => ⟨wanted_none rfl, _, _, run_move (.inl rfl), (hp.old 5 rfl), Below.refl _ _⟩) ?_
        refine Steps.cons (step_value rfl fun xa W hp => ?_) ?_
        · have f1 : wIs (.int .i64 (i : Int)) (xa.tmps.getD 19 undef) W := (hp.on_ 8 rfl rfl rfl).2
          exact ⟨wanted_none rfl, _, _, run_idxarr rfl Tryd.underlying24 hi0 hz1 (hp.old 1 rfl) f1 hi, rfl, Below.refl _ _⟩
        refine Steps.cons (step_value rfl fun xa W hp => ?_) ?_
        · have f0 : wIs (.pointer (some ⟨w.heap.size, i, none⟩)) (xa.tmps.getD 20 undef) W := (hp.on_ 9 rfl rfl rfl).2
          exact ⟨wanted_none rfl, _, _, run_ld1 rfl Tryd.underlying5 hi0 hz1 f0 ((hp.below.cell (p := ⟨w.heap.size, i, none⟩) HLT.out).trans hc), rfl, Below.refl _ _⟩
        refine Steps.cons (step_value rfl fun xa W hp => ?_) ?_
        · have f0 : wIs (.int .u8 (x : Int)) (xa.tmps.getD 21 undef) W := (hp.on_ 10 rfl rfl rfl).2
          refine ⟨wanted_none rfl, _, _, run_bin3 rfl (v := .int .u8 (m : Int)) ?_ ?_, rfl, Below.refl _ _⟩
          · show (eqGuard .and _ _ _ (xa.tmps.getD 21 undef) _).run _ W = _
            rw [show xa.tmps.getD 21 undef = _ from f0]
            rfl
          · show (binOp .and _ (xa.tmps.getD 21 undef) _).run _ W = _
            rw [show xa.tmps.getD 21 undef = _ from f0]
            exact bin_and15 x m x256 HMM.out
        refine Steps.cons (step_value rfl fun xa W hp => ?_) ?_
        · have f1 : wIs (.string ⟨#[48, 49, 50, 51, 52, 53, 54, 55, 56, 57, 97, 98, 99, 100, 101, 102]⟩) (xa.tmps.getD 18 undef) W := (hp.on_ 7 rfl rfl rfl).2
          have f2 : wIs (.int .u8 (m : Int)) (xa.tmps.getD 22 undef) W := (hp.on_ 11 rfl rfl rfl).2
          exact ⟨wanted_none rfl, _, _, run_idxstr rfl f1 f2 (iq W), rfl, Below.refl _ _⟩
        refine Steps.cons (step_value rfl fun xa W hp => ?_) ?_
        · have f1 : wIs (.int .u8 (p.toNat : Int)) (xa.tmps.getD 17 undef) W := (hp.on_ 6 rfl rfl rfl).2
          have f2 : wIs (.int .u8 (q.toNat : Int)) (xa.tmps.getD 23 undef) W := (hp.on_ 12 rfl rfl rfl).2
          exact ⟨wanted_none rfl, _, _, run_build2 rfl Tryd.underlying22 hi0 hz0 hz1 rfl f1 f2 rfl rfl, ⟨W.heap.size, rfl, lit_txt W [p, q] _ rfl _ (0, 0)⟩, (Below.refl _ _).alloc (Nat.le_refl _) _⟩
        exact Steps.nil
      intro xa W hI
      have h0 := hI.old 0 (by simp)
      have h2 := hI.old 2 (by simp)
      have h26 := hI.old 26 (by simp)
      have h6 := hI.old 6 (by simp)
      change _ = Value.slice (some ⟨w.heap.size + 1, 0, none⟩) 0 0 at h6
      have h27 := hI.old 27 (by simp)
      change _ = Value.agg D at h0
      change _ = Value.string { data := #[] } at h2
      change _ = undef at h26
      change _ = undef at h27
      have h1 : xa.tmps.getD 1 undef = .pointer (some ⟨w.heap.size, 0, none⟩) := hI.old 1 (by simp)
      have h3 : xa.tmps.getD 3 undef = .string ⟨#[48, 49, 50, 51, 52, 53, 54, 55, 56, 57, 97, 98, 99, 100, 101, 102]⟩ := hI.old 3 (by simp)
      have h5 : xa.tmps.getD 5 undef = .int .i64 (i : Int) := hI.old 5 (by simp)
      have h11 : xa.tmps.getD 11 undef = V := hI.new 0 _ 11 rfl rfl rfl
      obtain ⟨g24, h24, t24⟩ : wLit [p, q] (xa.tmps.getD 24 undef) W := hI.new 13 _ 24 rfl rfl rfl
      have hbW : Below wr.heap.size wr W := hI.below
      have hown4 := own_below HO.out hbW
      have hle : 2 * i + ([p, q] : List UInt8).length ≤ 140737488355328 := by simp; omega
      have hsz : w.heap.size + 1 ≤ W.heap.size := Nat.le_trans HLT.out hbW.size
      obtain ⟨v5, w5, hr5, hown5, hg5⟩ := run_append_txt (P := Tryd.prog) W (w.heap.size + 1) 22 22 5 i0 Tryd.underlying22 hi0 hz0 hz1 hz2 V (2 * i) _ hown4 (some ⟨g24, 0, none⟩) 2 [p, q] t24 hle hsz
      rw [show ([p, q] : List UInt8).length = 2 from rfl] at hr5
      rw [← h11, ← show xa.tmps.getD 24 undef = .slice (some ⟨g24, 0, none⟩) 2 2 from h24] at hr5
      refine wpOp_value rfl (wanted_none rfl) (run_app rfl hr5) ?_
      refine wpOp_value rfl (wanted_none rfl) (run_move (.inr rfl)) ?_
      have hszx : xa.tmps.size = 28 := hI.tmps
      have hdf : xa.defers = [] := hI.defers
      have hbel4 := HB.out.trans (hbW.mono HB.out.size)
      have hrow4 : BRow W w.heap.size 24 d := (hbW.block _ HLT.out).trans HR.out
      have Z1 := Lib.hid hbel4
      have Z2 := Lib.hid hrow4
      have hb5 : Below w.heap.size w w5 := Z1.out.grown hg5 Z1.out.size (fun k hk => by have := (hown4.lt k hk).1; omega)
      have hr5' : BRow w5 w.heap.size 24 d := (hg5.block _ Z2.out.lt (fun e => by have := (hown4.lt _ e.symm).1; omega)).trans Z2.out
      have ho5 : w5.ownsRow (w.heap.size + 1) 5 1 v5 (2 * (i + 1)) (Lib.byteCells (hexOf (d.take (i + 1)))) := by
        rw [HS.out, Lib.byteCells_append]; exact hown5
      have Q1 := Lib.hid hb5
      have Q2 := Lib.hid hr5'
      have Q3 := Lib.hid ho5
      clear hown4 hle hsz hown5 hg5 hb5 ho5 hr5 hr5' hrow4 hbel4 hbW t24 Z1 Z2 HB HR HO hc ip iq
      obtain ⟨f, hf, hx⟩ := act_eta hszx hdf
      rw [hf] at h1 h3 h5 h0 h2 h26 h27 h6
      clear hI h11 h24 hszx hdf
      rw [show ((xa.put (some 25) v5).eval (.tmp 25)) = v5 from put_same (by rw [hx]; simp)]
      clear hf
      subst hx
      have hl : ((List.range 28).map f).toArray = #[f 0, f 1, f 2, f 3, f 4, f 5, f 6, f 7, f 8, f 9, f 10, f 11, f 12, f 13, f 14, f 15, f 16, f 17, f 18, f 19, f 20, f 21, f 22, f 23, f 24, f 25, f 26, f 27] := rfl
      simp only [Exit.then]
      rw [hl, h1, h3, h5, h0, h2, h26, h27, h6]
      clear hl h1 h3 h5 h0 h2 h26 h27 h6
      go_wp2
      refine ⟨⟨v5, i + 1, rfl, by go_num, by omega, Q3.out, Q1.out, Q2.out⟩, ?_⟩
      simp [intOf]; omega
    · obtain rfl : i = 32 := by omega
      have hl := hexOf_length d
      rw [HLD.out] at hl
      rw [List.take_of_length_le (by rw [HLD.out]; exact Nat.le_refl _), ← hl] at hown
      obtain ⟨a, c, rfl, tx⟩ : ∃ a c, V = .slice a (hexOf d).length c ∧ Txt wr a (hexOf d) := by
        rcases hown.2 with ⟨rfl, h0⟩ | ⟨g, cap, cur, rfl, _⟩
        · rw [hl] at h0; omega
        · exact ⟨_, cap, rfl, (Txt.of_own hown).1⟩
      have kst := run_string (P := Tryd.prog) wr 22 5 9 Tryd.underlying22 Tryd.underlying5 Tryd.underlying9 a (hexOf d) c tx
      rw [hl] at kst ⊢
      have HB := Lib.hid hbel
      clear hown hrow tx hl hbel
      go_wp2
      go_ret
      exact ⟨rfl, HB.out⟩
end Go.Proofs.YtopchpaiehoilaaDoor
