/-
  What the document's own text of a number does.
-/
import Derived.Test.YtolcaebdmapfbaaDoorQnd
import Derived.Test.YtolcaebdmapfbaaDoorOps3
import Derived.Test.YtolcaebdmapfbaaDoorInf
namespace Go.Proofs.YtolcaebdmapfbaaDoor
open Go Go.RowKit

def wLit (L : List UInt8) (v : Value) (W : World) : Prop := ∃ g, v = .slice (some ⟨g, 0, none⟩) L.length L.length ∧ Txt W (some ⟨g, 0, none⟩) L
theorem stable_lit (L : List UInt8) : Stable (wLit L) := fun _ _ _ ⟨g, h1, h2⟩ hb => ⟨g, h1, h2.below hb⟩
theorem bin_quo10 {P : Program} {W : World} {t : TypeId} (x : Nat) (hx : x < 9223372036854775808) : (binOp .quo t (.int .i64 (x : Int)) (.int .i64 10)).run P W = .ok (.int .i64 ((x / 10 : Nat) : Int)) W := by
  have e : (x : Int).tdiv 10 = ((x / 10 : Nat) : Int) := by
    rw [Int.tdiv_eq_ediv_of_nonneg (by omega)]
    omega
  simp [go_sem, e]
  rw [IntKind.wrap_i64]
  omega
theorem bin_rem10 {P : Program} {W : World} {t : TypeId} (x : Nat) (hx : x < 9223372036854775808) : (binOp .rem t (.int .i64 (x : Int)) (.int .i64 10)).run P W = .ok (.int .i64 ((x % 10 : Nat) : Int)) W := by
  have e : (x : Int).tmod 10 = ((x % 10 : Nat) : Int) := by
    rw [Int.tmod_eq_emod_of_nonneg (by omega)]
    omega
  simp [go_sem, e]
theorem bin_add48 {P : Program} {W : World} {t : TypeId} (x : Nat) (hx : x < 10) : (binOp .add t (.int .i64 48) (.int .i64 (x : Int))).run P W = .ok (.int .i64 ((48 + x : Nat) : Int)) W := by
  simp [go_sem]
  rw [IntKind.wrap_i64]
  omega
theorem bin_addstr {P : Program} {W : World} {t : TypeId} (a b : ByteArray) (h : a.size + b.size ≤ 9223372036854775807) : (binOp .add t (.string a) (.string b)).run P W = .ok (.string (a ++ b)) W := by
  simp [go_sem]
  omega
theorem conv_digit (W : World) (x : Nat) (hx : x < 128) : (convert 2 5 (.int .i64 (x : Int))).run Tryd.prog W = .ok (.int .u8 (x : Int)) W := by
  have hk : Tryd.prog.intKind 5 = .u8 := by simp [Program.intKind, Tryd.underlying5]
  have h := run_convert_int (P := Tryd.prog) W 2 5 .i64 (x : Int) (by rw [Tryd.underlying2]; rfl) (by rw [hk]; exact Tryd.underlying5)
  rw [h, hk, IntKind.wrap_u8, show (x : Int) % 256 = (x : Int) by omega]

set_option maxHeartbeats 8000000 in
set_option maxRecDepth 100000 in
theorem rText_any : ∀ (k n : Nat) (w : World), n < k → n < 9223372036854775808 → Calls Tryd.prog 12 #[.int .i64 (n : Int)] w fun e w' => e = .returned (.string ⟨(textN n).toArray⟩) ∧ Below w.heap.size w w'
  | 0, n, w, h, _ => by omega
  | k + 1, n, w, h, hn => by
    obtain ⟨i0, hi0, hz0, hz1, hz2⟩ := info_parts info_byte
    have d0 : decide ((n : Int) < 0) = false := by simp
    by_cases hlt : n < 10
    · have d1 : decide ((n : Int) < 10) = true := by simp; omega
      have hd := digit_nat n hlt
      have ht := textN_small n hlt
      have kcv := conv_digit w (48 + n) (by omega)
      have kst := fun W (h : Txt W (some ⟨w.heap.size, 0, none⟩) [(48 + n).toUInt8]) => run_string (P := Tryd.prog) W 48 5 9 Tryd.underlying48 Tryd.underlying5 Tryd.underlying9 (some ⟨w.heap.size, 0, none⟩) [(48 + n).toUInt8] 1 h
      have hlit := lit_txt w [(48 + n).toUInt8] #[.int .u8 (48 + (n : Int))] (by simp [Lib.byteCells, hd]; omega) 5 (0, 0)
      have k2 := kst _ hlit
      obtain ⟨S, hS⟩ : ∃ S, S = (⟨(textN n).toArray⟩ : ByteArray) := ⟨_, rfl⟩
      rw [← hS]
      rw [show ([(48 + n).toUInt8] : List UInt8).length = 1 from rfl] at k2
      have hS2 : S = ⟨#[(48 + n).toUInt8]⟩ := by rw [hS, ht]
      rw [show (⟨[(48 + n).toUInt8].toArray⟩ : ByteArray) = S from hS2.symm] at k2
      rw [show ((48 + n : Nat) : Int) = 48 + (n : Int) by omega] at kcv
      have b0 : (0 : Int) ≤ (n : Int) := by omega
      have b1 : (n : Int) < 10 := by omega
      clear kst hlit ht hd hS hS2
      go_enter Tryd.func12, Tryd.ntmps12
      go_wp2_with fail
      go_ret
      exact ⟨rfl, (Below.refl _ _).alloc (Nat.le_refl _) _⟩
    · have d1 : decide ((n : Int) < 10) = false := by simp; omega
      have IH := Lib.hid (fun W => rText_any k (n / 10) W (by omega) (by omega))
      have hT : (⟨(textN n).toArray⟩ : ByteArray) = ⟨(textN (n / 10)).toArray⟩ ++ ⟨#[(48 + n % 10).toUInt8]⟩ := by
        apply bytes_inj
        rw [textN_big n hlt]
        simp
      have HT := Lib.hid hT
      have HN := Lib.hid hn
      clear hT
      go_enter Tryd.func12, Tryd.ntmps12
      go_wp2_with fail
      refine wp_region_steps (words [wIs (.int .i64 (n : Int)), wIs (.int .i64 ((n / 10 : Nat) : Int)), wIs (.string ⟨(textN (n / 10)).toArray⟩), wIs (.int .i64 (n : Int)), wIs (.int .i64 ((n % 10 : Nat) : Int)), wIs (.int .i64 ((48 + n % 10 : Nat) : Int)), wIs (.int .u8 ((48 + n % 10 : Nat) : Int)), wLit [(48 + n % 10).toUInt8], wIs (.string ⟨#[(48 + n % 10).toUInt8]⟩), wIs (.string ⟨(textN n).toArray⟩), wIs (.string ⟨(textN n).toArray⟩)]) w.heap.size w (by kernel_rfl) (Below.refl _ _) (Nat.le_refl _) (words_stable ?stab) rfl rfl (by kernel_rfl) ?steps ?done
      case stab =>
        intro f hf
        simp only [List.mem_cons, List.not_mem_nil, or_false] at hf
        rcases hf with rfl | rfl | rfl | rfl | rfl | rfl | rfl | rfl | rfl | rfl | rfl <;> first | exact stable_is _ | exact stable_lit _
      case steps =>
        refine Steps.cons (step_value rfl fun xa W hp => ⟨wanted_none rfl, _, _, run_move (.inl rfl), (hp.old 0 rfl), Below.refl _ _⟩) ?_
        refine Steps.cons (step_value rfl fun xa W hp => ?_) ?_
        · have f0 : wIs (.int .i64 (n : Int)) (xa.tmps.getD 18 undef) W := (hp.on_ 0 rfl rfl rfl).2
          refine ⟨wanted_none rfl, _, _, run_bin3 rfl (v := .int .i64 ((n / 10 : Nat) : Int)) ?_ ?_, rfl, Below.refl _ _⟩
          · show (eqGuard .quo _ _ _ (xa.tmps.getD 18 undef) _).run _ W = _
            rw [show xa.tmps.getD 18 undef = _ from f0]
            rfl
          · show (binOp .quo _ (xa.tmps.getD 18 undef) _).run _ W = _
            rw [show xa.tmps.getD 18 undef = _ from f0]
            exact bin_quo10 n HN.out
        refine Steps.cons (step_enter rfl fun xa W hp => ?_) ?_
        · have f0 : wIs (.int .i64 ((n / 10 : Nat) : Int)) (xa.tmps.getD 19 undef) W := (hp.on_ 1 rfl rfl rfl).2
          refine ⟨wanted_none rfl, 12, _, run_enter1 rfl rfl Tryd.call12, ?_⟩
          show Calls _ _ #[xa.tmps.getD 19 undef] W _
          rw [show xa.tmps.getD 19 undef = _ from f0]
          exact (IH.out W).mono (fun e W' ⟨he, hm⟩ => ⟨_, he, rfl, hm⟩)
        refine Steps.cons (step_value rfl fun xa W hp => ⟨wanted_none rfl, _, _, run_move (.inl rfl), (hp.old 0 rfl), Below.refl _ _⟩) ?_
        refine Steps.cons (step_value rfl fun xa W hp => ?_) ?_
        · have f0 : wIs (.int .i64 (n : Int)) (xa.tmps.getD 21 undef) W := (hp.on_ 3 rfl rfl rfl).2
          refine ⟨wanted_none rfl, _, _, run_bin3 rfl (v := .int .i64 ((n % 10 : Nat) : Int)) ?_ ?_, rfl, Below.refl _ _⟩
          · show (eqGuard .rem _ _ _ (xa.tmps.getD 21 undef) _).run _ W = _
            rw [show xa.tmps.getD 21 undef = _ from f0]
            rfl
          · show (binOp .rem _ (xa.tmps.getD 21 undef) _).run _ W = _
            rw [show xa.tmps.getD 21 undef = _ from f0]
            exact bin_rem10 n HN.out
        refine Steps.cons (step_value rfl fun xa W hp => ?_) ?_
        · have f1 : wIs (.int .i64 ((n % 10 : Nat) : Int)) (xa.tmps.getD 22 undef) W := (hp.on_ 4 rfl rfl rfl).2
          refine ⟨wanted_none rfl, _, _, run_bin3 rfl (v := .int .i64 ((48 + n % 10 : Nat) : Int)) ?_ ?_, rfl, Below.refl _ _⟩
          · show (eqGuard .add _ _ _ _ (xa.tmps.getD 22 undef)).run _ W = _
            rw [show xa.tmps.getD 22 undef = _ from f1]
            rfl
          · show (binOp .add _ _ (xa.tmps.getD 22 undef)).run _ W = _
            rw [show xa.tmps.getD 22 undef = _ from f1]
            exact bin_add48 (n % 10) (by omega)
        refine Steps.cons (step_value rfl fun xa W hp => ?_) ?_
        · have f0 : wIs (.int .i64 ((48 + n % 10 : Nat) : Int)) (xa.tmps.getD 23 undef) W := (hp.on_ 5 rfl rfl rfl).2
          refine ⟨wanted_none rfl, .int .u8 ((48 + n % 10 : Nat) : Int), W, run_conv rfl ?_, rfl, Below.refl _ _⟩
          show (convert _ _ (xa.tmps.getD 23 undef)).run _ W = _
          rw [show xa.tmps.getD 23 undef = _ from f0]
          exact conv_digit W _ (by omega)
        refine Steps.cons (step_value rfl fun xa W hp => ?_) ?_
        · have f1 : wIs (.int .u8 ((48 + n % 10 : Nat) : Int)) (xa.tmps.getD 24 undef) W := (hp.on_ 6 rfl rfl rfl).2
          exact ⟨wanted_none rfl, _, _, run_build1 rfl Tryd.underlying48 hi0 hz0 hz1 rfl f1 rfl, ⟨W.heap.size, rfl, lit_txt W [(48 + n % 10).toUInt8] _ (by simp [Lib.byteCells, digit_nat (n % 10) (Nat.mod_lt _ (by decide))]; omega) _ (0, 0)⟩, (Below.refl _ _).alloc (Nat.le_refl _) _⟩
        refine Steps.cons (step_value rfl fun xa W hp => ?_) ?_
        · obtain ⟨g, e0, t0⟩ : wLit [(48 + n % 10).toUInt8] (xa.tmps.getD 25 undef) W := (hp.on_ 7 rfl rfl rfl).2
          refine ⟨wanted_none rfl, .string ⟨#[(48 + n % 10).toUInt8]⟩, W, run_conv rfl ?_, rfl, Below.refl _ _⟩
          show (convert _ _ (xa.tmps.getD 25 undef)).run _ W = _
          rw [e0]
          exact run_string W 48 5 9 Tryd.underlying48 Tryd.underlying5 Tryd.underlying9 _ [(48 + n % 10).toUInt8] 1 t0
        refine Steps.cons (step_value rfl fun xa W hp => ?_) ?_
        · have f0 : wIs (.string ⟨(textN (n / 10)).toArray⟩) (xa.tmps.getD 20 undef) W := (hp.on_ 2 rfl rfl rfl).2
          have f1 : wIs (.string ⟨#[(48 + n % 10).toUInt8]⟩) (xa.tmps.getD 26 undef) W := (hp.on_ 8 rfl rfl rfl).2
          refine ⟨wanted_none rfl, _, _, run_bin3 rfl (v := .string ⟨(textN n).toArray⟩) ?_ ?_, rfl, Below.refl _ _⟩
          · show (eqGuard .add _ _ _ (xa.tmps.getD 20 undef) (xa.tmps.getD 26 undef)).run _ W = _
            rw [show xa.tmps.getD 20 undef = _ from f0, show xa.tmps.getD 26 undef = _ from f1]
            rfl
          · show (binOp .add _ (xa.tmps.getD 20 undef) (xa.tmps.getD 26 undef)).run _ W = _
            rw [show xa.tmps.getD 20 undef = _ from f0, show xa.tmps.getD 26 undef = _ from f1]
            rw [HT.out]; exact bin_addstr _ _ (by rw [ByteArray.size, List.size_toArray]; have h19 := textN_len (n / 10) (by have := HN.out; omega); exact Nat.le_trans (Nat.add_le_add_right h19 1) (by decide))
        refine Steps.cons (step_value rfl fun xa W hp => ⟨wanted_none rfl, _, _, run_move (.inr rfl), (hp.on_ 9 rfl rfl rfl).2, Below.refl _ _⟩) ?_
        exact Steps.nil
      case done =>
        intro xa w5 hI
        have h2 : xa.tmps.getD 2 undef = .string ⟨(textN n).toArray⟩ := hI.new 10 _ 2 rfl rfl rfl
        have hsz : xa.tmps.size = 28 := hI.tmps
        have hdf : xa.defers = [] := hI.defers
        have hB5 := hI.below
        obtain ⟨f, hf, hx⟩ := act_eta hsz hdf
        rw [hf] at h2
        clear hI hf hsz hdf
        subst hx
        have hl : ((List.range 28).map f).toArray = #[f 0, f 1, f 2, f 3, f 4, f 5, f 6, f 7, f 8, f 9, f 10, f 11, f 12, f 13, f 14, f 15, f 16, f 17, f 18, f 19, f 20, f 21, f 22, f 23, f 24, f 25, f 26, f 27] := rfl
        simp only [Exit.then]
        rw [hl, h2]
        clear hl h2
        go_wp2_with fail
        go_ret
        exact ⟨rfl, hB5⟩
end Go.Proofs.YtolcaebdmapfbaaDoor
