/-
  Proved: LexBetween of escapementlaw4 returns true for every input, and leaves what it was handed as it was. No conditions.
-/
import Derived.Test.YtolcaebdmapfbaaDoorRows
import Derived.Test.YtolcaebdmapfbaaDoorArg
import Derived.Test.YtolcaebdmapfbaaDoorLaw
import Derived.Test.YtolcaebdmapfbaaDoorLnm
import Derived.Test.YtolcaebdmapfbaaDoorQbw
import Derived.Deep.QuietTactic
import Derived.BigQuiet
import Derived.WalkKit
import Derived.ProofKit
import Derived.OpenShut
import Derived.ShutString
import Derived.ChangeOld
import Derived.SizedLaws
import Derived.Test.YtolcaebdmapfbaaDoorLtb
import Derived.Test.YtolcaebdmapfbaaDoorTie
import Derived.Test.YtolcaebdmapfbaaDoorCards
import Derived.LaidMore
import Derived.Lay
import Derived.SevenTiedAt
import Derived.Stop.Joined
namespace Go.Proofs.YtolcaebdmapfbaaDoor.lexBetween
open Go.ChangeShapes Go.WideShapes Go.ChangeAt Go.RowKit
open Go.ChangeMaps (open_string shut_string)
set_option linter.unusedVariables false

theorem own : ownKnob Tryd.prog.godebug = none := by kernel_rfl
theorem laidOut : laidOutB Tryd.prog = true := by kernel_rfl

theorem and3 (x : Int) : ∃ k : Nat, k < 4 ∧ bits .and .i64 x 3 = (k : Int) := by
  refine ⟨(BitVec.ofInt 64 x &&& BitVec.ofInt 64 3).toNat, ?_, ?_⟩
  · rw [BitVec.toNat_and]
    have h : (BitVec.ofInt 64 3).toNat = 3 := by decide
    rw [h]
    exact Nat.lt_succ_of_le Nat.and_le_right
  · have h3 : (BitVec.ofInt 64 x &&& BitVec.ofInt 64 3).toNat ≤ 3 := by
      rw [BitVec.toNat_and]
      have h : (BitVec.ofInt 64 3).toNat = 3 := by decide
      rw [h]
      exact Nat.and_le_right
    show IntKind.i64.wrap ((BitVec.ofInt 64 x &&& BitVec.ofInt 64 3).toNat : Int) = _
    rw [IntKind.wrap_i64]
    omega
theorem cutAll_err {D : List UInt8} {e p : Nat} (h : cutAll D = .error (e, p)) : e = 2 ∨ e = 7 := by
  unfold cutAll at h
  split at h
  · injection h with h; injection h with h; exact .inl h.symm
  · split at h
    · injection h with h; injection h with h; exact .inr h.symm
    · cases h
theorem wordsC_get (s : ByteArray) : ∀ (L : List (Nat × Nat × Int × Nat)) (i : Nat) (h : i < L.length) (j : Nat), j < 4 → (wordsC s L)[i * 4 + j]? = (wordC s L[i])[j]?
  | [], i, h, j, hj => by simp at h
  | x :: L, 0, h, j, hj => by
    have e : wordsC s (x :: L) = wordC s x ++ wordsC s L := by simp [wordsC]
    rw [e, Nat.zero_mul, Nat.zero_add, List.getElem?_append_left (by show j < 4; exact hj)]
    rfl
  | x :: L, i + 1, h, j, hj => by
    have e : wordsC s (x :: L) = wordC s x ++ wordsC s L := by simp [wordsC]
    have hl : (wordC s x).length = 4 := rfl
    rw [e, List.getElem?_append_right (by rw [hl]; omega), hl, show (i + 1) * 4 + j - 4 = i * 4 + j by omega]
    exact wordsC_get s L i (by simpa using h) j hj
theorem wordsC_text (s : ByteArray) (L : List (Nat × Nat × Int × Nat)) (i : Nat) (h : i < L.length) : ∃ T : ByteArray, (wordsC s L)[i * 4 + 1]? = some (.string T) ∧ T.data.toList = (s.data.toList.drop L[i].2.2.2).take L[i].2.1 := by
  refine ⟨_, (wordsC_get s L i h 1 (by decide)).trans rfl, ?_⟩
  rw [Lib.extract_data, Nat.add_sub_cancel_left]
theorem same_words (s S : ByteArray) (L M : List (Nat × Nat × Int × Nat)) (h : M.map (seen S.data.toList) = L.map (seen s.data.toList)) (i : Nat) (hi : i < L.length) :
    ∃ (k n : Int) (T : ByteArray), ((wordsC s L)[i * 4 + 0]? = some (.int .i64 k) ∧ (wordsC s L)[i * 4 + 1]? = some (.string T) ∧ (wordsC s L)[i * 4 + 2]? = some (.int .i64 n)) ∧ ((wordsC S M)[i * 4 + 0]? = some (.int .i64 k) ∧ (wordsC S M)[i * 4 + 1]? = some (.string T) ∧ (wordsC S M)[i * 4 + 2]? = some (.int .i64 n)) := by
  have hlen : M.length = L.length := by have := congrArg List.length h; simpa using this
  have hm : i < M.length := by omega
  have he : seen S.data.toList M[i] = seen s.data.toList L[i] := by
    have h2 := congrArg (fun l => l[i]?) h
    simp only [List.getElem?_map, List.getElem?_eq_getElem hi, List.getElem?_eq_getElem hm, Option.map_some] at h2
    exact Option.some.inj h2
  unfold seen at he
  injection he with e1 he
  injection he with e2 e3
  obtain ⟨T, t1, t2⟩ := wordsC_text s L i hi
  obtain ⟨T', t3, t4⟩ := wordsC_text S M i hm
  have hT : T' = T := bytes_inj (by rw [t2, t4, e2])
  refine ⟨L[i].1, L[i].2.2.1, T, ⟨(wordsC_get s L i hi 0 (by decide)).trans rfl, t1, (wordsC_get s L i hi 2 (by decide)).trans rfl⟩, ?_, by rw [t3, hT], ?_⟩
  · rw [wordsC_get S M i hm 0 (by decide), ← e1]; rfl
  · rw [wordsC_get S M i hm 2 (by decide), ← e3]; rfl
theorem anew_step (D sep : List UInt8) (L : List (Nat × Nat × Int × Nat)) (i : Nat) (h : i < L.length) : anew D sep (L.take (i + 1)) = anew D sep (L.take i) ++ ((D.drop L[i].2.2.2).take L[i].2.1 ++ sep) := by
  rw [List.take_succ_eq_append_getElem h, anew_snoc]
theorem anew_take_le (D sep : List UInt8) (L : List (Nat × Nat × Int × Nat)) (i : Nat) : (anew D sep (L.take i)).length ≤ (anew D sep L).length := by
  conv => rhs; rw [← List.take_append_drop i L]
  have e : anew D sep (L.take i ++ L.drop i) = anew D sep (L.take i) ++ anew D sep (L.drop i) := by unfold anew; rw [List.flatMap_append]
  rw [e, List.length_append]
  omega
def sepB (k : Nat) : ByteArray := if k = 0 then ⟨#[32]⟩ else if k = 1 then ⟨#[9, 13, 10]⟩ else if k = 2 then ⟨#[32, 45, 45, 32, 116, 104, 101, 110, 10]⟩ else ⟨#[10, 10]⟩
theorem sepB_in (k : Nat) : (sepB k).data.toList ∈ SEPS := by
  unfold sepB SEPS
  split
  · simp
  · split
    · simp
    · split <;> simp
theorem sepB_cell (k : Nat) (h : k < 4) : (#[Value.string ⟨#[32]⟩, Value.string ⟨#[9, 13, 10]⟩, Value.string ⟨#[32, 45, 45, 32, 116, 104, 101, 110, 10]⟩, Value.string ⟨#[10, 10]⟩] : Array Value)[k]? = some (.string (sepB k)) := by
  match k, h with
  | 0, _ => rfl
  | 1, _ => rfl
  | 2, _ => rfl
  | 3, _ => rfl
theorem between_drewN {B : Nat} {w w' : World} (h : Below B w w') (n : Nat) : Below B w (w'.drewN n) := by
  induction n with
  | zero => exact h
  | succ n ih => exact ih.drew

set_option maxHeartbeats 8000000 in
set_option maxRecDepth 100000 in
theorem walk (t : ByteArray) (how : Int) (w : World) (hT : Errs w) (w_t : t.size ≤ 140737488351232) (w_how : (Lit.int .i64 how).wf = true) :
    Calls Tryd.prog 4 #[.string t, .int .i64 how] w fun e w' => e = .returned (.bool true) ∧ Below w.heap.size w w' := by
  have HT := Lib.hid hT
  clear hT w_how
  have hlen : t.data.toList.length = t.size := by simp
  have HLEN := Lib.hid hlen
  clear hlen
  go_enter Tryd.func4, Tryd.ntmps4
  go_wp2_with fail
  refine (awake_any w HT.out).mono ?_
  rintro e w1 ⟨rfl, hb1⟩
  have HE1 := Lib.hid (HT.out.below hb1 (Nat.le_refl _))
  have HB1 := Lib.hid hb1
  clear hb1
  by_cases c1 : 800 < t.size
  · have d1 : decide ((800 : Int) < (t.size : Int)) = true := by simp; omega
    go_wp2_with fail
    go_ret
    exact ⟨rfl, HB1.out⟩
  have d1 : decide ((800 : Int) < (t.size : Int)) = false := by simp; omega
  have hcut := Cut_any t w1 (by omega) HE1.out
  unfold GivesCut at hcut
  obtain ⟨R, hR⟩ : ∃ R, R = cutAll t.data.toList := ⟨_, rfl⟩
  rw [← hR] at hcut
  cases R with
  | error x =>
    obtain ⟨er, p⟩ := x
    have her := cutAll_err hR.symm
    clear hR
    rcases her with rfl | rfl
    · go_wp2_with fail
      refine hcut.mono ?_
      rintro e w2 ⟨hb2, rfl⟩
      have HB2 := Lib.hid (HB1.out.trans (hb2.mono HB1.out.size))
      clear hcut hb2
      go_wp2_with fail
      go_ret
      exact ⟨rfl, HB2.out.alloc HB2.out.size _⟩
    · go_wp2_with fail
      refine hcut.mono ?_
      rintro e w2 ⟨hb2, rfl⟩
      have HB2 := Lib.hid (HB1.out.trans (hb2.mono HB1.out.size))
      clear hcut hb2
      go_wp2_with fail
      go_ret
      exact ⟨rfl, HB2.out.alloc HB2.out.size _⟩
  | ok L =>
    have HR := Lib.hid hR
    clear hR
    obtain ⟨k, hk4, hk⟩ := and3 how
    obtain ⟨M, hM, hseen, hbig⟩ := cut_again t.data.toList (sepB k).data.toList (by rw [HLEN.out]; omega) (sepB_in k) L HR.out.symm
    have hpos : 0 < L.length := by
      cases L with
      | nil =>
        exfalso
        have h := HR.out.symm
        unfold cutAll at h
        rw [if_neg (by rw [HLEN.out]; omega)] at h
        cases hc : cut1 t.data.toList with
        | error q => rw [hc] at h; cases h
        | ok l => rw [hc] at h; injection h with h; subst h; exact cutF_ne _ _ _ hc
      | cons x L => simp
    have hMl : M.length = L.length := by have := congrArg List.length hseen; simpa using this
    have hnl := congrArg List.length (rfl : anew t.data.toList (sepB k).data.toList L = anew t.data.toList (sepB k).data.toList L)
    have HM := Lib.hid hM
    have HSE := Lib.hid hseen
    have HBIG := Lib.hid hbig
    have HML := Lib.hid hMl
    have HK := Lib.hid hk
    clear hM hseen hbig hMl hk hnl
    go_wp2_with fail
    refine hcut.mono ?_
    rintro e w2 ⟨hb2, v, rfl, hown⟩
    obtain ⟨g1, cc, rfl, hcc, hcm, _, hgl, hcell⟩ := own_words hown hpos
    have HB2 := Lib.hid (HB1.out.trans (hb2.mono HB1.out.size))
    have HBX := Lib.hid hb2
    have HC1 := Lib.hid hcell
    have HCM := Lib.hid hcm
    clear hcut hb2 hown hcell hcm
    have hw3 : Below w2.heap.size w2 (w2.alloc (.cells #[.int .i64 0, .int .i64 0] 26)) := (Below.refl _ _).alloc (Nat.le_refl _) _
    have hw4 : Below w2.heap.size w2 ((w2.alloc (.cells #[.int .i64 0, .int .i64 0] 26)).alloc (.cells #[.string ⟨#[32]⟩, .string ⟨#[9, 13, 10]⟩, .string ⟨#[32, 45, 45, 32, 116, 104, 101, 110, 10]⟩, .string ⟨#[10, 10]⟩] 9)) := hw3.alloc hw3.size _
    have hck : ((w2.alloc (.cells #[.int .i64 0, .int .i64 0] 26)).alloc (.cells #[.string ⟨#[32]⟩, .string ⟨#[9, 13, 10]⟩, .string ⟨#[32, 45, 45, 32, 116, 104, 101, 110, 10]⟩, .string ⟨#[10, 10]⟩] 9)).cell? ⟨w2.heap.size + 1, k, none⟩ = some (.string (sepB k)) := by
      have h := heap_alloc_new (w2.alloc (.cells #[.int .i64 0, .int .i64 0] 26)) (.cells #[.string ⟨#[32]⟩, .string ⟨#[9, 13, 10]⟩, .string ⟨#[32, 45, 45, 32, 116, 104, 101, 110, 10]⟩, .string ⟨#[10, 10]⟩] 9)
      rw [show (w2.alloc (.cells #[.int .i64 0, .int .i64 0] 26)).heap.size = w2.heap.size + 1 by simp] at h
      show ((_ : World).cell? _) = _
      simp only [World.cell?, h]
      exact sepB_cell k hk4
    have hfl0 : ((w2.alloc (.cells #[.int .i64 0, .int .i64 0] 26)).alloc (.cells #[.string ⟨#[32]⟩, .string ⟨#[9, 13, 10]⟩, .string ⟨#[32, 45, 45, 32, 116, 104, 101, 110, 10]⟩, .string ⟨#[10, 10]⟩] 9)).heap.size = w2.heap.size + 2 := by simp
    have hlk : (sepB k).size ≤ 9 := by
      obtain ⟨c0, t0, h0, _, h8⟩ := sep_head (sepB_in k)
      have h := congrArg List.length h0
      simp at h
      omega
    have hkk := HK.out
    have q0 : (0 : Int) ≤ (k : Int) := by omega
    have q4 : (k : Int) < 4 := by omega
    obtain ⟨sep, hsep⟩ : ∃ s, s = sepB k := ⟨_, rfl⟩
    rw [← hsep] at hck hlk HM HSE HBIG
    have W4 := Lib.hid hw4
    have WS := Lib.hid hfl0
    clear hw3 hw4 hfl0
    have hcell1 : ∀ W, Below w2.heap.size w2 W → ∀ i, i < L.length * 4 → W.cell? ⟨g1, i, none⟩ = (wordsC t L)[i]? := fun W hW i hi => (hW.cell (p := ⟨g1, i, none⟩) hgl).trans (HC1.out i hi)
    have HC := Lib.hid hcell1
    have hn800 : L.length ≤ 10000 := by
      have h1 := HBIG.out
      have h2 := anew_length t.data.toList sep.data.toList L
      have h3 : 1 ≤ sep.data.toList.length := by
        rw [hsep]
        obtain ⟨c0, t0, h0, _, _⟩ := sep_head (sepB_in k)
        rw [h0]; simp
      have h4 : L.length * 1 ≤ L.length * sep.data.toList.length := Nat.mul_le_mul_left _ h3
      omega
    have hnm := cc
    clear HC1 hcell1 hsep hnm HT
    obtain ⟨n, hn⟩ : ∃ n, n = L.length := ⟨_, rfl⟩
    rw [← hn] at hcc hpos hn800
    have HNL := Lib.hid hn
    rw [← hn]
    clear hn
    go_wp2_with fail
    generalize (w2.alloc (.cells #[.int .i64 0, .int .i64 0] 26)).alloc (.cells #[.string ⟨#[32]⟩, .string ⟨#[9, 13, 10]⟩, .string ⟨#[32, 45, 45, 32, 116, 104, 101, 110, 10]⟩, .string ⟨#[10, 10]⟩] 9) = w3 at W4 WS hck ⊢
    clear hck
    have HB3 := Lib.hid (HB2.out.trans (W4.out.mono HB2.out.size))
    go_loop [8, 9] (fun vs vi => ∃ (i : Nat) (S : ByteArray), vs = .string S ∧ vi = .int .i64 (i : Int) ∧ i ≤ n ∧ S.data.toList = anew t.data.toList sep.data.toList (L.take i)) (fun _ vi => n - (intOf vi).toNat)
    case atStart => exact ⟨0, _, rfl, rfl, Nat.zero_le _, rfl⟩
    case round =>
      obtain ⟨i, S, rfl, rfl, hi, hS⟩ := hrel
      have hSz : S.size ≤ 10000 := by
        have h1 := anew_take_le t.data.toList sep.data.toList L i
        have h2 := congrArg List.length hS
        have h3 : S.data.toList.length = S.size := by simp
        have h4 := HBIG.out
        omega
      have HS := Lib.hid hS
      clear hS
      by_cases hlt : i < n
      · have d4 : decide ((i : Int) < (n : Int)) = true := by simp; omega
        obtain ⟨T, t1, t2⟩ := wordsC_text t L i (by rw [← HNL.out]; exact hlt)
        have hct := (HC.out w3 W4.out (i * 4 + 1) (by rw [← HNL.out]; omega)).trans t1
        have hTz : T.size ≤ 800 := by
          have h2 := congrArg List.length t2
          have h3 : T.data.toList.length = T.size := by simp
          have h4 := HLEN.out
          rw [List.length_take, List.length_drop] at h2
          omega
        have hnext : (S ++ T ++ sep).data.toList = anew t.data.toList sep.data.toList (L.take (i + 1)) := by
          rw [anew_step _ _ _ _ (by rw [← HNL.out]; exact hlt), ByteArray.data_append, ByteArray.data_append, Array.toList_append, Array.toList_append, HS.out, t2, List.append_assoc]
        have HX := Lib.hid hnext
        have i0 : (0 : Int) ≤ (i : Int) := by omega
        have i1 : (i : Int) < (n : Int) := by omega
        clear hnext t1 t2
        go_wp2_with fail
        go_round
        case rel => exact ⟨i + 1, S ++ T ++ sep, rfl, by go_num, by omega, HX.out⟩
        case measure => simp [intOf]; omega
      · obtain rfl : i = n := by omega
        have d4 : decide ((i : Int) < (i : Int)) = false := by simp
        have hE3 := HE1.out
        have hSL : S.data.toList = anew t.data.toList sep.data.toList L := by rw [HS.out, List.take_of_length_le (by rw [← HNL.out]; exact Nat.le_refl _)]
        have hcut := Cut_any S w3 (by omega) (hE3.below (HBX.out.trans (W4.out.mono HBX.out.size)) (Nat.le_refl _))
        unfold GivesCut at hcut
        have hMS := HM.out
        rw [← hSL] at hMS
        rw [hMS] at hcut
        have hse := HSE.out
        rw [← hSL] at hse
        have HSE2 := Lib.hid hse
        clear hMS hse hSL hE3 HM HSE HS
        go_wp2_with fail
        refine hcut.mono ?_
        rintro e w4 ⟨hb4, v, rfl, hown4⟩
        rw [HML.out, ← HNL.out] at hown4
        obtain ⟨g2, c2, rfl, hc2, hcm2, _, hgl2, hcell2⟩ := own_words hown4 hpos
        have HB4 := Lib.hid (HB3.out.trans (hb4.mono HB3.out.size))
        have W44 := Lib.hid (W4.out.trans (hb4.mono W4.out.size))
        have HCM2 := Lib.hid hcm2
        have HC2 := Lib.hid hcell2
        have hgl2' := hgl2
        have hwF : Below w4.heap.size w4 (w4.alloc (.cells #[.int .i64 0, .int .i64 0] 26)) := (Below.refl _ _).alloc (Nat.le_refl _) _
        have WF := Lib.hid hwF
        have nn : ((i : Int) != (i : Int)) = false := by simp
        clear hcut hb4 hown4 hcm2 hcell2 hwF
        go_wp2_with fail
        generalize w4.alloc (.cells #[.int .i64 0, .int .i64 0] 26) = w5 at WF ⊢
        go_loopw [12] (fun vi wr => ∃ j : Nat, vi = .int .i64 (j : Int) ∧ j ≤ i ∧ Below w4.heap.size w4 wr) (fun vi _ => i - (intOf vi).toNat)
        case atStart => exact ⟨0, rfl, Nat.zero_le _, WF.out⟩
        case round =>
          obtain ⟨j, rfl, hj, hbr⟩ := hrel
          have HBR := Lib.hid hbr
          clear hbr
          by_cases hjl : j < i
          · have d6 : decide ((j : Int) < (i : Int)) = true := by simp; omega
            obtain ⟨kk, nn2, T, ⟨a0, a1, a2⟩, b0, b1, b2⟩ := same_words t S L M HSE2.out j (by rw [← HNL.out]; exact hjl)
            have e0 := (HC.out wr (W44.out.trans (HBR.out.mono W44.out.size)) (j * 4 + 0) (by rw [← HNL.out]; omega)).trans a0
            have e1 := (HC.out wr (W44.out.trans (HBR.out.mono W44.out.size)) (j * 4 + 1) (by rw [← HNL.out]; omega)).trans a1
            have e2 := (HC.out wr (W44.out.trans (HBR.out.mono W44.out.size)) (j * 4 + 2) (by rw [← HNL.out]; omega)).trans a2
            have f0 := (HBR.out.cell (p := ⟨g2, j * 4 + 0, none⟩) hgl2).trans ((HC2.out (j * 4 + 0) (by omega)).trans b0)
            have f1 := (HBR.out.cell (p := ⟨g2, j * 4 + 1, none⟩) hgl2).trans ((HC2.out (j * 4 + 1) (by omega)).trans b1)
            have f2 := (HBR.out.cell (p := ⟨g2, j * 4 + 2, none⟩) hgl2).trans ((HC2.out (j * 4 + 2) (by omega)).trans b2)
            rw [Nat.add_zero] at e0 f0
            have j0 : (0 : Int) ≤ (j : Int) := by omega
            have j1 : (j : Int) < (i : Int) := by omega
            have k1 : (kk != kk) = false := by simp
            have k2 : (nn2 != nn2) = false := by simp
            clear a0 a1 a2 b0 b1 b2
            go_wp2_with fail
            go_quiet (fail)
            go_wp2_with fail
            refine ⟨⟨j + 1, by go_num, by omega, between_drewN HBR.out _⟩, ?_⟩
            simp [intOf]; omega
          · obtain rfl : j = i := by omega
            have d6 : decide ((j : Int) < (j : Int)) = false := by simp
            go_wp2_with fail
            go_ret
            exact ⟨rfl, HB4.out.trans (HBR.out.mono HB4.out.size)⟩

set_option maxRecDepth 100000 in
theorem lifted (os : Os) (started : os.Started) (H : Type) (enc : TypeId × Value → H) :
    ReturnsInHanded {} Tryd.checked os 4 .any (fun w args => (Rows.lexBetweenSpec.pre enc Tryd.prog Tryd.f4 Rows.lexBetweenRow.domain false w args ∧ laidMetH Tryd.prog LAID w) ∧ sizedMet enc Tryd.prog Tryd.f4 (OpenSpec.ofChange Rows.lexBetweenSpec) false w args) (Rows.lexBetweenSpec.post enc Tryd.prog Tryd.f4 false true false false) := by
  refine returnsInHanded_of_change_and (C := Tryd.checked) (X := fun w _ => laidMetH Tryd.prog LAID w) (fun _ _ _ hh h => h.of_heap hh) own started (by kernel_rfl) Tryd.func4
    (ChangeSpec.witness_shaped (enc := enc) (C := Tryd.checked) (os := os) (X := fun w _ => laidMetH Tryd.prog LAID w) false (World.laidAll Tryd.prog os LAID) #[.string ByteArray.empty, .int .i64 0] 8 (World.laidAll_os _ _ _)
      (World.shaped_of_ZipB (by kernel_rfl) (by kernel_rfl)) (by kernel_rfl) (by kernel_rfl) (by kernel_rfl)
      (by rw [MakeChecks.laidMetH_plain _ _ _ (by kernel_rfl)]; exact laidMet_laidAll _ (by kernel_rfl) (by kernel_rfl))) ?_
  intro W base args ds gs before hval0 hW hcnd hsz0 hL _
  have hT : Errs W := tab_of (by rw [MakeChecks.laidMetH_plain _ _ _ (by kernel_rfl)] at hL; exact hL)
  have hsz : (DataW.weightsEach Tryd.prog (Tryd.f4.params.toList ++ Rows.lexBetweenSpec.plain.varTypes Tryd.prog) (ds ++ gs)).all (· ≤ reachBytes) = true := hsz0
  clear hsz0
  have hval : ∀ (j : Nat) t v, Tryd.f4.params[j]? = some t → args[j]? = some v → Value.okWide Tryd.prog W .any base t v := hval0
  have hW' := hW
  obtain ⟨p, q, hA0, hV, rfl, hfz, hnd⟩ := hW
  have hA : DataW.TrodAll enc Tryd.prog W 0 (fun _ => true) true Tryd.f4.params.toList args.toList ds p := hA0
  rw [Tryd.params4] at hA hval hsz
  obtain ⟨v0, vs0, d0, ds0, p0, q0, hargs, rfl, rfl, h0, r0⟩ := trodAll_cons hA
  obtain ⟨v1, vs1, d1, ds1, p1, q1, rfl, rfl, rfl, h1, r1⟩ := trodAll_cons r0
  obtain ⟨rfl, rfl, rfl⟩ := trodAll_nil r1
  obtain rfl : args = #[v0, v1] := by cases args; simp_all
  obtain ⟨rfl, rfl⟩ := trodVars_none hV
  obtain ⟨t, rfl, rfl, rfl, m_t⟩ := open_string Tryd.underlying9 (hval 0 9 v0 rfl rfl) h0
  have w_t : t.size ≤ 140737488351232 := by have h := sized_string hsz (j := 0) rfl rfl; simpa [reachBytes] using h
  obtain ⟨how, rfl, rfl, rfl, w_how⟩ := open_int Tryd.underlying3 (hval 1 3 v1 rfl rfl) h1
  clear hA0 hval0
  refine (walk t how W hT w_t w_how).mono fun e W' ⟨he, bel⟩ => ?_
  subst he
  exact ⟨_, rfl, _, _, _, [], _, [], hW', trodAll_mk1 (shut_bool Tryd.underlying4 _), (trodAll_cons_mk (shut_string Tryd.underlying9 m_t) (trodAll_cons_mk (shut_int Tryd.underlying3 w_how) trodAll_mk0)), rfl, bel.frame _, fun h => by cases h⟩

theorem over : Rows.lexBetweenRow.holds Tryd.pinned (OpenSpec.ofChange Rows.lexBetweenSpec) :=
  OpenClaim.holds_of_wide 4 Tryd.f4 rfl rfl rfl rfl rfl rfl rfl ⟨rfl, rfl, rfl, rfl, rfl⟩ rfl rfl rfl rfl rfl (by kernel_rfl) Tryd.func4 (by kernel_rfl)
    (of_decide_eq_true (by kernel_rfl)) (by unfold Func.isWrapper; first | (rw [if_pos (by decide +kernel)]; kernel_rfl) | (rw [if_neg (by decide +kernel)]; exact ⟨rfl, rfl⟩))
    (fun os started H enc _ => lifted os started H enc)

set_option maxRecDepth 100000 in
theorem proved : Rows.LexBetweenCardSaid :=
  Claim7.holds_tied_plain_at .later [] [.data, .data, .data, .sentinel, .sentinel] true Rows.lexBetweenCard.stood.harness true over (fun _ h => by cases h) (by kernel_rfl) (fun _ h => by cases h) lexBetween_row_tie rfl ⟨rfl, rfl⟩ (by kernel_rfl) rfl
    (fun f fn hf hfn => by
      obtain rfl : f = 4 := Option.some.inj ((show Tryd.prog.funcNamed "escapement/escapementlaw4.LexBetween" = some 4 by kernel_rfl).symm.trans hf) |>.symm
      obtain rfl : fn = Tryd.f4 := (Option.some.inj (Tryd.func4.symm.trans hfn)).symm
      exact ⟨by kernel_rfl, fun j t ht => by
        rw [Tryd.params4] at ht
        have hm : t ∈ ([9, 3] : List TypeId) := by simpa using Array.mem_of_getElem? ht
        have hall : (([9, 3] : List TypeId).all fun u => !Tryd.prog.wantsStandIn u) = true := by kernel_rfl
        exact (show Tryd.prog.wantsStandIn t = false by simpa using List.all_eq_true.1 hall t hm)⟩)
    (by kernel_rfl)
#print axioms proved
end Go.Proofs.YtolcaebdmapfbaaDoor.lexBetween
