/-
  Texts that the statements stand on, part 4.
-/
import Derived.Test.YtjlnihennlkmpaaGreatDoorMc
import Derived.Lib.Builder
import Derived.Lib.AppendStr
import Derived.Shelf.Strings.Builder1
import Derived.Shelf.Small.Strs
import Derived.Shelf.Small.Wraps
import Derived.Shelf.Strings.BuilderF
import Derived.Shelf.Strings.BuilderK
import Derived.Shelf.Strconv.Itoa0
import Derived.Shelf.Strconv.Itoa1
import Derived.Shelf.LaysM
import Derived.Shelf.Strconv.Itoa2
import Derived.Shelf.Strconv.Itoa3
import Derived.Shelf.Strconv.Itoa4
import Derived.Shelf.Strconv.ParseIntEmpty
import Derived.Shelf.Strconv.Clone
import Derived.Shelf.Strconv.SyntaxError
import Derived.Shelf.LaysC
import Derived.Shelf.Strconv.ToError
import Derived.Shelf.Strconv.Lower
import Derived.Shelf.Strconv.ParseUint10
import Derived.Shelf.Strconv.ParseUint10Empty
import Derived.Shelf.Strconv.ParseUint10Any
import Derived.Shelf.Strconv.ParseInt10
import Derived.Shelf.Strconv.RangeError
import Derived.Shelf.Strconv.ToErrorRange
import Derived.Shelf.Strconv.ParseUintEmpty
import Derived.Shelf.Strconv.ParseUint10b64
import Derived.Shelf.Strconv.ParseUint10b32
import Derived.Shelf.Strconv.ParseUint10b16
import Derived.Shelf.Strconv.ParseUint10b8
import Derived.Shelf.Strconv.ParseUint10At
import Derived.Shelf.Strconv.ParseInt10At64
import Derived.Shelf.Strconv.ParseInt10At32
import Derived.Shelf.Strconv.ParseInt10At16
import Derived.Shelf.Strconv.ParseInt10At8
import Derived.Shelf.Strconv.ParseInt10All
import Derived.Shelf.Strconv.ParseIntPublic10
import Derived.Shelf.Strconv.ErrVarParseInt
import Derived.Shelf.Strings.Search1
import Derived.Shelf.Strings.Search2
import Derived.Shelf.Strings.Search3
import Derived.Shelf.Strings.Shaped
import Derived.Shelf.Strings.Prefix
import Derived.Shelf.Slices.Turned
import Derived.Test.YtjlnihennlkmpaaGreatDoorProg
import Derived.Lib.AppendIntMem
set_option linter.unusedVariables false
set_option linter.unusedSimpArgs false
namespace Go.Proofs.YtjlnihennlkmpaaGreatDoor
open Go Go.RowKit
set_option maxHeartbeats 4000000 in
set_option maxRecDepth 100000 in
theorem program_any (L : List Wd) (hE : GoodE L) (w : World) (gp gw c : Nat) (st : St) (h : Par L w gp gw c st) (ho : Ok L st) :
    Calls Tryz.prog 16 #[.pointer (some ⟨gp, 0, none⟩)] w (GivesP2 L gp gw c (programS L st).1 (programS L st).2 w) := by
  have hG := hE.good
  have hlt := h.lt
  have hgp := h.gpl
  have hgw := h.gwl
  have few := hE.few
  have kn := node_any L hE w gp gw c st h ho
  have hl1 := (nodeS_later hE hlt ho).1
  obtain ⟨RN, hRN⟩ : ∃ R, R = programS L st := ⟨_, rfl⟩
  rw [← hRN]
  unfold programS at hRN
  obtain ⟨nd1, hnd1⟩ : ∃ v, v = (nodeS L st).1 := ⟨_, rfl⟩
  obtain ⟨S1, hS1⟩ : ∃ v, v = (nodeS L st).2 := ⟨_, rfl⟩
  simp only [← hnd1, ← hS1] at hRN kn hl1
  have HRN := Lib.hid hRN
  have HL1 := Lib.hid hl1
  have HE := Lib.hid hE
  clear hRN hl1 hnd1 hS1 hE h ho
  go_enter Tryz.func16, Tryz.ntmps16
  go_wp2_with fail
  (with_reducible refine kn.mono ?_)
  rintro e w1 ⟨vi, vo, vl, ve, rfl, hn, hp, hg⟩
  obtain ⟨xi1, ci1, rfl⟩ := own_is hn.ins
  obtain ⟨xo1, co1, rfl⟩ := own_is hn.outs
  obtain ⟨xl1, cl1, rfl⟩ := own_is hn.locs
  obtain ⟨xe1, ce1, rfl⟩ := ownq_slice hn.eqs
  have hb2 : Below w1.heap.size w1 (w1.alloc (.cells #[.string nd1.name, .slice xi1 nd1.ins.length ci1, .slice xo1 nd1.outs.length co1, .slice xl1 nd1.locs.length cl1, .slice xe1 nd1.eqs.length ce1, .int .i64 (nd1.at_ : Int)] 41)) := (Below.refl _ _).alloc (Nat.le_refl _) _
  have hn2 := heap_alloc_new w1 (.cells #[.string nd1.name, .slice xi1 nd1.ins.length ci1, .slice xo1 nd1.outs.length co1, .slice xl1 nd1.locs.length cl1, .slice xe1 nd1.eqs.length ce1, .int .i64 (nd1.at_ : Int)] 41)
  have hon : OwnN (w1.alloc (.cells #[.string nd1.name, .slice xi1 nd1.ins.length ci1, .slice xo1 nd1.outs.length co1, .slice xl1 nd1.locs.length cl1, .slice xe1 nd1.eqs.length ce1, .int .i64 (nd1.at_ : Int)] 41)) w.heap.size (.slice (some ⟨w1.heap.size, 0, none⟩) 1 1) [nd1] := by
    refine ⟨rowN nd1.name (.slice xi1 nd1.ins.length ci1) (.slice xo1 nd1.outs.length co1) (.slice xl1 nd1.locs.length cl1) (.slice xe1 nd1.eqs.length ce1) (nd1.at_ : Int), ⟨rfl, .inr ⟨w1.heap.size, 1, _, rfl, hg.size, hn2, Nat.le_refl _, by decide, rfl, rfl⟩⟩, _, _, _, _, [], by simp, (hn.toP (ok := fun k => w.heap.size ≤ k ∧ k < w1.heap.size) (fun k h1 h2 => ⟨h1, h2⟩)).keep hb2.size (fun k hk hl => hb2.block k hl) (fun k hk hl => ⟨hk.1, fun e => by injection e with e; have := hk.2; simp only at e; omega⟩), rfl⟩
  have HO := Lib.hid hon
  have HP := Lib.hid (hp.below hb2)
  have HG2 := Lib.hid (gb_trans hg (gb_below (r := some gp) hb2))
  clear hon hp hg hb2 hn2 hn kn
  go_wp2_with fail
  go_loopw [3] (fun v wr => ∃ (V : Value) (k : Nat) (nds : List Nd) (S : St), V = v ∧ nds ++ (programL L k nds.length S).1 = RN.1 ∧ (programL L k nds.length S).2 = RN.2 ∧ L.length ≤ k + S.i ∧ Ok L S ∧ nds.length ≤ S.i + 1 ∧ Par L wr gp gw c S ∧ w.grownBy wr (some gp) ∧ OwnN wr w.heap.size V nds)
    (fun _ wr => leftOf gp wr)
  case atStart =>
    exact ⟨_, L.length, [nd1], S1, rfl, by rw [HRN.out]; rfl, by rw [HRN.out]; rfl, by omega, HL1.out.2.2, by simp, HP.out, HG2.out, HO.out⟩
  case round =>
    obtain ⟨V, k, nds, S, hV, hR1, hR2, hfk, hok, hnl, hpr, hgr, hor⟩ := hrel
    subst hV
    have hltS := hpr.lt
    have hleft := leftOf_par hpr
    obtain ⟨p0, _, _, _, _⟩ := hpr.cells
    obtain ⟨q0, _, _, _⟩ := hpr.cur_cell
    have hm : 0 < L.length - S.i := by omega
    have hstop := programL_stop L k nds.length S
    have hkis : ∀ W, Par L W gp gw c S → Calls Tryz.prog 30 #[.pointer (some ⟨gp, 0, none⟩), .string ⟨#[110, 111, 100, 101]⟩] W fun e w' => e = .returned (.bool (isS L (bs [110, 111, 100, 101]) S)) ∧ w' = W := fun W hp => is_any L (bs [110, 111, 100, 101]) W gp gw c S hp
    have kf : ∀ W, Par L W gp gw c S → Calls Tryz.prog 31 #[.pointer (some ⟨gp, 0, none⟩), .int .i64 2] W (GivesU L gp gw c (failS L 2 S) W) := fun W hp => fail2_any L W gp gw c S hp
    have hlim : limS L nds.length S = if isS L (bs [110, 111, 100, 101]) S = true ∧ nds.length = 32 then failS L 2 S else S := rfl
    have hgo : (cur L S).kind ≠ 0 → (∃ k', k = k' + 1 ∧ programL L k nds.length S = ((nodeS L (limS L nds.length S)).1 :: (programL L k' (nds.length + 1) (nodeS L (limS L nds.length S)).2).1, (programL L k' (nds.length + 1) (nodeS L (limS L nds.length S)).2).2) ∧ L.length ≤ k' + (nodeS L (limS L nds.length S)).2.i) ∧ Ok L (limS L nds.length S) ∧ Ok L (nodeS L (limS L nds.length S)).2 ∧ S.i + 1 ≤ (nodeS L (limS L nds.length S)).2.i := fun hk => by
      have h1 := limS_later nds.length hltS hok hk hG
      have h2 := nodeS_later HE.out h1.1.2.1 h1.1.2.2
      have h3 : S.i < (nodeS L (limS L nds.length S)).2.i := by
        rcases h1.2 with h | h
        · have := h2.2 h; have := h1.1.1; omega
        · have := h2.1.1; omega
      obtain ⟨k', rfl⟩ : ∃ k', k = k' + 1 := ⟨k - 1, by omega⟩
      exact ⟨⟨k', rfl, programL_go L k' nds.length S hk, by omega⟩, h1.1.2.2, h2.1.2.2, h3⟩
    have kns := fun W (hp : Par L W gp gw c (limS L nds.length S)) (ho : Ok L (limS L nds.length S)) => node_any L HE.out W gp gw c _ hp ho
    obtain ⟨xk, hxk⟩ : ∃ v, v = (cur L S).kind := ⟨_, rfl⟩
    rw [← hxk] at hstop hgo q0
    obtain ⟨b, hb'⟩ : ∃ b, b = isS L (bs [110, 111, 100, 101]) S := ⟨_, rfl⟩
    rw [← hb'] at hkis hlim
    obtain ⟨SL, hSL⟩ : ∃ v, v = limS L nds.length S := ⟨_, rfl⟩
    rw [← hSL] at hgo hlim
    simp only [← hSL] at kns
    obtain ⟨nd2, hnd2⟩ : ∃ v, v = (nodeS L SL).1 := ⟨_, rfl⟩
    obtain ⟨T2, hT2⟩ : ∃ v, v = (nodeS L SL).2 := ⟨_, rfl⟩
    rw [← hnd2, ← hT2] at hgo
    simp only [← hnd2, ← hT2] at kns
    obtain ⟨m, hme⟩ : ∃ m, m = L.length - S.i := ⟨_, rfl⟩
    obtain ⟨dd, hdd⟩ : ∃ d, d = c - S.i := ⟨_, rfl⟩
    obtain ⟨q, hqq⟩ : ∃ q, q = S.i * 4 := ⟨_, rfl⟩
    rw [← hme] at hm p0
    rw [← hdd, ← hqq] at p0
    rw [← hqq] at q0
    obtain ⟨xs, hox, hrx⟩ := hor
    obtain ⟨xV, cV, rfl⟩ := own_is hox
    have hslot : ∀ k, (Value.slice xV nds.length cV).ownBlock = some k → w.heap.size ≤ k ∧ k < wr.heap.size := fun k hk => hox.lt k hk
    have HR1 := Lib.hid hR1
    have HR2 := Lib.hid hR2
    have HGO := Lib.hid hgo
    have HST := Lib.hid hstop
    have HLF := Lib.hid hleft
    have KNS := Lib.hid kns
    have KIS := Lib.hid hkis
    have KF := Lib.hid kf
    have HLIM := Lib.hid hlim
    have HPR := Lib.hid hpr
    have HGR := Lib.hid hgr
    have HOX := Lib.hid hox
    have HRX := Lib.hid hrx
    have HSL := Lib.hid hslot
    clear hR1 hR2 hgo hstop hleft kns hkis kf hlim hpr hgr hox hrx hxk hb' hSL hnd2 hT2 hme hdd hqq hslot HO HP HG2
    by_cases hk0 : xk = 0
    · have d0 : ((xk : Int) != 0) = false := by simp; omega
      have e1 := HR1.out
      have e2 := HR2.out
      rw [HST.out hk0] at e1 e2
      simp only [List.append_nil] at e1 e2
      have HE1 := Lib.hid e1
      have HE2 := Lib.hid e2
      subst hk0
      clear e1 e2 HR1 HR2 HGO HST KNS d0
      go_wp2_with fail
      go_ret
      rw [← HE1.out, ← HE2.out]
      exact ⟨_, rfl, ⟨xs, HOX.out, HRX.out⟩, HPR.out, HGR.out⟩
    · have d0 : ((xk : Int) != 0) = true := by simp; omega
      obtain ⟨⟨k', hk', hel, hl1⟩, hok1, hok2, hl3⟩ := HGO.out hk0
      have HEQ1 : Hid ((nds ++ [nd2]) ++ (programL L k' (nds ++ [nd2]).length T2).1 = RN.1) := Lib.hid (by rw [← HR1.out, hel, List.length_append]; simp)
      have HEQ2 : Hid ((programL L k' (nds ++ [nd2]).length T2).2 = RN.2) := Lib.hid (by rw [← HR2.out, hel, List.length_append]; rfl)
      have hnl2 : (nds ++ [nd2]).length ≤ T2.i + 1 := by simp; omega
      have HNL2 := Lib.hid hnl2
      have ki := KIS.out _ HPR.out
      have H63 : Hid (nds.length + 1 ≤ maxLen) := Lib.hid (by unfold maxLen; omega)
      have HBY : Hid ((nds.length + 1) * 120 ≤ 140737488355328) := Lib.hid (by omega)
      clear HR1 HR2 HGO HST hel hk' hk0 hnl2 KIS
      obtain ⟨nn, hnn⟩ : ∃ n, n = nds.length := ⟨_, rfl⟩
      have HNN := Lib.hid hnn
      have HGR0 : w.heap.size ≤ wr.heap.size := HGR.out.size
      cases b
      · go_wp2_with fail
        (with_reducible refine ki.mono ?_)
        rintro e w' ⟨rfl, hw'⟩
        rw [hw']
        clear hw' w' ki
        have HPX : Hid (Par L wr gp gw c SL) := Lib.hid (by rw [HLIM.out]; simp; exact HPR.out)
        have HGX := HGR
        have HOY := HOX
        have HRY := HRX
        obtain ⟨w3, hw3⟩ : ∃ w3, w3 = wr := ⟨_, rfl⟩
        have hz3 : wr.heap.size ≤ w3.heap.size := by rw [hw3]; exact Nat.le_refl _
        rw [← hw3] at HPX HGX HOY HRY
        have HW3 := Lib.hid hw3
        clear hw3 KF HLIM HGR HOX HRX
        have kn2 := KNS.out _ HPX.out hok1
        clear KNS
        rw [HW3.out] at kn2
        go_wp2_with fail
        (with_reducible refine kn2.mono ?_)
        rw [← HW3.out]
        rintro e w5 ⟨vi, vo, vl, ve, rfl, hn, hp, hg⟩
        obtain ⟨xi2, ci2, rfl⟩ := own_is hn.ins
        obtain ⟨xo2, co2, rfl⟩ := own_is hn.outs
        obtain ⟨xl2, cl2, rfl⟩ := own_is hn.locs
        obtain ⟨xe2, ce2, rfl⟩ := ownq_slice hn.eqs
        have hz5 : w3.heap.size ≤ w5.heap.size := hg.size
        have hb6 : Below w5.heap.size w5 (w5.alloc (.cells #[.string nd2.name, .slice xi2 nd2.ins.length ci2, .slice xo2 nd2.outs.length co2, .slice xl2 nd2.locs.length cl2, .slice xe2 nd2.eqs.length ce2, .int .i64 (nd2.at_ : Int)] 41)) := (Below.refl _ _).alloc (Nat.le_refl _) _
        have hn6 := heap_alloc_new w5 (.cells #[.string nd2.name, .slice xi2 nd2.ins.length ci2, .slice xo2 nd2.outs.length co2, .slice xl2 nd2.locs.length cl2, .slice xe2 nd2.eqs.length ce2, .int .i64 (nd2.at_ : Int)] 41)
        have HOZ := Lib.hid (own_below (own_keep HOY.out hg hgp) hb6)
        have HRZ := Lib.hid ((HRY.out.keep (ok' := fun k => w.heap.size ≤ k ∧ some k ≠ (Value.slice xV nds.length cV).ownBlock) hg.size (fun k hk hl => hg.block k hl (by intro e; injection e with e; have := hk.1; omega)) (fun _ h _ => h)).keep (ok' := fun k => w.heap.size ≤ k ∧ some k ≠ (Value.slice xV nds.length cV).ownBlock) hb6.size (fun k hk hl => hb6.block k hl) (fun _ h _ => h))
        have HNZ := Lib.hid ((hn.toP (ok := fun k => w3.heap.size ≤ k) (fun k h1 _ => h1)).keep (ok' := fun k => w3.heap.size ≤ k) hb6.size (fun k hk hl => hb6.block k hl) (fun _ h _ => h))
        have HPZ := Lib.hid (hp.below hb6)
        have HGZ := Lib.hid (gb_trans HGX.out (gb_trans hg (gb_below (r := some gp) hb6)))
        have hnews : ∀ j u, (rowN nd2.name (.slice xi2 nd2.ins.length ci2) (.slice xo2 nd2.outs.length co2) (.slice xl2 nd2.locs.length cl2) (.slice xe2 nd2.eqs.length ce2) (nd2.at_ : Int))[j]? = some u → (w5.alloc (.cells #[.string nd2.name, .slice xi2 nd2.ins.length ci2, .slice xo2 nd2.outs.length co2, .slice xl2 nd2.locs.length cl2, .slice xe2 nd2.eqs.length ce2, .int .i64 (nd2.at_ : Int)] 41)).cell? ((⟨w5.heap.size, 0, none⟩ : Addr).add j) = some u := fun j u hu => by
          rw [Addr.add_lit, Nat.zero_add, cell_of_row _ w5.heap.size j _ _ _ hn6, ← hu]
          simp [rowN]
        have hone : ∀ u ∈ rowN nd2.name (.slice xi2 nd2.ins.length ci2) (.slice xo2 nd2.outs.length co2) (.slice xl2 nd2.locs.length cl2) (.slice xe2 nd2.eqs.length ce2) (nd2.at_ : Int), u.oneCell' = true := fun u hu => by
          simp only [rowN, List.mem_cons, List.not_mem_nil, or_false] at hu
          rcases hu with rfl | rfl | rfl | rfl | rfl | rfl <;> rfl
        have HNW := Lib.hid hnews
        have HON := Lib.hid hone
        have HBS : Hid (w.heap.size ≤ (w5.alloc (.cells #[.string nd2.name, .slice xi2 nd2.ins.length ci2, .slice xo2 nd2.outs.length co2, .slice xl2 nd2.locs.length cl2, .slice xe2 nd2.eqs.length ce2, .int .i64 (nd2.at_ : Int)] 41)).heap.size) := Lib.hid HGZ.out.size
        obtain ⟨i0, hi0, ⟨z0, hz0, hz2⟩, hz1, hzb⟩ := info_node6
        have HZ2 := Lib.hid hz2
        clear hn hp hg hb6 hn6 hnews hone kn2 HPX HGX HOY HRY
        go_wp2_with (at_builtin
                     refine wpList_append_own_at _ rfl (.tmp 24) (.tmp 27) 23 rfl w.heap.size 41 i0 _ 6 120 Tryz.underlying23 hi0 hz0 hz1 hzb HZ2.out (by decide) (.slice xV nds.length cV) nds.length xs rfl HOZ.out ⟨w5.heap.size, 0, none⟩ 1 1 (rowN nd2.name (.slice xi2 nd2.ins.length ci2) (.slice xo2 nd2.outs.length co2) (.slice xl2 nd2.locs.length cl2) (.slice xe2 nd2.eqs.length ce2) (nd2.at_ : Int)) rfl rfl HNW.out HON.out H63.out HBY.out HBS.out ?_
                     intro v8 w8 hown8 hg8 _ hob8
                     have HO8 := Lib.hid hown8
                     have HGG := Lib.hid hg8
                     have HOB := Lib.hid hob8
                     clear hown8 hg8 hob8)
        have hfin := OwnN.app HOZ.out HRZ.out (show w.heap.size ≤ w3.heap.size by have := HGR0; omega) (fun k hk => by have := (HSL.out k hk).2; omega) HNZ.out HO8.out HGG.out HOB.out
        have hp8 := HPZ.out.own HGG.out (fun k hk => by have := (HSL.out k hk).1; omega)
        have hg8 : w.grownBy w8 (some gp) := ⟨HGG.out.os.trans HGZ.out.os, HGG.out.tape.trans HGZ.out.tape, HGG.out.output.trans HGZ.out.output, Nat.le_trans HGZ.out.size HGG.out.size, fun k hk hr => (HGG.out.block k (Nat.lt_of_lt_of_le hk HGZ.out.size) (fun e => by have := (HSL.out k e.symm).1; omega)).trans (HGZ.out.block k hk hr)⟩
        refine ⟨⟨_, k', nds ++ [nd2], T2, rfl, HEQ1.out, HEQ2.out, hl1, hok2, HNL2.out, hp8, hg8, hfin⟩, ?_⟩
        rw [leftOf_par hp8, HLF.out]
        have := hp8.lt
        omega
      · by_cases h32 : nds.length = 32
        · have d32 : ((nds.length : Int) == 32) = true := by simp; omega
          go_wp2_with fail
          (with_reducible refine ki.mono ?_)
          rintro e w' ⟨rfl, hw'⟩
          rw [hw']
          clear hw' w' ki
          have kf2 := KF.out _ HPR.out
          have HSE : Hid (SL = failS L 2 S) := Lib.hid (by rw [HLIM.out]; simp [h32])
          clear KF HLIM
          go_wp2_with fail
          (with_reducible refine kf2.mono ?_)
          rintro e w3 ⟨rfl, hp, hg⟩
          have HPX : Hid (Par L w3 gp gw c SL) := Lib.hid (by rw [HSE.out]; exact hp)
          have HGX := Lib.hid (gb_trans HGR.out hg)
          have HOY := Lib.hid (own_keep HOX.out hg hgp)
          have HRY := Lib.hid (HRX.out.keep (ok' := fun k => w.heap.size ≤ k ∧ some k ≠ (Value.slice xV nds.length cV).ownBlock) hg.size (fun k hk hl => hg.block k hl (by intro e; injection e with e; have := hk.1; omega)) (fun _ h _ => h))
          have hz3 : wr.heap.size ≤ w3.heap.size := hg.size
          have HH32 := Lib.hid h32
          clear hp hg kf2 HPR HGR HOX HRX h32 d32 H63 HBY
          have kn2 := KNS.out _ HPX.out hok1
          clear KNS
          go_wp2_with fail
          (with_reducible refine kn2.mono ?_)
          rintro e w5 ⟨vi, vo, vl, ve, rfl, hn, hp, hg⟩
          obtain ⟨xi2, ci2, rfl⟩ := own_is hn.ins
          obtain ⟨xo2, co2, rfl⟩ := own_is hn.outs
          obtain ⟨xl2, cl2, rfl⟩ := own_is hn.locs
          obtain ⟨xe2, ce2, rfl⟩ := ownq_slice hn.eqs
          have hz5 : w3.heap.size ≤ w5.heap.size := hg.size
          have hb6 : Below w5.heap.size w5 (w5.alloc (.cells #[.string nd2.name, .slice xi2 nd2.ins.length ci2, .slice xo2 nd2.outs.length co2, .slice xl2 nd2.locs.length cl2, .slice xe2 nd2.eqs.length ce2, .int .i64 (nd2.at_ : Int)] 41)) := (Below.refl _ _).alloc (Nat.le_refl _) _
          have hn6 := heap_alloc_new w5 (.cells #[.string nd2.name, .slice xi2 nd2.ins.length ci2, .slice xo2 nd2.outs.length co2, .slice xl2 nd2.locs.length cl2, .slice xe2 nd2.eqs.length ce2, .int .i64 (nd2.at_ : Int)] 41)
          have HOZ := Lib.hid (own_below (own_keep HOY.out hg hgp) hb6)
          have HRZ := Lib.hid ((HRY.out.keep (ok' := fun k => w.heap.size ≤ k ∧ some k ≠ (Value.slice xV nds.length cV).ownBlock) hg.size (fun k hk hl => hg.block k hl (by intro e; injection e with e; have := hk.1; omega)) (fun _ h _ => h)).keep (ok' := fun k => w.heap.size ≤ k ∧ some k ≠ (Value.slice xV nds.length cV).ownBlock) hb6.size (fun k hk hl => hb6.block k hl) (fun _ h _ => h))
          have HNZ := Lib.hid ((hn.toP (ok := fun k => w3.heap.size ≤ k) (fun k h1 _ => h1)).keep (ok' := fun k => w3.heap.size ≤ k) hb6.size (fun k hk hl => hb6.block k hl) (fun _ h _ => h))
          have HPZ := Lib.hid (hp.below hb6)
          have HGZ := Lib.hid (gb_trans HGX.out (gb_trans hg (gb_below (r := some gp) hb6)))
          have hnews : ∀ j u, (rowN nd2.name (.slice xi2 nd2.ins.length ci2) (.slice xo2 nd2.outs.length co2) (.slice xl2 nd2.locs.length cl2) (.slice xe2 nd2.eqs.length ce2) (nd2.at_ : Int))[j]? = some u → (w5.alloc (.cells #[.string nd2.name, .slice xi2 nd2.ins.length ci2, .slice xo2 nd2.outs.length co2, .slice xl2 nd2.locs.length cl2, .slice xe2 nd2.eqs.length ce2, .int .i64 (nd2.at_ : Int)] 41)).cell? ((⟨w5.heap.size, 0, none⟩ : Addr).add j) = some u := fun j u hu => by
            rw [Addr.add_lit, Nat.zero_add, cell_of_row _ w5.heap.size j _ _ _ hn6, ← hu]
            simp [rowN]
          have hone : ∀ u ∈ rowN nd2.name (.slice xi2 nd2.ins.length ci2) (.slice xo2 nd2.outs.length co2) (.slice xl2 nd2.locs.length cl2) (.slice xe2 nd2.eqs.length ce2) (nd2.at_ : Int), u.oneCell' = true := fun u hu => by
            simp only [rowN, List.mem_cons, List.not_mem_nil, or_false] at hu
            rcases hu with rfl | rfl | rfl | rfl | rfl | rfl <;> rfl
          have HNW := Lib.hid hnews
          have HON := Lib.hid hone
          have HOZ2 : Hid ((w5.alloc (.cells #[.string nd2.name, .slice xi2 nd2.ins.length ci2, .slice xo2 nd2.outs.length co2, .slice xl2 nd2.locs.length cl2, .slice xe2 nd2.eqs.length ce2, .int .i64 (nd2.at_ : Int)] 41)).ownsRow w.heap.size 41 6 (.slice xV 32 cV) 32 xs) := Lib.hid (by have := HOZ.out; rw [HH32.out] at this; exact this)
          have HBS : Hid (w.heap.size ≤ (w5.alloc (.cells #[.string nd2.name, .slice xi2 nd2.ins.length ci2, .slice xo2 nd2.outs.length co2, .slice xl2 nd2.locs.length cl2, .slice xe2 nd2.eqs.length ce2, .int .i64 (nd2.at_ : Int)] 41)).heap.size) := Lib.hid HGZ.out.size
          obtain ⟨i0, hi0, ⟨z0, hz0, hz2⟩, hz1, hzb⟩ := info_node6
          have HZ2 := Lib.hid hz2
          clear hn hp hg hb6 hn6 hnews hone kn2 HPX HGX HOY HRY
          go_wp2_with (at_builtin
                       refine wpList_append_own_at _ rfl (.tmp 24) (.tmp 27) 23 rfl w.heap.size 41 i0 _ 6 120 Tryz.underlying23 hi0 hz0 hz1 hzb HZ2.out (by decide) (.slice xV 32 cV) 32 xs rfl HOZ2.out ⟨w5.heap.size, 0, none⟩ 1 1 (rowN nd2.name (.slice xi2 nd2.ins.length ci2) (.slice xo2 nd2.outs.length co2) (.slice xl2 nd2.locs.length cl2) (.slice xe2 nd2.eqs.length ce2) (nd2.at_ : Int)) rfl rfl HNW.out HON.out (by decide) (by decide) HBS.out ?_
                       intro v8 w8 hown8 hg8 _ hob8
                       have HO8 := Lib.hid hown8
                       have HGG := Lib.hid hg8
                       have HOB := Lib.hid hob8
                       clear hown8 hg8 hob8)
          have HGG2 : Hid ((w5.alloc (.cells #[.string nd2.name, .slice xi2 nd2.ins.length ci2, .slice xo2 nd2.outs.length co2, .slice xl2 nd2.locs.length cl2, .slice xe2 nd2.eqs.length ce2, .int .i64 (nd2.at_ : Int)] 41)).grownBy w8 (Value.slice xV nds.length cV).ownBlock) := Lib.hid (by rw [HH32.out]; exact HGG.out)
          have HOB2 : Hid (v8.ownBlock = (Value.slice xV nds.length cV).ownBlock ∨ v8.ownBlock = some (w5.alloc (.cells #[.string nd2.name, .slice xi2 nd2.ins.length ci2, .slice xo2 nd2.outs.length co2, .slice xl2 nd2.locs.length cl2, .slice xe2 nd2.eqs.length ce2, .int .i64 (nd2.at_ : Int)] 41)).heap.size) := Lib.hid (by rw [HH32.out]; exact HOB.out)
          have hfin := OwnN.app HOZ.out HRZ.out (show w.heap.size ≤ w3.heap.size by have := HGR0; omega) (fun k hk => by have := (HSL.out k hk).2; omega) HNZ.out (by rw [HH32.out]; exact HO8.out) HGG2.out HOB2.out
          have hp8 := HPZ.out.own HGG2.out (fun k hk => by have := (HSL.out k hk).1; omega)
          have hg8 : w.grownBy w8 (some gp) := ⟨HGG2.out.os.trans HGZ.out.os, HGG2.out.tape.trans HGZ.out.tape, HGG2.out.output.trans HGZ.out.output, Nat.le_trans HGZ.out.size HGG2.out.size, fun k hk hr => (HGG2.out.block k (Nat.lt_of_lt_of_le hk HGZ.out.size) (fun e => by have := (HSL.out k e.symm).1; omega)).trans (HGZ.out.block k hk hr)⟩
          refine ⟨⟨_, k', nds ++ [nd2], T2, rfl, HEQ1.out, HEQ2.out, hl1, hok2, HNL2.out, hp8, hg8, hfin⟩, ?_⟩
          rw [leftOf_par hp8, HLF.out]
          have := hp8.lt
          omega
        · have d32 : ((nds.length : Int) == 32) = false := by simp; omega
          go_wp2_with fail
          (with_reducible refine ki.mono ?_)
          rintro e w' ⟨rfl, hw'⟩
          rw [hw']
          clear hw' w' ki
          have HPX : Hid (Par L wr gp gw c SL) := Lib.hid (by rw [HLIM.out]; simp only [h32, and_false, if_false]; exact HPR.out)
          have HGX := HGR
          have HOY := HOX
          have HRY := HRX
          obtain ⟨w3, hw3⟩ : ∃ w3, w3 = wr := ⟨_, rfl⟩
          have hz3 : wr.heap.size ≤ w3.heap.size := by rw [hw3]; exact Nat.le_refl _
          rw [← hw3] at HPX HGX HOY HRY
          have HW3 := Lib.hid hw3
          clear h32 hw3 KF HLIM HGR HOX HRX
          have kn2 := KNS.out _ HPX.out hok1
          clear KNS
          rw [HW3.out] at kn2
          go_wp2_with fail
          (with_reducible refine kn2.mono ?_)
          rw [← HW3.out]
          rintro e w5 ⟨vi, vo, vl, ve, rfl, hn, hp, hg⟩
          obtain ⟨xi2, ci2, rfl⟩ := own_is hn.ins
          obtain ⟨xo2, co2, rfl⟩ := own_is hn.outs
          obtain ⟨xl2, cl2, rfl⟩ := own_is hn.locs
          obtain ⟨xe2, ce2, rfl⟩ := ownq_slice hn.eqs
          have hz5 : w3.heap.size ≤ w5.heap.size := hg.size
          have hb6 : Below w5.heap.size w5 (w5.alloc (.cells #[.string nd2.name, .slice xi2 nd2.ins.length ci2, .slice xo2 nd2.outs.length co2, .slice xl2 nd2.locs.length cl2, .slice xe2 nd2.eqs.length ce2, .int .i64 (nd2.at_ : Int)] 41)) := (Below.refl _ _).alloc (Nat.le_refl _) _
          have hn6 := heap_alloc_new w5 (.cells #[.string nd2.name, .slice xi2 nd2.ins.length ci2, .slice xo2 nd2.outs.length co2, .slice xl2 nd2.locs.length cl2, .slice xe2 nd2.eqs.length ce2, .int .i64 (nd2.at_ : Int)] 41)
          have HOZ := Lib.hid (own_below (own_keep HOY.out hg hgp) hb6)
          have HRZ := Lib.hid ((HRY.out.keep (ok' := fun k => w.heap.size ≤ k ∧ some k ≠ (Value.slice xV nds.length cV).ownBlock) hg.size (fun k hk hl => hg.block k hl (by intro e; injection e with e; have := hk.1; omega)) (fun _ h _ => h)).keep (ok' := fun k => w.heap.size ≤ k ∧ some k ≠ (Value.slice xV nds.length cV).ownBlock) hb6.size (fun k hk hl => hb6.block k hl) (fun _ h _ => h))
          have HNZ := Lib.hid ((hn.toP (ok := fun k => w3.heap.size ≤ k) (fun k h1 _ => h1)).keep (ok' := fun k => w3.heap.size ≤ k) hb6.size (fun k hk hl => hb6.block k hl) (fun _ h _ => h))
          have HPZ := Lib.hid (hp.below hb6)
          have HGZ := Lib.hid (gb_trans HGX.out (gb_trans hg (gb_below (r := some gp) hb6)))
          have hnews : ∀ j u, (rowN nd2.name (.slice xi2 nd2.ins.length ci2) (.slice xo2 nd2.outs.length co2) (.slice xl2 nd2.locs.length cl2) (.slice xe2 nd2.eqs.length ce2) (nd2.at_ : Int))[j]? = some u → (w5.alloc (.cells #[.string nd2.name, .slice xi2 nd2.ins.length ci2, .slice xo2 nd2.outs.length co2, .slice xl2 nd2.locs.length cl2, .slice xe2 nd2.eqs.length ce2, .int .i64 (nd2.at_ : Int)] 41)).cell? ((⟨w5.heap.size, 0, none⟩ : Addr).add j) = some u := fun j u hu => by
            rw [Addr.add_lit, Nat.zero_add, cell_of_row _ w5.heap.size j _ _ _ hn6, ← hu]
            simp [rowN]
          have hone : ∀ u ∈ rowN nd2.name (.slice xi2 nd2.ins.length ci2) (.slice xo2 nd2.outs.length co2) (.slice xl2 nd2.locs.length cl2) (.slice xe2 nd2.eqs.length ce2) (nd2.at_ : Int), u.oneCell' = true := fun u hu => by
            simp only [rowN, List.mem_cons, List.not_mem_nil, or_false] at hu
            rcases hu with rfl | rfl | rfl | rfl | rfl | rfl <;> rfl
          have HNW := Lib.hid hnews
          have HON := Lib.hid hone
          have HBS : Hid (w.heap.size ≤ (w5.alloc (.cells #[.string nd2.name, .slice xi2 nd2.ins.length ci2, .slice xo2 nd2.outs.length co2, .slice xl2 nd2.locs.length cl2, .slice xe2 nd2.eqs.length ce2, .int .i64 (nd2.at_ : Int)] 41)).heap.size) := Lib.hid HGZ.out.size
          obtain ⟨i0, hi0, ⟨z0, hz0, hz2⟩, hz1, hzb⟩ := info_node6
          have HZ2 := Lib.hid hz2
          clear hn hp hg hb6 hn6 hnews hone kn2 HPX HGX HOY HRY
          go_wp2_with (at_builtin
                       refine wpList_append_own_at _ rfl (.tmp 24) (.tmp 27) 23 rfl w.heap.size 41 i0 _ 6 120 Tryz.underlying23 hi0 hz0 hz1 hzb HZ2.out (by decide) (.slice xV nds.length cV) nds.length xs rfl HOZ.out ⟨w5.heap.size, 0, none⟩ 1 1 (rowN nd2.name (.slice xi2 nd2.ins.length ci2) (.slice xo2 nd2.outs.length co2) (.slice xl2 nd2.locs.length cl2) (.slice xe2 nd2.eqs.length ce2) (nd2.at_ : Int)) rfl rfl HNW.out HON.out H63.out HBY.out HBS.out ?_
                       intro v8 w8 hown8 hg8 _ hob8
                       have HO8 := Lib.hid hown8
                       have HGG := Lib.hid hg8
                       have HOB := Lib.hid hob8
                       clear hown8 hg8 hob8)
          have hfin := OwnN.app HOZ.out HRZ.out (show w.heap.size ≤ w3.heap.size by have := HGR0; omega) (fun k hk => by have := (HSL.out k hk).2; omega) HNZ.out HO8.out HGG.out HOB.out
          have hp8 := HPZ.out.own HGG.out (fun k hk => by have := (HSL.out k hk).1; omega)
          have hg8 : w.grownBy w8 (some gp) := ⟨HGG.out.os.trans HGZ.out.os, HGG.out.tape.trans HGZ.out.tape, HGG.out.output.trans HGZ.out.output, Nat.le_trans HGZ.out.size HGG.out.size, fun k hk hr => (HGG.out.block k (Nat.lt_of_lt_of_le hk HGZ.out.size) (fun e => by have := (HSL.out k e.symm).1; omega)).trans (HGZ.out.block k hk hr)⟩
          refine ⟨⟨_, k', nds ++ [nd2], T2, rfl, HEQ1.out, HEQ2.out, hl1, hok2, HNL2.out, hp8, hg8, hfin⟩, ?_⟩
          rw [leftOf_par hp8, HLF.out]
          have := hp8.lt
          omega
end Go.Proofs.YtjlnihennlkmpaaGreatDoor

namespace Go.Proofs.YtjlnihennlkmpaaGreatDoor
open Go Go.RowKit
def wordL (s : ByteArray) (x : Nat × Nat × Int × Nat) : Wd := ⟨x.1, s.extract x.2.2.2 (x.2.2.2 + x.2.1), x.2.2.1, x.2.2.2⟩
def wordsL (s : ByteArray) (d : List (Nat × Nat × Int × Nat)) : List Wd := d.map (wordL s)
theorem cutF_facts : ∀ (f : Nat) (l : List UInt8) (a : Nat) (d : List (Nat × Nat × Int × Nat)), cutF f l a = .ok d → 0 < d.length ∧ (∀ i (h : i < d.length), (d[i]).1 ≠ 0 → i + 1 < d.length) ∧ (∀ x ∈ d, x.1 = 0 → x.2.1 = 0) ∧ d.length ≤ l.length + 1
  | 0, l, a, d, h => by simp [cutF] at h
  | f + 1, l, a, d, h => by
    unfold cutF at h
    by_cases hl : l = []
    · rw [if_pos hl] at h
      injection h with h
      subst h
      refine ⟨by simp, fun i hi hk => ?_, fun x hx _ => ?_, by simp⟩
      · have : i = 0 := by simpa using hi
        subst this
        simp at hk
      · simp only [List.mem_cons, List.not_mem_nil, or_false] at hx
        rw [hx]
    · rw [if_neg hl] at h
      by_cases hk : (firstW l).1 = 0
      · rw [if_pos hk] at h; cases h
      · rw [if_neg hk] at h
        have hlp : 0 < l.length := List.length_pos_iff.2 hl
        have hfw := firstW_len l hlp
        have h1 := hfw.2.1 hk
        cases hc : cutF f ((l.drop (firstW l).2.1).drop (gapL (l.drop (firstW l).2.1))) (a + (firstW l).2.1 + gapL (l.drop (firstW l).2.1)) with
        | error p => rw [hc] at h; cases h
        | ok t =>
          rw [hc] at h
          injection h with h
          subst h
          obtain ⟨i1, i2, i3, i4⟩ := cutF_facts f _ _ t hc
          refine ⟨by simp, fun i hi hne => ?_, fun x hx h0 => ?_, ?_⟩
          · cases i with
            | zero => simp only [List.length_cons]; omega
            | succ i =>
              simp only [List.length_cons] at hi ⊢
              have := i2 i (by omega) (by simpa using hne)
              omega
          · rcases List.mem_cons.1 hx with rfl | hx
            · exact absurd h0 hk
            · exact i3 x hx h0
          · simp only [List.length_drop] at i4
            simp only [List.length_cons]
            omega
theorem wordsL_getD (s : ByteArray) (d : List (Nat × Nat × Int × Nat)) (i : Nat) (h : i < d.length) : (wordsL s d).getD i noWd = wordL s d[i] := by
  unfold wordsL
  rw [List.getD_eq_getElem?_getD, List.getElem?_map, List.getElem?_eq_getElem h]
  rfl
theorem cut_good (s : ByteArray) (d : List (Nat × Nat × Int × Nat)) (h : cutAll s.data.toList = .ok d) : GoodE (wordsL s d) := by
  unfold cutAll at h
  by_cases hb : 16384 < s.data.toList.length
  · rw [if_pos hb] at h; cases h
  · rw [if_neg hb] at h
    cases hc : cut1 s.data.toList with
    | error p => rw [hc] at h; cases h
    | ok t =>
      rw [hc] at h
      injection h with h
      subst h
      unfold cut1 at hc
      obtain ⟨h1, h2, h3, h4⟩ := cutF_facts _ _ _ t hc
      have hlen : (wordsL s t).length = t.length := by unfold wordsL; rw [List.length_map]
      refine ⟨⟨by omega, fun i hi hk => ?_⟩, fun i hi hk => ?_, ?_⟩
      · rw [hlen] at hi ⊢
        rw [wordsL_getD s t i hi] at hk
        exact h2 i hi hk
      · rw [hlen] at hi
        rw [wordsL_getD s t i hi] at hk ⊢
        have := h3 t[i] (List.getElem_mem hi) hk
        show (s.extract t[i].2.2.2 (t[i].2.2.2 + t[i].2.1)).data.toList = []
        rw [this, Nat.add_zero, extract_nil]
        rfl
      · rw [hlen]
        simp only [List.length_drop] at h4
        omega
def st0 : St := ⟨0, 0, 0, 0, 0⟩
/-- Parse, as a plain function: the nodes, or the first fault and its place. -/
def parseS (s : ByteArray) : Except (Nat × Nat) (List Nd) :=
  match cutAll s.data.toList with
  | .error e => .error e
  | .ok d => if (programS (wordsL s d) st0).2.er = 0 then .ok (programS (wordsL s d) st0).1 else .error ((programS (wordsL s d) st0).2.er, (programS (wordsL s d) st0).2.ea)
/-- What Parse hands back, its answer known. -/
def GivesPR (r : Except (Nat × Nat) (List Nd)) (w : World) (e : Ending) (w' : World) : Prop :=
  Below w.heap.size w w' ∧ match r with
  | .error (er, ea) => e = .returned (.tuple #[.slice none 0 0, .agg #[.int .i64 (er : Int), .int .i64 (ea : Int)]])
  | .ok l => ∃ v, e = .returned (.tuple #[v, .agg #[.int .i64 0, .int .i64 0]]) ∧ OwnN w' w.heap.size v l
theorem wordsC_cell (s : ByteArray) (d : List (Nat × Nat × Int × Nat)) : ∀ (i : Nat) (h : i < d.length) (j : Nat) (v : Value), (wordL s d[i]).cells[j]? = some v → (wordsC s d)[i * 4 + j]? = some v := by
  induction d with
  | nil => intro i h; simp at h
  | cons x r ih =>
    intro i h j v hv
    have hj : j < 4 := by
      have := (List.getElem?_eq_some_iff.1 hv).1
      simpa [Wd.cells] using this
    have hc : (wordC s x).length = 4 := rfl
    show (wordC s x ++ wordsC s r)[i * 4 + j]? = some v
    cases i with
    | zero =>
      rw [List.getElem?_append_left (by omega), Nat.zero_mul, Nat.zero_add]
      exact hv
    | succ i =>
      rw [List.getElem?_append_right (by omega), hc, show (i + 1) * 4 + j - 4 = i * 4 + j by omega]
      exact ih i (by simpa using h) j v (by simpa using hv)
/-- The parser begins. -/
theorem par_start (s : ByteArray) (d : List (Nat × Nat × Int × Nat)) (w : World) (base gp : Nat) (v : Value) (h : w.ownsRow base 77 4 v d.length (wordsC s d)) (hd : 0 < d.length) (hb : ∀ k, v.ownBlock = some k → k ≠ gp) (hr : w.heap[gp]? = some (.cells #[v, .int .i64 0, .int .i64 0, .int .i64 0, .int .i64 0] 61 (0, 0))) :
    ∃ gw c, Par (wordsL s d) w gp gw c st0 := by
  have hlen : (wordsL s d).length = d.length := by unfold wordsL; rw [List.length_map]
  rcases h.2 with ⟨_, h0⟩ | ⟨g, cap, cur, rfl, hbg, hg, hn, hc, hcs, ht⟩
  · omega
  · refine ⟨g, cap, ?_, fun i hi j u hu => ?_, by rw [hlen]; exact hd, hb g rfl, (Array.getElem?_eq_some_iff.1 hg).1, by rw [hlen]; exact hn, hc⟩
    · rw [hr, hlen]
      rfl
    · rw [hlen] at hi
      rw [wordsL_getD s d i hi] at hu
      have := h.cells (g := g) rfl (i * 4 + j) u (wordsC_cell s d i hi j u hu)
      rwa [Addr.add_lit, Nat.zero_add] at this
theorem below_gb {w w' : World} {gp B : Nat} (h : w.grownBy w' (some gp)) (hB : B ≤ w.heap.size) (hgp : B ≤ gp) : Below B w w' :=
  ⟨h.os, h.tape, h.output, h.size, fun k hk => h.block k (Nat.lt_of_lt_of_le hk hB) (by intro e; injection e with e; omega)⟩
theorem OwnN.mono {w : World} {b b' : Nat} {v : Value} {es : List Nd} (h : OwnN w b v es) (hb : b' ≤ b) : OwnN w b' v es := by
  obtain ⟨xs, h1, h2⟩ := h
  exact ⟨xs, own_weaken' h1 hb, h2.keep (Nat.le_refl _) (fun _ _ _ => rfl) (fun k hk _ => ⟨by omega, hk.2⟩)⟩
theorem OwnN.row {w : World} {b g : Nat} {zs : Array Value} {v : Value} {es : List Nd} (h : OwnN w b v es) (hg : g < b) : OwnN (w.setRow g zs) b v es := by
  obtain ⟨xs, h1, h2⟩ := h
  exact ⟨xs, own_row h1 hg, h2.keep (by rw [setRow_size]; exact Nat.le_refl _) (fun k hk _ => setRow_other w g k _ (by omega)) (fun _ h _ => h)⟩
theorem programS_ok {L : List Wd} (h : 0 < L.length) : Ok L st0 := ⟨Nat.le_refl _, fun he => absurd rfl he⟩
end Go.Proofs.YtjlnihennlkmpaaGreatDoor

namespace Go.Proofs.YtjlnihennlkmpaaGreatDoor
open Go Go.RowKit
theorem cutAll_err {l : List UInt8} {e p : Nat} (h : cutAll l = .error (e, p)) : e ≠ 0 := by
  unfold cutAll at h
  split at h
  · injection h with h; injection h with h; omega
  · split at h
    · injection h with h; injection h with h; omega
    · cases h
theorem fa_par1 (g : Nat) (W : World) : (Instr.fieldAt 61 (.pointer (some ⟨g, 0, none⟩)) 1).run Tryz.prog W = .ok (.pointer (some ⟨g, 1, none⟩)) W := by kernel_rfl
theorem run_ldmid {o : Oper} {ρ : Operand → Value} {x : Operand} {g : Nat} {c1 c2 : Value} {W : World} (ho : o.op = .load 26 x) (hx : ρ x = .pointer (some ⟨g, 1, none⟩)) (h1 : W.cell? ⟨g, 1, none⟩ = some c1) (h2 : W.cell? ⟨g, 2, none⟩ = some c2) : (execOp ρ o).run Tryz.prog W = .ok (.value (.agg #[c1, c2])) W := by
  have h := run_loadVar_mid (P := Tryz.prog) W g 1 26 [c1, c2] _ (fun j v hv => by
    match j, hv with
    | 0, hv => rw [h1]; simpa using hv
    | 1, hv => rw [h2]; simpa using hv
    | _ + 2, hv => simp at hv) Tryz.underlying26 rfl size_fault2
  unfold execOp
  simp only [ho, hx, Instr.loadAt, Instr.sureAddr, Sem.run_bind, Sem.run_pure, Result.andThen_ok, h]
set_option maxHeartbeats 4000000 in
set_option maxRecDepth 100000 in
theorem Parse_any (s : ByteArray) (w : World) (hs : s.size ≤ 140737488351232) (hE : Errs w) : Calls Tryz.prog 7 #[.string s] w (GivesPR (parseS s) w) := by
  have hb0 : Below w.heap.size w (w.alloc (.cells #[.int .i64 0, .int .i64 0] 26)) := (Below.refl _ _).alloc (Nat.le_refl _) _
  have hn0 := heap_alloc_new w (.cells #[.int .i64 0, .int .i64 0] 26)
  have hs0 : (w.alloc (.cells #[.int .i64 0, .int .i64 0] 26)).heap.size = w.heap.size + 1 := by simp
  have kc := Cut_any s (w.alloc (.cells #[.int .i64 0, .int .i64 0] 26)) hs (hE.below hb0 (Nat.le_refl _))
  have hgood := cut_good s
  have herr := fun e p => cutAll_err (l := s.data.toList) (e := e) (p := p)
  obtain ⟨PR, hPR⟩ : ∃ p, p = parseS s := ⟨_, rfl⟩
  rw [← hPR]
  unfold parseS at hPR
  unfold GivesCut at kc
  obtain ⟨CR, hCR⟩ : ∃ c, c = cutAll s.data.toList := ⟨_, rfl⟩
  simp only [← hCR] at kc hPR herr hgood
  have HB0 := Lib.hid hb0
  have HN0 := Lib.hid hn0
  have HSF := Lib.hid size_fault2
  clear hb0 hn0 hCR hE
  cases CR with
  | error ep =>
    obtain ⟨ce, cp⟩ := ep
    simp only at kc hPR
    have hne := herr ce cp rfl
    have HPR := Lib.hid hPR
    have d0 : ((ce : Int) != 0) = true := by simp; omega
    clear herr hgood hPR hne
    go_enter Tryz.func7, Tryz.ntmps7
    go_wp2_with fail
    (with_reducible refine kc.mono ?_)
    rintro e w2 ⟨hb, rfl⟩
    have hs2 : w.heap.size + 1 ≤ w2.heap.size := by rw [← hs0]; exact hb.size
    have hb3 : Below w2.heap.size w2 (w2.alloc (.cells #[.int .i64 (ce : Int), .int .i64 (cp : Int)] 26)) := (Below.refl _ _).alloc (Nat.le_refl _) _
    have hn3 := heap_alloc_new w2 (.cells #[.int .i64 (ce : Int), .int .i64 (cp : Int)] 26)
    have c30 := cell_of_row _ w2.heap.size 0 _ _ _ hn3
    have HB3 := Lib.hid (HB0.out.trans ((hb.trans (hb3.mono hb.size)).mono (by omega)))
    have LR := Lib.hid ((hb3.block w.heap.size (by omega)).trans ((hb.block w.heap.size (by omega)).trans HN0.out))
    have HN3 := Lib.hid hn3
    have ha3 : (w2.alloc (.cells #[.int .i64 (ce : Int), .int .i64 (cp : Int)] 26)).heap.size = w2.heap.size + 1 := by simp
    clear hb hb3 hn3 kc
    go_wp2_with fail
    obtain ⟨w3, hw3⟩ : ∃ w3, w3 = w2.alloc (.cells #[.int .i64 (ce : Int), .int .i64 (cp : Int)] 26) := ⟨_, rfl⟩
    rw [← hw3] at HB3 LR HN3 ha3 ⊢
    refine wp_region_steps_then (words [wIs (.agg #[.int .i64 (ce : Int), .int .i64 (cp : Int)]), wIs (.slice none 0 0)]) w3.heap.size w3 (by kernel_rfl) (Below.refl _ _) (Nat.le_refl _) (words_stable ?stab) rfl rfl rfl (by kernel_rfl) _ rfl ?steps ?last
    case stab =>
      intro f hf
      simp only [List.mem_cons, List.not_mem_nil, or_false] at hf
      rcases hf with rfl | rfl <;> exact stable_is _
    case steps =>
      refine Steps.cons (step_value rfl fun a W hp => ?_) ?_
      · have f1 : a.tmps.getD 5 undef = .pointer (some ⟨w2.heap.size, 0, none⟩) := hp.old 5 rfl
        exact ⟨wanted_none rfl, _, _, run_ldrow rfl f1 ((hp.below.block w2.heap.size (by omega)).trans HN3.out) Tryz.underlying26 rfl HSF.out, rfl, Below.refl _ _⟩
      refine Steps.cons (step_value rfl fun a W hp => ⟨wanted_none rfl, _, _, run_move (.inr rfl), rfl, Below.refl _ _⟩) ?_
      exact Steps.nil
    case last =>
      intro a W hI
      have f16 : a.tmps.getD 16 undef = .agg #[.int .i64 (ce : Int), .int .i64 (cp : Int)] := hI.new 0 _ 16 rfl rfl rfl
      have f2 : a.tmps.getD 2 undef = .slice none 0 0 := hI.new 1 _ 2 rfl rfl rfl
      have f3 : a.tmps.getD 3 undef = .pointer (some ⟨w.heap.size, 0, none⟩) := hI.old 3 (by simp)
      have hdf : a.defers = [] := hI.defers
      have lr := (hI.below.block w.heap.size (by omega)).trans LR.out
      have hbW := HB3.out.trans (hI.below.mono HB3.out.size)
      clear hI
      refine wpOp_of rfl (wanted_none rfl) ?_
      refine wp_store_row 26 (.tmp 3) (.tmp 16) rfl w.heap.size #[.int .i64 (ce : Int), .int .i64 (cp : Int)] f3 f16 26 _ lr HSF.out rfl (fault_one _ _) ?_
      have hset := setRow_heap W w.heap.size _ #[.int .i64 (ce : Int), .int .i64 (cp : Int)] _ _ lr
      obtain ⟨a2, ha2⟩ : ∃ a2, a2 = a.put none undef := ⟨_, rfl⟩
      have g3 : a2.tmps.getD 3 undef = .pointer (some ⟨w.heap.size, 0, none⟩) := by rw [ha2]; exact f3
      have g2 : a2.tmps.getD 2 undef = .slice none 0 0 := by rw [ha2]; exact f2
      have gd : a2.defers = [] := by rw [ha2]; exact hdf
      rw [← ha2]
      clear ha2
      go_wp2_with fail
      refine bodyPost_ret (results_tmp_cell (q := 2) (p := 3) (ty := 26) rfl _ _ w.heap.size 26 #[.int .i64 (ce : Int), .int .i64 (cp : Int)] (0, 0) _ g3 hset Tryz.underlying26 rfl HSF.out) gd ?_
      rw [HPR.out]
      refine ⟨below_setRow hbW (Nat.le_refl _) _, ?_⟩
      show _ = _
      rw [g2]
  | ok d =>
    have hG := hgood d rfl
    simp only at kc hPR
    have hd : 0 < d.length := by
      have := hG.good.1
      unfold wordsL at this
      rwa [List.length_map] at this
    obtain ⟨P2, hP2⟩ : ∃ p, p = programS (wordsL s d) st0 := ⟨_, rfl⟩
    rw [← hP2] at hPR
    have kpr := fun W gp gw c (hp : Par (wordsL s d) W gp gw c st0) => program_any (wordsL s d) hG W gp gw c st0 hp (programS_ok hG.good.1)
    simp only [← hP2] at kpr
    have HPR := Lib.hid hPR
    have KPR := Lib.hid kpr
    clear herr hgood hPR hG kpr hP2
    go_enter Tryz.func7, Tryz.ntmps7
    go_wp2_with fail
    (with_reducible refine kc.mono ?_)
    rintro e w2 ⟨hb, v, rfl, hown⟩
    obtain ⟨xw, cw, rfl⟩ := own_is hown
    have hs2 : w.heap.size + 1 ≤ w2.heap.size := by rw [← hs0]; exact hb.size
    have hb3 : Below w2.heap.size w2 (w2.alloc (.cells #[.int .i64 0, .int .i64 0] 26)) := (Below.refl _ _).alloc (Nat.le_refl _) _
    have hn3 := heap_alloc_new w2 (.cells #[.int .i64 0, .int .i64 0] 26)
    have c30 := cell_of_row _ w2.heap.size 0 _ _ _ hn3
    have ha3 : (w2.alloc (.cells #[.int .i64 0, .int .i64 0] 26)).heap.size = w2.heap.size + 1 := by simp
    have hb4 : Below (w2.alloc (.cells #[.int .i64 0, .int .i64 0] 26)).heap.size (w2.alloc (.cells #[.int .i64 0, .int .i64 0] 26)) ((w2.alloc (.cells #[.int .i64 0, .int .i64 0] 26)).alloc (.cells #[.slice xw d.length cw, .int .i64 0, .int .i64 0, .int .i64 0, .int .i64 0] 61)) := (Below.refl _ _).alloc (Nat.le_refl _) _
    have hn4 := heap_alloc_new (w2.alloc (.cells #[.int .i64 0, .int .i64 0] 26)) (.cells #[.slice xw d.length cw, .int .i64 0, .int .i64 0, .int .i64 0, .int .i64 0] 61)
    rw [ha3] at hn4
    have ha4 : ((w2.alloc (.cells #[.int .i64 0, .int .i64 0] 26)).alloc (.cells #[.slice xw d.length cw, .int .i64 0, .int .i64 0, .int .i64 0, .int .i64 0] 61)).heap.size = w2.heap.size + 2 := by simp
    have hob : ∀ k, (Value.slice xw d.length cw).ownBlock = some k → k ≠ w2.heap.size + 1 := fun k hk => by have := (hown.lt k hk).2; omega
    obtain ⟨gw, c, hpar⟩ := par_start s d _ _ (w2.heap.size + 1) _ (own_below (own_below hown hb3) hb4) hd hob hn4
    have kp := KPR.out _ _ _ _ hpar
    have HB4 := Lib.hid (HB0.out.trans ((hb.trans ((hb3.trans (hb4.mono (by rw [ha3]; omega))).mono hb.size)).mono (by omega)))
    have LR := Lib.hid ((hb4.block w.heap.size (by omega)).trans ((hb3.block w.heap.size (by omega)).trans ((hb.block w.heap.size (by omega)).trans HN0.out)))
    have HA4 := Lib.hid ha4
    clear hb hb3 hn3 hb4 hn4 hown hpar hob kc KPR ha4
    go_wp2_with fail
    (with_reducible refine kp.mono ?_)
    rintro e w5 ⟨V5, rfl, hon, hp, hg⟩
    have hz5 : w2.heap.size + 2 ≤ w5.heap.size := by rw [← HA4.out]; exact hg.size
    have HB5 : Hid (Below w.heap.size w w5) := Lib.hid (HB4.out.trans (below_gb hg (by rw [HA4.out]; omega) (by omega)))
    have LR5 := Lib.hid ((hg.block w.heap.size (by rw [HA4.out]; omega) (by intro e; injection e with e; omega)).trans LR.out)
    have HON : Hid (OwnN w5 (w.heap.size + 1) V5 P2.1) := Lib.hid (hon.mono (by rw [HA4.out]; omega))
    obtain ⟨_, pe, pa, _, _⟩ := hp.cells
    obtain ⟨l2, S2⟩ := P2
    simp only at pe pa
    obtain ⟨er, her⟩ : ∃ x, x = S2.er := ⟨_, rfl⟩
    obtain ⟨ea, hea⟩ : ∃ x, x = S2.ea := ⟨_, rfl⟩
    have HPR2 : Hid (PR = if er = 0 then .ok l2 else .error (er, ea)) := Lib.hid (by rw [HPR.out, her, hea])
    rw [← her] at pe
    rw [← hea] at pa
    clear hon hp hg kp LR HB4 HPR her hea
    by_cases he0 : er = 0
    · have HR : Hid (PR = .ok l2) := Lib.hid (by rw [HPR2.out, if_pos he0])
      subst he0
      clear HPR2
      go_wp2_with (refine wpList_store_row rfl 26 (.tmp 3) (.tmp 27) rfl w.heap.size #[.int .i64 0, .int .i64 0] rfl rfl 26 _ LR5.out HSF.out rfl (fault_one _ _) ?_)
      have hset := setRow_heap w5 w.heap.size _ #[.int .i64 0, .int .i64 0] _ _ LR5.out
      refine bodyPost_ret (results_tmp_cell (q := 2) (p := 3) (ty := 26) rfl _ _ w.heap.size 26 #[.int .i64 0, .int .i64 0] (0, 0) _ rfl hset Tryz.underlying26 rfl HSF.out) rfl ?_
      rw [HR.out]
      exact ⟨below_setRow HB5.out (Nat.le_refl _) _, V5, rfl, (HON.out.row (Nat.lt_succ_self _)).mono (by omega)⟩
    · have HR : Hid (PR = .error (er, ea)) := Lib.hid (by rw [HPR2.out, if_neg he0])
      have d0 : ((er : Int) != 0) = true := by simp; omega
      clear HPR2 he0
      go_wp2_with fail
      have PE := Lib.hid pe
      have PA := Lib.hid pa
      clear pe pa
      refine wp_region_steps_then (words [wIs (.pointer (some ⟨w2.heap.size + 1, 1, none⟩)), wIs (.agg #[.int .i64 (er : Int), .int .i64 (ea : Int)]), wIs (.slice none 0 0)]) w5.heap.size w5 (by kernel_rfl) (Below.refl _ _) (Nat.le_refl _) (words_stable ?stab) rfl rfl rfl (by kernel_rfl) _ rfl ?steps ?last
      case stab =>
        intro f hf
        simp only [List.mem_cons, List.not_mem_nil, or_false] at hf
        rcases hf with rfl | rfl | rfl <;> exact stable_is _
      case steps =>
        refine Steps.cons (step_value rfl fun a W hp => ?_) ?_
        · have f1 : a.tmps.getD 6 undef = .pointer (some ⟨w2.heap.size + 1, 0, none⟩) := hp.old 6 rfl
          refine ⟨wanted_none rfl, _, _, run_fa rfl ?_, rfl, Below.refl _ _⟩
          show (Instr.fieldAt _ (a.tmps.getD 6 undef) 1).run _ W = _
          rw [f1]
          exact fa_par1 _ W
        refine Steps.cons (step_value rfl fun a W hp => ?_) ?_
        · have f1 : a.tmps.getD 24 undef = .pointer (some ⟨w2.heap.size + 1, 1, none⟩) := (hp.on_ 0 rfl rfl rfl).2
          have hblk := hp.below.block (w2.heap.size + 1) (by omega)
          exact ⟨wanted_none rfl, _, _, run_ldmid rfl f1 (by simp only [World.cell?, hblk]; exact PE.out) (by simp only [World.cell?, hblk]; exact PA.out), rfl, Below.refl _ _⟩
        refine Steps.cons (step_value rfl fun a W hp => ⟨wanted_none rfl, _, _, run_move (.inr rfl), rfl, Below.refl _ _⟩) ?_
        exact Steps.nil
      case last =>
        intro a W hI
        have f16 : a.tmps.getD 25 undef = .agg #[.int .i64 (er : Int), .int .i64 (ea : Int)] := hI.new 1 _ 25 rfl rfl rfl
        have f2 : a.tmps.getD 2 undef = .slice none 0 0 := hI.new 2 _ 2 rfl rfl rfl
        have f3 : a.tmps.getD 3 undef = .pointer (some ⟨w.heap.size, 0, none⟩) := hI.old 3 (by simp)
        have hdf : a.defers = [] := hI.defers
        have lr := (hI.below.block w.heap.size (by omega)).trans LR5.out
        have hbW := HB5.out.trans (hI.below.mono HB5.out.size)
        clear hI
        refine wpOp_of rfl (wanted_none rfl) ?_
        refine wp_store_row 26 (.tmp 3) (.tmp 25) rfl w.heap.size #[.int .i64 (er : Int), .int .i64 (ea : Int)] f3 f16 26 _ lr HSF.out rfl (fault_one _ _) ?_
        have hset := setRow_heap W w.heap.size _ #[.int .i64 (er : Int), .int .i64 (ea : Int)] _ _ lr
        obtain ⟨a2, ha2⟩ : ∃ a2, a2 = a.put none undef := ⟨_, rfl⟩
        have g3 : a2.tmps.getD 3 undef = .pointer (some ⟨w.heap.size, 0, none⟩) := by rw [ha2]; exact f3
        have g2 : a2.tmps.getD 2 undef = .slice none 0 0 := by rw [ha2]; exact f2
        have gd : a2.defers = [] := by rw [ha2]; exact hdf
        rw [← ha2]
        clear ha2
        go_wp2_with fail
        refine bodyPost_ret (results_tmp_cell (q := 2) (p := 3) (ty := 26) rfl _ _ w.heap.size 26 #[.int .i64 (er : Int), .int .i64 (ea : Int)] (0, 0) _ g3 hset Tryz.underlying26 rfl HSF.out) gd ?_
        rw [HR.out]
        refine ⟨below_setRow hbW (Nat.le_refl _) _, ?_⟩
        show _ = _
        rw [g2]
end Go.Proofs.YtjlnihennlkmpaaGreatDoor

namespace Go.Proofs.YtjlnihennlkmpaaGreatDoor
open Go Go.RowKit
/-- Only the builder's block, and rows of bytes, were turned. -/
structure Wrote (b : Nat) (w w' : World) : Prop where
  os : w'.os = w.os
  tape : w'.tape = w.tape
  output : w'.output = w.output
  size : w.heap.size ≤ w'.heap.size
  block : ∀ k, k < w.heap.size → k ≠ b → (∀ cs fr, w.heap[k]? ≠ some (.cells cs 5 fr)) → w'.heap[k]? = w.heap[k]?
theorem Wrote.refl (b : Nat) (w : World) : Wrote b w w := ⟨rfl, rfl, rfl, Nat.le_refl _, fun _ _ _ _ => rfl⟩
theorem Wrote.trans {b : Nat} {u v w : World} (h : Wrote b u v) (k : Wrote b v w) : Wrote b u w :=
  ⟨k.os.trans h.os, k.tape.trans h.tape, k.output.trans h.output, Nat.le_trans h.size k.size, fun j hj hb ht => by
    have e := h.block j hj hb ht
    exact (k.block j (Nat.lt_of_lt_of_le hj h.size) hb (by rw [e]; exact ht)).trans e⟩
theorem Wrote.below {b : Nat} {w w' : World} (h : Below w.heap.size w w') : Wrote b w w' := ⟨h.os, h.tape, h.output, h.size, fun k hk _ _ => h.block k hk⟩
theorem Wrote.cell (w : World) (b j : Nat) (v : Value) : Wrote b w (w.setCell ⟨b, j, none⟩ v) := ⟨rfl, rfl, rfl, by simp, fun k _ hb _ => heap_setCell_other w ⟨b, j, none⟩ k v hb⟩
theorem Wrote.row {B b n : Nat} {v : Value} {xs : List Value} {w w' : World} (ho : w.ownsRow B 5 1 v n xs) (h : w.grownBy w' v.ownBlock) : Wrote b w w' :=
  ⟨h.os, h.tape, h.output, h.size, fun k hk _ ht => h.block k hk (fun e => by
    rcases ho.2 with ⟨rfl, _⟩ | ⟨g, cap, cur, rfl, _, hg, _⟩
    · cases e
    · injection e with e
      exact ht cur (0, 0) (by rw [show k = g from e]; exact hg))⟩
theorem size_builder : (Tryz.prog.info? 66).map (·.size) = some 2 := by kernel_rfl
theorem lies_builder : liesAt Tryz.prog Tryz.prog.depth 66 (2 / Tryz.prog.cellsOf 66) 0 66 1 = true := by kernel_rfl
set_option maxHeartbeats 1000000 in
set_option maxRecDepth 100000 in
theorem copyCheck_any (B b : Nat) (bs : List Value) (w : World) (h : Lib.IsBuilder 66 5 B b bs w) : Calls Tryz.prog 77 #[.pointer (some ⟨b, 0, none⟩)] w fun e w' => e = .returned (.tuple #[]) ∧ Lib.BuilderAt 66 5 B b (.pointer (some ⟨b, 0, none⟩)) bs w' ∧ Below B w w' ∧ Wrote b w w' := by
  obtain ⟨j, hj, hjs⟩ := Option.map_eq_some_iff.1 size_builder
  rcases h with h | h
  · have c0 := h.cell0
    have hsh := h.shape
    have f0 := h.frozen0
    have H := Lib.hid h
    clear h
    go_enter Tryz.func77, Tryz.ntmps77
    go_wp2
    rw [Lib.run_to_unsafe w ⟨b, 0, none⟩ Tryz.underlying63 Tryz.underlying132 hj (by rw [hjs]; decide) hsh (Nat.zero_lt_succ 1)]
    simp only [Result.andThen]
    rw [Oper.upon_value]
    go_wp2
    rw [run_callFunc_extern Tryz.func93 (by kernel_rfl) (by kernel_rfl) (by kernel_rfl) (e := Extern.AbiNoEscape.same) (by kernel_rfl)]
    rw [Lib.run_noEscape]
    simp only [Result.andThen]
    rw [Oper.upon_value]
    go_wp2
    rw [Lib.run_from_unsafe w ⟨b, 0, none⟩ Tryz.underlying132 Tryz.underlying63 hj hsh lies_builder]
    simp only [Result.andThen]
    rw [Oper.upon_value]
    go_wp2
    go_end0
    exact ⟨rfl, H.out.used _, (Below.refl B w).setCell (p := ⟨b, 0, none⟩) H.out.1 _, Wrote.cell w b 0 _⟩
  · have c0 := h.cell0
    have H := Lib.hid h
    clear h
    go_enter Tryz.func77, Tryz.ntmps77
    go_wp2
    rw [Lib.run_neq_ptr_same w _ Tryz.underlying63 hj]
    go_wp2
    go_end0
    exact ⟨rfl, H.out, Below.refl B _, Wrote.refl b _⟩
set_option maxHeartbeats 2000000 in
set_option maxRecDepth 100000 in
theorem writeString_any (B b : Nat) (bs : List Value) (s : ByteArray) (w : World) (h : Lib.IsBuilder 66 5 B b bs w) (hlen : bs.length + s.size ≤ 140737488355328) (hBw : B ≤ w.heap.size) :
    Calls Tryz.prog 62 #[.pointer (some ⟨b, 0, none⟩), .string s] w fun e w' => e = .returned (.tuple #[.int .i64 s.size, .nilIface]) ∧ Lib.BuilderAt 66 5 B b (.pointer (some ⟨b, 0, none⟩)) (bs ++ Lib.strCells s) w' ∧ Below B w w' ∧ Wrote b w w' := by
  obtain ⟨i0, hi, hz0, hz1, hz2⟩ := info_parts info_byte
  have kc := copyCheck_any B b bs w h
  have H63 : Hid (bs.length + s.size ≤ maxLen) := Lib.hid (by unfold maxLen; omega)
  have HBY : Hid (bs.length + s.size ≤ 140737488355328) := Lib.hid hlen
  clear h hlen
  go_enter Tryz.func62, Tryz.ntmps62
  go_wp2_with fail
  (with_reducible refine kc.mono ?_)
  rintro e w1 ⟨rfl, h1, hb1, hw1⟩
  have HW1 := Lib.hid hw1
  clear hw1
  obtain ⟨hB, v, hbk, hown, hne⟩ := h1
  have c0 : w1.cell? ⟨b, 0, none⟩ = some (.pointer (some ⟨b, 0, none⟩)) := by rw [Lib.cell_of_heap hbk]; rfl
  have c1 : w1.cell? ⟨b, 1, none⟩ = some v := by rw [Lib.cell_of_heap hbk]; rfl
  have HOW := Lib.hid hown
  have HBS : Hid (B ≤ w1.heap.size) := Lib.hid (Nat.le_trans hBw hb1.size)
  have hlt : b < w1.heap.size := (Array.getElem?_eq_some_iff.1 hbk).1
  have HBK := Lib.hid hbk
  have HB1 := Lib.hid hb1
  have HNE := Lib.hid hne
  clear hown hbk hb1 hne kc
  go_wp2_with (at_builtin
               refine Lib.wpList_append_own_string _ rfl _ _ 64 9 rfl B 5 i0 Tryz.underlying64 Tryz.underlying9 hi hz0 hz1 hz2 _ _ _ rfl HOW.out s rfl H63.out HBY.out HBS.out ?_
               intro v' w2 hown' hgrow _
               obtain ⟨ao, n', cap, rfl⟩ : ∃ ao n' cap, v' = .slice ao n' cap := by
                 rcases hown'.2 with ⟨hv, _⟩ | ⟨g, cap, cur, hv, _⟩
                 · exact ⟨_, _, _, hv⟩
                 · exact ⟨_, _, _, hv⟩
               have hb2 : w2.heap[b]? = some (.cells #[.pointer (some ⟨b, 0, none⟩), v] 66 (0, 0)) := by
                 rw [hgrow.block b hlt (fun e => HNE.out e.symm)]
                 exact HBK.out
               have d0 : w2.cell? ⟨b, 0, none⟩ = some (.pointer (some ⟨b, 0, none⟩)) := by rw [Lib.cell_of_heap hb2]; rfl
               have d1 : w2.cell? ⟨b, 1, none⟩ = some v := by rw [Lib.cell_of_heap hb2]; rfl
               have f1 : w2.frozen? ⟨b, 1, none⟩ = false := Lib.frozen_of_heap hb2 1
               have HO2 := Lib.hid hown'
               have HG2 := Lib.hid hgrow
               have HB2 := Lib.hid hb2
               clear hown' hgrow hb2)
  go_ret2
  refine ⟨rfl, Lib.BuilderAt.put (T := 66) (e := 5) hB HB2.out (bs' := bs ++ Lib.strCells s) (by simpa [Lib.strCells_length] using HO2.out) (by decide), (HB1.out.grown HG2.out HBS.out (fun k hk => (HOW.out.lt k hk).1)).setCell (p := ⟨b, 1, none⟩) hB _, HW1.out.trans ((Wrote.row HOW.out HG2.out).trans (Wrote.cell _ b 1 _))⟩
end Go.Proofs.YtjlnihennlkmpaaGreatDoor

namespace Go.Proofs.YtjlnihennlkmpaaGreatDoor
open Go Go.RowKit
/-- A builder of the call's own that holds these bytes. -/
def Bld (B b : Nat) (l : List UInt8) (w : World) : Prop := Lib.IsBuilder 66 5 B b (Lib.byteCells l) w ∧ B ≤ w.heap.size
/-- A step that writes the bytes m. -/
def GivesW (B b : Nat) (l m : List UInt8) (w : World) (e : Ending) (w' : World) : Prop := e = .returned (.tuple #[]) ∧ Bld B b (l ++ m) w' ∧ Below B w w' ∧ Wrote b w w'
theorem bld_write (B b : Nat) (l : List UInt8) (s : ByteArray) (w : World) (h : Bld B b l w) (hl : l.length + s.size ≤ 140737488355328) :
    Calls Tryz.prog 62 #[.pointer (some ⟨b, 0, none⟩), .string s] w fun e w' => e = .returned (.tuple #[.int .i64 s.size, .nilIface]) ∧ Bld B b (l ++ s.data.toList) w' ∧ Below B w w' ∧ Wrote b w w' := by
  refine (writeString_any B b (Lib.byteCells l) s w h.1 (by simpa [Lib.byteCells] using hl) h.2).mono ?_
  rintro e w' ⟨rfl, h1, h2, h3⟩
  refine ⟨rfl, ⟨.inr ?_, Nat.le_trans h.2 h2.size⟩, h2, h3⟩
  have e1 : Lib.byteCells (l ++ s.data.toList) = Lib.byteCells l ++ Lib.strCells s := by
    simp [Lib.byteCells, Lib.strCells]
  rw [e1]
  exact h1
/-- All texts, one behind the other. -/
def joined (ts : List ByteArray) : List UInt8 := ts.flatMap fun t => t.data.toList
theorem joined_take (ts : List ByteArray) (i : Nat) (h : i < ts.length) : joined (ts.take (i + 1)) = joined (ts.take i) ++ (ts[i]).data.toList := by
  unfold joined
  rw [List.take_succ_eq_append_getElem h, List.flatMap_append]
  simp only [List.flatMap_cons, List.flatMap_nil, List.append_nil]
theorem joined_len (ts : List ByteArray) (i : Nat) (h : i < ts.length) : (joined (ts.take i)).length + (ts[i]).size ≤ (joined ts).length := by
  have h1 := joined_take ts i h
  have h2 : joined ts = joined (ts.take (i + 1)) ++ joined (ts.drop (i + 1)) := by
    unfold joined
    rw [← List.flatMap_append, List.take_append_drop]
  rw [h2, h1, List.length_append, List.length_append]
  have : (ts[i]).data.toList.length = (ts[i]).size := by simp
  omega
theorem idx_str (g o n cap i : Nat) (hi : i < n) (W : World) : (Instr.indexAt 104 (.slice (some ⟨g, o, none⟩) n cap) (.int .i64 (i : Int))).run Tryz.prog W = .ok (.pointer (some ⟨g, o + i, none⟩)) W := by
  have he : Tryz.prog.elem 104 = 9 := by simp [Program.elem, Tryz.underlying104]
  have hz : ∀ W, (sizeOf (Tryz.prog.elem 104)).run Tryz.prog W = .ok 1 W := fun W => by
    rw [he]
    have h : (Tryz.prog.info? 9).map (·.size) = some 1 := by kernel_rfl
    cases hq : Tryz.prog.info? 9 with
    | none => simp [hq] at h
    | some i => simp [hq] at h; simp [sizeOf, typeInfo, hq, h]
  rw [run_indexAt_slice (h := by rw [he]; exact Tryz.underlying104), if_pos (by omega), hz]
  simp [Result.andThen, Addr.add_mid]
set_option maxHeartbeats 2000000 in
set_option maxRecDepth 100000 in
theorem say_any (B b : Nat) (l : List UInt8) (w : World) (h : Bld B b l w) (g o cp : Nat) (ts : List ByteArray) (hg : g < w.heap.size) (hgb : g ≠ b) (hgt : ∀ cs fr, w.heap[g]? ≠ some (.cells cs 5 fr)) (hs : StrsAt w g o ts) (hn : ts.length < 1000) (hl : l.length + (joined ts).length ≤ 140737488355328) :
    Calls Tryz.prog 32 #[.pointer (some ⟨b, 0, none⟩), .slice (some ⟨g, o, none⟩) ts.length cp] w (GivesW B b l (joined ts) w) := by
  obtain ⟨n, hnn⟩ : ∃ n, n = ts.length := ⟨_, rfl⟩
  rw [← hnn]
  have HN := Lib.hid hnn
  have HB := Lib.hid h
  have HS := Lib.hid hs
  have HT := Lib.hid hgt
  have HL := Lib.hid hl
  rw [← hnn] at hn
  clear hnn h hs hgt hl
  go_enter Tryz.func32, Tryz.ntmps32
  go_wp2_with fail
  go_loopw [8] (fun iv wr => ∃ i : Nat, iv = .int .i64 (i : Int) ∧ i ≤ n ∧ Bld B b (l ++ joined (ts.take i)) wr ∧ Below B w wr ∧ Wrote b w wr)
    (fun iv _ => n - (intOf iv).toNat)
  case atStart => exact ⟨0, rfl, Nat.zero_le _, by simpa [joined] using HB.out, Below.refl _ _, Wrote.refl _ _⟩
  case round =>
    obtain ⟨i, rfl, hi, hbl, hbw, hwr⟩ := hrel
    by_cases hin : i < n
    · have d2 : decide ((i : Int) < (n : Int)) = true := by simp; omega
      have hit : i < ts.length := by rw [← HN.out]; exact hin
      have hix := fun W => idx_str g o n cp i hin W
      have hcell : wr.cell? ⟨g, o + i, none⟩ = some (.string ts[i]) := by
        have := HS.out i hit
        rw [List.getD_eq_getElem?_getD, List.getElem?_eq_getElem hit] at this
        simp only [World.cell?, hwr.block g hg hgb HT.out] at this ⊢
        exact this
      have hjl := joined_len ts i hit
      have kw := bld_write B b (l ++ joined (ts.take i)) ts[i] wr hbl (by rw [List.length_append]; have := HL.out; omega)
      rw [List.append_assoc, ← joined_take ts i hit] at kw
      obtain ⟨t, ht⟩ : ∃ t, t = ts[i] := ⟨_, rfl⟩
      rw [← ht] at kw hcell
      have HBW := Lib.hid hbw
      have HWR := Lib.hid hwr
      clear ht hbl hbw hwr hjl hit HB HS HT HL
      go_wp2_with fail
      (with_reducible refine kw.mono ?_)
      rintro e w3 ⟨rfl, h1, h2, h3⟩
      have H1 := Lib.hid h1
      have H2 := Lib.hid (HBW.out.trans h2)
      have H3 := Lib.hid (HWR.out.trans h3)
      clear h1 h2 h3 kw HBW HWR
      go_wp2_with fail
      refine ⟨⟨i + 1, by go_num, by omega, H1.out, H2.out, H3.out⟩, ?_⟩
      simp [intOf]; omega
    · obtain rfl : i = n := by omega
      have d2 : decide ((i : Int) < (i : Int)) = false := by simp
      have H1 := Lib.hid hbl
      have H2 := Lib.hid hbw
      have H3 := Lib.hid hwr
      clear hbl hbw hwr HB HS HT HL
      go_wp2_with fail
      go_end0
      refine ⟨rfl, ?_, H2.out, H3.out⟩
      have h := H1.out
      rw [List.take_of_length_le (by rw [← HN.out]; exact Nat.le_refl _)] at h
      exact h
end Go.Proofs.YtjlnihennlkmpaaGreatDoor

namespace Go.Proofs.YtjlnihennlkmpaaGreatDoor
open Go Go.RowKit
theorem IsL.nth {B : Nat} {w : World} {g : Nat} : ∀ (l : List Ex) (i k : Nat), IsL B w g i l → (h : k < l.length) → ∃ o m n a x l' c, w.cell? ⟨g, (i + k) * 5, none⟩ = some (.string o) ∧ w.cell? ⟨g, (i + k) * 5 + 1, none⟩ = some (.string m) ∧ w.cell? ⟨g, (i + k) * 5 + 2, none⟩ = some (.int .i64 n) ∧ w.cell? ⟨g, (i + k) * 5 + 3, none⟩ = some (.int .i64 a) ∧ w.cell? ⟨g, (i + k) * 5 + 4, none⟩ = some (.slice x l' c) ∧ IsE B w o m n a x l' c l[k]
  | [], _, _, _, h => by simp at h
  | e :: r, i, 0, hl, _ => by
    unfold IsL at hl
    exact hl.1
  | e :: r, i, k + 1, hl, h => by
    unfold IsL at hl
    have := IsL.nth r (i + 1) k hl.2 (by simpa using h)
    rw [show i + 1 + k = i + (k + 1) by omega] at this
    simpa using this
theorem idx_expr (g n cap i : Nat) (hi : i < n) (W : World) : (Instr.indexAt 52 (.slice (some ⟨g, 0, none⟩) n cap) (.int .i64 (i : Int))).run Tryz.prog W = .ok (.pointer (some ⟨g, i * 5, none⟩)) W := by
  have he : Tryz.prog.elem 52 = 54 := by simp [Program.elem, Tryz.underlying52]
  have hz : ∀ W, (sizeOf (Tryz.prog.elem 52)).run Tryz.prog W = .ok 5 W := fun W => by
    rw [he]
    have h := size_expr
    cases hq : Tryz.prog.info? 54 with
    | none => simp [hq] at h
    | some i => simp [hq] at h; simp [sizeOf, typeInfo, hq, h]
  rw [run_indexAt_slice (h := by rw [he]; exact Tryz.underlying52), if_pos (by omega), hz]
  simp [Result.andThen, Addr.add_lit]
end Go.Proofs.YtjlnihennlkmpaaGreatDoor

namespace Go.Proofs.YtjlnihennlkmpaaGreatDoor
open Go Go.RowKit
theorem bldAt_below {T e : TypeId} {B b : Nat} {p : Value} {bs : List Value} {w w' : World} (h : Lib.BuilderAt T e B b p bs w) (hb : Below w.heap.size w w') : Lib.BuilderAt T e B b p bs w' := by
  have hlt := h.lt
  obtain ⟨h1, v, h2, h3, h4⟩ := h
  exact ⟨h1, v, (hb.block b hlt).trans h2, own_below h3 hb, h4⟩
theorem Bld.below {B b : Nat} {l : List UInt8} {w w' : World} (h : Bld B b l w) (hb : Below w.heap.size w w') : Bld B b l w' :=
  ⟨h.1.elim (fun x => .inl (bldAt_below x hb)) (fun x => .inr (bldAt_below x hb)), Nat.le_trans h.2 hb.size⟩
theorem Bld.lt {B b : Nat} {l : List UInt8} {w : World} (h : Bld B b l w) : b < w.heap.size := h.1.elim (fun x => x.lt) (fun x => x.lt)
/-- What is written into the builder, the row of texts made for it. -/
theorem say_new (B b : Nat) (l : List UInt8) (w : World) (h : Bld B b l w) (ts : List ByteArray) (hn : ts.length < 1000) (hl : l.length + (joined ts).length ≤ 140737488355328) :
    Calls Tryz.prog 32 #[.pointer (some ⟨b, 0, none⟩), .slice (some ⟨w.heap.size, 0, none⟩) ts.length ts.length] (w.alloc (.cells (ts.map Value.string).toArray 9)) (GivesW B b l (joined ts) w) := by
  have hb1 : Below w.heap.size w (w.alloc (.cells (ts.map Value.string).toArray 9)) := (Below.refl _ _).alloc (Nat.le_refl _) _
  have hn1 := heap_alloc_new w (.cells (ts.map Value.string).toArray 9)
  have hs1 : (w.alloc (.cells (ts.map Value.string).toArray 9)).heap.size = w.heap.size + 1 := by simp
  have hlt := h.lt
  refine (say_any B b l _ (h.below hb1) w.heap.size 0 ts.length ts (by omega) (by omega) (fun cs fr e => ?_) (fun j hj => ?_) hn hl).mono ?_
  · rw [hn1] at e
    injection e with e
    injection e with _ e _
    exact absurd e (by decide)
  · rw [cell_of_row _ w.heap.size (0 + j) _ _ _ hn1, Nat.zero_add, List.getD_eq_getElem?_getD, List.getElem?_eq_getElem hj]
    simp [List.getElem?_eq_getElem hj]
  · rintro e w' ⟨rfl, h1, h2, h3⟩
    exact ⟨rfl, h1, (hb1.mono h.2).trans h2, (Wrote.below hb1).trans h3⟩
/-- The same, as a walk meets it. -/
theorem say_at (B b : Nat) (l : List UInt8) (w : World) (h : Bld B b l w) (ts : List ByteArray) (K sz : Nat) (cells : Array Value) (m : List UInt8) (hsz : w.heap.size = sz) (hK : ts.length = K) (hc : (ts.map Value.string).toArray = cells) (hm : joined ts = m) (hn : K < 1000) (hl : l.length + m.length ≤ 140737488355328) :
    Calls Tryz.prog 32 #[.pointer (some ⟨b, 0, none⟩), .slice (some ⟨sz, 0, none⟩) K K] (w.alloc (.cells cells 9)) (GivesW B b l m w) := by
  subst hsz hK hc hm
  exact say_new B b l w h ts hn hl
def whenT (b : Bool) : ByteArray := if b = true then ⟨#[32, 119, 104, 101, 110, 32, 110, 111, 116, 32]⟩ else ⟨#[32, 119, 104, 101, 110, 32]⟩
def kindT (k : Int) : ByteArray := if k = 1 then ⟨#[98, 111, 111, 108]⟩ else if k = 2 then ⟨#[105, 110, 116]⟩ else ⟨#[110, 111, 110, 101]⟩
theorem whenWord_any (b : Bool) (w : World) : Calls Tryz.prog 43 #[.bool b] w fun e w' => e = .returned (.string (whenT b)) ∧ w' = w := by
  cases b
  · go_enter Tryz.func43, Tryz.ntmps43
    go_wp2
    go_ret
    exact ⟨rfl, rfl⟩
  · go_enter Tryz.func43, Tryz.ntmps43
    go_wp2
    go_ret
    exact ⟨rfl, rfl⟩
theorem kindName_any (k : Int) (w : World) : Calls Tryz.prog 63 #[.int .i64 k] w fun e w' => e = .returned (.string (kindT k)) ∧ w' = w := by
  by_cases h1 : k = 1
  · subst h1
    go_enter Tryz.func63, Tryz.ntmps63
    go_wp2
    go_ret
    exact ⟨rfl, rfl⟩
  · have d1 : (k == 1) = false := by simpa using h1
    by_cases h2 : k = 2
    · subst h2
      go_enter Tryz.func63, Tryz.ntmps63
      go_wp2
      go_ret
      exact ⟨rfl, rfl⟩
    · have d2 : (k == 2) = false := by simpa using h2
      have hk : kindT k = ⟨#[110, 111, 110, 101]⟩ := by unfold kindT; rw [if_neg h1, if_neg h2]
      have HK := Lib.hid hk
      clear h1 h2 hk
      go_enter Tryz.func63, Tryz.ntmps63
      go_wp2
      go_ret
      rw [HK.out]
      exact ⟨rfl, rfl⟩
end Go.Proofs.YtjlnihennlkmpaaGreatDoor

namespace Go.Proofs.YtjlnihennlkmpaaGreatDoor
open Go Go.RowKit
def sp : List UInt8 := [32]
def lp : List UInt8 := [40]
def rp : List UInt8 := [41]
def isInfix (op : List UInt8) : Bool := [[43], [45], [42], [47], [109, 111, 100], [61], [60, 62], [60], [60, 61], [62], [62, 61], [97, 110, 100], [111, 114], [120, 111, 114], [45, 62], [102, 98, 121]].contains op
/-- Texts with ', ' between. -/
def commas : List (List UInt8) → List UInt8
  | [] => []
  | [t] => t
  | t :: r => t ++ [44, 32] ++ commas r
/-- An expression's text out of its kids': each kid's, and each as a merge writes it. -/
def textOp (op nm : ByteArray) (n : Int) (ts : List (List UInt8 × List UInt8)) : List UInt8 :=
  let o := op.data.toList
  let m := nm.data.toList
  let k := fun i => (ts.getD i ([], [])).1
  let p := fun i => (ts.getD i ([], [])).2
  if o = [105, 110, 116] then Lib.itoa n
  else if o = [98, 111, 111, 108] then Lib.formatBool (n != 0)
  else if o = [118, 97, 114] then m
  else if o = [99, 97, 108, 108] then m ++ lp ++ commas (ts.map (·.1)) ++ rp
  else if o = [110, 111, 116] ∨ o = [112, 114, 101] then lp ++ o ++ sp ++ k 0 ++ rp
  else if o = [110, 101, 103] then lp ++ [45] ++ sp ++ k 0 ++ rp
  else if isInfix o = true then lp ++ k 0 ++ (sp ++ o ++ sp) ++ k 1 ++ rp
  else if o = [119, 104, 101, 110] then lp ++ k 0 ++ ((whenT (n == 0)).data.toList ++ m ++ rp)
  else if o = [105, 102] then lp ++ [105, 102, 32] ++ k 0 ++ [32, 116, 104, 101, 110, 32] ++ k 1 ++ [32, 101, 108, 115, 101, 32] ++ k 2 ++ rp
  else if o = [109, 101, 114, 103, 101] then [40, 109, 101, 114, 103, 101, 32] ++ m ++ sp ++ p 0 ++ sp ++ p 1 ++ rp
  else []
/-- A tree as a merge writes it, out of its text. -/
def primOf : Ex → List UInt8 → List UInt8
  | .mk op nm _ _ _, t => if op.data.toList = [118, 97, 114] then lp ++ nm.data.toList ++ rp else t
mutual
def textE : Ex → List UInt8
  | .mk op nm n _ kids => textOp op nm n (textL kids)
def textL : List Ex → List (List UInt8 × List UInt8)
  | [] => []
  | e :: r => (textE e, primOf e (textE e)) :: textL r
end
def primE : Ex → List UInt8
  | .mk op nm n a kids => if op.data.toList = [118, 97, 114] then lp ++ nm.data.toList ++ rp else textE (.mk op nm n a kids)
theorem primE_mk (op nm : ByteArray) (n : Int) (a : Nat) (kids : List Ex) : primE (.mk op nm n a kids) = if op.data.toList = [118, 97, 114] then lp ++ nm.data.toList ++ rp else textE (.mk op nm n a kids) := rfl
theorem textL_getD : ∀ (kids : List Ex) (i : Nat), (textL kids).getD i ([], []) = (textE (kids.getD i ex0), primE (kids.getD i ex0))
  | [], i => by
    unfold textL
    simp [ex0, textE, primE, textOp, textL, isInfix]
  | .mk op nm n a ks :: r, 0 => by
    unfold textL
    simp only [List.getD_cons_zero]
    rfl
  | .mk op nm n a ks :: r, i + 1 => by
    unfold textL
    simp only [List.getD_cons_succ]
    exact textL_getD r i
end Go.Proofs.YtjlnihennlkmpaaGreatDoor

namespace Go.Proofs.YtjlnihennlkmpaaGreatDoor
open Go Go.RowKit
theorem IsQ.nth {ok : Nat → Prop} {w : World} {g : Nat} : ∀ (l : List Ex) (i k : Nat), IsQ ok w g i l → (h : k < l.length) → ∃ o m n a x l' c, w.cell? ⟨g, (i + k) * 5, none⟩ = some (.string o) ∧ w.cell? ⟨g, (i + k) * 5 + 1, none⟩ = some (.string m) ∧ w.cell? ⟨g, (i + k) * 5 + 2, none⟩ = some (.int .i64 n) ∧ w.cell? ⟨g, (i + k) * 5 + 3, none⟩ = some (.int .i64 a) ∧ w.cell? ⟨g, (i + k) * 5 + 4, none⟩ = some (.slice x l' c) ∧ IsP ok w o m n a x l' c l[k]
  | [], _, _, _, h => by simp at h
  | e :: r, i, 0, hl, _ => by
    unfold IsQ at hl
    exact hl.1
  | e :: r, i, k + 1, hl, h => by
    unfold IsQ at hl
    have := IsQ.nth r (i + 1) k hl.2 (by simpa using h)
    rw [show i + 1 + k = i + (k + 1) by omega] at this
    simpa using this
set_option maxHeartbeats 2000000 in
set_option maxRecDepth 100000 in
theorem kidP_any (ok : Nat → Prop) (op nm : ByteArray) (n0 : Int) (a0 : Nat) (kids : List Ex) (k : Nat) (w : World) (o m : ByteArray) (n a : Int) (x : Option Addr) (l c : Nat) (h : IsP ok w o m n a x l c (.mk op nm n0 a0 kids)) (hk : k < 1000000) :
    Calls Tryz.prog 42 #[exV o m n a x l c, .int .i64 (k : Int)] w (GivesP ok (kids.getD k ex0) w) := by
  unfold IsP at h
  obtain ⟨e1, e2, e3, e4, hl, hs⟩ := h
  clear e1 e2 e3 e4
  have hb1 : Below w.heap.size w (w.alloc (.cells #[.string o, .string m, .int .i64 n, .int .i64 a, .slice x l c] 54)) := (Below.refl _ _).alloc (Nat.le_refl _) _
  have hn1 := heap_alloc_new w (.cells #[.string o, .string m, .int .i64 n, .int .i64 a, .slice x l c] 54)
  have hs1 : (w.alloc (.cells #[.string o, .string m, .int .i64 n, .int .i64 a, .slice x l c] 54)).heap.size = w.heap.size + 1 := by simp
  obtain ⟨w1, hw1⟩ : ∃ w1, w1 = w.alloc (.cells #[.string o, .string m, .int .i64 n, .int .i64 a, .slice x l c] 54) := ⟨_, rfl⟩
  rw [← hw1] at hb1 hn1 hs1
  have hb2 : Below w1.heap.size w1 (w1.alloc (.cells #[.string ⟨#[]⟩, .string ⟨#[]⟩, .int .i64 0, .int .i64 0, .slice none 0 0] 54)) := (Below.refl _ _).alloc (Nat.le_refl _) _
  have hn2 := heap_alloc_new w1 (.cells #[.string ⟨#[]⟩, .string ⟨#[]⟩, .int .i64 0, .int .i64 0, .slice none 0 0] 54)
  rw [hs1] at hn2
  have hr1 := (hb2.block w.heap.size (by omega)).trans hn1
  have c4 := cell_of_row _ w.heap.size 4 _ _ _ hr1
  have hbw := hb1.trans (hb2.mono (by omega))
  have hs2 : (w1.alloc (.cells #[.string ⟨#[]⟩, .string ⟨#[]⟩, .int .i64 0, .int .i64 0, .slice none 0 0] 54)).heap.size = w.heap.size + 2 := by simp [hs1]
  have hck : ∀ g j v, g < w.heap.size → w.cell? ⟨g, j, none⟩ = some v → (w1.alloc (.cells #[.string ⟨#[]⟩, .string ⟨#[]⟩, .int .i64 0, .int .i64 0, .slice none 0 0] 54)).cell? ⟨g, j, none⟩ = some v := fun g j v hg hv => by
    simp only [World.cell?, hbw.block g hg] at hv ⊢
    exact hv
  subst hw1
  have HCK := Lib.hid hck
  have HN2 := Lib.hid hn2
  have HBW := Lib.hid hbw
  have HSE := Lib.hid size_expr
  have HS2 := Lib.hid hs2
  unfold exV
  clear hn2 hn1 hb1 hb2 hr1 hbw hs2 hck
  by_cases hkl : k < l
  · obtain ⟨g, rfl, hg1, hg2, hg3⟩ := hs (by omega)
    have hkk : k < kids.length := by omega
    obtain ⟨o1, m1, n1, a1, x1, l1, c1, q0, q1, q2, q3, q4, he⟩ := IsQ.nth kids 0 k hg3 hkk
    rw [Nat.zero_add] at q0 q1 q2 q3 q4
    have d2 : decide ((k : Int) < (l : Int)) = true := by simp; omega
    have hix := fun W => idx_expr g l c k hkl W
    have hget : kids.getD k ex0 = kids[k] := by rw [List.getD_eq_getElem?_getD, List.getElem?_eq_getElem hkk]; rfl
    rw [hget]
    have p0 := HCK.out g _ _ hg2 q0
    have p1 := HCK.out g _ _ hg2 q1
    have p2 := HCK.out g _ _ hg2 q2
    have p3 := HCK.out g _ _ hg2 q3
    have p4 := HCK.out g _ _ hg2 q4
    obtain ⟨t, ht⟩ : ∃ t, t = kids[k] := ⟨_, rfl⟩
    rw [← ht] at he ⊢
    have HI := Lib.hid he
    clear q0 q1 q2 q3 q4 he hget hs hg3 hl ht hg1 hs1
    go_enter Tryz.func42, Tryz.ntmps42
    go_wp2_with (refine wpList_store_row rfl 54 (.tmp 4) (.tmp 14) rfl (w.heap.size + 1) #[.string o1, .string m1, .int .i64 n1, .int .i64 a1, .slice x1 l1 c1] rfl rfl 54 _ HN2.out HSE.out rfl (expr_one _ _ _ _ _ _ _) ?_)
    have hset := setRow_heap _ (w.heap.size + 1) _ #[.string o1, .string m1, .int .i64 n1, .int .i64 a1, .slice x1 l1 c1] _ _ HN2.out
    refine bodyPost_ret (v := .agg #[.string o1, .string m1, .int .i64 n1, .int .i64 a1, .slice x1 l1 c1]) (results_cell_row (p := 4) (ty := 54) rfl _ _ (w.heap.size + 1) 54 _ (0, 0) _ rfl hset Tryz.underlying54 rfl HSE.out) rfl ⟨o1, m1, n1, a1, x1, l1, c1, rfl, ?_, below_setRow HBW.out (Nat.le_succ _) _⟩
    exact HI.out.keep (by rw [setRow_size, HS2.out]; omega) (fun j _ h2 => (setRow_other _ (w.heap.size + 1) j _ (by omega)).trans (HBW.out.block j h2)) (fun _ h _ => h) _
  · have d2 : decide ((k : Int) < (l : Int)) = false := by simp; omega
    have hget : kids.getD k ex0 = ex0 := by rw [List.getD_eq_getElem?_getD, List.getElem?_eq_none (by omega)]; rfl
    rw [hget]
    clear hget hs hl hs1
    go_enter Tryz.func42, Tryz.ntmps42
    go_wp2_with (refine wpList_store_row rfl 54 (.tmp 4) (.tmp 15) rfl (w.heap.size + 1) #[.string ⟨#[]⟩, .string ⟨#[]⟩, .int .i64 0, .int .i64 0, .slice none 0 0] rfl rfl 54 _ HN2.out HSE.out rfl (expr_one _ _ _ _ _ _ _) ?_)
    have hset := setRow_heap _ (w.heap.size + 1) _ #[.string ⟨#[]⟩, .string ⟨#[]⟩, .int .i64 0, .int .i64 0, .slice none 0 0] _ _ HN2.out
    refine bodyPost_ret (v := .agg #[.string ⟨#[]⟩, .string ⟨#[]⟩, .int .i64 0, .int .i64 0, .slice none 0 0]) (results_cell_row (p := 4) (ty := 54) rfl _ _ (w.heap.size + 1) 54 _ (0, 0) _ rfl hset Tryz.underlying54 rfl HSE.out) rfl ⟨⟨#[]⟩, ⟨#[]⟩, 0, 0, none, 0, 0, rfl, ?_, below_setRow HBW.out (Nat.le_succ _) _⟩
    unfold ex0 IsP
    exact ⟨rfl, rfl, rfl, rfl, rfl, fun h => absurd h (by simp)⟩
end Go.Proofs.YtjlnihennlkmpaaGreatDoor

namespace Go.Proofs.YtjlnihennlkmpaaGreatDoor
open Go Go.RowKit
theorem IsP.low {B : Nat} {w w' : World} (hb : Below B w w') {o m : ByteArray} {n a : Int} {x : Option Addr} {l c : Nat} {e : Ex} (h : IsP (fun k => k < B) w o m n a x l c e) : IsP (fun k => k < B) w' o m n a x l c e :=
  h.keep hb.size (fun k hk _ => hb.block k hk) (fun _ h _ => h) e
/-- writeExpr writes the text of this tree, wherever it is called with it. -/
def Writes (w : World) (B b : Nat) (t : Ex) : Prop := ∀ (W : World) (l : List UInt8) (o m : ByteArray) (n a : Int) (x : Option Addr) (lk c : Nat), Below B w W → Bld B b l W → IsP (fun k => k < B) W o m n a x lk c t → l.length + (textE t).length ≤ 140737488355328 →
  Calls Tryz.prog 26 #[.pointer (some ⟨b, 0, none⟩), exV o m n a x lk c] W (GivesW B b l (textE t) W)
theorem Writes.mono {w w1 : World} {B b : Nat} {t : Ex} (h : Writes w B b t) (hb : Below B w w1) : Writes w1 B b t :=
  fun W l o m n a x lk c hB => h W l o m n a x lk c (hb.trans hB)
set_option maxHeartbeats 2000000 in
set_option maxRecDepth 100000 in
theorem writeAhead_any (B b : Nat) (l : List UInt8) (w : World) (h : Bld B b l w) (word : ByteArray) (op nm : ByteArray) (n0 : Int) (a0 : Nat) (kids : List Ex) (o m : ByteArray) (n a : Int) (x : Option Addr) (lk c : Nat) (hi : IsP (fun k => k < B) w o m n a x lk c (.mk op nm n0 a0 kids)) (hw : Writes w B b (kids.getD 0 ex0))
    (hlen : l.length + (lp ++ word.data.toList ++ sp ++ textE (kids.getD 0 ex0) ++ rp).length ≤ 140737488355328) :
    Calls Tryz.prog 41 #[.pointer (some ⟨b, 0, none⟩), .string word, exV o m n a x lk c] w (GivesW B b l (lp ++ word.data.toList ++ sp ++ textE (kids.getD 0 ex0) ++ rp) w) := by
  have hb1 : Below w.heap.size w (w.alloc (.cells #[.string o, .string m, .int .i64 n, .int .i64 a, .slice x lk c] 54)) := (Below.refl _ _).alloc (Nat.le_refl _) _
  have hn1 := heap_alloc_new w (.cells #[.string o, .string m, .int .i64 n, .int .i64 a, .slice x lk c] 54)
  have hs1 : (w.alloc (.cells #[.string o, .string m, .int .i64 n, .int .i64 a, .slice x lk c] 54)).heap.size = w.heap.size + 1 := by simp
  have h1 := h.below hb1
  have hsz := h.2
  have hlt := h.lt
  have hj : joined [⟨#[40]⟩, word, ⟨#[32]⟩] = lp ++ word.data.toList ++ sp := by simp [joined, lp, sp]
  have hj2 : joined [⟨#[41]⟩] = rp := by simp [joined, rp]
  simp only [List.length_append] at hlen
  have ks := say_at B b l _ h1 [⟨#[40]⟩, word, ⟨#[32]⟩] 3 (w.heap.size + 1) #[.string ⟨#[40]⟩, .string word, .string ⟨#[32]⟩] _ hs1 rfl rfl hj (by decide) (by simp only [List.length_append]; omega)
  have hi1 := hi.low (hb1.mono hsz)
  obtain ⟨K, hK⟩ : ∃ K, K = kids.getD 0 ex0 := ⟨_, rfl⟩
  have kk : ∀ (W : World), IsP (fun k => k < B) W o m n a x lk c (.mk op nm n0 a0 kids) → Calls Tryz.prog 42 #[exV o m n a x lk c, .int .i64 0] W (GivesP (fun k => k < B) (kids.getD 0 ex0) W) := fun W hi => kidP_any (fun k => k < B) op nm n0 a0 kids 0 W o m n a x lk c hi (by decide)
  rw [← hK] at hw hlen kk ⊢
  obtain ⟨A, hA⟩ : ∃ A, A = lp ++ word.data.toList ++ sp := ⟨_, rfl⟩
  have hAl : A.length = lp.length + word.data.toList.length + sp.length := by rw [hA]; simp only [List.length_append]
  rw [← hA] at ks ⊢
  have k3 := fun (W : World) (hb : Bld B b (l ++ A ++ textE K) W) => say_at B b (l ++ A ++ textE K) W hb [⟨#[41]⟩] 1 W.heap.size #[.string ⟨#[41]⟩] _ rfl rfl rfl hj2 (by decide) (by simp only [List.length_append]; omega)
  have kx := fun (W : World) (o m : ByteArray) (n a : Int) (x : Option Addr) (lk c : Nat) (hB : Below B w W) (hb : Bld B b (l ++ A) W) (hp : IsP (fun k => k < B) W o m n a x lk c K) => hw W (l ++ A) o m n a x lk c hB hb hp (by simp only [List.length_append]; omega)
  have HSE := Lib.hid size_expr
  have HN1 := Lib.hid hn1
  have HB1 := Lib.hid (hb1.mono hsz)
  have HW1 := Lib.hid (Wrote.below (b := b) hb1)
  have KS := Lib.hid ks
  have KK := Lib.hid kk
  have K3 := Lib.hid k3
  have KX := Lib.hid kx
  have HI1 := Lib.hid hi1
  unfold exV at KK KX ⊢
  clear hw hi h hb1 hn1 h1 ks kk k3 kx hj hj2 hA hAl hi1 hK hlen
  go_enter Tryz.func41, Tryz.ntmps41
  go_wp2_with fail
  (with_reducible refine KS.out.mono ?_)
  rintro e w2 ⟨rfl, h2, hb2, hw2⟩
  have hz2 := hw2.size
  have LB2 := Lib.hid ((hw2.block w.heap.size (by omega) (by omega) (fun cs fr e => by rw [HN1.out] at e; injection e with e; injection e with _ e _; exact absurd e (by decide))).trans HN1.out)
  have hi2 := HI1.out.low hb2
  have kk2 := KK.out w2 hi2
  have H2 := Lib.hid h2
  have HB2 := Lib.hid (HB1.out.trans hb2)
  have HW2 := Lib.hid (HW1.out.trans hw2)
  clear h2 hb2 hw2 hi2 KS KK HN1 HI1
  go_wp2_with (refine wpList_load_row rfl 54 (.tmp 5) rfl w.heap.size rfl 54 #[.string o, .string m, .int .i64 n, .int .i64 a, .slice x lk c] (0, 0) _ LB2.out Tryz.underlying54 rfl HSE.out ?_)
  (with_reducible refine kk2.mono ?_)
  rintro e w3 ⟨o3, m3, n3, a3, x3, l3, c3, rfl, hi3, hb3⟩
  have kx3 := KX.out w3 o3 m3 n3 a3 x3 l3 c3 (HB2.out.trans (hb3.mono H2.out.2)) (H2.out.below hb3) hi3
  have HB3 := Lib.hid (HB2.out.trans (hb3.mono H2.out.2))
  have HW3 := Lib.hid (HW2.out.trans (Wrote.below hb3))
  unfold exV
  clear hi3 hb3 kk2 KX
  go_wp2_with fail
  (with_reducible refine kx3.mono ?_)
  rintro e w4 ⟨rfl, h4, hb4, hw4⟩
  have k4 := K3.out w4 h4
  have HB4 := Lib.hid (HB3.out.trans hb4)
  have HW4 := Lib.hid (HW3.out.trans hw4)
  clear h4 hb4 hw4 kx3 K3
  go_wp2_with fail
  (with_reducible refine k4.mono ?_)
  rintro e w5 ⟨rfl, h5, hb5, hw5⟩
  have H5 := Lib.hid h5
  have HB5 := Lib.hid (HB4.out.trans hb5)
  have HW5 := Lib.hid (HW4.out.trans hw5)
  clear h5 hb5 hw5 k4
  go_wp2_with fail
  go_end0
  refine ⟨rfl, ?_, HB5.out, HW5.out⟩
  have := H5.out
  simpa [List.append_assoc] using this
end Go.Proofs.YtjlnihennlkmpaaGreatDoor

namespace Go.Proofs.YtjlnihennlkmpaaGreatDoor
open Go Go.RowKit
set_option maxHeartbeats 2000000 in
set_option maxRecDepth 100000 in
theorem writeOther_w (B b : Nat) (l : List UInt8) (w : World) (h : Bld B b l w) (o : ByteArray) (m : ByteArray) (n a : Int) (x : Option Addr) (lk c : Nat) (hne : ∀ z, z ∈ ([[105, 110, 116], [98, 111, 111, 108], [118, 97, 114], [99, 97, 108, 108], [110, 111, 116], [112, 114, 101], [110, 101, 103], [43], [45], [42], [47], [109, 111, 100], [61], [60, 62], [60], [60, 61], [62], [62, 61], [97, 110, 100], [111, 114], [120, 111, 114], [45, 62], [102, 98, 121], [119, 104, 101, 110], [105, 102], [109, 101, 114, 103, 101]] : List (List UInt8)) → o.data.toList ≠ z) :
    Calls Tryz.prog 26 #[.pointer (some ⟨b, 0, none⟩), exV o m n a x lk c] w (GivesW B b l [] w) := by
  have hb1 : Below w.heap.size w (w.alloc (.cells #[.string o, .string m, .int .i64 n, .int .i64 a, .slice x lk c] 54)) := (Below.refl _ _).alloc (Nat.le_refl _) _
  have hn1 := heap_alloc_new w (.cells #[.string o, .string m, .int .i64 n, .int .i64 a, .slice x lk c] 54)
  have h1 := h.below hb1
  have hsz := h.2
  have hc0 := cell_of_row _ w.heap.size 0 _ _ _ hn1
  have hx : ∀ z, z ∈ ([[105, 110, 116], [98, 111, 111, 108], [118, 97, 114], [99, 97, 108, 108], [110, 111, 116], [112, 114, 101], [110, 101, 103], [43], [45], [42], [47], [109, 111, 100], [61], [60, 62], [60], [60, 61], [62], [62, 61], [97, 110, 100], [111, 114], [120, 111, 114], [45, 62], [102, 98, 121], [119, 104, 101, 110], [105, 102], [109, 101, 114, 103, 101]] : List (List UInt8)) → (o.toList == z) = false := fun z hz => by
    rw [Lib.toList_data]
    simpa using hne z hz
  have d0 := hx [105, 110, 116] (by decide)
  have d1 := hx [98, 111, 111, 108] (by decide)
  have d2 := hx [118, 97, 114] (by decide)
  have d3 := hx [99, 97, 108, 108] (by decide)
  have d4 := hx [110, 111, 116] (by decide)
  have d5 := hx [112, 114, 101] (by decide)
  have d6 := hx [110, 101, 103] (by decide)
  have d7 := hx [43] (by decide)
  have d8 := hx [45] (by decide)
  have d9 := hx [42] (by decide)
  have d10 := hx [47] (by decide)
  have d11 := hx [109, 111, 100] (by decide)
  have d12 := hx [61] (by decide)
  have d13 := hx [60, 62] (by decide)
  have d14 := hx [60] (by decide)
  have d15 := hx [60, 61] (by decide)
  have d16 := hx [62] (by decide)
  have d17 := hx [62, 61] (by decide)
  have d18 := hx [97, 110, 100] (by decide)
  have d19 := hx [111, 114] (by decide)
  have d20 := hx [120, 111, 114] (by decide)
  have d21 := hx [45, 62] (by decide)
  have d22 := hx [102, 98, 121] (by decide)
  have d23 := hx [119, 104, 101, 110] (by decide)
  have d24 := hx [105, 102] (by decide)
  have d25 := hx [109, 101, 114, 103, 101] (by decide)
  have H1 := Lib.hid h1
  have HB := Lib.hid (hb1.mono hsz)
  have HW := Lib.hid (Wrote.below (b := b) hb1)
  unfold exV
  clear h hb1 hn1 h1 hx hne
  go_enter Tryz.func26, Tryz.ntmps26
  go_wp2_with fail
  go_end0
  exact ⟨rfl, by rw [List.append_nil]; exact H1.out, HB.out, HW.out⟩
end Go.Proofs.YtjlnihennlkmpaaGreatDoor

namespace Go.Proofs.YtjlnihennlkmpaaGreatDoor
open Go Go.RowKit
set_option maxHeartbeats 2000000 in
set_option maxRecDepth 100000 in
theorem writePrimP_any (B b : Nat) (l : List UInt8) (w : World) (h : Bld B b l w) (op nm : ByteArray) (n0 : Int) (a0 : Nat) (kids : List Ex) (o m : ByteArray) (n a : Int) (x : Option Addr) (lk c : Nat) (hi : IsP (fun k => k < B) w o m n a x lk c (.mk op nm n0 a0 kids)) (hlen : l.length + (primE (.mk op nm n0 a0 kids)).length ≤ 140737488355328)
    (hx : op.data.toList ≠ [118, 97, 114] → ∀ W, Bld B b l W → Below w.heap.size w W → Calls Tryz.prog 26 #[.pointer (some ⟨b, 0, none⟩), exV o m n a x lk c] W (GivesW B b l (textE (.mk op nm n0 a0 kids)) W)) :
    Calls Tryz.prog 44 #[.pointer (some ⟨b, 0, none⟩), exV o m n a x lk c] w (GivesW B b l (primE (.mk op nm n0 a0 kids)) w) := by
  have ho : o = op ∧ m = nm := by
    unfold IsP at hi
    exact ⟨hi.1, hi.2.1⟩
  obtain ⟨rfl, rfl⟩ := ho
  have hb1 : Below w.heap.size w (w.alloc (.cells #[.string o, .string m, .int .i64 n, .int .i64 a, .slice x lk c] 54)) := (Below.refl _ _).alloc (Nat.le_refl _) _
  have hn1 := heap_alloc_new w (.cells #[.string o, .string m, .int .i64 n, .int .i64 a, .slice x lk c] 54)
  have h1 := h.below hb1
  have hsz := h.2
  have HSE := Lib.hid size_expr
  have HN1 := Lib.hid hn1
  have HB1 := Lib.hid hb1
  unfold exV at hx ⊢
  rw [primE_mk] at hlen ⊢
  by_cases hv : o.data.toList = [118, 97, 114]
  · rw [if_pos hv] at hlen ⊢
    obtain rfl : o = ⟨#[118, 97, 114]⟩ := bytes_inj hv
    have c1 := cell_of_row _ w.heap.size 1 _ _ _ hn1
    have c0 := cell_of_row _ w.heap.size 0 _ _ _ hn1
    have hj : joined [⟨#[40]⟩, m, ⟨#[41]⟩] = lp ++ m.data.toList ++ rp := by simp [joined, lp, rp]
    have hs1 : (w.alloc (.cells #[.string ⟨#[118, 97, 114]⟩, .string m, .int .i64 n, .int .i64 a, .slice x lk c] 54)).heap.size = w.heap.size + 1 := by simp
    have ks := say_at B b l _ h1 [⟨#[40]⟩, m, ⟨#[41]⟩] 3 (w.heap.size + 1) #[.string ⟨#[40]⟩, .string m, .string ⟨#[41]⟩] _ hs1 rfl rfl hj (by decide) hlen
    have KS := Lib.hid ks
    clear hx hi h hlen hv hb1 hn1 h1 ks hj hs1
    go_enter Tryz.func44, Tryz.ntmps44
    go_wp2_with fail
    (with_reducible refine KS.out.mono ?_)
    rintro e w3 ⟨rfl, h3, h4, h5⟩
    have H3 := Lib.hid h3
    have H4 := Lib.hid ((HB1.out.mono hsz).trans h4)
    have H5 := Lib.hid ((Wrote.below HB1.out).trans h5)
    clear h3 h4 h5
    go_wp2_with fail
    go_end0
    exact ⟨rfl, H3.out, H4.out, H5.out⟩
  · rw [if_neg hv] at hlen ⊢
    have kx := hx hv _ h1 hb1
    have c0 := cell_of_row _ w.heap.size 0 _ _ _ hn1
    have hne2 : (o.toList == [118, 97, 114]) = false := by
      rw [Lib.toList_data]; simpa using hv
    clear hx hi h hlen hv hb1 hn1 h1
    go_enter Tryz.func44, Tryz.ntmps44
    go_wp2_with (refine wpList_load_row rfl 54 (.tmp 3) rfl w.heap.size rfl 54 #[.string o, .string m, .int .i64 n, .int .i64 a, .slice x lk c] (0, 0) _ HN1.out Tryz.underlying54 rfl HSE.out ?_)
    (with_reducible refine kx.mono ?_)
    rintro e w3 ⟨rfl, h3, h4, h5⟩
    have H3 := Lib.hid h3
    have H4 := Lib.hid ((HB1.out.mono hsz).trans h4)
    have H5 := Lib.hid ((Wrote.below HB1.out).trans h5)
    clear h3 h4 h5 kx
    go_wp2_with fail
    go_end0
    exact ⟨rfl, H3.out, H4.out, H5.out⟩
theorem writes_prim (w : World) (B b : Nat) (t : Ex) (h : Writes w B b t) : ∀ (W : World) (l : List UInt8) (o m : ByteArray) (n a : Int) (x : Option Addr) (lk c : Nat), Below B w W → Bld B b l W → IsP (fun k => k < B) W o m n a x lk c t → l.length + (primE t).length ≤ 140737488355328 →
    Calls Tryz.prog 44 #[.pointer (some ⟨b, 0, none⟩), exV o m n a x lk c] W (GivesW B b l (primE t) W) := by
  intro W l o m n a x lk c hB hb hi hl
  cases t with
  | mk op nm n0 a0 kids =>
    refine writePrimP_any B b l W hb op nm n0 a0 kids o m n a x lk c hi hl ?_
    intro hne W2 hb2 hbel
    have hl2 : l.length + (textE (.mk op nm n0 a0 kids)).length ≤ 140737488355328 := by
      rw [primE_mk, if_neg hne] at hl; exact hl
    exact h W2 l o m n a x lk c (hB.trans (hbel.mono hb.2)) hb2 (hi.low (hbel.mono hb.2)) hl2
end Go.Proofs.YtjlnihennlkmpaaGreatDoor

namespace Go.Proofs.YtjlnihennlkmpaaGreatDoor
open Go Go.RowKit
/-- A row of texts, the whole of a block. -/
def wRow (ts : List ByteArray) (v : Value) (W : World) : Prop := ∃ g, v = .slice (some ⟨g, 0, none⟩) ts.length ts.length ∧ W.heap[g]? = some (.cells (ts.map Value.string).toArray 9 (0, 0))
theorem stable_row (ts : List ByteArray) : Stable (wRow ts) := fun _ _ _ ⟨g, h1, h2⟩ hb => ⟨g, h1, (hb.block g (Array.getElem?_eq_some_iff.1 h2).1).trans h2⟩
theorem bsl2 (a b : ByteArray) (W : World) : (Instr.buildSlice 104 2 #[(0, .string a), (1, .string b)]).run Tryz.prog W = .ok (.slice (some ⟨W.heap.size, 0, none⟩) 2 2) (W.alloc (.cells #[.string a, .string b] 9)) := by kernel_rfl
theorem bsl3 (a b c : ByteArray) (W : World) : (Instr.buildSlice 104 3 #[(0, .string a), (1, .string b), (2, .string c)]).run Tryz.prog W = .ok (.slice (some ⟨W.heap.size, 0, none⟩) 3 3) (W.alloc (.cells #[.string a, .string b, .string c] 9)) := by kernel_rfl
theorem run_bsl2 {P : Program} {o : Oper} {ρ : Operand → Value} {t : TypeId} {i j : Nat} {x y : Operand} {v : Value} {W W' : World} (ho : o.op = .buildSlice t 2 #[(i, x), (j, y)]) (h : (Instr.buildSlice t 2 #[(i, ρ x), (j, ρ y)]).run P W = .ok v W') : (execOp ρ o).run P W = .ok (.value v) W' := run_bsl ho (by simpa using h)
theorem run_bsl3 {P : Program} {o : Oper} {ρ : Operand → Value} {t : TypeId} {i j k : Nat} {x y z : Operand} {v : Value} {W W' : World} (ho : o.op = .buildSlice t 3 #[(i, x), (j, y), (k, z)]) (h : (Instr.buildSlice t 3 #[(i, ρ x), (j, ρ y), (k, ρ z)]).run P W = .ok v W') : (execOp ρ o).run P W = .ok (.value v) W' := run_bsl ho (by simpa using h)
theorem wRow_new2 (a b : ByteArray) (W : World) : wRow [a, b] (.slice (some ⟨W.heap.size, 0, none⟩) 2 2) (W.alloc (.cells #[.string a, .string b] 9)) := ⟨_, rfl, heap_alloc_new W _⟩
theorem wRow_new3 (a b c : ByteArray) (W : World) : wRow [a, b, c] (.slice (some ⟨W.heap.size, 0, none⟩) 3 3) (W.alloc (.cells #[.string a, .string b, .string c] 9)) := ⟨_, rfl, heap_alloc_new W _⟩
theorem bld_typ {B b : Nat} {l : List UInt8} {w : World} (h : Bld B b l w) : ∃ cs, w.heap[b]? = some (.cells cs 66 (0, 0)) := by
  rcases h.1 with h | h <;> exact ⟨_, h.2.choose_spec.1⟩
/-- say of such a row. -/
theorem say_row (B b : Nat) (l : List UInt8) (w : World) (h : Bld B b l w) (ts : List ByteArray) (v : Value) (hv : wRow ts v w) (m : List UInt8) (hm : joined ts = m) (hn : ts.length < 1000) (hl : l.length + m.length ≤ 140737488355328) :
    Calls Tryz.prog 32 #[.pointer (some ⟨b, 0, none⟩), v] w (GivesW B b l m w) := by
  subst hm
  obtain ⟨g, rfl, hg⟩ := hv
  obtain ⟨cs, hc⟩ := bld_typ h
  refine say_any B b l w h g 0 ts.length ts (Array.getElem?_eq_some_iff.1 hg).1 (fun e => ?_) (fun cs fr e => ?_) (fun j hj => ?_) hn hl
  · rw [e, hc] at hg
    injection hg with hg
    injection hg with _ hg _
    exact absurd hg (by decide)
  · rw [hg] at e
    injection e with e
    injection e with _ e _
    exact absurd e (by decide)
  · rw [cell_of_row _ g (0 + j) _ _ _ hg, Nat.zero_add, List.getD_eq_getElem?_getD, List.getElem?_eq_getElem hj]
    simp [List.getElem?_eq_getElem hj]
theorem size_i64 : (Tryz.prog.info? 2).map (·.size) = some 1 := by kernel_rfl
theorem run_ldi64 {o : Oper} {ρ : Operand → Value} {x : Operand} {a : Addr} {s : Int} {W : World} (ho : o.op = .load 2 x) (hx : ρ x = .pointer (some a)) (hc : W.cell? a = some (.int .i64 s)) : (execOp ρ o).run Tryz.prog W = .ok (.value (.int .i64 s)) W := by
  cases hi : Tryz.prog.info? 2 with
  | none => have h := size_i64; simp [hi] at h
  | some i =>
    have hs := size_i64
    simp [hi] at hs
    simp [execOp, ho, hx, Instr.loadAt, hc, sizeOf, typeInfo, hi, hs, Result.andThen, go_sem, isAgg, run_underlying Tryz.underlying2]
theorem size_kind : (Tryz.prog.info? 86).map (·.size) = some 1 := by kernel_rfl
theorem run_ldkind {o : Oper} {ρ : Operand → Value} {x : Operand} {a : Addr} {s : Int} {W : World} (ho : o.op = .load 86 x) (hx : ρ x = .pointer (some a)) (hc : W.cell? a = some (.int .i64 s)) : (execOp ρ o).run Tryz.prog W = .ok (.value (.int .i64 s)) W := by
  cases hi : Tryz.prog.info? 86 with
  | none => have h := size_kind; simp [hi] at h
  | some i =>
    have hs := size_kind
    simp [hi] at hs
    simp [execOp, ho, hx, Instr.loadAt, hc, sizeOf, typeInfo, hi, hs, Result.andThen, go_sem, isAgg, run_underlying Tryz.underlying86]
theorem size_bool : (Tryz.prog.info? 4).map (·.size) = some 1 := by kernel_rfl
theorem run_ldbool {o : Oper} {ρ : Operand → Value} {x : Operand} {a : Addr} {s : Bool} {W : World} (ho : o.op = .load 4 x) (hx : ρ x = .pointer (some a)) (hc : W.cell? a = some (.bool s)) : (execOp ρ o).run Tryz.prog W = .ok (.value (.bool s)) W := by
  cases hi : Tryz.prog.info? 4 with
  | none => have h := size_bool; simp [hi] at h
  | some i =>
    have hs := size_bool
    simp [hi] at hs
    simp [execOp, ho, hx, Instr.loadAt, hc, sizeOf, typeInfo, hi, hs, Result.andThen, go_sem, isAgg, run_underlying Tryz.underlying4]
theorem fa_expr1 (g : Nat) (W : World) : (Instr.fieldAt 54 (.pointer (some ⟨g, 0, none⟩)) 1).run Tryz.prog W = .ok (.pointer (some ⟨g, 1, none⟩)) W := by kernel_rfl
theorem fa_expr2 (g : Nat) (W : World) : (Instr.fieldAt 54 (.pointer (some ⟨g, 0, none⟩)) 2).run Tryz.prog W = .ok (.pointer (some ⟨g, 2, none⟩)) W := by kernel_rfl
theorem fa_var0 (g : Nat) (W : World) : (Instr.fieldAt 88 (.pointer (some ⟨g, 0, none⟩)) 0).run Tryz.prog W = .ok (.pointer (some ⟨g, 0, none⟩)) W := by kernel_rfl
theorem fa_var1 (g : Nat) (W : World) : (Instr.fieldAt 88 (.pointer (some ⟨g, 0, none⟩)) 1).run Tryz.prog W = .ok (.pointer (some ⟨g, 1, none⟩)) W := by kernel_rfl
theorem fa_var2 (g : Nat) (W : World) : (Instr.fieldAt 88 (.pointer (some ⟨g, 0, none⟩)) 2).run Tryz.prog W = .ok (.pointer (some ⟨g, 2, none⟩)) W := by kernel_rfl
theorem fa_var3 (g : Nat) (W : World) : (Instr.fieldAt 88 (.pointer (some ⟨g, 0, none⟩)) 3).run Tryz.prog W = .ok (.pointer (some ⟨g, 3, none⟩)) W := by kernel_rfl
end Go.Proofs.YtjlnihennlkmpaaGreatDoor

namespace Go.Proofs.YtjlnihennlkmpaaGreatDoor
open Go Go.RowKit
theorem commas_snoc : ∀ (l : List (List UInt8)) (t : List UInt8), commas (l ++ [t]) = commas l ++ (if l.length = 0 then [] else [44, 32]) ++ t
  | [], t => by simp [commas]
  | [a], t => by simp [commas]
  | a :: b :: r, t => by
    have ih := commas_snoc (b :: r) t
    have e1 : commas ((a :: b :: r) ++ [t]) = a ++ [44, 32] ++ commas ((b :: r) ++ [t]) := rfl
    have e2 : commas (a :: b :: r) = a ++ [44, 32] ++ commas (b :: r) := rfl
    rw [e1, e2, ih]
    simp [List.append_assoc]
theorem commas_le (l : List (List UInt8)) : ∀ (r : List (List UInt8)), (commas l).length ≤ (commas (l ++ r)).length := by
  intro r
  induction r generalizing l with
  | nil => simp
  | cons t r ih =>
    have h := ih (l ++ [t])
    rw [List.append_assoc] at h
    refine Nat.le_trans ?_ h
    rw [commas_snoc]
    simp only [List.length_append]
    omega
theorem textL_map (kids : List Ex) : (textL kids).map (·.1) = kids.map textE := by
  induction kids with
  | nil => simp [textL]
  | cons e r ih =>
    cases e with
    | mk op nm n a ks =>
      unfold textL
      simp only [List.map_cons, ih]
/-- The block of an expression's kids. -/
theorem IsP.blk {ok : Nat → Prop} {w : World} {o m : ByteArray} {n a : Int} {x : Option Addr} {lk c : Nat} {op nm : ByteArray} {n0 : Int} {a0 : Nat} {kids : List Ex} (h : IsP ok w o m n a x lk c (.mk op nm n0 a0 kids)) : lk = kids.length ∧ ∃ g, 0 < lk → x = some ⟨g, 0, none⟩ ∧ ok g ∧ g < w.heap.size := by
  unfold IsP at h
  obtain ⟨_, _, _, _, h5, h6⟩ := h
  refine ⟨h5, ?_⟩
  by_cases hl : 0 < lk
  · obtain ⟨g, e1, e2, e3, _⟩ := h6 hl
    exact ⟨g, fun _ => ⟨e1, e2, e3⟩⟩
  · exact ⟨0, fun h => absurd h hl⟩
/-- A kid's cells. -/
theorem IsP.kid {ok : Nat → Prop} {w : World} {o m : ByteArray} {n a : Int} {lk c g : Nat} {op nm : ByteArray} {n0 : Int} {a0 : Nat} {kids : List Ex} (h : IsP ok w o m n a (some ⟨g, 0, none⟩) lk c (.mk op nm n0 a0 kids)) (i : Nat) (hi : i < kids.length) : ∃ o m n a x l' c', w.cell? ⟨g, i * 5, none⟩ = some (.string o) ∧ w.cell? ⟨g, i * 5 + 1, none⟩ = some (.string m) ∧ w.cell? ⟨g, i * 5 + 2, none⟩ = some (.int .i64 n) ∧ w.cell? ⟨g, i * 5 + 3, none⟩ = some (.int .i64 a) ∧ w.cell? ⟨g, i * 5 + 4, none⟩ = some (.slice x l' c') ∧ IsP ok w o m n a x l' c' (kids.getD i ex0) := by
  unfold IsP at h
  obtain ⟨_, _, _, _, h5, h6⟩ := h
  obtain ⟨g', e1, e2, e3, e4⟩ := h6 (by omega)
  injection e1 with e1
  injection e1 with e1
  subst e1
  have := IsQ.nth kids 0 i e4 hi
  rw [Nat.zero_add] at this
  rw [List.getD_eq_getElem?_getD, List.getElem?_eq_getElem hi]
  exact this
set_option maxHeartbeats 2000000 in
set_option maxRecDepth 100000 in
theorem writeCall_any (B b : Nat) (l : List UInt8) (w : World) (h : Bld B b l w) (op nm : ByteArray) (n0 : Int) (a0 : Nat) (kids : List Ex) (o m : ByteArray) (n a : Int) (x : Option Addr) (lk c : Nat) (hi : IsP (fun k => k < B) w o m n a x lk c (.mk op nm n0 a0 kids)) (hw : ∀ i, i < kids.length → Writes w B b (kids.getD i ex0)) (hkn : kids.length < 1000000)
    (hlen : l.length + (m.data.toList ++ lp ++ commas ((textL kids).map (·.1)) ++ rp).length ≤ 140737488355328) :
    Calls Tryz.prog 40 #[.pointer (some ⟨b, 0, none⟩), exV o m n a x lk c] w (GivesW B b l (m.data.toList ++ lp ++ commas ((textL kids).map (·.1)) ++ rp) w) := by
  obtain ⟨hlk, g, hg⟩ := hi.blk
  rw [← hlk] at hkn
  have hb1 : Below w.heap.size w (w.alloc (.cells #[.string o, .string m, .int .i64 n, .int .i64 a, .slice x lk c] 54)) := (Below.refl _ _).alloc (Nat.le_refl _) _
  have hn1 := heap_alloc_new w (.cells #[.string o, .string m, .int .i64 n, .int .i64 a, .slice x lk c] 54)
  have hs1 : (w.alloc (.cells #[.string o, .string m, .int .i64 n, .int .i64 a, .slice x lk c] 54)).heap.size = w.heap.size + 1 := by simp
  have h1 := h.below hb1
  have hsz := h.2
  have hlt := h.lt
  have hi1 := hi.low (hb1.mono hsz)
  obtain ⟨w1, hww⟩ : ∃ w1, w1 = w.alloc (.cells #[.string o, .string m, .int .i64 n, .int .i64 a, .slice x lk c] 54) := ⟨_, rfl⟩
  rw [← hww] at hb1 hn1 hs1 h1 hi1
  have hc1 := cell_of_row w1 w.heap.size 1 _ _ _ hn1
  have hj0 : joined [m, ⟨#[40]⟩] = m.data.toList ++ lp := by simp [joined, lp]
  have hj9 : joined [⟨#[41]⟩] = rp := by simp [joined, rp]
  have hjc : joined [⟨#[44, 32]⟩] = [44, 32] := by simp [joined]
  obtain ⟨X0, hX0⟩ : ∃ X, X = m.data.toList ++ lp := ⟨_, rfl⟩
  rw [← hX0] at hj0 hlen ⊢
  rw [textL_map] at hlen ⊢
  have hlen0 : l.length + (X0 ++ commas (kids.map textE)).length ≤ 140737488355328 := by
    simp only [List.length_append] at hlen ⊢
    omega
  have s0 := say_at B b l w1 h1 [m, ⟨#[40]⟩] 2 (w.heap.size + 1) #[.string m, .string ⟨#[40]⟩] X0 hs1 rfl rfl hj0 (by decide) (by simp only [List.length_append] at hlen; omega)
  have S0 := Lib.hid s0
  have S9 := Lib.hid (fun (W : World) (hb : Bld B b (l ++ X0 ++ commas (kids.map textE)) W) => say_at B b (l ++ X0 ++ commas (kids.map textE)) W hb [⟨#[41]⟩] 1 W.heap.size #[.string ⟨#[41]⟩] rp rfl rfl rfl hj9 (by decide) (by simp only [List.length_append] at hlen ⊢; omega))
  have HSE := Lib.hid size_expr
  have HL := Lib.hid hn1
  have HB := Lib.hid (hb1.mono hsz)
  have HW := Lib.hid (Wrote.below (b := b) hb1)
  have HI := Lib.hid hi1
  have HW1 := Lib.hid hww
  have HLN0 := Lib.hid hlen0
  have HK := Lib.hid hw
  have HLK := Lib.hid hlk
  have HG := Lib.hid hg
  have HJC := Lib.hid hjc
  have HIW := Lib.hid hi
  rw [hww] at hc1
  unfold exV
  clear hi h hb1 hn1 h1 hi1 hww hlen s0 hw hj0 hX0 hj9 hjc hlen0 hlk hg
  go_enter Tryz.func40, Tryz.ntmps40
  go_wp2_with fail
  rw [← HW1.out]
  (with_reducible refine S0.out.mono ?_)
  rintro e u2 ⟨rfl, hh, hb, hw⟩
  have hz2 := hw.size
  have HL' := Lib.hid ((hw.block w.heap.size (Array.getElem?_eq_some_iff.1 HL.out).1 (by omega) (fun cs fr e => by rw [HL.out] at e; injection e with e; injection e with _ e _; exact absurd e (by decide))).trans HL.out)
  have HB2 := Lib.hid (HB.out.trans hb)
  have HW2 := Lib.hid (HW.out.trans hw)
  have HI2 := Lib.hid (HI.out.low hb)
  have HH2 := Lib.hid hh
  clear hh hb hw S0 HL HB HW HI HW1
  have c4 := cell_of_row u2 w.heap.size 4 _ _ _ HL'.out
  clear HL'
  go_wp2_with fail
  go_loopw [14] (fun iv wr => ∃ i : Nat, iv = .int .i64 (i : Int) ∧ i ≤ lk ∧ Bld B b (l ++ X0 ++ commas ((kids.map textE).take i)) wr ∧ Below B w wr ∧ Wrote b w wr)
    (fun iv _ => lk - (intOf iv).toNat)
  case atStart => exact ⟨0, rfl, Nat.zero_le _, by simpa [commas] using HH2.out, HB2.out, HW2.out⟩
  case round =>
    obtain ⟨i, rfl, hil, hbl, hbw, hwr⟩ := hrel
    by_cases hin : i < lk
    · have d2 : decide ((i : Int) < (lk : Int)) = true := by simp; omega
      have hgg := HG.out (by omega)
      have hix : ∀ W, (Instr.indexAt 52 (.slice x lk c) (.int .i64 (i : Int))).run Tryz.prog W = .ok (.pointer (some ⟨g, i * 5, none⟩)) W := fun W => by rw [hgg.1]; exact idx_expr g lk c i hin W
      have hik : i < kids.length := by rw [← HLK.out]; exact hin
      have hkid : IsP (fun k => k < B) wr o m n a (some ⟨g, 0, none⟩) lk c (.mk op nm n0 a0 kids) := by
        have := (HIW.out.low hbw)
        rw [hgg.1] at this
        exact this
      obtain ⟨o3, m3, n3, a3, x3, l3, c3, q0, q1, q2, q3, q4, he⟩ := hkid.kid i hik
      have hwk := HK.out i hik
      have hsn : commas ((kids.map textE).take (i + 1)) = commas ((kids.map textE).take i) ++ (if i = 0 then [] else [44, 32]) ++ textE (kids.getD i ex0) := by
        have hil2 : i < (kids.map textE).length := by simpa using hik
        rw [List.take_succ_eq_append_getElem hil2, commas_snoc]
        have e1 : ((kids.map textE).take i).length = i := by rw [List.length_take]; omega
        rw [e1]
        congr 1
        rw [List.getElem_map, List.getD_eq_getElem?_getD, List.getElem?_eq_getElem hik]
        rfl
      have hln : l.length + (X0 ++ (commas ((kids.map textE).take i) ++ (if i = 0 then [] else [44, 32]) ++ textE (kids.getD i ex0))).length ≤ 140737488355328 := by
        rw [← hsn]
        have h1 := commas_le ((kids.map textE).take (i + 1)) ((kids.map textE).drop (i + 1))
        rw [List.take_append_drop] at h1
        have h2 := HLN0.out
        simp only [List.length_append] at h2 ⊢
        omega
      obtain ⟨t, ht⟩ : ∃ t, t = kids.getD i ex0 := ⟨_, rfl⟩
      rw [← ht] at hwk hsn hln he
      obtain ⟨P, hP⟩ : ∃ P, P = commas ((kids.map textE).take i) := ⟨_, rfl⟩
      rw [← hP] at hsn hln hbl
      have hb3 : Below wr.heap.size wr (wr.alloc (.cells #[.string ⟨#[]⟩, .string ⟨#[]⟩, .int .i64 0, .int .i64 0, .slice none 0 0] 54)) := (Below.refl _ _).alloc (Nat.le_refl _) _
      have hn3 := heap_alloc_new wr (.cells #[.string ⟨#[]⟩, .string ⟨#[]⟩, .int .i64 0, .int .i64 0, .slice none 0 0] 54)
      have HN3 := Lib.hid hn3
      have HB3 := Lib.hid hb3
      have HSN := Lib.hid hsn
      have HLN := Lib.hid hln
      have HBL := Lib.hid hbl
      have HBW := Lib.hid hbw
      have HWR := Lib.hid hwr
      have HIE := Lib.hid he
      have HWT := Lib.hid hwk
      have HSZ : Hid (B ≤ wr.heap.size) := Lib.hid hbl.2
      have hbz := hbl.lt
      clear hb3 hn3 hsn hln hbl hbw hwr he hwk hP ht hkid hgg HG HLK HK HI2 HB2 HW2 HH2 HLN0 S9 c4 hc1
      have hjc := HJC.out
      have HJ := Lib.hid hjc
      clear hjc
      by_cases hi0 : i = 0
      · have d3 : decide (0 < i) = false := by simp; omega
        have HI0 := Lib.hid hi0
        clear hi0
        go_wp2_with (first
               | (
                 refine wpList_store_row rfl 54 (.tmp 5) (.tmp 18) rfl wr.heap.size #[.string o3, .string m3, .int .i64 n3, .int .i64 a3, .slice x3 l3 c3] rfl rfl 54 _ HN3.out HSE.out rfl (expr_one _ _ _ _ _ _ _) ?_
                 have hset := setRow_heap _ wr.heap.size _ #[.string o3, .string m3, .int .i64 n3, .int .i64 a3, .slice x3 l3 c3] _ _ HN3.out
                 have hbs := below_setRow HB3.out (Nat.le_refl _) #[.string o3, .string m3, .int .i64 n3, .int .i64 a3, .slice x3 l3 c3]
                 generalize (wr.alloc (.cells #[.string ⟨#[]⟩, .string ⟨#[]⟩, .int .i64 0, .int .i64 0, .slice none 0 0] 54)).setRow wr.heap.size #[.string o3, .string m3, .int .i64 n3, .int .i64 a3, .slice x3 l3 c3] = w3 at hset hbs ⊢
                 have HL := Lib.hid hset
                 have HB := Lib.hid (HBW.out.trans (hbs.mono HSZ.out))
                 have HW := Lib.hid (HWR.out.trans (Wrote.below hbs))
                 have HI3 := Lib.hid (HIE.out.low (hbs.mono HSZ.out))
                 have HH3 := Lib.hid (HBL.out.below hbs)
                 have hz_3 : wr.heap.size + 1 ≤ w3.heap.size := (Array.getElem?_eq_some_iff.1 hset).1
                 clear hset hbs HN3 HB3 HBW HWR HIE HBL)
               | (refine wpList_load_row rfl 54 (.tmp 5) rfl wr.heap.size rfl 54 #[.string o3, .string m3, .int .i64 n3, .int .i64 a3, .slice x3 l3 c3] (0, 0) _ HL.out Tryz.underlying54 rfl HSE.out ?_))
        have kx := HWT.out w3 (l ++ X0 ++ P) o3 m3 n3 a3 x3 l3 c3 HB.out (by rw [List.append_assoc]; have := HH3.out; rwa [List.append_assoc] at this) HI3.out (by have := HLN.out; rw [if_pos HI0.out] at this; simp only [List.length_append, List.length_cons, List.length_nil] at this ⊢; omega)
        unfold exV at kx
        (with_reducible refine kx.mono ?_)
        rintro e u5 ⟨rfl, hh, hb, hw⟩
        have hz_u5 := hw.size
        have HL' := Lib.hid ((hw.block wr.heap.size (Array.getElem?_eq_some_iff.1 HL.out).1 (by omega) (fun cs fr e => by rw [HL.out] at e; injection e with e; injection e with _ e _; exact absurd e (by decide))).trans HL.out)
        have HB' := Lib.hid (HB.out.trans hb)
        have HW' := Lib.hid (HW.out.trans hw)
        have HI' := Lib.hid (HI3.out.low hb)
        have HH := Lib.hid hh
        clear hh hb hw kx HL HB HW HI3
        have HL := HL'
        have HB := HB'
        have HW := HW'
        have HI3 := HI'
        clear HL' HB' HW' HI'
        go_wp2_with fail
        refine ⟨⟨i + 1, by go_num, by omega, ?_, HB.out, HW.out⟩, ?_⟩
        · have e := HH.out
          have e2 := HSN.out
          rw [if_pos HI0.out] at e2
          rw [e2]
          simpa [List.append_assoc] using e
        · simp [intOf]; omega
      · have d3 : decide (0 < i) = true := by simp; omega
        have HI0 := Lib.hid hi0
        clear hi0
        go_wp2_with (
                 refine wpList_store_row rfl 54 (.tmp 5) (.tmp 18) rfl wr.heap.size #[.string o3, .string m3, .int .i64 n3, .int .i64 a3, .slice x3 l3 c3] rfl rfl 54 _ HN3.out HSE.out rfl (expr_one _ _ _ _ _ _ _) ?_
                 have hset := setRow_heap _ wr.heap.size _ #[.string o3, .string m3, .int .i64 n3, .int .i64 a3, .slice x3 l3 c3] _ _ HN3.out
                 have hbs := below_setRow HB3.out (Nat.le_refl _) #[.string o3, .string m3, .int .i64 n3, .int .i64 a3, .slice x3 l3 c3]
                 generalize (wr.alloc (.cells #[.string ⟨#[]⟩, .string ⟨#[]⟩, .int .i64 0, .int .i64 0, .slice none 0 0] 54)).setRow wr.heap.size #[.string o3, .string m3, .int .i64 n3, .int .i64 a3, .slice x3 l3 c3] = w3 at hset hbs ⊢
                 have HL := Lib.hid hset
                 have HB := Lib.hid (HBW.out.trans (hbs.mono HSZ.out))
                 have HW := Lib.hid (HWR.out.trans (Wrote.below hbs))
                 have HI3 := Lib.hid (HIE.out.low (hbs.mono HSZ.out))
                 have HH3 := Lib.hid (HBL.out.below hbs)
                 have hz_3 : wr.heap.size + 1 ≤ w3.heap.size := (Array.getElem?_eq_some_iff.1 hset).1
                 clear hset hbs HN3 HB3 HBW HWR HIE HBL)
        have k1 := say_at B b (l ++ X0 ++ P) w3 (by have := HH3.out; exact this) [⟨#[44, 32]⟩] 1 w3.heap.size #[.string ⟨#[44, 32]⟩] [44, 32] rfl rfl rfl HJ.out (by decide) (by have := HLN.out; rw [if_neg HI0.out] at this; simp only [List.length_append, List.length_cons, List.length_nil] at this ⊢; omega)
        (with_reducible refine k1.mono ?_)
        rintro e u4 ⟨rfl, hh, hb, hw⟩
        have hz_u4 := hw.size
        have HL' := Lib.hid ((hw.block wr.heap.size (Array.getElem?_eq_some_iff.1 HL.out).1 (by omega) (fun cs fr e => by rw [HL.out] at e; injection e with e; injection e with _ e _; exact absurd e (by decide))).trans HL.out)
        have HB' := Lib.hid (HB.out.trans hb)
        have HW' := Lib.hid (HW.out.trans hw)
        have HI' := Lib.hid (HI3.out.low hb)
        have HH := Lib.hid hh
        clear hh hb hw k1 HL HB HW HI3
        have HL := HL'
        have HB := HB'
        have HW := HW'
        have HI3 := HI'
        clear HL' HB' HW' HI'
        have kx := HWT.out u4 (l ++ X0 ++ P ++ [44, 32]) o3 m3 n3 a3 x3 l3 c3 HB.out HH.out HI3.out (by have := HLN.out; rw [if_neg HI0.out] at this; simp only [List.length_append, List.length_cons, List.length_nil] at this ⊢; omega)
        unfold exV at kx
        clear HH
        go_wp2_with (refine wpList_load_row rfl 54 (.tmp 5) rfl wr.heap.size rfl 54 #[.string o3, .string m3, .int .i64 n3, .int .i64 a3, .slice x3 l3 c3] (0, 0) _ HL.out Tryz.underlying54 rfl HSE.out ?_)
        (with_reducible refine kx.mono ?_)
        rintro e u5 ⟨rfl, hh, hb, hw⟩
        have hz_u5 := hw.size
        have HL' := Lib.hid ((hw.block wr.heap.size (Array.getElem?_eq_some_iff.1 HL.out).1 (by omega) (fun cs fr e => by rw [HL.out] at e; injection e with e; injection e with _ e _; exact absurd e (by decide))).trans HL.out)
        have HB' := Lib.hid (HB.out.trans hb)
        have HW' := Lib.hid (HW.out.trans hw)
        have HI' := Lib.hid (HI3.out.low hb)
        have HH := Lib.hid hh
        clear hh hb hw kx HL HB HW HI3
        have HL := HL'
        have HB := HB'
        have HW := HW'
        have HI3 := HI'
        clear HL' HB' HW' HI'
        go_wp2_with fail
        refine ⟨⟨i + 1, by go_num, by omega, ?_, HB.out, HW.out⟩, ?_⟩
        · have e := HH.out
          have e2 := HSN.out
          rw [if_neg HI0.out] at e2
          rw [e2]
          simpa [List.append_assoc] using e
        · simp [intOf]; omega
    · obtain rfl : i = lk := by omega
      have d2 : decide ((i : Int) < (i : Int)) = false := by simp
      have ht : (kids.map textE).take i = kids.map textE := List.take_of_length_le (by rw [List.length_map]; have := HLK.out; omega)
      rw [ht] at hbl
      have k9 := S9.out wr hbl
      have HBW := Lib.hid hbw
      have HWR := Lib.hid hwr
      clear ht hbl hbw hwr HG HLK HK HI2 HB2 HW2 HH2 HLN0 S9 c4 hc1 HJC HIW
      go_wp2_with fail
      (with_reducible refine k9.mono ?_)
      rintro e w9 ⟨rfl, h3, h4, h5⟩
      have H3 := Lib.hid h3
      have H4 := Lib.hid (HBW.out.trans h4)
      have H5 := Lib.hid (HWR.out.trans h5)
      clear h3 h4 h5 k9
      go_wp2_with fail
      go_end0
      refine ⟨rfl, ?_, H4.out, H5.out⟩
      have := H3.out
      simpa [List.append_assoc] using this
end Go.Proofs.YtjlnihennlkmpaaGreatDoor

namespace Go.Proofs.YtjlnihennlkmpaaGreatDoor
open Go Go.RowKit
def INFB : List ByteArray := [⟨#[43]⟩, ⟨#[45]⟩, ⟨#[42]⟩, ⟨#[47]⟩, ⟨#[109, 111, 100]⟩, ⟨#[61]⟩, ⟨#[60, 62]⟩, ⟨#[60]⟩, ⟨#[60, 61]⟩, ⟨#[62]⟩, ⟨#[62, 61]⟩, ⟨#[97, 110, 100]⟩, ⟨#[111, 114]⟩, ⟨#[120, 111, 114]⟩, ⟨#[45, 62]⟩, ⟨#[102, 98, 121]⟩]
set_option maxHeartbeats 20000000 in
set_option maxRecDepth 100000 in
/-- What writeExpr does with a sign between two. -/
theorem writeInfix_all (o : ByteArray) (ho : o ∈ INFB) (B b : Nat) (l : List UInt8) (w : World) (h : Bld B b l w) (nm : ByteArray) (n0 : Int) (a0 : Nat) (kids : List Ex) (m : ByteArray) (n a : Int) (x : Option Addr) (lk c : Nat) (hi : IsP (fun k => k < B) w o m n a x lk c (.mk o nm n0 a0 kids)) (hw0 : Writes w B b (kids.getD 0 ex0)) (hw1 : Writes w B b (kids.getD 1 ex0))
    (hlen : l.length + (lp ++ textE (kids.getD 0 ex0) ++ (sp ++ o.data.toList ++ sp) ++ textE (kids.getD 1 ex0) ++ rp).length ≤ 140737488355328) :
    Calls Tryz.prog 26 #[.pointer (some ⟨b, 0, none⟩), exV o m n a x lk c] w (GivesW B b l (lp ++ textE (kids.getD 0 ex0) ++ (sp ++ o.data.toList ++ sp) ++ textE (kids.getD 1 ex0) ++ rp) w) := by
  have hb1 : Below w.heap.size w (w.alloc (.cells #[.string o, .string m, .int .i64 n, .int .i64 a, .slice x lk c] 54)) := (Below.refl _ _).alloc (Nat.le_refl _) _
  have hn1 := heap_alloc_new w (.cells #[.string o, .string m, .int .i64 n, .int .i64 a, .slice x lk c] 54)
  have hs1 : (w.alloc (.cells #[.string o, .string m, .int .i64 n, .int .i64 a, .slice x lk c] 54)).heap.size = w.heap.size + 1 := by simp
  have h1 := h.below hb1
  have hsz := h.2
  have hlt := h.lt
  have hi1 := hi.low (hb1.mono hsz)
  obtain ⟨w1, hww⟩ : ∃ w1, w1 = (w.alloc (.cells #[.string o, .string m, .int .i64 n, .int .i64 a, .slice x lk c] 54)) := ⟨_, rfl⟩
  rw [← hww] at hb1 hn1 hs1 h1 hi1
  have hc0 := cell_of_row w1 w.heap.size 0 _ _ _ hn1
  have hc1 := cell_of_row w1 w.heap.size 1 _ _ _ hn1
  obtain ⟨K0, hK0⟩ : ∃ K, K = kids.getD 0 ex0 := ⟨_, rfl⟩
  have kk0 : ∀ (W : World), IsP (fun k => k < B) W o m n a x lk c (.mk o nm n0 a0 kids) → Calls Tryz.prog 42 #[exV o m n a x lk c, .int .i64 0] W (GivesP (fun k => k < B) K0 W) := fun W hi => by rw [hK0]; exact kidP_any (fun k => k < B) o nm n0 a0 kids 0 W o m n a x lk c hi (by decide)
  rw [← hK0] at hw0 hlen ⊢
  obtain ⟨K1, hK1⟩ : ∃ K, K = kids.getD 1 ex0 := ⟨_, rfl⟩
  have kk1 : ∀ (W : World), IsP (fun k => k < B) W o m n a x lk c (.mk o nm n0 a0 kids) → Calls Tryz.prog 42 #[exV o m n a x lk c, .int .i64 1] W (GivesP (fun k => k < B) K1 W) := fun W hi => by rw [hK1]; exact kidP_any (fun k => k < B) o nm n0 a0 kids 1 W o m n a x lk c hi (by decide)
  rw [← hK1] at hw1 hlen ⊢
  obtain ⟨X0, hX0⟩ : ∃ X : List UInt8, X = lp := ⟨_, rfl⟩
  rw [← hX0] at hlen ⊢
  have hj0 : joined [⟨#[40]⟩] = X0 := by rw [hX0]; simp [joined, lp, rp, sp]
  obtain ⟨X2, hX2⟩ : ∃ X : List UInt8, X = (sp ++ o.data.toList ++ sp) := ⟨_, rfl⟩
  rw [← hX2] at hlen ⊢
  have hj2 : joined [⟨#[32]⟩, o, ⟨#[32]⟩] = X2 := by rw [hX2]; simp [joined, lp, rp, sp]
  obtain ⟨X4, hX4⟩ : ∃ X : List UInt8, X = rp := ⟨_, rfl⟩
  rw [← hX4] at hlen ⊢
  have hj4 : joined [⟨#[41]⟩] = X4 := by rw [hX4]; simp [joined, lp, rp, sp]
  try simp only [List.length_append] at hlen
  have s0 := say_at B b l w1 h1 [⟨#[40]⟩] 1 (w.heap.size + 1) #[.string ⟨#[40]⟩] X0 hs1 rfl rfl hj0 (by decide) (by omega)
  have S0 := Lib.hid s0
  have S1 := Lib.hid (fun (W : World) (o m : ByteArray) (n a : Int) (x : Option Addr) (lk c : Nat) (hB : Below B w W) (hb : Bld B b (l ++ X0) W) (hp : IsP (fun k => k < B) W o m n a x lk c K0) => hw0 W (l ++ X0) o m n a x lk c hB hb hp (by simp only [List.length_append]; omega))
  have S2 := Lib.hid (fun (W : World) (hb : Bld B b (l ++ X0 ++ textE K0) W) => say_at B b (l ++ X0 ++ textE K0) W hb [⟨#[32]⟩, o, ⟨#[32]⟩] 3 W.heap.size #[.string ⟨#[32]⟩, .string o, .string ⟨#[32]⟩] X2 rfl rfl rfl hj2 (by decide) (by simp only [List.length_append]; omega))
  have S3 := Lib.hid (fun (W : World) (o m : ByteArray) (n a : Int) (x : Option Addr) (lk c : Nat) (hB : Below B w W) (hb : Bld B b (l ++ X0 ++ textE K0 ++ X2) W) (hp : IsP (fun k => k < B) W o m n a x lk c K1) => hw1 W (l ++ X0 ++ textE K0 ++ X2) o m n a x lk c hB hb hp (by simp only [List.length_append]; omega))
  have S4 := Lib.hid (fun (W : World) (hb : Bld B b (l ++ X0 ++ textE K0 ++ X2 ++ textE K1) W) => say_at B b (l ++ X0 ++ textE K0 ++ X2 ++ textE K1) W hb [⟨#[41]⟩] 1 W.heap.size #[.string ⟨#[41]⟩] X4 rfl rfl rfl hj4 (by decide) (by simp only [List.length_append]; omega))
  have HSE := Lib.hid size_expr
  have HL := Lib.hid hn1
  have HB := Lib.hid (hb1.mono hsz)
  have HW := Lib.hid (Wrote.below (b := b) hb1)
  have HI := Lib.hid hi1
  have HW1 := Lib.hid hww
  rw [hww] at hc0 hc1
  have KK0 := Lib.hid kk0
  have KK1 := Lib.hid kk1
  unfold exV at KK0 KK1 S1 S3 ⊢
  clear hi h hb1 hn1 h1 hi1 hww hlen s0 hw0 kk0 hK0 hw1 kk1 hK1 hj0 hX0 hj2 hX2 hj4 hX4
  unfold INFB at ho
  simp only [List.mem_cons, List.not_mem_nil, or_false] at ho
  rcases ho with rfl | rfl | rfl | rfl | rfl | rfl | rfl | rfl | rfl | rfl | rfl | rfl | rfl | rfl | rfl | rfl
  all_goals
    as_aux_lemma =>
      go_enter Tryz.func26, Tryz.ntmps26
      go_wp2_with fail
      rw [← HW1.out]
      (with_reducible refine S0.out.mono ?_)
      rintro e u2 ⟨rfl, hh, hb, hw⟩
      have hz2 := hw.size
      have HL' := Lib.hid ((hw.block w.heap.size (Array.getElem?_eq_some_iff.1 HL.out).1 (by omega) (fun cs fr e => by rw [HL.out] at e; injection e with e; injection e with _ e _; exact absurd e (by decide))).trans HL.out)
      have HB' := Lib.hid (HB.out.trans hb)
      have HW' := Lib.hid (HW.out.trans hw)
      have HI' := Lib.hid (HI.out.low hb)
      have HH := Lib.hid hh
      clear hh hb hw S0 HL HB HW HI
      have HL := HL'
      have HB := HB'
      have HW := HW'
      have HI := HI'
      clear HL' HB' HW' HI'
      have c0_2 := cell_of_row u2 w.heap.size 0 _ _ _ HL.out
      have c1_2 := cell_of_row u2 w.heap.size 1 _ _ _ HL.out
      have kk := KK0.out u2 HI.out
      go_wp2_with (refine wpList_load_row rfl 54 (.tmp 3) rfl w.heap.size rfl 54 _ (0, 0) _ HL.out Tryz.underlying54 rfl HSE.out ?_)
      (with_reducible refine kk.mono ?_)
      rintro e v3 ⟨o3, m3, n3, a3, x3, l3, c3, rfl, hi3, hb3⟩
      have kx := S1.out v3 o3 m3 n3 a3 x3 l3 c3 (HB.out.trans (hb3.mono HH.out.2)) (HH.out.below hb3) hi3
      have hz3 := hb3.size
      have HL' := Lib.hid ((hb3.block w.heap.size (Array.getElem?_eq_some_iff.1 HL.out).1).trans HL.out)
      have HB' := Lib.hid (HB.out.trans (hb3.mono HH.out.2))
      have HW' := Lib.hid (HW.out.trans (Wrote.below hb3))
      have HI' := Lib.hid (HI.out.low (hb3.mono HH.out.2))
      clear hi3 hb3 kk HL HB HW HI HH
      have HL := HL'
      have HB := HB'
      have HW := HW'
      have HI := HI'
      clear HL' HB' HW' HI'
      unfold exV
      go_wp2_with fail
      (with_reducible refine kx.mono ?_)
      rintro e u4 ⟨rfl, hh, hb, hw⟩
      have hz4 := hw.size
      have HL' := Lib.hid ((hw.block w.heap.size (Array.getElem?_eq_some_iff.1 HL.out).1 (by omega) (fun cs fr e => by rw [HL.out] at e; injection e with e; injection e with _ e _; exact absurd e (by decide))).trans HL.out)
      have HB' := Lib.hid (HB.out.trans hb)
      have HW' := Lib.hid (HW.out.trans hw)
      have HI' := Lib.hid (HI.out.low hb)
      have HH := Lib.hid hh
      clear hh hb hw kx HL HB HW HI
      have HL := HL'
      have HB := HB'
      have HW := HW'
      have HI := HI'
      clear HL' HB' HW' HI'
      have c0_4 := cell_of_row u4 w.heap.size 0 _ _ _ HL.out
      have c1_4 := cell_of_row u4 w.heap.size 1 _ _ _ HL.out
      have k2 := S2.out u4 HH.out
      go_wp2_with fail
      (with_reducible refine k2.mono ?_)
      rintro e u6 ⟨rfl, hh, hb, hw⟩
      have hz6 := hw.size
      have HL' := Lib.hid ((hw.block w.heap.size (Array.getElem?_eq_some_iff.1 HL.out).1 (by omega) (fun cs fr e => by rw [HL.out] at e; injection e with e; injection e with _ e _; exact absurd e (by decide))).trans HL.out)
      have HB' := Lib.hid (HB.out.trans hb)
      have HW' := Lib.hid (HW.out.trans hw)
      have HI' := Lib.hid (HI.out.low hb)
      have HH := Lib.hid hh
      clear hh hb hw k2 HL HB HW HI
      have HL := HL'
      have HB := HB'
      have HW := HW'
      have HI := HI'
      clear HL' HB' HW' HI'
      have c0_6 := cell_of_row u6 w.heap.size 0 _ _ _ HL.out
      have c1_6 := cell_of_row u6 w.heap.size 1 _ _ _ HL.out
      have kk := KK1.out u6 HI.out
      go_wp2_with (refine wpList_load_row rfl 54 (.tmp 3) rfl w.heap.size rfl 54 _ (0, 0) _ HL.out Tryz.underlying54 rfl HSE.out ?_)
      (with_reducible refine kk.mono ?_)
      rintro e v7 ⟨o3, m3, n3, a3, x3, l3, c3, rfl, hi3, hb3⟩
      have kx := S3.out v7 o3 m3 n3 a3 x3 l3 c3 (HB.out.trans (hb3.mono HH.out.2)) (HH.out.below hb3) hi3
      have hz3 := hb3.size
      have HL' := Lib.hid ((hb3.block w.heap.size (Array.getElem?_eq_some_iff.1 HL.out).1).trans HL.out)
      have HB' := Lib.hid (HB.out.trans (hb3.mono HH.out.2))
      have HW' := Lib.hid (HW.out.trans (Wrote.below hb3))
      have HI' := Lib.hid (HI.out.low (hb3.mono HH.out.2))
      clear hi3 hb3 kk HL HB HW HI HH
      have HL := HL'
      have HB := HB'
      have HW := HW'
      have HI := HI'
      clear HL' HB' HW' HI'
      unfold exV
      go_wp2_with fail
      (with_reducible refine kx.mono ?_)
      rintro e u8 ⟨rfl, hh, hb, hw⟩
      have hz8 := hw.size
      have HL' := Lib.hid ((hw.block w.heap.size (Array.getElem?_eq_some_iff.1 HL.out).1 (by omega) (fun cs fr e => by rw [HL.out] at e; injection e with e; injection e with _ e _; exact absurd e (by decide))).trans HL.out)
      have HB' := Lib.hid (HB.out.trans hb)
      have HW' := Lib.hid (HW.out.trans hw)
      have HI' := Lib.hid (HI.out.low hb)
      have HH := Lib.hid hh
      clear hh hb hw kx HL HB HW HI
      have HL := HL'
      have HB := HB'
      have HW := HW'
      have HI := HI'
      clear HL' HB' HW' HI'
      have c0_8 := cell_of_row u8 w.heap.size 0 _ _ _ HL.out
      have c1_8 := cell_of_row u8 w.heap.size 1 _ _ _ HL.out
      have k4 := S4.out u8 HH.out
      go_wp2_with fail
      (with_reducible refine k4.mono ?_)
      rintro e u10 ⟨rfl, hh, hb, hw⟩
      have hz10 := hw.size
      have HL' := Lib.hid ((hw.block w.heap.size (Array.getElem?_eq_some_iff.1 HL.out).1 (by omega) (fun cs fr e => by rw [HL.out] at e; injection e with e; injection e with _ e _; exact absurd e (by decide))).trans HL.out)
      have HB' := Lib.hid (HB.out.trans hb)
      have HW' := Lib.hid (HW.out.trans hw)
      have HI' := Lib.hid (HI.out.low hb)
      have HH := Lib.hid hh
      clear hh hb hw k4 HL HB HW HI
      have HL := HL'
      have HB := HB'
      have HW := HW'
      have HI := HI'
      clear HL' HB' HW' HI'
      have c0_10 := cell_of_row u10 w.heap.size 0 _ _ _ HL.out
      have c1_10 := cell_of_row u10 w.heap.size 1 _ _ _ HL.out
      go_wp2_with fail
      go_end0
      refine ⟨rfl, ?_, HB.out, HW.out⟩
      have := HH.out
      simpa [List.append_assoc] using this
end Go.Proofs.YtjlnihennlkmpaaGreatDoor

namespace Go.Proofs.YtjlnihennlkmpaaGreatDoor
open Go Go.RowKit
set_option maxHeartbeats 2000000 in
set_option maxRecDepth 100000 in
/-- What writeExpr does with an if. -/
theorem writeIf_w (B b : Nat) (l : List UInt8) (w : World) (h : Bld B b l w) (nm : ByteArray) (n0 : Int) (a0 : Nat) (kids : List Ex) (m : ByteArray) (n a : Int) (x : Option Addr) (lk c : Nat) (hi : IsP (fun k => k < B) w ⟨#[105, 102]⟩ m n a x lk c (.mk ⟨#[105, 102]⟩ nm n0 a0 kids)) (hw0 : Writes w B b (kids.getD 0 ex0)) (hw1 : Writes w B b (kids.getD 1 ex0)) (hw2 : Writes w B b (kids.getD 2 ex0))
    (hlen : l.length + ((lp ++ [105, 102, 32]) ++ textE (kids.getD 0 ex0) ++ [32, 116, 104, 101, 110, 32] ++ textE (kids.getD 1 ex0) ++ [32, 101, 108, 115, 101, 32] ++ textE (kids.getD 2 ex0) ++ rp).length ≤ 140737488355328) :
    Calls Tryz.prog 26 #[.pointer (some ⟨b, 0, none⟩), exV ⟨#[105, 102]⟩ m n a x lk c] w (GivesW B b l ((lp ++ [105, 102, 32]) ++ textE (kids.getD 0 ex0) ++ [32, 116, 104, 101, 110, 32] ++ textE (kids.getD 1 ex0) ++ [32, 101, 108, 115, 101, 32] ++ textE (kids.getD 2 ex0) ++ rp) w) := by
  have hb1 : Below w.heap.size w (w.alloc (.cells #[.string ⟨#[105, 102]⟩, .string m, .int .i64 n, .int .i64 a, .slice x lk c] 54)) := (Below.refl _ _).alloc (Nat.le_refl _) _
  have hn1 := heap_alloc_new w (.cells #[.string ⟨#[105, 102]⟩, .string m, .int .i64 n, .int .i64 a, .slice x lk c] 54)
  have hs1 : (w.alloc (.cells #[.string ⟨#[105, 102]⟩, .string m, .int .i64 n, .int .i64 a, .slice x lk c] 54)).heap.size = w.heap.size + 1 := by simp
  have h1 := h.below hb1
  have hsz := h.2
  have hlt := h.lt
  have hi1 := hi.low (hb1.mono hsz)
  obtain ⟨w1, hww⟩ : ∃ w1, w1 = (w.alloc (.cells #[.string ⟨#[105, 102]⟩, .string m, .int .i64 n, .int .i64 a, .slice x lk c] 54)) := ⟨_, rfl⟩
  rw [← hww] at hb1 hn1 hs1 h1 hi1
  have hc0 := cell_of_row w1 w.heap.size 0 _ _ _ hn1
  have hc1 := cell_of_row w1 w.heap.size 1 _ _ _ hn1
  obtain ⟨K0, hK0⟩ : ∃ K, K = kids.getD 0 ex0 := ⟨_, rfl⟩
  have kk0 : ∀ (W : World), IsP (fun k => k < B) W ⟨#[105, 102]⟩ m n a x lk c (.mk ⟨#[105, 102]⟩ nm n0 a0 kids) → Calls Tryz.prog 42 #[exV ⟨#[105, 102]⟩ m n a x lk c, .int .i64 0] W (GivesP (fun k => k < B) K0 W) := fun W hi => by rw [hK0]; exact kidP_any (fun k => k < B) ⟨#[105, 102]⟩ nm n0 a0 kids 0 W ⟨#[105, 102]⟩ m n a x lk c hi (by decide)
  rw [← hK0] at hw0 hlen ⊢
  obtain ⟨K1, hK1⟩ : ∃ K, K = kids.getD 1 ex0 := ⟨_, rfl⟩
  have kk1 : ∀ (W : World), IsP (fun k => k < B) W ⟨#[105, 102]⟩ m n a x lk c (.mk ⟨#[105, 102]⟩ nm n0 a0 kids) → Calls Tryz.prog 42 #[exV ⟨#[105, 102]⟩ m n a x lk c, .int .i64 1] W (GivesP (fun k => k < B) K1 W) := fun W hi => by rw [hK1]; exact kidP_any (fun k => k < B) ⟨#[105, 102]⟩ nm n0 a0 kids 1 W ⟨#[105, 102]⟩ m n a x lk c hi (by decide)
  rw [← hK1] at hw1 hlen ⊢
  obtain ⟨K2, hK2⟩ : ∃ K, K = kids.getD 2 ex0 := ⟨_, rfl⟩
  have kk2 : ∀ (W : World), IsP (fun k => k < B) W ⟨#[105, 102]⟩ m n a x lk c (.mk ⟨#[105, 102]⟩ nm n0 a0 kids) → Calls Tryz.prog 42 #[exV ⟨#[105, 102]⟩ m n a x lk c, .int .i64 2] W (GivesP (fun k => k < B) K2 W) := fun W hi => by rw [hK2]; exact kidP_any (fun k => k < B) ⟨#[105, 102]⟩ nm n0 a0 kids 2 W ⟨#[105, 102]⟩ m n a x lk c hi (by decide)
  rw [← hK2] at hw2 hlen ⊢
  obtain ⟨X0, hX0⟩ : ∃ X : List UInt8, X = (lp ++ [105, 102, 32]) := ⟨_, rfl⟩
  rw [← hX0] at hlen ⊢
  have hj0 : joined [⟨#[40, 105, 102, 32]⟩] = X0 := by rw [hX0]; simp [joined, lp, rp, sp]
  obtain ⟨X2, hX2⟩ : ∃ X : List UInt8, X = [32, 116, 104, 101, 110, 32] := ⟨_, rfl⟩
  rw [← hX2] at hlen ⊢
  have hj2 : joined [⟨#[32, 116, 104, 101, 110, 32]⟩] = X2 := by rw [hX2]; simp [joined, lp, rp, sp]
  obtain ⟨X4, hX4⟩ : ∃ X : List UInt8, X = [32, 101, 108, 115, 101, 32] := ⟨_, rfl⟩
  rw [← hX4] at hlen ⊢
  have hj4 : joined [⟨#[32, 101, 108, 115, 101, 32]⟩] = X4 := by rw [hX4]; simp [joined, lp, rp, sp]
  obtain ⟨X6, hX6⟩ : ∃ X : List UInt8, X = rp := ⟨_, rfl⟩
  rw [← hX6] at hlen ⊢
  have hj6 : joined [⟨#[41]⟩] = X6 := by rw [hX6]; simp [joined, lp, rp, sp]
  try simp only [List.length_append] at hlen
  have s0 := say_at B b l w1 h1 [⟨#[40, 105, 102, 32]⟩] 1 (w.heap.size + 1) #[.string ⟨#[40, 105, 102, 32]⟩] X0 hs1 rfl rfl hj0 (by decide) (by omega)
  have S0 := Lib.hid s0
  have S1 := Lib.hid (fun (W : World) (o m : ByteArray) (n a : Int) (x : Option Addr) (lk c : Nat) (hB : Below B w W) (hb : Bld B b (l ++ X0) W) (hp : IsP (fun k => k < B) W o m n a x lk c K0) => hw0 W (l ++ X0) o m n a x lk c hB hb hp (by simp only [List.length_append]; omega))
  have S2 := Lib.hid (fun (W : World) (hb : Bld B b (l ++ X0 ++ textE K0) W) => say_at B b (l ++ X0 ++ textE K0) W hb [⟨#[32, 116, 104, 101, 110, 32]⟩] 1 W.heap.size #[.string ⟨#[32, 116, 104, 101, 110, 32]⟩] X2 rfl rfl rfl hj2 (by decide) (by simp only [List.length_append]; omega))
  have S3 := Lib.hid (fun (W : World) (o m : ByteArray) (n a : Int) (x : Option Addr) (lk c : Nat) (hB : Below B w W) (hb : Bld B b (l ++ X0 ++ textE K0 ++ X2) W) (hp : IsP (fun k => k < B) W o m n a x lk c K1) => hw1 W (l ++ X0 ++ textE K0 ++ X2) o m n a x lk c hB hb hp (by simp only [List.length_append]; omega))
  have S4 := Lib.hid (fun (W : World) (hb : Bld B b (l ++ X0 ++ textE K0 ++ X2 ++ textE K1) W) => say_at B b (l ++ X0 ++ textE K0 ++ X2 ++ textE K1) W hb [⟨#[32, 101, 108, 115, 101, 32]⟩] 1 W.heap.size #[.string ⟨#[32, 101, 108, 115, 101, 32]⟩] X4 rfl rfl rfl hj4 (by decide) (by simp only [List.length_append]; omega))
  have S5 := Lib.hid (fun (W : World) (o m : ByteArray) (n a : Int) (x : Option Addr) (lk c : Nat) (hB : Below B w W) (hb : Bld B b (l ++ X0 ++ textE K0 ++ X2 ++ textE K1 ++ X4) W) (hp : IsP (fun k => k < B) W o m n a x lk c K2) => hw2 W (l ++ X0 ++ textE K0 ++ X2 ++ textE K1 ++ X4) o m n a x lk c hB hb hp (by simp only [List.length_append]; omega))
  have S6 := Lib.hid (fun (W : World) (hb : Bld B b (l ++ X0 ++ textE K0 ++ X2 ++ textE K1 ++ X4 ++ textE K2) W) => say_at B b (l ++ X0 ++ textE K0 ++ X2 ++ textE K1 ++ X4 ++ textE K2) W hb [⟨#[41]⟩] 1 W.heap.size #[.string ⟨#[41]⟩] X6 rfl rfl rfl hj6 (by decide) (by simp only [List.length_append]; omega))
  have HSE := Lib.hid size_expr
  have HL := Lib.hid hn1
  have HB := Lib.hid (hb1.mono hsz)
  have HW := Lib.hid (Wrote.below (b := b) hb1)
  have HI := Lib.hid hi1
  have HW1 := Lib.hid hww
  rw [hww] at hc0 hc1
  have KK0 := Lib.hid kk0
  have KK1 := Lib.hid kk1
  have KK2 := Lib.hid kk2
  unfold exV at KK0 KK1 KK2 S1 S3 S5 ⊢
  clear hi h hb1 hn1 h1 hi1 hww hlen s0 hw0 kk0 hK0 hw1 kk1 hK1 hw2 kk2 hK2 hj0 hX0 hj2 hX2 hj4 hX4 hj6 hX6
  go_enter Tryz.func26, Tryz.ntmps26
  go_wp2_with fail
  rw [← HW1.out]
  (with_reducible refine S0.out.mono ?_)
  rintro e u2 ⟨rfl, hh, hb, hw⟩
  have hz2 := hw.size
  have HL' := Lib.hid ((hw.block w.heap.size (Array.getElem?_eq_some_iff.1 HL.out).1 (by omega) (fun cs fr e => by rw [HL.out] at e; injection e with e; injection e with _ e _; exact absurd e (by decide))).trans HL.out)
  have HB' := Lib.hid (HB.out.trans hb)
  have HW' := Lib.hid (HW.out.trans hw)
  have HI' := Lib.hid (HI.out.low hb)
  have HH := Lib.hid hh
  clear hh hb hw S0 HL HB HW HI
  have HL := HL'
  have HB := HB'
  have HW := HW'
  have HI := HI'
  clear HL' HB' HW' HI'
  have c0_2 := cell_of_row u2 w.heap.size 0 _ _ _ HL.out
  have c1_2 := cell_of_row u2 w.heap.size 1 _ _ _ HL.out
  have kk := KK0.out u2 HI.out
  go_wp2_with (refine wpList_load_row rfl 54 (.tmp 3) rfl w.heap.size rfl 54 #[.string ⟨#[105, 102]⟩, .string m, .int .i64 n, .int .i64 a, .slice x lk c] (0, 0) _ HL.out Tryz.underlying54 rfl HSE.out ?_)
  (with_reducible refine kk.mono ?_)
  rintro e v3 ⟨o3, m3, n3, a3, x3, l3, c3, rfl, hi3, hb3⟩
  have kx := S1.out v3 o3 m3 n3 a3 x3 l3 c3 (HB.out.trans (hb3.mono HH.out.2)) (HH.out.below hb3) hi3
  have hz3 := hb3.size
  have HL' := Lib.hid ((hb3.block w.heap.size (Array.getElem?_eq_some_iff.1 HL.out).1).trans HL.out)
  have HB' := Lib.hid (HB.out.trans (hb3.mono HH.out.2))
  have HW' := Lib.hid (HW.out.trans (Wrote.below hb3))
  have HI' := Lib.hid (HI.out.low (hb3.mono HH.out.2))
  clear hi3 hb3 kk HL HB HW HI HH
  have HL := HL'
  have HB := HB'
  have HW := HW'
  have HI := HI'
  clear HL' HB' HW' HI'
  unfold exV
  go_wp2_with fail
  (with_reducible refine kx.mono ?_)
  rintro e u4 ⟨rfl, hh, hb, hw⟩
  have hz4 := hw.size
  have HL' := Lib.hid ((hw.block w.heap.size (Array.getElem?_eq_some_iff.1 HL.out).1 (by omega) (fun cs fr e => by rw [HL.out] at e; injection e with e; injection e with _ e _; exact absurd e (by decide))).trans HL.out)
  have HB' := Lib.hid (HB.out.trans hb)
  have HW' := Lib.hid (HW.out.trans hw)
  have HI' := Lib.hid (HI.out.low hb)
  have HH := Lib.hid hh
  clear hh hb hw kx HL HB HW HI
  have HL := HL'
  have HB := HB'
  have HW := HW'
  have HI := HI'
  clear HL' HB' HW' HI'
  have c0_4 := cell_of_row u4 w.heap.size 0 _ _ _ HL.out
  have c1_4 := cell_of_row u4 w.heap.size 1 _ _ _ HL.out
  have k2 := S2.out u4 HH.out
  go_wp2_with fail
  (with_reducible refine k2.mono ?_)
  rintro e u6 ⟨rfl, hh, hb, hw⟩
  have hz6 := hw.size
  have HL' := Lib.hid ((hw.block w.heap.size (Array.getElem?_eq_some_iff.1 HL.out).1 (by omega) (fun cs fr e => by rw [HL.out] at e; injection e with e; injection e with _ e _; exact absurd e (by decide))).trans HL.out)
  have HB' := Lib.hid (HB.out.trans hb)
  have HW' := Lib.hid (HW.out.trans hw)
  have HI' := Lib.hid (HI.out.low hb)
  have HH := Lib.hid hh
  clear hh hb hw k2 HL HB HW HI
  have HL := HL'
  have HB := HB'
  have HW := HW'
  have HI := HI'
  clear HL' HB' HW' HI'
  have c0_6 := cell_of_row u6 w.heap.size 0 _ _ _ HL.out
  have c1_6 := cell_of_row u6 w.heap.size 1 _ _ _ HL.out
  have kk := KK1.out u6 HI.out
  go_wp2_with (refine wpList_load_row rfl 54 (.tmp 3) rfl w.heap.size rfl 54 #[.string ⟨#[105, 102]⟩, .string m, .int .i64 n, .int .i64 a, .slice x lk c] (0, 0) _ HL.out Tryz.underlying54 rfl HSE.out ?_)
  (with_reducible refine kk.mono ?_)
  rintro e v7 ⟨o3, m3, n3, a3, x3, l3, c3, rfl, hi3, hb3⟩
  have kx := S3.out v7 o3 m3 n3 a3 x3 l3 c3 (HB.out.trans (hb3.mono HH.out.2)) (HH.out.below hb3) hi3
  have hz3 := hb3.size
  have HL' := Lib.hid ((hb3.block w.heap.size (Array.getElem?_eq_some_iff.1 HL.out).1).trans HL.out)
  have HB' := Lib.hid (HB.out.trans (hb3.mono HH.out.2))
  have HW' := Lib.hid (HW.out.trans (Wrote.below hb3))
  have HI' := Lib.hid (HI.out.low (hb3.mono HH.out.2))
  clear hi3 hb3 kk HL HB HW HI HH
  have HL := HL'
  have HB := HB'
  have HW := HW'
  have HI := HI'
  clear HL' HB' HW' HI'
  unfold exV
  go_wp2_with fail
  (with_reducible refine kx.mono ?_)
  rintro e u8 ⟨rfl, hh, hb, hw⟩
  have hz8 := hw.size
  have HL' := Lib.hid ((hw.block w.heap.size (Array.getElem?_eq_some_iff.1 HL.out).1 (by omega) (fun cs fr e => by rw [HL.out] at e; injection e with e; injection e with _ e _; exact absurd e (by decide))).trans HL.out)
  have HB' := Lib.hid (HB.out.trans hb)
  have HW' := Lib.hid (HW.out.trans hw)
  have HI' := Lib.hid (HI.out.low hb)
  have HH := Lib.hid hh
  clear hh hb hw kx HL HB HW HI
  have HL := HL'
  have HB := HB'
  have HW := HW'
  have HI := HI'
  clear HL' HB' HW' HI'
  have c0_8 := cell_of_row u8 w.heap.size 0 _ _ _ HL.out
  have c1_8 := cell_of_row u8 w.heap.size 1 _ _ _ HL.out
  have k4 := S4.out u8 HH.out
  go_wp2_with fail
  (with_reducible refine k4.mono ?_)
  rintro e u10 ⟨rfl, hh, hb, hw⟩
  have hz10 := hw.size
  have HL' := Lib.hid ((hw.block w.heap.size (Array.getElem?_eq_some_iff.1 HL.out).1 (by omega) (fun cs fr e => by rw [HL.out] at e; injection e with e; injection e with _ e _; exact absurd e (by decide))).trans HL.out)
  have HB' := Lib.hid (HB.out.trans hb)
  have HW' := Lib.hid (HW.out.trans hw)
  have HI' := Lib.hid (HI.out.low hb)
  have HH := Lib.hid hh
  clear hh hb hw k4 HL HB HW HI
  have HL := HL'
  have HB := HB'
  have HW := HW'
  have HI := HI'
  clear HL' HB' HW' HI'
  have c0_10 := cell_of_row u10 w.heap.size 0 _ _ _ HL.out
  have c1_10 := cell_of_row u10 w.heap.size 1 _ _ _ HL.out
  have kk := KK2.out u10 HI.out
  go_wp2_with (refine wpList_load_row rfl 54 (.tmp 3) rfl w.heap.size rfl 54 #[.string ⟨#[105, 102]⟩, .string m, .int .i64 n, .int .i64 a, .slice x lk c] (0, 0) _ HL.out Tryz.underlying54 rfl HSE.out ?_)
  (with_reducible refine kk.mono ?_)
  rintro e v11 ⟨o3, m3, n3, a3, x3, l3, c3, rfl, hi3, hb3⟩
  have kx := S5.out v11 o3 m3 n3 a3 x3 l3 c3 (HB.out.trans (hb3.mono HH.out.2)) (HH.out.below hb3) hi3
  have hz3 := hb3.size
  have HL' := Lib.hid ((hb3.block w.heap.size (Array.getElem?_eq_some_iff.1 HL.out).1).trans HL.out)
  have HB' := Lib.hid (HB.out.trans (hb3.mono HH.out.2))
  have HW' := Lib.hid (HW.out.trans (Wrote.below hb3))
  have HI' := Lib.hid (HI.out.low (hb3.mono HH.out.2))
  clear hi3 hb3 kk HL HB HW HI HH
  have HL := HL'
  have HB := HB'
  have HW := HW'
  have HI := HI'
  clear HL' HB' HW' HI'
  unfold exV
  go_wp2_with fail
  (with_reducible refine kx.mono ?_)
  rintro e u12 ⟨rfl, hh, hb, hw⟩
  have hz12 := hw.size
  have HL' := Lib.hid ((hw.block w.heap.size (Array.getElem?_eq_some_iff.1 HL.out).1 (by omega) (fun cs fr e => by rw [HL.out] at e; injection e with e; injection e with _ e _; exact absurd e (by decide))).trans HL.out)
  have HB' := Lib.hid (HB.out.trans hb)
  have HW' := Lib.hid (HW.out.trans hw)
  have HI' := Lib.hid (HI.out.low hb)
  have HH := Lib.hid hh
  clear hh hb hw kx HL HB HW HI
  have HL := HL'
  have HB := HB'
  have HW := HW'
  have HI := HI'
  clear HL' HB' HW' HI'
  have c0_12 := cell_of_row u12 w.heap.size 0 _ _ _ HL.out
  have c1_12 := cell_of_row u12 w.heap.size 1 _ _ _ HL.out
  have k6 := S6.out u12 HH.out
  go_wp2_with fail
  (with_reducible refine k6.mono ?_)
  rintro e u14 ⟨rfl, hh, hb, hw⟩
  have hz14 := hw.size
  have HL' := Lib.hid ((hw.block w.heap.size (Array.getElem?_eq_some_iff.1 HL.out).1 (by omega) (fun cs fr e => by rw [HL.out] at e; injection e with e; injection e with _ e _; exact absurd e (by decide))).trans HL.out)
  have HB' := Lib.hid (HB.out.trans hb)
  have HW' := Lib.hid (HW.out.trans hw)
  have HI' := Lib.hid (HI.out.low hb)
  have HH := Lib.hid hh
  clear hh hb hw k6 HL HB HW HI
  have HL := HL'
  have HB := HB'
  have HW := HW'
  have HI := HI'
  clear HL' HB' HW' HI'
  have c0_14 := cell_of_row u14 w.heap.size 0 _ _ _ HL.out
  have c1_14 := cell_of_row u14 w.heap.size 1 _ _ _ HL.out
  go_wp2_with fail
  go_end0
  refine ⟨rfl, ?_, HB.out, HW.out⟩
  have := HH.out
  simpa [List.append_assoc] using this
end Go.Proofs.YtjlnihennlkmpaaGreatDoor

namespace Go.Proofs.YtjlnihennlkmpaaGreatDoor
open Go Go.RowKit
set_option maxHeartbeats 2000000 in
set_option maxRecDepth 100000 in
/-- What writeExpr does with a var. -/
theorem writeVar_w (B b : Nat) (l : List UInt8) (w : World) (h : Bld B b l w) (n0 : Int) (a0 : Nat) (kids : List Ex) (m : ByteArray) (n a : Int) (x : Option Addr) (lk c : Nat) (hi : IsP (fun k => k < B) w ⟨#[118, 97, 114]⟩ m n a x lk c (.mk ⟨#[118, 97, 114]⟩ m n0 a0 kids)) 
    (hlen : l.length + (m.data.toList).length ≤ 140737488355328) :
    Calls Tryz.prog 26 #[.pointer (some ⟨b, 0, none⟩), exV ⟨#[118, 97, 114]⟩ m n a x lk c] w (GivesW B b l (m.data.toList) w) := by
  have hb1 : Below w.heap.size w (w.alloc (.cells #[.string ⟨#[118, 97, 114]⟩, .string m, .int .i64 n, .int .i64 a, .slice x lk c] 54)) := (Below.refl _ _).alloc (Nat.le_refl _) _
  have hn1 := heap_alloc_new w (.cells #[.string ⟨#[118, 97, 114]⟩, .string m, .int .i64 n, .int .i64 a, .slice x lk c] 54)
  have hs1 : (w.alloc (.cells #[.string ⟨#[118, 97, 114]⟩, .string m, .int .i64 n, .int .i64 a, .slice x lk c] 54)).heap.size = w.heap.size + 1 := by simp
  have h1 := h.below hb1
  have hsz := h.2
  have hlt := h.lt
  have hi1 := hi.low (hb1.mono hsz)
  obtain ⟨w1, hww⟩ : ∃ w1, w1 = (w.alloc (.cells #[.string ⟨#[118, 97, 114]⟩, .string m, .int .i64 n, .int .i64 a, .slice x lk c] 54)) := ⟨_, rfl⟩
  rw [← hww] at hb1 hn1 hs1 h1 hi1
  have hc0 := cell_of_row w1 w.heap.size 0 _ _ _ hn1
  have hc1 := cell_of_row w1 w.heap.size 1 _ _ _ hn1
  obtain ⟨X0, hX0⟩ : ∃ X : List UInt8, X = m.data.toList := ⟨_, rfl⟩
  rw [← hX0] at hlen ⊢
  have hj0 : joined [m] = X0 := by rw [hX0]; simp [joined, lp, rp, sp]
  try simp only [List.length_append] at hlen
  have s0 := say_at B b l w1 h1 [m] 1 (w.heap.size + 1) #[.string m] X0 hs1 rfl rfl hj0 (by decide) (by omega)
  have S0 := Lib.hid s0
  have HSE := Lib.hid size_expr
  have HL := Lib.hid hn1
  have HB := Lib.hid (hb1.mono hsz)
  have HW := Lib.hid (Wrote.below (b := b) hb1)
  have HI := Lib.hid hi1
  have HW1 := Lib.hid hww
  rw [hww] at hc0 hc1
  unfold exV at  ⊢
  clear hi h hb1 hn1 h1 hi1 hww hlen s0  hj0 hX0
  go_enter Tryz.func26, Tryz.ntmps26
  go_wp2_with fail
  rw [← HW1.out]
  (with_reducible refine S0.out.mono ?_)
  rintro e u2 ⟨rfl, hh, hb, hw⟩
  have hz2 := hw.size
  have HL' := Lib.hid ((hw.block w.heap.size (Array.getElem?_eq_some_iff.1 HL.out).1 (by omega) (fun cs fr e => by rw [HL.out] at e; injection e with e; injection e with _ e _; exact absurd e (by decide))).trans HL.out)
  have HB' := Lib.hid (HB.out.trans hb)
  have HW' := Lib.hid (HW.out.trans hw)
  have HI' := Lib.hid (HI.out.low hb)
  have HH := Lib.hid hh
  clear hh hb hw S0 HL HB HW HI
  have HL := HL'
  have HB := HB'
  have HW := HW'
  have HI := HI'
  clear HL' HB' HW' HI'
  have c0_2 := cell_of_row u2 w.heap.size 0 _ _ _ HL.out
  have c1_2 := cell_of_row u2 w.heap.size 1 _ _ _ HL.out
  go_wp2_with fail
  go_end0
  refine ⟨rfl, ?_, HB.out, HW.out⟩
  have := HH.out
  simpa [List.append_assoc] using this
end Go.Proofs.YtjlnihennlkmpaaGreatDoor

namespace Go.Proofs.YtjlnihennlkmpaaGreatDoor
open Go Go.RowKit
set_option maxHeartbeats 2000000 in
set_option maxRecDepth 100000 in
/-- What writeExpr does with a merge. -/
theorem writeMerge_w (B b : Nat) (l : List UInt8) (w : World) (h : Bld B b l w) (n0 : Int) (a0 : Nat) (kids : List Ex) (m : ByteArray) (n a : Int) (x : Option Addr) (lk c : Nat) (hi : IsP (fun k => k < B) w ⟨#[109, 101, 114, 103, 101]⟩ m n a x lk c (.mk ⟨#[109, 101, 114, 103, 101]⟩ m n0 a0 kids)) (hw0 : Writes w B b (kids.getD 0 ex0)) (hw1 : Writes w B b (kids.getD 1 ex0))
    (hlen : l.length + (([40, 109, 101, 114, 103, 101, 32] ++ m.data.toList ++ sp) ++ primE (kids.getD 0 ex0) ++ sp ++ primE (kids.getD 1 ex0) ++ rp).length ≤ 140737488355328) :
    Calls Tryz.prog 26 #[.pointer (some ⟨b, 0, none⟩), exV ⟨#[109, 101, 114, 103, 101]⟩ m n a x lk c] w (GivesW B b l (([40, 109, 101, 114, 103, 101, 32] ++ m.data.toList ++ sp) ++ primE (kids.getD 0 ex0) ++ sp ++ primE (kids.getD 1 ex0) ++ rp) w) := by
  have hb1 : Below w.heap.size w (w.alloc (.cells #[.string ⟨#[109, 101, 114, 103, 101]⟩, .string m, .int .i64 n, .int .i64 a, .slice x lk c] 54)) := (Below.refl _ _).alloc (Nat.le_refl _) _
  have hn1 := heap_alloc_new w (.cells #[.string ⟨#[109, 101, 114, 103, 101]⟩, .string m, .int .i64 n, .int .i64 a, .slice x lk c] 54)
  have hs1 : (w.alloc (.cells #[.string ⟨#[109, 101, 114, 103, 101]⟩, .string m, .int .i64 n, .int .i64 a, .slice x lk c] 54)).heap.size = w.heap.size + 1 := by simp
  have h1 := h.below hb1
  have hsz := h.2
  have hlt := h.lt
  have hi1 := hi.low (hb1.mono hsz)
  obtain ⟨w1, hww⟩ : ∃ w1, w1 = (w.alloc (.cells #[.string ⟨#[109, 101, 114, 103, 101]⟩, .string m, .int .i64 n, .int .i64 a, .slice x lk c] 54)) := ⟨_, rfl⟩
  rw [← hww] at hb1 hn1 hs1 h1 hi1
  have hc0 := cell_of_row w1 w.heap.size 0 _ _ _ hn1
  have hc1 := cell_of_row w1 w.heap.size 1 _ _ _ hn1
  obtain ⟨K0, hK0⟩ : ∃ K, K = kids.getD 0 ex0 := ⟨_, rfl⟩
  have kk0 : ∀ (W : World), IsP (fun k => k < B) W ⟨#[109, 101, 114, 103, 101]⟩ m n a x lk c (.mk ⟨#[109, 101, 114, 103, 101]⟩ m n0 a0 kids) → Calls Tryz.prog 42 #[exV ⟨#[109, 101, 114, 103, 101]⟩ m n a x lk c, .int .i64 0] W (GivesP (fun k => k < B) K0 W) := fun W hi => by rw [hK0]; exact kidP_any (fun k => k < B) ⟨#[109, 101, 114, 103, 101]⟩ m n0 a0 kids 0 W ⟨#[109, 101, 114, 103, 101]⟩ m n a x lk c hi (by decide)
  rw [← hK0] at hw0 hlen ⊢
  obtain ⟨K1, hK1⟩ : ∃ K, K = kids.getD 1 ex0 := ⟨_, rfl⟩
  have kk1 : ∀ (W : World), IsP (fun k => k < B) W ⟨#[109, 101, 114, 103, 101]⟩ m n a x lk c (.mk ⟨#[109, 101, 114, 103, 101]⟩ m n0 a0 kids) → Calls Tryz.prog 42 #[exV ⟨#[109, 101, 114, 103, 101]⟩ m n a x lk c, .int .i64 1] W (GivesP (fun k => k < B) K1 W) := fun W hi => by rw [hK1]; exact kidP_any (fun k => k < B) ⟨#[109, 101, 114, 103, 101]⟩ m n0 a0 kids 1 W ⟨#[109, 101, 114, 103, 101]⟩ m n a x lk c hi (by decide)
  rw [← hK1] at hw1 hlen ⊢
  obtain ⟨X0, hX0⟩ : ∃ X : List UInt8, X = ([40, 109, 101, 114, 103, 101, 32] ++ m.data.toList ++ sp) := ⟨_, rfl⟩
  rw [← hX0] at hlen ⊢
  have hj0 : joined [⟨#[40, 109, 101, 114, 103, 101, 32]⟩, m, ⟨#[32]⟩] = X0 := by rw [hX0]; simp [joined, lp, rp, sp]
  obtain ⟨X2, hX2⟩ : ∃ X : List UInt8, X = sp := ⟨_, rfl⟩
  rw [← hX2] at hlen ⊢
  have hj2 : joined [⟨#[32]⟩] = X2 := by rw [hX2]; simp [joined, lp, rp, sp]
  obtain ⟨X4, hX4⟩ : ∃ X : List UInt8, X = rp := ⟨_, rfl⟩
  rw [← hX4] at hlen ⊢
  have hj4 : joined [⟨#[41]⟩] = X4 := by rw [hX4]; simp [joined, lp, rp, sp]
  try simp only [List.length_append] at hlen
  have s0 := say_at B b l w1 h1 [⟨#[40, 109, 101, 114, 103, 101, 32]⟩, m, ⟨#[32]⟩] 3 (w.heap.size + 1) #[.string ⟨#[40, 109, 101, 114, 103, 101, 32]⟩, .string m, .string ⟨#[32]⟩] X0 hs1 rfl rfl hj0 (by decide) (by omega)
  have S0 := Lib.hid s0
  have S1 := Lib.hid (fun (W : World) (o m : ByteArray) (n a : Int) (x : Option Addr) (lk c : Nat) (hB : Below B w W) (hb : Bld B b (l ++ X0) W) (hp : IsP (fun k => k < B) W o m n a x lk c K0) => (writes_prim w B b K0 hw0) W (l ++ X0) o m n a x lk c hB hb hp (by simp only [List.length_append]; omega))
  have S2 := Lib.hid (fun (W : World) (hb : Bld B b (l ++ X0 ++ primE K0) W) => say_at B b (l ++ X0 ++ primE K0) W hb [⟨#[32]⟩] 1 W.heap.size #[.string ⟨#[32]⟩] X2 rfl rfl rfl hj2 (by decide) (by simp only [List.length_append]; omega))
  have S3 := Lib.hid (fun (W : World) (o m : ByteArray) (n a : Int) (x : Option Addr) (lk c : Nat) (hB : Below B w W) (hb : Bld B b (l ++ X0 ++ primE K0 ++ X2) W) (hp : IsP (fun k => k < B) W o m n a x lk c K1) => (writes_prim w B b K1 hw1) W (l ++ X0 ++ primE K0 ++ X2) o m n a x lk c hB hb hp (by simp only [List.length_append]; omega))
  have S4 := Lib.hid (fun (W : World) (hb : Bld B b (l ++ X0 ++ primE K0 ++ X2 ++ primE K1) W) => say_at B b (l ++ X0 ++ primE K0 ++ X2 ++ primE K1) W hb [⟨#[41]⟩] 1 W.heap.size #[.string ⟨#[41]⟩] X4 rfl rfl rfl hj4 (by decide) (by simp only [List.length_append]; omega))
  have HSE := Lib.hid size_expr
  have HL := Lib.hid hn1
  have HB := Lib.hid (hb1.mono hsz)
  have HW := Lib.hid (Wrote.below (b := b) hb1)
  have HI := Lib.hid hi1
  have HW1 := Lib.hid hww
  rw [hww] at hc0 hc1
  have KK0 := Lib.hid kk0
  have KK1 := Lib.hid kk1
  unfold exV at KK0 KK1 S1 S3 ⊢
  clear hi h hb1 hn1 h1 hi1 hww hlen s0 hw0 kk0 hK0 hw1 kk1 hK1 hj0 hX0 hj2 hX2 hj4 hX4
  go_enter Tryz.func26, Tryz.ntmps26
  go_wp2_with fail
  rw [← HW1.out]
  (with_reducible refine S0.out.mono ?_)
  rintro e u2 ⟨rfl, hh, hb, hw⟩
  have hz2 := hw.size
  have HL' := Lib.hid ((hw.block w.heap.size (Array.getElem?_eq_some_iff.1 HL.out).1 (by omega) (fun cs fr e => by rw [HL.out] at e; injection e with e; injection e with _ e _; exact absurd e (by decide))).trans HL.out)
  have HB' := Lib.hid (HB.out.trans hb)
  have HW' := Lib.hid (HW.out.trans hw)
  have HI' := Lib.hid (HI.out.low hb)
  have HH := Lib.hid hh
  clear hh hb hw S0 HL HB HW HI
  have HL := HL'
  have HB := HB'
  have HW := HW'
  have HI := HI'
  clear HL' HB' HW' HI'
  have c0_2 := cell_of_row u2 w.heap.size 0 _ _ _ HL.out
  have c1_2 := cell_of_row u2 w.heap.size 1 _ _ _ HL.out
  have kk := KK0.out u2 HI.out
  go_wp2_with (refine wpList_load_row rfl 54 (.tmp 3) rfl w.heap.size rfl 54 #[.string ⟨#[109, 101, 114, 103, 101]⟩, .string m, .int .i64 n, .int .i64 a, .slice x lk c] (0, 0) _ HL.out Tryz.underlying54 rfl HSE.out ?_)
  (with_reducible refine kk.mono ?_)
  rintro e v3 ⟨o3, m3, n3, a3, x3, l3, c3, rfl, hi3, hb3⟩
  have kx := S1.out v3 o3 m3 n3 a3 x3 l3 c3 (HB.out.trans (hb3.mono HH.out.2)) (HH.out.below hb3) hi3
  have hz3 := hb3.size
  have HL' := Lib.hid ((hb3.block w.heap.size (Array.getElem?_eq_some_iff.1 HL.out).1).trans HL.out)
  have HB' := Lib.hid (HB.out.trans (hb3.mono HH.out.2))
  have HW' := Lib.hid (HW.out.trans (Wrote.below hb3))
  have HI' := Lib.hid (HI.out.low (hb3.mono HH.out.2))
  clear hi3 hb3 kk HL HB HW HI HH
  have HL := HL'
  have HB := HB'
  have HW := HW'
  have HI := HI'
  clear HL' HB' HW' HI'
  unfold exV
  go_wp2_with fail
  (with_reducible refine kx.mono ?_)
  rintro e u4 ⟨rfl, hh, hb, hw⟩
  have hz4 := hw.size
  have HL' := Lib.hid ((hw.block w.heap.size (Array.getElem?_eq_some_iff.1 HL.out).1 (by omega) (fun cs fr e => by rw [HL.out] at e; injection e with e; injection e with _ e _; exact absurd e (by decide))).trans HL.out)
  have HB' := Lib.hid (HB.out.trans hb)
  have HW' := Lib.hid (HW.out.trans hw)
  have HI' := Lib.hid (HI.out.low hb)
  have HH := Lib.hid hh
  clear hh hb hw kx HL HB HW HI
  have HL := HL'
  have HB := HB'
  have HW := HW'
  have HI := HI'
  clear HL' HB' HW' HI'
  have c0_4 := cell_of_row u4 w.heap.size 0 _ _ _ HL.out
  have c1_4 := cell_of_row u4 w.heap.size 1 _ _ _ HL.out
  have k2 := S2.out u4 HH.out
  go_wp2_with fail
  (with_reducible refine k2.mono ?_)
  rintro e u6 ⟨rfl, hh, hb, hw⟩
  have hz6 := hw.size
  have HL' := Lib.hid ((hw.block w.heap.size (Array.getElem?_eq_some_iff.1 HL.out).1 (by omega) (fun cs fr e => by rw [HL.out] at e; injection e with e; injection e with _ e _; exact absurd e (by decide))).trans HL.out)
  have HB' := Lib.hid (HB.out.trans hb)
  have HW' := Lib.hid (HW.out.trans hw)
  have HI' := Lib.hid (HI.out.low hb)
  have HH := Lib.hid hh
  clear hh hb hw k2 HL HB HW HI
  have HL := HL'
  have HB := HB'
  have HW := HW'
  have HI := HI'
  clear HL' HB' HW' HI'
  have c0_6 := cell_of_row u6 w.heap.size 0 _ _ _ HL.out
  have c1_6 := cell_of_row u6 w.heap.size 1 _ _ _ HL.out
  have kk := KK1.out u6 HI.out
  go_wp2_with (refine wpList_load_row rfl 54 (.tmp 3) rfl w.heap.size rfl 54 #[.string ⟨#[109, 101, 114, 103, 101]⟩, .string m, .int .i64 n, .int .i64 a, .slice x lk c] (0, 0) _ HL.out Tryz.underlying54 rfl HSE.out ?_)
  (with_reducible refine kk.mono ?_)
  rintro e v7 ⟨o3, m3, n3, a3, x3, l3, c3, rfl, hi3, hb3⟩
  have kx := S3.out v7 o3 m3 n3 a3 x3 l3 c3 (HB.out.trans (hb3.mono HH.out.2)) (HH.out.below hb3) hi3
  have hz3 := hb3.size
  have HL' := Lib.hid ((hb3.block w.heap.size (Array.getElem?_eq_some_iff.1 HL.out).1).trans HL.out)
  have HB' := Lib.hid (HB.out.trans (hb3.mono HH.out.2))
  have HW' := Lib.hid (HW.out.trans (Wrote.below hb3))
  have HI' := Lib.hid (HI.out.low (hb3.mono HH.out.2))
  clear hi3 hb3 kk HL HB HW HI HH
  have HL := HL'
  have HB := HB'
  have HW := HW'
  have HI := HI'
  clear HL' HB' HW' HI'
  unfold exV
  go_wp2_with fail
  (with_reducible refine kx.mono ?_)
  rintro e u8 ⟨rfl, hh, hb, hw⟩
  have hz8 := hw.size
  have HL' := Lib.hid ((hw.block w.heap.size (Array.getElem?_eq_some_iff.1 HL.out).1 (by omega) (fun cs fr e => by rw [HL.out] at e; injection e with e; injection e with _ e _; exact absurd e (by decide))).trans HL.out)
  have HB' := Lib.hid (HB.out.trans hb)
  have HW' := Lib.hid (HW.out.trans hw)
  have HI' := Lib.hid (HI.out.low hb)
  have HH := Lib.hid hh
  clear hh hb hw kx HL HB HW HI
  have HL := HL'
  have HB := HB'
  have HW := HW'
  have HI := HI'
  clear HL' HB' HW' HI'
  have c0_8 := cell_of_row u8 w.heap.size 0 _ _ _ HL.out
  have c1_8 := cell_of_row u8 w.heap.size 1 _ _ _ HL.out
  have k4 := S4.out u8 HH.out
  go_wp2_with fail
  (with_reducible refine k4.mono ?_)
  rintro e u10 ⟨rfl, hh, hb, hw⟩
  have hz10 := hw.size
  have HL' := Lib.hid ((hw.block w.heap.size (Array.getElem?_eq_some_iff.1 HL.out).1 (by omega) (fun cs fr e => by rw [HL.out] at e; injection e with e; injection e with _ e _; exact absurd e (by decide))).trans HL.out)
  have HB' := Lib.hid (HB.out.trans hb)
  have HW' := Lib.hid (HW.out.trans hw)
  have HI' := Lib.hid (HI.out.low hb)
  have HH := Lib.hid hh
  clear hh hb hw k4 HL HB HW HI
  have HL := HL'
  have HB := HB'
  have HW := HW'
  have HI := HI'
  clear HL' HB' HW' HI'
  have c0_10 := cell_of_row u10 w.heap.size 0 _ _ _ HL.out
  have c1_10 := cell_of_row u10 w.heap.size 1 _ _ _ HL.out
  go_wp2_with fail
  go_end0
  refine ⟨rfl, ?_, HB.out, HW.out⟩
  have := HH.out
  simpa [List.append_assoc] using this
end Go.Proofs.YtjlnihennlkmpaaGreatDoor

namespace Go.Proofs.YtjlnihennlkmpaaGreatDoor
open Go Go.RowKit
set_option maxHeartbeats 2000000 in
set_option maxRecDepth 100000 in
/-- What writeExpr does with not. -/
theorem writeNot_w (B b : Nat) (l : List UInt8) (w : World) (h : Bld B b l w) (nm : ByteArray) (n0 : Int) (a0 : Nat) (kids : List Ex) (m : ByteArray) (n a : Int) (x : Option Addr) (lk c : Nat) (hi : IsP (fun k => k < B) w ⟨#[110, 111, 116]⟩ m n a x lk c (.mk ⟨#[110, 111, 116]⟩ nm n0 a0 kids)) (hw0 : Writes w B b (kids.getD 0 ex0))
    (hlen : l.length + (lp ++ [110, 111, 116] ++ sp ++ textE (kids.getD 0 ex0) ++ rp).length ≤ 140737488355328) :
    Calls Tryz.prog 26 #[.pointer (some ⟨b, 0, none⟩), exV ⟨#[110, 111, 116]⟩ m n a x lk c] w (GivesW B b l (lp ++ [110, 111, 116] ++ sp ++ textE (kids.getD 0 ex0) ++ rp) w) := by
  have hb1 : Below w.heap.size w (w.alloc (.cells #[.string ⟨#[110, 111, 116]⟩, .string m, .int .i64 n, .int .i64 a, .slice x lk c] 54)) := (Below.refl _ _).alloc (Nat.le_refl _) _
  have hn1 := heap_alloc_new w (.cells #[.string ⟨#[110, 111, 116]⟩, .string m, .int .i64 n, .int .i64 a, .slice x lk c] 54)
  have h1 := h.below hb1
  have hsz := h.2
  have hi1 := hi.low (hb1.mono hsz)
  have hc0 := cell_of_row _ w.heap.size 0 _ _ _ hn1
  have ka := writeAhead_any B b l _ h1 ⟨#[110, 111, 116]⟩ ⟨#[110, 111, 116]⟩ nm n0 a0 kids ⟨#[110, 111, 116]⟩ m n a x lk c hi1 (hw0.mono (hb1.mono hsz)) hlen
  have HSE := Lib.hid size_expr
  have HL := Lib.hid hn1
  have HB := Lib.hid (hb1.mono hsz)
  have HW := Lib.hid (Wrote.below (b := b) hb1)
  have KA := Lib.hid ka
  unfold exV at KA ⊢
  clear hi h hb1 hn1 h1 hi1 hlen hw0 ka
  go_enter Tryz.func26, Tryz.ntmps26
  go_wp2_with (refine wpList_load_row rfl 54 (.tmp 3) rfl w.heap.size rfl 54 #[.string ⟨#[110, 111, 116]⟩, .string m, .int .i64 n, .int .i64 a, .slice x lk c] (0, 0) _ HL.out Tryz.underlying54 rfl HSE.out ?_)
  (with_reducible refine KA.out.mono ?_)
  rintro e w3 ⟨rfl, h3, h4, h5⟩
  have H3 := Lib.hid h3
  have H4 := Lib.hid (HB.out.trans h4)
  have H5 := Lib.hid (HW.out.trans h5)
  clear h3 h4 h5
  go_wp2_with fail
  go_end0
  exact ⟨rfl, H3.out, H4.out, H5.out⟩
set_option maxHeartbeats 2000000 in
set_option maxRecDepth 100000 in
/-- What writeExpr does with pre. -/
theorem writePre_w (B b : Nat) (l : List UInt8) (w : World) (h : Bld B b l w) (nm : ByteArray) (n0 : Int) (a0 : Nat) (kids : List Ex) (m : ByteArray) (n a : Int) (x : Option Addr) (lk c : Nat) (hi : IsP (fun k => k < B) w ⟨#[112, 114, 101]⟩ m n a x lk c (.mk ⟨#[112, 114, 101]⟩ nm n0 a0 kids)) (hw0 : Writes w B b (kids.getD 0 ex0))
    (hlen : l.length + (lp ++ [112, 114, 101] ++ sp ++ textE (kids.getD 0 ex0) ++ rp).length ≤ 140737488355328) :
    Calls Tryz.prog 26 #[.pointer (some ⟨b, 0, none⟩), exV ⟨#[112, 114, 101]⟩ m n a x lk c] w (GivesW B b l (lp ++ [112, 114, 101] ++ sp ++ textE (kids.getD 0 ex0) ++ rp) w) := by
  have hb1 : Below w.heap.size w (w.alloc (.cells #[.string ⟨#[112, 114, 101]⟩, .string m, .int .i64 n, .int .i64 a, .slice x lk c] 54)) := (Below.refl _ _).alloc (Nat.le_refl _) _
  have hn1 := heap_alloc_new w (.cells #[.string ⟨#[112, 114, 101]⟩, .string m, .int .i64 n, .int .i64 a, .slice x lk c] 54)
  have h1 := h.below hb1
  have hsz := h.2
  have hi1 := hi.low (hb1.mono hsz)
  have hc0 := cell_of_row _ w.heap.size 0 _ _ _ hn1
  have ka := writeAhead_any B b l _ h1 ⟨#[112, 114, 101]⟩ ⟨#[112, 114, 101]⟩ nm n0 a0 kids ⟨#[112, 114, 101]⟩ m n a x lk c hi1 (hw0.mono (hb1.mono hsz)) hlen
  have HSE := Lib.hid size_expr
  have HL := Lib.hid hn1
  have HB := Lib.hid (hb1.mono hsz)
  have HW := Lib.hid (Wrote.below (b := b) hb1)
  have KA := Lib.hid ka
  unfold exV at KA ⊢
  clear hi h hb1 hn1 h1 hi1 hlen hw0 ka
  go_enter Tryz.func26, Tryz.ntmps26
  go_wp2_with (refine wpList_load_row rfl 54 (.tmp 3) rfl w.heap.size rfl 54 #[.string ⟨#[112, 114, 101]⟩, .string m, .int .i64 n, .int .i64 a, .slice x lk c] (0, 0) _ HL.out Tryz.underlying54 rfl HSE.out ?_)
  (with_reducible refine KA.out.mono ?_)
  rintro e w3 ⟨rfl, h3, h4, h5⟩
  have H3 := Lib.hid h3
  have H4 := Lib.hid (HB.out.trans h4)
  have H5 := Lib.hid (HW.out.trans h5)
  clear h3 h4 h5
  go_wp2_with fail
  go_end0
  exact ⟨rfl, H3.out, H4.out, H5.out⟩
set_option maxHeartbeats 2000000 in
set_option maxRecDepth 100000 in
/-- What writeExpr does with neg. -/
theorem writeNeg_w (B b : Nat) (l : List UInt8) (w : World) (h : Bld B b l w) (nm : ByteArray) (n0 : Int) (a0 : Nat) (kids : List Ex) (m : ByteArray) (n a : Int) (x : Option Addr) (lk c : Nat) (hi : IsP (fun k => k < B) w ⟨#[110, 101, 103]⟩ m n a x lk c (.mk ⟨#[110, 101, 103]⟩ nm n0 a0 kids)) (hw0 : Writes w B b (kids.getD 0 ex0))
    (hlen : l.length + (lp ++ [45] ++ sp ++ textE (kids.getD 0 ex0) ++ rp).length ≤ 140737488355328) :
    Calls Tryz.prog 26 #[.pointer (some ⟨b, 0, none⟩), exV ⟨#[110, 101, 103]⟩ m n a x lk c] w (GivesW B b l (lp ++ [45] ++ sp ++ textE (kids.getD 0 ex0) ++ rp) w) := by
  have hb1 : Below w.heap.size w (w.alloc (.cells #[.string ⟨#[110, 101, 103]⟩, .string m, .int .i64 n, .int .i64 a, .slice x lk c] 54)) := (Below.refl _ _).alloc (Nat.le_refl _) _
  have hn1 := heap_alloc_new w (.cells #[.string ⟨#[110, 101, 103]⟩, .string m, .int .i64 n, .int .i64 a, .slice x lk c] 54)
  have h1 := h.below hb1
  have hsz := h.2
  have hi1 := hi.low (hb1.mono hsz)
  have hc0 := cell_of_row _ w.heap.size 0 _ _ _ hn1
  have ka := writeAhead_any B b l _ h1 ⟨#[45]⟩ ⟨#[110, 101, 103]⟩ nm n0 a0 kids ⟨#[110, 101, 103]⟩ m n a x lk c hi1 (hw0.mono (hb1.mono hsz)) hlen
  have HSE := Lib.hid size_expr
  have HL := Lib.hid hn1
  have HB := Lib.hid (hb1.mono hsz)
  have HW := Lib.hid (Wrote.below (b := b) hb1)
  have KA := Lib.hid ka
  unfold exV at KA ⊢
  clear hi h hb1 hn1 h1 hi1 hlen hw0 ka
  go_enter Tryz.func26, Tryz.ntmps26
  go_wp2_with (refine wpList_load_row rfl 54 (.tmp 3) rfl w.heap.size rfl 54 #[.string ⟨#[110, 101, 103]⟩, .string m, .int .i64 n, .int .i64 a, .slice x lk c] (0, 0) _ HL.out Tryz.underlying54 rfl HSE.out ?_)
  (with_reducible refine KA.out.mono ?_)
  rintro e w3 ⟨rfl, h3, h4, h5⟩
  have H3 := Lib.hid h3
  have H4 := Lib.hid (HB.out.trans h4)
  have H5 := Lib.hid (HW.out.trans h5)
  clear h3 h4 h5
  go_wp2_with fail
  go_end0
  exact ⟨rfl, H3.out, H4.out, H5.out⟩
end Go.Proofs.YtjlnihennlkmpaaGreatDoor

namespace Go.Proofs
open Go.Shelf
def Tryz.lays121_ren : Go.Shelf.Ren := ⟨fun | 121 => 39 | 214 => 66 | n => n, fun | 4 => 4 | 9 => 9 | n => n, fun | n => n⟩
theorem Tryz.lays121 : Go.Proofs.Lays.n121 Tryz.prog Tryz.lays121_ren := {
  mixed := by kernel_rfl
  f121 := Tryz.func39.trans (congrArg some (by kernel_rfl))
  f214 := Tryz.func66.trans (congrArg some (by kernel_rfl))
  t4 := Tryz.underlying4
  a4 := Tryz.isAgg4
  z4 := Tryz.sizeOf4
  v4 := Tryz.zeroValue4
  t9 := Tryz.underlying9
  a9 := Tryz.isAgg9
  z9 := Tryz.sizeOf9
  v9 := Tryz.zeroValue9 }
open Go.RowKit in
theorem Tryz.strconv_FormatBool (b : Bool) (w : World) :
    Calls Tryz.prog 39 #[.bool b] w fun e w' => e = .returned (.string ⟨(Lib.formatBool b).toArray⟩) ∧ w' = w := Any.strconv_FormatBool Tryz.lays121 b w
def Tryz.laysM173_ren : Go.Shelf.Ren := ⟨fun | 173 => 38 | 246 => 65 | 283 => 79 | 284 => 80 | 285 => 81 | 286 => 82 | 129 => 95 | 317 => 94 | 318 => 96 | 319 => 97 | 320 => 98 | 337 => 112 | 338 => 113 | n => n, fun | 2 => 2 | 3 => 3 | 9 => 9 | 4 => 4 | 171 => 119 | 0 => 0 | 53 => 120 | 37 => 64 | 5 => 5 | 173 => 123 | 212 => 136 | 51 => 137 | 20 => 20 | 213 => 138 | 46 => 140 | 232 => 158 | 233 => 159 | n => n, fun | 17 => 0 | 18 => 4 | 19 => 5 | n => n⟩
theorem Tryz.laysM173 : Go.Proofs.LaysM.n173 Tryz.prog Tryz.laysM173_ren := {
  mixed := by kernel_rfl
  f129 := Tryz.func95.trans (congrArg some (by kernel_rfl))
  f173 := Tryz.func38.trans (congrArg some (by kernel_rfl))
  f246 := Tryz.func65.trans (congrArg some (by kernel_rfl))
  f283 := Tryz.func79.trans (congrArg some (by kernel_rfl))
  f284 := Tryz.func80.trans (congrArg some (by kernel_rfl))
  f285 := Tryz.func81.trans (congrArg some (by kernel_rfl))
  f286 := Tryz.func82.trans (congrArg some (by kernel_rfl))
  f317 := Tryz.func94.trans (congrArg some (by kernel_rfl))
  f318 := Tryz.func96.trans (congrArg some (by kernel_rfl))
  f319 := Tryz.func97.trans (congrArg some (by kernel_rfl))
  f320 := Tryz.func98.trans (congrArg some (by kernel_rfl))
  f337 := Tryz.func112.trans (congrArg some (by kernel_rfl))
  f338 := Tryz.func113.trans (congrArg some (by kernel_rfl))
  t0 := Tryz.underlying0
  a0 := Tryz.isAgg0
  z0 := Tryz.sizeOf0
  v0 := Tryz.zeroValue0
  t2 := Tryz.underlying2
  a2 := Tryz.isAgg2
  z2 := Tryz.sizeOf2
  v2 := Tryz.zeroValue2
  t3 := Tryz.underlying3
  a3 := Tryz.isAgg3
  z3 := Tryz.sizeOf3
  v3 := Tryz.zeroValue3
  t4 := Tryz.underlying4
  a4 := Tryz.isAgg4
  z4 := Tryz.sizeOf4
  v4 := Tryz.zeroValue4
  t5 := Tryz.underlying5
  a5 := Tryz.isAgg5
  z5 := Tryz.sizeOf5
  v5 := Tryz.zeroValue5
  t9 := Tryz.underlying9
  a9 := Tryz.isAgg9
  z9 := Tryz.sizeOf9
  v9 := Tryz.zeroValue9
  t20 := Tryz.underlying20
  a20 := Tryz.isAgg20
  z20 := Tryz.sizeOf20
  v20 := Tryz.zeroValue20
  t37 := Tryz.underlying64
  a37 := Tryz.isAgg64
  z37 := Tryz.sizeOf64
  v37 := Tryz.zeroValue64
  t46 := Tryz.underlying140
  a46 := Tryz.isAgg140
  z46 := Tryz.sizeOf140
  v46 := Tryz.zeroValue140
  t51 := Tryz.underlying137
  a51 := Tryz.isAgg137
  z51 := Tryz.sizeOf137
  v51 := Tryz.zeroValue137
  t53 := Tryz.underlying120
  a53 := Tryz.isAgg120
  z53 := Tryz.sizeOf120
  v53 := Tryz.zeroValue120
  t171 := Tryz.underlying119
  a171 := Tryz.isAgg119
  z171 := Tryz.sizeOf119
  v171 := Tryz.zeroValue119
  t173 := Tryz.underlying123
  a173 := Tryz.isAgg123
  z173 := Tryz.sizeOf123
  v173 := Tryz.zeroValue123
  t212 := Tryz.underlying136
  a212 := Tryz.isAgg136
  z212 := Tryz.sizeOf136
  v212 := Tryz.zeroValue136
  t213 := Tryz.underlying138
  a213 := Tryz.isAgg138
  z213 := Tryz.sizeOf138
  t232 := Tryz.underlying158
  a232 := Tryz.isAgg158
  z232 := Tryz.sizeOf158
  v232 := Tryz.zeroValue158
  t233 := Tryz.underlying159
  a233 := Tryz.isAgg159
  z233 := Tryz.sizeOf159
  v233 := Tryz.zeroValue159
  g17 := by kernel_rfl
  g18 := by kernel_rfl
  g19 := by kernel_rfl
  i0 := by kernel_rfl
  i2 := by kernel_rfl
  i3 := by kernel_rfl
  i4 := by kernel_rfl
  i5 := by kernel_rfl
  i9 := by kernel_rfl
  i20 := by kernel_rfl
  i37 := by kernel_rfl
  i46 := by kernel_rfl
  i51 := by kernel_rfl
  i53 := by kernel_rfl
  i171 := by kernel_rfl
  i173 := by kernel_rfl
  i212 := by kernel_rfl
  i232 := by kernel_rfl
  i233 := by kernel_rfl
  m17 := by kernel_rfl
  m18 := by kernel_rfl
  m19 := by kernel_rfl }
open Go.RowKit Go.Sort Go.Lib in
theorem Tryz.strconv_FormatInt_10 (n : Int) (h0 : -9223372036854775808 ≤ n) (h1 : n ≤ 9223372036854775807) (w : World) (htab : Lib.TabIs Tryz.prog w "internal/strconv.uint64pow10" .u64 Lib.pow10Tab) :
    Calls Tryz.prog 38 #[.int .i64 n, .int .i64 10] w fun e w' => e = .returned (.string ⟨(Lib.itoa n).toArray⟩) ∧ ∃ k os, w' = grow (w.drewN k) os := Any.strconv_FormatInt_10 Tryz.laysM173 n h0 h1 w htab
end Go.Proofs

namespace Go.Proofs.YtjlnihennlkmpaaGreatDoor
open Go Go.RowKit
set_option maxHeartbeats 2000000 in
set_option maxRecDepth 100000 in
/-- What writeExpr does with a bool. -/
theorem writeBool_w (B b : Nat) (l : List UInt8) (w : World) (h : Bld B b l w) (m : ByteArray) (n a : Int) (x : Option Addr) (lk c : Nat) (hlen : l.length + (Lib.formatBool (n != 0)).length ≤ 140737488355328) :
    Calls Tryz.prog 26 #[.pointer (some ⟨b, 0, none⟩), exV ⟨#[98, 111, 111, 108]⟩ m n a x lk c] w (GivesW B b l (Lib.formatBool (n != 0)) w) := by
  have hb1 : Below w.heap.size w (w.alloc (.cells #[.string ⟨#[98, 111, 111, 108]⟩, .string m, .int .i64 n, .int .i64 a, .slice x lk c] 54)) := (Below.refl _ _).alloc (Nat.le_refl _) _
  have hn1 := heap_alloc_new w (.cells #[.string ⟨#[98, 111, 111, 108]⟩, .string m, .int .i64 n, .int .i64 a, .slice x lk c] 54)
  have hs1 : (w.alloc (.cells #[.string ⟨#[98, 111, 111, 108]⟩, .string m, .int .i64 n, .int .i64 a, .slice x lk c] 54)).heap.size = w.heap.size + 1 := by simp
  have h1 := h.below hb1
  have hsz := h.2
  have hc0 := cell_of_row _ w.heap.size 0 _ _ _ hn1
  have hc2 := cell_of_row _ w.heap.size 2 _ _ _ hn1
  have HB := Lib.hid (hb1.mono hsz)
  have HW := Lib.hid (Wrote.below (b := b) hb1)
  by_cases hz : n = 0
  · subst hz
    have hv : ((0 : Int) != 0) = false := rfl
    rw [hv] at hlen ⊢
    have hj : joined [⟨(Lib.formatBool false).toArray⟩] = Lib.formatBool false := by simp [joined]
    have kf : ∀ W, Calls Tryz.prog 39 #[.bool false] W fun e w' => e = .returned (.string ⟨(Lib.formatBool false).toArray⟩) ∧ w' = W := fun W => Tryz.strconv_FormatBool false W
    obtain ⟨F, hF⟩ : ∃ F : List UInt8, F = Lib.formatBool false := ⟨_, rfl⟩
    rw [← hF] at hlen hj kf ⊢
    have ks := say_at B b l _ h1 [⟨F.toArray⟩] 1 (w.heap.size + 1) #[.string ⟨F.toArray⟩] F hs1 rfl rfl hj (by decide) hlen
    have KF := Lib.hid kf
    have KS := Lib.hid ks
    unfold exV
    clear h hb1 hn1 h1 hlen ks kf hj hs1 hF
    go_enter Tryz.func26, Tryz.ntmps26
    go_wp2_with fail
    (with_reducible refine (KF.out _).mono ?_)
    rintro e w2 ⟨rfl, rfl⟩
    go_wp2_with fail
    (with_reducible refine KS.out.mono ?_)
    rintro e w3 ⟨rfl, h3, h4, h5⟩
    have H3 := Lib.hid h3
    have H4 := Lib.hid (HB.out.trans h4)
    have H5 := Lib.hid (HW.out.trans h5)
    clear h3 h4 h5
    go_wp2_with fail
    go_end0
    exact ⟨rfl, H3.out, H4.out, H5.out⟩
  · have hv : (n != 0) = true := by simpa using hz
    have hne : (n == 0) = false := by simpa using hz
    rw [hv] at hlen ⊢
    have HZ := Lib.hid hz
    clear hz
    have hj : joined [⟨(Lib.formatBool true).toArray⟩] = Lib.formatBool true := by simp [joined]
    have kf : ∀ W, Calls Tryz.prog 39 #[.bool true] W fun e w' => e = .returned (.string ⟨(Lib.formatBool true).toArray⟩) ∧ w' = W := fun W => Tryz.strconv_FormatBool true W
    obtain ⟨F, hF⟩ : ∃ F : List UInt8, F = Lib.formatBool true := ⟨_, rfl⟩
    rw [← hF] at hlen hj kf ⊢
    have ks := say_at B b l _ h1 [⟨F.toArray⟩] 1 (w.heap.size + 1) #[.string ⟨F.toArray⟩] F hs1 rfl rfl hj (by decide) hlen
    have KF := Lib.hid kf
    have KS := Lib.hid ks
    unfold exV
    clear h hb1 hn1 h1 hlen ks kf hj hs1 hF
    go_enter Tryz.func26, Tryz.ntmps26
    go_wp2_with fail
    (with_reducible refine (KF.out _).mono ?_)
    rintro e w2 ⟨rfl, rfl⟩
    go_wp2_with fail
    (with_reducible refine KS.out.mono ?_)
    rintro e w3 ⟨rfl, h3, h4, h5⟩
    have H3 := Lib.hid h3
    have H4 := Lib.hid (HB.out.trans h4)
    have H5 := Lib.hid (HW.out.trans h5)
    clear h3 h4 h5
    go_wp2_with fail
    go_end0
    exact ⟨rfl, H3.out, H4.out, H5.out⟩
end Go.Proofs.YtjlnihennlkmpaaGreatDoor

namespace Go.Proofs.YtjlnihennlkmpaaGreatDoor
open Go Go.RowKit
set_option maxHeartbeats 2000000 in
set_option maxRecDepth 100000 in
/-- What writeExpr does with a number. -/
theorem writeInt_w (B b : Nat) (l : List UInt8) (w : World) (h : Bld B b l w) (htb : Lib.TabBelow Tryz.prog B w "internal/strconv.uint64pow10" .u64 Lib.pow10Tab) (m : ByteArray) (n a : Int) (hn0 : -9223372036854775808 ≤ n) (hn9 : n ≤ 9223372036854775807) (x : Option Addr) (lk c : Nat) (hlen : l.length + (Lib.itoa n).length ≤ 140737488355328) :
    Calls Tryz.prog 26 #[.pointer (some ⟨b, 0, none⟩), exV ⟨#[105, 110, 116]⟩ m n a x lk c] w (GivesW B b l (Lib.itoa n) w) := by
  have hb1 : Below w.heap.size w (w.alloc (.cells #[.string ⟨#[105, 110, 116]⟩, .string m, .int .i64 n, .int .i64 a, .slice x lk c] 54)) := (Below.refl _ _).alloc (Nat.le_refl _) _
  have hn1 := heap_alloc_new w (.cells #[.string ⟨#[105, 110, 116]⟩, .string m, .int .i64 n, .int .i64 a, .slice x lk c] 54)
  have h1 := h.below hb1
  have hsz := h.2
  have htab := htb _ (hb1.mono hsz)
  have hc0 := cell_of_row _ w.heap.size 0 _ _ _ hn1
  have hc2 := cell_of_row _ w.heap.size 2 _ _ _ hn1
  have hj : joined [⟨(Lib.itoa n).toArray⟩] = Lib.itoa n := by simp [joined]
  have kf := Tryz.strconv_FormatInt_10 n hn0 hn9 (w.alloc (.cells #[.string ⟨#[105, 110, 116]⟩, .string m, .int .i64 n, .int .i64 a, .slice x lk c] 54)) htab
  obtain ⟨F, hF⟩ : ∃ F : List UInt8, F = Lib.itoa n := ⟨_, rfl⟩
  rw [← hF] at hlen hj kf ⊢
  have ks := fun (W : World) (hb : Bld B b l W) => say_at B b l W hb [⟨F.toArray⟩] 1 W.heap.size #[.string ⟨F.toArray⟩] F rfl rfl rfl hj (by decide) hlen
  have kb := Lib.below_grow (w.alloc (.cells #[.string ⟨#[105, 110, 116]⟩, .string m, .int .i64 n, .int .i64 a, .slice x lk c] 54)).heap.size (w.alloc (.cells #[.string ⟨#[105, 110, 116]⟩, .string m, .int .i64 n, .int .i64 a, .slice x lk c] 54)) (Nat.le_refl _)
  obtain ⟨w1, hww⟩ : ∃ w1, w1 = (w.alloc (.cells #[.string ⟨#[105, 110, 116]⟩, .string m, .int .i64 n, .int .i64 a, .slice x lk c] 54)) := ⟨_, rfl⟩
  rw [← hww] at hb1 h1 kf kb
  have HB := Lib.hid (hb1.mono hsz)
  have HW := Lib.hid (Wrote.below (b := b) hb1)
  have HWW := Lib.hid hww
  have H1 := Lib.hid h1
  have KF := Lib.hid kf
  have KS := Lib.hid ks
  have KB := Lib.hid kb
  unfold exV
  clear h hb1 hn1 h1 hlen ks kf hj hF htb htab hww kb hn0 hn9
  go_enter Tryz.func26, Tryz.ntmps26
  go_wp2_with fail
  rw [← HWW.out]
  (with_reducible refine KF.out.mono ?_)
  rintro e w2 ⟨rfl, k, os, hw2⟩
  have hb2 := KB.out k os
  rw [← hw2] at hb2
  have k2 := KS.out w2 (H1.out.below hb2)
  have HB2 := Lib.hid (HB.out.trans (hb2.mono H1.out.2))
  have HW2 := Lib.hid (HW.out.trans (Wrote.below hb2))
  clear hb2 hw2
  go_wp2_with fail
  (with_reducible refine k2.mono ?_)
  rintro e w3 ⟨rfl, h3, h4, h5⟩
  have H3 := Lib.hid h3
  have H4 := Lib.hid (HB2.out.trans h4)
  have H5 := Lib.hid (HW2.out.trans h5)
  clear h3 h4 h5 k2
  go_wp2_with fail
  go_end0
  exact ⟨rfl, H3.out, H4.out, H5.out⟩
end Go.Proofs.YtjlnihennlkmpaaGreatDoor

namespace Go.Proofs.YtjlnihennlkmpaaGreatDoor
open Go Go.RowKit
set_option maxHeartbeats 2000000 in
set_option maxRecDepth 100000 in
/-- What writeExpr does with a when. -/
theorem writeWhen_w (B b : Nat) (l : List UInt8) (w : World) (h : Bld B b l w) (n0 : Int) (a0 : Nat) (kids : List Ex) (m : ByteArray) (n a : Int) (x : Option Addr) (lk c : Nat) (hi : IsP (fun k => k < B) w ⟨#[119, 104, 101, 110]⟩ m n a x lk c (.mk ⟨#[119, 104, 101, 110]⟩ m n0 a0 kids)) (hw0 : Writes w B b (kids.getD 0 ex0))
    (hlen : l.length + (lp ++ textE (kids.getD 0 ex0) ++ ((whenT (n == 0)).data.toList ++ m.data.toList ++ rp)).length ≤ 140737488355328) :
    Calls Tryz.prog 26 #[.pointer (some ⟨b, 0, none⟩), exV ⟨#[119, 104, 101, 110]⟩ m n a x lk c] w (GivesW B b l (lp ++ textE (kids.getD 0 ex0) ++ ((whenT (n == 0)).data.toList ++ m.data.toList ++ rp)) w) := by
  have hb1 : Below w.heap.size w (w.alloc (.cells #[.string ⟨#[119, 104, 101, 110]⟩, .string m, .int .i64 n, .int .i64 a, .slice x lk c] 54)) := (Below.refl _ _).alloc (Nat.le_refl _) _
  have hn1 := heap_alloc_new w (.cells #[.string ⟨#[119, 104, 101, 110]⟩, .string m, .int .i64 n, .int .i64 a, .slice x lk c] 54)
  have hs1 : (w.alloc (.cells #[.string ⟨#[119, 104, 101, 110]⟩, .string m, .int .i64 n, .int .i64 a, .slice x lk c] 54)).heap.size = w.heap.size + 1 := by simp
  have h1 := h.below hb1
  have hsz := h.2
  have hlt := h.lt
  have hi1 := hi.low (hb1.mono hsz)
  obtain ⟨w1, hww⟩ : ∃ w1, w1 = (w.alloc (.cells #[.string ⟨#[119, 104, 101, 110]⟩, .string m, .int .i64 n, .int .i64 a, .slice x lk c] 54)) := ⟨_, rfl⟩
  rw [← hww] at hb1 hn1 hs1 h1 hi1
  have hc0 := cell_of_row w1 w.heap.size 0 _ _ _ hn1
  have hc1 := cell_of_row w1 w.heap.size 1 _ _ _ hn1
  obtain ⟨K0, hK0⟩ : ∃ K, K = kids.getD 0 ex0 := ⟨_, rfl⟩
  have kk0 : ∀ (W : World), IsP (fun k => k < B) W ⟨#[119, 104, 101, 110]⟩ m n a x lk c (.mk ⟨#[119, 104, 101, 110]⟩ m n0 a0 kids) → Calls Tryz.prog 42 #[exV ⟨#[119, 104, 101, 110]⟩ m n a x lk c, .int .i64 0] W (GivesP (fun k => k < B) K0 W) := fun W hi => by rw [hK0]; exact kidP_any (fun k => k < B) ⟨#[119, 104, 101, 110]⟩ m n0 a0 kids 0 W ⟨#[119, 104, 101, 110]⟩ m n a x lk c hi (by decide)
  rw [← hK0] at hw0 hlen ⊢
  obtain ⟨X0, hX0⟩ : ∃ X : List UInt8, X = lp := ⟨_, rfl⟩
  rw [← hX0] at hlen ⊢
  have hj0 : joined [⟨#[40]⟩] = X0 := by rw [hX0]; simp [joined, lp, rp, sp]
  obtain ⟨X2, hX2⟩ : ∃ X : List UInt8, X = ((whenT (n == 0)).data.toList ++ m.data.toList ++ rp) := ⟨_, rfl⟩
  rw [← hX2] at hlen ⊢
  have hj2 : joined [whenT (n == 0), m, ⟨#[41]⟩] = X2 := by rw [hX2]; simp [joined, lp, rp, sp]
  try simp only [List.length_append] at hlen
  have s0 := say_at B b l w1 h1 [⟨#[40]⟩] 1 (w.heap.size + 1) #[.string ⟨#[40]⟩] X0 hs1 rfl rfl hj0 (by decide) (by omega)
  have S0 := Lib.hid s0
  have S1 := Lib.hid (fun (W : World) (o m : ByteArray) (n a : Int) (x : Option Addr) (lk c : Nat) (hB : Below B w W) (hb : Bld B b (l ++ X0) W) (hp : IsP (fun k => k < B) W o m n a x lk c K0) => hw0 W (l ++ X0) o m n a x lk c hB hb hp (by simp only [List.length_append]; omega))
  have S2 := Lib.hid (fun (W : World) (v : Value) (hb : Bld B b (l ++ X0 ++ textE K0) W) (hr : wRow [whenT (n == 0), m, ⟨#[41]⟩] v W) => say_row B b (l ++ X0 ++ textE K0) W hb [whenT (n == 0), m, ⟨#[41]⟩] v hr X2 hj2 (by simp) (by simp only [List.length_append]; omega))
  have HSE := Lib.hid size_expr
  have HL := Lib.hid hn1
  have HB := Lib.hid (hb1.mono hsz)
  have HW := Lib.hid (Wrote.below (b := b) hb1)
  have HI := Lib.hid hi1
  have HW1 := Lib.hid hww
  rw [hww] at hc0 hc1
  have KK0 := Lib.hid kk0
  unfold exV at KK0 S1 ⊢
  clear hi h hb1 hn1 h1 hi1 hww hlen s0 hw0 kk0 hK0 hj0 hX0 hj2 hX2
  go_enter Tryz.func26, Tryz.ntmps26
  go_wp2_with fail
  rw [← HW1.out]
  (with_reducible refine S0.out.mono ?_)
  rintro e u2 ⟨rfl, hh, hb, hw⟩
  have hz2 := hw.size
  have HL' := Lib.hid ((hw.block w.heap.size (Array.getElem?_eq_some_iff.1 HL.out).1 (by omega) (fun cs fr e => by rw [HL.out] at e; injection e with e; injection e with _ e _; exact absurd e (by decide))).trans HL.out)
  have HB' := Lib.hid (HB.out.trans hb)
  have HW' := Lib.hid (HW.out.trans hw)
  have HI' := Lib.hid (HI.out.low hb)
  have HH := Lib.hid hh
  clear hh hb hw S0 HL HB HW HI
  have HL := HL'
  have HB := HB'
  have HW := HW'
  have HI := HI'
  clear HL' HB' HW' HI'
  have c0_2 := cell_of_row u2 w.heap.size 0 _ _ _ HL.out
  have c1_2 := cell_of_row u2 w.heap.size 1 _ _ _ HL.out
  have kk := KK0.out u2 HI.out
  go_wp2_with (refine wpList_load_row rfl 54 (.tmp 3) rfl w.heap.size rfl 54 #[.string ⟨#[119, 104, 101, 110]⟩, .string m, .int .i64 n, .int .i64 a, .slice x lk c] (0, 0) _ HL.out Tryz.underlying54 rfl HSE.out ?_)
  (with_reducible refine kk.mono ?_)
  rintro e v3 ⟨o3, m3, n3, a3, x3, l3, c3, rfl, hi3, hb3⟩
  have kx := S1.out v3 o3 m3 n3 a3 x3 l3 c3 (HB.out.trans (hb3.mono HH.out.2)) (HH.out.below hb3) hi3
  have hz3 := hb3.size
  have HL' := Lib.hid ((hb3.block w.heap.size (Array.getElem?_eq_some_iff.1 HL.out).1).trans HL.out)
  have HB' := Lib.hid (HB.out.trans (hb3.mono HH.out.2))
  have HW' := Lib.hid (HW.out.trans (Wrote.below hb3))
  have HI' := Lib.hid (HI.out.low (hb3.mono HH.out.2))
  clear hi3 hb3 kk HL HB HW HI HH
  have HL := HL'
  have HB := HB'
  have HW := HW'
  have HI := HI'
  clear HL' HB' HW' HI'
  unfold exV
  go_wp2_with fail
  (with_reducible refine kx.mono ?_)
  rintro e u4 ⟨rfl, hh, hb, hw⟩
  have hz4 := hw.size
  have HL' := Lib.hid ((hw.block w.heap.size (Array.getElem?_eq_some_iff.1 HL.out).1 (by omega) (fun cs fr e => by rw [HL.out] at e; injection e with e; injection e with _ e _; exact absurd e (by decide))).trans HL.out)
  have HB' := Lib.hid (HB.out.trans hb)
  have HW' := Lib.hid (HW.out.trans hw)
  have HI' := Lib.hid (HI.out.low hb)
  have HH := Lib.hid hh
  clear hh hb hw kx HL HB HW HI
  have HL := HL'
  have HB := HB'
  have HW := HW'
  have HI := HI'
  clear HL' HB' HW' HI'
  have c0_4 := cell_of_row u4 w.heap.size 0 _ _ _ HL.out
  have c1_4 := cell_of_row u4 w.heap.size 1 _ _ _ HL.out
  go_wp2_with fail
  refine wp_region_steps_then (words [wIs (.pointer (some ⟨b, 0, none⟩)), wIs (.pointer (some ⟨w.heap.size, 2, none⟩)), wIs (.int .i64 n), wIs (.bool (n == 0)), wIs (.string (whenT (n == 0))), wIs (.pointer (some ⟨w.heap.size, 1, none⟩)), wIs (.string m), wRow [whenT (n == 0), m, ⟨#[41]⟩]]) u4.heap.size u4 (by kernel_rfl) (Below.refl _ _) (Nat.le_refl _) (words_stable ?stab) rfl rfl rfl (by kernel_rfl) _ rfl ?steps ?last
  case stab =>
    intro f hf
    simp only [List.mem_cons, List.not_mem_nil, or_false] at hf
    rcases hf with rfl | rfl | rfl | rfl | rfl | rfl | rfl | rfl <;> first | exact stable_is _ | exact stable_row _
  case steps =>
    refine Steps.cons (step_value rfl fun a W hp => ⟨wanted_none rfl, _, _, run_move (.inl rfl), hp.old 0 rfl, Below.refl _ _⟩) ?_
    refine Steps.cons (step_value rfl fun a W hp => ?_) ?_
    · have f1 : a.tmps.getD 3 undef = (.pointer (some ⟨w.heap.size, 0, none⟩)) := hp.old 3 rfl
      refine ⟨wanted_none rfl, _, _, run_fa rfl ?_, rfl, Below.refl _ _⟩
      show (Instr.fieldAt _ (a.tmps.getD 3 undef) _).run _ W = _
      rw [f1]
      exact fa_expr2 _ W
    refine Steps.cons (step_value rfl fun a W hp => ?_) ?_
    · have f1 : a.tmps.getD 94 undef = (.pointer (some ⟨w.heap.size, 2, none⟩)) := (hp.on_ 1 rfl rfl rfl).2
      exact ⟨wanted_none rfl, _, _, run_ldi64 rfl f1 (cell_of_row W w.heap.size 2 _ _ _ ((hp.below.block w.heap.size (Array.getElem?_eq_some_iff.1 HL.out).1).trans HL.out)), rfl, Below.refl _ _⟩
    refine Steps.cons (step_value rfl fun a W hp => ?_) ?_
    · have f1 : a.tmps.getD 95 undef = .int .i64 n := (hp.on_ 2 rfl rfl rfl).2
      refine ⟨wanted_none rfl, _, _, run_bin3 rfl (v := .bool (n == 0)) ?_ ?_, rfl, Below.refl _ _⟩
      · show (eqGuard .eql _ _ _ (a.tmps.getD 95 undef) _).run _ W = _
        rw [f1]
        rfl
      · show (binOp .eql _ (a.tmps.getD 95 undef) _).run _ W = _
        rw [f1]
        simp [go_sem]
    refine Steps.cons (step_enter rfl fun a W hp => ?_) ?_
    · have f1 : a.tmps.getD 96 undef = .bool (n == 0) := (hp.on_ 3 rfl rfl rfl).2
      refine ⟨wanted_none rfl, 43, _, run_enter1 rfl rfl Tryz.call43, ?_⟩
      show Calls _ _ #[a.tmps.getD 96 undef] W _
      rw [f1]
      exact (whenWord_any (n == 0) W).mono (fun e W' ⟨he, hm⟩ => ⟨_, he, rfl, by rw [hm]; exact Below.refl _ _⟩)
    refine Steps.cons (step_value rfl fun a W hp => ?_) ?_
    · have f1 : a.tmps.getD 3 undef = (.pointer (some ⟨w.heap.size, 0, none⟩)) := hp.old 3 rfl
      refine ⟨wanted_none rfl, _, _, run_fa rfl ?_, rfl, Below.refl _ _⟩
      show (Instr.fieldAt _ (a.tmps.getD 3 undef) _).run _ W = _
      rw [f1]
      exact fa_expr1 _ W
    refine Steps.cons (step_value rfl fun a W hp => ?_) ?_
    · have f1 : a.tmps.getD 98 undef = (.pointer (some ⟨w.heap.size, 1, none⟩)) := (hp.on_ 5 rfl rfl rfl).2
      exact ⟨wanted_none rfl, _, _, run_ldstr rfl f1 (cell_of_row W w.heap.size 1 _ _ _ ((hp.below.block w.heap.size (Array.getElem?_eq_some_iff.1 HL.out).1).trans HL.out)), rfl, Below.refl _ _⟩
    refine Steps.cons (step_value rfl fun a W hp => ?_) ?_
    · have f1 : a.tmps.getD 97 undef = .string (whenT (n == 0)) := (hp.on_ 4 rfl rfl rfl).2
      have f2 : a.tmps.getD 99 undef = .string m := (hp.on_ 6 rfl rfl rfl).2
      refine ⟨wanted_none rfl, _, _, run_bsl3 rfl ?_, wRow_new3 _ _ _ W, (Below.refl _ _).alloc (Nat.le_refl _) _⟩
      show (Instr.buildSlice _ 3 #[(0, a.tmps.getD 97 undef), (1, a.tmps.getD 99 undef), (2, _)]).run _ W = _
      rw [f1, f2]
      exact bsl3 _ _ _ W
    exact Steps.nil
  case last =>
    intro a W hI
    have f1 : a.tmps.getD 93 undef = .pointer (some ⟨b, 0, none⟩) := hI.new 0 _ 93 rfl rfl rfl
    have f2 : wRow [whenT (n == 0), m, ⟨#[41]⟩] (a.tmps.getD 100 undef) W := hI.new 7 _ 100 rfl rfl rfl
    have hdf : a.defers = [] := hI.defers
    have ks := S2.out W _ (HH.out.below hI.below) f2
    have HB' := Lib.hid (HB.out.trans (hI.below.mono HH.out.2))
    have HW' := Lib.hid (HW.out.trans (Wrote.below hI.below))
    clear hI
    refine wpOp_of rfl (wanted_none rfl) ?_
    unfold Oper.wp
    rw [run_enter2 rfl rfl Tryz.call32, Oper.upon_enter]
    rw [← f1] at ks
    show Calls _ _ #[a.tmps.getD 93 undef, a.tmps.getD 100 undef] _ _
    (with_reducible refine ks.mono ?_)
    rintro e W' ⟨rfl, h3, h4, h5⟩
    have H3 := Lib.hid h3
    have H4 := Lib.hid (HB'.out.trans h4)
    have H5 := Lib.hid (HW'.out.trans h5)
    clear h3 h4 h5 ks
    show Exit.inBlock 0 _ Exit.normal (a.put (some 101) (Value.tuple #[])) W'
    have gd : (a.put (some 101) (Value.tuple #[])).defers = [] := put_defers.trans hdf
    generalize a.put (some 101) (Value.tuple #[]) = a2 at gd ⊢
    (try simp only [Exit.inBlock, Exit.then])
    refine bodyPost_end (results_none rfl _ _ _) gd ?_
    refine ⟨rfl, ?_, H4.out, H5.out⟩
    have := H3.out
    simpa [List.append_assoc] using this
end Go.Proofs.YtjlnihennlkmpaaGreatDoor

namespace Go.Proofs.YtjlnihennlkmpaaGreatDoor
open Go Go.RowKit
set_option maxHeartbeats 2000000 in
set_option maxRecDepth 100000 in
/-- What writeExpr does with a call. -/
theorem writeCallE_w (B b : Nat) (l : List UInt8) (w : World) (h : Bld B b l w) (nm : ByteArray) (n0 : Int) (a0 : Nat) (kids : List Ex) (m : ByteArray) (n a : Int) (x : Option Addr) (lk c : Nat) (hi : IsP (fun k => k < B) w ⟨#[99, 97, 108, 108]⟩ m n a x lk c (.mk ⟨#[99, 97, 108, 108]⟩ nm n0 a0 kids)) (hw : ∀ i, i < kids.length → Writes w B b (kids.getD i ex0)) (hkn : kids.length < 1000000)
    (hlen : l.length + (m.data.toList ++ lp ++ commas ((textL kids).map (·.1)) ++ rp).length ≤ 140737488355328) :
    Calls Tryz.prog 26 #[.pointer (some ⟨b, 0, none⟩), exV ⟨#[99, 97, 108, 108]⟩ m n a x lk c] w (GivesW B b l (m.data.toList ++ lp ++ commas ((textL kids).map (·.1)) ++ rp) w) := by
  have hb1 : Below w.heap.size w (w.alloc (.cells #[.string ⟨#[99, 97, 108, 108]⟩, .string m, .int .i64 n, .int .i64 a, .slice x lk c] 54)) := (Below.refl _ _).alloc (Nat.le_refl _) _
  have hn1 := heap_alloc_new w (.cells #[.string ⟨#[99, 97, 108, 108]⟩, .string m, .int .i64 n, .int .i64 a, .slice x lk c] 54)
  have h1 := h.below hb1
  have hsz := h.2
  have hi1 := hi.low (hb1.mono hsz)
  have hc0 := cell_of_row _ w.heap.size 0 _ _ _ hn1
  have ka := writeCall_any B b l _ h1 ⟨#[99, 97, 108, 108]⟩ nm n0 a0 kids ⟨#[99, 97, 108, 108]⟩ m n a x lk c hi1 (fun i hi => (hw i hi).mono (hb1.mono hsz)) hkn hlen
  have HSE := Lib.hid size_expr
  have HL := Lib.hid hn1
  have HB := Lib.hid (hb1.mono hsz)
  have HW := Lib.hid (Wrote.below (b := b) hb1)
  obtain ⟨X, hX⟩ : ∃ X, X = m.data.toList ++ lp ++ commas ((textL kids).map (·.1)) ++ rp := ⟨_, rfl⟩
  rw [← hX] at ka ⊢
  have KA := Lib.hid ka
  unfold exV at KA ⊢
  clear hi h hb1 hn1 h1 hi1 hlen hw ka hX hkn
  go_enter Tryz.func26, Tryz.ntmps26
  go_wp2_with (refine wpList_load_row rfl 54 (.tmp 3) rfl w.heap.size rfl 54 #[.string ⟨#[99, 97, 108, 108]⟩, .string m, .int .i64 n, .int .i64 a, .slice x lk c] (0, 0) _ HL.out Tryz.underlying54 rfl HSE.out ?_)
  (with_reducible refine KA.out.mono ?_)
  rintro e w3 ⟨rfl, h3, h4, h5⟩
  have H3 := Lib.hid h3
  have H4 := Lib.hid (HB.out.trans h4)
  have H5 := Lib.hid (HW.out.trans h5)
  clear h3 h4 h5
  go_wp2_with fail
  go_end0
  exact ⟨rfl, H3.out, H4.out, H5.out⟩
end Go.Proofs.YtjlnihennlkmpaaGreatDoor

namespace Go.Proofs.YtjlnihennlkmpaaGreatDoor
open Go Go.RowKit
mutual
/-- A tree whose numbers fit, of not too many kids. -/
def FineE : Ex → Prop
  | .mk _ _ n _ kids => (-9223372036854775808 ≤ n ∧ n ≤ 9223372036854775807) ∧ kids.length < 1000000 ∧ FineL kids
def FineL : List Ex → Prop
  | [] => True
  | e :: r => FineE e ∧ FineL r
end
theorem textE_105_110_116 (nm : ByteArray) (n : Int) (a : Nat) (kids : List Ex) : textE (.mk ⟨#[105, 110, 116]⟩ nm n a kids) = Lib.itoa n := by
  have h : textE (.mk ⟨#[105, 110, 116]⟩ nm n a kids) = Lib.itoa n := by unfold textE; rfl
  rw [h]
theorem textE_98_111_111_108 (nm : ByteArray) (n : Int) (a : Nat) (kids : List Ex) : textE (.mk ⟨#[98, 111, 111, 108]⟩ nm n a kids) = Lib.formatBool (n != 0) := by
  have h : textE (.mk ⟨#[98, 111, 111, 108]⟩ nm n a kids) = Lib.formatBool (n != 0) := by unfold textE; rfl
  rw [h]
theorem textE_118_97_114 (nm : ByteArray) (n : Int) (a : Nat) (kids : List Ex) : textE (.mk ⟨#[118, 97, 114]⟩ nm n a kids) = nm.data.toList := by
  have h : textE (.mk ⟨#[118, 97, 114]⟩ nm n a kids) = nm.data.toList := by unfold textE; rfl
  rw [h]
theorem textE_99_97_108_108 (nm : ByteArray) (n : Int) (a : Nat) (kids : List Ex) : textE (.mk ⟨#[99, 97, 108, 108]⟩ nm n a kids) = nm.data.toList ++ lp ++ commas ((textL kids).map (·.1)) ++ rp := by
  have h : textE (.mk ⟨#[99, 97, 108, 108]⟩ nm n a kids) = nm.data.toList ++ lp ++ commas ((textL kids).map (·.1)) ++ rp := by unfold textE; rfl
  rw [h]
theorem textE_110_111_116 (nm : ByteArray) (n : Int) (a : Nat) (kids : List Ex) : textE (.mk ⟨#[110, 111, 116]⟩ nm n a kids) = lp ++ [110, 111, 116] ++ sp ++ textE (kids.getD 0 ex0) ++ rp := by
  have h : textE (.mk ⟨#[110, 111, 116]⟩ nm n a kids) = lp ++ [110, 111, 116] ++ sp ++ ((textL kids).getD 0 ([], [])).1 ++ rp := by unfold textE; rfl
  rw [h]; simp only [textL_getD]
theorem textE_112_114_101 (nm : ByteArray) (n : Int) (a : Nat) (kids : List Ex) : textE (.mk ⟨#[112, 114, 101]⟩ nm n a kids) = lp ++ [112, 114, 101] ++ sp ++ textE (kids.getD 0 ex0) ++ rp := by
  have h : textE (.mk ⟨#[112, 114, 101]⟩ nm n a kids) = lp ++ [112, 114, 101] ++ sp ++ ((textL kids).getD 0 ([], [])).1 ++ rp := by unfold textE; rfl
  rw [h]; simp only [textL_getD]
theorem textE_110_101_103 (nm : ByteArray) (n : Int) (a : Nat) (kids : List Ex) : textE (.mk ⟨#[110, 101, 103]⟩ nm n a kids) = lp ++ [45] ++ sp ++ textE (kids.getD 0 ex0) ++ rp := by
  have h : textE (.mk ⟨#[110, 101, 103]⟩ nm n a kids) = lp ++ [45] ++ sp ++ ((textL kids).getD 0 ([], [])).1 ++ rp := by unfold textE; rfl
  rw [h]; simp only [textL_getD]
theorem textE_43 (nm : ByteArray) (n : Int) (a : Nat) (kids : List Ex) : textE (.mk ⟨#[43]⟩ nm n a kids) = lp ++ textE (kids.getD 0 ex0) ++ (sp ++ [43] ++ sp) ++ textE (kids.getD 1 ex0) ++ rp := by
  have h : textE (.mk ⟨#[43]⟩ nm n a kids) = lp ++ ((textL kids).getD 0 ([], [])).1 ++ (sp ++ [43] ++ sp) ++ ((textL kids).getD 1 ([], [])).1 ++ rp := by unfold textE; rfl
  rw [h]; simp only [textL_getD]
theorem textE_45 (nm : ByteArray) (n : Int) (a : Nat) (kids : List Ex) : textE (.mk ⟨#[45]⟩ nm n a kids) = lp ++ textE (kids.getD 0 ex0) ++ (sp ++ [45] ++ sp) ++ textE (kids.getD 1 ex0) ++ rp := by
  have h : textE (.mk ⟨#[45]⟩ nm n a kids) = lp ++ ((textL kids).getD 0 ([], [])).1 ++ (sp ++ [45] ++ sp) ++ ((textL kids).getD 1 ([], [])).1 ++ rp := by unfold textE; rfl
  rw [h]; simp only [textL_getD]
theorem textE_42 (nm : ByteArray) (n : Int) (a : Nat) (kids : List Ex) : textE (.mk ⟨#[42]⟩ nm n a kids) = lp ++ textE (kids.getD 0 ex0) ++ (sp ++ [42] ++ sp) ++ textE (kids.getD 1 ex0) ++ rp := by
  have h : textE (.mk ⟨#[42]⟩ nm n a kids) = lp ++ ((textL kids).getD 0 ([], [])).1 ++ (sp ++ [42] ++ sp) ++ ((textL kids).getD 1 ([], [])).1 ++ rp := by unfold textE; rfl
  rw [h]; simp only [textL_getD]
theorem textE_47 (nm : ByteArray) (n : Int) (a : Nat) (kids : List Ex) : textE (.mk ⟨#[47]⟩ nm n a kids) = lp ++ textE (kids.getD 0 ex0) ++ (sp ++ [47] ++ sp) ++ textE (kids.getD 1 ex0) ++ rp := by
  have h : textE (.mk ⟨#[47]⟩ nm n a kids) = lp ++ ((textL kids).getD 0 ([], [])).1 ++ (sp ++ [47] ++ sp) ++ ((textL kids).getD 1 ([], [])).1 ++ rp := by unfold textE; rfl
  rw [h]; simp only [textL_getD]
theorem textE_109_111_100 (nm : ByteArray) (n : Int) (a : Nat) (kids : List Ex) : textE (.mk ⟨#[109, 111, 100]⟩ nm n a kids) = lp ++ textE (kids.getD 0 ex0) ++ (sp ++ [109, 111, 100] ++ sp) ++ textE (kids.getD 1 ex0) ++ rp := by
  have h : textE (.mk ⟨#[109, 111, 100]⟩ nm n a kids) = lp ++ ((textL kids).getD 0 ([], [])).1 ++ (sp ++ [109, 111, 100] ++ sp) ++ ((textL kids).getD 1 ([], [])).1 ++ rp := by unfold textE; rfl
  rw [h]; simp only [textL_getD]
theorem textE_61 (nm : ByteArray) (n : Int) (a : Nat) (kids : List Ex) : textE (.mk ⟨#[61]⟩ nm n a kids) = lp ++ textE (kids.getD 0 ex0) ++ (sp ++ [61] ++ sp) ++ textE (kids.getD 1 ex0) ++ rp := by
  have h : textE (.mk ⟨#[61]⟩ nm n a kids) = lp ++ ((textL kids).getD 0 ([], [])).1 ++ (sp ++ [61] ++ sp) ++ ((textL kids).getD 1 ([], [])).1 ++ rp := by unfold textE; rfl
  rw [h]; simp only [textL_getD]
theorem textE_60_62 (nm : ByteArray) (n : Int) (a : Nat) (kids : List Ex) : textE (.mk ⟨#[60, 62]⟩ nm n a kids) = lp ++ textE (kids.getD 0 ex0) ++ (sp ++ [60, 62] ++ sp) ++ textE (kids.getD 1 ex0) ++ rp := by
  have h : textE (.mk ⟨#[60, 62]⟩ nm n a kids) = lp ++ ((textL kids).getD 0 ([], [])).1 ++ (sp ++ [60, 62] ++ sp) ++ ((textL kids).getD 1 ([], [])).1 ++ rp := by unfold textE; rfl
  rw [h]; simp only [textL_getD]
theorem textE_60 (nm : ByteArray) (n : Int) (a : Nat) (kids : List Ex) : textE (.mk ⟨#[60]⟩ nm n a kids) = lp ++ textE (kids.getD 0 ex0) ++ (sp ++ [60] ++ sp) ++ textE (kids.getD 1 ex0) ++ rp := by
  have h : textE (.mk ⟨#[60]⟩ nm n a kids) = lp ++ ((textL kids).getD 0 ([], [])).1 ++ (sp ++ [60] ++ sp) ++ ((textL kids).getD 1 ([], [])).1 ++ rp := by unfold textE; rfl
  rw [h]; simp only [textL_getD]
theorem textE_60_61 (nm : ByteArray) (n : Int) (a : Nat) (kids : List Ex) : textE (.mk ⟨#[60, 61]⟩ nm n a kids) = lp ++ textE (kids.getD 0 ex0) ++ (sp ++ [60, 61] ++ sp) ++ textE (kids.getD 1 ex0) ++ rp := by
  have h : textE (.mk ⟨#[60, 61]⟩ nm n a kids) = lp ++ ((textL kids).getD 0 ([], [])).1 ++ (sp ++ [60, 61] ++ sp) ++ ((textL kids).getD 1 ([], [])).1 ++ rp := by unfold textE; rfl
  rw [h]; simp only [textL_getD]
theorem textE_62 (nm : ByteArray) (n : Int) (a : Nat) (kids : List Ex) : textE (.mk ⟨#[62]⟩ nm n a kids) = lp ++ textE (kids.getD 0 ex0) ++ (sp ++ [62] ++ sp) ++ textE (kids.getD 1 ex0) ++ rp := by
  have h : textE (.mk ⟨#[62]⟩ nm n a kids) = lp ++ ((textL kids).getD 0 ([], [])).1 ++ (sp ++ [62] ++ sp) ++ ((textL kids).getD 1 ([], [])).1 ++ rp := by unfold textE; rfl
  rw [h]; simp only [textL_getD]
theorem textE_62_61 (nm : ByteArray) (n : Int) (a : Nat) (kids : List Ex) : textE (.mk ⟨#[62, 61]⟩ nm n a kids) = lp ++ textE (kids.getD 0 ex0) ++ (sp ++ [62, 61] ++ sp) ++ textE (kids.getD 1 ex0) ++ rp := by
  have h : textE (.mk ⟨#[62, 61]⟩ nm n a kids) = lp ++ ((textL kids).getD 0 ([], [])).1 ++ (sp ++ [62, 61] ++ sp) ++ ((textL kids).getD 1 ([], [])).1 ++ rp := by unfold textE; rfl
  rw [h]; simp only [textL_getD]
theorem textE_97_110_100 (nm : ByteArray) (n : Int) (a : Nat) (kids : List Ex) : textE (.mk ⟨#[97, 110, 100]⟩ nm n a kids) = lp ++ textE (kids.getD 0 ex0) ++ (sp ++ [97, 110, 100] ++ sp) ++ textE (kids.getD 1 ex0) ++ rp := by
  have h : textE (.mk ⟨#[97, 110, 100]⟩ nm n a kids) = lp ++ ((textL kids).getD 0 ([], [])).1 ++ (sp ++ [97, 110, 100] ++ sp) ++ ((textL kids).getD 1 ([], [])).1 ++ rp := by unfold textE; rfl
  rw [h]; simp only [textL_getD]
theorem textE_111_114 (nm : ByteArray) (n : Int) (a : Nat) (kids : List Ex) : textE (.mk ⟨#[111, 114]⟩ nm n a kids) = lp ++ textE (kids.getD 0 ex0) ++ (sp ++ [111, 114] ++ sp) ++ textE (kids.getD 1 ex0) ++ rp := by
  have h : textE (.mk ⟨#[111, 114]⟩ nm n a kids) = lp ++ ((textL kids).getD 0 ([], [])).1 ++ (sp ++ [111, 114] ++ sp) ++ ((textL kids).getD 1 ([], [])).1 ++ rp := by unfold textE; rfl
  rw [h]; simp only [textL_getD]
theorem textE_120_111_114 (nm : ByteArray) (n : Int) (a : Nat) (kids : List Ex) : textE (.mk ⟨#[120, 111, 114]⟩ nm n a kids) = lp ++ textE (kids.getD 0 ex0) ++ (sp ++ [120, 111, 114] ++ sp) ++ textE (kids.getD 1 ex0) ++ rp := by
  have h : textE (.mk ⟨#[120, 111, 114]⟩ nm n a kids) = lp ++ ((textL kids).getD 0 ([], [])).1 ++ (sp ++ [120, 111, 114] ++ sp) ++ ((textL kids).getD 1 ([], [])).1 ++ rp := by unfold textE; rfl
  rw [h]; simp only [textL_getD]
theorem textE_45_62 (nm : ByteArray) (n : Int) (a : Nat) (kids : List Ex) : textE (.mk ⟨#[45, 62]⟩ nm n a kids) = lp ++ textE (kids.getD 0 ex0) ++ (sp ++ [45, 62] ++ sp) ++ textE (kids.getD 1 ex0) ++ rp := by
  have h : textE (.mk ⟨#[45, 62]⟩ nm n a kids) = lp ++ ((textL kids).getD 0 ([], [])).1 ++ (sp ++ [45, 62] ++ sp) ++ ((textL kids).getD 1 ([], [])).1 ++ rp := by unfold textE; rfl
  rw [h]; simp only [textL_getD]
theorem textE_102_98_121 (nm : ByteArray) (n : Int) (a : Nat) (kids : List Ex) : textE (.mk ⟨#[102, 98, 121]⟩ nm n a kids) = lp ++ textE (kids.getD 0 ex0) ++ (sp ++ [102, 98, 121] ++ sp) ++ textE (kids.getD 1 ex0) ++ rp := by
  have h : textE (.mk ⟨#[102, 98, 121]⟩ nm n a kids) = lp ++ ((textL kids).getD 0 ([], [])).1 ++ (sp ++ [102, 98, 121] ++ sp) ++ ((textL kids).getD 1 ([], [])).1 ++ rp := by unfold textE; rfl
  rw [h]; simp only [textL_getD]
theorem textE_119_104_101_110 (nm : ByteArray) (n : Int) (a : Nat) (kids : List Ex) : textE (.mk ⟨#[119, 104, 101, 110]⟩ nm n a kids) = lp ++ textE (kids.getD 0 ex0) ++ ((whenT (n == 0)).data.toList ++ nm.data.toList ++ rp) := by
  have h : textE (.mk ⟨#[119, 104, 101, 110]⟩ nm n a kids) = lp ++ ((textL kids).getD 0 ([], [])).1 ++ ((whenT (n == 0)).data.toList ++ nm.data.toList ++ rp) := by unfold textE; rfl
  rw [h]; simp only [textL_getD]
theorem textE_105_102 (nm : ByteArray) (n : Int) (a : Nat) (kids : List Ex) : textE (.mk ⟨#[105, 102]⟩ nm n a kids) = lp ++ [105, 102, 32] ++ textE (kids.getD 0 ex0) ++ [32, 116, 104, 101, 110, 32] ++ textE (kids.getD 1 ex0) ++ [32, 101, 108, 115, 101, 32] ++ textE (kids.getD 2 ex0) ++ rp := by
  have h : textE (.mk ⟨#[105, 102]⟩ nm n a kids) = lp ++ [105, 102, 32] ++ ((textL kids).getD 0 ([], [])).1 ++ [32, 116, 104, 101, 110, 32] ++ ((textL kids).getD 1 ([], [])).1 ++ [32, 101, 108, 115, 101, 32] ++ ((textL kids).getD 2 ([], [])).1 ++ rp := by unfold textE; rfl
  rw [h]; simp only [textL_getD]
theorem textE_109_101_114_103_101 (nm : ByteArray) (n : Int) (a : Nat) (kids : List Ex) : textE (.mk ⟨#[109, 101, 114, 103, 101]⟩ nm n a kids) = [40, 109, 101, 114, 103, 101, 32] ++ nm.data.toList ++ sp ++ primE (kids.getD 0 ex0) ++ sp ++ primE (kids.getD 1 ex0) ++ rp := by
  have h : textE (.mk ⟨#[109, 101, 114, 103, 101]⟩ nm n a kids) = [40, 109, 101, 114, 103, 101, 32] ++ nm.data.toList ++ sp ++ ((textL kids).getD 0 ([], [])).2 ++ sp ++ ((textL kids).getD 1 ([], [])).2 ++ rp := by unfold textE; rfl
  rw [h]; simp only [textL_getD]
theorem textOp_other (op nm : ByteArray) (n : Int) (ts : List (List UInt8 × List UInt8)) (hne : ∀ z, z ∈ ([[105, 110, 116], [98, 111, 111, 108], [118, 97, 114], [99, 97, 108, 108], [110, 111, 116], [112, 114, 101], [110, 101, 103], [43], [45], [42], [47], [109, 111, 100], [61], [60, 62], [60], [60, 61], [62], [62, 61], [97, 110, 100], [111, 114], [120, 111, 114], [45, 62], [102, 98, 121], [119, 104, 101, 110], [105, 102], [109, 101, 114, 103, 101]] : List (List UInt8)) → op.data.toList ≠ z) : textOp op nm n ts = [] := by
  unfold textOp
  simp only
  rw [if_neg (hne [105, 110, 116] (by decide))]
  rw [if_neg (hne [98, 111, 111, 108] (by decide))]
  rw [if_neg (hne [118, 97, 114] (by decide))]
  rw [if_neg (hne [99, 97, 108, 108] (by decide))]
  rw [if_neg (fun h => h.elim (hne [110, 111, 116] (by decide)) (hne [112, 114, 101] (by decide)))]
  rw [if_neg (hne [110, 101, 103] (by decide))]
  rw [if_neg (fun h => by
    unfold isInfix at h
    have h2 := List.contains_iff_mem.1 h
    exact hne _ (List.mem_of_mem_drop (i := 7) (by
      show op.data.toList ∈ [[43], [45], [42], [47], [109, 111, 100], [61], [60, 62], [60], [60, 61], [62], [62, 61], [97, 110, 100], [111, 114], [120, 111, 114], [45, 62], [102, 98, 121], [119, 104, 101, 110], [105, 102], [109, 101, 114, 103, 101]]
      exact List.mem_append_left [[119, 104, 101, 110], [105, 102], [109, 101, 114, 103, 101]] h2)) rfl)]
  rw [if_neg (hne [119, 104, 101, 110] (by decide))]
  rw [if_neg (hne [105, 102] (by decide))]
  rw [if_neg (hne [109, 101, 114, 103, 101] (by decide))]
theorem FineL.nth : ∀ (kids : List Ex) (i : Nat), FineL kids → FineE (kids.getD i ex0)
  | [], i, _ => by
    simp [ex0]
    unfold FineE FineL
    simp
  | e :: r, 0, h => by
    unfold FineL at h
    simpa using h.1
  | e :: r, i + 1, h => by
    unfold FineL at h
    simpa using FineL.nth r i h.2
/-- What is shown of a tree out of its kids. -/
theorem writes_step (w : World) (B b : Nat) (htb : Lib.TabBelow Tryz.prog B w "internal/strconv.uint64pow10" .u64 Lib.pow10Tab) (op nm : ByteArray) (n : Int) (a : Nat) (kids : List Ex) (hf : FineE (.mk op nm n a kids)) (hk : ∀ i, Writes w B b (kids.getD i ex0)) : Writes w B b (.mk op nm n a kids) := by
  intro W l o' m' n' a' x lk c hB hb hi hl
  have ho : o' = op ∧ m' = nm ∧ n' = n ∧ a' = (a : Int) := by
    unfold IsP at hi
    exact ⟨hi.1, hi.2.1, hi.2.2.1, hi.2.2.2.1⟩
  obtain ⟨e1, e2, e3, e4⟩ := ho
  subst o'
  subst m'
  subst n'
  subst a'
  unfold FineE at hf
  by_cases e_105_110_116 : op.data.toList = [105, 110, 116]
  · obtain rfl : op = ⟨#[105, 110, 116]⟩ := bytes_inj e_105_110_116
    rw [textE_105_110_116] at hl ⊢
    exact writeInt_w B b l W hb (htb.on hB) nm n (a : Int) hf.1.1 hf.1.2 x lk c hl
  by_cases e_98_111_111_108 : op.data.toList = [98, 111, 111, 108]
  · obtain rfl : op = ⟨#[98, 111, 111, 108]⟩ := bytes_inj e_98_111_111_108
    rw [textE_98_111_111_108] at hl ⊢
    exact writeBool_w B b l W hb nm n (a : Int) x lk c hl
  by_cases e_118_97_114 : op.data.toList = [118, 97, 114]
  · obtain rfl : op = ⟨#[118, 97, 114]⟩ := bytes_inj e_118_97_114
    rw [textE_118_97_114] at hl ⊢
    exact writeVar_w B b l W hb n a kids nm n (a : Int) x lk c hi hl
  by_cases e_99_97_108_108 : op.data.toList = [99, 97, 108, 108]
  · obtain rfl : op = ⟨#[99, 97, 108, 108]⟩ := bytes_inj e_99_97_108_108
    rw [textE_99_97_108_108] at hl ⊢
    exact writeCallE_w B b l W hb nm n a kids nm n (a : Int) x lk c hi (fun i _ => ((hk i).mono hB)) hf.2.1 hl
  by_cases e_110_111_116 : op.data.toList = [110, 111, 116]
  · obtain rfl : op = ⟨#[110, 111, 116]⟩ := bytes_inj e_110_111_116
    rw [textE_110_111_116] at hl ⊢
    exact writeNot_w B b l W hb nm n a kids nm n (a : Int) x lk c hi ((hk 0).mono hB) hl
  by_cases e_112_114_101 : op.data.toList = [112, 114, 101]
  · obtain rfl : op = ⟨#[112, 114, 101]⟩ := bytes_inj e_112_114_101
    rw [textE_112_114_101] at hl ⊢
    exact writePre_w B b l W hb nm n a kids nm n (a : Int) x lk c hi ((hk 0).mono hB) hl
  by_cases e_110_101_103 : op.data.toList = [110, 101, 103]
  · obtain rfl : op = ⟨#[110, 101, 103]⟩ := bytes_inj e_110_101_103
    rw [textE_110_101_103] at hl ⊢
    exact writeNeg_w B b l W hb nm n a kids nm n (a : Int) x lk c hi ((hk 0).mono hB) hl
  by_cases e_43 : op.data.toList = [43]
  · obtain rfl : op = ⟨#[43]⟩ := bytes_inj e_43
    rw [textE_43] at hl ⊢
    exact writeInfix_all ⟨#[43]⟩ (by unfold INFB; simp) B b l W hb nm n a kids nm n (a : Int) x lk c hi ((hk 0).mono hB) ((hk 1).mono hB) hl
  by_cases e_45 : op.data.toList = [45]
  · obtain rfl : op = ⟨#[45]⟩ := bytes_inj e_45
    rw [textE_45] at hl ⊢
    exact writeInfix_all ⟨#[45]⟩ (by unfold INFB; simp) B b l W hb nm n a kids nm n (a : Int) x lk c hi ((hk 0).mono hB) ((hk 1).mono hB) hl
  by_cases e_42 : op.data.toList = [42]
  · obtain rfl : op = ⟨#[42]⟩ := bytes_inj e_42
    rw [textE_42] at hl ⊢
    exact writeInfix_all ⟨#[42]⟩ (by unfold INFB; simp) B b l W hb nm n a kids nm n (a : Int) x lk c hi ((hk 0).mono hB) ((hk 1).mono hB) hl
  by_cases e_47 : op.data.toList = [47]
  · obtain rfl : op = ⟨#[47]⟩ := bytes_inj e_47
    rw [textE_47] at hl ⊢
    exact writeInfix_all ⟨#[47]⟩ (by unfold INFB; simp) B b l W hb nm n a kids nm n (a : Int) x lk c hi ((hk 0).mono hB) ((hk 1).mono hB) hl
  by_cases e_109_111_100 : op.data.toList = [109, 111, 100]
  · obtain rfl : op = ⟨#[109, 111, 100]⟩ := bytes_inj e_109_111_100
    rw [textE_109_111_100] at hl ⊢
    exact writeInfix_all ⟨#[109, 111, 100]⟩ (by unfold INFB; simp) B b l W hb nm n a kids nm n (a : Int) x lk c hi ((hk 0).mono hB) ((hk 1).mono hB) hl
  by_cases e_61 : op.data.toList = [61]
  · obtain rfl : op = ⟨#[61]⟩ := bytes_inj e_61
    rw [textE_61] at hl ⊢
    exact writeInfix_all ⟨#[61]⟩ (by unfold INFB; simp) B b l W hb nm n a kids nm n (a : Int) x lk c hi ((hk 0).mono hB) ((hk 1).mono hB) hl
  by_cases e_60_62 : op.data.toList = [60, 62]
  · obtain rfl : op = ⟨#[60, 62]⟩ := bytes_inj e_60_62
    rw [textE_60_62] at hl ⊢
    exact writeInfix_all ⟨#[60, 62]⟩ (by unfold INFB; simp) B b l W hb nm n a kids nm n (a : Int) x lk c hi ((hk 0).mono hB) ((hk 1).mono hB) hl
  by_cases e_60 : op.data.toList = [60]
  · obtain rfl : op = ⟨#[60]⟩ := bytes_inj e_60
    rw [textE_60] at hl ⊢
    exact writeInfix_all ⟨#[60]⟩ (by unfold INFB; simp) B b l W hb nm n a kids nm n (a : Int) x lk c hi ((hk 0).mono hB) ((hk 1).mono hB) hl
  by_cases e_60_61 : op.data.toList = [60, 61]
  · obtain rfl : op = ⟨#[60, 61]⟩ := bytes_inj e_60_61
    rw [textE_60_61] at hl ⊢
    exact writeInfix_all ⟨#[60, 61]⟩ (by unfold INFB; simp) B b l W hb nm n a kids nm n (a : Int) x lk c hi ((hk 0).mono hB) ((hk 1).mono hB) hl
  by_cases e_62 : op.data.toList = [62]
  · obtain rfl : op = ⟨#[62]⟩ := bytes_inj e_62
    rw [textE_62] at hl ⊢
    exact writeInfix_all ⟨#[62]⟩ (by unfold INFB; simp) B b l W hb nm n a kids nm n (a : Int) x lk c hi ((hk 0).mono hB) ((hk 1).mono hB) hl
  by_cases e_62_61 : op.data.toList = [62, 61]
  · obtain rfl : op = ⟨#[62, 61]⟩ := bytes_inj e_62_61
    rw [textE_62_61] at hl ⊢
    exact writeInfix_all ⟨#[62, 61]⟩ (by unfold INFB; simp) B b l W hb nm n a kids nm n (a : Int) x lk c hi ((hk 0).mono hB) ((hk 1).mono hB) hl
  by_cases e_97_110_100 : op.data.toList = [97, 110, 100]
  · obtain rfl : op = ⟨#[97, 110, 100]⟩ := bytes_inj e_97_110_100
    rw [textE_97_110_100] at hl ⊢
    exact writeInfix_all ⟨#[97, 110, 100]⟩ (by unfold INFB; simp) B b l W hb nm n a kids nm n (a : Int) x lk c hi ((hk 0).mono hB) ((hk 1).mono hB) hl
  by_cases e_111_114 : op.data.toList = [111, 114]
  · obtain rfl : op = ⟨#[111, 114]⟩ := bytes_inj e_111_114
    rw [textE_111_114] at hl ⊢
    exact writeInfix_all ⟨#[111, 114]⟩ (by unfold INFB; simp) B b l W hb nm n a kids nm n (a : Int) x lk c hi ((hk 0).mono hB) ((hk 1).mono hB) hl
  by_cases e_120_111_114 : op.data.toList = [120, 111, 114]
  · obtain rfl : op = ⟨#[120, 111, 114]⟩ := bytes_inj e_120_111_114
    rw [textE_120_111_114] at hl ⊢
    exact writeInfix_all ⟨#[120, 111, 114]⟩ (by unfold INFB; simp) B b l W hb nm n a kids nm n (a : Int) x lk c hi ((hk 0).mono hB) ((hk 1).mono hB) hl
  by_cases e_45_62 : op.data.toList = [45, 62]
  · obtain rfl : op = ⟨#[45, 62]⟩ := bytes_inj e_45_62
    rw [textE_45_62] at hl ⊢
    exact writeInfix_all ⟨#[45, 62]⟩ (by unfold INFB; simp) B b l W hb nm n a kids nm n (a : Int) x lk c hi ((hk 0).mono hB) ((hk 1).mono hB) hl
  by_cases e_102_98_121 : op.data.toList = [102, 98, 121]
  · obtain rfl : op = ⟨#[102, 98, 121]⟩ := bytes_inj e_102_98_121
    rw [textE_102_98_121] at hl ⊢
    exact writeInfix_all ⟨#[102, 98, 121]⟩ (by unfold INFB; simp) B b l W hb nm n a kids nm n (a : Int) x lk c hi ((hk 0).mono hB) ((hk 1).mono hB) hl
  by_cases e_119_104_101_110 : op.data.toList = [119, 104, 101, 110]
  · obtain rfl : op = ⟨#[119, 104, 101, 110]⟩ := bytes_inj e_119_104_101_110
    rw [textE_119_104_101_110] at hl ⊢
    exact writeWhen_w B b l W hb n a kids nm n (a : Int) x lk c hi ((hk 0).mono hB) hl
  by_cases e_105_102 : op.data.toList = [105, 102]
  · obtain rfl : op = ⟨#[105, 102]⟩ := bytes_inj e_105_102
    rw [textE_105_102] at hl ⊢
    exact writeIf_w B b l W hb nm n a kids nm n (a : Int) x lk c hi ((hk 0).mono hB) ((hk 1).mono hB) ((hk 2).mono hB) hl
  by_cases e_109_101_114_103_101 : op.data.toList = [109, 101, 114, 103, 101]
  · obtain rfl : op = ⟨#[109, 101, 114, 103, 101]⟩ := bytes_inj e_109_101_114_103_101
    rw [textE_109_101_114_103_101] at hl ⊢
    exact writeMerge_w B b l W hb n a kids nm n (a : Int) x lk c hi ((hk 0).mono hB) ((hk 1).mono hB) hl
  have hne : ∀ z, z ∈ ([[105, 110, 116], [98, 111, 111, 108], [118, 97, 114], [99, 97, 108, 108], [110, 111, 116], [112, 114, 101], [110, 101, 103], [43], [45], [42], [47], [109, 111, 100], [61], [60, 62], [60], [60, 61], [62], [62, 61], [97, 110, 100], [111, 114], [120, 111, 114], [45, 62], [102, 98, 121], [119, 104, 101, 110], [105, 102], [109, 101, 114, 103, 101]] : List (List UInt8)) → op.data.toList ≠ z := fun z hz => by
    simp only [List.mem_cons, List.not_mem_nil, or_false] at hz
    rcases hz with rfl | rfl | rfl | rfl | rfl | rfl | rfl | rfl | rfl | rfl | rfl | rfl | rfl | rfl | rfl | rfl | rfl | rfl | rfl | rfl | rfl | rfl | rfl | rfl | rfl | rfl <;> assumption
  have ht : textE (.mk op nm n a kids) = [] := by unfold textE; exact textOp_other op nm n _ hne
  rw [ht]
  exact writeOther_w B b l W hb op nm n (a : Int) x lk c hne
mutual
theorem writes_all (w : World) (B b : Nat) (htb : Lib.TabBelow Tryz.prog B w "internal/strconv.uint64pow10" .u64 Lib.pow10Tab) : ∀ (t : Ex), FineE t → Writes w B b t
  | .mk op nm n a kids, hf => writes_step w B b htb op nm n a kids hf (writes_kids w B b htb kids (by unfold FineE at hf; exact hf.2.2))
theorem writes_kids (w : World) (B b : Nat) (htb : Lib.TabBelow Tryz.prog B w "internal/strconv.uint64pow10" .u64 Lib.pow10Tab) : ∀ (kids : List Ex), FineL kids → ∀ i, Writes w B b (kids.getD i ex0)
  | [], _, i => by
    have h : ([] : List Ex).getD i ex0 = ex0 := by simp
    rw [h]
    intro W l o m n a x lk c hB hb hi hl
    have ho : o = ⟨#[]⟩ := by
      unfold ex0 IsP at hi
      exact hi.1
    subst ho
    exact writeOther_w B b l W hb ⟨#[]⟩ m n a x lk c (by decide)
  | e :: r, hf, 0 => by
    unfold FineL at hf
    exact writes_all w B b htb e hf.1
  | e :: r, hf, i + 1 => by
    unfold FineL at hf
    exact writes_kids w B b htb r hf.2 i
end
end Go.Proofs.YtjlnihennlkmpaaGreatDoor

namespace Go.Proofs.YtjlnihennlkmpaaGreatDoor
open Go Go.RowKit
/-- Texts with '; ' between. -/
def semis : List (List UInt8) → List UInt8
  | [] => []
  | [t] => t
  | t :: r => t ++ [59, 32] ++ semis r
theorem semis_snoc : ∀ (l : List (List UInt8)) (t : List UInt8), semis (l ++ [t]) = semis l ++ (if l.length = 0 then [] else [59, 32]) ++ t
  | [], t => by simp [semis]
  | [a], t => by simp [semis]
  | a :: b :: r, t => by
    have ih := semis_snoc (b :: r) t
    have e1 : semis ((a :: b :: r) ++ [t]) = a ++ [59, 32] ++ semis ((b :: r) ++ [t]) := rfl
    have e2 : semis (a :: b :: r) = a ++ [59, 32] ++ semis (b :: r) := rfl
    rw [e1, e2, ih]
    simp [List.append_assoc]
theorem semis_le (l : List (List UInt8)) : ∀ (r : List (List UInt8)), (semis l).length ≤ (semis (l ++ r)).length := by
  intro r
  induction r generalizing l with
  | nil => simp
  | cons t r ih =>
    have h := ih (l ++ [t])
    rw [List.append_assoc] at h
    refine Nat.le_trans ?_ h
    rw [semis_snoc]
    simp only [List.length_append]
    omega
/-- A declared name as it is written. -/
def onT (v : Vr) : List UInt8 := if v.on.data.toList = [] then [] else (whenT v.not_).data.toList ++ v.on.data.toList
def varT (v : Vr) : List UInt8 := (v.name.data.toList ++ [58, 32] ++ (kindT (v.kind : Int)).data.toList) ++ onT v
def varsT (vs : List Vr) : List UInt8 := semis (vs.map varT)
theorem varsV_cell (vs : List Vr) : ∀ (i : Nat) (h : i < vs.length) (j : Nat) (u : Value), (vs[i]).cells[j]? = some u → (varsC vs)[i * 5 + j]? = some u := by
  induction vs with
  | nil => intro i h; simp at h
  | cons v r ih =>
    intro i h j u hu
    have hj : j < 5 := by
      have := (List.getElem?_eq_some_iff.1 hu).1
      simpa [Vr.cells] using this
    have e : varsC (v :: r) = v.cells ++ varsC r := rfl
    rw [e]
    cases i with
    | zero =>
      rw [Nat.zero_mul, Nat.zero_add, List.getElem?_append_left (by simpa [Vr.cells] using hj)]
      exact hu
    | succ i =>
      have hl : v.cells.length = 5 := rfl
      rw [List.getElem?_append_right (by rw [hl]; omega), hl, show (i + 1) * 5 + j - 5 = i * 5 + j by omega]
      exact ih i (by simpa using h) j u (by simpa using hu)
/-- Declared names in memory, below block B. -/
def VarsV (w : World) (B : Nat) (x : Option Addr) (n : Nat) (vs : List Vr) : Prop := n = vs.length ∧ ∃ g, 0 < n → x = some ⟨g, 0, none⟩ ∧ g < B ∧ g < w.heap.size ∧ ∀ (i : Nat) (h : i < vs.length) (j : Nat) (u : Value), (vs[i]).cells[j]? = some u → w.cell? ⟨g, i * 5 + j, none⟩ = some u
theorem VarsV.of_own {w : World} {B : Nat} {v : Value} {vs : List Vr} (h : w.ownsRow 0 88 5 v vs.length (varsC vs)) (hb : ∀ k, v.ownBlock = some k → k < B ∧ k < w.heap.size) : ∃ x c, v = .slice x vs.length c ∧ VarsV w B x vs.length vs := by
  rcases h.2 with ⟨rfl, h0⟩ | ⟨g, cap, cur, rfl, _⟩
  · exact ⟨none, 0, by rw [h0], rfl, 0, fun hl => by omega⟩
  · refine ⟨_, cap, rfl, rfl, g, fun hl => ⟨rfl, (hb g rfl).1, (hb g rfl).2, fun i hi j u hu => ?_⟩⟩
    have := h.cells rfl (i * 5 + j) u (varsV_cell vs i hi j u hu)
    rw [Addr.add_lit] at this
    simpa using this
theorem VarsV.low {w w' : World} {B n : Nat} {x : Option Addr} {vs : List Vr} (h : VarsV w B x n vs) (hb : Below B w w') : VarsV w' B x n vs := by
  obtain ⟨h1, g, h2⟩ := h
  refine ⟨h1, g, fun hl => ?_⟩
  obtain ⟨e1, e2, e3, e4⟩ := h2 hl
  refine ⟨e1, e2, Nat.lt_of_lt_of_le e3 hb.size, fun i hi j u hu => ?_⟩
  have := e4 i hi j u hu
  simp only [World.cell?, hb.block g e2] at this ⊢
  exact this
theorem VarsV.cells {w : World} {B n : Nat} {x : Option Addr} {vs : List Vr} (h : VarsV w B x n vs) {g : Nat} (hx : x = some ⟨g, 0, none⟩) (i : Nat) (hi : i < vs.length) (j : Nat) (u : Value) (hu : (vs[i]).cells[j]? = some u) : w.cell? ⟨g, i * 5 + j, none⟩ = some u := by
  obtain ⟨h1, g2, h2⟩ := h
  obtain ⟨e1, _, _, e4⟩ := h2 (by omega)
  rw [hx] at e1
  injection e1 with e1
  injection e1 with e1
  subst e1
  exact e4 i hi j u hu
theorem sizeV_var : (Tryz.prog.info? 88).map (·.size) = some 5 := by kernel_rfl
theorem idxV_var (g n cap i : Nat) (hi : i < n) (W : World) : (Instr.indexAt 38 (.slice (some ⟨g, 0, none⟩) n cap) (.int .i64 (i : Int))).run Tryz.prog W = .ok (.pointer (some ⟨g, i * 5, none⟩)) W := by
  have he : Tryz.prog.elem 38 = 88 := by simp [Program.elem, Tryz.underlying38]
  have hz : ∀ W, (sizeOf (Tryz.prog.elem 38)).run Tryz.prog W = .ok 5 W := fun W => by
    rw [he]
    have h := sizeV_var
    cases hq : Tryz.prog.info? 88 with
    | none => simp [hq] at h
    | some i => simp [hq] at h; simp [sizeOf, typeInfo, hq, h]
  rw [run_indexAt_slice (h := by rw [he]; exact Tryz.underlying38), if_pos (by omega), hz]
  simp [Result.andThen, Addr.add_lit]
theorem vrowV_one (a b : ByteArray) (k p : Int) (t : Bool) : (#[.string a, .int .i64 k, .string b, .bool t, .int .i64 p] : Array Value).all (·.oneCell') = true := by simp [Value.oneCell']
end Go.Proofs.YtjlnihennlkmpaaGreatDoor

namespace Go.Proofs.YtjlnihennlkmpaaGreatDoor
open Go Go.RowKit
set_option maxHeartbeats 4000000 in
set_option maxRecDepth 100000 in
theorem writeVars_any (B b : Nat) (l : List UInt8) (w : World) (h : Bld B b l w) (vs : List Vr) (x : Option Addr) (n c : Nat) (hv : VarsV w B x n vs) (hkn : n < 1000000000000) (hlen : l.length + (varsT vs).length ≤ 140737488355328) :
    Calls Tryz.prog 33 #[.pointer (some ⟨b, 0, none⟩), .slice x n c] w (GivesW B b l (varsT vs) w) := by
  obtain ⟨hlk, g, hg⟩ := id hv
  have hsz := h.2
  have hlt := h.lt
  have hjc : joined [⟨#[59, 32]⟩] = [59, 32] := by simp [joined]
  have HSV := Lib.hid sizeV_var
  have HIW := Lib.hid hv
  have HH2 := Lib.hid h
  have HLN0 := Lib.hid hlen
  have HLK := Lib.hid hlk
  have HJC := Lib.hid hjc
  have HGX : Hid (0 < n → x = some ⟨g, 0, none⟩) := Lib.hid (fun h => (hg h).1)
  clear hv h hlen hlk hg hjc
  go_enter Tryz.func33, Tryz.ntmps33
  go_wp2_with fail
  go_loopw [8] (fun iv wr => ∃ i : Nat, iv = .int .i64 (i : Int) ∧ i ≤ n ∧ Bld B b (l ++ semis ((vs.map varT).take i)) wr ∧ Below B w wr ∧ Wrote b w wr)
    (fun iv _ => n - (intOf iv).toNat)
  case atStart => exact ⟨0, rfl, Nat.zero_le _, by simpa [semis] using HH2.out, Below.refl _ _, Wrote.refl _ _⟩
  case round =>
    obtain ⟨i, rfl, hil, hbl, hbw, hwr⟩ := hrel
    by_cases hin : i < n
    · have d2 : decide ((i : Int) < (n : Int)) = true := by simp; omega
      have hgg := HGX.out (by omega)
      have hix : ∀ W, (Instr.indexAt 38 (.slice x n c) (.int .i64 (i : Int))).run Tryz.prog W = .ok (.pointer (some ⟨g, i * 5, none⟩)) W := fun W => by rw [hgg]; exact idxV_var g n c i hin W
      have hik : i < vs.length := by rw [← HLK.out]; exact hin
      have hcc := (HIW.out.low hbw).cells hgg i hik
      have q0 := hcc 0 _ rfl
      have q1 := hcc 1 _ rfl
      have q2 := hcc 2 _ rfl
      have q3 := hcc 3 _ rfl
      have q4 := hcc 4 _ rfl
      rw [Nat.add_zero] at q0
      have hsn : semis ((vs.map varT).take (i + 1)) = semis ((vs.map varT).take i) ++ (if i = 0 then [] else [59, 32]) ++ varT vs[i] := by
        have hil2 : i < (vs.map varT).length := by simpa using hik
        rw [List.take_succ_eq_append_getElem hil2, semis_snoc]
        have e1 : ((vs.map varT).take i).length = i := by rw [List.length_take]; omega
        rw [e1]
        congr 1
        rw [List.getElem_map]
      have hln : l.length + (semis ((vs.map varT).take i) ++ (if i = 0 then [] else [59, 32]) ++ varT vs[i]).length ≤ 140737488355328 := by
        rw [← hsn]
        have h1 := semis_le ((vs.map varT).take (i + 1)) ((vs.map varT).drop (i + 1))
        rw [List.take_append_drop] at h1
        have h2 := HLN0.out
        unfold varsT at h2
        omega
      obtain ⟨t, ht⟩ : ∃ t, t = vs[i] := ⟨_, rfl⟩
      rw [← ht] at hsn hln q0 q1 q2 q3 q4
      obtain ⟨P, hP⟩ : ∃ P, P = semis ((vs.map varT).take i) := ⟨_, rfl⟩
      rw [← hP] at hsn hln hbl
      clear ht hP
      obtain ⟨nm, kd, on, nt, va⟩ := t
      simp only at q0 q1 q2 q3 q4
      obtain ⟨X1, hX1⟩ : ∃ X, X = nm.data.toList ++ [58, 32] ++ (kindT (kd : Int)).data.toList := ⟨_, rfl⟩
      obtain ⟨X2, hX2⟩ : ∃ X, X = onT ⟨nm, kd, on, nt, va⟩ := ⟨_, rfl⟩
      have hvt : varT ⟨nm, kd, on, nt, va⟩ = X1 ++ X2 := by rw [hX1, hX2]; rfl
      rw [hvt] at hsn hln
      have hx2 : X2 = if on.data.toList = [] then [] else (whenT nt).data.toList ++ on.data.toList := by rw [hX2]; rfl
      have hj1 : joined [nm, ⟨#[58, 32]⟩, kindT (kd : Int)] = X1 := by rw [hX1]; simp [joined]
      have hj2 : joined [whenT nt, on] = (whenT nt).data.toList ++ on.data.toList := by simp [joined]
      have hb3 : Below wr.heap.size wr (wr.alloc (.cells #[.string ⟨#[]⟩, .int .i64 0, .string ⟨#[]⟩, .bool false, .int .i64 0] 88)) := (Below.refl _ _).alloc (Nat.le_refl _) _
      have hn3 := heap_alloc_new wr (.cells #[.string ⟨#[]⟩, .int .i64 0, .string ⟨#[]⟩, .bool false, .int .i64 0] 88)
      have HN3 := Lib.hid hn3
      have HB3 := Lib.hid hb3
      have HSN := Lib.hid hsn
      have HLN := Lib.hid hln
      have HBL := Lib.hid hbl
      have HBW := Lib.hid hbw
      have HWR := Lib.hid hwr
      have HX2 := Lib.hid hx2
      have HJ1 := Lib.hid hj1
      have HJ2 := Lib.hid hj2
      have HJ := Lib.hid HJC.out
      have HSZ : Hid (B ≤ wr.heap.size) := Lib.hid hbl.2
      have hbz := hbl.lt
      clear hb3 hn3 hsn hln hbl hbw hwr hx2 hX1 hX2 hvt hj1 hj2 hcc hgg HGX HLK HIW HH2 HLN0 HJC
      by_cases hon : on.data.toList = []
      · have o1 : (on.toList == []) = true := by rw [Lib.toList_data, hon]; rfl
        have o2 : on.toList.isEmpty = true := by rw [Lib.toList_data, hon]; rfl
        have HON := Lib.hid hon
        clear hon
        by_cases hi0 : i = 0
        · have d3 : decide (0 < i) = false := by simp; omega
          have HI0 := Lib.hid hi0
          clear hi0
          have S5 := Lib.hid (fun (W : World) (v : Value) (hb : Bld B b (l ++ P) W) (hr : wRow [nm, ⟨#[58, 32]⟩, kindT (kd : Int)] v W) => say_row B b (l ++ P) W hb [nm, ⟨#[58, 32]⟩, kindT (kd : Int)] v hr X1 HJ1.out (by simp) (by have := HLN.out; rw [if_pos HI0.out] at this; simp only [List.length_append, List.length_cons, List.length_nil] at this ⊢; omega))
          go_wp2_with (
               refine wpList_store_row rfl 88 (.tmp 5) (.tmp 12) rfl wr.heap.size #[.string nm, .int .i64 (kd : Int), .string on, .bool nt, .int .i64 (va : Int)] rfl rfl 88 _ HN3.out HSV.out rfl (vrowV_one _ _ _ _ _) ?_
               have hset := setRow_heap _ wr.heap.size _ #[.string nm, .int .i64 (kd : Int), .string on, .bool nt, .int .i64 (va : Int)] _ _ HN3.out
               have hbs := below_setRow HB3.out (Nat.le_refl _) #[.string nm, .int .i64 (kd : Int), .string on, .bool nt, .int .i64 (va : Int)]
               generalize (wr.alloc (.cells #[.string ⟨#[]⟩, .int .i64 0, .string ⟨#[]⟩, .bool false, .int .i64 0] 88)).setRow wr.heap.size #[.string nm, .int .i64 (kd : Int), .string on, .bool nt, .int .i64 (va : Int)] = w3 at hset hbs ⊢
               have HL := Lib.hid hset
               have HB := Lib.hid (HBW.out.trans (hbs.mono HSZ.out))
               have HW := Lib.hid (HWR.out.trans (Wrote.below hbs))
               have HH := Lib.hid (HBL.out.below hbs)
               have hz_3 : wr.heap.size + 1 ≤ w3.heap.size := (Array.getElem?_eq_some_iff.1 hset).1
               clear hset hbs HN3 HB3 HBW HWR HBL)
          refine wp_region_steps_then (words [wIs (.pointer (some ⟨b, 0, none⟩)), wIs (.pointer (some ⟨wr.heap.size, 0, none⟩)), wIs (.string nm), wIs (.pointer (some ⟨wr.heap.size, 1, none⟩)), wIs (.int .i64 (kd : Int)), wIs (.string (kindT (kd : Int))), wRow [nm, ⟨#[58, 32]⟩, kindT (kd : Int)]]) w3.heap.size w3 (by kernel_rfl) (Below.refl _ _) (Nat.le_refl _) (words_stable ?stab) rfl rfl rfl (by kernel_rfl) _ rfl ?steps ?last
          case stab =>
            intro f hf
            simp only [List.mem_cons, List.not_mem_nil, or_false] at hf
            rcases hf with rfl | rfl | rfl | rfl | rfl | rfl | rfl <;> first | exact stable_is _ | exact stable_row _
          case steps =>
            refine Steps.cons (step_value rfl fun a W hp => ⟨wanted_none rfl, _, _, run_move (.inl rfl), hp.old 0 rfl, Below.refl _ _⟩) ?_
            refine Steps.cons (step_value rfl fun a W hp => ?_) ?_
            · have f1 : a.tmps.getD 5 undef = (.pointer (some ⟨wr.heap.size, 0, none⟩)) := hp.old 5 rfl
              refine ⟨wanted_none rfl, _, _, run_fa rfl ?_, rfl, Below.refl _ _⟩
              show (Instr.fieldAt _ (a.tmps.getD 5 undef) _).run _ W = _
              rw [f1]
              exact fa_var0 _ W
            refine Steps.cons (step_value rfl fun a W hp => ?_) ?_
            · have f1 : a.tmps.getD 19 undef = (.pointer (some ⟨wr.heap.size, 0, none⟩)) := (hp.on_ 1 rfl rfl rfl).2
              exact ⟨wanted_none rfl, _, _, run_ldstr rfl f1 (cell_of_row W wr.heap.size 0 _ _ _ ((hp.below.block wr.heap.size (Array.getElem?_eq_some_iff.1 HL.out).1).trans HL.out)), rfl, Below.refl _ _⟩
            refine Steps.cons (step_value rfl fun a W hp => ?_) ?_
            · have f1 : a.tmps.getD 5 undef = (.pointer (some ⟨wr.heap.size, 0, none⟩)) := hp.old 5 rfl
              refine ⟨wanted_none rfl, _, _, run_fa rfl ?_, rfl, Below.refl _ _⟩
              show (Instr.fieldAt _ (a.tmps.getD 5 undef) _).run _ W = _
              rw [f1]
              exact fa_var1 _ W
            refine Steps.cons (step_value rfl fun a W hp => ?_) ?_
            · have f1 : a.tmps.getD 21 undef = (.pointer (some ⟨wr.heap.size, 1, none⟩)) := (hp.on_ 3 rfl rfl rfl).2
              exact ⟨wanted_none rfl, _, _, run_ldkind rfl f1 (cell_of_row W wr.heap.size 1 _ _ _ ((hp.below.block wr.heap.size (Array.getElem?_eq_some_iff.1 HL.out).1).trans HL.out)), rfl, Below.refl _ _⟩
            refine Steps.cons (step_enter rfl fun a W hp => ?_) ?_
            · have f1 : a.tmps.getD 22 undef = .int .i64 (kd : Int) := (hp.on_ 4 rfl rfl rfl).2
              refine ⟨wanted_none rfl, 63, _, run_enter1 rfl rfl Tryz.call63, ?_⟩
              show Calls _ _ #[a.tmps.getD 22 undef] W _
              rw [f1]
              exact (kindName_any (kd : Int) W).mono (fun e W' ⟨he, hm⟩ => ⟨_, he, rfl, by rw [hm]; exact Below.refl _ _⟩)
            refine Steps.cons (step_value rfl fun a W hp => ?_) ?_
            · have f1 : a.tmps.getD 20 undef = .string nm := (hp.on_ 2 rfl rfl rfl).2
              have f2 : a.tmps.getD 23 undef = .string (kindT (kd : Int)) := (hp.on_ 5 rfl rfl rfl).2
              refine ⟨wanted_none rfl, _, _, run_bsl3 rfl ?_, wRow_new3 _ _ _ W, (Below.refl _ _).alloc (Nat.le_refl _) _⟩
              show (Instr.buildSlice _ 3 #[(0, a.tmps.getD 20 undef), (1, _), (2, a.tmps.getD 23 undef)]).run _ W = _
              rw [f1, f2]
              exact bsl3 _ _ _ W
            exact Steps.nil
          case last =>
            intro a W hI
            have k0 : a.tmps.getD 0 undef = .pointer (some ⟨b, 0, none⟩) := hI.old 0 (by simp)
            have k1 : a.tmps.getD 1 undef = .slice x n c := hI.old 1 (by simp)
            have k2 : a.tmps.getD 2 undef = undef := hI.old 2 (by simp)
            have k3 : a.tmps.getD 3 undef = undef := hI.old 3 (by simp)
            have k5 : a.tmps.getD 5 undef = (.pointer (some ⟨wr.heap.size, 0, none⟩)) := hI.old 5 (by simp)
            have k6 : a.tmps.getD 6 undef = .slice x n c := hI.old 6 (by simp)
            have k7 : a.tmps.getD 7 undef = .int .i64 (n : Int) := hI.old 7 (by simp)
            have k8 : a.tmps.getD 8 undef = .int .i64 (i : Int) := hI.old 8 (by simp)
            have f1 : a.tmps.getD 18 undef = .pointer (some ⟨b, 0, none⟩) := hI.new 0 _ 18 rfl rfl rfl
            have f2 : wRow [nm, ⟨#[58, 32]⟩, kindT (kd : Int)] (a.tmps.getD 24 undef) W := hI.new 6 _ 24 rfl rfl rfl
            have hdf : a.defers = [] := hI.defers
            have hsz9 : a.tmps.size = 38 := hI.tmps
            have ks := S5.out W _ (HH.out.below hI.below) f2
            have HB' := Lib.hid (HB.out.trans (hI.below.mono HH.out.2))
            have HW' := Lib.hid (HW.out.trans (Wrote.below hI.below))
            have HL' := Lib.hid ((hI.below.block wr.heap.size (Array.getElem?_eq_some_iff.1 HL.out).1).trans HL.out)
            have hz8 := hI.below.size
            clear hI f2 HB HW HL HH
            have HB := HB'
            have HW := HW'
            have HL := HL'
            clear HB' HW' HL'
            refine wpOp_of rfl (wanted_none rfl) ?_
            unfold Oper.wp
            rw [run_enter2 rfl rfl Tryz.call32, Oper.upon_enter]
            rw [← f1] at ks
            show Calls _ _ #[a.tmps.getD 18 undef, a.tmps.getD 24 undef] _ _
            (with_reducible refine ks.mono ?_)
            rintro e W' ⟨rfl, hh, hb, hw⟩
            have hz7 := hw.size
            have HL' := Lib.hid ((hw.block wr.heap.size (Array.getElem?_eq_some_iff.1 HL.out).1 (by omega) (fun cs fr e => by rw [HL.out] at e; injection e with e; injection e with _ e _; exact absurd e (by decide))).trans HL.out)
            have HB' := Lib.hid (HB.out.trans hb)
            have HW' := Lib.hid (HW.out.trans hw)
            have HH := Lib.hid hh
            clear hh hb hw ks HL HB HW f1
            have HL := HL'
            have HB := HB'
            have HW := HW'
            clear HL' HB' HW'
            obtain ⟨f, hf, hx⟩ := act_eta hsz9 hdf
            rw [hf] at k0 k1 k2 k3 k5 k6 k7 k8
            clear hf hsz9 hdf
            subst hx
            have hl9 : ((List.range 38).map f).toArray = #[f 0, f 1, f 2, f 3, f 4, f 5, f 6, f 7, f 8, f 9, f 10, f 11, f 12, f 13, f 14, f 15, f 16, f 17, f 18, f 19, f 20, f 21, f 22, f 23, f 24, f 25, f 26, f 27, f 28, f 29, f 30, f 31, f 32, f 33, f 34, f 35, f 36, f 37] := rfl
            first
              | show Exit.then _ _ Exit.normal (Act.put _ (some 25) (Value.tuple #[])) W'
              | show Exit.inBlock _ _ Exit.normal (Act.put _ (some 25) (Value.tuple #[])) W'
            rw [hl9, k0, k1, k2, k3, k5, k6, k7, k8]
            clear hl9 k0 k1 k2 k3 k5 k6 k7 k8
            simp only [Exit.inBlock, Exit.then]
            have c2 := cell_of_row W' wr.heap.size 2 _ _ _ HL.out
            go_wp2_with fail
            go_wp2_with fail
            refine ⟨⟨i + 1, by go_num, by omega, ?_, HB.out, HW.out⟩, ?_⟩
            · have e := HH.out
              have e2 := HSN.out
              rw [if_pos HI0.out, HX2.out, if_pos HON.out] at e2
              rw [e2]
              simpa [List.append_assoc] using e
            · simp [intOf]; omega
        · have d3 : decide (0 < i) = true := by simp; omega
          have HI0 := Lib.hid hi0
          clear hi0
          have S5 := Lib.hid (fun (W : World) (v : Value) (hb : Bld B b (l ++ P ++ [59, 32]) W) (hr : wRow [nm, ⟨#[58, 32]⟩, kindT (kd : Int)] v W) => say_row B b (l ++ P ++ [59, 32]) W hb [nm, ⟨#[58, 32]⟩, kindT (kd : Int)] v hr X1 HJ1.out (by simp) (by have := HLN.out; rw [if_neg HI0.out] at this; simp only [List.length_append, List.length_cons, List.length_nil] at this ⊢; omega))
          go_wp2_with (
               refine wpList_store_row rfl 88 (.tmp 5) (.tmp 12) rfl wr.heap.size #[.string nm, .int .i64 (kd : Int), .string on, .bool nt, .int .i64 (va : Int)] rfl rfl 88 _ HN3.out HSV.out rfl (vrowV_one _ _ _ _ _) ?_
               have hset := setRow_heap _ wr.heap.size _ #[.string nm, .int .i64 (kd : Int), .string on, .bool nt, .int .i64 (va : Int)] _ _ HN3.out
               have hbs := below_setRow HB3.out (Nat.le_refl _) #[.string nm, .int .i64 (kd : Int), .string on, .bool nt, .int .i64 (va : Int)]
               generalize (wr.alloc (.cells #[.string ⟨#[]⟩, .int .i64 0, .string ⟨#[]⟩, .bool false, .int .i64 0] 88)).setRow wr.heap.size #[.string nm, .int .i64 (kd : Int), .string on, .bool nt, .int .i64 (va : Int)] = w3 at hset hbs ⊢
               have HL := Lib.hid hset
               have HB := Lib.hid (HBW.out.trans (hbs.mono HSZ.out))
               have HW := Lib.hid (HWR.out.trans (Wrote.below hbs))
               have HH := Lib.hid (HBL.out.below hbs)
               have hz_3 : wr.heap.size + 1 ≤ w3.heap.size := (Array.getElem?_eq_some_iff.1 hset).1
               clear hset hbs HN3 HB3 HBW HWR HBL)
          have k1 := say_at B b (l ++ P) w3 HH.out [⟨#[59, 32]⟩] 1 w3.heap.size #[.string ⟨#[59, 32]⟩] [59, 32] rfl rfl rfl HJ.out (by decide) (by have := HLN.out; rw [if_neg HI0.out] at this; simp only [List.length_append, List.length_cons, List.length_nil] at this ⊢; omega)
          clear HH
          (with_reducible refine k1.mono ?_)
          rintro e u4 ⟨rfl, hh, hb, hw⟩
          have hz_u4 := hw.size
          have HL' := Lib.hid ((hw.block wr.heap.size (Array.getElem?_eq_some_iff.1 HL.out).1 (by omega) (fun cs fr e => by rw [HL.out] at e; injection e with e; injection e with _ e _; exact absurd e (by decide))).trans HL.out)
          have HB' := Lib.hid (HB.out.trans hb)
          have HW' := Lib.hid (HW.out.trans hw)
          have HH := Lib.hid hh
          clear hh hb hw k1 HL HB HW
          have HL := HL'
          have HB := HB'
          have HW := HW'
          clear HL' HB' HW'
          go_wp2_with fail
          refine wp_region_steps_then (words [wIs (.pointer (some ⟨b, 0, none⟩)), wIs (.pointer (some ⟨wr.heap.size, 0, none⟩)), wIs (.string nm), wIs (.pointer (some ⟨wr.heap.size, 1, none⟩)), wIs (.int .i64 (kd : Int)), wIs (.string (kindT (kd : Int))), wRow [nm, ⟨#[58, 32]⟩, kindT (kd : Int)]]) u4.heap.size u4 (by kernel_rfl) (Below.refl _ _) (Nat.le_refl _) (words_stable ?stab) rfl rfl rfl (by kernel_rfl) _ rfl ?steps ?last
          case stab =>
            intro f hf
            simp only [List.mem_cons, List.not_mem_nil, or_false] at hf
            rcases hf with rfl | rfl | rfl | rfl | rfl | rfl | rfl <;> first | exact stable_is _ | exact stable_row _
          case steps =>
            refine Steps.cons (step_value rfl fun a W hp => ⟨wanted_none rfl, _, _, run_move (.inl rfl), hp.old 0 rfl, Below.refl _ _⟩) ?_
            refine Steps.cons (step_value rfl fun a W hp => ?_) ?_
            · have f1 : a.tmps.getD 5 undef = (.pointer (some ⟨wr.heap.size, 0, none⟩)) := hp.old 5 rfl
              refine ⟨wanted_none rfl, _, _, run_fa rfl ?_, rfl, Below.refl _ _⟩
              show (Instr.fieldAt _ (a.tmps.getD 5 undef) _).run _ W = _
              rw [f1]
              exact fa_var0 _ W
            refine Steps.cons (step_value rfl fun a W hp => ?_) ?_
            · have f1 : a.tmps.getD 19 undef = (.pointer (some ⟨wr.heap.size, 0, none⟩)) := (hp.on_ 1 rfl rfl rfl).2
              exact ⟨wanted_none rfl, _, _, run_ldstr rfl f1 (cell_of_row W wr.heap.size 0 _ _ _ ((hp.below.block wr.heap.size (Array.getElem?_eq_some_iff.1 HL.out).1).trans HL.out)), rfl, Below.refl _ _⟩
            refine Steps.cons (step_value rfl fun a W hp => ?_) ?_
            · have f1 : a.tmps.getD 5 undef = (.pointer (some ⟨wr.heap.size, 0, none⟩)) := hp.old 5 rfl
              refine ⟨wanted_none rfl, _, _, run_fa rfl ?_, rfl, Below.refl _ _⟩
              show (Instr.fieldAt _ (a.tmps.getD 5 undef) _).run _ W = _
              rw [f1]
              exact fa_var1 _ W
            refine Steps.cons (step_value rfl fun a W hp => ?_) ?_
            · have f1 : a.tmps.getD 21 undef = (.pointer (some ⟨wr.heap.size, 1, none⟩)) := (hp.on_ 3 rfl rfl rfl).2
              exact ⟨wanted_none rfl, _, _, run_ldkind rfl f1 (cell_of_row W wr.heap.size 1 _ _ _ ((hp.below.block wr.heap.size (Array.getElem?_eq_some_iff.1 HL.out).1).trans HL.out)), rfl, Below.refl _ _⟩
            refine Steps.cons (step_enter rfl fun a W hp => ?_) ?_
            · have f1 : a.tmps.getD 22 undef = .int .i64 (kd : Int) := (hp.on_ 4 rfl rfl rfl).2
              refine ⟨wanted_none rfl, 63, _, run_enter1 rfl rfl Tryz.call63, ?_⟩
              show Calls _ _ #[a.tmps.getD 22 undef] W _
              rw [f1]
              exact (kindName_any (kd : Int) W).mono (fun e W' ⟨he, hm⟩ => ⟨_, he, rfl, by rw [hm]; exact Below.refl _ _⟩)
            refine Steps.cons (step_value rfl fun a W hp => ?_) ?_
            · have f1 : a.tmps.getD 20 undef = .string nm := (hp.on_ 2 rfl rfl rfl).2
              have f2 : a.tmps.getD 23 undef = .string (kindT (kd : Int)) := (hp.on_ 5 rfl rfl rfl).2
              refine ⟨wanted_none rfl, _, _, run_bsl3 rfl ?_, wRow_new3 _ _ _ W, (Below.refl _ _).alloc (Nat.le_refl _) _⟩
              show (Instr.buildSlice _ 3 #[(0, a.tmps.getD 20 undef), (1, _), (2, a.tmps.getD 23 undef)]).run _ W = _
              rw [f1, f2]
              exact bsl3 _ _ _ W
            exact Steps.nil
          case last =>
            intro a W hI
            have k0 : a.tmps.getD 0 undef = .pointer (some ⟨b, 0, none⟩) := hI.old 0 (by simp)
            have k1 : a.tmps.getD 1 undef = .slice x n c := hI.old 1 (by simp)
            have k2 : a.tmps.getD 2 undef = undef := hI.old 2 (by simp)
            have k3 : a.tmps.getD 3 undef = undef := hI.old 3 (by simp)
            have k5 : a.tmps.getD 5 undef = (.pointer (some ⟨wr.heap.size, 0, none⟩)) := hI.old 5 (by simp)
            have k6 : a.tmps.getD 6 undef = .slice x n c := hI.old 6 (by simp)
            have k7 : a.tmps.getD 7 undef = .int .i64 (n : Int) := hI.old 7 (by simp)
            have k8 : a.tmps.getD 8 undef = .int .i64 (i : Int) := hI.old 8 (by simp)
            have f1 : a.tmps.getD 18 undef = .pointer (some ⟨b, 0, none⟩) := hI.new 0 _ 18 rfl rfl rfl
            have f2 : wRow [nm, ⟨#[58, 32]⟩, kindT (kd : Int)] (a.tmps.getD 24 undef) W := hI.new 6 _ 24 rfl rfl rfl
            have hdf : a.defers = [] := hI.defers
            have hsz9 : a.tmps.size = 38 := hI.tmps
            have ks := S5.out W _ (HH.out.below hI.below) f2
            have HB' := Lib.hid (HB.out.trans (hI.below.mono HH.out.2))
            have HW' := Lib.hid (HW.out.trans (Wrote.below hI.below))
            have HL' := Lib.hid ((hI.below.block wr.heap.size (Array.getElem?_eq_some_iff.1 HL.out).1).trans HL.out)
            have hz8 := hI.below.size
            clear hI f2 HB HW HL HH
            have HB := HB'
            have HW := HW'
            have HL := HL'
            clear HB' HW' HL'
            refine wpOp_of rfl (wanted_none rfl) ?_
            unfold Oper.wp
            rw [run_enter2 rfl rfl Tryz.call32, Oper.upon_enter]
            rw [← f1] at ks
            show Calls _ _ #[a.tmps.getD 18 undef, a.tmps.getD 24 undef] _ _
            (with_reducible refine ks.mono ?_)
            rintro e W' ⟨rfl, hh, hb, hw⟩
            have hz7 := hw.size
            have HL' := Lib.hid ((hw.block wr.heap.size (Array.getElem?_eq_some_iff.1 HL.out).1 (by omega) (fun cs fr e => by rw [HL.out] at e; injection e with e; injection e with _ e _; exact absurd e (by decide))).trans HL.out)
            have HB' := Lib.hid (HB.out.trans hb)
            have HW' := Lib.hid (HW.out.trans hw)
            have HH := Lib.hid hh
            clear hh hb hw ks HL HB HW f1
            have HL := HL'
            have HB := HB'
            have HW := HW'
            clear HL' HB' HW'
            obtain ⟨f, hf, hx⟩ := act_eta hsz9 hdf
            rw [hf] at k0 k1 k2 k3 k5 k6 k7 k8
            clear hf hsz9 hdf
            subst hx
            have hl9 : ((List.range 38).map f).toArray = #[f 0, f 1, f 2, f 3, f 4, f 5, f 6, f 7, f 8, f 9, f 10, f 11, f 12, f 13, f 14, f 15, f 16, f 17, f 18, f 19, f 20, f 21, f 22, f 23, f 24, f 25, f 26, f 27, f 28, f 29, f 30, f 31, f 32, f 33, f 34, f 35, f 36, f 37] := rfl
            first
              | show Exit.then _ _ Exit.normal (Act.put _ (some 25) (Value.tuple #[])) W'
              | show Exit.inBlock _ _ Exit.normal (Act.put _ (some 25) (Value.tuple #[])) W'
            rw [hl9, k0, k1, k2, k3, k5, k6, k7, k8]
            clear hl9 k0 k1 k2 k3 k5 k6 k7 k8
            simp only [Exit.inBlock, Exit.then]
            have c2 := cell_of_row W' wr.heap.size 2 _ _ _ HL.out
            go_wp2_with fail
            go_wp2_with fail
            refine ⟨⟨i + 1, by go_num, by omega, ?_, HB.out, HW.out⟩, ?_⟩
            · have e := HH.out
              have e2 := HSN.out
              rw [if_neg HI0.out, HX2.out, if_pos HON.out] at e2
              rw [e2]
              simpa [List.append_assoc] using e
            · simp [intOf]; omega
      · have o1 : (on.toList == []) = false := by rw [Lib.toList_data]; simpa using hon
        have o2 : on.toList.isEmpty = false := by rw [Lib.toList_data]; simpa using hon
        have HON := Lib.hid hon
        clear hon
        by_cases hi0 : i = 0
        · have d3 : decide (0 < i) = false := by simp; omega
          have HI0 := Lib.hid hi0
          clear hi0
          have S5 := Lib.hid (fun (W : World) (v : Value) (hb : Bld B b (l ++ P) W) (hr : wRow [nm, ⟨#[58, 32]⟩, kindT (kd : Int)] v W) => say_row B b (l ++ P) W hb [nm, ⟨#[58, 32]⟩, kindT (kd : Int)] v hr X1 HJ1.out (by simp) (by have := HLN.out; rw [if_pos HI0.out] at this; simp only [List.length_append, List.length_cons, List.length_nil] at this ⊢; omega))
          have S7 := Lib.hid (fun (W : World) (v : Value) (hb : Bld B b (l ++ P ++ X1) W) (hr : wRow [whenT nt, on] v W) => say_row B b (l ++ P ++ X1) W hb [whenT nt, on] v hr ((whenT nt).data.toList ++ on.data.toList) HJ2.out (by simp) (by have := HLN.out; rw [if_pos HI0.out, HX2.out, if_neg HON.out] at this; simp only [List.length_append, List.length_cons, List.length_nil] at this ⊢; omega))
          go_wp2_with (
               refine wpList_store_row rfl 88 (.tmp 5) (.tmp 12) rfl wr.heap.size #[.string nm, .int .i64 (kd : Int), .string on, .bool nt, .int .i64 (va : Int)] rfl rfl 88 _ HN3.out HSV.out rfl (vrowV_one _ _ _ _ _) ?_
               have hset := setRow_heap _ wr.heap.size _ #[.string nm, .int .i64 (kd : Int), .string on, .bool nt, .int .i64 (va : Int)] _ _ HN3.out
               have hbs := below_setRow HB3.out (Nat.le_refl _) #[.string nm, .int .i64 (kd : Int), .string on, .bool nt, .int .i64 (va : Int)]
               generalize (wr.alloc (.cells #[.string ⟨#[]⟩, .int .i64 0, .string ⟨#[]⟩, .bool false, .int .i64 0] 88)).setRow wr.heap.size #[.string nm, .int .i64 (kd : Int), .string on, .bool nt, .int .i64 (va : Int)] = w3 at hset hbs ⊢
               have HL := Lib.hid hset
               have HB := Lib.hid (HBW.out.trans (hbs.mono HSZ.out))
               have HW := Lib.hid (HWR.out.trans (Wrote.below hbs))
               have HH := Lib.hid (HBL.out.below hbs)
               have hz_3 : wr.heap.size + 1 ≤ w3.heap.size := (Array.getElem?_eq_some_iff.1 hset).1
               clear hset hbs HN3 HB3 HBW HWR HBL)
          refine wp_region_steps_then (words [wIs (.pointer (some ⟨b, 0, none⟩)), wIs (.pointer (some ⟨wr.heap.size, 0, none⟩)), wIs (.string nm), wIs (.pointer (some ⟨wr.heap.size, 1, none⟩)), wIs (.int .i64 (kd : Int)), wIs (.string (kindT (kd : Int))), wRow [nm, ⟨#[58, 32]⟩, kindT (kd : Int)]]) w3.heap.size w3 (by kernel_rfl) (Below.refl _ _) (Nat.le_refl _) (words_stable ?stab) rfl rfl rfl (by kernel_rfl) _ rfl ?steps ?last
          case stab =>
            intro f hf
            simp only [List.mem_cons, List.not_mem_nil, or_false] at hf
            rcases hf with rfl | rfl | rfl | rfl | rfl | rfl | rfl <;> first | exact stable_is _ | exact stable_row _
          case steps =>
            refine Steps.cons (step_value rfl fun a W hp => ⟨wanted_none rfl, _, _, run_move (.inl rfl), hp.old 0 rfl, Below.refl _ _⟩) ?_
            refine Steps.cons (step_value rfl fun a W hp => ?_) ?_
            · have f1 : a.tmps.getD 5 undef = (.pointer (some ⟨wr.heap.size, 0, none⟩)) := hp.old 5 rfl
              refine ⟨wanted_none rfl, _, _, run_fa rfl ?_, rfl, Below.refl _ _⟩
              show (Instr.fieldAt _ (a.tmps.getD 5 undef) _).run _ W = _
              rw [f1]
              exact fa_var0 _ W
            refine Steps.cons (step_value rfl fun a W hp => ?_) ?_
            · have f1 : a.tmps.getD 19 undef = (.pointer (some ⟨wr.heap.size, 0, none⟩)) := (hp.on_ 1 rfl rfl rfl).2
              exact ⟨wanted_none rfl, _, _, run_ldstr rfl f1 (cell_of_row W wr.heap.size 0 _ _ _ ((hp.below.block wr.heap.size (Array.getElem?_eq_some_iff.1 HL.out).1).trans HL.out)), rfl, Below.refl _ _⟩
            refine Steps.cons (step_value rfl fun a W hp => ?_) ?_
            · have f1 : a.tmps.getD 5 undef = (.pointer (some ⟨wr.heap.size, 0, none⟩)) := hp.old 5 rfl
              refine ⟨wanted_none rfl, _, _, run_fa rfl ?_, rfl, Below.refl _ _⟩
              show (Instr.fieldAt _ (a.tmps.getD 5 undef) _).run _ W = _
              rw [f1]
              exact fa_var1 _ W
            refine Steps.cons (step_value rfl fun a W hp => ?_) ?_
            · have f1 : a.tmps.getD 21 undef = (.pointer (some ⟨wr.heap.size, 1, none⟩)) := (hp.on_ 3 rfl rfl rfl).2
              exact ⟨wanted_none rfl, _, _, run_ldkind rfl f1 (cell_of_row W wr.heap.size 1 _ _ _ ((hp.below.block wr.heap.size (Array.getElem?_eq_some_iff.1 HL.out).1).trans HL.out)), rfl, Below.refl _ _⟩
            refine Steps.cons (step_enter rfl fun a W hp => ?_) ?_
            · have f1 : a.tmps.getD 22 undef = .int .i64 (kd : Int) := (hp.on_ 4 rfl rfl rfl).2
              refine ⟨wanted_none rfl, 63, _, run_enter1 rfl rfl Tryz.call63, ?_⟩
              show Calls _ _ #[a.tmps.getD 22 undef] W _
              rw [f1]
              exact (kindName_any (kd : Int) W).mono (fun e W' ⟨he, hm⟩ => ⟨_, he, rfl, by rw [hm]; exact Below.refl _ _⟩)
            refine Steps.cons (step_value rfl fun a W hp => ?_) ?_
            · have f1 : a.tmps.getD 20 undef = .string nm := (hp.on_ 2 rfl rfl rfl).2
              have f2 : a.tmps.getD 23 undef = .string (kindT (kd : Int)) := (hp.on_ 5 rfl rfl rfl).2
              refine ⟨wanted_none rfl, _, _, run_bsl3 rfl ?_, wRow_new3 _ _ _ W, (Below.refl _ _).alloc (Nat.le_refl _) _⟩
              show (Instr.buildSlice _ 3 #[(0, a.tmps.getD 20 undef), (1, _), (2, a.tmps.getD 23 undef)]).run _ W = _
              rw [f1, f2]
              exact bsl3 _ _ _ W
            exact Steps.nil
          case last =>
            intro a W hI
            have k0 : a.tmps.getD 0 undef = .pointer (some ⟨b, 0, none⟩) := hI.old 0 (by simp)
            have k1 : a.tmps.getD 1 undef = .slice x n c := hI.old 1 (by simp)
            have k2 : a.tmps.getD 2 undef = undef := hI.old 2 (by simp)
            have k3 : a.tmps.getD 3 undef = undef := hI.old 3 (by simp)
            have k5 : a.tmps.getD 5 undef = (.pointer (some ⟨wr.heap.size, 0, none⟩)) := hI.old 5 (by simp)
            have k6 : a.tmps.getD 6 undef = .slice x n c := hI.old 6 (by simp)
            have k7 : a.tmps.getD 7 undef = .int .i64 (n : Int) := hI.old 7 (by simp)
            have k8 : a.tmps.getD 8 undef = .int .i64 (i : Int) := hI.old 8 (by simp)
            have f1 : a.tmps.getD 18 undef = .pointer (some ⟨b, 0, none⟩) := hI.new 0 _ 18 rfl rfl rfl
            have f2 : wRow [nm, ⟨#[58, 32]⟩, kindT (kd : Int)] (a.tmps.getD 24 undef) W := hI.new 6 _ 24 rfl rfl rfl
            have hdf : a.defers = [] := hI.defers
            have hsz9 : a.tmps.size = 38 := hI.tmps
            have ks := S5.out W _ (HH.out.below hI.below) f2
            have HB' := Lib.hid (HB.out.trans (hI.below.mono HH.out.2))
            have HW' := Lib.hid (HW.out.trans (Wrote.below hI.below))
            have HL' := Lib.hid ((hI.below.block wr.heap.size (Array.getElem?_eq_some_iff.1 HL.out).1).trans HL.out)
            have hz8 := hI.below.size
            clear hI f2 HB HW HL HH
            have HB := HB'
            have HW := HW'
            have HL := HL'
            clear HB' HW' HL'
            refine wpOp_of rfl (wanted_none rfl) ?_
            unfold Oper.wp
            rw [run_enter2 rfl rfl Tryz.call32, Oper.upon_enter]
            rw [← f1] at ks
            show Calls _ _ #[a.tmps.getD 18 undef, a.tmps.getD 24 undef] _ _
            (with_reducible refine ks.mono ?_)
            rintro e W' ⟨rfl, hh, hb, hw⟩
            have hz7 := hw.size
            have HL' := Lib.hid ((hw.block wr.heap.size (Array.getElem?_eq_some_iff.1 HL.out).1 (by omega) (fun cs fr e => by rw [HL.out] at e; injection e with e; injection e with _ e _; exact absurd e (by decide))).trans HL.out)
            have HB' := Lib.hid (HB.out.trans hb)
            have HW' := Lib.hid (HW.out.trans hw)
            have HH := Lib.hid hh
            clear hh hb hw ks HL HB HW f1
            have HL := HL'
            have HB := HB'
            have HW := HW'
            clear HL' HB' HW'
            obtain ⟨f, hf, hx⟩ := act_eta hsz9 hdf
            rw [hf] at k0 k1 k2 k3 k5 k6 k7 k8
            clear hf hsz9 hdf
            subst hx
            have hl9 : ((List.range 38).map f).toArray = #[f 0, f 1, f 2, f 3, f 4, f 5, f 6, f 7, f 8, f 9, f 10, f 11, f 12, f 13, f 14, f 15, f 16, f 17, f 18, f 19, f 20, f 21, f 22, f 23, f 24, f 25, f 26, f 27, f 28, f 29, f 30, f 31, f 32, f 33, f 34, f 35, f 36, f 37] := rfl
            first
              | show Exit.then _ _ Exit.normal (Act.put _ (some 25) (Value.tuple #[])) W'
              | show Exit.inBlock _ _ Exit.normal (Act.put _ (some 25) (Value.tuple #[])) W'
            rw [hl9, k0, k1, k2, k3, k5, k6, k7, k8]
            clear hl9 k0 k1 k2 k3 k5 k6 k7 k8
            simp only [Exit.inBlock, Exit.then]
            have c2 := cell_of_row W' wr.heap.size 2 _ _ _ HL.out
            go_wp2_with fail
            refine wp_region_steps_then (words [wIs (.pointer (some ⟨b, 0, none⟩)), wIs (.pointer (some ⟨wr.heap.size, 3, none⟩)), wIs (.bool nt), wIs (.string (whenT nt)), wIs (.pointer (some ⟨wr.heap.size, 2, none⟩)), wIs (.string on), wRow [whenT nt, on]]) W'.heap.size W' (by kernel_rfl) (Below.refl _ _) (Nat.le_refl _) (words_stable ?stab) rfl rfl rfl (by kernel_rfl) _ rfl ?steps ?last
            case stab =>
              intro f hf
              simp only [List.mem_cons, List.not_mem_nil, or_false] at hf
              rcases hf with rfl | rfl | rfl | rfl | rfl | rfl | rfl <;> first | exact stable_is _ | exact stable_row _
            case steps =>
              refine Steps.cons (step_value rfl fun a W hp => ⟨wanted_none rfl, _, _, run_move (.inl rfl), hp.old 0 rfl, Below.refl _ _⟩) ?_
              refine Steps.cons (step_value rfl fun a W hp => ?_) ?_
              · have f1 : a.tmps.getD 5 undef = (.pointer (some ⟨wr.heap.size, 0, none⟩)) := hp.old 5 rfl
                refine ⟨wanted_none rfl, _, _, run_fa rfl ?_, rfl, Below.refl _ _⟩
                show (Instr.fieldAt _ (a.tmps.getD 5 undef) _).run _ W = _
                rw [f1]
                exact fa_var3 _ W
              refine Steps.cons (step_value rfl fun a W hp => ?_) ?_
              · have f1 : a.tmps.getD 30 undef = (.pointer (some ⟨wr.heap.size, 3, none⟩)) := (hp.on_ 1 rfl rfl rfl).2
                exact ⟨wanted_none rfl, _, _, run_ldbool rfl f1 (cell_of_row W wr.heap.size 3 _ _ _ ((hp.below.block wr.heap.size (Array.getElem?_eq_some_iff.1 HL.out).1).trans HL.out)), rfl, Below.refl _ _⟩
              refine Steps.cons (step_enter rfl fun a W hp => ?_) ?_
              · have f1 : a.tmps.getD 31 undef = .bool nt := (hp.on_ 2 rfl rfl rfl).2
                refine ⟨wanted_none rfl, 43, _, run_enter1 rfl rfl Tryz.call43, ?_⟩
                show Calls _ _ #[a.tmps.getD 31 undef] W _
                rw [f1]
                exact (whenWord_any nt W).mono (fun e W' ⟨he, hm⟩ => ⟨_, he, rfl, by rw [hm]; exact Below.refl _ _⟩)
              refine Steps.cons (step_value rfl fun a W hp => ?_) ?_
              · have f1 : a.tmps.getD 5 undef = (.pointer (some ⟨wr.heap.size, 0, none⟩)) := hp.old 5 rfl
                refine ⟨wanted_none rfl, _, _, run_fa rfl ?_, rfl, Below.refl _ _⟩
                show (Instr.fieldAt _ (a.tmps.getD 5 undef) _).run _ W = _
                rw [f1]
                exact fa_var2 _ W
              refine Steps.cons (step_value rfl fun a W hp => ?_) ?_
              · have f1 : a.tmps.getD 33 undef = (.pointer (some ⟨wr.heap.size, 2, none⟩)) := (hp.on_ 4 rfl rfl rfl).2
                exact ⟨wanted_none rfl, _, _, run_ldstr rfl f1 (cell_of_row W wr.heap.size 2 _ _ _ ((hp.below.block wr.heap.size (Array.getElem?_eq_some_iff.1 HL.out).1).trans HL.out)), rfl, Below.refl _ _⟩
              refine Steps.cons (step_value rfl fun a W hp => ?_) ?_
              · have f1 : a.tmps.getD 32 undef = .string (whenT nt) := (hp.on_ 3 rfl rfl rfl).2
                have f2 : a.tmps.getD 34 undef = .string on := (hp.on_ 5 rfl rfl rfl).2
                refine ⟨wanted_none rfl, _, _, run_bsl2 rfl ?_, wRow_new2 _ _ W, (Below.refl _ _).alloc (Nat.le_refl _) _⟩
                show (Instr.buildSlice _ 2 #[(0, a.tmps.getD 32 undef), (1, a.tmps.getD 34 undef)]).run _ W = _
                rw [f1, f2]
                exact bsl2 _ _ W
              exact Steps.nil
            case last =>
              intro a W hI
              have k0 : a.tmps.getD 0 undef = .pointer (some ⟨b, 0, none⟩) := hI.old 0 (by simp)
              have k1 : a.tmps.getD 1 undef = .slice x n c := hI.old 1 (by simp)
              have k2 : a.tmps.getD 2 undef = undef := hI.old 2 (by simp)
              have k3 : a.tmps.getD 3 undef = undef := hI.old 3 (by simp)
              have k5 : a.tmps.getD 5 undef = (.pointer (some ⟨wr.heap.size, 0, none⟩)) := hI.old 5 (by simp)
              have k6 : a.tmps.getD 6 undef = .slice x n c := hI.old 6 (by simp)
              have k7 : a.tmps.getD 7 undef = .int .i64 (n : Int) := hI.old 7 (by simp)
              have k8 : a.tmps.getD 8 undef = .int .i64 (i : Int) := hI.old 8 (by simp)
              have f1 : a.tmps.getD 29 undef = .pointer (some ⟨b, 0, none⟩) := hI.new 0 _ 29 rfl rfl rfl
              have f2 : wRow [whenT nt, on] (a.tmps.getD 35 undef) W := hI.new 6 _ 35 rfl rfl rfl
              have hdf : a.defers = [] := hI.defers
              have hsz9 : a.tmps.size = 38 := hI.tmps
              have ks := S7.out W _ (HH.out.below hI.below) f2
              have HB' := Lib.hid (HB.out.trans (hI.below.mono HH.out.2))
              have HW' := Lib.hid (HW.out.trans (Wrote.below hI.below))
              have HL' := Lib.hid ((hI.below.block wr.heap.size (Array.getElem?_eq_some_iff.1 HL.out).1).trans HL.out)
              have hz8 := hI.below.size
              clear hI f2 HB HW HL HH
              have HB := HB'
              have HW := HW'
              have HL := HL'
              clear HB' HW' HL'
              refine wpOp_of rfl (wanted_none rfl) ?_
              unfold Oper.wp
              rw [run_enter2 rfl rfl Tryz.call32, Oper.upon_enter]
              rw [← f1] at ks
              show Calls _ _ #[a.tmps.getD 29 undef, a.tmps.getD 35 undef] _ _
              (with_reducible refine ks.mono ?_)
              rintro e W' ⟨rfl, hh, hb, hw⟩
              have hz7 := hw.size
              have HL' := Lib.hid ((hw.block wr.heap.size (Array.getElem?_eq_some_iff.1 HL.out).1 (by omega) (fun cs fr e => by rw [HL.out] at e; injection e with e; injection e with _ e _; exact absurd e (by decide))).trans HL.out)
              have HB' := Lib.hid (HB.out.trans hb)
              have HW' := Lib.hid (HW.out.trans hw)
              have HH := Lib.hid hh
              clear hh hb hw ks HL HB HW f1
              have HL := HL'
              have HB := HB'
              have HW := HW'
              clear HL' HB' HW'
              obtain ⟨f, hf, hx⟩ := act_eta hsz9 hdf
              rw [hf] at k0 k1 k2 k3 k5 k6 k7 k8
              clear hf hsz9 hdf
              subst hx
              have hl9 : ((List.range 38).map f).toArray = #[f 0, f 1, f 2, f 3, f 4, f 5, f 6, f 7, f 8, f 9, f 10, f 11, f 12, f 13, f 14, f 15, f 16, f 17, f 18, f 19, f 20, f 21, f 22, f 23, f 24, f 25, f 26, f 27, f 28, f 29, f 30, f 31, f 32, f 33, f 34, f 35, f 36, f 37] := rfl
              first
                | show Exit.then _ _ Exit.normal (Act.put _ (some 36) (Value.tuple #[])) W'
                | show Exit.inBlock _ _ Exit.normal (Act.put _ (some 36) (Value.tuple #[])) W'
              rw [hl9, k0, k1, k2, k3, k5, k6, k7, k8]
              clear hl9 k0 k1 k2 k3 k5 k6 k7 k8
              simp only [Exit.inBlock, Exit.then]
              go_wp2_with fail
              refine ⟨⟨i + 1, by go_num, by omega, ?_, HB.out, HW.out⟩, ?_⟩
              · have e := HH.out
                have e2 := HSN.out
                rw [if_pos HI0.out, HX2.out, if_neg HON.out] at e2
                rw [e2]
                simpa [List.append_assoc] using e
              · simp [intOf]; omega
        · have d3 : decide (0 < i) = true := by simp; omega
          have HI0 := Lib.hid hi0
          clear hi0
          have S5 := Lib.hid (fun (W : World) (v : Value) (hb : Bld B b (l ++ P ++ [59, 32]) W) (hr : wRow [nm, ⟨#[58, 32]⟩, kindT (kd : Int)] v W) => say_row B b (l ++ P ++ [59, 32]) W hb [nm, ⟨#[58, 32]⟩, kindT (kd : Int)] v hr X1 HJ1.out (by simp) (by have := HLN.out; rw [if_neg HI0.out] at this; simp only [List.length_append, List.length_cons, List.length_nil] at this ⊢; omega))
          have S7 := Lib.hid (fun (W : World) (v : Value) (hb : Bld B b (l ++ P ++ [59, 32] ++ X1) W) (hr : wRow [whenT nt, on] v W) => say_row B b (l ++ P ++ [59, 32] ++ X1) W hb [whenT nt, on] v hr ((whenT nt).data.toList ++ on.data.toList) HJ2.out (by simp) (by have := HLN.out; rw [if_neg HI0.out, HX2.out, if_neg HON.out] at this; simp only [List.length_append, List.length_cons, List.length_nil] at this ⊢; omega))
          go_wp2_with (
               refine wpList_store_row rfl 88 (.tmp 5) (.tmp 12) rfl wr.heap.size #[.string nm, .int .i64 (kd : Int), .string on, .bool nt, .int .i64 (va : Int)] rfl rfl 88 _ HN3.out HSV.out rfl (vrowV_one _ _ _ _ _) ?_
               have hset := setRow_heap _ wr.heap.size _ #[.string nm, .int .i64 (kd : Int), .string on, .bool nt, .int .i64 (va : Int)] _ _ HN3.out
               have hbs := below_setRow HB3.out (Nat.le_refl _) #[.string nm, .int .i64 (kd : Int), .string on, .bool nt, .int .i64 (va : Int)]
               generalize (wr.alloc (.cells #[.string ⟨#[]⟩, .int .i64 0, .string ⟨#[]⟩, .bool false, .int .i64 0] 88)).setRow wr.heap.size #[.string nm, .int .i64 (kd : Int), .string on, .bool nt, .int .i64 (va : Int)] = w3 at hset hbs ⊢
               have HL := Lib.hid hset
               have HB := Lib.hid (HBW.out.trans (hbs.mono HSZ.out))
               have HW := Lib.hid (HWR.out.trans (Wrote.below hbs))
               have HH := Lib.hid (HBL.out.below hbs)
               have hz_3 : wr.heap.size + 1 ≤ w3.heap.size := (Array.getElem?_eq_some_iff.1 hset).1
               clear hset hbs HN3 HB3 HBW HWR HBL)
          have k1 := say_at B b (l ++ P) w3 HH.out [⟨#[59, 32]⟩] 1 w3.heap.size #[.string ⟨#[59, 32]⟩] [59, 32] rfl rfl rfl HJ.out (by decide) (by have := HLN.out; rw [if_neg HI0.out] at this; simp only [List.length_append, List.length_cons, List.length_nil] at this ⊢; omega)
          clear HH
          (with_reducible refine k1.mono ?_)
          rintro e u4 ⟨rfl, hh, hb, hw⟩
          have hz_u4 := hw.size
          have HL' := Lib.hid ((hw.block wr.heap.size (Array.getElem?_eq_some_iff.1 HL.out).1 (by omega) (fun cs fr e => by rw [HL.out] at e; injection e with e; injection e with _ e _; exact absurd e (by decide))).trans HL.out)
          have HB' := Lib.hid (HB.out.trans hb)
          have HW' := Lib.hid (HW.out.trans hw)
          have HH := Lib.hid hh
          clear hh hb hw k1 HL HB HW
          have HL := HL'
          have HB := HB'
          have HW := HW'
          clear HL' HB' HW'
          go_wp2_with fail
          refine wp_region_steps_then (words [wIs (.pointer (some ⟨b, 0, none⟩)), wIs (.pointer (some ⟨wr.heap.size, 0, none⟩)), wIs (.string nm), wIs (.pointer (some ⟨wr.heap.size, 1, none⟩)), wIs (.int .i64 (kd : Int)), wIs (.string (kindT (kd : Int))), wRow [nm, ⟨#[58, 32]⟩, kindT (kd : Int)]]) u4.heap.size u4 (by kernel_rfl) (Below.refl _ _) (Nat.le_refl _) (words_stable ?stab) rfl rfl rfl (by kernel_rfl) _ rfl ?steps ?last
          case stab =>
            intro f hf
            simp only [List.mem_cons, List.not_mem_nil, or_false] at hf
            rcases hf with rfl | rfl | rfl | rfl | rfl | rfl | rfl <;> first | exact stable_is _ | exact stable_row _
          case steps =>
            refine Steps.cons (step_value rfl fun a W hp => ⟨wanted_none rfl, _, _, run_move (.inl rfl), hp.old 0 rfl, Below.refl _ _⟩) ?_
            refine Steps.cons (step_value rfl fun a W hp => ?_) ?_
            · have f1 : a.tmps.getD 5 undef = (.pointer (some ⟨wr.heap.size, 0, none⟩)) := hp.old 5 rfl
              refine ⟨wanted_none rfl, _, _, run_fa rfl ?_, rfl, Below.refl _ _⟩
              show (Instr.fieldAt _ (a.tmps.getD 5 undef) _).run _ W = _
              rw [f1]
              exact fa_var0 _ W
            refine Steps.cons (step_value rfl fun a W hp => ?_) ?_
            · have f1 : a.tmps.getD 19 undef = (.pointer (some ⟨wr.heap.size, 0, none⟩)) := (hp.on_ 1 rfl rfl rfl).2
              exact ⟨wanted_none rfl, _, _, run_ldstr rfl f1 (cell_of_row W wr.heap.size 0 _ _ _ ((hp.below.block wr.heap.size (Array.getElem?_eq_some_iff.1 HL.out).1).trans HL.out)), rfl, Below.refl _ _⟩
            refine Steps.cons (step_value rfl fun a W hp => ?_) ?_
            · have f1 : a.tmps.getD 5 undef = (.pointer (some ⟨wr.heap.size, 0, none⟩)) := hp.old 5 rfl
              refine ⟨wanted_none rfl, _, _, run_fa rfl ?_, rfl, Below.refl _ _⟩
              show (Instr.fieldAt _ (a.tmps.getD 5 undef) _).run _ W = _
              rw [f1]
              exact fa_var1 _ W
            refine Steps.cons (step_value rfl fun a W hp => ?_) ?_
            · have f1 : a.tmps.getD 21 undef = (.pointer (some ⟨wr.heap.size, 1, none⟩)) := (hp.on_ 3 rfl rfl rfl).2
              exact ⟨wanted_none rfl, _, _, run_ldkind rfl f1 (cell_of_row W wr.heap.size 1 _ _ _ ((hp.below.block wr.heap.size (Array.getElem?_eq_some_iff.1 HL.out).1).trans HL.out)), rfl, Below.refl _ _⟩
            refine Steps.cons (step_enter rfl fun a W hp => ?_) ?_
            · have f1 : a.tmps.getD 22 undef = .int .i64 (kd : Int) := (hp.on_ 4 rfl rfl rfl).2
              refine ⟨wanted_none rfl, 63, _, run_enter1 rfl rfl Tryz.call63, ?_⟩
              show Calls _ _ #[a.tmps.getD 22 undef] W _
              rw [f1]
              exact (kindName_any (kd : Int) W).mono (fun e W' ⟨he, hm⟩ => ⟨_, he, rfl, by rw [hm]; exact Below.refl _ _⟩)
            refine Steps.cons (step_value rfl fun a W hp => ?_) ?_
            · have f1 : a.tmps.getD 20 undef = .string nm := (hp.on_ 2 rfl rfl rfl).2
              have f2 : a.tmps.getD 23 undef = .string (kindT (kd : Int)) := (hp.on_ 5 rfl rfl rfl).2
              refine ⟨wanted_none rfl, _, _, run_bsl3 rfl ?_, wRow_new3 _ _ _ W, (Below.refl _ _).alloc (Nat.le_refl _) _⟩
              show (Instr.buildSlice _ 3 #[(0, a.tmps.getD 20 undef), (1, _), (2, a.tmps.getD 23 undef)]).run _ W = _
              rw [f1, f2]
              exact bsl3 _ _ _ W
            exact Steps.nil
          case last =>
            intro a W hI
            have k0 : a.tmps.getD 0 undef = .pointer (some ⟨b, 0, none⟩) := hI.old 0 (by simp)
            have k1 : a.tmps.getD 1 undef = .slice x n c := hI.old 1 (by simp)
            have k2 : a.tmps.getD 2 undef = undef := hI.old 2 (by simp)
            have k3 : a.tmps.getD 3 undef = undef := hI.old 3 (by simp)
            have k5 : a.tmps.getD 5 undef = (.pointer (some ⟨wr.heap.size, 0, none⟩)) := hI.old 5 (by simp)
            have k6 : a.tmps.getD 6 undef = .slice x n c := hI.old 6 (by simp)
            have k7 : a.tmps.getD 7 undef = .int .i64 (n : Int) := hI.old 7 (by simp)
            have k8 : a.tmps.getD 8 undef = .int .i64 (i : Int) := hI.old 8 (by simp)
            have f1 : a.tmps.getD 18 undef = .pointer (some ⟨b, 0, none⟩) := hI.new 0 _ 18 rfl rfl rfl
            have f2 : wRow [nm, ⟨#[58, 32]⟩, kindT (kd : Int)] (a.tmps.getD 24 undef) W := hI.new 6 _ 24 rfl rfl rfl
            have hdf : a.defers = [] := hI.defers
            have hsz9 : a.tmps.size = 38 := hI.tmps
            have ks := S5.out W _ (HH.out.below hI.below) f2
            have HB' := Lib.hid (HB.out.trans (hI.below.mono HH.out.2))
            have HW' := Lib.hid (HW.out.trans (Wrote.below hI.below))
            have HL' := Lib.hid ((hI.below.block wr.heap.size (Array.getElem?_eq_some_iff.1 HL.out).1).trans HL.out)
            have hz8 := hI.below.size
            clear hI f2 HB HW HL HH
            have HB := HB'
            have HW := HW'
            have HL := HL'
            clear HB' HW' HL'
            refine wpOp_of rfl (wanted_none rfl) ?_
            unfold Oper.wp
            rw [run_enter2 rfl rfl Tryz.call32, Oper.upon_enter]
            rw [← f1] at ks
            show Calls _ _ #[a.tmps.getD 18 undef, a.tmps.getD 24 undef] _ _
            (with_reducible refine ks.mono ?_)
            rintro e W' ⟨rfl, hh, hb, hw⟩
            have hz7 := hw.size
            have HL' := Lib.hid ((hw.block wr.heap.size (Array.getElem?_eq_some_iff.1 HL.out).1 (by omega) (fun cs fr e => by rw [HL.out] at e; injection e with e; injection e with _ e _; exact absurd e (by decide))).trans HL.out)
            have HB' := Lib.hid (HB.out.trans hb)
            have HW' := Lib.hid (HW.out.trans hw)
            have HH := Lib.hid hh
            clear hh hb hw ks HL HB HW f1
            have HL := HL'
            have HB := HB'
            have HW := HW'
            clear HL' HB' HW'
            obtain ⟨f, hf, hx⟩ := act_eta hsz9 hdf
            rw [hf] at k0 k1 k2 k3 k5 k6 k7 k8
            clear hf hsz9 hdf
            subst hx
            have hl9 : ((List.range 38).map f).toArray = #[f 0, f 1, f 2, f 3, f 4, f 5, f 6, f 7, f 8, f 9, f 10, f 11, f 12, f 13, f 14, f 15, f 16, f 17, f 18, f 19, f 20, f 21, f 22, f 23, f 24, f 25, f 26, f 27, f 28, f 29, f 30, f 31, f 32, f 33, f 34, f 35, f 36, f 37] := rfl
            first
              | show Exit.then _ _ Exit.normal (Act.put _ (some 25) (Value.tuple #[])) W'
              | show Exit.inBlock _ _ Exit.normal (Act.put _ (some 25) (Value.tuple #[])) W'
            rw [hl9, k0, k1, k2, k3, k5, k6, k7, k8]
            clear hl9 k0 k1 k2 k3 k5 k6 k7 k8
            simp only [Exit.inBlock, Exit.then]
            have c2 := cell_of_row W' wr.heap.size 2 _ _ _ HL.out
            go_wp2_with fail
            refine wp_region_steps_then (words [wIs (.pointer (some ⟨b, 0, none⟩)), wIs (.pointer (some ⟨wr.heap.size, 3, none⟩)), wIs (.bool nt), wIs (.string (whenT nt)), wIs (.pointer (some ⟨wr.heap.size, 2, none⟩)), wIs (.string on), wRow [whenT nt, on]]) W'.heap.size W' (by kernel_rfl) (Below.refl _ _) (Nat.le_refl _) (words_stable ?stab) rfl rfl rfl (by kernel_rfl) _ rfl ?steps ?last
            case stab =>
              intro f hf
              simp only [List.mem_cons, List.not_mem_nil, or_false] at hf
              rcases hf with rfl | rfl | rfl | rfl | rfl | rfl | rfl <;> first | exact stable_is _ | exact stable_row _
            case steps =>
              refine Steps.cons (step_value rfl fun a W hp => ⟨wanted_none rfl, _, _, run_move (.inl rfl), hp.old 0 rfl, Below.refl _ _⟩) ?_
              refine Steps.cons (step_value rfl fun a W hp => ?_) ?_
              · have f1 : a.tmps.getD 5 undef = (.pointer (some ⟨wr.heap.size, 0, none⟩)) := hp.old 5 rfl
                refine ⟨wanted_none rfl, _, _, run_fa rfl ?_, rfl, Below.refl _ _⟩
                show (Instr.fieldAt _ (a.tmps.getD 5 undef) _).run _ W = _
                rw [f1]
                exact fa_var3 _ W
              refine Steps.cons (step_value rfl fun a W hp => ?_) ?_
              · have f1 : a.tmps.getD 30 undef = (.pointer (some ⟨wr.heap.size, 3, none⟩)) := (hp.on_ 1 rfl rfl rfl).2
                exact ⟨wanted_none rfl, _, _, run_ldbool rfl f1 (cell_of_row W wr.heap.size 3 _ _ _ ((hp.below.block wr.heap.size (Array.getElem?_eq_some_iff.1 HL.out).1).trans HL.out)), rfl, Below.refl _ _⟩
              refine Steps.cons (step_enter rfl fun a W hp => ?_) ?_
              · have f1 : a.tmps.getD 31 undef = .bool nt := (hp.on_ 2 rfl rfl rfl).2
                refine ⟨wanted_none rfl, 43, _, run_enter1 rfl rfl Tryz.call43, ?_⟩
                show Calls _ _ #[a.tmps.getD 31 undef] W _
                rw [f1]
                exact (whenWord_any nt W).mono (fun e W' ⟨he, hm⟩ => ⟨_, he, rfl, by rw [hm]; exact Below.refl _ _⟩)
              refine Steps.cons (step_value rfl fun a W hp => ?_) ?_
              · have f1 : a.tmps.getD 5 undef = (.pointer (some ⟨wr.heap.size, 0, none⟩)) := hp.old 5 rfl
                refine ⟨wanted_none rfl, _, _, run_fa rfl ?_, rfl, Below.refl _ _⟩
                show (Instr.fieldAt _ (a.tmps.getD 5 undef) _).run _ W = _
                rw [f1]
                exact fa_var2 _ W
              refine Steps.cons (step_value rfl fun a W hp => ?_) ?_
              · have f1 : a.tmps.getD 33 undef = (.pointer (some ⟨wr.heap.size, 2, none⟩)) := (hp.on_ 4 rfl rfl rfl).2
                exact ⟨wanted_none rfl, _, _, run_ldstr rfl f1 (cell_of_row W wr.heap.size 2 _ _ _ ((hp.below.block wr.heap.size (Array.getElem?_eq_some_iff.1 HL.out).1).trans HL.out)), rfl, Below.refl _ _⟩
              refine Steps.cons (step_value rfl fun a W hp => ?_) ?_
              · have f1 : a.tmps.getD 32 undef = .string (whenT nt) := (hp.on_ 3 rfl rfl rfl).2
                have f2 : a.tmps.getD 34 undef = .string on := (hp.on_ 5 rfl rfl rfl).2
                refine ⟨wanted_none rfl, _, _, run_bsl2 rfl ?_, wRow_new2 _ _ W, (Below.refl _ _).alloc (Nat.le_refl _) _⟩
                show (Instr.buildSlice _ 2 #[(0, a.tmps.getD 32 undef), (1, a.tmps.getD 34 undef)]).run _ W = _
                rw [f1, f2]
                exact bsl2 _ _ W
              exact Steps.nil
            case last =>
              intro a W hI
              have k0 : a.tmps.getD 0 undef = .pointer (some ⟨b, 0, none⟩) := hI.old 0 (by simp)
              have k1 : a.tmps.getD 1 undef = .slice x n c := hI.old 1 (by simp)
              have k2 : a.tmps.getD 2 undef = undef := hI.old 2 (by simp)
              have k3 : a.tmps.getD 3 undef = undef := hI.old 3 (by simp)
              have k5 : a.tmps.getD 5 undef = (.pointer (some ⟨wr.heap.size, 0, none⟩)) := hI.old 5 (by simp)
              have k6 : a.tmps.getD 6 undef = .slice x n c := hI.old 6 (by simp)
              have k7 : a.tmps.getD 7 undef = .int .i64 (n : Int) := hI.old 7 (by simp)
              have k8 : a.tmps.getD 8 undef = .int .i64 (i : Int) := hI.old 8 (by simp)
              have f1 : a.tmps.getD 29 undef = .pointer (some ⟨b, 0, none⟩) := hI.new 0 _ 29 rfl rfl rfl
              have f2 : wRow [whenT nt, on] (a.tmps.getD 35 undef) W := hI.new 6 _ 35 rfl rfl rfl
              have hdf : a.defers = [] := hI.defers
              have hsz9 : a.tmps.size = 38 := hI.tmps
              have ks := S7.out W _ (HH.out.below hI.below) f2
              have HB' := Lib.hid (HB.out.trans (hI.below.mono HH.out.2))
              have HW' := Lib.hid (HW.out.trans (Wrote.below hI.below))
              have HL' := Lib.hid ((hI.below.block wr.heap.size (Array.getElem?_eq_some_iff.1 HL.out).1).trans HL.out)
              have hz8 := hI.below.size
              clear hI f2 HB HW HL HH
              have HB := HB'
              have HW := HW'
              have HL := HL'
              clear HB' HW' HL'
              refine wpOp_of rfl (wanted_none rfl) ?_
              unfold Oper.wp
              rw [run_enter2 rfl rfl Tryz.call32, Oper.upon_enter]
              rw [← f1] at ks
              show Calls _ _ #[a.tmps.getD 29 undef, a.tmps.getD 35 undef] _ _
              (with_reducible refine ks.mono ?_)
              rintro e W' ⟨rfl, hh, hb, hw⟩
              have hz7 := hw.size
              have HL' := Lib.hid ((hw.block wr.heap.size (Array.getElem?_eq_some_iff.1 HL.out).1 (by omega) (fun cs fr e => by rw [HL.out] at e; injection e with e; injection e with _ e _; exact absurd e (by decide))).trans HL.out)
              have HB' := Lib.hid (HB.out.trans hb)
              have HW' := Lib.hid (HW.out.trans hw)
              have HH := Lib.hid hh
              clear hh hb hw ks HL HB HW f1
              have HL := HL'
              have HB := HB'
              have HW := HW'
              clear HL' HB' HW'
              obtain ⟨f, hf, hx⟩ := act_eta hsz9 hdf
              rw [hf] at k0 k1 k2 k3 k5 k6 k7 k8
              clear hf hsz9 hdf
              subst hx
              have hl9 : ((List.range 38).map f).toArray = #[f 0, f 1, f 2, f 3, f 4, f 5, f 6, f 7, f 8, f 9, f 10, f 11, f 12, f 13, f 14, f 15, f 16, f 17, f 18, f 19, f 20, f 21, f 22, f 23, f 24, f 25, f 26, f 27, f 28, f 29, f 30, f 31, f 32, f 33, f 34, f 35, f 36, f 37] := rfl
              first
                | show Exit.then _ _ Exit.normal (Act.put _ (some 36) (Value.tuple #[])) W'
                | show Exit.inBlock _ _ Exit.normal (Act.put _ (some 36) (Value.tuple #[])) W'
              rw [hl9, k0, k1, k2, k3, k5, k6, k7, k8]
              clear hl9 k0 k1 k2 k3 k5 k6 k7 k8
              simp only [Exit.inBlock, Exit.then]
              go_wp2_with fail
              refine ⟨⟨i + 1, by go_num, by omega, ?_, HB.out, HW.out⟩, ?_⟩
              · have e := HH.out
                have e2 := HSN.out
                rw [if_neg HI0.out, HX2.out, if_neg HON.out] at e2
                rw [e2]
                simpa [List.append_assoc] using e
              · simp [intOf]; omega
    · obtain rfl : i = n := by omega
      have d2 : decide ((i : Int) < (i : Int)) = false := by simp
      have ht : (vs.map varT).take i = vs.map varT := List.take_of_length_le (by rw [List.length_map]; have := HLK.out; omega)
      rw [ht] at hbl
      have H3 := Lib.hid hbl
      have H4 := Lib.hid hbw
      have H5 := Lib.hid hwr
      clear ht hbl hbw hwr HGX HLK HIW HH2 HLN0 HJC
      go_wp2_with fail
      go_end0
      exact ⟨rfl, H3.out, H4.out, H5.out⟩
end Go.Proofs.YtjlnihennlkmpaaGreatDoor
