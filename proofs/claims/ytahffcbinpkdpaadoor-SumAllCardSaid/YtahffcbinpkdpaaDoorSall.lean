/-
  What package sum's All does.
-/
import Derived.Test.YtahffcbinpkdpaaDoorSfra
import Derived.Test.YtahffcbinpkdpaaDoorTxs
namespace Go.Proofs.YtahffcbinpkdpaaDoor
open Go Go.RowKit

/-- A call hands back the texts, and a size; older memory is as it was. -/
def GivesAll (w : World) (r : List (List UInt8) × Nat) (e : Ending) (w' : World) : Prop :=
  ∃ v xs, e = .returned (.tuple #[v, .int .i64 r.2]) ∧ w'.ownsRow w.heap.size 25 1 v r.1.length xs ∧ Texts w' xs r.1 ∧ Below w.heap.size w w'

set_option maxHeartbeats 4000000 in
set_option maxRecDepth 100000 in
theorem All_some (b o c : Nat) (l : List UInt8) (first : Nat) (w : World) (hT : Tab w) (hf : first < 18446744073709551616) (hlt : b < w.heap.size) (ht : Txt w (some ⟨b, o, none⟩) l) (hc : l.length ≤ c) (hm : c ≤ maxLen) (hrl : l.length ≤ 70368744177664) :
    Calls Tryd.prog 8 #[.slice (some ⟨b, o, none⟩) l.length c, .int .u64 first] w (GivesAll w (all1 l first)) := by
  obtain ⟨i0, hi, hz0, hz1, hz2⟩ := info_parts info_bytes
  obtain ⟨w0, hw0⟩ : ∃ w0, w0 = w := ⟨_, rfl⟩
  have hT0 : Tab w0 := by rw [hw0]; exact hT
  have ht0 : Txt w0 (some ⟨b, o, none⟩) l := by rw [hw0]; exact ht
  have HT := Lib.hid hT0
  have HX := Lib.hid ht0
  have HW := Lib.hid hw0
  have hcm := hm
  unfold maxLen at hm
  clear hT ht hT0 ht0 hw0
  go_enter Tryd.func8, Tryd.ntmps8
  go_wp2
  go_loopw [4, 5, 6] (fun vl vs vn wr => ∃ (V : Value) (pre : List (List UInt8)) (xs : List Value) (at_ next : Nat), V = vl ∧ vs = .int .i64 at_ ∧ vn = .int .u64 next ∧ next < 18446744073709551616 ∧ at_ ≤ l.length ∧ 17 * pre.length ≤ at_ ∧ wr.ownsRow w.heap.size 25 1 V pre.length xs ∧ Texts wr xs pre ∧ Heads xs pre ∧ Below w.heap.size w wr ∧
      all1 l first = (pre ++ (all1 (l.drop at_) next).1, at_ + (all1 (l.drop at_) next).2))
    (fun _ vs _ _ => l.length - (intOf vs).toNat)
  case atStart => exact ⟨_, [], [], 0, first, rfl, rfl, rfl, hf, Nat.zero_le _, Nat.le_refl _, ⟨rfl, .inl ⟨rfl, rfl⟩⟩, Texts.nil _, Heads.nil, Below.refl _ _, by simp⟩
  case round =>
    obtain ⟨V, pre, xs, at_, next, hV, rfl, rfl, hnext, hat, hpre, hown, htx, hhd, hbel, hall⟩ := hrel
    subst hV
    have HA := Lib.hid hall
    have hd : (l.drop at_).length = l.length - at_ := List.length_drop
    have tk : ∀ a', Txt wr a' (l.drop at_) → Calls Tryd.prog 15 #[.slice a' (l.length - at_) (c - at_)] wr (Took wr (take1 (l.drop at_))) := by
      intro a' ha
      have h := Take_any a' (c - at_) (l.drop at_) wr (HT.out.below (by rw [HW.out]; exact hbel) (by rw [HW.out]; exact Nat.le_refl _)) ha (by omega) (by omega)
      rwa [hd] at h
    clear hall
    have fin0 : size1 (l.drop at_) = 0 ∨ up (piece (l.drop at_) 5 13) ≠ next → all1 l first = (pre, at_) := by
      intro h
      rw [HA.out, all1_none h]
      simp
    have done : all1 l first = (pre, at_) → ∀ w' : World, Below wr.heap.size wr w' → GivesAll w (all1 l first) (.returned (.tuple #[V, .int .i64 (at_ : Int)])) w' := by
      intro h w' hb
      rw [h]
      have hbw := hbel.trans (hb.mono hbel.size)
      refine ⟨V, xs, rfl, ?_, htx.below hb, hbw⟩
      refine ⟨hown.1, ?_⟩
      rcases hown.2 with h | ⟨g, cap, cur, e, hg, hgc, h5⟩
      · exact .inl h
      · exact .inr ⟨g, cap, cur, e, hg, (hb.block g (Array.getElem?_eq_some_iff.1 hgc).1).trans hgc, h5⟩
    by_cases hca : c = at_
    · subst hca
      have hnil : l.drop c = [] := List.eq_nil_of_length_eq_zero (by omega)
      have h0 : size1 (l.drop c) = 0 := by rw [hnil]; rfl
      have hd1 := done (fin0 (.inl h0))
      have tk0 : Calls Tryd.prog 15 #[.slice (some ⟨b, o, none⟩) 0 0] wr (Took wr (0, [], 0)) := by
        have h := tk (some ⟨b, o, none⟩) (by rw [hnil]; exact Txt.nil _ _)
        unfold take1 at h
        rw [if_pos h0, show l.length - c = 0 by omega, Nat.sub_self] at h
        exact h
      have HD := Lib.hid hd1
      clear tk done fin0 hown htx hhd hd1 hnil h0 hd
      go_wp2_with fail
      refine tk0.mono ?_
      rintro e w1 ⟨a1, c1, rfl, _, _, _, _, hb1⟩
      go_wp2_with fail
      go_ret2
      exact HD.out w1 hb1
    · have hca' : ¬ c - at_ = 0 := by omega
      have hlt' : b < wr.heap.size := Nat.lt_of_lt_of_le hlt hbel.size
      have htd : Txt wr (some ⟨b, o + at_, none⟩) (l.drop at_) := by
        have h := (HX.out.piece at_ l.length)
        have e : Go.Proofs.YtahffcbinpkdpaaDoor.piece l at_ l.length = l.drop at_ := by unfold Go.Proofs.YtahffcbinpkdpaaDoor.piece; rw [List.take_of_length_le (by simp)]
        rw [e] at h
        exact h.below (by rw [HW.out]; exact hbel)
      have tk1 := tk _ htd
      clear tk htd
      by_cases h0 : size1 (l.drop at_) = 0
      · have hd1 := done (fin0 (.inl h0))
        have et : take1 (l.drop at_) = (0, [], 0) := by unfold take1; rw [if_pos h0]
        rw [et] at tk1
        have HD := Lib.hid hd1
        clear done fin0 hown htx hhd hd1 h0 hd et
        go_wp2_with fail
        refine tk1.mono ?_
        rintro e w1 ⟨a1, c1, rfl, _, _, _, _, hb1⟩
        go_wp2_with fail
        go_ret2
        exact HD.out w1 hb1
      · have et : take1 (l.drop at_) = (up (piece (l.drop at_) 5 13), piece (l.drop at_) 17 (size1 (l.drop at_)), size1 (l.drop at_)) := by unfold take1; rw [if_neg h0]
        have hbd := size1_bounds (l.drop at_)
        rw [et] at tk1
        by_cases hq : up (piece (l.drop at_) 5 13) = next
        · by_cases hmax : next = 18446744073709551615
          · have hlast := all1_last h0 hq hmax
            have hs0 : ((size1 (l.drop at_) : Int) == 0) = false := by simp; omega
            have hqn : ((next : Int) != (next : Int)) = false := by simp
            have hres : all1 l first = (pre ++ [piece (l.drop at_) 17 (size1 (l.drop at_))], at_ + size1 (l.drop at_)) := by rw [HA.out, hlast]
            have HR : Hid (all1 l first = (pre ++ [piece (l.drop at_) 17 (size1 (l.drop at_))], at_ + size1 (l.drop at_))) := Lib.hid hres
            clear hlast hres
            rw [hq] at tk1
            have hbd' : 17 ≤ size1 (l.drop at_) ∧ size1 (l.drop at_) ≤ l.length - at_ := by omega
            generalize piece (l.drop at_) 17 (size1 (l.drop at_)) = t at *
            generalize size1 (l.drop at_) = N at *
            clear done fin0 h0 hd et hbd hq
            go_wp2_with fail
            refine tk1.mono ?_
            rintro e w1 ⟨a1, c1, rfl, t1, ha1, hc1, hm1, hb1⟩
            have hbel1 := hbel.trans (hb1.mono hbel.size)
            have hown1 : w1.ownsRow w.heap.size 25 1 V pre.length xs := by
              refine ⟨hown.1, ?_⟩
              rcases hown.2 with h | ⟨g, cap, cur, e, hg, hgc, h5⟩
              · exact .inl h
              · exact .inr ⟨g, cap, cur, e, hg, (hb1.block g (Array.getElem?_eq_some_iff.1 hgc).1).trans hgc, h5⟩
            go_wp2_with (at_builtin; refine wpList_append_own _ rfl _ _ 22 rfl w.heap.size 25 i0 (.slice none 0 0) 1 24 Tryd.underlying22 hi hz0 hz1 hz2 rfl (by decide) _ _ _ rfl (hown1.alloc _) ⟨w1.heap.size, 0, none⟩ 1 1 [Value.slice a1 t.length c1] rfl rfl ?d1 ?d2 ?d3 ?d4 ?d5 ?_)
            case d1 =>
              intro j u hj
              match j, hj with
              | 0, hj => simp at hj; subst hj; simp [Addr.add]
            case d2 => intro u hu; simp at hu; subst hu; rfl
            case d3 => unfold maxLen; omega
            case d4 => omega
            case d5 => have := hbel1.size; simp; omega
            intro V2 w2 hown2 hgrow _
            have hbel2 : Below w.heap.size w w2 := (hbel1.alloc (by have := hbel1.size; omega) _).grown hgrow (by have := hbel1.size; simp; omega) (fun k hk => (hown1.lt k hk).1)
            obtain ⟨htx2, hhd2⟩ := htx.push hhd hown hb1 hgrow t1 ha1 hc1 hm1
            have hlen2 : (pre ++ [t]).length = pre.length + 1 := by simp
            rw [← hlen2] at hown2
            subst hmax
            go_wp2
            go_ret2
            rw [HR.out]
            exact ⟨V2, _, rfl, hown2, htx2, hbel2⟩
          · have hstep := all1_step h0 hq hmax
            have hs0 : ((size1 (l.drop at_) : Int) == 0) = false := by simp; omega
            have hqn : ((next : Int) != (next : Int)) = false := by simp
            have hres : all1 l first = ((pre ++ [piece (l.drop at_) 17 (size1 (l.drop at_))]) ++ (all1 (l.drop (at_ + size1 (l.drop at_))) (next + 1)).1, (at_ + size1 (l.drop at_)) + (all1 (l.drop (at_ + size1 (l.drop at_))) (next + 1)).2) := by rw [HA.out, hstep, List.drop_drop]; simp [Nat.add_assoc]
            have HR := Lib.hid hres
            have hmx : ((next : Int) == 18446744073709551615) = false := by simp; omega
            clear hstep hres
            rw [hq] at tk1
            have hbd' : 17 ≤ size1 (l.drop at_) ∧ size1 (l.drop at_) ≤ l.length - at_ := by omega
            generalize piece (l.drop at_) 17 (size1 (l.drop at_)) = t at *
            generalize size1 (l.drop at_) = N at *
            clear done fin0 h0 hd et hbd hq
            go_wp2_with fail
            refine tk1.mono ?_
            rintro e w1 ⟨a1, c1, rfl, t1, ha1, hc1, hm1, hb1⟩
            have hbel1 := hbel.trans (hb1.mono hbel.size)
            have hown1 : w1.ownsRow w.heap.size 25 1 V pre.length xs := by
              refine ⟨hown.1, ?_⟩
              rcases hown.2 with h | ⟨g, cap, cur, e, hg, hgc, h5⟩
              · exact .inl h
              · exact .inr ⟨g, cap, cur, e, hg, (hb1.block g (Array.getElem?_eq_some_iff.1 hgc).1).trans hgc, h5⟩
            go_wp2_with (at_builtin; refine wpList_append_own _ rfl _ _ 22 rfl w.heap.size 25 i0 (.slice none 0 0) 1 24 Tryd.underlying22 hi hz0 hz1 hz2 rfl (by decide) _ _ _ rfl (hown1.alloc _) ⟨w1.heap.size, 0, none⟩ 1 1 [Value.slice a1 t.length c1] rfl rfl ?d1 ?d2 ?d3 ?d4 ?d5 ?_)
            case d1 =>
              intro j u hj
              match j, hj with
              | 0, hj => simp at hj; subst hj; simp [Addr.add]
            case d2 => intro u hu; simp at hu; subst hu; rfl
            case d3 => unfold maxLen; omega
            case d4 => omega
            case d5 => have := hbel1.size; simp; omega
            intro V2 w2 hown2 hgrow _
            have hbel2 : Below w.heap.size w w2 := (hbel1.alloc (by have := hbel1.size; omega) _).grown hgrow (by have := hbel1.size; simp; omega) (fun k hk => (hown1.lt k hk).1)
            obtain ⟨htx2, hhd2⟩ := htx.push hhd hown hb1 hgrow t1 ha1 hc1 hm1
            have hlen2 : (pre ++ [t]).length = pre.length + 1 := by simp
            rw [← hlen2] at hown2
            go_wp2
            refine ⟨⟨V2, pre ++ [t], _, at_ + N, next + 1, rfl, by go_num, by go_num, by omega, by omega, by rw [hlen2]; omega, hown2, htx2, hhd2, hbel2, HR.out⟩, ?_⟩
            simp [intOf]; omega
        · have hd1 := done (fin0 (.inr hq))
          have hs0 : ((size1 (l.drop at_) : Int) == 0) = false := by simp; omega
          have hqn : ((up (piece (l.drop at_) 5 13) : Int) != (next : Int)) = true := by simp; omega
          have HD := Lib.hid hd1
          generalize up (piece (l.drop at_) 5 13) = q at *
          generalize piece (l.drop at_) 17 (size1 (l.drop at_)) = t at *
          generalize size1 (l.drop at_) = N at *
          clear done fin0 hown htx hhd hd1 h0 hd et hbd hq
          go_wp2_with fail
          refine tk1.mono ?_
          rintro e w1 ⟨a1, c1, rfl, _, _, _, _, hb1⟩
          go_wp2_with fail
          go_ret2
          exact HD.out w1 hb1

set_option maxHeartbeats 4000000 in
set_option maxRecDepth 100000 in
theorem All_nil (a : Option Addr) (c : Nat) (first : Nat) (w : World) (hT : Tab w) (hf : first < 18446744073709551616) (hm : c ≤ maxLen) :
    Calls Tryd.prog 8 #[.slice a 0 c, .int .u64 first] w (GivesAll w (all1 [] first)) := by
  have tk : ∀ a', Calls Tryd.prog 15 #[.slice a' 0 c] w (Took w (0, [], 0)) := fun a' => Take_any a' c [] w hT (Txt.nil _ _) (Nat.zero_le _) hm
  have hn : all1 [] first = ([], 0) := all1_none (.inl rfl)
  have fin : ∀ w', Below w.heap.size w w' → GivesAll w ([], 0) (.returned (.tuple #[.slice none 0 0, .int .i64 0])) w' := fun w' hb => ⟨_, [], rfl, ⟨rfl, .inl ⟨rfl, rfl⟩⟩, Texts.nil _, hb⟩
  rw [hn]
  clear hn hT
  by_cases hc : c = 0
  · subst hc
    go_enter Tryd.func8, Tryd.ntmps8
    go_wp2
    refine wp_loop_rounds 1 ?_
    rw [rounds_succ]
    go_wp2_with fail
    refine (tk _).mono ?_
    rintro e w1 ⟨a1, c1, rfl, _, _, _, _, hb1⟩
    go_wp2_with fail
    go_ret2
    exact fin w1 hb1
  · cases a with
    | none =>
      go_enter Tryd.func8, Tryd.ntmps8
      go_wp2
      refine wp_loop_rounds 1 ?_
      rw [rounds_succ]
      go_wp2_with fail
      refine (tk _).mono ?_
      rintro e w1 ⟨a1, c1, rfl, _, _, _, _, hb1⟩
      go_wp2_with fail
      go_ret2
      exact fin w1 hb1
    | some ad =>
      go_enter Tryd.func8, Tryd.ntmps8
      go_wp2
      refine wp_loop_rounds 1 ?_
      rw [rounds_succ]
      go_wp2_with fail
      refine (tk _).mono ?_
      rintro e w1 ⟨a1, c1, rfl, _, _, _, _, hb1⟩
      go_wp2_with fail
      go_ret2
      exact fin w1 hb1

theorem All_any (a : Option Addr) (c : Nat) (l : List UInt8) (first : Nat) (w : World) (hT : Tab w) (hf : first < 18446744073709551616) (ht : Txt w a l) (hc : l.length ≤ c) (hm : c ≤ maxLen) (hrl : l.length ≤ 70368744177664) :
    Calls Tryd.prog 8 #[.slice a l.length c, .int .u64 first] w (GivesAll w (all1 l first)) := by
  cases l with
  | nil => exact All_nil a c first w hT hf hm
  | cons x r =>
    obtain ⟨b, o, rfl, hlt, _⟩ := ht (by simp)
    exact All_some b o c _ first w hT hf hlt ht hc hm hrl

end Go.Proofs.YtahffcbinpkdpaaDoor
