/-
  What package sha's Add does.
-/
import Derived.Test.YtopchpaiehoilaaDoorHmi
import Derived.Test.YtopchpaiehoilaaDoorHcp
namespace Go.Proofs.YtopchpaiehoilaaDoor
open Go Go.RowKit

theorem size_hash : True := trivial

/-- What the loop keeps. -/
def Mid (w : World) (g : Nat) (L l : List UInt8) (v : Value) (wr : World) : Prop :=
  ∃ (m : Nat) (a : Option Addr) (c : Nat), v = .slice a (l.length - m) c ∧ m ≤ l.length ∧ (L.length + m) % 64 = 0 ∧ l.length - m ≤ c ∧ c ≤ maxLen ∧ Txt wr a (l.drop m) ∧ (∀ b o, a = some ⟨b, o, none⟩ → l.drop m ≠ [] → b ≠ g) ∧
    (∃ rest, HBlk wr g (soak KT I8 (L ++ l.take m)) rest (L.length + l.length)) ∧ w.grownBy wr (some g)

theorem mid_next {w w2 : World} {g m : Nat} {L l : List UInt8} {rest : List UInt8} {a' : Option Addr} {c' : Nat} (hm : m + 64 ≤ l.length) (h64 : (L.length + m) % 64 = 0) (hc : l.length - (m + 64) ≤ c') (hmx : c' ≤ maxLen)
    (ht : Txt w2 a' (l.drop (m + 64))) (hne : ∀ b o, a' = some ⟨b, o, none⟩ → l.drop (m + 64) ≠ [] → b ≠ g) (hh : HBlk w2 g (mix8 KT (soak KT I8 (L ++ l.take m)) ((l.drop m).take 64)) rest (L.length + l.length)) (hg : w.grownBy w2 (some g)) :
    Mid w g L l (.slice a' (l.length - m - 64) c') w2 :=
  ⟨m + 64, a', c', by rw [Nat.sub_sub], hm, by omega, hc, hmx, ht, hne, ⟨rest, by rw [more_block KT I8 L l m h64 hm]; exact hh⟩, hg⟩

theorem mid_done {wr : World} {g m : Nat} {L l rest : List UInt8} (hm : m ≤ l.length) (h64 : (L.length + m) % 64 = 0) (hr : l.length - m < 64)
    (hh : HBlk wr g (soak KT I8 (L ++ l.take m)) (lay rest 0 (l.drop m)) (L.length + l.length)) (h64r : rest.length = 64) : Held wr g (L ++ l) := by
  refine ⟨lay rest 0 (l.drop m), ?_, ?_⟩
  · rw [List.length_append, last_part KT I8 L l m h64 hm hr]; exact hh
  · have e : (L ++ l).length % 64 = l.length - m := by rw [List.length_append]; omega
    have hl : (l.drop m).length = l.length - m := by rw [List.length_drop]
    have h := lay_take (R := rest) (M := l.drop m) (o := 0) (by rw [hl]; omega)
    rw [Nat.zero_add, List.take_zero, List.nil_append] at h
    rw [e, ← hl, h, show (L ++ l).length - (l.drop m).length = L.length + m by rw [hl, List.length_append]; omega]
    rw [List.drop_append, List.drop_eq_nil_of_le (Nat.le_add_right _ _), List.nil_append, Nat.add_sub_cancel_left]

theorem held_small {w : World} {g : Nat} {L l rest : List UInt8} (hf : L.length % 64 + l.length < 64) (ht : rest.take (L.length % 64) = L.drop (L.length - L.length % 64)) (h64r : rest.length = 64)
    (hh : HBlk w g (soak KT I8 L) (lay rest (L.length % 64) l) (L.length + l.length)) : Held w g (L ++ l) := by
  refine ⟨_, by rw [List.length_append, soak_tail KT I8 L l (by omega)]; exact hh, ?_⟩
  have e : (L ++ l).length % 64 = L.length % 64 + l.length := by rw [List.length_append]; omega
  rw [e, lay_take (by omega), ht, List.drop_append_of_le_length (by rw [List.length_append]; omega)]
  congr 2
  rw [List.length_append]; omega

set_option maxHeartbeats 4000000 in
set_option maxRecDepth 100000 in
theorem Add_small (g c : Nat) (L l rest : List UInt8) (a : Option Addr) (w : World) (hT : Tabs w) (hg : 1 < g) (hh : HBlk w g (soak KT I8 L) rest L.length) (hr : rest.take (L.length % 64) = L.drop (L.length - L.length % 64)) (ht : Txt w a l) (hne : ∀ b o, a = some ⟨b, o, none⟩ → l ≠ [] → b ≠ g)
    (hc : l.length ≤ c) (hm : c ≤ maxLen) (hL : L.length ≤ 1152921504606846976) (hf : 0 < L.length % 64) (hs : L.length % 64 + l.length < 64) :
    Calls Tryd.prog 11 #[.pointer (some ⟨g, 0, none⟩), .slice a l.length c] w fun e w' => e = .returned (.tuple #[]) ∧ Held w' g (L ++ l) ∧ w.grownBy w' (some g) := by
  have h64r := hh.2.2
  have csz := hh.cells
  have csf := hh.frozen 72
  obtain ⟨N, hN⟩ : ∃ N, N = L.length := ⟨_, rfl⟩
  obtain ⟨n, hn⟩ : ∃ n, n = l.length := ⟨_, rfl⟩
  have hh1 : HRow (w.setCell ⟨g, 72, none⟩ (.int .u64 ((N : Int) + (n : Int)))) g (soak KT I8 L).list rest (N + n) := by
    have h := hh.sets (N + n)
    rwa [show ((N + n : Nat) : Int) = (N : Int) + (n : Int) by omega] at h
  have hg1 : w.grownBy (w.setCell ⟨g, 72, none⟩ (.int .u64 ((N : Int) + (n : Int)))) (some g) := grownBy_setCell (World.grownBy.refl w _) _ _ (.inl rfl)
  have ht1 := ht.grown hg1 hne
  rw [← hN] at csz hf hs hL hr
  rw [← hn] at hs hc ⊢
  obtain ⟨f, hfe⟩ : ∃ f, f = N % 64 := ⟨_, rfl⟩
  rw [← hfe] at hf hs hr
  have f64 : f < 64 := by omega
  have htk : l.take (64 - f) = l := List.take_of_length_le (by omega)
  have hput := hh1.putr f l (by omega)
  have hsl : ∀ W : World, (Instr.sliceAt 42 (.pointer (some ⟨g, 8, none⟩)) (some (.int .i64 (f : Int))) none none).run Tryd.prog W = .ok (.slice (some ⟨g, 8 + f, none⟩) (64 - f) (64 - f)) W := fun W =>
    run_slice_arr_from (P := Tryd.prog) W Tryd.underlying42 size_byte g 8 .i64 (f : Int) f rfl (by omega) (by omega)
  have hmod : (N : Int) % 64 = (f : Int) := by omega
  have hfin : ∀ W, HRow W g (soak KT I8 L).list (lay rest f l) (N + n) → Held W g (L ++ l) := fun W h => held_small (rest := rest) (by omega) (by rw [← hN, ← hfe]; exact hr) h64r (by rw [← hN, ← hfe, ← hn]; exact h)
  have hsz : 8 + f + (64 - f) ≤ (hcells (soak KT I8 L).list rest (N + n)).toArray.size := by
    rw [List.size_toArray, hcells_size, hh1.2.1, h64r]; omega
  obtain ⟨C, hC⟩ : ∃ C, C = (hcells (soak KT I8 L).list rest (N + n)).toArray := ⟨_, rfl⟩
  have hcur := hh1.1
  rw [← hC] at hput hsz hcur
  obtain ⟨C2, hC2⟩ : ∃ D, D = (C.toList.take (8 + f) ++ Lib.byteCells l ++ C.toList.drop (8 + f + l.length)).toArray := ⟨_, rfl⟩
  rw [← hC2] at hput
  have hcp : (C.toList.take (8 + f) ++ Lib.byteCells (l.take (64 - f)) ++ C.toList.drop (8 + f + (l.take (64 - f)).length)).toArray = C2 := by rw [htk, hC2]
  have hkk : (l.take (64 - f)).length = n := by rw [htk, hn]
  have hg2 := grownBy_setRow hg1 g C2 (.inl rfl)
  have H9 := Lib.hid hcp
  have H10 := Lib.hid hkk
  have H11 := Lib.hid hg2
  have hgrow := hg1
  have H1 := Lib.hid hcur
  have H2 := Lib.hid hput
  have H3 := Lib.hid ht1
  have H4 := Lib.hid hsz
  have H5 := Lib.hid hfin
  have H6 := Lib.hid hgrow
  have H7 := Lib.hid hn
  have H8 := Lib.hid htk
  clear hcp hkk hC2 hg2 hcur hput ht1 hsz hfin hgrow hn htk hh hr ht hne hh1 hg1 hC hN h64r hT hfe
  go_enter Tryd.func11, Tryd.ntmps11
  go_wp2_with (refine wpList_copy_as rfl (.tmp 28) (.tmp 29) 22 22 5 rfl g (8 + f) (64 - f) (64 - f) a l n c C 44 n C2 rfl rfl H7.out Tryd.underlying22 size_byte H1.out H3.out H4.out H10.out H9.out ?_)
  refine bodyPost_ret (results_none rfl _ _ _) rfl ?_
  exact ⟨rfl, H5.out _ H2.out, H11.out⟩

set_option maxHeartbeats 8000000 in
set_option maxRecDepth 100000 in
theorem Add_even (g c : Nat) (L l rest : List UInt8) (a : Option Addr) (w : World) (hT : Tabs w) (hg : 1 < g) (hh : HBlk w g (soak KT I8 L) rest L.length) (ht : Txt w a l) (hne : ∀ b o, a = some ⟨b, o, none⟩ → l ≠ [] → b ≠ g)
    (hc : l.length ≤ c) (hm : c ≤ maxLen) (hL : L.length ≤ 1152921504606846976) (hf : L.length % 64 = 0) :
    Calls Tryd.prog 11 #[.pointer (some ⟨g, 0, none⟩), .slice a l.length c] w fun e w' => e = .returned (.tuple #[]) ∧ Held w' g (L ++ l) ∧ w.grownBy w' (some g) := by
  have h64r := hh.2.2
  have csz := hh.cells
  have csf := hh.frozen 72
  obtain ⟨N, hN⟩ : ∃ N, N = L.length := ⟨_, rfl⟩
  obtain ⟨n, hn⟩ : ∃ n, n = l.length := ⟨_, rfl⟩
  have hh1 : HRow (w.setCell ⟨g, 72, none⟩ (.int .u64 ((N : Int) + (n : Int)))) g (soak KT I8 L).list rest (N + n) := by
    have h := hh.sets (N + n)
    rwa [show ((N + n : Nat) : Int) = (N : Int) + (n : Int) by omega] at h
  have hg1 : w.grownBy (w.setCell ⟨g, 72, none⟩ (.int .u64 ((N : Int) + (n : Int)))) (some g) := grownBy_setCell (World.grownBy.refl w _) _ _ (.inl rfl)
  have ht1 := ht.grown hg1 hne
  obtain ⟨f, hfe⟩ : ∃ f, f = N % 64 := ⟨_, rfl⟩
  have hmod : (N : Int) % 64 = (f : Int) := by omega
  have hz1 : decide ((0 : Int) < (f : Int)) = false := by simp; omega
  have hz3 : ¬ 0 < f := by omega
  have hNb : N ≤ 1152921504606846976 := by omega
  have hnb : n ≤ 9223372036854775807 := by unfold maxLen at hm; omega
  have hst : Mid w g L l (.slice a n c) (w.setCell ⟨g, 72, none⟩ (.int .u64 ((N : Int) + (n : Int)))) :=
    ⟨0, a, c, by rw [hn, Nat.sub_zero], by omega, by omega, by omega, hm, ht1, hne, ⟨rest, by rw [List.take_zero, List.append_nil, ← hN, ← hn]; exact hh1⟩, hg1⟩
  rw [← hN] at csz
  rw [← hn]
  have HS0 := Lib.hid hst
  have HT := Lib.hid hT
  clear hst hT hh hh1 hg1 ht1 ht hne hc hm hL hf hN h64r hn hfe
  go_enter Tryd.func11, Tryd.ntmps11
  go_wp2
  go_loopw [1] (fun v wr => Mid w g L l v wr)
    (fun v _ => match v with | .slice _ k _ => k | _ => 0)
  case atStart => exact HS0.out
  case round =>
    obtain ⟨m, a', c', rfl, hm', h64, hc', hmx, ht', hne', ⟨rest', hh'⟩, hg'⟩ := hrel
    clear HS0 hmod
    obtain ⟨q, hq⟩ : ∃ q, q = l.length - m := ⟨_, rfl⟩
    rw [← hq] at hc' ⊢
    have hql : (l.drop m).length = q := by rw [List.length_drop, hq]
    by_cases hbig : 64 ≤ q
    · obtain ⟨b', o', rfl, _, _⟩ := ht' (by intro e; rw [e] at hql; simp at hql; omega)
      have hblk := ht'.takeN 64
      have hmix := mix_any g b' o' (L.length + l.length) (soak KT I8 (L ++ l.take m)) rest' ((l.drop m).take 64) wr (HT.out.grown hg' (by intro k hk; injection hk with hk; omega)) hg (soak_ok KT I8_ok _) hh' hblk (by rw [List.length_take]; omega)
      have harr : ∀ W : World, (Instr.arrayAt 42 (.slice (some ⟨b', o', none⟩) q c')).run Tryd.prog W = .ok (.pointer (some ⟨b', o', none⟩)) W := fun W => run_arrayAt W _ _ 64 _ q c' Tryd.underlying42 hbig
      have hqI : (64 : Int) ≤ (q : Int) := by omega
      have A1 := Lib.hid hm'
      have A2 := Lib.hid h64
      have A3 := Lib.hid hc'
      have A4 := Lib.hid hmx
      have A5 := Lib.hid ht'
      have A6 := Lib.hid hne'
      have A8 := Lib.hid hg'
      have A9 := Lib.hid hq
      have A10 := Lib.hid hql
      clear hm' h64 hc' hmx ht' hne' hh' hg' hq hql hblk
      go_wp2_with fail
      refine hmix.mono ?_
      rintro e w2 ⟨rfl, hh2, hg2⟩
      have ht2 := A5.out.grown hg2 A6.out
      obtain ⟨a2, hs2, htr, hner⟩ := slice_rest ht2 64 q c' A10.out.symm (by have := A10.out; omega) (by have := A10.out; have := A3.out; omega)
      have hs2' : ∀ W : World, (Instr.sliceAt 22 (.slice (some ⟨b', o', none⟩) q c') (some (.int .i64 64)) none none).run Tryd.prog W = .ok (.slice a2 (q - 64) (c' - 64)) W := hs2
      have hmid : Mid w g L l (.slice a2 (q - 64) (c' - 64)) w2 := by
        have h1 := A9.out
        have h2 := A3.out
        have h3 := A4.out
        rw [h1]
        refine mid_next (rest := rest') (by omega) A2.out (by omega) (by omega) (by rw [← List.drop_drop]; exact htr) (fun b o e hne => ?_) hh2 (grownBy_trans A8.out hg2)
        obtain ⟨o0, e0⟩ := hner b o e (by rw [List.drop_drop]; exact hne)
        exact A6.out b o0 e0 (by intro e1; rw [← List.drop_drop, e1] at hne; simp at hne)
      have B1 := Lib.hid hmid
      clear hmid hs2 htr hner ht2 hh2 hg2 harr hmix
      go_wp2
      refine ⟨B1.out, ?_⟩
      show q - 64 < q
      omega
    · have hqI : ¬ (64 : Int) ≤ (q : Int) := by omega
      have hsl2 : ∀ W : World, (Instr.sliceAt 42 (.pointer (some ⟨g, 8, none⟩)) none none none).run Tryd.prog W = .ok (.slice (some ⟨g, 8, none⟩) 64 64) W := fun W => run_slice_arr_all (P := Tryd.prog) W Tryd.underlying42 size_byte g 8 (by decide)
      have hput := HRow.putr hh' 0 (l.drop m) (by omega)
      rw [Nat.add_zero] at hput
      obtain ⟨C, hC⟩ : ∃ C, C = (hcells (soak KT I8 (L ++ l.take m)).list rest' (L.length + l.length)).toArray := ⟨_, rfl⟩
      have hcur := hh'.1
      have hszz : 8 + 64 ≤ C.size := by rw [hC, List.size_toArray, hcells_size, hh'.2.1, hh'.2.2]; omega
      rw [← hC] at hput hcur
      have htk : (l.drop m).take 64 = l.drop m := List.take_of_length_le (by omega)
      obtain ⟨C2, hC2⟩ : ∃ D, D = (C.toList.take 8 ++ Lib.byteCells (l.drop m) ++ C.toList.drop (8 + (l.drop m).length)).toArray := ⟨_, rfl⟩
      rw [← hC2] at hput
      have hcp : (C.toList.take 8 ++ Lib.byteCells ((l.drop m).take 64) ++ C.toList.drop (8 + ((l.drop m).take 64).length)).toArray = C2 := by rw [htk, hC2]
      have hkk : ((l.drop m).take 64).length = q := by rw [htk, hql]
      have hgd : w.grownBy (wr.setRow g C2) (some g) := grownBy_setRow hg' g C2 (.inl rfl)
      have hdone : Held (wr.setRow g C2) g (L ++ l) := mid_done (rest := rest') hm' h64 (by omega) hput hh'.2.2
      have D1 := Lib.hid hcur
      have D2 := Lib.hid hszz
      have D3 := Lib.hid hcp
      have D4 := Lib.hid hkk
      have D5 := Lib.hid hgd
      have D6 := Lib.hid hdone
      have D7 := Lib.hid ht'
      have D8 := Lib.hid hql.symm
      clear hput hC hcur hszz htk hC2 hcp hkk hgd hdone hm' h64 hc' hmx ht' hne' hh' hg' hq hql
      go_wp2_with (refine wpList_copy_as rfl (.tmp 55) (.tmp 56) 22 22 5 rfl g 8 64 64 a' (l.drop m) q c' C 44 q C2 rfl rfl D8.out Tryd.underlying22 size_byte D1.out D7.out D2.out D4.out D3.out ?_)
      go_end0
      exact ⟨rfl, D6.out, D5.out⟩

set_option maxHeartbeats 8000000 in
set_option maxRecDepth 100000 in
theorem Add_fill (g c : Nat) (L l rest : List UInt8) (a : Option Addr) (w : World) (hT : Tabs w) (hg : 1 < g) (hh : HBlk w g (soak KT I8 L) rest L.length) (hr : rest.take (L.length % 64) = L.drop (L.length - L.length % 64)) (ht : Txt w a l) (hne : ∀ b o, a = some ⟨b, o, none⟩ → l ≠ [] → b ≠ g)
    (hc : l.length ≤ c) (hm : c ≤ maxLen) (hL : L.length ≤ 1152921504606846976) (hf : 0 < L.length % 64) (hs : 64 ≤ L.length % 64 + l.length) :
    Calls Tryd.prog 11 #[.pointer (some ⟨g, 0, none⟩), .slice a l.length c] w fun e w' => e = .returned (.tuple #[]) ∧ Held w' g (L ++ l) ∧ w.grownBy w' (some g) := by
  have h64r := hh.2.2
  have csz := hh.cells
  have csf := hh.frozen 72
  obtain ⟨N, hN⟩ : ∃ N, N = L.length := ⟨_, rfl⟩
  obtain ⟨n, hn⟩ : ∃ n, n = l.length := ⟨_, rfl⟩
  have hh1 : HRow (w.setCell ⟨g, 72, none⟩ (.int .u64 ((N : Int) + (n : Int)))) g (soak KT I8 L).list rest (N + n) := by
    have h := hh.sets (N + n)
    rwa [show ((N + n : Nat) : Int) = (N : Int) + (n : Int) by omega] at h
  have hg1 : w.grownBy (w.setCell ⟨g, 72, none⟩ (.int .u64 ((N : Int) + (n : Int)))) (some g) := grownBy_setCell (World.grownBy.refl w _) _ _ (.inl rfl)
  have ht1 := ht.grown hg1 hne
  obtain ⟨f, hfe⟩ : ∃ f, f = N % 64 := ⟨_, rfl⟩
  rw [← hN] at csz hf hs hL hr
  rw [← hfe] at hf hs hr
  have f64 : f < 64 := by omega
  have ltk : (l.take (64 - f)).length = 64 - f := by rw [List.length_take]; omega
  have hput := hh1.putr f (l.take (64 - f)) (by omega)
  have hsl : ∀ W : World, (Instr.sliceAt 42 (.pointer (some ⟨g, 8, none⟩)) (some (.int .i64 (f : Int))) none none).run Tryd.prog W = .ok (.slice (some ⟨g, 8 + f, none⟩) (64 - f) (64 - f)) W := fun W =>
    run_slice_arr_from (P := Tryd.prog) W Tryd.underlying42 size_byte g 8 .i64 (f : Int) f rfl (by omega) (by omega)
  have hmod : (N : Int) % 64 = (f : Int) := by omega
  have hsz : 8 + f + (64 - f) ≤ (hcells (soak KT I8 L).list rest (N + n)).toArray.size := by
    rw [List.size_toArray, hcells_size, hh1.2.1, h64r]; omega
  obtain ⟨C, hC⟩ : ∃ C, C = (hcells (soak KT I8 L).list rest (N + n)).toArray := ⟨_, rfl⟩
  have hcur := hh1.1
  rw [← hC] at hput hsz hcur
  obtain ⟨C2, hC2⟩ : ∃ D, D = (C.toList.take (8 + f) ++ Lib.byteCells (l.take (64 - f)) ++ C.toList.drop (8 + f + (l.take (64 - f)).length)).toArray := ⟨_, rfl⟩
  rw [← hC2] at hput
  obtain ⟨p, hp⟩ : ∃ p, p = 64 - f := ⟨_, rfl⟩
  have hfp : f + p = 64 := by omega
  rw [← hp] at ltk hput hsl hsz hC2
  have hg2 := grownBy_setRow hg1 g C2 (.inl rfl)
  have ht2 := (ht1.grown (grownBy_setRow (World.grownBy.refl _ (some g)) g C2 (.inl rfl)) hne)
  generalize hW1 : w.setCell ⟨g, 72, none⟩ (.int .u64 ((N : Int) + (n : Int))) = w1 at *
  have hlay : lay rest f (l.take p) = L.drop (N - f) ++ l.take p := by
    have h := lay_take (R := rest) (M := l.take p) (o := f) (by omega)
    rw [List.take_of_length_le (by rw [lay_length (by omega)]; omega), hr] at h
    exact h
  have hmix := mix_any g g 8 (N + n) (soak KT I8 L) (lay rest f (l.take p)) (lay rest f (l.take p)) (w1.setRow g C2) (hT.grown hg2 (by intro k hk; injection hk with hk; omega)) hg (soak_ok KT I8_ok _) hput hput.txt (by rw [lay_length (by omega)]; exact h64r)
  have hfill := fill_block KT I8 L l p (by rw [← hN, ← hfe]; exact hfp) (by omega)
  rw [← hN, ← hfe, ← hlay] at hfill
  rw [← hfill] at hmix
  have hpI : (f : Int) + (p : Int) = 64 := by omega
  have hNb : N ≤ 1152921504606846976 := by omega
  have hnb : n ≤ 9223372036854775807 := by unfold maxLen at hm; omega
  have hfin : ∀ (w2 : World) (a2 : Option Addr), HBlk w2 g (soak KT I8 (L ++ l.take p)) (lay rest f (l.take p)) (N + n) → (w1.setRow g C2).grownBy w2 (some g) → Txt w2 a2 (l.drop p) → (∀ b o, a2 = some ⟨b, o, none⟩ → l.drop p ≠ [] → ∃ o0, a = some ⟨b, o0, none⟩) → Mid w g L l (.slice a2 (n - p) (c - p)) w2 := fun w2 a2 k1 k2 k3 k4 =>
    ⟨p, a2, c - p, by rw [hn], by omega, by rw [← hN]; omega, by omega, by omega, k3, fun b o e hne2 => by
      obtain ⟨o0, e0⟩ := k4 b o e hne2
      exact hne b o0 e0 (by intro e1; rw [e1] at hne2; simp at hne2), ⟨_, by rw [← hN, ← hn]; exact k1⟩, grownBy_trans hg2 k2⟩
  have hn' := hn
  rw [← hn]
  have HS0 := Lib.hid hn'
  have H1 := Lib.hid hcur
  have H3 := Lib.hid ht1
  have H4 := Lib.hid hsz
  have H5 := Lib.hid hfin
  have H7 := Lib.hid hn'
  have H9 := Lib.hid hC2.symm
  have H10 := Lib.hid ltk
  have H11 := Lib.hid ht2
  have H12 := Lib.hid hne
  have H13 := Lib.hid hc
  have HT := Lib.hid hT
  have HW1 := Lib.hid hW1
  have hpl : p ≤ n := by omega
  clear hC hcur ht1 ht2 hsz hfin hn' hn hC2 ltk hne hc hm hL hN hfe h64r hput hg1 hg2 hh hh1 ht hr hlay hfill hT hp hs hfp
  subst hW1
  go_enter Tryd.func11, Tryd.ntmps11
  go_wp2_with (refine wpList_copy_as rfl (.tmp 28) (.tmp 29) 22 22 5 rfl g (8 + f) p p a l n c C 44 p C2 rfl rfl H7.out Tryd.underlying22 size_byte H1.out H3.out H4.out H10.out H9.out ?_)
  refine hmix.mono ?_
  rintro e w2 ⟨rfl, hh2, hgw⟩
  have ht3 := H11.out.grown hgw H12.out
  obtain ⟨a2, hs2, htr, hner⟩ := slice_rest ht3 p n c H7.out (by have := H7.out; omega) (by have := H7.out; have := H13.out; omega)
  have hmid := H5.out w2 a2 hh2 hgw htr hner
  have HM := Lib.hid hmid
  clear hmid htr hner ht3 hh2 hgw hmix
  go_wp2
  go_loopw [1] (fun v wr => Mid w g L l v wr)
    (fun v _ => match v with | .slice _ k _ => k | _ => 0)
  case atStart => exact HM.out
  case round =>
    obtain ⟨m, a', c', rfl, hm', h64, hc', hmx, ht', hne', ⟨rest', hh'⟩, hg'⟩ := hrel
    clear HS0 hmod
    obtain ⟨q, hq⟩ : ∃ q, q = l.length - m := ⟨_, rfl⟩
    rw [← hq] at hc' ⊢
    have hql : (l.drop m).length = q := by rw [List.length_drop, hq]
    by_cases hbig : 64 ≤ q
    · obtain ⟨b', o', rfl, _, _⟩ := ht' (by intro e; rw [e] at hql; simp at hql; omega)
      have hblk := ht'.takeN 64
      have hmix := mix_any g b' o' (L.length + l.length) (soak KT I8 (L ++ l.take m)) rest' ((l.drop m).take 64) wr (HT.out.grown hg' (by intro k hk; injection hk with hk; omega)) hg (soak_ok KT I8_ok _) hh' hblk (by rw [List.length_take]; omega)
      have harr : ∀ W : World, (Instr.arrayAt 42 (.slice (some ⟨b', o', none⟩) q c')).run Tryd.prog W = .ok (.pointer (some ⟨b', o', none⟩)) W := fun W => run_arrayAt W _ _ 64 _ q c' Tryd.underlying42 hbig
      have hqI : (64 : Int) ≤ (q : Int) := by omega
      have A1 := Lib.hid hm'
      have A2 := Lib.hid h64
      have A3 := Lib.hid hc'
      have A4 := Lib.hid hmx
      have A5 := Lib.hid ht'
      have A6 := Lib.hid hne'
      have A8 := Lib.hid hg'
      have A9 := Lib.hid hq
      have A10 := Lib.hid hql
      clear hm' h64 hc' hmx ht' hne' hh' hg' hq hql hblk
      go_wp2_with fail
      refine hmix.mono ?_
      rintro e w2 ⟨rfl, hh2, hg2⟩
      have ht2 := A5.out.grown hg2 A6.out
      obtain ⟨a2, hs2, htr, hner⟩ := slice_rest ht2 64 q c' A10.out.symm (by have := A10.out; omega) (by have := A10.out; have := A3.out; omega)
      have hs2' : ∀ W : World, (Instr.sliceAt 22 (.slice (some ⟨b', o', none⟩) q c') (some (.int .i64 64)) none none).run Tryd.prog W = .ok (.slice a2 (q - 64) (c' - 64)) W := hs2
      have hmid : Mid w g L l (.slice a2 (q - 64) (c' - 64)) w2 := by
        have h1 := A9.out
        have h2 := A3.out
        have h3 := A4.out
        rw [h1]
        refine mid_next (rest := rest') (by omega) A2.out (by omega) (by omega) (by rw [← List.drop_drop]; exact htr) (fun b o e hne => ?_) hh2 (grownBy_trans A8.out hg2)
        obtain ⟨o0, e0⟩ := hner b o e (by rw [List.drop_drop]; exact hne)
        exact A6.out b o0 e0 (by intro e1; rw [← List.drop_drop, e1] at hne; simp at hne)
      have B1 := Lib.hid hmid
      clear hmid hs2 htr hner ht2 hh2 hg2 harr hmix
      go_wp2
      refine ⟨B1.out, ?_⟩
      show q - 64 < q
      omega
    · have hqI : ¬ (64 : Int) ≤ (q : Int) := by omega
      have hsl2 : ∀ W : World, (Instr.sliceAt 42 (.pointer (some ⟨g, 8, none⟩)) none none none).run Tryd.prog W = .ok (.slice (some ⟨g, 8, none⟩) 64 64) W := fun W => run_slice_arr_all (P := Tryd.prog) W Tryd.underlying42 size_byte g 8 (by decide)
      have hput := HRow.putr hh' 0 (l.drop m) (by omega)
      rw [Nat.add_zero] at hput
      obtain ⟨C, hC⟩ : ∃ C, C = (hcells (soak KT I8 (L ++ l.take m)).list rest' (L.length + l.length)).toArray := ⟨_, rfl⟩
      have hcur := hh'.1
      have hszz : 8 + 64 ≤ C.size := by rw [hC, List.size_toArray, hcells_size, hh'.2.1, hh'.2.2]; omega
      rw [← hC] at hput hcur
      have htk : (l.drop m).take 64 = l.drop m := List.take_of_length_le (by omega)
      obtain ⟨C2, hC2⟩ : ∃ D, D = (C.toList.take 8 ++ Lib.byteCells (l.drop m) ++ C.toList.drop (8 + (l.drop m).length)).toArray := ⟨_, rfl⟩
      rw [← hC2] at hput
      have hcp : (C.toList.take 8 ++ Lib.byteCells ((l.drop m).take 64) ++ C.toList.drop (8 + ((l.drop m).take 64).length)).toArray = C2 := by rw [htk, hC2]
      have hkk : ((l.drop m).take 64).length = q := by rw [htk, hql]
      have hgd : w.grownBy (wr.setRow g C2) (some g) := grownBy_setRow hg' g C2 (.inl rfl)
      have hdone : Held (wr.setRow g C2) g (L ++ l) := mid_done (rest := rest') hm' h64 (by omega) hput hh'.2.2
      have D1 := Lib.hid hcur
      have D2 := Lib.hid hszz
      have D3 := Lib.hid hcp
      have D4 := Lib.hid hkk
      have D5 := Lib.hid hgd
      have D6 := Lib.hid hdone
      have D7 := Lib.hid ht'
      have D8 := Lib.hid hql.symm
      clear hput hC hcur hszz htk hC2 hcp hkk hgd hdone hm' h64 hc' hmx ht' hne' hh' hg' hq hql
      go_wp2_with (refine wpList_copy_as rfl (.tmp 55) (.tmp 56) 22 22 5 rfl g 8 64 64 a' (l.drop m) q c' C 44 q C2 rfl rfl D8.out Tryd.underlying22 size_byte D1.out D7.out D2.out D4.out D3.out ?_)
      go_end0
      exact ⟨rfl, D6.out, D5.out⟩

/-- Whatever was added so far, whatever is added. -/
theorem Add_any (g c : Nat) (L l : List UInt8) (a : Option Addr) (w : World) (hT : Tabs w) (hg : 1 < g) (hh : Held w g L) (ht : Txt w a l) (hne : ∀ b o, a = some ⟨b, o, none⟩ → l ≠ [] → b ≠ g)
    (hc : l.length ≤ c) (hm : c ≤ maxLen) (hL : L.length ≤ 1152921504606846976) :
    Calls Tryd.prog 11 #[.pointer (some ⟨g, 0, none⟩), .slice a l.length c] w fun e w' => e = .returned (.tuple #[]) ∧ Held w' g (L ++ l) ∧ w.grownBy w' (some g) := by
  obtain ⟨rest, h1, h2⟩ := hh
  by_cases hf : L.length % 64 = 0
  · exact Add_even g c L l rest a w hT hg h1 ht hne hc hm hL hf
  · by_cases hs : L.length % 64 + l.length < 64
    · exact Add_small g c L l rest a w hT hg h1 h2 ht hne hc hm hL (by omega) hs
    · exact Add_fill g c L l rest a w hT hg h1 h2 ht hne hc hm hL (by omega) (by omega)

end Go.Proofs.YtopchpaiehoilaaDoor
