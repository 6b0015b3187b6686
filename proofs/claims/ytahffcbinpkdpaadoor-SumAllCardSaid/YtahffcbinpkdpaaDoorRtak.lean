/-
  What the document's own Take does.
-/
import Derived.Test.YtahffcbinpkdpaaDoorRfra
import Derived.Test.YtahffcbinpkdpaaDoorSfir
import Derived.Test.YtahffcbinpkdpaaDoorOrw
import Derived.Test.YtahffcbinpkdpaaDoorOps
namespace Go.Proofs.YtahffcbinpkdpaaDoor
open Go Go.RowKit

/-- Words: an empty row, and a row of bytes, of what the region makes. -/
def wNew (B : Nat) (e : TypeId) (v : Value) (W : World) : Prop := ∃ g, B ≤ g ∧ v = .slice (some ⟨g, 0, none⟩) 0 0 ∧ W.heap[g]? = some (.cells #[] e (0, 0))
def wOwn (B : Nat) (e : TypeId) (L : List UInt8) (v : Value) (W : World) : Prop := W.ownsRow B e 1 v L.length (Lib.byteCells L)
theorem stable_new (B : Nat) (e : TypeId) : Stable (wNew B e) := fun _ _ _ ⟨g, h0, h1, h2⟩ hb => ⟨g, h0, h1, (hb.block g (Array.getElem?_eq_some_iff.1 h2).1).trans h2⟩
theorem stable_own (B : Nat) (e : TypeId) (L : List UInt8) : Stable (wOwn B e L) := fun _ _ _ h hb => own_below h hb

theorem run_append_new {P : Program} (W : World) (t ty e : TypeId) (i : TypeInfo) (ht : P.underlying t = some (.slice e)) (hi : P.info? e = some i) (hz : i.zero = some (.int .u8 0)) (hsize : i.size = 1) (hby : i.bytes = 1)
    (v : Value) (B : Nat) (hBW : B ≤ W.heap.size) (hv : wNew B e v W) (a : Option Addr) (c : Nat) (l : List UInt8) (hne : l ≠ []) (htx : Txt W a l) (hb : l.length ≤ 140737488355328) :
    ∃ v' W', (Builtin.append_ #[t, t] ty #[v, .slice a l.length c]).run P W = .ok v' W' ∧ wOwn B e l v' W' ∧ Below W.heap.size W W' := by
  obtain ⟨g, _, rfl, hg⟩ := hv
  obtain ⟨b, o, rfl, _, _⟩ := htx hne
  obtain ⟨x, r, rfl⟩ : ∃ x r, l = x :: r := by
    cases l with
    | nil => exact absurd rfl hne
    | cons x r => exact ⟨x, r, rfl⟩
  obtain ⟨v', W', hr, r1, r2⟩ := run_append_arg_grows (P := P) W t ty e i (.int .u8 0) 1 1 ht hi hz hsize hby rfl (by decide) ⟨g, 0, none⟩ 0 0 [] (by simp) (fun j u hj => by simp at hj) ⟨b, o, none⟩ (x :: r).length c (Lib.byteCells (x :: r)) (by simp [Lib.byteCells]) htx.cells (by simp) (by unfold maxLen; omega) (by omega)
  rw [Nat.zero_add, List.nil_append] at r1
  exact ⟨v', W', hr, own_weaken r1 hBW, (Below.refl _ _).grown r2 (Nat.le_refl _) (fun k hk => by cases hk)⟩

theorem step_valueW {P : Program} {Q : Exit → Act → World → Prop} {md : Region.Mode} {l : List Oper} {Sp : Nat → Value → World → Prop} {B : Nat} {w0 : World} {a0 : Act} {i : Nat} {o : Oper} (hi : l[i]? = some o)
    (h : ∀ a W, Pre md l Sp B w0 a0 o a W → Region.wanted o (yielded l.toArray a.tmps) = true ∧ ∃ v W', (execOp a.eval o).run P W = .ok (.value v) W' ∧ Sp i v W' ∧ Below B W W' ∧ W.heap.size ≤ W'.heap.size) :
    StepW P md Q l Sp B w0 a0 i o := fun a W h1 h2 h3 h4 => by
  obtain ⟨hw, v, W', hr, hs, hb⟩ := h a W ⟨h1, h2, fun j hj => h3 j (fun x hx hd => by
    have := (List.all_eq_true.1 hj) x hx
    simp [hd] at this), h4⟩
  refine wpOp_of hi hw ?_
  unfold Oper.wp
  rw [hr]
  exact ⟨v, rfl, hs, hb⟩

/-- A call hands back a number, a piece of what it was handed, and a size. -/
def RTook (w : World) (a0 : Option Addr) (l0 : List UInt8) (r : Nat × List UInt8 × Nat) (e : Ending) (w' : World) : Prop :=
  ∃ a c, e = .returned (.tuple #[.int .u64 r.1, .slice a r.2.1.length c, .int .i64 r.2.2]) ∧ (∀ W, Txt W a0 l0 → Txt W a r.2.1) ∧ r.2.1.length ≤ c ∧ c ≤ maxLen ∧ Below w.heap.size w w'

theorem rtook_none (w w' : World) (a0 : Option Addr) (l0 : List UInt8) (h : Below w.heap.size w w') : RTook w a0 l0 (0, [], 0) (.returned (.tuple #[.int .u64 0, .slice none 0 0, .int .i64 0])) w' := ⟨none, 0, rfl, fun _ _ => Txt.nil _ _, Nat.le_refl _, Nat.zero_le _, h⟩

set_option maxHeartbeats 8000000 in
set_option maxRecDepth 100000 in
theorem rTake_some (b o c : Nat) (l : List UInt8) (w : World) (ht : Txt w (some ⟨b, o, none⟩) l) (hl : 17 ≤ l.length) (hc : l.length ≤ c) (hm : c ≤ maxLen) :
    Calls Tryd.prog 20 #[.slice (some ⟨b, o, none⟩) l.length c] w (RTook w (some ⟨b, o, none⟩) l (take1 l)) := by
  obtain ⟨b', o', e, hlt, hcell⟩ := ht (by rintro rfl; simp at hl)
  simp only [Option.some.injEq, Addr.mk.injEq, and_true] at e
  obtain ⟨rfl, rfl⟩ := e
  have h0 := hcell 0 (by omega)
  rw [Nat.add_zero, ← headD_get (by omega)] at h0
  have hsz : size1 l = size1 l := rfl
  conv at hsz => rhs; unfold size1
  rw [if_neg (by omega)] at hsz
  have hnone : size1 l = 0 → take1 l = (0, [], 0) := fun h => by unfold take1; rw [if_pos h]
  have hcm := hm
  unfold maxLen at hm
  clear hcell
  have g1 : ∀ c' W, W = w → Calls Tryd.prog 32 #[.slice (some ⟨b, o + 1, none⟩) 4 c'] W fun e w' => e = .returned (.int .u64 (up (Go.Proofs.YtahffcbinpkdpaaDoor.piece l 1 5))) ∧ w = w' := by
    intro c' W hW
    rw [hW]
    exact rUp_any _ 4 c' (Go.Proofs.YtahffcbinpkdpaaDoor.piece l 1 5) w (by rw [piece_length (by omega) (by omega)]) (by rw [piece_length (by omega) (by omega)]; omega) (by rw [piece_length (by omega) (by omega)]; omega) (ht.piece 1 5)
  have hup := up_lt (Go.Proofs.YtahffcbinpkdpaaDoor.piece l 1 5)
  rw [piece_length (by omega) (by omega)] at hup
  have hup' : up (Go.Proofs.YtahffcbinpkdpaaDoor.piece l 1 5) < 4294967296 := hup
  clear hup
  by_cases hh : l.headD 0 = 90
  · rw [if_neg (by simpa using hh)] at hsz
    rw [hh] at h0
    have h0' : w.cell? ⟨b, o, none⟩ = some (.int .u8 90) := h0
    clear h0 hh
    by_cases h6 : 60000 < up (Go.Proofs.YtahffcbinpkdpaaDoor.piece l 1 5)
    · rw [if_pos h6] at hsz
      rw [hnone hsz]
      obtain ⟨s, hs⟩ : ∃ s, s = up (Go.Proofs.YtahffcbinpkdpaaDoor.piece l 1 5) := ⟨_, rfl⟩
      rw [← hs] at g1 h6 hup'
      clear hsz hs ht hnone
      go_enter Tryd.func20, Tryd.ntmps20
      go_wp2_with fail
      refine (g1 _ _ rfl).mono ?_
      rintro e w1 ⟨rfl, rfl⟩
      go_wp2_with fail
      go_ret3
      exact rtook_none w w _ _ (Below.refl _ _)
    · rw [if_neg h6] at hsz
      by_cases h7 : l.length - 17 < up (Go.Proofs.YtahffcbinpkdpaaDoor.piece l 1 5)
      · rw [if_pos h7] at hsz
        rw [hnone hsz]
        obtain ⟨s, hs⟩ : ∃ s, s = up (Go.Proofs.YtahffcbinpkdpaaDoor.piece l 1 5) := ⟨_, rfl⟩
        rw [← hs] at g1 h6 hup' h7
        clear hsz hs ht hnone
        go_enter Tryd.func20, Tryd.ntmps20
        go_wp2_with fail
        refine (g1 _ _ rfl).mono ?_
        rintro e w1 ⟨rfl, rfl⟩
        go_wp2_with fail
        go_ret3
        exact rtook_none w w _ _ (Below.refl _ _)
      · rw [if_neg h7] at hsz
        obtain ⟨s, hs⟩ : ∃ s, s = up (Go.Proofs.YtahffcbinpkdpaaDoor.piece l 1 5) := ⟨_, rfl⟩
        rw [← hs] at g1 h6 hup' h7 hsz
        by_cases h17 : c - 17 = 0
        · have hs0 : s = 0 := by omega
          have hcm2 : 17 ≤ c := by omega
          obtain ⟨i0, hi, hz0, hz1, hz2⟩ := info_parts info_byte
          have l13 := piece_length (l := l) (i := 1) (j := 13) (by omega) (by omega)
          have t13 := ht.piece 1 13
          have lX := piece_length (l := l) (i := 17) (j := 17 + s) (by omega) (by omega)
          have l4 := piece_length (l := l) (i := 13) (j := 17) (by omega) (by omega)
          have t4 := ht.piece 13 17
          have l5 := piece_length (l := l) (i := 5) (j := 13) (by omega) (by omega)
          have t5 := ht.piece 5 13
          have eX : Go.Proofs.YtahffcbinpkdpaaDoor.piece l 17 (17 + s) = [] := List.eq_nil_of_length_eq_zero (by omega)
          have tX : Txt w (some ⟨b, o, none⟩) (Go.Proofs.YtahffcbinpkdpaaDoor.piece l 17 (17 + s)) := by rw [eX]; exact Txt.nil _ _
          have tXW : ∀ W, Txt W (some ⟨b, o, none⟩) l → Txt W (some ⟨b, o, none⟩) (Go.Proofs.YtahffcbinpkdpaaDoor.piece l 17 (17 + s)) := fun W _ => by rw [eX]; exact Txt.nil _ _
          clear eX
          have hsum : sumOf (l.take (17 + s)) = crc (Go.Proofs.YtahffcbinpkdpaaDoor.piece l 1 13 ++ Go.Proofs.YtahffcbinpkdpaaDoor.piece l 17 (17 + s)) := by unfold sumOf; rw [piece_take (by omega), piece_drop]
          have htk : size1 l = 17 + s → take1 l = (up (Go.Proofs.YtahffcbinpkdpaaDoor.piece l 5 13), Go.Proofs.YtahffcbinpkdpaaDoor.piece l 17 (17 + s), 17 + s) := fun h => by unfold take1; rw [h, if_neg (by omega)]
          rw [hsum] at hsz
          have lx32 := crc_lt (Go.Proofs.YtahffcbinpkdpaaDoor.piece l 1 13 ++ Go.Proofs.YtahffcbinpkdpaaDoor.piece l 17 (17 + s))
          obtain ⟨T13, h13⟩ : ∃ T, T = Go.Proofs.YtahffcbinpkdpaaDoor.piece l 1 13 := ⟨_, rfl⟩
          obtain ⟨TX, hTX⟩ : ∃ T, T = Go.Proofs.YtahffcbinpkdpaaDoor.piece l 17 (17 + s) := ⟨_, rfl⟩
          obtain ⟨T4, h4⟩ : ∃ T, T = Go.Proofs.YtahffcbinpkdpaaDoor.piece l 13 17 := ⟨_, rfl⟩
          obtain ⟨T5, h5⟩ : ∃ T, T = Go.Proofs.YtahffcbinpkdpaaDoor.piece l 5 13 := ⟨_, rfl⟩
          rw [← h13] at l13 t13 hsz lx32
          rw [← hTX] at lX tX tXW hsz lx32 htk
          rw [← h4] at l4 t4 hsz
          rw [← h5] at l5 t5 htk
          have k6 : ∀ W a6 c6, Txt W a6 (T13 ++ TX) → Calls Tryd.prog 19 #[.slice a6 (T13 ++ TX).length c6] W fun e w' => e = .returned (.int .u32 (crc (T13 ++ TX))) ∧ W = w' := fun W a6 c6 h => rCrc_any a6 _ c6 (T13 ++ TX) W rfl h (by rw [List.length_append]; unfold maxLen; omega)
          obtain ⟨X, hX⟩ : ∃ X, X = crc (T13 ++ TX) := ⟨_, rfl⟩
          rw [← hX] at k6 hsz lx32
          have k10 : ∀ W, Below w.heap.size w W → Calls Tryd.prog 32 #[.slice (some ⟨b, o + 13, none⟩) 4 (c - 13)] W fun e w' => e = .returned (.int .u64 (up T4)) ∧ W = w' := fun W hW => rUp_any _ 4 _ T4 W (by omega) (by omega) (by omega) (t4.below hW)
          obtain ⟨Y, hY⟩ : ∃ Y, Y = up T4 := ⟨_, rfl⟩
          rw [← hY] at k10 hsz
          have k5 : ∀ W c', Below w.heap.size w W → Calls Tryd.prog 32 #[.slice (some ⟨b, o + 5, none⟩) 8 c'] W fun e w' => e = .returned (.int .u64 (up T5)) ∧ W = w' := fun W c' hW => rUp_any _ 8 c' T5 W (by omega) (by omega) (by omega) (t5.below hW)
          have lX' : TX.length = 0 := by omega
          have HXW := Lib.hid tXW
          have HS := Lib.hid hsz
          have HNN := Lib.hid hnone
          have HTK := Lib.hid htk
          have HX6 := Lib.hid k6
          have HX10 := Lib.hid k10
          have HX5 := Lib.hid k5
          clear tXW hsz hs ht hnone htk k6 k10 k5 h13 hTX h4 h5 hX hY hsum
          go_enter Tryd.func20, Tryd.ntmps20
          go_wp2_with fail
          refine (g1 _ _ rfl).mono ?_
          rintro e w1 ⟨rfl, rfl⟩
          go_wp2_with fail
          refine wp_region_stepsW (words [wNew w.heap.size 5, wIs (.slice (some ⟨b, o, none⟩) l.length c), wIs (.slice (some ⟨b, o + 1, none⟩) 12 (c - 1)), wOwn w.heap.size 5 T13, wIs (.slice (some ⟨b, o, none⟩) (0) (0)), wTxt (T13 ++ TX), wIs (.int .u32 (X : Int)), wIs (.int .u64 (X : Int)), wIs (.slice (some ⟨b, o, none⟩) l.length c), wIs (.slice (some ⟨b, o + 13, none⟩) 4 (c - 13)), wIs (.int .u64 (Y : Int)), wIs (.bool ((X : Int) != (Y : Int)))]) w.heap.size w [0, 3] 5 (by kernel_rfl) (Below.refl _ _) (Nat.le_refl _) (words_stable ?stab) ?sw (by decide) rfl rfl (by kernel_rfl) (by kernel_rfl) ?steps ?done
          case stab =>
            intro f hf
            simp only [List.mem_cons, List.not_mem_nil, or_false] at hf
            rcases hf with rfl | rfl | rfl | rfl | rfl | rfl | rfl | rfl | rfl | rfl | rfl | rfl <;> first | exact stable_is _ | exact stable_txt _ | exact stable_new _ _ | exact stable_own _ _ _
          case sw =>
            intro i v W W' h5 hD h hb
            match i, h5, hD, h with
            | 0, _, hD, _ => exact absurd (by simp) hD
            | 1, _, _, h => exact h
            | 2, _, _, h => exact h
            | 3, _, hD, _ => exact absurd (by simp) hD
            | 4, _, _, h => exact h
            | 5, h5, _, _ => exact absurd rfl h5
            | 6, _, _, h => exact h
            | 7, _, _, h => exact h
            | 8, _, _, h => exact h
            | 9, _, _, h => exact h
            | 10, _, _, h => exact h
            | 11, _, _, h => exact h
            | n + 12, _, _, _ => exact trivial
          case steps =>
            refine StepsW.cons (step_value rfl fun x W hp => ⟨wanted_none rfl, _, _, run_build0 rfl Tryd.underlying25 hi, ⟨W.heap.size, hp.base, rfl, heap_alloc_new W _⟩, (Below.refl _ _).alloc (Nat.le_refl _) _⟩) ?_
            refine StepsW.cons (step_value rfl fun x W hp => ⟨wanted_none rfl, _, _, run_move (.inl rfl), (hp.old 0 rfl), Below.refl _ _⟩) ?_
            refine StepsW.cons (step_value rfl fun x W hp => ?_) ?_
            · have f1 : wIs (.slice (some ⟨b, o, none⟩) l.length c) (x.tmps.getD 37 undef) W := (hp.on_ 1 rfl rfl rfl).2
              exact ⟨wanted_none rfl, _, _, run_cut rfl rfl rfl Tryd.underlying25 hi hz1 f1 (by decide) (by decide) (by omega) (by simp; omega), rfl, Below.refl _ _⟩
            refine StepsW.cons (step_value rfl fun x W hp => ?_) ?_
            · have f1 : wNew w.heap.size 5 (x.tmps.getD 36 undef) W := (hp.on_ 0 rfl rfl rfl).2
              have f2 : wIs (.slice (some ⟨b, o + 1, none⟩) 12 (c - 1)) (x.tmps.getD 38 undef) W := (hp.on_ 2 rfl rfl rfl).2
              obtain ⟨v', W', hr, h2, h3⟩ := run_append_new (P := Tryd.prog) W 25 25 5 i0 Tryd.underlying25 hi hz0 hz1 hz2 _ w.heap.size hp.base f1 (some ⟨b, o + 1, none⟩) (c - 1) T13 (by rintro rfl; simp at l13) (t13.below hp.below) (by omega)
              rw [l13] at hr
              rw [← show x.tmps.getD 38 undef = .slice (some ⟨b, o + 1, none⟩) (13 - 1) (c - 1) from f2] at hr
              exact ⟨wanted_none rfl, v', W', run_app rfl hr, h2, h3⟩
            refine StepsW.cons (step_value rfl fun x W hp => ⟨wanted_none rfl, _, _, run_move (.inl rfl), (hp.old 7 rfl), Below.refl _ _⟩) ?_
            refine StepsW.weak (step_valueW rfl fun x W hp => ?_) ?_
            · have f1 : wOwn w.heap.size 5 T13 (x.tmps.getD 39 undef) W := (hp.on_ 3 rfl rfl rfl).2
              have f2 : wIs (.slice (some ⟨b, o, none⟩) (0) (0)) (x.tmps.getD 40 undef) W := (hp.on_ 4 rfl rfl rfl).2
              obtain ⟨v', W', hr, h2, h3⟩ := run_append_txt (P := Tryd.prog) W w.heap.size 25 25 5 i0 Tryd.underlying25 hi hz0 hz1 hz2 _ _ _ f1 (some ⟨b, o, none⟩) (0) TX (tX.below hp.below) (by omega) hp.base
              rw [lX'] at hr
              rw [← show x.tmps.getD 40 undef = _ from f2] at hr
              rw [← List.length_append, ← Lib.byteCells_append] at h2
              obtain ⟨a2, c2, e2, t2, _, _⟩ := own_form h2
              exact ⟨wanted_none rfl, v', W', run_app rfl hr, ⟨a2, c2, e2, t2⟩, (Below.refl _ _).grown h3 hp.base (fun k hk => (World.ownsRow.lt f1 k hk).1), h3.size⟩
            refine StepsW.cons (step_enter rfl fun x W hp => ?_) ?_
            · have f1 : wTxt (T13 ++ TX) (x.tmps.getD 41 undef) W := (hp.on_ 5 rfl rfl rfl).2
              obtain ⟨aA, cA, e1, tA⟩ := f1
              refine ⟨wanted_none rfl, 19, _, run_enter1 rfl rfl Tryd.call19, ?_⟩
              show Calls _ _ #[x.tmps.getD 41 undef] W _
              rw [e1]
              exact (HX6.out W aA cA tA).mono (fun e W' ⟨he, hm⟩ => ⟨_, he, rfl, by rw [hm]; exact Below.refl _ _⟩)
            refine StepsW.cons (step_value rfl fun x W hp => ?_) ?_
            · have f1 : wIs (.int .u32 (X : Int)) (x.tmps.getD 42 undef) W := (hp.on_ 6 rfl rfl rfl).2
              refine ⟨wanted_none rfl, .int .u64 (X : Int), W, run_conv rfl ?_, rfl, Below.refl _ _⟩
              show (convert _ _ (x.tmps.getD 42 undef)).run _ W = _
              rw [show x.tmps.getD 42 undef = _ from f1]
              have hk : Tryd.prog.intKind 23 = .u64 := by simp [Program.intKind, Tryd.underlying23]
              have h := run_convert_int (P := Tryd.prog) W 38 23 .u32 (X : Int) (by rw [Tryd.underlying38]; rfl) (by rw [hk]; exact Tryd.underlying23)
              rw [h, hk, IntKind.wrap_u64, show (X : Int) % 18446744073709551616 = (X : Int) by omega]
            refine StepsW.cons (step_value rfl fun x W hp => ⟨wanted_none rfl, _, _, run_move (.inl rfl), (hp.old 0 rfl), Below.refl _ _⟩) ?_
            refine StepsW.cons (step_value rfl fun x W hp => ?_) ?_
            · have f1 : wIs (.slice (some ⟨b, o, none⟩) l.length c) (x.tmps.getD 44 undef) W := (hp.on_ 8 rfl rfl rfl).2
              exact ⟨wanted_none rfl, _, _, run_cut rfl rfl rfl Tryd.underlying25 hi hz1 f1 (by decide) (by decide) (by omega) (by simp; omega), rfl, Below.refl _ _⟩
            refine StepsW.cons (step_enter rfl fun x W hp => ?_) ?_
            · have f1 : wIs (.slice (some ⟨b, o + 13, none⟩) 4 (c - 13)) (x.tmps.getD 45 undef) W := (hp.on_ 9 rfl rfl rfl).2
              refine ⟨wanted_none rfl, 32, _, run_enter1 rfl rfl Tryd.call32, ?_⟩
              show Calls _ _ #[x.tmps.getD 45 undef] W _
              rw [show x.tmps.getD 45 undef = _ from f1]
              exact (HX10.out W hp.below).mono (fun e W' ⟨he, hm⟩ => ⟨_, he, rfl, by rw [hm]; exact Below.refl _ _⟩)
            refine StepsW.cons (step_value rfl fun x W hp => ?_) ?_
            · have f1 : wIs (.int .u64 (X : Int)) (x.tmps.getD 43 undef) W := (hp.on_ 7 rfl rfl rfl).2
              have f2 : wIs (.int .u64 (Y : Int)) (x.tmps.getD 46 undef) W := (hp.on_ 10 rfl rfl rfl).2
              refine ⟨wanted_none rfl, _, _, run_bin rfl (v := .bool ((X : Int) != (Y : Int))) ?_ ?_, rfl, Below.refl _ _⟩
              · show (eqGuard .neq _ _ _ (x.tmps.getD 43 undef) (x.tmps.getD 46 undef)).run _ W = _
                rw [show x.tmps.getD 43 undef = _ from f1, show x.tmps.getD 46 undef = _ from f2]
                rfl
              · show (binOp .neq _ (x.tmps.getD 43 undef) (x.tmps.getD 46 undef)).run _ W = _
                rw [show x.tmps.getD 43 undef = _ from f1, show x.tmps.getD 46 undef = _ from f2]
                simp [go_sem, bne]
            exact StepsW.nil
          case done =>
            intro x W hI
            have h47 : x.tmps.getD 47 undef = .bool ((X : Int) != (Y : Int)) := hI.new 11 _ 47 rfl rfl rfl (fun h => by simp at h)
            have hbW := hI.below
            have h0 : x.tmps.getD 0 undef = .slice (some ⟨b, o, none⟩) l.length c := hI.old 0 (by simp)
            have h6 : x.tmps.getD 6 undef = .int .i64 (17) := hI.old 6 (by simp)
            have h7 : x.tmps.getD 7 undef = .slice (some ⟨b, o, none⟩) 0 0 := hI.old 7 (by simp)
            have hsz : x.tmps.size = 53 := hI.tmps
            have hd : x.defers = [] := hI.defers
            obtain ⟨f, hf, hx⟩ := act_eta hsz hd
            rw [hf] at h47 h0 h6 h7
            clear hI hf hsz hd
            subst hx
            have hl : ((List.range 53).map f).toArray = #[f 0, f 1, f 2, f 3, f 4, f 5, f 6, f 7, f 8, f 9, f 10, f 11, f 12, f 13, f 14, f 15, f 16, f 17, f 18, f 19, f 20, f 21, f 22, f 23, f 24, f 25, f 26, f 27, f 28, f 29, f 30, f 31, f 32, f 33, f 34, f 35, f 36, f 37, f 38, f 39, f 40, f 41, f 42, f 43, f 44, f 45, f 46, f 47, f 48, f 49, f 50, f 51, f 52] := rfl
            simp only [Exit.then]
            rw [hl, h0, h6, h7]
            clear hl h0 h6 h7
            by_cases hxy : Y = X
            · have hxy' : ((X : Int) != (Y : Int)) = false := by simp; omega
              rw [hxy'] at h47
              rw [h47]
              have hs2 := HS.out
              rw [if_pos hxy] at hs2
              have HK2 := Lib.hid (HTK.out hs2)
              clear hs2 hxy hxy' h47 g1
              go_wp2_with fail
              refine (HX5.out W _ hbW).mono ?_
              rintro e w7 ⟨rfl, rfl⟩
              go_wp2_with fail
              go_ret3
              rw [HK2.out]
              refine ⟨some ⟨b, o, none⟩, 0, ?_, HXW.out, by show TX.length ≤ _; omega, by unfold maxLen; omega, hbW⟩
              subst hs0
              rw [lX']
              rfl
            · have hxy' : ((X : Int) != (Y : Int)) = true := by simp; omega
              rw [hxy'] at h47
              rw [h47]
              have hs2 := HS.out
              rw [if_neg hxy] at hs2
              have HK2 := Lib.hid (HNN.out hs2)
              clear hs2 hxy hxy' h47 g1
              go_wp2_with fail
              go_ret3
              rw [HK2.out]
              exact rtook_none w W _ _ hbW
        · have hcm2 : 17 ≤ c := by omega
          obtain ⟨i0, hi, hz0, hz1, hz2⟩ := info_parts info_byte
          have l13 := piece_length (l := l) (i := 1) (j := 13) (by omega) (by omega)
          have t13 := ht.piece 1 13
          have lX := piece_length (l := l) (i := 17) (j := 17 + s) (by omega) (by omega)
          have l4 := piece_length (l := l) (i := 13) (j := 17) (by omega) (by omega)
          have t4 := ht.piece 13 17
          have l5 := piece_length (l := l) (i := 5) (j := 13) (by omega) (by omega)
          have t5 := ht.piece 5 13
          have tX := ht.piece 17 (17 + s)
          have tXW : ∀ W, Txt W (some ⟨b, o, none⟩) l → Txt W (some ⟨b, o + 17, none⟩) (Go.Proofs.YtahffcbinpkdpaaDoor.piece l 17 (17 + s)) := fun W h => h.piece 17 (17 + s)
          have hsum : sumOf (l.take (17 + s)) = crc (Go.Proofs.YtahffcbinpkdpaaDoor.piece l 1 13 ++ Go.Proofs.YtahffcbinpkdpaaDoor.piece l 17 (17 + s)) := by unfold sumOf; rw [piece_take (by omega), piece_drop]
          have htk : size1 l = 17 + s → take1 l = (up (Go.Proofs.YtahffcbinpkdpaaDoor.piece l 5 13), Go.Proofs.YtahffcbinpkdpaaDoor.piece l 17 (17 + s), 17 + s) := fun h => by unfold take1; rw [h, if_neg (by omega)]
          rw [hsum] at hsz
          have lx32 := crc_lt (Go.Proofs.YtahffcbinpkdpaaDoor.piece l 1 13 ++ Go.Proofs.YtahffcbinpkdpaaDoor.piece l 17 (17 + s))
          obtain ⟨T13, h13⟩ : ∃ T, T = Go.Proofs.YtahffcbinpkdpaaDoor.piece l 1 13 := ⟨_, rfl⟩
          obtain ⟨TX, hTX⟩ : ∃ T, T = Go.Proofs.YtahffcbinpkdpaaDoor.piece l 17 (17 + s) := ⟨_, rfl⟩
          obtain ⟨T4, h4⟩ : ∃ T, T = Go.Proofs.YtahffcbinpkdpaaDoor.piece l 13 17 := ⟨_, rfl⟩
          obtain ⟨T5, h5⟩ : ∃ T, T = Go.Proofs.YtahffcbinpkdpaaDoor.piece l 5 13 := ⟨_, rfl⟩
          rw [← h13] at l13 t13 hsz lx32
          rw [← hTX] at lX tX tXW hsz lx32 htk
          rw [← h4] at l4 t4 hsz
          rw [← h5] at l5 t5 htk
          have k6 : ∀ W a6 c6, Txt W a6 (T13 ++ TX) → Calls Tryd.prog 19 #[.slice a6 (T13 ++ TX).length c6] W fun e w' => e = .returned (.int .u32 (crc (T13 ++ TX))) ∧ W = w' := fun W a6 c6 h => rCrc_any a6 _ c6 (T13 ++ TX) W rfl h (by rw [List.length_append]; unfold maxLen; omega)
          obtain ⟨X, hX⟩ : ∃ X, X = crc (T13 ++ TX) := ⟨_, rfl⟩
          rw [← hX] at k6 hsz lx32
          have k10 : ∀ W, Below w.heap.size w W → Calls Tryd.prog 32 #[.slice (some ⟨b, o + 13, none⟩) 4 (c - 13)] W fun e w' => e = .returned (.int .u64 (up T4)) ∧ W = w' := fun W hW => rUp_any _ 4 _ T4 W (by omega) (by omega) (by omega) (t4.below hW)
          obtain ⟨Y, hY⟩ : ∃ Y, Y = up T4 := ⟨_, rfl⟩
          rw [← hY] at k10 hsz
          have k5 : ∀ W c', Below w.heap.size w W → Calls Tryd.prog 32 #[.slice (some ⟨b, o + 5, none⟩) 8 c'] W fun e w' => e = .returned (.int .u64 (up T5)) ∧ W = w' := fun W c' hW => rUp_any _ 8 c' T5 W (by omega) (by omega) (by omega) (t5.below hW)
          have lX' : TX.length = 17 + s - 17 := by omega
          have HXW := Lib.hid tXW
          have HS := Lib.hid hsz
          have HNN := Lib.hid hnone
          have HTK := Lib.hid htk
          have HX6 := Lib.hid k6
          have HX10 := Lib.hid k10
          have HX5 := Lib.hid k5
          clear tXW hsz hs ht hnone htk k6 k10 k5 h13 hTX h4 h5 hX hY hsum
          go_enter Tryd.func20, Tryd.ntmps20
          go_wp2_with fail
          refine (g1 _ _ rfl).mono ?_
          rintro e w1 ⟨rfl, rfl⟩
          go_wp2_with fail
          refine wp_region_stepsW (words [wNew w.heap.size 5, wIs (.slice (some ⟨b, o, none⟩) l.length c), wIs (.slice (some ⟨b, o + 1, none⟩) 12 (c - 1)), wOwn w.heap.size 5 T13, wIs (.slice (some ⟨b, o + 17, none⟩) (17 + s - 17) (c - 17)), wTxt (T13 ++ TX), wIs (.int .u32 (X : Int)), wIs (.int .u64 (X : Int)), wIs (.slice (some ⟨b, o, none⟩) l.length c), wIs (.slice (some ⟨b, o + 13, none⟩) 4 (c - 13)), wIs (.int .u64 (Y : Int)), wIs (.bool ((X : Int) != (Y : Int)))]) w.heap.size w [0, 3] 5 (by kernel_rfl) (Below.refl _ _) (Nat.le_refl _) (words_stable ?stab) ?sw (by decide) rfl rfl (by kernel_rfl) (by kernel_rfl) ?steps ?done
          case stab =>
            intro f hf
            simp only [List.mem_cons, List.not_mem_nil, or_false] at hf
            rcases hf with rfl | rfl | rfl | rfl | rfl | rfl | rfl | rfl | rfl | rfl | rfl | rfl <;> first | exact stable_is _ | exact stable_txt _ | exact stable_new _ _ | exact stable_own _ _ _
          case sw =>
            intro i v W W' h5 hD h hb
            match i, h5, hD, h with
            | 0, _, hD, _ => exact absurd (by simp) hD
            | 1, _, _, h => exact h
            | 2, _, _, h => exact h
            | 3, _, hD, _ => exact absurd (by simp) hD
            | 4, _, _, h => exact h
            | 5, h5, _, _ => exact absurd rfl h5
            | 6, _, _, h => exact h
            | 7, _, _, h => exact h
            | 8, _, _, h => exact h
            | 9, _, _, h => exact h
            | 10, _, _, h => exact h
            | 11, _, _, h => exact h
            | n + 12, _, _, _ => exact trivial
          case steps =>
            refine StepsW.cons (step_value rfl fun x W hp => ⟨wanted_none rfl, _, _, run_build0 rfl Tryd.underlying25 hi, ⟨W.heap.size, hp.base, rfl, heap_alloc_new W _⟩, (Below.refl _ _).alloc (Nat.le_refl _) _⟩) ?_
            refine StepsW.cons (step_value rfl fun x W hp => ⟨wanted_none rfl, _, _, run_move (.inl rfl), (hp.old 0 rfl), Below.refl _ _⟩) ?_
            refine StepsW.cons (step_value rfl fun x W hp => ?_) ?_
            · have f1 : wIs (.slice (some ⟨b, o, none⟩) l.length c) (x.tmps.getD 37 undef) W := (hp.on_ 1 rfl rfl rfl).2
              exact ⟨wanted_none rfl, _, _, run_cut rfl rfl rfl Tryd.underlying25 hi hz1 f1 (by decide) (by decide) (by omega) (by simp; omega), rfl, Below.refl _ _⟩
            refine StepsW.cons (step_value rfl fun x W hp => ?_) ?_
            · have f1 : wNew w.heap.size 5 (x.tmps.getD 36 undef) W := (hp.on_ 0 rfl rfl rfl).2
              have f2 : wIs (.slice (some ⟨b, o + 1, none⟩) 12 (c - 1)) (x.tmps.getD 38 undef) W := (hp.on_ 2 rfl rfl rfl).2
              obtain ⟨v', W', hr, h2, h3⟩ := run_append_new (P := Tryd.prog) W 25 25 5 i0 Tryd.underlying25 hi hz0 hz1 hz2 _ w.heap.size hp.base f1 (some ⟨b, o + 1, none⟩) (c - 1) T13 (by rintro rfl; simp at l13) (t13.below hp.below) (by omega)
              rw [l13] at hr
              rw [← show x.tmps.getD 38 undef = .slice (some ⟨b, o + 1, none⟩) (13 - 1) (c - 1) from f2] at hr
              exact ⟨wanted_none rfl, v', W', run_app rfl hr, h2, h3⟩
            refine StepsW.cons (step_value rfl fun x W hp => ⟨wanted_none rfl, _, _, run_move (.inl rfl), (hp.old 7 rfl), Below.refl _ _⟩) ?_
            refine StepsW.weak (step_valueW rfl fun x W hp => ?_) ?_
            · have f1 : wOwn w.heap.size 5 T13 (x.tmps.getD 39 undef) W := (hp.on_ 3 rfl rfl rfl).2
              have f2 : wIs (.slice (some ⟨b, o + 17, none⟩) (17 + s - 17) (c - 17)) (x.tmps.getD 40 undef) W := (hp.on_ 4 rfl rfl rfl).2
              obtain ⟨v', W', hr, h2, h3⟩ := run_append_txt (P := Tryd.prog) W w.heap.size 25 25 5 i0 Tryd.underlying25 hi hz0 hz1 hz2 _ _ _ f1 (some ⟨b, o + 17, none⟩) (c - 17) TX (tX.below hp.below) (by omega) hp.base
              rw [lX'] at hr
              rw [← show x.tmps.getD 40 undef = _ from f2] at hr
              rw [← List.length_append, ← Lib.byteCells_append] at h2
              obtain ⟨a2, c2, e2, t2, _, _⟩ := own_form h2
              exact ⟨wanted_none rfl, v', W', run_app rfl hr, ⟨a2, c2, e2, t2⟩, (Below.refl _ _).grown h3 hp.base (fun k hk => (World.ownsRow.lt f1 k hk).1), h3.size⟩
            refine StepsW.cons (step_enter rfl fun x W hp => ?_) ?_
            · have f1 : wTxt (T13 ++ TX) (x.tmps.getD 41 undef) W := (hp.on_ 5 rfl rfl rfl).2
              obtain ⟨aA, cA, e1, tA⟩ := f1
              refine ⟨wanted_none rfl, 19, _, run_enter1 rfl rfl Tryd.call19, ?_⟩
              show Calls _ _ #[x.tmps.getD 41 undef] W _
              rw [e1]
              exact (HX6.out W aA cA tA).mono (fun e W' ⟨he, hm⟩ => ⟨_, he, rfl, by rw [hm]; exact Below.refl _ _⟩)
            refine StepsW.cons (step_value rfl fun x W hp => ?_) ?_
            · have f1 : wIs (.int .u32 (X : Int)) (x.tmps.getD 42 undef) W := (hp.on_ 6 rfl rfl rfl).2
              refine ⟨wanted_none rfl, .int .u64 (X : Int), W, run_conv rfl ?_, rfl, Below.refl _ _⟩
              show (convert _ _ (x.tmps.getD 42 undef)).run _ W = _
              rw [show x.tmps.getD 42 undef = _ from f1]
              have hk : Tryd.prog.intKind 23 = .u64 := by simp [Program.intKind, Tryd.underlying23]
              have h := run_convert_int (P := Tryd.prog) W 38 23 .u32 (X : Int) (by rw [Tryd.underlying38]; rfl) (by rw [hk]; exact Tryd.underlying23)
              rw [h, hk, IntKind.wrap_u64, show (X : Int) % 18446744073709551616 = (X : Int) by omega]
            refine StepsW.cons (step_value rfl fun x W hp => ⟨wanted_none rfl, _, _, run_move (.inl rfl), (hp.old 0 rfl), Below.refl _ _⟩) ?_
            refine StepsW.cons (step_value rfl fun x W hp => ?_) ?_
            · have f1 : wIs (.slice (some ⟨b, o, none⟩) l.length c) (x.tmps.getD 44 undef) W := (hp.on_ 8 rfl rfl rfl).2
              exact ⟨wanted_none rfl, _, _, run_cut rfl rfl rfl Tryd.underlying25 hi hz1 f1 (by decide) (by decide) (by omega) (by simp; omega), rfl, Below.refl _ _⟩
            refine StepsW.cons (step_enter rfl fun x W hp => ?_) ?_
            · have f1 : wIs (.slice (some ⟨b, o + 13, none⟩) 4 (c - 13)) (x.tmps.getD 45 undef) W := (hp.on_ 9 rfl rfl rfl).2
              refine ⟨wanted_none rfl, 32, _, run_enter1 rfl rfl Tryd.call32, ?_⟩
              show Calls _ _ #[x.tmps.getD 45 undef] W _
              rw [show x.tmps.getD 45 undef = _ from f1]
              exact (HX10.out W hp.below).mono (fun e W' ⟨he, hm⟩ => ⟨_, he, rfl, by rw [hm]; exact Below.refl _ _⟩)
            refine StepsW.cons (step_value rfl fun x W hp => ?_) ?_
            · have f1 : wIs (.int .u64 (X : Int)) (x.tmps.getD 43 undef) W := (hp.on_ 7 rfl rfl rfl).2
              have f2 : wIs (.int .u64 (Y : Int)) (x.tmps.getD 46 undef) W := (hp.on_ 10 rfl rfl rfl).2
              refine ⟨wanted_none rfl, _, _, run_bin rfl (v := .bool ((X : Int) != (Y : Int))) ?_ ?_, rfl, Below.refl _ _⟩
              · show (eqGuard .neq _ _ _ (x.tmps.getD 43 undef) (x.tmps.getD 46 undef)).run _ W = _
                rw [show x.tmps.getD 43 undef = _ from f1, show x.tmps.getD 46 undef = _ from f2]
                rfl
              · show (binOp .neq _ (x.tmps.getD 43 undef) (x.tmps.getD 46 undef)).run _ W = _
                rw [show x.tmps.getD 43 undef = _ from f1, show x.tmps.getD 46 undef = _ from f2]
                simp [go_sem, bne]
            exact StepsW.nil
          case done =>
            intro x W hI
            have h47 : x.tmps.getD 47 undef = .bool ((X : Int) != (Y : Int)) := hI.new 11 _ 47 rfl rfl rfl (fun h => by simp at h)
            have hbW := hI.below
            have h0 : x.tmps.getD 0 undef = .slice (some ⟨b, o, none⟩) l.length c := hI.old 0 (by simp)
            have h6 : x.tmps.getD 6 undef = .int .i64 (17 + (s : Int)) := hI.old 6 (by simp)
            have h7 : x.tmps.getD 7 undef = .slice (some ⟨b, o + 17, none⟩) (17 + s - 17) (c - 17) := hI.old 7 (by simp)
            have hsz : x.tmps.size = 53 := hI.tmps
            have hd : x.defers = [] := hI.defers
            obtain ⟨f, hf, hx⟩ := act_eta hsz hd
            rw [hf] at h47 h0 h6 h7
            clear hI hf hsz hd
            subst hx
            have hl : ((List.range 53).map f).toArray = #[f 0, f 1, f 2, f 3, f 4, f 5, f 6, f 7, f 8, f 9, f 10, f 11, f 12, f 13, f 14, f 15, f 16, f 17, f 18, f 19, f 20, f 21, f 22, f 23, f 24, f 25, f 26, f 27, f 28, f 29, f 30, f 31, f 32, f 33, f 34, f 35, f 36, f 37, f 38, f 39, f 40, f 41, f 42, f 43, f 44, f 45, f 46, f 47, f 48, f 49, f 50, f 51, f 52] := rfl
            simp only [Exit.then]
            rw [hl, h0, h6, h7]
            clear hl h0 h6 h7
            by_cases hxy : Y = X
            · have hxy' : ((X : Int) != (Y : Int)) = false := by simp; omega
              rw [hxy'] at h47
              rw [h47]
              have hs2 := HS.out
              rw [if_pos hxy] at hs2
              have HK2 := Lib.hid (HTK.out hs2)
              clear hs2 hxy hxy' h47 g1
              go_wp2_with fail
              refine (HX5.out W _ hbW).mono ?_
              rintro e w7 ⟨rfl, rfl⟩
              go_wp2_with fail
              go_ret3
              rw [HK2.out]
              refine ⟨some ⟨b, o + 17, none⟩, c - 17, ?_, HXW.out, by show TX.length ≤ _; omega, by unfold maxLen; omega, hbW⟩
              rw [show TX.length = s by omega, show ((17 + s : Nat) : Int) = 17 + (s : Int) by omega]
              rfl
            · have hxy' : ((X : Int) != (Y : Int)) = true := by simp; omega
              rw [hxy'] at h47
              rw [h47]
              have hs2 := HS.out
              rw [if_neg hxy] at hs2
              have HK2 := Lib.hid (HNN.out hs2)
              clear hs2 hxy hxy' h47 g1
              go_wp2_with fail
              go_ret3
              rw [HK2.out]
              exact rtook_none w W _ _ hbW
  · rw [if_pos (by simpa using hh)] at hsz
    rw [hnone hsz]
    have hx : (l.headD 0).toNat ≠ 90 := fun h => hh (UInt8.toNat_inj.1 h)
    generalize (l.headD 0).toNat = x at h0 hx
    have hx' : ((x : Int) != 90) = true := by simp; omega
    clear hsz hh hx ht g1 hup' hnone
    go_enter Tryd.func20, Tryd.ntmps20
    go_wp2_with fail
    go_ret3
    exact rtook_none w w _ _ (Below.refl _ _)

set_option maxRecDepth 100000 in
theorem rTake_short (a : Option Addr) (n c : Nat) (l : List UInt8) (w : World) (hn : n < 17) :
    Calls Tryd.prog 20 #[.slice a n c] w (RTook w a l (0, [], 0)) := by
  go_enter Tryd.func20, Tryd.ntmps20
  go_wp2
  go_ret3
  exact rtook_none w w _ _ (Below.refl _ _)

theorem rTake_any (a : Option Addr) (c : Nat) (l : List UInt8) (w : World) (ht : Txt w a l) (hc : l.length ≤ c) (hm : c ≤ maxLen) :
    Calls Tryd.prog 20 #[.slice a l.length c] w (RTook w a l (take1 l)) := by
  by_cases h : l.length < 17
  · have e : take1 l = (0, [], 0) := by
      have e0 : size1 l = 0 := by unfold size1; rw [if_pos h]
      unfold take1
      rw [if_pos e0]
    rw [e]
    exact rTake_short a l.length c l w h
  · obtain ⟨b, o, rfl, _, _⟩ := ht (by rintro rfl; simp at h)
    exact rTake_some b o c l w ht (by omega) hc hm

end Go.Proofs.YtahffcbinpkdpaaDoor
