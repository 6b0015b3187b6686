/-
  Texts that the statements stand on, part 3.
-/
import Derived.Test.YtophockpjchilaaDoorMb
import Derived.Laws.OwnMore
import Derived.Laws.BitsAllLaws
import Derived.Laws.Rows
import Derived.Deep.MidRow
import Derived.Great.BuildSlice
import Derived.Laws.StructEq
set_option linter.unusedVariables false
set_option linter.unusedSimpArgs false
namespace Go.Proofs.YtophockpjchilaaDoor
open Go Go.RowKit
theorem decR_enc {p : Pg} (h : p.ok) (hs : p.sum ≤ 1000000000) : decR (enc p) = p ∧ decP (enc p) = p := by
  have hd := decP_enc h (Pg.few_of hs)
  refine ⟨?_, hd⟩
  unfold decR
  rw [hd, if_pos rfl]
set_option maxHeartbeats 4000000 in
set_option maxRecDepth 100000 in
theorem codeBytes_any {T : World → Prop} (K : CodeC T) (p : Pg) (x0 x1 x2 x3 x4 x5 : Option Addr) (c0 c1 c2 c3 c4 c5 : Nat) (i : In4) (w : World) (hT : T w) (ok_p : p.ok) (in_p : PgIn w p x0 x1 x2 x3 x4 x5) (ok_i : i.ok) :
    Calls Tryd.prog 4 #[pgV p x0 x1 x2 x3 x4 x5 c0 c1 c2 c3 c4 c5, .agg #[.int .i64 i.op, .int .i64 i.a, .int .i64 i.b, .int .i64 i.c]] w fun e w' => e = .returned (.bool true) ∧ Below w.heap.size w w' := by
  have HK := Lib.hid K
  have HO := Lib.hid ok_p
  have HI := Lib.hid ok_i
  obtain ⟨W0, hW0⟩ : ∃ W0, W0 = (w.alloc (.cells #[.slice x0 p.ins.length c0, .slice x1 p.outs.length c1, .slice x2 p.slots.length c2, .slice x3 p.mems.length c3, .slice x4 p.consts.length c4, .slice x5 p.code.length c5] 27)).alloc (.cells #[.int .i64 i.op, .int .i64 i.a, .int .i64 i.b, .int .i64 i.c] 36) := ⟨_, rfl⟩
  have hb1 : Below w.heap.size w (w.alloc (.cells #[.slice x0 p.ins.length c0, .slice x1 p.outs.length c1, .slice x2 p.slots.length c2, .slice x3 p.mems.length c3, .slice x4 p.consts.length c4, .slice x5 p.code.length c5] 27)) := (Below.refl _ _).alloc (Nat.le_refl _) _
  have hb0 : Below w.heap.size w W0 := by rw [hW0]; exact hb1.alloc hb1.size _
  obtain ⟨B1, hB1⟩ : ∃ B, B = w.heap.size := ⟨_, rfl⟩
  obtain ⟨B3, hB3⟩ : ∃ B, B = w.heap.size + 1 := ⟨_, rfl⟩
  have s1 : (w.alloc (.cells #[.slice x0 p.ins.length c0, .slice x1 p.outs.length c1, .slice x2 p.slots.length c2, .slice x3 p.mems.length c3, .slice x4 p.consts.length c4, .slice x5 p.code.length c5] 27)).heap.size = B3 := by rw [hB3]; simp
  have k1 := heap_alloc_new w (.cells #[.slice x0 p.ins.length c0, .slice x1 p.outs.length c1, .slice x2 p.slots.length c2, .slice x3 p.mems.length c3, .slice x4 p.consts.length c4, .slice x5 p.code.length c5] 27)
  have k3 := heap_alloc_new (w.alloc (.cells #[.slice x0 p.ins.length c0, .slice x1 p.outs.length c1, .slice x2 p.slots.length c2, .slice x3 p.mems.length c3, .slice x4 p.consts.length c4, .slice x5 p.code.length c5] 27)) (.cells #[.int .i64 i.op, .int .i64 i.a, .int .i64 i.b, .int .i64 i.c] 36)
  have a10 : Below (w.alloc (.cells #[.slice x0 p.ins.length c0, .slice x1 p.outs.length c1, .slice x2 p.slots.length c2, .slice x3 p.mems.length c3, .slice x4 p.consts.length c4, .slice x5 p.code.length c5] 27)).heap.size (w.alloc (.cells #[.slice x0 p.ins.length c0, .slice x1 p.outs.length c1, .slice x2 p.slots.length c2, .slice x3 p.mems.length c3, .slice x4 p.consts.length c4, .slice x5 p.code.length c5] 27)) W0 := by rw [hW0]; exact (Below.refl _ _).alloc (Nat.le_refl _) _
  rw [s1, ← hW0] at k3
  rw [← hB1] at k1
  rw [s1] at a10
  have HX1 := Lib.hid ((a10.block B1 (by omega)).trans k1)
  have HX3 := Lib.hid k3
  have HP := Lib.hid (in_p.below hb0)
  have HB0 := Lib.hid hb0
  have HT := Lib.hid (K.keep _ _ hT hb0)
  have HW0 := Lib.hid hW0
  have HBB1 := Lib.hid hB1
  have HBB3 := Lib.hid hB3
  have HSP := Lib.hid size_prog
  have HSI := Lib.hid size_in4
  have ka := awake14_any K W0 HT.out
  clear K ok_p ok_i hW0 hb1 hb0 hB1 hB3 s1 k1 k3 a10 in_p hT
  unfold pgV
  go_enter Tryd.func4, Tryd.ntmps4
  go_upto_region 1 with fail
  rw [← HW0.out, ← HBB3.out, ← HBB1.out]
  go_wp2_with fail
  (with_reducible refine ka.mono ?_)
  rintro e w1 ⟨rfl, hb⟩
  clear ka
  have HB1 := Lib.hid hb
  have HX1a := Lib.hid ((hb.block B1 (Array.getElem?_eq_some_iff.1 HX1.out).1).trans HX1.out)
  have kg : Calls Tryd.prog 14 #[.agg #[.slice x0 p.ins.length c0, .slice x1 p.outs.length c1, .slice x2 p.slots.length c2, .slice x3 p.mems.length c3, .slice x4 p.consts.length c4, .slice x5 p.code.length c5]] w1 (fun e w' => e = .returned (.bool (greatP p)) ∧ Below w1.heap.size w1 w') := great14_any p x0 x1 x2 x3 x4 x5 c0 c1 c2 c3 c4 c5 w1
  clear hb
  obtain ⟨gp, hgp⟩ : ∃ g, g = greatP p := ⟨_, rfl⟩
  rw [← hgp] at kg
  have HGP := Lib.hid hgp
  clear hgp
  go_wp2_with (refine wpList_load_row rfl 27 (.tmp 2) rfl B1 rfl 27 #[.slice x0 p.ins.length c0, .slice x1 p.outs.length c1, .slice x2 p.slots.length c2, .slice x3 p.mems.length c3, .slice x4 p.consts.length c4, .slice x5 p.code.length c5] (0, 0) _ ?_ Tryd.underlying27 rfl HSP.out ?_; (exact HX1a.out))
  (with_reducible refine kg.mono ?_)
  rintro e w2 ⟨rfl, hb⟩
  clear kg
  have HB2 := Lib.hid (HB1.out.trans (hb.mono HB1.out.size))
  clear hb
  cases gp with
  | true =>
    go_wp2_with fail
    go_ret
    exact ⟨rfl, HB0.out.trans (HB2.out.mono HB0.out.size)⟩
  | false =>
    have HSM := Lib.hid (great_no HGP.out.symm)
    have HX1b := Lib.hid ((HB2.out.block B1 (Array.getElem?_eq_some_iff.1 HX1.out).1).trans HX1.out)
    have ke : Calls Tryd.prog 15 #[.agg #[.slice x0 p.ins.length c0, .slice x1 p.outs.length c1, .slice x2 p.slots.length c2, .slice x3 p.mems.length c3, .slice x4 p.consts.length c4, .slice x5 p.code.length c5]] w2 (GivesO w2 (enc p)) := rEncode_any p HO.out (by have := HSM.out; omega) x0 x1 x2 x3 x4 x5 c0 c1 c2 c3 c4 c5 w2 (HP.out.below HB2.out)
    obtain ⟨E, hE⟩ : ∃ E, E = enc p := ⟨_, rfl⟩
    rw [← hE] at ke
    have HE := Lib.hid hE
    have HEL : Hid (E.length ≤ 30000) := Lib.hid (by rw [hE]; have := enc_le HO.out (by have := HSM.out; omega); have := HSM.out; omega)
    clear hE
    go_wp2_with (refine wpList_load_row rfl 27 (.tmp 2) rfl B1 rfl 27 #[.slice x0 p.ins.length c0, .slice x1 p.outs.length c1, .slice x2 p.slots.length c2, .slice x3 p.mems.length c3, .slice x4 p.consts.length c4, .slice x5 p.code.length c5] (0, 0) _ ?_ Tryd.underlying27 rfl HSP.out ?_; (exact HX1b.out))
    (with_reducible refine ke.mono ?_)
    rintro e w3 ⟨ae5, ce5, rfl, hown, hc5, hm5, hb⟩
    clear ke
    have HB3 := Lib.hid (HB2.out.trans (hb.mono HB2.out.size))
    have HT5 := Lib.hid (own_txt hown)
    have htE := (own_txt hown).below ((Below.refl w3.heap.size w3).alloc (Nat.le_refl _) (.cells #[] 5))
    have HTA := Lib.hid htE
    obtain ⟨i0, hi, hz0, hz1, hz2⟩ := info_parts info_byte
    have HIN := Lib.hid (And.intro hi (And.intro hz0 (And.intro hz1 hz2)))
    have be : ∀ W : World, (Instr.buildSlice 31 0 #[]).run Tryd.prog W = .ok (.slice (some ⟨W.heap.size, 0, none⟩) 0 0) (W.alloc (.cells #[] 5)) := fun W => by kernel_rfl
    clear htE hown hb hi hz0 hz1 hz2 hc5 hm5
    go_wp2_with (at_builtin; refine wpList_append_txt _ rfl (.tmp 15) (.tmp 16) 31 rfl w3.heap.size 5 i0 Tryd.underlying31 HIN.out.1 HIN.out.2.1 HIN.out.2.2.1 HIN.out.2.2.2 _ 0 [] rfl (own_empty w3 _ _ (Nat.le_refl _)) ae5 ce5 E rfl HTA.out ?c1 ?c2 ?_)
    case c1 => have := HEL.out; omega
    case c2 => simp
    intro v4 w4 hown4 hgr4
    have hb34 : Below w3.heap.size w3 w4 := ((Below.refl _ _).alloc (Nat.le_refl _) _).grown hgr4 (by simp) (by intro k hk; simp [Value.ownBlock] at hk; omega)
    have hown5 : w4.ownsRow w3.heap.size 5 1 v4 E.length (Lib.byteCells E) := by simpa using hown4
    obtain ⟨ae4, ce4, e4, h4, hc4, hm4, _⟩ := givesO_of ⟨v4, rfl, hown5, hb34⟩
    injection e4 with e4
    subst e4
    have HB4 := Lib.hid (HB3.out.trans (hb34.mono HB3.out.size))
    have HT5b := Lib.hid (HT5.out.below hb34)
    have kd := HK.out.dec E ae4 ce4 w4 (HK.out.keep _ _ HT.out HB4.out) (own_txt h4) hc4 hm4 (by have := HEL.out; omega)
    clear be hown4 hown5 hgr4 hb34 h4 hc4 hm4
    go_wp2_with fail
    (with_reducible refine kd.mono ?_)
    rintro e w5 ⟨y0, y1, y2, y3, y4, y5, d0, d1, d2, d3, d4, d5, rfl, hq, hb6⟩
    clear kd
    have hde := decR_enc HO.out (by have := HSM.out; omega)
    rw [← HE.out] at hde
    rw [hde.1] at hq
    rw [hde.1, hde.2, if_pos HE.out.symm]
    have epv : pgV p y0 y1 y2 y3 y4 y5 d0 d1 d2 d3 d4 d5 = .agg #[.slice y0 p.ins.length d0, .slice y1 p.outs.length d1, .slice y2 p.slots.length d2, .slice y3 p.mems.length d3, .slice y4 p.consts.length d4, .slice y5 p.code.length d5] := rfl
    rw [epv]
    obtain ⟨W9, hW9⟩ : ∃ W9, W9 = w5.alloc (.cells #[.slice y0 p.ins.length d0, .slice y1 p.outs.length d1, .slice y2 p.slots.length d2, .slice y3 p.mems.length d3, .slice y4 p.consts.length d4, .slice y5 p.code.length d5] 27) := ⟨_, rfl⟩
    obtain ⟨B6, hB6⟩ : ∃ B, B = w5.heap.size := ⟨_, rfl⟩
    have k6 := heap_alloc_new w5 (.cells #[.slice y0 p.ins.length d0, .slice y1 p.outs.length d1, .slice y2 p.slots.length d2, .slice y3 p.mems.length d3, .slice y4 p.consts.length d4, .slice y5 p.code.length d5] 27)
    have a59 : Below w5.heap.size w5 W9 := by rw [hW9]; exact (Below.refl _ _).alloc (Nat.le_refl _) _
    rw [← hW9, ← hB6] at k6
    have HX6 := Lib.hid k6
    have b49 : Below w4.heap.size w4 W9 := hb6.trans (a59.mono hb6.size)
    have b09 : Below W0.heap.size W0 W9 := HB4.out.trans (b49.mono HB4.out.size)
    have HX1c := Lib.hid ((b09.block B1 (Array.getElem?_eq_some_iff.1 HX1.out).1).trans HX1.out)
    have HX3c := Lib.hid ((b09.block B3 (Array.getElem?_eq_some_iff.1 HX3.out).1).trans HX3.out)
    have HP9 := Lib.hid (HP.out.below b09)
    have HQ9 := Lib.hid (hq.below a59)
    have HT9 := Lib.hid (HK.out.keep _ _ HT.out b09)
    have HTE := Lib.hid (HT5b.out.below b49)
    have HB9 := Lib.hid (HB0.out.trans (b09.mono HB0.out.size))
    have HW9 := Lib.hid hW9
    have HBB6 := Lib.hid hB6
    clear hq hb6 hde epv hW9 hB6 k6 a59 b49 b09 HX1 HX3 HX1a HX1b
    have HX1 := HX1c
    have HX3 := HX3c
    go_upto_region 7 with fail
    rw [← HW9.out, ← HBB6.out]
    refine wp_region_steps (words [wIs (.agg #[.slice x0 p.ins.length c0, .slice x1 p.outs.length c1, .slice x2 p.slots.length c2, .slice x3 p.mems.length c3, .slice x4 p.consts.length c4, .slice x5 p.code.length c5]), wE14 E, wIs (.string ⟨(E).toArray⟩), wIs (.slice ae5 E.length ce5), wIs (.string ⟨(E).toArray⟩), wIs (.bool true), wIs (.bool true), wIs (.int .i64 0), wIs (.bool true), wIs (.bool true), wIs (.bool true), wIs (.agg #[.slice y0 p.ins.length d0, .slice y1 p.outs.length d1, .slice y2 p.slots.length d2, .slice y3 p.mems.length d3, .slice y4 p.consts.length d4, .slice y5 p.code.length d5]), wE14 E, wIs (.string ⟨(E).toArray⟩), wIs (.slice ae5 E.length ce5), wIs (.string ⟨(E).toArray⟩), wIs (.bool true), wIs (.bool true), wIs (.bool true), wIs (.agg #[.slice x0 p.ins.length c0, .slice x1 p.outs.length c1, .slice x2 p.slots.length c2, .slice x3 p.mems.length c3, .slice x4 p.consts.length c4, .slice x5 p.code.length c5]), wIs (.agg #[.slice y0 p.ins.length d0, .slice y1 p.outs.length d1, .slice y2 p.slots.length d2, .slice y3 p.mems.length d3, .slice y4 p.consts.length d4, .slice y5 p.code.length d5]), wIs (.bool true), wIs (.bool true), wIs (.bool true), wIs (.agg #[.int .i64 i.op, .int .i64 i.a, .int .i64 i.b, .int .i64 i.c]), wIs (.string ⟨(showI i).toArray⟩), wIs (.agg #[.int .i64 i.op, .int .i64 i.a, .int .i64 i.b, .int .i64 i.c]), wIs (.string ⟨(showI i).toArray⟩), wIs (.bool true), wIs (.bool true), wIs (.bool true), wIs (.pointer (some ⟨B3, 0, none⟩)), wIs (.int .i64 i.op), wIs (.string ⟨(nameO i.op).toArray⟩), wIs (.pointer (some ⟨B3, 0, none⟩)), wIs (.int .i64 i.op), wIs (.string ⟨(nameO i.op).toArray⟩), wIs (.bool true), wIs (.bool true), wIs (.bool true)]) W9.heap.size W9 (by kernel_rfl) (Below.refl _ _) (Nat.le_refl _) (words_stable ?stab) rfl rfl (by kernel_rfl) ?steps ?rest2
    case stab =>
      intro f hf
      simp only [List.mem_cons, List.not_mem_nil, or_false] at hf
      rcases hf with rfl | rfl | rfl | rfl | rfl | rfl | rfl | rfl | rfl | rfl | rfl | rfl | rfl | rfl | rfl | rfl | rfl | rfl | rfl | rfl | rfl | rfl | rfl | rfl | rfl | rfl | rfl | rfl | rfl | rfl | rfl | rfl | rfl | rfl | rfl | rfl | rfl | rfl | rfl | rfl <;> first | exact stable_is _ | exact stable_e14 _
    case steps =>
      refine Steps.cons (step_value rfl fun xa W hp => ?_) ?_
      · have e0 : xa.tmps.getD 2 undef = .pointer (some ⟨B1, 0, none⟩) := hp.old 2 rfl
        exact ⟨(wanted_none rfl), _, _, run_ldrow rfl e0 ((hp.below.block (B1) (Array.getElem?_eq_some_iff.1 HX1.out).1).trans HX1.out) Tryd.underlying27 rfl HSP.out, rfl, Below.refl _ _⟩
      refine Steps.cons (step_enter rfl fun xa W hp => ?_) ?_
      · have e0 : xa.tmps.getD 21 undef = .agg #[.slice x0 p.ins.length c0, .slice x1 p.outs.length c1, .slice x2 p.slots.length c2, .slice x3 p.mems.length c3, .slice x4 p.consts.length c4, .slice x5 p.code.length c5] := (hp.on_ 0 rfl rfl rfl).2
        refine ⟨(wanted_none rfl), 10, _, run_enter1 rfl rfl Tryd.call10, ?_⟩
        show Calls _ _ #[xa.tmps.getD 21 undef] W _
        rw [e0]
        refine (HK.out.enc_ p x0 x1 x2 x3 x4 x5 c0 c1 c2 c3 c4 c5 W (HK.out.keep _ _ HT9.out hp.below) HO.out (by have := HSM.out; omega) (HP9.out.below hp.below)).mono ?_
        rw [← HE.out]
        rintro e W' ⟨ae, ce, he, hte, _, _, hbe⟩
        exact ⟨_, he, ⟨ae, ce, rfl, own_txt hte⟩, hbe⟩
      refine Steps.cons (step_value rfl fun xa W hp => ?_) ?_
      · obtain ⟨a0, c0, e0, t0⟩ : wE14 E (xa.tmps.getD 22 undef) W := (hp.on_ 1 rfl rfl rfl).2
        refine ⟨(wanted_none rfl), _, _, run_conv rfl (W' := W) (v := .string ⟨(E).toArray⟩) ?_, rfl, Below.refl _ _⟩
        show (convert _ _ (xa.tmps.getD 22 undef)).run _ W = _
        rw [e0]
        exact run_string (P := Tryd.prog) W 31 5 9 Tryd.underlying31 Tryd.underlying5 Tryd.underlying9 _ (E) _ t0
      refine Steps.cons (step_value rfl fun xa W hp => ⟨(wanted_none rfl), _, _, run_move (.inl rfl), hp.old 5 rfl, Below.refl _ _⟩) ?_
      refine Steps.cons (step_value rfl fun xa W hp => ?_) ?_
      · have e0 : xa.tmps.getD 24 undef = .slice ae5 E.length ce5 := (hp.on_ 3 rfl rfl rfl).2
        refine ⟨(wanted_none rfl), _, _, run_conv rfl (W' := W) (v := .string ⟨(E).toArray⟩) ?_, rfl, Below.refl _ _⟩
        show (convert _ _ (xa.tmps.getD 24 undef)).run _ W = _
        rw [e0]
        exact run_string (P := Tryd.prog) W 31 5 9 Tryd.underlying31 Tryd.underlying5 Tryd.underlying9 _ (E) _ (HTE.out.below hp.below)
      refine Steps.cons (step_value rfl fun xa W hp => ?_) ?_
      · have e0 : xa.tmps.getD 23 undef = .string ⟨(E).toArray⟩ := (hp.on_ 2 rfl rfl rfl).2
        have e1 : xa.tmps.getD 25 undef = .string ⟨(E).toArray⟩ := (hp.on_ 4 rfl rfl rfl).2
        refine ⟨(wanted_none rfl), _, _, run_bin3 rfl (v := .bool true) ?_ ?_, rfl, Below.refl _ _⟩
        · show (eqGuard .eql _ _ _ (xa.tmps.getD 23 undef) (xa.tmps.getD 25 undef)).run _ W = _
          rw [e0, e1]; first | rfl | kernel_rfl | (simp [eqGuard]; done) | (unfold eqGuard; simp; done)
        · show (binOp .eql _ (xa.tmps.getD 23 undef) (xa.tmps.getD 25 undef)).run _ W = _
          rw [e0, e1]; first | rfl | ((rw [Go.binOp_string_eql]; simp [Lib.toList_data]))
      refine Steps.cons (step_value rfl fun xa W hp => ⟨(wanted_none rfl), _, _, run_move (.inl rfl), (hp.on_ 5 rfl rfl rfl).2, Below.refl _ _⟩) ?_
      refine Steps.cons (step_value rfl fun xa W hp => ⟨(wanted_some rfl rfl rfl (hp.on_ 6 rfl rfl rfl).1 (hp.on_ 6 rfl rfl rfl).2), _, _, run_move (.inl rfl), hp.old 7 rfl, Below.refl _ _⟩) ?_
      refine Steps.cons (step_value rfl fun xa W hp => ?_) ?_
      · have e0 : xa.tmps.getD 28 undef = .int .i64 0 := (hp.on_ 7 rfl rfl rfl).2
        refine ⟨(wanted_some rfl rfl rfl (hp.on_ 6 rfl rfl rfl).1 (hp.on_ 6 rfl rfl rfl).2), _, _, run_bin3 rfl (v := .bool true) ?_ ?_, rfl, Below.refl _ _⟩
        · show (eqGuard .eql _ _ _ (xa.tmps.getD 28 undef) (.int .i64 0)).run _ W = _
          rw [e0]; first | rfl | kernel_rfl | (simp [eqGuard]; done) | (unfold eqGuard; simp; done)
        · show (binOp .eql _ (xa.tmps.getD 28 undef) (.int .i64 0)).run _ W = _
          rw [e0]; first | rfl | (rfl)
      refine Steps.cons (step_value rfl fun xa W hp => ⟨(wanted_none rfl), _, _, run_pick rfl (hp.on_ 6 rfl rfl rfl).2, (hp.on_ 8 rfl rfl rfl).2, Below.refl _ _⟩) ?_
      refine Steps.cons (step_value rfl fun xa W hp => ⟨(wanted_none rfl), _, _, run_move (.inl rfl), (hp.on_ 9 rfl rfl rfl).2, Below.refl _ _⟩) ?_
      refine Steps.cons (step_value rfl fun xa W hp => ?_) ?_
      · have e0 : xa.tmps.getD 6 undef = .pointer (some ⟨B6, 0, none⟩) := hp.old 6 rfl
        exact ⟨(wanted_some rfl rfl rfl (hp.on_ 10 rfl rfl rfl).1 (hp.on_ 10 rfl rfl rfl).2), _, _, run_ldrow rfl e0 ((hp.below.block (B6) (Array.getElem?_eq_some_iff.1 HX6.out).1).trans HX6.out) Tryd.underlying27 rfl HSP.out, rfl, Below.refl _ _⟩
      refine Steps.cons (step_enter rfl fun xa W hp => ?_) ?_
      · have e0 : xa.tmps.getD 32 undef = .agg #[.slice y0 p.ins.length d0, .slice y1 p.outs.length d1, .slice y2 p.slots.length d2, .slice y3 p.mems.length d3, .slice y4 p.consts.length d4, .slice y5 p.code.length d5] := (hp.on_ 11 rfl rfl rfl).2
        refine ⟨(wanted_some rfl rfl rfl (hp.on_ 10 rfl rfl rfl).1 (hp.on_ 10 rfl rfl rfl).2), 15, _, run_enter1 rfl rfl Tryd.call15, ?_⟩
        show Calls _ _ #[xa.tmps.getD 32 undef] W _
        rw [e0]
        refine (rEncode_any p HO.out (by have := HSM.out; omega) y0 y1 y2 y3 y4 y5 d0 d1 d2 d3 d4 d5 W (HQ9.out.below hp.below)).mono ?_
        rw [← HE.out]
        rintro e W' ⟨ae, ce, he, hte, _, _, hbe⟩
        exact ⟨_, he, ⟨ae, ce, rfl, own_txt hte⟩, hbe⟩
      refine Steps.cons (step_value rfl fun xa W hp => ?_) ?_
      · obtain ⟨a0, c0, e0, t0⟩ : wE14 E (xa.tmps.getD 33 undef) W := (hp.on_ 12 rfl rfl rfl).2
        refine ⟨(wanted_some rfl rfl rfl (hp.on_ 10 rfl rfl rfl).1 (hp.on_ 10 rfl rfl rfl).2), _, _, run_conv rfl (W' := W) (v := .string ⟨(E).toArray⟩) ?_, rfl, Below.refl _ _⟩
        show (convert _ _ (xa.tmps.getD 33 undef)).run _ W = _
        rw [e0]
        exact run_string (P := Tryd.prog) W 31 5 9 Tryd.underlying31 Tryd.underlying5 Tryd.underlying9 _ (E) _ t0
      refine Steps.cons (step_value rfl fun xa W hp => ⟨(wanted_some rfl rfl rfl (hp.on_ 10 rfl rfl rfl).1 (hp.on_ 10 rfl rfl rfl).2), _, _, run_move (.inl rfl), hp.old 5 rfl, Below.refl _ _⟩) ?_
      refine Steps.cons (step_value rfl fun xa W hp => ?_) ?_
      · have e0 : xa.tmps.getD 35 undef = .slice ae5 E.length ce5 := (hp.on_ 14 rfl rfl rfl).2
        refine ⟨(wanted_some rfl rfl rfl (hp.on_ 10 rfl rfl rfl).1 (hp.on_ 10 rfl rfl rfl).2), _, _, run_conv rfl (W' := W) (v := .string ⟨(E).toArray⟩) ?_, rfl, Below.refl _ _⟩
        show (convert _ _ (xa.tmps.getD 35 undef)).run _ W = _
        rw [e0]
        exact run_string (P := Tryd.prog) W 31 5 9 Tryd.underlying31 Tryd.underlying5 Tryd.underlying9 _ (E) _ (HTE.out.below hp.below)
      refine Steps.cons (step_value rfl fun xa W hp => ?_) ?_
      · have e0 : xa.tmps.getD 34 undef = .string ⟨(E).toArray⟩ := (hp.on_ 13 rfl rfl rfl).2
        have e1 : xa.tmps.getD 36 undef = .string ⟨(E).toArray⟩ := (hp.on_ 15 rfl rfl rfl).2
        refine ⟨(wanted_some rfl rfl rfl (hp.on_ 10 rfl rfl rfl).1 (hp.on_ 10 rfl rfl rfl).2), _, _, run_bin3 rfl (v := .bool true) ?_ ?_, rfl, Below.refl _ _⟩
        · show (eqGuard .eql _ _ _ (xa.tmps.getD 34 undef) (xa.tmps.getD 36 undef)).run _ W = _
          rw [e0, e1]; first | rfl | kernel_rfl | (simp [eqGuard]; done) | (unfold eqGuard; simp; done)
        · show (binOp .eql _ (xa.tmps.getD 34 undef) (xa.tmps.getD 36 undef)).run _ W = _
          rw [e0, e1]; first | rfl | ((rw [Go.binOp_string_eql]; simp [Lib.toList_data]))
      refine Steps.cons (step_value rfl fun xa W hp => ⟨(wanted_none rfl), _, _, run_pick rfl (hp.on_ 10 rfl rfl rfl).2, (hp.on_ 16 rfl rfl rfl).2, Below.refl _ _⟩) ?_
      refine Steps.cons (step_value rfl fun xa W hp => ⟨(wanted_none rfl), _, _, run_move (.inl rfl), (hp.on_ 17 rfl rfl rfl).2, Below.refl _ _⟩) ?_
      refine Steps.cons (step_value rfl fun xa W hp => ?_) ?_
      · have e0 : xa.tmps.getD 2 undef = .pointer (some ⟨B1, 0, none⟩) := hp.old 2 rfl
        exact ⟨(wanted_some rfl rfl rfl (hp.on_ 18 rfl rfl rfl).1 (hp.on_ 18 rfl rfl rfl).2), _, _, run_ldrow rfl e0 ((hp.below.block (B1) (Array.getElem?_eq_some_iff.1 HX1.out).1).trans HX1.out) Tryd.underlying27 rfl HSP.out, rfl, Below.refl _ _⟩
      refine Steps.cons (step_value rfl fun xa W hp => ?_) ?_
      · have e0 : xa.tmps.getD 6 undef = .pointer (some ⟨B6, 0, none⟩) := hp.old 6 rfl
        exact ⟨(wanted_some rfl rfl rfl (hp.on_ 18 rfl rfl rfl).1 (hp.on_ 18 rfl rfl rfl).2), _, _, run_ldrow rfl e0 ((hp.below.block (B6) (Array.getElem?_eq_some_iff.1 HX6.out).1).trans HX6.out) Tryd.underlying27 rfl HSP.out, rfl, Below.refl _ _⟩
      refine Steps.cons (step_enter rfl fun xa W hp => ?_) ?_
      · have e0 : xa.tmps.getD 40 undef = .agg #[.slice x0 p.ins.length c0, .slice x1 p.outs.length c1, .slice x2 p.slots.length c2, .slice x3 p.mems.length c3, .slice x4 p.consts.length c4, .slice x5 p.code.length c5] := (hp.on_ 19 rfl rfl rfl).2
        have e1 : xa.tmps.getD 41 undef = .agg #[.slice y0 p.ins.length d0, .slice y1 p.outs.length d1, .slice y2 p.slots.length d2, .slice y3 p.mems.length d3, .slice y4 p.consts.length d4, .slice y5 p.code.length d5] := (hp.on_ 20 rfl rfl rfl).2
        refine ⟨(wanted_some rfl rfl rfl (hp.on_ 18 rfl rfl rfl).1 (hp.on_ 18 rfl rfl rfl).2), 13, _, run_enter2 rfl rfl Tryd.call13, ?_⟩
        show Calls _ _ #[xa.tmps.getD 40 undef, xa.tmps.getD 41 undef] W _
        rw [e0, e1]
        refine (HK.out.same p p x0 x1 x2 x3 x4 x5 c0 c1 c2 c3 c4 c5 y0 y1 y2 y3 y4 y5 d0 d1 d2 d3 d4 d5 W (HK.out.keep _ _ HT9.out hp.below) HO.out HO.out (by have := HSM.out; omega) (by have := HSM.out; omega) (HP9.out.below hp.below) (HQ9.out.below hp.below)).mono ?_
        rw [decide_eq_true (rfl : enc p = enc p)]
        rintro e W' ⟨he, hbe⟩
        exact ⟨_, he, rfl, hbe⟩
      refine Steps.cons (step_value rfl fun xa W hp => ⟨(wanted_none rfl), _, _, run_pick rfl (hp.on_ 18 rfl rfl rfl).2, (hp.on_ 21 rfl rfl rfl).2, Below.refl _ _⟩) ?_
      refine Steps.cons (step_value rfl fun xa W hp => ⟨(wanted_none rfl), _, _, run_move (.inl rfl), (hp.on_ 22 rfl rfl rfl).2, Below.refl _ _⟩) ?_
      refine Steps.cons (step_value rfl fun xa W hp => ?_) ?_
      · have e0 : xa.tmps.getD 3 undef = .pointer (some ⟨B3, 0, none⟩) := hp.old 3 rfl
        exact ⟨(wanted_some rfl rfl rfl (hp.on_ 23 rfl rfl rfl).1 (hp.on_ 23 rfl rfl rfl).2), _, _, run_ldrow rfl e0 ((hp.below.block (B3) (Array.getElem?_eq_some_iff.1 HX3.out).1).trans HX3.out) Tryd.underlying36 rfl HSI.out, rfl, Below.refl _ _⟩
      refine Steps.cons (step_enter rfl fun xa W hp => ?_) ?_
      · have e0 : xa.tmps.getD 45 undef = .agg #[.int .i64 i.op, .int .i64 i.a, .int .i64 i.b, .int .i64 i.c] := (hp.on_ 24 rfl rfl rfl).2
        refine ⟨(wanted_some rfl rfl rfl (hp.on_ 23 rfl rfl rfl).1 (hp.on_ 23 rfl rfl rfl).2), 12, _, run_enter1 rfl rfl Tryd.call12, ?_⟩
        show Calls _ _ #[xa.tmps.getD 45 undef] W _
        rw [e0]
        refine (HK.out.show_ i W (HK.out.keep _ _ HT9.out hp.below) HI.out).mono ?_
        rintro e W' ⟨he, hbe⟩
        exact ⟨_, he, rfl, hbe⟩
      refine Steps.cons (step_value rfl fun xa W hp => ?_) ?_
      · have e0 : xa.tmps.getD 3 undef = .pointer (some ⟨B3, 0, none⟩) := hp.old 3 rfl
        exact ⟨(wanted_some rfl rfl rfl (hp.on_ 23 rfl rfl rfl).1 (hp.on_ 23 rfl rfl rfl).2), _, _, run_ldrow rfl e0 ((hp.below.block (B3) (Array.getElem?_eq_some_iff.1 HX3.out).1).trans HX3.out) Tryd.underlying36 rfl HSI.out, rfl, Below.refl _ _⟩
      refine Steps.cons (step_enter rfl fun xa W hp => ?_) ?_
      · have e0 : xa.tmps.getD 47 undef = .agg #[.int .i64 i.op, .int .i64 i.a, .int .i64 i.b, .int .i64 i.c] := (hp.on_ 26 rfl rfl rfl).2
        refine ⟨(wanted_some rfl rfl rfl (hp.on_ 23 rfl rfl rfl).1 (hp.on_ 23 rfl rfl rfl).2), 16, _, run_enter1 rfl rfl Tryd.call16, ?_⟩
        show Calls _ _ #[xa.tmps.getD 47 undef] W _
        rw [e0]
        refine (rShow_any i HI.out W).mono ?_
        rintro e W' ⟨he, hbe⟩
        exact ⟨_, he, rfl, hbe⟩
      refine Steps.cons (step_value rfl fun xa W hp => ?_) ?_
      · have e0 : xa.tmps.getD 46 undef = .string ⟨(showI i).toArray⟩ := (hp.on_ 25 rfl rfl rfl).2
        have e1 : xa.tmps.getD 48 undef = .string ⟨(showI i).toArray⟩ := (hp.on_ 27 rfl rfl rfl).2
        refine ⟨(wanted_some rfl rfl rfl (hp.on_ 23 rfl rfl rfl).1 (hp.on_ 23 rfl rfl rfl).2), _, _, run_bin3 rfl (v := .bool true) ?_ ?_, rfl, Below.refl _ _⟩
        · show (eqGuard .eql _ _ _ (xa.tmps.getD 46 undef) (xa.tmps.getD 48 undef)).run _ W = _
          rw [e0, e1]; first | rfl | kernel_rfl | (simp [eqGuard]; done) | (unfold eqGuard; simp; done)
        · show (binOp .eql _ (xa.tmps.getD 46 undef) (xa.tmps.getD 48 undef)).run _ W = _
          rw [e0, e1]; first | rfl | ((rw [Go.binOp_string_eql]; simp [Lib.toList_data]))
      refine Steps.cons (step_value rfl fun xa W hp => ⟨(wanted_none rfl), _, _, run_pick rfl (hp.on_ 23 rfl rfl rfl).2, (hp.on_ 28 rfl rfl rfl).2, Below.refl _ _⟩) ?_
      refine Steps.cons (step_value rfl fun xa W hp => ⟨(wanted_none rfl), _, _, run_move (.inl rfl), (hp.on_ 29 rfl rfl rfl).2, Below.refl _ _⟩) ?_
      refine Steps.cons (step_value rfl fun xa W hp => ?_) ?_
      · have e0 : xa.tmps.getD 3 undef = .pointer (some ⟨B3, 0, none⟩) := hp.old 3 rfl
        have e1 : (Instr.fieldAt 36 (.pointer (some ⟨B3, 0, none⟩)) 0).run Tryd.prog W = .ok (.pointer (some ⟨B3, 0, none⟩)) W := by kernel_rfl
        exact ⟨(wanted_some rfl rfl rfl (hp.on_ 30 rfl rfl rfl).1 (hp.on_ 30 rfl rfl rfl).2), _, _, run_fa4 rfl e0 e1, rfl, Below.refl _ _⟩
      refine Steps.cons (step_value rfl fun xa W hp => ?_) ?_
      · have e0 : xa.tmps.getD 52 undef = .pointer (some ⟨B3, 0, none⟩) := (hp.on_ 31 rfl rfl rfl).2
        exact ⟨(wanted_some rfl rfl rfl (hp.on_ 30 rfl rfl rfl).1 (hp.on_ 30 rfl rfl rfl).2), _, _, run_ldv rfl e0 (cell_of_row W (B3) 0 _ _ _ ((hp.below.block (B3) (Array.getElem?_eq_some_iff.1 HX3.out).1).trans HX3.out)) Tryd.underlying3 rfl (by kernel_rfl), rfl, Below.refl _ _⟩
      refine Steps.cons (step_enter rfl fun xa W hp => ?_) ?_
      · have e0 : xa.tmps.getD 53 undef = .int .i64 i.op := (hp.on_ 32 rfl rfl rfl).2
        refine ⟨(wanted_some rfl rfl rfl (hp.on_ 30 rfl rfl rfl).1 (hp.on_ 30 rfl rfl rfl).2), 11, _, run_enter1 rfl rfl Tryd.call11, ?_⟩
        show Calls _ _ #[xa.tmps.getD 53 undef] W _
        rw [e0]
        refine (HK.out.name i.op W (HK.out.keep _ _ HT9.out hp.below) HI.out.1).mono ?_
        rintro e W' ⟨he, hbe⟩
        exact ⟨_, he, rfl, hbe⟩
      refine Steps.cons (step_value rfl fun xa W hp => ?_) ?_
      · have e0 : xa.tmps.getD 3 undef = .pointer (some ⟨B3, 0, none⟩) := hp.old 3 rfl
        have e1 : (Instr.fieldAt 36 (.pointer (some ⟨B3, 0, none⟩)) 0).run Tryd.prog W = .ok (.pointer (some ⟨B3, 0, none⟩)) W := by kernel_rfl
        exact ⟨(wanted_some rfl rfl rfl (hp.on_ 30 rfl rfl rfl).1 (hp.on_ 30 rfl rfl rfl).2), _, _, run_fa4 rfl e0 e1, rfl, Below.refl _ _⟩
      refine Steps.cons (step_value rfl fun xa W hp => ?_) ?_
      · have e0 : xa.tmps.getD 55 undef = .pointer (some ⟨B3, 0, none⟩) := (hp.on_ 34 rfl rfl rfl).2
        exact ⟨(wanted_some rfl rfl rfl (hp.on_ 30 rfl rfl rfl).1 (hp.on_ 30 rfl rfl rfl).2), _, _, run_ldv rfl e0 (cell_of_row W (B3) 0 _ _ _ ((hp.below.block (B3) (Array.getElem?_eq_some_iff.1 HX3.out).1).trans HX3.out)) Tryd.underlying3 rfl (by kernel_rfl), rfl, Below.refl _ _⟩
      refine Steps.cons (step_enter rfl fun xa W hp => ?_) ?_
      · have e0 : xa.tmps.getD 56 undef = .int .i64 i.op := (hp.on_ 35 rfl rfl rfl).2
        refine ⟨(wanted_some rfl rfl rfl (hp.on_ 30 rfl rfl rfl).1 (hp.on_ 30 rfl rfl rfl).2), 17, _, run_enter1 rfl rfl Tryd.call17, ?_⟩
        show Calls _ _ #[xa.tmps.getD 56 undef] W _
        rw [e0]
        refine (rName_any i.op HI.out.1 W).mono ?_
        rintro e W' ⟨he, hbe⟩
        exact ⟨_, he, rfl, hbe⟩
      refine Steps.cons (step_value rfl fun xa W hp => ?_) ?_
      · have e0 : xa.tmps.getD 54 undef = .string ⟨(nameO i.op).toArray⟩ := (hp.on_ 33 rfl rfl rfl).2
        have e1 : xa.tmps.getD 57 undef = .string ⟨(nameO i.op).toArray⟩ := (hp.on_ 36 rfl rfl rfl).2
        refine ⟨(wanted_some rfl rfl rfl (hp.on_ 30 rfl rfl rfl).1 (hp.on_ 30 rfl rfl rfl).2), _, _, run_bin3 rfl (v := .bool true) ?_ ?_, rfl, Below.refl _ _⟩
        · show (eqGuard .eql _ _ _ (xa.tmps.getD 54 undef) (xa.tmps.getD 57 undef)).run _ W = _
          rw [e0, e1]; first | rfl | kernel_rfl | (simp [eqGuard]; done) | (unfold eqGuard; simp; done)
        · show (binOp .eql _ (xa.tmps.getD 54 undef) (xa.tmps.getD 57 undef)).run _ W = _
          rw [e0, e1]; first | rfl | ((rw [Go.binOp_string_eql]; simp [Lib.toList_data]))
      refine Steps.cons (step_value rfl fun xa W hp => ⟨(wanted_none rfl), _, _, run_pick rfl (hp.on_ 30 rfl rfl rfl).2, (hp.on_ 37 rfl rfl rfl).2, Below.refl _ _⟩) ?_
      refine Steps.cons (step_value rfl fun xa W hp => ⟨(wanted_none rfl), _, _, run_move (.inr rfl), (hp.on_ 38 rfl rfl rfl).2, Below.refl _ _⟩) ?_
      exact Steps.nil
    case rest2 =>
      intro act W hI
      have hbW := hI.below
      have h57 : act.tmps.getD 4 undef = .bool true := hI.new 39 _ 4 rfl rfl rfl
      obtain ⟨fo, hfo, hx⟩ := puts_of hI.tmps hI.defers hI.old [21, 22, 23, 24, 25, 26, 27, 28, 29, 30, 31, 32, 33, 34, 35, 36, 37, 38, 39, 40, 41, 42, 43, 44, 45, 46, 47, 48, 49, 50, 51, 52, 53, 54, 55, 56, 57, 58, 59, 4] rfl
      rw [hfo] at h57
      have HBW := Lib.hid (HB9.out.trans (hbW.mono HB9.out.size))
      clear hI hfo hbW
      subst hx
      simp only [Exit.inBlock, Exit.then, List.foldl, Act.put, List.setIfInBounds_toArray, List.set_cons_succ, List.set_cons_zero]
      rw [h57]
      clear h57
      go_wp2_with fail
      go_ret
      exact ⟨rfl, HBW.out⟩
end Go.Proofs.YtophockpjchilaaDoor

namespace Go.Proofs.YtophockpjchilaaDoor
open Go Go.RowKit
def pg1 : Pg := ⟨[], [], [], [], [0], []⟩
theorem noPg_ok : noPg.ok := ⟨fun _ h => (by cases h), fun _ h => (by cases h), fun _ h => (by cases h), fun _ h => (by cases h), fun _ h => (by cases h), fun _ h => (by cases h)⟩
theorem pg1_ok : pg1.ok := ⟨fun _ h => (by cases h), fun _ h => (by cases h), fun _ h => (by cases h), fun _ h => (by cases h), fun v h => (by simp [pg1] at h; subst h; exact ⟨by decide, by decide⟩), fun _ h => (by cases h)⟩
theorem noPg_in {w : World} : PgIn w noPg none none none none none none := ⟨Row.nil _ _ _, Row.nil _ _ _, Row.nil _ _ _, Row.nil _ _ _, Row.nil _ _ _, fun h => absurd rfl h⟩
theorem pg1_in {w : World} {g : Nat} (h : w.heap[g]? = some (.cells #[.int .i64 0] 2 (0, 0))) : PgIn w pg1 none none none none (some ⟨g, 0, none⟩) none :=
  ⟨Row.nil _ _ _, Row.nil _ _ _, Row.nil _ _ _, Row.nil _ _ _, fun _ => ⟨g, 0, rfl, (Array.getElem?_eq_some_iff.1 h).1, fun i hi => by
    have : i < 1 := hi
    obtain rfl : i = 0 := by omega
    exact cell_of_row w g 0 _ _ _ h⟩, fun h => absurd rfl h⟩
theorem no_pg1 : ¬ enc noPg = enc pg1 := fun h => by
  have := enc_inj noPg_ok (Pg.few_of (by decide)) pg1_ok (Pg.few_of (by decide)) h
  simp [noPg, pg1] at this
theorem textI_m1 : textI (-1) = [45, 49] := by
  unfold textI
  rw [if_pos (by decide), show (-1 : Int).natAbs = 1 from rfl, textN_small 1 (by decide)]
  rfl
theorem show_99 : showI ⟨99, 0, 0, 0⟩ = [] := by unfold showI; rw [if_pos (nameO_out (.inr (by decide)))]
theorem show_jump : showI ⟨20, -1, 9, 0⟩ = [106, 117, 109, 112, 32, 45, 49] := by
  have hn : nameO 20 = [106, 117, 109, 112] := by decide
  have hc : countO 20 = 1 := by decide
  unfold showI
  simp only
  rw [hn, hc, if_neg (by decide)]
  simp only [opsT, textI_m1]
  rfl
/-- A program's bytes with more behind them are none. -/
theorem no_more {p : Pg} (h : p.ok) (hs : p.sum ≤ 1000000000) {r : List UInt8} (hr : r ≠ []) (hl : (enc p ++ r).length ≤ 100000000) : ¬ enc (decP (enc p ++ r)) = enc p ++ r := fun he => by
  have h1 : enc (decP (enc p ++ r)) ++ [] = enc p ++ r := by rw [List.append_nil]; exact he
  obtain ⟨_, h2⟩ := enc_prefix (decP_ok _) (Pg.few_of (by have := decP_sum (enc p ++ r); omega)) h (Pg.few_of hs) h1
  exact hr h2.symm
set_option maxHeartbeats 4000000 in
set_option maxRecDepth 100000 in
theorem codeKnown_any {T : World → Prop} (K : CodeC T) (w : World) (hT : T w) :
    Calls Tryd.prog 3 #[] w fun e w' => e = .returned (.bool true) ∧ Below w.heap.size w w' := by
  have HK := Lib.hid K
  have HT := Lib.hid hT
  have ka := awake14_any K w hT
  have bz : ∀ W : World, (Instr.build 27 #[]).run Tryd.prog W = .ok (.agg #[.slice none 0 0, .slice none 0 0, .slice none 0 0, .slice none 0 0, .slice none 0 0, .slice none 0 0]) W := fun W => by kernel_rfl
  have b0 : ∀ W : World, (Instr.buildSlice 31 1 #[(0, .int .u8 0)]).run Tryd.prog W = .ok (.slice (some ⟨W.heap.size, 0, none⟩) 1 1) (W.alloc (.cells #[.int .u8 0] 5)) := fun W => by kernel_rfl
  clear K hT
  go_enter Tryd.func3, Tryd.ntmps3
  go_wp2_with fail
  (with_reducible refine ka.mono ?_)
  rintro e w1 ⟨rfl, hb1⟩
  clear ka
  have HB1 := Lib.hid hb1
  have HT1 := Lib.hid (HK.out.keep _ _ HT.out hb1)
  have ke : Calls Tryd.prog 10 #[.agg #[.slice none 0 0, .slice none 0 0, .slice none 0 0, .slice none 0 0, .slice none 0 0, .slice none 0 0]] w1 (GivesO w1 (enc noPg)) := HK.out.enc_ noPg none none none none none none 0 0 0 0 0 0 w1 HT1.out noPg_ok (by decide) noPg_in
  clear hb1
  go_wp2_with fail
  (with_reducible refine ke.mono ?_)
  rintro e w2 ⟨ae, ce, rfl, hown, hc2, hm2, hb2⟩
  clear ke
  obtain ⟨E, hE⟩ : ∃ E, E = enc noPg := ⟨_, rfl⟩
  have hEl : E.length ≤ 200 := by rw [hE]; have := enc_le noPg_ok (by decide); exact Nat.le_trans this (by decide)
  rw [← hE] at hown hc2 ⊢
  have HO2 := Lib.hid hown
  have HB2 := Lib.hid (HB1.out.trans (hb2.mono HB1.out.size))
  have hal : Below w2.heap.size w2 (w2.alloc (.cells #[.int .u8 0] 5)) := (Below.refl _ _).alloc (Nat.le_refl _) _
  have HO3 := Lib.hid (own_below hown hal)
  have HT3 := Lib.hid (lit_txt w2 [0] #[.int .u8 0] rfl 5 (0, 0))
  have HEL := Lib.hid hEl
  have HE := Lib.hid hE
  obtain ⟨i0, hi, hz0, hz1, hz2⟩ := info_parts info_byte
  have HIN := Lib.hid (And.intro hi (And.intro hz0 (And.intro hz1 hz2)))
  have hal3 := hal
  have HS12 := Lib.hid hb2.size
  have HB12 := Lib.hid hb2
  have HLT3 := Lib.hid (World.ownsRow.lt HO3.out)
  clear hown hc2 hm2 hb2 hal hEl hE hi hz0 hz1 hz2
  go_wp2_with (at_builtin; refine wpList_append_txt _ rfl (.tmp 7) (.tmp 8) 31 rfl w1.heap.size 5 i0 Tryd.underlying31 HIN.out.1 HIN.out.2.1 HIN.out.2.2.1 HIN.out.2.2.2 _ E.length (Lib.byteCells E) rfl HO3.out (some ⟨w2.heap.size, 0, none⟩) 1 [0] rfl HT3.out ?c1 ?c2 ?_)
  case c1 => have := HEL.out; simp; omega
  case c2 => exact Nat.le_trans HS12.out hal3.size
  intro v3 w3 hown3 hgr3
  have hown4 : w3.ownsRow w1.heap.size 5 1 v3 (E ++ [0]).length (Lib.byteCells (E ++ [0])) := by rw [List.length_append, Lib.byteCells_append]; exact hown3
  have hb13 : Below w1.heap.size w1 w3 := (HB12.out.trans (hal3.mono HB12.out.size)).grown hgr3 (Nat.le_trans HB12.out.size hal3.size) (fun k hk => (HLT3.out k hk).1)
  obtain ⟨a3, c3, e3, h3, hc3, hm3, _⟩ := givesO_of ⟨v3, rfl, hown4, hb13⟩
  injection e3 with e3
  subst e3
  have HB3 := Lib.hid (HB1.out.trans (hb13.mono HB1.out.size))
  obtain ⟨L, hL⟩ : ∃ L, L = E ++ [0] := ⟨_, rfl⟩
  have hno : ¬ enc (decP L) = L := by
    rw [hL, HE.out]
    exact no_more noPg_ok (by decide) (by simp) (by rw [← HE.out, List.length_append]; have := HEL.out; simp; omega)
  have hLl : L.length ≤ 300 := by rw [hL, List.length_append]; have := HEL.out; simp; omega
  rw [← hL] at h3 hc3
  have hl2 : E.length + 1 = L.length := by rw [hL]; simp
  have kd := HK.out.dec L a3 c3 w3 (HK.out.keep _ _ HT.out HB3.out) (own_txt h3) hc3 hm3 (by omega)
  have HNO := Lib.hid hno
  have HL2 := Lib.hid hl2
  clear hown3 hown4 hgr3 hb13 h3 hc3 hm3 hL hno hLl hl2 hal3
  go_wp2_with fail
  first | rw [HL2.out] | skip
  (with_reducible refine kd.mono ?_)
  rintro e w5 ⟨u0, u1, u2, u3, u4, u5, z0, z1, z2, z3, z4, z5, rfl, hn, hb5⟩
  clear kd hn
  rw [decR_no HNO.out, if_neg HNO.out]
  have epn : pgV noPg u0 u1 u2 u3 u4 u5 z0 z1 z2 z3 z4 z5 = .agg #[.slice u0 0 z0, .slice u1 0 z1, .slice u2 0 z2, .slice u3 0 z3, .slice u4 0 z4, .slice u5 0 z5] := rfl
  rw [epn]
  obtain ⟨W9, hW9⟩ : ∃ W9, W9 = w5.alloc (.cells #[.slice u0 0 z0, .slice u1 0 z1, .slice u2 0 z2, .slice u3 0 z3, .slice u4 0 z4, .slice u5 0 z5] 27) := ⟨_, rfl⟩
  have a89 : Below w5.heap.size w5 W9 := by rw [hW9]; exact (Below.refl _ _).alloc (Nat.le_refl _) _
  have HB9 := Lib.hid (HB3.out.trans ((hb5.trans (a89.mono hb5.size)).mono HB3.out.size))
  have HT9 := Lib.hid (HK.out.keep _ _ HT.out HB9.out)
  have HW9 := Lib.hid hW9
  clear epn hW9 a89 hb5 bz b0
  go_upto_region 4 with fail
  rw [← HW9.out]
  have hj : ((⟨#[106, 117, 109, 112, 32, 45, 49]⟩ : ByteArray).toList == [106, 117, 109, 112, 32, 45, 49]) = true := by rw [Lib.toList_data]; rfl
  have hz : (⟨#[]⟩ : ByteArray).toList.isEmpty = true := by rw [Lib.toList_data]; rfl
  have b99 : ∀ W : World, (Instr.build 36 #[(0, .int .i64 99)]).run Tryd.prog W = .ok (.agg #[.int .i64 99, .int .i64 0, .int .i64 0, .int .i64 0]) W := fun W => by kernel_rfl
  have b20 : ∀ W : World, (Instr.build 36 #[(0, .int .i64 20), (1, .int .i64 (-1)), (2, .int .i64 9)]).run Tryd.prog W = .ok (.agg #[.int .i64 20, .int .i64 (-1), .int .i64 9, .int .i64 0]) W := fun W => by kernel_rfl
  have bz : ∀ W : World, (Instr.build 27 #[]).run Tryd.prog W = .ok (.agg #[.slice none 0 0, .slice none 0 0, .slice none 0 0, .slice none 0 0, .slice none 0 0, .slice none 0 0]) W := fun W => by kernel_rfl
  have bs : ∀ W : World, (Instr.buildSlice 24 1 #[(0, .int .i64 0)]).run Tryd.prog W = .ok (.slice (some ⟨W.heap.size, 0, none⟩) 1 1) (W.alloc (.cells #[.int .i64 0] 2)) := fun W => by kernel_rfl
  have kq : Calls Tryd.prog 11 #[.int .i64 (-1)] W9 (fun e w' => e = .returned (.string ⟨#[]⟩) ∧ Below W9.heap.size W9 w') := (HK.out.name (-1) W9 HT9.out ⟨by decide, by decide⟩).mono (fun e w' h => by rw [nameO_out (.inl (by decide))] at h; exact h)
  go_wp2_with fail
  (with_reducible refine kq.mono ?_)
  rintro e wa ⟨rfl, hb⟩
  have HBwa := Lib.hid (HB9.out.trans (hb.mono HB9.out.size))
  have HTwa := Lib.hid (HK.out.keep _ _ HT.out HBwa.out)
  clear kq hb
  have kq : Calls Tryd.prog 11 #[.int .i64 21] wa (fun e w' => e = .returned (.string ⟨#[]⟩) ∧ Below wa.heap.size wa w') := (HK.out.name 21 wa HTwa.out ⟨by decide, by decide⟩).mono (fun e w' h => by rw [nameO_out (.inr (by decide))] at h; exact h)
  go_wp2_with fail
  (with_reducible refine kq.mono ?_)
  rintro e wb ⟨rfl, hb⟩
  have HBwb := Lib.hid (HBwa.out.trans (hb.mono HBwa.out.size))
  have HTwb := Lib.hid (HK.out.keep _ _ HT.out HBwb.out)
  clear kq hb
  have kq : Calls Tryd.prog 12 #[.agg #[.int .i64 99, .int .i64 0, .int .i64 0, .int .i64 0]] wb (fun e w' => e = .returned (.string ⟨#[]⟩) ∧ Below wb.heap.size wb w') := (HK.out.show_ ⟨99, 0, 0, 0⟩ wb HTwb.out ⟨⟨by decide, by decide⟩, ⟨by decide, by decide⟩, ⟨by decide, by decide⟩, ⟨by decide, by decide⟩⟩).mono (fun e w' h => by rw [show_99] at h; exact h)
  go_wp2_with fail
  (with_reducible refine kq.mono ?_)
  rintro e wc ⟨rfl, hb⟩
  have HBwc := Lib.hid (HBwb.out.trans (hb.mono HBwb.out.size))
  have HTwc := Lib.hid (HK.out.keep _ _ HT.out HBwc.out)
  clear kq hb
  have kq : Calls Tryd.prog 12 #[.agg #[.int .i64 20, .int .i64 (-1), .int .i64 9, .int .i64 0]] wc (fun e w' => e = .returned (.string ⟨#[106, 117, 109, 112, 32, 45, 49]⟩) ∧ Below wc.heap.size wc w') := (HK.out.show_ ⟨20, -1, 9, 0⟩ wc HTwc.out ⟨⟨by decide, by decide⟩, ⟨by decide, by decide⟩, ⟨by decide, by decide⟩, ⟨by decide, by decide⟩⟩).mono (fun e w' h => by rw [show_jump] at h; exact h)
  go_wp2_with fail
  (with_reducible refine kq.mono ?_)
  rintro e wd ⟨rfl, hb⟩
  have HBwd := Lib.hid (HBwc.out.trans (hb.mono HBwc.out.size))
  have HTwd := Lib.hid (HK.out.keep _ _ HT.out HBwd.out)
  clear kq hb
  obtain ⟨we, hwe⟩ : ∃ we, we = wd.alloc (.cells #[.int .i64 0] 2) := ⟨_, rfl⟩
  have ke := heap_alloc_new wd (.cells #[.int .i64 0] 2)
  rw [← hwe] at ke
  obtain ⟨ge, hge⟩ : ∃ g, g = wd.heap.size := ⟨_, rfl⟩
  rw [← hge] at ke
  have ade : Below wd.heap.size wd we := by rw [hwe]; exact (Below.refl _ _).alloc (Nat.le_refl _) _
  have HBwe := Lib.hid (HBwd.out.trans (ade.mono HBwd.out.size))
  have kq : Calls Tryd.prog 13 #[.agg #[.slice none 0 0, .slice none 0 0, .slice none 0 0, .slice none 0 0, .slice none 0 0, .slice none 0 0], .agg #[.slice none 0 0, .slice none 0 0, .slice none 0 0, .slice none 0 0, .slice (some ⟨ge, 0, none⟩) 1 1, .slice none 0 0]] we (fun e w' => e = .returned (.bool false) ∧ Below we.heap.size we w') := (HK.out.same noPg pg1 none none none none none none 0 0 0 0 0 0 none none none none (some ⟨ge, 0, none⟩) none 0 0 0 0 1 0 we (HK.out.keep _ _ HT.out HBwe.out) noPg_ok pg1_ok (by decide) (by decide) noPg_in (pg1_in ke)).mono (fun e w' h => by rw [decide_eq_false no_pg1] at h; exact h)
  have HWE := Lib.hid hwe
  have HGE := Lib.hid hge
  have bp : ∀ W : World, (Instr.build 27 #[(4, .slice (some ⟨wd.heap.size, 0, none⟩) 1 1)]).run Tryd.prog W = .ok (.agg #[.slice none 0 0, .slice none 0 0, .slice none 0 0, .slice none 0 0, .slice (some ⟨wd.heap.size, 0, none⟩) 1 1, .slice none 0 0]) W := fun W => by kernel_rfl
  clear hwe hge ke ade
  go_wp2_with fail
  rw [← HWE.out, ← HGE.out]
  clear bp
  (with_reducible refine kq.mono ?_)
  rintro e wf ⟨rfl, hb⟩
  have HBW := Lib.hid (HBwe.out.trans (hb.mono HBwe.out.size))
  clear kq hb
  go_wp2_with fail
  go_ret
  exact ⟨rfl, HBW.out⟩
end Go.Proofs.YtophockpjchilaaDoor

namespace Go.Proofs.YtophockpjchilaaDoor
open Go Go.RowKit
theorem decR_ok (l : List UInt8) : (decR l).ok := by
  unfold decR
  split
  · exact decP_ok l
  · exact noPg_ok
theorem decR_sum (l : List UInt8) : (decR l).sum ≤ 9 * l.length := by
  unfold decR
  split
  · exact decP_sum l
  · exact Nat.zero_le _
set_option maxHeartbeats 4000000 in
set_option maxRecDepth 100000 in
theorem codeReads_any {T : World → Prop} (K : CodeC T) (a_b : Option Addr) (c_b : Nat) (b : List UInt8) (summed : Bool) (w : World) (hT : T w) (l_b : b.length ≤ c_b) (m_b : c_b ≤ maxLen) (t_b : Txt w a_b b) :
    Calls Tryd.prog 5 #[.slice a_b b.length c_b, .bool summed] w fun e w' => e = .returned (.bool true) ∧ Below w.heap.size w w' := by
  have HK := Lib.hid K
  have HT := Lib.hid hT
  have HLB := Lib.hid (And.intro l_b m_b)
  have HTB := Lib.hid t_b
  have ka := awake14_any K w hT
  clear K hT t_b
  by_cases h3 : 3000 < b.length
  · have d1 : decide ((3000 : Int) < (b.length : Int)) = true := by simp; omega
    unfold maxLen at m_b
    go_enter Tryd.func5, Tryd.ntmps5
    go_wp2_with fail
    (with_reducible refine ka.mono ?_)
    rintro e w1 ⟨rfl, hb1⟩
    clear ka
    go_wp2_with fail
    go_ret
    exact ⟨rfl, hb1⟩
  · have d1 : decide ((3000 : Int) < (b.length : Int)) = false := by simp; omega
    have HLb := Lib.hid (show b.length ≤ 3000 by omega)
    obtain ⟨i0, hi, hz0, hz1, hz2⟩ := info_parts info_byte
    have HIN := Lib.hid (And.intro hi (And.intro hz0 (And.intro hz1 hz2)))
    have be0 : ∀ W : World, (Instr.buildSlice 31 0 #[]).run Tryd.prog W = .ok (.slice (some ⟨W.heap.size, 0, none⟩) 0 0) (W.alloc (.cells #[] 5)) := fun W => by kernel_rfl
    clear h3 l_b m_b hi hz0 hz1 hz2
    go_enter Tryd.func5, Tryd.ntmps5
    go_wp2_with fail
    (with_reducible refine ka.mono ?_)
    rintro e w1 ⟨rfl, hb1⟩
    clear ka
    have HB1 := Lib.hid hb1
    have HTA1 := Lib.hid ((HTB.out.below hb1).below ((Below.refl w1.heap.size w1).alloc (Nat.le_refl _) (.cells #[] 5)))
    clear hb1
    go_upto_region 5 with fail
    go_wp2_with (at_builtin; refine wpList_append_txt _ rfl (.tmp 15) (.tmp 16) 31 rfl w1.heap.size 5 i0 Tryd.underlying31 HIN.out.1 HIN.out.2.1 HIN.out.2.2.1 HIN.out.2.2.2 _ 0 [] rfl (own_empty w1 _ _ (Nat.le_refl _)) a_b c_b b rfl HTA1.out ?c1 ?c2 ?_)
    case c1 => have := HLb.out; omega
    case c2 => simp
    intro v2 w2 hown2 hgr2
    have hb12 : Below w1.heap.size w1 w2 := ((Below.refl _ _).alloc (Nat.le_refl _) _).grown hgr2 (by simp) (by intro k hk; simp [Value.ownBlock] at hk; omega)
    have hown3 : w2.ownsRow w1.heap.size 5 1 v2 b.length (Lib.byteCells b) := by simpa using hown2
    obtain ⟨ab, cb, e2, h2, hc2, hm2, _⟩ := givesO_of ⟨v2, rfl, hown3, hb12⟩
    injection e2 with e2
    subst e2
    have HB2 := Lib.hid (HB1.out.trans (hb12.mono HB1.out.size))
    have HTB2 := Lib.hid ((HTB.out.below HB1.out).below hb12)
    have HO2 := Lib.hid h2
    have HC2 := Lib.hid (And.intro hc2 hm2)
    have HS12 := Lib.hid hb12.size
    have HB12 := Lib.hid hb12
    clear be0 hown2 hown3 hgr2 hb12 h2 hc2 hm2
    cases summed with
    | false =>
      obtain ⟨L, hL⟩ : ∃ L, L = b := ⟨_, rfl⟩
      obtain ⟨ac, hac⟩ : ∃ ac, ac = ab := ⟨_, rfl⟩
      obtain ⟨cc, hcc⟩ : ∃ cc, cc = cb := ⟨_, rfl⟩
      obtain ⟨wc, hwc⟩ : ∃ wc : World, wc = w2 := ⟨_, rfl⟩
      have HTc : Hid (Txt wc ac L) := Lib.hid (by rw [hwc, hac, hL]; exact own_txt HO2.out)
      have HBc : Hid (Below w.heap.size w wc) := Lib.hid (by rw [hwc]; exact HB2.out)
      have HCc : Hid (L.length ≤ cc ∧ cc ≤ maxLen) := Lib.hid (by rw [hL, hcc]; exact HC2.out)
      have HLl : Hid (L.length ≤ 3004) := Lib.hid (by rw [hL]; have := HLb.out; omega)
      have HLL := Lib.hid hL
      rw [← hac, ← hcc, ← hwc]
      rw [show b.length = L.length by rw [hL]]
      clear hac hcc hwc HO2 HC2 hL
      go_upto_region 8 with fail
      have be : ∀ W : World, (Instr.buildSlice 31 0 #[]).run Tryd.prog W = .ok (.slice (some ⟨W.heap.size, 0, none⟩) 0 0) (W.alloc (.cells #[] 5)) := fun W => by kernel_rfl
      have HTA := Lib.hid (HTc.out.below ((Below.refl wc.heap.size wc).alloc (Nat.le_refl _) (.cells #[] 5)))
      go_wp2_with (at_builtin; refine wpList_append_txt _ rfl (.tmp 26) (.tmp 27) 31 rfl wc.heap.size 5 i0 Tryd.underlying31 HIN.out.1 HIN.out.2.1 HIN.out.2.2.1 HIN.out.2.2.2 _ 0 [] rfl (own_empty wc _ _ (Nat.le_refl _)) ac cc L rfl HTA.out ?c1 ?c2 ?_)
      case c1 => have := HLl.out; omega
      case c2 => simp
      intro v4 w4 hown4 hgr4
      have hb34 : Below wc.heap.size wc w4 := ((Below.refl _ _).alloc (Nat.le_refl _) _).grown hgr4 (by simp) (by intro k hk; simp [Value.ownBlock] at hk; omega)
      have hown5 : w4.ownsRow wc.heap.size 5 1 v4 L.length (Lib.byteCells L) := by simpa using hown4
      obtain ⟨ae4, ce4, e4, h4, hc4, hm4, _⟩ := givesO_of ⟨v4, rfl, hown5, hb34⟩
      injection e4 with e4
      subst e4
      have HB4 := Lib.hid (HBc.out.trans (hb34.mono HBc.out.size))
      have HT4 := Lib.hid (HTc.out.below hb34)
      have kd := HK.out.dec L ae4 ce4 w4 (HK.out.keep _ _ HT.out HB4.out) (own_txt h4) hc4 hm4 (by have := HLl.out; omega)
      clear be hown4 hown5 hgr4 hb34 h4 hc4 hm4
      go_wp2_with fail
      (with_reducible refine kd.mono ?_)
      rintro e w5 ⟨y0, y1, y2, y3, y4, y5, d0, d1, d2, d3, d4, d5, rfl, hq, hb5⟩
      clear kd
      obtain ⟨D, hD⟩ : ∃ D, D = decR L := ⟨_, rfl⟩
      rw [← hD] at hq ⊢
      have epv : pgV D y0 y1 y2 y3 y4 y5 d0 d1 d2 d3 d4 d5 = .agg #[.slice y0 D.ins.length d0, .slice y1 D.outs.length d1, .slice y2 D.slots.length d2, .slice y3 D.mems.length d3, .slice y4 D.consts.length d4, .slice y5 D.code.length d5] := rfl
      rw [epv]
      obtain ⟨en, hen⟩ : ∃ en : Int, en = (if enc (decP L) = L then 0 else 3) := ⟨_, rfl⟩
      rw [← hen]
      have HEN := Lib.hid hen
      have HD := Lib.hid hD
      obtain ⟨W6, hW6⟩ : ∃ W6, W6 = w5.alloc (.cells #[.slice y0 D.ins.length d0, .slice y1 D.outs.length d1, .slice y2 D.slots.length d2, .slice y3 D.mems.length d3, .slice y4 D.consts.length d4, .slice y5 D.code.length d5] 27) := ⟨_, rfl⟩
      obtain ⟨B6, hB6⟩ : ∃ B, B = w5.heap.size := ⟨_, rfl⟩
      have k6 := heap_alloc_new w5 (.cells #[.slice y0 D.ins.length d0, .slice y1 D.outs.length d1, .slice y2 D.slots.length d2, .slice y3 D.mems.length d3, .slice y4 D.consts.length d4, .slice y5 D.code.length d5] 27)
      have a56 : Below w5.heap.size w5 W6 := by rw [hW6]; exact (Below.refl _ _).alloc (Nat.le_refl _) _
      rw [← hW6, ← hB6] at k6
      have HX6a := Lib.hid k6
      have b46 : Below w4.heap.size w4 W6 := hb5.trans (a56.mono hb5.size)
      have HQ6 := Lib.hid (hq.below a56)
      have HB6 := Lib.hid (HB4.out.trans (b46.mono HB4.out.size))
      have HT6 := Lib.hid (HT4.out.below b46)
      have HW6 := Lib.hid hW6
      have HBB6 := Lib.hid hB6
      have kr := rDecode_any L ac cc W6 HT6.out HCc.out.1 HCc.out.2 (by have := HLl.out; omega)
      clear hD hq epv hen hW6 hB6 k6 a56 b46 hb5
      go_upto_region 9 with fail
      rw [← HW6.out, ← HBB6.out]
      go_wp2_with fail
      (with_reducible refine kr.mono ?_)
      rintro e w7 ⟨u0, u1, u2, u3, u4, u5, z0, z1, z2, z3, z4, z5, rfl, hr, hb7⟩
      clear kr
      rw [← HD.out] at hr ⊢
      have epv : pgV D u0 u1 u2 u3 u4 u5 z0 z1 z2 z3 z4 z5 = .agg #[.slice u0 D.ins.length z0, .slice u1 D.outs.length z1, .slice u2 D.slots.length z2, .slice u3 D.mems.length z3, .slice u4 D.consts.length z4, .slice u5 D.code.length z5] := rfl
      rw [epv]
      obtain ⟨W9, hW9⟩ : ∃ W9, W9 = w7.alloc (.cells #[.slice u0 D.ins.length z0, .slice u1 D.outs.length z1, .slice u2 D.slots.length z2, .slice u3 D.mems.length z3, .slice u4 D.consts.length z4, .slice u5 D.code.length z5] 27) := ⟨_, rfl⟩
      obtain ⟨B8, hB8⟩ : ∃ B, B = w7.heap.size := ⟨_, rfl⟩
      have k8 := heap_alloc_new w7 (.cells #[.slice u0 D.ins.length z0, .slice u1 D.outs.length z1, .slice u2 D.slots.length z2, .slice u3 D.mems.length z3, .slice u4 D.consts.length z4, .slice u5 D.code.length z5] 27)
      have a79 : Below w7.heap.size w7 W9 := by rw [hW9]; exact (Below.refl _ _).alloc (Nat.le_refl _) _
      rw [← hW9, ← hB8] at k8
      have HX8 := Lib.hid k8
      have b69 : Below W6.heap.size W6 W9 := hb7.trans (a79.mono hb7.size)
      have HX6 := Lib.hid ((b69.block B6 (Array.getElem?_eq_some_iff.1 HX6a.out).1).trans HX6a.out)
      have HQ9 := Lib.hid (HQ6.out.below b69)
      have HR9 := Lib.hid (hr.below a79)
      have HB9 := Lib.hid (HB6.out.trans (b69.mono HB6.out.size))
      have HDO : Hid D.ok := Lib.hid (by rw [HD.out]; exact decR_ok L)
      have HDS : Hid (D.sum ≤ 1000000000) := Lib.hid (by rw [HD.out]; have := decR_sum L; have := HLl.out; omega)
      have HSP := Lib.hid size_prog
      have HW9 := Lib.hid hW9
      have HBB8 := Lib.hid hB8
      clear hr epv hW9 hB8 k8 a79 b69 hb7
      by_cases hy : enc (decP L) = L
      · have e1 : en = 0 := by rw [HEN.out, if_pos hy]
        have e2 : decide (enc (decP L) = L) = true := decide_eq_true hy
        rw [e1, e2]
        clear e1 e2 hy
        go_upto_region 10 with fail
        rw [← HW9.out, ← HBB8.out]
        refine wp_region_steps (words [wIs (.bool true), wIs (.int .i64 0), wIs (.bool true), wIs (.bool true), wIs (.bool true), wIs (.bool true), wIs (.bool true), wIs undef, wIs undef, wIs (.bool true), wIs (.bool true), wIs (.bool true), wIs (.agg #[.slice y0 D.ins.length d0, .slice y1 D.outs.length d1, .slice y2 D.slots.length d2, .slice y3 D.mems.length d3, .slice y4 D.consts.length d4, .slice y5 D.code.length d5]), wE14 (enc D), wIs (.string ⟨((enc D)).toArray⟩), wIs (.agg #[.slice u0 D.ins.length z0, .slice u1 D.outs.length z1, .slice u2 D.slots.length z2, .slice u3 D.mems.length z3, .slice u4 D.consts.length z4, .slice u5 D.code.length z5]), wE14 (enc D), wIs (.string ⟨((enc D)).toArray⟩), wIs (.bool true), wIs (.bool true), wIs (.bool true)]) W9.heap.size W9 (by kernel_rfl) (Below.refl _ _) (Nat.le_refl _) (words_stable ?stab) rfl rfl (by kernel_rfl) ?steps ?rest2
        case stab =>
          intro f hf
          simp only [List.mem_cons, List.not_mem_nil, or_false] at hf
          rcases hf with rfl | rfl | rfl | rfl | rfl | rfl | rfl | rfl | rfl | rfl | rfl | rfl | rfl | rfl | rfl | rfl | rfl | rfl | rfl | rfl | rfl <;> first | exact stable_is _ | exact stable_e14 _
        case steps =>
          refine Steps.cons (step_value rfl fun xa W hp => ⟨(wanted_none rfl), _, _, run_move (.inl rfl), hp.old 9 rfl, Below.refl _ _⟩) ?_
          refine Steps.cons (step_value rfl fun xa W hp => ⟨(wanted_none rfl), _, _, run_move (.inl rfl), hp.old 7 rfl, Below.refl _ _⟩) ?_
          refine Steps.cons (step_value rfl fun xa W hp => ?_) ?_
          · have e0 : xa.tmps.getD 38 undef = .int .i64 0 := (hp.on_ 1 rfl rfl rfl).2
            refine ⟨(wanted_none rfl), _, _, run_bin3 rfl (v := .bool true) ?_ ?_, rfl, Below.refl _ _⟩
            · show (eqGuard .eql _ _ _ (xa.tmps.getD 38 undef) (.int .i64 0)).run _ W = _
              rw [e0]; first | rfl | kernel_rfl | (simp [eqGuard]; done) | (unfold eqGuard; simp; done)
            · show (binOp .eql _ (xa.tmps.getD 38 undef) (.int .i64 0)).run _ W = _
              rw [e0]; first | rfl | (rfl)
          refine Steps.cons (step_value rfl fun xa W hp => ?_) ?_
          · have e0 : xa.tmps.getD 37 undef = .bool true := (hp.on_ 0 rfl rfl rfl).2
            have e1 : xa.tmps.getD 39 undef = .bool true := (hp.on_ 2 rfl rfl rfl).2
            refine ⟨(wanted_none rfl), _, _, run_bin3 rfl (v := .bool true) ?_ ?_, rfl, Below.refl _ _⟩
            · show (eqGuard .eql _ _ _ (xa.tmps.getD 37 undef) (xa.tmps.getD 39 undef)).run _ W = _
              rw [e0, e1]; first | rfl | kernel_rfl | (simp [eqGuard]; done) | (unfold eqGuard; simp; done)
            · show (binOp .eql _ (xa.tmps.getD 37 undef) (xa.tmps.getD 39 undef)).run _ W = _
              rw [e0, e1]; first | rfl | (rfl)
          refine Steps.cons (step_value rfl fun xa W hp => ⟨(wanted_none rfl), _, _, run_move (.inl rfl), (hp.on_ 3 rfl rfl rfl).2, Below.refl _ _⟩) ?_
          refine Steps.cons (step_value rfl fun xa W hp => ⟨(wanted_some rfl rfl rfl (hp.on_ 4 rfl rfl rfl).1 (hp.on_ 4 rfl rfl rfl).2), _, _, run_move (.inl rfl), hp.old 9 rfl, Below.refl _ _⟩) ?_
          refine Steps.cons (step_value rfl fun xa W hp => ⟨(wanted_some rfl rfl rfl (hp.on_ 4 rfl rfl rfl).1 (hp.on_ 4 rfl rfl rfl).2), _, _, run_move (.inl rfl), (hp.on_ 5 rfl rfl rfl).2, Below.refl _ _⟩) ?_
          refine Steps.cons (step_skip rfl fun xa W hp => ⟨unwanted_somef rfl rfl rfl (hp.on_ 6 rfl rfl rfl).1 (hp.on_ 6 rfl rfl rfl).2, rfl⟩) ?_
          refine Steps.cons (step_skip rfl fun xa W hp => ⟨unwanted_somef rfl rfl rfl (hp.on_ 6 rfl rfl rfl).1 (hp.on_ 6 rfl rfl rfl).2, rfl⟩) ?_
          refine Steps.cons (step_value rfl fun xa W hp => ⟨(wanted_some rfl rfl rfl (hp.on_ 4 rfl rfl rfl).1 (hp.on_ 4 rfl rfl rfl).2), _, _, run_pick rfl (hp.on_ 6 rfl rfl rfl).2, rfl, Below.refl _ _⟩) ?_
          refine Steps.cons (step_value rfl fun xa W hp => ⟨(wanted_none rfl), _, _, run_pick rfl (hp.on_ 4 rfl rfl rfl).2, (hp.on_ 9 rfl rfl rfl).2, Below.refl _ _⟩) ?_
          refine Steps.cons (step_value rfl fun xa W hp => ⟨(wanted_none rfl), _, _, run_move (.inl rfl), (hp.on_ 10 rfl rfl rfl).2, Below.refl _ _⟩) ?_
          refine Steps.cons (step_value rfl fun xa W hp => ?_) ?_
          · have e0 : xa.tmps.getD 6 undef = .pointer (some ⟨B6, 0, none⟩) := hp.old 6 rfl
            exact ⟨(wanted_some rfl rfl rfl (hp.on_ 11 rfl rfl rfl).1 (hp.on_ 11 rfl rfl rfl).2), _, _, run_ldrow rfl e0 ((hp.below.block (B6) (Array.getElem?_eq_some_iff.1 HX6.out).1).trans HX6.out) Tryd.underlying27 rfl HSP.out, rfl, Below.refl _ _⟩
          refine Steps.cons (step_enter rfl fun xa W hp => ?_) ?_
          · have e0 : xa.tmps.getD 49 undef = .agg #[.slice y0 D.ins.length d0, .slice y1 D.outs.length d1, .slice y2 D.slots.length d2, .slice y3 D.mems.length d3, .slice y4 D.consts.length d4, .slice y5 D.code.length d5] := (hp.on_ 12 rfl rfl rfl).2
            refine ⟨(wanted_some rfl rfl rfl (hp.on_ 11 rfl rfl rfl).1 (hp.on_ 11 rfl rfl rfl).2), 15, _, run_enter1 rfl rfl Tryd.call15, ?_⟩
            show Calls _ _ #[xa.tmps.getD 49 undef] W _
            rw [e0]
            refine (rEncode_any D HDO.out HDS.out y0 y1 y2 y3 y4 y5 d0 d1 d2 d3 d4 d5 W (HQ9.out.below hp.below)).mono ?_
            rintro e W' ⟨ae, ce, he, hte, _, _, hbe⟩
            exact ⟨_, he, ⟨ae, ce, rfl, own_txt hte⟩, hbe⟩
          refine Steps.cons (step_value rfl fun xa W hp => ?_) ?_
          · obtain ⟨a0, c0, e0, t0⟩ : wE14 (enc D) (xa.tmps.getD 50 undef) W := (hp.on_ 13 rfl rfl rfl).2
            refine ⟨(wanted_some rfl rfl rfl (hp.on_ 11 rfl rfl rfl).1 (hp.on_ 11 rfl rfl rfl).2), _, _, run_conv rfl (W' := W) (v := .string ⟨((enc D)).toArray⟩) ?_, rfl, Below.refl _ _⟩
            show (convert _ _ (xa.tmps.getD 50 undef)).run _ W = _
            rw [e0]
            exact run_string (P := Tryd.prog) W 31 5 9 Tryd.underlying31 Tryd.underlying5 Tryd.underlying9 _ ((enc D)) _ t0
          refine Steps.cons (step_value rfl fun xa W hp => ?_) ?_
          · have e0 : xa.tmps.getD 8 undef = .pointer (some ⟨B8, 0, none⟩) := hp.old 8 rfl
            exact ⟨(wanted_some rfl rfl rfl (hp.on_ 11 rfl rfl rfl).1 (hp.on_ 11 rfl rfl rfl).2), _, _, run_ldrow rfl e0 ((hp.below.block (B8) (Array.getElem?_eq_some_iff.1 HX8.out).1).trans HX8.out) Tryd.underlying27 rfl HSP.out, rfl, Below.refl _ _⟩
          refine Steps.cons (step_enter rfl fun xa W hp => ?_) ?_
          · have e0 : xa.tmps.getD 52 undef = .agg #[.slice u0 D.ins.length z0, .slice u1 D.outs.length z1, .slice u2 D.slots.length z2, .slice u3 D.mems.length z3, .slice u4 D.consts.length z4, .slice u5 D.code.length z5] := (hp.on_ 15 rfl rfl rfl).2
            refine ⟨(wanted_some rfl rfl rfl (hp.on_ 11 rfl rfl rfl).1 (hp.on_ 11 rfl rfl rfl).2), 15, _, run_enter1 rfl rfl Tryd.call15, ?_⟩
            show Calls _ _ #[xa.tmps.getD 52 undef] W _
            rw [e0]
            refine (rEncode_any D HDO.out HDS.out u0 u1 u2 u3 u4 u5 z0 z1 z2 z3 z4 z5 W (HR9.out.below hp.below)).mono ?_
            rintro e W' ⟨ae, ce, he, hte, _, _, hbe⟩
            exact ⟨_, he, ⟨ae, ce, rfl, own_txt hte⟩, hbe⟩
          refine Steps.cons (step_value rfl fun xa W hp => ?_) ?_
          · obtain ⟨a0, c0, e0, t0⟩ : wE14 (enc D) (xa.tmps.getD 53 undef) W := (hp.on_ 16 rfl rfl rfl).2
            refine ⟨(wanted_some rfl rfl rfl (hp.on_ 11 rfl rfl rfl).1 (hp.on_ 11 rfl rfl rfl).2), _, _, run_conv rfl (W' := W) (v := .string ⟨((enc D)).toArray⟩) ?_, rfl, Below.refl _ _⟩
            show (convert _ _ (xa.tmps.getD 53 undef)).run _ W = _
            rw [e0]
            exact run_string (P := Tryd.prog) W 31 5 9 Tryd.underlying31 Tryd.underlying5 Tryd.underlying9 _ ((enc D)) _ t0
          refine Steps.cons (step_value rfl fun xa W hp => ?_) ?_
          · have e0 : xa.tmps.getD 51 undef = .string ⟨((enc D)).toArray⟩ := (hp.on_ 14 rfl rfl rfl).2
            have e1 : xa.tmps.getD 54 undef = .string ⟨((enc D)).toArray⟩ := (hp.on_ 17 rfl rfl rfl).2
            refine ⟨(wanted_some rfl rfl rfl (hp.on_ 11 rfl rfl rfl).1 (hp.on_ 11 rfl rfl rfl).2), _, _, run_bin3 rfl (v := .bool true) ?_ ?_, rfl, Below.refl _ _⟩
            · show (eqGuard .eql _ _ _ (xa.tmps.getD 51 undef) (xa.tmps.getD 54 undef)).run _ W = _
              rw [e0, e1]; first | rfl | kernel_rfl | (simp [eqGuard]; done) | (unfold eqGuard; simp; done)
            · show (binOp .eql _ (xa.tmps.getD 51 undef) (xa.tmps.getD 54 undef)).run _ W = _
              rw [e0, e1]; first | rfl | ((rw [Go.binOp_string_eql]; simp [Lib.toList_data]))
          refine Steps.cons (step_value rfl fun xa W hp => ⟨(wanted_none rfl), _, _, run_pick rfl (hp.on_ 11 rfl rfl rfl).2, (hp.on_ 18 rfl rfl rfl).2, Below.refl _ _⟩) ?_
          refine Steps.cons (step_value rfl fun xa W hp => ⟨(wanted_none rfl), _, _, run_move (.inr rfl), (hp.on_ 19 rfl rfl rfl).2, Below.refl _ _⟩) ?_
          exact Steps.nil
        case rest2 =>
          intro act W hI
          have hbW := hI.below
          have h57 : act.tmps.getD 4 undef = .bool true := hI.new 20 _ 4 rfl rfl rfl
          obtain ⟨fo, hfo, hx⟩ := puts_of hI.tmps hI.defers hI.old [37, 38, 39, 40, 41, 42, 43, 44, 45, 46, 47, 48, 49, 50, 51, 52, 53, 54, 55, 56, 4] rfl
          rw [hfo] at h57
          have HBW := Lib.hid (HB9.out.trans (hbW.mono HB9.out.size))
          clear hI hfo hbW
          subst hx
          simp only [Exit.inBlock, Exit.then, List.foldl, Act.put, List.setIfInBounds_toArray, List.set_cons_succ, List.set_cons_zero]
          rw [h57]
          clear h57
          go_wp2_with fail
          go_ret
          exact ⟨rfl, HBW.out⟩
      · have e1 : en = 3 := by rw [HEN.out, if_neg hy]
        have e2 : decide (enc (decP L) = L) = false := decide_eq_false hy
        rw [e1, e2]
        clear e1 e2 hy
        go_upto_region 10 with fail
        rw [← HW9.out, ← HBB8.out]
        refine wp_region_steps (words [wIs (.bool false), wIs (.int .i64 3), wIs (.bool false), wIs (.bool true), wIs (.bool true), wIs (.bool false), wIs (.bool false), wIs (.int .i64 3), wIs (.bool true), wIs (.bool true), wIs (.bool true), wIs (.bool true), wIs (.agg #[.slice y0 D.ins.length d0, .slice y1 D.outs.length d1, .slice y2 D.slots.length d2, .slice y3 D.mems.length d3, .slice y4 D.consts.length d4, .slice y5 D.code.length d5]), wE14 (enc D), wIs (.string ⟨((enc D)).toArray⟩), wIs (.agg #[.slice u0 D.ins.length z0, .slice u1 D.outs.length z1, .slice u2 D.slots.length z2, .slice u3 D.mems.length z3, .slice u4 D.consts.length z4, .slice u5 D.code.length z5]), wE14 (enc D), wIs (.string ⟨((enc D)).toArray⟩), wIs (.bool true), wIs (.bool true), wIs (.bool true)]) W9.heap.size W9 (by kernel_rfl) (Below.refl _ _) (Nat.le_refl _) (words_stable ?stab) rfl rfl (by kernel_rfl) ?steps ?rest2
        case stab =>
          intro f hf
          simp only [List.mem_cons, List.not_mem_nil, or_false] at hf
          rcases hf with rfl | rfl | rfl | rfl | rfl | rfl | rfl | rfl | rfl | rfl | rfl | rfl | rfl | rfl | rfl | rfl | rfl | rfl | rfl | rfl | rfl <;> first | exact stable_is _ | exact stable_e14 _
        case steps =>
          refine Steps.cons (step_value rfl fun xa W hp => ⟨(wanted_none rfl), _, _, run_move (.inl rfl), hp.old 9 rfl, Below.refl _ _⟩) ?_
          refine Steps.cons (step_value rfl fun xa W hp => ⟨(wanted_none rfl), _, _, run_move (.inl rfl), hp.old 7 rfl, Below.refl _ _⟩) ?_
          refine Steps.cons (step_value rfl fun xa W hp => ?_) ?_
          · have e0 : xa.tmps.getD 38 undef = .int .i64 3 := (hp.on_ 1 rfl rfl rfl).2
            refine ⟨(wanted_none rfl), _, _, run_bin3 rfl (v := .bool false) ?_ ?_, rfl, Below.refl _ _⟩
            · show (eqGuard .eql _ _ _ (xa.tmps.getD 38 undef) (.int .i64 0)).run _ W = _
              rw [e0]; first | rfl | kernel_rfl | (simp [eqGuard]; done) | (unfold eqGuard; simp; done)
            · show (binOp .eql _ (xa.tmps.getD 38 undef) (.int .i64 0)).run _ W = _
              rw [e0]; first | rfl | (rfl)
          refine Steps.cons (step_value rfl fun xa W hp => ?_) ?_
          · have e0 : xa.tmps.getD 37 undef = .bool false := (hp.on_ 0 rfl rfl rfl).2
            have e1 : xa.tmps.getD 39 undef = .bool false := (hp.on_ 2 rfl rfl rfl).2
            refine ⟨(wanted_none rfl), _, _, run_bin3 rfl (v := .bool true) ?_ ?_, rfl, Below.refl _ _⟩
            · show (eqGuard .eql _ _ _ (xa.tmps.getD 37 undef) (xa.tmps.getD 39 undef)).run _ W = _
              rw [e0, e1]; first | rfl | kernel_rfl | (simp [eqGuard]; done) | (unfold eqGuard; simp; done)
            · show (binOp .eql _ (xa.tmps.getD 37 undef) (xa.tmps.getD 39 undef)).run _ W = _
              rw [e0, e1]; first | rfl | (rfl)
          refine Steps.cons (step_value rfl fun xa W hp => ⟨(wanted_none rfl), _, _, run_move (.inl rfl), (hp.on_ 3 rfl rfl rfl).2, Below.refl _ _⟩) ?_
          refine Steps.cons (step_value rfl fun xa W hp => ⟨(wanted_some rfl rfl rfl (hp.on_ 4 rfl rfl rfl).1 (hp.on_ 4 rfl rfl rfl).2), _, _, run_move (.inl rfl), hp.old 9 rfl, Below.refl _ _⟩) ?_
          refine Steps.cons (step_value rfl fun xa W hp => ⟨(wanted_some rfl rfl rfl (hp.on_ 4 rfl rfl rfl).1 (hp.on_ 4 rfl rfl rfl).2), _, _, run_move (.inl rfl), (hp.on_ 5 rfl rfl rfl).2, Below.refl _ _⟩) ?_
          refine Steps.cons (step_value rfl fun xa W hp => ⟨(wanted_some0 rfl rfl rfl (hp.on_ 6 rfl rfl rfl).1 (hp.on_ 6 rfl rfl rfl).2), _, _, run_move (.inl rfl), hp.old 7 rfl, Below.refl _ _⟩) ?_
          refine Steps.cons (step_value rfl fun xa W hp => ?_) ?_
          · have e0 : xa.tmps.getD 44 undef = .int .i64 3 := (hp.on_ 7 rfl rfl rfl).2
            refine ⟨(wanted_some0 rfl rfl rfl (hp.on_ 6 rfl rfl rfl).1 (hp.on_ 6 rfl rfl rfl).2), _, _, run_bin3 rfl (v := .bool true) ?_ ?_, rfl, Below.refl _ _⟩
            · show (eqGuard .eql _ _ _ (xa.tmps.getD 44 undef) (.int .i64 3)).run _ W = _
              rw [e0]; first | rfl | kernel_rfl | (simp [eqGuard]; done) | (unfold eqGuard; simp; done)
            · show (binOp .eql _ (xa.tmps.getD 44 undef) (.int .i64 3)).run _ W = _
              rw [e0]; first | rfl | (rfl)
          refine Steps.cons (step_value rfl fun xa W hp => ⟨(wanted_some rfl rfl rfl (hp.on_ 4 rfl rfl rfl).1 (hp.on_ 4 rfl rfl rfl).2), _, _, run_pick0 rfl (hp.on_ 6 rfl rfl rfl).2, (hp.on_ 8 rfl rfl rfl).2, Below.refl _ _⟩) ?_
          refine Steps.cons (step_value rfl fun xa W hp => ⟨(wanted_none rfl), _, _, run_pick rfl (hp.on_ 4 rfl rfl rfl).2, (hp.on_ 9 rfl rfl rfl).2, Below.refl _ _⟩) ?_
          refine Steps.cons (step_value rfl fun xa W hp => ⟨(wanted_none rfl), _, _, run_move (.inl rfl), (hp.on_ 10 rfl rfl rfl).2, Below.refl _ _⟩) ?_
          refine Steps.cons (step_value rfl fun xa W hp => ?_) ?_
          · have e0 : xa.tmps.getD 6 undef = .pointer (some ⟨B6, 0, none⟩) := hp.old 6 rfl
            exact ⟨(wanted_some rfl rfl rfl (hp.on_ 11 rfl rfl rfl).1 (hp.on_ 11 rfl rfl rfl).2), _, _, run_ldrow rfl e0 ((hp.below.block (B6) (Array.getElem?_eq_some_iff.1 HX6.out).1).trans HX6.out) Tryd.underlying27 rfl HSP.out, rfl, Below.refl _ _⟩
          refine Steps.cons (step_enter rfl fun xa W hp => ?_) ?_
          · have e0 : xa.tmps.getD 49 undef = .agg #[.slice y0 D.ins.length d0, .slice y1 D.outs.length d1, .slice y2 D.slots.length d2, .slice y3 D.mems.length d3, .slice y4 D.consts.length d4, .slice y5 D.code.length d5] := (hp.on_ 12 rfl rfl rfl).2
            refine ⟨(wanted_some rfl rfl rfl (hp.on_ 11 rfl rfl rfl).1 (hp.on_ 11 rfl rfl rfl).2), 15, _, run_enter1 rfl rfl Tryd.call15, ?_⟩
            show Calls _ _ #[xa.tmps.getD 49 undef] W _
            rw [e0]
            refine (rEncode_any D HDO.out HDS.out y0 y1 y2 y3 y4 y5 d0 d1 d2 d3 d4 d5 W (HQ9.out.below hp.below)).mono ?_
            rintro e W' ⟨ae, ce, he, hte, _, _, hbe⟩
            exact ⟨_, he, ⟨ae, ce, rfl, own_txt hte⟩, hbe⟩
          refine Steps.cons (step_value rfl fun xa W hp => ?_) ?_
          · obtain ⟨a0, c0, e0, t0⟩ : wE14 (enc D) (xa.tmps.getD 50 undef) W := (hp.on_ 13 rfl rfl rfl).2
            refine ⟨(wanted_some rfl rfl rfl (hp.on_ 11 rfl rfl rfl).1 (hp.on_ 11 rfl rfl rfl).2), _, _, run_conv rfl (W' := W) (v := .string ⟨((enc D)).toArray⟩) ?_, rfl, Below.refl _ _⟩
            show (convert _ _ (xa.tmps.getD 50 undef)).run _ W = _
            rw [e0]
            exact run_string (P := Tryd.prog) W 31 5 9 Tryd.underlying31 Tryd.underlying5 Tryd.underlying9 _ ((enc D)) _ t0
          refine Steps.cons (step_value rfl fun xa W hp => ?_) ?_
          · have e0 : xa.tmps.getD 8 undef = .pointer (some ⟨B8, 0, none⟩) := hp.old 8 rfl
            exact ⟨(wanted_some rfl rfl rfl (hp.on_ 11 rfl rfl rfl).1 (hp.on_ 11 rfl rfl rfl).2), _, _, run_ldrow rfl e0 ((hp.below.block (B8) (Array.getElem?_eq_some_iff.1 HX8.out).1).trans HX8.out) Tryd.underlying27 rfl HSP.out, rfl, Below.refl _ _⟩
          refine Steps.cons (step_enter rfl fun xa W hp => ?_) ?_
          · have e0 : xa.tmps.getD 52 undef = .agg #[.slice u0 D.ins.length z0, .slice u1 D.outs.length z1, .slice u2 D.slots.length z2, .slice u3 D.mems.length z3, .slice u4 D.consts.length z4, .slice u5 D.code.length z5] := (hp.on_ 15 rfl rfl rfl).2
            refine ⟨(wanted_some rfl rfl rfl (hp.on_ 11 rfl rfl rfl).1 (hp.on_ 11 rfl rfl rfl).2), 15, _, run_enter1 rfl rfl Tryd.call15, ?_⟩
            show Calls _ _ #[xa.tmps.getD 52 undef] W _
            rw [e0]
            refine (rEncode_any D HDO.out HDS.out u0 u1 u2 u3 u4 u5 z0 z1 z2 z3 z4 z5 W (HR9.out.below hp.below)).mono ?_
            rintro e W' ⟨ae, ce, he, hte, _, _, hbe⟩
            exact ⟨_, he, ⟨ae, ce, rfl, own_txt hte⟩, hbe⟩
          refine Steps.cons (step_value rfl fun xa W hp => ?_) ?_
          · obtain ⟨a0, c0, e0, t0⟩ : wE14 (enc D) (xa.tmps.getD 53 undef) W := (hp.on_ 16 rfl rfl rfl).2
            refine ⟨(wanted_some rfl rfl rfl (hp.on_ 11 rfl rfl rfl).1 (hp.on_ 11 rfl rfl rfl).2), _, _, run_conv rfl (W' := W) (v := .string ⟨((enc D)).toArray⟩) ?_, rfl, Below.refl _ _⟩
            show (convert _ _ (xa.tmps.getD 53 undef)).run _ W = _
            rw [e0]
            exact run_string (P := Tryd.prog) W 31 5 9 Tryd.underlying31 Tryd.underlying5 Tryd.underlying9 _ ((enc D)) _ t0
          refine Steps.cons (step_value rfl fun xa W hp => ?_) ?_
          · have e0 : xa.tmps.getD 51 undef = .string ⟨((enc D)).toArray⟩ := (hp.on_ 14 rfl rfl rfl).2
            have e1 : xa.tmps.getD 54 undef = .string ⟨((enc D)).toArray⟩ := (hp.on_ 17 rfl rfl rfl).2
            refine ⟨(wanted_some rfl rfl rfl (hp.on_ 11 rfl rfl rfl).1 (hp.on_ 11 rfl rfl rfl).2), _, _, run_bin3 rfl (v := .bool true) ?_ ?_, rfl, Below.refl _ _⟩
            · show (eqGuard .eql _ _ _ (xa.tmps.getD 51 undef) (xa.tmps.getD 54 undef)).run _ W = _
              rw [e0, e1]; first | rfl | kernel_rfl | (simp [eqGuard]; done) | (unfold eqGuard; simp; done)
            · show (binOp .eql _ (xa.tmps.getD 51 undef) (xa.tmps.getD 54 undef)).run _ W = _
              rw [e0, e1]; first | rfl | ((rw [Go.binOp_string_eql]; simp [Lib.toList_data]))
          refine Steps.cons (step_value rfl fun xa W hp => ⟨(wanted_none rfl), _, _, run_pick rfl (hp.on_ 11 rfl rfl rfl).2, (hp.on_ 18 rfl rfl rfl).2, Below.refl _ _⟩) ?_
          refine Steps.cons (step_value rfl fun xa W hp => ⟨(wanted_none rfl), _, _, run_move (.inr rfl), (hp.on_ 19 rfl rfl rfl).2, Below.refl _ _⟩) ?_
          exact Steps.nil
        case rest2 =>
          intro act W hI
          have hbW := hI.below
          have h57 : act.tmps.getD 4 undef = .bool true := hI.new 20 _ 4 rfl rfl rfl
          obtain ⟨fo, hfo, hx⟩ := puts_of hI.tmps hI.defers hI.old [37, 38, 39, 40, 41, 42, 43, 44, 45, 46, 47, 48, 49, 50, 51, 52, 53, 54, 55, 56, 4] rfl
          rw [hfo] at h57
          have HBW := Lib.hid (HB9.out.trans (hbW.mono HB9.out.size))
          clear hI hfo hbW
          subst hx
          simp only [Exit.inBlock, Exit.then, List.foldl, Act.put, List.setIfInBounds_toArray, List.set_cons_succ, List.set_cons_zero]
          rw [h57]
          clear h57
          go_wp2_with fail
          go_ret
          exact ⟨rfl, HBW.out⟩
    | true =>
      have kc := rCrc_any a_b b.length c_b b w2 rfl HTB2.out (by have := HLb.out; unfold maxLen; omega)
      have hcl := crc_lt b
      have kl : Calls Tryd.prog 18 #[.int .u64 (crc b), .int .i64 4] w2 (fun e w' => e = .returned (.slice (some ⟨w2.heap.size, 0, none⟩) 4 4) ∧ Blk w' w2.heap.size (low 4 (crc b)) ∧ Below w2.heap.size w2 w') := rLow_any (crc b) 4 w2 (by omega) (by decide) (by decide)
      go_upto_region 7 with fail
      go_wp2_with fail
      (with_reducible refine kc.mono ?_)
      rintro e w3 ⟨rfl, rfl⟩
      clear kc
      go_wp2_with fail
      (with_reducible refine kl.mono ?_)
      rintro e w4 ⟨rfl, hBk, hb⟩
      clear kl
      have HO4 := Lib.hid (own_below HO2.out hb)
      have HTL := Lib.hid hBk.txt
      have HS4 := Lib.hid hb.size
      have HBL := Lib.hid hb
      clear hBk hb hcl
      go_wp2_with (at_builtin; refine wpList_append_txt _ rfl (.tmp 19) (.tmp 23) 31 rfl w1.heap.size 5 i0 Tryd.underlying31 HIN.out.1 HIN.out.2.1 HIN.out.2.2.1 HIN.out.2.2.2 _ b.length (Lib.byteCells b) rfl HO4.out _ _ (low 4 (crc b)) rfl HTL.out ?c1 ?c2 ?_)
      case c1 => rw [low_length]; have := HLb.out; omega
      case c2 => exact Nat.le_trans HS12.out HS4.out
      intro v5 w5 hown5 hgr5
      have hlt := World.ownsRow.lt HO4.out
      have hown6 : w5.ownsRow w1.heap.size 5 1 v5 (b ++ low 4 (crc b)).length (Lib.byteCells (b ++ low 4 (crc b))) := by rw [List.length_append, Lib.byteCells_append]; exact hown5
      have hb15 : Below w1.heap.size w1 w5 := (HB12.out.trans (HBL.out.mono HS12.out)).grown hgr5 (Nat.le_trans HS12.out HS4.out) (fun k hk => (hlt k hk).1)
      obtain ⟨ac, cc, e5, h5, hc5, hm5, _⟩ := givesO_of ⟨v5, rfl, hown6, hb15⟩
      injection e5 with e5
      subst e5
      obtain ⟨L, hL⟩ : ∃ L, L = b ++ low 4 (crc b) := ⟨_, rfl⟩
      rw [← hL] at h5 hc5 ⊢
      have hLl : L.length ≤ 3004 := by rw [hL, List.length_append, low_length]; have := HLb.out; omega
      obtain ⟨wc, hwc⟩ : ∃ wc : World, wc = w5 := ⟨_, rfl⟩
      have HTc : Hid (Txt wc ac L) := Lib.hid (by rw [hwc]; exact own_txt h5)
      have HBc : Hid (Below w.heap.size w wc) := Lib.hid (by rw [hwc]; exact HB1.out.trans (hb15.mono HB1.out.size))
      have HCc : Hid (L.length ≤ cc ∧ cc ≤ maxLen) := Lib.hid ⟨hc5, hm5⟩
      have HLl := Lib.hid hLl
      rw [← hwc]
      clear hwc HO2 HC2 hL hLl hown5 hown6 hgr5 hb15 h5 hc5 hm5 hlt
      go_upto_region 8 with fail
      have be : ∀ W : World, (Instr.buildSlice 31 0 #[]).run Tryd.prog W = .ok (.slice (some ⟨W.heap.size, 0, none⟩) 0 0) (W.alloc (.cells #[] 5)) := fun W => by kernel_rfl
      have HTA := Lib.hid (HTc.out.below ((Below.refl wc.heap.size wc).alloc (Nat.le_refl _) (.cells #[] 5)))
      go_wp2_with (at_builtin; refine wpList_append_txt _ rfl (.tmp 26) (.tmp 27) 31 rfl wc.heap.size 5 i0 Tryd.underlying31 HIN.out.1 HIN.out.2.1 HIN.out.2.2.1 HIN.out.2.2.2 _ 0 [] rfl (own_empty wc _ _ (Nat.le_refl _)) ac cc L rfl HTA.out ?c1 ?c2 ?_)
      case c1 => have := HLl.out; omega
      case c2 => simp
      intro v4 w4 hown4 hgr4
      have hb34 : Below wc.heap.size wc w4 := ((Below.refl _ _).alloc (Nat.le_refl _) _).grown hgr4 (by simp) (by intro k hk; simp [Value.ownBlock] at hk; omega)
      have hown5 : w4.ownsRow wc.heap.size 5 1 v4 L.length (Lib.byteCells L) := by simpa using hown4
      obtain ⟨ae4, ce4, e4, h4, hc4, hm4, _⟩ := givesO_of ⟨v4, rfl, hown5, hb34⟩
      injection e4 with e4
      subst e4
      have HB4 := Lib.hid (HBc.out.trans (hb34.mono HBc.out.size))
      have HT4 := Lib.hid (HTc.out.below hb34)
      have kd := HK.out.dec L ae4 ce4 w4 (HK.out.keep _ _ HT.out HB4.out) (own_txt h4) hc4 hm4 (by have := HLl.out; omega)
      clear be hown4 hown5 hgr4 hb34 h4 hc4 hm4
      go_wp2_with fail
      (with_reducible refine kd.mono ?_)
      rintro e w5 ⟨y0, y1, y2, y3, y4, y5, d0, d1, d2, d3, d4, d5, rfl, hq, hb5⟩
      clear kd
      obtain ⟨D, hD⟩ : ∃ D, D = decR L := ⟨_, rfl⟩
      rw [← hD] at hq ⊢
      have epv : pgV D y0 y1 y2 y3 y4 y5 d0 d1 d2 d3 d4 d5 = .agg #[.slice y0 D.ins.length d0, .slice y1 D.outs.length d1, .slice y2 D.slots.length d2, .slice y3 D.mems.length d3, .slice y4 D.consts.length d4, .slice y5 D.code.length d5] := rfl
      rw [epv]
      obtain ⟨en, hen⟩ : ∃ en : Int, en = (if enc (decP L) = L then 0 else 3) := ⟨_, rfl⟩
      rw [← hen]
      have HEN := Lib.hid hen
      have HD := Lib.hid hD
      obtain ⟨W6, hW6⟩ : ∃ W6, W6 = w5.alloc (.cells #[.slice y0 D.ins.length d0, .slice y1 D.outs.length d1, .slice y2 D.slots.length d2, .slice y3 D.mems.length d3, .slice y4 D.consts.length d4, .slice y5 D.code.length d5] 27) := ⟨_, rfl⟩
      obtain ⟨B6, hB6⟩ : ∃ B, B = w5.heap.size := ⟨_, rfl⟩
      have k6 := heap_alloc_new w5 (.cells #[.slice y0 D.ins.length d0, .slice y1 D.outs.length d1, .slice y2 D.slots.length d2, .slice y3 D.mems.length d3, .slice y4 D.consts.length d4, .slice y5 D.code.length d5] 27)
      have a56 : Below w5.heap.size w5 W6 := by rw [hW6]; exact (Below.refl _ _).alloc (Nat.le_refl _) _
      rw [← hW6, ← hB6] at k6
      have HX6a := Lib.hid k6
      have b46 : Below w4.heap.size w4 W6 := hb5.trans (a56.mono hb5.size)
      have HQ6 := Lib.hid (hq.below a56)
      have HB6 := Lib.hid (HB4.out.trans (b46.mono HB4.out.size))
      have HT6 := Lib.hid (HT4.out.below b46)
      have HW6 := Lib.hid hW6
      have HBB6 := Lib.hid hB6
      have kr := rDecode_any L ac cc W6 HT6.out HCc.out.1 HCc.out.2 (by have := HLl.out; omega)
      clear hD hq epv hen hW6 hB6 k6 a56 b46 hb5
      go_upto_region 9 with fail
      rw [← HW6.out, ← HBB6.out]
      go_wp2_with fail
      (with_reducible refine kr.mono ?_)
      rintro e w7 ⟨u0, u1, u2, u3, u4, u5, z0, z1, z2, z3, z4, z5, rfl, hr, hb7⟩
      clear kr
      rw [← HD.out] at hr ⊢
      have epv : pgV D u0 u1 u2 u3 u4 u5 z0 z1 z2 z3 z4 z5 = .agg #[.slice u0 D.ins.length z0, .slice u1 D.outs.length z1, .slice u2 D.slots.length z2, .slice u3 D.mems.length z3, .slice u4 D.consts.length z4, .slice u5 D.code.length z5] := rfl
      rw [epv]
      obtain ⟨W9, hW9⟩ : ∃ W9, W9 = w7.alloc (.cells #[.slice u0 D.ins.length z0, .slice u1 D.outs.length z1, .slice u2 D.slots.length z2, .slice u3 D.mems.length z3, .slice u4 D.consts.length z4, .slice u5 D.code.length z5] 27) := ⟨_, rfl⟩
      obtain ⟨B8, hB8⟩ : ∃ B, B = w7.heap.size := ⟨_, rfl⟩
      have k8 := heap_alloc_new w7 (.cells #[.slice u0 D.ins.length z0, .slice u1 D.outs.length z1, .slice u2 D.slots.length z2, .slice u3 D.mems.length z3, .slice u4 D.consts.length z4, .slice u5 D.code.length z5] 27)
      have a79 : Below w7.heap.size w7 W9 := by rw [hW9]; exact (Below.refl _ _).alloc (Nat.le_refl _) _
      rw [← hW9, ← hB8] at k8
      have HX8 := Lib.hid k8
      have b69 : Below W6.heap.size W6 W9 := hb7.trans (a79.mono hb7.size)
      have HX6 := Lib.hid ((b69.block B6 (Array.getElem?_eq_some_iff.1 HX6a.out).1).trans HX6a.out)
      have HQ9 := Lib.hid (HQ6.out.below b69)
      have HR9 := Lib.hid (hr.below a79)
      have HB9 := Lib.hid (HB6.out.trans (b69.mono HB6.out.size))
      have HDO : Hid D.ok := Lib.hid (by rw [HD.out]; exact decR_ok L)
      have HDS : Hid (D.sum ≤ 1000000000) := Lib.hid (by rw [HD.out]; have := decR_sum L; have := HLl.out; omega)
      have HSP := Lib.hid size_prog
      have HW9 := Lib.hid hW9
      have HBB8 := Lib.hid hB8
      clear hr epv hW9 hB8 k8 a79 b69 hb7
      by_cases hy : enc (decP L) = L
      · have e1 : en = 0 := by rw [HEN.out, if_pos hy]
        have e2 : decide (enc (decP L) = L) = true := decide_eq_true hy
        rw [e1, e2]
        clear e1 e2 hy
        go_upto_region 10 with fail
        rw [← HW9.out, ← HBB8.out]
        refine wp_region_steps (words [wIs (.bool true), wIs (.int .i64 0), wIs (.bool true), wIs (.bool true), wIs (.bool true), wIs (.bool true), wIs (.bool true), wIs undef, wIs undef, wIs (.bool true), wIs (.bool true), wIs (.bool true), wIs (.agg #[.slice y0 D.ins.length d0, .slice y1 D.outs.length d1, .slice y2 D.slots.length d2, .slice y3 D.mems.length d3, .slice y4 D.consts.length d4, .slice y5 D.code.length d5]), wE14 (enc D), wIs (.string ⟨((enc D)).toArray⟩), wIs (.agg #[.slice u0 D.ins.length z0, .slice u1 D.outs.length z1, .slice u2 D.slots.length z2, .slice u3 D.mems.length z3, .slice u4 D.consts.length z4, .slice u5 D.code.length z5]), wE14 (enc D), wIs (.string ⟨((enc D)).toArray⟩), wIs (.bool true), wIs (.bool true), wIs (.bool true)]) W9.heap.size W9 (by kernel_rfl) (Below.refl _ _) (Nat.le_refl _) (words_stable ?stab) rfl rfl (by kernel_rfl) ?steps ?rest2
        case stab =>
          intro f hf
          simp only [List.mem_cons, List.not_mem_nil, or_false] at hf
          rcases hf with rfl | rfl | rfl | rfl | rfl | rfl | rfl | rfl | rfl | rfl | rfl | rfl | rfl | rfl | rfl | rfl | rfl | rfl | rfl | rfl | rfl <;> first | exact stable_is _ | exact stable_e14 _
        case steps =>
          refine Steps.cons (step_value rfl fun xa W hp => ⟨(wanted_none rfl), _, _, run_move (.inl rfl), hp.old 9 rfl, Below.refl _ _⟩) ?_
          refine Steps.cons (step_value rfl fun xa W hp => ⟨(wanted_none rfl), _, _, run_move (.inl rfl), hp.old 7 rfl, Below.refl _ _⟩) ?_
          refine Steps.cons (step_value rfl fun xa W hp => ?_) ?_
          · have e0 : xa.tmps.getD 38 undef = .int .i64 0 := (hp.on_ 1 rfl rfl rfl).2
            refine ⟨(wanted_none rfl), _, _, run_bin3 rfl (v := .bool true) ?_ ?_, rfl, Below.refl _ _⟩
            · show (eqGuard .eql _ _ _ (xa.tmps.getD 38 undef) (.int .i64 0)).run _ W = _
              rw [e0]; first | rfl | kernel_rfl | (simp [eqGuard]; done) | (unfold eqGuard; simp; done)
            · show (binOp .eql _ (xa.tmps.getD 38 undef) (.int .i64 0)).run _ W = _
              rw [e0]; first | rfl | (rfl)
          refine Steps.cons (step_value rfl fun xa W hp => ?_) ?_
          · have e0 : xa.tmps.getD 37 undef = .bool true := (hp.on_ 0 rfl rfl rfl).2
            have e1 : xa.tmps.getD 39 undef = .bool true := (hp.on_ 2 rfl rfl rfl).2
            refine ⟨(wanted_none rfl), _, _, run_bin3 rfl (v := .bool true) ?_ ?_, rfl, Below.refl _ _⟩
            · show (eqGuard .eql _ _ _ (xa.tmps.getD 37 undef) (xa.tmps.getD 39 undef)).run _ W = _
              rw [e0, e1]; first | rfl | kernel_rfl | (simp [eqGuard]; done) | (unfold eqGuard; simp; done)
            · show (binOp .eql _ (xa.tmps.getD 37 undef) (xa.tmps.getD 39 undef)).run _ W = _
              rw [e0, e1]; first | rfl | (rfl)
          refine Steps.cons (step_value rfl fun xa W hp => ⟨(wanted_none rfl), _, _, run_move (.inl rfl), (hp.on_ 3 rfl rfl rfl).2, Below.refl _ _⟩) ?_
          refine Steps.cons (step_value rfl fun xa W hp => ⟨(wanted_some rfl rfl rfl (hp.on_ 4 rfl rfl rfl).1 (hp.on_ 4 rfl rfl rfl).2), _, _, run_move (.inl rfl), hp.old 9 rfl, Below.refl _ _⟩) ?_
          refine Steps.cons (step_value rfl fun xa W hp => ⟨(wanted_some rfl rfl rfl (hp.on_ 4 rfl rfl rfl).1 (hp.on_ 4 rfl rfl rfl).2), _, _, run_move (.inl rfl), (hp.on_ 5 rfl rfl rfl).2, Below.refl _ _⟩) ?_
          refine Steps.cons (step_skip rfl fun xa W hp => ⟨unwanted_somef rfl rfl rfl (hp.on_ 6 rfl rfl rfl).1 (hp.on_ 6 rfl rfl rfl).2, rfl⟩) ?_
          refine Steps.cons (step_skip rfl fun xa W hp => ⟨unwanted_somef rfl rfl rfl (hp.on_ 6 rfl rfl rfl).1 (hp.on_ 6 rfl rfl rfl).2, rfl⟩) ?_
          refine Steps.cons (step_value rfl fun xa W hp => ⟨(wanted_some rfl rfl rfl (hp.on_ 4 rfl rfl rfl).1 (hp.on_ 4 rfl rfl rfl).2), _, _, run_pick rfl (hp.on_ 6 rfl rfl rfl).2, rfl, Below.refl _ _⟩) ?_
          refine Steps.cons (step_value rfl fun xa W hp => ⟨(wanted_none rfl), _, _, run_pick rfl (hp.on_ 4 rfl rfl rfl).2, (hp.on_ 9 rfl rfl rfl).2, Below.refl _ _⟩) ?_
          refine Steps.cons (step_value rfl fun xa W hp => ⟨(wanted_none rfl), _, _, run_move (.inl rfl), (hp.on_ 10 rfl rfl rfl).2, Below.refl _ _⟩) ?_
          refine Steps.cons (step_value rfl fun xa W hp => ?_) ?_
          · have e0 : xa.tmps.getD 6 undef = .pointer (some ⟨B6, 0, none⟩) := hp.old 6 rfl
            exact ⟨(wanted_some rfl rfl rfl (hp.on_ 11 rfl rfl rfl).1 (hp.on_ 11 rfl rfl rfl).2), _, _, run_ldrow rfl e0 ((hp.below.block (B6) (Array.getElem?_eq_some_iff.1 HX6.out).1).trans HX6.out) Tryd.underlying27 rfl HSP.out, rfl, Below.refl _ _⟩
          refine Steps.cons (step_enter rfl fun xa W hp => ?_) ?_
          · have e0 : xa.tmps.getD 49 undef = .agg #[.slice y0 D.ins.length d0, .slice y1 D.outs.length d1, .slice y2 D.slots.length d2, .slice y3 D.mems.length d3, .slice y4 D.consts.length d4, .slice y5 D.code.length d5] := (hp.on_ 12 rfl rfl rfl).2
            refine ⟨(wanted_some rfl rfl rfl (hp.on_ 11 rfl rfl rfl).1 (hp.on_ 11 rfl rfl rfl).2), 15, _, run_enter1 rfl rfl Tryd.call15, ?_⟩
            show Calls _ _ #[xa.tmps.getD 49 undef] W _
            rw [e0]
            refine (rEncode_any D HDO.out HDS.out y0 y1 y2 y3 y4 y5 d0 d1 d2 d3 d4 d5 W (HQ9.out.below hp.below)).mono ?_
            rintro e W' ⟨ae, ce, he, hte, _, _, hbe⟩
            exact ⟨_, he, ⟨ae, ce, rfl, own_txt hte⟩, hbe⟩
          refine Steps.cons (step_value rfl fun xa W hp => ?_) ?_
          · obtain ⟨a0, c0, e0, t0⟩ : wE14 (enc D) (xa.tmps.getD 50 undef) W := (hp.on_ 13 rfl rfl rfl).2
            refine ⟨(wanted_some rfl rfl rfl (hp.on_ 11 rfl rfl rfl).1 (hp.on_ 11 rfl rfl rfl).2), _, _, run_conv rfl (W' := W) (v := .string ⟨((enc D)).toArray⟩) ?_, rfl, Below.refl _ _⟩
            show (convert _ _ (xa.tmps.getD 50 undef)).run _ W = _
            rw [e0]
            exact run_string (P := Tryd.prog) W 31 5 9 Tryd.underlying31 Tryd.underlying5 Tryd.underlying9 _ ((enc D)) _ t0
          refine Steps.cons (step_value rfl fun xa W hp => ?_) ?_
          · have e0 : xa.tmps.getD 8 undef = .pointer (some ⟨B8, 0, none⟩) := hp.old 8 rfl
            exact ⟨(wanted_some rfl rfl rfl (hp.on_ 11 rfl rfl rfl).1 (hp.on_ 11 rfl rfl rfl).2), _, _, run_ldrow rfl e0 ((hp.below.block (B8) (Array.getElem?_eq_some_iff.1 HX8.out).1).trans HX8.out) Tryd.underlying27 rfl HSP.out, rfl, Below.refl _ _⟩
          refine Steps.cons (step_enter rfl fun xa W hp => ?_) ?_
          · have e0 : xa.tmps.getD 52 undef = .agg #[.slice u0 D.ins.length z0, .slice u1 D.outs.length z1, .slice u2 D.slots.length z2, .slice u3 D.mems.length z3, .slice u4 D.consts.length z4, .slice u5 D.code.length z5] := (hp.on_ 15 rfl rfl rfl).2
            refine ⟨(wanted_some rfl rfl rfl (hp.on_ 11 rfl rfl rfl).1 (hp.on_ 11 rfl rfl rfl).2), 15, _, run_enter1 rfl rfl Tryd.call15, ?_⟩
            show Calls _ _ #[xa.tmps.getD 52 undef] W _
            rw [e0]
            refine (rEncode_any D HDO.out HDS.out u0 u1 u2 u3 u4 u5 z0 z1 z2 z3 z4 z5 W (HR9.out.below hp.below)).mono ?_
            rintro e W' ⟨ae, ce, he, hte, _, _, hbe⟩
            exact ⟨_, he, ⟨ae, ce, rfl, own_txt hte⟩, hbe⟩
          refine Steps.cons (step_value rfl fun xa W hp => ?_) ?_
          · obtain ⟨a0, c0, e0, t0⟩ : wE14 (enc D) (xa.tmps.getD 53 undef) W := (hp.on_ 16 rfl rfl rfl).2
            refine ⟨(wanted_some rfl rfl rfl (hp.on_ 11 rfl rfl rfl).1 (hp.on_ 11 rfl rfl rfl).2), _, _, run_conv rfl (W' := W) (v := .string ⟨((enc D)).toArray⟩) ?_, rfl, Below.refl _ _⟩
            show (convert _ _ (xa.tmps.getD 53 undef)).run _ W = _
            rw [e0]
            exact run_string (P := Tryd.prog) W 31 5 9 Tryd.underlying31 Tryd.underlying5 Tryd.underlying9 _ ((enc D)) _ t0
          refine Steps.cons (step_value rfl fun xa W hp => ?_) ?_
          · have e0 : xa.tmps.getD 51 undef = .string ⟨((enc D)).toArray⟩ := (hp.on_ 14 rfl rfl rfl).2
            have e1 : xa.tmps.getD 54 undef = .string ⟨((enc D)).toArray⟩ := (hp.on_ 17 rfl rfl rfl).2
            refine ⟨(wanted_some rfl rfl rfl (hp.on_ 11 rfl rfl rfl).1 (hp.on_ 11 rfl rfl rfl).2), _, _, run_bin3 rfl (v := .bool true) ?_ ?_, rfl, Below.refl _ _⟩
            · show (eqGuard .eql _ _ _ (xa.tmps.getD 51 undef) (xa.tmps.getD 54 undef)).run _ W = _
              rw [e0, e1]; first | rfl | kernel_rfl | (simp [eqGuard]; done) | (unfold eqGuard; simp; done)
            · show (binOp .eql _ (xa.tmps.getD 51 undef) (xa.tmps.getD 54 undef)).run _ W = _
              rw [e0, e1]; first | rfl | ((rw [Go.binOp_string_eql]; simp [Lib.toList_data]))
          refine Steps.cons (step_value rfl fun xa W hp => ⟨(wanted_none rfl), _, _, run_pick rfl (hp.on_ 11 rfl rfl rfl).2, (hp.on_ 18 rfl rfl rfl).2, Below.refl _ _⟩) ?_
          refine Steps.cons (step_value rfl fun xa W hp => ⟨(wanted_none rfl), _, _, run_move (.inr rfl), (hp.on_ 19 rfl rfl rfl).2, Below.refl _ _⟩) ?_
          exact Steps.nil
        case rest2 =>
          intro act W hI
          have hbW := hI.below
          have h57 : act.tmps.getD 4 undef = .bool true := hI.new 20 _ 4 rfl rfl rfl
          obtain ⟨fo, hfo, hx⟩ := puts_of hI.tmps hI.defers hI.old [37, 38, 39, 40, 41, 42, 43, 44, 45, 46, 47, 48, 49, 50, 51, 52, 53, 54, 55, 56, 4] rfl
          rw [hfo] at h57
          have HBW := Lib.hid (HB9.out.trans (hbW.mono HB9.out.size))
          clear hI hfo hbW
          subst hx
          simp only [Exit.inBlock, Exit.then, List.foldl, Act.put, List.setIfInBounds_toArray, List.set_cons_succ, List.set_cons_zero]
          rw [h57]
          clear h57
          go_wp2_with fail
          go_ret
          exact ⟨rfl, HBW.out⟩
      · have e1 : en = 3 := by rw [HEN.out, if_neg hy]
        have e2 : decide (enc (decP L) = L) = false := decide_eq_false hy
        rw [e1, e2]
        clear e1 e2 hy
        go_upto_region 10 with fail
        rw [← HW9.out, ← HBB8.out]
        refine wp_region_steps (words [wIs (.bool false), wIs (.int .i64 3), wIs (.bool false), wIs (.bool true), wIs (.bool true), wIs (.bool false), wIs (.bool false), wIs (.int .i64 3), wIs (.bool true), wIs (.bool true), wIs (.bool true), wIs (.bool true), wIs (.agg #[.slice y0 D.ins.length d0, .slice y1 D.outs.length d1, .slice y2 D.slots.length d2, .slice y3 D.mems.length d3, .slice y4 D.consts.length d4, .slice y5 D.code.length d5]), wE14 (enc D), wIs (.string ⟨((enc D)).toArray⟩), wIs (.agg #[.slice u0 D.ins.length z0, .slice u1 D.outs.length z1, .slice u2 D.slots.length z2, .slice u3 D.mems.length z3, .slice u4 D.consts.length z4, .slice u5 D.code.length z5]), wE14 (enc D), wIs (.string ⟨((enc D)).toArray⟩), wIs (.bool true), wIs (.bool true), wIs (.bool true)]) W9.heap.size W9 (by kernel_rfl) (Below.refl _ _) (Nat.le_refl _) (words_stable ?stab) rfl rfl (by kernel_rfl) ?steps ?rest2
        case stab =>
          intro f hf
          simp only [List.mem_cons, List.not_mem_nil, or_false] at hf
          rcases hf with rfl | rfl | rfl | rfl | rfl | rfl | rfl | rfl | rfl | rfl | rfl | rfl | rfl | rfl | rfl | rfl | rfl | rfl | rfl | rfl | rfl <;> first | exact stable_is _ | exact stable_e14 _
        case steps =>
          refine Steps.cons (step_value rfl fun xa W hp => ⟨(wanted_none rfl), _, _, run_move (.inl rfl), hp.old 9 rfl, Below.refl _ _⟩) ?_
          refine Steps.cons (step_value rfl fun xa W hp => ⟨(wanted_none rfl), _, _, run_move (.inl rfl), hp.old 7 rfl, Below.refl _ _⟩) ?_
          refine Steps.cons (step_value rfl fun xa W hp => ?_) ?_
          · have e0 : xa.tmps.getD 38 undef = .int .i64 3 := (hp.on_ 1 rfl rfl rfl).2
            refine ⟨(wanted_none rfl), _, _, run_bin3 rfl (v := .bool false) ?_ ?_, rfl, Below.refl _ _⟩
            · show (eqGuard .eql _ _ _ (xa.tmps.getD 38 undef) (.int .i64 0)).run _ W = _
              rw [e0]; first | rfl | kernel_rfl | (simp [eqGuard]; done) | (unfold eqGuard; simp; done)
            · show (binOp .eql _ (xa.tmps.getD 38 undef) (.int .i64 0)).run _ W = _
              rw [e0]; first | rfl | (rfl)
          refine Steps.cons (step_value rfl fun xa W hp => ?_) ?_
          · have e0 : xa.tmps.getD 37 undef = .bool false := (hp.on_ 0 rfl rfl rfl).2
            have e1 : xa.tmps.getD 39 undef = .bool false := (hp.on_ 2 rfl rfl rfl).2
            refine ⟨(wanted_none rfl), _, _, run_bin3 rfl (v := .bool true) ?_ ?_, rfl, Below.refl _ _⟩
            · show (eqGuard .eql _ _ _ (xa.tmps.getD 37 undef) (xa.tmps.getD 39 undef)).run _ W = _
              rw [e0, e1]; first | rfl | kernel_rfl | (simp [eqGuard]; done) | (unfold eqGuard; simp; done)
            · show (binOp .eql _ (xa.tmps.getD 37 undef) (xa.tmps.getD 39 undef)).run _ W = _
              rw [e0, e1]; first | rfl | (rfl)
          refine Steps.cons (step_value rfl fun xa W hp => ⟨(wanted_none rfl), _, _, run_move (.inl rfl), (hp.on_ 3 rfl rfl rfl).2, Below.refl _ _⟩) ?_
          refine Steps.cons (step_value rfl fun xa W hp => ⟨(wanted_some rfl rfl rfl (hp.on_ 4 rfl rfl rfl).1 (hp.on_ 4 rfl rfl rfl).2), _, _, run_move (.inl rfl), hp.old 9 rfl, Below.refl _ _⟩) ?_
          refine Steps.cons (step_value rfl fun xa W hp => ⟨(wanted_some rfl rfl rfl (hp.on_ 4 rfl rfl rfl).1 (hp.on_ 4 rfl rfl rfl).2), _, _, run_move (.inl rfl), (hp.on_ 5 rfl rfl rfl).2, Below.refl _ _⟩) ?_
          refine Steps.cons (step_value rfl fun xa W hp => ⟨(wanted_some0 rfl rfl rfl (hp.on_ 6 rfl rfl rfl).1 (hp.on_ 6 rfl rfl rfl).2), _, _, run_move (.inl rfl), hp.old 7 rfl, Below.refl _ _⟩) ?_
          refine Steps.cons (step_value rfl fun xa W hp => ?_) ?_
          · have e0 : xa.tmps.getD 44 undef = .int .i64 3 := (hp.on_ 7 rfl rfl rfl).2
            refine ⟨(wanted_some0 rfl rfl rfl (hp.on_ 6 rfl rfl rfl).1 (hp.on_ 6 rfl rfl rfl).2), _, _, run_bin3 rfl (v := .bool true) ?_ ?_, rfl, Below.refl _ _⟩
            · show (eqGuard .eql _ _ _ (xa.tmps.getD 44 undef) (.int .i64 3)).run _ W = _
              rw [e0]; first | rfl | kernel_rfl | (simp [eqGuard]; done) | (unfold eqGuard; simp; done)
            · show (binOp .eql _ (xa.tmps.getD 44 undef) (.int .i64 3)).run _ W = _
              rw [e0]; first | rfl | (rfl)
          refine Steps.cons (step_value rfl fun xa W hp => ⟨(wanted_some rfl rfl rfl (hp.on_ 4 rfl rfl rfl).1 (hp.on_ 4 rfl rfl rfl).2), _, _, run_pick0 rfl (hp.on_ 6 rfl rfl rfl).2, (hp.on_ 8 rfl rfl rfl).2, Below.refl _ _⟩) ?_
          refine Steps.cons (step_value rfl fun xa W hp => ⟨(wanted_none rfl), _, _, run_pick rfl (hp.on_ 4 rfl rfl rfl).2, (hp.on_ 9 rfl rfl rfl).2, Below.refl _ _⟩) ?_
          refine Steps.cons (step_value rfl fun xa W hp => ⟨(wanted_none rfl), _, _, run_move (.inl rfl), (hp.on_ 10 rfl rfl rfl).2, Below.refl _ _⟩) ?_
          refine Steps.cons (step_value rfl fun xa W hp => ?_) ?_
          · have e0 : xa.tmps.getD 6 undef = .pointer (some ⟨B6, 0, none⟩) := hp.old 6 rfl
            exact ⟨(wanted_some rfl rfl rfl (hp.on_ 11 rfl rfl rfl).1 (hp.on_ 11 rfl rfl rfl).2), _, _, run_ldrow rfl e0 ((hp.below.block (B6) (Array.getElem?_eq_some_iff.1 HX6.out).1).trans HX6.out) Tryd.underlying27 rfl HSP.out, rfl, Below.refl _ _⟩
          refine Steps.cons (step_enter rfl fun xa W hp => ?_) ?_
          · have e0 : xa.tmps.getD 49 undef = .agg #[.slice y0 D.ins.length d0, .slice y1 D.outs.length d1, .slice y2 D.slots.length d2, .slice y3 D.mems.length d3, .slice y4 D.consts.length d4, .slice y5 D.code.length d5] := (hp.on_ 12 rfl rfl rfl).2
            refine ⟨(wanted_some rfl rfl rfl (hp.on_ 11 rfl rfl rfl).1 (hp.on_ 11 rfl rfl rfl).2), 15, _, run_enter1 rfl rfl Tryd.call15, ?_⟩
            show Calls _ _ #[xa.tmps.getD 49 undef] W _
            rw [e0]
            refine (rEncode_any D HDO.out HDS.out y0 y1 y2 y3 y4 y5 d0 d1 d2 d3 d4 d5 W (HQ9.out.below hp.below)).mono ?_
            rintro e W' ⟨ae, ce, he, hte, _, _, hbe⟩
            exact ⟨_, he, ⟨ae, ce, rfl, own_txt hte⟩, hbe⟩
          refine Steps.cons (step_value rfl fun xa W hp => ?_) ?_
          · obtain ⟨a0, c0, e0, t0⟩ : wE14 (enc D) (xa.tmps.getD 50 undef) W := (hp.on_ 13 rfl rfl rfl).2
            refine ⟨(wanted_some rfl rfl rfl (hp.on_ 11 rfl rfl rfl).1 (hp.on_ 11 rfl rfl rfl).2), _, _, run_conv rfl (W' := W) (v := .string ⟨((enc D)).toArray⟩) ?_, rfl, Below.refl _ _⟩
            show (convert _ _ (xa.tmps.getD 50 undef)).run _ W = _
            rw [e0]
            exact run_string (P := Tryd.prog) W 31 5 9 Tryd.underlying31 Tryd.underlying5 Tryd.underlying9 _ ((enc D)) _ t0
          refine Steps.cons (step_value rfl fun xa W hp => ?_) ?_
          · have e0 : xa.tmps.getD 8 undef = .pointer (some ⟨B8, 0, none⟩) := hp.old 8 rfl
            exact ⟨(wanted_some rfl rfl rfl (hp.on_ 11 rfl rfl rfl).1 (hp.on_ 11 rfl rfl rfl).2), _, _, run_ldrow rfl e0 ((hp.below.block (B8) (Array.getElem?_eq_some_iff.1 HX8.out).1).trans HX8.out) Tryd.underlying27 rfl HSP.out, rfl, Below.refl _ _⟩
          refine Steps.cons (step_enter rfl fun xa W hp => ?_) ?_
          · have e0 : xa.tmps.getD 52 undef = .agg #[.slice u0 D.ins.length z0, .slice u1 D.outs.length z1, .slice u2 D.slots.length z2, .slice u3 D.mems.length z3, .slice u4 D.consts.length z4, .slice u5 D.code.length z5] := (hp.on_ 15 rfl rfl rfl).2
            refine ⟨(wanted_some rfl rfl rfl (hp.on_ 11 rfl rfl rfl).1 (hp.on_ 11 rfl rfl rfl).2), 15, _, run_enter1 rfl rfl Tryd.call15, ?_⟩
            show Calls _ _ #[xa.tmps.getD 52 undef] W _
            rw [e0]
            refine (rEncode_any D HDO.out HDS.out u0 u1 u2 u3 u4 u5 z0 z1 z2 z3 z4 z5 W (HR9.out.below hp.below)).mono ?_
            rintro e W' ⟨ae, ce, he, hte, _, _, hbe⟩
            exact ⟨_, he, ⟨ae, ce, rfl, own_txt hte⟩, hbe⟩
          refine Steps.cons (step_value rfl fun xa W hp => ?_) ?_
          · obtain ⟨a0, c0, e0, t0⟩ : wE14 (enc D) (xa.tmps.getD 53 undef) W := (hp.on_ 16 rfl rfl rfl).2
            refine ⟨(wanted_some rfl rfl rfl (hp.on_ 11 rfl rfl rfl).1 (hp.on_ 11 rfl rfl rfl).2), _, _, run_conv rfl (W' := W) (v := .string ⟨((enc D)).toArray⟩) ?_, rfl, Below.refl _ _⟩
            show (convert _ _ (xa.tmps.getD 53 undef)).run _ W = _
            rw [e0]
            exact run_string (P := Tryd.prog) W 31 5 9 Tryd.underlying31 Tryd.underlying5 Tryd.underlying9 _ ((enc D)) _ t0
          refine Steps.cons (step_value rfl fun xa W hp => ?_) ?_
          · have e0 : xa.tmps.getD 51 undef = .string ⟨((enc D)).toArray⟩ := (hp.on_ 14 rfl rfl rfl).2
            have e1 : xa.tmps.getD 54 undef = .string ⟨((enc D)).toArray⟩ := (hp.on_ 17 rfl rfl rfl).2
            refine ⟨(wanted_some rfl rfl rfl (hp.on_ 11 rfl rfl rfl).1 (hp.on_ 11 rfl rfl rfl).2), _, _, run_bin3 rfl (v := .bool true) ?_ ?_, rfl, Below.refl _ _⟩
            · show (eqGuard .eql _ _ _ (xa.tmps.getD 51 undef) (xa.tmps.getD 54 undef)).run _ W = _
              rw [e0, e1]; first | rfl | kernel_rfl | (simp [eqGuard]; done) | (unfold eqGuard; simp; done)
            · show (binOp .eql _ (xa.tmps.getD 51 undef) (xa.tmps.getD 54 undef)).run _ W = _
              rw [e0, e1]; first | rfl | ((rw [Go.binOp_string_eql]; simp [Lib.toList_data]))
          refine Steps.cons (step_value rfl fun xa W hp => ⟨(wanted_none rfl), _, _, run_pick rfl (hp.on_ 11 rfl rfl rfl).2, (hp.on_ 18 rfl rfl rfl).2, Below.refl _ _⟩) ?_
          refine Steps.cons (step_value rfl fun xa W hp => ⟨(wanted_none rfl), _, _, run_move (.inr rfl), (hp.on_ 19 rfl rfl rfl).2, Below.refl _ _⟩) ?_
          exact Steps.nil
        case rest2 =>
          intro act W hI
          have hbW := hI.below
          have h57 : act.tmps.getD 4 undef = .bool true := hI.new 20 _ 4 rfl rfl rfl
          obtain ⟨fo, hfo, hx⟩ := puts_of hI.tmps hI.defers hI.old [37, 38, 39, 40, 41, 42, 43, 44, 45, 46, 47, 48, 49, 50, 51, 52, 53, 54, 55, 56, 4] rfl
          rw [hfo] at h57
          have HBW := Lib.hid (HB9.out.trans (hbW.mono HB9.out.size))
          clear hI hfo hbW
          subst hx
          simp only [Exit.inBlock, Exit.then, List.foldl, Act.put, List.setIfInBounds_toArray, List.set_cons_succ, List.set_cons_zero]
          rw [h57]
          clear h57
          go_wp2_with fail
          go_ret
          exact ⟨rfl, HBW.out⟩
end Go.Proofs.YtophockpjchilaaDoor

namespace Go.Proofs.YtophockpjchilaaDoor
open Go Go.RowKit
theorem no_cut {p : Pg} (h : p.ok) (hs : p.sum ≤ 1000000000) {k : Nat} (hk : k < (enc p).length) (hl : (enc p).length ≤ 100000000) : ¬ enc (decP ((enc p).take k)) = (enc p).take k := fun he =>
  enc_cut h (Pg.few_of hs) (decP_ok ((enc p).take k)) (Pg.few_of (by have := decP_sum ((enc p).take k); rw [List.length_take] at this; omega)) hk he.symm
theorem no_spoilt {p : Pg} (h : p.ok) (hs : p.sum ≤ 1000000000) {k : Nat} (hk : k < (enc p).length) (hl : (enc p).length ≤ 100000000) {d : UInt8} (hd : d ≠ 0) : ¬ enc (decP ((enc p).set k ((enc p)[k] ^^^ d))) = (enc p).set k ((enc p)[k] ^^^ d) := fun he =>
  enc_spoilt h (Pg.few_of hs) (decP_ok ((enc p).set k ((enc p)[k] ^^^ d))) (Pg.few_of (by have := decP_sum ((enc p).set k ((enc p)[k] ^^^ d)); rw [List.length_set] at this; omega)) hk hd he.symm
theorem byteCells_set (l : List UInt8) (k : Nat) (c : UInt8) : (Lib.byteCells l).set k (.int .u8 (c.toNat : Int)) = Lib.byteCells (l.set k c) := by
  unfold Lib.byteCells
  rw [List.map_set]
set_option maxHeartbeats 4000000 in
set_option maxRecDepth 100000 in
theorem codeSpoilt_any {T : World → Prop} (K : CodeC T) (p : Pg) (x0 x1 x2 x3 x4 x5 : Option Addr) (c0 c1 c2 c3 c4 c5 : Nat) (ia dy : Int) (w : World) (hT : T w) (ok_p : p.ok) (in_p : PgIn w p x0 x1 x2 x3 x4 x5) (hia : i64' ia) (hd0 : 0 ≤ dy) (hd1 : dy ≤ 255) :
    Calls Tryd.prog 6 #[pgV p x0 x1 x2 x3 x4 x5 c0 c1 c2 c3 c4 c5, .int .i64 ia, .int .u8 dy] w fun e w' => e = .returned (.bool true) ∧ Below w.heap.size w w' := by
  have HK := Lib.hid K
  have HO := Lib.hid ok_p
  have HIA := Lib.hid hia
  have HDY := Lib.hid (And.intro hd0 hd1)
  obtain ⟨W0, hW0⟩ : ∃ W0, W0 = w.alloc (.cells #[.slice x0 p.ins.length c0, .slice x1 p.outs.length c1, .slice x2 p.slots.length c2, .slice x3 p.mems.length c3, .slice x4 p.consts.length c4, .slice x5 p.code.length c5] 27) := ⟨_, rfl⟩
  have hb0 : Below w.heap.size w W0 := by rw [hW0]; exact (Below.refl _ _).alloc (Nat.le_refl _) _
  obtain ⟨B1, hB1⟩ : ∃ B, B = w.heap.size := ⟨_, rfl⟩
  have k1 := heap_alloc_new w (.cells #[.slice x0 p.ins.length c0, .slice x1 p.outs.length c1, .slice x2 p.slots.length c2, .slice x3 p.mems.length c3, .slice x4 p.consts.length c4, .slice x5 p.code.length c5] 27)
  rw [← hB1, ← hW0] at k1
  have HX1 := Lib.hid k1
  have HP := Lib.hid (in_p.below hb0)
  have HB0 := Lib.hid hb0
  have HT := Lib.hid (K.keep _ _ hT hb0)
  have HW0 := Lib.hid hW0
  have HBB1 := Lib.hid hB1
  have HSP := Lib.hid size_prog
  have ka := awake14_any K W0 HT.out
  clear K ok_p hW0 hb0 hB1 k1 in_p hT hia hd0 hd1
  unfold pgV
  go_enter Tryd.func6, Tryd.ntmps6
  go_upto_region 1 with fail
  rw [← HW0.out, ← HBB1.out]
  go_wp2_with fail
  (with_reducible refine ka.mono ?_)
  rintro e w1 ⟨rfl, hb⟩
  clear ka
  have HB1 := Lib.hid hb
  have HX1a := Lib.hid ((hb.block B1 (Array.getElem?_eq_some_iff.1 HX1.out).1).trans HX1.out)
  have kg : Calls Tryd.prog 14 #[.agg #[.slice x0 p.ins.length c0, .slice x1 p.outs.length c1, .slice x2 p.slots.length c2, .slice x3 p.mems.length c3, .slice x4 p.consts.length c4, .slice x5 p.code.length c5]] w1 (fun e w' => e = .returned (.bool (greatP p)) ∧ Below w1.heap.size w1 w') := great14_any p x0 x1 x2 x3 x4 x5 c0 c1 c2 c3 c4 c5 w1
  clear hb
  obtain ⟨gp, hgp⟩ : ∃ g, g = greatP p := ⟨_, rfl⟩
  rw [← hgp] at kg
  have HGP := Lib.hid hgp
  clear hgp
  go_wp2_with (refine wpList_load_row rfl 27 (.tmp 3) rfl B1 rfl 27 #[.slice x0 p.ins.length c0, .slice x1 p.outs.length c1, .slice x2 p.slots.length c2, .slice x3 p.mems.length c3, .slice x4 p.consts.length c4, .slice x5 p.code.length c5] (0, 0) _ ?_ Tryd.underlying27 rfl HSP.out ?_; (exact HX1a.out))
  (with_reducible refine kg.mono ?_)
  rintro e w2 ⟨rfl, hb⟩
  clear kg
  have HB2 := Lib.hid (HB1.out.trans (hb.mono HB1.out.size))
  clear hb
  cases gp with
  | true =>
    go_wp2_with fail
    go_ret
    exact ⟨rfl, HB0.out.trans (HB2.out.mono HB0.out.size)⟩
  | false =>
    have HSM := Lib.hid (great_no HGP.out.symm)
    have HX1b := Lib.hid ((HB2.out.block B1 (Array.getElem?_eq_some_iff.1 HX1.out).1).trans HX1.out)
    have ke : Calls Tryd.prog 10 #[.agg #[.slice x0 p.ins.length c0, .slice x1 p.outs.length c1, .slice x2 p.slots.length c2, .slice x3 p.mems.length c3, .slice x4 p.consts.length c4, .slice x5 p.code.length c5]] w2 (GivesO w2 (enc p)) := HK.out.enc_ p x0 x1 x2 x3 x4 x5 c0 c1 c2 c3 c4 c5 w2 (HK.out.keep _ _ HT.out HB2.out) HO.out (by have := HSM.out; omega) (HP.out.below HB2.out)
    obtain ⟨E, hE⟩ : ∃ E, E = enc p := ⟨_, rfl⟩
    rw [← hE] at ke
    have HE := Lib.hid hE
    have HEL : Hid (E.length ≤ 30000) := Lib.hid (by rw [hE]; have := enc_le HO.out (by have := HSM.out; omega); have := HSM.out; omega)
    clear hE
    go_wp2_with (refine wpList_load_row rfl 27 (.tmp 3) rfl B1 rfl 27 #[.slice x0 p.ins.length c0, .slice x1 p.outs.length c1, .slice x2 p.slots.length c2, .slice x3 p.mems.length c3, .slice x4 p.consts.length c4, .slice x5 p.code.length c5] (0, 0) _ ?_ Tryd.underlying27 rfl HSP.out ?_; (exact HX1b.out))
    (with_reducible refine ke.mono ?_)
    rintro e w3 ⟨ae, ce, rfl, hown, hc5, hm5, hb⟩
    clear ke
    have HBw3 := Lib.hid (HB2.out.trans (hb.mono HB2.out.size))
    have HTE := Lib.hid (own_txt hown)
    have HCE := Lib.hid (And.intro hc5 hm5)
    have HEND : Hid (Below w.heap.size w w3) := Lib.hid (HB0.out.trans (HBw3.out.mono HB0.out.size))
    clear hown hb hc5 hm5
    by_cases ha0 : ia < 0
    · have d1 : decide (ia < 0) = true := by simpa using ha0
      go_wp2_with fail
      go_ret
      exact ⟨rfl, HEND.out⟩
    · have d1 : decide (ia < 0) = false := by simpa using ha0
      obtain ⟨k, rfl⟩ : ∃ k : Nat, ia = (k : Int) := ⟨ia.toNat, by omega⟩
      by_cases hk : E.length ≤ k
      · have d2 : decide ((E.length : Int) ≤ (k : Int)) = true := by simp; omega
        go_wp2_with fail
        go_ret
        exact ⟨rfl, HEND.out⟩
      · have d2 : decide ((E.length : Int) ≤ (k : Int)) = false := by simp; omega
        by_cases hz : dy = 0
        · subst hz
          go_wp2_with fail
          go_ret
          exact ⟨rfl, HEND.out⟩
        · have d3 : (dy == 0) = false := by simpa using hz
          have hkE : k < E.length := by omega
          have HKE := Lib.hid hkE
          obtain ⟨n, hn⟩ : ∃ n : Nat, dy = (n : Int) := ⟨dy.toNat, by have := HDY.out; omega⟩
          subst hn
          have hn256 : n < 256 := by have := HDY.out; omega
          have hdn : (UInt8.ofNat n).toNat = n := by simp; omega
          have hdne : UInt8.ofNat n ≠ 0 := fun e => by rw [e] at hdn; simp at hdn; omega
          have HNC : Hid (¬ enc (decP (E.take k)) = E.take k) := Lib.hid (by rw [HE.out]; exact no_cut HO.out (by have := HSM.out; omega) (by rw [← HE.out]; exact hkE) (by rw [← HE.out]; have := HEL.out; omega))
          have hset : E.set k (E[k]'hkE ^^^ UInt8.ofNat n) = (enc p).set k ((enc p)[k]'(by rw [← HE.out]; exact hkE) ^^^ UInt8.ofNat n) := by
            have he := HE.out
            subst he
            rfl
          obtain ⟨xk, hxk⟩ : ∃ xk, xk = E[k]'hkE := ⟨_, rfl⟩
          rw [← hxk] at hset
          have HXK : Hid (E[k]? = some xk) := Lib.hid (by rw [hxk]; exact List.getElem?_eq_getElem hkE)
          obtain ⟨xd, hxd⟩ : ∃ xd, xd = xk ^^^ UInt8.ofNat n := ⟨_, rfl⟩
          rw [← hxd] at hset
          obtain ⟨C, hC⟩ : ∃ C, C = E.set k (xd) := ⟨_, rfl⟩
          have HNS : Hid (¬ enc (decP C) = C) := Lib.hid (by rw [hC, hset]; exact no_spoilt HO.out (by have := HSM.out; omega) (by rw [← HE.out]; exact hkE) (by rw [← HE.out]; have := HEL.out; omega) hdne)
          have HCL : Hid (C.length = E.length) := Lib.hid (by rw [hC, List.length_set])
          have HCC := Lib.hid hC
          have HX8 : Hid (bits .xor .u8 (xk.toNat : Int) (n : Int) = ((xd).toNat : Int)) := Lib.hid (by rw [hxd, u8_xor_nat _ n (UInt8.toNat_lt _) hn256, UInt8.toNat_xor, hdn])
          obtain ⟨b, o, rfl, hbl, hcell⟩ := HTE.out (by rintro rfl; simp at hkE)
          have htk : Txt w3 (some ⟨b, o, none⟩) (E.take k) := fun _ => ⟨b, o, rfl, hbl, fun i hi => by rw [List.length_take] at hi; rw [hcell i (by omega), List.getElem_take]⟩
          have HTK := Lib.hid htk
          have hlk : (E.take k).length = k := by rw [List.length_take]; omega
          have HLK := Lib.hid hlk
          have kd0 := HK.out.dec (E.take k) (some ⟨b, o, none⟩) ce w3 (HK.out.keep _ _ HT.out HBw3.out) htk (by rw [hlk]; have := HCE.out.1; omega) HCE.out.2 (by rw [hlk]; have := HEL.out; omega)
          rw [hlk] at kd0
          have hkc : k ≤ ce := by have := HCE.out.1; omega
          clear hset hC hxd hdn hdne hn256 hz htk hcell hbl hlk ha0 hk hxk hkE
          go_upto_region 8 with fail
          go_wp2_with fail
          (with_reducible refine kd0.mono ?_)
          rintro e w4 ⟨u0, u1, u2, u3, u4, u5, z0, z1, z2, z3, z4, z5, rfl, hn, hb5⟩
          clear kd0 hn
          rw [decR_no HNC.out, if_neg HNC.out]
          have epn : pgV noPg u0 u1 u2 u3 u4 u5 z0 z1 z2 z3 z4 z5 = .agg #[.slice u0 0 z0, .slice u1 0 z1, .slice u2 0 z2, .slice u3 0 z3, .slice u4 0 z4, .slice u5 0 z5] := rfl
          rw [epn]
          obtain ⟨wc, hW⟩ : ∃ W, W = w4.alloc (.cells #[.slice u0 0 z0, .slice u1 0 z1, .slice u2 0 z2, .slice u3 0 z3, .slice u4 0 z4, .slice u5 0 z5] 27) := ⟨_, rfl⟩
          have a89 : Below w4.heap.size w4 wc := by rw [hW]; exact (Below.refl _ _).alloc (Nat.le_refl _) _
          have b3c := hb5.trans (a89.mono hb5.size)
          have HBc := Lib.hid (HBw3.out.trans (b3c.mono HBw3.out.size))
          have HTEc := Lib.hid (HTE.out.below b3c)
          have HW := Lib.hid hW
          obtain ⟨i0, hi, hz0, hz1, hz2⟩ := info_parts info_byte
          have HIN := Lib.hid (And.intro hi (And.intro hz0 (And.intro hz1 hz2)))
          have be : ∀ W : World, (Instr.buildSlice 31 0 #[]).run Tryd.prog W = .ok (.slice (some ⟨W.heap.size, 0, none⟩) 0 0) (W.alloc (.cells #[] 5)) := fun W => by kernel_rfl
          clear epn a89 b3c hb5 hW hi hz0 hz1 hz2
          go_upto_region 9 with fail
          rw [← HW.out]
          have HTA := Lib.hid (HTEc.out.below ((Below.refl wc.heap.size wc).alloc (Nat.le_refl _) (.cells #[] 5)))
          go_wp2_with (at_builtin; refine wpList_append_txt _ rfl (.tmp 38) (.tmp 39) 31 rfl wc.heap.size 5 i0 Tryd.underlying31 HIN.out.1 HIN.out.2.1 HIN.out.2.2.1 HIN.out.2.2.2 _ 0 [] rfl (own_empty wc _ _ (Nat.le_refl _)) (some ⟨b, o, none⟩) ce E rfl HTA.out ?c1 ?c2 ?_)
          case c1 => have := HEL.out; omega
          case c2 => simp
          intro v5 w5 hown4 hgr4
          have hb34 : Below wc.heap.size wc w5 := ((Below.refl _ _).alloc (Nat.le_refl _) _).grown hgr4 (by simp) (by intro k hk; simp [Value.ownBlock] at hk; omega)
          have hown5 : w5.ownsRow wc.heap.size 5 1 v5 E.length (Lib.byteCells E) := by simpa using hown4
          rcases hown5.2 with ⟨_, h0⟩ | ⟨g, cap, cur, e4, hbg, hg, hnc, hcm, _, _⟩
          · exact absurd h0 (by have := HKE.out; omega)
          · subst e4
            have HB5 := Lib.hid (HBc.out.trans (hb34.mono HBc.out.size))
            have HGG := Lib.hid hbg
            have q0 : w5.cell? ⟨g, k, none⟩ = some (.int .u8 (xk.toNat : Int)) := by
              have h := hown5.cellAt k (by have := HKE.out; omega)
              rw [h]
              unfold Lib.byteCells
              rw [List.getElem?_map, HXK.out]
              rfl
            have q1 := hown5.frozenAt k
            obtain ⟨hst, hgs⟩ := hown5.stored k (.int .u8 ((xd).toNat : Int))
            rw [byteCells_set, ← HCC.out] at hst
            have HST : Hid ((w5.setCell ⟨g, k, none⟩ (.int .u8 ((xd).toNat : Int))).ownsRow wc.heap.size 5 1 (.slice (some ⟨g, 0, none⟩) C.length cap) C.length (Lib.byteCells C)) := Lib.hid (by rw [HCL.out]; exact hst)
            have HGS := Lib.hid hgs
            have HCAP := Lib.hid (And.intro hnc hcm)
            have x8 := HX8.out
            have kk0 : (0 : Int) ≤ (k : Int) := by omega
            have kk1 : (k : Int) < (E.length : Int) := by have := HKE.out; omega
            clear be hown4 hown5 hgr4 hst hgs hg hnc hcm hbg
            obtain ⟨w6, hw6⟩ : ∃ W, W = w5.setCell ⟨g, k, none⟩ (.int .u8 ((xd).toNat : Int)) := ⟨_, rfl⟩
            have HW6 := Lib.hid hw6
            rw [← hw6] at HST HGS
            have hwx : w5.setCell ⟨g, k, none⟩ (.int .u8 (bits .xor .u8 (xk.toNat : Int) (n : Int))) = w6 := by rw [hw6, HX8.out]
            have HWX := Lib.hid hwx
            have HB6 : Hid (Below W0.heap.size W0 w6) := Lib.hid (HB5.out.grown HGS.out HB5.out.size (fun j hj => by injection hj with hj; have := HGG.out; have := HBc.out.size; omega))
            have kd1 := HK.out.dec C (some ⟨g, 0, none⟩) cap w6 (HK.out.keep _ _ HT.out HB6.out) (own_txt HST.out) (by rw [HCL.out]; exact HCAP.out.1) HCAP.out.2 (by rw [HCL.out]; have := HEL.out; omega)
            rw [HCL.out] at kd1
            clear hw6 hwx
            go_wp2_with fail
            first | rw [HWX.out] | rw [← HW6.out]
            clear q0 q1
            (with_reducible refine kd1.mono ?_)
            rintro e w7 ⟨t0, t1, t2, t3, t4, t5, v0, v1, v2, v3, v4, v5, rfl, hn, hb7⟩
            clear kd1 hn
            rw [decR_no HNS.out, if_neg HNS.out]
            have epn : pgV noPg t0 t1 t2 t3 t4 t5 v0 v1 v2 v3 v4 v5 = .agg #[.slice t0 0 v0, .slice t1 0 v1, .slice t2 0 v2, .slice t3 0 v3, .slice t4 0 v4, .slice t5 0 v5] := rfl
            rw [epn]
            have HB7 := Lib.hid (HB0.out.trans ((HB6.out.trans (hb7.mono HB6.out.size)).mono HB0.out.size))
            clear epn hb7
            go_wp2_with fail
            go_ret
            exact ⟨rfl, HB7.out.alloc HB7.out.size _⟩
end Go.Proofs.YtophockpjchilaaDoor

namespace Go.Proofs.YtophockpjchilaaDoor
open Go
theorem wpList_wanted {P : Program} {ops : Array Oper} {Q : Exit → Act → World → Prop} {a : Act} {w : World} {rest : List Oper} {o : Oper} (hw : Region.wanted o (yielded ops a.tmps) = true)
    (h : ∀ K : Act → World → Prop, (∀ a w, wpList P ops Q rest a w → K a w) → o.wp P a w K Q) : wpList P ops Q (o :: rest) a w :=
  wpList_step fun K hK => by rw [if_pos hw]; exact h K hK
theorem wanted_of {o : Oper} {ops : Array Oper} {t : Array Value} (k : Nat) (v : Bool) (hg : o.guard = some (k, v)) (hy : yielded ops t k = some v) : Region.wanted o (yielded ops t) = true := by
  unfold Region.wanted
  simp [hg, hy]
theorem wpList_load_row_g {P : Program} {ops : Array Oper} {rest : List Oper} {o : Oper} {a : Act} {w : World} {Q : Exit → Act → World → Prop} (k : Nat) (v : Bool) (hgd : o.guard = some (k, v)) (hy : yielded ops a.tmps k = some v) (ty : TypeId) (x : Operand) (ho : o.op = .load ty x)
    (g : Nat) (hx : a.eval x = .pointer (some ⟨g, 0, none⟩)) (t : TypeId) (cs : Array Value) (fr : Nat × Nat) (d : TypeDesc) (hg : w.heap[g]? = some (.cells cs t fr))
    (hu : P.underlying ty = some d) (hd : (match d with | .struct _ | .array _ _ => true | _ => false) = true) (hi : (P.info? ty).map (·.size) = some cs.size)
    (h : wpList P ops Q rest (a.put o.dst (.agg cs)) w) : wpList P ops Q (o :: rest) a w :=
  wpList_wanted (wanted_of k v hgd hy) fun _ hK => wp_load_row ty x ho g hx t cs fr d hg hu hd hi (hK _ _ h)
end Go.Proofs.YtophockpjchilaaDoor

namespace Go.Proofs.YtophockpjchilaaDoor
open Go Go.RowKit
def in4Eq (x y : In4) : Bool := (x.op == y.op) && ((x.a == y.a) && ((x.b == y.b) && (x.c == y.c)))
theorem in4Eq_self (x : In4) : in4Eq x x = true := by unfold in4Eq; simp
theorem in4_part0 (a b c d : Int) (W : World) : (part 3 #[.int .i64 a, .int .i64 b, .int .i64 c, .int .i64 d] 0).run Tryd.prog W = .ok (.int .i64 a) W := by kernel_rfl
theorem in4_part1 (a b c d : Int) (W : World) : (part 3 #[.int .i64 a, .int .i64 b, .int .i64 c, .int .i64 d] 1).run Tryd.prog W = .ok (.int .i64 b) W := by kernel_rfl
theorem in4_part2 (a b c d : Int) (W : World) : (part 3 #[.int .i64 a, .int .i64 b, .int .i64 c, .int .i64 d] 2).run Tryd.prog W = .ok (.int .i64 c) W := by kernel_rfl
theorem in4_part3 (a b c d : Int) (W : World) : (part 3 #[.int .i64 a, .int .i64 b, .int .i64 c, .int .i64 d] 3).run Tryd.prog W = .ok (.int .i64 d) W := by kernel_rfl
theorem four_fields {l : List Field} {t1 t2 t3 t4 : TypeId} {o1 o2 o3 o4 : Nat} (h : l.map (fun f => (f.name == "_", f.type, f.offset)) = [(false, t1, o1), (false, t2, o2), (false, t3, o3), (false, t4, o4)]) : ∃ f1 f2 f3 f4 : Field, l = [f1, f2, f3, f4] ∧ f1.name ≠ "_" ∧ f1.type = t1 ∧ f1.offset = o1 ∧ f2.name ≠ "_" ∧ f2.type = t2 ∧ f2.offset = o2 ∧ f3.name ≠ "_" ∧ f3.type = t3 ∧ f3.offset = o3 ∧ f4.name ≠ "_" ∧ f4.type = t4 ∧ f4.offset = o4 := by
  rcases l with _ | ⟨f1, _ | ⟨f2, _ | ⟨f3, _ | ⟨f4, _ | ⟨f5, r⟩⟩⟩⟩⟩
  · simp at h
  · simp at h
  · simp at h
  · simp at h
  · simp only [List.map_cons, List.map_nil, List.cons.injEq, Prod.mk.injEq, and_true, beq_eq_false_iff_ne] at h
    exact ⟨f1, f2, f3, f4, rfl, h.1.1, h.1.2.1, h.1.2.2, h.2.1.1, h.2.1.2.1, h.2.1.2.2, h.2.2.1.1, h.2.2.1.2.1, h.2.2.1.2.2, h.2.2.2.1, h.2.2.2.2.1, h.2.2.2.2.2⟩
  · simp at h
theorem in4_fields : (Tryd.prog.fieldsOf 36).toList.map (fun f => (f.name == "_", f.type, f.offset)) = [(false, 3, 0), (false, 3, 1), (false, 3, 2), (false, 3, 3)] := by kernel_rfl
theorem in4_eql (x y : In4) (W : World) : (binOp .eql 36 (.agg #[.int .i64 x.op, .int .i64 x.a, .int .i64 x.b, .int .i64 x.c]) (.agg #[.int .i64 y.op, .int .i64 y.a, .int .i64 y.b, .int .i64 y.c])).run Tryd.prog W = .ok (.bool (in4Eq x y)) W := by
  obtain ⟨f1, f2, f3, f4, hl, n1, t1, o1, n2, t2, o2, n3, t3, o3, n4, t4, o4⟩ := four_fields in4_fields
  rw [run_eql_struct, run_equalIn_agg W 9999 36 _ _ (by kernel_rfl) (by kernel_rfl), hl]
  unfold in4Eq
  simp only [Op.eqFields, n1, n2, n3, n4, t1, t2, t3, t4, o1, o2, o3, o4, ne_eq, not_false_eq_true, if_true, Sem.run_bind, Sem.run_ite, Sem.run_pure, in4_part0, in4_part1, in4_part2, in4_part3, Result.andThen_ok, run_equalIn_int W 9998 3 .i64 _ _ _ Tryd.underlying3]
  cases (x.op == y.op) <;> cases (x.a == y.a) <;> cases (x.b == y.b) <;> cases (x.c == y.c) <;> simp
set_option maxHeartbeats 4000000 in
set_option maxRecDepth 100000 in
theorem codeApart_any {T : World → Prop} (K : CodeC T) (p : Pg) (x0 x1 x2 x3 x4 x5 : Option Addr) (c0 c1 c2 c3 c4 c5 : Nat) (q : Pg) (y0 y1 y2 y3 y4 y5 : Option Addr) (d0 d1 d2 d3 d4 d5 : Nat) (w : World) (hT : T w) (ok_p : p.ok) (in_p : PgIn w p x0 x1 x2 x3 x4 x5) (ok_q : q.ok) (in_q : PgIn w q y0 y1 y2 y3 y4 y5) :
    Calls Tryd.prog 7 #[pgV p x0 x1 x2 x3 x4 x5 c0 c1 c2 c3 c4 c5, pgV q y0 y1 y2 y3 y4 y5 d0 d1 d2 d3 d4 d5] w fun e w' => e = .returned (.bool true) ∧ Below w.heap.size w w' := by
  have HK := Lib.hid K
  have HOP := Lib.hid ok_p
  have HOQ := Lib.hid ok_q
  obtain ⟨W0, hW0⟩ : ∃ W0, W0 = (w.alloc (.cells #[.slice x0 p.ins.length c0, .slice x1 p.outs.length c1, .slice x2 p.slots.length c2, .slice x3 p.mems.length c3, .slice x4 p.consts.length c4, .slice x5 p.code.length c5] 27)).alloc (.cells #[.slice y0 q.ins.length d0, .slice y1 q.outs.length d1, .slice y2 q.slots.length d2, .slice y3 q.mems.length d3, .slice y4 q.consts.length d4, .slice y5 q.code.length d5] 27) := ⟨_, rfl⟩
  have hb1 : Below w.heap.size w (w.alloc (.cells #[.slice x0 p.ins.length c0, .slice x1 p.outs.length c1, .slice x2 p.slots.length c2, .slice x3 p.mems.length c3, .slice x4 p.consts.length c4, .slice x5 p.code.length c5] 27)) := (Below.refl _ _).alloc (Nat.le_refl _) _
  have hb0 : Below w.heap.size w W0 := by rw [hW0]; exact hb1.alloc hb1.size _
  obtain ⟨B1, hB1⟩ : ∃ B, B = w.heap.size := ⟨_, rfl⟩
  obtain ⟨B3, hB3⟩ : ∃ B, B = w.heap.size + 1 := ⟨_, rfl⟩
  have s1 : (w.alloc (.cells #[.slice x0 p.ins.length c0, .slice x1 p.outs.length c1, .slice x2 p.slots.length c2, .slice x3 p.mems.length c3, .slice x4 p.consts.length c4, .slice x5 p.code.length c5] 27)).heap.size = B3 := by rw [hB3]; simp
  have k1 := heap_alloc_new w (.cells #[.slice x0 p.ins.length c0, .slice x1 p.outs.length c1, .slice x2 p.slots.length c2, .slice x3 p.mems.length c3, .slice x4 p.consts.length c4, .slice x5 p.code.length c5] 27)
  have k3 := heap_alloc_new (w.alloc (.cells #[.slice x0 p.ins.length c0, .slice x1 p.outs.length c1, .slice x2 p.slots.length c2, .slice x3 p.mems.length c3, .slice x4 p.consts.length c4, .slice x5 p.code.length c5] 27)) (.cells #[.slice y0 q.ins.length d0, .slice y1 q.outs.length d1, .slice y2 q.slots.length d2, .slice y3 q.mems.length d3, .slice y4 q.consts.length d4, .slice y5 q.code.length d5] 27)
  have a10 : Below (w.alloc (.cells #[.slice x0 p.ins.length c0, .slice x1 p.outs.length c1, .slice x2 p.slots.length c2, .slice x3 p.mems.length c3, .slice x4 p.consts.length c4, .slice x5 p.code.length c5] 27)).heap.size (w.alloc (.cells #[.slice x0 p.ins.length c0, .slice x1 p.outs.length c1, .slice x2 p.slots.length c2, .slice x3 p.mems.length c3, .slice x4 p.consts.length c4, .slice x5 p.code.length c5] 27)) W0 := by rw [hW0]; exact (Below.refl _ _).alloc (Nat.le_refl _) _
  rw [s1, ← hW0] at k3
  rw [← hB1] at k1
  rw [s1] at a10
  have HX1 := Lib.hid ((a10.block B1 (by omega)).trans k1)
  have HX3 := Lib.hid k3
  have HP := Lib.hid (in_p.below hb0)
  have HQ := Lib.hid (in_q.below hb0)
  have HB0 := Lib.hid hb0
  have HT := Lib.hid (K.keep _ _ hT hb0)
  have HW0 := Lib.hid hW0
  have HBB1 := Lib.hid hB1
  have HBB3 := Lib.hid hB3
  have HSP := Lib.hid size_prog
  have ka := awake14_any K W0 HT.out
  clear K ok_p ok_q hW0 hb1 hb0 hB1 hB3 s1 k1 k3 a10 in_p in_q hT
  unfold pgV
  go_enter Tryd.func7, Tryd.ntmps7
  go_upto_region 1 with fail
  rw [← HW0.out, ← HBB3.out, ← HBB1.out]
  go_wp2_with fail
  (with_reducible refine ka.mono ?_)
  rintro e w1 ⟨rfl, hb⟩
  clear ka
  have HB1 := Lib.hid hb
  have HX1a := Lib.hid ((hb.block B1 (Array.getElem?_eq_some_iff.1 HX1.out).1).trans HX1.out)
  have kg : Calls Tryd.prog 14 #[.agg #[.slice x0 p.ins.length c0, .slice x1 p.outs.length c1, .slice x2 p.slots.length c2, .slice x3 p.mems.length c3, .slice x4 p.consts.length c4, .slice x5 p.code.length c5]] w1 (fun e w' => e = .returned (.bool (greatP p)) ∧ Below w1.heap.size w1 w') := great14_any p x0 x1 x2 x3 x4 x5 c0 c1 c2 c3 c4 c5 w1
  clear hb
  obtain ⟨gp, hgp⟩ : ∃ g, g = greatP p := ⟨_, rfl⟩
  rw [← hgp] at kg
  have HGP := Lib.hid hgp
  clear hgp
  go_wp2_with (refine wpList_load_row rfl 27 (.tmp 2) rfl B1 rfl 27 #[.slice x0 p.ins.length c0, .slice x1 p.outs.length c1, .slice x2 p.slots.length c2, .slice x3 p.mems.length c3, .slice x4 p.consts.length c4, .slice x5 p.code.length c5] (0, 0) _ ?_ Tryd.underlying27 rfl HSP.out ?_; (exact HX1a.out))
  (with_reducible refine kg.mono ?_)
  rintro e w2 ⟨rfl, hb⟩
  clear kg
  have HB2 := Lib.hid (HB1.out.trans (hb.mono HB1.out.size))
  clear hb
  cases gp with
  | true =>
    go_wp2_with fail
    go_ret
    exact ⟨rfl, HB0.out.trans (HB2.out.mono HB0.out.size)⟩
  | false =>
    have HSMP := Lib.hid (great_no HGP.out.symm)
    have HX3a := Lib.hid ((HB2.out.block B3 (Array.getElem?_eq_some_iff.1 HX3.out).1).trans HX3.out)
    have kg : Calls Tryd.prog 14 #[.agg #[.slice y0 q.ins.length d0, .slice y1 q.outs.length d1, .slice y2 q.slots.length d2, .slice y3 q.mems.length d3, .slice y4 q.consts.length d4, .slice y5 q.code.length d5]] w2 (fun e w' => e = .returned (.bool (greatP q)) ∧ Below w2.heap.size w2 w') := great14_any q y0 y1 y2 y3 y4 y5 d0 d1 d2 d3 d4 d5 w2
    obtain ⟨gq, hgq⟩ : ∃ g, g = greatP q := ⟨_, rfl⟩
    rw [← hgq] at kg
    have HGQ := Lib.hid hgq
    clear hgq
    go_wp2_with (refine wpList_load_row_g 2 false rfl rfl 27 (.tmp 3) rfl B3 rfl 27 #[.slice y0 q.ins.length d0, .slice y1 q.outs.length d1, .slice y2 q.slots.length d2, .slice y3 q.mems.length d3, .slice y4 q.consts.length d4, .slice y5 q.code.length d5] (0, 0) _ ?_ Tryd.underlying27 rfl HSP.out ?_; (exact HX3a.out))
    (with_reducible refine kg.mono ?_)
    rintro e w3 ⟨rfl, hb⟩
    clear kg
    have HB3 := Lib.hid (HB2.out.trans (hb.mono HB2.out.size))
    clear hb
    cases gq with
    | true =>
      go_wp2_with fail
      go_ret
      exact ⟨rfl, HB0.out.trans (HB3.out.mono HB0.out.size)⟩
    | false =>
      have HSMQ := Lib.hid (great_no HGQ.out.symm)
      have HX1b := Lib.hid ((HB3.out.block B1 (Array.getElem?_eq_some_iff.1 HX1.out).1).trans HX1.out)
      have HX3b := Lib.hid ((HB3.out.block B3 (Array.getElem?_eq_some_iff.1 HX3.out).1).trans HX3.out)
      have qp0 := cell_of_row w3 B1 0 _ _ _ HX1b.out
      have qq0 := cell_of_row w3 B3 0 _ _ _ HX3b.out
      have qp1 := cell_of_row w3 B1 1 _ _ _ HX1b.out
      have qq1 := cell_of_row w3 B3 1 _ _ _ HX3b.out
      have qp2 := cell_of_row w3 B1 2 _ _ _ HX1b.out
      have qq2 := cell_of_row w3 B3 2 _ _ _ HX3b.out
      have qp3 := cell_of_row w3 B1 3 _ _ _ HX1b.out
      have qq3 := cell_of_row w3 B3 3 _ _ _ HX3b.out
      have qp4 := cell_of_row w3 B1 4 _ _ _ HX1b.out
      have qq4 := cell_of_row w3 B3 4 _ _ _ HX3b.out
      have qp5 := cell_of_row w3 B1 5 _ _ _ HX1b.out
      have qq5 := cell_of_row w3 B3 5 _ _ _ HX3b.out
      go_upto_region 5 with fail
      go_cut [5] (fun v5 wx => ∃ s : Bool, v5 = .bool s ∧ Below W0.heap.size W0 wx ∧ (p = q → s = true) ∧ (s = true → p.code.length = q.code.length ∧ p.consts.length = q.consts.length))
      case first =>
        by_cases g0 : p.ins.length = q.ins.length
        · have d0_ : ((p.ins.length : Int) == (q.ins.length : Int)) = true := by simp [g0]
          have HG0 := Lib.hid g0
          clear g0
          by_cases g1 : p.outs.length = q.outs.length
          · have d1_ : ((p.outs.length : Int) == (q.outs.length : Int)) = true := by simp [g1]
            have HG1 := Lib.hid g1
            clear g1
            by_cases g2 : p.slots.length = q.slots.length
            · have d2_ : ((p.slots.length : Int) == (q.slots.length : Int)) = true := by simp [g2]
              have HG2 := Lib.hid g2
              clear g2
              by_cases g3 : p.mems.length = q.mems.length
              · have d3_ : ((p.mems.length : Int) == (q.mems.length : Int)) = true := by simp [g3]
                have HG3 := Lib.hid g3
                clear g3
                by_cases g4 : p.consts.length = q.consts.length
                · have d4_ : ((p.consts.length : Int) == (q.consts.length : Int)) = true := by simp [g4]
                  have HG4 := Lib.hid g4
                  clear g4
                  by_cases g5 : p.code.length = q.code.length
                  · have d5_ : ((p.code.length : Int) == (q.code.length : Int)) = true := by simp [g5]
                    have HG5 := Lib.hid g5
                    clear g5
                    go_wp2_with fail
                    go_meet
                    exact ⟨true, rfl, by first | exact HB3.out | exact HB3.out.drew, fun _ => rfl, fun _ => ⟨HG5.out, HG4.out⟩⟩
                  · have d5_ : ((p.code.length : Int) == (q.code.length : Int)) = false := by simp; omega
                    have HG5 := Lib.hid g5
                    clear g5
                    go_wp2_with fail
                    go_meet
                    exact ⟨false, rfl, by first | exact HB3.out | exact HB3.out.drew, fun h => absurd (by rw [h]) HG5.out, fun h => by cases h⟩
                · have d4_ : ((p.consts.length : Int) == (q.consts.length : Int)) = false := by simp; omega
                  have HG4 := Lib.hid g4
                  clear g4
                  go_wp2_with fail
                  go_meet
                  exact ⟨false, rfl, by first | exact HB3.out | exact HB3.out.drew, fun h => absurd (by rw [h]) HG4.out, fun h => by cases h⟩
              · have d3_ : ((p.mems.length : Int) == (q.mems.length : Int)) = false := by simp; omega
                have HG3 := Lib.hid g3
                clear g3
                go_wp2_with fail
                go_meet
                exact ⟨false, rfl, by first | exact HB3.out | exact HB3.out.drew, fun h => absurd (by rw [h]) HG3.out, fun h => by cases h⟩
            · have d2_ : ((p.slots.length : Int) == (q.slots.length : Int)) = false := by simp; omega
              have HG2 := Lib.hid g2
              clear g2
              go_wp2_with fail
              go_meet
              exact ⟨false, rfl, by first | exact HB3.out | exact HB3.out.drew, fun h => absurd (by rw [h]) HG2.out, fun h => by cases h⟩
          · have d1_ : ((p.outs.length : Int) == (q.outs.length : Int)) = false := by simp; omega
            have HG1 := Lib.hid g1
            clear g1
            go_wp2_with fail
            go_meet
            exact ⟨false, rfl, by first | exact HB3.out | exact HB3.out.drew, fun h => absurd (by rw [h]) HG1.out, fun h => by cases h⟩
        · have d0_ : ((p.ins.length : Int) == (q.ins.length : Int)) = false := by simp; omega
          have HG0 := Lib.hid g0
          clear g0
          go_wp2_with fail
          go_meet
          exact ⟨false, rfl, by first | exact HB3.out | exact HB3.out.drew, fun h => absurd (by rw [h]) HG0.out, fun h => by cases h⟩
      case rest =>
        rename World => wr
        obtain ⟨s0, rfl, hb, h1, h2⟩ := hcut
        have HBs := Lib.hid hb
        have HS1 := Lib.hid h1
        have HS2 := Lib.hid h2
        clear hb h1 h2 qp0 qp1 qp2 qp3 qp4 qp5 qq0 qq1 qq2 qq3 qq4 qq5
        go_upto_block 0 with fail
        go_cut [5] (fun v5 wx => ∃ s : Bool, v5 = .bool s ∧ Below W0.heap.size W0 wx ∧ (p = q → s = true) ∧ (s = true → p.code.length = q.code.length ∧ p.consts.length = q.consts.length))
        case first =>
          go_wp2_with fail
          go_loopw [5, 6] (fun v5 vi wx => ∃ (i : Nat) (s : Bool), v5 = .bool s ∧ vi = .int .i64 (i : Int) ∧ i ≤ p.code.length ∧ Below W0.heap.size W0 wx ∧ (p = q → s = true) ∧ (s = true → p.code.length = q.code.length ∧ p.consts.length = q.consts.length))
            (fun _ vi _ => p.code.length - (intOf vi).toNat)
          case atStart => exact ⟨0, s0, rfl, rfl, Nat.zero_le _, HBs.out, HS1.out, HS2.out⟩
          case round =>
            obtain ⟨i, s, rfl, rfl, hi, hb, h1, h2⟩ := hrel
            have HI := Lib.hid hi
            have HBr := Lib.hid hb
            have H1 := Lib.hid h1
            have H2 := Lib.hid h2
            have HX1r := Lib.hid ((hb.block B1 (Array.getElem?_eq_some_iff.1 HX1.out).1).trans HX1.out)
            have HX3r := Lib.hid ((hb.block B3 (Array.getElem?_eq_some_iff.1 HX3.out).1).trans HX3.out)
            have q0 := cell_of_row wr B1 5 _ _ _ HX1r.out
            clear hi hb h1 h2
            by_cases hil : i < p.code.length
            · have d1 : decide ((i : Int) < (p.code.length : Int)) = true := by simp; omega
              cases s with
              | false =>
                go_wp2_with fail
                go_meet
                exact ⟨false, rfl, HBr.out, H1.out, H2.out⟩
              | true =>
                have HIL := Lib.hid hil
                have HLEN := Lib.hid (H2.out rfl)
                have hiq : i < q.code.length := by have := HLEN.out.1; omega
                have HIQ := Lib.hid hiq
                obtain ⟨ga, oa, hxa, hga, hra⟩ := (HP.out.below HBr.out).code (by intro h; rw [h] at hil; simp at hil)
                obtain ⟨gb, ob, hxb, hgb, hrb⟩ := (HQ.out.below HBr.out).code (by intro h; rw [h] at hiq; simp at hiq)
                have hra := hra i hil
                have hrb := hrb i hiq
                obtain ⟨xa_, hxa_⟩ : ∃ x, x = p.code[i]'hil := ⟨_, rfl⟩
                obtain ⟨xb_, hxb_⟩ : ∃ x, x = q.code[i]'hiq := ⟨_, rfl⟩
                rw [← hxa_] at hra
                rw [← hxb_] at hrb
                have HXA : Hid (p.code[i]? = some xa_) := Lib.hid (by rw [hxa_]; exact List.getElem?_eq_getElem hil)
                have HXB : Hid (q.code[i]? = some xb_) := Lib.hid (by rw [hxb_]; exact List.getElem?_eq_getElem hiq)
                skip
                have HRA := Lib.hid hra
                have HRB := Lib.hid hrb
                have HGA := Lib.hid hga
                have HGB := Lib.hid hgb
                have HPX := Lib.hid hxa
                have HQX := Lib.hid hxb
                subst hxa
                subst hxb
                clear hra hrb hga hgb hxa_ hxb_ hiq HPX HQX
                go_upto_region 9 with fail
                refine wp_region_steps (words [wIs (.pointer (some ⟨B1, 5, none⟩)), wIs (.slice (some ⟨ga, oa, none⟩) p.code.length c5), wIs (.int .i64 (i : Int)), wIs (.pointer (some ⟨ga, oa + i * 4, none⟩)), wIs (.agg #[.int .i64 xa_.op, .int .i64 xa_.a, .int .i64 xa_.b, .int .i64 xa_.c]), wIs (.pointer (some ⟨B3, 5, none⟩)), wIs (.slice (some ⟨gb, ob, none⟩) q.code.length d5), wIs (.int .i64 (i : Int)), wIs (.pointer (some ⟨gb, ob + i * 4, none⟩)), wIs (.agg #[.int .i64 xb_.op, .int .i64 xb_.a, .int .i64 xb_.b, .int .i64 xb_.c]), wIs (.bool (in4Eq xa_ xb_)), wIs (.bool (in4Eq xa_ xb_))]) wr.heap.size wr (by kernel_rfl) (Below.refl _ _) (Nat.le_refl _) (words_stable ?stab) rfl rfl (by kernel_rfl) ?steps ?rest2
                case stab =>
                  intro f hf
                  simp only [List.mem_cons, List.not_mem_nil, or_false] at hf
                  rcases hf with rfl | rfl | rfl | rfl | rfl | rfl | rfl | rfl | rfl | rfl | rfl | rfl <;> first | exact stable_is _
                case steps =>
                  refine Steps.cons (step_value rfl fun xa W hp => ?_) ?_
                  · have e0 : xa.tmps.getD 2 undef = .pointer (some ⟨B1, 0, none⟩) := hp.old 2 rfl
                    have e1 : (Instr.fieldAt 27 (.pointer (some ⟨B1, 0, none⟩)) 5).run Tryd.prog W = .ok (.pointer (some ⟨B1, 5, none⟩)) W := by kernel_rfl
                    exact ⟨(wanted_none rfl), _, _, run_fa4 rfl e0 e1, rfl, Below.refl _ _⟩
                  refine Steps.cons (step_value rfl fun xa W hp => ?_) ?_
                  · have e0 : xa.tmps.getD 80 undef = .pointer (some ⟨B1, 5, none⟩) := (hp.on_ 0 rfl rfl rfl).2
                    exact ⟨(wanted_none rfl), _, _, run_ldv rfl e0 (cell_of_row W (B1) 5 _ _ _ ((hp.below.block (B1) (Array.getElem?_eq_some_iff.1 HX1r.out).1).trans HX1r.out)) Tryd.underlying25 rfl (by kernel_rfl), rfl, Below.refl _ _⟩
                  refine Steps.cons (step_value rfl fun xa W hp => ⟨(wanted_none rfl), _, _, run_move (.inl rfl), hp.old 6 rfl, Below.refl _ _⟩) ?_
                  refine Steps.cons (step_value rfl fun xa W hp => ?_) ?_
                  · have e0 : xa.tmps.getD 81 undef = .slice (some ⟨ga, oa, none⟩) p.code.length c5 := (hp.on_ 1 rfl rfl rfl).2
                    have e1 : xa.tmps.getD 82 undef = .int .i64 (i : Int) := (hp.on_ 2 rfl rfl rfl).2
                    exact ⟨(wanted_none rfl), _, _, run_idx14 (k := i) Tryd.underlying25 size_in4 rfl e0 e1 HIL.out, rfl, Below.refl _ _⟩
                  refine Steps.cons (step_value rfl fun xa W hp => ?_) ?_
                  · have e0 : xa.tmps.getD 83 undef = .pointer (some ⟨ga, oa + i * 4, none⟩) := (hp.on_ 3 rfl rfl rfl).2
                    exact ⟨(wanted_none rfl), _, _, run_ldmid14 rfl e0 (rangeAt_pg HRA.out hp.below HGA.out) rfl Tryd.underlying36 size_in4, rfl, Below.refl _ _⟩
                  refine Steps.cons (step_value rfl fun xa W hp => ?_) ?_
                  · have e0 : xa.tmps.getD 3 undef = .pointer (some ⟨B3, 0, none⟩) := hp.old 3 rfl
                    have e1 : (Instr.fieldAt 27 (.pointer (some ⟨B3, 0, none⟩)) 5).run Tryd.prog W = .ok (.pointer (some ⟨B3, 5, none⟩)) W := by kernel_rfl
                    exact ⟨(wanted_none rfl), _, _, run_fa4 rfl e0 e1, rfl, Below.refl _ _⟩
                  refine Steps.cons (step_value rfl fun xa W hp => ?_) ?_
                  · have e0 : xa.tmps.getD 85 undef = .pointer (some ⟨B3, 5, none⟩) := (hp.on_ 5 rfl rfl rfl).2
                    exact ⟨(wanted_none rfl), _, _, run_ldv rfl e0 (cell_of_row W (B3) 5 _ _ _ ((hp.below.block (B3) (Array.getElem?_eq_some_iff.1 HX3r.out).1).trans HX3r.out)) Tryd.underlying25 rfl (by kernel_rfl), rfl, Below.refl _ _⟩
                  refine Steps.cons (step_value rfl fun xa W hp => ⟨(wanted_none rfl), _, _, run_move (.inl rfl), hp.old 6 rfl, Below.refl _ _⟩) ?_
                  refine Steps.cons (step_value rfl fun xa W hp => ?_) ?_
                  · have e0 : xa.tmps.getD 86 undef = .slice (some ⟨gb, ob, none⟩) q.code.length d5 := (hp.on_ 6 rfl rfl rfl).2
                    have e1 : xa.tmps.getD 87 undef = .int .i64 (i : Int) := (hp.on_ 7 rfl rfl rfl).2
                    exact ⟨(wanted_none rfl), _, _, run_idx14 (k := i) Tryd.underlying25 size_in4 rfl e0 e1 HIQ.out, rfl, Below.refl _ _⟩
                  refine Steps.cons (step_value rfl fun xa W hp => ?_) ?_
                  · have e0 : xa.tmps.getD 88 undef = .pointer (some ⟨gb, ob + i * 4, none⟩) := (hp.on_ 8 rfl rfl rfl).2
                    exact ⟨(wanted_none rfl), _, _, run_ldmid14 rfl e0 (rangeAt_pg HRB.out hp.below HGB.out) rfl Tryd.underlying36 size_in4, rfl, Below.refl _ _⟩
                  refine Steps.cons (step_value rfl fun xa W hp => ?_) ?_
                  · have e0 : xa.tmps.getD 84 undef = .agg #[.int .i64 xa_.op, .int .i64 xa_.a, .int .i64 xa_.b, .int .i64 xa_.c] := (hp.on_ 4 rfl rfl rfl).2
                    have e1 : xa.tmps.getD 89 undef = .agg #[.int .i64 xb_.op, .int .i64 xb_.a, .int .i64 xb_.b, .int .i64 xb_.c] := (hp.on_ 9 rfl rfl rfl).2
                    refine ⟨(wanted_none rfl), _, _, run_bin3 rfl (v := .bool (in4Eq xa_ xb_)) ?_ ?_, rfl, Below.refl _ _⟩
                    · show (eqGuard .eql _ _ _ (xa.tmps.getD 84 undef) (xa.tmps.getD 89 undef)).run _ W = _
                      rw [e0, e1]; first | rfl | kernel_rfl | (simp [eqGuard]; done) | (unfold eqGuard; simp; done)
                    · show (binOp .eql _ (xa.tmps.getD 84 undef) (xa.tmps.getD 89 undef)).run _ W = _
                      rw [e0, e1]; first | rfl | (exact in4_eql xa_ xb_ W)
                  refine Steps.cons (step_value rfl fun xa W hp => ⟨(wanted_none rfl), _, _, run_move (.inr rfl), (hp.on_ 10 rfl rfl rfl).2, Below.refl _ _⟩) ?_
                  exact Steps.nil
                case rest2 =>
                  intro act W hI
                  have hbW := hI.below
                  have h5 : act.tmps.getD 5 undef = .bool (in4Eq xa_ xb_) := hI.new 11 _ 5 rfl rfl rfl
                  obtain ⟨fo, hfo, hx⟩ := puts_of hI.tmps hI.defers hI.old [80, 81, 82, 83, 84, 85, 86, 87, 88, 89, 90, 5] rfl
                  rw [hfo] at h5
                  have HBW := Lib.hid (HBr.out.trans (hbW.mono HBr.out.size))
                  clear hI hfo hbW
                  subst hx
                  simp only [Exit.inBlock, Exit.then, List.foldl, Act.put, List.setIfInBounds_toArray, List.set_cons_succ, List.set_cons_zero]
                  rw [h5]
                  clear h5
                  go_wp2_with fail
                  rw [wrap_in14 _ (by have := HIL.out; have := HSMP.out; unfold Pg.sum at this; omega)]
                  refine ⟨⟨i + 1, (in4Eq xa_ xb_), rfl, by go_num, HIL.out, HBW.out, fun h => ?_, fun _ => HLEN.out⟩, ?_⟩
                  · have hA := HXA.out
                    have hB := HXB.out
                    rw [h] at hA
                    rw [hA] at hB
                    injection hB with hB
                    rw [hB]
                    exact in4Eq_self _
                  · have := HIL.out
                    simp [intOf]; omega
            · obtain rfl : i = p.code.length := by have := HI.out; omega
              have d1 : decide ((p.code.length : Int) < (p.code.length : Int)) = false := by simp
              go_wp2_with fail
              go_meet
              exact ⟨s, rfl, HBr.out, H1.out, H2.out⟩
        case rest =>
          rename World => wr
          obtain ⟨s0, rfl, hb, h1, h2⟩ := hcut
          have HBs := Lib.hid hb
          have HS1 := Lib.hid h1
          have HS2 := Lib.hid h2
          clear hb h1 h2
          go_upto_block 2 with fail
          go_cut [5] (fun v5 wx => ∃ s : Bool, v5 = .bool s ∧ Below W0.heap.size W0 wx ∧ (p = q → s = true) ∧ (s = true → p.code.length = q.code.length ∧ p.consts.length = q.consts.length))
          case first =>
            go_wp2_with fail
            go_loopw [5, 7] (fun v5 vi wx => ∃ (i : Nat) (s : Bool), v5 = .bool s ∧ vi = .int .i64 (i : Int) ∧ i ≤ p.consts.length ∧ Below W0.heap.size W0 wx ∧ (p = q → s = true) ∧ (s = true → p.code.length = q.code.length ∧ p.consts.length = q.consts.length))
              (fun _ vi _ => p.consts.length - (intOf vi).toNat)
            case atStart => exact ⟨0, s0, rfl, rfl, Nat.zero_le _, HBs.out, HS1.out, HS2.out⟩
            case round =>
              obtain ⟨i, s, rfl, rfl, hi, hb, h1, h2⟩ := hrel
              have HI := Lib.hid hi
              have HBr := Lib.hid hb
              have H1 := Lib.hid h1
              have H2 := Lib.hid h2
              have HX1r := Lib.hid ((hb.block B1 (Array.getElem?_eq_some_iff.1 HX1.out).1).trans HX1.out)
              have HX3r := Lib.hid ((hb.block B3 (Array.getElem?_eq_some_iff.1 HX3.out).1).trans HX3.out)
              have q0 := cell_of_row wr B1 4 _ _ _ HX1r.out
              clear hi hb h1 h2
              by_cases hil : i < p.consts.length
              · have d1 : decide ((i : Int) < (p.consts.length : Int)) = true := by simp; omega
                cases s with
                | false =>
                  go_wp2_with fail
                  go_meet
                  exact ⟨false, rfl, HBr.out, H1.out, H2.out⟩
                | true =>
                  have HIL := Lib.hid hil
                  have HLEN := Lib.hid (H2.out rfl)
                  have hiq : i < q.consts.length := by have := HLEN.out.2; omega
                  have HIQ := Lib.hid hiq
                  obtain ⟨ga, oa, hxa, hga, hra⟩ := (HP.out.below HBr.out).consts (by intro h; rw [h] at hil; simp at hil)
                  obtain ⟨gb, ob, hxb, hgb, hrb⟩ := (HQ.out.below HBr.out).consts (by intro h; rw [h] at hiq; simp at hiq)
                  have hra := hra i hil
                  have hrb := hrb i hiq
                  obtain ⟨xa_, hxa_⟩ : ∃ x, x = p.consts[i]'hil := ⟨_, rfl⟩
                  obtain ⟨xb_, hxb_⟩ : ∃ x, x = q.consts[i]'hiq := ⟨_, rfl⟩
                  rw [← hxa_] at hra
                  rw [← hxb_] at hrb
                  have HXA : Hid (p.consts[i]? = some xa_) := Lib.hid (by rw [hxa_]; exact List.getElem?_eq_getElem hil)
                  have HXB : Hid (q.consts[i]? = some xb_) := Lib.hid (by rw [hxb_]; exact List.getElem?_eq_getElem hiq)
                  rw [show oa + i = oa + i * 1 by omega] at hra
                  rw [show ob + i = ob + i * 1 by omega] at hrb
                  have HRA := Lib.hid hra
                  have HRB := Lib.hid hrb
                  have HGA := Lib.hid hga
                  have HGB := Lib.hid hgb
                  have HPX := Lib.hid hxa
                  have HQX := Lib.hid hxb
                  subst hxa
                  subst hxb
                  clear hra hrb hga hgb hxa_ hxb_ hiq HPX HQX
                  go_upto_region 13 with fail
                  refine wp_region_steps (words [wIs (.pointer (some ⟨B1, 4, none⟩)), wIs (.slice (some ⟨ga, oa, none⟩) p.consts.length c4), wIs (.int .i64 (i : Int)), wIs (.pointer (some ⟨ga, oa + i * 1, none⟩)), wIs (.int .i64 xa_), wIs (.pointer (some ⟨B3, 4, none⟩)), wIs (.slice (some ⟨gb, ob, none⟩) q.consts.length d4), wIs (.int .i64 (i : Int)), wIs (.pointer (some ⟨gb, ob + i * 1, none⟩)), wIs (.int .i64 xb_), wIs (.bool (xa_ == xb_)), wIs (.bool (xa_ == xb_))]) wr.heap.size wr (by kernel_rfl) (Below.refl _ _) (Nat.le_refl _) (words_stable ?stab) rfl rfl (by kernel_rfl) ?steps ?rest2
                  case stab =>
                    intro f hf
                    simp only [List.mem_cons, List.not_mem_nil, or_false] at hf
                    rcases hf with rfl | rfl | rfl | rfl | rfl | rfl | rfl | rfl | rfl | rfl | rfl | rfl <;> first | exact stable_is _
                  case steps =>
                    refine Steps.cons (step_value rfl fun xa W hp => ?_) ?_
                    · have e0 : xa.tmps.getD 2 undef = .pointer (some ⟨B1, 0, none⟩) := hp.old 2 rfl
                      have e1 : (Instr.fieldAt 27 (.pointer (some ⟨B1, 0, none⟩)) 4).run Tryd.prog W = .ok (.pointer (some ⟨B1, 4, none⟩)) W := by kernel_rfl
                      exact ⟨(wanted_none rfl), _, _, run_fa4 rfl e0 e1, rfl, Below.refl _ _⟩
                    refine Steps.cons (step_value rfl fun xa W hp => ?_) ?_
                    · have e0 : xa.tmps.getD 101 undef = .pointer (some ⟨B1, 4, none⟩) := (hp.on_ 0 rfl rfl rfl).2
                      exact ⟨(wanted_none rfl), _, _, run_ldv rfl e0 (cell_of_row W (B1) 4 _ _ _ ((hp.below.block (B1) (Array.getElem?_eq_some_iff.1 HX1r.out).1).trans HX1r.out)) Tryd.underlying24 rfl (by kernel_rfl), rfl, Below.refl _ _⟩
                    refine Steps.cons (step_value rfl fun xa W hp => ⟨(wanted_none rfl), _, _, run_move (.inl rfl), hp.old 7 rfl, Below.refl _ _⟩) ?_
                    refine Steps.cons (step_value rfl fun xa W hp => ?_) ?_
                    · have e0 : xa.tmps.getD 102 undef = .slice (some ⟨ga, oa, none⟩) p.consts.length c4 := (hp.on_ 1 rfl rfl rfl).2
                      have e1 : xa.tmps.getD 103 undef = .int .i64 (i : Int) := (hp.on_ 2 rfl rfl rfl).2
                      exact ⟨(wanted_none rfl), _, _, run_idx14 (k := i) Tryd.underlying24 (by kernel_rfl) rfl e0 e1 HIL.out, rfl, Below.refl _ _⟩
                    refine Steps.cons (step_value rfl fun xa W hp => ?_) ?_
                    · have e0 : xa.tmps.getD 104 undef = .pointer (some ⟨ga, oa + i * 1, none⟩) := (hp.on_ 3 rfl rfl rfl).2
                      exact ⟨(wanted_none rfl), _, _, run_ldv rfl e0 ((hp.below.cell (p := ⟨ga, oa + i * 1, none⟩) HGA.out).trans HRA.out) Tryd.underlying2 rfl (by kernel_rfl), rfl, Below.refl _ _⟩
                    refine Steps.cons (step_value rfl fun xa W hp => ?_) ?_
                    · have e0 : xa.tmps.getD 3 undef = .pointer (some ⟨B3, 0, none⟩) := hp.old 3 rfl
                      have e1 : (Instr.fieldAt 27 (.pointer (some ⟨B3, 0, none⟩)) 4).run Tryd.prog W = .ok (.pointer (some ⟨B3, 4, none⟩)) W := by kernel_rfl
                      exact ⟨(wanted_none rfl), _, _, run_fa4 rfl e0 e1, rfl, Below.refl _ _⟩
                    refine Steps.cons (step_value rfl fun xa W hp => ?_) ?_
                    · have e0 : xa.tmps.getD 106 undef = .pointer (some ⟨B3, 4, none⟩) := (hp.on_ 5 rfl rfl rfl).2
                      exact ⟨(wanted_none rfl), _, _, run_ldv rfl e0 (cell_of_row W (B3) 4 _ _ _ ((hp.below.block (B3) (Array.getElem?_eq_some_iff.1 HX3r.out).1).trans HX3r.out)) Tryd.underlying24 rfl (by kernel_rfl), rfl, Below.refl _ _⟩
                    refine Steps.cons (step_value rfl fun xa W hp => ⟨(wanted_none rfl), _, _, run_move (.inl rfl), hp.old 7 rfl, Below.refl _ _⟩) ?_
                    refine Steps.cons (step_value rfl fun xa W hp => ?_) ?_
                    · have e0 : xa.tmps.getD 107 undef = .slice (some ⟨gb, ob, none⟩) q.consts.length d4 := (hp.on_ 6 rfl rfl rfl).2
                      have e1 : xa.tmps.getD 108 undef = .int .i64 (i : Int) := (hp.on_ 7 rfl rfl rfl).2
                      exact ⟨(wanted_none rfl), _, _, run_idx14 (k := i) Tryd.underlying24 (by kernel_rfl) rfl e0 e1 HIQ.out, rfl, Below.refl _ _⟩
                    refine Steps.cons (step_value rfl fun xa W hp => ?_) ?_
                    · have e0 : xa.tmps.getD 109 undef = .pointer (some ⟨gb, ob + i * 1, none⟩) := (hp.on_ 8 rfl rfl rfl).2
                      exact ⟨(wanted_none rfl), _, _, run_ldv rfl e0 ((hp.below.cell (p := ⟨gb, ob + i * 1, none⟩) HGB.out).trans HRB.out) Tryd.underlying2 rfl (by kernel_rfl), rfl, Below.refl _ _⟩
                    refine Steps.cons (step_value rfl fun xa W hp => ?_) ?_
                    · have e0 : xa.tmps.getD 105 undef = .int .i64 xa_ := (hp.on_ 4 rfl rfl rfl).2
                      have e1 : xa.tmps.getD 110 undef = .int .i64 xb_ := (hp.on_ 9 rfl rfl rfl).2
                      refine ⟨(wanted_none rfl), _, _, run_bin3 rfl (v := .bool (xa_ == xb_)) ?_ ?_, rfl, Below.refl _ _⟩
                      · show (eqGuard .eql _ _ _ (xa.tmps.getD 105 undef) (xa.tmps.getD 110 undef)).run _ W = _
                        rw [e0, e1]; first | rfl | kernel_rfl | (simp [eqGuard]; done) | (unfold eqGuard; simp; done)
                      · show (binOp .eql _ (xa.tmps.getD 105 undef) (xa.tmps.getD 110 undef)).run _ W = _
                        rw [e0, e1]; first | rfl | (rfl)
                    refine Steps.cons (step_value rfl fun xa W hp => ⟨(wanted_none rfl), _, _, run_move (.inr rfl), (hp.on_ 10 rfl rfl rfl).2, Below.refl _ _⟩) ?_
                    exact Steps.nil
                  case rest2 =>
                    intro act W hI
                    have hbW := hI.below
                    have h5 : act.tmps.getD 5 undef = .bool (xa_ == xb_) := hI.new 11 _ 5 rfl rfl rfl
                    obtain ⟨fo, hfo, hx⟩ := puts_of hI.tmps hI.defers hI.old [101, 102, 103, 104, 105, 106, 107, 108, 109, 110, 111, 5] rfl
                    rw [hfo] at h5
                    have HBW := Lib.hid (HBr.out.trans (hbW.mono HBr.out.size))
                    clear hI hfo hbW
                    subst hx
                    simp only [Exit.inBlock, Exit.then, List.foldl, Act.put, List.setIfInBounds_toArray, List.set_cons_succ, List.set_cons_zero]
                    rw [h5]
                    clear h5
                    go_wp2_with fail
                    rw [wrap_in14 _ (by have := HIL.out; have := HSMP.out; unfold Pg.sum at this; omega)]
                    refine ⟨⟨i + 1, (xa_ == xb_), rfl, by go_num, HIL.out, HBW.out, fun h => ?_, fun _ => HLEN.out⟩, ?_⟩
                    · have hA := HXA.out
                      have hB := HXB.out
                      rw [h] at hA
                      rw [hA] at hB
                      injection hB with hB
                      rw [hB]
                      simp
                    · have := HIL.out
                      simp [intOf]; omega
              · obtain rfl : i = p.consts.length := by have := HI.out; omega
                have d1 : decide ((p.consts.length : Int) < (p.consts.length : Int)) = false := by simp
                go_wp2_with fail
                go_meet
                exact ⟨s, rfl, HBr.out, H1.out, H2.out⟩
          case rest =>
            rename World => wr
            obtain ⟨s0, rfl, hb, h1, h2⟩ := hcut
            have HBs := Lib.hid hb
            have HS1 := Lib.hid h1
            have HS2 := Lib.hid h2
            clear hb h1 h2
            have HX1r := Lib.hid ((HBs.out.block B1 (Array.getElem?_eq_some_iff.1 HX1.out).1).trans HX1.out)
            have HX3r := Lib.hid ((HBs.out.block B3 (Array.getElem?_eq_some_iff.1 HX3.out).1).trans HX3.out)
            have HPr := Lib.hid (HP.out.below HBs.out)
            have HQr := Lib.hid (HQ.out.below HBs.out)
            have HTr := Lib.hid (HK.out.keep _ _ HT.out HBs.out)
            go_upto_region 14 with fail
            refine wp_region_steps (words [wIs (.agg #[.slice x0 p.ins.length c0, .slice x1 p.outs.length c1, .slice x2 p.slots.length c2, .slice x3 p.mems.length c3, .slice x4 p.consts.length c4, .slice x5 p.code.length c5]), wE14 (enc p), wIs (.string ⟨((enc p)).toArray⟩), wIs (.agg #[.slice y0 q.ins.length d0, .slice y1 q.outs.length d1, .slice y2 q.slots.length d2, .slice y3 q.mems.length d3, .slice y4 q.consts.length d4, .slice y5 q.code.length d5]), wE14 (enc q), wIs (.string ⟨((enc q)).toArray⟩), wIs (.string ⟨((enc p)).toArray⟩), wIs (.string ⟨((enc q)).toArray⟩)]) wr.heap.size wr (by kernel_rfl) (Below.refl _ _) (Nat.le_refl _) (words_stable ?stab) rfl rfl (by kernel_rfl) ?steps ?rest2
            case stab =>
              intro f hf
              simp only [List.mem_cons, List.not_mem_nil, or_false] at hf
              rcases hf with rfl | rfl | rfl | rfl | rfl | rfl | rfl | rfl <;> first | exact stable_is _ | exact stable_e14 _
            case steps =>
              refine Steps.cons (step_value rfl fun xa W hp => ?_) ?_
              · have e0 : xa.tmps.getD 2 undef = .pointer (some ⟨B1, 0, none⟩) := hp.old 2 rfl
                exact ⟨(wanted_none rfl), _, _, run_ldrow rfl e0 ((hp.below.block (B1) (Array.getElem?_eq_some_iff.1 HX1r.out).1).trans HX1r.out) Tryd.underlying27 rfl HSP.out, rfl, Below.refl _ _⟩
              refine Steps.cons (step_enter rfl fun xa W hp => ?_) ?_
              · have e0 : xa.tmps.getD 112 undef = .agg #[.slice x0 p.ins.length c0, .slice x1 p.outs.length c1, .slice x2 p.slots.length c2, .slice x3 p.mems.length c3, .slice x4 p.consts.length c4, .slice x5 p.code.length c5] := (hp.on_ 0 rfl rfl rfl).2
                refine ⟨(wanted_none rfl), 10, _, run_enter1 rfl rfl Tryd.call10, ?_⟩
                show Calls _ _ #[xa.tmps.getD 112 undef] W _
                rw [e0]
                refine (HK.out.enc_ p x0 x1 x2 x3 x4 x5 c0 c1 c2 c3 c4 c5 W (HK.out.keep _ _ HTr.out hp.below) HOP.out (by have := HSMP.out; omega) (HPr.out.below hp.below)).mono ?_
                rintro e W' ⟨ae, ce, he, hte, _, _, hbe⟩
                exact ⟨_, he, ⟨ae, ce, rfl, own_txt hte⟩, hbe⟩
              refine Steps.cons (step_value rfl fun xa W hp => ?_) ?_
              · obtain ⟨a0, c0, e0, t0⟩ : wE14 (enc p) (xa.tmps.getD 113 undef) W := (hp.on_ 1 rfl rfl rfl).2
                refine ⟨(wanted_none rfl), _, _, run_conv rfl (W' := W) (v := .string ⟨((enc p)).toArray⟩) ?_, rfl, Below.refl _ _⟩
                show (convert _ _ (xa.tmps.getD 113 undef)).run _ W = _
                rw [e0]
                exact run_string (P := Tryd.prog) W 31 5 9 Tryd.underlying31 Tryd.underlying5 Tryd.underlying9 _ ((enc p)) _ t0
              refine Steps.cons (step_value rfl fun xa W hp => ?_) ?_
              · have e0 : xa.tmps.getD 3 undef = .pointer (some ⟨B3, 0, none⟩) := hp.old 3 rfl
                exact ⟨(wanted_none rfl), _, _, run_ldrow rfl e0 ((hp.below.block (B3) (Array.getElem?_eq_some_iff.1 HX3r.out).1).trans HX3r.out) Tryd.underlying27 rfl HSP.out, rfl, Below.refl _ _⟩
              refine Steps.cons (step_enter rfl fun xa W hp => ?_) ?_
              · have e0 : xa.tmps.getD 115 undef = .agg #[.slice y0 q.ins.length d0, .slice y1 q.outs.length d1, .slice y2 q.slots.length d2, .slice y3 q.mems.length d3, .slice y4 q.consts.length d4, .slice y5 q.code.length d5] := (hp.on_ 3 rfl rfl rfl).2
                refine ⟨(wanted_none rfl), 10, _, run_enter1 rfl rfl Tryd.call10, ?_⟩
                show Calls _ _ #[xa.tmps.getD 115 undef] W _
                rw [e0]
                refine (HK.out.enc_ q y0 y1 y2 y3 y4 y5 d0 d1 d2 d3 d4 d5 W (HK.out.keep _ _ HTr.out hp.below) HOQ.out (by have := HSMQ.out; omega) (HQr.out.below hp.below)).mono ?_
                rintro e W' ⟨ae, ce, he, hte, _, _, hbe⟩
                exact ⟨_, he, ⟨ae, ce, rfl, own_txt hte⟩, hbe⟩
              refine Steps.cons (step_value rfl fun xa W hp => ?_) ?_
              · obtain ⟨a0, c0, e0, t0⟩ : wE14 (enc q) (xa.tmps.getD 116 undef) W := (hp.on_ 4 rfl rfl rfl).2
                refine ⟨(wanted_none rfl), _, _, run_conv rfl (W' := W) (v := .string ⟨((enc q)).toArray⟩) ?_, rfl, Below.refl _ _⟩
                show (convert _ _ (xa.tmps.getD 116 undef)).run _ W = _
                rw [e0]
                exact run_string (P := Tryd.prog) W 31 5 9 Tryd.underlying31 Tryd.underlying5 Tryd.underlying9 _ ((enc q)) _ t0
              refine Steps.cons (step_value rfl fun xa W hp => ⟨(wanted_none rfl), _, _, run_move (.inr rfl), (hp.on_ 2 rfl rfl rfl).2, Below.refl _ _⟩) ?_
              refine Steps.cons (step_value rfl fun xa W hp => ⟨(wanted_none rfl), _, _, run_move (.inr rfl), (hp.on_ 5 rfl rfl rfl).2, Below.refl _ _⟩) ?_
              exact Steps.nil
            case rest2 =>
              intro act W hI
              have hbW := hI.below
              have h8 : act.tmps.getD 8 undef = .string ⟨(enc p).toArray⟩ := hI.new 6 _ 8 rfl rfl rfl
              have h9 : act.tmps.getD 9 undef = .string ⟨(enc q).toArray⟩ := hI.new 7 _ 9 rfl rfl rfl
              obtain ⟨fo, hfo, hx⟩ := puts_of hI.tmps hI.defers hI.old [112, 113, 114, 115, 116, 117, 8, 9] rfl
              rw [hfo] at h8 h9
              have HBW := Lib.hid (HBs.out.trans (hbW.mono HBs.out.size))
              have HX1w := Lib.hid ((HBW.out.block B1 (Array.getElem?_eq_some_iff.1 HX1.out).1).trans HX1.out)
              have HX3w := Lib.hid ((HBW.out.block B3 (Array.getElem?_eq_some_iff.1 HX3.out).1).trans HX3.out)
              clear hI hfo hbW
              subst hx
              simp only [Exit.inBlock, Exit.then, List.foldl, Act.put, List.setIfInBounds_toArray, List.set_cons_succ, List.set_cons_zero]
              rw [h8, h9]
              clear h8 h9
              by_cases he : enc p = enc q
              · have hpq := enc_inj HOP.out (Pg.few_of (by have := HSMP.out; omega)) HOQ.out (Pg.few_of (by have := HSMQ.out; omega)) he
                obtain rfl : s0 = true := HS1.out hpq
                rw [← he]
                have ks : Calls Tryd.prog 13 #[.agg #[.slice x0 p.ins.length c0, .slice x1 p.outs.length c1, .slice x2 p.slots.length c2, .slice x3 p.mems.length c3, .slice x4 p.consts.length c4, .slice x5 p.code.length c5], .agg #[.slice y0 q.ins.length d0, .slice y1 q.outs.length d1, .slice y2 q.slots.length d2, .slice y3 q.mems.length d3, .slice y4 q.consts.length d4, .slice y5 q.code.length d5]] W (fun e w' => e = .returned (.bool true) ∧ Below W.heap.size W w') := by
                  have k := HK.out.same p q x0 x1 x2 x3 x4 x5 c0 c1 c2 c3 c4 c5 y0 y1 y2 y3 y4 y5 d0 d1 d2 d3 d4 d5 W (HK.out.keep _ _ HT.out HBW.out) HOP.out HOQ.out (by have := HSMP.out; omega) (by have := HSMQ.out; omega) (HP.out.below HBW.out) (HQ.out.below HBW.out)
                  rw [decide_eq_true he] at k
                  exact k
                clear he hpq
                obtain ⟨E, hE⟩ : ∃ E, E = enc p := ⟨_, rfl⟩
                rw [← hE]
                clear hE
                go_wp2_with (first | (refine wpList_load_row rfl 27 (.tmp 2) rfl B1 rfl 27 #[.slice x0 p.ins.length c0, .slice x1 p.outs.length c1, .slice x2 p.slots.length c2, .slice x3 p.mems.length c3, .slice x4 p.consts.length c4, .slice x5 p.code.length c5] (0, 0) _ ?_ Tryd.underlying27 rfl HSP.out ?_; (exact HX1w.out)) | (refine wpList_load_row rfl 27 (.tmp 3) rfl B3 rfl 27 #[.slice y0 q.ins.length d0, .slice y1 q.outs.length d1, .slice y2 q.slots.length d2, .slice y3 q.mems.length d3, .slice y4 q.consts.length d4, .slice y5 q.code.length d5] (0, 0) _ ?_ Tryd.underlying27 rfl HSP.out ?_; (exact HX3w.out)))
                (with_reducible refine ks.mono ?_)
                rintro e wS ⟨rfl, hbS⟩
                clear ks
                go_wp2_with fail
                go_ret
                exact ⟨by first | rfl | (simp), HB0.out.trans ((HBW.out.trans (hbS.mono HBW.out.size)).mono HB0.out.size)⟩
              · have hne : (enc p == enc q) = false := by simpa using he
                have ks : Calls Tryd.prog 13 #[.agg #[.slice x0 p.ins.length c0, .slice x1 p.outs.length c1, .slice x2 p.slots.length c2, .slice x3 p.mems.length c3, .slice x4 p.consts.length c4, .slice x5 p.code.length c5], .agg #[.slice y0 q.ins.length d0, .slice y1 q.outs.length d1, .slice y2 q.slots.length d2, .slice y3 q.mems.length d3, .slice y4 q.consts.length d4, .slice y5 q.code.length d5]] W (fun e w' => e = .returned (.bool false) ∧ Below W.heap.size W w') := by
                  have k := HK.out.same p q x0 x1 x2 x3 x4 x5 c0 c1 c2 c3 c4 c5 y0 y1 y2 y3 y4 y5 d0 d1 d2 d3 d4 d5 W (HK.out.keep _ _ HT.out HBW.out) HOP.out HOQ.out (by have := HSMP.out; omega) (by have := HSMQ.out; omega) (HP.out.below HBW.out) (HQ.out.below HBW.out)
                  rw [decide_eq_false he] at k
                  exact k
                obtain ⟨E, hE⟩ : ∃ E, E = enc p := ⟨_, rfl⟩
                obtain ⟨E', hE'⟩ : ∃ E, E = enc q := ⟨_, rfl⟩
                rw [← hE, ← hE'] at hne he ⊢
                have hb1 : ((⟨E.toArray⟩ : ByteArray).toList == (⟨E'.toArray⟩ : ByteArray).toList) = false := by rw [Lib.toList_data, Lib.toList_data]; simpa using he
                clear hE hE'
                cases s0 with
                | true =>
                  go_wp2_with (first | (refine wpList_load_row rfl 27 (.tmp 2) rfl B1 rfl 27 #[.slice x0 p.ins.length c0, .slice x1 p.outs.length c1, .slice x2 p.slots.length c2, .slice x3 p.mems.length c3, .slice x4 p.consts.length c4, .slice x5 p.code.length c5] (0, 0) _ ?_ Tryd.underlying27 rfl HSP.out ?_; (exact HX1w.out)) | (refine wpList_load_row rfl 27 (.tmp 3) rfl B3 rfl 27 #[.slice y0 q.ins.length d0, .slice y1 q.outs.length d1, .slice y2 q.slots.length d2, .slice y3 q.mems.length d3, .slice y4 q.consts.length d4, .slice y5 q.code.length d5] (0, 0) _ ?_ Tryd.underlying27 rfl HSP.out ?_; (exact HX3w.out)))
                  (with_reducible refine ks.mono ?_)
                  rintro e wS ⟨rfl, hbS⟩
                  clear ks
                  go_wp2_with fail
                  go_ret
                  exact ⟨by first | rfl | (simp), HB0.out.trans ((HBW.out.trans (hbS.mono HBW.out.size)).mono HB0.out.size)⟩
                | false =>
                  go_wp2_with (first | (refine wpList_load_row rfl 27 (.tmp 2) rfl B1 rfl 27 #[.slice x0 p.ins.length c0, .slice x1 p.outs.length c1, .slice x2 p.slots.length c2, .slice x3 p.mems.length c3, .slice x4 p.consts.length c4, .slice x5 p.code.length c5] (0, 0) _ ?_ Tryd.underlying27 rfl HSP.out ?_; (exact HX1w.out)) | (refine wpList_load_row rfl 27 (.tmp 3) rfl B3 rfl 27 #[.slice y0 q.ins.length d0, .slice y1 q.outs.length d1, .slice y2 q.slots.length d2, .slice y3 q.mems.length d3, .slice y4 q.consts.length d4, .slice y5 q.code.length d5] (0, 0) _ ?_ Tryd.underlying27 rfl HSP.out ?_; (exact HX3w.out)))
                  (with_reducible refine ks.mono ?_)
                  rintro e wS ⟨rfl, hbS⟩
                  clear ks
                  go_wp2_with fail
                  go_ret
                  exact ⟨by first | rfl | (simp), HB0.out.trans ((HBW.out.trans (hbS.mono HBW.out.size)).mono HB0.out.size)⟩
end Go.Proofs.YtophockpjchilaaDoor
