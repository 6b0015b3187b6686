/-
  Texts that the statements stand on, part 6.
-/
import Derived.Test.YtejljfoacbpliaaMe
set_option linter.unusedVariables false
set_option linter.unusedSimpArgs false
namespace Go.Proofs.Ytejljfoacbpliaa
open Go Go.RowKit
theorem fl6_idem (b : Nat × Nat) (a : Nat) : fl6 (fl6 b 8 a) 8 a = fl6 b 8 a := by
  unfold fl6
  by_cases h : b.1 = 0
  · rw [if_pos h, if_neg (by show ¬ (8 : Nat) = 0; decide)]
  · rw [if_neg h, if_neg h]
def hasQ6 (s : List UInt8) (l : List Qe) : Bool := l.any fun q => decide (q.name.data.toList = s)
def decl6 (pre : List Vr) (v : Vr) (b : Nat × Nat) : Nat × Nat :=
  if (decide (v.on.data.toList = []) || hasV6 v.on.data.toList pre) = true then (if hasV6 v.name.data.toList pre = true then fl6 b 8 v.at_ else b) else fl6 (if hasV6 v.name.data.toList pre = true then fl6 b 8 v.at_ else b) 8 v.at_
def decls6 : List Vr → List Vr → Nat × Nat → Nat × Nat
  | _, [], b => b
  | pre, v :: r, b => decls6 (pre ++ [v]) r (decl6 pre v b)
def eqn6 (ah : List Nd) (n : Nd) (pre : List Qe) (q : Qe) (b : Nat × Nat) : Nat × Nat :=
  names6 ah n q.e (if (!(find6 q.name.data.toList (vars6 n)).isSome || (hasV6 q.name.data.toList n.ins || hasQ6 q.name.data.toList pre)) = true then fl6 b 8 q.at_ else b)
def eqns6 (ah : List Nd) (n : Nd) : List Qe → List Qe → Nat × Nat → Nat × Nat
  | _, [], b => b
  | pre, q :: r, b => eqns6 ah n (pre ++ [q]) r (eqn6 ah n pre q b)
def ends6 (n : Nd) : List Vr → Nat × Nat → Nat × Nat
  | [], b => b
  | v :: r, b => ends6 n r (if (eqOf6 v.name.data.toList n.eqs).isSome = true then b else fl6 b 8 v.at_)
def nodeN6 (ah : List Nd) (n : Nd) (b : Nat × Nat) : Nat × Nat :=
  ends6 n ((vars6 n).drop n.ins.length) (eqns6 ah n [] n.eqs (decls6 [] (vars6 n) (if ((nodeOf6 n.name.data.toList ah 0).isSome || decide (n.outs.length = 0)) = true then fl6 b 8 n.at_ else b)))
def namesF6 : List Nd → List Nd → Nat × Nat → Nat × Nat
  | _, [], b => b
  | pre, n :: r, b => namesF6 (pre ++ [n]) r (nodeN6 pre n b)
theorem hasV6_take {s : List UInt8} {l : List Vr} {j : Nat} (h : j < l.length) : hasV6 s (l.take (j + 1)) = (hasV6 s (l.take j) || decide (l[j].name.data.toList = s)) := by
  rw [List.take_add_one, List.getElem?_eq_getElem h]
  unfold hasV6
  rw [List.any_append]
  simp
theorem at_of {α : Type} {l : List α} {i : Nat} {x : α} (h : l[i]? = some x) (hi : i < l.length) : l[i] = x := by
  rw [List.getElem?_eq_getElem hi] at h
  injection h
theorem nm_txt (a b : ByteArray) : (a.toList == b.toList) = decide (a.data.toList = b.data.toList) := by
  by_cases h : a.data.toList = b.data.toList
  · rw [eq_txt h, decide_eq_true h]
  · rw [ne_txt h, decide_eq_false h]
theorem nm_nil (a : ByteArray) : (a.toList == []) = decide (a.data.toList = []) := by
  by_cases h : a.data.toList = []
  · rw [eq6 h, decide_eq_true h]
  · rw [ne6 h, decide_eq_false h]
theorem hasQ6_take {s : List UInt8} {l : List Qe} {j : Nat} (h : j < l.length) : hasQ6 s (l.take (j + 1)) = (hasQ6 s (l.take j) || decide (l[j].name.data.toList = s)) := by
  rw [List.take_add_one, List.getElem?_eq_getElem h]
  unfold hasQ6
  rw [List.any_append]
  simp
theorem grownBy_trans6 {a b c : World} {r : Option Nat} (h : a.grownBy b r) (k : b.grownBy c r) : a.grownBy c r :=
  ⟨k.os.trans h.os, k.tape.trans h.tape, k.output.trans h.output, Nat.le_trans h.size k.size, fun j hj hr => (k.block j (Nat.lt_of_lt_of_le hj h.size) hr).trans (h.block j hj hr)⟩
theorem grownBy_below6 {w w' : World} {r : Option Nat} (h : Below w.heap.size w w') : w.grownBy w' r := ⟨h.os, h.tape, h.output, h.size, fun k hk _ => h.block k hk⟩
theorem act_none (a : Act) : a.put none undef = a := rfl
theorem build_chk (W : World) : (Instr.build 93 #[]).run Try.prog W = .ok (.agg #[.int .i64 0, .int .i64 0]) W := by kernel_rfl
set_option maxHeartbeats 16000000 in
set_option maxRecDepth 100000 in
theorem Names_any (l : List Nd) (hall : ∀ (i : Nat) (h : i < l.length), okNd l[i] = true) (w : World) (ok : Nat → Prop) (x : Option Addr) (c : Nat) (hk : IsD ok w (.slice x l.length c) (.sl l.length (ndsD l))) : Calls Try.prog 43 #[.slice x l.length c] w (fun e w' => e = .returned (.agg #[.int .i64 ((namesF6 [] l (0, 0)).1 : Int), .int .i64 ((namesF6 [] l (0, 0)).2 : Int)]) ∧ Below w.heap.size w w') := by
  have HALL := Lib.hid hall
  have HSN := Lib.hid size_n4
  have HSQ := Lib.hid size_q4
  have HSV := Lib.hid size_v4
  have HSB := Lib.hid size_bad6
  have HSE := Lib.hid size_e4
  have HFEW := Lib.hid (IsD.few hk)
  have F0 := ((Fx.start w).alloc w.heap.size rfl 30 #[.int .i64 0, .int .i64 0]).alloc (w.heap.size + 1) (by simp) 93 #[.int .i64 0, .int .i64 0]
  obtain ⟨W0, hW0⟩ : ∃ W0, W0 = ((w.alloc (.cells #[.int .i64 0, .int .i64 0] 30)).alloc (.cells #[.int .i64 0, .int .i64 0] 93)) := ⟨_, rfl⟩
  rw [← hW0] at F0
  obtain ⟨gc, hgc⟩ : ∃ gc, gc = w.heap.size + 1 := ⟨_, rfl⟩
  have HGC := Lib.hid hgc
  have HC0 : Hid (Ck6 W0 gc (0, 0)) := Lib.hid (by rw [hgc]; exact F0.get 1 rfl)
  have HK : Hid (IsD (fun k => ok k ∧ k < w.heap.size) W0 (.slice x l.length c) (.sl l.length (ndsD l))) := Lib.hid (IsD.below F0.below (hk.mono (fun k h hl => ⟨h, hl⟩)))
  have HNK : Hid (∀ k, some gc = some k → ¬ (ok k ∧ k < w.heap.size)) := Lib.hid (fun k h => by injection h with h; subst h; omega)
  have HF0 := Lib.hid F0
  have HW0 := Lib.hid hW0
  have bc := build_chk
  obtain ⟨R, hR⟩ : ∃ R, R = namesF6 [] l (0, 0) := ⟨_, rfl⟩
  rw [← hR]
  have HR := Lib.hid hR
  clear hk hall F0 hW0 hR
  go_enter Try.func43, Try.ntmps43
  go_upto_region 2 with fail
  rw [← HW0.out, ← hgc]
  clear bc hgc
  go_wp2_with fail
  go_loopw [4] (fun v4 wr => ∃ (i : Nat) (B : Nat × Nat), v4 = .int .i64 (i : Int) ∧ i ≤ l.length ∧ W0.grownBy wr (some gc) ∧ Ck6 wr gc B ∧ R = namesF6 (l.take i) (l.drop i) B)
    (fun v4 _ => l.length - (intOf v4).toNat)
  case atStart => exact ⟨0, (0, 0), rfl, Nat.zero_le _, ⟨rfl, rfl, rfl, Nat.le_refl _, fun _ _ _ => rfl⟩, HC0.out, HR.out⟩
  case round =>
    clear HC0 HR
    obtain ⟨i, B, rfl, hi, hg, hC, hq⟩ := hrel
    have HG := Lib.hid hg
    have HC := Lib.hid hC
    have HI := Lib.hid hi
    clear hg hC hi
    by_cases hil : i < l.length
    · have d1 : decide ((i : Int) < (l.length : Int)) = true := by simp; omega
      have HIL := Lib.hid hil
      have hon := HALL.out i hil
      have hkr := IsD.grown HG.out HNK.out HK.out
      have htk := IsD.taken hkr i (Nat.le_of_lt hil)
      rw [List.drop_eq_getElem_cons hil] at hq
      obtain ⟨g, rfl, hgl, xi, ci, xo, co, xl, cl, xe, ce, hrg, t1, t2, t3, t4⟩ := nd_at hkr i hil
      obtain ⟨n, hn⟩ : ∃ n, n = l[i]'hil := ⟨_, rfl⟩
      have htake : l.take (i + 1) = l.take i ++ [n] := by rw [List.take_add_one, List.getElem?_eq_getElem hil, hn]; rfl
      rw [← hn] at hrg t1 t2 t3 t4 hon hq
      obtain ⟨ah, hah⟩ : ∃ ah, ah = l.take i := ⟨_, rfl⟩
      have hal : ah.length = i := by rw [hah]; simp; omega
      rw [← hah] at htk hq htake
      have hq : R = namesF6 (l.take (i + 1)) (l.drop (i + 1)) (nodeN6 ah n B) := by rw [htake]; exact hq
      have HLV := Lib.hid (show (vars6 n).length ≤ 1000000 by simp only [okNd, Bool.and_eq_true, decide_eq_true_eq] at hon; have := hon.1; unfold vars6; rw [List.length_append, List.length_append]; exact this)
      have HOQ := Lib.hid (show okQs n.eqs = true by simp only [okNd, Bool.and_eq_true] at hon; exact hon.2.2.2.2.2)
      obtain ⟨nb, hnb_⟩ : ∃ nb, nb = wr.heap.size := ⟨_, rfl⟩
      have HAL := Lib.hid (heap_alloc_new wr (.cells #[.string ⟨#[]⟩, .slice none 0 0, .slice none 0 0, .slice none 0 0, .slice none 0 0, .int .i64 0] 38))
      obtain ⟨hnb, hnr⟩ := new_row wr 38 #[.string ⟨#[]⟩, .slice none 0 0, .slice none 0 0, .slice none 0 0, .slice none 0 0, .int .i64 0] #[.string n.name, .slice xi n.ins.length ci, .slice xo n.outs.length co, .slice xl n.locs.length cl, .slice xe n.eqs.length ce, .int .i64 (n.at_ : Int)]
      have hNI : NdIn (fun k => ok k ∧ k < w.heap.size) wr n xi xo xl xe ci co cl ce := ⟨t1, t2, t3, t4⟩
      obtain ⟨W1, hW1⟩ : ∃ W1, W1 = ((wr.alloc (.cells #[.string ⟨#[]⟩, .slice none 0 0, .slice none 0 0, .slice none 0 0, .slice none 0 0, .int .i64 0] 38)).setRow wr.heap.size #[.string n.name, .slice xi n.ins.length ci, .slice xo n.outs.length co, .slice xl n.locs.length cl, .slice xe n.eqs.length ce, .int .i64 (n.at_ : Int)]) := ⟨_, rfl⟩
      rw [← hW1] at hnb hnr
      have HN1 := Lib.hid hnr
      have HB1 := Lib.hid hnb
      have HRG := Lib.hid hrg
      have HTK := Lib.hid (IsD.below hnb htk)
      have HNI := Lib.hid (NdIn.below hnb hNI)
      have HC1 := Lib.hid (HC.out.below hnb)
      have HW1 := Lib.hid hW1
      have HAHL := Lib.hid hal
      have HQ := Lib.hid hq
      have i0 : (0 : Int) ≤ (i : Int) := by omega
      have i1 : (i : Int) < (l.length : Int) := by omega
      have i2 : (i : Int) ≤ (l.length : Int) := by omega
      have hcl : l.length ≤ c := by obtain ⟨x', c', h1, h2, h3⟩ := IsD.slice hkr; injection h1 with _ _ h; subst h; exact h2
      have i3 : (i : Int) ≤ (c : Int) := by omega
      have HCL := Lib.hid hcl
      clear hil hon hkr htk hgl hrg t1 t2 t3 t4 htake hn hah hal hnb hnr hNI hq hW1 hnb_
      go_upto_region 6 with (first | (refine wpList_load_mid rfl 38 (.tmp 29) rfl g (i * 6) rfl (ndC n xi xo xl xe ci co cl ce) _ ?_ Try.underlying38 rfl HSN.out ?_; (exact HRG.out)) | (refine wpList_store_row rfl 38 (.tmp 5) (.tmp 30) rfl wr.heap.size #[.string n.name, .slice xi n.ins.length ci, .slice xo n.outs.length co, .slice xl n.locs.length cl, .slice xe n.eqs.length ce, .int .i64 (n.at_ : Int)] rfl rfl 38 #[.string ⟨#[]⟩, .slice none 0 0, .slice none 0 0, .slice none 0 0, .slice none 0 0, .int .i64 0] ?_ HSN.out rfl (n4_one _ _ _ _ _ _ _ _ _ _ _ _ _ _) ?_; (exact HAL.out)))
      rw [← HW1.out]
      have n0 := cell_of_row W1 wr.heap.size 0 _ _ _ HN1.out
      have n2 := cell_of_row W1 wr.heap.size 2 _ _ _ HN1.out
      have kn := fun W (hb : Below W1.heap.size W1 W) => NodeOf_any ah n.name W _ (some ⟨g, 0, none⟩) c (IsD.below hb HTK.out)
      rw [HAHL.out] at kn
      obtain ⟨o, ho⟩ : ∃ o, o = nodeOf6 n.name.data.toList ah 0 := ⟨_, rfl⟩
      rw [← ho] at kn
      obtain ⟨b1, hb1⟩ : ∃ b1, b1 = (o.isSome || decide (n.outs.length = 0)) := ⟨_, rfl⟩
      have KN := Lib.hid kn
      clear kn
      rw [act_none]
      go_cut [43] (fun v wx => v = .bool b1 ∧ Below W1.heap.size W1 wx)
      case first => as_aux_lemma =>
        --
        cases o with
        | none =>
          have k1 : decide ((0 : Int) ≤ -1) = false := by decide
          by_cases hz : n.outs.length = 0
          · have z1 : ((n.outs.length : Int) == 0) = true := by rw [hz]; rfl
            obtain rfl : b1 = true := by rw [hb1, decide_eq_true hz]; rfl
            clear hz hb1 ho
            go_quiet ((go_at_call 81; exact Calls.quiet_of_same (KN.out _ (below_drewN (Below.refl _ _) _))))
            go_wp2_with fail
            go_meet
            exact ⟨rfl, below_drewN (Below.refl _ _) nq⟩
          · have z1 : ((n.outs.length : Int) == 0) = false := by rw [beq_eq_false_iff_ne]; omega
            obtain rfl : b1 = false := by rw [hb1, decide_eq_false hz]; rfl
            clear hz hb1 ho
            go_quiet ((go_at_call 81; exact Calls.quiet_of_same (KN.out _ (below_drewN (Below.refl _ _) _))))
            go_wp2_with fail
            go_meet
            exact ⟨rfl, below_drewN (Below.refl _ _) nq⟩
        | some k =>
          have k1 : decide ((0 : Int) ≤ (k : Int)) = true := by simp
          have KN := Lib.hid (show ∀ W, Below W1.heap.size W1 W → Calls Try.prog 81 #[.slice (some ⟨g, 0, none⟩) i c, .string n.name] W (fun e w' => e = .returned (.int .i64 (k : Int)) ∧ w' = W) from KN.out)
          obtain rfl : b1 = true := by rw [hb1]; rfl
          clear hb1 ho
          go_quiet ((go_at_call 81; exact Calls.quiet_of_same (KN.out _ (below_drewN (Below.refl _ _) _))))
          go_wp2_with fail
          go_meet
          exact ⟨rfl, below_drewN (Below.refl _ _) nq⟩
        --
      case rest =>
        rename World => wa
        obtain ⟨rfl, hb⟩ := hcut
        have lt1 := (Array.getElem?_eq_some_iff.1 HN1.out).1
        have HGC := Lib.hid (grownBy_trans6 HG.out (grownBy_below6 (r := some gc) (HB1.out.trans (hb.mono HB1.out.size))))
        have HN := Lib.hid ((hb.block wr.heap.size lt1).trans HN1.out)
        have HC2 := Lib.hid (HC1.out.below hb)
        have HTK := Lib.hid (IsD.below hb HTK.out)
        have HNI := Lib.hid (NdIn.below hb HNI.out)
        have HNE := Lib.hid (show wr.heap.size ≠ gc by have := HC.out.lt; omega)
        have HHB := Lib.hid hb1
        have HAT := Lib.hid ho
        clear hb lt1 KN HN1 HB1 HC1 HC HG HW1 HAL HRG n0 n2 i0 i1 i2 i3 hcl ho hb1 d1
        go_upto_if 43 with fail
        go_cut [] (fun wx => wa.grownBy wx (some gc) ∧ Ck6 wx gc (if b1 = true then fl6 B 8 n.at_ else B))
        case first => as_aux_lemma =>
          cases b1 with
          | true =>
            have n5 := cell_of_row wa wr.heap.size 5 _ _ _ HN.out
            have k8 : Calls Try.prog 50 #[.pointer (some ⟨gc, 0, none⟩), .int .i64 8, .int .i64 (n.at_ : Int)] wa (GivesCk gc (fl6 B 8 n.at_) wa) := fail6_any wa gc B HC2.out 8 n.at_
            unfold GivesCk at k8
            go_wp2_with fail
            (with_reducible refine k8.mono ?_)
            rintro e9 w3 ⟨rfl, hC2, hg2⟩
            clear k8
            go_wp2_with fail
            go_meet
            exact ⟨hg2, hC2⟩
          | false =>
            go_wp2_with fail
            go_meet
            exact ⟨World.grownBy.refl _ _, HC2.out⟩
        case rest =>
          obtain ⟨hg, hC⟩ := hcut
          rename World => wb
          obtain ⟨B1, hB1⟩ : ∃ B1, B1 = (if b1 = true then fl6 B 8 n.at_ else B) := ⟨_, rfl⟩
          rw [← hB1] at hC
          have HB1 := Lib.hid hB1
          have HGC := Lib.hid (grownBy_trans6 HGC.out hg)
          have HC := Lib.hid hC
          have ltn : wr.heap.size < wa.heap.size := (Array.getElem?_eq_some_iff.1 HN.out).1
          have HN := Lib.hid ((hg.block wr.heap.size ltn (fun e => HNE.out (by injection e))).trans HN.out)
          have HTK := Lib.hid (IsD.grown hg HNK.out HTK.out)
          have HNI := Lib.hid (NdIn.grown6 hg HNK.out HNI.out)
          clear hg hC hB1 ltn HC2
          have kv := Vars_any n HLV.out wb _ xi xo xl xe ci co cl ce HNI.out
          unfold GivesVr ndV at kv
          go_wp2_with (refine wpList_load_row rfl 38 (.tmp 5) rfl wr.heap.size rfl 38 #[.string n.name, .slice xi n.ins.length ci, .slice xo n.outs.length co, .slice xl n.locs.length cl, .slice xe n.eqs.length ce, .int .i64 (n.at_ : Int)] (0, 0) _ HN.out Try.underlying38 rfl HSN.out ?_)
          (with_reducible refine kv.mono ?_)
          rintro e9 w2 ⟨xv, cv, rfl, hv, hb⟩
          clear kv
          have hgc : gc < wb.heap.size := HC.out.lt
          have HVK := Lib.hid (show ∀ k, some gc = some k → ¬ (wb.heap.size ≤ k) from fun k h => by injection h with h; omega)
          obtain ⟨V, hV⟩ : ∃ V, V = vars6 n := ⟨_, rfl⟩
          rw [← hV] at hv ⊢
          have HVV := Lib.hid hV
          have HLM := Lib.hid (show V.length ≤ 1000000 by rw [hV]; exact HLV.out)
          have HGC := Lib.hid (grownBy_trans6 HGC.out (grownBy_below6 (r := some gc) hb))
          have HN := Lib.hid ((hb.block wr.heap.size (Array.getElem?_eq_some_iff.1 HN.out).1).trans HN.out)
          have HC := Lib.hid (HC.out.below hb)
          have HTK := Lib.hid (IsD.below hb HTK.out)
          have HNI := Lib.hid (NdIn.below hb HNI.out)
          have HV := Lib.hid hv
          clear hgc hV hv hb
          obtain ⟨D, hD⟩ : ∃ D, D = decls6 [] V B1 := ⟨_, rfl⟩
          have HD := Lib.hid hD
          clear hD
          obtain ⟨wo, rfl⟩ : ∃ wo : World, wo = wr := ⟨_, rfl⟩
          go_wp2_with fail
          go_loopw [7] (fun v7 wx => ∃ (k : Nat) (Bk : Nat × Nat), v7 = .int .i64 (k : Int) ∧ k ≤ V.length ∧ w2.grownBy wx (some gc) ∧ Ck6 wx gc Bk ∧ D = decls6 (V.take k) (V.drop k) Bk)
            (fun v7 _ => V.length - (intOf v7).toNat)
          case atStart => exact ⟨0, B1, rfl, Nat.zero_le _, World.grownBy.refl _ _, HC.out, HD.out⟩
          case round => as_aux_lemma =>
            clear HC
            obtain ⟨k, Bk, rfl, hk, hg, hC, hq⟩ := hrel
            have HG7 := Lib.hid hg
            have HC := Lib.hid hC
            have HKI := Lib.hid hk
            clear hg hC hk
            by_cases hkl : k < V.length
            · --
              have d7 : decide ((k : Int) < (V.length : Int)) = true := by simp; omega
              have HKL := Lib.hid hkl
              rw [List.drop_eq_getElem_cons hkl] at hq
              obtain ⟨gv, rfl, _, hrg⟩ := var_at (IsD.grown HG7.out HVK.out HV.out) k hkl
              obtain ⟨v, hv⟩ : ∃ v, v = V[k]'hkl := ⟨_, rfl⟩
              rw [← hv] at hrg hq
              have c2 : wr.cell? ⟨gv, k * 5 + 2, none⟩ = some (.string v.on) := hrg 2 _ rfl
              have hq : D = decls6 (V.take (k + 1)) (V.drop (k + 1)) (decl6 (V.take k) v Bk) := by rw [List.take_add_one, List.getElem?_eq_getElem hkl, ← hv]; exact hq
              have k0 : (0 : Int) ≤ (k : Int) := by omega
              have k1 : (k : Int) < (V.length : Int) := by omega
              have eo := nm_nil v.on
              obtain ⟨bo, hbo⟩ : ∃ bo, bo = decide (v.on.data.toList = []) := ⟨_, rfl⟩
              rw [← hbo] at eo
              have HBO := Lib.hid hbo
              have HQ := Lib.hid hq
              have HVE := Lib.hid (show V[k]? = some v by rw [List.getElem?_eq_getElem hkl, ← hv])
              clear hkl hrg hbo hq hv
              go_wp2_with fail
              obtain ⟨w7, rfl⟩ : ∃ w7 : World, w7 = wr := ⟨_, rfl⟩
              clear c2 eo
              go_loopw [8, 9] (fun v8 v9 wx => ∃ (j : Nat) (Bj : Nat × Nat), v9 = .int .i64 (j : Int) ∧ v8 = .bool (bo || hasV6 v.on.data.toList (V.take j)) ∧ j ≤ k ∧ w2.grownBy wx (some gc) ∧ Ck6 wx gc Bj ∧ Bj = (if hasV6 v.name.data.toList (V.take j) = true then fl6 Bk 8 v.at_ else Bk))
                (fun _ v9 _ => k - (intOf v9).toNat)
              case atStart => exact ⟨0, Bk, rfl, by simp [hasV6], Nat.zero_le _, HG7.out, HC.out, by simp [hasV6]⟩
              case round => as_aux_lemma =>
                clear HC HG7
                obtain ⟨j, Bj, rfl, rfl, hj, hg, hC, hbj⟩ := hrel
                have HG9 := Lib.hid hg
                have HC := Lib.hid hC
                have HJI := Lib.hid hj
                have HBJ := Lib.hid hbj
                clear hg hC hj hbj
                by_cases hjl : j < k
                · have d9 : decide ((j : Int) < (k : Int)) = true := by simp; omega
                  have hjv : j < V.length := Nat.lt_trans hjl HKL.out
                  obtain ⟨gx, hx, _, hrk⟩ := var_at (IsD.grown HG9.out HVK.out HV.out) k HKL.out
                  cases hx
                  obtain ⟨gx, hx, _, hrj⟩ := var_at (IsD.grown HG9.out HVK.out HV.out) j hjv
                  cases hx
                  rw [at_of HVE.out HKL.out] at hrk
                  obtain ⟨u, hu⟩ : ∃ u, u = V[j]'hjv := ⟨_, rfl⟩
                  rw [← hu] at hrj
                  have hN9 := hasV6_take (s := v.name.data.toList) hjv
                  have hO9 := hasV6_take (s := v.on.data.toList) hjv
                  rw [← hu] at hN9 hO9
                  have ck0 : wr.cell? ⟨gv, k * 5, none⟩ = some (.string v.name) := hrk 0 _ rfl
                  have cj0 : wr.cell? ⟨gv, j * 5, none⟩ = some (.string u.name) := hrj 0 _ rfl
                  have j0 : (0 : Int) ≤ (j : Int) := by omega
                  have j1 : (j : Int) < (V.length : Int) := by omega
                  have k0 : (0 : Int) ≤ (k : Int) := by omega
                  have k1 : (k : Int) < (V.length : Int) := by have := HKL.out; omega
                  have es := nm_txt u.name v.name
                  obtain ⟨bs, hbs⟩ : ∃ bs, bs = decide (u.name.data.toList = v.name.data.toList) := ⟨_, rfl⟩
                  rw [← hbs] at es hN9
                  obtain ⟨bj, hbj⟩ : ∃ bj, bj = (bo || hasV6 v.on.data.toList (V.take j)) := ⟨_, rfl⟩
                  rw [← hbj]
                  obtain ⟨Bn, hBn⟩ : ∃ Bn, Bn = (if bs = true then fl6 Bj 8 v.at_ else Bj) := ⟨_, rfl⟩
                  have hnext : Bn = (if hasV6 v.name.data.toList (V.take (j + 1)) = true then fl6 Bk 8 v.at_ else Bk) := by
                    rw [hBn, hN9, HBJ.out]
                    cases bs <;> cases hasV6 v.name.data.toList (V.take j) <;> simp [fl6_idem]
                  have HNX := Lib.hid hnext
                  have HBN := Lib.hid hBn
                  have HO9 := Lib.hid hO9
                  have HBJJ := Lib.hid hbj
                  have HJL := Lib.hid hjl
                  have HRK := Lib.hid hrk
                  have HRJ := Lib.hid hrj
                  have HUE := Lib.hid (show V[j]? = some u by rw [List.getElem?_eq_getElem hjv, ← hu])
                  clear hjl hjv hu hN9 hO9 hbs hbj hBn hnext hrk hrj
                  go_upto_region 16 with fail
                  go_quiet (fail)
                  obtain ⟨WX, hWX⟩ : ∃ WX, WX = wr.drewN nq := ⟨_, rfl⟩
                  have HG9 := Lib.hid (show w2.grownBy WX (some gc) by rw [hWX]; exact grownBy_trans6 HG9.out (grownBy_below6 (below_drewN (Below.refl _ _) nq)))
                  have HC := Lib.hid (show Ck6 WX gc Bj by rw [hWX]; exact HC.out.below (below_drewN (Below.refl _ _) nq))
                  have HRK := Lib.hid (show WX.rangeAt gv (k * 5) (vrC v) by rw [hWX]; exact HRK.out)
                  have HRJ := Lib.hid (show WX.rangeAt gv (j * 5) (vrC u) by rw [hWX]; exact HRJ.out)
                  rw [← hWX]
                  clear hWX ck0 cj0 es
                  go_upto_if 77 with fail
                  go_cut [] (fun wx => w2.grownBy wx (some gc) ∧ Ck6 wx gc Bn)
                  case first => as_aux_lemma =>
                    cases bs with
                    | true =>
                      have c4 : WX.cell? ⟨gv, k * 5 + 4, none⟩ = some (.int .i64 (v.at_ : Int)) := HRK.out 4 _ rfl
                      have k8 : Calls Try.prog 50 #[.pointer (some ⟨gc, 0, none⟩), .int .i64 8, .int .i64 (v.at_ : Int)] WX (GivesCk gc (fl6 Bj 8 v.at_) WX) := fail6_any WX gc Bj HC.out 8 v.at_
                      unfold GivesCk at k8
                      go_wp2_with fail
                      (with_reducible refine k8.mono ?_)
                      rintro e9 w3 ⟨rfl, hC2, hg2⟩
                      clear k8
                      go_wp2_with fail
                      go_meet
                      exact ⟨grownBy_trans6 HG9.out hg2, by rw [HBN.out]; exact hC2⟩
                    | false =>
                      go_wp2_with fail
                      go_meet
                      exact ⟨HG9.out, by rw [HBN.out]; exact HC.out⟩
                  case rest =>
                    rename World => wd
                    obtain ⟨hg, hC⟩ := hcut
                    have HG9 := Lib.hid hg
                    have HC := Lib.hid hC
                    clear hg hC
                    cases bj with
                    | true =>
                      have hvd := IsD.grown HG9.out HVK.out HV.out
                      obtain ⟨gx, hx, _, hrk⟩ := var_at hvd k HKL.out
                      cases hx
                      have hjv : j < V.length := Nat.lt_trans HJL.out HKL.out
                      obtain ⟨gx, hx, _, hrj⟩ := var_at hvd j hjv
                      cases hx
                      rw [at_of HVE.out HKL.out] at hrk
                      rw [at_of HUE.out hjv] at hrj
                      have ck2 : wd.cell? ⟨gv, k * 5 + 2, none⟩ = some (.string v.on) := hrk 2 _ rfl
                      have cj0 : wd.cell? ⟨gv, j * 5, none⟩ = some (.string u.name) := hrj 0 _ rfl
                      have hjx := HJL.out
                      have hkx := HKL.out
                      have j0 : (0 : Int) ≤ (j : Int) := by omega
                      have j1 : (j : Int) < (V.length : Int) := by omega
                      have k0 : (0 : Int) ≤ (k : Int) := by omega
                      have k1 : (k : Int) < (V.length : Int) := by omega
                      clear hjx hkx hvd hjv hrk hrj
                      clear cj0 ck2
                      go_upto_region 18 with fail
                      go_quiet (fail)
                      go_wp2_with fail
                      refine ⟨⟨j + 1, Bn, wrap_succ (by have := HJL.out; have := HKL.out; have := HLM.out; omega), by rw [HO9.out, ← Bool.or_assoc, ← HBJJ.out]; rfl, HJL.out, grownBy_trans6 HG9.out (grownBy_below6 (below_drewN (Below.refl _ _) _)), HC.out.below (below_drewN (Below.refl _ _) _), HNX.out⟩, ?_⟩
                      rw [wrap_succ (by have := HJL.out; have := HKL.out; have := HLM.out; omega)]
                      have := HJL.out
                      simp [intOf]; omega
                    | false =>
                      have hvd := IsD.grown HG9.out HVK.out HV.out
                      obtain ⟨gx, hx, _, hrk⟩ := var_at hvd k HKL.out
                      cases hx
                      have hjv : j < V.length := Nat.lt_trans HJL.out HKL.out
                      obtain ⟨gx, hx, _, hrj⟩ := var_at hvd j hjv
                      cases hx
                      rw [at_of HVE.out HKL.out] at hrk
                      rw [at_of HUE.out hjv] at hrj
                      have ck2 : wd.cell? ⟨gv, k * 5 + 2, none⟩ = some (.string v.on) := hrk 2 _ rfl
                      have cj0 : wd.cell? ⟨gv, j * 5, none⟩ = some (.string u.name) := hrj 0 _ rfl
                      have hjx := HJL.out
                      have hkx := HKL.out
                      have j0 : (0 : Int) ≤ (j : Int) := by omega
                      have j1 : (j : Int) < (V.length : Int) := by omega
                      have k0 : (0 : Int) ≤ (k : Int) := by omega
                      have k1 : (k : Int) < (V.length : Int) := by omega
                      clear hjx hkx hvd hjv hrk hrj
                      have eb := nm_txt u.name v.on
                      obtain ⟨be, hbe⟩ : ∃ be, be = decide (u.name.data.toList = v.on.data.toList) := ⟨_, rfl⟩
                      have HO9 := Lib.hid HO9.out
                      rw [← hbe] at eb
                      have HO9 := Lib.hid (show hasV6 v.on.data.toList (V.take (j + 1)) = (hasV6 v.on.data.toList (V.take j) || be) by rw [hbe]; exact HO9.out)
                      clear hbe
                      go_upto_region 18 with fail
                      go_quiet (fail)
                      go_wp2_with fail
                      refine ⟨⟨j + 1, Bn, wrap_succ (by have := HJL.out; have := HKL.out; have := HLM.out; omega), by rw [HO9.out, ← Bool.or_assoc, ← HBJJ.out]; rfl, HJL.out, grownBy_trans6 HG9.out (grownBy_below6 (below_drewN (Below.refl _ _) _)), HC.out.below (below_drewN (Below.refl _ _) _), HNX.out⟩, ?_⟩
                      rw [wrap_succ (by have := HJL.out; have := HKL.out; have := HLM.out; omega)]
                      have := HJL.out
                      simp [intOf]; omega
                · have d9 : decide ((j : Int) < (k : Int)) = false := by simp; omega
                  have hjk : k = j := by have := HJI.out; omega
                  subst hjk
                  obtain ⟨bj, hbj⟩ : ∃ bj, bj = (bo || hasV6 v.on.data.toList (V.take k)) := ⟨_, rfl⟩
                  rw [← hbj]
                  have hdc : decl6 (V.take k) v Bk = (if bj = true then Bj else fl6 Bj 8 v.at_) := by unfold decl6; rw [HBJ.out, hbj, HBO.out]
                  have HDC := Lib.hid hdc
                  obtain ⟨gx, hx, _, hrk⟩ := var_at (IsD.grown HG9.out HVK.out HV.out) k HKL.out
                  cases hx
                  rw [at_of HVE.out HKL.out] at hrk
                  have c4 : wr.cell? ⟨gv, k * 5 + 4, none⟩ = some (.int .i64 (v.at_ : Int)) := hrk 4 _ rfl
                  have k0 : (0 : Int) ≤ (k : Int) := by omega
                  have k1 : (k : Int) < (V.length : Int) := by have := HKL.out; omega
                  clear hjl hbj hdc hrk
                  cases bj with
                  | true =>
                    go_wp2_with fail
                    refine ⟨⟨k + 1, Bj, wrap_succ (by have := HKL.out; have := HLM.out; omega), HKL.out, HG9.out, HC.out, by rw [HDC.out] at HQ; exact HQ.out⟩, ?_⟩
                    rw [wrap_succ (by have := HKL.out; have := HLM.out; omega)]
                    have := HKL.out
                    simp [intOf]; omega
                  | false =>
                    have k8 : Calls Try.prog 50 #[.pointer (some ⟨gc, 0, none⟩), .int .i64 8, .int .i64 (v.at_ : Int)] wr (GivesCk gc (fl6 Bj 8 v.at_) wr) := fail6_any wr gc Bj HC.out 8 v.at_
                    unfold GivesCk at k8
                    go_wp2_with fail
                    (with_reducible refine k8.mono ?_)
                    rintro e9 w3 ⟨rfl, hC2, hg2⟩
                    clear k8
                    go_wp2_with fail
                    refine ⟨⟨k + 1, fl6 Bj 8 v.at_, wrap_succ (by have := HKL.out; have := HLM.out; omega), HKL.out, grownBy_trans6 HG9.out hg2, hC2, by rw [HDC.out] at HQ; exact HQ.out⟩, ?_⟩
                    rw [wrap_succ (by have := HKL.out; have := HLM.out; omega)]
                    have := HKL.out
                    simp [intOf]; omega
            --
            · have d7 : decide ((k : Int) < (V.length : Int)) = false := by simp; omega
              obtain rfl : k = V.length := by have := HKI.out; omega
              rw [List.drop_length] at hq
              have hD : D = Bk := by rw [hq]; rfl
              have HC := Lib.hid (show Ck6 wr gc D by rw [hD]; exact HC.out)
              have hB2 : nodeN6 ah n B = ends6 n (V.drop n.ins.length) (eqns6 ah n [] n.eqs D) := by unfold nodeN6; rw [HD.out, HB1.out, HHB.out, HAT.out, HVV.out]
              obtain ⟨E, hE⟩ : ∃ E, E = eqns6 ah n [] n.eqs D := ⟨_, rfl⟩
              have HE := Lib.hid hE
              have HB2 := Lib.hid hB2
              have HFQ := Lib.hid (IsD.few HNI.out.2.2.2)
              clear hkl hq hD hE hB2 HKI
              go_wp2_with fail
              obtain ⟨w8, rfl⟩ : ∃ w8 : World, w8 = wr := ⟨_, rfl⟩
              go_loopw [10] (fun v10 wx => ∃ (k : Nat) (Bk : Nat × Nat), v10 = .int .i64 (k : Int) ∧ k ≤ n.eqs.length ∧ w2.grownBy wx (some gc) ∧ Ck6 wx gc Bk ∧ E = eqns6 ah n (n.eqs.take k) (n.eqs.drop k) Bk)
                (fun v10 _ => n.eqs.length - (intOf v10).toNat)
              case atStart => exact ⟨0, D, rfl, Nat.zero_le _, HG7.out, HC.out, HE.out⟩
              case round => as_aux_lemma =>
                clear HC HG7
                obtain ⟨k, Bk, rfl, hk, hg, hC, hq⟩ := hrel
                have HG := Lib.hid hg
                have HC := Lib.hid hC
                have HKI := Lib.hid hk
                have HGW := Lib.hid hC.lt
                have HNW := Lib.hid ((hg.block wo.heap.size (Array.getElem?_eq_some_iff.1 HN.out).1 (fun e => HNE.out (by injection e))).trans HN.out)
                have c4 := cell_of_row wr wo.heap.size 4 _ _ _ HNW.out
                clear hg hC hk
                by_cases hkl : k < n.eqs.length
                · --
                  have d10 : decide ((k : Int) < (n.eqs.length : Int)) = true := by simp; omega
                  have HKL := Lib.hid hkl
                  rw [List.drop_eq_getElem_cons hkl] at hq
                  have hNI := NdIn.grown6 HG.out HNK.out HNI.out
                  have hTK := IsD.grown HG.out HNK.out HTK.out
                  obtain ⟨ge, rfl, _, xq, cq, hrg, hkk⟩ := qe_at hNI.2.2.2 k hkl
                  obtain ⟨q, hqq⟩ : ∃ q, q = n.eqs[k]'hkl := ⟨_, rfl⟩
                  have hoq : okE q.e = true := by rw [hqq]; exact (okQs_at HOQ.out k hkl).2
                  rw [← hqq] at hrg hq hkk
                  have hq : E = eqns6 ah n (n.eqs.take (k + 1)) (n.eqs.drop (k + 1)) (eqn6 ah n (n.eqs.take k) q Bk) := by rw [List.take_add_one, List.getElem?_eq_getElem hkl, ← hqq]; exact hq
                  have k0 : (0 : Int) ≤ (k : Int) := by omega
                  have k1 : (k : Int) < (n.eqs.length : Int) := by omega
                  have HQ := Lib.hid hq
                  have HQE := Lib.hid (show n.eqs[k]? = some q by rw [List.getElem?_eq_getElem hkl, ← hqq])
                  have HOQE := Lib.hid hoq
                  have HAL := Lib.hid (heap_alloc_new wr (.cells #[.string ⟨#[]⟩, .string ⟨#[]⟩, .string ⟨#[]⟩, .int .i64 0, .int .i64 0, .slice none 0 0, .int .i64 0] 55))
                  obtain ⟨hnb, hnr⟩ := new_row wr 55 #[.string ⟨#[]⟩, .string ⟨#[]⟩, .string ⟨#[]⟩, .int .i64 0, .int .i64 0, .slice none 0 0, .int .i64 0] #[.string q.name, .string q.e.op, .string q.e.name, .int .i64 q.e.n, .int .i64 (q.e.at_ : Int), .slice xq q.e.kids.length cq, .int .i64 (q.at_ : Int)]
                  obtain ⟨W4, hW4⟩ : ∃ W4, W4 = ((wr.alloc (.cells #[.string ⟨#[]⟩, .string ⟨#[]⟩, .string ⟨#[]⟩, .int .i64 0, .int .i64 0, .slice none 0 0, .int .i64 0] 55)).setRow wr.heap.size #[.string q.name, .string q.e.op, .string q.e.name, .int .i64 q.e.n, .int .i64 (q.e.at_ : Int), .slice xq q.e.kids.length cq, .int .i64 (q.at_ : Int)]) := ⟨_, rfl⟩
                  rw [← hW4] at hnb hnr
                  have HRG := Lib.hid hrg
                  have HN4 := Lib.hid ((hnb.block wo.heap.size (Array.getElem?_eq_some_iff.1 HNW.out).1).trans HNW.out)
                  have HQ4 := Lib.hid hnr
                  have HKK := Lib.hid (IsD.below hnb hkk)
                  have HI4 := Lib.hid (NdIn.below hnb hNI)
                  have HT4 := Lib.hid (IsD.below hnb hTK)
                  have HC4 := Lib.hid (HC.out.below hnb)
                  have HB4 := Lib.hid hnb
                  have HW4 := Lib.hid hW4
                  clear hkl hq hNI hTK hrg hkk hqq hoq hnb hnr hW4
                  go_upto_region 25 with (first | (refine wpList_load_mid rfl 55 (.tmp 118) rfl ge (k * 7) rfl (qeC q.name q.e xq cq (q.at_ : Int)) _ ?_ Try.underlying55 rfl HSQ.out ?_; (exact HRG.out)) | (refine wpList_store_row rfl 55 (.tmp 11) (.tmp 119) rfl wr.heap.size #[.string q.name, .string q.e.op, .string q.e.name, .int .i64 q.e.n, .int .i64 (q.e.at_ : Int), .slice xq q.e.kids.length cq, .int .i64 (q.at_ : Int)] rfl rfl 55 #[.string ⟨#[]⟩, .string ⟨#[]⟩, .string ⟨#[]⟩, .int .i64 0, .int .i64 0, .slice none 0 0, .int .i64 0] ?_ HSQ.out rfl (q4_one q.name q.e xq cq (q.at_ : Int)) ?_; (exact HAL.out)))
                  rw [← HW4.out]
                  have q0 := cell_of_row W4 wr.heap.size 0 _ _ _ HQ4.out
                  have kf := Find_any n HLV.out q.name W4 _ xi xo xl (some ⟨ge, 0, none⟩) ci co cl ce HI4.out
                  obtain ⟨fo, hfo⟩ : ∃ fo, fo = find6 q.name.data.toList (vars6 n) := ⟨_, rfl⟩
                  rw [← hfo] at kf
                  obtain ⟨fv, hfv⟩ : ∃ fv, fv = fo.getD vrZ := ⟨_, rfl⟩
                  unfold GivesFv ndV vrA at kf
                  rw [← hfv] at kf
                  have HFO := Lib.hid hfo
                  clear hfo hfv
                  go_wp2_with (refine wpList_load_row rfl 38 (.tmp 5) rfl wo.heap.size rfl 38 #[.string n.name, .slice xi n.ins.length ci, .slice xo n.outs.length co, .slice xl n.locs.length cl, .slice (some ⟨ge, 0, none⟩) n.eqs.length ce, .int .i64 (n.at_ : Int)] (0, 0) _ HN4.out Try.underlying38 rfl HSN.out ?_)
                  (with_reducible refine kf.mono ?_)
                  rintro e9 w5 ⟨rfl, hb⟩
                  have HAL := Lib.hid (heap_alloc_new w5 (.cells #[.string ⟨#[]⟩, .int .i64 0, .string ⟨#[]⟩, .bool false, .int .i64 0] 62))
                  obtain ⟨W6, hW6⟩ : ∃ W6, W6 = w5.alloc (.cells #[.string fv.name, .int .i64 (fv.kind : Int), .string fv.on, .bool fv.not_, .int .i64 (fv.at_ : Int)] 62) := ⟨_, rfl⟩
                  have hnb : Below w5.heap.size w5 W6 := by rw [hW6]; exact (Below.refl _ _).alloc (Nat.le_refl _) _
                  have hb6 : Below W4.heap.size W4 W6 := hb.trans (hnb.mono hb.size)
                  have HN6 := Lib.hid ((hb6.block wo.heap.size (Array.getElem?_eq_some_iff.1 HN4.out).1).trans HN4.out)
                  have HQ6 := Lib.hid ((hb6.block wr.heap.size (Array.getElem?_eq_some_iff.1 HQ4.out).1).trans HQ4.out)
                  have HK6 := Lib.hid (IsD.below hb6 HKK.out)
                  have HI6 := Lib.hid (NdIn.below hb6 HI4.out)
                  have HT6 := Lib.hid (IsD.below hb6 HT4.out)
                  have HC6 := Lib.hid (HC4.out.below hb6)
                  have HG6 := Lib.hid (grownBy_trans6 HG.out (grownBy_below6 (r := some gc) (HB4.out.trans (hb6.mono HB4.out.size))))
                  have HW6 := Lib.hid hW6
                  clear kf hb hnb hW6 hb6 HN4 HQ4 HKK HI4 HT4 HC4 HC HG HB4 HW4 HRG HNW c4 q0 d10 k0 k1
                  obtain ⟨w9, rfl⟩ : ∃ w9 : World, w9 = wr := ⟨_, rfl⟩
                  go_upto_region 26 with (refine wpList_store_row rfl 62 (.tmp 12) (.tmp 125) rfl w5.heap.size #[.string fv.name, .int .i64 (fv.kind : Int), .string fv.on, .bool fv.not_, .int .i64 (fv.at_ : Int)] rfl rfl 62 #[.string ⟨#[]⟩, .int .i64 0, .string ⟨#[]⟩, .bool false, .int .i64 0] ?_ HSV.out rfl (v4_one _ _ _ _ _) ?_; (exact HAL.out))
                  rw [← HW6.out]
                  clear HW6 HAL
                  go_wp2_with fail
                  go_loopw [14, 15] (fun v14 v15 wx => ∃ (j : Nat), v15 = .int .i64 (j : Int) ∧ v14 = .bool (hasQ6 q.name.data.toList (n.eqs.take j)) ∧ j ≤ k ∧ Below W6.heap.size W6 wx)
                    (fun _ v15 _ => k - (intOf v15).toNat)
                  case atStart => exact ⟨0, rfl, rfl, Nat.zero_le _, Below.refl _ _⟩
                  case round => as_aux_lemma =>
                    obtain ⟨j, rfl, rfl, hj, hbx⟩ := hrel
                    have HBX := Lib.hid hbx
                    have HJI := Lib.hid hj
                    clear hbx hj
                    by_cases hjl : j < k
                    · --
                      have d15 : decide ((j : Int) < (k : Int)) = true := by simp; omega
                      have hjv : j < n.eqs.length := Nat.lt_trans hjl HKL.out
                      have hO9 := hasQ6_take (s := q.name.data.toList) hjv
                      obtain ⟨gx, hx, _, xp, cp, hrj, hkj⟩ := qe_at (NdIn.below HBX.out HI6.out).2.2.2 j hjv
                      cases hx
                      obtain ⟨p, hp⟩ : ∃ p, p = n.eqs[j]'hjv := ⟨_, rfl⟩
                      rw [← hp] at hrj hO9
                      have n4 := cell_of_row wr wo.heap.size 4 _ _ _ ((HBX.out.block wo.heap.size (Array.getElem?_eq_some_iff.1 HN6.out).1).trans HN6.out)
                      have q0 := cell_of_row wr w9.heap.size 0 _ _ _ ((HBX.out.block w9.heap.size (Array.getElem?_eq_some_iff.1 HQ6.out).1).trans HQ6.out)
                      have p0 : wr.cell? ⟨ge, j * 7, none⟩ = some (.string p.name) := hrj 0 _ rfl
                      have j0 : (0 : Int) ≤ (j : Int) := by omega
                      have j1 : (j : Int) < (n.eqs.length : Int) := by omega
                      have ep := nm_txt p.name q.name
                      obtain ⟨bp, hbp⟩ : ∃ bp, bp = decide (p.name.data.toList = q.name.data.toList) := ⟨_, rfl⟩
                      rw [← hbp] at ep hO9
                      obtain ⟨bq, hbq⟩ : ∃ bq, bq = hasQ6 q.name.data.toList (n.eqs.take j) := ⟨_, rfl⟩
                      rw [← hbq] at hO9 ⊢
                      have HJL := Lib.hid hjl
                      have HO9 := Lib.hid hO9
                      clear hjl hO9 hrj hkj hp hbp hbq
                      cases bq with
                      | true =>
                        clear p0 q0 n4 ep
                        go_upto_region 30 with fail
                        go_quiet (fail)
                        go_wp2_with fail
                        refine ⟨⟨j + 1, wrap_succ (by have := HJL.out; have := HKL.out; have := HFQ.out; omega), by rw [HO9.out]; rfl, HJL.out, HBX.out.trans ((below_drewN (Below.refl _ _) _).mono HBX.out.size)⟩, ?_⟩
                        rw [wrap_succ (by have := HJL.out; have := HKL.out; have := HFQ.out; omega)]
                        have := HJL.out
                        simp [intOf]; omega
                      | false =>
                        go_upto_region 30 with fail
                        go_quiet (fail)
                        go_wp2_with fail
                        refine ⟨⟨j + 1, wrap_succ (by have := HJL.out; have := HKL.out; have := HFQ.out; omega), by rw [HO9.out]; rfl, HJL.out, HBX.out.trans ((below_drewN (Below.refl _ _) _).mono HBX.out.size)⟩, ?_⟩
                        rw [wrap_succ (by have := HJL.out; have := HKL.out; have := HFQ.out; omega)]
                        have := HJL.out
                        simp [intOf]; omega
                    --5
                    · have d15 : decide ((j : Int) < (k : Int)) = false := by simp; omega
                      have hjk : k = j := by have := HJI.out; omega
                      subst hjk
                      have HN7 := Lib.hid ((HBX.out.block wo.heap.size (Array.getElem?_eq_some_iff.1 HN6.out).1).trans HN6.out)
                      have HQ7 := Lib.hid ((HBX.out.block w9.heap.size (Array.getElem?_eq_some_iff.1 HQ6.out).1).trans HQ6.out)
                      have HK7 := Lib.hid (IsD.below HBX.out HK6.out)
                      have HI7 := Lib.hid (NdIn.below HBX.out HI6.out)
                      have HT7 := Lib.hid (IsD.below HBX.out HT6.out)
                      have HC7 := Lib.hid (HC6.out.below HBX.out)
                      have HG7 := Lib.hid (grownBy_trans6 HG6.out (grownBy_below6 (r := some gc) HBX.out))
                      obtain ⟨aq, haq⟩ : ∃ aq, aq = hasQ6 q.name.data.toList (n.eqs.take k) := ⟨_, rfl⟩
                      obtain ⟨bi, hbi⟩ : ∃ bi, bi = hasV6 q.name.data.toList n.ins := ⟨_, rfl⟩
                      obtain ⟨bk, hbk⟩ : ∃ bk, bk = fo.isSome := ⟨_, rfl⟩
                      rw [← haq, ← hbk]
                      obtain ⟨bf, hbf⟩ : ∃ bf, bf = (!bk || (bi || aq)) := ⟨_, rfl⟩
                      obtain ⟨Bf, hBf⟩ : ∃ Bf, Bf = (if bf = true then fl6 Bk 8 q.at_ else Bk) := ⟨_, rfl⟩
                      have hxx : eqn6 ah n (n.eqs.take k) q Bk = names6 ah n q.e Bf := by unfold eqn6; rw [hBf, hbf, haq, hbi, hbk, HFO.out]
                      have kin := input_any n q.name wr _ xi xo xl (some ⟨ge, 0, none⟩) ci co cl ce HI7.out
                      rw [← hbi] at kin
                      unfold ndV at kin
                      have q0 := cell_of_row wr w9.heap.size 0 _ _ _ HQ7.out
                      have HXX := Lib.hid hxx
                      have HBF := Lib.hid hbf
                      have HBBF := Lib.hid hBf
                      clear hjl haq hbi hbk hbf hBf hxx HN6 HQ6 HK6 HI6 HT6 HC6 HG6 HBX
                      go_upto_region 31 with fail
                      go_cut [154] (fun v wx => v = .bool bf ∧ Below wr.heap.size wr wx)
                      case first => as_aux_lemma =>
                        cases bk with
                        | false =>
                          go_wp2_with fail
                          go_meet
                          exact ⟨by rw [HBF.out]; rfl, Below.refl _ _⟩
                        | true =>
                          cases bi with
                          | true =>
                            go_wp2_with (refine wpList_load_row_g 2 false rfl rfl 38 (.tmp 5) rfl wo.heap.size rfl 38 #[.string n.name, .slice xi n.ins.length ci, .slice xo n.outs.length co, .slice xl n.locs.length cl, .slice (some ⟨ge, 0, none⟩) n.eqs.length ce, .int .i64 (n.at_ : Int)] (0, 0) _ ?_ Try.underlying38 rfl HSN.out ?_; (exact HN7.out))
                            (with_reducible refine kin.mono ?_)
                            rintro e9 w' ⟨rfl, hb⟩
                            go_wp2_with fail
                            go_meet
                            exact ⟨by rw [HBF.out]; rfl, hb⟩
                          | false =>
                            go_wp2_with (refine wpList_load_row_g 2 false rfl rfl 38 (.tmp 5) rfl wo.heap.size rfl 38 #[.string n.name, .slice xi n.ins.length ci, .slice xo n.outs.length co, .slice xl n.locs.length cl, .slice (some ⟨ge, 0, none⟩) n.eqs.length ce, .int .i64 (n.at_ : Int)] (0, 0) _ ?_ Try.underlying38 rfl HSN.out ?_; (exact HN7.out))
                            (with_reducible refine kin.mono ?_)
                            rintro e9 w' ⟨rfl, hb⟩
                            go_wp2_with fail
                            go_meet
                            exact ⟨by rw [HBF.out]; rfl, hb⟩
                      case rest =>
                        rename World => wd
                        obtain ⟨rfl, hb⟩ := hcut
                        have HN8 := Lib.hid ((hb.block wo.heap.size (Array.getElem?_eq_some_iff.1 HN7.out).1).trans HN7.out)
                        have HQ8 := Lib.hid ((hb.block w9.heap.size (Array.getElem?_eq_some_iff.1 HQ7.out).1).trans HQ7.out)
                        have HK8 := Lib.hid (IsD.below hb HK7.out)
                        have HI8 := Lib.hid (NdIn.below hb HI7.out)
                        have HT8 := Lib.hid (IsD.below hb HT7.out)
                        have HC8 := Lib.hid (HC7.out.below hb)
                        have HG8 := Lib.hid (grownBy_trans6 HG7.out (grownBy_below6 (r := some gc) hb))
                        clear hb q0 kin HN7 HQ7 HK7 HI7 HT7 HC7 HG7
                        go_upto_if 154 with fail
                        go_cut [] (fun wx => wd.grownBy wx (some gc) ∧ Ck6 wx gc Bf)
                        case first => as_aux_lemma =>
                          cases bf with
                          | true =>
                            have q6 := cell_of_row wd w9.heap.size 6 _ _ _ HQ8.out
                            have k8 : Calls Try.prog 50 #[.pointer (some ⟨gc, 0, none⟩), .int .i64 8, .int .i64 (q.at_ : Int)] wd (GivesCk gc (fl6 Bk 8 q.at_) wd) := fail6_any wd gc Bk HC8.out 8 q.at_
                            unfold GivesCk at k8
                            go_wp2_with fail
                            (with_reducible refine k8.mono ?_)
                            rintro e9 w3 ⟨rfl, hC2, hg2⟩
                            clear k8
                            go_wp2_with fail
                            go_meet
                            exact ⟨hg2, by rw [HBBF.out]; exact hC2⟩
                          | false =>
                            go_wp2_with fail
                            go_meet
                            exact ⟨World.grownBy.refl _ _, by rw [HBBF.out]; exact HC8.out⟩
                        case rest =>
                          rename World => we
                          obtain ⟨hg, hC⟩ := hcut
                          have hdr : Below we.heap.size we we.drew := (Below.refl _ _).drew
                          have hNE9 : ¬ some w9.heap.size = some gc := fun e => by
                            injection e with e
                            have := HGW.out
                            omega
                          have HN9 := Lib.hid ((hg.block wo.heap.size (Array.getElem?_eq_some_iff.1 HN8.out).1 (fun e => HNE.out (by injection e))).trans HN8.out)
                          have HQ9 := Lib.hid ((hg.block w9.heap.size (Array.getElem?_eq_some_iff.1 HQ8.out).1 hNE9).trans HQ8.out)
                          have HRE := Lib.hid (row_range HQ9.out 1 (exC q.e xq cq) (qe_range q.name q.e xq cq (q.at_ : Int)))
                          have HG9 := Lib.hid (grownBy_trans6 (grownBy_trans6 HG8.out hg) (grownBy_below6 (r := some gc) hdr))
                          have kk := names_lt ah n HLV.out (some ⟨g, 0, none⟩) c xi xo xl (some ⟨ge, 0, none⟩) ci co cl ce _ _ _ (SizeOf.sizeOf q.e + 1) q.e (Nat.lt_succ_self _) HOQE.out we.drew gc Bf (HNK.out gc rfl) (HNK.out gc rfl) (HNK.out gc rfl) (hC.below hdr) xq cq (IsD.below hdr (IsD.grown hg HNK.out HK8.out)) (IsD.below hdr (IsD.grown hg HNK.out HT8.out)) (NdIn.below hdr (NdIn.grown6 hg HNK.out HI8.out))
                          unfold ndV at kk
                          rw [show exV q.e xq cq = .agg (exC q.e xq cq).toArray from rfl, HAHL.out] at kk
                          have hil := HIL.out
                          have hcl := HCL.out
                          have i0 : (0 : Int) ≤ (i : Int) := by omega
                          have i1 : (i : Int) < (l.length : Int) := by omega
                          have i2 : (i : Int) ≤ (l.length : Int) := by omega
                          have i3 : (i : Int) ≤ (c : Int) := by omega
                          clear hil hcl hg hC hdr hNE9 HN8 HQ8 HK8 HI8 HT8 HC8 HG8
                          go_upto_region 33 with fail
                          refine wp_region_still_tail 7 (by kernel_rfl) (by kernel_rfl) ?_
                          simp only [List.take_succ_cons, List.take_zero, List.drop_succ_cons, List.drop_zero]
                          iterate 4 still_step
                          refine wpStill_row6 rfl 38 (.tmp 5) rfl wo.heap.size rfl 38 #[.string n.name, .slice xi n.ins.length ci, .slice xo n.outs.length co, .slice xl n.locs.length cl, .slice (some ⟨ge, 0, none⟩) n.eqs.length ce, .int .i64 (n.at_ : Int)] (0, 0) _ HN9.out Try.underlying38 rfl HSN.out ?_
                          still_step
                          refine wpStill_mid6 rfl 53 (.tmp 164) rfl w9.heap.size 1 rfl (exC q.e xq cq) _ HRE.out Try.underlying53 rfl HSE.out ?_
                          refine wpStill_nil ?_
                          change wpList _ _ _ _ _ we.drew
                          go_wp2_with fail
                          (with_reducible refine kk.mono ?_)
                          rintro e9 wf ⟨rfl, hC2, hg2⟩
                          clear kk
                          go_wp2_with fail
                          refine ⟨⟨k + 1, _, wrap_succ (by have := HKL.out; have := HFQ.out; omega), HKL.out, grownBy_trans6 HG9.out hg2, hC2, by rw [← HXX.out]; exact HQ.out⟩, ?_⟩
                          rw [wrap_succ (by have := HKL.out; have := HFQ.out; omega)]
                          have := HKL.out
                          simp [intOf]; omega
                --
                · have d10 : decide ((k : Int) < (n.eqs.length : Int)) = false := by simp; omega
                  have hkq : k = n.eqs.length := by have := HKI.out; omega
                  subst hkq
                  rw [List.drop_length] at hq
                  have hEB : E = Bk := by rw [hq]; rfl
                  have HC := Lib.hid (show Ck6 wr gc E by rw [hEB]; exact HC.out)
                  have n1 := cell_of_row wr wo.heap.size 1 _ _ _ HNW.out
                  have HF := Lib.hid (show nodeN6 ah n B = ends6 n (V.drop n.ins.length) E by rw [HB2.out, ← HE.out])
                  have HIV := Lib.hid (show n.ins.length ≤ V.length by rw [HVV.out]; unfold vars6; rw [List.length_append, List.length_append]; omega)
                  clear hkl hq hEB HB2 HKI
                  go_wp2_with fail
                  clear n1 c4
                  obtain ⟨w16, rfl⟩ : ∃ w16 : World, w16 = wr := ⟨_, rfl⟩
                  go_loopw [16] (fun v16 wx => ∃ (k : Nat) (Bk : Nat × Nat), v16 = .int .i64 (k : Int) ∧ k ≤ V.length ∧ w2.grownBy wx (some gc) ∧ Ck6 wx gc Bk ∧ nodeN6 ah n B = ends6 n (V.drop k) Bk)
                    (fun v16 _ => V.length - (intOf v16).toNat)
                  case atStart => exact ⟨n.ins.length, E, rfl, HIV.out, HG.out, HC.out, HF.out⟩
                  case round => as_aux_lemma =>
                    clear HC HG HF
                    obtain ⟨k, Bk, rfl, hk, hg, hC, hq⟩ := hrel
                    have HG := Lib.hid hg
                    have HC := Lib.hid hC
                    have HKI := Lib.hid hk
                    clear hg hC hk
                    by_cases hkl : k < V.length
                    · have d16 : decide ((k : Int) < (V.length : Int)) = true := by simp; omega
                      have HKL := Lib.hid hkl
                      rw [List.drop_eq_getElem_cons hkl] at hq
                      obtain ⟨gv, rfl, hgv, hrg⟩ := var_at (IsD.grown HG.out HVK.out HV.out) k hkl
                      obtain ⟨v, hv⟩ : ∃ v, v = V[k]'hkl := ⟨_, rfl⟩
                      rw [← hv] at hrg hq
                      obtain ⟨eqv, heqv⟩ : ∃ x, x = (eqOf6 v.name.data.toList n.eqs).getD qeZ := ⟨_, rfl⟩
                      obtain ⟨be, hbe⟩ : ∃ x, x = (eqOf6 v.name.data.toList n.eqs).isSome := ⟨_, rfl⟩
                      have HN16 := Lib.hid ((HG.out.block wo.heap.size (Array.getElem?_eq_some_iff.1 HN.out).1 (fun e => HNE.out (by injection e))).trans HN.out)
                      have HLT := Lib.hid (Array.getElem?_eq_some_iff.1 HN16.out).1
                      have HI16 := Lib.hid (NdIn.grown6 HG.out HNK.out HNI.out)
                      have HGV := Lib.hid hgv
                      have HRV := Lib.hid hrg
                      have HCN := Lib.hid (show wr.cell? ⟨gv, k * 5, none⟩ = some (.string v.name) from hrg 0 _ rfl)
                      have HSQ := Lib.hid size_q4
                      obtain ⟨Bn, hBn⟩ : ∃ x, x = (if be = true then Bk else fl6 Bk 8 v.at_) := ⟨_, rfl⟩
                      have HBN := Lib.hid hBn
                      have HQ := Lib.hid (show nodeN6 ah n B = ends6 n (V.drop (k + 1)) Bn by rw [hq, hBn, hbe]; rfl)
                      have HKQ : Hid (∀ W, Below wr.heap.size wr W → Calls Try.prog 83 #[.agg #[.string n.name, .slice xi n.ins.length ci, .slice xo n.outs.length co, .slice xl n.locs.length cl, .slice xe n.eqs.length ce, .int .i64 (n.at_ : Int)], .string v.name] W (fun e w' => ∃ xq cq, e = .returned (.tuple #[.agg (qeC eqv.name eqv.e xq cq (eqv.at_ : Int)).toArray, .bool be]) ∧ Below W.heap.size W w')) := Lib.hid (fun W hb => by
                        have h := EqOf_any n v.name W _ xi xo xl xe ci co cl ce (NdIn.below hb HI16.out)
                        unfold GivesEo ndV at h
                        rw [← heqv, ← hbe] at h
                        exact h)
                      clear hkl hgv hrg hv heqv hbe hBn hq
                      go_upto_region 37 with fail
                      refine wp_region_stepsX (R := setQ) (words [wIs (.agg #[.string n.name, .slice xi n.ins.length ci, .slice xo n.outs.length co, .slice xl n.locs.length cl, .slice xe n.eqs.length ce, .int .i64 (n.at_ : Int)]), wIs (.slice (some ⟨gv, 0, none⟩) V.length cv), wIs (.int .i64 (k : Int)), wIs (.pointer (some ⟨gv, k * 5, none⟩)), wIs (.pointer (some ⟨gv, k * 5 + 0, none⟩)), wIs (.string v.name), wEoT eqv be, wEoT eqv be, wEoV eqv, wIs (.bool be), wNewQ wr.heap.size, (fun _ _ => True), wIs (.bool be)]) wr.heap.size wr [] 11 (by kernel_rfl) (Below.refl _ _) (Nat.le_refl _) (words_stable ?stab) ?sw (by decide) rfl rfl rfl rfl ?steps ?done
                      case stab =>
                        intro f hf
                        simp only [List.mem_cons, List.not_mem_nil, or_false] at hf
                        rcases hf with rfl | rfl | rfl | rfl | rfl | rfl | rfl | rfl | rfl | rfl | rfl | rfl | rfl <;> first | exact stable_is _ | exact stable_newQ _ | exact stable_eoT _ _ | exact stable_eoV _ | exact fun _ _ _ h _ => h
                      case sw =>
                        intro i v' W W' h5 hD h hb hR
                        match i, h5, hD, h with
                        | 0, _, _, h => exact h
                        | 1, _, _, h => exact h
                        | 2, _, _, h => exact h
                        | 3, _, _, h => exact h
                        | 4, _, _, h => exact h
                        | 5, _, _, h => exact h
                        | 6, _, _, h => exact h
                        | 7, _, _, h => exact h
                        | 8, _, _, h => exact h
                        | 9, _, _, h => exact h
                        | 10, _, _, h => exact newQ_set h hR
                        | 11, h5, _, _ => exact absurd rfl h5
                        | 12, _, _, h => exact h
                        | n + 13, _, _, _ => exact trivial
                      case steps =>
                        refine StepsX.cons (step_value rfl fun xa W hp => ?_) ?_
                        · have f0 : xa.tmps.getD 5 undef = .pointer (some ⟨wo.heap.size, 0, none⟩) := hp.old 5 rfl
                          exact ⟨wanted_none rfl, _, _, run_ldrow rfl f0 ((hp.below.block wo.heap.size HLT.out).trans HN16.out) Try.underlying38 rfl (by kernel_rfl), rfl, Below.refl _ _⟩
                        refine StepsX.cons (step_value rfl fun xa W hp => ⟨wanted_none rfl, _, _, run_move (.inl rfl), hp.old 6 rfl, Below.refl _ _⟩) ?_
                        refine StepsX.cons (step_value rfl fun xa W hp => ⟨wanted_none rfl, _, _, run_move (.inl rfl), hp.old 16 rfl, Below.refl _ _⟩) ?_
                        refine StepsX.cons (step_value rfl fun xa W hp => ?_) ?_
                        · have f0 : xa.tmps.getD 178 undef = .slice (some ⟨gv, 0, none⟩) V.length cv := (hp.on_ 1 rfl rfl rfl).2
                          have f1 : xa.tmps.getD 179 undef = .int .i64 (k : Int) := (hp.on_ 2 rfl rfl rfl).2
                          exact ⟨wanted_none rfl, _, _, run_idxG (k := k) Try.underlying35 size_v4 rfl f0 f1 (by exact HKL.out), rfl, Below.refl _ _⟩
                        refine StepsX.cons (step_value rfl fun xa W hp => ?_) ?_
                        · have f0 : xa.tmps.getD 180 undef = .pointer (some ⟨gv, k * 5, none⟩) := (hp.on_ 3 rfl rfl rfl).2
                          have f1 : (Instr.fieldAt 62 (.pointer (some ⟨gv, k * 5, none⟩)) 0).run Try.prog W = .ok (.pointer (some ⟨gv, k * 5 + 0, none⟩)) W := by kernel_rfl
                          exact ⟨wanted_none rfl, _, _, run_fa4 rfl f0 f1, rfl, Below.refl _ _⟩
                        refine StepsX.cons (step_value rfl fun xa W hp => ?_) ?_
                        · have f0 : xa.tmps.getD 181 undef = .pointer (some ⟨gv, k * 5 + 0, none⟩) := (hp.on_ 4 rfl rfl rfl).2
                          exact ⟨wanted_none rfl, _, _, run_ldv rfl f0 ((hp.below.cell (p := ⟨gv, k * 5 + 0, none⟩) HGV.out).trans HCN.out) Try.underlying9 rfl (by kernel_rfl), rfl, Below.refl _ _⟩
                        refine StepsX.cons (step_enter rfl fun xa W hp => ?_) ?_
                        · have f0 : xa.tmps.getD 177 undef = .agg #[.string n.name, .slice xi n.ins.length ci, .slice xo n.outs.length co, .slice xl n.locs.length cl, .slice xe n.eqs.length ce, .int .i64 (n.at_ : Int)] := (hp.on_ 0 rfl rfl rfl).2
                          have f1 : xa.tmps.getD 182 undef = .string v.name := (hp.on_ 5 rfl rfl rfl).2
                          refine ⟨wanted_none rfl, 83, _, run_enter2 rfl rfl Try.call83, ?_⟩
                          show Calls _ _ #[xa.tmps.getD 177 undef, xa.tmps.getD 182 undef] W _
                          rw [f0, f1]
                          exact (HKQ.out W hp.below).mono (fun e' W' ⟨xq, cq, he, hb⟩ => ⟨_, he, ⟨xq, cq, rfl⟩, hb⟩)
                        refine StepsX.cons (step_value rfl fun xa W hp => ⟨wanted_none rfl, _, _, run_move (.inl rfl), (hp.on_ 6 rfl rfl rfl).2, Below.refl _ _⟩) ?_
                        refine StepsX.cons (step_value rfl fun xa W hp => ?_) ?_
                        · obtain ⟨xq, cq, e0⟩ : wEoT eqv be (xa.tmps.getD 176 undef) W := (hp.on_ 7 rfl rfl rfl).2
                          exact ⟨wanted_none rfl, _, _, run_ext6 rfl e0 rfl, ⟨xq, cq, rfl⟩, Below.refl _ _⟩
                        refine StepsX.cons (step_value rfl fun xa W hp => ?_) ?_
                        · obtain ⟨xq, cq, e0⟩ : wEoT eqv be (xa.tmps.getD 176 undef) W := (hp.on_ 7 rfl rfl rfl).2
                          exact ⟨wanted_none rfl, _, _, run_ext6 rfl e0 rfl, rfl, Below.refl _ _⟩
                        refine StepsX.cons (step_value rfl fun xa W hp => ⟨wanted_none rfl, _, _, alloc_q4 rfl, ⟨W.heap.size, _, rfl, hp.base, rfl, heap_alloc_new W _⟩, (Below.refl _ _).alloc (Nat.le_refl _) _⟩) ?_
                        refine StepsX.weak (step_skipW rfl fun xa W hp => ?_) ?_
                        · obtain ⟨g0, cs0, e0, hB, hs0, hr⟩ : wNewQ wr.heap.size (xa.tmps.getD 17 undef) W := (hp.on_ 10 rfl rfl rfl).2
                          obtain ⟨xq, cq, e1⟩ : wEoV eqv (xa.tmps.getD 184 undef) W := (hp.on_ 8 rfl rfl rfl).2
                          exact ⟨wanted_none rfl, _, run_strow (x := .tmp 17) (y := .tmp 184) rfl e0 e1 hr HSQ.out hs0 (q6_one _ _ _ _ _ _ _ _ _), trivial, (below_setRowB hp.below hB _).1, (below_setRowB hp.below hB _).2, _, _, rfl, rfl⟩
                        refine StepsX.cons (step_value rfl fun xa W hp => ⟨wanted_none rfl, _, _, run_move (.inr rfl), (hp.on_ 9 rfl rfl rfl).2, Below.refl _ _⟩) ?_
                        exact StepsX.nil
                      case done =>
                        intro act W hI
                        have hbW := hI.below
                        have h18_ : act.tmps.getD 18 undef = .bool be := hI.new 12 _ 18 rfl rfl rfl (fun h => by simp at h)
                        obtain ⟨fo, hf, hx⟩ := puts_of hI.tmps hI.defers hI.old [177, 178, 179, 180, 181, 182, 183, 176, 184, 185, 17, 18] (by rfl)
                        rw [hf] at h18_
                        clear hI hf
                        subst hx
                        simp only [Exit.inBlock, Exit.then, List.foldl, Act.put, List.setIfInBounds_toArray, List.set_cons_succ, List.set_cons_zero]
                        rw [h18_]
                        clear h18_
                        have hg37 : w2.grownBy W (some gc) := grownBy_trans6 HG.out (grownBy_below6 (r := some gc) hbW)
                        have HG9 := Lib.hid hg37
                        have HC9 := Lib.hid (HC.out.below hbW)
                        have HR9 := Lib.hid (show W.cell? ⟨gv, k * 5 + 4, none⟩ = some (.int .i64 (v.at_ : Int)) from (hbW.cell (p := ⟨gv, k * 5 + 4, none⟩) HGV.out).trans (HRV.out 4 _ rfl))
                        have k0 : (0 : Int) ≤ (k : Int) := by omega
                        have k1 : (k : Int) < (V.length : Int) := by have := HKL.out; omega
                        clear hbW hg37
                        cases be with
                        | true =>
                          go_wp2_with fail
                          have hws : Value.int .i64 (wrap64 ((k : Int) + 1)) = Value.int .i64 ((k + 1 : Nat) : Int) := wrap_succ (by have := HKL.out; have := HLM.out; omega)
                          refine ⟨⟨k + 1, Bn, hws, HKL.out, HG9.out, by rw [HBN.out]; exact HC9.out, HQ.out⟩, ?_⟩
                          rw [hws]
                          have := HKL.out
                          simp [intOf]; omega
                        | false =>
                          have c4 := HR9.out
                          have k8 : Calls Try.prog 50 #[.pointer (some ⟨gc, 0, none⟩), .int .i64 8, .int .i64 (v.at_ : Int)] W (GivesCk gc (fl6 Bk 8 v.at_) W) := fail6_any W gc Bk HC9.out 8 v.at_
                          unfold GivesCk at k8
                          go_wp2_with fail
                          (with_reducible refine k8.mono ?_)
                          rintro e9 w3 ⟨rfl, hC2, hg2⟩
                          clear k8
                          go_wp2_with fail
                          have hws : Value.int .i64 (wrap64 ((k : Int) + 1)) = Value.int .i64 ((k + 1 : Nat) : Int) := wrap_succ (by have := HKL.out; have := HLM.out; omega)
                          refine ⟨⟨k + 1, Bn, hws, HKL.out, grownBy_trans6 HG9.out hg2, by rw [HBN.out]; exact hC2, HQ.out⟩, ?_⟩
                          rw [hws]
                          have := HKL.out
                          simp [intOf]; omega
                    · have d16 : decide ((k : Int) < (V.length : Int)) = false := by simp; omega
                      have hkv : k = V.length := by have := HKI.out; omega
                      subst hkv
                      rw [List.drop_length] at hq
                      have HNB := Lib.hid (show nodeN6 ah n B = Bk by rw [hq]; rfl)
                      clear hkl hq HKI
                      go_wp2_with fail
                      refine ⟨⟨i + 1, Bk, wrap_succ (by have := HIL.out; have := HFEW.out; omega), HIL.out, grownBy_trans6 HGC.out HG.out, HC.out, by rw [← HNB.out]; exact HQ.out⟩, ?_⟩
                      rw [wrap_succ (by have := HIL.out; have := HFEW.out; omega)]
                      have := HIL.out
                      simp [intOf]; omega
    · have d1 : decide ((i : Int) < (l.length : Int)) = false := by simp; omega
      have hil2 : i = l.length := by have := HI.out; omega
      subst hil2
      rw [List.drop_length] at hq
      have HRB := Lib.hid (show R = B by rw [hq]; rfl)
      have hgw : w.heap.size ≠ gc := by rw [HGC.out]; omega
      have HR0 := Lib.hid ((HG.out.block w.heap.size (HF0.out.lt_ 0 rfl) (fun e => hgw (by injection e))).trans (HF0.out.get 0 rfl))
      have HBL := Lib.hid (Below.grown HF0.out.below HG.out HF0.out.below.size (fun k h => by injection h with h; rw [← h, HGC.out]; omega))
      have hC : wr.heap[gc]? = some (.cells #[.int .i64 (B.1 : Int), .int .i64 (B.2 : Int)] 93 (0, 0)) := HC.out
      have HC := Lib.hid hC
      clear hil hq hgw hC
      go_wp2_with (first | (refine wpList_load_row rfl 30 (.tmp 197) rfl gc rfl 93 #[.int .i64 (B.1 : Int), .int .i64 (B.2 : Int)] (0, 0) _ HC.out Try.underlying30 rfl HSB.out ?_) | (refine wpList_store_row rfl 30 (.tmp 2) (.tmp 198) rfl w.heap.size #[.int .i64 (B.1 : Int), .int .i64 (B.2 : Int)] rfl rfl 30 #[.int .i64 0, .int .i64 0] ?_ HSB.out rfl (bad6_one _ _) ?_; (exact HR0.out)))
      refine bodyPost_ret (v := .agg #[.int .i64 (B.1 : Int), .int .i64 (B.2 : Int)]) (results_cell_row (p := 2) (ty := 30) rfl _ _ w.heap.size 30 _ (0, 0) _ rfl (setRow_heap _ w.heap.size _ _ _ _ HR0.out) Try.underlying30 rfl HSB.out) rfl ?_
      rw [HRB.out]
      exact ⟨rfl, below_setRow HBL.out (Nat.le_refl _) _⟩
end Go.Proofs.Ytejljfoacbpliaa

namespace Go.Proofs.Ytejljfoacbpliaa
open Go Go.RowKit
set_option maxHeartbeats 4000000 in
set_option maxRecDepth 100000 in
theorem KindOf_any (l : List Nd) (i : Nat) (hi : i < l.length) (e : Ex) (hlv : (vars6 (l.getD i ndZ6)).length ≤ 1000000) (hoe : okE e = true) (hwk : (names6 (l.take i) (l.getD i ndZ6) e (0, 0)).1 = 0 → wk6 l e) (w : World) (ok okx : Nat → Prop) (xa : Option Addr) (ca : Nat) (hk : IsD ok w (.slice xa l.length ca) (.sl l.length (ndsD l))) (x : Option Addr) (c : Nat) (hkk : KidsD okx w e x c) :
    Calls Try.prog 17 #[.slice xa l.length ca, .int .i64 (i : Int), exV e x c] w (fun e9 w' => e9 = .returned (.int .i64 (kindOf6 l i e)) ∧ Below w.heap.size w w') := by
  have HSN := Lib.hid size_n4
  have HSE := Lib.hid size_e4
  have HSB := Lib.hid size_bad6
  have HLV := Lib.hid hlv
  have HOE := Lib.hid hoe
  have HWK := Lib.hid hwk
  have F0 := ((Fx.start w).alloc w.heap.size rfl 53 #[.string e.op, .string e.name, .int .i64 e.n, .int .i64 (e.at_ : Int), .slice x e.kids.length c]).alloc (w.heap.size + 1) (by simp) 93 #[.int .i64 0, .int .i64 0]
  obtain ⟨W0, hW0⟩ : ∃ W0, W0 = ((w.alloc (.cells #[.string e.op, .string e.name, .int .i64 e.n, .int .i64 (e.at_ : Int), .slice x e.kids.length c] 53)).alloc (.cells #[.int .i64 0, .int .i64 0] 93)) := ⟨_, rfl⟩
  rw [← hW0] at F0
  obtain ⟨gc, hgc⟩ : ∃ gc, gc = w.heap.size + 1 := ⟨_, rfl⟩
  have HGC := Lib.hid hgc
  have HC0 : Hid (Ck6 W0 gc (0, 0)) := Lib.hid (by rw [hgc]; exact F0.get 1 rfl)
  have HK : Hid (IsD (fun k => ok k ∧ k < w.heap.size) W0 (.slice xa l.length ca) (.sl l.length (ndsD l))) := Lib.hid (IsD.below F0.below (hk.mono (fun k h hl => ⟨h, hl⟩)))
  have HKX : Hid (KidsD (fun k => okx k ∧ k < w.heap.size) W0 e x c) := Lib.hid (IsD.below F0.below (IsD.mono (fun k h hl => ⟨h, hl⟩) hkk))
  have HNK : Hid (¬ (ok gc ∧ gc < w.heap.size)) := Lib.hid (fun h => by have := h.2; omega)
  have HNX : Hid (¬ (okx gc ∧ gc < w.heap.size)) := Lib.hid (fun h => by have := h.2; omega)
  have HE0 := Lib.hid (F0.get 0 rfl)
  have HB0 := Lib.hid F0.below
  have HW0 := Lib.hid hW0
  have bc := build_chk
  obtain ⟨R, hR⟩ : ∃ R, R = kindOf6 l i e := ⟨_, rfl⟩
  rw [← hR]
  unfold kindOf6 at hR
  have hkr := HK.out
  have htk := IsD.taken hkr i (Nat.le_of_lt hi)
  obtain ⟨gx, hgx, hokx, _, _⟩ := IsD.some_ hkr (by omega)
  obtain ⟨g, rfl, hgl, xi, ci, xo, co, xl, cl, xe, ce, hrg, t1, t2, t3, t4⟩ := nd_at hkr i hi
  obtain rfl : g = gx := by injection hgx with hgx; injection hgx with hgx
  have HOX := Lib.hid hokx
  have hgd : l.getD i ndZ6 = l[i] := by simp [List.getD, hi]
  rw [hgd] at hR hlv hwk
  obtain ⟨n, hn⟩ : ∃ n, n = l[i]'hi := ⟨_, rfl⟩
  rw [← hn] at hrg t1 t2 t3 t4 hR hlv hwk
  have HLV := Lib.hid hlv
  have HWK := Lib.hid hwk
  obtain ⟨ah, hah⟩ : ∃ ah, ah = l.take i := ⟨_, rfl⟩
  have hal : ah.length = i := by rw [hah]; simp; omega
  rw [← hah] at htk hR
  have HNM := Lib.hid (show (names6 ah n e (0, 0)).1 = 0 → wk6 l e by rw [hah]; exact hwk)
  have HTK := Lib.hid htk
  have HAH := Lib.hid hal
  have hNI : NdIn (fun k => ok k ∧ k < w.heap.size) W0 n xi xo xl xe ci co cl ce := ⟨t1, t2, t3, t4⟩
  have HNI := Lib.hid hNI
  have HRG := Lib.hid hrg
  have HGL := Lib.hid hgl
  have i0 : (0 : Int) ≤ (i : Int) := by omega
  have i1 : (i : Int) < (l.length : Int) := by omega
  have i2 : (i : Int) ≤ (l.length : Int) := by omega
  have i4 : ((i : Int) < 0) = False := by simp
  have d0 : decide ((i : Int) < 0) = false := by simp
  have d1 : decide ((l.length : Int) ≤ (i : Int)) = false := by simp; omega
  have hcl : l.length ≤ ca := by obtain ⟨x', c', h1, h2, h3⟩ := IsD.slice hkr; injection h1 with _ _ h; subst h; exact h2
  have i3 : (i : Int) ≤ (ca : Int) := by omega
  have hdr : Below W0.heap.size W0 W0.drew := (Below.refl _ _).drew
  have kn := names_lt ah n hlv (some ⟨g, 0, none⟩) ca xi xo xl xe ci co cl ce _ _ _ (SizeOf.sizeOf e + 1) e (Nat.lt_succ_self _) hoe W0.drew gc (0, 0) HNK.out HNK.out HNX.out (HC0.out.below hdr) x c (IsD.below hdr HKX.out) (IsD.below hdr htk) (NdIn.below hdr hNI)
  rw [HAH.out] at kn
  rw [show ndV n xi xo xl xe ci co cl ce = .agg (ndC n xi xo xl xe ci co cl ce).toArray from rfl] at kn
  rw [show exV e x c = .agg #[.string e.op, .string e.name, .int .i64 e.n, .int .i64 (e.at_ : Int), .slice x e.kids.length c] from rfl] at kn
  obtain ⟨B1, hB1⟩ : ∃ B1, B1 = names6 ah n e (0, 0) := ⟨_, rfl⟩
  have HBZ : Hid (B1.1 = 0 → B1 = (0, 0)) := Lib.hid (fun h => by rw [hB1] at h ⊢; exact (names6_zero ah n e _ h).1)
  rw [← hB1] at kn hR HNM
  have HKX2 := HKX
  have HR := Lib.hid hR
  have HDR := Lib.hid hdr
  have HLL := Lib.hid (show i < l.length from hi)
  clear hk hkk hoe hlv hwk F0 hW0 hR hkr htk hgd hn hrg t1 t2 t3 t4 hah hal hNI hcl hgl hdr hB1 hi hgx hokx HKX2
  unfold exV
  go_enter Try.func17, Try.ntmps17
  go_upto_region 4 with fail
  rw [← HW0.out, ← hgc]
  clear bc hgc
  go_wp2_with fail
  refine wp_region_still_tail 9 (by kernel_rfl) (by kernel_rfl) ?_
  simp only [List.take_succ_cons, List.take_zero, List.drop_succ_cons, List.drop_zero]
  iterate 7 still_step
  refine wpStill_mid6 rfl 38 (.tmp 25) rfl g (i * 6) rfl (ndC n xi xo xl xe ci co cl ce) _ HRG.out Try.underlying38 rfl HSN.out ?_
  refine wpStill_row6 rfl 53 (.tmp 5) rfl w.heap.size rfl 53 #[.string e.op, .string e.name, .int .i64 e.n, .int .i64 (e.at_ : Int), .slice x e.kids.length c] (0, 0) _ HE0.out Try.underlying53 rfl HSE.out ?_
  refine wpStill_nil ?_
  change wpList _ _ _ _ _ W0.drew
  go_wp2_with fail
  (with_reducible refine kn.mono ?_)
  rintro e9 w1 ⟨rfl, hC1, hg1⟩
  have HC1 := Lib.hid hC1
  have HG1 := Lib.hid (gb_trans (gb_below HDR.out) hg1)
  have c9 := cell_of_row w1 gc 0 _ _ _ hC1
  clear kn hC1 hg1
  have HBB := Lib.hid (below_own HB0.out HG1.out (fun k hk => by injection hk with hk; have := HGC.out; omega))
  by_cases hb1 : B1.1 = 0
  · have t1 : ((B1.1 : Int) != 0) = false := by rw [hb1]; rfl
    obtain rfl := HBZ.out hb1
    have hwk := HNM.out hb1
    have hR := HR.out
    rw [if_neg (fun h => h rfl)] at hR
    have hlt := (Array.getElem?_eq_some_iff.1 HE0.out).1
    have hE1 := (HG1.out.block w.heap.size hlt (fun h => by injection h with h; have := HGC.out; omega)).trans HE0.out
    have HE1 := Lib.hid hE1
    have hb2 := HG1.out.block g HGL.out (fun h => by injection h with h; have := HGC.out; have := HOX.out.2; omega)
    have HRG1 : Hid (w1.rangeAt g (i * 6) (ndC n xi xo xl xe ci co cl ce)) := Lib.hid (fun j v hj => (World.cell?_of_block hb2).trans (HRG.out j v hj))
    have hdr : Below w1.heap.size w1 w1.drew := (Below.refl _ _).drew
    have kk := kind6_lt l n HLV.out (some ⟨g, 0, none⟩) ca xi xo xl xe ci co cl ce (SizeOf.sizeOf e + 1) e (Nat.lt_succ_self _) HOE.out hwk _ _ _ w1.drew gc (0, 0) HNK.out HNK.out HNX.out (HC1.out.below hdr) x c (IsD.below hdr (IsD.grown HG1.out (fun k hk => by injection hk with hk; subst hk; exact HNX.out) HKX.out)) (IsD.below hdr (IsD.grown HG1.out (fun k hk => by injection hk with hk; subst hk; exact HNK.out) HK.out)) (NdIn.below hdr (NdIn.grown6 HG1.out (fun k hk => by injection hk with hk; subst hk; exact HNK.out) HNI.out))
    rw [show ndV n xi xo xl xe ci co cl ce = .agg (ndC n xi xo xl xe ci co cl ce).toArray from rfl] at kk
    rw [show exV e x c = .agg #[.string e.op, .string e.name, .int .i64 e.n, .int .i64 (e.at_ : Int), .slice x e.kids.length c] from rfl] at kk
    obtain ⟨K, hK⟩ : ∃ K, K = kind6 l n e (0, 0) := ⟨_, rfl⟩
    rw [← hK] at kk hR
    have HR2 := Lib.hid hR
    have HDR2 := Lib.hid hdr
    clear hb1 hwk hR hlt hE1 hb2 hdr hK
    go_wp2_with fail
    refine wp_region_still_tail 7 (by kernel_rfl) (by kernel_rfl) ?_
    simp only [List.take_succ_cons, List.take_zero, List.drop_succ_cons, List.drop_zero]
    iterate 5 still_step
    refine wpStill_mid6 rfl 38 (.tmp 39) rfl g (i * 6) rfl (ndC n xi xo xl xe ci co cl ce) _ HRG1.out Try.underlying38 rfl HSN.out ?_
    refine wpStill_row6 rfl 53 (.tmp 5) rfl w.heap.size rfl 53 #[.string e.op, .string e.name, .int .i64 e.n, .int .i64 (e.at_ : Int), .slice x e.kids.length c] (0, 0) _ HE1.out Try.underlying53 rfl HSE.out ?_
    refine wpStill_nil ?_
    change wpList _ _ _ _ _ w1.drew
    clear c9
    go_wp2_with fail
    (with_reducible refine kk.mono ?_)
    rintro e9 w2 ⟨rfl, hC2, hg2⟩
    have HBB2 := Lib.hid (below_own (below_own HBB.out (gb_below (r := gc) HDR2.out) (fun k hk => by injection hk with hk; have := HGC.out; omega)) hg2 (fun k hk => by injection hk with hk; have := HGC.out; omega))
    have c9 := cell_of_row w2 gc 0 _ _ _ hC2
    clear kk hC2 hg2
    by_cases hb2 : K.2.1 = 0
    · have t2 : ((K.2.1 : Int) != 0) = false := by rw [hb2]; rfl
      have HR3 : Hid (R = K.1) := Lib.hid (by rw [HR2.out, if_neg (fun h => h hb2)])
      clear hb2
      go_wp2_with fail
      go_ret
      exact ⟨by rw [HR3.out]; rfl, HBB2.out⟩
    · have t2 : ((K.2.1 : Int) != 0) = true := by simpa using hb2
      have HR3 : Hid (R = 0) := Lib.hid (by rw [HR2.out, if_pos hb2])
      clear hb2
      go_wp2_with fail
      go_ret
      exact ⟨by rw [HR3.out]; rfl, HBB2.out⟩
  · have t1 : ((B1.1 : Int) != 0) = true := by simpa using hb1
    have HR2 : Hid (R = 0) := Lib.hid (by rw [HR.out, if_pos hb1])
    clear hb1
    go_wp2_with fail
    go_ret
    exact ⟨by rw [HR2.out]; rfl, HBB.out⟩
end Go.Proofs.Ytejljfoacbpliaa

namespace Go.Proofs.Ytejljfoacbpliaa
open Go Go.RowKit
def k12 (k : Int) : Prop := k = 1 ∨ k = 2
theorem find6_declK (s : ByteArray) : ∀ l : List Vr, declK l s.data.toList = (find6 s.data.toList l).map (fun v => (v.kind : Int))
  | [] => rfl
  | v :: r => by
    have ih := find6_declK s r
    unfold declK at ih ⊢
    unfold find6
    rw [List.find?_cons]
    by_cases h : v.name.data.toList = s.data.toList
    · rw [if_pos h, show (v.name.data.toList == s.data.toList) = true by simpa using h]
    · rw [if_neg h, show (v.name.data.toList == s.data.toList) = false by simpa using h]; exact ih
theorem declsOf_vars (n : Nd) : declsOf n = vars6 n := by simp [declsOf, vars6]
theorem vk6_kindOf (n : Nd) (nm : ByteArray) (h : (find6 nm.data.toList (vars6 n)).isSome = true) : kindOf (declK (declsOf n)) nm = vk6 n nm := by
  unfold kindOf vk6
  rw [declsOf_vars, find6_declK]
  cases hf : find6 nm.data.toList (vars6 n) with
  | none => rw [hf] at h; cases h
  | some v => rfl
theorem find6_mem {s : List UInt8} : ∀ {l : List Vr} {v : Vr}, find6 s l = some v → v ∈ l
  | [], v, h => by simp [find6] at h
  | u :: r, v, h => by
    unfold find6 at h
    split at h
    · injection h with h; subst h; exact List.mem_cons_self
    · exact List.mem_cons_of_mem _ (find6_mem h)
theorem vk6_12 {n : Nd} {nm : ByteArray} (hk : ∀ v ∈ vars6 n, k12 (v.kind : Int)) (h : (find6 nm.data.toList (vars6 n)).isSome = true) : k12 (vk6 n nm) := by
  unfold vk6
  cases hf : find6 nm.data.toList (vars6 n) with
  | none => rw [hf] at h; cases h
  | some v => exact hk v (find6_mem hf)
theorem nodeFrom_of (nm : ByteArray) : ∀ (l : List Nd) (j k : Nat), nodeOf6 nm.data.toList l j = some k → nodeFrom nm l j = (k : Int)
  | [], j, k, h => by simp [nodeOf6] at h
  | n :: r, j, k, h => by
    unfold nodeOf6 at h
    unfold nodeFrom
    split at h
    · rename_i hs
      injection h with h
      rw [if_pos (by simpa using hs), h]
    · rename_i hs
      rw [if_neg (by simpa using hs)]
      exact nodeFrom_of nm r (j + 1) k h
theorem allK6_eq : ∀ (vs : List Vr) (ks : List Int), vs.length = ks.length → (ks == vkinds vs) = allK6 vs ks
  | [], [], _ => rfl
  | v :: vs, k :: ks, h => by
    have ih := allK6_eq vs ks (by simpa using h)
    unfold vkinds at ih ⊢
    unfold allK6
    rw [List.map_cons, List.cons_beq_cons, ih]
    congr 1
    by_cases hk : k = (v.kind : Int)
    · rw [show (k == (v.kind : Int)) = true by simpa using hk, show ((v.kind : Int) == k) = true by simpa using hk.symm]
    · rw [show (k == (v.kind : Int)) = false by simpa using hk, show ((v.kind : Int) == k) = false by simpa using fun h => hk h.symm]
  | [], _ :: _, h => by simp at h
  | _ :: _, [], h => by simp at h
def said6 (r : Bool × Int) (at_ : Nat) : Except Nat Int := if r.1 = true then .ok r.2 else .error at_
theorem kindE_6 (l : List Nd) (i : Nat) (n : Nd) (op nm : ByteArray) (at_ : Nat) (ks : List Int) (har : arOk op.data.toList ks.length = true) (hks : ∀ k ∈ ks, k12 k) (hkv : ∀ v ∈ vars6 n, k12 (v.kind : Int)) (hko : ∀ m ∈ l, ∀ v ∈ m.outs, k12 (v.kind : Int))
    (hc : op.data.toList = [99, 97, 108, 108] → ∃ k, nodeOf6 nm.data.toList (l.take i) 0 = some k ∧ ((l.take i).getD k ndZ6).outs.length = 1 ∧ ((l.take i).getD k ndZ6).ins.length = ks.length)
    (hv : (op.data.toList = [118, 97, 114] ∨ op.data.toList = [119, 104, 101, 110] ∨ op.data.toList = [109, 101, 114, 103, 101]) → (find6 nm.data.toList (vars6 n)).isSome = true) :
    kindE (l.take i) (declK (declsOf n)) op nm at_ ks = said6 (rule6 l n op nm ks) at_ ∧ ((rule6 l n op nm ks).1 = true → k12 (rule6 l n op nm ks).2) := by
  unfold arOk at har
  simp only [Bool.or_eq_true, beq_iff_eq, ARITY4, List.contains_cons, List.contains_nil, Bool.or_false, Prod.mk.injEq] at har
  rcases har with hop | ⟨hop, hl⟩ | ⟨hop, hl⟩ | ⟨hop, hl⟩ | ⟨hop, hl⟩ | ⟨hop, hl⟩ | ⟨hop, hl⟩ | ⟨hop, hl⟩ | ⟨hop, hl⟩ | ⟨hop, hl⟩ | ⟨hop, hl⟩ | ⟨hop, hl⟩ | ⟨hop, hl⟩ | ⟨hop, hl⟩ | ⟨hop, hl⟩ | ⟨hop, hl⟩ | ⟨hop, hl⟩ | ⟨hop, hl⟩ | ⟨hop, hl⟩ | ⟨hop, hl⟩ | ⟨hop, hl⟩ | ⟨hop, hl⟩ | ⟨hop, hl⟩ | ⟨hop, hl⟩ | ⟨hop, hl⟩ | ⟨hop, hl⟩
  · obtain ⟨k, hk, ho, hn⟩ := hc hop
    have hnf := nodeFrom_of nm _ _ _ hk
    have hlt := (nodeOf6_lt _ _ _ _ hk).2
    rw [Nat.zero_add, List.length_take] at hlt
    have hg : (l.take i).getD k ndZ6 = l[k]'(by omega) := by simp [List.getD, List.getElem?_take, show k < i by omega, show k < l.length by omega]
    have hcal : callee6 l nm = l[k]'(by omega) := by
      have := nodeOf6_app _ (l.drop i) _ _ _ hk
      rw [List.take_append_drop] at this
      unfold callee6; rw [this]; simp [List.getD, show k < l.length by omega]
    have hm : (l[k]'(by omega)) ∈ l := List.getElem_mem _
    rw [hg] at ho hn
    obtain ⟨m, hmm⟩ : ∃ m, m = l[k]'(by omega) := ⟨_, rfl⟩
    rw [← hmm] at ho hn hg hcal hm
    obtain ⟨o, hoo⟩ : ∃ o, m.outs = [o] := by
      match h : m.outs, ho with
      | [o], _ => exact ⟨o, rfl⟩
    have hk1 : k12 (o.kind : Int) := hko m hm o (by rw [hoo]; exact List.mem_cons_self)
    have hcf : callF (l.take i) nm = (vkinds m.ins, (o.kind : Int)) := by
      have hz : (⟨⟨#[]⟩, [], [], [], [], 0⟩ : Nd) = ndZ6 := rfl
      unfold callF
      rw [hnf, if_neg (by omega), Int.toNat_natCast, hz, hg, hoo]
    obtain rfl := bytes_eq hop
    have h6 : rule6 l n ⟨#[99, 97, 108, 108]⟩ nm ks = (allK6 m.ins ks, (o.kind : Int)) := by
      rw [show rule6 l n ⟨#[99, 97, 108, 108]⟩ nm ks = (allK6 (callee6 l nm).ins ks, (((callee6 l nm).outs.getD 0 vrZ).kind : Int)) by kernel_rfl, hcal, hoo]; rfl
    rw [h6]
    unfold kindE
    rw [show ruleF (l.take i) (declK (declsOf n)) ⟨#[99, 97, 108, 108]⟩ nm (ks.getLastD 0) = callF (l.take i) nm by kernel_rfl, hcf]
    simp only
    rw [allK6_eq _ _ hn]
    have hne : (o.kind : Int) ≠ 0 := by rcases hk1 with h | h <;> omega
    refine ⟨?_, fun _ => hk1⟩
    unfold said6
    cases allK6 m.ins ks
    · rw [if_pos (.inr rfl)]; rfl
    · rw [if_neg (by rintro (h | h); exact hne h; cases h)]; rfl
  · obtain rfl := bytes_eq hop
    obtain rfl := List.length_eq_zero_iff.1 hl
    exact ⟨by kernel_rfl, fun _ => .inr rfl⟩
  · obtain rfl := bytes_eq hop
    obtain rfl := List.length_eq_zero_iff.1 hl
    exact ⟨by kernel_rfl, fun _ => .inl rfl⟩
  · obtain rfl := bytes_eq hop
    obtain rfl := List.length_eq_zero_iff.1 hl
    have hf := hv (.inl rfl)
    have h1 := vk6_kindOf n nm hf
    have h2 := vk6_12 hkv hf
    rw [show rule6 l n ⟨#[118, 97, 114]⟩ nm [] = (true, vk6 n nm) by kernel_rfl]
    unfold kindE
    rw [show ruleF (l.take i) (declK (declsOf n)) ⟨#[118, 97, 114]⟩ nm ([].getLastD 0) = ([], kindOf (declK (declsOf n)) nm) by kernel_rfl, h1]
    refine ⟨?_, fun _ => h2⟩
    rcases h2 with h | h <;> rw [h] <;> rfl
  · obtain rfl := bytes_eq hop
    match ks, hl with
    | [a], _ =>
      rcases hks a (by simp) with rfl | rfl
      all_goals exact ⟨by kernel_rfl, fun _ => by first | exact .inl rfl | exact .inr rfl⟩
  · obtain rfl := bytes_eq hop
    match ks, hl with
    | [a], _ =>
      rcases hks a (by simp) with rfl | rfl
      all_goals exact ⟨by kernel_rfl, fun _ => by first | exact .inl rfl | exact .inr rfl⟩
  · obtain rfl := bytes_eq hop
    match ks, hl with
    | [a], _ =>
      rcases hks a (by simp) with rfl | rfl
      all_goals exact ⟨by kernel_rfl, fun _ => by first | exact .inl rfl | exact .inr rfl⟩
  · obtain rfl := bytes_eq hop
    match ks, hl with
    | [a, b], _ =>
      rcases hks a (by simp) with rfl | rfl <;> rcases hks b (by simp) with rfl | rfl
      all_goals exact ⟨by kernel_rfl, fun _ => by first | exact .inl rfl | exact .inr rfl⟩
  · obtain rfl := bytes_eq hop
    match ks, hl with
    | [a, b], _ =>
      rcases hks a (by simp) with rfl | rfl <;> rcases hks b (by simp) with rfl | rfl
      all_goals exact ⟨by kernel_rfl, fun _ => by first | exact .inl rfl | exact .inr rfl⟩
  · obtain rfl := bytes_eq hop
    match ks, hl with
    | [a, b], _ =>
      rcases hks a (by simp) with rfl | rfl <;> rcases hks b (by simp) with rfl | rfl
      all_goals exact ⟨by kernel_rfl, fun _ => by first | exact .inl rfl | exact .inr rfl⟩
  · obtain rfl := bytes_eq hop
    match ks, hl with
    | [a, b], _ =>
      rcases hks a (by simp) with rfl | rfl <;> rcases hks b (by simp) with rfl | rfl
      all_goals exact ⟨by kernel_rfl, fun _ => by first | exact .inl rfl | exact .inr rfl⟩
  · obtain rfl := bytes_eq hop
    match ks, hl with
    | [a, b], _ =>
      rcases hks a (by simp) with rfl | rfl <;> rcases hks b (by simp) with rfl | rfl
      all_goals exact ⟨by kernel_rfl, fun _ => by first | exact .inl rfl | exact .inr rfl⟩
  · obtain rfl := bytes_eq hop
    match ks, hl with
    | [a, b], _ =>
      rcases hks a (by simp) with rfl | rfl <;> rcases hks b (by simp) with rfl | rfl
      all_goals exact ⟨by kernel_rfl, fun _ => by first | exact .inl rfl | exact .inr rfl⟩
  · obtain rfl := bytes_eq hop
    match ks, hl with
    | [a, b], _ =>
      rcases hks a (by simp) with rfl | rfl <;> rcases hks b (by simp) with rfl | rfl
      all_goals exact ⟨by kernel_rfl, fun _ => by first | exact .inl rfl | exact .inr rfl⟩
  · obtain rfl := bytes_eq hop
    match ks, hl with
    | [a, b], _ =>
      rcases hks a (by simp) with rfl | rfl <;> rcases hks b (by simp) with rfl | rfl
      all_goals exact ⟨by kernel_rfl, fun _ => by first | exact .inl rfl | exact .inr rfl⟩
  · obtain rfl := bytes_eq hop
    match ks, hl with
    | [a, b], _ =>
      rcases hks a (by simp) with rfl | rfl <;> rcases hks b (by simp) with rfl | rfl
      all_goals exact ⟨by kernel_rfl, fun _ => by first | exact .inl rfl | exact .inr rfl⟩
  · obtain rfl := bytes_eq hop
    match ks, hl with
    | [a, b], _ =>
      rcases hks a (by simp) with rfl | rfl <;> rcases hks b (by simp) with rfl | rfl
      all_goals exact ⟨by kernel_rfl, fun _ => by first | exact .inl rfl | exact .inr rfl⟩
  · obtain rfl := bytes_eq hop
    match ks, hl with
    | [a, b], _ =>
      rcases hks a (by simp) with rfl | rfl <;> rcases hks b (by simp) with rfl | rfl
      all_goals exact ⟨by kernel_rfl, fun _ => by first | exact .inl rfl | exact .inr rfl⟩
  · obtain rfl := bytes_eq hop
    match ks, hl with
    | [a, b], _ =>
      rcases hks a (by simp) with rfl | rfl <;> rcases hks b (by simp) with rfl | rfl
      all_goals exact ⟨by kernel_rfl, fun _ => by first | exact .inl rfl | exact .inr rfl⟩
  · obtain rfl := bytes_eq hop
    match ks, hl with
    | [a, b], _ =>
      rcases hks a (by simp) with rfl | rfl <;> rcases hks b (by simp) with rfl | rfl
      all_goals exact ⟨by kernel_rfl, fun _ => by first | exact .inl rfl | exact .inr rfl⟩
  · obtain rfl := bytes_eq hop
    match ks, hl with
    | [a, b], _ =>
      rcases hks a (by simp) with rfl | rfl <;> rcases hks b (by simp) with rfl | rfl
      all_goals exact ⟨by kernel_rfl, fun _ => by first | exact .inl rfl | exact .inr rfl⟩
  · obtain rfl := bytes_eq hop
    match ks, hl with
    | [a, b], _ =>
      rcases hks a (by simp) with rfl | rfl <;> rcases hks b (by simp) with rfl | rfl
      all_goals exact ⟨by kernel_rfl, fun _ => by first | exact .inl rfl | exact .inr rfl⟩
  · obtain rfl := bytes_eq hop
    match ks, hl with
    | [a, b], _ =>
      rcases hks a (by simp) with rfl | rfl <;> rcases hks b (by simp) with rfl | rfl
      all_goals exact ⟨by kernel_rfl, fun _ => by first | exact .inl rfl | exact .inr rfl⟩
  · obtain rfl := bytes_eq hop
    match ks, hl with
    | [a], _ =>
      have hf := hv (.inr (.inl rfl))
      have h1 := vk6_kindOf n nm hf
      have h2 := vk6_12 hkv hf
      rw [show rule6 l n ⟨#[119, 104, 101, 110]⟩ nm [a] = (vk6 n nm == 1, a) by kernel_rfl]
      unfold kindE
      rw [show ruleF (l.take i) (declK (declsOf n)) ⟨#[119, 104, 101, 110]⟩ nm ([a].getLastD 0) = ([a], chosenK (declK (declsOf n)) nm a) by kernel_rfl]
      unfold chosenK
      rw [h1]
      refine ⟨?_, fun _ => hks a (by simp)⟩
      rcases h2 with h | h <;> rw [h] <;> rcases hks a (by simp) with rfl | rfl <;> rfl
  · obtain rfl := bytes_eq hop
    match ks, hl with
    | [a, b, c], _ =>
      rcases hks a (by simp) with rfl | rfl <;> rcases hks b (by simp) with rfl | rfl <;> rcases hks c (by simp) with rfl | rfl
      all_goals exact ⟨by kernel_rfl, fun _ => by first | exact .inl rfl | exact .inr rfl⟩
  · obtain rfl := bytes_eq hop
    match ks, hl with
    | [a, b], _ =>
      have hf := hv (.inr (.inr rfl))
      have h1 := vk6_kindOf n nm hf
      have h2 := vk6_12 hkv hf
      rw [show rule6 l n ⟨#[109, 101, 114, 103, 101]⟩ nm [a, b] = ((vk6 n nm == 1) && (a == b), a) by kernel_rfl]
      unfold kindE
      rw [show ruleF (l.take i) (declK (declsOf n)) ⟨#[109, 101, 114, 103, 101]⟩ nm ([a, b].getLastD 0) = ([b, b], chosenK (declK (declsOf n)) nm b) by kernel_rfl]
      unfold chosenK
      rw [h1]
      refine ⟨?_, fun _ => hks a (by simp)⟩
      rcases h2 with h | h <;> rw [h] <;> rcases hks a (by simp) with rfl | rfl <;> rcases hks b (by simp) with rfl | rfl <;> rfl
def tells6 (r : Except Nat Int) (x : Int × (Nat × Nat)) : Prop := match r with
  | .ok k => x = (k, (0, 0)) ∧ k12 k
  | .error a => x.2 = (9, a)
def tellsL6 (r : Except Nat (List Int)) (x : List Int × (Nat × Nat)) : Prop := match r with
  | .ok ks => x = (ks, (0, 0)) ∧ ∀ k ∈ ks, k12 k
  | .error a => x.2 = (9, a)
mutual
theorem kind6_kept (l : List Nd) (n : Nd) : ∀ (e : Ex) (b : Nat × Nat), b.1 ≠ 0 → (kind6 l n e b).2 = b
  | .mk op nm nn at_ kids, b, h => by
    have ih := kinds6_kept l n kids b h
    unfold kind6
    simp only
    rw [ih]
    split
    · rfl
    · unfold fl6; rw [if_neg h]
theorem kinds6_kept (l : List Nd) (n : Nd) : ∀ (r : List Ex) (b : Nat × Nat), b.1 ≠ 0 → (kinds6 l n r b).2 = b
  | [], b, _ => by rw [kinds6_nil]
  | e :: r, b, h => by
    have h1 := kind6_kept l n e b h
    rw [kinds6_cons]
    simp only
    rw [h1]
    exact kinds6_kept l n r b h
end
mutual
theorem kind_same (l : List Nd) (i : Nat) (n : Nd) (hkv : ∀ v ∈ vars6 n, k12 (v.kind : Int)) (hko : ∀ m ∈ l, ∀ v ∈ m.outs, k12 (v.kind : Int)) : ∀ (e : Ex) (b : Nat × Nat), wfE e = true → (names6 (l.take i) n e b).1 = 0 → tells6 (kindF (l.take i) (declK (declsOf n)) e) (kind6 l n e (0, 0))
  | .mk op nm nn at_ kids, b, hw, h => by
    rw [wfE_eq] at hw
    simp only [Bool.and_eq_true] at hw
    unfold names6 at h
    obtain ⟨_, h2⟩ := namesL6_zero _ n kids _ h
    have h3 := own6_zero h2
    have ih := kinds_same l i n hkv hko kids _ hw.2.2 h
    rw [kindF_eq, kind6_eq]
    show tells6 (match kindsF (l.take i) (declK (declsOf n)) kids with | .error a => .error a | .ok ks => kindE (l.take i) (declK (declsOf n)) op nm at_ ks) ((rule6 l n op nm (kinds6 l n kids (0, 0)).1).2, if (rule6 l n op nm (kinds6 l n kids (0, 0)).1).1 = true then (kinds6 l n kids (0, 0)).2 else fl6 (kinds6 l n kids (0, 0)).2 9 at_)
    have hlen := kinds6_len l n kids (0, 0)
    cases hk : kindsF (l.take i) (declK (declsOf n)) kids with
    | error a =>
      rw [hk] at ih
      have ih' : (kinds6 l n kids (0, 0)).2 = (9, a) := ih
      rw [ih']
      show (_ : Int × (Nat × Nat)).2 = (9, a)
      simp only
      split
      · rfl
      · rfl
    | ok ks =>
      rw [hk] at ih
      obtain ⟨ih1, ih2⟩ := ih
      rw [ih1] at hlen ⊢
      simp only at hlen ⊢
      have hs := kindE_6 l i n op nm at_ ks (by rw [hlen]; exact hw.1) ih2 hkv hko (fun hc => by rw [hlen]; exact h3.2.1 hc) h3.2.2
      rw [hs.1]
      unfold said6
      cases hr : (rule6 l n op nm ks).1 with
      | true =>
        rw [if_pos rfl, if_pos rfl]
        exact ⟨rfl, hs.2 hr⟩
      | false =>
        rw [if_neg (by decide), if_neg (by decide)]
        rfl
theorem kinds_same (l : List Nd) (i : Nat) (n : Nd) (hkv : ∀ v ∈ vars6 n, k12 (v.kind : Int)) (hko : ∀ m ∈ l, ∀ v ∈ m.outs, k12 (v.kind : Int)) : ∀ (r : List Ex) (b : Nat × Nat), wfEs r = true → (namesL6 (l.take i) n r b).1 = 0 → tellsL6 (kindsF (l.take i) (declK (declsOf n)) r) (kinds6 l n r (0, 0))
  | [], _, _, _ => by
    rw [kinds6_nil]
    unfold kindsF
    exact ⟨rfl, by simp⟩
  | e :: r, b, hw, h => by
    rw [wfEs_cons] at hw
    simp only [Bool.and_eq_true] at hw
    unfold namesL6 at h
    obtain ⟨_, h2⟩ := namesL6_zero _ n r _ h
    have ih1 := kind_same l i n hkv hko e b hw.1 h2
    have ih2 := kinds_same l i n hkv hko r _ hw.2 h
    rw [kinds6_cons]
    unfold kindsF
    cases hk : kindF (l.take i) (declK (declsOf n)) e with
    | error a =>
      rw [hk] at ih1
      have h1 : (kind6 l n e (0, 0)).2 = (9, a) := ih1
      show (kinds6 l n r (kind6 l n e (0, 0)).2).2 = (9, a)
      rw [h1]
      exact kinds6_kept l n r (9, a) (by simp)
    | ok k =>
      rw [hk] at ih1
      obtain ⟨h1, h12⟩ := ih1
      rw [h1]
      simp only
      cases hks : kindsF (l.take i) (declK (declsOf n)) r with
      | error a =>
        rw [hks] at ih2
        exact ih2
      | ok ks =>
        rw [hks] at ih2
        obtain ⟨h3, h4⟩ := ih2
        rw [h3]
        exact ⟨rfl, fun x hx => by
          rcases List.mem_cons.1 hx with rfl | hx
          · exact h12
          · exact h4 x hx⟩
end
end Go.Proofs.Ytejljfoacbpliaa

namespace Go.Proofs.Ytejljfoacbpliaa
open Go Go.RowKit
def locT6 (n : Nd) : List Vr → Nat × Nat → Nat × Nat
  | [], b => b
  | v :: r, b => locT6 n r (if v.on.data.toList ≠ [] ∧ vk6 n v.on ≠ 1 then fl6 b 9 v.at_ else b)
def eqT6 (l : List Nd) (n : Nd) : List Qe → Nat × Nat → Nat × Nat
  | [], b => b
  | q :: r, b => eqT6 l n r (if (kind6 l n q.e b).1 ≠ vk6 n q.name then fl6 (kind6 l n q.e b).2 9 q.at_ else (kind6 l n q.e b).2)
def nodeT6 (l : List Nd) (n : Nd) (b : Nat × Nat) : Nat × Nat := eqT6 l n n.eqs (locT6 n n.locs b)
def typesF6 (l : List Nd) : List Nd → Nat × Nat → Nat × Nat
  | [], b => b
  | n :: r, b => typesF6 l r (nodeT6 l n b)
def out6 (c : Nat) : Option Nat → Nat × Nat
  | none => (0, 0)
  | some a => (c, a)
theorem fl6_kept {b : Nat × Nat} {e a : Nat} (h : b.1 ≠ 0) : fl6 b e a = b := by unfold fl6; rw [if_neg h]
theorem locT6_kept (n : Nd) : ∀ (r : List Vr) (b : Nat × Nat), b.1 ≠ 0 → locT6 n r b = b
  | [], _, _ => rfl
  | v :: r, b, h => by
    unfold locT6
    rw [fl6_kept h, ite_self]
    exact locT6_kept n r b h
theorem eqT6_kept (l : List Nd) (n : Nd) : ∀ (r : List Qe) (b : Nat × Nat), b.1 ≠ 0 → eqT6 l n r b = b
  | [], _, _ => rfl
  | q :: r, b, h => by
    unfold eqT6
    rw [kind6_kept l n q.e b h, fl6_kept h, ite_self]
    exact eqT6_kept l n r b h
theorem typesF6_kept (l : List Nd) : ∀ (r : List Nd) (b : Nat × Nat), b.1 ≠ 0 → typesF6 l r b = b
  | [], _, _ => rfl
  | n :: r, b, h => by
    unfold typesF6 nodeT6
    rw [locT6_kept n n.locs b h, eqT6_kept l n n.eqs b h]
    exact typesF6_kept l r b h
theorem kindOf_vk6 (n : Nd) (nm : ByteArray) : kindOf (declK (declsOf n)) nm = vk6 n nm := by
  unfold kindOf vk6
  rw [declsOf_vars, find6_declK]
  cases find6 nm.data.toList (vars6 n) <;> rfl
theorem locT6_same (n : Nd) : ∀ r : List Vr, locT6 n r (0, 0) = out6 9 (localsT (declK (declsOf n)) r)
  | [] => rfl
  | v :: r => by
    unfold locT6 localsT
    rw [kindOf_vk6]
    by_cases h : v.on.data.toList ≠ [] ∧ vk6 n v.on ≠ 1
    · rw [if_pos h, if_pos h]
      exact locT6_kept n r _ (by show (9 : Nat) ≠ 0; decide)
    · rw [if_neg h, if_neg h]
      exact locT6_same n r
theorem ends6_zero (n : Nd) : ∀ (r : List Vr) (b : Nat × Nat), (ends6 n r b).1 = 0 → b.1 = 0
  | [], _, h => h
  | v :: r, b, h => by
    unfold ends6 at h
    have := ends6_zero n r _ h
    split at this
    · exact this
    · exact (fl6_zero (by decide) this).elim
theorem decl6_zero {pre : List Vr} {v : Vr} {b : Nat × Nat} (h : (decl6 pre v b).1 = 0) : b.1 = 0 := by
  unfold decl6 at h
  split at h
  · split at h
    · exact (fl6_zero (by decide) h).elim
    · exact h
  · exact (fl6_zero (by decide) h).elim
theorem decls6_zero : ∀ (r pre : List Vr) (b : Nat × Nat), (decls6 pre r b).1 = 0 → b.1 = 0
  | [], _, _, h => h
  | v :: r, pre, b, h => by
    unfold decls6 at h
    exact decl6_zero (decls6_zero r _ _ h)
theorem eqns6_zero (ah : List Nd) (n : Nd) : ∀ (r pre : List Qe) (b : Nat × Nat), (eqns6 ah n pre r b).1 = 0 → b.1 = 0 ∧ ∀ q ∈ r, ∃ b', (names6 ah n q.e b').1 = 0
  | [], _, _, h => ⟨h, by simp⟩
  | q :: r, pre, b, h => by
    unfold eqns6 at h
    obtain ⟨h1, h2⟩ := eqns6_zero ah n r _ _ h
    unfold eqn6 at h1
    have h3 := (names6_zero ah n q.e _ h1).2
    refine ⟨?_, fun x hx => ?_⟩
    · split at h3
      · exact (fl6_zero (by decide) h3).elim
      · exact h3
    · rcases List.mem_cons.1 hx with rfl | hx
      · exact ⟨_, h1⟩
      · exact h2 x hx
theorem nodeN6_zero {ah : List Nd} {n : Nd} {b : Nat × Nat} (h : (nodeN6 ah n b).1 = 0) : b.1 = 0 ∧ ∀ q ∈ n.eqs, ∃ b', (names6 ah n q.e b').1 = 0 := by
  unfold nodeN6 at h
  obtain ⟨h1, h2⟩ := eqns6_zero ah n _ _ _ (ends6_zero n _ _ h)
  have h3 := decls6_zero _ _ _ h1
  refine ⟨?_, h2⟩
  split at h3
  · exact (fl6_zero (by decide) h3).elim
  · exact h3
theorem namesF6_zero : ∀ (r pre : List Nd) (b : Nat × Nat), (namesF6 pre r b).1 = 0 → b.1 = 0 ∧ ∀ (j : Nat) (h : j < r.length), ∀ q ∈ r[j].eqs, ∃ b', (names6 (pre ++ r.take j) r[j] q.e b').1 = 0
  | [], _, _, h => ⟨h, fun _ hj => absurd hj (by simp)⟩
  | n :: r, pre, b, h => by
    unfold namesF6 at h
    obtain ⟨h1, h2⟩ := namesF6_zero r _ _ h
    obtain ⟨h3, h4⟩ := nodeN6_zero h1
    refine ⟨h3, fun j hj q hq => ?_⟩
    cases j with
    | zero => rw [List.take_zero, List.append_nil]; exact h4 q hq
    | succ j =>
      have := h2 j (by simpa using hj) q hq
      rwa [List.append_assoc] at this
structure Fine6 (l : List Nd) : Prop where
  wf : ∀ n ∈ l, ∀ q ∈ n.eqs, wfE q.e = true
  kinds : ∀ n ∈ l, ∀ v ∈ vars6 n, k12 (v.kind : Int)
  names : ∀ (i : Nat) (h : i < l.length), ∀ q ∈ l[i].eqs, ∃ b', (names6 (l.take i) l[i] q.e b').1 = 0
theorem Fine6.outs {l : List Nd} (h : Fine6 l) : ∀ m ∈ l, ∀ v ∈ m.outs, k12 (v.kind : Int) := fun m hm v hv => h.kinds m hm v (by unfold vars6; simp [hv])
theorem Fine6.same {l : List Nd} (h : Fine6 l) (i : Nat) (hi : i < l.length) (q : Qe) (hq : q ∈ l[i].eqs) : tells6 (kindF (l.take i) (declK (declsOf l[i])) q.e) (kind6 l l[i] q.e (0, 0)) := by
  obtain ⟨b', hb⟩ := h.names i hi q hq
  exact kind_same l i l[i] (h.kinds _ (List.getElem_mem _)) h.outs q.e b' (h.wf _ (List.getElem_mem _) q hq) hb
theorem eqT6_same {l : List Nd} (h : Fine6 l) (i : Nat) (hi : i < l.length) : ∀ r : List Qe, (∀ q ∈ r, q ∈ l[i].eqs) → eqT6 l l[i] r (0, 0) = out6 9 (eqsT (l.take i) (declK (declsOf l[i])) r)
  | [], _ => rfl
  | q :: r, hr => by
    have hs := h.same i hi q (hr q List.mem_cons_self)
    have ih := eqT6_same h i hi r (fun x hx => hr x (List.mem_cons_of_mem _ hx))
    unfold eqT6 eqsT eqF
    cases hk : kindF (l.take i) (declK (declsOf l[i])) q.e with
    | error a =>
      rw [hk] at hs
      have h1 : (kind6 l l[i] q.e (0, 0)).2 = (9, a) := hs
      rw [h1]
      have h9 : fl6 (9, a) 9 q.at_ = (9, a) := rfl
      rw [h9, ite_self]
      exact eqT6_kept l _ r _ (by show (9 : Nat) ≠ 0; decide)
    | ok k =>
      rw [hk] at hs
      obtain ⟨h1, _⟩ := hs
      rw [h1]
      simp only
      rw [kindOf_vk6]
      by_cases hkq : k = vk6 l[i] q.name
      · rw [if_pos hkq, if_neg (fun hn => hn hkq)]
        exact ih
      · rw [if_neg hkq, if_pos hkq]
        exact eqT6_kept l _ r _ (by show (9 : Nat) ≠ 0; decide)
theorem nodeT6_same {l : List Nd} (h : Fine6 l) (i : Nat) (hi : i < l.length) : nodeT6 l l[i] (0, 0) = out6 9 (nodeT (l.take i) (declK (declsOf l[i])) l[i]) := by
  unfold nodeT6 nodeT
  rw [locT6_same]
  cases localsT (declK (declsOf l[i])) l[i].locs with
  | some a => exact eqT6_kept l _ _ _ (by show (9 : Nat) ≠ 0; decide)
  | none => exact eqT6_same h i hi _ (fun _ hq => hq)
theorem typesF6_same {l : List Nd} (h : Fine6 l) : ∀ (m i : Nat), m + i = l.length → typesF6 l (l.drop i) (0, 0) = out6 9 (typFrom (l.take i) (l.drop i))
  | 0, i, hm => by rw [List.drop_of_length_le (by omega)]; rfl
  | m + 1, i, hm => by
    have hi : i < l.length := by omega
    have ih := typesF6_same h m (i + 1) (by omega)
    have hs := nodeT6_same h i hi
    rw [List.drop_eq_getElem_cons hi]
    unfold typesF6
    rw [hs]
    cases hn : nodeT (l.take i) (declK (declsOf l[i])) l[i] with
    | some a =>
      rw [typFrom_hit hn]
      exact typesF6_kept l _ _ (by show (9 : Nat) ≠ 0; decide)
    | none =>
      rw [typFrom_skip hn]
      have ht : l.take i ++ [l[i]] = l.take (i + 1) := by rw [List.take_add_one, List.getElem?_eq_getElem hi]; rfl
      rw [ht]
      exact ih
theorem types_same {l : List Nd} (h : Fine6 l) : typesF6 l l (0, 0) = out6 9 (typF l) := by
  have := typesF6_same h l.length 0 (by omega)
  rwa [List.drop_zero, List.take_zero] at this
theorem out6_fer (c : Nat) (o : Option Nat) : ((out6 c o).1 : Int) = ferO (c : Int) o ∧ ((out6 c o).2 : Int) = fatO o := by
  cases o <;> exact ⟨rfl, rfl⟩
theorem kindOf_same {l : List Nd} (h : Fine6 l) (i : Nat) (hi : i < l.length) (q : Qe) (hq : q ∈ l[i].eqs) : kindOf6 l i q.e = kdOf (kindF (l.take i) (declK (declsOf l[i])) q.e) := by
  have hs := h.same i hi q hq
  obtain ⟨b', hb⟩ := h.names i hi q hq
  have hg : l.getD i ndZ6 = l[i] := by simp [List.getD, hi]
  unfold kindOf6
  rw [hg, names6_start _ _ q.e b' (0, 0) hb, if_neg (fun h => h rfl)]
  cases hk : kindF (l.take i) (declK (declsOf l[i])) q.e with
  | error a =>
    rw [hk] at hs
    have h1 : (kind6 l l[i] q.e (0, 0)).2 = (9, a) := hs
    rw [h1]; rfl
  | ok k =>
    rw [hk] at hs
    obtain ⟨h1, _⟩ := hs
    rw [h1]; rfl
end Go.Proofs.Ytejljfoacbpliaa

namespace Go.Proofs.Ytejljfoacbpliaa
open Go Go.RowKit
section
variable {P : Program} {Q : Exit → Act → World → Prop} {md : Region.Mode} {lo l : List Oper} {Sp : Nat → Value → World → Prop} {Rel : World → World → Prop} {R : Nat → World → World → Prop} {F : Nat → World → Prop} {w0 : World} {a0 : Act} {G : Array Bool → Act → World → Prop} {T : Nat → Act → Value → Prop}
structure PreN (md : Region.Mode) (lo l : List Oper) (Sp : Nat → Value → World → Prop) (Rel : World → World → Prop) (w0 : World) (a0 : Act) (o : Oper) (a : Act) (W : World) : Prop where
  rel : Rel w0 W
  old : ∀ j, (lo.all fun x => !(x.dst == some j)) = true → a.tmps.getD j undef = a0.tmps.getD j undef
  pre : ∀ e ∈ o.after.toList, Region.binds md e = true → ∀ x, l[e.on]? = some x → ∀ d, x.dst = some d → d < a.tmps.size ∧ Sp e.on (a.tmps.getD d undef) W
theorem PreN.on_ {o : Oper} {a : Act} {W : World} (h : PreN md lo l Sp Rel w0 a0 o a W) (n : Nat) {x : Oper} {d : Tmp} (he : (o.after.toList.any fun e => e.on == n && Region.binds md e) = true) (hx : l[n]? = some x) (hd : x.dst = some d) :
    d < a.tmps.size ∧ Sp n (a.tmps.getD d undef) W := by
  obtain ⟨e, he1, he2⟩ := List.any_eq_true.1 he
  rw [Bool.and_eq_true, beq_iff_eq] at he2
  obtain ⟨rfl, h2⟩ := he2
  exact h.pre e he1 h2 x hx d hd
def StepN (T : Nat → Act → Value → Prop) (P : Program) (md : Region.Mode) (Q : Exit → Act → World → Prop) (lo l : List Oper) (Sp : Nat → Value → World → Prop) (Rel : World → World → Prop) (R : Nat → World → World → Prop) (F : Nat → World → Prop) (w0 : World) (a0 : Act) (i : Nat) (o : Oper) : Prop :=
  ∀ (a : Act) (W : World), PreN md lo l Sp Rel w0 a0 o a W → F i W → wpOp P l.toArray Q i (fun a' W' => ∃ v, a' = a.put o.dst v ∧ Sp i v W' ∧ R i W W' ∧ T i a v) a W
def StepsN (T : Nat → Act → Value → Prop) (P : Program) (md : Region.Mode) (Q : Exit → Act → World → Prop) (lo l : List Oper) (Sp : Nat → Value → World → Prop) (Rel : World → World → Prop) (R : Nat → World → World → Prop) (F : Nat → World → Prop) (w0 : World) (a0 : Act) : Nat → List Oper → Prop
  | _, [] => True
  | i, o :: r => StepN T P md Q lo l Sp Rel R F w0 a0 i o ∧ StepsN T P md Q lo l Sp Rel R F w0 a0 (i + 1) r
theorem StepsN.cons {i : Nat} {o : Oper} {r : List Oper} (h : StepN T P md Q lo l Sp Rel R F w0 a0 i o) (hr : StepsN T P md Q lo l Sp Rel R F w0 a0 (i + 1) r) : StepsN T P md Q lo l Sp Rel R F w0 a0 i (o :: r) := ⟨h, hr⟩
theorem StepsN.nil {i : Nat} : StepsN T P md Q lo l Sp Rel R F w0 a0 i [] := trivial
theorem StepsN.at_ : ∀ (r : List Oper) (i : Nat), StepsN T P md Q lo l Sp Rel R F w0 a0 i r → ∀ (k : Nat) (o : Oper), r[k]? = some o → StepN T P md Q lo l Sp Rel R F w0 a0 (i + k) o
  | [], _, _, k, o, h => by simp at h
  | x :: r, i, hs, 0, o, h => by
    simp only [List.getElem?_cons_zero, Option.some.injEq] at h
    subst h
    exact hs.1
  | x :: r, i, hs, k + 1, o, h => by
    have := StepsN.at_ r (i + 1) hs.2 k o (by simpa using h)
    rwa [show i + 1 + k = i + (k + 1) by omega] at this
structure InvN (G : Array Bool → Act → World → Prop) (lo l : List Oper) (Sp : Nat → Value → World → Prop) (Rel : World → World → Prop) (R : Nat → World → World → Prop) (F : Nat → World → Prop) (w0 : World) (a0 : Act) (listed : Array Bool) (a : Act) (W : World) : Prop where
  size : listed.size = l.length
  rel : Rel w0 W
  fst : ∀ i, i < l.length → listed.getD i false = false → F i W
  defers : a.defers = a0.defers
  tmps : a.tmps.size = a0.tmps.size
  old : ∀ j, (∀ x ∈ lo, x.dst ≠ some j) → a.tmps.getD j undef = a0.tmps.getD j undef
  new : ∀ i x d, l[i]? = some x → listed.getD i false = true → x.dst = some d → Sp i (a.tmps.getD d undef) W
  glob : G listed a W
theorem InvN.step (hG : ∀ (i : Nat) (o : Oper) (listed : Array Bool) (a : Act) (W : World) (v : Value) (W' : World), l[i]? = some o → listed.size = l.length → listed.getD i false = false → (∀ e ∈ o.after.toList, Region.binds md e = true → listed.getD e.on false = true) → G listed a W → Sp i v W' → R i W W' → T i a v → a.tmps.size = a0.tmps.size → G (listed.setIfInBounds i true) (a.put o.dst v) W') (hRt : ∀ a b c, Rel a b → Rel b c → Rel a c) (hRR : ∀ i W W', R i W W' → Rel W W') (hF : ∀ i j W W', j ≠ i → F j W → R i W W' → F j W')
    (hst : ∀ i j v W W', j ≠ i → Sp j v W → R i W W' → Sp j v W') (h1 : single l = true) (h2 : within l a0.tmps.size = true)
    {listed : Array Bool} {a : Act} {W : World} (h : InvN G lo l Sp Rel R F w0 a0 listed a W) {i : Nat} {o : Oper} (hi : l[i]? = some o) (hlo : o ∈ lo) (hun : listed.getD i false = false) (hpre : ∀ e ∈ o.after.toList, Region.binds md e = true → listed.getD e.on false = true) {v : Value} {W' : World} (hv : Sp i v W') (hr : R i W W') (ht : T i a v) :
    InvN G lo l Sp Rel R F w0 a0 (listed.setIfInBounds i true) (a.put o.dst v) W' := by
  have hil : i < l.length := (List.getElem?_eq_some_iff.1 hi).1
  refine ⟨by simpa using h.size, hRt _ _ _ h.rel (hRR _ _ _ hr), fun k hkl hk => ?_, put_defers.trans h.defers, put_size.trans h.tmps, fun j hj => ?_, fun k x d hk hl hd => ?_, hG i o listed a W v W' hi h.size hun hpre h.glob hv hr ht h.tmps⟩
  · by_cases e : i = k
    · subst e
      have hlt : i < listed.size := by rw [h.size]; exact hil
      simp [Array.getD, hlt] at hk
    · rw [getD_set_ne _ e] at hk
      exact hF i k _ _ (Ne.symm e) (h.fst k hkl hk) hr
  · rw [put_other (hj o hlo), h.old j hj]
  · by_cases hki : k = i
    · subst hki
      rw [hi] at hk
      injection hk with hk
      subst hk
      rw [hd, put_same (by rw [h.tmps]; exact within_spec h2 (List.mem_of_getElem? hi) hd)]
      exact hv
    · rw [put_other (fun e => hki (single_spec h1 hk hi hd e))]
      rw [getD_set_ne _ (Ne.symm hki)] at hl
      exact hst i k _ _ _ hki (h.new k x d hk hl hd) hr
theorem wpAny_stepsN (hG : ∀ (i : Nat) (o : Oper) (listed : Array Bool) (a : Act) (W : World) (v : Value) (W' : World), l[i]? = some o → listed.size = l.length → listed.getD i false = false → (∀ e ∈ o.after.toList, Region.binds md e = true → listed.getD e.on false = true) → G listed a W → Sp i v W' → R i W W' → T i a v → a.tmps.size = a0.tmps.size → G (listed.setIfInBounds i true) (a.put o.dst v) W') (hRt : ∀ a b c, Rel a b → Rel b c → Rel a c) (hRR : ∀ i W W', R i W W' → Rel W W') (hF : ∀ i j W W', j ≠ i → F j W → R i W W' → F j W')
    (hst : ∀ i j v W W', j ≠ i → Sp j v W → R i W W' → Sp j v W') (h1 : single l = true) (h2 : within l a0.tmps.size = true) (h3 : aheadOps md l = true) (hs : StepsN T P md Q l l Sp Rel R F w0 a0 0 l)
    (hdone : ∀ a W, InvN G l l Sp Rel R F w0 a0 (Array.replicate l.length true) a W → Q .normal a W) :
    ∀ (fuel : Nat) (listed : Array Bool) (a : Act) (W : World), InvN G l l Sp Rel R F w0 a0 listed a W → listed.toList.count false ≤ fuel → wpAny P md l.toArray Q fuel listed a W := by
  have empty : ∀ (listed : Array Bool), listed.size = l.length → Region.ready md l.toArray listed = [] → listed = Array.replicate l.length true := by
    intro listed hsz hr
    have all : ∀ n i, i < n → i < l.length → listed.getD i false = true := by
      intro n
      induction n with
      | zero => intro i hi; omega
      | succ n ih =>
        intro i hi hil
        by_cases hin : i < n
        · exact ih i hin hil
        · cases hb : listed.getD i false with
          | true => rfl
          | false =>
            have hlt : i < listed.size := by omega
            have hmem : i ∈ Region.ready md l.toArray listed := by
              rw [mem_ready]
              refine ⟨by simpa [Array.getD, hlt] using hb, l[i], by simp [hil], fun e he hbe => ?_⟩
              have hlt' := aheadOps_spec h3 (i := i) (o := l[i]) (by simp [hil]) (Array.mem_toList_iff.2 he) hbe
              exact ih e.on (by omega) (by omega)
            rw [hr] at hmem
            cases hmem
    apply Array.ext
    · simp [hsz]
    · intro i hi1 hi2
      have := all (i + 1) i (Nat.lt_succ_self _) (by omega)
      simpa [Array.getD, hi1] using this
  intro fuel
  induction fuel with
  | zero =>
    intro listed a W hI hc
    have hall : ∀ b ∈ listed.toList, b = true := by
      intro b hb
      cases b with
      | true => rfl
      | false => have := List.count_pos_iff.2 hb; omega
    have hr : Region.ready md l.toArray listed = [] := by
      cases hr : Region.ready md l.toArray listed with
      | nil => rfl
      | cons j js =>
        have hj : j ∈ Region.ready md l.toArray listed := by rw [hr]; exact List.mem_cons_self ..
        rw [mem_ready] at hj
        have hlt : j < listed.size := by
          rcases Nat.lt_or_ge j listed.size with h' | h'
          · exact h'
          · have := hj.1; simp [Array.getD, Nat.not_lt.2 h'] at this
        have hb := hall (listed[j]) (by simp)
        have hf := hj.1
        simp [Array.getD, hlt, hb] at hf
    refine ⟨hr, hdone a W ?_⟩
    rw [← empty listed hI.size hr]
    exact hI
  | succ fuel ih =>
    intro listed a W hI hc
    refine ⟨fun hr => hdone a W (by rw [← empty listed hI.size hr]; exact hI), fun i hi => ?_⟩
    rw [mem_ready] at hi
    obtain ⟨hf, o, ho, hpre⟩ := hi
    have hio : l[i]? = some o := by simpa using ho
    have hil : i < l.length := (List.getElem?_eq_some_iff.1 hio).1
    have hst' := StepsN.at_ l 0 hs i o hio
    rw [Nat.zero_add] at hst'
    have hun : listed.getD i false = false := by
      have hlt : i < listed.size := by rw [hI.size]; exact hil
      simpa [Array.getD, hlt] using hf
    refine wpOp_mono ?_ (hst' a W ⟨hI.rel, fun j hj => hI.old j (fun x hx hd => by
      have := (List.all_eq_true.1 hj) x hx
      simp [hd] at this), fun e he hb x hx d hd => ⟨by rw [hI.tmps]; exact within_spec h2 (List.mem_of_getElem? hx) hd, hI.new e.on x d hx (hpre e (Array.mem_toList_iff.1 he) hb) hd⟩⟩ (hI.fst i hil hun))
    rintro a' W' ⟨v, rfl, hv, hr, ht⟩
    have := count_set hf
    exact ih _ _ _ (hI.step hG hRt hRR hF hst h1 h2 hio (List.mem_of_getElem? hio) hun (fun e he hb => hpre e (Array.mem_toList_iff.1 he) hb) hv hr ht) (by omega)
theorem wp_region_stepsN {id : Nat} {a0 : Act} {w : World} (Sp : Nat → Value → World → Prop) (Rel : World → World → Prop) (R : Nat → World → World → Prop) (F : Nat → World → Prop) (G : Array Bool → Act → World → Prop) (T : Nat → Act → Value → Prop) (hG0 : G (Array.replicate l.length false) a0 w.drew) (hG : ∀ (i : Nat) (o : Oper) (listed : Array Bool) (a : Act) (W : World) (v : Value) (W' : World), l[i]? = some o → listed.size = l.length → listed.getD i false = false → (∀ e ∈ o.after.toList, Region.binds .any e = true → listed.getD e.on false = true) → G listed a W → Sp i v W' → R i W W' → T i a v → a.tmps.size = a0.tmps.size → G (listed.setIfInBounds i true) (a.put o.dst v) W') (hm : P.follows .mixedOrders = true)
    (hRt : ∀ a b c, Rel a b → Rel b c → Rel a c) (hRR : ∀ i W W', R i W W' → Rel W W') (hF : ∀ i j W W', j ≠ i → F j W → R i W W' → F j W') (hd : Rel w w.drew) (hF0 : ∀ i, F i w.drew)
    (hst : ∀ i j v W W', j ≠ i → Sp j v W → R i W W' → Sp j v W') (h1 : single l = true) (h2 : within l a0.tmps.size = true) (h3 : aheadOps .any l = true) (hs : StepsN T P .any Q l l Sp Rel R F w a0 0 l)
    (hdone : ∀ a W, InvN G l l Sp Rel R F w a0 (Array.replicate l.length true) a W → Q .normal a W) : (Code.region id l.toArray true).wp P Q a0 w := by
  refine wp_region_any hm ?_
  have hfalse : ∀ i, (Array.replicate l.toArray.size false).getD i false = false := by
    intro i
    simp [Array.getD]
  refine wpAny_stepsN hG hRt hRR hF hst h1 h2 h3 hs hdone _ _ _ _ ⟨by simp, hd, fun i _ _ => hF0 i, rfl, rfl, fun _ _ => rfl, fun i x d _ hl _ => ?_, hG0⟩ ?_
  · rw [hfalse] at hl
    cases hl
  · simp
theorem stepN_value {i : Nat} {o : Oper} (ht : ∀ a v, T i a v) (hi : l[i]? = some o) (h : ∀ a W, PreN md lo l Sp Rel w0 a0 o a W → F i W → Region.wanted o (yielded l.toArray a.tmps) = true ∧ ∃ v W', (execOp a.eval o).run P W = .ok (.value v) W' ∧ Sp i v W' ∧ R i W W') :
    StepN T P md Q lo l Sp Rel R F w0 a0 i o := fun a W hp hF => by
  obtain ⟨hw, v, W', hr, hs, hb⟩ := h a W hp hF
  exact wpOp_value hi hw hr ⟨v, rfl, hs, hb, ht _ _⟩
theorem stepN_enter {i : Nat} {o : Oper} (ht : ∀ a v, T i a v) (hi : l[i]? = some o) (h : ∀ a W, PreN md lo l Sp Rel w0 a0 o a W → F i W → Region.wanted o (yielded l.toArray a.tmps) = true ∧ ∃ f args, (execOp a.eval o).run P W = .ok (.enter f args) W ∧ Calls P f args W fun e W' => ∃ v, e = .returned v ∧ Sp i v W' ∧ R i W W') :
    StepN T P md Q lo l Sp Rel R F w0 a0 i o := fun a W hp hF => by
  obtain ⟨hw, f, args, hr, hc⟩ := h a W hp hF
  refine wpOp_of hi hw ?_
  unfold Oper.wp
  rw [hr, Oper.upon_enter]
  refine hc.mono ?_
  rintro e W' ⟨v, rfl, hs, hb⟩
  exact ⟨v, rfl, hs, hb, ht _ _⟩
end
end Go.Proofs.Ytejljfoacbpliaa

namespace Go.Proofs.Ytejljfoacbpliaa
open Go Go.RowKit
def Gst (ks ka p : Nat) (Sx : Value → World → Prop) (listed : Array Bool) (a : Act) (W : World) : Prop := listed.getD ks false = true → listed.getD ka false = true ∧ Sx (a.tmps.getD p undef) W
def Tst (ks p : Nat) (i : Nat) (a : Act) (v : Value) : Prop := i = ks → v = a.tmps.getD p undef
theorem Gst.step {l : List Oper} {Sp : Nat → Value → World → Prop} {R : Nat → World → World → Prop} {N ks ka p : Nat} {os oa : Oper} (hks : l[ks]? = some os) (hka : l[ka]? = some oa) (hd : os.dst = none) (hda : oa.dst = some p) (h1 : single l = true) (hne : ks ≠ ka) (hedge : (os.after.toList.any fun e => e.on == ka && Region.binds .any e) = true) (hst : ∀ i v W W', i ≠ ks → Sp ks v W → R i W W' → Sp ks v W') :
    ∀ (i : Nat) (o : Oper) (listed : Array Bool) (a : Act) (W : World) (v : Value) (W' : World), l[i]? = some o → listed.size = l.length → listed.getD i false = false → (∀ e ∈ o.after.toList, Region.binds .any e = true → listed.getD e.on false = true) → Gst ks ka p (Sp ks) listed a W → Sp i v W' → R i W W' → Tst ks p i a v → a.tmps.size = N → Gst ks ka p (Sp ks) (listed.setIfInBounds i true) (a.put o.dst v) W' := by
  intro i o listed a W v W' hi hsz hun hpre hG hv hr ht _ h12
  by_cases e : i = ks
  · subst e
    obtain rfl : o = os := by rw [hi] at hks; injection hks
    obtain ⟨ed, he1, he2⟩ := List.any_eq_true.1 hedge
    rw [Bool.and_eq_true, beq_iff_eq] at he2
    obtain ⟨rfl, he3⟩ := he2
    rw [getD_set_ne _ hne, hd]
    refine ⟨hpre ed he1 he3, ?_⟩
    have hv2 := ht rfl
    rw [hv2] at hv
    exact hv
  · rw [getD_set_ne _ e] at h12
    obtain ⟨h3, h4⟩ := hG h12
    have hia : i ≠ ka := fun h => by rw [h, h3] at hun; cases hun
    rw [getD_set_ne _ hia]
    refine ⟨h3, ?_⟩
    have hdo : o.dst ≠ some p := fun h => hia (single_spec h1 hi hka h hda)
    rw [put_other hdo]
    exact hst i _ _ _ e h4 hr
def RV (B ks i : Nat) (W W' : World) : Prop := B ≤ W.heap.size ∧ (if i = ks then ∃ g cs, B ≤ g ∧ cs.size = 5 ∧ W' = W.setRow g cs else Below W.heap.size W W')
theorem RV.rel {B ks i : Nat} {W W' : World} (h : RV B ks i W W') : Below B W W' := by
  obtain ⟨h1, h2⟩ := h
  split at h2
  · obtain ⟨g, cs, h3, _, rfl⟩ := h2
    exact below_setRow (Below.refl _ _) h3 _
  · exact h2.mono h1
theorem RV.of {B ks i : Nat} {W W' : World} (hB : B ≤ W.heap.size) (hi : i ≠ ks) (h : Below W.heap.size W W') : RV B ks i W W' := ⟨hB, by rw [if_neg hi]; exact h⟩
def wNewV (B : Nat) (v : Value) (W : World) : Prop := ∃ g cs, v = .pointer (some ⟨g, 0, none⟩) ∧ B ≤ g ∧ cs.size = 5 ∧ W.heap[g]? = some (.cells cs 62 (0, 0))
def wRowV (B : Nat) (row : Array Value) (v : Value) (W : World) : Prop := ∃ g, v = .pointer (some ⟨g, 0, none⟩) ∧ B ≤ g ∧ W.heap[g]? = some (.cells row 62 (0, 0))
theorem wNewV.keep {B ks i : Nat} {v : Value} {W W' : World} (h : wNewV B v W) (hr : RV B ks i W W') : wNewV B v W' := by
  obtain ⟨g, cs, h1, h2, h3, h4⟩ := h
  obtain ⟨_, hr⟩ := hr
  split at hr
  · obtain ⟨g', cs', h5, h6, rfl⟩ := hr
    by_cases e : g = g'
    · subst e
      exact ⟨g, cs', h1, h2, h6, setRow_heap W g _ cs' _ _ h4⟩
    · exact ⟨g, cs, h1, h2, h3, (setRow_other W g' g _ e).trans h4⟩
  · exact ⟨g, cs, h1, h2, h3, (hr.block g (Array.getElem?_eq_some_iff.1 h4).1).trans h4⟩
theorem wRowV.keep {B ks i : Nat} {row : Array Value} {v : Value} {W W' : World} (hi : i ≠ ks) (h : wRowV B row v W) (hr : RV B ks i W W') : wRowV B row v W' := by
  obtain ⟨g, h1, h2, h4⟩ := h
  obtain ⟨_, hr⟩ := hr
  rw [if_neg hi] at hr
  exact ⟨g, h1, h2, (hr.block g (Array.getElem?_eq_some_iff.1 h4).1).trans h4⟩
theorem alloc_v4 {o : Oper} {ρ : Operand → Value} {W : World} (ho : o.op = .alloc 62) : (execOp ρ o).run Try.prog W = .ok (.value (.pointer (some ⟨W.heap.size, 0, none⟩))) (W.alloc (.cells #[.string ⟨#[]⟩, .int .i64 0, .string ⟨#[]⟩, .bool false, .int .i64 0] 62)) := by
  unfold execOp
  rw [ho]
  kernel_rfl
theorem InvN.putsI {lo l : List Oper} {Sp : Nat → Value → World → Prop} {Rel : World → World → Prop} {R : Nat → World → World → Prop} {F : Nat → World → Prop} {G : Array Bool → Act → World → Prop} {w0 W : World} {a0 a : Act} {listed : Array Bool} (h : InvN G lo l Sp Rel R F w0 a0 listed a W) (S : List Nat) (hS : lo.filterMap (·.dst) = S) :
    ∃ f : Nat → Value, (∀ j, a.tmps.getD j undef = f j) ∧ a = S.foldl (fun x j => x.put (some j) (f j)) a0 := puts_of h.tmps h.defers h.old S hS
end Go.Proofs.Ytejljfoacbpliaa

namespace Go.Proofs.Ytejljfoacbpliaa
open Go Go.RowKit
theorem qe_range6 (nm : ByteArray) (e : Ex) (x : Option Addr) (c : Nat) (at_ : Int) : ∀ j v, (exC e x c)[j]? = some v → (qeC nm e x c at_)[1 + j]? = some v := by
  intro j v hj
  rw [Nat.add_comm]
  match j, hj with
  | 0, hj => exact hj
  | 1, hj => exact hj
  | 2, hj => exact hj
  | 3, hj => exact hj
  | 4, hj => exact hj
  | j + 5, hj => simp [exC] at hj
set_option maxHeartbeats 16000000 in
set_option maxRecDepth 100000 in
theorem Types_any (l : List Nd) (hall : ∀ (i : Nat) (h : i < l.length), okNd l[i] = true) (hwk : ∀ (i : Nat) (h : i < l.length), ∀ q ∈ l[i].eqs, wk6 l q.e) (w : World) (ok : Nat → Prop) (x : Option Addr) (c : Nat) (hk : IsD ok w (.slice x l.length c) (.sl l.length (ndsD l))) : Calls Try.prog 15 #[.slice x l.length c] w (fun e w' => e = .returned (.agg #[.int .i64 ((typesF6 l l (0, 0)).1 : Int), .int .i64 ((typesF6 l l (0, 0)).2 : Int)]) ∧ Below w.heap.size w w') := by
  have HALL := Lib.hid hall
  have HWK := Lib.hid hwk
  have HSN := Lib.hid size_n4
  have HSQ := Lib.hid size_q4
  have HSV := Lib.hid size_v4
  have HSB := Lib.hid size_bad6
  have HSE := Lib.hid size_e4
  have HFEW := Lib.hid (IsD.few hk)
  have F0 := ((Fx.start w).alloc w.heap.size rfl 30 #[.int .i64 0, .int .i64 0]).alloc (w.heap.size + 1) (by simp) 93 #[.int .i64 0, .int .i64 0]
  obtain ⟨W0, hW0⟩ : ∃ W0, W0 = ((w.alloc (.cells #[.int .i64 0, .int .i64 0] 30)).alloc (.cells #[.int .i64 0, .int .i64 0] 93)) := ⟨_, rfl⟩
  rw [← hW0] at F0
  obtain ⟨gc, hgc⟩ : ∃ gc, gc = w.heap.size + 1 := ⟨_, rfl⟩
  have HGC := Lib.hid hgc
  have HC0 : Hid (Ck6 W0 gc (0, 0)) := Lib.hid (by rw [hgc]; exact F0.get 1 rfl)
  have HK : Hid (IsD (fun k => ok k ∧ k < w.heap.size) W0 (.slice x l.length c) (.sl l.length (ndsD l))) := Lib.hid (IsD.below F0.below (hk.mono (fun k h hl => ⟨h, hl⟩)))
  have HNK : Hid (∀ k, some gc = some k → ¬ (ok k ∧ k < w.heap.size)) := Lib.hid (fun k h => by injection h with h; subst h; omega)
  have HF0 := Lib.hid F0
  have HW0 := Lib.hid hW0
  have bc := build_chk
  obtain ⟨R, hR⟩ : ∃ R, R = typesF6 l l (0, 0) := ⟨_, rfl⟩
  rw [← hR]
  have HR := Lib.hid hR
  clear hk hall hwk F0 hW0 hR
  go_enter Try.func15, Try.ntmps15
  go_upto_region 2 with fail
  rw [← HW0.out, ← hgc]
  clear bc hgc
  go_wp2_with fail
  go_loopw [4] (fun v4 wr => ∃ (i : Nat) (B : Nat × Nat), v4 = .int .i64 (i : Int) ∧ i ≤ l.length ∧ W0.grownBy wr (some gc) ∧ Ck6 wr gc B ∧ R = typesF6 l (l.drop i) B)
    (fun v4 _ => l.length - (intOf v4).toNat)
  case atStart => exact ⟨0, (0, 0), rfl, Nat.zero_le _, ⟨rfl, rfl, rfl, Nat.le_refl _, fun _ _ _ => rfl⟩, HC0.out, HR.out⟩
  case round =>
    clear HC0 HR
    obtain ⟨i, B, rfl, hi, hg, hC, hq⟩ := hrel
    have HG := Lib.hid hg
    have HC := Lib.hid hC
    have HI := Lib.hid hi
    clear hg hC hi
    by_cases hil : i < l.length
    · have d1 : decide ((i : Int) < (l.length : Int)) = true := by simp; omega
      have HIL := Lib.hid hil
      have hon := HALL.out i hil
      have hwq := HWK.out i hil
      have hkr := IsD.grown HG.out HNK.out HK.out
      rw [List.drop_eq_getElem_cons hil] at hq
      obtain ⟨g, rfl, hgl, xi, ci, xo, co, xl, cl, xe, ce, hrg, t1, t2, t3, t4⟩ := nd_at hkr i hil
      obtain ⟨n, hn⟩ : ∃ n, n = l[i]'hil := ⟨_, rfl⟩
      rw [← hn] at hrg t1 t2 t3 t4 hon hq hwq
      have hq : R = typesF6 l (l.drop (i + 1)) (nodeT6 l n B) := hq
      have HLV := Lib.hid (show (vars6 n).length ≤ 1000000 by simp only [okNd, Bool.and_eq_true, decide_eq_true_eq] at hon; have := hon.1; unfold vars6; rw [List.length_append, List.length_append]; exact this)
      have HOQ := Lib.hid (show okQs n.eqs = true by simp only [okNd, Bool.and_eq_true] at hon; exact hon.2.2.2.2.2)
      have HWQ := Lib.hid hwq
      have HAL := Lib.hid (heap_alloc_new wr (.cells #[.string ⟨#[]⟩, .slice none 0 0, .slice none 0 0, .slice none 0 0, .slice none 0 0, .int .i64 0] 38))
      obtain ⟨hnb, hnr⟩ := new_row wr 38 #[.string ⟨#[]⟩, .slice none 0 0, .slice none 0 0, .slice none 0 0, .slice none 0 0, .int .i64 0] #[.string n.name, .slice xi n.ins.length ci, .slice xo n.outs.length co, .slice xl n.locs.length cl, .slice xe n.eqs.length ce, .int .i64 (n.at_ : Int)]
      have hNI : NdIn (fun k => ok k ∧ k < w.heap.size) wr n xi xo xl xe ci co cl ce := ⟨t1, t2, t3, t4⟩
      obtain ⟨W1, hW1⟩ : ∃ W1, W1 = ((wr.alloc (.cells #[.string ⟨#[]⟩, .slice none 0 0, .slice none 0 0, .slice none 0 0, .slice none 0 0, .int .i64 0] 38)).setRow wr.heap.size #[.string n.name, .slice xi n.ins.length ci, .slice xo n.outs.length co, .slice xl n.locs.length cl, .slice xe n.eqs.length ce, .int .i64 (n.at_ : Int)]) := ⟨_, rfl⟩
      rw [← hW1] at hnb hnr
      have HN := Lib.hid hnr
      have HRG := Lib.hid hrg
      have HNI := Lib.hid (NdIn.below hnb hNI)
      have HTK := Lib.hid (IsD.below hnb hkr)
      have HC1 := Lib.hid (HC.out.below hnb)
      have HG1 := Lib.hid (grownBy_trans6 HG.out (grownBy_below6 (r := some gc) hnb))
      have HNE := Lib.hid (show wr.heap.size ≠ gc by have := HC.out.lt; omega)
      have HFQ := Lib.hid (IsD.few t4)
      have HFL := Lib.hid (IsD.few t3)
      have HW1 := Lib.hid hW1
      have HQ := Lib.hid hq
      have i0 : (0 : Int) ≤ (i : Int) := by omega
      have i1 : (i : Int) < (l.length : Int) := by omega
      clear hil hon hkr hgl hrg t1 t2 t3 t4 hn hnb hnr hNI hq hW1 hwq HC HG
      go_upto_region 6 with (first | (refine wpList_load_mid rfl 38 (.tmp 23) rfl g (i * 6) rfl (ndC n xi xo xl xe ci co cl ce) _ ?_ Try.underlying38 rfl HSN.out ?_; (exact HRG.out)) | (refine wpList_store_row rfl 38 (.tmp 5) (.tmp 24) rfl wr.heap.size #[.string n.name, .slice xi n.ins.length ci, .slice xo n.outs.length co, .slice xl n.locs.length cl, .slice xe n.eqs.length ce, .int .i64 (n.at_ : Int)] rfl rfl 38 #[.string ⟨#[]⟩, .slice none 0 0, .slice none 0 0, .slice none 0 0, .slice none 0 0, .int .i64 0] ?_ HSN.out rfl (n4_one _ _ _ _ _ _ _ _ _ _ _ _ _ _) ?_; (exact HAL.out)))
      rw [← HW1.out]
      obtain ⟨bn, hbn⟩ : ∃ bn, bn = wr.heap.size := ⟨_, rfl⟩
      rw [← hbn] at HN HNE ⊢
      clear hbn HW1 HAL HRG
      obtain ⟨w2, hw2⟩ : ∃ w2, w2 = W1 := ⟨_, rfl⟩
      have n3 := cell_of_row W1 bn 3 _ _ _ HN.out
      clear d1
      go_wp2_with fail
      go_loopw [6] (fun v6 wx => ∃ (k : Nat) (Bk : Nat × Nat), v6 = .int .i64 (k : Int) ∧ k ≤ n.locs.length ∧ W1.grownBy wx (some gc) ∧ Ck6 wx gc Bk ∧ locT6 n n.locs B = locT6 n (n.locs.drop k) Bk)
        (fun v6 _ => n.locs.length - (intOf v6).toNat)
      case atStart => exact ⟨0, B, rfl, Nat.zero_le _, World.grownBy.refl _ _, HC1.out, rfl⟩
      case round => as_aux_lemma =>
        clear n3
        obtain ⟨k, Bk, rfl, hk, hg, hC, hq⟩ := hrel
        have HG := Lib.hid hg
        have HC := Lib.hid hC
        have HKI := Lib.hid hk
        have HGW := Lib.hid hC.lt
        have HNW := Lib.hid ((hg.block bn (Array.getElem?_eq_some_iff.1 HN.out).1 (fun e => HNE.out (by injection e))).trans HN.out)
        have n3 := cell_of_row wr bn 3 _ _ _ HNW.out
        clear hg hC hk
        by_cases hkl : k < n.locs.length
        · --
          have d6 : decide ((k : Int) < (n.locs.length : Int)) = true := by simp; omega
          have HKL := Lib.hid hkl
          rw [List.drop_eq_getElem_cons hkl] at hq
          have hNI := NdIn.grown6 HG.out HNK.out HNI.out
          obtain ⟨gl, rfl, hgl, hrg⟩ := var_at hNI.2.2.1 k hkl
          obtain ⟨v, hv⟩ : ∃ v, v = n.locs[k]'hkl := ⟨_, rfl⟩
          rw [← hv] at hrg hq
          have hq : locT6 n n.locs B = locT6 n (n.locs.drop (k + 1)) (if v.on.data.toList ≠ [] ∧ vk6 n v.on ≠ 1 then fl6 Bk 9 v.at_ else Bk) := hq
          have k0 : (0 : Int) ≤ (k : Int) := by omega
          have k1 : (k : Int) < (n.locs.length : Int) := by omega
          have HQL := Lib.hid hq
          have HAL := Lib.hid (heap_alloc_new wr (.cells #[.string ⟨#[]⟩, .int .i64 0, .string ⟨#[]⟩, .bool false, .int .i64 0] 62))
          obtain ⟨hnb, hnr⟩ := new_row wr 62 #[.string ⟨#[]⟩, .int .i64 0, .string ⟨#[]⟩, .bool false, .int .i64 0] #[.string v.name, .int .i64 (v.kind : Int), .string v.on, .bool v.not_, .int .i64 (v.at_ : Int)]
          obtain ⟨W4, hW4⟩ : ∃ W4, W4 = ((wr.alloc (.cells #[.string ⟨#[]⟩, .int .i64 0, .string ⟨#[]⟩, .bool false, .int .i64 0] 62)).setRow wr.heap.size #[.string v.name, .int .i64 (v.kind : Int), .string v.on, .bool v.not_, .int .i64 (v.at_ : Int)]) := ⟨_, rfl⟩
          rw [← hW4] at hnb hnr
          have HRG := Lib.hid hrg
          have HN4 := Lib.hid ((hnb.block bn (Array.getElem?_eq_some_iff.1 HNW.out).1).trans HNW.out)
          have HV4 := Lib.hid hnr
          have HI4 := Lib.hid (NdIn.below hnb hNI)
          have HC4 := Lib.hid (HC.out.below hnb)
          have HG4 := Lib.hid (grownBy_trans6 HG.out (grownBy_below6 (r := some gc) hnb))
          have HW4 := Lib.hid hW4
          clear hkl hq hNI hrg hgl hv hnb hnr hW4
          go_upto_region 10 with (first | (refine wpList_load_mid rfl 62 (.tmp 35) rfl gl (k * 5) rfl (vrC v) _ ?_ Try.underlying62 rfl HSV.out ?_; (exact HRG.out)) | (refine wpList_store_row rfl 62 (.tmp 7) (.tmp 36) rfl wr.heap.size #[.string v.name, .int .i64 (v.kind : Int), .string v.on, .bool v.not_, .int .i64 (v.at_ : Int)] rfl rfl 62 #[.string ⟨#[]⟩, .int .i64 0, .string ⟨#[]⟩, .bool false, .int .i64 0] ?_ HSV.out rfl (v6_one _ _ _ _ _) ?_; (exact HAL.out)))
          rw [← HW4.out]
          have q2 := cell_of_row W4 wr.heap.size 2 _ _ _ HV4.out
          clear n3
          by_cases ho : v.on.data.toList = []
          · have ho2 : v.on = ⟨#[]⟩ := bytes_eq ho
            have HQ2 := Lib.hid (show locT6 n n.locs B = locT6 n (n.locs.drop (k + 1)) Bk by rw [HQL.out, if_neg (fun h => h.1 ho)])
            have t0 : (!v.on.toList.isEmpty) = false := by rw [Lib.toList_data, ho]; rfl
            clear ho
            go_wp2_with fail
            refine ⟨⟨k + 1, Bk, wrap_succ (by have := HKL.out; have := HFL.out; omega), HKL.out, HG4.out, HC4.out, HQ2.out⟩, ?_⟩
            rw [wrap_succ (by have := HKL.out; have := HFL.out; omega)]
            have := HKL.out
            simp [intOf]; omega
          · have t0 : (!v.on.toList.isEmpty) = true := by
              rw [Lib.toList_data]
              cases h : v.on.data.toList with
              | nil => exact absurd h ho
              | cons a r => rfl
            have kf := Find_any n HLV.out v.on W4 _ xi xo _ xe ci co cl ce HI4.out
            unfold GivesFv ndV at kf
            obtain ⟨fv, hfv⟩ : ∃ fv, fv = (find6 v.on.data.toList (vars6 n)).getD vrZ := ⟨_, rfl⟩
            have HFV : Hid (vk6 n v.on = (fv.kind : Int)) := Lib.hid (by rw [hfv]; rfl)
            rw [← hfv] at kf
            obtain ⟨fs, hfs⟩ : ∃ fs, fs = (find6 v.on.data.toList (vars6 n)).isSome := ⟨_, rfl⟩
            rw [← hfs] at kf
            unfold vrA at kf
            have HOO := Lib.hid ho
            clear hfv hfs ho
            go_wp2_with (refine wpList_load_row rfl 38 (.tmp 5) rfl bn rfl 38 #[.string n.name, .slice xi n.ins.length ci, .slice xo n.outs.length co, .slice (some ⟨gl, 0, none⟩) n.locs.length cl, .slice xe n.eqs.length ce, .int .i64 (n.at_ : Int)] (0, 0) _ HN4.out Try.underlying38 rfl HSN.out ?_)
            (with_reducible refine kf.mono ?_)
            rintro e9 w5 ⟨rfl, hb⟩
            obtain ⟨hnb, hnr⟩ := new_row w5 62 #[.string ⟨#[]⟩, .int .i64 0, .string ⟨#[]⟩, .bool false, .int .i64 0] #[.string fv.name, .int .i64 (fv.kind : Int), .string fv.on, .bool fv.not_, .int .i64 (fv.at_ : Int)]
            have HAL := Lib.hid (heap_alloc_new w5 (.cells #[.string ⟨#[]⟩, .int .i64 0, .string ⟨#[]⟩, .bool false, .int .i64 0] 62))
            obtain ⟨W6, hW6⟩ : ∃ W6, W6 = ((w5.alloc (.cells #[.string ⟨#[]⟩, .int .i64 0, .string ⟨#[]⟩, .bool false, .int .i64 0] 62)).setRow w5.heap.size #[.string fv.name, .int .i64 (fv.kind : Int), .string fv.on, .bool fv.not_, .int .i64 (fv.at_ : Int)]) := ⟨_, rfl⟩
            rw [← hW6] at hnb hnr
            have hb6 := hb.trans (hnb.mono hb.size)
            have HV6 := Lib.hid ((hb6.block wr.heap.size (Array.getElem?_eq_some_iff.1 HV4.out).1).trans HV4.out)
            have HF6 := Lib.hid hnr
            have HC6 := Lib.hid (HC4.out.below hb6)
            have HG6 := Lib.hid (grownBy_trans6 HG4.out (grownBy_below6 (r := some gc) hb6))
            clear kf hb hnb hnr hb6 q2 t0
            go_upto_region 12 with (refine wpList_store_row rfl 62 (.tmp 8) (.tmp 45) rfl w5.heap.size #[.string fv.name, .int .i64 (fv.kind : Int), .string fv.on, .bool fv.not_, .int .i64 (fv.at_ : Int)] rfl rfl 62 #[.string ⟨#[]⟩, .int .i64 0, .string ⟨#[]⟩, .bool false, .int .i64 0] ?_ HSV.out rfl (v6_one _ _ _ _ _) ?_; (exact HAL.out))
            rw [← hW6]
            clear hW6
            have q1 := cell_of_row W6 w5.heap.size 1 _ _ _ HF6.out
            by_cases hk1 : (fv.kind : Int) = 1
            · have t1 : ((fv.kind : Int) != 1) = false := by rw [hk1]; rfl
              have HQ2 := Lib.hid (show locT6 n n.locs B = locT6 n (n.locs.drop (k + 1)) Bk by rw [HQL.out, if_neg (fun h => h.2 (by rw [HFV.out]; exact hk1))])
              clear hk1
              go_wp2_with fail
              refine ⟨⟨k + 1, Bk, wrap_succ (by have := HKL.out; have := HFL.out; omega), HKL.out, HG6.out, HC6.out, HQ2.out⟩, ?_⟩
              rw [wrap_succ (by have := HKL.out; have := HFL.out; omega)]
              have := HKL.out
              simp [intOf]; omega
            · have t1 : ((fv.kind : Int) != 1) = true := by simpa using hk1
              have HQ2 := Lib.hid (show locT6 n n.locs B = locT6 n (n.locs.drop (k + 1)) (fl6 Bk 9 v.at_) by rw [HQL.out, if_pos ⟨HOO.out, by rw [HFV.out]; exact hk1⟩])
              have k8 : Calls Try.prog 50 #[.pointer (some ⟨gc, 0, none⟩), .int .i64 9, .int .i64 (v.at_ : Int)] W6 (GivesCk gc (fl6 Bk 9 v.at_) W6) := fail6_any W6 gc Bk HC6.out 9 v.at_
              unfold GivesCk at k8
              have q4 := cell_of_row W6 wr.heap.size 4 _ _ _ HV6.out
              clear hk1
              go_wp2_with fail
              (with_reducible refine k8.mono ?_)
              rintro e9 w7 ⟨rfl, hC2, hg2⟩
              clear k8
              go_wp2_with fail
              refine ⟨⟨k + 1, fl6 Bk 9 v.at_, wrap_succ (by have := HKL.out; have := HFL.out; omega), HKL.out, grownBy_trans6 HG6.out hg2, hC2, HQ2.out⟩, ?_⟩
              rw [wrap_succ (by have := HKL.out; have := HFL.out; omega)]
              have := HKL.out
              simp [intOf]; omega
          --
        · have d6 : decide ((k : Int) < (n.locs.length : Int)) = false := by simp; omega
          have hkq : k = n.locs.length := by have := HKI.out; omega
          subst hkq
          rw [List.drop_length] at hq
          obtain ⟨D, hD⟩ : ∃ D, D = locT6 n n.locs B := ⟨_, rfl⟩
          have hDB : D = Bk := by rw [hD, hq]; rfl
          have HC := Lib.hid (show Ck6 wr gc D by rw [hDB]; exact HC.out)
          have HQD := Lib.hid (show R = typesF6 l (l.drop (i + 1)) (eqT6 l n n.eqs D) by rw [hD]; exact HQ.out)
          have n4 := cell_of_row wr bn 4 _ _ _ HNW.out
          clear hkl hq hD hDB HKI
          go_wp2_with fail
          clear n3 n4
          obtain ⟨w8, rfl⟩ : ∃ w8 : World, w8 = wr := ⟨_, rfl⟩
          go_loopw [10] (fun v10 wx => ∃ (k : Nat) (Bk : Nat × Nat), v10 = .int .i64 (k : Int) ∧ k ≤ n.eqs.length ∧ W1.grownBy wx (some gc) ∧ Ck6 wx gc Bk ∧ eqT6 l n n.eqs D = eqT6 l n (n.eqs.drop k) Bk)
            (fun v10 _ => n.eqs.length - (intOf v10).toNat)
          case atStart => exact ⟨0, D, rfl, Nat.zero_le _, HG.out, HC.out, rfl⟩
          case round => as_aux_lemma =>
            clear HC HG
            obtain ⟨k, Bk, rfl, hk, hg, hC, hq⟩ := hrel
            have HG := Lib.hid hg
            have HC := Lib.hid hC
            have HKI := Lib.hid hk
            have HGW := Lib.hid hC.lt
            have HNW := Lib.hid ((hg.block bn (Array.getElem?_eq_some_iff.1 HN.out).1 (fun e => HNE.out (by injection e))).trans HN.out)
            have n4 := cell_of_row wr bn 4 _ _ _ HNW.out
            clear hg hC hk
            by_cases hkl : k < n.eqs.length
            · have d10 : decide ((k : Int) < (n.eqs.length : Int)) = true := by simp; omega
              have HKL := Lib.hid hkl
              rw [List.drop_eq_getElem_cons hkl] at hq
              have hNI := NdIn.grown6 HG.out HNK.out HNI.out
              have hTK := IsD.grown HG.out HNK.out HTK.out
              obtain ⟨gx, hgx, hokx, _, _⟩ := IsD.some_ hNI.2.2.2 (by omega)
              obtain ⟨ge, rfl, hge, xq, cq, hrg, hkk⟩ := qe_at hNI.2.2.2 k hkl
              obtain rfl : ge = gx := by injection hgx with hgx; injection hgx with hgx
              have HEC := Lib.hid (show ge ≠ gc from fun e => HNK.out gc rfl (e ▸ hokx))
              obtain ⟨q, hqq⟩ : ∃ q, q = n.eqs[k]'hkl := ⟨_, rfl⟩
              have hoq : okE q.e = true := by rw [hqq]; exact (okQs_at HOQ.out k hkl).2
              have hwq : wk6 l q.e := HWQ.out q (by rw [hqq]; exact List.getElem_mem _)
              rw [← hqq] at hrg hq hkk
              have hq : eqT6 l n n.eqs D = eqT6 l n (n.eqs.drop (k + 1)) (if (kind6 l n q.e Bk).1 ≠ vk6 n q.name then fl6 (kind6 l n q.e Bk).2 9 q.at_ else (kind6 l n q.e Bk).2) := hq
              have HQE := Lib.hid hq
              have HRG := Lib.hid hrg
              have HKK := Lib.hid hkk
              have HI8 := Lib.hid hNI
              have HT8 := Lib.hid hTK
              have HGE := Lib.hid hge
              have HOE := Lib.hid hoq
              have HWE := Lib.hid hwq
              have HCN := Lib.hid (show wr.cell? ⟨ge, k * 7 + 0, none⟩ = some (.string q.name) from hrg 0 _ rfl)
              have HLT := Lib.hid (Array.getElem?_eq_some_iff.1 HNW.out).1
              obtain ⟨fv, hfv⟩ : ∃ fv, fv = (find6 q.name.data.toList (vars6 n)).getD vrZ := ⟨_, rfl⟩
              obtain ⟨fs, hfs⟩ : ∃ fs, fs = (find6 q.name.data.toList (vars6 n)).isSome := ⟨_, rfl⟩
              have HFV : Hid (vk6 n q.name = (fv.kind : Int)) := Lib.hid (by rw [hfv]; rfl)
              have HKF : Hid (∀ W, Below wr.heap.size wr W → Calls Try.prog 49 #[.agg #[.string n.name, .slice xi n.ins.length ci, .slice xo n.outs.length co, .slice xl n.locs.length cl, .slice (some ⟨ge, 0, none⟩) n.eqs.length ce, .int .i64 (n.at_ : Int)], .string q.name] W (fun e w' => e = .returned (.tuple #[.agg #[.string fv.name, .int .i64 (fv.kind : Int), .string fv.on, .bool fv.not_, .int .i64 (fv.at_ : Int)], .bool fs]) ∧ Below W.heap.size W w')) := Lib.hid (fun W hb => by
                have h := Find_any n HLV.out q.name W _ xi xo xl _ ci co cl ce (NdIn.below hb HI8.out)
                unfold GivesFv ndV at h
                rw [← hfv, ← hfs] at h
                exact h)
              clear hkl hq hqq hrg hkk hNI hTK hge hoq hwq hfv hfs hgx hokx
              go_upto_region 17 with fail
              refine wp_region_stepsN (words [wIs (.agg #[.string n.name, .slice xi n.ins.length ci, .slice xo n.outs.length co, .slice xl n.locs.length cl, .slice (some ⟨ge, 0, none⟩) n.eqs.length ce, .int .i64 (n.at_ : Int)]), wIs (.pointer (some ⟨bn, 4, none⟩)), wIs (.slice (some ⟨ge, 0, none⟩) n.eqs.length ce), wIs (.int .i64 (k : Int)), wIs (.pointer (some ⟨ge, k * 7, none⟩)), wIs (.pointer (some ⟨ge, k * 7 + 0, none⟩)), wIs (.string q.name), wIs (.tuple #[.agg #[.string fv.name, .int .i64 (fv.kind : Int), .string fv.on, .bool fv.not_, .int .i64 (fv.at_ : Int)], .bool fs]), wIs (.tuple #[.agg #[.string fv.name, .int .i64 (fv.kind : Int), .string fv.on, .bool fv.not_, .int .i64 (fv.at_ : Int)], .bool fs]), wIs (.agg #[.string fv.name, .int .i64 (fv.kind : Int), .string fv.on, .bool fv.not_, .int .i64 (fv.at_ : Int)]), wIs (.bool fs), wNewV wr.heap.size, wRowV wr.heap.size #[.string fv.name, .int .i64 (fv.kind : Int), .string fv.on, .bool fv.not_, .int .i64 (fv.at_ : Int)], wIs (.bool fs)]) (Below wr.heap.size) (RV wr.heap.size 12) (fun _ _ => True) (Gst 12 11 11 (wRowV wr.heap.size #[.string fv.name, .int .i64 (fv.kind : Int), .string fv.on, .bool fv.not_, .int .i64 (fv.at_ : Int)])) (Tst 12 11) (fun h => by simp [Array.getD] at h) (Gst.step (Sp := words [wIs (.agg #[.string n.name, .slice xi n.ins.length ci, .slice xo n.outs.length co, .slice xl n.locs.length cl, .slice (some ⟨ge, 0, none⟩) n.eqs.length ce, .int .i64 (n.at_ : Int)]), wIs (.pointer (some ⟨bn, 4, none⟩)), wIs (.slice (some ⟨ge, 0, none⟩) n.eqs.length ce), wIs (.int .i64 (k : Int)), wIs (.pointer (some ⟨ge, k * 7, none⟩)), wIs (.pointer (some ⟨ge, k * 7 + 0, none⟩)), wIs (.string q.name), wIs (.tuple #[.agg #[.string fv.name, .int .i64 (fv.kind : Int), .string fv.on, .bool fv.not_, .int .i64 (fv.at_ : Int)], .bool fs]), wIs (.tuple #[.agg #[.string fv.name, .int .i64 (fv.kind : Int), .string fv.on, .bool fv.not_, .int .i64 (fv.at_ : Int)], .bool fs]), wIs (.agg #[.string fv.name, .int .i64 (fv.kind : Int), .string fv.on, .bool fv.not_, .int .i64 (fv.at_ : Int)]), wIs (.bool fs), wNewV wr.heap.size, wRowV wr.heap.size #[.string fv.name, .int .i64 (fv.kind : Int), .string fv.on, .bool fv.not_, .int .i64 (fv.at_ : Int)], wIs (.bool fs)]) rfl rfl rfl rfl rfl (by decide) rfl (fun i v W W' hi h hr => wRowV.keep hi h hr)) (by kernel_rfl) (fun _ _ _ h1 h2 => h1.trans h2) (fun i W W' h => h.rel) (fun _ _ _ _ _ _ _ => trivial) (Below.refl _ _).drew (fun _ => trivial) ?hst rfl rfl rfl ?steps ?done
              case hst =>
                intro i' j' v W W' hne hv hr
                match j', hne, hv with
                | 0, _, hv => exact hv
                | 1, _, hv => exact hv
                | 2, _, hv => exact hv
                | 3, _, hv => exact hv
                | 4, _, hv => exact hv
                | 5, _, hv => exact hv
                | 6, _, hv => exact hv
                | 7, _, hv => exact hv
                | 8, _, hv => exact hv
                | 9, _, hv => exact hv
                | 10, _, hv => exact hv
                | 11, _, hv => exact wNewV.keep hv hr
                | 12, hne, hv => exact wRowV.keep (Ne.symm hne) hv hr
                | 13, _, hv => exact hv
                | _ + 14, _, _ => trivial
              case steps =>
                refine StepsN.cons (stepN_value (fun _ _ h => by cases h) rfl fun xa W hp _ => ?_) ?_
                · have f0 : xa.tmps.getD 5 undef = .pointer (some ⟨bn, 0, none⟩) := hp.old 5 rfl
                  exact ⟨wanted_none rfl, _, _, run_ldrow rfl f0 ((hp.rel.block bn HLT.out).trans HNW.out) Try.underlying38 rfl (by kernel_rfl), rfl, RV.of hp.rel.size (by decide) (Below.refl _ _)⟩
                refine StepsN.cons (stepN_value (fun _ _ h => by cases h) rfl fun xa W hp _ => ?_) ?_
                · have f0 : xa.tmps.getD 5 undef = .pointer (some ⟨bn, 0, none⟩) := hp.old 5 rfl
                  have f1 : (Instr.fieldAt 38 (.pointer (some ⟨bn, 0, none⟩)) 4).run Try.prog W = .ok (.pointer (some ⟨bn, 4, none⟩)) W := by kernel_rfl
                  exact ⟨wanted_none rfl, _, _, run_fa4 rfl f0 f1, rfl, RV.of hp.rel.size (by decide) (Below.refl _ _)⟩
                refine StepsN.cons (stepN_value (fun _ _ h => by cases h) rfl fun xa W hp _ => ?_) ?_
                · have f0 : xa.tmps.getD 63 undef = .pointer (some ⟨bn, 4, none⟩) := (hp.on_ 1 rfl rfl rfl).2
                  exact ⟨wanted_none rfl, _, _, run_ldv rfl f0 (cell_of_row W bn 4 _ _ _ ((hp.rel.block bn HLT.out).trans HNW.out)) Try.underlying36 rfl (by kernel_rfl), rfl, RV.of hp.rel.size (by decide) (Below.refl _ _)⟩
                refine StepsN.cons (stepN_value (fun _ _ h => by cases h) rfl fun xa W hp _ => ⟨wanted_none rfl, _, _, run_move (.inl rfl), hp.old 10 rfl, RV.of hp.rel.size (by decide) (Below.refl _ _)⟩) ?_
                refine StepsN.cons (stepN_value (fun _ _ h => by cases h) rfl fun xa W hp _ => ?_) ?_
                · have f0 : xa.tmps.getD 64 undef = .slice (some ⟨ge, 0, none⟩) n.eqs.length ce := (hp.on_ 2 rfl rfl rfl).2
                  have f1 : xa.tmps.getD 65 undef = .int .i64 (k : Int) := (hp.on_ 3 rfl rfl rfl).2
                  exact ⟨wanted_none rfl, _, _, run_idxG (k := k) Try.underlying36 HSQ.out rfl f0 f1 HKL.out, rfl, RV.of hp.rel.size (by decide) (Below.refl _ _)⟩
                refine StepsN.cons (stepN_value (fun _ _ h => by cases h) rfl fun xa W hp _ => ?_) ?_
                · have f0 : xa.tmps.getD 66 undef = .pointer (some ⟨ge, k * 7, none⟩) := (hp.on_ 4 rfl rfl rfl).2
                  have f1 : (Instr.fieldAt 55 (.pointer (some ⟨ge, k * 7, none⟩)) 0).run Try.prog W = .ok (.pointer (some ⟨ge, k * 7 + 0, none⟩)) W := by kernel_rfl
                  exact ⟨wanted_none rfl, _, _, run_fa4 rfl f0 f1, rfl, RV.of hp.rel.size (by decide) (Below.refl _ _)⟩
                refine StepsN.cons (stepN_value (fun _ _ h => by cases h) rfl fun xa W hp _ => ?_) ?_
                · have f0 : xa.tmps.getD 67 undef = .pointer (some ⟨ge, k * 7 + 0, none⟩) := (hp.on_ 5 rfl rfl rfl).2
                  exact ⟨wanted_none rfl, _, _, run_ldv rfl f0 ((hp.rel.cell (p := ⟨ge, k * 7 + 0, none⟩) HGE.out).trans HCN.out) Try.underlying9 rfl (by kernel_rfl), rfl, RV.of hp.rel.size (by decide) (Below.refl _ _)⟩
                refine StepsN.cons (stepN_enter (fun _ _ h => by cases h) rfl fun xa W hp _ => ?_) ?_
                · have f0 : xa.tmps.getD 62 undef = .agg #[.string n.name, .slice xi n.ins.length ci, .slice xo n.outs.length co, .slice xl n.locs.length cl, .slice (some ⟨ge, 0, none⟩) n.eqs.length ce, .int .i64 (n.at_ : Int)] := (hp.on_ 0 rfl rfl rfl).2
                  have f1 : xa.tmps.getD 68 undef = .string q.name := (hp.on_ 6 rfl rfl rfl).2
                  refine ⟨wanted_none rfl, 49, _, run_enter2 rfl rfl Try.call49, ?_⟩
                  show Calls _ _ #[xa.tmps.getD 62 undef, xa.tmps.getD 68 undef] W _
                  rw [f0, f1]
                  exact (HKF.out W hp.rel).mono (fun e' W' ⟨he, hb⟩ => ⟨_, he, rfl, RV.of hp.rel.size (by decide) hb⟩)
                refine StepsN.cons (stepN_value (fun _ _ h => by cases h) rfl fun xa W hp _ => ⟨wanted_none rfl, _, _, run_move (.inl rfl), (hp.on_ 7 rfl rfl rfl).2, RV.of hp.rel.size (by decide) (Below.refl _ _)⟩) ?_
                refine StepsN.cons (stepN_value (fun _ _ h => by cases h) rfl fun xa W hp _ => ?_) ?_
                · have e0 : xa.tmps.getD 61 undef = .tuple #[.agg #[.string fv.name, .int .i64 (fv.kind : Int), .string fv.on, .bool fv.not_, .int .i64 (fv.at_ : Int)], .bool fs] := (hp.on_ 8 rfl rfl rfl).2
                  exact ⟨wanted_none rfl, _, _, run_ext6 rfl e0 rfl, rfl, RV.of hp.rel.size (by decide) (Below.refl _ _)⟩
                refine StepsN.cons (stepN_value (fun _ _ h => by cases h) rfl fun xa W hp _ => ?_) ?_
                · have e0 : xa.tmps.getD 61 undef = .tuple #[.agg #[.string fv.name, .int .i64 (fv.kind : Int), .string fv.on, .bool fv.not_, .int .i64 (fv.at_ : Int)], .bool fs] := (hp.on_ 8 rfl rfl rfl).2
                  exact ⟨wanted_none rfl, _, _, run_ext6 rfl e0 rfl, rfl, RV.of hp.rel.size (by decide) (Below.refl _ _)⟩
                refine StepsN.cons (stepN_value (fun _ _ h => by cases h) rfl fun xa W hp _ => ⟨wanted_none rfl, _, _, alloc_v4 rfl, ⟨W.heap.size, _, rfl, hp.rel.size, rfl, heap_alloc_new W _⟩, RV.of hp.rel.size (by decide) ((Below.refl _ _).alloc (Nat.le_refl _) _)⟩) ?_
                refine StepsN.cons (fun xa W hp _ => ?_) ?_
                · obtain ⟨g0, cs0, e0, hB, hs0, hr⟩ : wNewV wr.heap.size (xa.tmps.getD 11 undef) W := (hp.on_ 11 rfl rfl rfl).2
                  have e1 : xa.tmps.getD 70 undef = .agg #[.string fv.name, .int .i64 (fv.kind : Int), .string fv.on, .bool fv.not_, .int .i64 (fv.at_ : Int)] := (hp.on_ 9 rfl rfl rfl).2
                  refine wpOp_of rfl (wanted_none rfl) ?_
                  unfold Oper.wp
                  rw [run_strow (o := _) (ρ := xa.eval) (x := .tmp 11) (y := .tmp 70) (cells := #[.string fv.name, .int .i64 (fv.kind : Int), .string fv.on, .bool fv.not_, .int .i64 (fv.at_ : Int)]) rfl e0 e1 hr HSV.out hs0 (v6_one _ _ _ _ _)]
                  exact ⟨xa.tmps.getD 11 undef, rfl, ⟨g0, e0, hB, setRow_heap W g0 _ _ _ _ hr⟩, ⟨hp.rel.size, by rw [if_pos rfl]; exact ⟨g0, _, hB, rfl, rfl⟩⟩, fun _ => rfl⟩
                refine StepsN.cons (stepN_value (fun _ _ h => by cases h) rfl fun xa W hp _ => ⟨wanted_none rfl, _, _, run_move (.inr rfl), (hp.on_ 10 rfl rfl rfl).2, RV.of hp.rel.size (by decide) (Below.refl _ _)⟩) ?_
                exact StepsN.nil
              case done =>
                intro act W hI
                have hbW := hI.rel
                obtain ⟨gv, hg11, hgB, hgrow⟩ := (hI.glob rfl).2
                obtain ⟨fo, hf, hx⟩ := hI.putsI [62, 63, 64, 65, 66, 67, 68, 69, 61, 70, 71, 11, 12] rfl
                rw [hf] at hg11
                clear hI hf
                subst hx
                simp only [Exit.inBlock, Exit.then, List.foldl, Act.put, List.setIfInBounds_toArray, List.set_cons_succ, List.set_cons_zero]
                rw [hg11]
                clear hg11 n4 d10
                have hdr : Below W.heap.size W W.drew := (Below.refl _ _).drew
                have HC9 := Lib.hid (HC.out.below hbW)
                have HN9 := Lib.hid ((hbW.block bn HLT.out).trans HNW.out)
                have HG9 := Lib.hid (grownBy_trans6 HG.out (grownBy_below6 (r := some gc) hbW))
                have HRG9 : Hid (W.rangeAt ge (k * 7) (qeC q.name q.e xq cq (q.at_ : Int))) := Lib.hid (rangeAt_below HRG.out hbW HGE.out)
                have HRE : Hid (W.rangeAt ge (k * 7 + 1) (exC q.e xq cq)) := Lib.hid (fun j v hj => by
                  have := HRG9.out (1 + j) v (qe_range6 q.name q.e xq cq (q.at_ : Int) j v hj)
                  rwa [← Nat.add_assoc] at this)
                have HGE9 := Lib.hid (Nat.lt_of_lt_of_le HGE.out hbW.size)
                have HV9 := Lib.hid hgrow
                have HNG := Lib.hid (show gv ≠ gc by have := HC.out.lt; omega)
                have HKK9 := Lib.hid (IsD.below hbW HKK.out)
                have HI9 := Lib.hid (NdIn.below hbW HI8.out)
                have HT9 := Lib.hid (IsD.below hbW HT8.out)
                obtain ⟨RK1, hRK1⟩ : ∃ RK1, RK1 = kind6 l n q.e Bk := ⟨_, rfl⟩
                have HQ9 := Lib.hid (show eqT6 l n n.eqs D = eqT6 l n (n.eqs.drop (k + 1)) (if RK1.1 ≠ (fv.kind : Int) then fl6 RK1.2 9 q.at_ else RK1.2) by rw [HQE.out, hRK1, HFV.out])
                have HRK1 := Lib.hid hRK1
                obtain ⟨kd, B2⟩ := RK1
                clear hbW hgB hgrow hRK1 hdr HCN HLT
                go_wp2_with fail
                refine wp_region_stepsM (words [wIs (.pointer (some ⟨gc, 0, none⟩)), wIs (.slice (some ⟨g, 0, none⟩) l.length c), wIs (.agg #[.string n.name, .slice xi n.ins.length ci, .slice xo n.outs.length co, .slice xl n.locs.length cl, .slice (some ⟨ge, 0, none⟩) n.eqs.length ce, .int .i64 (n.at_ : Int)]), wIs (.pointer (some ⟨bn, 4, none⟩)), wIs (.slice (some ⟨ge, 0, none⟩) n.eqs.length ce), wIs (.int .i64 (k : Int)), wIs (.pointer (some ⟨ge, k * 7, none⟩)), wIs (.pointer (some ⟨ge, k * 7 + 1, none⟩)), wIs (.agg (exC q.e xq cq).toArray), wKd gc kd B2, wIs (.pointer (some ⟨gv, 1, none⟩)), wIs (.int .i64 (fv.kind : Int)), wIs (.bool (kd != (fv.kind : Int)))]) (Gr2 gc none) (RK gc none) (fun j W => j = 9 → Ck6 W gc Bk) (by kernel_rfl) (fun _ _ _ h1 h2 => h1.trans h2) (fun i X X' h => h.rel) (fun i j X X' hne h hr hj => RK.ck (by simp) (by omega) (h hj) hr) (Gr2.below (Below.refl _ _).drew) (fun i _ => HC9.out.below (Below.refl _ _).drew) ?hst2 rfl rfl rfl ?steps2 ?done2
                case hst2 =>
                  intro i' j' v X X' hne hv hr
                  match j', hne, hv with
                  | 0, _, hv => exact hv
                  | 1, _, hv => exact hv
                  | 2, _, hv => exact hv
                  | 3, _, hv => exact hv
                  | 4, _, hv => exact hv
                  | 5, _, hv => exact hv
                  | 6, _, hv => exact hv
                  | 7, _, hv => exact hv
                  | 8, _, hv => exact hv
                  | 9, hne, hv => exact ⟨hv.1, RK.ck (by simp) (Ne.symm hne) hv.2 hr⟩
                  | 10, _, hv => exact hv
                  | 11, _, hv => exact hv
                  | 12, _, hv => exact hv
                  | _ + 13, _, _ => trivial
                case steps2 =>
                  refine StepsM.cons (stepM_value rfl fun xa Z hp _ => ⟨wanted_none rfl, _, _, run_move (.inl rfl), hp.old 3 rfl, RK.below (Below.refl _ _)⟩) ?_
                  refine StepsM.cons (stepM_value rfl fun xa Z hp _ => ⟨wanted_none rfl, _, _, run_move (.inl rfl), hp.old 0 rfl, RK.below (Below.refl _ _)⟩) ?_
                  refine StepsM.cons (stepM_value rfl fun xa Z hp _ => ?_) ?_
                  · have f0 : xa.tmps.getD 5 undef = .pointer (some ⟨bn, 0, none⟩) := hp.old 5 rfl
                    have hnb : Z.heap[bn]? = some (.cells #[.string n.name, .slice xi n.ins.length ci, .slice xo n.outs.length co, .slice xl n.locs.length cl, .slice (some ⟨ge, 0, none⟩) n.eqs.length ce, .int .i64 (n.at_ : Int)] 38 (0, 0)) := (hp.rel.block bn (Array.getElem?_eq_some_iff.1 HN9.out).1 HNE.out (by simp)).trans HN9.out
                    exact ⟨wanted_none rfl, _, _, run_ldrow rfl f0 hnb Try.underlying38 rfl (by kernel_rfl), rfl, RK.below (Below.refl _ _)⟩
                  refine StepsM.cons (stepM_value rfl fun xa Z hp _ => ?_) ?_
                  · have f0 : xa.tmps.getD 5 undef = .pointer (some ⟨bn, 0, none⟩) := hp.old 5 rfl
                    have f1 : (Instr.fieldAt 38 (.pointer (some ⟨bn, 0, none⟩)) 4).run Try.prog Z = .ok (.pointer (some ⟨bn, 4, none⟩)) Z := by kernel_rfl
                    exact ⟨wanted_none rfl, _, _, run_fa4 rfl f0 f1, rfl, RK.below (Below.refl _ _)⟩
                  refine StepsM.cons (stepM_value rfl fun xa Z hp _ => ?_) ?_
                  · have f0 : xa.tmps.getD 75 undef = .pointer (some ⟨bn, 4, none⟩) := (hp.on_ 3 rfl rfl rfl).2
                    have hnb : Z.heap[bn]? = some (.cells #[.string n.name, .slice xi n.ins.length ci, .slice xo n.outs.length co, .slice xl n.locs.length cl, .slice (some ⟨ge, 0, none⟩) n.eqs.length ce, .int .i64 (n.at_ : Int)] 38 (0, 0)) := (hp.rel.block bn (Array.getElem?_eq_some_iff.1 HN9.out).1 HNE.out (by simp)).trans HN9.out
                    exact ⟨wanted_none rfl, _, _, run_ldv rfl f0 (cell_of_row Z bn 4 _ _ _ hnb) Try.underlying36 rfl (by kernel_rfl), rfl, RK.below (Below.refl _ _)⟩
                  refine StepsM.cons (stepM_value rfl fun xa Z hp _ => ⟨wanted_none rfl, _, _, run_move (.inl rfl), hp.old 10 rfl, RK.below (Below.refl _ _)⟩) ?_
                  refine StepsM.cons (stepM_value rfl fun xa Z hp _ => ?_) ?_
                  · have f0 : xa.tmps.getD 76 undef = .slice (some ⟨ge, 0, none⟩) n.eqs.length ce := (hp.on_ 4 rfl rfl rfl).2
                    have f1 : xa.tmps.getD 77 undef = .int .i64 (k : Int) := (hp.on_ 5 rfl rfl rfl).2
                    exact ⟨wanted_none rfl, _, _, run_idxG (k := k) Try.underlying36 HSQ.out rfl f0 f1 HKL.out, rfl, RK.below (Below.refl _ _)⟩
                  refine StepsM.cons (stepM_value rfl fun xa Z hp _ => ?_) ?_
                  · have f0 : xa.tmps.getD 78 undef = .pointer (some ⟨ge, k * 7, none⟩) := (hp.on_ 6 rfl rfl rfl).2
                    have f1 : (Instr.fieldAt 55 (.pointer (some ⟨ge, k * 7, none⟩)) 1).run Try.prog Z = .ok (.pointer (some ⟨ge, k * 7 + 1, none⟩)) Z := by kernel_rfl
                    exact ⟨wanted_none rfl, _, _, run_fa4 rfl f0 f1, rfl, RK.below (Below.refl _ _)⟩
                  refine StepsM.cons (stepM_value rfl fun xa Z hp _ => ?_) ?_
                  · have f0 : xa.tmps.getD 79 undef = .pointer (some ⟨ge, k * 7 + 1, none⟩) := (hp.on_ 7 rfl rfl rfl).2
                    have hb1 : Z.heap[ge]? = W.heap[ge]? := hp.rel.block ge HGE9.out HEC.out (by simp)
                    exact ⟨wanted_none rfl, _, _, run_ldmidG rfl f0 (fun j v hj => (World.cell?_of_block hb1).trans (HRE.out j v hj)) rfl Try.underlying53 HSE.out, rfl, RK.below (Below.refl _ _)⟩
                  refine StepsM.cons (stepM_enter rfl fun xa Z hp hF => ?_) ?_
                  · have f1 : xa.tmps.getD 72 undef = .pointer (some ⟨gc, 0, none⟩) := (hp.on_ 0 rfl rfl rfl).2
                    have f2 : xa.tmps.getD 73 undef = .slice (some ⟨g, 0, none⟩) l.length c := (hp.on_ 1 rfl rfl rfl).2
                    have f3 : xa.tmps.getD 74 undef = .agg #[.string n.name, .slice xi n.ins.length ci, .slice xo n.outs.length co, .slice xl n.locs.length cl, .slice (some ⟨ge, 0, none⟩) n.eqs.length ce, .int .i64 (n.at_ : Int)] := (hp.on_ 2 rfl rfl rfl).2
                    have f4 : xa.tmps.getD 80 undef = .agg (exC q.e xq cq).toArray := (hp.on_ 8 rfl rfl rfl).2
                    refine ⟨wanted_none rfl, 51, _, run_enter4 rfl rfl Try.call51, ?_⟩
                    show Calls _ _ #[xa.tmps.getD 72 undef, xa.tmps.getD 73 undef, xa.tmps.getD 74 undef, xa.tmps.getD 80 undef] Z _
                    rw [f1, f2, f3, f4]
                    have hro : ∀ k, none = some k → ¬ (ok k ∧ k < w.heap.size) := fun k hk => by cases hk
                    have kk := kind6_lt l n HLV.out (some ⟨g, 0, none⟩) c xi xo xl (some ⟨ge, 0, none⟩) ci co cl ce (SizeOf.sizeOf q.e + 1) q.e (Nat.lt_succ_self _) HOE.out HWE.out _ _ _ Z gc Bk (HNK.out gc rfl) (HNK.out gc rfl) (HNK.out gc rfl) (hF rfl) xq cq (IsD.two hp.rel (HNK.out gc rfl) hro HKK9.out) (IsD.two hp.rel (HNK.out gc rfl) hro HT9.out) ⟨IsD.two hp.rel (HNK.out gc rfl) hro HI9.out.1, IsD.two hp.rel (HNK.out gc rfl) hro HI9.out.2.1, IsD.two hp.rel (HNK.out gc rfl) hro HI9.out.2.2.1, IsD.two hp.rel (HNK.out gc rfl) hro HI9.out.2.2.2⟩
                    rw [← HRK1.out] at kk
                    refine Calls.mono kk ?_
                    rintro e9 W' ⟨h1, h2, h3⟩
                    exact ⟨_, h1, ⟨rfl, h2⟩, RK.nine h3⟩
                  refine StepsM.cons (stepM_value rfl fun xa Z hp _ => ?_) ?_
                  · have f0 : xa.tmps.getD 11 undef = .pointer (some ⟨gv, 0, none⟩) := hp.old 11 rfl
                    have f1 : (Instr.fieldAt 62 (.pointer (some ⟨gv, 0, none⟩)) 1).run Try.prog Z = .ok (.pointer (some ⟨gv, 1, none⟩)) Z := by kernel_rfl
                    exact ⟨wanted_none rfl, _, _, run_fa4 rfl f0 f1, rfl, RK.below (Below.refl _ _)⟩
                  refine StepsM.cons (stepM_value rfl fun xa Z hp _ => ?_) ?_
                  · have f0 : xa.tmps.getD 82 undef = .pointer (some ⟨gv, 1, none⟩) := (hp.on_ 10 rfl rfl rfl).2
                    have hvb := (hp.rel.block gv (Array.getElem?_eq_some_iff.1 HV9.out).1 HNG.out (by simp)).trans HV9.out
                    exact ⟨wanted_none rfl, _, _, run_ldv rfl f0 (cell_of_row Z gv 1 _ _ _ hvb) Try.underlying3 rfl (by kernel_rfl), rfl, RK.below (Below.refl _ _)⟩
                  refine StepsM.cons (stepM_value rfl fun xa Z hp _ => ?_) ?_
                  · have f0 : xa.tmps.getD 81 undef = .int .i64 kd := (hp.on_ 9 rfl rfl rfl).2.1
                    have f1 : xa.tmps.getD 83 undef = .int .i64 (fv.kind : Int) := (hp.on_ 11 rfl rfl rfl).2
                    refine ⟨wanted_none rfl, _, _, run_bin3 rfl ?_ ?_, rfl, RK.below (Below.refl _ _)⟩
                    · show (eqGuard _ _ _ _ (xa.tmps.getD 81 undef) (xa.tmps.getD 83 undef)).run _ Z = _
                      rw [f0, f1]; rfl
                    · show (binOp _ _ (xa.tmps.getD 81 undef) (xa.tmps.getD 83 undef)).run _ Z = _
                      rw [f0, f1]; rfl
                  exact StepsM.nil
                case done2 =>
                  intro act Z hI
                  have hrel := hI.rel
                  have hC5 : wKd gc kd B2 (act.tmps.getD 81 undef) Z := hI.new 9 _ 81 rfl rfl rfl
                  have h84 : act.tmps.getD 84 undef = .bool (kd != (fv.kind : Int)) := hI.new 12 _ 84 rfl rfl rfl
                  obtain ⟨fo2, hf2, hx2⟩ := hI.putsI [72, 73, 74, 75, 76, 77, 78, 79, 80, 81, 82, 83, 84] rfl
                  have HC5 := Lib.hid hC5.2
                  have HG5 := Lib.hid (grownBy_trans6 HG9.out (show W.grownBy Z (some gc) from ⟨hrel.os, hrel.tape, hrel.output, hrel.size, fun k hk hne => hrel.block k hk (fun e => hne (by rw [e])) (by simp)⟩))
                  have hzb := hrel.block ge HGE9.out HEC.out (by simp)
                  have q6 : Z.cell? ⟨ge, k * 7 + 6, none⟩ = some (.int .i64 (q.at_ : Int)) := (World.cell?_of_block hzb).trans (HRG9.out 6 _ rfl)
                  have n4 := cell_of_row Z bn 4 _ _ _ ((hrel.block bn (Array.getElem?_eq_some_iff.1 HN9.out).1 HNE.out (by simp)).trans HN9.out)
                  rw [hf2] at h84
                  clear hI hf2 hC5 hrel hzb
                  subst hx2
                  simp only [Exit.inBlock, Exit.then, List.foldl, Act.put, List.setIfInBounds_toArray, List.set_cons_succ, List.set_cons_zero]
                  rw [h84]
                  clear h84
                  have k0 : (0 : Int) ≤ (k : Int) := by omega
                  have k1 : (k : Int) < (n.eqs.length : Int) := by have := HKL.out; omega
                  have hws : Value.int .i64 (wrap64 ((k : Int) + 1)) = Value.int .i64 ((k + 1 : Nat) : Int) := wrap_succ (by have := HKL.out; have := HFQ.out; omega)
                  have HWS := Lib.hid hws
                  clear hws
                  by_cases hkd : kd = (fv.kind : Int)
                  · have t2 : (kd != (fv.kind : Int)) = false := by rw [hkd]; simp
                    have HQ5 := Lib.hid (show eqT6 l n n.eqs D = eqT6 l n (n.eqs.drop (k + 1)) B2 by rw [HQ9.out]; rw [if_neg (fun h => h hkd)])
                    rw [t2]
                    clear hkd t2
                    go_wp2_with fail
                    refine ⟨⟨k + 1, B2, HWS.out, HKL.out, HG5.out, HC5.out, HQ5.out⟩, ?_⟩
                    rw [HWS.out]
                    have := HKL.out
                    simp [intOf]; omega
                  · have t2 : (kd != (fv.kind : Int)) = true := by simpa using hkd
                    have HQ5 := Lib.hid (show eqT6 l n n.eqs D = eqT6 l n (n.eqs.drop (k + 1)) (fl6 B2 9 q.at_) by rw [HQ9.out]; rw [if_pos hkd])
                    have k8 : Calls Try.prog 50 #[.pointer (some ⟨gc, 0, none⟩), .int .i64 9, .int .i64 (q.at_ : Int)] Z (GivesCk gc (fl6 B2 9 q.at_) Z) := fail6_any Z gc B2 HC5.out 9 q.at_
                    unfold GivesCk at k8
                    rw [t2]
                    clear hkd t2
                    go_wp2_with fail
                    (with_reducible refine k8.mono ?_)
                    rintro e9 w3 ⟨rfl, hC2, hg2⟩
                    clear k8
                    go_wp2_with fail
                    refine ⟨⟨k + 1, _, HWS.out, HKL.out, grownBy_trans6 HG5.out hg2, hC2, HQ5.out⟩, ?_⟩
                    rw [HWS.out]
                    have := HKL.out
                    simp [intOf]; omega
            · have d10 : decide ((k : Int) < (n.eqs.length : Int)) = false := by simp; omega
              have hkq : k = n.eqs.length := by have := HKI.out; omega
              subst hkq
              rw [List.drop_length] at hq
              have HNB := Lib.hid (show eqT6 l n n.eqs D = Bk by rw [hq]; rfl)
              clear hkl hq HKI
              go_wp2_with fail
              refine ⟨⟨i + 1, Bk, wrap_succ (by have := HIL.out; have := HFEW.out; omega), HIL.out, grownBy_trans6 HG1.out HG.out, HC.out, by rw [← HNB.out]; exact HQD.out⟩, ?_⟩
              rw [wrap_succ (by have := HIL.out; have := HFEW.out; omega)]
              have := HIL.out
              simp [intOf]; omega
    · have d1 : decide ((i : Int) < (l.length : Int)) = false := by simp; omega
      have hil2 : i = l.length := by have := HI.out; omega
      subst hil2
      rw [List.drop_length] at hq
      have HRB := Lib.hid (show R = B by rw [hq]; rfl)
      have hgw : w.heap.size ≠ gc := by rw [HGC.out]; omega
      have HR0 := Lib.hid ((HG.out.block w.heap.size (HF0.out.lt_ 0 rfl) (fun e => hgw (by injection e))).trans (HF0.out.get 0 rfl))
      have HBL := Lib.hid (Below.grown HF0.out.below HG.out HF0.out.below.size (fun k h => by injection h with h; rw [← h, HGC.out]; omega))
      have hC : wr.heap[gc]? = some (.cells #[.int .i64 (B.1 : Int), .int .i64 (B.2 : Int)] 93 (0, 0)) := HC.out
      have HC := Lib.hid hC
      clear hil hq hgw hC
      go_wp2_with (first | (refine wpList_load_row rfl 30 (.tmp 95) rfl gc rfl 93 #[.int .i64 (B.1 : Int), .int .i64 (B.2 : Int)] (0, 0) _ HC.out Try.underlying30 rfl HSB.out ?_) | (refine wpList_store_row rfl 30 (.tmp 2) (.tmp 96) rfl w.heap.size #[.int .i64 (B.1 : Int), .int .i64 (B.2 : Int)] rfl rfl 30 #[.int .i64 0, .int .i64 0] ?_ HSB.out rfl (bad6_one _ _) ?_; (exact HR0.out)))
      refine bodyPost_ret (v := .agg #[.int .i64 (B.1 : Int), .int .i64 (B.2 : Int)]) (results_cell_row (p := 2) (ty := 30) rfl _ _ w.heap.size 30 _ (0, 0) _ rfl (setRow_heap _ w.heap.size _ _ _ _ HR0.out) Try.underlying30 rfl HSB.out) rfl ?_
      rw [HRB.out]
      exact ⟨rfl, below_setRow HBL.out (Nat.le_refl _) _⟩
end Go.Proofs.Ytejljfoacbpliaa

namespace Go.Proofs.Ytejljfoacbpliaa
open Go Go.RowKit
def goodV (v : Vr) : Prop := okNm v.name = true ∧ okNm v.on = true ∧ v.name.data.toList ≠ []
def kindV (v : Vr) : Prop := v.kind = 1 ∨ v.kind = 2
def goodQ (q : Qe) : Prop := okNm q.name = true ∧ wfE q.e = true
structure GoodL (L : List W4) : Prop where
  T : GoodT L
  K : ∀ w ∈ L, w.kind = 1 → w.text.data.toList ≠ []
theorem GoodL.cur {L : List W4} (h : GoodL L) {s : S4} (hk : (cur4 L s).kind = 1) : (cur4 L s).text.data.toList ≠ [] := by
  unfold cur4 at hk ⊢
  by_cases hl : s.k < L.length
  · rw [List.getD_eq_getElem?_getD, List.getElem?_eq_getElem hl] at hk ⊢
    exact h.K _ (List.getElem_mem hl) hk
  · rw [List.getD_eq_getElem?_getD, List.getElem?_eq_none (by omega)] at hk
    cases hk
section
variable {L : List W4}
theorem er_nameL (hT : GoodL L) {s : S4} (h : (name4 L s).2.er = 0) : (name4 L s).1.data.toList ≠ [] := by
  obtain ⟨h1, h2, _⟩ := er_name hT.T h
  unfold name4
  rw [if_pos ⟨h1, h2⟩]
  exact hT.cur h2
theorem declL_fine (hT : GoodL L) : ∀ (f : Nat) (l : List Vr) (s : S4), 0 ≤ s.names → s.names ≤ 64 → (declL4 L f l s).2.er = 0 →
    ∃ l', (declL4 L f l s).1 = some (l ++ l') ∧ s.er = 0 ∧ (∀ v ∈ l', goodV v) ∧ (declL4 L f l s).2.names = s.names + (l'.length : Int) ∧ (declL4 L f l s).2.names ≤ 64
  | 0, l, s, h0, h1, h => ⟨[], by unfold declL4; simp, h, by simp, by unfold declL4; simp, h1⟩
  | f + 1, l, s, h0, h1, h => by
    unfold declL4 at h ⊢
    by_cases he : s.er = 0
    · rw [if_pos he] at h ⊢
      by_cases hc : (cur4 L s).kind = 1 ∧ s.names = 64
      · rw [if_pos hc] at h
        exact (er_fail (by decide) h).elim
      · rw [if_neg hc] at h ⊢
        simp only at h ⊢
        have key : (take4 L ⟨#[44]⟩ { (name4 L s).2 with names := wrap64 ((name4 L s).2.names + 1) }).2.er = 0 → (okNm (name4 L s).1 = true ∧ (name4 L s).1.data.toList ≠ []) ∧ (take4 L ⟨#[44]⟩ { (name4 L s).2 with names := wrap64 ((name4 L s).2.names + 1) }).2.names = s.names + 1 ∧ s.names + 1 ≤ 64 := by
          intro ht
          have h2 := er_take ht
          obtain ⟨_, hk, hn, hm⟩ := er_name hT.T (s := s) h2
          have h64 : s.names ≠ 64 := fun e => hc ⟨hk, e⟩
          rw [nm_take]
          refine ⟨⟨hn, er_nameL hT (s := s) h2⟩, ?_, by omega⟩
          show wrap64 ((name4 L s).2.names + 1) = s.names + 1
          rw [hm]
          obtain ⟨m, hm2⟩ : ∃ m : Nat, s.names = (m : Int) := ⟨s.names.toNat, by omega⟩
          have hw := wrap_succ (j := m) (by omega)
          injection hw with _ hw
          rw [hm2, hw]
          push_cast
          rfl
        by_cases ht : (take4 L ⟨#[44]⟩ { (name4 L s).2 with names := wrap64 ((name4 L s).2.names + 1) }).1 = true
        · rw [if_pos ht] at h ⊢
          have hpos : (take4 L ⟨#[44]⟩ { (name4 L s).2 with names := wrap64 ((name4 L s).2.names + 1) }).2.er = 0 := by
            have : is4 L ⟨#[44]⟩ { (name4 L s).2 with names := wrap64 ((name4 L s).2.names + 1) } = true := ht
            unfold take4
            simp only
            rw [if_pos this]
            unfold is4 at this
            simp only [Bool.and_eq_true, beq_iff_eq] at this
            exact this.1
          obtain ⟨k1, k2, k3⟩ := key hpos
          obtain ⟨l', r1, _, r3, r4, r5⟩ := declL_fine hT f _ _ (by rw [k2]; omega) (by rw [k2]; exact k3) h
          refine ⟨⟨(name4 L s).1, 0, ⟨#[]⟩, false, (cur4 L s).at_⟩ :: l', by rw [r1, List.append_assoc]; rfl, he, fun v hv => ?_, by rw [r4, k2]; simp; omega, r5⟩
          rcases List.mem_cons.1 hv with rfl | hv
          · exact ⟨k1.1, rfl, k1.2⟩
          · exact r3 v hv
        · rw [if_neg ht] at h ⊢
          obtain ⟨k1, k2, k3⟩ := key h
          refine ⟨[_], rfl, he, fun v hv => ?_, by rw [k2]; rfl, by rw [k2]; exact k3⟩
          rw [List.mem_singleton] at hv
          subst hv
          exact ⟨k1.1, rfl, k1.2⟩
    · rw [if_neg he] at h
      exact absurd h he
def FineD (r : List Vr × S4) (s : S4) (l : List Vr) : Prop := ∃ l', r.1 = l ++ l' ∧ s.er = 0 ∧ (∀ v ∈ l', goodV v ∧ kindV v) ∧ r.2.names = s.names + (l'.length : Int) ∧ r.2.names ≤ 64
theorem decl_fine (hT : GoodL L) {s : S4} (h0 : 0 ≤ s.names) (h1 : s.names ≤ 64) (h : (decl4 L s).2.er = 0) : FineD (decl4 L s) s [] := by
  unfold FineD
  unfold decl4 at h ⊢
  simp only at h ⊢
  cases hr : (declL4 L (L.length + 1) [] s).1 with
  | none =>
    rw [hr] at h
    obtain ⟨l', e, _⟩ := declL_fine hT _ _ s h0 h1 h
    rw [hr] at e; cases e
  | some l =>
    rw [hr] at h
    simp only at h ⊢
    have hw : (want4 L ⟨#[58]⟩ (declL4 L (L.length + 1) [] s).2).er = 0 := by
      split at h
      · exact er_inc h
      · exact er_want h
    obtain ⟨l', e, r2, r3, r4, r5⟩ := declL_fine hT _ _ s h0 h1 (er_want hw)
    rw [hr] at e
    injection e with e
    rw [List.nil_append] at e
    subst e
    have hn : (if is4 L ⟨#[98, 111, 111, 108]⟩ (want4 L ⟨#[58]⟩ (declL4 L (L.length + 1) [] s).2) = true then inc4 (want4 L ⟨#[58]⟩ (declL4 L (L.length + 1) [] s).2) else want4 L ⟨#[105, 110, 116]⟩ (want4 L ⟨#[58]⟩ (declL4 L (L.length + 1) [] s).2)).names = (declL4 L (L.length + 1) [] s).2.names := by
      split
      · show (want4 L ⟨#[58]⟩ _).names = _
        rw [nm_want]
      · rw [nm_want, nm_want]
    refine ⟨_, (List.nil_append _).symm, r2, fun v hv => ?_, by rw [hn, r4, List.length_map], by rw [hn]; exact r5⟩
    obtain ⟨u, hu, rfl⟩ := List.mem_map.1 hv
    refine ⟨r3 u hu, ?_⟩
    show (if _ then 1 else 2 : Nat) = 1 ∨ (if _ then 1 else 2 : Nat) = 2
    split
    · exact .inl rfl
    · exact .inr rfl
theorem FineD.then_ {a b : List Vr} {r : List Vr × S4} {s t : S4} {l : List Vr} (h : FineD r t l) (ha : ∀ v ∈ a, goodV v ∧ kindV v) (hl : l = b ++ a) (hs : s.er = 0) (hn : t.names = s.names + (a.length : Int)) : FineD r s b := by
  obtain ⟨l', r1, r2, r3, r4, r5⟩ := h
  refine ⟨a ++ l', by rw [r1, hl, List.append_assoc], hs, fun v hv => ?_, by rw [r4, hn, List.length_append]; push_cast; omega, r5⟩
  rcases List.mem_append.1 hv with hv | hv
  · exact ha v hv
  · exact r3 v hv
theorem is4_er {x : ByteArray} {s : S4} (hc : is4 L x s = true) : s.er = 0 := by unfold is4 at hc; simp only [Bool.and_eq_true, beq_iff_eq] at hc; exact hc.1
theorem declsL_er {f : Nat} {l : List Vr} {s : S4} (h : (declsL4 L f l s).2.er = 0) : s.er = 0 := by
  cases f with
  | zero => exact h
  | succ f =>
    unfold declsL4 at h
    by_cases hc : is4 L ⟨#[59]⟩ s = true
    · exact is4_er hc
    · rw [if_neg hc] at h; exact h
theorem FineD.none_ {l : List Vr} {s : S4} (h : s.er = 0) (h1 : s.names ≤ 64) : FineD (l, s) s l := ⟨[], by simp, h, by simp, by simp, h1⟩
theorem declsL_fine (hT : GoodL L) : ∀ (f : Nat) (l : List Vr) (s : S4), 0 ≤ s.names → s.names ≤ 64 → (declsL4 L f l s).2.er = 0 → FineD (declsL4 L f l s) s l
  | 0, l, s, h0, h1, h => by unfold declsL4; exact .none_ h h1
  | f + 1, l, s, h0, h1, h => by
    unfold declsL4 at h ⊢
    by_cases hc : is4 L ⟨#[59]⟩ s = true
    · rw [if_pos hc] at h ⊢
      simp only at h ⊢
      have hd := declsL_er h
      obtain ⟨a, e1, _, e3, e4, e5⟩ := decl_fine hT (s := inc4 s) h0 h1 hd
      have e4 : (decl4 L (inc4 s)).2.names = s.names + (a.length : Int) := e4
      rw [List.nil_append] at e1
      exact FineD.then_ (declsL_fine hT f _ _ (by rw [e4]; omega) e5 h) e3 (by rw [e1]) (is4_er hc) e4
    · rw [if_neg hc] at h ⊢
      exact .none_ h h1
theorem decls_fine (hT : GoodL L) {s : S4} (h0 : 0 ≤ s.names) (h1 : s.names ≤ 64) (h : (decls4 L s).2.er = 0) : FineD (decls4 L s) s [] := by
  unfold decls4 at h ⊢
  split at h
  · rename_i hc
    rw [if_pos hc]
    exact .none_ h h1
  · rename_i hc
    rw [if_neg hc]
    have hd := declsL_er h
    obtain ⟨a, e1, e2, e3, e4, e5⟩ := decl_fine hT h0 h1 hd
    exact FineD.then_ (declsL_fine hT _ _ _ (by rw [e4]; omega) e5 h) e3 (by rw [e1]) e2 e4
theorem local_fine (hT : GoodL L) {s : S4} (h0 : 0 ≤ s.names) (h1 : s.names ≤ 64) (h : (local4 L s).2.er = 0) : FineD (local4 L s) s [] := by
  unfold local4 at h ⊢
  simp only at h ⊢
  by_cases hc : is4 L ⟨#[119, 104, 101, 110]⟩ (decl4 L s).2 = true
  · rw [if_pos hc] at h ⊢
    obtain ⟨a, e1, e2, e3, e4, e5⟩ := decl_fine hT h0 h1 (is4_er hc)
    obtain ⟨_, _, hn, hm⟩ := er_name hT.T h
    have hm2 : (name4 L (take4 L ⟨#[110, 111, 116]⟩ (inc4 (decl4 L s).2)).2).2.names = (decl4 L s).2.names := by rw [hm, nm_take]; rfl
    refine ⟨_, (List.nil_append _).symm, e2, fun v hv => ?_, by show (name4 L _).2.names = _; rw [hm2, e4, e1]; simp, by show (name4 L _).2.names ≤ 64; rw [hm2]; exact e5⟩
    obtain ⟨u, hu, rfl⟩ := List.mem_map.1 hv
    rw [e1, List.nil_append] at hu
    exact ⟨⟨(e3 u hu).1.1, hn, (e3 u hu).1.2.2⟩, (e3 u hu).2⟩
  · rw [if_neg hc] at h ⊢
    exact decl_fine hT h0 h1 h
theorem localsL_er {f : Nat} {l : List Vr} {s : S4} (h : (localsL4 L f l s).2.er = 0) : s.er = 0 := by
  cases f with
  | zero => exact h
  | succ f =>
    unfold localsL4 at h
    by_cases hc : s.er = 0
    · exact hc
    · rw [if_neg hc] at h; exact h
theorem localsL_fine (hT : GoodL L) : ∀ (f : Nat) (l : List Vr) (s : S4), 0 ≤ s.names → s.names ≤ 64 → (localsL4 L f l s).2.er = 0 → FineD (localsL4 L f l s) s l
  | 0, l, s, h0, h1, h => by unfold localsL4; exact .none_ h h1
  | f + 1, l, s, h0, h1, h => by
    have he := localsL_er h
    unfold localsL4 at h ⊢
    rw [if_pos he] at h ⊢
    simp only at h ⊢
    by_cases hc : is4 L ⟨#[59]⟩ (local4 L s).2 = true ∧ (L.getD ((local4 L s).2.k + 1) no4).kind = 1
    · rw [if_pos hc] at h ⊢
      obtain ⟨a, e1, e2, e3, e4, e5⟩ := local_fine hT h0 h1 (is4_er hc.1)
      rw [List.nil_append] at e1
      exact FineD.then_ (localsL_fine hT f _ _ (by show 0 ≤ (local4 L s).2.names; rw [e4]; omega) e5 h) e3 (by rw [e1]) he e4
    · rw [if_neg hc] at h ⊢
      obtain ⟨a, e1, e2, e3, e4, e5⟩ := local_fine hT h0 h1 h
      exact ⟨a, by rw [e1]; rfl, he, e3, e4, e5⟩
theorem locals_fine (hT : GoodL L) {s : S4} (h0 : 0 ≤ s.names) (h1 : s.names ≤ 64) (h : (locals4 L s).2.er = 0) : FineD (locals4 L s) s [] := by
  unfold locals4 at h ⊢
  split at h
  · rename_i hc
    rw [if_pos hc]
    exact .none_ h h1
  · rename_i hc
    rw [if_neg hc]
    exact localsL_fine hT _ _ _ h0 h1 h
theorem eq_fine (hT : GoodL L) {s : S4} (h : (eq4 L s).2.er = 0) : s.er = 0 ∧ goodQ (eq4 L s).1 ∧ (eq4 L s).2.names = s.names := by
  unfold eq4 at h ⊢
  simp only at h ⊢
  have h2 := er_want h
  obtain ⟨h3, h4, h5⟩ := FineX.expr hT.T _ h2
  have h6 : (want4 L ⟨#[61]⟩ (name4 L s).2).er = 0 := h3
  obtain ⟨h7, _, h8, h9⟩ := er_name hT.T (er_want h6)
  refine ⟨h7, ⟨h8, h4⟩, ?_⟩
  rw [nm_want, h5]
  show (want4 L ⟨#[61]⟩ (name4 L s).2).names = _
  rw [nm_want, h9]
theorem eqsL_fine (hT : GoodL L) : ∀ (f : Nat) (l : List Qe) (s : S4), (eqsL4 L f l s).2.er = 0 → s.er = 0 ∧ (∀ q ∈ (eqsL4 L f l s).1, q ∈ l ∨ goodQ q) ∧ (eqsL4 L f l s).2.names = s.names
  | 0, l, s, h => ⟨h, fun q hq => .inl hq, rfl⟩
  | f + 1, l, s, h => by
    unfold eqsL4 at h ⊢
    by_cases hc : s.er = 0 ∧ (cur4 L s).kind = 1
    · rw [if_pos hc] at h ⊢
      simp only at h ⊢
      obtain ⟨h1, h2, h3⟩ := eqsL_fine hT f _ _ h
      obtain ⟨_, h5, h6⟩ := eq_fine hT h1
      refine ⟨hc.1, fun q hq => ?_, by rw [h3, h6]⟩
      rcases h2 q hq with hq | hq
      · rcases List.mem_append.1 hq with hq | hq
        · exact .inl hq
        · rw [List.mem_singleton] at hq
          subst hq
          exact .inr h5
      · exact .inr hq
    · rw [if_neg hc] at h ⊢
      exact ⟨h, fun q hq => .inl hq, rfl⟩
def goodN (n : Nd) : Prop := okNd n = true ∧ (∀ q ∈ n.eqs, wfE q.e = true) ∧ (∀ v ∈ vars6 n, k12 (v.kind : Int)) ∧ (∀ v ∈ n.ins ++ n.outs, v.on.data.toList = []) ∧ ∀ v ∈ vars6 n, v.name.data.toList ≠ []
theorem okVs_of {l : List Vr} (h : ∀ v ∈ l, goodV v ∧ kindV v) : okVs l = true := by
  unfold okVs
  rw [List.all_eq_true]
  intro v hv
  rw [(h v hv).1.1, (h v hv).1.2.1]; rfl
theorem declL_er {f : Nat} {l : List Vr} {s : S4} (h : (declL4 L f l s).2.er = 0) : s.er = 0 := by
  cases f with
  | zero => exact h
  | succ f =>
    unfold declL4 at h
    by_cases hc : s.er = 0
    · exact hc
    · rw [if_neg hc] at h; exact h
theorem decl_er {s : S4} (h : (decl4 L s).2.er = 0) : s.er = 0 := by
  unfold decl4 at h
  simp only at h
  cases hr : (declL4 L (L.length + 1) [] s).1 with
  | none => rw [hr] at h; exact declL_er h
  | some l =>
    rw [hr] at h
    simp only at h
    refine declL_er (L := L) (f := L.length + 1) (l := []) (er_want (L := L) (x := ⟨#[58]⟩) ?_)
    split at h
    · exact er_inc h
    · exact er_want h
theorem decls_er {s : S4} (h : (decls4 L s).2.er = 0) : s.er = 0 := by
  unfold decls4 at h
  split at h
  · exact h
  · exact decl_er (declsL_er h)
theorem locals_er {s : S4} (h : (locals4 L s).2.er = 0) : s.er = 0 := by
  unfold locals4 at h
  split at h
  · exact h
  · exact localsL_er h
theorem declL_on : ∀ (f : Nat) (l : List Vr) (s : S4), (∀ v ∈ l, v.on.data.toList = []) → ∀ l', (declL4 L f l s).1 = some l' → ∀ v ∈ l', v.on.data.toList = []
  | 0, l, s, hl, l', h => by unfold declL4 at h; injection h with h; subst h; exact hl
  | f + 1, l, s, hl, l', h => by
    have hone : ∀ (nm : ByteArray) (a : Nat), ∀ v ∈ l ++ [(⟨nm, 0, ⟨#[]⟩, false, a⟩ : Vr)], v.on.data.toList = [] := fun nm a v hv => by
      rcases List.mem_append.1 hv with hv | hv
      · exact hl v hv
      · rw [List.mem_singleton] at hv; subst hv; rfl
    unfold declL4 at h
    split at h
    · split at h
      · cases h
      · simp only at h
        split at h
        · exact declL_on f _ _ (hone _ _) l' h
        · injection h with h; subst h; exact hone _ _
    · injection h with h; subst h; exact hl
theorem decl_on (s : S4) : ∀ v ∈ (decl4 L s).1, v.on.data.toList = [] := by
  unfold decl4
  simp only
  cases hr : (declL4 L (L.length + 1) [] s).1 with
  | none => intro v hv; cases hv
  | some l =>
    intro v hv
    obtain ⟨u, hu, rfl⟩ := List.mem_map.1 hv
    exact declL_on _ _ _ (by simp) l hr u hu
theorem declsL_on : ∀ (f : Nat) (l : List Vr) (s : S4), (∀ v ∈ l, v.on.data.toList = []) → ∀ v ∈ (declsL4 L f l s).1, v.on.data.toList = []
  | 0, l, s, hl => hl
  | f + 1, l, s, hl => by
    unfold declsL4
    split
    · exact declsL_on f _ _ (fun v hv => by
        rcases List.mem_append.1 hv with hv | hv
        · exact hl v hv
        · exact decl_on _ v hv)
    · exact hl
theorem decls_on (s : S4) : ∀ v ∈ (decls4 L s).1, v.on.data.toList = [] := by
  unfold decls4
  split
  · intro v hv; cases hv
  · exact declsL_on _ _ _ (decl_on s)
theorem node_fine (hT : GoodL L) {s : S4} (h : (node4 L s).2.er = 0) : s.er = 0 ∧ goodN (node4 L s).1 := by
  unfold node4 at h ⊢
  simp only at h ⊢
  have a1 := er_take h
  have a2 := er_want a1
  obtain ⟨a3, a4, _⟩ := eqsL_fine hT _ _ _ a2
  have a6 := er_want a3
  obtain ⟨nm, hnm⟩ : ∃ x, x = name4 L (want4 L ⟨#[110, 111, 100, 101]⟩ { s with names := 0 }) := ⟨_, rfl⟩
  rw [← hnm] at a4 a6 ⊢
  obtain ⟨di, hdi⟩ : ∃ x, x = decls4 L (want4 L ⟨#[40]⟩ nm.2) := ⟨_, rfl⟩
  rw [← hdi] at a4 a6 ⊢
  obtain ⟨do_, hdo⟩ : ∃ x, x = decls4 L (want4 L ⟨#[40]⟩ (want4 L ⟨#[114, 101, 116, 117, 114, 110, 115]⟩ (want4 L ⟨#[41]⟩ di.2))) := ⟨_, rfl⟩
  rw [← hdo] at a4 a6 ⊢
  obtain ⟨tv, htv⟩ : ∃ x, x = take4 L ⟨#[118, 97, 114]⟩ (want4 L ⟨#[59]⟩ (want4 L ⟨#[41]⟩ do_.2)) := ⟨_, rfl⟩
  rw [← htv] at a4 a6 ⊢
  obtain ⟨dc, hdc⟩ : ∃ x, x = (if tv.1 = true then ((locals4 L tv.2).1, want4 L ⟨#[59]⟩ (locals4 L tv.2).2) else ([], tv.2)) := ⟨_, rfl⟩
  rw [← hdc] at a4 a6 ⊢
  have b1 : tv.2.er = 0 := by
    rw [hdc] at a6
    split at a6
    · exact locals_er (er_want a6)
    · exact a6
  have b2 := b1
  rw [htv] at b2
  have b3 : do_.2.er = 0 := er_want (er_want (er_take b2))
  have b3' := b3
  rw [hdo] at b3'
  have b4 : di.2.er = 0 := er_want (er_want (er_want (decls_er b3')))
  have b4' := b4
  rw [hdi] at b4'
  have b5 : nm.2.er = 0 := er_want (decls_er b4')
  have b5' := b5
  rw [hnm] at b5'
  obtain ⟨b6, _, b7, b8⟩ := er_name hT.T b5'
  rw [← hnm] at b7 b8
  have b9 : nm.2.names = 0 := by rw [b8, nm_want]
  have n1 : (want4 L ⟨#[40]⟩ nm.2).names = 0 := by rw [nm_want, b9]
  obtain ⟨ai, i1, _, i3, i4, i5⟩ := decls_fine hT (by rw [n1]; omega) (by rw [n1]; omega) b4'
  rw [← hdi, List.nil_append] at i1
  rw [← hdi, n1] at i4
  rw [← hdi] at i5
  have n2 : (want4 L ⟨#[40]⟩ (want4 L ⟨#[114, 101, 116, 117, 114, 110, 115]⟩ (want4 L ⟨#[41]⟩ di.2))).names = (ai.length : Int) := by rw [nm_want, nm_want, nm_want, i4]; omega
  obtain ⟨ao, o1, _, o3, o4, o5⟩ := decls_fine hT (by rw [n2]; omega) (by rw [n2]; omega) b3'
  rw [← hdo, List.nil_append] at o1
  rw [← hdo, n2] at o4
  rw [← hdo] at o5
  have n3 : tv.2.names = (ai.length : Int) + (ao.length : Int) := by rw [htv, nm_take, nm_want, nm_want, o4]
  obtain ⟨al, l1, l3, l4⟩ : ∃ al, dc.1 = al ∧ (∀ v ∈ al, goodV v ∧ kindV v) ∧ (ai.length : Int) + (ao.length : Int) + (al.length : Int) ≤ 64 := by
    by_cases hv : tv.1 = true
    · rw [if_pos hv] at hdc
      rw [hdc] at a6
      have hl := er_want a6
      obtain ⟨al, e1, _, e3, e4, e5⟩ := locals_fine hT (by rw [n3]; omega) (by rw [n3]; omega) hl
      exact ⟨al, by rw [hdc]; exact e1, e3, by rw [e4, n3] at e5; exact e5⟩
    · rw [if_neg hv] at hdc
      exact ⟨[], by rw [hdc], by simp, by simp; omega⟩
  have b0 : s.er = 0 := er_want (s := { s with names := 0 }) b6
  have hall : ∀ v, v ∈ (di.1 ++ do_.1) ++ dc.1 → goodV v ∧ kindV v := fun v hv => by
    rcases List.mem_append.1 hv with hv | hv
    · rcases List.mem_append.1 hv with hv | hv
      · rw [i1] at hv; exact i3 v hv
      · rw [o1] at hv; exact o3 v hv
    · rw [l1] at hv; exact l3 v hv
  refine ⟨b0, ?_, fun q hq => ?_, fun v hv => ?_, fun v hv => ?_, fun v hv => (hall v hv).1.2.2⟩
  · show (decide (di.1.length + do_.1.length + dc.1.length ≤ 1000000) && (okNm nm.1 && (okVs di.1 && (okVs do_.1 && (okVs dc.1 && okQs _))))) = true
    rw [i1, o1, l1, b7, okVs_of i3, okVs_of o3, okVs_of l3, decide_eq_true (by omega)]
    simp only [Bool.true_and]
    unfold okQs
    rw [List.all_eq_true]
    intro q hq
    rcases a4 q hq with hq | hq
    · cases hq
    · rw [hq.1, wf_ok _ hq.2]; rfl
  · rcases a4 q hq with hq | hq
    · cases hq
    · exact hq.2
  · rcases (hall v hv).2 with hk | hk
    · exact .inl (by rw [hk]; rfl)
    · exact .inr (by rw [hk]; rfl)
  · have hv : v ∈ di.1 ++ do_.1 := hv
    rcases List.mem_append.1 hv with hv | hv
    · rw [hdi] at hv; exact decls_on _ v hv
    · rw [hdo] at hv; exact decls_on _ v hv
theorem nodesL_er {f : Nat} {l : List Nd} {s : S4} (h : (nodesL4 L f l s).2.er = 0) : s.er = 0 := by
  cases f with
  | zero => exact h
  | succ f =>
    unfold nodesL4 at h
    by_cases hc : s.er = 0 ∧ (l = [] ∨ (cur4 L s).kind ≠ 0)
    · exact hc.1
    · rw [if_neg hc] at h; exact h
theorem nodesL_fine (hT : GoodL L) : ∀ (f : Nat) (l : List Nd) (s : S4), (nodesL4 L f l s).2.er = 0 → ∀ n ∈ (nodesL4 L f l s).1, n ∈ l ∨ goodN n
  | 0, l, s, h => fun n hn => .inl hn
  | f + 1, l, s, h => by
    unfold nodesL4 at h ⊢
    by_cases hc : s.er = 0 ∧ (l = [] ∨ (cur4 L s).kind ≠ 0)
    · rw [if_pos hc] at h ⊢
      by_cases hl : l.length = 32
      · rw [if_pos hl] at h
        exact (er_fail (by decide) h).elim
      · rw [if_neg hl] at h ⊢
        simp only at h ⊢
        have hg := (node_fine hT (nodesL_er h)).2
        intro n hn
        rcases nodesL_fine hT f _ _ h n hn with hn | hn
        · rcases List.mem_append.1 hn with hn | hn
          · exact .inl hn
          · rw [List.mem_singleton] at hn
            subst hn
            exact .inr hg
        · exact .inr hn
    · rw [if_neg hc] at h ⊢
      exact fun n hn => .inl hn
end
theorem words4_goodT (s : ByteArray) (hs : s.size ≤ 1000000) (d : List (Nat × Nat × Int × Nat)) : GoodT (words4 s d) := by
  intro w hw
  unfold words4 at hw
  obtain ⟨x, _, rfl⟩ := List.mem_map.1 hw
  show (s.extract x.2.2.2 (x.2.2.2 + x.2.1)).size ≤ 1000000
  rw [ByteArray.size_extract]
  omega
theorem cutF_in (D : List UInt8) : ∀ (f : Nat) (l : List UInt8) (a : Nat) (d : List (Nat × Nat × Int × Nat)), l = D.drop a → cutF f l a = .ok d → ∀ x ∈ d, x.1 ≠ 0 → 1 ≤ x.2.1 ∧ x.2.2.2 + x.2.1 ≤ D.length
  | 0, l, a, d, _, h => by simp [cutF] at h
  | f + 1, l, a, d, hl, h => by
    unfold cutF at h
    by_cases h0 : l = []
    · rw [if_pos h0] at h
      injection h with h
      subst h
      intro x hx hk
      rw [List.mem_singleton] at hx
      subst hx
      exact absurd rfl hk
    · rw [if_neg h0] at h
      by_cases h1 : (firstW l).1 = 0
      · rw [if_pos h1] at h; cases h
      · rw [if_neg h1] at h
        have hlen := firstW_len l (List.length_pos_iff.2 h0)
        cases hc : cutF f ((l.drop (firstW l).2.1).drop (gapL (l.drop (firstW l).2.1))) (a + (firstW l).2.1 + gapL (l.drop (firstW l).2.1)) with
        | error p => rw [hc] at h; cases h
        | ok t =>
          rw [hc] at h
          injection h with h
          subst h
          intro x hx hk
          rcases List.mem_cons.1 hx with rfl | hx
          · refine ⟨hlen.2.1 h1, ?_⟩
            have := hlen.1
            have hll : l.length = D.length - a := by rw [hl]; simp
            have hpos := List.length_pos_iff.2 h0
            show a + (firstW l).2.1 ≤ D.length
            omega
          · refine cutF_in D f _ _ t ?_ hc x hx hk
            conv => lhs; rw [hl]
            rw [List.drop_drop, List.drop_drop, hl, Nat.add_assoc]
theorem words4_goodL (s : ByteArray) (hs : s.size ≤ 1000000) (d : List (Nat × Nat × Int × Nat)) (h : cutAll s.data.toList = .ok d) : GoodL (words4 s d) := by
  refine ⟨words4_goodT s hs d, fun w hw hk => ?_⟩
  unfold words4 at hw
  obtain ⟨x, hx, rfl⟩ := List.mem_map.1 hw
  have hk : x.1 = 1 := hk
  unfold cutAll at h
  split at h
  · cases h
  · cases hc : cut1 s.data.toList with
    | error p => rw [hc] at h; cases h
    | ok t =>
      rw [hc] at h
      injection h with h
      subst h
      obtain ⟨h1, h2⟩ := cutF_in s.data.toList _ _ _ t rfl hc x hx (by omega)
      show (s.extract x.2.2.2 (x.2.2.2 + x.2.1)).data.toList ≠ []
      intro e
      have hz := congrArg List.length e
      simp at hz
      have : s.data.toList.length = s.size := by simp
      omega
theorem parse4_fine {s : ByteArray} {l : List Nd} (hs : s.size ≤ 1000000) (h : parse4 s = .ok l) : ∀ n ∈ l, goodN n := by
  unfold parse4 at h
  cases hc : cutAll s.data.toList with
  | error e => rw [hc] at h; cases h
  | ok d =>
    rw [hc] at h
    simp only at h
    unfold nodes4 at h
    simp only at h
    split at h
    · rename_i he
      injection h with h
      subst h
      intro n hn
      rcases nodesL_fine (words4_goodL s hs d hc) _ _ _ he n hn with hn | hn
      · cases hn
      · exact hn
    · cases h
theorem fine6_of {l : List Nd} (h : ∀ n ∈ l, goodN n) (hn : (namesF6 [] l (0, 0)).1 = 0) : Fine6 l :=
  ⟨fun n hm => (h n hm).2.1, fun n hm => (h n hm).2.2.1, fun i hi q hq => by
    have := (namesF6_zero l [] (0, 0) hn).2 i hi q hq
    rwa [List.nil_append] at this⟩
theorem Fine6.wk {l : List Nd} (h : Fine6 l) (i : Nat) (hi : i < l.length) (q : Qe) (hq : q ∈ l[i].eqs) : wk6 l q.e := by
  obtain ⟨b', hb⟩ := h.names i hi q hq
  exact wk6_of l i l[i] q.e b' (h.wf _ (List.getElem_mem _) q hq) hb
end Go.Proofs.Ytejljfoacbpliaa

namespace Go.Proofs.Ytejljfoacbpliaa
open Go Go.RowKit
def upto6 (s : ByteArray) : Option (List Nd) := match parse4 s with
  | .error _ => none
  | .ok l => if (namesF6 [] l (0, 0)).1 = 0 then some l else none
def GivesU (r : Option (List Nd)) (w : World) (e : Ending) (w' : World) : Prop :=
  (Below w.heap.size w w' ∧ 0 < w'.heap.size) ∧ match r with
  | none => e = .returned (.tuple #[.slice none 0 0, .bool false])
  | some l => ∃ x c, e = .returned (.tuple #[.slice x l.length c, .bool true]) ∧ IsD (w.heap.size ≤ ·) w' (.slice x l.length c) (.sl l.length (ndsD l)) ∧ l.length ≤ 32
theorem parse4_er {s : ByteArray} {er ea : Nat} (h : parse4 s = .error (er, ea)) : er ≠ 0 := by
  unfold parse4 at h
  cases hc : cutAll s.data.toList with
  | error e =>
    rw [hc] at h
    injection h with h
    subst h
    unfold cutAll at hc
    split at hc
    · injection hc with hc; injection hc with hc _; omega
    · cases h1 : cut1 s.data.toList with
      | error p => rw [h1] at hc; injection hc with hc; injection hc with hc _; omega
      | ok t => rw [h1] at hc; cases hc
  | ok d =>
    rw [hc] at h
    simp only at h
    unfold nodes4 at h
    simp only at h
    split at h
    · cases h
    · rename_i he
      injection h with h
      injection h with h _
      omega
theorem upto6_ok {s : ByteArray} {l : List Nd} (hs : s.size ≤ 1000000) (h : upto6 s = some l) : (∀ n ∈ l, goodN n) ∧ Fine6 l := by
  unfold upto6 at h
  cases hp : parse4 s with
  | error e => rw [hp] at h; cases h
  | ok m =>
    rw [hp] at h
    simp only at h
    split at h
    · rename_i hn
      injection h with h
      subst h
      have hg := parse4_fine hs hp
      exact ⟨hg, fine6_of hg hn⟩
    · cases h
set_option maxHeartbeats 8000000 in
set_option maxRecDepth 100000 in
theorem Upto_6 (s : ByteArray) (hs : s.size ≤ 1000000) (w : World) : Calls Try.prog 11 #[.string s, .int .i64 6] w (GivesU (upto6 s) w) := by
  have HSB := Lib.hid size_bad6
  have kp := Parse4_any s w (by omega)
  have HS := Lib.hid hs
  obtain ⟨U, hU⟩ : ∃ U, U = upto6 s := ⟨_, rfl⟩
  rw [← hU]
  unfold upto6 at hU
  cases hp : parse4 s with
  | error ee =>
    obtain ⟨er, ea⟩ := ee
    have her := parse4_er hp
    rw [hp] at kp hU
    have HU : Hid (U = none) := Lib.hid hU
    have t0 : ((er : Int) == 0) = false := by simpa using her
    have t1 : ((er : Int) != 0) = true := by simpa using her
    clear hp hU hs her
    go_enter Try.func11, Try.ntmps11
    go_wp2_with fail
    (with_reducible refine kp.mono ?_)
    rintro e9 w1 ⟨hb, rfl⟩
    have HAL := Lib.hid (heap_alloc_new w1 (.cells #[.int .i64 0, .int .i64 0] 30))
    obtain ⟨hnb, hnr⟩ := new_row w1 30 #[.int .i64 0, .int .i64 0] #[.int .i64 (er : Int), .int .i64 (ea : Int)]
    obtain ⟨W2, hW2⟩ : ∃ W2, W2 = ((w1.alloc (.cells #[.int .i64 0, .int .i64 0] 30)).setRow w1.heap.size #[.int .i64 (er : Int), .int .i64 (ea : Int)]) := ⟨_, rfl⟩
    rw [← hW2] at hnb hnr
    have HBX := Lib.hid (hb.trans (hnb.mono hb.size))
    have c0 := cell_of_row W2 w1.heap.size 0 _ _ _ hnr
    have HZ := Lib.hid (Nat.lt_of_le_of_lt (Nat.zero_le _) (Array.getElem?_eq_some_iff.1 hnr).1)
    clear kp hb hnb hnr
    go_upto_region 2 with (refine wpList_store_row rfl 30 (.tmp 7) (.tmp 12) rfl w1.heap.size #[.int .i64 (er : Int), .int .i64 (ea : Int)] rfl rfl 30 #[.int .i64 0, .int .i64 0] ?_ HSB.out rfl (bad6_one _ _) ?_; (exact HAL.out))
    rw [← hW2]
    clear hW2
    go_wp2_with fail
    go_ret2
    rw [HU.out]
    exact ⟨⟨HBX.out, HZ.out⟩, rfl⟩
  | ok l =>
    have hg := parse4_fine hs hp
    rw [hp] at kp hU
    simp only at hU
    obtain ⟨B, hB⟩ : ∃ B, B = namesF6 [] l (0, 0) := ⟨_, rfl⟩
    rw [← hB] at hU
    have HU := Lib.hid hU
    have HGN := Lib.hid (fun (i : Nat) (h : i < l.length) => (hg _ (List.getElem_mem h)).1)
    have t0 : ((0 : Int) == 0) = true := rfl
    have HBB := Lib.hid hB
    clear hp hU hs hg hB
    go_enter Try.func11, Try.ntmps11
    go_wp2_with fail
    (with_reducible refine kp.mono ?_)
    rintro e9 w1 ⟨hb, v, rfl, hO, hL⟩
    obtain ⟨x, c, rfl, _, _⟩ := hO.slice
    have HAL := Lib.hid (heap_alloc_new w1 (.cells #[.int .i64 0, .int .i64 0] 30))
    obtain ⟨hnb, hnr⟩ := new_row w1 30 #[.int .i64 0, .int .i64 0] #[.int .i64 0, .int .i64 0]
    obtain ⟨W2, hW2⟩ : ∃ W2, W2 = ((w1.alloc (.cells #[.int .i64 0, .int .i64 0] 30)).setRow w1.heap.size #[.int .i64 0, .int .i64 0]) := ⟨_, rfl⟩
    rw [← hW2] at hnb hnr
    have hE := (hO.ends (by omega)).mono (ok' := fun k => w.heap.size ≤ k ∧ k < w1.heap.size) (fun k hk hl => ⟨by omega, hl⟩)
    have hE2 := IsD.below hnb hE
    have HE2 := Lib.hid hE2
    have HLL := Lib.hid hL
    have HBX := Lib.hid (hb.trans (hnb.mono hb.size))
    have HN2 := Lib.hid hnr
    have HB1 := Lib.hid hb.size
    have c0 := cell_of_row W2 w1.heap.size 0 _ _ _ hnr
    clear kp hb hnb hnr hE hE2 hO hL
    go_upto_region 2 with (refine wpList_store_row rfl 30 (.tmp 7) (.tmp 12) rfl w1.heap.size #[.int .i64 0, .int .i64 0] rfl rfl 30 #[.int .i64 0, .int .i64 0] ?_ HSB.out rfl (bad6_one _ _) ?_; (exact HAL.out))
    rw [← hW2]
    clear hW2
    have kn := Names_any l HGN.out W2 _ x c HE2.out
    rw [← HBB.out] at kn
    go_wp2_with fail
    (with_reducible refine kn.mono ?_)
    rintro e9 w3 ⟨rfl, hb3⟩
    have HN3 := Lib.hid ((hb3.block w1.heap.size (Array.getElem?_eq_some_iff.1 HN2.out).1).trans HN2.out)
    have hset := setRow_heap w3 w1.heap.size _ #[.int .i64 (B.1 : Int), .int .i64 (B.2 : Int)] _ _ HN3.out
    obtain ⟨W4, hW4⟩ : ∃ W4, W4 = w3.setRow w1.heap.size #[.int .i64 (B.1 : Int), .int .i64 (B.2 : Int)] := ⟨_, rfl⟩
    rw [← hW4] at hset
    have hb4 : Below w.heap.size w W4 := by rw [hW4]; exact below_setRow (HBX.out.trans (hb3.mono HBX.out.size)) HB1.out _
    have hE4 : IsD (fun k => w.heap.size ≤ k ∧ k < w1.heap.size) W4 (.slice x l.length c) (.sl l.length (ndsD l)) := by
      rw [hW4]
      exact IsD.keep (by rw [setRow_size]; exact Nat.le_refl _) (fun k hk _ => setRow_other w3 w1.heap.size k _ (by omega)) (fun _ hk _ => hk) _ (IsD.below hb3 HE2.out)
    have HB4 := Lib.hid hb4
    have HE4 := Lib.hid (hE4.mono (ok' := (w.heap.size ≤ ·)) (fun k hk _ => hk.1))
    clear kn hb3 hb4 hE4 c0
    go_upto_region 4 with (refine wpList_store_row rfl 30 (.tmp 7) (.tmp 21) rfl w1.heap.size #[.int .i64 (B.1 : Int), .int .i64 (B.2 : Int)] rfl rfl 30 #[.int .i64 0, .int .i64 0] ?_ HSB.out rfl (bad6_one _ _) ?_; (exact HN3.out))
    rw [← hW4]
    have c0 := cell_of_row W4 w1.heap.size 0 _ _ _ hset
    have HZ := Lib.hid (Nat.lt_of_le_of_lt (Nat.zero_le _) (Array.getElem?_eq_some_iff.1 hset).1)
    clear hW4 hset
    by_cases hb0 : B.1 = 0
    · have t1 : ((B.1 : Int) == 0) = true := by simpa using hb0
      have t2 : ((B.1 : Int) != 0) = false := by rw [hb0]; rfl
      have HU2 : Hid (U = some l) := Lib.hid (by rw [HU.out, if_pos hb0])
      clear hb0
      go_wp2_with fail
      go_ret2
      rw [HU2.out]
      exact ⟨⟨HB4.out, HZ.out⟩, x, c, rfl, HE4.out, HLL.out⟩
    · have t1 : ((B.1 : Int) == 0) = false := by simpa using hb0
      have t2 : ((B.1 : Int) != 0) = true := by simpa using hb0
      have HU2 : Hid (U = none) := Lib.hid (by rw [HU.out, if_neg hb0])
      clear hb0
      go_wp2_with fail
      go_ret2
      rw [HU2.out]
      exact ⟨⟨HB4.out, HZ.out⟩, rfl⟩
end Go.Proofs.Ytejljfoacbpliaa
