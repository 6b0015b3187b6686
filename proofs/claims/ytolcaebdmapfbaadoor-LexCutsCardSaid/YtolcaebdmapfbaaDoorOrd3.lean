/-
  A region that draws its order, whose last two operations wait for all others and for one another (an append and the store of what it yields): the last but one may do what it wants. Nothing here speaks of the program.
-/
import Derived.Test.YtolcaebdmapfbaaDoorOrd2
namespace Go.Proofs.YtolcaebdmapfbaaDoor
open Go Go.RowKit

section
variable {P : Program} {Q : Exit → Act → World → Prop} {md : Region.Mode} {lo l : List Oper} {Sp : Nat → Value → World → Prop} {B : Nat} {w0 : World} {a0 : Act}

/-- The last but one comes behind all others; the last waits for it. -/
def covers2 (md : Region.Mode) (l : List Oper) : Bool := ((List.range (l.length - 1)).all fun i => (reaches md l l.length [l.length - 2]).contains i) && (match l[l.length - 1]? with
  | some o => o.after.toList.any fun e => e.on == l.length - 2 && Region.binds md e
  | none => false)

theorem wpAny_steps_then2 (hst : ∀ i v W W', Sp i v W → Below W.heap.size W W' → Sp i v W') (h1 : single l = true) (h2 : within l a0.tmps.size = true) (h3 : aheadOps md l = true) (h4 : covers2 md l = true) (l0 : List Oper) (o0 o1 : Oper) (hl : l = l0 ++ [o0, o1]) (hs : Steps P md Q l0 l Sp B w0 a0 0 l0)
    (hlast : ∀ a W, Inv l0 l Sp B w0 a0 (((Array.replicate l.length true).setIfInBounds l0.length false).setIfInBounds (l0.length + 1) false) a W → wpOp P l.toArray Q l0.length (fun a' W' => wpOp P l.toArray Q (l0.length + 1) (fun a'' W'' => Q .normal a'' W'') a' W') a W) :
    ∀ (fuel : Nat) (listed : Array Bool) (a : Act) (W : World), Inv l0 l Sp B w0 a0 listed a W → listed.getD l0.length true = false → listed.getD (l0.length + 1) true = false →
      (∀ i, listed.getD i false = true → ∀ o, l[i]? = some o → ∀ e ∈ o.after.toList, Region.binds md e = true → listed.getD e.on false = true) → listed.toList.count false ≤ fuel → wpAny P md l.toArray Q fuel listed a W := by
  have hlen : l.length = l0.length + 2 := by rw [hl]; simp
  have hol : l[l0.length]? = some o0 := by rw [hl]; simp
  have hol1 : l[l0.length + 1]? = some o1 := by rw [hl]; simp
  unfold covers2 at h4
  rw [Bool.and_eq_true, show l.length - 1 = l0.length + 1 by omega, show l.length - 2 = l0.length by omega, hol1] at h4
  obtain ⟨h4, h5⟩ := h4
  obtain ⟨e1, he1, hb1⟩ := List.any_eq_true.1 h5
  rw [Bool.and_eq_true, beq_iff_eq] at hb1
  -- there is always one that may come up
  have some_ready : ∀ (listed : Array Bool), listed.size = l.length → (∃ i, i < l.length ∧ listed.getD i true = false) → Region.ready md l.toArray listed ≠ [] := by
    intro listed hsz ⟨i0, hi0, hf0⟩ hr
    have all : ∀ n i, i < n → i < l.length → listed.getD i false = true := by
      intro n
      induction n with
      | zero => intro i hi; omega
      | succ n ih =>
        intro i hi hil
        by_cases hin : i < n
        · exact ih i hin hil
        · cases hb : listed.getD i false with
          | true => rfl
          | false =>
            have hlt : i < listed.size := by omega
            have hmem : i ∈ Region.ready md l.toArray listed := by
              rw [mem_ready]
              refine ⟨by simpa [Array.getD, hlt] using hb, l[i], by simp [hil], fun e he hbe => ?_⟩
              have hlt' := aheadOps_spec h3 (i := i) (o := l[i]) (by simp [hil]) (Array.mem_toList_iff.2 he) hbe
              exact ih e.on (by omega) (by omega)
            rw [hr] at hmem
            cases hmem
    have hlt : i0 < listed.size := by omega
    have := all (i0 + 1) i0 (Nat.lt_succ_self _) hi0
    simp [Array.getD, hlt] at this hf0
    rw [this] at hf0
    cases hf0
  intro fuel
  induction fuel with
  | zero =>
    intro listed a W hI hlast0 _ _ hc
    exfalso
    have hlt : l0.length < listed.size := by rw [hI.size]; omega
    have hv : listed[l0.length] = false := by simpa [Array.getD, hlt] using hlast0
    have hpos : 0 < listed.toList.count false := List.count_pos_iff.2 (by rw [← hv]; simp)
    omega
  | succ fuel ih =>
    intro listed a W hI hlast0 hlast1 hcl hc
    refine ⟨fun hr => absurd hr (some_ready listed hI.size ⟨l0.length, by omega, hlast0⟩), fun i hi => ?_⟩
    rw [mem_ready] at hi
    obtain ⟨hf, o, ho, hpre⟩ := hi
    have hio : l[i]? = some o := by simpa using ho
    have hil : i < l.length := (List.getElem?_eq_some_iff.1 hio).1
    by_cases hi0 : i < l0.length
    · have hio0 : l0[i]? = some o := by
        rw [hl, List.getElem?_append_left hi0] at hio
        exact hio
      have hst' := Steps.at_ l0 0 hs i o hio0
      rw [Nat.zero_add] at hst'
      refine wpOp_mono ?_ (hst' a W hI.below hI.base hI.old (fun e he hb x hx d hd => ⟨by rw [hI.tmps]; exact within_spec h2 (List.mem_of_getElem? hx) hd, hI.new e.on x d hx (hpre e (Array.mem_toList_iff.1 he) hb) hd⟩))
      rintro a' W' ⟨v, rfl, hv, hb⟩
      have := count_set hf
      have keep : ∀ k, k ≠ i → k < l.length → listed.getD k true = false → (listed.setIfInBounds i true).getD k true = false := by
        intro k hk hkl h
        have hlt : k < listed.size := by rw [hI.size]; omega
        simp only [Array.getD, Array.size_setIfInBounds]
        simp only [hlt, dite_true]
        rw [Array.getInternal_eq_getElem, Array.getElem_setIfInBounds_ne (by assumption) (by omega)]
        simpa [Array.getD, hlt] using h
      refine ih _ _ _ (hI.step hst h1 h2 hio (List.mem_of_getElem? hio0) hv hb) (keep _ (by omega) (by omega) hlast0) (keep _ (by omega) (by omega) hlast1) ?_ (by omega)
      intro j hj x hx e he hb'
      have mono : ∀ k, listed.getD k false = true → (listed.setIfInBounds i true).getD k false = true := by
        intro k hk
        by_cases hki : k = i
        · subst hki
          have hlt : k < listed.size := by rw [hI.size]; omega
          simp [Array.getD, hlt]
        · rw [getD_set_ne _ (Ne.symm hki)]
          exact hk
      by_cases hji : j = i
      · subst hji
        rw [hio] at hx
        injection hx with hx
        subst hx
        exact mono _ (hpre e (Array.mem_toList_iff.1 he) hb')
      · rw [getD_set_ne _ (Ne.symm hji)] at hj
        exact mono _ (hcl j hj x hx e he hb')
    · by_cases hi1 : i = l0.length + 1
      · exfalso
        subst hi1
        rw [hol1] at hio
        injection hio with hio
        subst hio
        have h := hpre e1 (Array.mem_toList_iff.1 he1) hb1.2
        rw [hb1.1] at h
        have hlt : l0.length < listed.size := by rw [hI.size]; omega
        simp [Array.getD, hlt] at h hlast0
        rw [h] at hlast0
        cases hlast0
      · obtain rfl : i = l0.length := by omega
        rw [hol] at hio
        injection hio with hio
        subst hio
        have good := reaches_good md l (fun i => i = l0.length ∨ listed.getD i false = true) (fun j hj x hx e he hb => by
          rcases hj with rfl | hj
          · rw [hol] at hx
            injection hx with hx
            subst hx
            exact .inr (hpre e (Array.mem_toList_iff.1 he) hb)
          · exact .inr (hcl j hj x hx e he hb)) l.length [l0.length] (fun j hj => by
            rw [List.mem_singleton] at hj
            exact .inl hj)
        have hall : ∀ j, j < l0.length → listed.getD j false = true := by
          intro j hj
          rw [List.all_eq_true] at h4
          rcases good j (List.contains_iff_mem.1 (h4 j (List.mem_range.2 (by omega)))) with h | h
          · omega
          · exact h
        have hlisted : listed = ((Array.replicate l.length true).setIfInBounds l0.length false).setIfInBounds (l0.length + 1) false := by
          apply Array.ext
          · simp [hI.size]
          · intro j hj1 hj2
            by_cases hj : j = l0.length
            · subst hj
              have : listed[l0.length] = false := by simpa [Array.getD, hj1] using hlast0
              rw [Array.getElem_setIfInBounds_ne (by simpa using hj2) (by omega)]
              simp [this]
            · by_cases hj' : j = l0.length + 1
              · subst hj'
                have : listed[l0.length + 1] = false := by simpa [Array.getD, hj1] using hlast1
                simp [this]
              · rw [Array.getElem_setIfInBounds_ne (by simpa using hj2) (by omega), Array.getElem_setIfInBounds_ne (by simpa using hj2) (by omega)]
                have := hall j (by rw [hI.size] at hj1; omega)
                simpa [Array.getD, hj1] using this
        have hready : Region.ready md l.toArray (Array.replicate l.length true) = [] := by
          cases hr : Region.ready md l.toArray (Array.replicate l.length true) with
          | nil => rfl
          | cons j js =>
            have hj : j ∈ Region.ready md l.toArray (Array.replicate l.length true) := by rw [hr]; exact List.mem_cons_self ..
            rw [mem_ready] at hj
            have hlt : j < l.length := by
              rcases Nat.lt_or_ge j l.length with h' | h'
              · exact h'
              · have := hj.1; simp [Array.getD, Nat.not_lt.2 h'] at this
            have := hj.1
            simp [Array.getD, hlt] at this
        have hrep : listed.setIfInBounds l0.length true = (Array.replicate l.length true).setIfInBounds (l0.length + 1) false := by
          rw [hlisted]
          apply Array.ext
          · simp
          · intro j hj1 hj2
            by_cases hj : j = l0.length
            · subst hj
              rw [Array.getElem_setIfInBounds_self, Array.getElem_setIfInBounds_ne (by simpa using hj2) (by omega)]
              simp
            · by_cases hj' : j = l0.length + 1
              · subst hj'
                rw [Array.getElem_setIfInBounds_ne (by simpa using hj2) (by omega)]
                simp
              · rw [Array.getElem_setIfInBounds_ne (by simpa using hj2) (by omega), Array.getElem_setIfInBounds_ne (by simpa using hj2) (by omega), Array.getElem_setIfInBounds_ne (by simpa using hj2) (by omega), Array.getElem_setIfInBounds_ne (by simpa using hj2) (by omega)]
        have hrep2 : ((Array.replicate l.length true).setIfInBounds (l0.length + 1) false).setIfInBounds (l0.length + 1) true = Array.replicate l.length true := by
          apply Array.ext
          · simp
          · intro j hj1 hj2
            by_cases hj : j = l0.length + 1
            · subst hj; simp
            · rw [Array.getElem_setIfInBounds_ne (by simpa using hj2) (by omega), Array.getElem_setIfInBounds_ne (by simpa using hj2) (by omega)]
        obtain ⟨fuel, rfl⟩ : ∃ f, fuel = f + 1 := by
          have hc2 := count_set hf
          rw [hrep] at hc2
          have hlt : l0.length + 1 < ((Array.replicate l.length true).setIfInBounds (l0.length + 1) false).size := by simp; omega
          have hv : ((Array.replicate l.length true).setIfInBounds (l0.length + 1) false)[l0.length + 1] = false := by simp
          have hpos : 0 < ((Array.replicate l.length true).setIfInBounds (l0.length + 1) false).toList.count false := List.count_pos_iff.2 (by have h := Array.getElem_mem_toList hlt; rw [hv] at h; exact h)
          exact ⟨fuel - 1, by omega⟩
        have hop := hlast a W (by rw [← hlisted]; exact hI)
        refine wpOp_mono ?_ hop
        intro a' W' hQ
        rw [hrep]
        refine ⟨fun hr => absurd hr (some_ready _ (by simp) ⟨l0.length + 1, by omega, by simp [Array.getD, hlen]⟩), fun j hj => ?_⟩
        have hj1 : j = l0.length + 1 := by
          rw [mem_ready] at hj
          by_cases h : j = l0.length + 1
          · exact h
          · have hlt : j < l.length := by
              obtain ⟨_, o', ho', _⟩ := hj
              have : l[j]? = some o' := by simpa using ho'
              exact (List.getElem?_eq_some_iff.1 this).1
            have h' := hj.1
            have hlt2 : j < ((Array.replicate l.length true).setIfInBounds (l0.length + 1) false).size := by simpa using hlt
            have e : ((Array.replicate l.length true).setIfInBounds (l0.length + 1) false)[j] = true := by
              rw [Array.getElem_setIfInBounds_ne (by simpa using hlt) (by omega)]
              simp
            simp only [Array.getD, hlt2, dite_true, Array.getInternal_eq_getElem, e] at h'
            cases h'
        subst hj1
        refine wpOp_mono ?_ hQ
        intro a'' W'' hQ2
        rw [hrep2]
        cases fuel with
        | zero => exact ⟨hready, hQ2⟩
        | succ f => exact ⟨fun _ => hQ2, fun i hi => by rw [hready] at hi; cases hi⟩

/-- THE REGION WHOSE LAST OPERATION BUT ONE MAY DO WHAT IT WANTS. -/
theorem wp_region_steps_then2 {id : Nat} {a0 : Act} {w : World} (Sp : Nat → Value → World → Prop) (B : Nat) (w0 : World) (hm : P.follows .mixedOrders = true) (hB : Below B w0 w) (hBw : B ≤ w.heap.size)
    (hst : ∀ i v W W', Sp i v W → Below W.heap.size W W' → Sp i v W') (h1 : single l = true) (h2 : within l a0.tmps.size = true) (h3 : aheadOps .any l = true) (h4 : covers2 .any l = true) (n : Nat) (o0 o1 : Oper) (ho0 : l[n]? = some o0) (ho1 : l[n + 1]? = some o1) (hln : l.length = n + 2) (hs : Steps P .any Q (l.take n) l Sp B w0 a0 0 (l.take n))
    (hlast : ∀ a W, Inv (l.take n) l Sp B w0 a0 (((Array.replicate l.length true).setIfInBounds n false).setIfInBounds (n + 1) false) a W → wpOp P l.toArray Q n (fun a' W' => wpOp P l.toArray Q (n + 1) (fun a'' W'' => Q .normal a'' W'') a' W') a W) : (Code.region id l.toArray true).wp P Q a0 w := by
  obtain ⟨l0, hl0⟩ : ∃ l0, l0 = l.take n := ⟨_, rfl⟩
  rw [← hl0] at hs hlast
  have hn : l0.length = n := by rw [hl0, List.length_take]; omega
  have hl : l = l0 ++ [o0, o1] := by
    have e0 : l[n]'(by omega) = o0 := by rw [List.getElem?_eq_getElem (by omega)] at ho0; exact Option.some.inj ho0
    have e1 : l[n + 1]'(by omega) = o1 := by rw [List.getElem?_eq_getElem (by omega)] at ho1; exact Option.some.inj ho1
    conv => lhs; rw [← List.take_append_drop n l]
    rw [← hl0, List.drop_eq_getElem_cons (by omega), List.drop_eq_getElem_cons (by omega), List.drop_of_length_le (by omega), e0, e1]
  clear hl0 ho0 ho1 hln
  subst hn
  refine wp_region_any hm ?_
  have hlen : l.length = l0.length + 2 := by rw [hl]; simp
  have hfalse : ∀ i, (Array.replicate l.toArray.size false).getD i false = false := by
    intro i
    simp [Array.getD]
  refine wpAny_steps_then2 hst h1 h2 h3 h4 l0 o0 o1 hl hs hlast _ _ _ _ ⟨by simp, hB.drew, hBw, rfl, rfl, fun _ _ => rfl, fun i x d _ hl _ => ?_⟩ ?_ ?_ ?_ ?_
  · rw [hfalse] at hl
    cases hl
  · simp [Array.getD, hlen]
  · simp [Array.getD, hlen]
  · intro i hi
    rw [hfalse] at hi
    cases hi
  · simp

/-- An operation that is not wanted. -/
theorem unwanted_some {o : Oper} {a : Act} {j : Nat} {x : Oper} {d : Tmp} (h : o.guard = some (j, true)) (hx : l[j]? = some x) (hd : x.dst = some d) (hlt : d < a.tmps.size) (hv : a.tmps.getD d undef = .bool false) : Region.wanted o (yielded l.toArray a.tmps) = false := by
  have hx' : l.toArray[j]? = some x := by simpa using hx
  have hv' : a.tmps[d]? = some (.bool false) := by
    rw [Array.getElem?_eq_getElem hlt]
    simpa [Array.getD, hlt] using hv
  simp [Region.wanted, h, yielded, hx', hd, hv']
theorem unwanted_somef {o : Oper} {a : Act} {j : Nat} {x : Oper} {d : Tmp} (h : o.guard = some (j, false)) (hx : l[j]? = some x) (hd : x.dst = some d) (hlt : d < a.tmps.size) (hv : a.tmps.getD d undef = .bool true) : Region.wanted o (yielded l.toArray a.tmps) = false := by
  have hx' : l.toArray[j]? = some x := by simpa using hx
  have hv' : a.tmps[d]? = some (.bool true) := by
    rw [Array.getElem?_eq_getElem hlt]
    simpa [Array.getD, hlt] using hv
  simp [Region.wanted, h, yielded, hx', hd, hv']
theorem step_skip {i : Nat} {o : Oper} (hi : l[i]? = some o) (h : ∀ a W, Pre md lo l Sp B w0 a0 o a W → Region.wanted o (yielded l.toArray a.tmps) = false ∧ Sp i undef W) : Step P md Q lo l Sp B w0 a0 i o := Step.of fun a W hp => by
  obtain ⟨hw, hs⟩ := h a W hp
  have hi' : l.toArray[i]? = some o := by simpa using hi
  unfold wpOp
  simp only [hi', hw]
  exact ⟨undef, rfl, hs, Below.refl _ _⟩
theorem wanted_some0 {o : Oper} {a : Act} {j : Nat} {x : Oper} {d : Tmp} (h : o.guard = some (j, false)) (hx : l[j]? = some x) (hd : x.dst = some d) (hlt : d < a.tmps.size) (hv : a.tmps.getD d undef = .bool false) : Region.wanted o (yielded l.toArray a.tmps) = true := by
  have hx' : l.toArray[j]? = some x := by simpa using hx
  have hv' : a.tmps[d]? = some (.bool false) := by
    rw [Array.getElem?_eq_getElem hlt]
    simpa [Array.getD, hlt] using hv
  simp [Region.wanted, h, yielded, hx', hd, hv']
theorem run_pick0 {W : World} {o : Oper} {ρ : Operand → Value} {c x y : Operand} (ho : o.op = .pick c x y) (hc : ρ c = .bool false) : (execOp ρ o).run P W = .ok (.value (ρ y)) W := by
  simp [execOp, ho, hc, go_sem]
theorem run_bin3 {W : World} {o : Oper} {ρ : Operand → Value} {op : BinOp} {t t2 : TypeId} {x y : Operand} {v : Value} (ho : o.op = .binOp op t x y t2) (hg : (eqGuard op t x y (ρ x) (ρ y)).run P W = .ok () W) (h : (binOp op t (ρ x) (ρ y)).run P W = .ok v W) : (execOp ρ o).run P W = .ok (.value v) W := by
  simp [execOp, ho, hg, h, Result.andThen]
theorem wpOp_value {i : Nat} {o : Oper} {a : Act} {W W' : World} {K : Act → World → Prop} {v : Value} (hi : l[i]? = some o) (hw : Region.wanted o (yielded l.toArray a.tmps) = true) (hr : (execOp a.eval o).run P W = .ok (.value v) W') (h : K (a.put o.dst v) W') : wpOp P l.toArray Q i K a W := by
  refine wpOp_of hi hw ?_
  unfold Oper.wp
  rw [hr]
  exact h
/-- A whole row read. -/
theorem run_ldrow {W : World} {o : Oper} {ρ : Operand → Value} {ty : TypeId} {x : Operand} {g : Nat} {t : TypeId} {cs : Array Value} {fr : Nat × Nat} {d : TypeDesc} (ho : o.op = .load ty x) (hx : ρ x = .pointer (some ⟨g, 0, none⟩)) (hg : W.heap[g]? = some (.cells cs t fr))
    (hu : P.underlying ty = some d) (hd : (match d with | .struct _ | .array _ _ => true | _ => false) = true) (hi : (P.info? ty).map (·.size) = some cs.size) : (execOp ρ o).run P W = .ok (.value (.agg cs)) W := by
  unfold execOp
  simp only [ho, hx, Instr.loadAt, Instr.sureAddr, Sem.run_bind, Sem.run_pure, Result.andThen_ok, run_loadVar_row W g t ty cs fr d hg hu hd hi]
end
end Go.Proofs.YtolcaebdmapfbaaDoor
