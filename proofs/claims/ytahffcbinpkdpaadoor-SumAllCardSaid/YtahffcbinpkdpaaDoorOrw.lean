/-
  A region that draws its order, one of whose operations (number kw) may also turn what the call itself has made: the words of the operations D are no longer told once it has run. Nothing here speaks of the program.
-/
import Derived.Test.YtahffcbinpkdpaaDoorOrd
namespace Go.Proofs.YtahffcbinpkdpaaDoor
open Go Go.RowKit

section
variable {P : Program} {Q : Exit → Act → World → Prop} {md : Region.Mode}

/-- The operation that may turn what stands from B on. -/
def StepW (P : Program) (md : Region.Mode) (Q : Exit → Act → World → Prop) (l : List Oper) (Sp : Nat → Value → World → Prop) (B : Nat) (w0 : World) (a0 : Act) (i : Nat) (o : Oper) : Prop :=
  ∀ (a : Act) (W : World), Below B w0 W → B ≤ W.heap.size → (∀ j, (∀ x ∈ l, x.dst ≠ some j) → a.tmps.getD j undef = a0.tmps.getD j undef) →
    (∀ e ∈ o.after.toList, Region.binds md e = true → ∀ x, l[e.on]? = some x → ∀ d, x.dst = some d → d < a.tmps.size ∧ Sp e.on (a.tmps.getD d undef) W) →
    wpOp P l.toArray Q i (fun a' W' => ∃ v, a' = a.put o.dst v ∧ Sp i v W' ∧ Below B W W' ∧ W.heap.size ≤ W'.heap.size) a W

def StepsW (P : Program) (md : Region.Mode) (Q : Exit → Act → World → Prop) (l : List Oper) (Sp : Nat → Value → World → Prop) (B : Nat) (w0 : World) (a0 : Act) (kw : Nat) : Nat → List Oper → Prop
  | _, [] => True
  | i, o :: r => (if i = kw then StepW P md Q l Sp B w0 a0 i o else Step P md Q l Sp B w0 a0 i o) ∧ StepsW P md Q l Sp B w0 a0 kw (i + 1) r

variable {l : List Oper} {Sp : Nat → Value → World → Prop} {B : Nat} {w0 : World} {a0 : Act} {kw : Nat}

theorem StepsW.cons {i : Nat} {o : Oper} {r : List Oper} (h : Step P md Q l Sp B w0 a0 i o) (hr : StepsW P md Q l Sp B w0 a0 kw (i + 1) r) (hne : i ≠ kw := by decide) : StepsW P md Q l Sp B w0 a0 kw i (o :: r) := ⟨by rw [if_neg hne]; exact h, hr⟩
theorem StepsW.weak {o : Oper} {r : List Oper} (h : StepW P md Q l Sp B w0 a0 kw o) (hr : StepsW P md Q l Sp B w0 a0 kw (kw + 1) r) : StepsW P md Q l Sp B w0 a0 kw kw (o :: r) := ⟨by rw [if_pos rfl]; exact h, hr⟩
theorem StepsW.nil {i : Nat} : StepsW P md Q l Sp B w0 a0 kw i [] := trivial

theorem StepsW.at_ : ∀ (r : List Oper) (i : Nat), StepsW P md Q l Sp B w0 a0 kw i r → ∀ (k : Nat) (o : Oper), r[k]? = some o → if i + k = kw then StepW P md Q l Sp B w0 a0 (i + k) o else Step P md Q l Sp B w0 a0 (i + k) o
  | [], _, _, k, o, h => by simp at h
  | x :: r, i, hs, 0, o, h => by
    simp only [List.getElem?_cons_zero, Option.some.injEq] at h
    subst h
    exact hs.1
  | x :: r, i, hs, k + 1, o, h => by
    have := StepsW.at_ r (i + 1) hs.2 k o (by simpa using h)
    rwa [show i + 1 + k = i + (k + 1) by omega] at this

/-- Who wants a word of D stands ahead of kw, or is kw. -/
def asks (md : Region.Mode) (l : List Oper) (D : List Nat) (kw : Nat) : Bool := (List.range l.length).all fun i => match l[i]? with
  | some o => i == kw || !(o.after.toList.any fun e => Region.binds md e && D.contains e.on) || (match l[kw]? with
    | some k => k.after.toList.any fun e => Region.binds md e && e.on == i
    | none => false)
  | none => true

structure InvW (md : Region.Mode) (l : List Oper) (Sp : Nat → Value → World → Prop) (B : Nat) (w0 : World) (a0 : Act) (D : List Nat) (kw : Nat) (listed : Array Bool) (a : Act) (W : World) : Prop where
  size : listed.size = l.length
  below : Below B w0 W
  base : B ≤ W.heap.size
  defers : a.defers = a0.defers
  tmps : a.tmps.size = a0.tmps.size
  old : ∀ j, (∀ x ∈ l, x.dst ≠ some j) → a.tmps.getD j undef = a0.tmps.getD j undef
  new : ∀ i x d, l[i]? = some x → listed.getD i false = true → x.dst = some d → (i ∈ D → listed.getD kw false = false) → Sp i (a.tmps.getD d undef) W
  closed : ∀ i, listed.getD i false = true → ∀ o, l[i]? = some o → ∀ e ∈ o.after.toList, Region.binds md e = true → listed.getD e.on false = true

theorem wpAny_stepsW {D : List Nat} (hst : ∀ i v W W', Sp i v W → Below W.heap.size W W' → Sp i v W') (hsw : ∀ i v W W', i ≠ kw → i ∉ D → Sp i v W → Below B W W' → Sp i v W') (hk : kw ∉ D) (h1 : single l = true) (h2 : within l a0.tmps.size = true) (h3 : ahead md l = true) (h4 : asks md l D kw = true)
    (hs : StepsW P md Q l Sp B w0 a0 kw 0 l)
    (hdone : ∀ a W, InvW md l Sp B w0 a0 D kw (Array.replicate l.length true) a W → Q .normal a W) :
    ∀ (fuel : Nat) (listed : Array Bool) (a : Act) (W : World), InvW md l Sp B w0 a0 D kw listed a W → listed.toList.count false ≤ fuel → wpAny P md l.toArray Q fuel listed a W := by
  have empty : ∀ (listed : Array Bool), listed.size = l.length → Region.ready md l.toArray listed = [] → listed = Array.replicate l.length true := by
    intro listed hsz hr
    have all : ∀ n i, i < n → i < l.length → listed.getD i false = true := by
      intro n
      induction n with
      | zero => intro i hi; omega
      | succ n ih =>
        intro i hi hil
        by_cases hin : i < n
        · exact ih i hin hil
        · cases hb : listed.getD i false with
          | true => rfl
          | false =>
            have hlt : i < listed.size := by omega
            have hmem : i ∈ Region.ready md l.toArray listed := by
              rw [mem_ready]
              refine ⟨by simpa [Array.getD, hlt] using hb, l[i], by simp [hil], fun e he hbe => ?_⟩
              have hlt' := ahead_spec h3 (i := i) (o := l[i]) (by simp [hil]) (Array.mem_toList_iff.2 he) hbe
              exact ih e.on (by omega) (by omega)
            rw [hr] at hmem
            cases hmem
    apply Array.ext
    · simp [hsz]
    · intro i hi1 hi2
      have := all (i + 1) i (Nat.lt_succ_self _) (by omega)
      simpa [Array.getD, hi1] using this
  intro fuel
  induction fuel with
  | zero =>
    intro listed a W hI hc
    have hr : Region.ready md l.toArray listed = [] := by
      cases hr : Region.ready md l.toArray listed with
      | nil => rfl
      | cons j js =>
        have hj : j ∈ Region.ready md l.toArray listed := by rw [hr]; exact List.mem_cons_self ..
        rw [mem_ready] at hj
        have hlt : j < listed.size := by
          rcases Nat.lt_or_ge j listed.size with h' | h'
          · exact h'
          · have := hj.1; simp [Array.getD, Nat.not_lt.2 h'] at this
        have hf : listed[j] = false := by simpa [Array.getD, hlt] using hj.1
        have hpos : 0 < listed.toList.count false := List.count_pos_iff.2 (by rw [← hf]; simp)
        omega
    refine ⟨hr, hdone a W ?_⟩
    rw [← empty listed hI.size hr]
    exact hI
  | succ fuel ih =>
    intro listed a W hI hc
    refine ⟨fun hr => hdone a W (by rw [← empty listed hI.size hr]; exact hI), fun i hi => ?_⟩
    rw [mem_ready] at hi
    obtain ⟨hf, o, ho, hpre⟩ := hi
    have hio : l[i]? = some o := by simpa using ho
    have hil : i < l.length := (List.getElem?_eq_some_iff.1 hio).1
    have hils : i < listed.size := by rw [hI.size]; exact hil
    have hff : listed.getD i false = false := by simpa [Array.getD, hils] using hf
    have hst' := StepsW.at_ l 0 hs i o hio
    rw [Nat.zero_add] at hst'
    have hcnt := count_set hf
    -- a word of D is asked for only while kw has not run
    have alive : ∀ e ∈ o.after.toList, Region.binds md e = true → e.on ∈ D → listed.getD kw false = false := by
      intro e he hb hD
      by_cases hik : i = kw
      · subst hik; exact hff
      · cases hkl : listed.getD kw false with
        | false => rfl
        | true =>
          exfalso
          unfold asks at h4
          rw [List.all_eq_true] at h4
          have h := h4 i (List.mem_range.2 hil)
          simp only [hio] at h
          have hany : (o.after.toList.any fun e => Region.binds md e && D.contains e.on) = true := List.any_eq_true.2 ⟨e, he, by rw [hb]; simpa using hD⟩
          have hne : (i == kw) = false := by simpa using hik
          rw [hany, hne] at h
          simp only [Bool.not_true, Bool.or_false, Bool.false_or] at h
          cases hko : l[kw]? with
          | none => rw [hko] at h; cases h
          | some k =>
            rw [hko] at h
            obtain ⟨e2, he2, h5⟩ := List.any_eq_true.1 h
            rw [Bool.and_eq_true, beq_iff_eq] at h5
            have := hI.closed kw hkl k hko e2 he2 h5.1
            rw [h5.2, hff] at this
            cases this
    have pre : ∀ e ∈ o.after.toList, Region.binds md e = true → ∀ x, l[e.on]? = some x → ∀ d, x.dst = some d → d < a.tmps.size ∧ Sp e.on (a.tmps.getD d undef) W := fun e he hb x hx d hd =>
      ⟨by rw [hI.tmps]; exact within_spec h2 (List.mem_of_getElem? hx) hd, hI.new e.on x d hx (hpre e (Array.mem_toList_iff.1 he) hb) hd (alive e he hb)⟩
    have closed' : ∀ j, (listed.setIfInBounds i true).getD j false = true → ∀ x, l[j]? = some x → ∀ e ∈ x.after.toList, Region.binds md e = true → (listed.setIfInBounds i true).getD e.on false = true := by
      intro j hj x hx e he hb'
      have mono : ∀ k, listed.getD k false = true → (listed.setIfInBounds i true).getD k false = true := by
        intro k hk
        by_cases hki : k = i
        · subst hki
          simp [Array.getD, hils]
        · rw [getD_set_ne _ (Ne.symm hki)]
          exact hk
      by_cases hji : j = i
      · subst hji
        rw [hio] at hx
        injection hx with hx
        subst hx
        exact mono _ (hpre e (Array.mem_toList_iff.1 he) hb')
      · rw [getD_set_ne _ (Ne.symm hji)] at hj
        exact mono _ (hI.closed j hj x hx e he hb')
    by_cases hik : i = kw
    · rw [if_pos hik] at hst'
      refine wpOp_mono ?_ (hst' a W hI.below hI.base hI.old pre)
      rintro a' W' ⟨v, rfl, hv, hb, hsz⟩
      refine ih _ _ _ ⟨by simpa using hI.size, hI.below.trans hb, Nat.le_trans hI.base hsz, put_defers.trans hI.defers, put_size.trans hI.tmps, fun j hj => ?_, fun k x d hk' hl hd hD => ?_, closed'⟩ (by omega)
      · rw [put_other (hj o (List.mem_of_getElem? hio)), hI.old j hj]
      · have hkD : k ∉ D := fun h => by
          have := hD h
          rw [← hik] at this
          simp [Array.getD, hils] at this
        by_cases hki : k = i
        · subst hki
          rw [hio] at hk'
          injection hk' with hk'
          subst hk'
          rw [hd, put_same (by rw [hI.tmps]; exact within_spec h2 (List.mem_of_getElem? hio) hd)]
          exact hv
        · rw [put_other (fun e => hki (single_spec h1 hk' hio hd e))]
          rw [getD_set_ne _ (Ne.symm hki)] at hl
          exact hsw _ _ _ _ (fun e => hki (e.trans hik.symm)) hkD (hI.new k x d hk' hl hd (fun h => absurd h hkD)) hb
    · rw [if_neg hik] at hst'
      refine wpOp_mono ?_ (hst' a W hI.below hI.base hI.old pre)
      rintro a' W' ⟨v, rfl, hv, hb⟩
      refine ih _ _ _ ⟨by simpa using hI.size, hI.below.trans (hb.mono hI.base), Nat.le_trans hI.base hb.size, put_defers.trans hI.defers, put_size.trans hI.tmps, fun j hj => ?_, fun k x d hk' hl hd hD => ?_, closed'⟩ (by omega)
      · rw [put_other (hj o (List.mem_of_getElem? hio)), hI.old j hj]
      · by_cases hki : k = i
        · subst hki
          rw [hio] at hk'
          injection hk' with hk'
          subst hk'
          rw [hd, put_same (by rw [hI.tmps]; exact within_spec h2 (List.mem_of_getElem? hio) hd)]
          exact hv
        · rw [put_other (fun e => hki (single_spec h1 hk' hio hd e))]
          rw [getD_set_ne _ (Ne.symm hki)] at hl
          rw [getD_set_ne _ (fun h => hik h)] at hD
          exact hst _ _ _ _ (hI.new k x d hk' hl hd hD) hb

/-- THE REGION. -/
theorem wp_region_stepsW {id : Nat} {a0 : Act} {w : World} (Sp : Nat → Value → World → Prop) (B : Nat) (w0 : World) (D : List Nat) (kw : Nat) (hm : P.follows .mixedOrders = true) (hB : Below B w0 w) (hBw : B ≤ w.heap.size)
    (hst : ∀ i v W W', Sp i v W → Below W.heap.size W W' → Sp i v W') (hsw : ∀ i v W W', i ≠ kw → i ∉ D → Sp i v W → Below B W W' → Sp i v W') (hk : kw ∉ D) (h1 : single l = true) (h2 : within l a0.tmps.size = true) (h3 : ahead .any l = true) (h4 : asks .any l D kw = true)
    (hs : StepsW P .any Q l Sp B w0 a0 kw 0 l)
    (hdone : ∀ a W, InvW .any l Sp B w0 a0 D kw (Array.replicate l.length true) a W → Q .normal a W) : (Code.region id l.toArray true).wp P Q a0 w := by
  refine wp_region_any hm ?_
  have hfalse : ∀ i, (Array.replicate l.toArray.size false).getD i false = false := by
    intro i
    simp [Array.getD]
  refine wpAny_stepsW hst hsw hk h1 h2 h3 h4 hs hdone _ _ _ _ ⟨by simp, hB.drew, hBw, rfl, rfl, fun _ _ => rfl, fun i x d _ hl _ _ => ?_, fun i hi => ?_⟩ ?_
  · rw [hfalse] at hl
    cases hl
  · rw [hfalse] at hi
    cases hi
  · simp

end
end Go.Proofs.YtahffcbinpkdpaaDoor
