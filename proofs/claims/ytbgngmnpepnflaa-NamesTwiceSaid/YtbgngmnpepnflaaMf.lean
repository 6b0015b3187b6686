/-
  What this statement stands on beside.
-/
import Derived.Test.YtbgngmnpepnflaaMe
import Derived.Deep.DeepCutAuto
import Derived.Deep.CutBlock
set_option linter.unusedVariables false
set_option linter.unusedSimpArgs false
namespace Go.Proofs.Ytbgngmnpepnflaa
open Go Go.RowKit
theorem gb_setCells (b : Nat) : ∀ (vs : List Value) (o : Nat) (w : World), w.grownBy (w.setCells b o vs) (some b)
  | [], _, w => gb_refl w _
  | v :: r, o, w => gb_trans (gb_set w b o v) (gb_setCells b r (o + 1) (w.setCell ⟨b, o, none⟩ v))
end Go.Proofs.Ytbgngmnpepnflaa

namespace Go.Proofs.Ytbgngmnpepnflaa
open Go Go.RowKit
/-- The blocks, seen from a world of one's own. -/
theorem Fx.seen {w0 w : World} {bl : List (Nat × TypeId × Array Value)} (h : Fx w0 bl w) : Fx w0 [] w := ⟨h.below, fun x hx => by simp at hx, List.Pairwise.nil⟩
end Go.Proofs.Ytbgngmnpepnflaa

namespace Go.Proofs.Ytbgngmnpepnflaa
open Go Go.RowKit
set_option maxHeartbeats 4000000 in
set_option maxRecDepth 100000 in
theorem namesFault_any (at_ : Int) (w : World) : Calls Try.prog 59 #[.int .i64 at_] w (GivesF 8 at_ w) := by
  have hn := heap_alloc_new w (.cells #[.int .i64 0, .int .i64 0] 33)
  have HB := Lib.hid ((Below.refl w.heap.size w).alloc (Nat.le_refl _) (.cells #[.int .i64 0, .int .i64 0] 33))
  have HN := Lib.hid hn
  have HSF := Lib.hid size_flt
  have HST := Lib.hid (setRow_heap (w.alloc (.cells #[.int .i64 0, .int .i64 0] 33)) w.heap.size _ #[.int .i64 8, .int .i64 at_] _ _ hn)
  clear hn
  go_enter Try.func59, Try.ntmps59
  go_wp2_with (refine wpList_store_row rfl 33 (.tmp 2) (.tmp 4) rfl w.heap.size #[.int .i64 8, .int .i64 at_] rfl rfl 33 _ HN.out HSF.out rfl (fault_one _ _) ?_)
  refine bodyPost_ret (v := .agg #[.int .i64 8, .int .i64 at_]) (results_cell_row (p := 2) (ty := 33) rfl _ _ w.heap.size 33 _ (0, 0) _ rfl HST.out Try.underlying33 rfl HSF.out) rfl ?_
  exact ⟨rfl, below_setRow HB.out (Nat.le_refl _) _⟩
end Go.Proofs.Ytbgngmnpepnflaa

namespace Go.Proofs.Ytbgngmnpepnflaa
open Go Go.RowKit
section
variable {P : Program} {Q : Exit → Act → World → Prop} {md : Region.Mode}
/-- The operation that may turn what stands from B on. -/
def StepS (P : Program) (md : Region.Mode) (Q : Exit → Act → World → Prop) (l : List Oper) (Sp : Nat → Value → World → Prop) (Sw : Value → World → Prop) (ds : Nat) (B : Nat) (w0 : World) (a0 : Act) (i : Nat) (o : Oper) : Prop :=
  ∀ (a : Act) (W : World), Below B w0 W → B ≤ W.heap.size → (∀ j, (∀ x ∈ l, x.dst ≠ some j) → a.tmps.getD j undef = a0.tmps.getD j undef) →
    (∀ e ∈ o.after.toList, Region.binds md e = true → ∀ x, l[e.on]? = some x → ∀ d, x.dst = some d → d < a.tmps.size ∧ Sp e.on (a.tmps.getD d undef) W) →
    wpOp P l.toArray Q i (fun a' W' => ∃ v, a' = a.put o.dst v ∧ Sw (a.tmps.getD ds undef) W' ∧ Below B W W' ∧ W.heap.size ≤ W'.heap.size) a W
structure PreD (md : Region.Mode) (l : List Oper) (Sp : Nat → Value → World → Prop) (D : List Nat) (B : Nat) (w0 : World) (a0 : Act) (o : Oper) (a : Act) (W : World) : Prop where
  below : Below B w0 W
  base : B ≤ W.heap.size
  old : ∀ j, (l.all fun x => !(x.dst == some j)) = true → a.tmps.getD j undef = a0.tmps.getD j undef
  pre : ∀ e ∈ o.after.toList, Region.binds md e = true → e.on ∉ D → ∀ x, l[e.on]? = some x → ∀ d, x.dst = some d → d < a.tmps.size ∧ Sp e.on (a.tmps.getD d undef) W
theorem PreD.on_ {l : List Oper} {Sp : Nat → Value → World → Prop} {D : List Nat} {B : Nat} {w0 : World} {a0 : Act} {o : Oper} {a : Act} {W : World} (h : PreD md l Sp D B w0 a0 o a W) (n : Nat) {x : Oper} {d : Tmp} (he : (o.after.toList.any fun e => e.on == n && Region.binds md e) = true) (hx : l[n]? = some x) (hd : x.dst = some d) (hD : D.contains n = false) :
    d < a.tmps.size ∧ Sp n (a.tmps.getD d undef) W := by
  obtain ⟨e, he1, he2⟩ := List.any_eq_true.1 he
  rw [Bool.and_eq_true, beq_iff_eq] at he2
  obtain ⟨rfl, h2⟩ := he2
  exact h.pre e he1 h2 (fun h => by rw [List.contains_iff_mem.2 h] at hD; cases hD) x hx d hd
/-- An operation other than kw. -/
def StepD (P : Program) (md : Region.Mode) (Q : Exit → Act → World → Prop) (l : List Oper) (Sp : Nat → Value → World → Prop) (D : List Nat) (B : Nat) (w0 : World) (a0 : Act) (i : Nat) (o : Oper) : Prop :=
  ∀ (a : Act) (W : World), PreD md l Sp D B w0 a0 o a W → wpOp P l.toArray Q i (fun a' W' => ∃ v, a' = a.put o.dst v ∧ Sp i v W' ∧ Below W.heap.size W W') a W
theorem stepD_value {l : List Oper} {Sp : Nat → Value → World → Prop} {D : List Nat} {B : Nat} {w0 : World} {a0 : Act} {i : Nat} {o : Oper} (hi : l[i]? = some o) (h : ∀ a W, PreD md l Sp D B w0 a0 o a W → Region.wanted o (yielded l.toArray a.tmps) = true ∧ ∃ v W', (execOp a.eval o).run P W = .ok (.value v) W' ∧ Sp i v W' ∧ Below W.heap.size W W') :
    StepD P md Q l Sp D B w0 a0 i o := fun a W hp => by
  obtain ⟨hw, v, W', hr, hs, hb⟩ := h a W hp
  refine wpOp_of hi hw ?_
  unfold Oper.wp
  rw [hr]
  exact ⟨v, rfl, hs, hb⟩
def StepsS (P : Program) (md : Region.Mode) (Q : Exit → Act → World → Prop) (l : List Oper) (Sp : Nat → Value → World → Prop) (Sw : Value → World → Prop) (ds : Nat) (D : List Nat) (B : Nat) (w0 : World) (a0 : Act) (kw : Nat) : Nat → List Oper → Prop
  | _, [] => True
  | i, o :: r => (if i = kw then StepS P md Q l Sp Sw ds B w0 a0 i o else StepD P md Q l Sp D B w0 a0 i o) ∧ StepsS P md Q l Sp Sw ds D B w0 a0 kw (i + 1) r
variable {l : List Oper} {Sp : Nat → Value → World → Prop} {Sw : Value → World → Prop} {ds kd : Nat} {D : List Nat} {B : Nat} {w0 : World} {a0 : Act} {kw : Nat}
theorem StepsS.cons {i : Nat} {o : Oper} {r : List Oper} (h : StepD P md Q l Sp D B w0 a0 i o) (hr : StepsS P md Q l Sp Sw ds D B w0 a0 kw (i + 1) r) (hne : i ≠ kw := by decide) : StepsS P md Q l Sp Sw ds D B w0 a0 kw i (o :: r) := ⟨by rw [if_neg hne]; exact h, hr⟩
theorem StepsS.weak {o : Oper} {r : List Oper} (h : StepS P md Q l Sp Sw ds B w0 a0 kw o) (hr : StepsS P md Q l Sp Sw ds D B w0 a0 kw (kw + 1) r) : StepsS P md Q l Sp Sw ds D B w0 a0 kw kw (o :: r) := ⟨by rw [if_pos rfl]; exact h, hr⟩
theorem StepsS.nil {i : Nat} : StepsS P md Q l Sp Sw ds D B w0 a0 kw i [] := trivial
theorem StepsS.at_ : ∀ (r : List Oper) (i : Nat), StepsS P md Q l Sp Sw ds D B w0 a0 kw i r → ∀ (k : Nat) (o : Oper), r[k]? = some o → if i + k = kw then StepS P md Q l Sp Sw ds B w0 a0 (i + k) o else StepD P md Q l Sp D B w0 a0 (i + k) o
  | [], _, _, k, o, h => by simp at h
  | x :: r, i, hs, 0, o, h => by
    simp only [List.getElem?_cons_zero, Option.some.injEq] at h
    subst h
    exact hs.1
  | x :: r, i, hs, k + 1, o, h => by
    have := StepsS.at_ r (i + 1) hs.2 k o (by simpa using h)
    rwa [show i + 1 + k = i + (k + 1) by omega] at this
theorem stepS_of {o : Oper} {i : Nat} (h : ∀ a W, Pre md l l Sp B w0 a0 o a W → wpOp P l.toArray Q i (fun a' W' => ∃ v, a' = a.put o.dst v ∧ Sw (a.tmps.getD ds undef) W' ∧ Below B W W' ∧ W.heap.size ≤ W'.heap.size) a W) : StepS P md Q l Sp Sw ds B w0 a0 i o :=
  fun a W h1 h2 h3 h4 => h a W ⟨h1, h2, fun j hj => h3 j (fun x hx hd => by
    have := (List.all_eq_true.1 hj) x hx
    simp [hd] at this), h4⟩
/-- kw yields nothing, and stands behind kd, which yields slot ds. -/
def ties (md : Region.Mode) (l : List Oper) (kw kd ds : Nat) : Bool := match l[kw]?, l[kd]? with
  | some k, some d => k.dst == none && d.dst == some ds && k.after.toList.any fun e => Region.binds md e && e.on == kd
  | _, _ => false
structure InvS (md : Region.Mode) (l : List Oper) (Sp : Nat → Value → World → Prop) (Sw : Value → World → Prop) (ds : Nat) (B : Nat) (w0 : World) (a0 : Act) (D : List Nat) (kw : Nat) (listed : Array Bool) (a : Act) (W : World) : Prop where
  size : listed.size = l.length
  below : Below B w0 W
  base : B ≤ W.heap.size
  defers : a.defers = a0.defers
  tmps : a.tmps.size = a0.tmps.size
  old : ∀ j, (∀ x ∈ l, x.dst ≠ some j) → a.tmps.getD j undef = a0.tmps.getD j undef
  new : ∀ i x d, l[i]? = some x → listed.getD i false = true → x.dst = some d → (i ∈ D → listed.getD kw false = false) → Sp i (a.tmps.getD d undef) W
  done : listed.getD kw false = true → Sw (a.tmps.getD ds undef) W
  closed : ∀ i, listed.getD i false = true → ∀ o, l[i]? = some o → ∀ e ∈ o.after.toList, Region.binds md e = true → listed.getD e.on false = true
theorem wpAny_stepsS {D : List Nat} (hst : ∀ i v W W', Sp i v W → Below W.heap.size W W' → Sp i v W') (hsw : ∀ i v W W', i ≠ kw → i ∉ D → Sp i v W → Below B W W' → Sp i v W') (hk : kw ∉ D) (h1 : single l = true) (h2 : within l a0.tmps.size = true) (h3 : aheadOps md l = true) (h5 : ties md l kw kd ds = true) (hsS : ∀ v W W', Sw v W → Below W.heap.size W W' → Sw v W')
    (hs : StepsS P md Q l Sp Sw ds D B w0 a0 kw 0 l)
    (hdone : ∀ a W, InvS md l Sp Sw ds B w0 a0 D kw (Array.replicate l.length true) a W → Q .normal a W) :
    ∀ (fuel : Nat) (listed : Array Bool) (a : Act) (W : World), InvS md l Sp Sw ds B w0 a0 D kw listed a W → listed.toList.count false ≤ fuel → wpAny P md l.toArray Q fuel listed a W := by
  have empty : ∀ (listed : Array Bool), listed.size = l.length → Region.ready md l.toArray listed = [] → listed = Array.replicate l.length true := by
    intro listed hsz hr
    have all : ∀ n i, i < n → i < l.length → listed.getD i false = true := by
      intro n
      induction n with
      | zero => intro i hi; omega
      | succ n ih =>
        intro i hi hil
        by_cases hin : i < n
        · exact ih i hin hil
        · cases hb : listed.getD i false with
          | true => rfl
          | false =>
            have hlt : i < listed.size := by omega
            have hmem : i ∈ Region.ready md l.toArray listed := by
              rw [mem_ready]
              refine ⟨by simpa [Array.getD, hlt] using hb, l[i], by simp [hil], fun e he hbe => ?_⟩
              have hlt' := aheadOps_spec h3 (i := i) (o := l[i]) (by simp [hil]) (Array.mem_toList_iff.2 he) hbe
              exact ih e.on (by omega) (by omega)
            rw [hr] at hmem
            cases hmem
    apply Array.ext
    · simp [hsz]
    · intro i hi1 hi2
      have := all (i + 1) i (Nat.lt_succ_self _) (by omega)
      simpa [Array.getD, hi1] using this
  intro fuel
  induction fuel with
  | zero =>
    intro listed a W hI hc
    have hr : Region.ready md l.toArray listed = [] := by
      cases hr : Region.ready md l.toArray listed with
      | nil => rfl
      | cons j js =>
        have hj : j ∈ Region.ready md l.toArray listed := by rw [hr]; exact List.mem_cons_self ..
        rw [mem_ready] at hj
        have hlt : j < listed.size := by
          rcases Nat.lt_or_ge j listed.size with h' | h'
          · exact h'
          · have := hj.1; simp [Array.getD, Nat.not_lt.2 h'] at this
        have hf : listed[j] = false := by simpa [Array.getD, hlt] using hj.1
        have hpos : 0 < listed.toList.count false := List.count_pos_iff.2 (by rw [← hf]; simp)
        omega
    refine ⟨hr, hdone a W ?_⟩
    rw [← empty listed hI.size hr]
    exact hI
  | succ fuel ih =>
    intro listed a W hI hc
    refine ⟨fun hr => hdone a W (by rw [← empty listed hI.size hr]; exact hI), fun i hi => ?_⟩
    rw [mem_ready] at hi
    obtain ⟨hf, o, ho, hpre⟩ := hi
    have hio : l[i]? = some o := by simpa using ho
    have hil : i < l.length := (List.getElem?_eq_some_iff.1 hio).1
    have hils : i < listed.size := by rw [hI.size]; exact hil
    have hff : listed.getD i false = false := by simpa [Array.getD, hils] using hf
    have hst' := StepsS.at_ l 0 hs i o hio
    rw [Nat.zero_add] at hst'
    have hcnt := count_set hf
    have old' : ∀ j, (l.all fun x => !(x.dst == some j)) = true → a.tmps.getD j undef = a0.tmps.getD j undef := fun j hj => hI.old j (fun x hx hd => by
      have := (List.all_eq_true.1 hj) x hx
      simp [hd] at this)
    have preD : ∀ e ∈ o.after.toList, Region.binds md e = true → e.on ∉ D → ∀ x, l[e.on]? = some x → ∀ d, x.dst = some d → d < a.tmps.size ∧ Sp e.on (a.tmps.getD d undef) W := fun e he hb hn x hx d hd =>
      ⟨by rw [hI.tmps]; exact within_spec h2 (List.mem_of_getElem? hx) hd, hI.new e.on x d hx (hpre e (Array.mem_toList_iff.1 he) hb) hd (fun h => absurd h hn)⟩
    have closed' : ∀ j, (listed.setIfInBounds i true).getD j false = true → ∀ x, l[j]? = some x → ∀ e ∈ x.after.toList, Region.binds md e = true → (listed.setIfInBounds i true).getD e.on false = true := by
      intro j hj x hx e he hb'
      have mono : ∀ k, listed.getD k false = true → (listed.setIfInBounds i true).getD k false = true := by
        intro k hk
        by_cases hki : k = i
        · subst hki
          simp [Array.getD, hils]
        · rw [getD_set_ne _ (Ne.symm hki)]
          exact hk
      by_cases hji : j = i
      · subst hji
        rw [hio] at hx
        injection hx with hx
        subst hx
        exact mono _ (hpre e (Array.mem_toList_iff.1 he) hb')
      · rw [getD_set_ne _ (Ne.symm hji)] at hj
        exact mono _ (hI.closed j hj x hx e he hb')
    obtain ⟨ok, od, hok, hod, hkn, hdd, eo, heo, hbo, hon⟩ : ∃ ok od, l[kw]? = some ok ∧ l[kd]? = some od ∧ ok.dst = none ∧ od.dst = some ds ∧ ∃ e ∈ ok.after.toList, Region.binds md e = true ∧ e.on = kd := by
      unfold ties at h5
      cases hk1 : l[kw]? with
      | none => rw [hk1] at h5; cases h5
      | some ok =>
        cases hd1 : l[kd]? with
        | none => rw [hk1, hd1] at h5; cases h5
        | some od =>
          rw [hk1, hd1] at h5
          simp only [Bool.and_eq_true, beq_iff_eq] at h5
          obtain ⟨e, he, h6⟩ := List.any_eq_true.1 h5.2
          rw [Bool.and_eq_true, beq_iff_eq] at h6
          exact ⟨ok, od, rfl, rfl, h5.1.1, h5.1.2, e, he, h6.1, h6.2⟩
    by_cases hik : i = kw
    · rw [if_pos hik] at hst'
      have pre : ∀ e ∈ o.after.toList, Region.binds md e = true → ∀ x, l[e.on]? = some x → ∀ d, x.dst = some d → d < a.tmps.size ∧ Sp e.on (a.tmps.getD d undef) W := fun e he hb x hx d hd =>
        ⟨by rw [hI.tmps]; exact within_spec h2 (List.mem_of_getElem? hx) hd, hI.new e.on x d hx (hpre e (Array.mem_toList_iff.1 he) hb) hd (fun _ => by rw [← hik]; exact hff)⟩
      refine wpOp_mono ?_ (hst' a W hI.below hI.base hI.old pre)
      rintro a' W' ⟨v, rfl, hv, hb, hsz⟩
      refine ih _ _ _ ⟨by simpa using hI.size, hI.below.trans hb, Nat.le_trans hI.base hsz, put_defers.trans hI.defers, put_size.trans hI.tmps, fun j hj => ?_, fun k x d hk' hl hd hD => ?_, fun _ => ?_, closed'⟩ (by omega)
      · rw [put_other (hj o (List.mem_of_getElem? hio)), hI.old j hj]
      · have hkD : k ∉ D := fun h => by
          have := hD h
          rw [← hik] at this
          simp [Array.getD, hils] at this
        by_cases hki : k = i
        · rw [hki, hik, hok] at hk'
          injection hk' with hk'
          rw [← hk', hkn] at hd
          cases hd
        · rw [put_other (fun e => hki (single_spec h1 hk' hio hd e))]
          rw [getD_set_ne _ (Ne.symm hki)] at hl
          exact hsw _ _ _ _ (fun e => hki (e.trans hik.symm)) hkD (hI.new k x d hk' hl hd (fun h => absurd h hkD)) hb
      · have eo' : o = ok := by rw [hik, hok] at hio; injection hio with hio; exact hio.symm
        rw [eo', hkn]
        exact hv
    · rw [if_neg hik] at hst'
      refine wpOp_mono ?_ (hst' a W ⟨hI.below, hI.base, old', preD⟩)
      rintro a' W' ⟨v, rfl, hv, hb⟩
      refine ih _ _ _ ⟨by simpa using hI.size, hI.below.trans (hb.mono hI.base), Nat.le_trans hI.base hb.size, put_defers.trans hI.defers, put_size.trans hI.tmps, fun j hj => ?_, fun k x d hk' hl hd hD => ?_, fun hl => ?_, closed'⟩ (by omega)
      · rw [put_other (hj o (List.mem_of_getElem? hio)), hI.old j hj]
      · by_cases hki : k = i
        · subst hki
          rw [hio] at hk'
          injection hk' with hk'
          subst hk'
          rw [hd, put_same (by rw [hI.tmps]; exact within_spec h2 (List.mem_of_getElem? hio) hd)]
          exact hv
        · rw [put_other (fun e => hki (single_spec h1 hk' hio hd e))]
          rw [getD_set_ne _ (Ne.symm hki)] at hl
          rw [getD_set_ne _ (fun h => hik h)] at hD
          exact hst _ _ _ _ (hI.new k x d hk' hl hd hD) hb
      · rw [getD_set_ne _ (fun h => hik h)] at hl
        have hne : o.dst ≠ some ds := fun e => by
          have e1 := single_spec h1 hio hod e hdd
          have e2 := hI.closed kw hl ok hok eo heo hbo
          rw [hon, ← e1, hff] at e2
          cases e2
        rw [put_other hne]
        exact hsS _ _ _ (hI.done hl) hb
/-- THE REGION. -/
theorem wp_region_stepsS {id : Nat} {a0 : Act} {w : World} (Sp : Nat → Value → World → Prop) (Sw : Value → World → Prop) (ds : Nat) (B : Nat) (w0 : World) (D : List Nat) (kw : Nat) (hm : P.follows .mixedOrders = true) (hB : Below B w0 w) (hBw : B ≤ w.heap.size)
    (hst : ∀ i v W W', Sp i v W → Below W.heap.size W W' → Sp i v W') (hsw : ∀ i v W W', i ≠ kw → i ∉ D → Sp i v W → Below B W W' → Sp i v W') (hk : kw ∉ D) (h1 : single l = true) (h2 : within l a0.tmps.size = true) (h3 : aheadOps .any l = true) (kd : Nat) (h5 : ties .any l kw kd ds = true) (hsS : ∀ v W W', Sw v W → Below W.heap.size W W' → Sw v W')
    (hs : StepsS P .any Q l Sp Sw ds D B w0 a0 kw 0 l)
    (hdone : ∀ a W, InvS .any l Sp Sw ds B w0 a0 D kw (Array.replicate l.length true) a W → Q .normal a W) : (Code.region id l.toArray true).wp P Q a0 w := by
  refine wp_region_any hm ?_
  have hfalse : ∀ i, (Array.replicate l.toArray.size false).getD i false = false := by
    intro i
    simp [Array.getD]
  refine wpAny_stepsS hst hsw hk h1 h2 h3 h5 hsS hs hdone _ _ _ _ ⟨by simp, hB.drew, hBw, rfl, rfl, fun _ _ => rfl, fun i x d _ hl _ _ => ?_, fun hl => ?_, fun i hi => ?_⟩ ?_
  · rw [hfalse] at hl
    cases hl
  · rw [hfalse] at hl
    cases hl
  · rw [hfalse] at hi
    cases hi
  · simp
end
end Go.Proofs.Ytbgngmnpepnflaa

namespace Go.Proofs.Ytbgngmnpepnflaa
open Go Go.RowKit
theorem zero_std (w : World) : (zeroValue 145).run Try.prog w = .ok (.int .i64 0) w := by kernel_rfl
theorem size_ck : (Try.prog.info? 89).map (·.size) = some 2 := by kernel_rfl
/-- How a name stands: 0 unknown, 1 given, 2 lacking, 3 defined. -/
theorem Stands.look {w : World} {b n : Nat} {g : List UInt8 → Option Int} (h : Kinds w b n g) (s : ByteArray) (hs : s.size ≤ maxLen) : (Instr.lookup 87 (.map (some b)) (.string s) false).run Try.prog w = .ok (.int .i64 (kindOf g s)) w := by
  have := MapO.look h Try.underlying9 Try.underlying87 (zero_std w) s hs
  rw [this]
  unfold kindOf
  cases g s.data.toList <;> rfl
def knowsF (g : List UInt8 → Option Int) (s : ByteArray) : Bool := kindOf g s != 0
/-- 'm[s] = v', as an operation. -/
theorem wp_mapset {P : Program} {o : Oper} {a : Act} {K : Act → World → Prop} {Q : Exit → Act → World → Prop} {W : World} {t k e : TypeId} (m x v : Operand) (hop : o.op = Op.mapUpdate t m x v) {b n : Nat} {f : List UInt8 → Option Value} (hm : a.eval m = .map (some b)) (s : ByteArray) (hx : a.eval x = .string s) (val : Value) (hv : a.eval v = val) (h : MapO P k W b n f) (hk : P.underlying k = some .string) (ht : P.underlying t = some (.map k e)) (hn : n < maxLen) (hs : s.size ≤ maxLen)
    (hK : ∀ W', MapO P k W' b (n + 1) (fun x => if x = s.data.toList then some val else f x) → W.grownBy W' (some b) → K (a.put o.dst undef) W') : o.wp P a W K Q := by
  obtain ⟨w', hrun, r1, r2⟩ := MapO.update h hk ht hn s hs val
  unfold Oper.wp
  simp [execOp, hop, hm, hx, hv, hrun, Result.andThen]
  exact hK w' r1 r2
theorem gset_map (g : List UInt8 → Option Int) (s : ByteArray) (k : Int) : (fun x : List UInt8 => if x = s.data.toList then some (Value.int .i64 k) else (g x).map (Value.int .i64)) = (fun x => (gset g s k x).map (Value.int .i64)) := by
  funext x
  unfold gset
  by_cases hx : x = s.data.toList <;> simp [hx]
/-- A fresh struct's block. -/
def wAl (B : Nat) (T : TypeId) (z : Array Value) (v : Value) (W : World) : Prop := ∃ b, v = .pointer (some ⟨b, 0, none⟩) ∧ B ≤ b ∧ W.heap[b]? = some (.cells z T (0, 0))
theorem stable_al (B : Nat) (T : TypeId) (z : Array Value) : Stable (wAl B T z) := fun _ _ _ ⟨b, h1, h2, h3⟩ hb => ⟨b, h1, h2, (hb.block b (Array.getElem?_eq_some_iff.1 h3).1).trans h3⟩
def wAny (_ : Value) (_ : World) : Prop := True
theorem stable_any : Stable wAny := fun _ _ _ _ _ => trivial
theorem alloc_nd {o : Oper} {ρ : Operand → Value} {W : World} (ho : o.op = .alloc 59) : (execOp ρ o).run Try.prog W = .ok (.value (.pointer (some ⟨W.heap.size, 0, none⟩))) (W.alloc (.cells #[.string ⟨#[]⟩, .slice none 0 0, .slice none 0 0, .slice none 0 0, .slice none 0 0, .int .i64 0] 59)) := by
  unfold execOp
  rw [ho]
  kernel_rfl
/-- A row that the operations have grown: seen from a world ahead. -/
theorem grown_trans {a b c : World} {r : Option Nat} (h1 : a.grownBy b r) (h2 : b.grownBy c r) : a.grownBy c r := gb_trans h1 h2
end Go.Proofs.Ytbgngmnpepnflaa

namespace Go.Proofs.Ytbgngmnpepnflaa
open Go Go.RowKit
set_option maxHeartbeats 4000000 in
set_option maxRecDepth 100000 in
theorem knows_any (w : World) (gc mn ms m : Nat) (G : List UInt8 → Option Int) (hc : w.heap[gc]? = some (.cells #[.map (some mn), .map (some ms)] 89 (0, 0))) (hS : Kinds w ms m G) (s : ByteArray) (hs : s.size ≤ maxLen) : Calls Try.prog 84 #[.pointer (some ⟨gc, 0, none⟩), .string s] w (fun e w' => e = .returned (.bool (knowsF G s)) ∧ w' = w) := by
  have c1 := cell_of_row w gc 1 _ _ _ hc
  have hl := Stands.look hS s hs
  unfold knowsF
  obtain ⟨q, hq⟩ : ∃ q, q = kindOf G s := ⟨_, rfl⟩
  rw [← hq] at hl ⊢
  clear hc hS hq hs
  go_enter Try.func84, Try.ntmps84
  go_wp2_with fail
  go_ret
  exact ⟨rfl, rfl⟩
/-- A name that is not known yet stands from here on. -/
def declG (G : List UInt8 → Option Int) (s : ByteArray) (st : Int) : List UInt8 → Option Int := if knowsF G s = true then G else gset G s st
def GivesDc (G : List UInt8 → Option Int) (s : ByteArray) (st : Int) (ms m : Nat) (w : World) (e : Ending) (w' : World) : Prop := e = .returned (.bool (!knowsF G s)) ∧ Kinds w' ms (m + 1) (declG G s st) ∧ w.grownBy w' (some ms)
set_option maxHeartbeats 4000000 in
set_option maxRecDepth 100000 in
theorem declare_any (w : World) (gc mn ms m : Nat) (G : List UInt8 → Option Int) (hc : w.heap[gc]? = some (.cells #[.map (some mn), .map (some ms)] 89 (0, 0))) (hS : Kinds w ms m G) (hm : m < maxLen) (v : Vr) (hv : v.name.size ≤ maxLen) (st : Int) : Calls Try.prog 83 #[.pointer (some ⟨gc, 0, none⟩), .agg #[.string v.name, .int .i64 (v.kind : Int), .string v.on, .bool v.not_, .int .i64 (v.at_ : Int)], .int .i64 st] w (GivesDc G v.name st ms m w) := by
  have hb : Below w.heap.size w (w.alloc (.cells #[.string v.name, .int .i64 (v.kind : Int), .string v.on, .bool v.not_, .int .i64 (v.at_ : Int)] 70)) := (Below.refl _ _).alloc (Nat.le_refl _) _
  have hn := heap_alloc_new w (.cells #[.string v.name, .int .i64 (v.kind : Int), .string v.on, .bool v.not_, .int .i64 (v.at_ : Int)] 70)
  have hgc := (Array.getElem?_eq_some_iff.1 hc).1
  have hc1 := (hb.block gc hgc).trans hc
  have hS1 : Kinds (w.alloc (.cells #[.string v.name, .int .i64 (v.kind : Int), .string v.on, .bool v.not_, .int .i64 (v.at_ : Int)] 70)) ms m G := MapO.below hS hb
  have c0 := cell_of_row _ w.heap.size 0 _ _ _ hn
  have kk := knows_any _ gc mn ms m G hc1 hS1 v.name hv
  have HB1 := Lib.hid hb
  have HV1 := Lib.hid hn
  have HC1 := Lib.hid hc1
  have HS1 := Lib.hid hS1
  have HM := Lib.hid hm
  have HSV := Lib.hid hv
  unfold GivesDc declG
  obtain ⟨w1, hw1⟩ : ∃ w1, w1 = w.alloc (.cells #[.string v.name, .int .i64 (v.kind : Int), .string v.on, .bool v.not_, .int .i64 (v.at_ : Int)] 70) := ⟨_, rfl⟩
  rw [← hw1] at HB1 HV1 HC1 HS1
  have HW1 := Lib.hid hw1
  clear hb hn hgc hc1 hS1 hc hS hm hv hw1
  cases hkn : knowsF G v.name with
  | true =>
    rw [hkn] at kk
    clear hkn
    go_enter Try.func83, Try.ntmps83
    go_wp2_with fail
    (with_reducible refine kk.mono ?_)
    rintro e9 w2 ⟨rfl, rfl⟩
    clear c0 kk
    go_wp2_with fail
    go_ret
    rw [← HW1.out]
    exact ⟨rfl, HS1.out.mono (Nat.le_succ m), gb_below HB1.out⟩
  | false =>
    rw [hkn] at kk
    clear hkn
    go_enter Try.func83, Try.ntmps83
    go_wp2_with fail
    (with_reducible refine kk.mono ?_)
    rintro e9 w2 ⟨rfl, rfl⟩
    clear c0 kk
    go_wp2_with fail
    rw [← HW1.out]
    refine wp_region_steps_then (words [wIs (.pointer (some ⟨gc, 0, none⟩)), wIs (.pointer (some ⟨gc, 0, none⟩)), wIs (.pointer (some ⟨gc, 1, none⟩)), wIs (.map (some ms)), wIs (.pointer (some ⟨w.heap.size, 0, none⟩)), wIs (.string v.name), wIs (.int .i64 st)]) w1.heap.size w1 (by kernel_rfl) (Below.refl _ _) (Nat.le_refl _) (words_stable ?stab) rfl rfl rfl (by kernel_rfl) _ rfl ?steps ?last
    case stab =>
      intro f hf
      simp only [List.mem_cons, List.not_mem_nil, or_false] at hf
      rcases hf with rfl | rfl | rfl | rfl | rfl | rfl | rfl <;> first | exact stable_is _
    case steps =>
      refine Steps.cons (step_value rfl fun xa W hp => ⟨wanted_none rfl, _, _, run_move (.inl rfl), hp.old 0 rfl, Below.refl _ _⟩) ?_
      refine Steps.cons (step_value rfl fun xa W hp => ?_) ?_
      · have f0 : xa.tmps.getD 11 undef = .pointer (some ⟨gc, 0, none⟩) := (hp.on_ 0 rfl rfl rfl).2
        exact ⟨wanted_none rfl, _, _, run_nil rfl f0, rfl, Below.refl _ _⟩
      refine Steps.cons (step_value rfl fun xa W hp => ?_) ?_
      · have f0 : xa.tmps.getD 12 undef = .pointer (some ⟨gc, 0, none⟩) := (hp.on_ 1 rfl rfl rfl).2
        have f1 : (Instr.fieldAt 89 (.pointer (some ⟨gc, 0, none⟩)) 1).run Try.prog W = .ok (.pointer (some ⟨gc, 1, none⟩)) W := by kernel_rfl
        exact ⟨wanted_none rfl, _, _, run_fa4 rfl f0 f1, rfl, Below.refl _ _⟩
      refine Steps.cons (step_value rfl fun xa W hp => ?_) ?_
      · have f0 : xa.tmps.getD 13 undef = .pointer (some ⟨gc, 1, none⟩) := (hp.on_ 2 rfl rfl rfl).2
        exact ⟨wanted_none rfl, _, _, run_ldv rfl f0 (cell_of_row W (gc) 1 _ _ _ ((hp.below.block (gc) (Array.getElem?_eq_some_iff.1 HC1.out).1).trans HC1.out)) Try.underlying87 rfl (by kernel_rfl), rfl, Below.refl _ _⟩
      refine Steps.cons (step_value rfl fun xa W hp => ?_) ?_
      · have f0 : xa.tmps.getD 4 undef = .pointer (some ⟨w.heap.size, 0, none⟩) := hp.old 4 rfl
        have f1 : (Instr.fieldAt 70 (.pointer (some ⟨w.heap.size, 0, none⟩)) 0).run Try.prog W = .ok (.pointer (some ⟨w.heap.size, 0, none⟩)) W := by kernel_rfl
        exact ⟨wanted_none rfl, _, _, run_fa4 rfl f0 f1, rfl, Below.refl _ _⟩
      refine Steps.cons (step_value rfl fun xa W hp => ?_) ?_
      · have f0 : xa.tmps.getD 15 undef = .pointer (some ⟨w.heap.size, 0, none⟩) := (hp.on_ 4 rfl rfl rfl).2
        exact ⟨wanted_none rfl, _, _, run_ldv rfl f0 (cell_of_row W (w.heap.size) 0 _ _ _ ((hp.below.block (w.heap.size) (Array.getElem?_eq_some_iff.1 HV1.out).1).trans HV1.out)) Try.underlying9 rfl (by kernel_rfl), rfl, Below.refl _ _⟩
      refine Steps.cons (step_value rfl fun xa W hp => ⟨wanted_none rfl, _, _, run_move (.inl rfl), hp.old 2 rfl, Below.refl _ _⟩) ?_
      exact Steps.nil
    case last =>
      intro act W hI
      have fm : act.tmps.getD 14 undef = .map (some ms) := hI.new 3 _ 14 rfl rfl rfl
      have fs : act.tmps.getD 16 undef = .string v.name := hI.new 5 _ 16 rfl rfl rfl
      have fv : act.tmps.getD 17 undef = .int .i64 st := hI.new 6 _ 17 rfl rfl rfl
      refine wpOp_of rfl (wanted_none rfl) ?_
      refine wp_mapset (t := 87) (.tmp 14) (.tmp 16) (.tmp 17) rfl fm v.name fs (.int .i64 st) fv (MapO.below HS1.out hI.below) Try.underlying9 Try.underlying87 HM.out HSV.out ?_
      intro w6 hK6 hg6
      rw [gset_map] at hK6
      have HK6 := Lib.hid hK6
      have HG6 := Lib.hid (grown_trans (gb_below (r := some ms) (HB1.out.trans (hI.below.mono HB1.out.size))) hg6)
      have hsz_ : act.tmps.size = 18 := hI.tmps
      have hdf_ : act.defers = [] := hI.defers
      obtain ⟨fo, hf, hx⟩ := act_eta hsz_ hdf_
      clear hI hsz_ hdf_ hf fm fs fv hK6 hg6
      subst hx
      have hl : ((List.range 18).map fo).toArray = #[fo 0, fo 1, fo 2, fo 3, fo 4, fo 5, fo 6, fo 7, fo 8, fo 9, fo 10, fo 11, fo 12, fo 13, fo 14, fo 15, fo 16, fo 17] := rfl
      simp only [Exit.inBlock, Exit.then, Act.put]
      rw [hl]
      clear hl
      go_wp2_with fail
      go_ret
      exact ⟨rfl, HK6.out, HG6.out⟩
end Go.Proofs.Ytbgngmnpepnflaa

namespace Go.Proofs.Ytbgngmnpepnflaa
open Go Go.RowKit
/-- The nodes ahead, as a map of the call's own holds them. -/
def NodesM (F : List UInt8 → Option Value) (D : List UInt8 → Option Nd) : Prop := ∀ s, match D s with
  | none => F s = none
  | some n => ∃ xi ci xo co xl cl xe ce, F s = some (.agg #[.string n.name, .slice xi n.ins.length ci, .slice xo n.outs.length co, .slice xl n.locs.length cl, .slice xe n.eqs.length ce, .int .i64 (n.at_ : Int)])
/-- Is a part's own name, if it has one, somebody's? -/
def fitsF (D : List UInt8 → Option Nd) (G : List UInt8 → Option Int) (e : Ex) : Bool :=
  if e.op.data.toList = [118, 97, 114] ∨ e.op.data.toList = [119, 104, 101, 110] ∨ e.op.data.toList = [109, 101, 114, 103, 101] then knowsF G e.name else
  if e.op.data.toList = [99, 97, 108, 108] then (match D e.name.data.toList with
    | none => false
    | some n => n.outs.length == 1 && n.ins.length == e.kids.length) else true
theorem zero_nd (w : World) : (zeroValue 59).run Try.prog w = .ok (.agg #[.string ⟨#[]⟩, .slice none 0 0, .slice none 0 0, .slice none 0 0, .slice none 0 0, .int .i64 0]) w := by kernel_rfl
theorem nd_one (nm : ByteArray) (x1 x2 x3 x4 : Option Addr) (l1 c1 l2 c2 l3 c3 l4 c4 : Nat) (a : Int) : (#[.string nm, .slice x1 l1 c1, .slice x2 l2 c2, .slice x3 l3 c3, .slice x4 l4 c4, .int .i64 a] : Array Value).all (·.oneCell') = true := by simp [Value.oneCell']
/-- What a look at the nodes ahead tells. -/
theorem NodesM.look {W : World} {mn k : Nat} {F : List UInt8 → Option Value} {D : List UInt8 → Option Nd} (hN : MapO Try.prog 9 W mn k F) (hD : NodesM F D) (s : ByteArray) (hs : s.size ≤ maxLen) : ∃ (nm : ByteArray) (x1 x2 x3 x4 : Option Addr) (l1 c1 l2 c2 l3 c3 l4 c4 : Nat) (a5 : Int) (b : Bool), b = (D s.data.toList).isSome ∧ (match D s.data.toList with | none => True | some n => l1 = n.ins.length ∧ l2 = n.outs.length) ∧
    ∀ W', Below W.heap.size W W' → (Instr.lookup 86 (.map (some mn)) (.string s) true).run Try.prog W' = .ok (.tuple #[.agg #[.string nm, .slice x1 l1 c1, .slice x2 l2 c2, .slice x3 l3 c3, .slice x4 l4 c4, .int .i64 a5], .bool b]) W' := by
  have h := hD s.data.toList
  cases hd : D s.data.toList with
  | none =>
    rw [hd] at h
    refine ⟨⟨#[]⟩, none, none, none, none, 0, 0, 0, 0, 0, 0, 0, 0, 0, false, rfl, trivial, fun W' hb => ?_⟩
    rw [MapO.look_ok (MapO.below hN hb) Try.underlying9 Try.underlying86 (zero_nd W') s hs, h]
    rfl
  | some n =>
    rw [hd] at h
    obtain ⟨xi, ci, xo, co, xl, cl, xe, ce, h⟩ := h
    refine ⟨n.name, xi, xo, xl, xe, n.ins.length, ci, n.outs.length, co, n.locs.length, cl, n.eqs.length, ce, n.at_, true, rfl, ⟨rfl, rfl⟩, fun W' hb => ?_⟩
    rw [MapO.look_ok (MapO.below hN hb) Try.underlying9 Try.underlying86 (zero_nd W') s hs, h]
    rfl
set_option maxHeartbeats 4000000 in
set_option maxRecDepth 100000 in
theorem fits_var (w : World) (gc mn ms m : Nat) (G : List UInt8 → Option Int) (hc : w.heap[gc]? = some (.cells #[.map (some mn), .map (some ms)] 89 (0, 0))) (hS : Kinds w ms m G) (e : Ex) (x : Option Addr) (c : Nat) (hnm : e.name.size ≤ maxLen) : Calls Try.prog 94 #[.pointer (some ⟨gc, 0, none⟩), .agg #[.string (⟨#[118, 97, 114]⟩ : ByteArray), .string e.name, .int .i64 e.n, .int .i64 (e.at_ : Int), .slice x e.kids.length c]] w (fun en w' => en = .returned (.bool (knowsF G e.name)) ∧ Below w.heap.size w w') := by
  have hb : Below w.heap.size w (w.alloc (.cells #[.string (⟨#[118, 97, 114]⟩ : ByteArray), .string e.name, .int .i64 e.n, .int .i64 (e.at_ : Int), .slice x e.kids.length c] 41)) := (Below.refl _ _).alloc (Nat.le_refl _) _
  have hn := heap_alloc_new w (.cells #[.string (⟨#[118, 97, 114]⟩ : ByteArray), .string e.name, .int .i64 e.n, .int .i64 (e.at_ : Int), .slice x e.kids.length c] 41)
  have hgc := (Array.getElem?_eq_some_iff.1 hc).1
  have hc1 := (hb.block gc hgc).trans hc
  have c0 := cell_of_row _ w.heap.size 0 _ _ _ hn
  have c1 := cell_of_row _ w.heap.size 1 _ _ _ hn
  have kk := knows_any _ gc mn ms m G hc1 (MapO.below hS hb) e.name hnm
  have HB := Lib.hid hb
  obtain ⟨b, hb_⟩ : ∃ b, b = knowsF G e.name := ⟨_, rfl⟩
  rw [← hb_] at kk ⊢
  clear hb hn hgc hc1 hc hS hnm hb_
  go_enter Try.func94, Try.ntmps94
  go_wp2_with fail
  (with_reducible refine kk.mono ?_)
  rintro e9 w2 ⟨rfl, rfl⟩
  clear c0 c1 kk
  go_wp2_with fail
  go_ret
  exact ⟨rfl, HB.out⟩
set_option maxHeartbeats 4000000 in
set_option maxRecDepth 100000 in
theorem fits_when (w : World) (gc mn ms m : Nat) (G : List UInt8 → Option Int) (hc : w.heap[gc]? = some (.cells #[.map (some mn), .map (some ms)] 89 (0, 0))) (hS : Kinds w ms m G) (e : Ex) (x : Option Addr) (c : Nat) (hnm : e.name.size ≤ maxLen) : Calls Try.prog 94 #[.pointer (some ⟨gc, 0, none⟩), .agg #[.string (⟨#[119, 104, 101, 110]⟩ : ByteArray), .string e.name, .int .i64 e.n, .int .i64 (e.at_ : Int), .slice x e.kids.length c]] w (fun en w' => en = .returned (.bool (knowsF G e.name)) ∧ Below w.heap.size w w') := by
  have hb : Below w.heap.size w (w.alloc (.cells #[.string (⟨#[119, 104, 101, 110]⟩ : ByteArray), .string e.name, .int .i64 e.n, .int .i64 (e.at_ : Int), .slice x e.kids.length c] 41)) := (Below.refl _ _).alloc (Nat.le_refl _) _
  have hn := heap_alloc_new w (.cells #[.string (⟨#[119, 104, 101, 110]⟩ : ByteArray), .string e.name, .int .i64 e.n, .int .i64 (e.at_ : Int), .slice x e.kids.length c] 41)
  have hgc := (Array.getElem?_eq_some_iff.1 hc).1
  have hc1 := (hb.block gc hgc).trans hc
  have c0 := cell_of_row _ w.heap.size 0 _ _ _ hn
  have c1 := cell_of_row _ w.heap.size 1 _ _ _ hn
  have kk := knows_any _ gc mn ms m G hc1 (MapO.below hS hb) e.name hnm
  have HB := Lib.hid hb
  obtain ⟨b, hb_⟩ : ∃ b, b = knowsF G e.name := ⟨_, rfl⟩
  rw [← hb_] at kk ⊢
  clear hb hn hgc hc1 hc hS hnm hb_
  go_enter Try.func94, Try.ntmps94
  go_wp2_with fail
  (with_reducible refine kk.mono ?_)
  rintro e9 w2 ⟨rfl, rfl⟩
  clear c0 c1 kk
  go_wp2_with fail
  go_ret
  exact ⟨rfl, HB.out⟩
set_option maxHeartbeats 4000000 in
set_option maxRecDepth 100000 in
theorem fits_merge (w : World) (gc mn ms m : Nat) (G : List UInt8 → Option Int) (hc : w.heap[gc]? = some (.cells #[.map (some mn), .map (some ms)] 89 (0, 0))) (hS : Kinds w ms m G) (e : Ex) (x : Option Addr) (c : Nat) (hnm : e.name.size ≤ maxLen) : Calls Try.prog 94 #[.pointer (some ⟨gc, 0, none⟩), .agg #[.string (⟨#[109, 101, 114, 103, 101]⟩ : ByteArray), .string e.name, .int .i64 e.n, .int .i64 (e.at_ : Int), .slice x e.kids.length c]] w (fun en w' => en = .returned (.bool (knowsF G e.name)) ∧ Below w.heap.size w w') := by
  have hb : Below w.heap.size w (w.alloc (.cells #[.string (⟨#[109, 101, 114, 103, 101]⟩ : ByteArray), .string e.name, .int .i64 e.n, .int .i64 (e.at_ : Int), .slice x e.kids.length c] 41)) := (Below.refl _ _).alloc (Nat.le_refl _) _
  have hn := heap_alloc_new w (.cells #[.string (⟨#[109, 101, 114, 103, 101]⟩ : ByteArray), .string e.name, .int .i64 e.n, .int .i64 (e.at_ : Int), .slice x e.kids.length c] 41)
  have hgc := (Array.getElem?_eq_some_iff.1 hc).1
  have hc1 := (hb.block gc hgc).trans hc
  have c0 := cell_of_row _ w.heap.size 0 _ _ _ hn
  have c1 := cell_of_row _ w.heap.size 1 _ _ _ hn
  have kk := knows_any _ gc mn ms m G hc1 (MapO.below hS hb) e.name hnm
  have HB := Lib.hid hb
  obtain ⟨b, hb_⟩ : ∃ b, b = knowsF G e.name := ⟨_, rfl⟩
  rw [← hb_] at kk ⊢
  clear hb hn hgc hc1 hc hS hnm hb_
  go_enter Try.func94, Try.ntmps94
  go_wp2_with fail
  (with_reducible refine kk.mono ?_)
  rintro e9 w2 ⟨rfl, rfl⟩
  clear c0 c1 kk
  go_wp2_with fail
  go_ret
  exact ⟨rfl, HB.out⟩
set_option maxHeartbeats 4000000 in
set_option maxRecDepth 100000 in
theorem fits_other (w : World) (gc mn ms m : Nat) (G : List UInt8 → Option Int) (hc : w.heap[gc]? = some (.cells #[.map (some mn), .map (some ms)] 89 (0, 0))) (hS : Kinds w ms m G) (e : Ex) (x : Option Addr) (c : Nat) (h1 : e.op.data.toList ≠ [118, 97, 114]) (h2 : e.op.data.toList ≠ [119, 104, 101, 110]) (h3 : e.op.data.toList ≠ [109, 101, 114, 103, 101]) (h4 : e.op.data.toList ≠ [99, 97, 108, 108]) : Calls Try.prog 94 #[.pointer (some ⟨gc, 0, none⟩), .agg #[.string e.op, .string e.name, .int .i64 e.n, .int .i64 (e.at_ : Int), .slice x e.kids.length c]] w (fun en w' => en = .returned (.bool true) ∧ Below w.heap.size w w') := by
  have hb : Below w.heap.size w (w.alloc (.cells #[.string e.op, .string e.name, .int .i64 e.n, .int .i64 (e.at_ : Int), .slice x e.kids.length c] 41)) := (Below.refl _ _).alloc (Nat.le_refl _) _
  have hn := heap_alloc_new w (.cells #[.string e.op, .string e.name, .int .i64 e.n, .int .i64 (e.at_ : Int), .slice x e.kids.length c] 41)
  have hgc := (Array.getElem?_eq_some_iff.1 hc).1
  have hc1 := (hb.block gc hgc).trans hc
  have c0 := cell_of_row _ w.heap.size 0 _ _ _ hn
  have c1 := cell_of_row _ w.heap.size 1 _ _ _ hn
  have q1 : (e.op.toList == [118, 97, 114]) = false := by rw [Lib.toList_data]; exact beq_eq_false_iff_ne.2 h1
  have q2 : (e.op.toList == [119, 104, 101, 110]) = false := by rw [Lib.toList_data]; exact beq_eq_false_iff_ne.2 h2
  have q3 : (e.op.toList == [109, 101, 114, 103, 101]) = false := by rw [Lib.toList_data]; exact beq_eq_false_iff_ne.2 h3
  have q4 : (e.op.toList == [99, 97, 108, 108]) = false := by rw [Lib.toList_data]; exact beq_eq_false_iff_ne.2 h4
  have HB := Lib.hid hb
  clear hb hn hgc hc1 hc hS h1 h2 h3 h4 c1
  go_enter Try.func94, Try.ntmps94
  go_wp2_with fail
  go_ret
  exact ⟨rfl, HB.out⟩
set_option maxHeartbeats 4000000 in
set_option maxRecDepth 100000 in
theorem fits_call (w : World) (gc mn ms m : Nat) (G : List UInt8 → Option Int) (hc : w.heap[gc]? = some (.cells #[.map (some mn), .map (some ms)] 89 (0, 0))) (hS : Kinds w ms m G) (F : List UInt8 → Option Value) (D : List UInt8 → Option Nd) (k : Nat) (hN : MapO Try.prog 9 w mn k F) (hD : NodesM F D) (e : Ex) (x : Option Addr) (c : Nat) (hnm : e.name.size ≤ maxLen) : Calls Try.prog 94 #[.pointer (some ⟨gc, 0, none⟩), .agg #[.string (⟨#[99, 97, 108, 108]⟩ : ByteArray), .string e.name, .int .i64 e.n, .int .i64 (e.at_ : Int), .slice x e.kids.length c]] w (fun en w' => en = .returned (.bool (match D e.name.data.toList with | none => false | some n => n.outs.length == 1 && n.ins.length == e.kids.length)) ∧ Below w.heap.size w w') := by
  have hb : Below w.heap.size w (w.alloc (.cells #[.string (⟨#[99, 97, 108, 108]⟩ : ByteArray), .string e.name, .int .i64 e.n, .int .i64 (e.at_ : Int), .slice x e.kids.length c] 41)) := (Below.refl _ _).alloc (Nat.le_refl _) _
  have hn := heap_alloc_new w (.cells #[.string (⟨#[99, 97, 108, 108]⟩ : ByteArray), .string e.name, .int .i64 e.n, .int .i64 (e.at_ : Int), .slice x e.kids.length c] 41)
  have hgc := (Array.getElem?_eq_some_iff.1 hc).1
  have hc1 := (hb.block gc hgc).trans hc
  have c0 := cell_of_row _ w.heap.size 0 _ _ _ hn
  have c1 := cell_of_row _ w.heap.size 1 _ _ _ hn
  have HSN := Lib.hid size_nS
  have HB1 := Lib.hid hb
  have HE1 := Lib.hid hn
  have HC1 := Lib.hid hc1
  obtain ⟨w1, hw1⟩ : ∃ w1, w1 = (w.alloc (.cells #[.string (⟨#[99, 97, 108, 108]⟩ : ByteArray), .string e.name, .int .i64 e.n, .int .i64 (e.at_ : Int), .slice x e.kids.length c] 41)) := ⟨_, rfl⟩
  rw [← hw1] at HB1 HE1 HC1
  have HW1 := Lib.hid hw1
  obtain ⟨nm, x1, x2, x3, x4, l1, c1_, l2, c2, l3, c3, l4, c4, a5, b, hbD, hlD, hlk⟩ := NodesM.look (W := w1) (MapO.below hN HB1.out) hD e.name hnm
  have HLK := Lib.hid hlk
  obtain ⟨v, hv⟩ : ∃ v : Bool, v = (match D e.name.data.toList with | none => false | some n => n.outs.length == 1 && n.ins.length == e.kids.length) := ⟨_, rfl⟩
  have hvb : v = (b && (l2 == 1 && l1 == e.kids.length)) := by
    rw [hv, hbD]
    cases hd : D e.name.data.toList with
    | none => rfl
    | some n => rw [hd] at hlD; rw [hlD.1, hlD.2]; rfl
  rw [← hv]
  have HV := Lib.hid hvb
  clear hb hn hgc hc1 hc hS hnm hw1 hN hD hbD hlD hlk hv hvb c1
  go_enter Try.func94, Try.ntmps94
  go_wp2_with fail
  rw [← HW1.out]
  refine wp_region_stepsS (words [wIs (.pointer (some ⟨gc, 0, none⟩)), wIs (.pointer (some ⟨gc, 0, none⟩)), wIs (.pointer (some ⟨gc, 0, none⟩)), wIs (.map (some mn)), wIs (.pointer (some ⟨w.heap.size, 1, none⟩)), wIs (.string e.name), wIs (.tuple #[.agg #[.string nm, .slice x1 l1 c1_, .slice x2 l2 c2, .slice x3 l3 c3, .slice x4 l4 c4, .int .i64 a5], .bool b]), wIs (.tuple #[.agg #[.string nm, .slice x1 l1 c1_, .slice x2 l2 c2, .slice x3 l3 c3, .slice x4 l4 c4, .int .i64 a5], .bool b]), wIs (.agg #[.string nm, .slice x1 l1 c1_, .slice x2 l2 c2, .slice x3 l3 c3, .slice x4 l4 c4, .int .i64 a5]), wIs (.bool b), wAl w1.heap.size 59 #[.string ⟨#[]⟩, .slice none 0 0, .slice none 0 0, .slice none 0 0, .slice none 0 0, .int .i64 0], wAny, wIs (.bool b)]) (wAl w1.heap.size 59 #[.string nm, .slice x1 l1 c1_, .slice x2 l2 c2, .slice x3 l3 c3, .slice x4 l4 c4, .int .i64 a5]) 5 w1.heap.size w1 [10] 11 (by kernel_rfl) (Below.refl _ _) (Nat.le_refl _) (words_stable ?stab) ?hsw (by decide) rfl rfl rfl 10 rfl (stable_al _ _ _) ?steps ?rest
  case stab =>
    intro f hf
    simp only [List.mem_cons, List.not_mem_nil, or_false] at hf
    rcases hf with rfl | rfl | rfl | rfl | rfl | rfl | rfl | rfl | rfl | rfl | rfl | rfl | rfl <;> first | exact stable_al _ _ _ | exact stable_any | exact stable_is _
  case steps =>
    refine StepsS.cons (stepD_value rfl fun xa W hp => ⟨wanted_none rfl, _, _, run_move (.inl rfl), hp.old 0 rfl, Below.refl _ _⟩) ?_
    refine StepsS.cons (stepD_value rfl fun xa W hp => ?_) ?_
    · have f0 : xa.tmps.getD 20 undef = .pointer (some ⟨gc, 0, none⟩) := (hp.on_ 0 rfl rfl rfl rfl).2
      exact ⟨wanted_none rfl, _, _, run_nil rfl f0, rfl, Below.refl _ _⟩
    refine StepsS.cons (stepD_value rfl fun xa W hp => ?_) ?_
    · have f0 : xa.tmps.getD 21 undef = .pointer (some ⟨gc, 0, none⟩) := (hp.on_ 1 rfl rfl rfl rfl).2
      have f1 : (Instr.fieldAt 89 (.pointer (some ⟨gc, 0, none⟩)) 0).run Try.prog W = .ok (.pointer (some ⟨gc, 0, none⟩)) W := by kernel_rfl
      exact ⟨wanted_none rfl, _, _, run_fa4 rfl f0 f1, rfl, Below.refl _ _⟩
    refine StepsS.cons (stepD_value rfl fun xa W hp => ?_) ?_
    · have f0 : xa.tmps.getD 22 undef = .pointer (some ⟨gc, 0, none⟩) := (hp.on_ 2 rfl rfl rfl rfl).2
      exact ⟨wanted_none rfl, _, _, run_ldv rfl f0 (cell_of_row W (gc) 0 _ _ _ ((hp.below.block (gc) (Array.getElem?_eq_some_iff.1 HC1.out).1).trans HC1.out)) Try.underlying86 rfl (by kernel_rfl), rfl, Below.refl _ _⟩
    refine StepsS.cons (stepD_value rfl fun xa W hp => ?_) ?_
    · have f0 : xa.tmps.getD 3 undef = .pointer (some ⟨w.heap.size, 0, none⟩) := hp.old 3 rfl
      have f1 : (Instr.fieldAt 41 (.pointer (some ⟨w.heap.size, 0, none⟩)) 1).run Try.prog W = .ok (.pointer (some ⟨w.heap.size, 1, none⟩)) W := by kernel_rfl
      exact ⟨wanted_none rfl, _, _, run_fa4 rfl f0 f1, rfl, Below.refl _ _⟩
    refine StepsS.cons (stepD_value rfl fun xa W hp => ?_) ?_
    · have f0 : xa.tmps.getD 24 undef = .pointer (some ⟨w.heap.size, 1, none⟩) := (hp.on_ 4 rfl rfl rfl rfl).2
      exact ⟨wanted_none rfl, _, _, run_ldv rfl f0 (cell_of_row W (w.heap.size) 1 _ _ _ ((hp.below.block (w.heap.size) (Array.getElem?_eq_some_iff.1 HE1.out).1).trans HE1.out)) Try.underlying9 rfl (by kernel_rfl), rfl, Below.refl _ _⟩
    refine StepsS.cons (stepD_value rfl fun xa W hp => ?_) ?_
    · have f0 : xa.tmps.getD 23 undef = .map (some mn) := (hp.on_ 3 rfl rfl rfl rfl).2
      have f1 : xa.tmps.getD 25 undef = .string e.name := (hp.on_ 5 rfl rfl rfl rfl).2
      exact ⟨wanted_none rfl, _, _, run_lkp rfl f0 f1 (HLK.out W hp.below), rfl, Below.refl _ _⟩
    refine StepsS.cons (stepD_value rfl fun xa W hp => ⟨wanted_none rfl, _, _, run_move (.inl rfl), (hp.on_ 6 rfl rfl rfl rfl).2, Below.refl _ _⟩) ?_
    refine StepsS.cons (stepD_value rfl fun xa W hp => ?_) ?_
    · have f0 : xa.tmps.getD 19 undef = .tuple #[.agg #[.string nm, .slice x1 l1 c1_, .slice x2 l2 c2, .slice x3 l3 c3, .slice x4 l4 c4, .int .i64 a5], .bool b] := (hp.on_ 7 rfl rfl rfl rfl).2
      exact ⟨wanted_none rfl, _, _, run_ext rfl f0 rfl, rfl, Below.refl _ _⟩
    refine StepsS.cons (stepD_value rfl fun xa W hp => ?_) ?_
    · have f0 : xa.tmps.getD 19 undef = .tuple #[.agg #[.string nm, .slice x1 l1 c1_, .slice x2 l2 c2, .slice x3 l3 c3, .slice x4 l4 c4, .int .i64 a5], .bool b] := (hp.on_ 7 rfl rfl rfl rfl).2
      exact ⟨wanted_none rfl, _, _, run_ext rfl f0 rfl, rfl, Below.refl _ _⟩
    refine StepsS.cons (stepD_value rfl fun xa W hp => ⟨wanted_none rfl, _, _, alloc_nd rfl, ⟨W.heap.size, rfl, hp.below.size, heap_alloc_new W _⟩, (Below.refl _ _).alloc (Nat.le_refl _) _⟩) ?_
    refine StepsS.weak (stepS_of fun xa W hp => ?_) ?_
    · obtain ⟨b, f0, hbB, hbr⟩ : wAl w1.heap.size 59 #[.string ⟨#[]⟩, .slice none 0 0, .slice none 0 0, .slice none 0 0, .slice none 0 0, .int .i64 0] (xa.tmps.getD 5 undef) W := (hp.on_ 10 rfl rfl rfl).2
      have f1 : xa.tmps.getD 27 undef = .agg #[.string nm, .slice x1 l1 c1_, .slice x2 l2 c2, .slice x3 l3 c3, .slice x4 l4 c4, .int .i64 a5] := (hp.on_ 8 rfl rfl rfl).2
      refine wpOp_of rfl (wanted_none rfl) ?_
      refine wp_store_row 59 (.tmp 5) (.tmp 27) rfl b #[.string nm, .slice x1 l1 c1_, .slice x2 l2 c2, .slice x3 l3 c3, .slice x4 l4 c4, .int .i64 a5] f0 f1 59 _ hbr HSN.out rfl (nd_one _ _ _ _ _ _ _ _ _ _ _ _ _ _) ?_
      exact ⟨undef, rfl, ⟨b, f0, hbB, setRow_heap W b _ _ _ _ hbr⟩, below_setRow (Below.refl _ _) hbB _, by rw [setRow_size]; exact Nat.le_refl _⟩
    refine StepsS.cons (stepD_value rfl fun xa W hp => ⟨wanted_none rfl, _, _, run_move (.inr rfl), (hp.on_ 9 rfl rfl rfl rfl).2, Below.refl _ _⟩) ?_
    exact StepsS.nil
  case hsw =>
    intro i v W W' h1 h2 h3 h4
    match i, h1, h2, h3 with
    | 0, _, _, h3 => exact h3
    | 1, _, _, h3 => exact h3
    | 2, _, _, h3 => exact h3
    | 3, _, _, h3 => exact h3
    | 4, _, _, h3 => exact h3
    | 5, _, _, h3 => exact h3
    | 6, _, _, h3 => exact h3
    | 7, _, _, h3 => exact h3
    | 8, _, _, h3 => exact h3
    | 9, _, _, h3 => exact h3
    | 10, _, h2, _ => exact absurd (List.mem_singleton.2 rfl) h2
    | 11, h1, _, _ => exact absurd rfl h1
    | 12, _, _, h3 => exact h3
    | _ + 13, _, _, h3 => exact h3
  case rest =>
    intro act W hI
    obtain ⟨b5, f5, hb5, hr5⟩ := hI.done (by decide)
    have HBW := Lib.hid (HB1.out.trans (hI.below.mono HB1.out.size))
    have p1 := cell_of_row W b5 1 _ _ _ hr5
    have p2 := cell_of_row W b5 2 _ _ _ hr5
    have p4 := cell_of_row W w.heap.size 4 _ _ _ ((hI.below.block (w.heap.size) (Array.getElem?_eq_some_iff.1 HE1.out).1).trans HE1.out)
    have h3 : act.tmps.getD 3 undef = .pointer (some ⟨w.heap.size, 0, none⟩) := hI.old 3 (by simp)
    have h6 : act.tmps.getD 6 undef = .bool b := hI.new 12 _ 6 rfl rfl rfl (fun h => absurd h (by decide))
    have h5 : act.tmps.getD 5 undef = .pointer (some ⟨b5, 0, none⟩) := f5
    have hsz_ : act.tmps.size = 45 := hI.tmps
    have hdf_ : act.defers = [] := hI.defers
    obtain ⟨fo, hf, hx⟩ := act_eta hsz_ hdf_
    rw [hf] at h3 h6 h5
    clear hI hsz_ hdf_ hf f5 hb5 hr5
    subst hx
    have hl : ((List.range 45).map fo).toArray = #[fo 0, fo 1, fo 2, fo 3, fo 4, fo 5, fo 6, fo 7, fo 8, fo 9, fo 10, fo 11, fo 12, fo 13, fo 14, fo 15, fo 16, fo 17, fo 18, fo 19, fo 20, fo 21, fo 22, fo 23, fo 24, fo 25, fo 26, fo 27, fo 28, fo 29, fo 30, fo 31, fo 32, fo 33, fo 34, fo 35, fo 36, fo 37, fo 38, fo 39, fo 40, fo 41, fo 42, fo 43, fo 44] := rfl
    simp only [Exit.inBlock, Exit.then, Act.put]
    rw [hl, h3, h6, h5]
    clear hl h3 h6 h5
    cases b with
    | false =>
      go_wp2_with fail
      go_ret
      exact ⟨by rw [HV.out]; rfl, HBW.out⟩
    | true =>
      cases h2 : (l2 == 1) with
      | false =>
        have d2 : ((l2 : Int) == 1) = false := by simp at h2 ⊢; omega
        rw [h2] at HV
        clear h2
        go_wp2_with fail
        go_ret
        exact ⟨by rw [HV.out]; rfl, HBW.out⟩
      | true =>
        have d2 : ((l2 : Int) == 1) = true := by simp at h2 ⊢; omega
        rw [h2] at HV
        clear h2
        cases h3 : (l1 == e.kids.length) with
        | false =>
          have d3 : ((l1 : Int) == (e.kids.length : Int)) = false := by simp at h3 ⊢; omega
          rw [h3] at HV
          clear h3
          go_wp2_with fail
          go_ret
          exact ⟨by rw [HV.out]; rfl, HBW.out⟩
        | true =>
          have d3 : ((l1 : Int) == (e.kids.length : Int)) = true := by simp at h3 ⊢; omega
          rw [h3] at HV
          clear h3
          go_wp2_with fail
          go_ret
          exact ⟨by rw [HV.out]; rfl, HBW.out⟩
end Go.Proofs.Ytbgngmnpepnflaa

namespace Go.Proofs.Ytbgngmnpepnflaa
open Go Go.RowKit
theorem fits_any (w : World) (gc mn ms m : Nat) (G : List UInt8 → Option Int) (hc : w.heap[gc]? = some (.cells #[.map (some mn), .map (some ms)] 89 (0, 0))) (hS : Kinds w ms m G) (F : List UInt8 → Option Value) (D : List UInt8 → Option Nd) (k : Nat) (hN : MapO Try.prog 9 w mn k F) (hD : NodesM F D) (e : Ex) (x : Option Addr) (c : Nat) (hnm : e.name.size ≤ maxLen) : Calls Try.prog 94 #[.pointer (some ⟨gc, 0, none⟩), .agg #[.string e.op, .string e.name, .int .i64 e.n, .int .i64 (e.at_ : Int), .slice x e.kids.length c]] w (fun en w' => en = .returned (.bool (fitsF D G e)) ∧ Below w.heap.size w w') := by
  unfold fitsF
  by_cases h : e.op.data.toList = [118, 97, 114]
  · rw [if_pos (.inl h)]
    rw [show e.op = (⟨#[118, 97, 114]⟩ : ByteArray) from bytes_inj h]
    exact fits_var w gc mn ms m G hc hS e x c hnm
  have h0 := h
  clear h
  by_cases h : e.op.data.toList = [119, 104, 101, 110]
  · rw [if_pos (.inr (.inl h))]
    rw [show e.op = (⟨#[119, 104, 101, 110]⟩ : ByteArray) from bytes_inj h]
    exact fits_when w gc mn ms m G hc hS e x c hnm
  have h1 := h
  clear h
  by_cases h : e.op.data.toList = [109, 101, 114, 103, 101]
  · rw [if_pos (.inr (.inr h))]
    rw [show e.op = (⟨#[109, 101, 114, 103, 101]⟩ : ByteArray) from bytes_inj h]
    exact fits_merge w gc mn ms m G hc hS e x c hnm
  have h2 := h
  clear h
  rw [if_neg (by rintro (h | h | h); exact h0 h; exact h1 h; exact h2 h)]
  by_cases h : e.op.data.toList = [99, 97, 108, 108]
  · rw [if_pos h]
    rw [show e.op = (⟨#[99, 97, 108, 108]⟩ : ByteArray) from bytes_inj h]
    exact fits_call w gc mn ms m G hc hS F D k hN hD e x c hnm
  · rw [if_neg h]
    exact fits_other w gc mn ms m G hc hS e x c h0 h1 h2 h
end Go.Proofs.Ytbgngmnpepnflaa

namespace Go.Proofs.Ytbgngmnpepnflaa
open Go Go.RowKit
/-- The checker in memory. -/
def Chk (w : World) (gc mn ms m : Nat) (G : List UInt8 → Option Int) (F : List UInt8 → Option Value) (k : Nat) : Prop := w.heap[gc]? = some (.cells #[.map (some mn), .map (some ms)] 89 (0, 0)) ∧ Kinds w ms m G ∧ MapO Try.prog 9 w mn k F
theorem Chk.below {w w' : World} {gc mn ms m : Nat} {G : List UInt8 → Option Int} {F : List UInt8 → Option Value} {k : Nat} (h : Chk w gc mn ms m G F k) (hb : Below w.heap.size w w') : Chk w' gc mn ms m G F k :=
  ⟨(hb.block gc (Array.getElem?_eq_some_iff.1 h.1).1).trans h.1, MapO.below h.2.1 hb, MapO.below h.2.2 hb⟩
mutual
/-- The place of an expression's first fault of names. -/
def partF (D : List UInt8 → Option Nd) (G : List UInt8 → Option Int) : Ex → Option Nat
  | .mk op nm n at_ kids => if fitsF D G (.mk op nm n at_ kids) = false then some at_ else partsF D G kids
def partsF (D : List UInt8 → Option Nd) (G : List UInt8 → Option Int) : List Ex → Option Nat
  | [] => none
  | e :: r => match partF D G e with
    | some a => some a
    | none => partsF D G r
end
theorem partF_eq (D : List UInt8 → Option Nd) (G : List UInt8 → Option Int) (e : Ex) : partF D G e = if fitsF D G e = false then some e.at_ else partsF D G e.kids := by
  cases e; conv => lhs; unfold partF
  rfl
theorem partsF_hit {D : List UInt8 → Option Nd} {G : List UInt8 → Option Int} {e : Ex} {r : List Ex} {a : Nat} (h : partF D G e = some a) : partsF D G (e :: r) = some a := by
  conv => lhs; unfold partsF
  rw [h]
theorem partsF_skip {D : List UInt8 → Option Nd} {G : List UInt8 → Option Int} {e : Ex} {r : List Ex} (h : partF D G e = none) : partsF D G (e :: r) = partsF D G r := by
  conv => lhs; unfold partsF
  rw [h]
set_option maxHeartbeats 4000000 in
set_option maxRecDepth 100000 in
theorem part_lt (D : List UInt8 → Option Nd) (G : List UInt8 → Option Int) : ∀ (d : Nat) (e : Ex), SizeOf.sizeOf e < d → okE e = true → ∀ (w : World) (gc mn ms m : Nat) (F : List UInt8 → Option Value) (k : Nat), Chk w gc mn ms m G F k → NodesM F D → ∀ (okk : Nat → Prop) (x : Option Addr) (c : Nat), KidsD okk w e x c →
    Calls Try.prog 85 #[.pointer (some ⟨gc, 0, none⟩), exV e x c] w (GivesO 8 (partF D G e) w) := by
  intro d
  induction d with
  | zero => intro e h; omega
  | succ d ih =>
    intro e hd hoe w gc mn ms m F k hch hD okk x c hkk
    rw [okE_eq] at hoe
    simp only [Bool.and_eq_true] at hoe
    obtain ⟨ho1, ho2, ho3⟩ := hoe
    have IH := Lib.hid (fun (i : Nat) (hi : i < e.kids.length) => ih e.kids[i] (by have := kid_less hi; omega) (okEs_at e.kids i hi ho3))
    have HCH := Lib.hid hch
    have HD := Lib.hid hD
    have HKK := Lib.hid hkk
    have HSF := Lib.hid size_flt
    have HSE := Lib.hid size_eS
    have F0 := ((Fx.start w).alloc w.heap.size rfl 41 #[.string e.op, .string e.name, .int .i64 e.n, .int .i64 (e.at_ : Int), .slice x e.kids.length c]).alloc (w.heap.size + 1) (by simp) 33 #[.int .i64 0, .int .i64 0]
    have hc0 := hch.below F0.below
    have kf := fits_any _ gc mn ms m G hc0.1 hc0.2.1 F D k hc0.2.2 hD e x c (okNm_le ho2)
    have HF0 : Hid (Fx w [(w.heap.size, 41, #[.string e.op, .string e.name, .int .i64 e.n, .int .i64 (e.at_ : Int), .slice x e.kids.length c]), (w.heap.size + 1, 33, #[.int .i64 0, .int .i64 0])] _) := Lib.hid F0
    have HL0 := Lib.hid (F0.get 0 rfl)
    have hR := partF_eq D G e
    obtain ⟨R, hRR⟩ : ∃ R, R = partF D G e := ⟨_, rfl⟩
    rw [← hRR] at hR ⊢
    clear hch hD hkk ho1 ho2 ho3 ih hd F0 hRR hc0
    unfold exV
    cases hfit : fitsF D G e with
    | false =>
      rw [hfit] at kf hR
      have HR : Hid (R = some e.at_) := Lib.hid (by rw [hR]; rfl)
      clear hfit hR
      go_enter Try.func85, Try.ntmps85
      go_wp2_with (refine wpList_load_row rfl 41 (.tmp 3) rfl w.heap.size rfl 41 #[.string e.op, .string e.name, .int .i64 e.n, .int .i64 (e.at_ : Int), .slice x e.kids.length c] (0, 0) _ HL0.out Try.underlying41 rfl HSE.out ?_)
      (with_reducible refine kf.mono ?_)
      rintro e9 w2 ⟨rfl, hb⟩
      have HF2 := Lib.hid (HF0.out.call hb)
      have c3 := cell_of_row w2 (w.heap.size) 3 _ _ _ (HF2.out.get 0 rfl)
      have kn := namesFault_any (e.at_ : Int) w2
      clear kf hb
      go_wp2_with fail
      (with_reducible refine kn.mono ?_)
      rintro e9 w3 ⟨rfl, hb⟩
      have HF3 := Lib.hid (HF2.out.call hb)
      have HL3 := Lib.hid (HF3.out.get 1 rfl)
      clear kn hb c3
      go_wp2_with (refine wpList_store_row rfl 33 (.tmp 4) (.tmp 14) rfl (w.heap.size + 1) #[.int .i64 8, .int .i64 (e.at_ : Int)] rfl rfl 33 _ HL3.out HSF.out rfl (fault_one _ _) ?_)
      refine bodyPost_ret (v := .agg #[.int .i64 8, .int .i64 (e.at_ : Int)]) (results_cell_row (p := 4) (ty := 33) rfl _ _ (w.heap.size + 1) 33 _ (0, 0) _ rfl (setRow_heap _ (w.heap.size + 1) _ _ _ _ HL3.out) Try.underlying33 rfl HSF.out) rfl ?_
      rw [HR.out]
      exact ⟨rfl, below_setRow HF3.out.below (by omega) _⟩
    | true =>
      rw [hfit] at kf hR
      have HR0 : Hid (R = partsF D G e.kids) := Lib.hid (by rw [hR]; rfl)
      clear hfit hR
      go_enter Try.func85, Try.ntmps85
      go_wp2_with (refine wpList_load_row rfl 41 (.tmp 3) rfl w.heap.size rfl 41 #[.string e.op, .string e.name, .int .i64 e.n, .int .i64 (e.at_ : Int), .slice x e.kids.length c] (0, 0) _ HL0.out Try.underlying41 rfl HSE.out ?_)
      (with_reducible refine kf.mono ?_)
      rintro e9 w2 ⟨rfl, hb⟩
      have HF2 := Lib.hid (HF0.out.call hb)
      have c4 := cell_of_row w2 (w.heap.size) 4 _ _ _ (HF2.out.get 0 rfl)
      clear kf hb
      go_wp2_with fail
      go_loopw [18] (fun v18 wr => ∃ (i : Nat), v18 = .int .i64 (i : Int) ∧ i ≤ e.kids.length ∧ Fx w [(w.heap.size, 41, #[.string e.op, .string e.name, .int .i64 e.n, .int .i64 (e.at_ : Int), .slice x e.kids.length c]), (w.heap.size + 1, 33, #[.int .i64 0, .int .i64 0])] wr ∧ R = partsF D G (e.kids.drop i))
        (fun v18 _ => e.kids.length - (intOf v18).toNat)
      case atStart => exact ⟨0, rfl, Nat.zero_le _, HF2.out, HR0.out⟩
      case round =>
        clear HF2 HR0 c4
        obtain ⟨i, rfl, hi, hF, hq⟩ := hrel
        have HF := Lib.hid hF
        have HI := Lib.hid hi
        clear hF hi
        by_cases hil : i < e.kids.length
        · have d1 : decide ((i : Int) < (e.kids.length : Int)) = true := by simp; omega
          have HIL := Lib.hid hil
          rw [List.drop_eq_getElem_cons hil] at hq
          obtain ⟨ek, hek⟩ : ∃ ek, ek = e.kids[i]'HIL.out := ⟨_, rfl⟩
          obtain ⟨g1, rfl, hg1, xk, ck, hrg, hkk⟩ := HKK.out.at_ i HIL.out
          have ih := IH.out i HIL.out
          rw [← hek] at hq hrg hkk ih
          have HRK := Lib.hid (rangeAt_below hrg HF.out.below hg1)
          have HAL := Lib.hid (heap_alloc_new wr (.cells #[.string ⟨#[]⟩, .string ⟨#[]⟩, .int .i64 0, .int .i64 0, .slice none 0 0] 41))
          obtain ⟨hnb, hnr⟩ := new_row wr 41 #[.string ⟨#[]⟩, .string ⟨#[]⟩, .int .i64 0, .int .i64 0, .slice none 0 0] #[.string ek.op, .string ek.name, .int .i64 ek.n, .int .i64 (ek.at_ : Int), .slice xk ek.kids.length ck]
          have HF1 := Lib.hid (HF.out.call hnb)
          have HN1 := Lib.hid hnr
          have kk := ih ((wr.alloc (.cells #[.string ⟨#[]⟩, .string ⟨#[]⟩, .int .i64 0, .int .i64 0, .slice none 0 0] 41)).setRow wr.heap.size #[.string ek.op, .string ek.name, .int .i64 ek.n, .int .i64 (ek.at_ : Int), .slice xk ek.kids.length ck]) gc mn ms m F k (HCH.out.below HF1.out.below) HD.out okk xk ck (IsD.below HF1.out.below hkk)
          unfold exV GivesO at kk
          have i0 : (0 : Int) ≤ (i : Int) := by omega
          have i1 : (i : Int) < (e.kids.length : Int) := by omega
          have HW := Lib.hid (show ((wr.alloc (.cells #[.string ⟨#[]⟩, .string ⟨#[]⟩, .int .i64 0, .int .i64 0, .slice none 0 0] 41)).setRow wr.heap.size #[.string ek.op, .string ek.name, .int .i64 ek.n, .int .i64 (ek.at_ : Int), .slice xk ek.kids.length ck]).heap.size = wr.heap.size + 1 by rw [setRow_size]; simp)
          clear hil hek hrg hkk hnb hnr ih hg1
          obtain ⟨er, her⟩ : ∃ er, er = ferO 8 (partF D G ek) := ⟨_, rfl⟩
          obtain ⟨ea, hea⟩ : ∃ ea, ea = fatO (partF D G ek) := ⟨_, rfl⟩
          rw [← her, ← hea] at kk
          have HER := Lib.hid her
          have HEA := Lib.hid hea
          have HQ := Lib.hid hq
          clear her hea hq
          go_wp2_with (first | (refine wpList_load_mid rfl 41 (.tmp 20) rfl g1 (i * 5) rfl (exC ek xk ck) _ ?_ Try.underlying41 rfl HSE.out ?_; (exact HRK.out)) | (refine wpList_store_row rfl 41 (.tmp 6) (.tmp 21) rfl wr.heap.size #[.string ek.op, .string ek.name, .int .i64 ek.n, .int .i64 (ek.at_ : Int), .slice xk ek.kids.length ck] rfl rfl 41 _ HAL.out HSE.out rfl (e4_one _ _ _ _ _ _ _) ?_) | (refine wpList_load_row rfl 41 (.tmp 6) rfl wr.heap.size rfl 41 #[.string ek.op, .string ek.name, .int .i64 ek.n, .int .i64 (ek.at_ : Int), .slice xk ek.kids.length ck] (0, 0) _ HN1.out Try.underlying41 rfl HSE.out ?_))
          (with_reducible refine kk.mono ?_)
          rintro e9 w2 ⟨rfl, hb⟩
          have HF2 := Lib.hid (HF1.out.call hb)
          have HAF := Lib.hid (heap_alloc_new w2 (.cells #[.int .i64 0, .int .i64 0] 33))
          obtain ⟨hnb, hnr⟩ := new_row w2 33 #[.int .i64 0, .int .i64 0] #[.int .i64 er, .int .i64 ea]
          have c0 := cell_of_row _ w2.heap.size 0 _ _ _ hnr
          have HF3 := Lib.hid (HF2.out.call hnb)
          have HN3 := Lib.hid hnr
          have HL3 := Lib.hid (HF3.out.get 1 rfl)
          clear kk hb hnb hnr
          cases hP : partF D G ek with
          | some a =>
            have e0 : er = 8 := by rw [HER.out, hP]; rfl
            have e1 : ea = (a : Int) := by rw [HEA.out, hP]; rfl
            have HR : Hid (R = some a) := Lib.hid (by rw [HQ.out, partsF_hit hP])
            have d3 : (er != 0) = true := by rw [e0]; rfl
            have HE0 := Lib.hid e0
            have HE1 := Lib.hid e1
            clear hP e0 e1
            go_wp2_with (first | (refine wpList_store_row rfl 33 (.tmp 7) (.tmp 24) rfl w2.heap.size #[.int .i64 er, .int .i64 ea] rfl rfl 33 _ HAF.out HSF.out rfl (fault_one _ _) ?_) | (refine wpList_load_row rfl 33 (.tmp 7) rfl w2.heap.size rfl 33 #[.int .i64 er, .int .i64 ea] (0, 0) _ HN3.out Try.underlying33 rfl HSF.out ?_) | (refine wpList_store_row rfl 33 (.tmp 4) (.tmp 28) rfl (w.heap.size + 1) #[.int .i64 er, .int .i64 ea] rfl rfl 33 _ HL3.out HSF.out rfl (fault_one _ _) ?_))
            refine bodyPost_ret (v := .agg #[.int .i64 er, .int .i64 ea]) (results_cell_row (p := 4) (ty := 33) rfl _ _ (w.heap.size + 1) 33 _ (0, 0) _ rfl (setRow_heap _ (w.heap.size + 1) _ _ _ _ HL3.out) Try.underlying33 rfl HSF.out) rfl ?_
            exact ⟨by rw [HR.out, HE0.out, HE1.out]; rfl, below_setRow HF3.out.below (by omega) _⟩
          | none =>
            have e0 : er = 0 := by rw [HER.out, hP]; rfl
            have HQ2 := Lib.hid (show R = partsF D G (e.kids.drop (i + 1)) by rw [HQ.out, partsF_skip hP])
            have d3 : (er != 0) = false := by rw [e0]; rfl
            clear hP e0
            go_wp2_with (refine wpList_store_row rfl 33 (.tmp 7) (.tmp 24) rfl w2.heap.size #[.int .i64 er, .int .i64 ea] rfl rfl 33 _ HAF.out HSF.out rfl (fault_one _ _) ?_)
            refine ⟨⟨i + 1, wrap_succ (by have := HIL.out; have := IsD.few HKK.out; omega), HIL.out, HF3.out, HQ2.out⟩, ?_⟩
            rw [wrap_succ (by have := HIL.out; have := IsD.few HKK.out; omega)]
            simp [intOf]; omega
        · have d1 : decide ((i : Int) < (e.kids.length : Int)) = false := by simp; omega
          obtain rfl : i = e.kids.length := by have := HI.out; omega
          have HR : Hid (R = none) := Lib.hid (by rw [hq, List.drop_length]; unfold partsF; rfl)
          have HL3 := Lib.hid (HF.out.get 1 rfl)
          clear hil hq
          go_wp2_with (refine wpList_store_row rfl 33 (.tmp 4) (.tmp 30) rfl (w.heap.size + 1) #[.int .i64 0, .int .i64 0] rfl rfl 33 _ HL3.out HSF.out rfl (fault_one _ _) ?_)
          refine bodyPost_ret (v := .agg #[.int .i64 0, .int .i64 0]) (results_cell_row (p := 4) (ty := 33) rfl _ _ (w.heap.size + 1) 33 _ (0, 0) _ rfl (setRow_heap _ (w.heap.size + 1) _ _ _ _ HL3.out) Try.underlying33 rfl HSF.out) rfl ?_
          rw [HR.out]
          exact ⟨rfl, below_setRow HF.out.below (by omega) _⟩
theorem part_any (w : World) (gc mn ms m : Nat) (G : List UInt8 → Option Int) (F : List UInt8 → Option Value) (D : List UInt8 → Option Nd) (k : Nat) (hch : Chk w gc mn ms m G F k) (hD : NodesM F D) (e : Ex) (hoe : okE e = true) (okk : Nat → Prop) (x : Option Addr) (c : Nat) (hkk : KidsD okk w e x c) : Calls Try.prog 85 #[.pointer (some ⟨gc, 0, none⟩), exV e x c] w (GivesO 8 (partF D G e) w) :=
  part_lt D G (SizeOf.sizeOf e + 1) e (Nat.lt_succ_self _) hoe w gc mn ms m F k hch hD okk x c hkk
end Go.Proofs.Ytbgngmnpepnflaa

namespace Go.Proofs.Ytbgngmnpepnflaa
open Go Go.RowKit
structure Fg (w0 : World) (r : Nat) (bl : List (Nat × TypeId × Array Value)) (w : World) : Prop where
  grown : w0.grownBy w (some r)
  low : r < w0.heap.size
  blk : ∀ x ∈ bl, w.heap[x.1]? = some (.cells x.2.2 x.2.1 (0, 0)) ∧ w0.heap.size ≤ x.1
  srt : bl.Pairwise (fun x y => x.1 < y.1)
theorem Fg.of {w0 w : World} {r : Nat} {bl : List (Nat × TypeId × Array Value)} (h : Fx w0 bl w) (hr : r < w0.heap.size) : Fg w0 r bl w := ⟨gb_below h.below, hr, h.blk, h.srt⟩
theorem Fg.lt {w0 w : World} {r : Nat} {bl : List (Nat × TypeId × Array Value)} (h : Fg w0 r bl w) : ∀ x ∈ bl, x.1 < w.heap.size := fun x hx => (Array.getElem?_eq_some_iff.1 (h.blk x hx).1).1
theorem Fg.get {w0 w : World} {r : Nat} {bl : List (Nat × TypeId × Array Value)} (h : Fg w0 r bl w) (i : Nat) {b : Nat} {T : TypeId} {cs : Array Value} (hi : bl[i]? = some (b, T, cs)) : w.heap[b]? = some (.cells cs T (0, 0)) :=
  (h.blk _ (List.mem_of_getElem? hi)).1
theorem Fg.ge {w0 w : World} {r : Nat} {bl : List (Nat × TypeId × Array Value)} (h : Fg w0 r bl w) (i : Nat) {b : Nat} {T : TypeId} {cs : Array Value} (hi : bl[i]? = some (b, T, cs)) : w0.heap.size ≤ b :=
  (h.blk _ (List.mem_of_getElem? hi)).2
theorem Fg.lt_ {w0 w : World} {r : Nat} {bl : List (Nat × TypeId × Array Value)} (h : Fg w0 r bl w) (i : Nat) {b : Nat} {T : TypeId} {cs : Array Value} (hi : bl[i]? = some (b, T, cs)) : b < w.heap.size :=
  h.lt _ (List.mem_of_getElem? hi)
/-- Behind what only makes memory. -/
theorem Fg.call {w0 w w' : World} {r : Nat} {bl : List (Nat × TypeId × Array Value)} (h : Fg w0 r bl w) (hb : Below w.heap.size w w') : Fg w0 r bl w' :=
  ⟨gb_trans h.grown (gb_below hb), h.low, fun x hx => ⟨(hb.block x.1 (h.lt x hx)).trans (h.blk x hx).1, (h.blk x hx).2⟩, h.srt⟩
/-- Behind what turns the object. -/
theorem Fg.own {w0 w w' : World} {r : Nat} {bl : List (Nat × TypeId × Array Value)} (h : Fg w0 r bl w) (hg : w.grownBy w' (some r)) : Fg w0 r bl w' :=
  ⟨gb_trans h.grown hg, h.low, fun x hx => ⟨(hg.block x.1 (h.lt x hx) (fun e => by injection e with e; have := (h.blk x hx).2; have := h.low; omega)).trans (h.blk x hx).1, (h.blk x hx).2⟩, h.srt⟩
theorem gb_row {w W : World} {r : Nat} (h : w.grownBy W (some r)) {b : Nat} (hb : w.heap.size ≤ b) (zs : Array Value) : w.grownBy (W.setRow b zs) (some r) :=
  ⟨h.os, h.tape, h.output, by rw [setRow_size]; exact h.size, fun k hk hne => (setRow_other W b k _ (by omega)).trans (h.block k hk hne)⟩
/-- A row of one's own, stored anew: nothing older is turned. -/
theorem gb_rowN (w : World) (b : Nat) (zs : Array Value) : w.grownBy (w.setRow b zs) (some b) :=
  ⟨rfl, rfl, rfl, by rw [setRow_size]; exact Nat.le_refl _, fun k _ hk => setRow_other w b k _ (fun e => hk (by rw [e]))⟩
theorem Fg.alloc {w0 w : World} {r : Nat} {bl : List (Nat × TypeId × Array Value)} (h : Fg w0 r bl w) (b : Nat) (hb : b = w.heap.size) (T : TypeId) (cs : Array Value) : Fg w0 r (bl ++ [(b, T, cs)]) (w.alloc (.cells cs T)) := by
  subst hb
  have hbel : Below w.heap.size w (w.alloc (.cells cs T)) := (Below.refl _ _).alloc (Nat.le_refl _) _
  refine ⟨(h.call hbel).grown, h.low, fun x hx => ?blk, List.pairwise_append.2 ⟨h.srt, List.pairwise_singleton _ _, fun x hx y hy => ?srt⟩⟩
  case blk =>
    rcases List.mem_append.1 hx with hx | hx
    · exact (h.call hbel).blk x hx
    · simp only [List.mem_cons, List.not_mem_nil, or_false] at hx
      subst hx
      exact ⟨heap_alloc_new w _, h.grown.size⟩
  case srt =>
    simp only [List.mem_cons, List.not_mem_nil, or_false] at hy
    subst hy
    exact h.lt x hx
end Go.Proofs.Ytbgngmnpepnflaa

namespace Go.Proofs.Ytbgngmnpepnflaa
open Go Go.RowKit
/-- An equation's first fault of names, and how the names stand behind it. -/
def eqN (D : List UInt8 → Option Nd) (G : List UInt8 → Option Int) (q : Qe) : Option Nat × (List UInt8 → Option Int) :=
  if kindOf G q.name = 2 then (partF D (gset G q.name 3) q.e, gset G q.name 3) else (some q.at_, G)
def GivesEq (o : Option Nat) (G' : List UInt8 → Option Int) (ms m : Nat) (w : World) (e : Ending) (w' : World) : Prop := e = .returned (.agg #[.int .i64 (ferO 8 o), .int .i64 (fatO o)]) ∧ Kinds w' ms (m + 1) G' ∧ w.grownBy w' (some ms)
set_option maxHeartbeats 4000000 in
set_option maxRecDepth 100000 in
theorem eqN_any (w : World) (gc mn ms m : Nat) (G : List UInt8 → Option Int) (F : List UInt8 → Option Value) (D : List UInt8 → Option Nd) (k : Nat) (hch : Chk w gc mn ms m G F k) (hD : NodesM F D) (hm : m < maxLen) (hms : ms ≠ gc ∧ ms ≠ mn) (B : Nat) (hB : B ≤ ms) (q : Qe) (hoe : okE q.e = true) (hon : okNm q.name = true) (x : Option Addr) (c : Nat) (hkk : KidsD (· < B) w q.e x c) :
    Calls Try.prog 61 #[.pointer (some ⟨gc, 0, none⟩), qeV q x c] w (GivesEq (eqN D G q).1 (eqN D G q).2 ms m w) := by
  have F0 := ((Fx.start w).alloc w.heap.size rfl 55 #[.string q.name, .string q.e.op, .string q.e.name, .int .i64 q.e.n, .int .i64 (q.e.at_ : Int), .slice x q.e.kids.length c, .int .i64 (q.at_ : Int)]).alloc (w.heap.size + 1) (by simp) 33 #[.int .i64 0, .int .i64 0]
  have hc0 := hch.below F0.below
  have HSF := Lib.hid size_flt
  have HSE := Lib.hid size_eS
  obtain ⟨w1, hw1⟩ : ∃ w1, w1 = ((w.alloc (.cells #[.string q.name, .string q.e.op, .string q.e.name, .int .i64 q.e.n, .int .i64 (q.e.at_ : Int), .slice x q.e.kids.length c, .int .i64 (q.at_ : Int)] 55)).alloc (.cells #[.int .i64 0, .int .i64 0] 33)) := ⟨_, rfl⟩
  rw [← hw1] at hc0 F0
  have HW1 := Lib.hid hw1
  have HC1 := Lib.hid hc0.1
  have HQ1 := Lib.hid (F0.get 0 rfl)
  have HF0 := Lib.hid F0
  have HCH1 := Lib.hid hc0
  have HD := Lib.hid hD
  have HM := Lib.hid hm
  have HMS := Lib.hid hms
  have HB := Lib.hid hB
  have HOE := Lib.hid hoe
  have HNM := Lib.hid (okNm_le hon)
  have HKK := Lib.hid (IsD.below F0.below hkk)
  have HSW := Lib.hid (show ms < w.heap.size from MapO.lt hch.2.1)
  obtain ⟨kq, hkq⟩ : ∃ kq, kq = kindOf G q.name := ⟨_, rfl⟩
  have HKQ := Lib.hid (show ∀ W, Below w1.heap.size w1 W → (Instr.lookup 87 (.map (some ms)) (.string q.name) false).run Try.prog W = .ok (.int .i64 kq) W from fun W hb => by rw [hkq]; exact Stands.look (MapO.below hc0.2.1 hb) q.name (okNm_le hon))
  have HKE := Lib.hid hkq
  unfold GivesEq
  obtain ⟨R, hR⟩ : ∃ R, R = eqN D G q := ⟨_, rfl⟩
  rw [← hR]
  have HR0 := Lib.hid hR
  clear hch hD hm hms hB hoe hon hkk hc0 F0 hkq hR hw1
  unfold qeV
  go_enter Try.func61, Try.ntmps61
  go_wp2_with fail
  rw [← HW1.out]
  refine wp_region_steps (words [wIs (.pointer (some ⟨gc, 0, none⟩)), wIs (.pointer (some ⟨gc, 0, none⟩)), wIs (.pointer (some ⟨gc, 1, none⟩)), wIs (.map (some ms)), wIs (.pointer (some ⟨w.heap.size, 0, none⟩)), wIs (.string q.name), wIs (.int .i64 kq), wIs (.bool (kq != 2))]) w1.heap.size w1 (by kernel_rfl) (Below.refl _ _) (Nat.le_refl _) (words_stable ?stab) rfl rfl rfl ?steps ?rest
  case stab =>
    intro f hf
    simp only [List.mem_cons, List.not_mem_nil, or_false] at hf
    rcases hf with rfl | rfl | rfl | rfl | rfl | rfl | rfl | rfl <;> first | exact stable_is _
  case steps =>
    refine Steps.cons (step_value rfl fun xa W hp => ⟨wanted_none rfl, _, _, run_move (.inl rfl), hp.old 0 rfl, Below.refl _ _⟩) ?_
    refine Steps.cons (step_value rfl fun xa W hp => ?_) ?_
    · have f0 : xa.tmps.getD 5 undef = .pointer (some ⟨gc, 0, none⟩) := (hp.on_ 0 rfl rfl rfl).2
      exact ⟨wanted_none rfl, _, _, run_nil rfl f0, rfl, Below.refl _ _⟩
    refine Steps.cons (step_value rfl fun xa W hp => ?_) ?_
    · have f0 : xa.tmps.getD 6 undef = .pointer (some ⟨gc, 0, none⟩) := (hp.on_ 1 rfl rfl rfl).2
      have f1 : (Instr.fieldAt 89 (.pointer (some ⟨gc, 0, none⟩)) 1).run Try.prog W = .ok (.pointer (some ⟨gc, 1, none⟩)) W := by kernel_rfl
      exact ⟨wanted_none rfl, _, _, run_fa4 rfl f0 f1, rfl, Below.refl _ _⟩
    refine Steps.cons (step_value rfl fun xa W hp => ?_) ?_
    · have f0 : xa.tmps.getD 7 undef = .pointer (some ⟨gc, 1, none⟩) := (hp.on_ 2 rfl rfl rfl).2
      exact ⟨wanted_none rfl, _, _, run_ldv rfl f0 (cell_of_row W (gc) 1 _ _ _ ((hp.below.block (gc) (Array.getElem?_eq_some_iff.1 HC1.out).1).trans HC1.out)) Try.underlying87 rfl (by kernel_rfl), rfl, Below.refl _ _⟩
    refine Steps.cons (step_value rfl fun xa W hp => ?_) ?_
    · have f0 : xa.tmps.getD 3 undef = .pointer (some ⟨w.heap.size, 0, none⟩) := hp.old 3 rfl
      have f1 : (Instr.fieldAt 55 (.pointer (some ⟨w.heap.size, 0, none⟩)) 0).run Try.prog W = .ok (.pointer (some ⟨w.heap.size, 0, none⟩)) W := by kernel_rfl
      exact ⟨wanted_none rfl, _, _, run_fa4 rfl f0 f1, rfl, Below.refl _ _⟩
    refine Steps.cons (step_value rfl fun xa W hp => ?_) ?_
    · have f0 : xa.tmps.getD 9 undef = .pointer (some ⟨w.heap.size, 0, none⟩) := (hp.on_ 4 rfl rfl rfl).2
      exact ⟨wanted_none rfl, _, _, run_ldv rfl f0 (cell_of_row W (w.heap.size) 0 _ _ _ ((hp.below.block (w.heap.size) (Array.getElem?_eq_some_iff.1 HQ1.out).1).trans HQ1.out)) Try.underlying9 rfl (by kernel_rfl), rfl, Below.refl _ _⟩
    refine Steps.cons (step_value rfl fun xa W hp => ?_) ?_
    · have f0 : xa.tmps.getD 8 undef = .map (some ms) := (hp.on_ 3 rfl rfl rfl).2
      have f1 : xa.tmps.getD 10 undef = .string q.name := (hp.on_ 5 rfl rfl rfl).2
      exact ⟨wanted_none rfl, _, _, run_lkp rfl f0 f1 (HKQ.out W hp.below), rfl, Below.refl _ _⟩
    refine Steps.cons (step_value rfl fun xa W hp => ?_) ?_
    · have f0 : xa.tmps.getD 11 undef = .int .i64 kq := (hp.on_ 6 rfl rfl rfl).2
      refine ⟨wanted_none rfl, _, _, run_bin3 rfl (v := .bool (kq != 2)) ?_ ?_, rfl, Below.refl _ _⟩
      · show (eqGuard .neq _ _ _ (xa.tmps.getD 11 undef) _).run _ W = _
        rw [f0]; rfl
      · show (binOp .neq _ (xa.tmps.getD 11 undef) _).run _ W = _
        rw [f0]; kernel_rfl
    exact Steps.nil
  case rest =>
    intro act W hI
    have hI_below := Lib.hid hI.below
    have h0 : act.tmps.getD 0 undef = .pointer (some ⟨gc, 0, none⟩) := hI.old 0 (by simp)
    have h3 : act.tmps.getD 3 undef = .pointer (some ⟨w.heap.size, 0, none⟩) := hI.old 3 (by simp)
    have h12 : act.tmps.getD 12 undef = .bool (kq != 2) := hI.new 7 _ 12 rfl rfl rfl
    have h4 : act.tmps.getD 4 undef = .pointer (some ⟨w.heap.size + 1, 0, none⟩) := hI.old 4 (by simp)
    have h1 : act.tmps.getD 1 undef = .agg #[.string q.name, .string q.e.op, .string q.e.name, .int .i64 q.e.n, .int .i64 (q.e.at_ : Int), .slice x q.e.kids.length c, .int .i64 (q.at_ : Int)] := hI.old 1 (by simp)
    have hsz_ : act.tmps.size = 26 := hI.tmps
    have hdf_ : act.defers = [] := hI.defers
    obtain ⟨fo, hf, hx⟩ := act_eta hsz_ hdf_
    rw [hf] at h0 h3 h12 h4 h1
    clear hI hsz_ hdf_ hf
    subst hx
    have hl : ((List.range 26).map fo).toArray = #[fo 0, fo 1, fo 2, fo 3, fo 4, fo 5, fo 6, fo 7, fo 8, fo 9, fo 10, fo 11, fo 12, fo 13, fo 14, fo 15, fo 16, fo 17, fo 18, fo 19, fo 20, fo 21, fo 22, fo 23, fo 24, fo 25] := rfl
    simp only [Exit.inBlock, Exit.then, Act.put]
    rw [hl, h0, h3, h12, h4, h1]
    clear hl h0 h3 h12 h4 h1
    have HF1 := Lib.hid (Fg.of (HF0.out.call (hI_below.out)) HSW.out)
    by_cases h2 : kq = 2
    · have d1 : (kq != 2) = false := by rw [h2]; rfl
      have HR : Hid (R = (partF D (gset G q.name 3) q.e, gset G q.name 3)) := Lib.hid (by rw [HR0.out]; unfold eqN; rw [if_pos (by rw [← HKE.out]; exact h2)])
      have HCH2 := Lib.hid (HCH1.out.below hI_below.out)
      have HC2 := Lib.hid HCH2.out.1
      have HQ2 := Lib.hid (HF1.out.get 0 rfl)
      have HKK2 := Lib.hid (IsD.below hI_below.out HKK.out)
      obtain ⟨w2, hw2⟩ : ∃ w2, w2 = W := ⟨_, rfl⟩
      rw [← hw2] at HF1 HCH2 HC2 HQ2 HKK2 ⊢
      clear h2 hw2 hI_below
      go_wp2_with fail
      refine wp_region_steps_then (words [wIs (.pointer (some ⟨gc, 0, none⟩)), wIs (.pointer (some ⟨gc, 0, none⟩)), wIs (.pointer (some ⟨gc, 1, none⟩)), wIs (.map (some ms)), wIs (.pointer (some ⟨w.heap.size, 0, none⟩)), wIs (.string q.name)]) w2.heap.size w2 (by kernel_rfl) (Below.refl _ _) (Nat.le_refl _) (words_stable ?stab) rfl rfl rfl (by kernel_rfl) _ rfl ?steps ?last
      case stab =>
        intro f hf
        simp only [List.mem_cons, List.not_mem_nil, or_false] at hf
        rcases hf with rfl | rfl | rfl | rfl | rfl | rfl <;> first | exact stable_is _
      case steps =>
        refine Steps.cons (step_value rfl fun xa W hp => ⟨wanted_none rfl, _, _, run_move (.inl rfl), hp.old 0 rfl, Below.refl _ _⟩) ?_
        refine Steps.cons (step_value rfl fun xa W hp => ?_) ?_
        · have f0 : xa.tmps.getD 16 undef = .pointer (some ⟨gc, 0, none⟩) := (hp.on_ 0 rfl rfl rfl).2
          exact ⟨wanted_none rfl, _, _, run_nil rfl f0, rfl, Below.refl _ _⟩
        refine Steps.cons (step_value rfl fun xa W hp => ?_) ?_
        · have f0 : xa.tmps.getD 17 undef = .pointer (some ⟨gc, 0, none⟩) := (hp.on_ 1 rfl rfl rfl).2
          have f1 : (Instr.fieldAt 89 (.pointer (some ⟨gc, 0, none⟩)) 1).run Try.prog W = .ok (.pointer (some ⟨gc, 1, none⟩)) W := by kernel_rfl
          exact ⟨wanted_none rfl, _, _, run_fa4 rfl f0 f1, rfl, Below.refl _ _⟩
        refine Steps.cons (step_value rfl fun xa W hp => ?_) ?_
        · have f0 : xa.tmps.getD 18 undef = .pointer (some ⟨gc, 1, none⟩) := (hp.on_ 2 rfl rfl rfl).2
          exact ⟨wanted_none rfl, _, _, run_ldv rfl f0 (cell_of_row W (gc) 1 _ _ _ ((hp.below.block (gc) (Array.getElem?_eq_some_iff.1 HC2.out).1).trans HC2.out)) Try.underlying87 rfl (by kernel_rfl), rfl, Below.refl _ _⟩
        refine Steps.cons (step_value rfl fun xa W hp => ?_) ?_
        · have f0 : xa.tmps.getD 3 undef = .pointer (some ⟨w.heap.size, 0, none⟩) := hp.old 3 rfl
          have f1 : (Instr.fieldAt 55 (.pointer (some ⟨w.heap.size, 0, none⟩)) 0).run Try.prog W = .ok (.pointer (some ⟨w.heap.size, 0, none⟩)) W := by kernel_rfl
          exact ⟨wanted_none rfl, _, _, run_fa4 rfl f0 f1, rfl, Below.refl _ _⟩
        refine Steps.cons (step_value rfl fun xa W hp => ?_) ?_
        · have f0 : xa.tmps.getD 20 undef = .pointer (some ⟨w.heap.size, 0, none⟩) := (hp.on_ 4 rfl rfl rfl).2
          exact ⟨wanted_none rfl, _, _, run_ldv rfl f0 (cell_of_row W (w.heap.size) 0 _ _ _ ((hp.below.block (w.heap.size) (Array.getElem?_eq_some_iff.1 HQ2.out).1).trans HQ2.out)) Try.underlying9 rfl (by kernel_rfl), rfl, Below.refl _ _⟩
        exact Steps.nil
      case last =>
        intro act W hI
        have fm : act.tmps.getD 19 undef = .map (some ms) := hI.new 3 _ 19 rfl rfl rfl
        have fs : act.tmps.getD 21 undef = .string q.name := hI.new 5 _ 21 rfl rfl rfl
        refine wpOp_of rfl (wanted_none rfl) ?_
        refine wp_mapset (t := 87) (.tmp 19) (.tmp 21) (.const (.int .i64 3)) rfl fm q.name fs (.int .i64 3) rfl (MapO.below HCH2.out.2.1 hI.below) Try.underlying9 Try.underlying87 HM.out HNM.out ?_
        intro w6 hK6 hg6
        rw [gset_map] at hK6
        have HK6 := Lib.hid hK6
        have hg : w2.grownBy w6 (some ms) := grown_trans (gb_below (r := some ms) hI.below) hg6
        have HF6 := Lib.hid (HF1.out.own hg)
        have HCH6 : Hid (Chk w6 gc mn ms (m + 1) (gset G q.name 3) F k) := Lib.hid ⟨(hg.block gc (Array.getElem?_eq_some_iff.1 HCH2.out.1).1 (fun e => by injection e with e; exact HMS.out.1 e.symm)).trans HCH2.out.1, hK6, MapO.kept HCH2.out.2.2 hg (fun e => by injection e with e; exact HMS.out.2 e.symm)⟩
        have HKK6 := Lib.hid (IsD.grown hg (fun k hk => by injection hk with hk; subst hk; exact Nat.not_lt.2 HB.out) HKK2.out)
        clear hg
        have h0 : act.tmps.getD 0 undef = .pointer (some ⟨gc, 0, none⟩) := hI.old 0 (by simp)
        have h3 : act.tmps.getD 3 undef = .pointer (some ⟨w.heap.size, 0, none⟩) := hI.old 3 (by simp)
        have h4 : act.tmps.getD 4 undef = .pointer (some ⟨w.heap.size + 1, 0, none⟩) := hI.old 4 (by simp)
        have hsz_ : act.tmps.size = 26 := hI.tmps
        have hdf_ : act.defers = [] := hI.defers
        obtain ⟨fo, hf, hx⟩ := act_eta hsz_ hdf_
        rw [hf] at h0 h3 h4
        clear hI hsz_ hdf_ hf fm fs hK6 hg6
        subst hx
        have hl : ((List.range 26).map fo).toArray = #[fo 0, fo 1, fo 2, fo 3, fo 4, fo 5, fo 6, fo 7, fo 8, fo 9, fo 10, fo 11, fo 12, fo 13, fo 14, fo 15, fo 16, fo 17, fo 18, fo 19, fo 20, fo 21, fo 22, fo 23, fo 24, fo 25] := rfl
        simp only [Exit.inBlock, Exit.then, Act.put]
        rw [hl, h0, h3, h4]
        clear hl h0 h3 h4
        have HRE_ := Lib.hid (row_range (HF6.out.get 0 rfl) 1 (exC q.e x c) (qe_range q.name q.e x c (q.at_ : Int)))
        have kp := part_any w6 gc mn ms (m + 1) (gset G q.name 3) F D k HCH6.out HD.out q.e HOE.out _ x c HKK6.out
        unfold exV GivesO at kp
        obtain ⟨er, her⟩ : ∃ er, er = ferO 8 (partF D (gset G q.name 3) q.e) := ⟨_, rfl⟩
        obtain ⟨ea, hea⟩ : ∃ ea, ea = fatO (partF D (gset G q.name 3) q.e) := ⟨_, rfl⟩
        rw [← her, ← hea] at kp
        have HER := Lib.hid her
        have HEA := Lib.hid hea
        have kp : Calls Try.prog 85 #[.pointer (some ⟨gc, 0, none⟩), .agg (exC q.e x c).toArray] w6 (fun e w' => e = .returned (.agg #[.int .i64 er, .int .i64 ea]) ∧ Below w6.heap.size w6 w') := kp
        clear her hea
        go_wp2_with (refine wpList_load_mid rfl 41 (.tmp 23) rfl (w.heap.size) 1 rfl (exC q.e x c) _ ?_ Try.underlying41 rfl HSE.out ?_; (exact HRE_.out))
        (with_reducible refine kp.mono ?_)
        rintro e9 w7 ⟨rfl, hb⟩
        have HF7 := Lib.hid (HF6.out.call hb)
        have HL7 := Lib.hid (HF7.out.get 1 rfl)
        have HK7 := Lib.hid (MapO.below HCH6.out.2.1 hb)
        have hfin := setRow_heap w7 (w.heap.size + 1) _ #[.int .i64 er, .int .i64 ea] _ _ HL7.out
        have HFIN := Lib.hid hfin
        have HG7 := Lib.hid (gb_row HF7.out.grown (b := w.heap.size + 1) (by omega) #[.int .i64 er, .int .i64 ea])
        have HK8 := Lib.hid (MapO.kept HK7.out (gb_rowN w7 (w.heap.size + 1) #[.int .i64 er, .int .i64 ea]) (fun e => by injection e with e; have := HSW.out; omega))
        clear kp hb hfin
        go_wp2_with (refine wpList_store_row rfl 33 (.tmp 4) (.tmp 25) rfl (w.heap.size + 1) #[.int .i64 er, .int .i64 ea] rfl rfl 33 _ HL7.out HSF.out rfl (fault_one _ _) ?_)
        refine bodyPost_ret (v := .agg #[.int .i64 er, .int .i64 ea]) (results_cell_row (p := 4) (ty := 33) rfl _ _ (w.heap.size + 1) 33 _ (0, 0) _ rfl (setRow_heap _ (w.heap.size + 1) _ _ _ _ HL7.out) Try.underlying33 rfl HSF.out) rfl ?_
        rw [HR.out]
        exact ⟨by rw [HER.out, HEA.out], HK8.out, HG7.out⟩
    · have d1 : (kq != 2) = true := by simpa using h2
      have HR : Hid (R = (some q.at_, G)) := Lib.hid (by rw [HR0.out]; unfold eqN; rw [if_neg (by rw [← HKE.out]; exact h2)])
      have c6 := cell_of_row W w.heap.size 6 _ _ _ (HF1.out.get 0 rfl)
      have kn := namesFault_any (q.at_ : Int) W
      have HK1 := Lib.hid (MapO.below HCH1.out.2.1 hI_below.out)
      clear h2 hI_below
      go_wp2_with fail
      (with_reducible refine kn.mono ?_)
      rintro e9 w3 ⟨rfl, hb⟩
      have HF3 := Lib.hid (HF1.out.call hb)
      have HL3 := Lib.hid (HF3.out.get 1 rfl)
      have hK3 := MapO.below HK1.out hb
      have HK4 := Lib.hid (MapO.kept hK3 (gb_rowN w3 (w.heap.size + 1) #[.int .i64 8, .int .i64 (q.at_ : Int)]) (fun e => by injection e with e; have := HSW.out; omega))
      clear kn hb c6 hK3
      go_wp2_with (refine wpList_store_row rfl 33 (.tmp 4) (.tmp 15) rfl (w.heap.size + 1) #[.int .i64 8, .int .i64 (q.at_ : Int)] rfl rfl 33 _ HL3.out HSF.out rfl (fault_one _ _) ?_)
      refine bodyPost_ret (v := .agg #[.int .i64 8, .int .i64 (q.at_ : Int)]) (results_cell_row (p := 4) (ty := 33) rfl _ _ (w.heap.size + 1) 33 _ (0, 0) _ rfl (setRow_heap _ (w.heap.size + 1) _ _ _ _ HL3.out) Try.underlying33 rfl HSF.out) rfl ?_
      rw [HR.out]
      exact ⟨rfl, HK4.out.mono (Nat.le_succ m), gb_row HF3.out.grown (by omega) _⟩
end Go.Proofs.Ytbgngmnpepnflaa

namespace Go.Proofs.Ytbgngmnpepnflaa
open Go Go.RowKit
/-- How the names stand: a map's contents. -/
def thenD (r : Option Nat × (List UInt8 → Option Int)) (f : (List UInt8 → Option Int) → Option Nat × (List UInt8 → Option Int)) : Option Nat × (List UInt8 → Option Int) := match r.1 with
  | some a => (some a, r.2)
  | none => f r.2
def decls1 (st : Int) : (List UInt8 → Option Int) → List Vr → Option Nat × (List UInt8 → Option Int)
  | G, [] => (none, G)
  | G, v :: r => if knowsF G v.name = true then (some v.at_, G) else decls1 st (gset G v.name st) r
def locals1 : (List UInt8 → Option Int) → List Vr → Option Nat × (List UInt8 → Option Int)
  | G, [] => (none, G)
  | G, v :: r => if v.on.data.toList ≠ [] ∧ knowsF G v.on = false ∨ knowsF G v.name = true then (some v.at_, G) else locals1 (gset G v.name 2) r
def declsN (G : List UInt8 → Option Int) (n : Nd) : Option Nat × (List UInt8 → Option Int) := thenD (decls1 1 G n.ins) fun G1 => thenD (decls1 2 G1 n.outs) fun G2 => locals1 G2 n.locs
def GivesDn (R : Option Nat × (List UInt8 → Option Int)) (ms : Nat) (w : World) (e : Ending) (w' : World) : Prop := e = .returned (.agg #[.int .i64 (ferO 8 R.1), .int .i64 (fatO R.1)]) ∧ (∃ m', m' ≤ 1000010 ∧ Kinds w' ms m' R.2) ∧ w.grownBy w' (some ms)
theorem decls1_hit {st : Int} {G : List UInt8 → Option Int} {v : Vr} {r : List Vr} {f} (h : knowsF G v.name = true) : thenD (decls1 st G (v :: r)) f = (some v.at_, G) := by unfold decls1 thenD; rw [if_pos h]
theorem decls1_skip {st : Int} {G : List UInt8 → Option Int} {v : Vr} {r : List Vr} {f} (h : knowsF G v.name = false) : thenD (decls1 st G (v :: r)) f = thenD (decls1 st (gset G v.name st) r) f := by
  conv => lhs; unfold decls1
  rw [if_neg (by rw [h]; decide)]
theorem locals1_hit {G : List UInt8 → Option Int} {v : Vr} {r : List Vr} (h : v.on.data.toList ≠ [] ∧ knowsF G v.on = false ∨ knowsF G v.name = true) : locals1 G (v :: r) = (some v.at_, G) := by unfold locals1; rw [if_pos h]
theorem locals1_skip {G : List UInt8 → Option Int} {v : Vr} {r : List Vr} (h1 : v.on.data.toList = [] ∨ knowsF G v.on = true) (h2 : knowsF G v.name = false) : locals1 G (v :: r) = locals1 (gset G v.name 2) r := by
  conv => lhs; unfold locals1
  rw [if_neg]
  rintro (⟨h3, h4⟩ | h3)
  · rcases h1 with h1 | h1
    · exact h3 h1
    · rw [h1] at h4; cases h4
  · rw [h2] at h3; cases h3
set_option maxHeartbeats 4000000 in
set_option maxRecDepth 100000 in
theorem declsN_any (w : World) (gc mn ms m : Nat) (G : List UInt8 → Option Int) (hc : w.heap[gc]? = some (.cells #[.map (some mn), .map (some ms)] 89 (0, 0))) (hS : Kinds w ms m G) (hne : gc ≠ ms) (hm : m ≤ 5) (B : Nat) (hB : B ≤ ms) (n : Nd) (hon : okNd n = true) (xi xo xl xe : Option Addr) (ci co cl ce : Nat) (hkn : NdIn (· < B) w n xi xo xl xe ci co cl ce) :
    Calls Try.prog 60 #[.pointer (some ⟨gc, 0, none⟩), ndV n xi xo xl xe ci co cl ce] w (GivesDn (declsN G n) ms w) := by
  have hms : ms < w.heap.size := MapO.lt hS
  have hgc := (Array.getElem?_eq_some_iff.1 hc).1
  have F0 := ((Fx.start w).alloc w.heap.size rfl 59 #[.string n.name, .slice xi n.ins.length ci, .slice xo n.outs.length co, .slice xl n.locs.length cl, .slice xe n.eqs.length ce, .int .i64 (n.at_ : Int)]).alloc (w.heap.size + 1) (by simp) 33 #[.int .i64 0, .int .i64 0]
  unfold okNd at hon
  simp only [Bool.and_eq_true, decide_eq_true_eq] at hon
  obtain ⟨h0, _, ho1, ho2, ho3, _⟩ := hon
  have HSF := Lib.hid size_flt
  have HSV := Lib.hid size_vS
  have HK0 := Lib.hid (MapO.below hS F0.below)
  have HF0 : Hid (Fg w ms [(w.heap.size, 59, #[.string n.name, .slice xi n.ins.length ci, .slice xo n.outs.length co, .slice xl n.locs.length cl, .slice xe n.eqs.length ce, .int .i64 (n.at_ : Int)]), (w.heap.size + 1, 33, #[.int .i64 0, .int .i64 0])] _) := Lib.hid (Fg.of F0 hms)
  have HC := Lib.hid hc
  have HNE := Lib.hid hne
  have HM := Lib.hid hm
  have HB := Lib.hid hB
  have HI1 := Lib.hid hkn.1
  have HI2 := Lib.hid hkn.2.1
  have HI3 := Lib.hid hkn.2.2.1
  have HO1 := Lib.hid ho1
  have HO2 := Lib.hid ho2
  have HO3 := Lib.hid ho3
  have HLEN := Lib.hid h0
  have HML := Lib.hid (show maxLen = 9223372036854775807 from rfl)
  have c1 := cell_of_row _ (w.heap.size) 1 _ _ _ (F0.get 0 rfl)
  obtain ⟨R, hR⟩ : ∃ R, R = declsN G n := ⟨_, rfl⟩
  rw [← hR]
  unfold declsN at hR
  obtain ⟨f1, hf1⟩ : ∃ f, f = (fun G1 => thenD (decls1 2 G1 n.outs) fun G2 => locals1 G2 n.locs) := ⟨_, rfl⟩
  rw [← hf1] at hR
  have HR0 := Lib.hid hR
  have HF1_ := Lib.hid hf1
  clear hc hS hne hm hB hkn h0 ho1 ho2 ho3 hms hgc F0 hR hf1
  unfold GivesDn ndV
  go_enter Try.func60, Try.ntmps60
  go_wp2_with fail
  go_loopw [14] (fun v14 wr => ∃ (i m' : Nat) (G' : List UInt8 → Option Int), v14 = .int .i64 (i : Int) ∧ i ≤ n.ins.length ∧ m' ≤ m + (0 + i) ∧ Fg w ms [(w.heap.size, 59, #[.string n.name, .slice xi n.ins.length ci, .slice xo n.outs.length co, .slice xl n.locs.length cl, .slice xe n.eqs.length ce, .int .i64 (n.at_ : Int)]), (w.heap.size + 1, 33, #[.int .i64 0, .int .i64 0])] wr ∧ Kinds wr ms m' G' ∧ R = thenD (decls1 1 G' (n.ins.drop i)) f1)
    (fun v14 _ => n.ins.length - (intOf v14).toNat)
  case atStart => exact ⟨0, m, G, rfl, Nat.zero_le _, by omega, HF0.out, HK0.out, HR0.out⟩
  case round =>
    clear c1 HF0 HK0 HR0
    obtain ⟨i, m', G', rfl, hi, hmi, hF, hK, hq⟩ := hrel
    have HI_ := Lib.hid hi
    have HMI := Lib.hid hmi
    have HWR := Lib.hid (show w.heap.size ≤ wr.heap.size from hF.grown.size)
    clear hi hmi
    by_cases hil : i < n.ins.length
    · have d1 : decide ((i : Int) < (n.ins.length : Int)) = true := by simp; omega
      have HIL := Lib.hid hil
      rw [List.drop_eq_getElem_cons hil] at hq
      obtain ⟨g1, rfl, hg1, hrg⟩ := var_at (IsD.grown hF.grown (fun k hk => by injection hk with hk; subst hk; exact Nat.not_lt.2 HB.out) HI1.out) i HIL.out
      obtain ⟨hv1, hv2⟩ := okVs_at HO1.out i HIL.out
      obtain ⟨v, hv⟩ : ∃ v, v = n.ins[i]'HIL.out := ⟨_, rfl⟩
      rw [← hv] at hq hrg hv1 hv2
      have HRV := Lib.hid hrg
      have HAL := Lib.hid (heap_alloc_new wr (.cells #[.string ⟨#[]⟩, .int .i64 0, .string ⟨#[]⟩, .bool false, .int .i64 0] 70))
      obtain ⟨hnb, hnr⟩ := new_row wr 70 #[.string ⟨#[]⟩, .int .i64 0, .string ⟨#[]⟩, .bool false, .int .i64 0] #[.string v.name, .int .i64 (v.kind : Int), .string v.on, .bool v.not_, .int .i64 (v.at_ : Int)]
      have hcw : wr.heap[gc]? = some (.cells #[.map (some mn), .map (some ms)] 89 (0, 0)) := (hF.grown.block gc (Array.getElem?_eq_some_iff.1 HC.out).1 (fun e => by injection e with e; exact HNE.out e)).trans HC.out
      have hc1 := (hnb.block gc (Array.getElem?_eq_some_iff.1 hcw).1).trans hcw
      have hK1 : Kinds ((wr.alloc (.cells #[.string ⟨#[]⟩, .int .i64 0, .string ⟨#[]⟩, .bool false, .int .i64 0] 70)).setRow wr.heap.size #[.string v.name, .int .i64 (v.kind : Int), .string v.on, .bool v.not_, .int .i64 (v.at_ : Int)]) ms m' G' := MapO.below hK hnb
      have HF1 := Lib.hid (hF.call hnb)
      have HN1 := Lib.hid hnr
      have HV1 := Lib.hid hv1
      have i0 : (0 : Int) ≤ (i : Int) := by omega
      have i1 : (i : Int) < (n.ins.length : Int) := by omega
      have hmm : m' < maxLen := by have := HM.out; have := HLEN.out; have := HML.out; have := HMI.out; omega
      have kd := declare_any ((wr.alloc (.cells #[.string ⟨#[]⟩, .int .i64 0, .string ⟨#[]⟩, .bool false, .int .i64 0] 70)).setRow wr.heap.size #[.string v.name, .int .i64 (v.kind : Int), .string v.on, .bool v.not_, .int .i64 (v.at_ : Int)]) gc mn ms m' G' hc1 hK1 hmm v hv1 1
      unfold GivesDc declG at kd
      have HQ := Lib.hid hq
      clear hil hv hrg hnb hnr hcw hc1 hK1 hv1 hv2 hg1 hq hmm hK
      cases hkn : knowsF G' v.name with
      | true =>
        rw [hkn] at kd
        have HR : Hid (R = (some v.at_, G')) := Lib.hid (by rw [HQ.out, decls1_hit hkn])
        clear hkn
        go_wp2_with (first | (refine wpList_load_mid rfl 70 (.tmp 16) rfl g1 (i * 5) rfl (vrC v) _ ?_ Try.underlying70 rfl HSV.out ?_; (exact HRV.out)) | (refine wpList_store_row rfl 70 (.tmp 6) (.tmp 17) rfl wr.heap.size #[.string v.name, .int .i64 (v.kind : Int), .string v.on, .bool v.not_, .int .i64 (v.at_ : Int)] rfl rfl 70 _ HAL.out HSV.out rfl (vS_one _ _ _ _ _) ?_) | (refine wpList_load_row rfl 70 (.tmp 6) rfl wr.heap.size rfl 70 #[.string v.name, .int .i64 (v.kind : Int), .string v.on, .bool v.not_, .int .i64 (v.at_ : Int)] (0, 0) _ HN1.out Try.underlying70 rfl HSV.out ?_))
        (with_reducible refine kd.mono ?_)
        rintro e9 w3 ⟨rfl, hK3, hg3⟩
        have HF3 := Lib.hid (HF1.out.own hg3)
        have HK3 := Lib.hid hK3
        have c4 := cell_of_row w3 wr.heap.size 4 _ _ _ ((hg3.block wr.heap.size (Array.getElem?_eq_some_iff.1 HN1.out).1 (fun e => by injection e with e; have := HF1.out.low; have := HWR.out; omega)).trans HN1.out)
        have kn := namesFault_any (v.at_ : Int) w3
        clear kd hK3 hg3
        go_wp2_with fail
        (with_reducible refine kn.mono ?_)
        rintro e9 w4 ⟨rfl, hb⟩
        have HF4 := Lib.hid (HF3.out.call hb)
        have HL4 := Lib.hid (HF4.out.get 1 rfl)
        have HK4 := Lib.hid (MapO.below HK3.out hb)
        have HG4 := Lib.hid (gb_row HF4.out.grown (b := w.heap.size + 1) (by omega) #[.int .i64 8, .int .i64 (v.at_ : Int)])
        have HK5 := Lib.hid (MapO.kept HK4.out (gb_rowN w4 (w.heap.size + 1) #[.int .i64 8, .int .i64 (v.at_ : Int)]) (fun e => by injection e with e; have := HF4.out.low; omega))
        clear kn hb c4
        go_wp2_with (refine wpList_store_row rfl 33 (.tmp 4) (.tmp 24) rfl (w.heap.size + 1) #[.int .i64 8, .int .i64 (v.at_ : Int)] rfl rfl 33 _ HL4.out HSF.out rfl (fault_one _ _) ?_)
        refine bodyPost_ret (v := .agg #[.int .i64 8, .int .i64 (v.at_ : Int)]) (results_cell_row (p := 4) (ty := 33) rfl _ _ (w.heap.size + 1) 33 _ (0, 0) _ rfl (setRow_heap _ (w.heap.size + 1) _ _ _ _ HL4.out) Try.underlying33 rfl HSF.out) rfl ?_
        rw [HR.out]
        exact ⟨rfl, ⟨_, by have := HM.out; have := HLEN.out; have := HMI.out; omega, HK5.out⟩, HG4.out⟩
      | false =>
        rw [hkn] at kd
        have HQ2 := Lib.hid (show R = thenD (decls1 1 (gset G' v.name 1) (n.ins.drop (i + 1))) f1 by rw [HQ.out, decls1_skip hkn])
        clear hkn
        go_wp2_with (first | (refine wpList_load_mid rfl 70 (.tmp 16) rfl g1 (i * 5) rfl (vrC v) _ ?_ Try.underlying70 rfl HSV.out ?_; (exact HRV.out)) | (refine wpList_store_row rfl 70 (.tmp 6) (.tmp 17) rfl wr.heap.size #[.string v.name, .int .i64 (v.kind : Int), .string v.on, .bool v.not_, .int .i64 (v.at_ : Int)] rfl rfl 70 _ HAL.out HSV.out rfl (vS_one _ _ _ _ _) ?_) | (refine wpList_load_row rfl 70 (.tmp 6) rfl wr.heap.size rfl 70 #[.string v.name, .int .i64 (v.kind : Int), .string v.on, .bool v.not_, .int .i64 (v.at_ : Int)] (0, 0) _ HN1.out Try.underlying70 rfl HSV.out ?_))
        (with_reducible refine kd.mono ?_)
        rintro e9 w3 ⟨rfl, hK3, hg3⟩
        have HF3 := Lib.hid (HF1.out.own hg3)
        have HK3 := Lib.hid hK3
        clear kd hK3 hg3
        go_wp2_with fail
        refine ⟨⟨i + 1, m' + 1, _, wrap_succ (by have := HIL.out; have := HLEN.out; omega), HIL.out, by have := HMI.out; omega, HF3.out, HK3.out, HQ2.out⟩, ?_⟩
        rw [wrap_succ (by have := HIL.out; have := HLEN.out; omega)]
        simp [intOf]; omega
    · have d1 : decide ((i : Int) < (n.ins.length : Int)) = false := by simp; omega
      obtain rfl : i = n.ins.length := by have := HI_.out; omega
      obtain ⟨f2, hf2⟩ : ∃ f, f = (fun G2 => locals1 G2 n.locs) := ⟨_, rfl⟩
      have HQB := Lib.hid (show R = thenD (decls1 2 G' (n.outs.drop 0)) f2 by rw [hq, List.drop_length, HF1_.out, hf2]; rfl)
      have HF2_ := Lib.hid hf2
      have c2 := cell_of_row wr (w.heap.size) 2 _ _ _ (hF.get 0 rfl)
      have HFB := Lib.hid hF
      have HKB := Lib.hid hK
      have HMB := HMI
      obtain ⟨m1, hm1⟩ : ∃ m1, m1 = m' := ⟨_, rfl⟩
      obtain ⟨G1, hG1⟩ : ∃ G1, G1 = G' := ⟨_, rfl⟩
      rw [← hm1, ← hG1] at HKB
      rw [← hG1] at HQB
      rw [← hm1] at HMB
      clear hil hq hF hK hm1 hG1 hf2 HMI HI_ HWR
      go_wp2_with fail
      obtain ⟨w5, rfl⟩ : ∃ w5 : World, w5 = wr := ⟨_, rfl⟩
      go_loopw [29] (fun v29 wr => ∃ (i m' : Nat) (G' : List UInt8 → Option Int), v29 = .int .i64 (i : Int) ∧ i ≤ n.outs.length ∧ m' ≤ m + (n.ins.length + i) ∧ Fg w ms [(w.heap.size, 59, #[.string n.name, .slice xi n.ins.length ci, .slice xo n.outs.length co, .slice xl n.locs.length cl, .slice xe n.eqs.length ce, .int .i64 (n.at_ : Int)]), (w.heap.size + 1, 33, #[.int .i64 0, .int .i64 0])] wr ∧ Kinds wr ms m' G' ∧ R = thenD (decls1 2 G' (n.outs.drop i)) f2)
        (fun v29 _ => n.outs.length - (intOf v29).toNat)
      case atStart => exact ⟨0, m1, G1, rfl, Nat.zero_le _, by have := HMB.out; omega, HFB.out, HKB.out, HQB.out⟩
      case round =>
        clear c2 HFB HKB HQB
        obtain ⟨i, m', G', rfl, hi, hmi, hF, hK, hq⟩ := hrel
        have HI_ := Lib.hid hi
        have HMI := Lib.hid hmi
        have HWR := Lib.hid (show w.heap.size ≤ wr.heap.size from hF.grown.size)
        clear hi hmi
        by_cases hil : i < n.outs.length
        · have d1 : decide ((i : Int) < (n.outs.length : Int)) = true := by simp; omega
          have HIL := Lib.hid hil
          rw [List.drop_eq_getElem_cons hil] at hq
          obtain ⟨g1, rfl, hg1, hrg⟩ := var_at (IsD.grown hF.grown (fun k hk => by injection hk with hk; subst hk; exact Nat.not_lt.2 HB.out) HI2.out) i HIL.out
          obtain ⟨hv1, hv2⟩ := okVs_at HO2.out i HIL.out
          obtain ⟨v, hv⟩ : ∃ v, v = n.outs[i]'HIL.out := ⟨_, rfl⟩
          rw [← hv] at hq hrg hv1 hv2
          have HRV := Lib.hid hrg
          have HAL := Lib.hid (heap_alloc_new wr (.cells #[.string ⟨#[]⟩, .int .i64 0, .string ⟨#[]⟩, .bool false, .int .i64 0] 70))
          obtain ⟨hnb, hnr⟩ := new_row wr 70 #[.string ⟨#[]⟩, .int .i64 0, .string ⟨#[]⟩, .bool false, .int .i64 0] #[.string v.name, .int .i64 (v.kind : Int), .string v.on, .bool v.not_, .int .i64 (v.at_ : Int)]
          have hcw : wr.heap[gc]? = some (.cells #[.map (some mn), .map (some ms)] 89 (0, 0)) := (hF.grown.block gc (Array.getElem?_eq_some_iff.1 HC.out).1 (fun e => by injection e with e; exact HNE.out e)).trans HC.out
          have hc1 := (hnb.block gc (Array.getElem?_eq_some_iff.1 hcw).1).trans hcw
          have hK1 : Kinds ((wr.alloc (.cells #[.string ⟨#[]⟩, .int .i64 0, .string ⟨#[]⟩, .bool false, .int .i64 0] 70)).setRow wr.heap.size #[.string v.name, .int .i64 (v.kind : Int), .string v.on, .bool v.not_, .int .i64 (v.at_ : Int)]) ms m' G' := MapO.below hK hnb
          have HF1 := Lib.hid (hF.call hnb)
          have HN1 := Lib.hid hnr
          have HV1 := Lib.hid hv1
          have i0 : (0 : Int) ≤ (i : Int) := by omega
          have i1 : (i : Int) < (n.outs.length : Int) := by omega
          have hmm : m' < maxLen := by have := HM.out; have := HLEN.out; have := HML.out; have := HMI.out; omega
          have kd := declare_any ((wr.alloc (.cells #[.string ⟨#[]⟩, .int .i64 0, .string ⟨#[]⟩, .bool false, .int .i64 0] 70)).setRow wr.heap.size #[.string v.name, .int .i64 (v.kind : Int), .string v.on, .bool v.not_, .int .i64 (v.at_ : Int)]) gc mn ms m' G' hc1 hK1 hmm v hv1 2
          unfold GivesDc declG at kd
          have HQ := Lib.hid hq
          clear hil hv hrg hnb hnr hcw hc1 hK1 hv1 hv2 hg1 hq hmm hK
          cases hkn : knowsF G' v.name with
          | true =>
            rw [hkn] at kd
            have HR : Hid (R = (some v.at_, G')) := Lib.hid (by rw [HQ.out, decls1_hit hkn])
            clear hkn
            go_wp2_with (first | (refine wpList_load_mid rfl 70 (.tmp 31) rfl g1 (i * 5) rfl (vrC v) _ ?_ Try.underlying70 rfl HSV.out ?_; (exact HRV.out)) | (refine wpList_store_row rfl 70 (.tmp 8) (.tmp 32) rfl wr.heap.size #[.string v.name, .int .i64 (v.kind : Int), .string v.on, .bool v.not_, .int .i64 (v.at_ : Int)] rfl rfl 70 _ HAL.out HSV.out rfl (vS_one _ _ _ _ _) ?_) | (refine wpList_load_row rfl 70 (.tmp 8) rfl wr.heap.size rfl 70 #[.string v.name, .int .i64 (v.kind : Int), .string v.on, .bool v.not_, .int .i64 (v.at_ : Int)] (0, 0) _ HN1.out Try.underlying70 rfl HSV.out ?_))
            (with_reducible refine kd.mono ?_)
            rintro e9 w3 ⟨rfl, hK3, hg3⟩
            have HF3 := Lib.hid (HF1.out.own hg3)
            have HK3 := Lib.hid hK3
            have c4 := cell_of_row w3 wr.heap.size 4 _ _ _ ((hg3.block wr.heap.size (Array.getElem?_eq_some_iff.1 HN1.out).1 (fun e => by injection e with e; have := HF1.out.low; have := HWR.out; omega)).trans HN1.out)
            have kn := namesFault_any (v.at_ : Int) w3
            clear kd hK3 hg3
            go_wp2_with fail
            (with_reducible refine kn.mono ?_)
            rintro e9 w4 ⟨rfl, hb⟩
            have HF4 := Lib.hid (HF3.out.call hb)
            have HL4 := Lib.hid (HF4.out.get 1 rfl)
            have HK4 := Lib.hid (MapO.below HK3.out hb)
            have HG4 := Lib.hid (gb_row HF4.out.grown (b := w.heap.size + 1) (by omega) #[.int .i64 8, .int .i64 (v.at_ : Int)])
            have HK5 := Lib.hid (MapO.kept HK4.out (gb_rowN w4 (w.heap.size + 1) #[.int .i64 8, .int .i64 (v.at_ : Int)]) (fun e => by injection e with e; have := HF4.out.low; omega))
            clear kn hb c4
            go_wp2_with (refine wpList_store_row rfl 33 (.tmp 4) (.tmp 39) rfl (w.heap.size + 1) #[.int .i64 8, .int .i64 (v.at_ : Int)] rfl rfl 33 _ HL4.out HSF.out rfl (fault_one _ _) ?_)
            refine bodyPost_ret (v := .agg #[.int .i64 8, .int .i64 (v.at_ : Int)]) (results_cell_row (p := 4) (ty := 33) rfl _ _ (w.heap.size + 1) 33 _ (0, 0) _ rfl (setRow_heap _ (w.heap.size + 1) _ _ _ _ HL4.out) Try.underlying33 rfl HSF.out) rfl ?_
            rw [HR.out]
            exact ⟨rfl, ⟨_, by have := HM.out; have := HLEN.out; have := HMI.out; omega, HK5.out⟩, HG4.out⟩
          | false =>
            rw [hkn] at kd
            have HQ2 := Lib.hid (show R = thenD (decls1 2 (gset G' v.name 2) (n.outs.drop (i + 1))) f2 by rw [HQ.out, decls1_skip hkn])
            clear hkn
            go_wp2_with (first | (refine wpList_load_mid rfl 70 (.tmp 31) rfl g1 (i * 5) rfl (vrC v) _ ?_ Try.underlying70 rfl HSV.out ?_; (exact HRV.out)) | (refine wpList_store_row rfl 70 (.tmp 8) (.tmp 32) rfl wr.heap.size #[.string v.name, .int .i64 (v.kind : Int), .string v.on, .bool v.not_, .int .i64 (v.at_ : Int)] rfl rfl 70 _ HAL.out HSV.out rfl (vS_one _ _ _ _ _) ?_) | (refine wpList_load_row rfl 70 (.tmp 8) rfl wr.heap.size rfl 70 #[.string v.name, .int .i64 (v.kind : Int), .string v.on, .bool v.not_, .int .i64 (v.at_ : Int)] (0, 0) _ HN1.out Try.underlying70 rfl HSV.out ?_))
            (with_reducible refine kd.mono ?_)
            rintro e9 w3 ⟨rfl, hK3, hg3⟩
            have HF3 := Lib.hid (HF1.out.own hg3)
            have HK3 := Lib.hid hK3
            clear kd hK3 hg3
            go_wp2_with fail
            refine ⟨⟨i + 1, m' + 1, _, wrap_succ (by have := HIL.out; have := HLEN.out; omega), HIL.out, by have := HMI.out; omega, HF3.out, HK3.out, HQ2.out⟩, ?_⟩
            rw [wrap_succ (by have := HIL.out; have := HLEN.out; omega)]
            simp [intOf]; omega
        · have d1 : decide ((i : Int) < (n.outs.length : Int)) = false := by simp; omega
          obtain rfl : i = n.outs.length := by have := HI_.out; omega
          have HQC := Lib.hid (show R = locals1 G' (n.locs.drop 0) by rw [hq, List.drop_length, HF2_.out]; unfold decls1 thenD; rfl)
          have c3 := cell_of_row wr (w.heap.size) 3 _ _ _ (hF.get 0 rfl)
          have HFC := Lib.hid hF
          have HKC := Lib.hid hK
          have HMC := HMI
          obtain ⟨m2, hm2⟩ : ∃ m2, m2 = m' := ⟨_, rfl⟩
          obtain ⟨G2, hG2⟩ : ∃ G2, G2 = G' := ⟨_, rfl⟩
          rw [← hm2, ← hG2] at HKC
          rw [← hG2] at HQC
          rw [← hm2] at HMC
          clear hil hq hF hK hm2 hG2 HMI HI_ HWR
          go_wp2_with fail
          obtain ⟨w6, rfl⟩ : ∃ w6 : World, w6 = wr := ⟨_, rfl⟩
          go_loopw [44] (fun v44 wr => ∃ (i m' : Nat) (G' : List UInt8 → Option Int), v44 = .int .i64 (i : Int) ∧ i ≤ n.locs.length ∧ m' ≤ m + (n.ins.length + n.outs.length + i) ∧ Fg w ms [(w.heap.size, 59, #[.string n.name, .slice xi n.ins.length ci, .slice xo n.outs.length co, .slice xl n.locs.length cl, .slice xe n.eqs.length ce, .int .i64 (n.at_ : Int)]), (w.heap.size + 1, 33, #[.int .i64 0, .int .i64 0])] wr ∧ Kinds wr ms m' G' ∧ R = locals1 G' (n.locs.drop i))
            (fun v44 _ => n.locs.length - (intOf v44).toNat)
          case atStart => exact ⟨0, m2, G2, rfl, Nat.zero_le _, by have := HMC.out; omega, HFC.out, HKC.out, HQC.out⟩
          case round =>
            clear c3 HFC HKC HQC
            obtain ⟨i, m', G', rfl, hi, hmi, hF, hK, hq⟩ := hrel
            have HI_ := Lib.hid hi
            have HMI := Lib.hid hmi
            have HWR := Lib.hid (show w.heap.size ≤ wr.heap.size from hF.grown.size)
            clear hi hmi
            by_cases hil : i < n.locs.length
            · have d1 : decide ((i : Int) < (n.locs.length : Int)) = true := by simp; omega
              have HIL := Lib.hid hil
              rw [List.drop_eq_getElem_cons hil] at hq
              obtain ⟨g1, rfl, hg1, hrg⟩ := var_at (IsD.grown hF.grown (fun k hk => by injection hk with hk; subst hk; exact Nat.not_lt.2 HB.out) HI3.out) i HIL.out
              obtain ⟨hv1, hv2⟩ := okVs_at HO3.out i HIL.out
              obtain ⟨v, hv⟩ : ∃ v, v = n.locs[i]'HIL.out := ⟨_, rfl⟩
              rw [← hv] at hq hrg hv1 hv2
              have HRV := Lib.hid hrg
              have HAL := Lib.hid (heap_alloc_new wr (.cells #[.string ⟨#[]⟩, .int .i64 0, .string ⟨#[]⟩, .bool false, .int .i64 0] 70))
              obtain ⟨hnb, hnr⟩ := new_row wr 70 #[.string ⟨#[]⟩, .int .i64 0, .string ⟨#[]⟩, .bool false, .int .i64 0] #[.string v.name, .int .i64 (v.kind : Int), .string v.on, .bool v.not_, .int .i64 (v.at_ : Int)]
              have hcw : wr.heap[gc]? = some (.cells #[.map (some mn), .map (some ms)] 89 (0, 0)) := (hF.grown.block gc (Array.getElem?_eq_some_iff.1 HC.out).1 (fun e => by injection e with e; exact HNE.out e)).trans HC.out
              have hc1 := (hnb.block gc (Array.getElem?_eq_some_iff.1 hcw).1).trans hcw
              have hK1 : Kinds ((wr.alloc (.cells #[.string ⟨#[]⟩, .int .i64 0, .string ⟨#[]⟩, .bool false, .int .i64 0] 70)).setRow wr.heap.size #[.string v.name, .int .i64 (v.kind : Int), .string v.on, .bool v.not_, .int .i64 (v.at_ : Int)]) ms m' G' := MapO.below hK hnb
              have HF1 := Lib.hid (hF.call hnb)
              have HN1 := Lib.hid hnr
              have HV1 := Lib.hid hv1
              have i0 : (0 : Int) ≤ (i : Int) := by omega
              have i1 : (i : Int) < (n.locs.length : Int) := by omega
              have hmm : m' < maxLen := by have := HM.out; have := HLEN.out; have := HML.out; have := HMI.out; omega
              have kd := declare_any ((wr.alloc (.cells #[.string ⟨#[]⟩, .int .i64 0, .string ⟨#[]⟩, .bool false, .int .i64 0] 70)).setRow wr.heap.size #[.string v.name, .int .i64 (v.kind : Int), .string v.on, .bool v.not_, .int .i64 (v.at_ : Int)]) gc mn ms m' G' hc1 hK1 hmm v hv1 2
              unfold GivesDc declG at kd
              have HQ := Lib.hid hq
              have cx0 := cell_of_row _ wr.heap.size 0 _ _ _ hnr
              have cx1 := cell_of_row _ wr.heap.size 1 _ _ _ hnr
              have cx2 := cell_of_row _ wr.heap.size 2 _ _ _ hnr
              have cx3 := cell_of_row _ wr.heap.size 3 _ _ _ hnr
              have cx4 := cell_of_row _ wr.heap.size 4 _ _ _ hnr
              have kk := knows_any ((wr.alloc (.cells #[.string ⟨#[]⟩, .int .i64 0, .string ⟨#[]⟩, .bool false, .int .i64 0] 70)).setRow wr.heap.size #[.string v.name, .int .i64 (v.kind : Int), .string v.on, .bool v.not_, .int .i64 (v.at_ : Int)]) gc mn ms m' G' hc1 hK1 v.on hv2
              have HK1 := Lib.hid hK1
              clear hil hv hrg hnb hnr hcw hc1 hK1 hv1 hv2 hg1 hq hmm hK
              by_cases hz : v.on.data.toList = []
              · have e1 : v.on.toList = [] := by rw [Lib.toList_data]; exact hz
                cases hkn : knowsF G' v.name with
                | true =>
                  rw [hkn] at kd
                  have HR : Hid (R = (some v.at_, G')) := Lib.hid (by rw [HQ.out, locals1_hit (.inr hkn)])
                  clear hkn kk
                  go_wp2_with (first | (refine wpList_load_mid rfl 70 (.tmp 46) rfl g1 (i * 5) rfl (vrC v) _ ?_ Try.underlying70 rfl HSV.out ?_; (exact HRV.out)) | (refine wpList_store_row rfl 70 (.tmp 10) (.tmp 47) rfl wr.heap.size #[.string v.name, .int .i64 (v.kind : Int), .string v.on, .bool v.not_, .int .i64 (v.at_ : Int)] rfl rfl 70 _ HAL.out HSV.out rfl (vS_one _ _ _ _ _) ?_) | (refine wpList_load_row rfl 70 (.tmp 10) rfl wr.heap.size rfl 70 #[.string v.name, .int .i64 (v.kind : Int), .string v.on, .bool v.not_, .int .i64 (v.at_ : Int)] (0, 0) _ HN1.out Try.underlying70 rfl HSV.out ?_))
                  (with_reducible refine kd.mono ?_)
                  rintro e9 w3 ⟨rfl, hK3, hg3⟩
                  have HF3 := Lib.hid (HF1.out.own hg3)
                  have HK3 := Lib.hid hK3
                  have c4 := cell_of_row w3 wr.heap.size 4 _ _ _ ((hg3.block wr.heap.size (Array.getElem?_eq_some_iff.1 HN1.out).1 (fun e => by injection e with e; have := HF1.out.low; have := HWR.out; omega)).trans HN1.out)
                  have kn := namesFault_any (v.at_ : Int) w3
                  clear kd hK3 hg3 cx0 cx1 cx2 cx3 cx4
                  go_wp2_with fail
                  (with_reducible refine kn.mono ?_)
                  rintro e9 w4 ⟨rfl, hb⟩
                  have HF4 := Lib.hid (HF3.out.call hb)
                  have HL4 := Lib.hid (HF4.out.get 1 rfl)
                  have HK4 := Lib.hid (MapO.below HK3.out hb)
                  have HG4 := Lib.hid (gb_row HF4.out.grown (b := w.heap.size + 1) (by omega) #[.int .i64 8, .int .i64 (v.at_ : Int)])
                  have HK5 := Lib.hid (MapO.kept HK4.out (gb_rowN w4 (w.heap.size + 1) #[.int .i64 8, .int .i64 (v.at_ : Int)]) (fun e => by injection e with e; have := HF4.out.low; omega))
                  clear kn hb c4
                  go_wp2_with (refine wpList_store_row rfl 33 (.tmp 4) (.tmp 66) rfl (w.heap.size + 1) #[.int .i64 8, .int .i64 (v.at_ : Int)] rfl rfl 33 _ HL4.out HSF.out rfl (fault_one _ _) ?_)
                  refine bodyPost_ret (v := .agg #[.int .i64 8, .int .i64 (v.at_ : Int)]) (results_cell_row (p := 4) (ty := 33) rfl _ _ (w.heap.size + 1) 33 _ (0, 0) _ rfl (setRow_heap _ (w.heap.size + 1) _ _ _ _ HL4.out) Try.underlying33 rfl HSF.out) rfl ?_
                  rw [HR.out]
                  exact ⟨rfl, ⟨_, by have := HM.out; have := HLEN.out; have := HMI.out; omega, HK5.out⟩, HG4.out⟩
                | false =>
                  rw [hkn] at kd
                  have HQ2 := Lib.hid (show R = locals1 (gset G' v.name 2) (n.locs.drop (i + 1)) by rw [HQ.out, locals1_skip (.inl hz) hkn])
                  clear hkn kk
                  go_wp2_with (first | (refine wpList_load_mid rfl 70 (.tmp 46) rfl g1 (i * 5) rfl (vrC v) _ ?_ Try.underlying70 rfl HSV.out ?_; (exact HRV.out)) | (refine wpList_store_row rfl 70 (.tmp 10) (.tmp 47) rfl wr.heap.size #[.string v.name, .int .i64 (v.kind : Int), .string v.on, .bool v.not_, .int .i64 (v.at_ : Int)] rfl rfl 70 _ HAL.out HSV.out rfl (vS_one _ _ _ _ _) ?_) | (refine wpList_load_row rfl 70 (.tmp 10) rfl wr.heap.size rfl 70 #[.string v.name, .int .i64 (v.kind : Int), .string v.on, .bool v.not_, .int .i64 (v.at_ : Int)] (0, 0) _ HN1.out Try.underlying70 rfl HSV.out ?_))
                  (with_reducible refine kd.mono ?_)
                  rintro e9 w3 ⟨rfl, hK3, hg3⟩
                  have HF3 := Lib.hid (HF1.out.own hg3)
                  have HK3 := Lib.hid hK3
                  clear kd hK3 hg3 cx0 cx1 cx2 cx3 cx4
                  go_wp2_with fail
                  refine ⟨⟨i + 1, m' + 1, _, wrap_succ (by have := HIL.out; have := HLEN.out; omega), HIL.out, by have := HMI.out; omega, HF3.out, HK3.out, HQ2.out⟩, ?_⟩
                  rw [wrap_succ (by have := HIL.out; have := HLEN.out; omega)]
                  simp [intOf]; omega
              · have e1 : ¬ v.on.toList = [] := by rw [Lib.toList_data]; exact hz
                cases hko : knowsF G' v.on with
                | true =>
                  rw [hko] at kk
                  cases hkn : knowsF G' v.name with
                  | true =>
                    rw [hkn] at kd
                    have HR : Hid (R = (some v.at_, G')) := Lib.hid (by rw [HQ.out, locals1_hit (.inr hkn)])
                    clear hkn 
                    go_wp2_with (first | (refine wpList_load_mid rfl 70 (.tmp 46) rfl g1 (i * 5) rfl (vrC v) _ ?_ Try.underlying70 rfl HSV.out ?_; (exact HRV.out)) | (refine wpList_store_row rfl 70 (.tmp 10) (.tmp 47) rfl wr.heap.size #[.string v.name, .int .i64 (v.kind : Int), .string v.on, .bool v.not_, .int .i64 (v.at_ : Int)] rfl rfl 70 _ HAL.out HSV.out rfl (vS_one _ _ _ _ _) ?_) | (refine wpList_load_row rfl 70 (.tmp 10) rfl wr.heap.size rfl 70 #[.string v.name, .int .i64 (v.kind : Int), .string v.on, .bool v.not_, .int .i64 (v.at_ : Int)] (0, 0) _ HN1.out Try.underlying70 rfl HSV.out ?_))
                    (with_reducible refine kk.mono ?_)
                    rintro e9 w9 ⟨rfl, rfl⟩
                    clear kk
                    go_wp2_with (refine wpList_load_row rfl 70 (.tmp 10) rfl wr.heap.size rfl 70 #[.string v.name, .int .i64 (v.kind : Int), .string v.on, .bool v.not_, .int .i64 (v.at_ : Int)] (0, 0) _ HN1.out Try.underlying70 rfl HSV.out ?_)
                    (with_reducible refine kd.mono ?_)
                    rintro e9 w3 ⟨rfl, hK3, hg3⟩
                    have HF3 := Lib.hid (HF1.out.own hg3)
                    have HK3 := Lib.hid hK3
                    have c4 := cell_of_row w3 wr.heap.size 4 _ _ _ ((hg3.block wr.heap.size (Array.getElem?_eq_some_iff.1 HN1.out).1 (fun e => by injection e with e; have := HF1.out.low; have := HWR.out; omega)).trans HN1.out)
                    have kn := namesFault_any (v.at_ : Int) w3
                    clear kd hK3 hg3 cx0 cx1 cx2 cx3 cx4
                    go_wp2_with fail
                    (with_reducible refine kn.mono ?_)
                    rintro e9 w4 ⟨rfl, hb⟩
                    have HF4 := Lib.hid (HF3.out.call hb)
                    have HL4 := Lib.hid (HF4.out.get 1 rfl)
                    have HK4 := Lib.hid (MapO.below HK3.out hb)
                    have HG4 := Lib.hid (gb_row HF4.out.grown (b := w.heap.size + 1) (by omega) #[.int .i64 8, .int .i64 (v.at_ : Int)])
                    have HK5 := Lib.hid (MapO.kept HK4.out (gb_rowN w4 (w.heap.size + 1) #[.int .i64 8, .int .i64 (v.at_ : Int)]) (fun e => by injection e with e; have := HF4.out.low; omega))
                    clear kn hb c4
                    go_wp2_with (refine wpList_store_row rfl 33 (.tmp 4) (.tmp 66) rfl (w.heap.size + 1) #[.int .i64 8, .int .i64 (v.at_ : Int)] rfl rfl 33 _ HL4.out HSF.out rfl (fault_one _ _) ?_)
                    refine bodyPost_ret (v := .agg #[.int .i64 8, .int .i64 (v.at_ : Int)]) (results_cell_row (p := 4) (ty := 33) rfl _ _ (w.heap.size + 1) 33 _ (0, 0) _ rfl (setRow_heap _ (w.heap.size + 1) _ _ _ _ HL4.out) Try.underlying33 rfl HSF.out) rfl ?_
                    rw [HR.out]
                    exact ⟨rfl, ⟨_, by have := HM.out; have := HLEN.out; have := HMI.out; omega, HK5.out⟩, HG4.out⟩
                  | false =>
                    rw [hkn] at kd
                    have HQ2 := Lib.hid (show R = locals1 (gset G' v.name 2) (n.locs.drop (i + 1)) by rw [HQ.out, locals1_skip (.inr hko) hkn])
                    clear hkn 
                    go_wp2_with (first | (refine wpList_load_mid rfl 70 (.tmp 46) rfl g1 (i * 5) rfl (vrC v) _ ?_ Try.underlying70 rfl HSV.out ?_; (exact HRV.out)) | (refine wpList_store_row rfl 70 (.tmp 10) (.tmp 47) rfl wr.heap.size #[.string v.name, .int .i64 (v.kind : Int), .string v.on, .bool v.not_, .int .i64 (v.at_ : Int)] rfl rfl 70 _ HAL.out HSV.out rfl (vS_one _ _ _ _ _) ?_) | (refine wpList_load_row rfl 70 (.tmp 10) rfl wr.heap.size rfl 70 #[.string v.name, .int .i64 (v.kind : Int), .string v.on, .bool v.not_, .int .i64 (v.at_ : Int)] (0, 0) _ HN1.out Try.underlying70 rfl HSV.out ?_))
                    (with_reducible refine kk.mono ?_)
                    rintro e9 w9 ⟨rfl, rfl⟩
                    clear kk
                    go_wp2_with (refine wpList_load_row rfl 70 (.tmp 10) rfl wr.heap.size rfl 70 #[.string v.name, .int .i64 (v.kind : Int), .string v.on, .bool v.not_, .int .i64 (v.at_ : Int)] (0, 0) _ HN1.out Try.underlying70 rfl HSV.out ?_)
                    (with_reducible refine kd.mono ?_)
                    rintro e9 w3 ⟨rfl, hK3, hg3⟩
                    have HF3 := Lib.hid (HF1.out.own hg3)
                    have HK3 := Lib.hid hK3
                    clear kd hK3 hg3 cx0 cx1 cx2 cx3 cx4
                    go_wp2_with fail
                    refine ⟨⟨i + 1, m' + 1, _, wrap_succ (by have := HIL.out; have := HLEN.out; omega), HIL.out, by have := HMI.out; omega, HF3.out, HK3.out, HQ2.out⟩, ?_⟩
                    rw [wrap_succ (by have := HIL.out; have := HLEN.out; omega)]
                    simp [intOf]; omega
                | false =>
                  rw [hko] at kk
                  have HR : Hid (R = (some v.at_, G')) := Lib.hid (by rw [HQ.out, locals1_hit (.inl ⟨hz, hko⟩)])
                  have HK3 := HK1
                  have HF3 := HF1
                  have c4 := cell_of_row _ wr.heap.size 4 _ _ _ HN1.out
                  have kn := namesFault_any (v.at_ : Int) ((wr.alloc (.cells #[.string ⟨#[]⟩, .int .i64 0, .string ⟨#[]⟩, .bool false, .int .i64 0] 70)).setRow wr.heap.size #[.string v.name, .int .i64 (v.kind : Int), .string v.on, .bool v.not_, .int .i64 (v.at_ : Int)])
                  clear hko kd
                  go_wp2_with (first | (refine wpList_load_mid rfl 70 (.tmp 46) rfl g1 (i * 5) rfl (vrC v) _ ?_ Try.underlying70 rfl HSV.out ?_; (exact HRV.out)) | (refine wpList_store_row rfl 70 (.tmp 10) (.tmp 47) rfl wr.heap.size #[.string v.name, .int .i64 (v.kind : Int), .string v.on, .bool v.not_, .int .i64 (v.at_ : Int)] rfl rfl 70 _ HAL.out HSV.out rfl (vS_one _ _ _ _ _) ?_) | (refine wpList_load_row rfl 70 (.tmp 10) rfl wr.heap.size rfl 70 #[.string v.name, .int .i64 (v.kind : Int), .string v.on, .bool v.not_, .int .i64 (v.at_ : Int)] (0, 0) _ HN1.out Try.underlying70 rfl HSV.out ?_))
                  (with_reducible refine kk.mono ?_)
                  rintro e9 w9 ⟨rfl, rfl⟩
                  clear kk cx0 cx1 cx2 cx3 cx4
                  go_wp2_with fail
                  (with_reducible refine kn.mono ?_)
                  rintro e9 w4 ⟨rfl, hb⟩
                  have HF4 := Lib.hid (HF3.out.call hb)
                  have HL4 := Lib.hid (HF4.out.get 1 rfl)
                  have HK4 := Lib.hid (MapO.below HK3.out hb)
                  have HG4 := Lib.hid (gb_row HF4.out.grown (b := w.heap.size + 1) (by omega) #[.int .i64 8, .int .i64 (v.at_ : Int)])
                  have HK5 := Lib.hid (MapO.kept HK4.out (gb_rowN w4 (w.heap.size + 1) #[.int .i64 8, .int .i64 (v.at_ : Int)]) (fun e => by injection e with e; have := HF4.out.low; omega))
                  clear kn hb c4
                  go_wp2_with (refine wpList_store_row rfl 33 (.tmp 4) (.tmp 66) rfl (w.heap.size + 1) #[.int .i64 8, .int .i64 (v.at_ : Int)] rfl rfl 33 _ HL4.out HSF.out rfl (fault_one _ _) ?_)
                  refine bodyPost_ret (v := .agg #[.int .i64 8, .int .i64 (v.at_ : Int)]) (results_cell_row (p := 4) (ty := 33) rfl _ _ (w.heap.size + 1) 33 _ (0, 0) _ rfl (setRow_heap _ (w.heap.size + 1) _ _ _ _ HL4.out) Try.underlying33 rfl HSF.out) rfl ?_
                  rw [HR.out]
                  exact ⟨rfl, ⟨_, by have := HM.out; have := HLEN.out; have := HMI.out; omega, HK5.out⟩, HG4.out⟩
            · have d1 : decide ((i : Int) < (n.locs.length : Int)) = false := by simp; omega
              obtain rfl : i = n.locs.length := by have := HI_.out; omega
              have HR : Hid (R = (none, G')) := Lib.hid (by rw [hq, List.drop_length]; unfold locals1; rfl)
              have HL4 := Lib.hid (hF.get 1 rfl)
              have HG4 := Lib.hid (gb_row hF.grown (b := w.heap.size + 1) (by omega) #[.int .i64 0, .int .i64 0])
              have HK5 := Lib.hid (MapO.kept hK (gb_rowN wr (w.heap.size + 1) #[.int .i64 0, .int .i64 0]) (fun e => by injection e with e; have := hF.low; omega))
              clear hil hq hF hK
              go_wp2_with (refine wpList_store_row rfl 33 (.tmp 4) (.tmp 68) rfl (w.heap.size + 1) #[.int .i64 0, .int .i64 0] rfl rfl 33 _ HL4.out HSF.out rfl (fault_one _ _) ?_)
              refine bodyPost_ret (v := .agg #[.int .i64 0, .int .i64 0]) (results_cell_row (p := 4) (ty := 33) rfl _ _ (w.heap.size + 1) 33 _ (0, 0) _ rfl (setRow_heap _ (w.heap.size + 1) _ _ _ _ HL4.out) Try.underlying33 rfl HSF.out) rfl ?_
              rw [HR.out]
              exact ⟨rfl, ⟨_, by have := HM.out; have := HLEN.out; have := HMI.out; omega, HK5.out⟩, HG4.out⟩
end Go.Proofs.Ytbgngmnpepnflaa

namespace Go.Proofs.Ytbgngmnpepnflaa
open Go Go.RowKit
def lacks1 (G : List UInt8 → Option Int) : List Vr → Option Nat
  | [] => none
  | v :: r => if kindOf G v.name = 2 then some v.at_ else lacks1 G r
def orE (a b : Option Nat) : Option Nat := match a with
  | some x => some x
  | none => b
def lacksF (G : List UInt8 → Option Int) (n : Nd) : Option Nat := orE (lacks1 G n.outs) (orE (lacks1 G n.locs) none)
theorem lacks1_hit {G : List UInt8 → Option Int} {v : Vr} {r : List Vr} (h : kindOf G v.name = 2) : lacks1 G (v :: r) = some v.at_ := by unfold lacks1; rw [if_pos h]
theorem lacks1_skip {G : List UInt8 → Option Int} {v : Vr} {r : List Vr} (h : kindOf G v.name ≠ 2) : lacks1 G (v :: r) = lacks1 G r := by
  conv => lhs; unfold lacks1
  rw [if_neg h]
set_option maxHeartbeats 4000000 in
set_option maxRecDepth 100000 in
theorem lacks_any (w : World) (gc mn ms m : Nat) (G : List UInt8 → Option Int) (F : List UInt8 → Option Value) (D : List UInt8 → Option Nd) (k : Nat) (hch : Chk w gc mn ms m G F k) (hD : NodesM F D) (n : Nd) (hon : okNd n = true) (ok : Nat → Prop) (xi xo xl xe : Option Addr) (ci co cl ce : Nat) (hkn : NdIn ok w n xi xo xl xe ci co cl ce) :
    Calls Try.prog 62 #[.pointer (some ⟨gc, 0, none⟩), ndV n xi xo xl xe ci co cl ce] w (GivesO 8 (lacksF G n) w) := by
  have F0 := (((Fx.start w).alloc w.heap.size rfl 59 #[.string n.name, .slice xi n.ins.length ci, .slice xo n.outs.length co, .slice xl n.locs.length cl, .slice xe n.eqs.length ce, .int .i64 (n.at_ : Int)]).alloc (w.heap.size + 1) (by simp) 33 #[.int .i64 0, .int .i64 0]).alloc (w.heap.size + 1 + 1) (by simp) 56 #[.slice xo n.outs.length co, .slice xl n.locs.length cl]
  unfold okNd at hon
  simp only [Bool.and_eq_true, decide_eq_true_eq] at hon
  obtain ⟨h0, _, _, ho2, ho3, _⟩ := hon
  have HSF := Lib.hid size_flt
  have HSV := Lib.hid size_vS
  have F1 := ((Fx.start w).alloc w.heap.size rfl 59 #[.string n.name, .slice xi n.ins.length ci, .slice xo n.outs.length co, .slice xl n.locs.length cl, .slice xe n.eqs.length ce, .int .i64 (n.at_ : Int)]).alloc (w.heap.size + 1) (by simp) 33 #[.int .i64 0, .int .i64 0]
  have c2 := cell_of_row _ (w.heap.size) 2 _ _ _ (F1.get 0 rfl)
  have c3 := cell_of_row _ (w.heap.size) 3 _ _ _ (F1.get 0 rfl)
  have HF0 : Hid (Fx w [(w.heap.size, 59, #[.string n.name, .slice xi n.ins.length ci, .slice xo n.outs.length co, .slice xl n.locs.length cl, .slice xe n.eqs.length ce, .int .i64 (n.at_ : Int)]), (w.heap.size + 1, 33, #[.int .i64 0, .int .i64 0]), (w.heap.size + 1 + 1, 56, #[.slice xo n.outs.length co, .slice xl n.locs.length cl])] _) := Lib.hid F0
  have HCH := Lib.hid hch
  have HI2 := Lib.hid hkn.2.1
  have HI3 := Lib.hid hkn.2.2.1
  have HO2 := Lib.hid ho2
  have HO3 := Lib.hid ho3
  have HLEN := Lib.hid h0
  obtain ⟨R, hR⟩ : ∃ R, R = lacksF G n := ⟨_, rfl⟩
  rw [← hR]
  unfold lacksF at hR
  obtain ⟨R1, hR1⟩ : ∃ R1, R1 = orE (lacks1 G n.locs) none := ⟨_, rfl⟩
  rw [← hR1] at hR
  have HR0 := Lib.hid hR
  have HR1 := Lib.hid hR1
  clear hch hkn h0 ho2 ho3 F0 F1 hR hR1 hD
  unfold GivesO ndV
  go_enter Try.func62, Try.ntmps62
  go_wp2_with fail
  go_loopw [15] (fun v15 wr => ∃ (j : Nat), v15 = .int .i64 (j : Int) ∧ j ≤ 2 ∧ Fx w [(w.heap.size, 59, #[.string n.name, .slice xi n.ins.length ci, .slice xo n.outs.length co, .slice xl n.locs.length cl, .slice xe n.eqs.length ce, .int .i64 (n.at_ : Int)]), (w.heap.size + 1, 33, #[.int .i64 0, .int .i64 0]), (w.heap.size + 1 + 1, 56, #[.slice xo n.outs.length co, .slice xl n.locs.length cl])] wr ∧ R = (if j = 0 then orE (lacks1 G n.outs) R1 else if j = 1 then orE (lacks1 G n.locs) none else none))
    (fun v15 _ => 2 - (intOf v15).toNat)
  case atStart => exact ⟨0, rfl, by decide, HF0.out, by rw [if_pos rfl]; exact HR0.out⟩
  case round =>
    clear HF0 HR0 c2 c3
    obtain ⟨j, rfl, hj, hF, hq⟩ := hrel
    by_cases hj2 : j < 2
    · have d1 : decide ((j : Int) < 2) = true := by simp; omega
      obtain ⟨l, xv, cv, rest, hcell, hrest, hid, hol, hll⟩ : ∃ (l : List Vr) (xv : Option Addr) (cv : Nat) (rest : Option Nat), wr.cell? ⟨w.heap.size + 1 + 1, j, none⟩ = some (.slice xv l.length cv) ∧ (R = orE (lacks1 G l) rest ∧ rest = (if j + 1 = 0 then orE (lacks1 G n.outs) R1 else if j + 1 = 1 then orE (lacks1 G n.locs) none else none)) ∧ IsD ok w (.slice xv l.length cv) (.sl l.length (vrsD l)) ∧ okVs l = true ∧ l.length ≤ 1000000 := by
        have hlen := HLEN.out
        have : j = 0 ∨ j = 1 := by omega
        rcases this with rfl | rfl
        · exact ⟨n.outs, xo, co, R1, cell_of_row wr _ 0 _ _ _ (hF.get 2 rfl), ⟨by rw [if_pos rfl] at hq; exact hq, by rw [if_neg (by decide), if_pos rfl]; exact HR1.out⟩, HI2.out, HO2.out, by omega⟩
        · exact ⟨n.locs, xl, cl, none, cell_of_row wr _ 1 _ _ _ (hF.get 2 rfl), ⟨by rw [if_neg (by decide), if_pos rfl] at hq; exact hq, by rw [if_neg (by decide), if_neg (by decide)]⟩, HI3.out, HO3.out, by omega⟩
      have HF := Lib.hid hF
      have HJ := Lib.hid hj2
      have HREST := Lib.hid hrest.2
      have HQ0 := Lib.hid hrest.1
      have HID := Lib.hid hid
      have HOL := Lib.hid hol
      have HLL := Lib.hid hll
      have i0 : (0 : Int) ≤ (j : Int) := by omega
      have i1 : (j : Int) < 2 := by omega
      clear hj hF hq hj2 hrest hid hol hll
      go_wp2_with fail
      obtain ⟨w5, rfl⟩ : ∃ w5 : World, w5 = wr := ⟨_, rfl⟩
      clear hcell i0 i1
      go_loopw [21] (fun v21 wr => ∃ (i : Nat), v21 = .int .i64 (i : Int) ∧ i ≤ l.length ∧ Fx w [(w.heap.size, 59, #[.string n.name, .slice xi n.ins.length ci, .slice xo n.outs.length co, .slice xl n.locs.length cl, .slice xe n.eqs.length ce, .int .i64 (n.at_ : Int)]), (w.heap.size + 1, 33, #[.int .i64 0, .int .i64 0]), (w.heap.size + 1 + 1, 56, #[.slice xo n.outs.length co, .slice xl n.locs.length cl])] wr ∧ R = orE (lacks1 G (l.drop i)) rest)
        (fun v21 _ => l.length - (intOf v21).toNat)
      case atStart => exact ⟨0, rfl, Nat.zero_le _, HF.out, HQ0.out⟩
      case round =>
        clear HF HQ0
        obtain ⟨i, rfl, hi, hF, hq⟩ := hrel
        have HF := Lib.hid hF
        have HI_ := Lib.hid hi
        clear hi
        by_cases hil : i < l.length
        · have d1 : decide ((i : Int) < (l.length : Int)) = true := by simp; omega
          have HIL := Lib.hid hil
          rw [List.drop_eq_getElem_cons hil] at hq
          obtain ⟨g1, rfl, hg1, hrg⟩ := var_at (IsD.below hF.below HID.out) i HIL.out
          obtain ⟨hv1, hv2⟩ := okVs_at HOL.out i HIL.out
          obtain ⟨v, hv⟩ : ∃ v, v = l[i]'HIL.out := ⟨_, rfl⟩
          rw [← hv] at hq hrg hv1 hv2
          have HRV := Lib.hid hrg
          have HAL := Lib.hid (heap_alloc_new wr (.cells #[.string ⟨#[]⟩, .int .i64 0, .string ⟨#[]⟩, .bool false, .int .i64 0] 70))
          obtain ⟨hnb, hnr⟩ := new_row wr 70 #[.string ⟨#[]⟩, .int .i64 0, .string ⟨#[]⟩, .bool false, .int .i64 0] #[.string v.name, .int .i64 (v.kind : Int), .string v.on, .bool v.not_, .int .i64 (v.at_ : Int)]
          have HF1 := Lib.hid (hF.call hnb)
          have hch1 := HCH.out.below (hF.call hnb).below
          have i0 : (0 : Int) ≤ (i : Int) := by omega
          have i1 : (i : Int) < (l.length : Int) := by omega
          have HQ := Lib.hid hq
          obtain ⟨w1, hw1⟩ : ∃ w1, w1 = ((wr.alloc (.cells #[.string ⟨#[]⟩, .int .i64 0, .string ⟨#[]⟩, .bool false, .int .i64 0] 70)).setRow wr.heap.size #[.string v.name, .int .i64 (v.kind : Int), .string v.on, .bool v.not_, .int .i64 (v.at_ : Int)]) := ⟨_, rfl⟩
          obtain ⟨bv, hbv⟩ : ∃ bv, bv = wr.heap.size := ⟨_, rfl⟩
          rw [← hw1] at hch1 hnr HF1
          rw [← hbv] at hnr hw1
          have HC1 := Lib.hid hch1.1
          have HV1 := Lib.hid hnr
          have HW1 := Lib.hid hw1
          have HBV := Lib.hid hbv
          obtain ⟨kq, hkq⟩ : ∃ kq, kq = kindOf G v.name := ⟨_, rfl⟩
          have HKQ := Lib.hid (show ∀ W, Below w1.heap.size w1 W → (Instr.lookup 87 (.map (some ms)) (.string v.name) false).run Try.prog W = .ok (.int .i64 kq) W from fun W hb => by rw [hkq]; exact Stands.look (MapO.below hch1.2.1 hb) v.name hv1)
          have HKE := Lib.hid hkq
          clear hil hv hrg hnb hnr hv1 hv2 hg1 hq hF hch1 hw1 hbv hkq
          go_wp2_with (first | (refine wpList_load_mid rfl 70 (.tmp 23) rfl g1 (i * 5) rfl (vrC v) _ ?_ Try.underlying70 rfl HSV.out ?_; (exact HRV.out)) | (refine wpList_store_row rfl 70 (.tmp 8) (.tmp 24) rfl wr.heap.size #[.string v.name, .int .i64 (v.kind : Int), .string v.on, .bool v.not_, .int .i64 (v.at_ : Int)] rfl rfl 70 _ HAL.out HSV.out rfl (vS_one _ _ _ _ _) ?_))
          rw [← HBV.out, ← HW1.out]
          obtain ⟨V6, hV6⟩ : ∃ V6 : Value, V6 = .slice (some ⟨g1, 0, none⟩) l.length cv := ⟨_, rfl⟩
          refine wp_region_steps (words [wIs (.pointer (some ⟨gc, 0, none⟩)), wIs (.pointer (some ⟨gc, 0, none⟩)), wIs (.pointer (some ⟨gc, 1, none⟩)), wIs (.map (some ms)), wIs (.pointer (some ⟨bv, 0, none⟩)), wIs (.string v.name), wIs (.int .i64 kq), wIs (.bool (kq == 2))]) w1.heap.size w1 (by kernel_rfl) (Below.refl _ _) (Nat.le_refl _) (words_stable ?stab) rfl rfl rfl ?steps ?rest
          case stab =>
            intro f hf
            simp only [List.mem_cons, List.not_mem_nil, or_false] at hf
            rcases hf with rfl | rfl | rfl | rfl | rfl | rfl | rfl | rfl <;> first | exact stable_is _
          case steps =>
            refine Steps.cons (step_value rfl fun xa W hp => ⟨wanted_none rfl, _, _, run_move (.inl rfl), hp.old 0 rfl, Below.refl _ _⟩) ?_
            refine Steps.cons (step_value rfl fun xa W hp => ?_) ?_
            · have f0 : xa.tmps.getD 25 undef = .pointer (some ⟨gc, 0, none⟩) := (hp.on_ 0 rfl rfl rfl).2
              exact ⟨wanted_none rfl, _, _, run_nil rfl f0, rfl, Below.refl _ _⟩
            refine Steps.cons (step_value rfl fun xa W hp => ?_) ?_
            · have f0 : xa.tmps.getD 26 undef = .pointer (some ⟨gc, 0, none⟩) := (hp.on_ 1 rfl rfl rfl).2
              have f1 : (Instr.fieldAt 89 (.pointer (some ⟨gc, 0, none⟩)) 1).run Try.prog W = .ok (.pointer (some ⟨gc, 1, none⟩)) W := by kernel_rfl
              exact ⟨wanted_none rfl, _, _, run_fa4 rfl f0 f1, rfl, Below.refl _ _⟩
            refine Steps.cons (step_value rfl fun xa W hp => ?_) ?_
            · have f0 : xa.tmps.getD 27 undef = .pointer (some ⟨gc, 1, none⟩) := (hp.on_ 2 rfl rfl rfl).2
              exact ⟨wanted_none rfl, _, _, run_ldv rfl f0 (cell_of_row W (gc) 1 _ _ _ ((hp.below.block (gc) (Array.getElem?_eq_some_iff.1 HC1.out).1).trans HC1.out)) Try.underlying87 rfl (by kernel_rfl), rfl, Below.refl _ _⟩
            refine Steps.cons (step_value rfl fun xa W hp => ?_) ?_
            · have f0 : xa.tmps.getD 8 undef = .pointer (some ⟨bv, 0, none⟩) := hp.old 8 rfl
              have f1 : (Instr.fieldAt 70 (.pointer (some ⟨bv, 0, none⟩)) 0).run Try.prog W = .ok (.pointer (some ⟨bv, 0, none⟩)) W := by kernel_rfl
              exact ⟨wanted_none rfl, _, _, run_fa4 rfl f0 f1, rfl, Below.refl _ _⟩
            refine Steps.cons (step_value rfl fun xa W hp => ?_) ?_
            · have f0 : xa.tmps.getD 29 undef = .pointer (some ⟨bv, 0, none⟩) := (hp.on_ 4 rfl rfl rfl).2
              exact ⟨wanted_none rfl, _, _, run_ldv rfl f0 (cell_of_row W (bv) 0 _ _ _ ((hp.below.block (bv) (Array.getElem?_eq_some_iff.1 HV1.out).1).trans HV1.out)) Try.underlying9 rfl (by kernel_rfl), rfl, Below.refl _ _⟩
            refine Steps.cons (step_value rfl fun xa W hp => ?_) ?_
            · have f0 : xa.tmps.getD 28 undef = .map (some ms) := (hp.on_ 3 rfl rfl rfl).2
              have f1 : xa.tmps.getD 30 undef = .string v.name := (hp.on_ 5 rfl rfl rfl).2
              exact ⟨wanted_none rfl, _, _, run_lkp rfl f0 f1 (HKQ.out W hp.below), rfl, Below.refl _ _⟩
            refine Steps.cons (step_value rfl fun xa W hp => ?_) ?_
            · have f0 : xa.tmps.getD 31 undef = .int .i64 kq := (hp.on_ 6 rfl rfl rfl).2
              refine ⟨wanted_none rfl, _, _, run_bin3 rfl (v := .bool (kq == 2)) ?_ ?_, rfl, Below.refl _ _⟩
              · show (eqGuard .eql _ _ _ (xa.tmps.getD 31 undef) _).run _ W = _
                rw [f0]; rfl
              · show (binOp .eql _ (xa.tmps.getD 31 undef) _).run _ W = _
                rw [f0]; kernel_rfl
            exact Steps.nil
          case rest =>
            intro act W hI
            have hI_below := Lib.hid hI.below
            have h0 : act.tmps.getD 0 undef = .pointer (some ⟨gc, 0, none⟩) := hI.old 0 (by simp)
            have h8 : act.tmps.getD 8 undef = .pointer (some ⟨bv, 0, none⟩) := hI.old 8 (by simp)
            have h32 : act.tmps.getD 32 undef = .bool (kq == 2) := hI.new 7 _ 32 rfl rfl rfl
            have h4 : act.tmps.getD 4 undef = .pointer (some ⟨w.heap.size + 1, 0, none⟩) := hI.old 4 (by simp)
            have h13 : act.tmps.getD 13 undef = .slice (some ⟨w.heap.size + 1 + 1, 0, none⟩) 2 2 := hI.old 13 (by simp)
            have h14 : act.tmps.getD 14 undef = .int .i64 2 := hI.old 14 (by simp)
            have h15 : act.tmps.getD 15 undef = .int .i64 (j : Int) := hI.old 15 (by simp)
            have h19 : act.tmps.getD 19 undef = .slice (some ⟨g1, 0, none⟩) l.length cv := hI.old 19 (by simp)
            have h20 : act.tmps.getD 20 undef = .int .i64 (l.length : Int) := hI.old 20 (by simp)
            have h21 : act.tmps.getD 21 undef = .int .i64 (i : Int) := hI.old 21 (by simp)
            have h6 : act.tmps.getD 6 undef = .slice (some ⟨g1, 0, none⟩) l.length cv := hI.old 6 (by simp)
            have h1 : act.tmps.getD 1 undef = .agg #[.string n.name, .slice xi n.ins.length ci, .slice xo n.outs.length co, .slice xl n.locs.length cl, .slice xe n.eqs.length ce, .int .i64 (n.at_ : Int)] := hI.old 1 (by simp)
            have h2 : act.tmps.getD 2 undef = undef := hI.old 2 (by simp)
            have h3 : act.tmps.getD 3 undef = .pointer (some ⟨w.heap.size, 0, none⟩) := hI.old 3 (by simp)
            have h5 : act.tmps.getD 5 undef = undef := hI.old 5 (by simp)
            have h7 : act.tmps.getD 7 undef = undef := hI.old 7 (by simp)
            have h9 : act.tmps.getD 9 undef = .pointer (some ⟨w.heap.size, 2, none⟩) := hI.old 9 (by simp)
            have h10 : act.tmps.getD 10 undef = .slice xo n.outs.length co := hI.old 10 (by simp)
            have h11 : act.tmps.getD 11 undef = .pointer (some ⟨w.heap.size, 3, none⟩) := hI.old 11 (by simp)
            have h12 : act.tmps.getD 12 undef = .slice xl n.locs.length cl := hI.old 12 (by simp)
            have h16 : act.tmps.getD 16 undef = .bool true := hI.old 16 (by simp)
            have h17 : act.tmps.getD 17 undef = .pointer (some ⟨w.heap.size + 1 + 1, j, none⟩) := hI.old 17 (by simp)
            have h18 : act.tmps.getD 18 undef = .slice (some ⟨g1, 0, none⟩) l.length cv := hI.old 18 (by simp)
            have h37 : act.tmps.getD 37 undef = u37 := hI.old 37 (by simp)
            have h38 : act.tmps.getD 38 undef = undef := hI.old 38 (by simp)
            have hsz_ : act.tmps.size = 39 := hI.tmps
            have hdf_ : act.defers = [] := hI.defers
            obtain ⟨fo, hf, hx⟩ := act_eta hsz_ hdf_
            rw [hf] at h0 h8 h32 h4 h13 h14 h15 h19 h20 h21 h6 h1 h2 h3 h5 h7 h9 h10 h11 h12 h16 h17 h18 h37 h38
            clear hI hsz_ hdf_ hf
            subst hx
            have hl : ((List.range 39).map fo).toArray = #[fo 0, fo 1, fo 2, fo 3, fo 4, fo 5, fo 6, fo 7, fo 8, fo 9, fo 10, fo 11, fo 12, fo 13, fo 14, fo 15, fo 16, fo 17, fo 18, fo 19, fo 20, fo 21, fo 22, fo 23, fo 24, fo 25, fo 26, fo 27, fo 28, fo 29, fo 30, fo 31, fo 32, fo 33, fo 34, fo 35, fo 36, fo 37, fo 38] := rfl
            simp only [Exit.inBlock, Exit.then, Act.put]
            rw [hl, h0, h8, h32, h4, h13, h14, h15, h19, h20, h21, h6, h1, h2, h3, h5, h7, h9, h10, h11, h12, h16, h17, h18, h37, h38]
            clear hl h0 h8 h32 h4 h13 h14 h15 h19 h20 h21 h6 h1 h2 h3 h5 h7 h9 h10 h11 h12 h16 h17 h18 h37 h38
            have HF2 := Lib.hid (HF1.out.call hI_below.out)
            by_cases h2 : kq = 2
            · have d2 : (kq == 2) = true := by rw [h2]; rfl
              have HR : Hid (R = some v.at_) := Lib.hid (by rw [HQ.out, lacks1_hit (by rw [← HKE.out]; exact h2)]; rfl)
              have c4 := cell_of_row W bv 4 _ _ _ ((hI_below.out.block bv (Array.getElem?_eq_some_iff.1 HV1.out).1).trans HV1.out)
              have kn := namesFault_any (v.at_ : Int) W
              clear h2
              go_wp2_with fail
              (with_reducible refine kn.mono ?_)
              rintro e9 w4 ⟨rfl, hb⟩
              have HF4 := Lib.hid (HF2.out.call hb)
              have HL4 := Lib.hid (HF4.out.get 1 rfl)
              clear kn hb c4
              go_wp2_with (refine wpList_store_row rfl 33 (.tmp 4) (.tmp 35) rfl (w.heap.size + 1) #[.int .i64 8, .int .i64 (v.at_ : Int)] rfl rfl 33 _ HL4.out HSF.out rfl (fault_one _ _) ?_)
              refine bodyPost_ret (v := .agg #[.int .i64 8, .int .i64 (v.at_ : Int)]) (results_cell_row (p := 4) (ty := 33) rfl _ _ (w.heap.size + 1) 33 _ (0, 0) _ rfl (setRow_heap _ (w.heap.size + 1) _ _ _ _ HL4.out) Try.underlying33 rfl HSF.out) rfl ?_
              rw [HR.out]
              exact ⟨rfl, below_setRow HF4.out.below (by omega) _⟩
            · have d2 : (kq == 2) = false := by simpa using h2
              have HQ2 := Lib.hid (show R = orE (lacks1 G (l.drop (i + 1))) rest by rw [HQ.out, lacks1_skip (by rw [← HKE.out]; exact h2)])
              clear h2
              go_wp2_with fail
              refine ⟨⟨i + 1, wrap_succ (by have := HIL.out; have := HLL.out; omega), HIL.out, HF2.out, HQ2.out⟩, ?_⟩
              rw [wrap_succ (by have := HIL.out; have := HLL.out; omega)]
              simp [intOf]; omega
        · have d1 : decide ((i : Int) < (l.length : Int)) = false := by simp; omega
          obtain rfl : i = l.length := by have := HI_.out; omega
          have HQ2 := Lib.hid (show R = (if j + 1 = 0 then orE (lacks1 G n.outs) R1 else if j + 1 = 1 then orE (lacks1 G n.locs) none else none) by rw [hq, List.drop_length, ← HREST.out]; rfl)
          clear hil hq hF
          go_wp2_with fail
          refine ⟨⟨j + 1, wrap_succ (by have := HJ.out; omega), HJ.out, HF.out, HQ2.out⟩, ?_⟩
          rw [wrap_succ (by have := HJ.out; omega)]
          have := HJ.out
          simp [intOf]; omega
    · have d1 : decide ((j : Int) < 2) = false := by simp; omega
      obtain rfl : j = 2 := by omega
      have HR : Hid (R = none) := Lib.hid (by rw [hq, if_neg (by decide), if_neg (by decide)])
      have HL4 := Lib.hid (hF.get 1 rfl)
      have HF := Lib.hid hF
      clear hj2 hq hF hj
      go_wp2_with (refine wpList_store_row rfl 33 (.tmp 4) (.tmp 38) rfl (w.heap.size + 1) #[.int .i64 0, .int .i64 0] rfl rfl 33 _ HL4.out HSF.out rfl (fault_one _ _) ?_)
      refine bodyPost_ret (v := .agg #[.int .i64 0, .int .i64 0]) (results_cell_row (p := 4) (ty := 33) rfl _ _ (w.heap.size + 1) 33 _ (0, 0) _ rfl (setRow_heap _ (w.heap.size + 1) _ _ _ _ HL4.out) Try.underlying33 rfl HSF.out) rfl ?_
      rw [HR.out]
      exact ⟨rfl, below_setRow HF.out.below (by omega) _⟩
end Go.Proofs.Ytbgngmnpepnflaa

namespace Go.Proofs.Ytbgngmnpepnflaa
open Go Go.RowKit
structure Fb (B : Nat) (w0 : World) (bl : List (Nat × TypeId × Array Value)) (w : World) : Prop where
  below : Below B w0 w
  base : B ≤ w0.heap.size
  blk : ∀ x ∈ bl, w.heap[x.1]? = some (.cells x.2.2 x.2.1 (0, 0)) ∧ B ≤ x.1
  srt : bl.Pairwise (fun x y => x.1 < y.1)
theorem Fb.start (B : Nat) (w : World) (hB : B ≤ w.heap.size) : Fb B w [] w := ⟨Below.refl _ _, hB, fun x hx => by simp at hx, List.Pairwise.nil⟩
theorem Fb.one (B : Nat) (w : World) {b : Nat} {T : TypeId} {cs : Array Value} (h : w.heap[b]? = some (.cells cs T (0, 0))) (hB : B ≤ b) : Fb B w [(b, T, cs)] w :=
  ⟨Below.refl _ _, Nat.le_of_lt (Nat.lt_of_le_of_lt hB (Array.getElem?_eq_some_iff.1 h).1), fun x hx => by
    simp only [List.mem_cons, List.not_mem_nil, or_false] at hx
    subst hx
    exact ⟨h, hB⟩, List.pairwise_singleton _ _⟩
theorem Fb.lt {B : Nat} {w0 w : World} {bl : List (Nat × TypeId × Array Value)} (h : Fb B w0 bl w) : ∀ x ∈ bl, x.1 < w.heap.size := fun x hx => (Array.getElem?_eq_some_iff.1 (h.blk x hx).1).1
theorem Fb.get {B : Nat} {w0 w : World} {bl : List (Nat × TypeId × Array Value)} (h : Fb B w0 bl w) (i : Nat) {b : Nat} {T : TypeId} {cs : Array Value} (hi : bl[i]? = some (b, T, cs)) : w.heap[b]? = some (.cells cs T (0, 0)) :=
  (h.blk _ (List.mem_of_getElem? hi)).1
theorem Fb.ge {B : Nat} {w0 w : World} {bl : List (Nat × TypeId × Array Value)} (h : Fb B w0 bl w) (i : Nat) {b : Nat} {T : TypeId} {cs : Array Value} (hi : bl[i]? = some (b, T, cs)) : B ≤ b :=
  (h.blk _ (List.mem_of_getElem? hi)).2
theorem Fb.lt_ {B : Nat} {w0 w : World} {bl : List (Nat × TypeId × Array Value)} (h : Fb B w0 bl w) (i : Nat) {b : Nat} {T : TypeId} {cs : Array Value} (hi : bl[i]? = some (b, T, cs)) : b < w.heap.size :=
  h.lt _ (List.mem_of_getElem? hi)
theorem Fb.call {B : Nat} {w0 w w' : World} {bl : List (Nat × TypeId × Array Value)} (h : Fb B w0 bl w) (hb : Below w.heap.size w w') : Fb B w0 bl w' :=
  ⟨h.below.trans (hb.mono (Nat.le_trans h.base h.below.size)), h.base, fun x hx => ⟨(hb.block x.1 (h.lt x hx)).trans (h.blk x hx).1, (h.blk x hx).2⟩, h.srt⟩
/-- Behind what turns one object that is none of these. -/
theorem Fb.own {B : Nat} {w0 w w' : World} {bl : List (Nat × TypeId × Array Value)} {r : Nat} (h : Fb B w0 bl w) (hg : w.grownBy w' (some r)) (hB : B ≤ r) (hr : ∀ x ∈ bl, r ≠ x.1) : Fb B w0 bl w' :=
  ⟨⟨hg.os.trans h.below.os, hg.tape.trans h.below.tape, hg.output.trans h.below.output, Nat.le_trans h.below.size hg.size, fun k hk => (hg.block k (Nat.lt_of_lt_of_le hk (Nat.le_trans h.base h.below.size)) (fun e => by injection e with e; omega)).trans (h.below.block k hk)⟩, h.base,
    fun x hx => ⟨(hg.block x.1 (h.lt x hx) (fun e => by injection e with e; exact hr x hx e.symm)).trans (h.blk x hx).1, (h.blk x hx).2⟩, h.srt⟩
theorem Fb.alloc {B : Nat} {w0 w : World} {bl : List (Nat × TypeId × Array Value)} (h : Fb B w0 bl w) (b : Nat) (hb : b = w.heap.size) (T : TypeId) (cs : Array Value) : Fb B w0 (bl ++ [(b, T, cs)]) (w.alloc (.cells cs T)) := by
  subst hb
  have hbel : Below w.heap.size w (w.alloc (.cells cs T)) := (Below.refl _ _).alloc (Nat.le_refl _) _
  refine ⟨(h.call hbel).below, h.base, fun x hx => ?blk, List.pairwise_append.2 ⟨h.srt, List.pairwise_singleton _ _, fun x hx y hy => ?srt⟩⟩
  case blk =>
    rcases List.mem_append.1 hx with hx | hx
    · exact (h.call hbel).blk x hx
    · simp only [List.mem_cons, List.not_mem_nil, or_false] at hx
      subst hx
      exact ⟨heap_alloc_new w _, Nat.le_trans h.base h.below.size⟩
  case srt =>
    simp only [List.mem_cons, List.not_mem_nil, or_false] at hy
    subst hy
    exact h.lt x hx
theorem Fb.other {B : Nat} {w0 w : World} {bl : List (Nat × TypeId × Array Value)} (h : Fb B w0 bl w) {i j : Nat} {x y : Nat × TypeId × Array Value} (hi : bl[i]? = some x) (hj : bl[j]? = some y) (hne : j ≠ i) : y.1 ≠ x.1 := by
  obtain ⟨hi1, hi2⟩ := List.getElem?_eq_some_iff.1 hi
  obtain ⟨hj1, hj2⟩ := List.getElem?_eq_some_iff.1 hj
  have hp := List.pairwise_iff_getElem.1 h.srt
  rcases Nat.lt_or_gt_of_ne hne with hl | hl
  · have := hp j i hj1 hi1 hl
    rw [hi2, hj2] at this
    omega
  · have := hp i j hi1 hj1 hl
    rw [hi2, hj2] at this
    omega
theorem Fb.turn {B : Nat} {w0 w w' : World} {bl : List (Nat × TypeId × Array Value)} (h : Fb B w0 bl w) (i : Nat) {b : Nat} {T : TypeId} {cs : Array Value} (hi : bl[i]? = some (b, T, cs)) (cs' : Array Value)
    (hs : w.heap.size = w'.heap.size) (ho : ∀ k, k ≠ b → w'.heap[k]? = w.heap[k]?) (hb : w'.heap[b]? = some (.cells cs' T (0, 0))) (h1 : w'.os = w.os) (h2 : w'.tape = w.tape) (h3 : w'.output = w.output) : Fb B w0 (bl.set i (b, T, cs')) w' := by
  have hge := h.ge i hi
  have hil : i < bl.length := (List.getElem?_eq_some_iff.1 hi).1
  have hfst : ∀ (j : Nat) (x : Nat × TypeId × Array Value), (bl.set i (b, T, cs'))[j]? = some x → ∃ y, bl[j]? = some y ∧ y.1 = x.1 := fun j x hx => by
    rw [List.getElem?_set] at hx
    split at hx
    · rename_i e
      subst e
      simp only [hil, if_true, Option.some.injEq] at hx
      exact ⟨_, hi, by rw [← hx]⟩
    · exact ⟨x, hx, rfl⟩
  refine ⟨⟨h1.trans h.below.os, h2.trans h.below.tape, h3.trans h.below.output, by rw [← hs]; exact h.below.size, fun k hk => (ho k (by omega)).trans (h.below.block k hk)⟩, h.base, fun x hx => ?_, ?_⟩
  · obtain ⟨j, hj⟩ := List.getElem?_of_mem hx
    by_cases e : j = i
    · subst e
      rw [List.getElem?_set_self hil] at hj
      simp only [Option.some.injEq] at hj
      subst hj
      exact ⟨hb, hge⟩
    · rw [List.getElem?_set_ne (Ne.symm e)] at hj
      have := h.other hi hj e
      exact ⟨(ho x.1 this).trans (h.blk x (List.mem_of_getElem? hj)).1, (h.blk x (List.mem_of_getElem? hj)).2⟩
  · rw [List.pairwise_iff_getElem]
    intro a b' ha hb' hab
    obtain ⟨y1, hy1, e1⟩ := hfst a _ (List.getElem?_eq_getElem ha)
    obtain ⟨y2, hy2, e2⟩ := hfst b' _ (List.getElem?_eq_getElem hb')
    rw [← e1, ← e2]
    obtain ⟨l1, r1⟩ := List.getElem?_eq_some_iff.1 hy1
    obtain ⟨l2, r2⟩ := List.getElem?_eq_some_iff.1 hy2
    have := List.pairwise_iff_getElem.1 h.srt a b' l1 l2 hab
    rw [r1, r2] at this
    exact this
theorem Fb.store {B : Nat} {w0 w : World} {bl : List (Nat × TypeId × Array Value)} (h : Fb B w0 bl w) (i : Nat) {b : Nat} {T : TypeId} {cs : Array Value} (hi : bl[i]? = some (b, T, cs)) (cs' : Array Value) : Fb B w0 (bl.set i (b, T, cs')) (w.setRow b cs') :=
  h.turn i hi cs' (by rw [setRow_size]) (fun k hk => setRow_other w b k _ hk) (setRow_heap w b _ cs' _ _ (h.get i hi)) rfl rfl rfl
theorem Fb.cell {B : Nat} {w0 w : World} {bl : List (Nat × TypeId × Array Value)} (h : Fb B w0 bl w) (i : Nat) {b : Nat} {T : TypeId} {cs : Array Value} (hi : bl[i]? = some (b, T, cs)) (j : Nat) (v : Value) : Fb B w0 (bl.set i (b, T, cs.setIfInBounds j v)) (w.setCell ⟨b, j, none⟩ v) :=
  h.turn i hi _ (by simp) (fun k hk => heap_setCell_other w ⟨b, j, none⟩ k v hk) (heap_setCell_same w b j _ _ v (h.get i hi)) rfl rfl rfl
/-- Only the first blocks are looked at from here on. -/
theorem Fb.first {B : Nat} {w0 w : World} {bl cl : List (Nat × TypeId × Array Value)} (h : Fb B w0 (bl ++ cl) w) : Fb B w0 bl w :=
  ⟨h.below, h.base, fun x hx => h.blk x (List.mem_append_left _ hx), (List.pairwise_append.1 h.srt).1⟩
end Go.Proofs.Ytbgngmnpepnflaa

namespace Go.Proofs.Ytbgngmnpepnflaa
open Go Go.RowKit
def eqsN (D : List UInt8 → Option Nd) : (List UInt8 → Option Int) → List Qe → Option Nat × (List UInt8 → Option Int)
  | G, [] => (none, G)
  | G, q :: r => match eqN D G q with
    | (some a, G') => (some a, G')
    | (none, G') => eqsN D G' r
def thenL (r : Option Nat × (List UInt8 → Option Int)) (f : (List UInt8 → Option Int) → Option Nat) : Option Nat := match r.1 with
  | some a => some a
  | none => f r.2
/-- A node's first fault of names. -/
def nodeN (D : List UInt8 → Option Nd) (n : Nd) : Option Nat :=
  if (D n.name.data.toList).isSome = true ∨ n.outs.length = 0 then some n.at_ else
    thenL (declsN (fun _ => none) n) fun G => thenL (eqsN D G n.eqs) fun G' => lacksF G' n
theorem eqsN_hit {D : List UInt8 → Option Nd} {G : List UInt8 → Option Int} {q : Qe} {r : List Qe} {a : Nat} {f} (h : (eqN D G q).1 = some a) : thenL (eqsN D G (q :: r)) f = some a := by
  conv => lhs; unfold eqsN
  cases hp : eqN D G q with
  | mk o G' =>
    rw [hp] at h
    simp only at h
    subst h
    rfl
theorem eqsN_skip {D : List UInt8 → Option Nd} {G : List UInt8 → Option Int} {q : Qe} {r : List Qe} {f} (h : (eqN D G q).1 = none) : thenL (eqsN D G (q :: r)) f = thenL (eqsN D (eqN D G q).2 r) f := by
  conv => lhs; unfold eqsN
  cases hp : eqN D G q with
  | mk o G' =>
    rw [hp] at h
    simp only at h
    subst h
    rfl
theorem thenL_hit {r : Option Nat × (List UInt8 → Option Int)} {f} {a : Nat} (h : r.1 = some a) : thenL r f = some a := by unfold thenL; rw [h]
theorem thenL_skip {r : Option Nat × (List UInt8 → Option Int)} {f} (h : r.1 = none) : thenL r f = f r.2 := by unfold thenL; rw [h]
/-- The nodes ahead, and one more. -/
def nset (D : List UInt8 → Option Nd) (n : Nd) : List UInt8 → Option Nd := fun s => if s = n.name.data.toList then some n else D s
theorem NodesM.set {F : List UInt8 → Option Value} {D : List UInt8 → Option Nd} (h : NodesM F D) (n : Nd) (xi xo xl xe : Option Addr) (ci co cl ce : Nat) : NodesM (fun x => if x = n.name.data.toList then some (.agg #[.string n.name, .slice xi n.ins.length ci, .slice xo n.outs.length co, .slice xl n.locs.length cl, .slice xe n.eqs.length ce, .int .i64 (n.at_ : Int)]) else F x) (nset D n) := by
  intro s
  unfold nset
  by_cases hs : s = n.name.data.toList
  · simp only [hs, if_true]
    exact ⟨xi, ci, xo, co, xl, cl, xe, ce, rfl⟩
  · simp only [hs, if_false]
    exact h s
def GivesNn (o : Option Nat) (B gc mn k : Nat) (D' : List UInt8 → Option Nd) (w : World) (e : Ending) (w' : World) : Prop := e = .returned (.agg #[.int .i64 (ferO 8 o), .int .i64 (fatO o)]) ∧ Below B w w' ∧ (o = none → ∃ msv F', w'.heap[gc]? = some (.cells #[.map (some mn), msv] 89 (0, 0)) ∧ MapO Try.prog 9 w' mn (k + 1) F' ∧ NodesM F' D')
theorem ck_one (a b : Option Nat) : (#[.map a, .map b] : Array Value).all (·.oneCell') = true := by simp [Value.oneCell']
set_option maxHeartbeats 4000000 in
set_option maxRecDepth 100000 in
theorem nodeN_any (w : World) (gc mn k : Nat) (msv : Value) (F : List UInt8 → Option Value) (D : List UInt8 → Option Nd) (hc : w.heap[gc]? = some (.cells #[.map (some mn), msv] 89 (0, 0))) (hN : MapO Try.prog 9 w mn k F) (hD : NodesM F D) (hk : k ≤ 1000000) (hne : gc ≠ mn) (B : Nat) (hB1 : B ≤ gc) (hB2 : B ≤ mn) (n : Nd) (hon : okNd n = true) (xi xo xl xe : Option Addr) (ci co cl ce : Nat) (hkn : NdIn (· < B) w n xi xo xl xe ci co cl ce) :
    Calls Try.prog 34 #[.pointer (some ⟨gc, 0, none⟩), ndV n xi xo xl xe ci co cl ce] w (GivesNn (nodeN D n) B gc mn k (nset D n) w) := by
  have hgc := (Array.getElem?_eq_some_iff.1 hc).1
  have hmn := MapO.lt hN
  have F0 := ((Fb.one B w hc hB1).alloc w.heap.size rfl 59 #[.string n.name, .slice xi n.ins.length ci, .slice xo n.outs.length co, .slice xl n.locs.length cl, .slice xe n.eqs.length ce, .int .i64 (n.at_ : Int)]).alloc (w.heap.size + 1) (by simp) 33 #[.int .i64 0, .int .i64 0]
  have hb0 : Below w.heap.size w ((w.alloc (.cells #[.string n.name, .slice xi n.ins.length ci, .slice xo n.outs.length co, .slice xl n.locs.length cl, .slice xe n.eqs.length ce, .int .i64 (n.at_ : Int)] 59)).alloc (.cells #[.int .i64 0, .int .i64 0] 33)) := ((Below.refl _ _).alloc (Nat.le_refl _) _).alloc (by simp) _
  have hon0 := hon
  unfold okNd at hon
  simp only [Bool.and_eq_true, decide_eq_true_eq] at hon
  obtain ⟨h0, hnm, ho1, ho2, ho3, ho4⟩ := hon
  have HSF := Lib.hid size_flt
  have HSN := Lib.hid size_nS
  have HSQ := Lib.hid size_qS
  obtain ⟨w1, hw1⟩ : ∃ w1, w1 = ((w.alloc (.cells #[.string n.name, .slice xi n.ins.length ci, .slice xo n.outs.length co, .slice xl n.locs.length cl, .slice xe n.eqs.length ce, .int .i64 (n.at_ : Int)] 59)).alloc (.cells #[.int .i64 0, .int .i64 0] 33)) := ⟨_, rfl⟩
  rw [← hw1] at F0 hb0
  have HW1 := Lib.hid hw1
  have HF0 : Hid (Fb B w [(gc, 89, #[.map (some mn), msv]), (w.heap.size, 59, #[.string n.name, .slice xi n.ins.length ci, .slice xo n.outs.length co, .slice xl n.locs.length cl, .slice xe n.eqs.length ce, .int .i64 (n.at_ : Int)]), (w.heap.size + 1, 33, #[.int .i64 0, .int .i64 0])] w1) := Lib.hid F0
  have HC1 := Lib.hid (F0.get 0 rfl)
  have HN1 := Lib.hid (F0.get 1 rfl)
  have hN1 := MapO.below hN hb0
  obtain ⟨nm, x1, x2, x3, x4, l1, c1_, l2, c2, l3, c3, l4, c4, a5, b, hbD, hlD, hlk⟩ := NodesM.look (W := w1) hN1 hD n.name (okNm_le hnm)
  have HLK := Lib.hid hlk
  have HON := Lib.hid hon0
  have HNM := Lib.hid (okNm_le hnm)
  have HO4 := Lib.hid ho4
  have HNO := Lib.hid hN1
  have HD := Lib.hid hD
  have HK := Lib.hid hk
  have HNE := Lib.hid hne
  have HB1 := Lib.hid hB1
  have HB2 := Lib.hid hB2
  have HGC := Lib.hid hgc
  have HMN := Lib.hid hmn
  have HS1 := Lib.hid hb0.size
  have HKN := Lib.hid (show NdIn (· < B) w1 n xi xo xl xe ci co cl ce from ⟨IsD.below hb0 hkn.1, IsD.below hb0 hkn.2.1, IsD.below hb0 hkn.2.2.1, IsD.below hb0 hkn.2.2.2⟩)
  have HBD := Lib.hid hbD
  obtain ⟨R, hR⟩ : ∃ R, R = nodeN D n := ⟨_, rfl⟩
  rw [← hR]
  unfold nodeN at hR
  have HR0 := Lib.hid hR
  clear hc hN hD hk hne hB1 hB2 hkn hon0 h0 hnm ho1 ho2 ho3 ho4 hgc hmn F0 hb0 hw1 hN1 hbD hlD hlk hR
  unfold GivesNn ndV
  go_enter Try.func34, Try.ntmps34
  go_wp2_with fail
  rw [← HW1.out]
  refine wp_region_stepsS (words [wIs (.pointer (some ⟨gc, 0, none⟩)), wIs (.pointer (some ⟨gc, 0, none⟩)), wIs (.pointer (some ⟨gc, 0, none⟩)), wIs (.map (some mn)), wIs (.pointer (some ⟨w.heap.size, 0, none⟩)), wIs (.string n.name), wIs (.tuple #[.agg #[.string nm, .slice x1 l1 c1_, .slice x2 l2 c2, .slice x3 l3 c3, .slice x4 l4 c4, .int .i64 a5], .bool b]), wIs (.tuple #[.agg #[.string nm, .slice x1 l1 c1_, .slice x2 l2 c2, .slice x3 l3 c3, .slice x4 l4 c4, .int .i64 a5], .bool b]), wIs (.agg #[.string nm, .slice x1 l1 c1_, .slice x2 l2 c2, .slice x3 l3 c3, .slice x4 l4 c4, .int .i64 a5]), wIs (.bool b), wAl w1.heap.size 59 #[.string ⟨#[]⟩, .slice none 0 0, .slice none 0 0, .slice none 0 0, .slice none 0 0, .int .i64 0], wAny, wIs (.bool b)]) (wAl w1.heap.size 59 #[.string nm, .slice x1 l1 c1_, .slice x2 l2 c2, .slice x3 l3 c3, .slice x4 l4 c4, .int .i64 a5]) 5 w1.heap.size w1 [10] 11 (by kernel_rfl) (Below.refl _ _) (Nat.le_refl _) (words_stable ?stab) ?hsw (by decide) rfl rfl rfl 10 rfl (stable_al _ _ _) ?steps ?rest
  case stab =>
    intro f hf
    simp only [List.mem_cons, List.not_mem_nil, or_false] at hf
    rcases hf with rfl | rfl | rfl | rfl | rfl | rfl | rfl | rfl | rfl | rfl | rfl | rfl | rfl <;> first | exact stable_al _ _ _ | exact stable_any | exact stable_is _
  case steps =>
    refine StepsS.cons (stepD_value rfl fun xa W hp => ⟨wanted_none rfl, _, _, run_move (.inl rfl), hp.old 0 rfl, Below.refl _ _⟩) ?_
    refine StepsS.cons (stepD_value rfl fun xa W hp => ?_) ?_
    · have f0 : xa.tmps.getD 13 undef = .pointer (some ⟨gc, 0, none⟩) := (hp.on_ 0 rfl rfl rfl rfl).2
      exact ⟨wanted_none rfl, _, _, run_nil rfl f0, rfl, Below.refl _ _⟩
    refine StepsS.cons (stepD_value rfl fun xa W hp => ?_) ?_
    · have f0 : xa.tmps.getD 14 undef = .pointer (some ⟨gc, 0, none⟩) := (hp.on_ 1 rfl rfl rfl rfl).2
      have f1 : (Instr.fieldAt 89 (.pointer (some ⟨gc, 0, none⟩)) 0).run Try.prog W = .ok (.pointer (some ⟨gc, 0, none⟩)) W := by kernel_rfl
      exact ⟨wanted_none rfl, _, _, run_fa4 rfl f0 f1, rfl, Below.refl _ _⟩
    refine StepsS.cons (stepD_value rfl fun xa W hp => ?_) ?_
    · have f0 : xa.tmps.getD 15 undef = .pointer (some ⟨gc, 0, none⟩) := (hp.on_ 2 rfl rfl rfl rfl).2
      exact ⟨wanted_none rfl, _, _, run_ldv rfl f0 (cell_of_row W (gc) 0 _ _ _ ((hp.below.block (gc) (Array.getElem?_eq_some_iff.1 HC1.out).1).trans HC1.out)) Try.underlying86 rfl (by kernel_rfl), rfl, Below.refl _ _⟩
    refine StepsS.cons (stepD_value rfl fun xa W hp => ?_) ?_
    · have f0 : xa.tmps.getD 3 undef = .pointer (some ⟨w.heap.size, 0, none⟩) := hp.old 3 rfl
      have f1 : (Instr.fieldAt 59 (.pointer (some ⟨w.heap.size, 0, none⟩)) 0).run Try.prog W = .ok (.pointer (some ⟨w.heap.size, 0, none⟩)) W := by kernel_rfl
      exact ⟨wanted_none rfl, _, _, run_fa4 rfl f0 f1, rfl, Below.refl _ _⟩
    refine StepsS.cons (stepD_value rfl fun xa W hp => ?_) ?_
    · have f0 : xa.tmps.getD 17 undef = .pointer (some ⟨w.heap.size, 0, none⟩) := (hp.on_ 4 rfl rfl rfl rfl).2
      exact ⟨wanted_none rfl, _, _, run_ldv rfl f0 (cell_of_row W (w.heap.size) 0 _ _ _ ((hp.below.block (w.heap.size) (Array.getElem?_eq_some_iff.1 HN1.out).1).trans HN1.out)) Try.underlying9 rfl (by kernel_rfl), rfl, Below.refl _ _⟩
    refine StepsS.cons (stepD_value rfl fun xa W hp => ?_) ?_
    · have f0 : xa.tmps.getD 16 undef = .map (some mn) := (hp.on_ 3 rfl rfl rfl rfl).2
      have f1 : xa.tmps.getD 18 undef = .string n.name := (hp.on_ 5 rfl rfl rfl rfl).2
      exact ⟨wanted_none rfl, _, _, run_lkp rfl f0 f1 (HLK.out W hp.below), rfl, Below.refl _ _⟩
    refine StepsS.cons (stepD_value rfl fun xa W hp => ⟨wanted_none rfl, _, _, run_move (.inl rfl), (hp.on_ 6 rfl rfl rfl rfl).2, Below.refl _ _⟩) ?_
    refine StepsS.cons (stepD_value rfl fun xa W hp => ?_) ?_
    · have f0 : xa.tmps.getD 12 undef = .tuple #[.agg #[.string nm, .slice x1 l1 c1_, .slice x2 l2 c2, .slice x3 l3 c3, .slice x4 l4 c4, .int .i64 a5], .bool b] := (hp.on_ 7 rfl rfl rfl rfl).2
      exact ⟨wanted_none rfl, _, _, run_ext rfl f0 rfl, rfl, Below.refl _ _⟩
    refine StepsS.cons (stepD_value rfl fun xa W hp => ?_) ?_
    · have f0 : xa.tmps.getD 12 undef = .tuple #[.agg #[.string nm, .slice x1 l1 c1_, .slice x2 l2 c2, .slice x3 l3 c3, .slice x4 l4 c4, .int .i64 a5], .bool b] := (hp.on_ 7 rfl rfl rfl rfl).2
      exact ⟨wanted_none rfl, _, _, run_ext rfl f0 rfl, rfl, Below.refl _ _⟩
    refine StepsS.cons (stepD_value rfl fun xa W hp => ⟨wanted_none rfl, _, _, alloc_nd rfl, ⟨W.heap.size, rfl, hp.below.size, heap_alloc_new W _⟩, (Below.refl _ _).alloc (Nat.le_refl _) _⟩) ?_
    refine StepsS.weak (stepS_of fun xa W hp => ?_) ?_
    · obtain ⟨b, f0, hbB, hbr⟩ : wAl w1.heap.size 59 #[.string ⟨#[]⟩, .slice none 0 0, .slice none 0 0, .slice none 0 0, .slice none 0 0, .int .i64 0] (xa.tmps.getD 5 undef) W := (hp.on_ 10 rfl rfl rfl).2
      have f1 : xa.tmps.getD 20 undef = .agg #[.string nm, .slice x1 l1 c1_, .slice x2 l2 c2, .slice x3 l3 c3, .slice x4 l4 c4, .int .i64 a5] := (hp.on_ 8 rfl rfl rfl).2
      refine wpOp_of rfl (wanted_none rfl) ?_
      refine wp_store_row 59 (.tmp 5) (.tmp 20) rfl b #[.string nm, .slice x1 l1 c1_, .slice x2 l2 c2, .slice x3 l3 c3, .slice x4 l4 c4, .int .i64 a5] f0 f1 59 _ hbr HSN.out rfl (nd_one _ _ _ _ _ _ _ _ _ _ _ _ _ _) ?_
      exact ⟨undef, rfl, ⟨b, f0, hbB, setRow_heap W b _ _ _ _ hbr⟩, below_setRow (Below.refl _ _) hbB _, by rw [setRow_size]; exact Nat.le_refl _⟩
    refine StepsS.cons (stepD_value rfl fun xa W hp => ⟨wanted_none rfl, _, _, run_move (.inr rfl), (hp.on_ 9 rfl rfl rfl rfl).2, Below.refl _ _⟩) ?_
    exact StepsS.nil
  case hsw =>
    intro i v W W' h1 h2 h3 h4
    match i, h1, h2, h3 with
    | 0, _, _, h3 => exact h3
    | 1, _, _, h3 => exact h3
    | 2, _, _, h3 => exact h3
    | 3, _, _, h3 => exact h3
    | 4, _, _, h3 => exact h3
    | 5, _, _, h3 => exact h3
    | 6, _, _, h3 => exact h3
    | 7, _, _, h3 => exact h3
    | 8, _, _, h3 => exact h3
    | 9, _, _, h3 => exact h3
    | 10, _, h2, _ => exact absurd (List.mem_singleton.2 rfl) h2
    | 11, h1, _, _ => exact absurd rfl h1
    | 12, _, _, h3 => exact h3
    | _ + 13, _, _, h3 => exact h3
  case rest =>
    intro act W hI
    have hbW := Lib.hid hI.below
    have hI_below := hbW
    have h0 : act.tmps.getD 0 undef = .pointer (some ⟨gc, 0, none⟩) := hI.old 0 (by simp)
    have h3 : act.tmps.getD 3 undef = .pointer (some ⟨w.heap.size, 0, none⟩) := hI.old 3 (by simp)
    have h6 : act.tmps.getD 6 undef = .bool b := hI.new 12 _ 6 rfl rfl rfl (fun h => absurd h (by decide))
    have h4 : act.tmps.getD 4 undef = .pointer (some ⟨w.heap.size + 1, 0, none⟩) := hI.old 4 (by simp)
    have hsz_ : act.tmps.size = 73 := hI.tmps
    have hdf_ : act.defers = [] := hI.defers
    obtain ⟨fo, hf, hx⟩ := act_eta hsz_ hdf_
    rw [hf] at h0 h3 h6 h4
    clear hI hsz_ hdf_ hf
    subst hx
    have hl : ((List.range 73).map fo).toArray = (fo 0 :: fo 1 :: fo 2 :: fo 3 :: fo 4 :: fo 5 :: fo 6 :: fo 7 :: fo 8 :: fo 9 :: fo 10 :: fo 11 :: fo 12 :: fo 13 :: fo 14 :: fo 15 :: fo 16 :: fo 17 :: fo 18 :: fo 19 :: fo 20 :: fo 21 :: fo 22 :: fo 23 :: fo 24 :: fo 25 :: fo 26 :: fo 27 :: fo 28 :: fo 29 :: fo 30 :: fo 31 :: fo 32 :: fo 33 :: fo 34 :: fo 35 :: fo 36 :: fo 37 :: fo 38 :: fo 39 :: fo 40 :: fo 41 :: fo 42 :: fo 43 :: fo 44 :: fo 45 :: fo 46 :: fo 47 :: fo 48 :: fo 49 :: fo 50 :: fo 51 :: fo 52 :: fo 53 :: fo 54 :: fo 55 :: fo 56 :: fo 57 :: fo 58 :: fo 59 :: fo 60 :: fo 61 :: fo 62 :: fo 63 :: fo 64 :: fo 65 :: fo 66 :: fo 67 :: fo 68 :: fo 69 :: fo 70 :: fo 71 :: fo 72 :: []).toArray := rfl
    simp only [Exit.inBlock, Exit.then, Act.put]
    rw [hl, h0, h3, h6, h4]
    clear hl h0 h3 h6 h4
    have HF2 := Lib.hid (HF0.out.call hI_below.out)
    have HNO2 := Lib.hid (MapO.below HNO.out hI_below.out)
    have HKN2 := Lib.hid (show NdIn (· < B) W n xi xo xl xe ci co cl ce from ⟨IsD.below hI_below.out HKN.out.1, IsD.below hI_below.out HKN.out.2.1, IsD.below hI_below.out HKN.out.2.2.1, IsD.below hI_below.out HKN.out.2.2.2⟩)
    have HS2 := Lib.hid (Nat.le_trans HS1.out hI_below.out.size)
    obtain ⟨w2, hw2⟩ : ∃ w2, w2 = W := ⟨_, rfl⟩
    rw [← hw2] at HF2 HNO2 HKN2 HS2 ⊢
    clear hI_below hw2 hbW HNO HKN HF0 HC1 HN1 HLK HS1
    cases b with
    | true =>
      have HR : Hid (R = some n.at_) := Lib.hid (by rw [HR0.out, if_pos (.inl (by rw [← HBD.out]))])
      have c5 := cell_of_row _ (w.heap.size) 5 _ _ _ (HF2.out.get 1 rfl)
      have kn := namesFault_any (n.at_ : Int) w2
      clear HKN2
      go_wp2_with fail
      (with_reducible refine kn.mono ?_)
      rintro e9 w4 ⟨rfl, hb⟩
      have HF4 := Lib.hid (HF2.out.call hb)
      have HL4 := Lib.hid (HF4.out.get 2 rfl)
      clear kn hb c5
      go_wp2_with (refine wpList_store_row rfl 33 (.tmp 4) (.tmp 31) rfl (w.heap.size + 1) #[.int .i64 8, .int .i64 (n.at_ : Int)] rfl rfl 33 _ HL4.out HSF.out rfl (fault_one _ _) ?_)
      refine bodyPost_ret (v := .agg #[.int .i64 8, .int .i64 (n.at_ : Int)]) (results_cell_row (p := 4) (ty := 33) rfl _ _ (w.heap.size + 1) 33 _ (0, 0) _ rfl (setRow_heap _ (w.heap.size + 1) _ _ _ _ HL4.out) Try.underlying33 rfl HSF.out) rfl ?_
      rw [HR.out]
      exact ⟨rfl, (HF4.out.store 2 rfl _).below, fun h => by cases h⟩
    | false =>
      have c2o := cell_of_row _ (w.heap.size) 2 _ _ _ (HF2.out.get 1 rfl)
      by_cases hz : n.outs.length = 0
      · have d2 : ((n.outs.length : Int) == 0) = true := by rw [hz]; rfl
        have HR : Hid (R = some n.at_) := Lib.hid (by rw [HR0.out, if_pos (.inr hz)])
        have c5 := cell_of_row _ (w.heap.size) 5 _ _ _ (HF2.out.get 1 rfl)
        have kn := namesFault_any (n.at_ : Int) w2
        clear hz
        go_wp2_with fail
        (with_reducible refine kn.mono ?_)
        rintro e9 w4 ⟨rfl, hb⟩
        have HF4 := Lib.hid (HF2.out.call hb)
        have HL4 := Lib.hid (HF4.out.get 2 rfl)
        clear kn hb c5 c2o
        go_wp2_with (refine wpList_store_row rfl 33 (.tmp 4) (.tmp 31) rfl (w.heap.size + 1) #[.int .i64 8, .int .i64 (n.at_ : Int)] rfl rfl 33 _ HL4.out HSF.out rfl (fault_one _ _) ?_)
        refine bodyPost_ret (v := .agg #[.int .i64 8, .int .i64 (n.at_ : Int)]) (results_cell_row (p := 4) (ty := 33) rfl _ _ (w.heap.size + 1) 33 _ (0, 0) _ rfl (setRow_heap _ (w.heap.size + 1) _ _ _ _ HL4.out) Try.underlying33 rfl HSF.out) rfl ?_
        rw [HR.out]
        exact ⟨rfl, (HF4.out.store 2 rfl _).below, fun h => by cases h⟩
      · have d2 : ((n.outs.length : Int) == 0) = false := by simpa using hz
        have HR1 := Lib.hid (show R = thenL (declsN (fun _ => none) n) fun G => thenL (eqsN D G n.eqs) fun G' => lacksF G' n by
          rw [HR0.out, if_neg]
          rintro (h | h)
          · rw [← HBD.out] at h; cases h
          · exact hz h)
        obtain ⟨ms, hms⟩ : ∃ ms, ms = w2.heap.size := ⟨_, rfl⟩
        have hmm : (Instr.makeMap 87 none).run Try.prog w2 = .ok (.map (some ms)) (w2.alloc (.map #[] 0)) := by rw [hms]; exact run_makeMap (P := Try.prog) 87 w2
        have hbm : Below w2.heap.size w2 (w2.alloc (.map #[] 0)) := (Below.refl _ _).alloc (Nat.le_refl _) _
        have FM := HF2.out.call hbm
        have cg := cell_of_row _ gc 1 _ _ _ (FM.get 0 rfl)
        have fg := frozen_of_row _ gc 1 _ _ (FM.get 0 rfl)
        have FM2 : Fb B w [(gc, 89, #[.map (some mn), .map (some ms)]), (w.heap.size, 59, #[.string n.name, .slice xi n.ins.length ci, .slice xo n.outs.length co, .slice xl n.locs.length cl, .slice xe n.eqs.length ce, .int .i64 (n.at_ : Int)]), (w.heap.size + 1, 33, #[.int .i64 0, .int .i64 0])] ((w2.alloc (.map #[] 0)).setCell ⟨gc, 1, none⟩ (.map (some ms))) := FM.cell 0 rfl 1 (.map (some ms))
        have hgs := gb_set (w2.alloc (.map #[] 0)) gc 1 (.map (some ms))
        have hK0 : Kinds ((w2.alloc (.map #[] 0)).setCell ⟨gc, 1, none⟩ (.map (some ms))) ms 0 (fun _ => none) := MapO.kept (by rw [hms]; exact MapO.made Try.prog 9 w2) hgs (fun e => by injection e with e; have := HS2.out; have := HGC.out; omega)
        have hN3 := MapO.kept (MapO.below HNO2.out hbm) hgs (fun e => by injection e with e; exact HNE.out e.symm)
        have hkeep : ∀ {u : Value} {d : Dt}, IsD (· < B) w2 u d → IsD (· < B) ((w2.alloc (.map #[] 0)).setCell ⟨gc, 1, none⟩ (.map (some ms))) u d := fun h => IsD.grown hgs (fun j hj => by injection hj with hj; subst hj; exact Nat.not_lt.2 HB1.out) (IsD.below hbm h)
        have HKN3 := Lib.hid (show NdIn (· < B) ((w2.alloc (.map #[] 0)).setCell ⟨gc, 1, none⟩ (.map (some ms))) n xi xo xl xe ci co cl ce from ⟨hkeep HKN2.out.1, hkeep HKN2.out.2.1, hkeep HKN2.out.2.2.1, hkeep HKN2.out.2.2.2⟩)
        obtain ⟨w3, hw3⟩ : ∃ w3, w3 = ((w2.alloc (.map #[] 0)).setCell ⟨gc, 1, none⟩ (.map (some ms))) := ⟨_, rfl⟩
        have hs3 : w3.heap.size = w2.heap.size + 1 := by rw [hw3]; simp
        rw [← hw3] at FM2 hK0 hN3 HKN3
        have kd := declsN_any w3 gc mn ms 0 (fun _ => none) (FM2.get 0 rfl) hK0 (by have := HS2.out; have := HGC.out; omega) (by omega) B (by have := HS2.out; have := HGC.out; have := HB1.out; omega) n HON.out xi xo xl xe ci co cl ce HKN3.out
        unfold GivesDn ndV at kd
        rw [hw3] at kd
        have HF3 := Lib.hid FM2
        have HN3 := Lib.hid hN3
        have HW3 := Lib.hid hw3
        have HMS := Lib.hid hms
        have HMSB := Lib.hid (show B ≤ ms ∧ ms ≠ gc ∧ ms ≠ mn ∧ ms ≠ w.heap.size ∧ ms ≠ w.heap.size + 1 by
          have h1 := HS2.out
          have h2 := HGC.out
          have h3 := HMN.out
          have h4 := HB1.out
          have h5 := HF2.out.lt_ 2 rfl
          have h6 := HF2.out.lt_ 1 rfl
          refine ⟨by omega, by omega, by omega, by omega, by omega⟩)
        have HL1 := Lib.hid (FM2.get 1 rfl)
        rw [hw3] at HL1
        clear hz hms hbm FM FM2 hgs hK0 hN3 hkeep hw3 hs3 HF2 HNO2 HKN2
        go_wp2_with (refine wpList_load_row rfl 59 (.tmp 3) rfl w.heap.size rfl 59 #[.string n.name, .slice xi n.ins.length ci, .slice xo n.outs.length co, .slice xl n.locs.length cl, .slice xe n.eqs.length ce, .int .i64 (n.at_ : Int)] (0, 0) _ HL1.out Try.underlying59 rfl HSN.out ?_)
        (with_reducible refine kd.mono ?_)
        rw [← HW3.out]
        rintro e9 w4 ⟨rfl, ⟨m1, hm1, hK4⟩, hg4⟩
        obtain ⟨er, her⟩ : ∃ er, er = ferO 8 (declsN (fun _ => none) n).1 := ⟨_, rfl⟩
        obtain ⟨ea, hea⟩ : ∃ ea, ea = fatO (declsN (fun _ => none) n).1 := ⟨_, rfl⟩
        rw [← her, ← hea]
        have hblk : ∀ x ∈ ([(gc, 89, #[.map (some mn), .map (some ms)]), (w.heap.size, 59, #[.string n.name, .slice xi n.ins.length ci, .slice xo n.outs.length co, .slice xl n.locs.length cl, .slice xe n.eqs.length ce, .int .i64 (n.at_ : Int)]), (w.heap.size + 1, 33, #[.int .i64 0, .int .i64 0])] : List (Nat × TypeId × Array Value)), ms ≠ x.1 := fun x hx => by
          obtain ⟨_, h2, _, h4, h5⟩ := HMSB.out
          simp only [List.mem_cons, List.not_mem_nil, or_false] at hx
          rcases hx with rfl | rfl | rfl
          · exact h2
          · exact h4
          · exact h5
        have hF4 := HF3.out.own hg4 HMSB.out.1 hblk
        have hN4 := MapO.kept HN3.out hg4 (fun e => by injection e with e; exact HMSB.out.2.2.1 e.symm)
        have hkn4 : NdIn (· < B) w4 n xi xo xl xe ci co cl ce := by
          have hg : ∀ {u : Value} {d : Dt}, IsD (· < B) w3 u d → IsD (· < B) w4 u d := fun h => IsD.grown hg4 (fun j hj => by injection hj with hj; subst hj; exact Nat.not_lt.2 HMSB.out.1) h
          exact ⟨hg HKN3.out.1, hg HKN3.out.2.1, hg HKN3.out.2.2.1, hg HKN3.out.2.2.2⟩
        have HBLK := Lib.hid hblk
        have HAF := Lib.hid (heap_alloc_new w4 (.cells #[.int .i64 0, .int .i64 0] 33))
        obtain ⟨hnb, hnr⟩ := new_row w4 33 #[.int .i64 0, .int .i64 0] #[.int .i64 er, .int .i64 ea]
        have c0 := cell_of_row _ w4.heap.size 0 _ _ _ hnr
        have HF5 := Lib.hid (hF4.call hnb)
        have HN5 := Lib.hid (MapO.below hN4 hnb)
        have HK5 := Lib.hid (MapO.below hK4 hnb)
        have HM1 := Lib.hid hm1
        have HKN5 := Lib.hid (show NdIn (· < B) ((w4.alloc (.cells #[.int .i64 0, .int .i64 0] 33)).setRow w4.heap.size #[.int .i64 er, .int .i64 ea]) n xi xo xl xe ci co cl ce from ⟨IsD.below hnb hkn4.1, IsD.below hnb hkn4.2.1, IsD.below hnb hkn4.2.2.1, IsD.below hnb hkn4.2.2.2⟩)
        have HRF := Lib.hid hnr
        have HL5 := Lib.hid (HF5.out.get 2 rfl)
        have HER := Lib.hid her
        have HEA := Lib.hid hea
        clear kd hm1 hK4 hg4 hblk hF4 hN4 hkn4 hnb hnr her hea HF3 HN3 HKN3 HL1 cg fg hmm
        cases hP : (declsN (fun _ => none) n).1 with
        | some a =>
          have e0 : er = 8 := by rw [HER.out, hP]; rfl
          have e1 : ea = (a : Int) := by rw [HEA.out, hP]; rfl
          have HR : Hid (R = some a) := Lib.hid (by rw [HR1.out, thenL_hit hP])
          have d3 : (er != 0) = true := by rw [e0]; rfl
          have HE0 := Lib.hid e0
          have HE1 := Lib.hid e1
          clear hP e0 e1
          go_wp2_with (first | (refine wpList_store_row rfl 33 (.tmp 7) (.tmp 38) rfl w4.heap.size #[.int .i64 er, .int .i64 ea] rfl rfl 33 _ HAF.out HSF.out rfl (fault_one _ _) ?_) | (refine wpList_load_row rfl 33 (.tmp 7) rfl w4.heap.size rfl 33 #[.int .i64 er, .int .i64 ea] (0, 0) _ HRF.out Try.underlying33 rfl HSF.out ?_) | (refine wpList_store_row rfl 33 (.tmp 4) (.tmp 42) rfl (w.heap.size + 1) #[.int .i64 er, .int .i64 ea] rfl rfl 33 _ HL5.out HSF.out rfl (fault_one _ _) ?_))
          refine bodyPost_ret (v := .agg #[.int .i64 er, .int .i64 ea]) (results_cell_row (p := 4) (ty := 33) rfl _ _ (w.heap.size + 1) 33 _ (0, 0) _ rfl (setRow_heap _ (w.heap.size + 1) _ _ _ _ HL5.out) Try.underlying33 rfl HSF.out) rfl ?_
          exact ⟨by rw [HR.out, HE0.out, HE1.out]; rfl, (HF5.out.store 2 rfl _).below, fun h => by rw [HR.out] at h; cases h⟩
        | none =>
          have e0 : er = 0 := by rw [HER.out, hP]; rfl
          have d3 : (er != 0) = false := by rw [e0]; rfl
          obtain ⟨G1, hG1⟩ : ∃ G1, G1 = (declsN (fun _ => none) n).2 := ⟨_, rfl⟩
          have HR2 := Lib.hid (show R = thenL (eqsN D G1 (n.eqs.drop 0)) fun G' => lacksF G' n by rw [HR1.out, thenL_skip hP, hG1]; rfl)
          have HK6 := Lib.hid (show Kinds ((w4.alloc (.cells #[.int .i64 0, .int .i64 0] 33)).setRow w4.heap.size #[.int .i64 er, .int .i64 ea]) ms m1 G1 by rw [hG1]; exact HK5.out)
          have c4e := cell_of_row _ (w.heap.size) 4 _ _ _ (HF5.out.get 1 rfl)
          have HHR := Lib.hid HF5.out.below.size
          clear hP e0 hG1 HK5
          go_wp2_with (refine wpList_store_row rfl 33 (.tmp 7) (.tmp 38) rfl w4.heap.size #[.int .i64 er, .int .i64 ea] rfl rfl 33 _ HAF.out HSF.out rfl (fault_one _ _) ?_)
          go_loopw [46] (fun v46 wr => ∃ (i m' : Nat) (G' : List UInt8 → Option Int), v46 = .int .i64 (i : Int) ∧ i ≤ n.eqs.length ∧ m' ≤ 1000010 + i ∧ Fb B w [(gc, 89, #[.map (some mn), .map (some ms)]), (w.heap.size, 59, #[.string n.name, .slice xi n.ins.length ci, .slice xo n.outs.length co, .slice xl n.locs.length cl, .slice xe n.eqs.length ce, .int .i64 (n.at_ : Int)]), (w.heap.size + 1, 33, #[.int .i64 0, .int .i64 0])] wr ∧ (Kinds wr ms m' G' ∧ MapO Try.prog 9 wr mn k F ∧ NdIn (· < B) wr n xi xo xl xe ci co cl ce) ∧ R = thenL (eqsN D G' (n.eqs.drop i)) fun G' => lacksF G' n)
            (fun v46 _ => n.eqs.length - (intOf v46).toNat)
          case atStart => exact ⟨0, m1, G1, rfl, Nat.zero_le _, by have := HM1.out; omega, HF5.out, ⟨HK6.out, HN5.out, HKN5.out⟩, HR2.out⟩
          case round =>
            clear HF5 HK6 HN5 HKN5 HR2 c4e HL5 HRF HAF c0 d3 HHR
            obtain ⟨i, m', G', rfl, hi, hmi, hF, ⟨hK, hNn, hkn⟩, hq⟩ := hrel
            have HI_ := Lib.hid hi
            have HMI := Lib.hid hmi
            clear hi hmi
            by_cases hil : i < n.eqs.length
            · have d1 : decide ((i : Int) < (n.eqs.length : Int)) = true := by simp; omega
              have HIL := Lib.hid hil
              rw [List.drop_eq_getElem_cons hil] at hq
              obtain ⟨g1, hxe, hg1, xq, cq, hrg, hkq⟩ := qe_at hkn.2.2.2 i HIL.out
              subst hxe
              obtain ⟨hq1, hq2⟩ := okQs_at HO4.out i HIL.out
              obtain ⟨q, hqq⟩ : ∃ q, q = n.eqs[i]'HIL.out := ⟨_, rfl⟩
              rw [← hqq] at hq hrg hkq hq1 hq2
              have HRV := Lib.hid hrg
              have HAL := Lib.hid (heap_alloc_new wr (.cells #[.string ⟨#[]⟩, .string ⟨#[]⟩, .string ⟨#[]⟩, .int .i64 0, .int .i64 0, .slice none 0 0, .int .i64 0] 55))
              obtain ⟨hnb, hnr⟩ := new_row wr 55 #[.string ⟨#[]⟩, .string ⟨#[]⟩, .string ⟨#[]⟩, .int .i64 0, .int .i64 0, .slice none 0 0, .int .i64 0] #[.string q.name, .string q.e.op, .string q.e.name, .int .i64 q.e.n, .int .i64 (q.e.at_ : Int), .slice xq q.e.kids.length cq, .int .i64 (q.at_ : Int)]
              have HF1 := Lib.hid (hF.call hnb)
              have HN1 := Lib.hid hnr
              have hch1 : Chk ((wr.alloc (.cells #[.string ⟨#[]⟩, .string ⟨#[]⟩, .string ⟨#[]⟩, .int .i64 0, .int .i64 0, .slice none 0 0, .int .i64 0] 55)).setRow wr.heap.size #[.string q.name, .string q.e.op, .string q.e.name, .int .i64 q.e.n, .int .i64 (q.e.at_ : Int), .slice xq q.e.kids.length cq, .int .i64 (q.at_ : Int)]) gc mn ms m' G' F k := ⟨HF1.out.get 0 rfl, MapO.below hK hnb, MapO.below hNn hnb⟩
              have HNN1 := Lib.hid hch1.2.2
              have HKN1 := Lib.hid (show NdIn (· < B) ((wr.alloc (.cells #[.string ⟨#[]⟩, .string ⟨#[]⟩, .string ⟨#[]⟩, .int .i64 0, .int .i64 0, .slice none 0 0, .int .i64 0] 55)).setRow wr.heap.size #[.string q.name, .string q.e.op, .string q.e.name, .int .i64 q.e.n, .int .i64 (q.e.at_ : Int), .slice xq q.e.kids.length cq, .int .i64 (q.at_ : Int)]) n xi xo xl (some ⟨g1, 0, none⟩) ci co cl ce from ⟨IsD.below hnb hkn.1, IsD.below hnb hkn.2.1, IsD.below hnb hkn.2.2.1, IsD.below hnb hkn.2.2.2⟩)
              have HFEW := Lib.hid (IsD.few hkn.2.2.2)
              have i0 : (0 : Int) ≤ (i : Int) := by omega
              have i1 : (i : Int) < (n.eqs.length : Int) := by omega
              have ke := eqN_any _ gc mn ms m' G' F D k hch1 HD.out (by have := HMI.out; have := HFEW.out; have := HI_.out; have : maxLen = 9223372036854775807 := rfl; omega) ⟨HMSB.out.2.1, HMSB.out.2.2.1⟩ B HMSB.out.1 q hq2 hq1 xq cq (IsD.below hnb hkq)
              unfold GivesEq qeV at ke
              have HQ := Lib.hid hq
              clear hil hqq hrg hnb hnr hq1 hq2 hg1 hq hF hK hNn hkn hch1 hkq
              obtain ⟨er2, her⟩ : ∃ er, er = ferO 8 (eqN D G' q).1 := ⟨_, rfl⟩
              obtain ⟨ea2, hea⟩ : ∃ ea, ea = fatO (eqN D G' q).1 := ⟨_, rfl⟩
              rw [← her, ← hea] at ke
              have HER2 := Lib.hid her
              have HEA2 := Lib.hid hea
              clear her hea
              go_wp2_with (first | (refine wpList_load_mid rfl 55 (.tmp 48) rfl g1 (i * 7) rfl (qeC q.name q.e xq cq (q.at_ : Int)) _ ?_ Try.underlying55 rfl HSQ.out ?_; (exact HRV.out)) | (refine wpList_store_row rfl 55 (.tmp 9) (.tmp 49) rfl wr.heap.size #[.string q.name, .string q.e.op, .string q.e.name, .int .i64 q.e.n, .int .i64 (q.e.at_ : Int), .slice xq q.e.kids.length cq, .int .i64 (q.at_ : Int)] rfl rfl 55 _ HAL.out HSQ.out rfl (qS_one _ _ _ _ _ _ _ _ _) ?_) | (refine wpList_load_row rfl 55 (.tmp 9) rfl wr.heap.size rfl 55 #[.string q.name, .string q.e.op, .string q.e.name, .int .i64 q.e.n, .int .i64 (q.e.at_ : Int), .slice xq q.e.kids.length cq, .int .i64 (q.at_ : Int)] (0, 0) _ HN1.out Try.underlying55 rfl HSQ.out ?_))
              (with_reducible refine ke.mono ?_)
              rintro e9 w6 ⟨rfl, hK6, hg6⟩
              have hF6 := HF1.out.own hg6 HMSB.out.1 HBLK.out
              have hN6 := MapO.kept HNN1.out hg6 (fun e => by injection e with e; exact HMSB.out.2.2.1 e.symm)
              have hg : ∀ {u : Value} {d : Dt}, IsD (· < B) ((wr.alloc (.cells #[.string ⟨#[]⟩, .string ⟨#[]⟩, .string ⟨#[]⟩, .int .i64 0, .int .i64 0, .slice none 0 0, .int .i64 0] 55)).setRow wr.heap.size #[.string q.name, .string q.e.op, .string q.e.name, .int .i64 q.e.n, .int .i64 (q.e.at_ : Int), .slice xq q.e.kids.length cq, .int .i64 (q.at_ : Int)]) u d → IsD (· < B) w6 u d := fun h => IsD.grown hg6 (fun j hj => by injection hj with hj; subst hj; exact Nat.not_lt.2 HMSB.out.1) h
              have HAF2 := Lib.hid (heap_alloc_new w6 (.cells #[.int .i64 0, .int .i64 0] 33))
              obtain ⟨hnb, hnr⟩ := new_row w6 33 #[.int .i64 0, .int .i64 0] #[.int .i64 er2, .int .i64 ea2]
              have c0 := cell_of_row _ w6.heap.size 0 _ _ _ hnr
              have HF7 := Lib.hid (hF6.call hnb)
              have HN7 := Lib.hid (MapO.below hN6 hnb)
              have HK7 := Lib.hid (MapO.below hK6 hnb)
              have HKN7 := Lib.hid (show NdIn (· < B) ((w6.alloc (.cells #[.int .i64 0, .int .i64 0] 33)).setRow w6.heap.size #[.int .i64 er2, .int .i64 ea2]) n xi xo xl (some ⟨g1, 0, none⟩) ci co cl ce from ⟨IsD.below hnb (hg HKN1.out.1), IsD.below hnb (hg HKN1.out.2.1), IsD.below hnb (hg HKN1.out.2.2.1), IsD.below hnb (hg HKN1.out.2.2.2)⟩)
              have HRF2 := Lib.hid hnr
              have HL7 := Lib.hid (HF7.out.get 2 rfl)
              clear ke hK6 hg6 hF6 hN6 hg hnb hnr
              cases hP : (eqN D G' q).1 with
              | some a =>
                have e0 : er2 = 8 := by rw [HER2.out, hP]; rfl
                have e1 : ea2 = (a : Int) := by rw [HEA2.out, hP]; rfl
                have HR : Hid (R = some a) := Lib.hid (by rw [HQ.out, eqsN_hit hP])
                have d3 : (er2 != 0) = true := by rw [e0]; rfl
                have HE0 := Lib.hid e0
                have HE1 := Lib.hid e1
                clear hP e0 e1
                go_wp2_with (first | (refine wpList_store_row rfl 33 (.tmp 10) (.tmp 52) rfl w6.heap.size #[.int .i64 er2, .int .i64 ea2] rfl rfl 33 _ HAF2.out HSF.out rfl (fault_one _ _) ?_) | (refine wpList_load_row rfl 33 (.tmp 10) rfl w6.heap.size rfl 33 #[.int .i64 er2, .int .i64 ea2] (0, 0) _ HRF2.out Try.underlying33 rfl HSF.out ?_) | (refine wpList_store_row rfl 33 (.tmp 4) (.tmp 56) rfl (w.heap.size + 1) #[.int .i64 er2, .int .i64 ea2] rfl rfl 33 _ HL7.out HSF.out rfl (fault_one _ _) ?_))
                refine bodyPost_ret (v := .agg #[.int .i64 er2, .int .i64 ea2]) (results_cell_row (p := 4) (ty := 33) rfl _ _ (w.heap.size + 1) 33 _ (0, 0) _ rfl (setRow_heap _ (w.heap.size + 1) _ _ _ _ HL7.out) Try.underlying33 rfl HSF.out) rfl ?_
                exact ⟨by rw [HR.out, HE0.out, HE1.out]; rfl, (HF7.out.store 2 rfl _).below, fun h => by rw [HR.out] at h; cases h⟩
              | none =>
                have e0 : er2 = 0 := by rw [HER2.out, hP]; rfl
                have d3 : (er2 != 0) = false := by rw [e0]; rfl
                have HQ2 := Lib.hid (show R = thenL (eqsN D (eqN D G' q).2 (n.eqs.drop (i + 1))) fun G' => lacksF G' n by rw [HQ.out, eqsN_skip hP])
                clear hP e0
                go_wp2_with (refine wpList_store_row rfl 33 (.tmp 10) (.tmp 52) rfl w6.heap.size #[.int .i64 er2, .int .i64 ea2] rfl rfl 33 _ HAF2.out HSF.out rfl (fault_one _ _) ?_)
                refine ⟨⟨i + 1, m' + 1, _, wrap_succ (by have := HIL.out; have := HFEW.out; omega), HIL.out, by have := HMI.out; omega, HF7.out, ⟨HK7.out, HN7.out, HKN7.out⟩, HQ2.out⟩, ?_⟩
                rw [wrap_succ (by have := HIL.out; have := HFEW.out; omega)]
                simp [intOf]; omega
            · have d1 : decide ((i : Int) < (n.eqs.length : Int)) = false := by simp; omega
              obtain rfl : i = n.eqs.length := by have := HI_.out; omega
              have HR3 := Lib.hid (show R = lacksF G' n by rw [hq, List.drop_length]; rfl)
              have kl := lacks_any wr gc mn ms m' G' F D k ⟨hF.get 0 rfl, hK, hNn⟩ HD.out n HON.out _ xi xo xl xe ci co cl ce hkn
              unfold GivesO ndV at kl
              have HL8 := Lib.hid (hF.get 1 rfl)
              have HF8 := Lib.hid hF
              have HK8 := Lib.hid hK
              have HN8 := Lib.hid hNn
              obtain ⟨er3, her⟩ : ∃ er, er = ferO 8 (lacksF G' n) := ⟨_, rfl⟩
              obtain ⟨ea3, hea⟩ : ∃ ea, ea = fatO (lacksF G' n) := ⟨_, rfl⟩
              rw [← her, ← hea] at kl
              have HER3 := Lib.hid her
              have HEA3 := Lib.hid hea
              clear her hea hil hq hF hK hNn hkn
              go_wp2_with (refine wpList_load_row rfl 59 (.tmp 3) rfl w.heap.size rfl 59 #[.string n.name, .slice xi n.ins.length ci, .slice xo n.outs.length co, .slice xl n.locs.length cl, .slice xe n.eqs.length ce, .int .i64 (n.at_ : Int)] (0, 0) _ HL8.out Try.underlying59 rfl HSN.out ?_)
              (with_reducible refine kl.mono ?_)
              rintro e9 w8 ⟨rfl, hb⟩
              have hF8 := HF8.out.call hb
              have HAF3 := Lib.hid (heap_alloc_new w8 (.cells #[.int .i64 0, .int .i64 0] 33))
              obtain ⟨hnb, hnr⟩ := new_row w8 33 #[.int .i64 0, .int .i64 0] #[.int .i64 er3, .int .i64 ea3]
              have c0 := cell_of_row _ w8.heap.size 0 _ _ _ hnr
              have HF9 := Lib.hid (hF8.call hnb)
              have HN9_ := Lib.hid (MapO.below (MapO.below HN8.out hb) hnb)
              have HRF3 := Lib.hid hnr
              have HL9 := Lib.hid (HF9.out.get 2 rfl)
              clear kl hb hnb hnr hF8
              cases hP : lacksF G' n with
              | some a =>
                have e0 : er3 = 8 := by rw [HER3.out, hP]; rfl
                have e1 : ea3 = (a : Int) := by rw [HEA3.out, hP]; rfl
                have HR : Hid (R = some a) := Lib.hid (by rw [HR3.out, hP])
                have d3 : (er3 != 0) = true := by rw [e0]; rfl
                have HE0 := Lib.hid e0
                have HE1 := Lib.hid e1
                clear hP e0 e1
                go_wp2_with (first | (refine wpList_store_row rfl 33 (.tmp 11) (.tmp 60) rfl w8.heap.size #[.int .i64 er3, .int .i64 ea3] rfl rfl 33 _ HAF3.out HSF.out rfl (fault_one _ _) ?_) | (refine wpList_load_row rfl 33 (.tmp 11) rfl w8.heap.size rfl 33 #[.int .i64 er3, .int .i64 ea3] (0, 0) _ HRF3.out Try.underlying33 rfl HSF.out ?_) | (refine wpList_store_row rfl 33 (.tmp 4) (.tmp 64) rfl (w.heap.size + 1) #[.int .i64 er3, .int .i64 ea3] rfl rfl 33 _ HL9.out HSF.out rfl (fault_one _ _) ?_))
                refine bodyPost_ret (v := .agg #[.int .i64 er3, .int .i64 ea3]) (results_cell_row (p := 4) (ty := 33) rfl _ _ (w.heap.size + 1) 33 _ (0, 0) _ rfl (setRow_heap _ (w.heap.size + 1) _ _ _ _ HL9.out) Try.underlying33 rfl HSF.out) rfl ?_
                exact ⟨by rw [HR.out, HE0.out, HE1.out]; rfl, (HF9.out.store 2 rfl _).below, fun h => by rw [HR.out] at h; cases h⟩
              | none =>
                have e0 : er3 = 0 := by rw [HER3.out, hP]; rfl
                have HR : Hid (R = none) := Lib.hid (by rw [HR3.out, hP])
                have d3 : (er3 != 0) = false := by rw [e0]; rfl
                obtain ⟨w9, hw9⟩ : ∃ w9, w9 = ((w8.alloc (.cells #[.int .i64 0, .int .i64 0] 33)).setRow w8.heap.size #[.int .i64 er3, .int .i64 ea3]) := ⟨_, rfl⟩
                have HC9 := Lib.hid (HF9.out.get 0 rfl)
                have HN9 := Lib.hid (HF9.out.get 1 rfl)
                rw [← hw9] at HC9 HN9 HF9 HN9_ c0
                have HW9 := Lib.hid hw9
                clear hP e0 hw9
                rw [HW9.out] at c0
                go_wp2_with (refine wpList_store_row rfl 33 (.tmp 11) (.tmp 60) rfl w8.heap.size #[.int .i64 er3, .int .i64 ea3] rfl rfl 33 _ HAF3.out HSF.out rfl (fault_one _ _) ?_)
                rw [← HW9.out]
                refine wp_region_steps_then (words [wIs (.pointer (some ⟨gc, 0, none⟩)), wIs (.pointer (some ⟨gc, 0, none⟩)), wIs (.pointer (some ⟨gc, 0, none⟩)), wIs (.map (some mn)), wIs (.pointer (some ⟨w.heap.size, 0, none⟩)), wIs (.string n.name), wIs (.agg #[.string n.name, .slice xi n.ins.length ci, .slice xo n.outs.length co, .slice xl n.locs.length cl, .slice xe n.eqs.length ce, .int .i64 (n.at_ : Int)])]) w9.heap.size w9 (by kernel_rfl) (Below.refl _ _) (Nat.le_refl _) (words_stable ?stab) rfl rfl rfl (by kernel_rfl) _ rfl ?steps ?last
                case stab =>
                  intro f hf
                  simp only [List.mem_cons, List.not_mem_nil, or_false] at hf
                  rcases hf with rfl | rfl | rfl | rfl | rfl | rfl | rfl <;> first | exact stable_is _
                case steps =>
                  refine Steps.cons (step_value rfl fun xa W hp => ⟨wanted_none rfl, _, _, run_move (.inl rfl), hp.old 0 rfl, Below.refl _ _⟩) ?_
                  refine Steps.cons (step_value rfl fun xa W hp => ?_) ?_
                  · have f0 : xa.tmps.getD 65 undef = .pointer (some ⟨gc, 0, none⟩) := (hp.on_ 0 rfl rfl rfl).2
                    exact ⟨wanted_none rfl, _, _, run_nil rfl f0, rfl, Below.refl _ _⟩
                  refine Steps.cons (step_value rfl fun xa W hp => ?_) ?_
                  · have f0 : xa.tmps.getD 66 undef = .pointer (some ⟨gc, 0, none⟩) := (hp.on_ 1 rfl rfl rfl).2
                    have f1 : (Instr.fieldAt 89 (.pointer (some ⟨gc, 0, none⟩)) 0).run Try.prog W = .ok (.pointer (some ⟨gc, 0, none⟩)) W := by kernel_rfl
                    exact ⟨wanted_none rfl, _, _, run_fa4 rfl f0 f1, rfl, Below.refl _ _⟩
                  refine Steps.cons (step_value rfl fun xa W hp => ?_) ?_
                  · have f0 : xa.tmps.getD 67 undef = .pointer (some ⟨gc, 0, none⟩) := (hp.on_ 2 rfl rfl rfl).2
                    exact ⟨wanted_none rfl, _, _, run_ldv rfl f0 (cell_of_row W (gc) 0 _ _ _ ((hp.below.block (gc) (Array.getElem?_eq_some_iff.1 HC9.out).1).trans HC9.out)) Try.underlying86 rfl (by kernel_rfl), rfl, Below.refl _ _⟩
                  refine Steps.cons (step_value rfl fun xa W hp => ?_) ?_
                  · have f0 : xa.tmps.getD 3 undef = .pointer (some ⟨w.heap.size, 0, none⟩) := hp.old 3 rfl
                    have f1 : (Instr.fieldAt 59 (.pointer (some ⟨w.heap.size, 0, none⟩)) 0).run Try.prog W = .ok (.pointer (some ⟨w.heap.size, 0, none⟩)) W := by kernel_rfl
                    exact ⟨wanted_none rfl, _, _, run_fa4 rfl f0 f1, rfl, Below.refl _ _⟩
                  refine Steps.cons (step_value rfl fun xa W hp => ?_) ?_
                  · have f0 : xa.tmps.getD 69 undef = .pointer (some ⟨w.heap.size, 0, none⟩) := (hp.on_ 4 rfl rfl rfl).2
                    exact ⟨wanted_none rfl, _, _, run_ldv rfl f0 (cell_of_row W (w.heap.size) 0 _ _ _ ((hp.below.block (w.heap.size) (Array.getElem?_eq_some_iff.1 HN9.out).1).trans HN9.out)) Try.underlying9 rfl (by kernel_rfl), rfl, Below.refl _ _⟩
                  refine Steps.cons (step_value rfl fun xa W hp => ?_) ?_
                  · have f0 : xa.tmps.getD 3 undef = .pointer (some ⟨w.heap.size, 0, none⟩) := hp.old 3 rfl
                    exact ⟨wanted_none rfl, _, _, run_ldrow rfl f0 ((hp.below.block (w.heap.size) (Array.getElem?_eq_some_iff.1 HN9.out).1).trans HN9.out) Try.underlying59 rfl HSN.out, rfl, Below.refl _ _⟩
                  exact Steps.nil
                case last =>
                  intro act W hI
                  have fm : act.tmps.getD 68 undef = .map (some mn) := hI.new 3 _ 68 rfl rfl rfl
                  have fs : act.tmps.getD 70 undef = .string n.name := hI.new 5 _ 70 rfl rfl rfl
                  have fv : act.tmps.getD 71 undef = .agg #[.string n.name, .slice xi n.ins.length ci, .slice xo n.outs.length co, .slice xl n.locs.length cl, .slice xe n.eqs.length ce, .int .i64 (n.at_ : Int)] := hI.new 6 _ 71 rfl rfl rfl
                  refine wpOp_of rfl (wanted_none rfl) ?_
                  refine wp_mapset (t := 86) (.tmp 68) (.tmp 70) (.tmp 71) rfl fm n.name fs (.agg #[.string n.name, .slice xi n.ins.length ci, .slice xo n.outs.length co, .slice xl n.locs.length cl, .slice xe n.eqs.length ce, .int .i64 (n.at_ : Int)]) fv (MapO.below HN9_.out hI.below) Try.underlying9 Try.underlying86 (by have := HK.out; have : maxLen = 9223372036854775807 := rfl; omega) HNM.out ?_
                  intro w10 hK6 hg6
                  have hmnb : ∀ x ∈ ([(gc, 89, #[.map (some mn), .map (some ms)]), (w.heap.size, 59, #[.string n.name, .slice xi n.ins.length ci, .slice xo n.outs.length co, .slice xl n.locs.length cl, .slice xe n.eqs.length ce, .int .i64 (n.at_ : Int)]), (w.heap.size + 1, 33, #[.int .i64 0, .int .i64 0])] : List (Nat × TypeId × Array Value)), mn ≠ x.1 := fun x hx => by
                    have h1 := HNE.out
                    have h2 := HMN.out
                    simp only [List.mem_cons, List.not_mem_nil, or_false] at hx
                    rcases hx with rfl | rfl | rfl
                    · exact fun e => h1 e.symm
                    · show mn ≠ w.heap.size; omega
                    · show mn ≠ w.heap.size + 1; omega
                  have HFA := Lib.hid ((HF9.out.call hI.below).own hg6 HB2.out hmnb)
                  have HLA := Lib.hid (HFA.out.get 2 rfl)
                  have HMA := Lib.hid hK6
                  have HGA := Lib.hid ((HFA.out.store 2 rfl #[.int .i64 0, .int .i64 0]).get 0 rfl)
                  have HBA := Lib.hid ((HFA.out.store 2 rfl #[.int .i64 0, .int .i64 0]).below)
                  have HMB := Lib.hid (MapO.kept hK6 (gb_rowN w10 (w.heap.size + 1) #[.int .i64 0, .int .i64 0]) (fun e => by injection e with e; have := HMN.out; omega))
                  clear hmnb
                  have h4 : act.tmps.getD 4 undef = .pointer (some ⟨w.heap.size + 1, 0, none⟩) := hI.old 4 (by simp)
                  have hsz_ : act.tmps.size = 73 := hI.tmps
                  have hdf_ : act.defers = [] := hI.defers
                  obtain ⟨fo, hf, hx⟩ := act_eta hsz_ hdf_
                  rw [hf] at h4
                  clear hI hsz_ hdf_ hf fm fs fv hK6 hg6
                  subst hx
                  have hl : ((List.range 73).map fo).toArray = (fo 0 :: fo 1 :: fo 2 :: fo 3 :: fo 4 :: fo 5 :: fo 6 :: fo 7 :: fo 8 :: fo 9 :: fo 10 :: fo 11 :: fo 12 :: fo 13 :: fo 14 :: fo 15 :: fo 16 :: fo 17 :: fo 18 :: fo 19 :: fo 20 :: fo 21 :: fo 22 :: fo 23 :: fo 24 :: fo 25 :: fo 26 :: fo 27 :: fo 28 :: fo 29 :: fo 30 :: fo 31 :: fo 32 :: fo 33 :: fo 34 :: fo 35 :: fo 36 :: fo 37 :: fo 38 :: fo 39 :: fo 40 :: fo 41 :: fo 42 :: fo 43 :: fo 44 :: fo 45 :: fo 46 :: fo 47 :: fo 48 :: fo 49 :: fo 50 :: fo 51 :: fo 52 :: fo 53 :: fo 54 :: fo 55 :: fo 56 :: fo 57 :: fo 58 :: fo 59 :: fo 60 :: fo 61 :: fo 62 :: fo 63 :: fo 64 :: fo 65 :: fo 66 :: fo 67 :: fo 68 :: fo 69 :: fo 70 :: fo 71 :: fo 72 :: []).toArray := rfl
                  simp only [Exit.inBlock, Exit.then, Act.put]
                  rw [hl, h4]
                  clear hl h4
                  go_wp2_with (refine wpList_store_row rfl 33 (.tmp 4) (.tmp 72) rfl (w.heap.size + 1) #[.int .i64 0, .int .i64 0] rfl rfl 33 _ HLA.out HSF.out rfl (fault_one _ _) ?_)
                  refine bodyPost_ret (v := .agg #[.int .i64 0, .int .i64 0]) (results_cell_row (p := 4) (ty := 33) rfl _ _ (w.heap.size + 1) 33 _ (0, 0) _ rfl (setRow_heap _ (w.heap.size + 1) _ _ _ _ HLA.out) Try.underlying33 rfl HSF.out) rfl ?_
                  exact ⟨by rw [HR.out]; rfl, HBA.out, fun _ => ⟨_, _, HGA.out, HMB.out, HD.out.set n xi xo xl xe ci co cl ce⟩⟩
end Go.Proofs.Ytbgngmnpepnflaa

namespace Go.Proofs.Ytbgngmnpepnflaa
open Go Go.RowKit
def namesFrom (D : List UInt8 → Option Nd) : List Nd → Option Nat
  | [] => none
  | n :: r => match nodeN D n with
    | some a => some a
    | none => namesFrom (nset D n) r
/-- A program's first fault of names. -/
def namesF (l : List Nd) : Option Nat := namesFrom (fun _ => none) l
theorem namesFrom_hit {D : List UInt8 → Option Nd} {n : Nd} {r : List Nd} {a : Nat} (h : nodeN D n = some a) : namesFrom D (n :: r) = some a := by
  unfold namesFrom
  rw [h]
theorem namesFrom_skip {D : List UInt8 → Option Nd} {n : Nd} {r : List Nd} (h : nodeN D n = none) : namesFrom D (n :: r) = namesFrom (nset D n) r := by
  conv => lhs; unfold namesFrom
  rw [h]
theorem NodesM.none : NodesM (fun _ => Option.none) (fun _ => Option.none) := fun _ => rfl
set_option maxHeartbeats 4000000 in
set_option maxRecDepth 100000 in
theorem namesCheck_any (l : List Nd) (hall : ∀ (i : Nat) (h : i < l.length), okNd l[i] = true) (hl : l.length ≤ 1000000) (w : World) (ok : Nat → Prop) (x : Option Addr) (c : Nat) (hk : IsD ok w (.slice x l.length c) (.sl l.length (ndsD l))) : Calls Try.prog 15 #[.slice x l.length c] w (GivesO 8 (namesF l) w) := by
  have hk0 : IsD (· < w.heap.size) w (.slice x l.length c) (.sl l.length (ndsD l)) := hk.mono (fun _ _ h => h)
  have hbA : Below w.heap.size w ((w.alloc (.cells #[.int .i64 0, .int .i64 0] 33)).alloc (.map #[] 0)) := ((Below.refl _ _).alloc (Nat.le_refl _) _).alloc (by simp) _
  have hsA : ((w.alloc (.cells #[.int .i64 0, .int .i64 0] 33)).alloc (.map #[] 0)).heap.size = w.heap.size + 1 + 1 := by simp
  have hrA : ((w.alloc (.cells #[.int .i64 0, .int .i64 0] 33)).alloc (.map #[] 0)).heap[w.heap.size]? = some (.cells #[.int .i64 0, .int .i64 0] 33 (0, 0)) := ((((Below.refl _ _).alloc (Nat.le_refl _) _ : Below (w.alloc (.cells #[.int .i64 0, .int .i64 0] 33)).heap.size (w.alloc (.cells #[.int .i64 0, .int .i64 0] 33)) ((w.alloc (.cells #[.int .i64 0, .int .i64 0] 33)).alloc (.map #[] 0)))).block w.heap.size (by simp)).trans (heap_alloc_new w _)
  have hmm : (Instr.makeMap 86 none).run Try.prog (w.alloc (.cells #[.int .i64 0, .int .i64 0] 33)) = .ok (.map (some (w.heap.size + 1))) ((w.alloc (.cells #[.int .i64 0, .int .i64 0] 33)).alloc (.map #[] 0)) := by
    have := run_makeMap (P := Try.prog) 86 (w.alloc (.cells #[.int .i64 0, .int .i64 0] 33))
    rw [show (w.alloc (.cells #[.int .i64 0, .int .i64 0] 33)).heap.size = w.heap.size + 1 by simp] at this
    exact this
  have hMA : MapO Try.prog 9 ((w.alloc (.cells #[.int .i64 0, .int .i64 0] 33)).alloc (.map #[] 0)) (w.heap.size + 1) 0 (fun _ => none) := by
    have := MapO.made Try.prog 9 (w.alloc (.cells #[.int .i64 0, .int .i64 0] 33))
    rw [show (w.alloc (.cells #[.int .i64 0, .int .i64 0] 33)).heap.size = w.heap.size + 1 by simp] at this
    exact this
  obtain ⟨hbB, hrB⟩ := new_row ((w.alloc (.cells #[.int .i64 0, .int .i64 0] 33)).alloc (.map #[] 0)) 89 #[.map none, .map none] #[.map (some (w.heap.size + 1)), .map none]
  rw [hsA] at hbB hrB
  have hAL := heap_alloc_new ((w.alloc (.cells #[.int .i64 0, .int .i64 0] 33)).alloc (.map #[] 0)) (.cells #[.map none, .map none] 89)
  rw [hsA] at hAL
  have HSF := Lib.hid size_flt
  have HSN := Lib.hid size_nS
  have HSC := Lib.hid size_ck
  have HAL := Lib.hid hAL
  have HR0 := Lib.hid ((hbB.block (w.heap.size) (by omega)).trans hrA)
  have HGC := Lib.hid hrB
  have HMN := Lib.hid (MapO.below hMA (hbB.mono (Nat.le_of_eq hsA)))
  have HBW := Lib.hid (hbA.trans (hbB.mono (by omega)))
  have HK := Lib.hid hk0
  have HALL := Lib.hid hall
  have HLL := Lib.hid hl
  obtain ⟨R, hR⟩ : ∃ R, R = namesF l := ⟨_, rfl⟩
  rw [← hR]
  have HRR := Lib.hid (show R = namesFrom (fun _ => none) (l.drop 0) from hR)
  clear hk hk0 hall hl hbA hrA hMA hbB hrB hAL hR hsA
  unfold GivesO
  go_enter Try.func15, Try.ntmps15
  go_wp2_with (refine wpList_store_row rfl 89 (.tmp 3) (.tmp 8) rfl (w.heap.size + 1 + 1) #[.map (some (w.heap.size + 1)), .map none] rfl rfl 89 _ HAL.out HSC.out rfl (ck_one _ _) ?_)
  clear hmm
  go_loopw [11] (fun v11 wr => ∃ (i : Nat) (msv : Value) (F : List UInt8 → Option Value) (D : List UInt8 → Option Nd), v11 = .int .i64 (i : Int) ∧ i ≤ l.length ∧ (Below w.heap.size w wr ∧ wr.heap[w.heap.size]? = some (.cells #[.int .i64 0, .int .i64 0] 33 (0, 0)) ∧ wr.heap[w.heap.size + 1 + 1]? = some (.cells #[.map (some (w.heap.size + 1)), msv] 89 (0, 0)) ∧ MapO Try.prog 9 wr (w.heap.size + 1) i F ∧ NodesM F D) ∧ R = namesFrom D (l.drop i))
    (fun v11 _ => l.length - (intOf v11).toNat)
  case atStart => exact ⟨0, _, _, _, rfl, Nat.zero_le _, ⟨HBW.out, HR0.out, HGC.out, HMN.out, NodesM.none⟩, HRR.out⟩
  case round =>
    clear HBW HR0 HGC HMN HRR HAL
    obtain ⟨i, msv, F, D, rfl, hi, ⟨hb, hr0, hgc, hmn, hD⟩, hq⟩ := hrel
    have HI_ := Lib.hid hi
    clear hi
    by_cases hil : i < l.length
    · have d1 : decide ((i : Int) < (l.length : Int)) = true := by simp; omega
      have HIL := Lib.hid hil
      rw [List.drop_eq_getElem_cons hil] at hq
      obtain ⟨g, hx, hg, xi, ci, xo, co, xl, cl, xe, ce, hrg, t1, t2, t3, t4⟩ := nd_at (IsD.below hb HK.out) i HIL.out
      subst hx
      have hon := HALL.out i HIL.out
      obtain ⟨n, hn⟩ : ∃ n, n = l[i]'HIL.out := ⟨_, rfl⟩
      rw [← hn] at hq hrg t1 t2 t3 t4 hon
      have HRV := Lib.hid hrg
      have HALN := Lib.hid (heap_alloc_new wr (.cells #[.string ⟨#[]⟩, .slice none 0 0, .slice none 0 0, .slice none 0 0, .slice none 0 0, .int .i64 0] 59))
      obtain ⟨hnb, hnr⟩ := new_row wr 59 #[.string ⟨#[]⟩, .slice none 0 0, .slice none 0 0, .slice none 0 0, .slice none 0 0, .int .i64 0] #[.string n.name, .slice xi n.ins.length ci, .slice xo n.outs.length co, .slice xl n.locs.length cl, .slice xe n.eqs.length ce, .int .i64 (n.at_ : Int)]
      have hlt := (Array.getElem?_eq_some_iff.1 hgc).1
      have hgc1 := (hnb.block (w.heap.size + 1 + 1) hlt).trans hgc
      have hr01 := (hnb.block (w.heap.size) (by omega)).trans hr0
      have hmn1 := MapO.below hmn hnb
      have hup : ∀ {u : Value} {d : Dt}, IsD (· < w.heap.size) wr u d → IsD (· < w.heap.size + 1) ((wr.alloc (.cells #[.string ⟨#[]⟩, .slice none 0 0, .slice none 0 0, .slice none 0 0, .slice none 0 0, .int .i64 0] 59)).setRow wr.heap.size #[.string n.name, .slice xi n.ins.length ci, .slice xo n.outs.length co, .slice xl n.locs.length cl, .slice xe n.eqs.length ce, .int .i64 (n.at_ : Int)]) u d := fun h => (IsD.below hnb h).mono (fun _ h _ => Nat.lt_succ_of_lt h)
      have kn := nodeN_any ((wr.alloc (.cells #[.string ⟨#[]⟩, .slice none 0 0, .slice none 0 0, .slice none 0 0, .slice none 0 0, .int .i64 0] 59)).setRow wr.heap.size #[.string n.name, .slice xi n.ins.length ci, .slice xo n.outs.length co, .slice xl n.locs.length cl, .slice xe n.eqs.length ce, .int .i64 (n.at_ : Int)]) (w.heap.size + 1 + 1) (w.heap.size + 1) i msv F D hgc1 hmn1 hD (by have := HLL.out; omega) (by omega) (w.heap.size + 1) (by omega) (Nat.le_refl _) n hon xi xo xl xe ci co cl ce ⟨hup t1, hup t2, hup t3, hup t4⟩
      unfold GivesNn ndV at kn
      obtain ⟨o, ho⟩ : ∃ o, o = nodeN D n := ⟨_, rfl⟩
      rw [← ho] at kn
      obtain ⟨er, her⟩ : ∃ er, er = ferO 8 o := ⟨_, rfl⟩
      obtain ⟨ea, hea⟩ : ∃ ea, ea = fatO o := ⟨_, rfl⟩
      rw [← her, ← hea] at kn
      have HHO := Lib.hid ho
      have HER := Lib.hid her
      have HEA := Lib.hid hea
      have HQ := Lib.hid hq
      have HN1 := Lib.hid hnr
      have HB1 := Lib.hid (hb.trans (hnb.mono hb.size))
      have HR01 := Lib.hid hr01
      have HSZ := Lib.hid (show w.heap.size + 1 + 1 < ((wr.alloc (.cells #[.string ⟨#[]⟩, .slice none 0 0, .slice none 0 0, .slice none 0 0, .slice none 0 0, .int .i64 0] 59)).setRow wr.heap.size #[.string n.name, .slice xi n.ins.length ci, .slice xo n.outs.length co, .slice xl n.locs.length cl, .slice xe n.eqs.length ce, .int .i64 (n.at_ : Int)]).heap.size from Nat.lt_of_lt_of_le hlt hnb.size)
      have i0 : (0 : Int) ≤ (i : Int) := by omega
      have i1 : (i : Int) < (l.length : Int) := by omega
      clear hil hn hrg t1 t2 t3 t4 hon hnb hnr hlt hgc1 hr01 hmn1 hup ho her hea hq hb hr0 hgc hmn hD hg
      go_wp2_with (first | (refine wpList_load_mid rfl 59 (.tmp 13) rfl g (i * 6) rfl (ndC n xi xo xl xe ci co cl ce) _ ?_ Try.underlying59 rfl HSN.out ?_; (exact HRV.out)) | (refine wpList_store_row rfl 59 (.tmp 5) (.tmp 14) rfl wr.heap.size #[.string n.name, .slice xi n.ins.length ci, .slice xo n.outs.length co, .slice xl n.locs.length cl, .slice xe n.eqs.length ce, .int .i64 (n.at_ : Int)] rfl rfl 59 _ HALN.out HSN.out rfl (n4_one _ _ _ _ _ _ _ _ _ _ _ _ _ _) ?_) | (refine wpList_load_row rfl 59 (.tmp 5) rfl wr.heap.size rfl 59 #[.string n.name, .slice xi n.ins.length ci, .slice xo n.outs.length co, .slice xl n.locs.length cl, .slice xe n.eqs.length ce, .int .i64 (n.at_ : Int)] (0, 0) _ HN1.out Try.underlying59 rfl HSN.out ?_))
      (with_reducible refine kn.mono ?_)
      rintro e9 w2 ⟨rfl, hb, hok⟩
      have hs2 : w.heap.size + 1 + 1 < w2.heap.size := Nat.lt_of_lt_of_le HSZ.out hb.size
      have hr02 := (hb.block (w.heap.size) (by omega)).trans HR01.out
      have HB2 := Lib.hid (HB1.out.trans (hb.mono (Nat.le_succ _)))
      have HAF := Lib.hid (heap_alloc_new w2 (.cells #[.int .i64 0, .int .i64 0] 33))
      obtain ⟨hnb, hnr⟩ := new_row w2 33 #[.int .i64 0, .int .i64 0] #[.int .i64 er, .int .i64 ea]
      have c0 := cell_of_row _ w2.heap.size 0 _ _ _ hnr
      have HR02 := Lib.hid ((hnb.block (w.heap.size) (by omega)).trans hr02)
      have HB3 := Lib.hid (HB2.out.trans (hnb.mono HB2.out.size))
      have HRF := Lib.hid hnr
      have HOK := Lib.hid hok
      have HNB := Lib.hid hnb
      have HS2 := Lib.hid hs2
      clear kn hb hok hr02 hnb hnr hs2
      cases hP : o with
      | some a =>
        have e0 : er = 8 := by rw [HER.out, hP]; rfl
        have e1 : ea = (a : Int) := by rw [HEA.out, hP]; rfl
        have HR : Hid (R = some a) := Lib.hid (by rw [HQ.out, namesFrom_hit (by rw [← HHO.out]; exact hP)])
        have d3 : (er != 0) = true := by rw [e0]; rfl
        have HE0 := Lib.hid e0
        have HE1 := Lib.hid e1
        clear hP e0 e1
        go_wp2_with (first | (refine wpList_store_row rfl 33 (.tmp 6) (.tmp 16) rfl w2.heap.size #[.int .i64 er, .int .i64 ea] rfl rfl 33 _ HAF.out HSF.out rfl (fault_one _ _) ?_) | (refine wpList_load_row rfl 33 (.tmp 6) rfl w2.heap.size rfl 33 #[.int .i64 er, .int .i64 ea] (0, 0) _ HRF.out Try.underlying33 rfl HSF.out ?_) | (refine wpList_store_row rfl 33 (.tmp 2) (.tmp 20) rfl (w.heap.size) #[.int .i64 er, .int .i64 ea] rfl rfl 33 _ HR02.out HSF.out rfl (fault_one _ _) ?_))
        refine bodyPost_ret (v := .agg #[.int .i64 er, .int .i64 ea]) (results_cell_row (p := 2) (ty := 33) rfl _ _ (w.heap.size) 33 _ (0, 0) _ rfl (setRow_heap _ (w.heap.size) _ _ _ _ HR02.out) Try.underlying33 rfl HSF.out) rfl ?_
        exact ⟨by rw [HR.out, HE0.out, HE1.out]; rfl, below_setRow HB3.out (Nat.le_refl _) _⟩
      | none =>
        have e0 : er = 0 := by rw [HER.out, hP]; rfl
        have d3 : (er != 0) = false := by rw [e0]; rfl
        obtain ⟨msv', F', hgc', hmn', hD'⟩ := HOK.out hP
        have HQ2 := Lib.hid (show R = namesFrom (nset D n) (l.drop (i + 1)) by rw [HQ.out, namesFrom_skip (by rw [← HHO.out]; exact hP)])
        have HGC' := Lib.hid ((HNB.out.block (w.heap.size + 1 + 1) HS2.out).trans hgc')
        have HMN' := Lib.hid (MapO.below hmn' HNB.out)
        have HD' := Lib.hid hD'
        clear hP e0 hgc' hmn' hD'
        go_wp2_with (refine wpList_store_row rfl 33 (.tmp 6) (.tmp 16) rfl w2.heap.size #[.int .i64 er, .int .i64 ea] rfl rfl 33 _ HAF.out HSF.out rfl (fault_one _ _) ?_)
        refine ⟨⟨i + 1, msv', F', _, wrap_succ (by have := HIL.out; have := HLL.out; omega), HIL.out, ⟨HB3.out, HR02.out, HGC'.out, HMN'.out, HD'.out⟩, HQ2.out⟩, ?_⟩
        rw [wrap_succ (by have := HIL.out; have := HLL.out; omega)]
        simp [intOf]; omega
    · have d1 : decide ((i : Int) < (l.length : Int)) = false := by simp; omega
      obtain rfl : i = l.length := by have := HI_.out; omega
      have HR : Hid (R = none) := Lib.hid (by rw [hq, List.drop_length]; rfl)
      have HR02 := Lib.hid hr0
      have HB3 := Lib.hid hb
      clear hil hq hb hr0 hgc hmn hD
      go_wp2_with (refine wpList_store_row rfl 33 (.tmp 2) (.tmp 22) rfl (w.heap.size) #[.int .i64 0, .int .i64 0] rfl rfl 33 _ HR02.out HSF.out rfl (fault_one _ _) ?_)
      refine bodyPost_ret (v := .agg #[.int .i64 0, .int .i64 0]) (results_cell_row (p := 2) (ty := 33) rfl _ _ (w.heap.size) 33 _ (0, 0) _ rfl (setRow_heap _ (w.heap.size) _ _ _ _ HR02.out) Try.underlying33 rfl HSF.out) rfl ?_
      rw [HR.out]
      exact ⟨rfl, below_setRow HB3.out (Nat.le_refl _) _⟩
end Go.Proofs.Ytbgngmnpepnflaa

namespace Go.Proofs.Ytbgngmnpepnflaa
open Go Go.RowKit
set_option maxHeartbeats 4000000 in
set_option maxRecDepth 100000 in
theorem fault6_any (t : ByteArray) (w : World) (hs : t.size ≤ 140737488351232) (hall : ∀ (i : Nat) (h : i < (treeOf t).length), okNd (treeOf t)[i] = true) (hlen : (treeOf t).length ≤ 1000000) : Calls Try.prog 13 #[.string t] w (GivesO 8 (namesF (treeOf t)) w) := by
  have HSB := Lib.hid size_bad
  have kp := fun (W : World) => parse_at t W hs
  have F0 := (Fx.start w).alloc w.heap.size rfl 26 #[.int .i64 0, .int .i64 0]
  obtain ⟨L, hL⟩ : ∃ L, L = treeOf t := ⟨_, rfl⟩
  obtain ⟨q1, hq1⟩ : ∃ q, q = perOf t := ⟨_, rfl⟩
  obtain ⟨q2, hq2⟩ : ∃ q, q = patOf t := ⟨_, rfl⟩
  rw [← hL] at hall hlen ⊢
  rw [← hL, ← hq1, ← hq2] at kp
  have HF0 := Lib.hid F0
  have HALL := Lib.hid hall
  have H_hlen := Lib.hid hlen
  have kp1 := kp (w.alloc (.cells #[.int .i64 0, .int .i64 0] 26))
  clear hL hq1 hq2 hs hall hlen F0 kp
  go_enter Try.func13, Try.ntmps13
  go_wp2_with fail
  (with_reducible refine kp1.mono ?_)
  rintro e9 w1 ⟨x, c, rfl, hI, hb⟩
  have F1 := (HF0.out.call hb).alloc w1.heap.size rfl 26 #[.int .i64 0, .int .i64 0]
  have F2 := F1.store 1 rfl #[.int .i64 (q1 : Int), .int .i64 (q2 : Int)]
  have HN1 := Lib.hid (F1.get 1 rfl)
  have hI2 := IsD.below (new_row w1 26 #[.int .i64 0, .int .i64 0] #[.int .i64 (q1 : Int), .int .i64 (q2 : Int)]).1 hI
  obtain ⟨W2, hW2⟩ : ∃ W2, W2 = ((w1.alloc (.cells #[.int .i64 0, .int .i64 0] 26)).setRow w1.heap.size #[.int .i64 (q1 : Int), .int .i64 (q2 : Int)]) := ⟨_, rfl⟩
  rw [← hW2] at F2 hI2
  have kb := Back_any L W2 (by have := F2.below.size; have := F2.lt_ 0 rfl; omega) _ x c hI2
  rw [hW2] at kb
  have HF2 := Lib.hid F2
  have HI2 := Lib.hid hI2
  have HW2 := Lib.hid hW2
  clear F1 F2 hI hI2 hb kp1 hW2
  go_wp2_with (refine wpList_store_row rfl 26 (.tmp 4) (.tmp 9) rfl w1.heap.size #[.int .i64 (q1 : Int), .int .i64 (q2 : Int)] rfl rfl 26 _ HN1.out HSB.out rfl (fault_one _ _) ?_)
  (with_reducible refine kb.mono ?_)
  rw [← HW2.out]
  rintro e9 w3 ⟨x3, c3, rfl, hI3, hb⟩
  have HF3 := Lib.hid (HF2.out.call hb)
  have kc : Calls Try.prog 15 #[.slice x3 L.length c3] w3 (GivesO 8 (namesF L) w3) := namesCheck_any L HALL.out H_hlen.out w3 _ x3 c3 hI3
  unfold GivesO at kc
  obtain ⟨er, her⟩ : ∃ er, er = ferO 8 (namesF L) := ⟨_, rfl⟩
  obtain ⟨ea, hea⟩ : ∃ ea, ea = fatO (namesF L) := ⟨_, rfl⟩
  rw [← her, ← hea] at kc
  have HER := Lib.hid her
  have HEA := Lib.hid hea
  clear hb hI3 kb her hea
  go_wp2_with fail
  (with_reducible refine kc.mono ?_)
  rintro e9 w4 ⟨rfl, hb⟩
  have HF4 := Lib.hid (HF3.out.call hb)
  have kd := Bad_any er ea w4
  clear hb kc
  go_wp2_with fail
  (with_reducible refine kd.mono ?_)
  rintro e9 w5 ⟨rfl, hb⟩
  have HF5 := Lib.hid (HF4.out.call hb)
  have HL5 := Lib.hid (HF5.out.get 0 rfl)
  clear hb kd
  go_wp2_with (refine wpList_store_row rfl 26 (.tmp 2) (.tmp 13) rfl w.heap.size #[.int .i64 er, .int .i64 ea] rfl rfl 26 _ HL5.out HSB.out rfl (fault_one _ _) ?_)
  refine bodyPost_ret (v := .agg #[.int .i64 er, .int .i64 ea]) (results_cell_row (p := 2) (ty := 26) rfl _ _ w.heap.size 26 _ (0, 0) _ rfl (setRow_heap _ w.heap.size _ _ _ _ HL5.out) Try.underlying26 rfl HSB.out) rfl ?_
  exact ⟨by rw [HER.out, HEA.out], below_setRow HF5.out.below (Nat.le_refl _) _⟩
end Go.Proofs.Ytbgngmnpepnflaa

namespace Go.Proofs.Ytbgngmnpepnflaa
open Go Go.RowKit
/-- 'append(l, d...)', d a row of trees. -/
theorem wpList_appX {P : Program} {ops : Array Oper} {rest : List Oper} {o : Oper} {a : Act} {Q : Exit → Act → World → Prop} (hgd : o.guard = none) (s x : Operand) (t : TypeId) (ho : o.op = .call { callee := .builtin .append, args := #[s, x], argTypes := #[t, t] })
    {T : TypeId} {sz : Nat} {w : World} {b : Nat} {v : Value} {n : Nat} {ds : List Dt} (bytes : Nat) (ht : P.underlying t = some (.slice T)) (hin : ∃ i, P.info? T = some i ∧ (∃ z, i.zero = some z ∧ z.cells.size = sz) ∧ i.size = sz ∧ i.bytes = bytes) (hsz : 0 < sz) (hbl : bytes ≤ 1000)
    (hs : a.eval s = v) (h : OwnD T sz w b v n ds) (hbw : b + 1 ≤ w.heap.size) {ok : Nat → Prop} {u : Value} {m : Nat} (es : List Dt) (hx : a.eval x = u) (hd : IsD ok w u (.sl m es)) (hl : es.length = m * sz) (hm : 0 < m) (hone : ∀ d ∈ es, d.one) (hok : ∀ k, ok k → k < w.heap.size → b < k ∧ some k ≠ v.ownBlock) (hnm : n + m ≤ 100000000000)
    (hK : ∀ v' w', OwnD T sz w' b v' (n + m) (ds ++ es) → w.grownBy w' v.ownBlock → (v'.ownBlock = v.ownBlock ∨ v'.ownBlock = some w.heap.size) → wpList P ops Q rest (a.put o.dst v') w') :
    wpList P ops Q (o :: rest) a w := by
  obtain ⟨i, hi, ⟨z, hz, hzs⟩, hsize, hby⟩ := hin
  obtain ⟨v', w', hrun, j1, j2, j3⟩ := run_appD (P := P) ho i z bytes ht hi hz hsize hby hzs hsz hbl hs h hbw hx es hl hm hd hone hok hnm
  refine wpList_plain hgd fun K hK' => ?_
  unfold Oper.wp
  rw [hrun]
  exact hK' _ _ (hK v' w' j1 j2 j3)
set_option maxHeartbeats 4000000 in
set_option maxRecDepth 100000 in
theorem copied_lt : ∀ (d : Nat) (e : Ex), SizeOf.sizeOf e < d → ∀ (w : World) (okk : Nat → Prop) (x : Option Addr) (c : Nat), KidsD okk w e x c → Calls Try.prog 47 #[exV e x c] w (GivesB e w) := by
  intro d
  induction d with
  | zero => intro e h; omega
  | succ d ih =>
    intro e hd w okk x c hkk
    have IH := Lib.hid (fun (i : Nat) (hi : i < e.kids.length) => ih e.kids[i] (by have := kid_less hi; omega))
    have HKK := Lib.hid hkk
    have HSE := Lib.hid size_eS
    have HIS := Lib.hid info_eS
    have F0 := ((Fx.start w).alloc w.heap.size rfl 41 #[.string e.op, .string e.name, .int .i64 e.n, .int .i64 (e.at_ : Int), .slice x e.kids.length c]).alloc (w.heap.size + 1) (by simp) 41 #[.string ⟨#[]⟩, .string ⟨#[]⟩, .int .i64 0, .int .i64 0, .slice none 0 0]
    have c4 := cell_of_row _ (w.heap.size) 4 _ _ _ (F0.get 0 rfl)
    have HF0 : Hid (Fx w [(w.heap.size, 41, #[.string e.op, .string e.name, .int .i64 e.n, .int .i64 (e.at_ : Int), .slice x e.kids.length c]), (w.heap.size + 1, 41, #[.string ⟨#[]⟩, .string ⟨#[]⟩, .int .i64 0, .int .i64 0, .slice none 0 0])] _) := Lib.hid F0
    clear hkk ih hd F0
    unfold exV GivesB
    go_enter Try.func47, Try.ntmps47
    go_wp2_with fail
    go_loopw [3, 9] (fun v3 v9 wr => ∃ (V : Value) (i : Nat), V = v3 ∧ v9 = .int .i64 (i : Int) ∧ i ≤ e.kids.length ∧ Fx w [(w.heap.size, 41, #[.string e.op, .string e.name, .int .i64 e.n, .int .i64 (e.at_ : Int), .slice x e.kids.length c]), (w.heap.size + 1, 41, #[.string ⟨#[]⟩, .string ⟨#[]⟩, .int .i64 0, .int .i64 0, .slice none 0 0])] wr ∧ OwnD 41 5 wr (w.heap.size + 1) V i (exsD (e.kids.take i)))
      (fun _ v9 _ => e.kids.length - (intOf v9).toNat)
    case atStart => exact ⟨_, 0, rfl, rfl, Nat.zero_le _, HF0.out, by rw [List.take_zero, exsD_nil]; exact OwnD.nil _ _ _ _⟩
    case round =>
      clear HF0 c4
      obtain ⟨V, i, rfl, rfl, hi, hF, hO⟩ := hrel
      obtain ⟨xv, cv, rfl, _, _⟩ := hO.slice
      have HF := Lib.hid hF
      have HO := Lib.hid hO
      have HI_ := Lib.hid hi
      clear hF hO hi
      by_cases hil : i < e.kids.length
      · have d1 : decide ((i : Int) < (e.kids.length : Int)) = true := by simp; omega
        have HIL := Lib.hid hil
        obtain ⟨ek, hek⟩ : ∃ ek, ek = e.kids[i]'HIL.out := ⟨_, rfl⟩
        obtain ⟨g1, rfl, hg1, xk, ck, hrg, hkk⟩ := HKK.out.at_ i HIL.out
        have ih := IH.out i HIL.out
        rw [← hek] at hrg hkk ih
        have HRK := Lib.hid (rangeAt_below hrg HF.out.below hg1)
        have HAL := Lib.hid (heap_alloc_new wr (.cells #[.string ⟨#[]⟩, .string ⟨#[]⟩, .int .i64 0, .int .i64 0, .slice none 0 0] 41))
        obtain ⟨hnb, hnr⟩ := new_row wr 41 #[.string ⟨#[]⟩, .string ⟨#[]⟩, .int .i64 0, .int .i64 0, .slice none 0 0] #[.string ek.op, .string ek.name, .int .i64 ek.n, .int .i64 (ek.at_ : Int), .slice xk ek.kids.length ck]
        have HF1 := Lib.hid (HF.out.call hnb)
        have HO1 := Lib.hid (HO.out.below hnb)
        have HN1 := Lib.hid hnr
        have kk := ih ((wr.alloc (.cells #[.string ⟨#[]⟩, .string ⟨#[]⟩, .int .i64 0, .int .i64 0, .slice none 0 0] 41)).setRow wr.heap.size #[.string ek.op, .string ek.name, .int .i64 ek.n, .int .i64 (ek.at_ : Int), .slice xk ek.kids.length ck]) okk xk ck (IsD.below HF1.out.below hkk)
        unfold exV GivesB at kk
        have HEK := Lib.hid hek
        have i0 : (0 : Int) ≤ (i : Int) := by omega
        have i1 : (i : Int) < (e.kids.length : Int) := by omega
        have HS1 := Lib.hid (show wr.heap.size + 1 = ((wr.alloc (.cells #[.string ⟨#[]⟩, .string ⟨#[]⟩, .int .i64 0, .int .i64 0, .slice none 0 0] 41)).setRow wr.heap.size #[.string ek.op, .string ek.name, .int .i64 ek.n, .int .i64 (ek.at_ : Int), .slice xk ek.kids.length ck]).heap.size by rw [setRow_size]; simp)
        clear hil hek hrg hkk hnb hnr ih hg1
        go_wp2_with (first | (refine wpList_load_mid rfl 41 (.tmp 11) rfl g1 (i * 5) rfl (exC ek xk ck) _ ?_ Try.underlying41 rfl HSE.out ?_; (exact HRK.out)) | (refine wpList_store_row rfl 41 (.tmp 5) (.tmp 12) rfl wr.heap.size #[.string ek.op, .string ek.name, .int .i64 ek.n, .int .i64 (ek.at_ : Int), .slice xk ek.kids.length ck] rfl rfl 41 _ HAL.out HSE.out rfl (e4_one _ _ _ _ _ _ _) ?_) | (refine wpList_load_row rfl 41 (.tmp 5) rfl wr.heap.size rfl 41 #[.string ek.op, .string ek.name, .int .i64 ek.n, .int .i64 (ek.at_ : Int), .slice xk ek.kids.length ck] (0, 0) _ HN1.out Try.underlying41 rfl HSE.out ?_))
        (with_reducible refine kk.mono ?_)
        rintro e9 w2 ⟨x2, c2, rfl, hk2, hb⟩
        unfold exV
        have HF2 := Lib.hid (HF1.out.call hb)
        have HO2 := Lib.hid (HO1.out.below hb)
        have hbs := slice_oneS ek.op ek.name ek.n (ek.at_ : Int) x2 ek.kids.length c2 w2
        have hmk : Below w2.heap.size w2 (w2.alloc (.cells #[.string ek.op, .string ek.name, .int .i64 ek.n, .int .i64 (ek.at_ : Int), .slice x2 ek.kids.length c2] 41)) := (Below.refl _ _).alloc (Nat.le_refl _) _
        have HF3 := Lib.hid (HF2.out.call hmk)
        have HO3 := Lib.hid (HO2.out.below hmk)
        have HLS := Lib.hid (Nat.le_trans (Nat.le_of_eq HS1.out) hb.size)
        have HD3 : Hid (IsD (wr.heap.size + 1 ≤ ·) (w2.alloc (.cells #[.string ek.op, .string ek.name, .int .i64 ek.n, .int .i64 (ek.at_ : Int), .slice x2 ek.kids.length c2] 41)) (.slice (some ⟨w2.heap.size, 0, none⟩) 1 1) (.sl 1 (exsD [ek]))) := Lib.hid (IsD.made 41 _ w2.heap.size rfl 1 (by decide) (by decide) (exsD [ek]) HLS.out (by
          rw [exsD_cons, exsD_nil, List.append_nil]
          exact KidsD.rows (e := ek) (IsD.monoB (Nat.le_of_eq HS1.out) hk2)))
        have HBW := Lib.hid (show w.heap.size + 1 + 1 ≤ (w2.alloc (.cells #[.string ek.op, .string ek.name, .int .i64 ek.n, .int .i64 (ek.at_ : Int), .slice x2 ek.kids.length c2] 41)).heap.size from HF3.out.lt_ 1 rfl)
        have HNI := Lib.hid (show i + 1 ≤ 100000000000 by have := IsD.few HKK.out; have := HIL.out; omega)
        have HOK := Lib.hid (show ∀ k, wr.heap.size + 1 ≤ k → k < (w2.alloc (.cells #[.string ek.op, .string ek.name, .int .i64 ek.n, .int .i64 (ek.at_ : Int), .slice x2 ek.kids.length c2] 41)).heap.size → w.heap.size + 1 < k ∧ some k ≠ (Value.slice xv i cv).ownBlock from fun k hk _ => ⟨by have := HF.out.lt_ 1 rfl; omega, fun e' => by have := (HO.out.gt k e'.symm).2; omega⟩)
        clear kk hk2 hb hmk
        go_wp2_with (at_builtin; refine wpList_appX rfl (.tmp 13) (.tmp 16) 39 rfl 72 Try.underlying39 HIS.out (by decide) (by decide) rfl HO3.out HBW.out (exsD [ek]) rfl HD3.out (by rw [exsD_len]; rfl) (by decide) (exsD_one _) HOK.out HNI.out ?_)
        intro v' w' hO' hg' _
        rw [HEK.out, exsD_take HIL.out] at hO'
        have HF4 := Lib.hid (HF3.out.own hg' (fun k hk => ⟨by have := (HO3.out.gt k hk).1; omega, fun x hx => by
          have := (HO3.out.gt k hk).1
          simp only [List.mem_cons, List.not_mem_nil, or_false] at hx
          rcases hx with rfl | rfl
          · show k ≠ w.heap.size; omega
          · show k ≠ w.heap.size + 1; omega⟩))
        have HO4 := Lib.hid hO'
        have i2 : (i : Int) < 1000000000 := by have := HIL.out; have := IsD.few HKK.out; omega
        clear hO' hg' hbs
        go_wp2_with fail
        refine ⟨⟨_, i + 1, rfl, by go_num, HIL.out, HF4.out, HO4.out⟩, ?_⟩
        simp [intOf]; omega
      · have d1 : decide ((i : Int) < (e.kids.length : Int)) = false := by simp; omega
        obtain rfl : i = e.kids.length := by have := HI_.out; omega
        have hO := HO.out
        rw [List.take_length] at hO
        have hD := hO.ends (by have := IsD.few HKK.out; omega)
        have c4 := cell_of_row _ (w.heap.size) 4 _ _ _ (HF.out.get 0 rfl)
        have f4 := frozen_of_row _ (w.heap.size) 4 _ _ (HF.out.get 0 rfl)
        have FC := HF.out.cell 0 rfl 4 (.slice xv e.kids.length cv)
        have HL0 : Hid ((wr.setCell ⟨w.heap.size, 4, none⟩ (.slice xv e.kids.length cv)).heap[w.heap.size]? = some (.cells #[.string e.op, .string e.name, .int .i64 e.n, .int .i64 (e.at_ : Int), .slice xv e.kids.length cv] 41 (0, 0))) := Lib.hid (FC.get 0 rfl)
        have HL1 := Lib.hid (FC.get 1 rfl)
        have hgs := gb_set wr (w.heap.size) 4 (.slice xv e.kids.length cv)
        have hD2 := IsD.grown hgs (fun k hk => by injection hk with hk; subst hk; omega) hD
        have FD := FC.store 1 rfl #[.string e.op, .string e.name, .int .i64 e.n, .int .i64 (e.at_ : Int), .slice xv e.kids.length cv]
        have hgr := gb_rowN (wr.setCell ⟨w.heap.size, 4, none⟩ (.slice xv e.kids.length cv)) (w.heap.size + 1) #[.string e.op, .string e.name, .int .i64 e.n, .int .i64 (e.at_ : Int), .slice xv e.kids.length cv]
        have hD3 := IsD.grown hgr (fun k hk => by injection hk with hk; subst hk; omega) hD2
        have HD3 := Lib.hid (IsD.mono (fun k (hk : w.heap.size + 1 < k) _ => (by omega : w.heap.size ≤ k)) hD3)
        have HBZ := Lib.hid FD.below
        clear hil hO hD FC hgs hD2 FD hgr hD3
        go_wp2_with (first | (refine wpList_load_row rfl 41 (.tmp 1) rfl w.heap.size rfl 41 #[.string e.op, .string e.name, .int .i64 e.n, .int .i64 (e.at_ : Int), .slice xv e.kids.length cv] (0, 0) _ HL0.out Try.underlying41 rfl HSE.out ?_) | (refine wpList_store_row rfl 41 (.tmp 2) (.tmp 21) rfl (w.heap.size + 1) #[.string e.op, .string e.name, .int .i64 e.n, .int .i64 (e.at_ : Int), .slice xv e.kids.length cv] rfl rfl 41 _ HL1.out HSE.out rfl (e4_one _ _ _ _ _ _ _) ?_))
        refine bodyPost_ret (v := .agg #[.string e.op, .string e.name, .int .i64 e.n, .int .i64 (e.at_ : Int), .slice xv e.kids.length cv]) (results_cell_row (p := 2) (ty := 41) rfl _ _ (w.heap.size + 1) 41 _ (0, 0) _ rfl (setRow_heap _ (w.heap.size + 1) _ _ _ _ HL1.out) Try.underlying41 rfl HSE.out) rfl ?_
        exact ⟨xv, cv, rfl, HD3.out, HBZ.out⟩
end Go.Proofs.Ytbgngmnpepnflaa

namespace Go.Proofs.Ytbgngmnpepnflaa
open Go Go.RowKit
theorem results_cell_tmp {P : Program} {fn : Func} {q p : Tmp} {ty : TypeId} (h : fn.results = #[.cell p ty, .tmp q]) (tmps : Array Value) (w : World) (g : Nat) (t : TypeId) (cs : Array Value) (fr : Nat × Nat) (d : TypeDesc)
    (hp : tmps.getD p undef = .pointer (some ⟨g, 0, none⟩)) (hg : w.heap[g]? = some (.cells cs t fr))
    (hu : P.underlying ty = some d) (hd : (match d with | .struct _ | .array _ _ => true | _ => false) = true) (hi : (P.info? ty).map (·.size) = some cs.size) :
    (results fn tmps).run P w = .ok (.tuple #[.agg cs, tmps.getD q undef]) w := by
  have hp' : tmps[p]?.getD undef = .pointer (some ⟨g, 0, none⟩) := by simpa using hp
  simp [results, h, hp', asAddr, run_loadVar_row w g t ty cs fr d hg hu hd hi]
def findF (l : List Vr) (nm : ByteArray) : Option Vr := l.find? (fun v => v.name.data.toList == nm.data.toList)
def orV (a b : Option Vr) : Option Vr := match a with
  | some x => some x
  | none => b
def findN (n : Nd) (nm : ByteArray) : Option Vr := orV (findF n.ins nm) (orV (findF n.outs nm) (orV (findF n.locs nm) none))
def vrZ : Vr := ⟨⟨#[]⟩, 0, ⟨#[]⟩, false, 0⟩
def vrA (v : Vr) : Array Value := #[.string v.name, .int .i64 (v.kind : Int), .string v.on, .bool v.not_, .int .i64 (v.at_ : Int)]
def GivesFv (o : Option Vr) (w : World) (e : Ending) (w' : World) : Prop := e = .returned (.tuple #[.agg (vrA (o.getD vrZ)), .bool o.isSome]) ∧ Below w.heap.size w w'
theorem findF_hit {v : Vr} {r : List Vr} {nm : ByteArray} (h : (v.name.data.toList == nm.data.toList) = true) : findF (v :: r) nm = some v := by unfold findF; simp only [List.find?]; rw [h]
theorem findF_skip {v : Vr} {r : List Vr} {nm : ByteArray} (h : (v.name.data.toList == nm.data.toList) = false) : findF (v :: r) nm = findF r nm := by unfold findF; simp only [List.find?]; rw [h]
set_option maxHeartbeats 4000000 in
set_option maxRecDepth 100000 in
theorem find_any (n : Nd) (nm : ByteArray) (hon : okNd n = true) (w : World) (ok : Nat → Prop) (xi xo xl xe : Option Addr) (ci co cl ce : Nat) (hkn : NdIn ok w n xi xo xl xe ci co cl ce) :
    Calls Try.prog 28 #[ndV n xi xo xl xe ci co cl ce, .string nm] w (GivesFv (findN n nm) w) := by
  have F0 := (((Fx.start w).alloc w.heap.size rfl 59 #[.string n.name, .slice xi n.ins.length ci, .slice xo n.outs.length co, .slice xl n.locs.length cl, .slice xe n.eqs.length ce, .int .i64 (n.at_ : Int)]).alloc (w.heap.size + 1) (by simp) 70 #[.string ⟨#[]⟩, .int .i64 0, .string ⟨#[]⟩, .bool false, .int .i64 0]).alloc (w.heap.size + 1 + 1) (by simp) 56 #[.slice xi n.ins.length ci, .slice xo n.outs.length co, .slice xl n.locs.length cl]
  unfold okNd at hon
  simp only [Bool.and_eq_true, decide_eq_true_eq] at hon
  obtain ⟨h0, _, _, _, _, _⟩ := hon
  have HSV := Lib.hid size_vS
  have F1 := ((Fx.start w).alloc w.heap.size rfl 59 #[.string n.name, .slice xi n.ins.length ci, .slice xo n.outs.length co, .slice xl n.locs.length cl, .slice xe n.eqs.length ce, .int .i64 (n.at_ : Int)]).alloc (w.heap.size + 1) (by simp) 70 #[.string ⟨#[]⟩, .int .i64 0, .string ⟨#[]⟩, .bool false, .int .i64 0]
  have c1 := cell_of_row _ (w.heap.size) 1 _ _ _ (F1.get 0 rfl)
  have c2 := cell_of_row _ (w.heap.size) 2 _ _ _ (F1.get 0 rfl)
  have c3 := cell_of_row _ (w.heap.size) 3 _ _ _ (F1.get 0 rfl)
  have HF0 : Hid (Fx w [(w.heap.size, 59, #[.string n.name, .slice xi n.ins.length ci, .slice xo n.outs.length co, .slice xl n.locs.length cl, .slice xe n.eqs.length ce, .int .i64 (n.at_ : Int)]), (w.heap.size + 1, 70, #[.string ⟨#[]⟩, .int .i64 0, .string ⟨#[]⟩, .bool false, .int .i64 0]), (w.heap.size + 1 + 1, 56, #[.slice xi n.ins.length ci, .slice xo n.outs.length co, .slice xl n.locs.length cl])] _) := Lib.hid F0
  have HI1 := Lib.hid hkn.1
  have HI2 := Lib.hid hkn.2.1
  have HI3 := Lib.hid hkn.2.2.1
  have HLEN := Lib.hid h0
  obtain ⟨R, hR⟩ : ∃ R, R = findN n nm := ⟨_, rfl⟩
  rw [← hR]
  unfold findN at hR
  obtain ⟨R2, hR2⟩ : ∃ R2, R2 = orV (findF n.locs nm) none := ⟨_, rfl⟩
  rw [← hR2] at hR
  obtain ⟨R1, hR1⟩ : ∃ R1, R1 = orV (findF n.outs nm) R2 := ⟨_, rfl⟩
  rw [← hR1] at hR
  have HR0 := Lib.hid hR
  have HR1 := Lib.hid hR1
  have HR2 := Lib.hid hR2
  clear hkn h0 F0 F1 hR hR1 hR2
  unfold GivesFv ndV
  go_enter Try.func28, Try.ntmps28
  go_wp2_with fail
  go_loopw [18] (fun v18 wr => ∃ (j : Nat), v18 = .int .i64 (j : Int) ∧ j ≤ 3 ∧ Fx w [(w.heap.size, 59, #[.string n.name, .slice xi n.ins.length ci, .slice xo n.outs.length co, .slice xl n.locs.length cl, .slice xe n.eqs.length ce, .int .i64 (n.at_ : Int)]), (w.heap.size + 1, 70, #[.string ⟨#[]⟩, .int .i64 0, .string ⟨#[]⟩, .bool false, .int .i64 0]), (w.heap.size + 1 + 1, 56, #[.slice xi n.ins.length ci, .slice xo n.outs.length co, .slice xl n.locs.length cl])] wr ∧ R = (if j = 0 then orV (findF n.ins nm) R1 else if j = 1 then orV (findF n.outs nm) R2 else if j = 2 then orV (findF n.locs nm) none else none))
    (fun v18 _ => 3 - (intOf v18).toNat)
  case atStart => exact ⟨0, rfl, by decide, HF0.out, by rw [if_pos rfl]; exact HR0.out⟩
  case round =>
    clear HF0 HR0 c1 c2 c3
    obtain ⟨j, rfl, hj, hF, hq⟩ := hrel
    by_cases hj2 : j < 3
    · have d1 : decide ((j : Int) < 3) = true := by simp; omega
      obtain ⟨l, xv, cv, rest, hcell, hrest, hid, hll⟩ : ∃ (l : List Vr) (xv : Option Addr) (cv : Nat) (rest : Option Vr), wr.cell? ⟨w.heap.size + 1 + 1, j, none⟩ = some (.slice xv l.length cv) ∧ (R = orV (findF l nm) rest ∧ rest = (if j + 1 = 0 then orV (findF n.ins nm) R1 else if j + 1 = 1 then orV (findF n.outs nm) R2 else if j + 1 = 2 then orV (findF n.locs nm) none else none)) ∧ IsD ok w (.slice xv l.length cv) (.sl l.length (vrsD l)) ∧ l.length ≤ 1000000 := by
        have hlen := HLEN.out
        have : j = 0 ∨ j = 1 ∨ j = 2 := by omega
        rcases this with rfl | rfl | rfl
        · exact ⟨n.ins, xi, ci, R1, cell_of_row wr _ 0 _ _ _ (hF.get 2 rfl), ⟨by rw [if_pos rfl] at hq; exact hq, by rw [if_neg (by decide), if_pos rfl]; exact HR1.out⟩, HI1.out, by omega⟩
        · exact ⟨n.outs, xo, co, R2, cell_of_row wr _ 1 _ _ _ (hF.get 2 rfl), ⟨by rw [if_neg (by decide), if_pos rfl] at hq; exact hq, by rw [if_neg (by decide), if_neg (by decide), if_pos rfl]; exact HR2.out⟩, HI2.out, by omega⟩
        · exact ⟨n.locs, xl, cl, none, cell_of_row wr _ 2 _ _ _ (hF.get 2 rfl), ⟨by rw [if_neg (by decide), if_neg (by decide), if_pos rfl] at hq; exact hq, by rw [if_neg (by decide), if_neg (by decide), if_neg (by decide)]⟩, HI3.out, by omega⟩
      have HF := Lib.hid hF
      have HJ := Lib.hid hj2
      have HREST := Lib.hid hrest.2
      have HQ0 := Lib.hid hrest.1
      have HID := Lib.hid hid
      have HLL := Lib.hid hll
      have i0 : (0 : Int) ≤ (j : Int) := by omega
      have i1 : (j : Int) < 3 := by omega
      clear hj hF hq hj2 hrest hid hll
      go_wp2_with fail
      obtain ⟨w5, rfl⟩ : ∃ w5 : World, w5 = wr := ⟨_, rfl⟩
      clear hcell i0 i1
      go_loopw [24] (fun v24 wr => ∃ (i : Nat), v24 = .int .i64 (i : Int) ∧ i ≤ l.length ∧ Fx w [(w.heap.size, 59, #[.string n.name, .slice xi n.ins.length ci, .slice xo n.outs.length co, .slice xl n.locs.length cl, .slice xe n.eqs.length ce, .int .i64 (n.at_ : Int)]), (w.heap.size + 1, 70, #[.string ⟨#[]⟩, .int .i64 0, .string ⟨#[]⟩, .bool false, .int .i64 0]), (w.heap.size + 1 + 1, 56, #[.slice xi n.ins.length ci, .slice xo n.outs.length co, .slice xl n.locs.length cl])] wr ∧ R = orV (findF (l.drop i) nm) rest)
        (fun v24 _ => l.length - (intOf v24).toNat)
      case atStart => exact ⟨0, rfl, Nat.zero_le _, HF.out, HQ0.out⟩
      case round =>
        clear HF HQ0
        obtain ⟨i, rfl, hi, hF, hq⟩ := hrel
        have HF := Lib.hid hF
        have HI_ := Lib.hid hi
        clear hi
        by_cases hil : i < l.length
        · have d1 : decide ((i : Int) < (l.length : Int)) = true := by simp; omega
          have HIL := Lib.hid hil
          rw [List.drop_eq_getElem_cons hil] at hq
          obtain ⟨g1, rfl, hg1, hrg⟩ := var_at (IsD.below hF.below HID.out) i HIL.out
          obtain ⟨v, hv⟩ : ∃ v, v = l[i]'HIL.out := ⟨_, rfl⟩
          rw [← hv] at hq hrg
          have HRV := Lib.hid hrg
          have HAL := Lib.hid (heap_alloc_new wr (.cells #[.string ⟨#[]⟩, .int .i64 0, .string ⟨#[]⟩, .bool false, .int .i64 0] 70))
          obtain ⟨hnb, hnr⟩ := new_row wr 70 #[.string ⟨#[]⟩, .int .i64 0, .string ⟨#[]⟩, .bool false, .int .i64 0] #[.string v.name, .int .i64 (v.kind : Int), .string v.on, .bool v.not_, .int .i64 (v.at_ : Int)]
          have HF1 := Lib.hid (hF.call hnb)
          have c0 := cell_of_row _ wr.heap.size 0 _ _ _ hnr
          have HN1 := Lib.hid hnr
          have HL4 := Lib.hid (HF1.out.get 1 rfl)
          have i0 : (0 : Int) ≤ (i : Int) := by omega
          have i1 : (i : Int) < (l.length : Int) := by omega
          have HQ := Lib.hid hq
          clear hil hv hrg hnb hnr hg1 hq hF
          cases hcmp : (v.name.data.toList == nm.data.toList) with
          | true =>
            have hq1 : (v.name.toList == nm.toList) = true := by rw [Lib.toList_data, Lib.toList_data]; exact hcmp
            have HR : Hid (R = some v) := Lib.hid (by rw [HQ.out, findF_hit hcmp]; rfl)
            clear hcmp
            go_wp2_with (first | (refine wpList_load_mid rfl 70 (.tmp 26) rfl g1 (i * 5) rfl (vrC v) _ ?_ Try.underlying70 rfl HSV.out ?_; (exact HRV.out)) | (refine wpList_store_row rfl 70 (.tmp 9) (.tmp 27) rfl wr.heap.size #[.string v.name, .int .i64 (v.kind : Int), .string v.on, .bool v.not_, .int .i64 (v.at_ : Int)] rfl rfl 70 _ HAL.out HSV.out rfl (vS_one _ _ _ _ _) ?_) | (refine wpList_load_row rfl 70 (.tmp 9) rfl wr.heap.size rfl 70 #[.string v.name, .int .i64 (v.kind : Int), .string v.on, .bool v.not_, .int .i64 (v.at_ : Int)] (0, 0) _ HN1.out Try.underlying70 rfl HSV.out ?_) | (refine wpList_store_row rfl 70 (.tmp 4) (.tmp 32) rfl (w.heap.size + 1) #[.string v.name, .int .i64 (v.kind : Int), .string v.on, .bool v.not_, .int .i64 (v.at_ : Int)] rfl rfl 70 _ HL4.out HSV.out rfl (vS_one _ _ _ _ _) ?_))
            refine bodyPost_ret (results_cell_tmp (q := 5) (p := 4) (ty := 70) rfl _ _ (w.heap.size + 1) 70 #[.string v.name, .int .i64 (v.kind : Int), .string v.on, .bool v.not_, .int .i64 (v.at_ : Int)] (0, 0) _ rfl (setRow_heap _ (w.heap.size + 1) _ _ _ _ HL4.out) Try.underlying70 rfl HSV.out) rfl ?_
            rw [HR.out]
            exact ⟨rfl, below_setRow HF1.out.below (by omega) _⟩
          | false =>
            have hq1 : (v.name.toList == nm.toList) = false := by rw [Lib.toList_data, Lib.toList_data]; exact hcmp
            have HQ2 := Lib.hid (show R = orV (findF (l.drop (i + 1)) nm) rest by rw [HQ.out, findF_skip hcmp])
            clear hcmp
            go_wp2_with (first | (refine wpList_load_mid rfl 70 (.tmp 26) rfl g1 (i * 5) rfl (vrC v) _ ?_ Try.underlying70 rfl HSV.out ?_; (exact HRV.out)) | (refine wpList_store_row rfl 70 (.tmp 9) (.tmp 27) rfl wr.heap.size #[.string v.name, .int .i64 (v.kind : Int), .string v.on, .bool v.not_, .int .i64 (v.at_ : Int)] rfl rfl 70 _ HAL.out HSV.out rfl (vS_one _ _ _ _ _) ?_))
            refine ⟨⟨i + 1, wrap_succ (by have := HIL.out; have := HLL.out; omega), HIL.out, HF1.out, HQ2.out⟩, ?_⟩
            rw [wrap_succ (by have := HIL.out; have := HLL.out; omega)]
            simp [intOf]; omega
        · have d1 : decide ((i : Int) < (l.length : Int)) = false := by simp; omega
          obtain rfl : i = l.length := by have := HI_.out; omega
          have HQ2 := Lib.hid (show R = (if j + 1 = 0 then orV (findF n.ins nm) R1 else if j + 1 = 1 then orV (findF n.outs nm) R2 else if j + 1 = 2 then orV (findF n.locs nm) none else none) by rw [hq, List.drop_length, ← HREST.out]; rfl)
          clear hil hq hF
          go_wp2_with fail
          refine ⟨⟨j + 1, wrap_succ (by have := HJ.out; omega), HJ.out, HF.out, HQ2.out⟩, ?_⟩
          rw [wrap_succ (by have := HJ.out; omega)]
          have := HJ.out
          simp [intOf]; omega
    · have d1 : decide ((j : Int) < 3) = false := by simp; omega
      obtain rfl : j = 3 := by omega
      have HR : Hid (R = none) := Lib.hid (by rw [hq, if_neg (by decide), if_neg (by decide), if_neg (by decide)])
      have HL4 := Lib.hid (hF.get 1 rfl)
      have HF := Lib.hid hF
      clear hj2 hq hF hj
      go_wp2_with (refine wpList_store_row rfl 70 (.tmp 4) (.tmp 35) rfl (w.heap.size + 1) #[.string ⟨#[]⟩, .int .i64 0, .string ⟨#[]⟩, .bool false, .int .i64 0] rfl rfl 70 _ HL4.out HSV.out rfl (vS_one _ _ _ _ _) ?_)
      refine bodyPost_ret (results_cell_tmp (q := 5) (p := 4) (ty := 70) rfl _ _ (w.heap.size + 1) 70 #[.string ⟨#[]⟩, .int .i64 0, .string ⟨#[]⟩, .bool false, .int .i64 0] (0, 0) _ rfl (setRow_heap _ (w.heap.size + 1) _ _ _ _ HL4.out) Try.underlying70 rfl HSV.out) rfl ?_
      rw [HR.out]
      exact ⟨rfl, below_setRow HF.out.below (by omega) _⟩
end Go.Proofs.Ytbgngmnpepnflaa

namespace Go.Proofs.Ytbgngmnpepnflaa
open Go Go.RowKit
def eqOf (l : List Qe) (nm : ByteArray) : Option Qe := l.find? (fun q => q.name.data.toList == nm.data.toList)
theorem eqOf_hit {v : Qe} {r : List Qe} {nm : ByteArray} (h : (v.name.data.toList == nm.data.toList) = true) : eqOf (v :: r) nm = some v := by unfold eqOf; simp only [List.find?]; rw [h]
theorem eqOf_skip {v : Qe} {r : List Qe} {nm : ByteArray} (h : (v.name.data.toList == nm.data.toList) = false) : eqOf (v :: r) nm = eqOf r nm := by unfold eqOf; simp only [List.find?]; rw [h]
theorem eq_put5 {w : World} {b : Nat} {T : TypeId} {a0 a1 a2 a3 a4 a5 a6 : Value} (h : w.heap[b]? = some (.cells #[a0, a1, a2, a3, a4, a5, a6] T (0, 0))) (v1 v2 v3 v4 v5 : Value) : (w.setCells b 1 [v1, v2, v3, v4, v5]).heap[b]? = some (.cells #[a0, v1, v2, v3, v4, v5, a6] T (0, 0)) := by
  have h1 := heap_setCell_same w b 1 _ _ v1 h
  have h2 := heap_setCell_same _ b 2 _ _ v2 h1
  have h3 := heap_setCell_same _ b 3 _ _ v3 h2
  have h4 := heap_setCell_same _ b 4 _ _ v4 h3
  exact heap_setCell_same _ b 5 _ _ v5 h4
/-- An equation, its expression made anew; or none. -/
def GivesQv (o : Option Qe) (w : World) (e : Ending) (w' : World) : Prop := Below w.heap.size w w' ∧ match o with
  | none => e = .returned (.tuple #[.agg #[.string ⟨#[]⟩, .string ⟨#[]⟩, .string ⟨#[]⟩, .int .i64 0, .int .i64 0, .slice none 0 0, .int .i64 0], .bool false])
  | some q => ∃ x c, e = .returned (.tuple #[.agg #[.string q.name, .string q.e.op, .string q.e.name, .int .i64 q.e.n, .int .i64 (q.e.at_ : Int), .slice x q.e.kids.length c, .int .i64 (q.at_ : Int)], .bool true]) ∧ KidsD (w.heap.size ≤ ·) w' q.e x c
set_option maxHeartbeats 4000000 in
set_option maxRecDepth 100000 in
theorem eqOf_any (n : Nd) (nm : ByteArray) (w : World) (ok : Nat → Prop) (xi xo xl xe : Option Addr) (ci co cl ce : Nat) (hkn : NdIn ok w n xi xo xl xe ci co cl ce) :
    Calls Try.prog 29 #[ndV n xi xo xl xe ci co cl ce, .string nm] w (GivesQv (eqOf n.eqs nm) w) := by
  have F0 := ((Fx.start w).alloc w.heap.size rfl 59 #[.string n.name, .slice xi n.ins.length ci, .slice xo n.outs.length co, .slice xl n.locs.length cl, .slice xe n.eqs.length ce, .int .i64 (n.at_ : Int)]).alloc (w.heap.size + 1) (by simp) 55 #[.string ⟨#[]⟩, .string ⟨#[]⟩, .string ⟨#[]⟩, .int .i64 0, .int .i64 0, .slice none 0 0, .int .i64 0]
  have HSQ := Lib.hid size_qS
  have HSE := Lib.hid size_eS
  have c4 := cell_of_row _ (w.heap.size) 4 _ _ _ (F0.get 0 rfl)
  have HF0 : Hid (Fx w [(w.heap.size, 59, #[.string n.name, .slice xi n.ins.length ci, .slice xo n.outs.length co, .slice xl n.locs.length cl, .slice xe n.eqs.length ce, .int .i64 (n.at_ : Int)]), (w.heap.size + 1, 55, #[.string ⟨#[]⟩, .string ⟨#[]⟩, .string ⟨#[]⟩, .int .i64 0, .int .i64 0, .slice none 0 0, .int .i64 0])] _) := Lib.hid F0
  have HKN := Lib.hid hkn.2.2.2
  have HFEW := Lib.hid (IsD.few hkn.2.2.2)
  obtain ⟨R, hR⟩ : ∃ R, R = eqOf n.eqs nm := ⟨_, rfl⟩
  rw [← hR]
  have HR0 := Lib.hid (show R = eqOf (n.eqs.drop 0) nm from hR)
  clear hkn F0 hR
  unfold ndV
  go_enter Try.func29, Try.ntmps29
  go_wp2_with fail
  go_loopw [11] (fun v11 wr => ∃ (i : Nat), v11 = .int .i64 (i : Int) ∧ i ≤ n.eqs.length ∧ Fx w [(w.heap.size, 59, #[.string n.name, .slice xi n.ins.length ci, .slice xo n.outs.length co, .slice xl n.locs.length cl, .slice xe n.eqs.length ce, .int .i64 (n.at_ : Int)]), (w.heap.size + 1, 55, #[.string ⟨#[]⟩, .string ⟨#[]⟩, .string ⟨#[]⟩, .int .i64 0, .int .i64 0, .slice none 0 0, .int .i64 0])] wr ∧ R = eqOf (n.eqs.drop i) nm)
    (fun v11 _ => n.eqs.length - (intOf v11).toNat)
  case atStart => exact ⟨0, rfl, Nat.zero_le _, HF0.out, HR0.out⟩
  case round =>
    clear HF0 HR0 c4
    obtain ⟨i, rfl, hi, hF, hq⟩ := hrel
    have HF := Lib.hid hF
    have HI_ := Lib.hid hi
    clear hi
    by_cases hil : i < n.eqs.length
    · have d1 : decide ((i : Int) < (n.eqs.length : Int)) = true := by simp; omega
      have HIL := Lib.hid hil
      rw [List.drop_eq_getElem_cons hil] at hq
      obtain ⟨g1, hxe, hg1, xq, cq, hrg, hkq⟩ := qe_at (IsD.below hF.below HKN.out) i HIL.out
      subst hxe
      obtain ⟨q, hqq⟩ : ∃ q, q = n.eqs[i]'HIL.out := ⟨_, rfl⟩
      rw [← hqq] at hq hrg hkq
      have HRV := Lib.hid hrg
      have HAL := Lib.hid (heap_alloc_new wr (.cells #[.string ⟨#[]⟩, .string ⟨#[]⟩, .string ⟨#[]⟩, .int .i64 0, .int .i64 0, .slice none 0 0, .int .i64 0] 55))
      obtain ⟨hnb, hnr⟩ := new_row wr 55 #[.string ⟨#[]⟩, .string ⟨#[]⟩, .string ⟨#[]⟩, .int .i64 0, .int .i64 0, .slice none 0 0, .int .i64 0] #[.string q.name, .string q.e.op, .string q.e.name, .int .i64 q.e.n, .int .i64 (q.e.at_ : Int), .slice xq q.e.kids.length cq, .int .i64 (q.at_ : Int)]
      have HF2 := Lib.hid (hF.call hnb)
      have HWL := Lib.hid (Array.getElem?_eq_some_iff.1 hnr).1
      have HWG := Lib.hid (hF.lt_ 1 rfl)
      have c0 := cell_of_row _ wr.heap.size 0 _ _ _ hnr
      have HN1 := Lib.hid hnr
      have HRE_ := Lib.hid (row_range hnr 1 (exC q.e xq cq) (qe_range q.name q.e xq cq (q.at_ : Int)))
      have kc := copied_lt (SizeOf.sizeOf q.e + 1) q.e (Nat.lt_succ_self _) _ _ xq cq (IsD.below hnb hkq)
      unfold GivesB exV at kc
      have kc : Calls Try.prog 47 #[.agg (exC q.e xq cq).toArray] ((wr.alloc (.cells #[.string ⟨#[]⟩, .string ⟨#[]⟩, .string ⟨#[]⟩, .int .i64 0, .int .i64 0, .slice none 0 0, .int .i64 0] 55)).setRow wr.heap.size #[.string q.name, .string q.e.op, .string q.e.name, .int .i64 q.e.n, .int .i64 (q.e.at_ : Int), .slice xq q.e.kids.length cq, .int .i64 (q.at_ : Int)]) (fun en w' => ∃ x c, en = .returned (.agg #[.string q.e.op, .string q.e.name, .int .i64 q.e.n, .int .i64 (q.e.at_ : Int), .slice x q.e.kids.length c]) ∧ KidsD (fun k => ((wr.alloc (.cells #[.string ⟨#[]⟩, .string ⟨#[]⟩, .string ⟨#[]⟩, .int .i64 0, .int .i64 0, .slice none 0 0, .int .i64 0] 55)).setRow wr.heap.size #[.string q.name, .string q.e.op, .string q.e.name, .int .i64 q.e.n, .int .i64 (q.e.at_ : Int), .slice xq q.e.kids.length cq, .int .i64 (q.at_ : Int)]).heap.size ≤ k) w' q.e x c ∧ Below ((wr.alloc (.cells #[.string ⟨#[]⟩, .string ⟨#[]⟩, .string ⟨#[]⟩, .int .i64 0, .int .i64 0, .slice none 0 0, .int .i64 0] 55)).setRow wr.heap.size #[.string q.name, .string q.e.op, .string q.e.name, .int .i64 q.e.n, .int .i64 (q.e.at_ : Int), .slice xq q.e.kids.length cq, .int .i64 (q.at_ : Int)]).heap.size ((wr.alloc (.cells #[.string ⟨#[]⟩, .string ⟨#[]⟩, .string ⟨#[]⟩, .int .i64 0, .int .i64 0, .slice none 0 0, .int .i64 0] 55)).setRow wr.heap.size #[.string q.name, .string q.e.op, .string q.e.name, .int .i64 q.e.n, .int .i64 (q.e.at_ : Int), .slice xq q.e.kids.length cq, .int .i64 (q.at_ : Int)]) w') := kc
      have i0 : (0 : Int) ≤ (i : Int) := by omega
      have i1 : (i : Int) < (n.eqs.length : Int) := by omega
      have HQ := Lib.hid hq
      clear hil hqq hrg hnb hnr hg1 hq hF hkq
      cases hcmp : (q.name.data.toList == nm.data.toList) with
      | true =>
        have hq1 : (q.name.toList == nm.toList) = true := by rw [Lib.toList_data, Lib.toList_data]; exact hcmp
        have HR : Hid (R = some q) := Lib.hid (by rw [HQ.out, eqOf_hit hcmp])
        clear hcmp
        go_wp2_with (first | (refine wpList_load_mid rfl 55 (.tmp 13) rfl g1 (i * 7) rfl (qeC q.name q.e xq cq (q.at_ : Int)) _ ?_ Try.underlying55 rfl HSQ.out ?_; (exact HRV.out)) | (refine wpList_store_row rfl 55 (.tmp 7) (.tmp 14) rfl wr.heap.size #[.string q.name, .string q.e.op, .string q.e.name, .int .i64 q.e.n, .int .i64 (q.e.at_ : Int), .slice xq q.e.kids.length cq, .int .i64 (q.at_ : Int)] rfl rfl 55 _ HAL.out HSQ.out rfl (qS_one _ _ _ _ _ _ _ _ _) ?_) | (refine wpList_load_mid rfl 41 (.tmp 19) rfl (wr.heap.size) 1 rfl (exC q.e xq cq) _ ?_ Try.underlying41 rfl HSE.out ?_; (exact HRE_.out)))
        (with_reducible refine kc.mono ?_)
        rintro e9 w2 ⟨x2, c2, rfl, hk2, hb⟩
        have hr2 := (hb.block wr.heap.size HWL.out).trans HN1.out
        have F2 := HF2.out.call hb
        have HTH := Lib.hid (there_of_row (n := 5) (o := 1) hr2 (by simp))
        have HL7 := Lib.hid (eq_put5 hr2 (.string q.e.op) (.string q.e.name) (.int .i64 q.e.n) (.int .i64 (q.e.at_ : Int)) (.slice x2 q.e.kids.length c2))
        have hlt := HWL.out
        have hgs := gb_setCells wr.heap.size [.string q.e.op, .string q.e.name, .int .i64 q.e.n, .int .i64 (q.e.at_ : Int), .slice x2 q.e.kids.length c2] 1 w2
        have F3 := F2.own hgs (fun k hk => by
          injection hk with hk
          subst hk
          have h1 := HWG.out
          refine ⟨by omega, fun x hx => ?_⟩
          simp only [List.mem_cons, List.not_mem_nil, or_false] at hx
          rcases hx with rfl | rfl
          · show wr.heap.size ≠ w.heap.size; omega
          · show wr.heap.size ≠ w.heap.size + 1; omega)
        have HL4 := Lib.hid (F3.get 1 rfl)
        have hk3 := IsD.grown hgs (fun k hk => by injection hk with hk; subst hk; omega) hk2
        have FZ_ := F3.store 1 rfl #[.string q.name, .string q.e.op, .string q.e.name, .int .i64 q.e.n, .int .i64 (q.e.at_ : Int), .slice x2 q.e.kids.length c2, .int .i64 (q.at_ : Int)]
        have hgr := gb_rowN (w2.setCells wr.heap.size 1 [.string q.e.op, .string q.e.name, .int .i64 q.e.n, .int .i64 (q.e.at_ : Int), .slice x2 q.e.kids.length c2]) (w.heap.size + 1) #[.string q.name, .string q.e.op, .string q.e.name, .int .i64 q.e.n, .int .i64 (q.e.at_ : Int), .slice x2 q.e.kids.length c2, .int .i64 (q.at_ : Int)]
        have hk4 := IsD.grown hgr (fun k hk => by injection hk with hk; subst hk; have := HWG.out; omega) hk3
        have HK4 := Lib.hid (IsD.mono (fun k hk _ => Nat.le_trans HF2.out.below.size hk) hk4)
        have HBZ : Hid (Below w.heap.size w ((w2.setCells wr.heap.size 1 [.string q.e.op, .string q.e.name, .int .i64 q.e.n, .int .i64 (q.e.at_ : Int), .slice x2 q.e.kids.length c2]).setRow (w.heap.size + 1) #[.string q.name, .string q.e.op, .string q.e.name, .int .i64 q.e.n, .int .i64 (q.e.at_ : Int), .slice x2 q.e.kids.length c2, .int .i64 (q.at_ : Int)])) := Lib.hid FZ_.below
        clear F2 F3 FZ_ hgs hgr hk2 hk3 hk4 hlt kc hb c0
        go_upto_region 6 with (refine wpList_store_mid rfl 41 (.tmp 22) (.tmp 21) rfl wr.heap.size 1 #[.string q.e.op, .string q.e.name, .int .i64 q.e.n, .int .i64 (q.e.at_ : Int), .slice x2 q.e.kids.length c2] rfl rfl ?_ HSE.out (e4_one _ _ _ _ _ _ _) ?_; (exact HTH.out))
        go_wp2_with (first | (refine wpList_load_row rfl 55 (.tmp 7) rfl wr.heap.size rfl 55 #[.string q.name, .string q.e.op, .string q.e.name, .int .i64 q.e.n, .int .i64 (q.e.at_ : Int), .slice x2 q.e.kids.length c2, .int .i64 (q.at_ : Int)] (0, 0) _ HL7.out Try.underlying55 rfl HSQ.out ?_) | (refine wpList_store_row rfl 55 (.tmp 4) (.tmp 23) rfl (w.heap.size + 1) #[.string q.name, .string q.e.op, .string q.e.name, .int .i64 q.e.n, .int .i64 (q.e.at_ : Int), .slice x2 q.e.kids.length c2, .int .i64 (q.at_ : Int)] rfl rfl 55 _ HL4.out HSQ.out rfl (qS_one _ _ _ _ _ _ _ _ _) ?_))
        refine bodyPost_ret (results_cell_tmp (q := 5) (p := 4) (ty := 55) rfl _ _ (w.heap.size + 1) 55 #[.string q.name, .string q.e.op, .string q.e.name, .int .i64 q.e.n, .int .i64 (q.e.at_ : Int), .slice x2 q.e.kids.length c2, .int .i64 (q.at_ : Int)] (0, 0) _ rfl (setRow_heap _ (w.heap.size + 1) _ _ _ _ HL4.out) Try.underlying55 rfl HSQ.out) rfl ?_
        unfold GivesQv
        rw [HR.out]
        exact ⟨HBZ.out, x2, c2, rfl, HK4.out⟩
      | false =>
        have hq1 : (q.name.toList == nm.toList) = false := by rw [Lib.toList_data, Lib.toList_data]; exact hcmp
        have HQ2 := Lib.hid (show R = eqOf (n.eqs.drop (i + 1)) nm by rw [HQ.out, eqOf_skip hcmp])
        clear hcmp kc
        go_wp2_with (first | (refine wpList_load_mid rfl 55 (.tmp 13) rfl g1 (i * 7) rfl (qeC q.name q.e xq cq (q.at_ : Int)) _ ?_ Try.underlying55 rfl HSQ.out ?_; (exact HRV.out)) | (refine wpList_store_row rfl 55 (.tmp 7) (.tmp 14) rfl wr.heap.size #[.string q.name, .string q.e.op, .string q.e.name, .int .i64 q.e.n, .int .i64 (q.e.at_ : Int), .slice xq q.e.kids.length cq, .int .i64 (q.at_ : Int)] rfl rfl 55 _ HAL.out HSQ.out rfl (qS_one _ _ _ _ _ _ _ _ _) ?_))
        refine ⟨⟨i + 1, wrap_succ (by have := HIL.out; have := HFEW.out; omega), HIL.out, HF2.out, HQ2.out⟩, ?_⟩
        rw [wrap_succ (by have := HIL.out; have := HFEW.out; omega)]
        simp [intOf]; omega
    · have d1 : decide ((i : Int) < (n.eqs.length : Int)) = false := by simp; omega
      obtain rfl : i = n.eqs.length := by have := HI_.out; omega
      have HR : Hid (R = none) := Lib.hid (by rw [hq, List.drop_length]; rfl)
      have HL4 := Lib.hid (hF.get 1 rfl)
      clear hil hq hF
      go_wp2_with (refine wpList_store_row rfl 55 (.tmp 4) (.tmp 25) rfl (w.heap.size + 1) #[.string ⟨#[]⟩, .string ⟨#[]⟩, .string ⟨#[]⟩, .int .i64 0, .int .i64 0, .slice none 0 0, .int .i64 0] rfl rfl 55 _ HL4.out HSQ.out rfl (qS_one _ _ _ _ _ _ _ _ _) ?_)
      refine bodyPost_ret (results_cell_tmp (q := 5) (p := 4) (ty := 55) rfl _ _ (w.heap.size + 1) 55 #[.string ⟨#[]⟩, .string ⟨#[]⟩, .string ⟨#[]⟩, .int .i64 0, .int .i64 0, .slice none 0 0, .int .i64 0] (0, 0) _ rfl (setRow_heap _ (w.heap.size + 1) _ _ _ _ HL4.out) Try.underlying55 rfl HSQ.out) rfl ?_
      unfold GivesQv
      rw [HR.out]
      exact ⟨below_setRow HF.out.below (by omega) _, rfl⟩
end Go.Proofs.Ytbgngmnpepnflaa

namespace Go.Proofs.Ytbgngmnpepnflaa
open Go Go.RowKit
def aw6N : Nd := (treeL [110, 111, 100, 101, 32, 102, 40, 120, 58, 32, 105, 110, 116, 41, 32, 114, 101, 116, 117, 114, 110, 115, 32, 40, 121, 58, 32, 105, 110, 116, 41, 59, 32, 108, 101, 116, 32, 121, 32, 61, 32, 120, 59, 32, 116, 101, 108]).getD 0 (⟨⟨#[]⟩, [], [], [], [], 0⟩ : Nd)
def aw6V : Vr := (findN aw6N (⟨#[121]⟩ : ByteArray)).getD vrZ
def aw6Q : Qe := (eqOf aw6N.eqs (⟨#[121]⟩ : ByteArray)).getD (⟨⟨#[]⟩, exZ, 0⟩ : Qe)
theorem aw6_tree : treeL [110, 111, 100, 101, 32, 102, 40, 120, 58, 32, 105, 110, 116, 41, 32, 114, 101, 116, 117, 114, 110, 115, 32, 40, 121, 58, 32, 105, 110, 116, 41, 59, 32, 108, 101, 116, 32, 121, 32, 61, 32, 120, 59, 32, 116, 101, 108] = [aw6N] := by kernel_rfl
theorem aw6_ok : okNd aw6N = true := by kernel_rfl
theorem aw6_find : findN aw6N (⟨#[121]⟩ : ByteArray) = some aw6V := by kernel_rfl
theorem aw6_kind : aw6V.kind = 2 := by kernel_rfl
theorem aw6_eq : eqOf aw6N.eqs (⟨#[121]⟩ : ByteArray) = some aw6Q := by kernel_rfl
theorem aw6_name : aw6Q.e.name = (⟨#[120]⟩ : ByteArray) := by kernel_rfl
theorem aw6_names : namesF [aw6N] = none := by kernel_rfl
theorem aw6_node : nodeFrom (⟨#[102]⟩ : ByteArray) [aw6N] 0 = 0 := by kernel_rfl
theorem aw6_bad : namesF (treeL [110, 111, 100, 101, 32, 102, 40, 41, 32, 114, 101, 116, 117, 114, 110, 115, 32, 40, 121, 58, 32, 105, 110, 116, 41, 59, 32, 108, 101, 116, 32, 121, 32, 61, 32, 122, 59, 32, 116, 101, 108]) = some 35 := by kernel_rfl
theorem aw6_okB : (treeL [110, 111, 100, 101, 32, 102, 40, 41, 32, 114, 101, 116, 117, 114, 110, 115, 32, 40, 121, 58, 32, 105, 110, 116, 41, 59, 32, 108, 101, 116, 32, 121, 32, 61, 32, 122, 59, 32, 116, 101, 108]).all okNd = true := by kernel_rfl
theorem aw6_lenB : (treeL [110, 111, 100, 101, 32, 102, 40, 41, 32, 114, 101, 116, 117, 114, 110, 115, 32, 40, 121, 58, 32, 105, 110, 116, 41, 59, 32, 108, 101, 116, 32, 121, 32, 61, 32, 122, 59, 32, 116, 101, 108]).length = 1 := by kernel_rfl
theorem eq_b6 (W : World) : (binOp .eql 26 (.agg #[.int .i64 8, .int .i64 35]) (.agg #[.int .i64 8, .int .i64 35])).run Try.prog W = .ok (.bool true) W := by kernel_rfl
theorem eq_f06 (W : World) : (binOp .eql 33 (.agg #[.int .i64 0, .int .i64 0]) (.agg #[.int .i64 0, .int .i64 0])).run Try.prog W = .ok (.bool true) W := by kernel_rfl
theorem aw6_facts : ∃ (nd : Nd) (v : Vr) (q : Qe), treeOf (⟨#[110, 111, 100, 101, 32, 102, 40, 120, 58, 32, 105, 110, 116, 41, 32, 114, 101, 116, 117, 114, 110, 115, 32, 40, 121, 58, 32, 105, 110, 116, 41, 59, 32, 108, 101, 116, 32, 121, 32, 61, 32, 120, 59, 32, 116, 101, 108]⟩ : ByteArray) = [nd] ∧ okNd nd = true ∧ findN nd (⟨#[121]⟩ : ByteArray) = some v ∧ v.kind = 2 ∧ eqOf nd.eqs (⟨#[121]⟩ : ByteArray) = some q ∧ q.e.name = (⟨#[120]⟩ : ByteArray) ∧ namesF [nd] = none ∧ nodeFrom (⟨#[102]⟩ : ByteArray) [nd] 0 = 0 :=
  ⟨aw6N, aw6V, aw6Q, by rw [treeOf_list]; exact aw6_tree, aw6_ok, aw6_find, aw6_kind, aw6_eq, aw6_name, aw6_names, aw6_node⟩
theorem aw6_factB : namesF (treeOf (⟨#[110, 111, 100, 101, 32, 102, 40, 41, 32, 114, 101, 116, 117, 114, 110, 115, 32, 40, 121, 58, 32, 105, 110, 116, 41, 59, 32, 108, 101, 116, 32, 121, 32, 61, 32, 122, 59, 32, 116, 101, 108]⟩ : ByteArray)) = some 35 ∧ (∀ (i : Nat) (h : i < (treeOf (⟨#[110, 111, 100, 101, 32, 102, 40, 41, 32, 114, 101, 116, 117, 114, 110, 115, 32, 40, 121, 58, 32, 105, 110, 116, 41, 59, 32, 108, 101, 116, 32, 121, 32, 61, 32, 122, 59, 32, 116, 101, 108]⟩ : ByteArray)).length), okNd (treeOf (⟨#[110, 111, 100, 101, 32, 102, 40, 41, 32, 114, 101, 116, 117, 114, 110, 115, 32, 40, 121, 58, 32, 105, 110, 116, 41, 59, 32, 108, 101, 116, 32, 121, 32, 61, 32, 122, 59, 32, 116, 101, 108]⟩ : ByteArray))[i] = true) ∧ (treeOf (⟨#[110, 111, 100, 101, 32, 102, 40, 41, 32, 114, 101, 116, 117, 114, 110, 115, 32, 40, 121, 58, 32, 105, 110, 116, 41, 59, 32, 108, 101, 116, 32, 121, 32, 61, 32, 122, 59, 32, 116, 101, 108]⟩ : ByteArray)).length ≤ 1000000 := by
  have e : treeOf (⟨#[110, 111, 100, 101, 32, 102, 40, 41, 32, 114, 101, 116, 117, 114, 110, 115, 32, 40, 121, 58, 32, 105, 110, 116, 41, 59, 32, 108, 101, 116, 32, 121, 32, 61, 32, 122, 59, 32, 116, 101, 108]⟩ : ByteArray) = treeL [110, 111, 100, 101, 32, 102, 40, 41, 32, 114, 101, 116, 117, 114, 110, 115, 32, 40, 121, 58, 32, 105, 110, 116, 41, 59, 32, 108, 101, 116, 32, 121, 32, 61, 32, 122, 59, 32, 116, 101, 108] := treeOf_list _
  rw [e]
  exact ⟨aw6_bad, okNd_all aw6_okB, by rw [aw6_lenB]; decide⟩
set_option maxHeartbeats 4000000 in
set_option maxRecDepth 100000 in
theorem awake6_any (w : World) : Calls Try.prog 11 #[] w (fun e w' => e = .returned (.bool true) ∧ Below w.heap.size w w') := by
  obtain ⟨nd, v, q, e1, e3, e4, e5, e6, e7, e8, e9⟩ := aw6_facts
  obtain ⟨f1, f2, f3⟩ := aw6_factB
  have kp := parse_at (⟨#[110, 111, 100, 101, 32, 102, 40, 120, 58, 32, 105, 110, 116, 41, 32, 114, 101, 116, 117, 114, 110, 115, 32, 40, 121, 58, 32, 105, 110, 116, 41, 59, 32, 108, 101, 116, 32, 121, 32, 61, 32, 120, 59, 32, 116, 101, 108]⟩ : ByteArray) w (by decide)
  have kf := fun W => fault6_any (⟨#[110, 111, 100, 101, 32, 102, 40, 41, 32, 114, 101, 116, 117, 114, 110, 115, 32, 40, 121, 58, 32, 105, 110, 116, 41, 59, 32, 108, 101, 116, 32, 121, 32, 61, 32, 122, 59, 32, 116, 101, 108]⟩ : ByteArray) W (by decide) f2 f3
  rw [e1] at kp
  unfold GivesO at kf
  rw [f1] at kf
  obtain ⟨q1, hq1⟩ : ∃ q, q = perOf (⟨#[110, 111, 100, 101, 32, 102, 40, 120, 58, 32, 105, 110, 116, 41, 32, 114, 101, 116, 117, 114, 110, 115, 32, 40, 121, 58, 32, 105, 110, 116, 41, 59, 32, 108, 101, 116, 32, 121, 32, 61, 32, 120, 59, 32, 116, 101, 108]⟩ : ByteArray) := ⟨_, rfl⟩
  obtain ⟨q2, hq2⟩ : ∃ q, q = patOf (⟨#[110, 111, 100, 101, 32, 102, 40, 120, 58, 32, 105, 110, 116, 41, 32, 114, 101, 116, 117, 114, 110, 115, 32, 40, 121, 58, 32, 105, 110, 116, 41, 59, 32, 108, 101, 116, 32, 121, 32, 61, 32, 120, 59, 32, 116, 101, 108]⟩ : ByteArray) := ⟨_, rfl⟩
  rw [← hq1, ← hq2] at kp
  have h1l : ([nd] : List Nd).length = 1 := rfl
  have HSB := Lib.hid size_bad
  have HSV := Lib.hid size_vS
  have HSQ := Lib.hid size_qS
  have HSN := Lib.hid size_nS
  have E3 := Lib.hid e3
  have E4 := Lib.hid e4
  have E5 := Lib.hid e5
  have E6 := Lib.hid e6
  have E7 := Lib.hid e7
  have E8 := Lib.hid e8
  have E9 := Lib.hid e9
  have KF := Lib.hid kf
  clear e1 e3 e4 e5 e6 e7 e8 e9 f1 f2 f3 kf hq1 hq2
  go_enter Try.func11, Try.ntmps11
  go_wp2_with fail
  (with_reducible refine kp.mono ?_)
  rintro e9 w1 ⟨x, c, rfl, hI, hb⟩
  have F1 := ((Fx.start w).call hb).alloc w1.heap.size rfl 26 #[.int .i64 0, .int .i64 0]
  have F2 := F1.store 0 rfl #[.int .i64 (q1 : Int), .int .i64 (q2 : Int)]
  have HN1 := Lib.hid (F1.get 0 rfl)
  have hI2 := IsD.below (new_row w1 26 #[.int .i64 0, .int .i64 0] #[.int .i64 (q1 : Int), .int .i64 (q2 : Int)]).1 hI
  obtain ⟨W2, hW2⟩ : ∃ W2, W2 = ((w1.alloc (.cells #[.int .i64 0, .int .i64 0] 26)).setRow w1.heap.size #[.int .i64 (q1 : Int), .int .i64 (q2 : Int)]) := ⟨_, rfl⟩
  rw [← hW2] at F2 hI2
  have kb := Back_any [nd] W2 (by have := F2.lt_ 0 rfl; omega) _ x c hI2
  rw [hW2, h1l] at kb
  have HF2 := Lib.hid (F2.seen)
  have HW2 := Lib.hid hW2
  clear F1 F2 hI hI2 hb kp hW2
  go_wp2_with (refine wpList_store_row rfl 26 (.tmp 2) (.tmp 11) rfl w1.heap.size #[.int .i64 (q1 : Int), .int .i64 (q2 : Int)] rfl rfl 26 _ HN1.out HSB.out rfl (fault_one _ _) ?_)
  (with_reducible refine kb.mono ?_)
  rw [← HW2.out]
  rintro e9 w3 ⟨x3, c3, rfl, hI3, hb⟩
  have HF3 := Lib.hid (HF2.out.call hb)
  have HI3 := Lib.hid hI3
  obtain ⟨g, rfl, hg, xi, ci, xo, co, xl, cl, xe, ce, hrg, t1, t2, t3, t4⟩ := nd_at (l := [nd]) hI3 0 (by simp)
  simp only [List.getElem_cons_zero, Nat.zero_mul] at hrg t1 t2 t3 t4
  have kn := find_any nd (⟨#[121]⟩ : ByteArray) E3.out w3 _ xi xo xl xe ci co cl ce ⟨t1, t2, t3, t4⟩
  unfold GivesFv ndV at kn
  rw [E4.out] at kn
  have kn : Calls Try.prog 28 #[.agg (ndC nd xi xo xl xe ci co cl ce).toArray, .string (⟨#[121]⟩ : ByteArray)] w3 (fun en w' => en = .returned (.tuple #[.agg #[.string v.name, .int .i64 (v.kind : Int), .string v.on, .bool v.not_, .int .i64 (v.at_ : Int)], .bool true]) ∧ Below w3.heap.size w3 w') := kn
  have HRV := Lib.hid hrg
  have HG := Lib.hid hg
  have HNI : Hid (NdIn _ w3 nd xi xo xl xe ci co cl ce) := Lib.hid ⟨t1, t2, t3, t4⟩
  have hc3 : 1 ≤ c3 := by obtain ⟨x', c', h1, h2, h3⟩ := IsD.slice hI3; injection h1 with _ _ h; subst h; exact h2
  clear hb hI3 kb hrg hg t1 t2 t3 t4
  go_wp2_with (refine wpList_load_mid rfl 59 (.tmp 16) rfl g (0) rfl (ndC nd xi xo xl xe ci co cl ce) _ ?_ Try.underlying59 rfl HSN.out ?_; (exact HRV.out))
  (with_reducible refine kn.mono ?_)
  rintro e9 w4 ⟨rfl, hb⟩
  have F4 := (HF3.out.call hb).alloc w4.heap.size rfl 70 #[.string ⟨#[]⟩, .int .i64 0, .string ⟨#[]⟩, .bool false, .int .i64 0]
  have F5 := F4.store 0 rfl #[.string v.name, .int .i64 (v.kind : Int), .string v.on, .bool v.not_, .int .i64 (v.at_ : Int)]
  have HAV := Lib.hid (F4.get 0 rfl)
  have hb5 := hb.trans ((new_row w4 70 #[.string ⟨#[]⟩, .int .i64 0, .string ⟨#[]⟩, .bool false, .int .i64 0] #[.string v.name, .int .i64 (v.kind : Int), .string v.on, .bool v.not_, .int .i64 (v.at_ : Int)]).1.mono hb.size)
  have HRV5 := Lib.hid (rangeAt_below HRV.out hb5 HG.out)
  have HI5 := Lib.hid (IsD.below hb5 HI3.out)
  have HNI5 := Lib.hid (NdIn.below hb5 HNI.out)
  obtain ⟨W5, hW5⟩ : ∃ W5, W5 = ((w4.alloc (.cells #[.string ⟨#[]⟩, .int .i64 0, .string ⟨#[]⟩, .bool false, .int .i64 0] 70)).setRow w4.heap.size #[.string v.name, .int .i64 (v.kind : Int), .string v.on, .bool v.not_, .int .i64 (v.at_ : Int)]) := ⟨_, rfl⟩
  rw [← hW5] at F5 HRV5 HI5 HNI5
  have HW5 := Lib.hid hW5
  have kq := eqOf_any nd (⟨#[121]⟩ : ByteArray) W5 _ xi xo xl xe ci co cl ce HNI5.out
  unfold GivesQv ndV at kq
  rw [E6.out] at kq
  have kq : Calls Try.prog 29 #[.agg (ndC nd xi xo xl xe ci co cl ce).toArray, .string (⟨#[121]⟩ : ByteArray)] W5 (fun en w' => Below W5.heap.size W5 w' ∧ ∃ xq cq, en = .returned (.tuple #[.agg #[.string q.name, .string q.e.op, .string q.e.name, .int .i64 q.e.n, .int .i64 (q.e.at_ : Int), .slice xq q.e.kids.length cq, .int .i64 (q.at_ : Int)], .bool true]) ∧ KidsD (W5.heap.size ≤ ·) w' q.e xq cq) := kq
  rw [hW5] at kq HRV5
  have HF5 := Lib.hid F5
  clear F4 F5 hb5 hW5 kn HRV HNI hb
  go_wp2_with (first | (refine wpList_store_row rfl 70 (.tmp 4) (.tmp 19) rfl w4.heap.size #[.string v.name, .int .i64 (v.kind : Int), .string v.on, .bool v.not_, .int .i64 (v.at_ : Int)] rfl rfl 70 _ HAV.out HSV.out rfl (vS_one _ _ _ _ _) ?_) | (refine wpList_load_mid rfl 59 (.tmp 23) rfl g (0) rfl (ndC nd xi xo xl xe ci co cl ce) _ ?_ Try.underlying59 rfl HSN.out ?_; (exact HRV5.out)))
  (with_reducible refine kq.mono ?_)
  rw [← HW5.out]
  rintro e9 w6 ⟨hb, xq, cq, rfl, _⟩
  have F6 := (HF5.out.call hb).alloc w6.heap.size rfl 55 #[.string ⟨#[]⟩, .string ⟨#[]⟩, .string ⟨#[]⟩, .int .i64 0, .int .i64 0, .slice none 0 0, .int .i64 0]
  have F7 := F6.store 1 rfl #[.string q.name, .string q.e.op, .string q.e.name, .int .i64 q.e.n, .int .i64 (q.e.at_ : Int), .slice xq q.e.kids.length cq, .int .i64 (q.at_ : Int)]
  have HAQ := Lib.hid (F6.get 1 rfl)
  have hb7 := hb.trans ((new_row w6 55 #[.string ⟨#[]⟩, .string ⟨#[]⟩, .string ⟨#[]⟩, .int .i64 0, .int .i64 0, .slice none 0 0, .int .i64 0] #[.string q.name, .string q.e.op, .string q.e.name, .int .i64 q.e.n, .int .i64 (q.e.at_ : Int), .slice xq q.e.kids.length cq, .int .i64 (q.at_ : Int)]).1.mono hb.size)
  have HI7 := Lib.hid (IsD.below hb7 HI5.out)
  obtain ⟨W7, hW7⟩ : ∃ W7, W7 = ((w6.alloc (.cells #[.string ⟨#[]⟩, .string ⟨#[]⟩, .string ⟨#[]⟩, .int .i64 0, .int .i64 0, .slice none 0 0, .int .i64 0] 55)).setRow w6.heap.size #[.string q.name, .string q.e.op, .string q.e.name, .int .i64 q.e.n, .int .i64 (q.e.at_ : Int), .slice xq q.e.kids.length cq, .int .i64 (q.at_ : Int)]) := ⟨_, rfl⟩
  rw [← hW7] at F7 HI7
  have HW7 := Lib.hid hW7
  have HF7 := Lib.hid F7
  have kf := KF.out W7
  rw [hW7] at kf
  have z3 : ferO 8 (some 35) = 8 := rfl
  have z4 : fatO (some 35) = 35 := rfl
  rw [z3, z4] at kf
  clear F6 F7 hb7 hW7 kq HRV5 HNI5 hb z3 z4
  go_wp2_with (refine wpList_store_row rfl 55 (.tmp 6) (.tmp 26) rfl w6.heap.size #[.string q.name, .string q.e.op, .string q.e.name, .int .i64 q.e.n, .int .i64 (q.e.at_ : Int), .slice xq q.e.kids.length cq, .int .i64 (q.at_ : Int)] rfl rfl 55 _ HAQ.out HSQ.out rfl (qS_one _ _ _ _ _ _ _ _ _) ?_)
  (with_reducible refine kf.mono ?_)
  rw [← HW7.out]
  rintro e9 w8 ⟨rfl, hb⟩
  have HF8 := Lib.hid (HF7.out.call hb)
  have HI8 := Lib.hid (IsD.below hb HI7.out)
  have kc := namesCheck_any [nd] (one_at E3.out) (by simp) w8 _ _ c3 HI8.out
  unfold GivesO at kc
  rw [E8.out, h1l] at kc
  have z1 : ferO 8 none = 0 := rfl
  have z2 : fatO none = 0 := rfl
  rw [z1, z2] at kc
  have b1 := fun W => eq_b6 W
  clear hb kf z1 z2
  go_wp2_with fail
  (with_reducible refine kc.mono ?_)
  rintro e9 w9 ⟨rfl, hb⟩
  have HF9 := Lib.hid (HF8.out.call hb)
  have HI9 := Lib.hid (IsD.below hb HI8.out)
  have kd := namesNode_any [nd] (⟨#[102]⟩ : ByteArray) w9 _ _ c3 HI9.out
  rw [E9.out, h1l] at kd
  have b2 := fun W => eq_f06 W
  clear hb kc
  go_wp2_with fail
  (with_reducible refine kd.mono ?_)
  rintro e9 w10 ⟨rfl, hb⟩
  have HF10 := Lib.hid (HF9.out.call hb)
  have c1 : w10.cell? ⟨w4.heap.size, 1, none⟩ = some (.int .i64 2) := by
    rw [cell_of_row _ w4.heap.size 1 _ _ _ (HF10.out.get 0 rfl)]
    show some (Value.int .i64 (v.kind : Int)) = _
    rw [E5.out]
    rfl
  have c2 : w10.cell? ⟨w6.heap.size, 2, none⟩ = some (.string (⟨#[120]⟩ : ByteArray)) := by
    rw [cell_of_row _ w6.heap.size 2 _ _ _ (HF10.out.get 1 rfl)]
    show some (Value.string q.e.name) = _
    rw [E7.out]
  clear hb kd
  go_wp2_with fail
  go_ret
  exact ⟨rfl, HF10.out.below⟩
end Go.Proofs.Ytbgngmnpepnflaa

namespace Go.Proofs.Ytbgngmnpepnflaa
open Go Go.RowKit
/-- A text whose first fault is known. -/
theorem fault6_val {t : ByteArray} {L : List UInt8} {o : Option Nat} (ht : t.data.toList = L) (hl : L.length ≤ 3000) (h1 : (treeL L).all okNd = true) (h3 : (treeL L).length ≤ 32) (h2 : namesF (treeL L) = o) (w : World) : Calls Try.prog 13 #[.string t] w (fun e w' => e = .returned (.agg #[.int .i64 (ferO 8 o), .int .i64 (fatO o)]) ∧ Below w.heap.size w w') := by
  have e : treeOf t = treeL L := by rw [treeOf_list, ht]
  have hs : t.size ≤ 3000 := by
    have : t.data.toList.length = t.size := by simp
    rw [ht] at this; omega
  refine (fault6_any t w (by omega) (by rw [e]; exact okNd_all h1) (by rw [e]; omega)).mono ?_
  rintro e9 w' ⟨rfl, hb⟩
  rw [e, h2]
  exact ⟨rfl, hb⟩
theorem fld6_0 (a b : Int) (W : World) : (Instr.field 26 (.agg #[.int .i64 a, .int .i64 b]) 0).run Try.prog W = .ok (.int .i64 a) W := by kernel_rfl
theorem fld6_1 (a b : Int) (W : World) : (Instr.field 26 (.agg #[.int .i64 a, .int .i64 b]) 1).run Try.prog W = .ok (.int .i64 b) W := by kernel_rfl
end Go.Proofs.Ytbgngmnpepnflaa
