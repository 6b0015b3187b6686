/-
  A region that draws its order, by what each of its operations yields: if each operation, run in whatever world its predecessors have left, yields a value that fits its word, and every word stays true while memory only grows, then whatever order is drawn all words hold behind the region. Nothing here speaks of the program.
-/
import Derived.OwnWalk
import Derived.Below
import Derived.Orders
namespace Go.Proofs.Ythgcoeienbgmhaa
open Go Go.RowKit

section
variable {P : Program} {Q : Exit → Act → World → Prop} {md : Region.Mode}

/-- One operation, run where its predecessors' words hold. -/
def Step (P : Program) (md : Region.Mode) (Q : Exit → Act → World → Prop) (l : List Oper) (Sp : Nat → Value → World → Prop) (B : Nat) (w0 : World) (a0 : Act) (i : Nat) (o : Oper) : Prop :=
  ∀ (a : Act) (W : World), Below B w0 W → B ≤ W.heap.size → (∀ j, (∀ x ∈ l, x.dst ≠ some j) → a.tmps.getD j undef = a0.tmps.getD j undef) →
    (∀ e ∈ o.after.toList, Region.binds md e = true → ∀ x, l[e.on]? = some x → ∀ d, x.dst = some d → d < a.tmps.size ∧ Sp e.on (a.tmps.getD d undef) W) →
    wpOp P l.toArray Q i (fun a' W' => ∃ v, a' = a.put o.dst v ∧ Sp i v W' ∧ Below W.heap.size W W') a W

def Steps (P : Program) (md : Region.Mode) (Q : Exit → Act → World → Prop) (l : List Oper) (Sp : Nat → Value → World → Prop) (B : Nat) (w0 : World) (a0 : Act) : Nat → List Oper → Prop
  | _, [] => True
  | i, o :: r => Step P md Q l Sp B w0 a0 i o ∧ Steps P md Q l Sp B w0 a0 (i + 1) r

variable {l : List Oper} {Sp : Nat → Value → World → Prop} {B : Nat} {w0 : World} {a0 : Act}

theorem Steps.cons {i : Nat} {o : Oper} {r : List Oper} (h : Step P md Q l Sp B w0 a0 i o) (hr : Steps P md Q l Sp B w0 a0 (i + 1) r) : Steps P md Q l Sp B w0 a0 i (o :: r) := ⟨h, hr⟩
theorem Steps.nil {i : Nat} : Steps P md Q l Sp B w0 a0 i [] := trivial

theorem Steps.at_ : ∀ (r : List Oper) (i : Nat), Steps P md Q l Sp B w0 a0 i r → ∀ (k : Nat) (o : Oper), r[k]? = some o → Step P md Q l Sp B w0 a0 (i + k) o
  | [], _, _, k, o, h => by simp at h
  | x :: r, i, hs, 0, o, h => by
    simp only [List.getElem?_cons_zero, Option.some.injEq] at h
    subst h
    exact hs.1
  | x :: r, i, hs, k + 1, o, h => by
    have := Steps.at_ r (i + 1) hs.2 k o (by simpa using h)
    rwa [show i + 1 + k = i + (k + 1) by omega] at this

/-- Its predecessors stand ahead of each operation. -/
def ahead (l : List Oper) : Bool := (List.range l.length).all fun i => match l[i]? with
  | some o => o.after.toList.all fun e => decide (e.on < i)
  | none => true

theorem ahead_spec (h : ahead l = true) {i : Nat} {o : Oper} (hi : l[i]? = some o) {e : _} (he : e ∈ o.after.toList) : e.on < i := by
  have hlt : i < l.length := (List.getElem?_eq_some_iff.1 hi).1
  unfold ahead at h
  rw [List.all_eq_true] at h
  have h1 := h i (List.mem_range.2 hlt)
  simp only [hi] at h1
  rw [List.all_eq_true] at h1
  simpa using h1 e he

structure Inv (l : List Oper) (Sp : Nat → Value → World → Prop) (B : Nat) (w0 : World) (a0 : Act) (listed : Array Bool) (a : Act) (W : World) : Prop where
  size : listed.size = l.length
  below : Below B w0 W
  base : B ≤ W.heap.size
  defers : a.defers = a0.defers
  tmps : a.tmps.size = a0.tmps.size
  old : ∀ j, (∀ x ∈ l, x.dst ≠ some j) → a.tmps.getD j undef = a0.tmps.getD j undef
  new : ∀ i x d, l[i]? = some x → listed.getD i false = true → x.dst = some d → Sp i (a.tmps.getD d undef) W

theorem put_same {a : Act} {d : Tmp} {v : Value} (h : d < a.tmps.size) : (a.put (some d) v).tmps.getD d undef = v := by
  simp [Act.put, h]
theorem put_other {a : Act} {o : Option Tmp} {d : Tmp} {v : Value} (h : o ≠ some d) : (a.put o v).tmps.getD d undef = a.tmps.getD d undef := by
  cases o with
  | none => rfl
  | some e =>
    have hne : e ≠ d := fun e' => h (by rw [e'])
    show (a.tmps.setIfInBounds e v).getD d undef = _
    simp only [Array.getD, Array.size_setIfInBounds]
    split
    · exact Array.getElem_setIfInBounds_ne (by assumption) hne
    · rfl
theorem put_size {a : Act} {o : Option Tmp} {v : Value} : (a.put o v).tmps.size = a.tmps.size := by
  cases o <;> simp [Act.put]
theorem put_defers {a : Act} {o : Option Tmp} {v : Value} : (a.put o v).defers = a.defers := by
  cases o <;> rfl

/-- No slot is written twice. -/
def single (l : List Oper) : Bool := (List.range l.length).all fun i => (List.range l.length).all fun j => i == j || match l[i]?, l[j]? with
  | some x, some y => x.dst.isNone || !(x.dst == y.dst)
  | _, _ => true

theorem single_spec (h : single l = true) {i j : Nat} {x y : Oper} {d : Tmp} (hi : l[i]? = some x) (hj : l[j]? = some y) (hx : x.dst = some d) (hy : y.dst = some d) : i = j := by
  have hil : i < l.length := (List.getElem?_eq_some_iff.1 hi).1
  have hjl : j < l.length := (List.getElem?_eq_some_iff.1 hj).1
  unfold single at h
  rw [List.all_eq_true] at h
  have h1 := h i (List.mem_range.2 hil)
  rw [List.all_eq_true] at h1
  have h2 := h1 j (List.mem_range.2 hjl)
  simp only [hi, hj, hx, hy, Bool.or_eq_true, beq_iff_eq] at h2
  rcases h2 with h2 | h2
  · exact h2
  · simp at h2

def within (l : List Oper) (n : Nat) : Bool := l.all fun o => match o.dst with
  | some d => decide (d < n)
  | none => true
theorem within_spec {n : Nat} (h : within l n = true) {o : Oper} (ho : o ∈ l) {d : Tmp} (hd : o.dst = some d) : d < n := by
  unfold within at h
  rw [List.all_eq_true] at h
  have := h o ho
  simpa [hd] using this

theorem Inv.step (hst : ∀ i v W W', Sp i v W → Below W.heap.size W W' → Sp i v W') (h1 : single l = true) (h2 : within l a0.tmps.size = true)
    {listed : Array Bool} {a : Act} {W : World} (h : Inv l Sp B w0 a0 listed a W) {i : Nat} {o : Oper} (hi : l[i]? = some o) {v : Value} {W' : World} (hv : Sp i v W') (hb : Below W.heap.size W W') :
    Inv l Sp B w0 a0 (listed.setIfInBounds i true) (a.put o.dst v) W' := by
  refine ⟨by simpa using h.size, h.below.trans (hb.mono h.base), Nat.le_trans h.base hb.size, put_defers.trans h.defers, put_size.trans h.tmps, fun j hj => ?_, fun k x d hk hl hd => ?_⟩
  · rw [put_other (hj o (List.mem_of_getElem? hi)), h.old j hj]
  · by_cases hki : k = i
    · subst hki
      rw [hi] at hk
      injection hk with hk
      subst hk
      rw [hd, put_same (by rw [h.tmps]; exact within_spec h2 (List.mem_of_getElem? hi) hd)]
      exact hv
    · rw [put_other (fun e => hki (single_spec h1 hk hi hd e))]
      rw [getD_set_ne _ (Ne.symm hki)] at hl
      exact hst _ _ _ _ (h.new k x d hk hl hd) hb

theorem count_set {listed : Array Bool} {i : Nat} (h : listed.getD i true = false) : (listed.setIfInBounds i true).toList.count false + 1 = listed.toList.count false := by
  have hlt : i < listed.size := by
    rcases Nat.lt_or_ge i listed.size with h' | h'
    · exact h'
    · simp [Array.getD, Nat.not_lt.2 h'] at h
  have hv : listed.toList[i]'(by simpa using hlt) = false := by
    have : listed[i] = false := by simpa [Array.getD, hlt] using h
    simpa using this
  rw [Array.toList_setIfInBounds, List.count_set (by simpa using hlt), hv]
  have hpos : 0 < listed.toList.count false := List.count_pos_iff.2 (by rw [← hv]; exact List.getElem_mem _)
  simp only [beq_self_eq_true, if_true]
  have e : (true == false) = false := rfl
  rw [e]
  simp only [Bool.false_eq_true, if_false]
  omega

theorem wpAny_steps (hst : ∀ i v W W', Sp i v W → Below W.heap.size W W' → Sp i v W') (h1 : single l = true) (h2 : within l a0.tmps.size = true) (h3 : ahead l = true) (hs : Steps P md Q l Sp B w0 a0 0 l)
    (hdone : ∀ a W, Inv l Sp B w0 a0 (Array.replicate l.length true) a W → Q .normal a W) :
    ∀ (fuel : Nat) (listed : Array Bool) (a : Act) (W : World), Inv l Sp B w0 a0 listed a W → listed.toList.count false ≤ fuel → wpAny P md l.toArray Q fuel listed a W := by
  have empty : ∀ (listed : Array Bool), listed.size = l.length → Region.ready md l.toArray listed = [] → listed = Array.replicate l.length true := by
    intro listed hsz hr
    have all : ∀ n i, i < n → i < l.length → listed.getD i false = true := by
      intro n
      induction n with
      | zero => intro i hi; omega
      | succ n ih =>
        intro i hi hil
        by_cases hin : i < n
        · exact ih i hin hil
        · cases hb : listed.getD i false with
          | true => rfl
          | false =>
            have hlt : i < listed.size := by omega
            have hmem : i ∈ Region.ready md l.toArray listed := by
              rw [mem_ready]
              refine ⟨by simpa [Array.getD, hlt] using hb, l[i], by simp [hil], fun e he _ => ?_⟩
              have hlt' := ahead_spec h3 (i := i) (o := l[i]) (by simp [hil]) (Array.mem_toList_iff.2 he)
              exact ih e.on (by omega) (by omega)
            rw [hr] at hmem
            cases hmem
    apply Array.ext
    · simp [hsz]
    · intro i hi1 hi2
      have := all (i + 1) i (Nat.lt_succ_self _) (by omega)
      simpa [Array.getD, hi1] using this
  intro fuel
  induction fuel with
  | zero =>
    intro listed a W hI hc
    have hall : ∀ b ∈ listed.toList, b = true := by
      intro b hb
      cases b with
      | true => rfl
      | false => have := List.count_pos_iff.2 hb; omega
    have hr : Region.ready md l.toArray listed = [] := by
      cases hr : Region.ready md l.toArray listed with
      | nil => rfl
      | cons j js =>
        have hj : j ∈ Region.ready md l.toArray listed := by rw [hr]; exact List.mem_cons_self ..
        rw [mem_ready] at hj
        have hlt : j < listed.size := by
          rcases Nat.lt_or_ge j listed.size with h' | h'
          · exact h'
          · have := hj.1; simp [Array.getD, Nat.not_lt.2 h'] at this
        have hb := hall (listed[j]) (by simp)
        have hf := hj.1
        simp [Array.getD, hlt, hb] at hf
    refine ⟨hr, hdone a W ?_⟩
    rw [← empty listed hI.size hr]
    exact hI
  | succ fuel ih =>
    intro listed a W hI hc
    refine ⟨fun hr => hdone a W (by rw [← empty listed hI.size hr]; exact hI), fun i hi => ?_⟩
    rw [mem_ready] at hi
    obtain ⟨hf, o, ho, hpre⟩ := hi
    have hio : l[i]? = some o := by simpa using ho
    have hst' := Steps.at_ l 0 hs i o hio
    rw [Nat.zero_add] at hst'
    refine wpOp_mono ?_ (hst' a W hI.below hI.base hI.old (fun e he hb x hx d hd => ⟨by rw [hI.tmps]; exact within_spec h2 (List.mem_of_getElem? hx) hd, hI.new e.on x d hx (hpre e (Array.mem_toList_iff.1 he) hb) hd⟩))
    rintro a' W' ⟨v, rfl, hv, hb⟩
    have := count_set hf
    exact ih _ _ _ (hI.step hst h1 h2 hio hv hb) (by omega)

/-- THE REGION. -/
theorem wp_region_steps {id : Nat} {a0 : Act} {w : World} (Sp : Nat → Value → World → Prop) (B : Nat) (w0 : World) (hm : P.follows .mixedOrders = true) (hB : Below B w0 w) (hBw : B ≤ w.heap.size)
    (hst : ∀ i v W W', Sp i v W → Below W.heap.size W W' → Sp i v W') (h1 : single l = true) (h2 : within l a0.tmps.size = true) (h3 : ahead l = true) (hs : Steps P .any Q l Sp B w0 a0 0 l)
    (hdone : ∀ a W, Inv l Sp B w0 a0 (Array.replicate l.length true) a W → Q .normal a W) : (Code.region id l.toArray true).wp P Q a0 w := by
  refine wp_region_any hm ?_
  have hsz : l.toArray.size = l.length := by simp
  refine wpAny_steps hst h1 h2 h3 hs hdone _ _ _ _ ⟨by simp, hB.drew, hBw, rfl, rfl, fun _ _ => rfl, fun i x d _ hl _ => ?_⟩ ?_
  · have : (Array.replicate l.toArray.size false).getD i false = false := by
      simp [Array.getD]
    rw [this] at hl
    cases hl
  · simp

end
end Go.Proofs.Ythgcoeienbgmhaa
