/-
  Texts that the statements stand on, part 6.
-/
import Derived.Test.YtjlnihennlkmpaaGreatDoorMe
import Derived.Lib.ItoaLen
set_option linter.unusedVariables false
set_option linter.unusedSimpArgs false
namespace Go.Proofs.YtjlnihennlkmpaaGreatDoor
open Go Go.RowKit
section
variable {L : List Wd}
/-! Steps behind a fault. -/
theorem declared_stk {st : St} (h : st.er ≠ 0) : (declaredS L st).2.2.er = st.er := by
  have h1 : (declA L st).er = st.er := by
    unfold declA
    split
    · rw [fail_stk 2 h]
    · rfl
  have h2 : (declB L st).er = st.er := h1
  show (nameS L (declB L st)).2.er = _
  rw [name_stk (by rw [h2]; exact h), h2]
theorem declL_stk : ∀ (k : Nat) {st : St}, st.er ≠ 0 → (declL L k st).2.er = st.er
  | 0, st, h => rfl
  | k + 1, st, h => by
    unfold declL
    split
    · have h1 : (declaredS L (nextS L st)).2.2.er = st.er := by rw [declared_stk (by rw [next_er]; exact h), next_er]
      show (declL L k (declaredS L (nextS L st)).2.2).2.er = _
      rw [declL_stk k (by rw [h1]; exact h), h1]
    · rfl
theorem kind_stk {st : St} (h : st.er ≠ 0) : (kindS L st).2.er = st.er := by
  unfold kindS
  split
  · exact next_er
  · split
    · exact next_er
    · show (failS L 7 st).er = _
      rw [fail_stk 7 h]
theorem declS_stk {st : St} (h : st.er ≠ 0) : (declS L st).2.er = st.er := by
  have h1 := declared_stk (L := L) h
  have h2 : (declL L L.length (declaredS L st).2.2).2.er = st.er := by rw [declL_stk _ (by rw [h1]; exact h), h1]
  have h3 : (needS L (bs [58]) (declN L st).2).er = st.er := by
    show (needS L (bs [58]) (declL L L.length (declaredS L st).2.2).2).er = _
    rw [need_stk _ (by rw [h2]; exact h), h2]
  show (kindS L (needS L (bs [58]) (declN L st).2)).2.er = _
  rw [kind_stk (by rw [h3]; exact h), h3]
theorem localS_stk {st : St} (h : st.er ≠ 0) : (localS L st).2.er = st.er := by
  have h1 := declS_stk (L := L) h
  unfold localS
  simp only
  split
  · show (nameS L (takeS L _ (nextS L (declS L st).2)).2).2.er = _
    have h2 : (takeS L (bs [110, 111, 116]) (nextS L (declS L st).2)).2.er = st.er := by rw [take_er, next_er, h1]
    rw [name_stk (by rw [h2]; exact h), h2]
  · exact h1
theorem declsL_stk : ∀ (k : Nat) {st : St}, st.er ≠ 0 → (declsL L k st).2.er = st.er
  | 0, st, h => rfl
  | k + 1, st, h => by
    unfold declsL
    split
    · have h1 : (declS L (nextS L st)).2.er = st.er := by rw [declS_stk (by rw [next_er]; exact h), next_er]
      show (declsL L k (declS L (nextS L st)).2).2.er = _
      rw [declsL_stk k (by rw [h1]; exact h), h1]
    · rfl
theorem declsS_stk {st : St} (h : st.er ≠ 0) : (declsS L st).2.er = st.er := by
  have h1 := need_stk (L := L) (bs [40]) h
  have h2 : (declsB L (needS L (bs [40]) st)).2.er = st.er := by
    unfold declsB
    split
    · exact h1
    · have h3 : (declS L (needS L (bs [40]) st)).2.er = st.er := by rw [declS_stk (by rw [h1]; exact h), h1]
      show (declsL L L.length (declS L (needS L (bs [40]) st)).2).2.er = _
      rw [declsL_stk _ (by rw [h3]; exact h), h3]
  show (needS L (bs [41]) (declsB L (needS L (bs [40]) st)).2).er = _
  rw [need_stk _ (by rw [h2]; exact h), h2]
theorem localsL_stk : ∀ (k : Nat) {st : St}, st.er ≠ 0 → (localsL L k st).2.er = st.er
  | 0, st, h => rfl
  | k + 1, st, h => by
    unfold localsL
    split
    · have h1 : (needS L (bs [59]) (localS L st).2).er = st.er := by
        rw [need_stk _ (by rw [localS_stk h]; exact h), localS_stk h]
      show (localsL L k (needS L (bs [59]) (localS L st).2)).2.er = _
      rw [localsL_stk k (by rw [h1]; exact h), h1]
    · rfl
theorem varS_stk {st : St} (h : st.er ≠ 0) : (varS L st).2.er = st.er := by
  unfold varS
  split
  · have h0 : (nextS L st).er = st.er := next_er
    unfold localsS
    split
    · show (nextS L (nextS L st)).er = _
      rw [next_er, h0]
    · have h1 : (needS L (bs [59]) (localS L (nextS L st)).2).er = st.er := by
        rw [need_stk _ (by rw [localS_stk (by rw [h0]; exact h), h0]; exact h), localS_stk (by rw [h0]; exact h), h0]
      show (localsL L L.length (needS L (bs [59]) (localS L (nextS L st)).2)).2.er = _
      rw [localsL_stk _ (by rw [h1]; exact h), h1]
  · rfl
theorem eqS_stk {st : St} (h : st.er ≠ 0) : (eqS L st).2.er = st.er := by
  have h1 : (nameS L { st with parts := 0 }).2.er = st.er := name_stk (st := { st with parts := 0 }) h
  have h2 : (needS L (bs [61]) (nameS L { st with parts := 0 }).2).er = st.er := by rw [need_stk _ (by rw [h1]; exact h), h1]
  have h3 := (nx_stk L 31).expr.then_ h h2
  show (needS L (bs [59]) (exprS L (needS L (bs [61]) (nameS L { st with parts := 0 }).2)).2).er = _
  have h3 : (exprS L (needS L (bs [61]) (nameS L { st with parts := 0 }).2)).2.er = st.er := h3
  rw [need_stk _ (by rw [h3]; exact h), h3]
theorem eqsL_stk : ∀ (k : Nat) {st : St}, st.er ≠ 0 → (eqsL L k st).2.er = st.er
  | 0, st, h => rfl
  | k + 1, st, h => by
    unfold eqsL
    split
    · have h1 := eqS_stk (L := L) h
      show (eqsL L k (eqS L st).2).2.er = _
      rw [eqsL_stk k (by rw [h1]; exact h), h1]
    · rfl
/-- The steps of a node, each by itself. -/
theorem node_steps (S : St) : nodeS L S = (let n := nameS L (needS L (bs [110, 111, 100, 101]) (zeroN S)); let i := declsS L n.2; let o := declsS L (needS L (bs [114, 101, 116, 117, 114, 110, 115]) i.2); let v := varS L (needS L (bs [59]) o.2); let q := eqsL L L.length (needS L (bs [108, 101, 116]) v.2); (⟨n.1, i.1, o.1, v.1, q.1, (cur L S).at_⟩, (takeS L (bs [59]) (needS L (bs [116, 101, 108]) q.2)).2)) := rfl
theorem tailQ_stk {A : St} {e : Nat} (he : e ≠ 0) (h : A.er = e) : (takeS L (bs [59]) (needS L (bs [116, 101, 108]) A)).2.er = e := by rw [take_er, need_stk _ (by rw [h]; exact he), h]
theorem tailV_stk {A : St} {e : Nat} (he : e ≠ 0) (h : A.er = e) : (takeS L (bs [59]) (needS L (bs [116, 101, 108]) (eqsL L L.length (needS L (bs [108, 101, 116]) A)).2)).2.er = e := by
  have h1 : (needS L (bs [108, 101, 116]) A).er = e := by rw [need_stk _ (by rw [h]; exact he), h]
  exact tailQ_stk he (by rw [eqsL_stk _ (by rw [h1]; exact he), h1])
theorem tailO_stk {A : St} {e : Nat} (he : e ≠ 0) (h : A.er = e) : (takeS L (bs [59]) (needS L (bs [116, 101, 108]) (eqsL L L.length (needS L (bs [108, 101, 116]) (varS L (needS L (bs [59]) A)).2)).2)).2.er = e := by
  have h1 : (needS L (bs [59]) A).er = e := by rw [need_stk _ (by rw [h]; exact he), h]
  exact tailV_stk he (by rw [varS_stk (by rw [h1]; exact he), h1])
theorem tailI_stk {A : St} {e : Nat} (he : e ≠ 0) (h : A.er = e) : (takeS L (bs [59]) (needS L (bs [116, 101, 108]) (eqsL L L.length (needS L (bs [108, 101, 116]) (varS L (needS L (bs [59]) (declsS L (needS L (bs [114, 101, 116, 117, 114, 110, 115]) A)).2)).2)).2)).2.er = e := by
  have h1 : (needS L (bs [114, 101, 116, 117, 114, 110, 115]) A).er = e := by rw [need_stk _ (by rw [h]; exact he), h]
  exact tailO_stk he (by rw [declsS_stk (by rw [h1]; exact he), h1])
theorem nodeS_stk {S : St} (h : S.er ≠ 0) : (nodeS L S).2.er = S.er := by
  have h1 : (needS L (bs [110, 111, 100, 101]) (zeroN S)).er = S.er := need_stk (st := zeroN S) _ h
  have h2 : (nameS L (needS L (bs [110, 111, 100, 101]) (zeroN S))).2.er = S.er := by rw [name_stk (by rw [h1]; exact h), h1]
  rw [node_steps]
  exact tailI_stk h (by rw [declsS_stk (by rw [h2]; exact h), h2])
theorem programL_stk : ∀ (k n : Nat) {st : St}, st.er ≠ 0 → (programL L k n st).2.er = st.er
  | 0, n, st, h => rfl
  | k + 1, n, st, h => by
    unfold programL
    split
    · have h0 : (limS L n st).er = st.er := by
        unfold limS
        split
        · rw [fail_stk 2 h]
        · rfl
      have h1 : (nodeS L (limS L n st)).2.er = st.er := by rw [nodeS_stk (by rw [h0]; exact h), h0]
      show (programL L k (n + 1) (nodeS L (limS L n st)).2).2.er = _
      rw [programL_stk k _ (by rw [h1]; exact h), h1]
    · rfl
end
/-! Alike but for places: written alike. -/
theorem toList_inj {a b : ByteArray} (h : (a.toList == b.toList) = true) : a = b := by
  have h := eq_of_beq h
  rw [Lib.toList_data, Lib.toList_data] at h
  exact bytes_inj h
mutual
theorem same_text : ∀ (a b : Ex), sameE a b = true → textE a = textE b ∧ ∀ t, primOf a t = primOf b t
  | .mk o m n p ks, .mk o' m' n' p' ks', h => by
    rw [sameE] at h
    simp only [Bool.and_eq_true] at h
    obtain ⟨⟨⟨h1, h2⟩, h3⟩, h4⟩ := h
    obtain rfl := toList_inj h1
    obtain rfl := toList_inj h2
    obtain rfl : n = n' := eq_of_beq h3
    exact ⟨by rw [textE, textE, same_texts ks ks' h4], fun t => rfl⟩
theorem same_texts : ∀ (a b : List Ex), sameL a b = true → textL a = textL b
  | [], [], _ => rfl
  | [], _ :: _, h => by simp [sameL] at h
  | _ :: _, [], h => by simp [sameL] at h
  | x :: r, y :: s, h => by
    rw [sameL, Bool.and_eq_true] at h
    obtain ⟨e1, e2⟩ := same_text x y h.1
    rw [textL, textL, e1, e2, same_texts r s h.2]
end
theorem pairs_map {α β : Type} (f : α → α → Bool) (g : α → β) (h : ∀ a b, f a b = true → g a = g b) : ∀ (l m : List α), pairs f l m = true → l.map g = m.map g
  | [], [], _ => rfl
  | [], _ :: _, h' => by simp [pairs] at h'
  | _ :: _, [], h' => by simp [pairs] at h'
  | a :: r, b :: s, h' => by
    rw [pairs, Bool.and_eq_true] at h'
    rw [List.map_cons, List.map_cons, h a b h'.1, pairs_map f g h r s h'.2]
theorem same_var {v u : Vr} (h : sameV v u = true) : varT v = varT u := by
  unfold sameV at h
  simp only [Bool.and_eq_true] at h
  obtain ⟨⟨⟨h1, h2⟩, h3⟩, h4⟩ := h
  have e1 := toList_inj h1
  have e2 : (v.kind : Int) = (u.kind : Int) := eq_of_beq h2
  have e3 := toList_inj h3
  have e4 : v.not_ = u.not_ := eq_of_beq h4
  unfold varT onT
  rw [e1, e2, e3, e4]
theorem same_eq {q p : Qe} (h : sameQ q p = true) : eqT q = eqT p := by
  unfold sameQ at h
  rw [Bool.and_eq_true] at h
  unfold eqT
  rw [toList_inj h.1, (same_text _ _ h.2).1]
theorem same_node {n m : Nd} (h : sameN n m = true) : nodeT n = nodeT m := by
  unfold sameN at h
  rw [sameVs_eq, sameVs_eq, sameVs_eq, sameQs_eq] at h
  simp only [Bool.and_eq_true] at h
  obtain ⟨h1, h2, h3, h4, h5⟩ := h
  have e2 := pairs_map sameV varT (fun a b => same_var) _ _ h2
  have e3 := pairs_map sameV varT (fun a b => same_var) _ _ h3
  have e4 := pairs_map sameV varT (fun a b => same_var) _ _ h4
  have e5 := pairs_map sameQ eqT (fun a b => same_eq) _ _ h5
  have e6 : n.locs.length = m.locs.length := by have := congrArg List.length e4; simpa using this
  unfold nodeT locsT varsT eqsT
  rw [toList_inj h1, e2, e3, e4, e6, List.flatMap_def, List.flatMap_def, e5]
theorem same_show {l m : List Nd} (h : sameP l m = true) : showT l = showT m := by
  rw [sameP_eq] at h
  have e := pairs_map sameN nodeT (fun a b => same_node) _ _ h
  unfold showT
  rw [List.flatMap_def, List.flatMap_def, e]
end Go.Proofs.YtjlnihennlkmpaaGreatDoor

namespace Go.Proofs.YtjlnihennlkmpaaGreatDoor
open Go Go.RowKit
mutual
/-- How many rows of the table a tree has. -/
def szE : Ex → Nat
  | .mk _ _ _ _ ks => 1 + szL ks
def szL : List Ex → Nat
  | [] => 0
  | e :: r => szE e + szL r
end
theorem sz_mk (o m : ByteArray) (n : Int) (a : Nat) (ks : List Ex) : szE (.mk o m n a ks) = 1 + szL ks := by rw [szE]
theorem sz_two (x : Wd) (a b : Ex) : szE (twoS x a b) = 1 + szE a + szE b := by unfold twoS; rw [sz_mk, szL, szL, szL]; omega
/-- What a step that ends without a fault has made of parts. -/
def PX (f : St → Ex × St) : Prop := ∀ st, (f st).2.er = 0 → st.parts + szE (f st).1 ≤ (f st).2.parts ∧ (st.parts ≤ 300 → (f st).2.parts ≤ 300)
section
variable {L : List Wd} {st : St}
theorem next_parts : (nextS L st).parts = st.parts := by unfold nextS; split <;> rfl
theorem part_px (h : (partS L st).2.er = 0) : (partS L st).2.parts = st.parts + 1 ∧ (st.parts ≤ 300 → st.parts + 1 ≤ 300) := by
  have h1 := part_ok0 h
  refine ⟨by rw [h1.2.1, next_parts], fun hp => ?_⟩
  by_cases he : st.parts = 300
  · exfalso
    have h2 : (partS L st).2.er = (partA L st).er := next_er
    unfold partA at h2
    rw [if_pos he] at h2
    rw [h] at h2
    exact fail_ne 2 (by decide) h2.symm
  · omega
theorem need_px {s : ByteArray} (h : (needS L s st).er = 0) : (needS L s st).parts = st.parts := by rw [(need_ok0 h).2.2, next_parts]
theorem fail_parts (e : Nat) : (failS L e st).parts = st.parts := by unfold failS; split <;> rfl
theorem name_px : (nameS L st).2.parts = st.parts := by
  unfold nameS
  split
  · exact next_parts
  · show (nextS L (failS L 7 st)).parts = _
    rw [next_parts, fail_parts]
theorem take_px (s : ByteArray) : (takeS L s st).2.parts = st.parts := by
  unfold takeS
  split
  · exact next_parts
  · rfl
theorem btw_px {ops : List ByteArray} (h : (betweenS L ops st).2.2.er = 0) : (betweenS L ops st).2.2.parts = st.parts + (if (betweenS L ops st).2.1 = true then 1 else 0) ∧ (st.parts ≤ 300 → (betweenS L ops st).2.2.parts ≤ 300) := by
  unfold betweenS at *
  by_cases hh : hasS L ops st = true
  · rw [if_pos hh] at *
    have hq := part_px h
    exact ⟨by simpa using hq.1, fun hp => by show (partS L st).2.parts ≤ 300; rw [hq.1]; exact hq.2 hp⟩
  · rw [if_neg hh] at *
    exact ⟨by simp, fun hp => hp⟩
end
theorem argsS_px (L : List Wd) {f : St → Ex × St} (hk : Stk f) (hf : PX f) : ∀ (k : Nat) (st : St), (argsS L f k st).2.er = 0 → st.parts + szL (argsS L f k st).1 ≤ (argsS L f k st).2.parts ∧ (st.parts ≤ 300 → (argsS L f k st).2.parts ≤ 300)
  | 0, st, h => ⟨by simp [argsS, szL], fun h => h⟩
  | k + 1, st, h => by
    unfold argsS at h ⊢
    split
    · rename_i hs
      rw [if_pos hs] at h
      have h0 : (f (nextS L st)).2.er = 0 := by
        by_cases he : (f (nextS L st)).2.er = 0
        · exact he
        · have h : (argsS L f k (f (nextS L st)).2).2.er = 0 := h
          rw [argsS_stk L hk k _ he] at h
          exact h
      have h1 := argsS_px L hk hf k _ h
      have h2 := hf _ h0
      rw [next_parts] at h2
      refine ⟨?_, fun hp => h1.2 (h2.2 hp)⟩
      show st.parts + szL ((f (nextS L st)).1 :: _) ≤ _
      rw [szL]
      have := h1.1
      have := h2.1
      show st.parts + (szE (f (nextS L st)).1 + szL (argsS L f k (f (nextS L st)).2).1) ≤ (argsS L f k (f (nextS L st)).2).2.parts
      omega
    · exact ⟨by simp [szL], fun h => h⟩
/-- What goes on behind a tree, and its parts. -/
def PK (K : Ex → St → Ex × St) : Prop := ∀ e S, (K e S).2.er = 0 → S.parts + szE (K e S).1 ≤ (K e S).2.parts + szE e ∧ (S.parts ≤ 300 → (K e S).2.parts ≤ 300)
theorem er_back {K : Ex → St → Ex × St} (hK : ∀ e S, S.er ≠ 0 → (K e S).2.er = S.er) {e : Ex} {S : St} (h : (K e S).2.er = 0) : S.er = 0 := by
  by_cases he : S.er = 0
  · exact he
  · rw [hK e S he] at h; exact h
theorem stk_back {f : St → Ex × St} (hf : Stk f) {S : St} (h : (f S).2.er = 0) : S.er = 0 := by
  by_cases he : S.er = 0
  · exact he
  · rw [hf S he] at h; exact h
theorem PK.then_ {K : Ex → St → Ex × St} (hK : PK K) (hs : ∀ e S, S.er ≠ 0 → (K e S).2.er = S.er) {f : St → Ex × St} (hf : PX f) : PX (fun S => K (f S).1 (f S).2) := fun st h => by
  have h1 := hK _ _ h
  have h2 := hf st (er_back hs h)
  refine ⟨?_, fun hp => h1.2 (h2.2 hp)⟩
  have := h1.1
  have := h2.1
  show st.parts + szE (K (f st).1 (f st).2).1 ≤ (K (f st).1 (f st).2).2.parts
  omega
theorem KB_pk (L : List Wd) (ops : List ByteArray) {h : St → Ex × St} (hk : Stk h) (hh : PX h) : PK (KBt L ops h) := fun e S he => by
  unfold KBt at he ⊢
  simp only at he ⊢
  split
  · rename_i hb
    rw [if_pos hb] at he
    have h1 := hh _ he
    have h2 := btw_px (stk_back hk he)
    rw [if_pos hb] at h2
    refine ⟨?_, fun hp => h1.2 (h2.2 hp)⟩
    show S.parts + szE (twoS _ e _) ≤ _
    rw [sz_two]
    have := h1.1
    have := h2.1
    show S.parts + (1 + szE e + szE (h (betweenS L ops S).2.2).1) ≤ (h (betweenS L ops S).2.2).2.parts + szE e
    omega
  · rename_i hb
    rw [if_neg hb] at he
    have h2 := btw_px he
    exact ⟨by have := h2.1; show S.parts + szE e ≤ (betweenS L ops S).2.2.parts + szE e; omega, h2.2⟩
theorem row_pk (L : List Wd) {one : St → Ex × St} (hk : Stk one) (hf : PX one) (ops : List ByteArray) : ∀ (k : Nat), PK (rowL L one ops k)
  | 0, e, S, h => ⟨Nat.le_refl _, fun h => h⟩
  | k + 1, e, S, h => by
    unfold rowL at h ⊢
    simp only at h ⊢
    split
    · rename_i hb
      rw [if_pos hb] at h
      have h1 := row_pk L hk hf ops k _ _ h
      have h0 := er_back (K := rowL L one ops k) (rowL_stk L hk ops k) h
      have h2 := hf _ h0
      have h3 := btw_px (stk_back hk h0)
      rw [if_pos hb] at h3
      refine ⟨?_, fun hp => h1.2 (h2.2 (h3.2 hp))⟩
      have h4 := h1.1
      rw [sz_two] at h4
      have := h2.1
      have := h3.1
      omega
    · rename_i hb
      rw [if_neg hb] at h
      have h2 := btw_px h
      exact ⟨by have := h2.1; show S.parts + szE e ≤ (betweenS L ops S).2.2.parts + szE e; omega, h2.2⟩
theorem when_pk (L : List Wd) : ∀ (k : Nat), PK (whenL L k)
  | 0, e, S, h => ⟨Nat.le_refl _, fun h => h⟩
  | k + 1, e, S, h => by
    unfold whenL at h ⊢
    simp only at h ⊢
    split
    · rename_i hb
      rw [if_pos hb] at h
      have h1 := when_pk L k _ _ h
      have h0 := er_back (K := whenL L k) (whenL_stk L k) h
      have h3 : (betweenS L [bs [119, 104, 101, 110]] S).2.2.er = 0 := by
        by_cases he : (betweenS L [bs [119, 104, 101, 110]] S).2.2.er = 0
        · exact he
        · rw [name_stk (by rw [take_er]; exact he), take_er] at h0
          exact h0
      have h4 := btw_px h3
      rw [if_pos hb] at h4
      rw [name_px, take_px, sz_mk, szL, szL] at h1
      refine ⟨?_, fun hp => h1.2 (h4.2 hp)⟩
      have := h1.1
      have := h4.1
      omega
    · rename_i hb
      rw [if_neg hb] at h
      have h2 := btw_px h
      exact ⟨by have := h2.1; show S.parts + szE e ≤ (betweenS L [bs [119, 104, 101, 110]] S).2.2.parts + szE e; omega, h2.2⟩
structure PNx (nx : Nx) : Prop where
  expr : PX nx.expr
  un : PX nx.un
  prim : PX nx.prim
  fby : PX nx.fby
section
variable {L : List Wd} {nx : Nx} (hn : SNx nx) (h : PNx nx)
include hn h
theorem named_px : PX (namedS L nx) := fun st he => by
  unfold namedS at he ⊢
  simp only at he ⊢
  split
  · rename_i hs
    rw [if_pos hs] at he
    have a1 := need_ok0 he
    have a2 := need_px he
    have hc : (partS L st).2.er = 0 ∧ (partS L st).2.parts + szL (callS L nx (nextS L (partS L st).2)).1 ≤ (callS L nx (nextS L (partS L st).2)).2.parts ∧ ((partS L st).2.parts ≤ 300 → (callS L nx (nextS L (partS L st).2)).2.parts ≤ 300) := by
      have h2 := a1.1
      unfold callS at h2 ⊢
      split
      · rename_i hp
        rw [if_pos hp] at h2
        have h2 : (nextS L (partS L st).2).er = 0 := h2
        rw [next_er] at h2
        exact ⟨h2, by simp [szL, next_parts], fun hp => by show (nextS L (partS L st).2).parts ≤ 300; rw [next_parts]; exact hp⟩
      · rename_i hp
        rw [if_neg hp] at h2
        have h3 := argsS_px L hn.expr h.expr _ _ h2
        have h4 : (nx.expr (nextS L (partS L st).2)).2.er = 0 := by
          by_cases hz : (nx.expr (nextS L (partS L st).2)).2.er = 0
          · exact hz
          · have h2 : (argsS L nx.expr L.length (nx.expr (nextS L (partS L st).2)).2).2.er = 0 := h2
            rw [argsS_stk L hn.expr _ _ hz] at h2
            exact h2
        have h5 := h.expr _ h4
        rw [next_parts] at h5
        have h6 := stk_back hn.expr h4
        rw [next_er] at h6
        refine ⟨h6, ?_, fun hp => h3.2 (h5.2 hp)⟩
        show (partS L st).2.parts + szL ((nx.expr (nextS L (partS L st).2)).1 :: _) ≤ _
        rw [szL]
        have := h3.1
        have := h5.1
        show (partS L st).2.parts + (szE (nx.expr (nextS L (partS L st).2)).1 + szL (argsS L nx.expr L.length (nx.expr (nextS L (partS L st).2)).2).1) ≤ (argsS L nx.expr L.length (nx.expr (nextS L (partS L st).2)).2).2.parts
        omega
    have hp := part_px hc.1
    refine ⟨?_, fun h0 => by show (needS L _ _).parts ≤ 300; rw [a2]; exact hc.2.2 (by rw [hp.1]; exact hp.2 h0)⟩
    show st.parts + szE (.mk _ _ _ _ (callS L nx (nextS L (partS L st).2)).1) ≤ (needS L (bs [41]) (callS L nx (nextS L (partS L st).2)).2).parts
    rw [sz_mk, a2]
    have := hc.2.1
    have := hp.1
    omega
  · rename_i hs
    rw [if_neg hs] at he
    have hp := part_px he
    refine ⟨?_, fun h0 => by show (partS L st).2.parts ≤ 300; rw [hp.1]; exact hp.2 h0⟩
    show st.parts + szE (.mk _ _ _ _ []) ≤ (partS L st).2.parts
    rw [sz_mk, szL, hp.1]
    omega
theorem primB_px : PX (primB L nx) := fun st he => by
  have leaf : ∀ (E : Ex), szE E = 1 → (partS L st).2.er = 0 → st.parts + szE E ≤ (partS L st).2.parts ∧ (st.parts ≤ 300 → (partS L st).2.parts ≤ 300) := fun E hE h0 => by
    have hp := part_px h0
    exact ⟨by rw [hE, hp.1]; exact Nat.le_refl _, fun h1 => by rw [hp.1]; exact hp.2 h1⟩
  unfold primB at he ⊢
  simp only at he ⊢
  split
  · rename_i h1
    rw [if_pos h1] at he
    exact leaf _ (by rw [sz_mk, szL]) he
  rename_i h1
  rw [if_neg h1] at he
  split
  · rename_i h2
    rw [if_pos h2] at he
    exact named_px hn h st he
  rename_i h2
  rw [if_neg h2] at he
  split
  · rename_i h3
    rw [if_pos h3] at he
    exact leaf _ (by rw [sz_mk, szL]) he
  rename_i h3
  rw [if_neg h3] at he
  split
  · rename_i h4
    rw [if_pos h4] at he
    exact leaf _ (by rw [sz_mk, szL]) he
  rename_i h4
  rw [if_neg h4] at he
  split
  · rename_i h5
    rw [if_pos h5] at he
    unfold bracketedS at he ⊢
    simp only at he ⊢
    have a1 := need_px he
    have a2 := h.expr _ (need_ok0 he).1
    rw [next_parts] at a2
    exact ⟨by show _ ≤ (needS L _ _).parts; rw [a1]; exact a2.1, fun hp => by show (needS L _ _).parts ≤ 300; rw [a1]; exact a2.2 hp⟩
  rename_i h5
  rw [if_neg h5] at he
  split
  · rename_i h6
    rw [if_pos h6] at he
    unfold choiceS at he ⊢
    simp only at he ⊢
    have a1 := h.expr _ he
    have b1 := stk_back hn.expr he
    have c1 := need_px b1
    have a2 := h.expr _ (need_ok0 b1).1
    have b2 := stk_back hn.expr (need_ok0 b1).1
    have c2 := need_px b2
    have a3 := h.expr _ (need_ok0 b2).1
    have b3 := stk_back hn.expr (need_ok0 b2).1
    have hp := part_px b3
    rw [c1] at a1
    rw [c2] at a2
    refine ⟨?_, fun h0 => a1.2 (a2.2 (a3.2 (by rw [hp.1]; exact hp.2 h0)))⟩
    rw [sz_mk, szL, szL, szL, szL]
    have := a1.1
    have := a2.1
    have := a3.1
    have := hp.1
    omega
  rename_i h6
  rw [if_neg h6] at he
  split
  · rename_i h7
    rw [if_pos h7] at he
    unfold mergeS at he ⊢
    simp only at he ⊢
    have a1 := h.prim _ he
    have b1 := stk_back hn.prim he
    have a2 := h.prim _ b1
    have b2 := stk_back hn.prim b1
    rw [name_px] at a2
    have b3 : (partS L st).2.er = 0 := by
      by_cases hz : (partS L st).2.er = 0
      · exact hz
      · rw [name_stk hz] at b2
        exact b2
    have hp := part_px b3
    refine ⟨?_, fun h0 => a1.2 (a2.2 (by rw [hp.1]; exact hp.2 h0))⟩
    rw [sz_mk, szL, szL, szL]
    have := a1.1
    have := a2.1
    have := hp.1
    omega
  · rename_i h7
    rw [if_neg h7] at he
    exact absurd he (fail_ne 7 (by decide))
theorem primS_px (d : Nat) : PX (primS L nx d) := fun st he => by
  have h1 := primB_px hn h _ he
  have h2 := ask_ok0 (stk_back (primB_stk hn) he)
  rw [h2.1] at h1
  unfold primS
  rw [h2.1]
  exact h1
theorem unS_px (d : Nat) : PX (unS L nx d) := fun st he => by
  unfold unS at he ⊢
  simp only at he ⊢
  split
  · rename_i h1
    rw [if_pos h1] at he
    have a1 := h.un _ he
    have a2 := stk_back hn.un he
    have hp := part_px a2
    have a3 := ask_ok0 (part_ok0 a2).2.2
    have e : (askS L d st).parts = st.parts := by rw [a3.1]
    rw [e] at hp
    refine ⟨?_, fun h0 => a1.2 (by rw [hp.1]; exact hp.2 h0)⟩
    rw [sz_mk, szL, szL]
    have := a1.1
    have := hp.1
    show st.parts + (1 + (szE (nx.un (partS L (askS L d st)).2).1 + 0)) ≤ (nx.un (partS L (askS L d st)).2).2.parts
    omega
  · rename_i h1
    rw [if_neg h1] at he
    split
    · rename_i h2
      rw [if_pos h2] at he
      have a1 := h.un _ he
      have a2 := stk_back hn.un he
      have hp := part_px a2
      have a3 := ask_ok0 (part_ok0 a2).2.2
      have e : (askS L d st).parts = st.parts := by rw [a3.1]
      rw [e] at hp
      refine ⟨?_, fun h0 => a1.2 (by rw [hp.1]; exact hp.2 h0)⟩
      rw [sz_mk, szL, szL]
      have := a1.1
      have := hp.1
      show st.parts + (1 + (szE (nx.un (partS L (askS L d st)).2).1 + 0)) ≤ (nx.un (partS L (askS L d st)).2).2.parts
      omega
    · rename_i h2
      rw [if_neg h2] at he
      have a1 := primS_px hn h d _ he
      have a3 := ask_ok0 (stk_back (primS_stk hn d) he)
      rw [a3.1] at a1 ⊢
      exact a1
theorem fbyS_px (d : Nat) : PX (fbyS L nx d) := (KB_pk L [bs [102, 98, 121]] hn.fby h.fby).then_ (KB_kont L [bs [102, 98, 121]] hn.fby).stk ((when_pk L L.length).then_ (whenL_stk L L.length) (unS_px hn h d))
theorem addS_px (d : Nat) : PX (addS L nx d) := (row_pk L (rowS_stk L (fbyS_stk hn d) _) ((row_pk L (fbyS_stk hn d) (fbyS_px hn h d) _ L.length).then_ (rowL_stk L (fbyS_stk hn d) _ L.length) (fbyS_px hn h d)) [bs [43], bs [45]] L.length).then_ (rowL_stk L (rowS_stk L (fbyS_stk hn d) _) _ L.length) ((row_pk L (fbyS_stk hn d) (fbyS_px hn h d) [bs [42], bs [47], bs [109, 111, 100]] L.length).then_ (rowL_stk L (fbyS_stk hn d) _ L.length) (fbyS_px hn h d))
theorem cmpS_px (d : Nat) : PX (cmpS L nx d) := (KB_pk L [bs [61], bs [60, 62], bs [60], bs [60, 61], bs [62], bs [62, 61]] (addS_stk hn d) (addS_px hn h d)).then_ (KB_kont L _ (addS_stk hn d)).stk (addS_px hn h d)
theorem andS_px (d : Nat) : PX (andS L nx d) := (row_pk L (cmpS_stk hn d) (cmpS_px hn h d) [bs [97, 110, 100]] L.length).then_ (rowL_stk L (cmpS_stk hn d) _ L.length) (cmpS_px hn h d)
theorem orS_px (d : Nat) : PX (orS L nx d) := (row_pk L (rowS_stk L (cmpS_stk hn d) _) (andS_px hn h d) [bs [111, 114], bs [120, 111, 114]] L.length).then_ (rowL_stk L (rowS_stk L (cmpS_stk hn d) _) _ L.length) (andS_px hn h d)
theorem arrowS_px (d : Nat) : PX (arrowS L nx d) := (KB_pk L [bs [45, 62]] hn.expr h.expr).then_ (KB_kont L _ hn.expr).stk (orS_px hn h d)
end
theorem px_of {f : St → Ex × St} (h1 : Stk f) (h2 : ∀ st, st.er = 0 → (f st).2.er = 2) : PX f := fun st h => by
  by_cases he : st.er = 0
  · rw [h2 st he] at h; cases h
  · rw [h1 st he] at h; exact absurd h he
theorem nx_px (L : List Wd) : ∀ k, PNx (nxAt L (k + 1))
  | 0 => ⟨px_of (nx_stk L 1).expr (deep1 L).expr, px_of (nx_stk L 1).un (deep1 L).un, px_of (nx_stk L 1).prim (deep1 L).prim, px_of (nx_stk L 1).fby (deep1 L).fby⟩
  | k + 1 => ⟨arrowS_px (nx_stk L (k + 1)) (nx_px L k) _, unS_px (nx_stk L (k + 1)) (nx_px L k) _, primS_px (nx_stk L (k + 1)) (nx_px L k) _, fbyS_px (nx_stk L (k + 1)) (nx_px L k) _⟩
/-- An equation's tree has at most 300 parts. -/
theorem eqS_sz {L : List Wd} {st : St} (h : (eqS L st).2.er = 0) : szE (eqS L st).1.e ≤ 300 := by
  have h1 := (need_ok0 h).1
  have h2 := (nx_px L 30).expr _ h1
  have h3 := stk_back (nx_stk L 31).expr h1
  have h4 := need_px h3
  rw [h4, name_px] at h2
  have h5 := h2.2 (Nat.zero_le _)
  have h6 := h2.1
  have h5 : ((nxAt L 31).expr (needS L (bs [61]) (nameS L { st with parts := 0 }).2)).2.parts ≤ 300 := h5
  have h6 : 0 + szE ((nxAt L 31).expr (needS L (bs [61]) (nameS L { st with parts := 0 }).2)).1 ≤ ((nxAt L 31).expr (needS L (bs [61]) (nameS L { st with parts := 0 }).2)).2.parts := h6
  show szE ((nxAt L 31).expr (needS L (bs [61]) (nameS L { st with parts := 0 }).2)).1 ≤ 300
  omega
theorem eqsL_sz {L : List Wd} : ∀ (k : Nat) (st : St), (eqsL L k st).2.er = 0 → ∀ q ∈ (eqsL L k st).1, szE q.e ≤ 300
  | 0, st, h => fun v hv => by simp [eqsL] at hv
  | k + 1, st, h => by
    unfold eqsL at h ⊢
    split
    · rename_i hs
      rw [if_pos hs] at h
      have h0 : (eqS L st).2.er = 0 := by
        by_cases he : (eqS L st).2.er = 0
        · exact he
        · have h : (eqsL L k (eqS L st).2).2.er = 0 := h
          rw [eqsL_stk k he] at h
          exact h
      intro q hq
      rcases List.mem_cons.1 hq with rfl | hq
      · exact eqS_sz h0
      · exact eqsL_sz k _ h q hq
    · exact fun v hv => by simp at hv
/-! How long the texts are. -/
theorem name_len {s : ByteArray} (h : NmB s) : s.data.toList.length ≤ 24 := h.1.len
theorem prim_len {e : Ex} (h : Wf e) : (primOf e (textE e)).length ≤ (textE e).length + 2 := by
  cases h with
  | var nm a h => rw [primOf_mk, if_pos (show (bs [118, 97, 114]).data.toList = [118, 97, 114] from rfl), tx_var]; simp [lp, rp]
  | two o a x y ho hx hy =>
    rw [primOf_mk, if_neg]
    · omega
    · intro e
      have e2 : o = [118, 97, 114] := e
      rw [e2] at ho; cases ho
  | un o a x ho hx =>
    rw [primOf_mk, if_neg]
    · omega
    · intro e
      have e2 : o = [118, 97, 114] := e
      rw [e2] at ho; revert ho; decide
  | _ =>
    rw [primOf_mk, if_neg (by decide)]
    omega
theorem commas_len : ∀ (ks : List Ex), (∀ k ∈ ks, (textE k).length + 2 ≤ 70 * szE k) → (commas (ks.map textE)).length ≤ 70 * szL ks
  | [], _ => by simp [commas, szL]
  | [k], h => by
    have := h k (by simp)
    show (textE k).length ≤ _
    rw [szL, szL]
    omega
  | k :: k2 :: r, h => by
    have h1 := h k (by simp)
    have h2 := commas_len (k2 :: r) (fun x hx => h x (by simp [hx]))
    show (textE k ++ [44, 32] ++ commas ((k2 :: r).map textE)).length ≤ _
    rw [szL]
    simp only [List.length_append, List.length_cons, List.length_nil]
    omega
theorem text_len {e : Ex} (h : Wf e) : (textE e).length + 2 ≤ 70 * szE e := by
  induction h with
  | int m a h =>
    have := Lib.itoa_length_le (m : Int) (by omega) (by omega)
    rw [tx_int, sz_mk, szL]
    omega
  | bool n a h => rw [tx_bool, bool_text, sz_mk, szL]; split <;> simp
  | var nm a h => have := name_len h; rw [tx_var, sz_mk, szL]; omega
  | call nm a ks h hk ih =>
    have h1 := name_len h
    have h2 := commas_len ks ih
    rw [tx_call, sz_mk]
    simp only [List.length_append, lp, rp, List.length_cons, List.length_nil]
    omega
  | un o a x ho hx ih =>
    rw [tx_un _ _ _ _ _ ho, sz_mk, szL, szL]
    have : o.length = 3 := by rcases ho with rfl | rfl <;> rfl
    simp only [List.length_append, lp, rp, sp, List.length_cons, List.length_nil]
    omega
  | neg a x hx ih =>
    rw [tx_neg, sz_mk, szL, szL]
    simp only [List.length_append, lp, rp, sp, List.length_cons, List.length_nil]
    omega
  | two o a x y ho hx hy ihx ihy =>
    rw [tx_two _ _ _ _ _ _ ho, sz_mk, szL, szL, szL]
    have : o.length ≤ 3 := by rcases infix_is ho with rfl | rfl | rfl | rfl | rfl | rfl | rfl | rfl | rfl | rfl | rfl | rfl | rfl | rfl | rfl | rfl <;> decide
    simp only [List.length_append, lp, rp, sp, List.length_cons, List.length_nil]
    omega
  | when nm n a x h hn hx ih =>
    have h1 := name_len h
    rw [tx_when, sz_mk, szL, szL]
    have : (whenT (n == 0)).data.toList.length ≤ 10 := by unfold whenT; split <;> decide
    simp only [List.length_append, lp, rp, List.length_cons, List.length_nil]
    omega
  | ite a x y z hx hy hz ihx ihy ihz =>
    rw [tx_ite, sz_mk, szL, szL, szL, szL]
    simp only [List.length_append, lp, rp, List.length_cons, List.length_nil]
    omega
  | merge nm a x y h hx hy ihx ihy =>
    have h1 := name_len h
    have h2 := prim_len hx
    have h3 := prim_len hy
    rw [tx_merge, sz_mk, szL, szL, szL]
    simp only [List.length_append, rp, sp, List.length_cons, List.length_nil]
    omega
theorem var_len {d : Bool} {v : Vr} (h : WfV d v) : (varT v).length ≤ 70 := by
  have h1 := name_len h.1
  have h2 : (kindT (v.kind : Int)).data.toList.length ≤ 4 := by rcases h.2.1 with e | e <;> rw [e] <;> decide
  have h3 : (onT v).length ≤ 34 := by
    unfold onT
    split
    · simp
    · have hw : (whenT v.not_).data.toList.length ≤ 10 := by unfold whenT; split <;> decide
      have ho : v.on.data.toList.length ≤ 24 := by
        rcases h.2.2 with ⟨e, _⟩ | ⟨_, e⟩
        · rw [e]; decide
        · exact name_len e
      rw [List.length_append]
      omega
  unfold varT
  simp only [List.length_append, List.length_cons, List.length_nil]
  omega
theorem vars_len {d : Bool} : ∀ (vs : List Vr), (∀ v ∈ vs, WfV d v) → (varsT vs).length ≤ 72 * vs.length
  | [], _ => by simp [varsT, semis]
  | [v], h => by
    have := var_len (h v (by simp))
    show (varT v).length ≤ _
    simp only [List.length_cons, List.length_nil]
    omega
  | v :: u :: r, h => by
    have h1 := var_len (h v (by simp))
    have h2 := vars_len (u :: r) (fun x hx => h x (by simp [hx]))
    show (varT v ++ [59, 32] ++ varsT (u :: r)).length ≤ _
    simp only [List.length_append, List.length_cons, List.length_nil] at *
    omega
theorem eqs_len : ∀ (qs : List Qe), (∀ q ∈ qs, NmB q.name ∧ Wf q.e) → (∀ q ∈ qs, szE q.e ≤ 300) → (eqsT qs).length ≤ 22000 * qs.length
  | [], _, _ => by simp [eqsT]
  | q :: r, h, hs => by
    have h1 := name_len (h q (by simp)).1
    have h2 := text_len (h q (by simp)).2
    have h3 := hs q (by simp)
    have ih := eqs_len r (fun x hx => h x (by simp [hx])) (fun x hx => hs x (by simp [hx]))
    show (eqT q ++ eqsT r).length ≤ _
    unfold eqT
    simp only [List.length_append, List.length_cons, List.length_nil]
    omega
/-- A node whose rows are not too long. -/
structure FewN (N : Nat) (nd : Nd) : Prop where
  ins : nd.ins.length ≤ N
  outs : nd.outs.length ≤ N
  locs : nd.locs.length ≤ N
  eqs : nd.eqs.length ≤ N
  sz : ∀ q ∈ nd.eqs, szE q.e ≤ 300
theorem node_len {N : Nat} {nd : Nd} (h : WfN nd) (hf : FewN N nd) : (nodeT nd).length ≤ 100 + 23000 * N := by
  have h0 := name_len h.name
  have h1 := vars_len nd.ins h.ins
  have h2 := vars_len nd.outs h.outs
  have h3 := vars_len nd.locs h.locs
  have h4 := eqs_len nd.eqs h.eqs hf.sz
  have h5 : (locsT nd.locs).length ≤ 6 + 72 * nd.locs.length := by
    unfold locsT
    split
    · simp
    · simp only [List.length_append, List.length_cons, List.length_nil]; omega
  have := hf.ins
  have := hf.outs
  have := hf.locs
  have := hf.eqs
  unfold nodeT
  simp only [List.length_append, List.length_cons, List.length_nil]
  omega
theorem nodes_len {N : Nat} : ∀ (l : List Nd), (∀ nd ∈ l, WfN nd ∧ FewN N nd) → (showT l).length ≤ (100 + 23000 * N) * l.length
  | [], _ => by simp [showT]
  | nd :: r, h => by
    have h1 := node_len (h nd (by simp)).1 (h nd (by simp)).2
    have ih := nodes_len r (fun x hx => h x (by simp [hx]))
    show (nodeT nd ++ showT r).length ≤ _
    rw [List.length_append, List.length_cons, Nat.mul_add]
    omega
section
variable {L : List Wd}
theorem declL_few : ∀ (k : Nat) (st : St), (declL L k st).1.length ≤ k
  | 0, st => by simp [declL]
  | k + 1, st => by
    unfold declL
    split
    · have := declL_few k (declaredS L (nextS L st)).2.2
      simp only [List.length_cons]
      omega
    · simp
theorem declS_few (st : St) : (declS L st).1.length ≤ L.length + 1 := by
  have := declL_few (L := L) L.length (declaredS L st).2.2
  show (List.map _ (declaredV L st :: (declL L L.length (declaredS L st).2.2).1)).length ≤ _
  rw [List.length_map, List.length_cons]
  omega
theorem declsL_few : ∀ (k : Nat) (st : St), (declsL L k st).1.length ≤ k * (L.length + 1)
  | 0, st => by simp [declsL]
  | k + 1, st => by
    unfold declsL
    split
    · have h1 := declsL_few k (declS L (nextS L st)).2
      have h2 := declS_few (L := L) (nextS L st)
      simp only [List.length_append]
      rw [Nat.succ_mul]
      omega
    · simp
theorem declsS_few (st : St) : (declsS L st).1.length ≤ (L.length + 1) * (L.length + 1) := by
  show (declsB L (needS L (bs [40]) st)).1.length ≤ _
  unfold declsB
  split
  · simp
  · have h1 := declsL_few (L := L) L.length (declS L (needS L (bs [40]) st)).2
    have h2 := declS_few (L := L) (needS L (bs [40]) st)
    simp only [List.length_append]
    rw [Nat.succ_mul]
    omega
theorem localS_few (st : St) : (localS L st).1.length ≤ L.length + 1 := by
  have h := declS_few (L := L) st
  unfold localS
  simp only
  split
  · simpa using h
  · exact h
theorem localsL_few : ∀ (k : Nat) (st : St), (localsL L k st).1.length ≤ k * (L.length + 1)
  | 0, st => by simp [localsL]
  | k + 1, st => by
    unfold localsL
    split
    · have h1 := localsL_few k (needS L (bs [59]) (localS L st).2)
      have h2 := localS_few (L := L) st
      simp only [List.length_append]
      rw [Nat.succ_mul]
      omega
    · simp
theorem varS_few (st : St) : (varS L st).1.length ≤ (L.length + 1) * (L.length + 1) := by
  unfold varS
  split
  · unfold localsS
    split
    · simp
    · have h1 := localsL_few (L := L) L.length (needS L (bs [59]) (localS L (nextS L st)).2)
      have h2 := localS_few (L := L) (nextS L st)
      simp only [List.length_append]
      rw [Nat.succ_mul]
      omega
  · simp
theorem eqsL_few : ∀ (k : Nat) (st : St), (eqsL L k st).1.length ≤ k
  | 0, st => by simp [eqsL]
  | k + 1, st => by
    unfold eqsL
    split
    · have := eqsL_few k (eqS L st).2
      simp only [List.length_cons]
      omega
    · simp
theorem programL_few : ∀ (k n : Nat) (st : St), (programL L k n st).1.length ≤ k
  | 0, n, st => by simp [programL]
  | k + 1, n, st => by
    unfold programL
    split
    · have := programL_few k (n + 1) (nodeS L (limS L n st)).2
      simp only [List.length_cons]
      omega
    · simp
theorem nodeS_few (st : St) (h : (nodeS L st).2.er = 0) : FewN ((L.length + 1) * (L.length + 1)) (nodeS L st).1 := by
  rw [node_steps] at h ⊢
  simp only at h ⊢
  rw [take_er] at h
  have h1 := (need_ok0 h).1
  refine ⟨declsS_few _, declsS_few _, varS_few _, ?_, eqsL_sz _ _ h1⟩
  refine Nat.le_trans (eqsL_few _ _) ?_
  rw [Nat.succ_mul]
  have : L.length ≤ L.length * (L.length + 1) := Nat.le_mul_of_pos_right _ (by omega)
  omega
theorem programL_fewN : ∀ (k n : Nat) (st : St), (programL L k n st).2.er = 0 → ∀ nd ∈ (programL L k n st).1, FewN ((L.length + 1) * (L.length + 1)) nd
  | 0, n, st, h => fun v hv => by simp [programL] at hv
  | k + 1, n, st, h => by
    unfold programL at h ⊢
    split
    · rename_i hs
      rw [if_pos hs] at h
      have h0 : (nodeS L (limS L n st)).2.er = 0 := by
        by_cases he : (nodeS L (limS L n st)).2.er = 0
        · exact he
        · have h : (programL L k (n + 1) (nodeS L (limS L n st)).2).2.er = 0 := h
          rw [programL_stk k _ he] at h
          exact h
      intro nd hnd
      rcases List.mem_cons.1 hnd with rfl | hnd
      · exact nodeS_few _ h0
      · exact programL_fewN k _ _ h nd hnd
    · exact fun v hv => by simp at hv
end
theorem cutF_few : ∀ (f : Nat) (l : List UInt8) (a : Nat) (d : List (Nat × Nat × Int × Nat)), cutF f l a = .ok d → d.length ≤ f
  | 0, l, a, d, h => by simp [cutF] at h
  | f + 1, l, a, d, h => by
    unfold cutF at h
    split at h
    · injection h with h; subst h; simp
    · split at h
      · cases h
      · split at h
        · cases h
        · rename_i t ht
          injection h with h
          subst h
          have := cutF_few f _ _ t ht
          simp only [List.length_cons]
          omega
/-- What a text of at most 1500 bytes is, is written in a text that can be. -/
theorem show_len {s : ByteArray} {l : List Nd} (h : parseS s = .ok l) (hs : s.size ≤ 1500) : (showT l).length ≤ 140737488351232 := by
  have h0 := parse_wf h
  unfold parseS at h
  cases hc : cutAll s.data.toList with
  | error e => rw [hc] at h; cases h
  | ok d =>
    rw [hc] at h
    simp only at h
    split at h
    · rename_i he
      injection h with h
      have hd : (wordsL s d).length ≤ 1501 := by
        have hsz : s.data.toList.length = s.size := by simp
        unfold wordsL
        rw [List.length_map]
        unfold cutAll at hc
        split at hc
        · cases hc
        · cases h1 : cut1 s.data.toList with
          | error p => rw [h1] at hc; cases hc
          | ok t =>
            rw [h1] at hc
            injection hc with hc
            subst hc
            have := cutF_few _ _ _ _ h1
            omega
      have hn : (nodeS (wordsL s d) st0).2.er = 0 := by
        by_cases hz : (nodeS (wordsL s d) st0).2.er = 0
        · exact hz
        · have he : (programL (wordsL s d) (wordsL s d).length 1 (nodeS (wordsL s d) st0).2).2.er = 0 := he
          rw [programL_stk _ _ hz] at he
          exact he
      have hN : ((wordsL s d).length + 1) * ((wordsL s d).length + 1) ≤ 1502 * 1502 := Nat.mul_le_mul (by omega) (by omega)
      have hf : ∀ nd ∈ l, FewN (1502 * 1502) nd := by
        have up : ∀ nd, FewN (((wordsL s d).length + 1) * ((wordsL s d).length + 1)) nd → FewN (1502 * 1502) nd := fun nd hx => ⟨Nat.le_trans hx.ins hN, Nat.le_trans hx.outs hN, Nat.le_trans hx.locs hN, Nat.le_trans hx.eqs hN, hx.sz⟩
        intro nd hnd
        rw [← h] at hnd
        rcases List.mem_cons.1 hnd with rfl | hnd
        · exact up _ (nodeS_few _ hn)
        · exact up _ (programL_fewN _ _ _ he nd hnd)
      have hll : l.length ≤ 1502 := by
        rw [← h]
        have := programL_few (L := wordsL s d) (wordsL s d).length 1 (nodeS (wordsL s d) st0).2
        show (_ :: _).length ≤ _
        rw [List.length_cons]
        omega
      obtain ⟨a, r, e, ha, hr⟩ := h0
      have hw : ∀ nd ∈ l, WfN nd ∧ FewN (1502 * 1502) nd := fun nd hnd => ⟨by
        have h2 := hnd
        rw [e] at h2
        rcases List.mem_cons.1 h2 with rfl | h2
        · exact ha
        · exact hr nd h2, hf nd hnd⟩
      have h3 := nodes_len l hw
      have h4 : (100 + 23000 * (1502 * 1502)) * l.length ≤ (100 + 23000 * (1502 * 1502)) * 1502 := Nat.mul_le_mul_left _ hll
      refine Nat.le_trans h3 (Nat.le_trans h4 (by decide))
    · cases h
theorem parse_er {s : ByteArray} {er ea : Nat} (h : parseS s = .error (er, ea)) : er ≠ 0 := by
  unfold parseS at h
  cases hc : cutAll s.data.toList with
  | error e =>
    rw [hc] at h
    injection h with h
    unfold cutAll at hc
    split at hc
    · injection hc with hc; rw [← hc] at h; injection h with h _; rw [← h]; decide
    · split at hc
      · injection hc with hc; rw [← hc] at h; injection h with h _; rw [← h]; decide
      · cases hc
  | ok d =>
    rw [hc] at h
    simp only at h
    split at h
    · cases h
    · rename_i he
      injection h with h
      injection h with h _
      rw [← h]
      exact he
end Go.Proofs.YtjlnihennlkmpaaGreatDoor

namespace Go.Proofs.YtjlnihennlkmpaaGreatDoor
open Go Go.RowKit
/-- The words that say which tree stands in a bracket. -/
def FSTW : List (List UInt8) := [[110, 111, 116], [112, 114, 101], [45], [105, 102], [109, 101, 114, 103, 101]]
theorem nm_fst {nm : ByteArray} (h : NmB nm) : FSTW.contains nm.data.toList = false := by
  have := fun l hl => nm_ne h l hl
  have h1 := this [110, 111, 116] (by decide)
  have h2 := this [112, 114, 101] (by decide)
  have h3 := this [45] (by decide)
  have h4 := this [105, 102] (by decide)
  have h5 := this [109, 101, 114, 103, 101] (by decide)
  unfold FSTW
  simp only [List.contains_cons, List.contains_nil, h1, h2, h3, h4, h5, Bool.or_false]
theorem num_fst (m : Nat) : FSTW.contains (textN m) = false := by
  have h1 := num_ne m [110, 111, 116] (by decide)
  have h2 := num_ne m [112, 114, 101] (by decide)
  have h3 := num_ne m [45] (by decide)
  have h4 := num_ne m [105, 102] (by decide)
  have h5 := num_ne m [109, 101, 114, 103, 101] (by decide)
  unfold FSTW
  simp only [List.contains_cons, List.contains_nil, h1, h2, h3, h4, h5, Bool.or_false]
theorem head_no {e : Ex} (h : Wf e) {x : W3} {T U : List W3} (he : x :: T = wE e ++ U) (hx : FSTW.contains x.2.1 = true) : False := by
  have key : ∀ y r, wE e = y :: r → FSTW.contains y.2.1 = false → False := fun y r h1 h2 => by
    rw [h1] at he
    injection he with he _
    rw [he, h2] at hx
    cases hx
  cases h with
  | int m a h => exact key _ _ (w_int _ _ _ _) (num_fst m)
  | bool n a h =>
    refine key _ _ (w_bool _ _ _ _) ?_
    rcases h with rfl | rfl <;> decide
  | var nm a h => exact key _ _ (w_var _ _ _ _) (nm_fst h)
  | call nm a ks h hk => exact key _ _ (w_call _ _ _ _) (nm_fst h)
  | un o a x ho hx => exact key _ _ (w_un _ _ _ _ o ho) (by decide)
  | neg a x hx => exact key _ _ (w_neg _ _ _ _) (by decide)
  | two o a x y ho hx hy => exact key _ _ (w_two _ _ _ _ hx o ho) (by decide)
  | when nm n a x h hn hx => exact key _ _ (w_when _ _ _ hx) (by decide)
  | ite a x y z hx hy hz => exact key _ _ (w_ite _ _ _ _ hx hy) (by decide)
  | merge nm a x y h hx hy => exact key _ _ (w_merge _ _ _ hx hy) (by decide)
/-- Behind a name no bracket opens. -/
def NPo (e : Ex) (R : List W3) : Prop := (∃ nm a, e = .mk (bs [118, 97, 114]) nm 0 a []) → (hdW3 R).2.1 ≠ [40]
theorem np_of {e : Ex} {x : W3} {R : List W3} (h : x.2.1 ≠ [40]) : NPo e (x :: R) := fun _ => h
theorem np_41 (e : Ex) (R : List W3) : NPo e (wd 4 [41] :: R) := np_of (show ([41] : List UInt8) ≠ [40] by decide)
theorem np_op {e : Ex} {o : List UInt8} (ho : isInfix o = true) {R : List W3} : NPo e (opW o :: R) := np_of (by
  rw [opW_text]
  rcases infix_is ho with rfl | rfl | rfl | rfl | rfl | rfl | rfl | rfl | rfl | rfl | rfl | rfl | rfl | rfl | rfl | rfl <;> decide)
/-- Words that are one are of trees that are alike. -/
def InjE (a : Ex) : Prop := ∀ b R R', Wf b → wE a ++ R = wE b ++ R' → NPo a R → NPo b R' → sameE a b = true ∧ R = R'
theorem wR_inj : ∀ (ks ks' : List Ex), (∀ k ∈ ks, InjE k) → (∀ k ∈ ks', Wf k) → ∀ R R', wR ks ++ wd 4 [41] :: R = wR ks' ++ wd 4 [41] :: R' → sameL ks ks' = true ∧ R = R'
  | [], [], _, _, R, R', h => by injection h with _ h; exact ⟨by rw [sameL], h⟩
  | [], k :: r, _, _, R, R', h => by
    injection h with h _
    exact absurd (show ([41] : List UInt8) = [44] from congrArg (fun p : W3 => p.2.1) h) (by decide)
  | k :: r, [], _, _, R, R', h => by
    injection h with h _
    exact absurd (show ([44] : List UInt8) = [41] from congrArg (fun p : W3 => p.2.1) h) (by decide)
  | k :: r, k' :: r', hi, hw, R, R', h => by
    have h1 : wd 4 [44] :: (wE k ++ (wR r ++ wd 4 [41] :: R)) = wd 4 [44] :: (wE k' ++ (wR r' ++ wd 4 [41] :: R')) := by simpa [wR] using h
    injection h1 with _ h1
    have np : ∀ (e : Ex) (r : List Ex) (R : List W3), NPo e (wR r ++ wd 4 [41] :: R) := fun e r R => by
      cases r with
      | nil => exact np_41 e R
      | cons x t => exact np_of (show ([44] : List UInt8) ≠ [40] by decide)
    obtain ⟨h2, h3⟩ := hi k (by simp) k' _ _ (hw k' (by simp)) h1 (np _ _ _) (np _ _ _)
    obtain ⟨h4, h5⟩ := wR_inj r r' (fun x hx => hi x (by simp [hx])) (fun x hx => hw x (by simp [hx])) R R' h3
    exact ⟨by rw [sameL, h2, h4]; rfl, h5⟩
theorem args_inj (ks ks' : List Ex) (hi : ∀ k ∈ ks, InjE k) (hw : ∀ k ∈ ks', Wf k) (hw0 : ∀ k ∈ ks, Wf k) (R R' : List W3) (h : wA ks ++ wd 4 [41] :: R = wA ks' ++ wd 4 [41] :: R') : sameL ks ks' = true ∧ R = R' := by
  have np : ∀ (e : Ex) (r : List Ex) (R : List W3), NPo e (wR r ++ wd 4 [41] :: R) := fun e r R => by
    cases r with
    | nil => exact np_41 e R
    | cons x t => exact np_of (show ([44] : List UInt8) ≠ [40] by decide)
  cases ks with
  | nil =>
    cases ks' with
    | nil => injection h with _ h; exact ⟨by rw [sameL], h⟩
    | cons k r =>
      obtain ⟨x, t, e, _, hx⟩ := wE_head (hw k (by simp))
      have h : wd 4 [41] :: R = (wE k ++ wR r) ++ wd 4 [41] :: R' := h
      rw [e] at h
      injection h with h _
      rw [← h] at hx
      exact absurd hx (by decide)
  | cons k r =>
    cases ks' with
    | nil =>
      obtain ⟨x, t, e, _, hx⟩ := wE_head (hw0 k (by simp))
      have h : (wE k ++ wR r) ++ wd 4 [41] :: R = wd 4 [41] :: R' := h
      rw [e] at h
      injection h with h _
      rw [h] at hx
      exact absurd hx (by decide)
    | cons k' r' =>
      have h1 : wE k ++ (wR r ++ wd 4 [41] :: R) = wE k' ++ (wR r' ++ wd 4 [41] :: R') := by simpa [wA] using h
      obtain ⟨h2, h3⟩ := hi k (by simp) k' _ _ (hw k' (by simp)) h1 (np _ _ _) (np _ _ _)
      obtain ⟨h4, h5⟩ := wR_inj r r' (fun x hx => hi x (by simp [hx])) (fun x hx => hw x (by simp [hx])) R R' h3
      exact ⟨by rw [sameL, h2, h4]; rfl, h5⟩
/-- A name in brackets is no other tree in brackets. -/
theorem var_no {e : Ex} (h : Wf e) (nm : List UInt8) (T U : List W3) (he : wd 4 [40] :: wd 1 nm :: wd 4 [41] :: T = wE e ++ U) : False := by
  have first : ∀ (y : Ex) (V : List W3), Wf y → wd 1 nm :: wd 4 [41] :: T = wE y ++ V → (hdW3 V).2.1 = [41] := fun y V hy h => by
    cases hy with
    | int m a h0 => rw [w_int] at h; injection h with h1 _; exact absurd (show (1 : Nat) = 3 from congrArg Prod.fst h1) (by decide)
    | bool n a h0 => rw [w_bool] at h; injection h with h1 _; exact absurd (show (1 : Nat) = 2 from congrArg Prod.fst h1) (by decide)
    | var nm a h0 => rw [w_var] at h; injection h with _ h1; rw [← show wd 4 [41] :: T = V from h1]; rfl
    | call nm a ks h0 hk => rw [w_call] at h; injection h with _ h1; injection h1 with h1 _; exact absurd (show ([41] : List UInt8) = [40] from congrArg (fun p : W3 => p.2.1) h1) (by decide)
    | un o a x ho hx => rw [w_un _ _ _ _ o ho] at h; injection h with h1 _; exact absurd (show (1 : Nat) = 4 from congrArg Prod.fst h1) (by decide)
    | neg a x hx => rw [w_neg] at h; injection h with h1 _; exact absurd (show (1 : Nat) = 4 from congrArg Prod.fst h1) (by decide)
    | two o a x y ho hx hy => rw [w_two _ _ _ _ hx o ho] at h; injection h with h1 _; exact absurd (show (1 : Nat) = 4 from congrArg Prod.fst h1) (by decide)
    | when nm n a x h0 hn hx => rw [w_when _ _ _ hx] at h; injection h with h1 _; exact absurd (show (1 : Nat) = 4 from congrArg Prod.fst h1) (by decide)
    | ite a x y z hx hy hz => rw [w_ite _ _ _ _ hx hy] at h; injection h with h1 _; exact absurd (show (1 : Nat) = 4 from congrArg Prod.fst h1) (by decide)
    | merge nm a x y h0 hx hy => rw [w_merge _ _ _ hx hy] at h; injection h with h1 _; exact absurd (show (1 : Nat) = 4 from congrArg Prod.fst h1) (by decide)
  cases h with
  | int m a h0 => rw [w_int] at he; injection he with h1 _; exact absurd (show (4 : Nat) = 3 from congrArg Prod.fst h1) (by decide)
  | bool n a h0 => rw [w_bool] at he; injection he with h1 _; exact absurd (show (4 : Nat) = 2 from congrArg Prod.fst h1) (by decide)
  | var nm a h0 => rw [w_var] at he; injection he with h1 _; exact absurd (show (4 : Nat) = 1 from congrArg Prod.fst h1) (by decide)
  | call nm a ks h0 hk => rw [w_call] at he; injection he with h1 _; exact absurd (show (4 : Nat) = 1 from congrArg Prod.fst h1) (by decide)
  | un o a x ho hx => rw [w_un _ _ _ _ o ho] at he; injection he with _ he; injection he with h1 _; exact absurd (show (1 : Nat) = 2 from congrArg Prod.fst h1) (by decide)
  | neg a x hx => rw [w_neg] at he; injection he with _ he; injection he with h1 _; exact absurd (show (1 : Nat) = 4 from congrArg Prod.fst h1) (by decide)
  | two o a x y ho hx hy =>
    rw [w_two _ _ _ _ hx o ho] at he
    injection he with _ he
    simp only [List.append_eq, List.append_assoc, List.cons_append, List.nil_append] at he
    have h1 := first x _ hx he
    have h1 : (opW o).2.1 = [41] := h1
    rw [opW_text] at h1
    rw [h1] at ho
    cases ho
  | when nm n a x h0 hn hx =>
    rw [w_when _ _ _ hx] at he
    injection he with _ he
    simp only [List.append_eq, List.append_assoc, List.cons_append, List.nil_append] at he
    have h1 := first x _ hx he
    exact absurd (show ([119, 104, 101, 110] : List UInt8) = [41] from h1) (by decide)
  | ite a x y z hx hy hz => rw [w_ite _ _ _ _ hx hy] at he; injection he with _ he; injection he with h1 _; exact absurd (show (1 : Nat) = 2 from congrArg Prod.fst h1) (by decide)
  | merge nm a x y h0 hx hy => rw [w_merge _ _ _ hx hy] at he; injection he with _ he; injection he with h1 _; exact absurd (show (1 : Nat) = 2 from congrArg Prod.fst h1) (by decide)
theorem prim_inj {a b : Ex} (ha : Wf a) (hi : InjE a) (hb : Wf b) {R R' : List W3} (h : wP a ++ R = wP b ++ R') : sameE a b = true ∧ R = R' := by
  have nv : ∀ (e : Ex) (R : List W3), wP e = wE e → NPo e R := fun e R h => fun ⟨nm, a, he⟩ => by
    subst he
    rw [wP_var, w_var] at h
    simp at h
  rcases wP_other ha with h1 | ⟨nm, p, hn, rfl⟩
  · rcases wP_other hb with h2 | ⟨nm', p', hn', rfl⟩
    · have n1 := nv a R h1
      have n2 := nv b R' h2
      rw [h1, h2] at h
      exact hi b R R' hb h n1 n2
    · rw [h1, wP_var] at h
      exact (var_no ha nm'.data.toList R' R (by rw [h]; rfl)).elim
  · rcases wP_other hb with h2 | ⟨nm', p', hn', rfl⟩
    · rw [h2, wP_var] at h
      exact (var_no hb nm.data.toList R R' (by rw [← h]; rfl)).elim
    · rw [wP_var, wP_var] at h
      injection h with _ h
      injection h with h1 h2
      injection h2 with _ h2
      have e : nm = nm' := bytes_inj (congrArg (fun p : W3 => p.2.1) h1)
      rw [e]
      exact ⟨by rw [same_mk, sameL], h2⟩
set_option maxHeartbeats 2000000 in
theorem inj_all {a : Ex} (ha : Wf a) : InjE a := by
  induction ha with
  | int m a h =>
    intro b R R' hb h hR hR'
    cases hb with
    | int m' a' h' =>
      rw [w_int _ _ _ m, w_int _ _ _ m'] at h
      injection h with h1 h2
      have e : (m : Int) = m' := congrArg (fun p : W3 => p.2.2) h1
      rw [← e]
      exact ⟨by rw [same_mk, sameL], h2⟩
    | bool n' a' h' =>
      rw [w_int _ _ _ m, w_bool _ _ _ n'] at h
      injection h with h1 _
      exact absurd (show (3 : Nat) = 2 from congrArg Prod.fst h1) (by decide)
    | var nm' a' hnm' =>
      rw [w_int _ _ _ m, w_var nm' _ _ _] at h
      injection h with h1 _
      exact absurd (show (3 : Nat) = 1 from congrArg Prod.fst h1) (by decide)
    | call nm' a' ks' hnm' hk' =>
      rw [w_int _ _ _ m, w_call nm' _ _ _] at h
      injection h with h1 _
      exact absurd (show (3 : Nat) = 1 from congrArg Prod.fst h1) (by decide)
    | un o' a' x' ho' hx' =>
      rw [w_int _ _ _ m, w_un _ _ _ _ o' ho'] at h
      injection h with h1 _
      exact absurd (show (3 : Nat) = 4 from congrArg Prod.fst h1) (by decide)
    | neg a' x' hx' =>
      rw [w_int _ _ _ m, w_neg _ _ _ _] at h
      injection h with h1 _
      exact absurd (show (3 : Nat) = 4 from congrArg Prod.fst h1) (by decide)
    | two o' a' x' y' ho' hx' hy' =>
      rw [w_int _ _ _ m, w_two _ _ _ _ hx' o' ho'] at h
      injection h with h1 _
      exact absurd (show (3 : Nat) = 4 from congrArg Prod.fst h1) (by decide)
    | when nm' n' a' x' hnm' hn' hx' =>
      rw [w_int _ _ _ m, w_when nm' _ _ hx'] at h
      injection h with h1 _
      exact absurd (show (3 : Nat) = 4 from congrArg Prod.fst h1) (by decide)
    | ite a' x' y' z' hx' hy' hz' =>
      rw [w_int _ _ _ m, w_ite _ _ _ _ hx' hy'] at h
      injection h with h1 _
      exact absurd (show (3 : Nat) = 4 from congrArg Prod.fst h1) (by decide)
    | merge nm' a' x' y' hnm' hx' hy' =>
      rw [w_int _ _ _ m, w_merge nm' _ _ hx' hy'] at h
      injection h with h1 _
      exact absurd (show (3 : Nat) = 4 from congrArg Prod.fst h1) (by decide)
  | bool n a h01 =>
    intro b R R' hb h hR hR'
    cases hb with
    | int m' a' h' =>
      rw [w_bool _ _ _ n, w_int _ _ _ m'] at h
      injection h with h1 _
      exact absurd (show (2 : Nat) = 3 from congrArg Prod.fst h1) (by decide)
    | bool n' a' h' =>
      rw [w_bool _ _ _ n, w_bool _ _ _ n'] at h
      injection h with h1 h2
      have e : (if n = 0 then [102, 97, 108, 115, 101] else [116, 114, 117, 101] : List UInt8) = if n' = 0 then [102, 97, 108, 115, 101] else [116, 114, 117, 101] := congrArg (fun p : W3 => p.2.1) h1
      have en : n = n' := by
        rcases h01 with rfl | rfl <;> rcases h' with rfl | rfl <;> first | rfl | exact absurd e (by decide)
      rw [en]
      exact ⟨by rw [same_mk, sameL], h2⟩
    | var nm' a' hnm' =>
      rw [w_bool _ _ _ n, w_var nm' _ _ _] at h
      injection h with h1 _
      exact absurd (show (2 : Nat) = 1 from congrArg Prod.fst h1) (by decide)
    | call nm' a' ks' hnm' hk' =>
      rw [w_bool _ _ _ n, w_call nm' _ _ _] at h
      injection h with h1 _
      exact absurd (show (2 : Nat) = 1 from congrArg Prod.fst h1) (by decide)
    | un o' a' x' ho' hx' =>
      rw [w_bool _ _ _ n, w_un _ _ _ _ o' ho'] at h
      injection h with h1 _
      exact absurd (show (2 : Nat) = 4 from congrArg Prod.fst h1) (by decide)
    | neg a' x' hx' =>
      rw [w_bool _ _ _ n, w_neg _ _ _ _] at h
      injection h with h1 _
      exact absurd (show (2 : Nat) = 4 from congrArg Prod.fst h1) (by decide)
    | two o' a' x' y' ho' hx' hy' =>
      rw [w_bool _ _ _ n, w_two _ _ _ _ hx' o' ho'] at h
      injection h with h1 _
      exact absurd (show (2 : Nat) = 4 from congrArg Prod.fst h1) (by decide)
    | when nm' n' a' x' hnm' hn' hx' =>
      rw [w_bool _ _ _ n, w_when nm' _ _ hx'] at h
      injection h with h1 _
      exact absurd (show (2 : Nat) = 4 from congrArg Prod.fst h1) (by decide)
    | ite a' x' y' z' hx' hy' hz' =>
      rw [w_bool _ _ _ n, w_ite _ _ _ _ hx' hy'] at h
      injection h with h1 _
      exact absurd (show (2 : Nat) = 4 from congrArg Prod.fst h1) (by decide)
    | merge nm' a' x' y' hnm' hx' hy' =>
      rw [w_bool _ _ _ n, w_merge nm' _ _ hx' hy'] at h
      injection h with h1 _
      exact absurd (show (2 : Nat) = 4 from congrArg Prod.fst h1) (by decide)
  | var nm a hnm =>
    intro b R R' hb h hR hR'
    cases hb with
    | int m' a' h' =>
      rw [w_var nm _ _ _, w_int _ _ _ m'] at h
      injection h with h1 _
      exact absurd (show (1 : Nat) = 3 from congrArg Prod.fst h1) (by decide)
    | bool n' a' h' =>
      rw [w_var nm _ _ _, w_bool _ _ _ n'] at h
      injection h with h1 _
      exact absurd (show (1 : Nat) = 2 from congrArg Prod.fst h1) (by decide)
    | var nm' a' hnm' =>
      rw [w_var nm _ _ _, w_var nm' _ _ _] at h
      injection h with h1 h2
      have e : nm = nm' := bytes_inj (congrArg (fun p : W3 => p.2.1) h1)
      rw [e]
      exact ⟨by rw [same_mk, sameL], h2⟩
    | call nm' a' ks' hnm' hk' =>
      rw [w_var nm _ _ _, w_call nm' _ _ _] at h
      injection h with h1 h2
      exact absurd (show (hdW3 R).2.1 = [40] by rw [show R = wd 4 [40] :: (wA ks' ++ [wd 4 [41]] ++ R') from h2]; rfl) (hR ⟨nm, a, rfl⟩)
    | un o' a' x' ho' hx' =>
      rw [w_var nm _ _ _, w_un _ _ _ _ o' ho'] at h
      injection h with h1 _
      exact absurd (show (1 : Nat) = 4 from congrArg Prod.fst h1) (by decide)
    | neg a' x' hx' =>
      rw [w_var nm _ _ _, w_neg _ _ _ _] at h
      injection h with h1 _
      exact absurd (show (1 : Nat) = 4 from congrArg Prod.fst h1) (by decide)
    | two o' a' x' y' ho' hx' hy' =>
      rw [w_var nm _ _ _, w_two _ _ _ _ hx' o' ho'] at h
      injection h with h1 _
      exact absurd (show (1 : Nat) = 4 from congrArg Prod.fst h1) (by decide)
    | when nm' n' a' x' hnm' hn' hx' =>
      rw [w_var nm _ _ _, w_when nm' _ _ hx'] at h
      injection h with h1 _
      exact absurd (show (1 : Nat) = 4 from congrArg Prod.fst h1) (by decide)
    | ite a' x' y' z' hx' hy' hz' =>
      rw [w_var nm _ _ _, w_ite _ _ _ _ hx' hy'] at h
      injection h with h1 _
      exact absurd (show (1 : Nat) = 4 from congrArg Prod.fst h1) (by decide)
    | merge nm' a' x' y' hnm' hx' hy' =>
      rw [w_var nm _ _ _, w_merge nm' _ _ hx' hy'] at h
      injection h with h1 _
      exact absurd (show (1 : Nat) = 4 from congrArg Prod.fst h1) (by decide)
  | call nm a ks hnm hk ih =>
    intro b R R' hb h hR hR'
    cases hb with
    | int m' a' h' =>
      rw [w_call nm _ _ _, w_int _ _ _ m'] at h
      injection h with h1 _
      exact absurd (show (1 : Nat) = 3 from congrArg Prod.fst h1) (by decide)
    | bool n' a' h' =>
      rw [w_call nm _ _ _, w_bool _ _ _ n'] at h
      injection h with h1 _
      exact absurd (show (1 : Nat) = 2 from congrArg Prod.fst h1) (by decide)
    | var nm' a' hnm' =>
      rw [w_call nm _ _ _, w_var nm' _ _ _] at h
      injection h with h1 h2
      exact absurd (show (hdW3 R').2.1 = [40] by rw [← show wd 4 [40] :: (wA ks ++ [wd 4 [41]] ++ R) = R' from h2]; rfl) (hR' ⟨nm', a', rfl⟩)
    | call nm' a' ks' hnm' hk' =>
      rw [w_call nm _ _ _, w_call nm' _ _ _] at h
      injection h with h1 h2
      injection h2 with _ h2
      have e : nm = nm' := bytes_inj (congrArg (fun p : W3 => p.2.1) h1)
      rw [e]
      obtain ⟨h3, h4⟩ := args_inj ks ks' ih hk' hk R R' (by simpa using h2)
      exact ⟨by rw [same_mk]; exact h3, h4⟩
    | un o' a' x' ho' hx' =>
      rw [w_call nm _ _ _, w_un _ _ _ _ o' ho'] at h
      injection h with h1 _
      exact absurd (show (1 : Nat) = 4 from congrArg Prod.fst h1) (by decide)
    | neg a' x' hx' =>
      rw [w_call nm _ _ _, w_neg _ _ _ _] at h
      injection h with h1 _
      exact absurd (show (1 : Nat) = 4 from congrArg Prod.fst h1) (by decide)
    | two o' a' x' y' ho' hx' hy' =>
      rw [w_call nm _ _ _, w_two _ _ _ _ hx' o' ho'] at h
      injection h with h1 _
      exact absurd (show (1 : Nat) = 4 from congrArg Prod.fst h1) (by decide)
    | when nm' n' a' x' hnm' hn' hx' =>
      rw [w_call nm _ _ _, w_when nm' _ _ hx'] at h
      injection h with h1 _
      exact absurd (show (1 : Nat) = 4 from congrArg Prod.fst h1) (by decide)
    | ite a' x' y' z' hx' hy' hz' =>
      rw [w_call nm _ _ _, w_ite _ _ _ _ hx' hy'] at h
      injection h with h1 _
      exact absurd (show (1 : Nat) = 4 from congrArg Prod.fst h1) (by decide)
    | merge nm' a' x' y' hnm' hx' hy' =>
      rw [w_call nm _ _ _, w_merge nm' _ _ hx' hy'] at h
      injection h with h1 _
      exact absurd (show (1 : Nat) = 4 from congrArg Prod.fst h1) (by decide)
  | un o a x ho hx ih =>
    intro b R R' hb h hR hR'
    cases hb with
    | int m' a' h' =>
      rw [w_un _ _ _ _ o ho, w_int _ _ _ m'] at h
      injection h with h1 _
      exact absurd (show (4 : Nat) = 3 from congrArg Prod.fst h1) (by decide)
    | bool n' a' h' =>
      rw [w_un _ _ _ _ o ho, w_bool _ _ _ n'] at h
      injection h with h1 _
      exact absurd (show (4 : Nat) = 2 from congrArg Prod.fst h1) (by decide)
    | var nm' a' hnm' =>
      rw [w_un _ _ _ _ o ho, w_var nm' _ _ _] at h
      injection h with h1 _
      exact absurd (show (4 : Nat) = 1 from congrArg Prod.fst h1) (by decide)
    | call nm' a' ks' hnm' hk' =>
      rw [w_un _ _ _ _ o ho, w_call nm' _ _ _] at h
      injection h with h1 _
      exact absurd (show (4 : Nat) = 1 from congrArg Prod.fst h1) (by decide)
    | un o' a' x' ho' hx' =>
      rw [w_un _ _ _ _ o ho, w_un _ _ _ _ o' ho'] at h
      injection h with _ h
      simp only [List.append_eq, List.append_assoc, List.cons_append, List.nil_append] at h
      injection h with h1 h2
      have e : o = o' := congrArg (fun p : W3 => p.2.1) h1
      obtain ⟨h3, h4⟩ := ih _ _ _ hx' h2 (np_41 _ _) (np_41 _ _)
      injection h4 with _ h4
      rw [e]
      exact ⟨same_one h3, h4⟩
    | neg a' x' hx' =>
      rw [w_un _ _ _ _ o ho, w_neg _ _ _ _] at h
      injection h with _ h
      injection h with h1 _
      exact absurd (show (2 : Nat) = 4 from congrArg Prod.fst h1) (by decide)
    | two o' a' x' y' ho' hx' hy' =>
      rw [w_un _ _ _ _ o ho, w_two _ _ _ _ hx' o' ho'] at h
      injection h with _ h
      simp only [List.append_eq, List.append_assoc, List.cons_append] at h
      exact (head_no hx' h (by rcases ho with rfl | rfl <;> decide)).elim
    | when nm' n' a' x' hnm' hn' hx' =>
      rw [w_un _ _ _ _ o ho, w_when nm' _ _ hx'] at h
      injection h with _ h
      simp only [List.append_eq, List.append_assoc, List.cons_append] at h
      exact (head_no hx' h (by rcases ho with rfl | rfl <;> decide)).elim
    | ite a' x' y' z' hx' hy' hz' =>
      rw [w_un _ _ _ _ o ho, w_ite _ _ _ _ hx' hy'] at h
      injection h with _ h
      injection h with h1 _
      have e : (o : List UInt8) = [105, 102] := congrArg (fun p : W3 => p.2.1) h1
      rcases ho with rfl | rfl <;> exact absurd e (by decide)
    | merge nm' a' x' y' hnm' hx' hy' =>
      rw [w_un _ _ _ _ o ho, w_merge nm' _ _ hx' hy'] at h
      injection h with _ h
      injection h with h1 _
      have e : (o : List UInt8) = [109, 101, 114, 103, 101] := congrArg (fun p : W3 => p.2.1) h1
      rcases ho with rfl | rfl <;> exact absurd e (by decide)
  | neg a x hx ih =>
    intro b R R' hb h hR hR'
    cases hb with
    | int m' a' h' =>
      rw [w_neg _ _ _ _, w_int _ _ _ m'] at h
      injection h with h1 _
      exact absurd (show (4 : Nat) = 3 from congrArg Prod.fst h1) (by decide)
    | bool n' a' h' =>
      rw [w_neg _ _ _ _, w_bool _ _ _ n'] at h
      injection h with h1 _
      exact absurd (show (4 : Nat) = 2 from congrArg Prod.fst h1) (by decide)
    | var nm' a' hnm' =>
      rw [w_neg _ _ _ _, w_var nm' _ _ _] at h
      injection h with h1 _
      exact absurd (show (4 : Nat) = 1 from congrArg Prod.fst h1) (by decide)
    | call nm' a' ks' hnm' hk' =>
      rw [w_neg _ _ _ _, w_call nm' _ _ _] at h
      injection h with h1 _
      exact absurd (show (4 : Nat) = 1 from congrArg Prod.fst h1) (by decide)
    | un o' a' x' ho' hx' =>
      rw [w_neg _ _ _ _, w_un _ _ _ _ o' ho'] at h
      injection h with _ h
      injection h with h1 _
      exact absurd (show (4 : Nat) = 2 from congrArg Prod.fst h1) (by decide)
    | neg a' x' hx' =>
      rw [w_neg _ _ _ _, w_neg _ _ _ _] at h
      injection h with _ h
      simp only [List.append_eq, List.append_assoc, List.cons_append, List.nil_append] at h
      injection h with h1 h2
      obtain ⟨h3, h4⟩ := ih _ _ _ hx' h2 (np_41 _ _) (np_41 _ _)
      injection h4 with _ h4
      exact ⟨same_one h3, h4⟩
    | two o' a' x' y' ho' hx' hy' =>
      rw [w_neg _ _ _ _, w_two _ _ _ _ hx' o' ho'] at h
      injection h with _ h
      simp only [List.append_eq, List.append_assoc, List.cons_append] at h
      exact (head_no hx' h (by decide)).elim
    | when nm' n' a' x' hnm' hn' hx' =>
      rw [w_neg _ _ _ _, w_when nm' _ _ hx'] at h
      injection h with _ h
      simp only [List.append_eq, List.append_assoc, List.cons_append] at h
      exact (head_no hx' h (by decide)).elim
    | ite a' x' y' z' hx' hy' hz' =>
      rw [w_neg _ _ _ _, w_ite _ _ _ _ hx' hy'] at h
      injection h with _ h
      injection h with h1 _
      exact absurd (show (4 : Nat) = 2 from congrArg Prod.fst h1) (by decide)
    | merge nm' a' x' y' hnm' hx' hy' =>
      rw [w_neg _ _ _ _, w_merge nm' _ _ hx' hy'] at h
      injection h with _ h
      injection h with h1 _
      exact absurd (show (4 : Nat) = 2 from congrArg Prod.fst h1) (by decide)
  | two o a x y ho hx hy ihx ihy =>
    intro b R R' hb h hR hR'
    cases hb with
    | int m' a' h' =>
      rw [w_two _ _ _ _ hx o ho, w_int _ _ _ m'] at h
      injection h with h1 _
      exact absurd (show (4 : Nat) = 3 from congrArg Prod.fst h1) (by decide)
    | bool n' a' h' =>
      rw [w_two _ _ _ _ hx o ho, w_bool _ _ _ n'] at h
      injection h with h1 _
      exact absurd (show (4 : Nat) = 2 from congrArg Prod.fst h1) (by decide)
    | var nm' a' hnm' =>
      rw [w_two _ _ _ _ hx o ho, w_var nm' _ _ _] at h
      injection h with h1 _
      exact absurd (show (4 : Nat) = 1 from congrArg Prod.fst h1) (by decide)
    | call nm' a' ks' hnm' hk' =>
      rw [w_two _ _ _ _ hx o ho, w_call nm' _ _ _] at h
      injection h with h1 _
      exact absurd (show (4 : Nat) = 1 from congrArg Prod.fst h1) (by decide)
    | un o' a' x' ho' hx' =>
      rw [w_two _ _ _ _ hx o ho, w_un _ _ _ _ o' ho'] at h
      injection h with _ h
      simp only [List.append_eq, List.append_assoc, List.cons_append] at h
      exact (head_no hx h.symm (by rcases ho' with rfl | rfl <;> decide)).elim
    | neg a' x' hx' =>
      rw [w_two _ _ _ _ hx o ho, w_neg _ _ _ _] at h
      injection h with _ h
      simp only [List.append_eq, List.append_assoc, List.cons_append] at h
      exact (head_no hx h.symm (by decide)).elim
    | two o' a' x' y' ho' hx' hy' =>
      rw [w_two _ _ _ _ hx o ho, w_two _ _ _ _ hx' o' ho'] at h
      injection h with _ h
      simp only [List.append_eq, List.append_assoc, List.cons_append, List.nil_append] at h
      obtain ⟨h3, h4⟩ := ihx _ _ _ hx' h (np_op ho) (np_op ho')
      injection h4 with h4 h5
      have e : o = o' := by have := congrArg (fun p : W3 => p.2.1) h4; simpa only [opW_text] using this
      obtain ⟨h6, h7⟩ := ihy _ _ _ hy' h5 (np_41 _ _) (np_41 _ _)
      injection h7 with _ h7
      rw [e]
      exact ⟨same_two h3 h6, h7⟩
    | when nm' n' a' x' hnm' hn' hx' =>
      rw [w_two _ _ _ _ hx o ho, w_when nm' _ _ hx'] at h
      injection h with _ h
      simp only [List.append_eq, List.append_assoc, List.cons_append, List.nil_append] at h
      obtain ⟨h3, h4⟩ := ihx _ _ _ hx' h (np_op ho) (np_of (by decide))
      injection h4 with h4 h5
      have e : o = [119, 104, 101, 110] := by have := congrArg (fun p : W3 => p.2.1) h4; simpa only [opW_text] using this
      rw [e] at ho
      cases ho
    | ite a' x' y' z' hx' hy' hz' =>
      rw [w_two _ _ _ _ hx o ho, w_ite _ _ _ _ hx' hy'] at h
      injection h with _ h
      simp only [List.append_eq, List.append_assoc, List.cons_append] at h
      exact (head_no hx h.symm (by decide)).elim
    | merge nm' a' x' y' hnm' hx' hy' =>
      rw [w_two _ _ _ _ hx o ho, w_merge nm' _ _ hx' hy'] at h
      injection h with _ h
      simp only [List.append_eq, List.append_assoc, List.cons_append] at h
      exact (head_no hx h.symm (by decide)).elim
  | when nm n a x hnm hn hx ih =>
    intro b R R' hb h hR hR'
    cases hb with
    | int m' a' h' =>
      rw [w_when nm _ _ hx, w_int _ _ _ m'] at h
      injection h with h1 _
      exact absurd (show (4 : Nat) = 3 from congrArg Prod.fst h1) (by decide)
    | bool n' a' h' =>
      rw [w_when nm _ _ hx, w_bool _ _ _ n'] at h
      injection h with h1 _
      exact absurd (show (4 : Nat) = 2 from congrArg Prod.fst h1) (by decide)
    | var nm' a' hnm' =>
      rw [w_when nm _ _ hx, w_var nm' _ _ _] at h
      injection h with h1 _
      exact absurd (show (4 : Nat) = 1 from congrArg Prod.fst h1) (by decide)
    | call nm' a' ks' hnm' hk' =>
      rw [w_when nm _ _ hx, w_call nm' _ _ _] at h
      injection h with h1 _
      exact absurd (show (4 : Nat) = 1 from congrArg Prod.fst h1) (by decide)
    | un o' a' x' ho' hx' =>
      rw [w_when nm _ _ hx, w_un _ _ _ _ o' ho'] at h
      injection h with _ h
      simp only [List.append_eq, List.append_assoc, List.cons_append] at h
      exact (head_no hx h.symm (by rcases ho' with rfl | rfl <;> decide)).elim
    | neg a' x' hx' =>
      rw [w_when nm _ _ hx, w_neg _ _ _ _] at h
      injection h with _ h
      simp only [List.append_eq, List.append_assoc, List.cons_append] at h
      exact (head_no hx h.symm (by decide)).elim
    | two o' a' x' y' ho' hx' hy' =>
      rw [w_when nm _ _ hx, w_two _ _ _ _ hx' o' ho'] at h
      injection h with _ h
      simp only [List.append_eq, List.append_assoc, List.cons_append, List.nil_append] at h
      obtain ⟨h3, h4⟩ := ih _ _ _ hx' h (np_of (by decide)) (np_op ho')
      injection h4 with h4 h5
      have e : [119, 104, 101, 110] = o' := by have := congrArg (fun p : W3 => p.2.1) h4; simpa only [opW_text] using this
      rw [← e] at ho'
      cases ho'
    | when nm' n' a' x' hnm' hn' hx' =>
      rw [w_when nm _ _ hx, w_when nm' _ _ hx'] at h
      injection h with _ h
      simp only [List.append_eq, List.append_assoc, List.cons_append, List.nil_append] at h
      obtain ⟨h3, h4⟩ := ih _ _ _ hx' h (np_of (by decide)) (np_of (by decide))
      injection h4 with _ h5
      have fin : n = n' → wd 1 nm.data.toList :: wd 4 [41] :: R = wd 1 nm'.data.toList :: wd 4 [41] :: R' → sameE (.mk (bs [119, 104, 101, 110]) nm n a [x]) (.mk (bs [119, 104, 101, 110]) nm' n' a' [x']) = true ∧ R = R' := fun en h6 => by
        injection h6 with h6 h7
        injection h7 with _ h7
        have e : nm = nm' := bytes_inj (congrArg (fun p : W3 => p.2.1) h6)
        rw [e, en]
        exact ⟨same_one h3, h7⟩
      rcases hn with rfl | rfl <;> rcases hn' with rfl | rfl
      · rw [if_pos rfl] at h5
        injection h5 with _ h5
        exact fin rfl h5
      · rw [if_pos rfl, if_neg (by decide)] at h5
        injection h5 with h5 _
        exact absurd (show (2 : Nat) = 1 from congrArg Prod.fst h5) (by decide)
      · rw [if_neg (by decide), if_pos rfl] at h5
        injection h5 with h5 _
        exact absurd (show (1 : Nat) = 2 from congrArg Prod.fst h5) (by decide)
      · rw [if_neg (by decide)] at h5
        exact fin rfl h5
    | ite a' x' y' z' hx' hy' hz' =>
      rw [w_when nm _ _ hx, w_ite _ _ _ _ hx' hy'] at h
      injection h with _ h
      simp only [List.append_eq, List.append_assoc, List.cons_append] at h
      exact (head_no hx h.symm (by decide)).elim
    | merge nm' a' x' y' hnm' hx' hy' =>
      rw [w_when nm _ _ hx, w_merge nm' _ _ hx' hy'] at h
      injection h with _ h
      simp only [List.append_eq, List.append_assoc, List.cons_append] at h
      exact (head_no hx h.symm (by decide)).elim
  | ite a x y z hx hy hz ihx ihy ihz =>
    intro b R R' hb h hR hR'
    cases hb with
    | int m' a' h' =>
      rw [w_ite _ _ _ _ hx hy, w_int _ _ _ m'] at h
      injection h with h1 _
      exact absurd (show (4 : Nat) = 3 from congrArg Prod.fst h1) (by decide)
    | bool n' a' h' =>
      rw [w_ite _ _ _ _ hx hy, w_bool _ _ _ n'] at h
      injection h with h1 _
      exact absurd (show (4 : Nat) = 2 from congrArg Prod.fst h1) (by decide)
    | var nm' a' hnm' =>
      rw [w_ite _ _ _ _ hx hy, w_var nm' _ _ _] at h
      injection h with h1 _
      exact absurd (show (4 : Nat) = 1 from congrArg Prod.fst h1) (by decide)
    | call nm' a' ks' hnm' hk' =>
      rw [w_ite _ _ _ _ hx hy, w_call nm' _ _ _] at h
      injection h with h1 _
      exact absurd (show (4 : Nat) = 1 from congrArg Prod.fst h1) (by decide)
    | un o' a' x' ho' hx' =>
      rw [w_ite _ _ _ _ hx hy, w_un _ _ _ _ o' ho'] at h
      injection h with _ h
      injection h with h1 _
      have e : ([105, 102] : List UInt8) = o' := congrArg (fun p : W3 => p.2.1) h1
      rcases ho' with rfl | rfl <;> exact absurd e (by decide)
    | neg a' x' hx' =>
      rw [w_ite _ _ _ _ hx hy, w_neg _ _ _ _] at h
      injection h with _ h
      injection h with h1 _
      exact absurd (show (2 : Nat) = 4 from congrArg Prod.fst h1) (by decide)
    | two o' a' x' y' ho' hx' hy' =>
      rw [w_ite _ _ _ _ hx hy, w_two _ _ _ _ hx' o' ho'] at h
      injection h with _ h
      simp only [List.append_eq, List.append_assoc, List.cons_append] at h
      exact (head_no hx' h (by decide)).elim
    | when nm' n' a' x' hnm' hn' hx' =>
      rw [w_ite _ _ _ _ hx hy, w_when nm' _ _ hx'] at h
      injection h with _ h
      simp only [List.append_eq, List.append_assoc, List.cons_append] at h
      exact (head_no hx' h (by decide)).elim
    | ite a' x' y' z' hx' hy' hz' =>
      rw [w_ite _ _ _ _ hx hy, w_ite _ _ _ _ hx' hy'] at h
      injection h with _ h
      simp only [List.append_eq, List.append_assoc, List.cons_append, List.nil_append] at h
      injection h with h1 h2
      obtain ⟨h3, h4⟩ := ihx _ _ _ hx' h2 (np_of (by decide)) (np_of (by decide))
      injection h4 with _ h4
      obtain ⟨h5, h6⟩ := ihy _ _ _ hy' h4 (np_of (by decide)) (np_of (by decide))
      injection h6 with _ h6
      obtain ⟨h7, h8⟩ := ihz _ _ _ hz' h6 (np_41 _ _) (np_41 _ _)
      injection h8 with _ h8
      refine ⟨?_, h8⟩
      rw [same_mk, sameL, sameL, sameL, sameL, h3, h5, h7]
      rfl
    | merge nm' a' x' y' hnm' hx' hy' =>
      rw [w_ite _ _ _ _ hx hy, w_merge nm' _ _ hx' hy'] at h
      injection h with _ h
      injection h with h1 _
      have e : ([105, 102] : List UInt8) = [109, 101, 114, 103, 101] := congrArg (fun p : W3 => p.2.1) h1
      exact absurd e (by decide)
  | merge nm a x y hnm hx hy ihx ihy =>
    intro b R R' hb h hR hR'
    cases hb with
    | int m' a' h' =>
      rw [w_merge nm _ _ hx hy, w_int _ _ _ m'] at h
      injection h with h1 _
      exact absurd (show (4 : Nat) = 3 from congrArg Prod.fst h1) (by decide)
    | bool n' a' h' =>
      rw [w_merge nm _ _ hx hy, w_bool _ _ _ n'] at h
      injection h with h1 _
      exact absurd (show (4 : Nat) = 2 from congrArg Prod.fst h1) (by decide)
    | var nm' a' hnm' =>
      rw [w_merge nm _ _ hx hy, w_var nm' _ _ _] at h
      injection h with h1 _
      exact absurd (show (4 : Nat) = 1 from congrArg Prod.fst h1) (by decide)
    | call nm' a' ks' hnm' hk' =>
      rw [w_merge nm _ _ hx hy, w_call nm' _ _ _] at h
      injection h with h1 _
      exact absurd (show (4 : Nat) = 1 from congrArg Prod.fst h1) (by decide)
    | un o' a' x' ho' hx' =>
      rw [w_merge nm _ _ hx hy, w_un _ _ _ _ o' ho'] at h
      injection h with _ h
      injection h with h1 _
      have e : ([109, 101, 114, 103, 101] : List UInt8) = o' := congrArg (fun p : W3 => p.2.1) h1
      rcases ho' with rfl | rfl <;> exact absurd e (by decide)
    | neg a' x' hx' =>
      rw [w_merge nm _ _ hx hy, w_neg _ _ _ _] at h
      injection h with _ h
      injection h with h1 _
      exact absurd (show (2 : Nat) = 4 from congrArg Prod.fst h1) (by decide)
    | two o' a' x' y' ho' hx' hy' =>
      rw [w_merge nm _ _ hx hy, w_two _ _ _ _ hx' o' ho'] at h
      injection h with _ h
      simp only [List.append_eq, List.append_assoc, List.cons_append] at h
      exact (head_no hx' h (by decide)).elim
    | when nm' n' a' x' hnm' hn' hx' =>
      rw [w_merge nm _ _ hx hy, w_when nm' _ _ hx'] at h
      injection h with _ h
      simp only [List.append_eq, List.append_assoc, List.cons_append] at h
      exact (head_no hx' h (by decide)).elim
    | ite a' x' y' z' hx' hy' hz' =>
      rw [w_merge nm _ _ hx hy, w_ite _ _ _ _ hx' hy'] at h
      injection h with _ h
      injection h with h1 _
      have e : ([109, 101, 114, 103, 101] : List UInt8) = [105, 102] := congrArg (fun p : W3 => p.2.1) h1
      exact absurd e (by decide)
    | merge nm' a' x' y' hnm' hx' hy' =>
      rw [w_merge nm _ _ hx hy, w_merge nm' _ _ hx' hy'] at h
      injection h with _ h
      simp only [List.append_eq, List.append_assoc, List.cons_append, List.nil_append] at h
      injection h with h1 h2
      injection h2 with h2 h3
      have e : nm = nm' := bytes_inj (congrArg (fun p : W3 => p.2.1) h2)
      obtain ⟨h4, h5⟩ := prim_inj hx ihx hx' h3
      obtain ⟨h6, h7⟩ := prim_inj hy ihy hy' h5
      injection h7 with _ h7
      rw [e]
      exact ⟨same_two h4 h6, h7⟩
/-! Declarations, equations, nodes. -/
theorem text_inj {a b : ByteArray} (h : a.data.toList = b.data.toList) : (a.toList == b.toList) = true := by rw [bytes_inj h]; simp
theorem wV_inj {d : Bool} {v u : Vr} (hv : WfV d v) (hu : WfV d u) {R R' : List W3} (hR : (hdW3 R).2.1 ≠ [119, 104, 101, 110]) (hR' : (hdW3 R').2.1 ≠ [119, 104, 101, 110]) (h : wV v ++ R = wV u ++ R') : sameV v u = true ∧ R = R' := by
  obtain ⟨n1, k1, o1, b1, a1⟩ := v
  obtain ⟨n2, k2, o2, b2, a2⟩ := u
  obtain ⟨hn1, hk1, ho1⟩ := hv
  obtain ⟨hn2, hk2, ho2⟩ := hu
  simp only at hn1 hk1 ho1 hn2 hk2 ho2
  unfold wV at h
  injection h with h1 h
  injection h with _ h
  injection h with h2 h
  have e1 : n1 = n2 := bytes_inj (congrArg (fun p : W3 => p.2.1) h1)
  have e2 : k1 = k2 := by
    have e : kdL k1 = kdL k2 := congrArg (fun p : W3 => p.2.1) h2
    rcases hk1 with rfl | rfl <;> rcases hk2 with rfl | rfl <;> first | rfl | exact absurd e (by decide)
  subst e1
  subst e2
  have on1 : o1.data.toList ≠ [] → NmB o1 := fun hne => by
    rcases ho1 with ⟨e, _⟩ | ⟨_, e⟩
    · rw [e] at hne; exact absurd rfl hne
    · exact e
  have on2 : o2.data.toList ≠ [] → NmB o2 := fun hne => by
    rcases ho2 with ⟨e, _⟩ | ⟨_, e⟩
    · rw [e] at hne; exact absurd rfl hne
    · exact e
  have nt : o1.data.toList = [] → b1 = false := fun e => by
    rcases ho1 with ⟨_, e2⟩ | ⟨_, e2⟩
    · exact e2
    · exact absurd e e2.ne
  have nt2 : o2.data.toList = [] → b2 = false := fun e => by
    rcases ho2 with ⟨_, e2⟩ | ⟨_, e2⟩
    · exact e2
    · exact absurd e e2.ne
  have fin : o1 = o2 → b1 = b2 → sameV ⟨n1, k1, o1, b1, a1⟩ ⟨n1, k1, o2, b2, a2⟩ = true := fun e1 e2 => by
    subst e1; subst e2
    unfold sameV
    simp
  by_cases c1 : o1.data.toList = []
  · by_cases c2 : o2.data.toList = []
    · rw [if_pos c1, if_pos c2] at h
      exact ⟨fin (bytes_inj (c1.trans c2.symm)) ((nt c1).trans (nt2 c2).symm), h⟩
    · rw [if_pos c1, if_neg c2] at h
      exact absurd (show (hdW3 R).2.1 = [119, 104, 101, 110] by rw [show R = _ from h]; rfl) hR
  · by_cases c2 : o2.data.toList = []
    · rw [if_neg c1, if_pos c2] at h
      exact absurd (show (hdW3 R').2.1 = [119, 104, 101, 110] by rw [← show _ = R' from h]; rfl) hR'
    · rw [if_neg c1, if_neg c2] at h
      injection h with _ h
      simp only [List.append_eq, List.append_assoc, List.cons_append, List.nil_append] at h
      have same : wd 1 o1.data.toList :: R = wd 1 o2.data.toList :: R' → b1 = b2 → sameV ⟨n1, k1, o1, b1, a1⟩ ⟨n1, k1, o2, b2, a2⟩ = true ∧ R = R' := fun h e => by
        injection h with h1 h2
        exact ⟨fin (bytes_inj (congrArg (fun p : W3 => p.2.1) h1)) e, h2⟩
      cases b1 with
      | true =>
        cases b2 with
        | true => rw [if_pos rfl] at h; injection h with _ h; exact same h rfl
        | false => rw [if_pos rfl, if_neg (by decide)] at h; injection h with h _; exact absurd (show (2 : Nat) = 1 from congrArg Prod.fst h) (by decide)
      | false =>
        cases b2 with
        | true => rw [if_neg (by decide), if_pos rfl] at h; injection h with h _; exact absurd (show (1 : Nat) = 2 from congrArg Prod.fst h) (by decide)
        | false => rw [if_neg (by decide)] at h; exact same h rfl
theorem nw_59 (R : List W3) : (hdW3 (wd 4 [59] :: R)).2.1 ≠ [119, 104, 101, 110] := (show ([59] : List UInt8) ≠ [119, 104, 101, 110] by decide)
theorem wVr_inj {d : Bool} : ∀ (vs us : List Vr), (∀ v ∈ vs, WfV d v) → (∀ v ∈ us, WfV d v) → ∀ R R', wVr vs ++ wd 4 [41] :: R = wVr us ++ wd 4 [41] :: R' → pairs sameV vs us = true ∧ R = R'
  | [], [], _, _, R, R', h => by injection h with _ h; exact ⟨rfl, h⟩
  | [], k :: r, _, _, R, R', h => by
    injection h with h _
    exact absurd (show ([41] : List UInt8) = [59] from congrArg (fun p : W3 => p.2.1) h) (by decide)
  | k :: r, [], _, _, R, R', h => by
    injection h with h _
    exact absurd (show ([59] : List UInt8) = [41] from congrArg (fun p : W3 => p.2.1) h) (by decide)
  | k :: r, k' :: r', hi, hw, R, R', h => by
    have h1 : wd 4 [59] :: (wV k ++ (wVr r ++ wd 4 [41] :: R)) = wd 4 [59] :: (wV k' ++ (wVr r' ++ wd 4 [41] :: R')) := by simpa [wVr] using h
    injection h1 with _ h1
    have np : ∀ (r : List Vr) (R : List W3), (hdW3 (wVr r ++ wd 4 [41] :: R)).2.1 ≠ [119, 104, 101, 110] := fun r R => by
      cases r with
      | nil => exact (show ([41] : List UInt8) ≠ [119, 104, 101, 110] by decide)
      | cons x t => exact (show ([59] : List UInt8) ≠ [119, 104, 101, 110] by decide)
    obtain ⟨h2, h3⟩ := wV_inj (hi k (by simp)) (hw k' (by simp)) (np _ _) (np _ _) h1
    obtain ⟨h4, h5⟩ := wVr_inj r r' (fun x hx => hi x (by simp [hx])) (fun x hx => hw x (by simp [hx])) R R' h3
    exact ⟨by rw [pairs, h2, h4]; rfl, h5⟩
theorem wVs_inj {d : Bool} (vs us : List Vr) (hv : ∀ v ∈ vs, WfV d v) (hu : ∀ v ∈ us, WfV d v) (R R' : List W3) (h : wVs vs ++ wd 4 [41] :: R = wVs us ++ wd 4 [41] :: R') : pairs sameV vs us = true ∧ R = R' := by
  cases vs with
  | nil =>
    cases us with
    | nil => injection h with _ h; exact ⟨rfl, h⟩
    | cons u r =>
      injection h with h _
      exact absurd (show (4 : Nat) = 1 from congrArg Prod.fst h) (by decide)
  | cons v r =>
    cases us with
    | nil =>
      injection h with h _
      exact absurd (show (1 : Nat) = 4 from congrArg Prod.fst h) (by decide)
    | cons u s => exact wVr_inj (v :: r) (u :: s) hv hu R R' (by
        have h : (wV v ++ wVr r) ++ wd 4 [41] :: R = (wV u ++ wVr s) ++ wd 4 [41] :: R' := h
        show (wd 4 [59] :: wV v ++ wVr r) ++ wd 4 [41] :: R = (wd 4 [59] :: wV u ++ wVr s) ++ wd 4 [41] :: R'
        rw [List.cons_append, List.cons_append, h]
        rfl)
theorem wVl_inj {d : Bool} : ∀ (vs us : List Vr), (∀ v ∈ vs, WfV d v) → (∀ v ∈ us, WfV d v) → ∀ R R', wVl vs ++ wd 2 [108, 101, 116] :: R = wVl us ++ wd 2 [108, 101, 116] :: R' → pairs sameV vs us = true ∧ R = R'
  | [], [], _, _, R, R', h => by injection h with _ h; exact ⟨rfl, h⟩
  | [], k :: r, _, _, R, R', h => by
    injection h with h _
    exact absurd (show (2 : Nat) = 1 from congrArg Prod.fst h) (by decide)
  | k :: r, [], _, _, R, R', h => by
    injection h with h _
    exact absurd (show (1 : Nat) = 2 from congrArg Prod.fst h) (by decide)
  | k :: r, k' :: r', hi, hw, R, R', h => by
    have h1 : wV k ++ (wd 4 [59] :: (wVl r ++ wd 2 [108, 101, 116] :: R)) = wV k' ++ (wd 4 [59] :: (wVl r' ++ wd 2 [108, 101, 116] :: R')) := by simpa [wVl] using h
    obtain ⟨h2, h3⟩ := wV_inj (hi k (by simp)) (hw k' (by simp)) (nw_59 _) (nw_59 _) h1
    injection h3 with _ h3
    obtain ⟨h4, h5⟩ := wVl_inj r r' (fun x hx => hi x (by simp [hx])) (fun x hx => hw x (by simp [hx])) R R' h3
    exact ⟨by rw [pairs, h2, h4]; rfl, h5⟩
theorem wLoc_inj (vs us : List Vr) (hv : ∀ v ∈ vs, WfV false v) (hu : ∀ v ∈ us, WfV false v) (R R' : List W3) (h : wLoc vs ++ wd 2 [108, 101, 116] :: R = wLoc us ++ wd 2 [108, 101, 116] :: R') : pairs sameV vs us = true ∧ R = R' := by
  cases vs with
  | nil =>
    cases us with
    | nil => injection h with _ h; exact ⟨rfl, h⟩
    | cons u r =>
      injection h with h _
      exact absurd (show ([108, 101, 116] : List UInt8) = [118, 97, 114] from congrArg (fun p : W3 => p.2.1) h) (by decide)
  | cons v r =>
    cases us with
    | nil =>
      injection h with h _
      exact absurd (show ([118, 97, 114] : List UInt8) = [108, 101, 116] from congrArg (fun p : W3 => p.2.1) h) (by decide)
    | cons u s =>
      injection h with _ h
      exact wVl_inj (v :: r) (u :: s) hv hu R R' h
theorem wQs_inj : ∀ (qs ps : List Qe), (∀ q ∈ qs, NmB q.name ∧ Wf q.e) → (∀ q ∈ ps, NmB q.name ∧ Wf q.e) → ∀ R R', wQs qs ++ wd 2 [116, 101, 108] :: R = wQs ps ++ wd 2 [116, 101, 108] :: R' → pairs sameQ qs ps = true ∧ R = R'
  | [], [], _, _, R, R', h => by injection h with _ h; exact ⟨rfl, h⟩
  | [], k :: r, _, _, R, R', h => by
    injection h with h _
    exact absurd (show (2 : Nat) = 1 from congrArg Prod.fst h) (by decide)
  | k :: r, [], _, _, R, R', h => by
    injection h with h _
    exact absurd (show (1 : Nat) = 2 from congrArg Prod.fst h) (by decide)
  | k :: r, k' :: r', hi, hw, R, R', h => by
    have h1 : wd 1 k.name.data.toList :: wd 4 [61] :: (wE k.e ++ (wd 4 [59] :: (wQs r ++ wd 2 [116, 101, 108] :: R))) = wd 1 k'.name.data.toList :: wd 4 [61] :: (wE k'.e ++ (wd 4 [59] :: (wQs r' ++ wd 2 [116, 101, 108] :: R'))) := by simpa [wQs, wQ] using h
    injection h1 with h0 h1
    injection h1 with _ h1
    obtain ⟨h2, h3⟩ := inj_all (hi k (by simp)).2 k'.e _ _ (hw k' (by simp)).2 h1 (np_of (show ([59] : List UInt8) ≠ [40] by decide)) (np_of (show ([59] : List UInt8) ≠ [40] by decide))
    injection h3 with _ h3
    obtain ⟨h4, h5⟩ := wQs_inj r r' (fun x hx => hi x (by simp [hx])) (fun x hx => hw x (by simp [hx])) R R' h3
    refine ⟨?_, h5⟩
    rw [pairs, h4, Bool.and_true]
    unfold sameQ
    rw [text_inj (congrArg (fun p : W3 => p.2.1) h0), h2]
    rfl
theorem wN_inj {n m : Nd} (hn : WfN n) (hm : WfN m) {R R' : List W3} (h : wN n ++ R = wN m ++ R') : sameN n m = true ∧ R = R' := by
  unfold wN at h
  injection h with _ h
  injection h with h0 h
  injection h with _ h
  simp only [List.append_eq, List.append_assoc, List.cons_append, List.nil_append] at h
  obtain ⟨i1, h⟩ := wVs_inj n.ins m.ins hn.ins hm.ins _ _ h
  injection h with _ h
  injection h with _ h
  obtain ⟨i2, h⟩ := wVs_inj n.outs m.outs hn.outs hm.outs _ _ h
  injection h with _ h
  obtain ⟨i3, h⟩ := wLoc_inj n.locs m.locs hn.locs hm.locs _ _ h
  obtain ⟨i4, h⟩ := wQs_inj n.eqs m.eqs hn.eqs hm.eqs _ _ h
  injection h with _ h
  refine ⟨?_, h⟩
  unfold sameN
  rw [sameVs_eq, sameVs_eq, sameVs_eq, sameQs_eq, i1, i2, i3, i4, text_inj (congrArg (fun p : W3 => p.2.1) h0)]
  rfl
theorem wNs_inj : ∀ (l m : List Nd), (∀ nd ∈ l, WfN nd) → (∀ nd ∈ m, WfN nd) → wNs l ++ [(0, [], 0)] = wNs m ++ [(0, [], 0)] → pairs sameN l m = true
  | [], [], _, _, _ => rfl
  | [], k :: r, _, _, h => by
    injection h with h _
    exact absurd (show (0 : Nat) = 2 from congrArg Prod.fst h) (by decide)
  | k :: r, [], _, _, h => by
    injection h with h _
    exact absurd (show (2 : Nat) = 0 from congrArg Prod.fst h) (by decide)
  | k :: r, k' :: r', hi, hw, h => by
    have h1 : wN k ++ (wNs r ++ [(0, [], 0)]) = wN k' ++ (wNs r' ++ [(0, [], 0)]) := by simpa [wNs] using h
    obtain ⟨h2, h3⟩ := wN_inj (hi k (by simp)) (hw k' (by simp)) h1
    have h4 := wNs_inj r r' (fun x hx => hi x (by simp [hx])) (fun x hx => hw x (by simp [hx])) h3
    rw [pairs, h2, h4]
    rfl
/-- TWO PROGRAMS ARE ALIKE, but for places, just if they are written alike. -/
theorem same_iff {l m : List Nd} (hl : ∀ nd ∈ l, WfN nd) (hm : ∀ nd ∈ m, WfN nd) : sameP l m = (showT l == showT m) := by
  cases hs : sameP l m with
  | true => rw [same_show hs]; simp
  | false =>
    cases he : (showT l == showT m) with
    | false => rfl
    | true =>
      have e := eq_of_beq he
      have h1 := lexT (tkNs l) (tkNs_ok 0 l hl)
      have h2 := lexT (tkNs m) (tkNs_ok 0 m hm)
      rw [tkNs_text l hl, tkNs_w] at h1
      rw [tkNs_text m hm, tkNs_w, ← e] at h2
      have h3 := wNs_inj l m hl hm (h1.one h2)
      rw [sameP_eq, h3] at hs
      cases hs
theorem parse_wf' {s : ByteArray} {l : List Nd} (h : parseS s = .ok l) : ∀ nd ∈ l, WfN nd := by
  obtain ⟨a, r, rfl, ha, hr⟩ := parse_wf h
  intro nd hn
  rcases List.mem_cons.1 hn with rfl | hn
  · exact ha
  · exact hr nd hn
end Go.Proofs.YtjlnihennlkmpaaGreatDoor
