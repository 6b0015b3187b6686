/-
  Texts that the statements stand on, part 6.
-/
import Derived.Test.YtjlnihennlkmpaaGreatDoorMe
import Derived.Lib.ItoaLen
import Derived.Laws.Rows
import Derived.Deep.MidRow
import Derived.Great.BuildSlice
set_option linter.unusedVariables false
set_option linter.unusedSimpArgs false
namespace Go.Proofs.YtjlnihennlkmpaaGreatDoor
open Go Go.RowKit
/-- An expression's words; as a merge writes it; arguments' behind the first. -/
def wE (e : Ex) : List W3 := (tkE e 0).map Tk.w
def wP (e : Ex) : List W3 := (tkP e 0).map Tk.w
def wR (ks : List Ex) : List W3 := ks.flatMap fun k => (4, [44], 0) :: wE k
def wA : List Ex → List W3
  | [] => []
  | k :: r => wE k ++ wR r
abbrev wd (k : Nat) (t : List UInt8) : W3 := (k, t, 0)
theorem tkC_w : ∀ (ks : List Ex), (tkA ks).map Tk.w = wA ks
  | [] => rfl
  | [k] => by show (tkE k 0).map Tk.w = wE k ++ wR []; simp [wE, wR]
  | k :: k2 :: r => by
    have ih := tkC_w (k2 :: r)
    show (tkE k 0 ++ sgK [44] 1 :: tkA (k2 :: r)).map Tk.w = wE k ++ wR (k2 :: r)
    rw [List.map_append, List.map_cons, ih]
    rfl
section
variable (nm : ByteArray) (a : Nat) (x y z : Ex) (ks : List Ex) (n : Int)
theorem tk_w {e : Ex} (h : Wf e) (s : Nat) : (tkE e s).map Tk.w = wE e := by
  unfold wE
  cases h with
  | int m a h => rw [tk_int, tk_int]; rfl
  | bool n a h => rw [tk_bool, tk_bool]; rfl
  | var nm a h => rw [tk_var, tk_var]; rfl
  | call nm a ks h hk => rw [tk_call, tk_call]; simp [Tk.w, sgK, nmK]
  | un o a x ho hx => rw [tk_un _ _ _ _ _ _ ho, tk_un _ _ _ _ _ _ ho]; simp [Tk.w, sgK, kw]
  | neg a x hx => rw [tk_neg, tk_neg]; simp [Tk.w, sgK]
  | two o a x y ho hx hy => rw [tk_two _ _ _ _ _ _ _ ho, tk_two _ _ _ _ _ _ _ ho]; simp [Tk.w, sgK]
  | when nm n a x h hn hx => rw [tk_when, tk_when]; simp [Tk.w, sgK, nmK, kw]
  | ite a x y z hx hy hz => rw [tk_ite, tk_ite]; simp [Tk.w, sgK, kw]
  | merge nm a x y h hx hy => rw [tk_merge, tk_merge]; simp [Tk.w, sgK, nmK, kw]
theorem tkP_w {e : Ex} (h : Wf e) (s : Nat) : (tkP e s).map Tk.w = wP e := by
  obtain ⟨op, nm, n, a, ks⟩ := e
  unfold wP
  rw [tkP_mk, tkP_mk]
  split
  · rfl
  · rw [tk_w h, tk_w h]
theorem w_int (m : Nat) : wE (.mk (bs [105, 110, 116]) nm (m : Int) a ks) = [(3, textN m, (m : Int))] := by unfold wE; rw [tk_int, itoa_text]; rfl
theorem w_bool : wE (.mk (bs [98, 111, 111, 108]) nm n a ks) = [wd 2 (if n = 0 then [102, 97, 108, 115, 101] else [116, 114, 117, 101])] := by unfold wE; rw [tk_bool]; rfl
theorem w_var : wE (.mk (bs [118, 97, 114]) nm n a ks) = [wd 1 nm.data.toList] := by unfold wE; rw [tk_var]; rfl
theorem w_call : wE (.mk (bs [99, 97, 108, 108]) nm n a ks) = wd 1 nm.data.toList :: wd 4 [40] :: (wA ks ++ [wd 4 [41]]) := by unfold wE; rw [tk_call, List.map_cons, List.map_cons, List.map_append, tkC_w]; rfl
theorem w_un (o : List UInt8) (ho : o = [110, 111, 116] ∨ o = [112, 114, 101]) : wE (.mk (bs o) nm n a [x]) = wd 4 [40] :: ((wd 2 o :: wE x) ++ [wd 4 [41]]) := by unfold wE; rw [tk_un _ _ _ _ _ _ ho]; simp [Tk.w, sgK, kw]
theorem w_neg : wE (.mk (bs [110, 101, 103]) nm n a [x]) = wd 4 [40] :: ((wd 4 [45] :: wE x) ++ [wd 4 [41]]) := by unfold wE; rw [tk_neg]; simp [Tk.w, sgK]
theorem w_two {x : Ex} (hx : Wf x) (o : List UInt8) (ho : isInfix o = true) : wE (.mk (bs o) nm n a [x, y]) = wd 4 [40] :: ((wE x ++ opW o :: wE y) ++ [wd 4 [41]]) := by
  have h1 := tk_w hx 1
  unfold wE at h1 ⊢; rw [tk_two _ _ _ _ _ _ _ ho, List.map_cons, List.map_append, List.map_cons, h1]; simp [Tk.w, sgK, opW]
theorem w_when {x : Ex} (hx : Wf x) : wE (.mk (bs [119, 104, 101, 110]) nm n a [x]) = wd 4 [40] :: ((wE x ++ wd 2 [119, 104, 101, 110] :: ((if n = 0 then [wd 2 [110, 111, 116]] else []) ++ [wd 1 nm.data.toList])) ++ [wd 4 [41]]) := by
  have h1 := tk_w hx 1
  unfold wE at h1 ⊢
  rw [tk_when, List.map_cons, List.map_append, List.map_cons, h1]
  split <;> simp [Tk.w, sgK, kw, nmK]
theorem w_ite {x y : Ex} (hx : Wf x) (hy : Wf y) : wE (.mk (bs [105, 102]) nm n a [x, y, z]) = wd 4 [40] :: ((wd 2 [105, 102] :: (wE x ++ wd 2 [116, 104, 101, 110] :: (wE y ++ wd 2 [101, 108, 115, 101] :: wE z))) ++ [wd 4 [41]]) := by
  have h1 := tk_w hx 1
  have h2 := tk_w hy 1
  unfold wE at h1 h2 ⊢
  rw [tk_ite, List.map_cons, List.map_cons, List.map_append, List.map_cons, List.map_append, h1, h2]; simp [Tk.w, sgK, kw]
theorem w_merge {x y : Ex} (hx : Wf x) (hy : Wf y) : wE (.mk (bs [109, 101, 114, 103, 101]) nm n a [x, y]) = wd 4 [40] :: ((wd 2 [109, 101, 114, 103, 101] :: wd 1 nm.data.toList :: (wP x ++ wP y)) ++ [wd 4 [41]]) := by
  have h1 := tkP_w hx 1
  unfold wE
  rw [tk_merge, List.map_cons, List.map_cons, List.map_cons, List.map_append, List.map_append, h1, tkP_w hy]; simp [Tk.w, sgK, kw, nmK]
end
theorem wP_var (nm : ByteArray) (a : Nat) : wP (.mk (bs [118, 97, 114]) nm 0 a []) = wd 4 [40] :: ([wd 1 nm.data.toList] ++ [wd 4 [41]]) := by
  unfold wP
  rw [tkP_mk, if_pos (show (bs [118, 97, 114]).data.toList = [118, 97, 114] from rfl)]
  rfl
theorem wP_other {e : Ex} (h : Wf e) : wP e = wE e ∨ ∃ nm a, NmB nm ∧ e = .mk (bs [118, 97, 114]) nm 0 a [] := by
  cases h with
  | var nm a h => exact .inr ⟨nm, a, h, rfl⟩
  | two o a x y ho hx hy =>
    left
    unfold wP wE
    rw [tkP_mk, if_neg]
    intro e
    have e2 : o = [118, 97, 114] := e
    rw [e2] at ho; cases ho
  | un o a x ho hx =>
    left
    unfold wP wE
    rw [tkP_mk, if_neg]
    intro e
    have e2 : o = [118, 97, 114] := e
    rw [e2] at ho; revert ho; decide
  | _ =>
    left
    unfold wP wE
    rw [tkP_mk, if_neg (by decide)]
/-- A name is no word of the grammar, and no sign. -/
theorem nm_ne {nm : ByteArray} (h : NmB nm) (l : List UInt8) (hl : (keptB l || !isL (l.headD 0).toNat) = true) : (nm.data.toList == l) = false := by
  cases e : (nm.data.toList == l) with
  | false => rfl
  | true =>
    have e := eq_of_beq e
    rw [← e, h.2, h.1.head] at hl
    cases hl
theorem num_ne (m : Nat) (l : List UInt8) (hl : isD (l.headD 0).toNat = false) : (textN m == l) = false := by
  cases e : (textN m == l) with
  | false => rfl
  | true =>
    have e := eq_of_beq e
    obtain ⟨c, r, h⟩ := List.exists_cons_of_ne_nil (textN_ne m)
    have := textN_digits m c (by rw [h]; simp)
    rw [← e, h] at hl
    have e2 : ((c :: r).headD 0) = c := rfl
    rw [e2, this] at hl
    cases hl
/-- The words with which an expression begins: none of the signs but a bracket. -/
theorem wE_head {e : Ex} (h : Wf e) : ∃ x r, wE e = x :: r ∧ x.1 ≠ 0 ∧ (x.2.1 == [41]) = false := by
  cases h with
  | int m a h => exact ⟨_, _, w_int _ _ _ _, Nat.succ_ne_zero _, num_ne m _ (by decide)⟩
  | bool n a h =>
    refine ⟨_, _, w_bool _ _ _ _, Nat.succ_ne_zero _, ?_⟩
    rcases h with rfl | rfl <;> rfl
  | var nm a h => exact ⟨_, _, w_var _ _ _ _, Nat.succ_ne_zero _, nm_ne h _ (by decide)⟩
  | call nm a ks h hk => exact ⟨_, _, w_call _ _ _ _, Nat.succ_ne_zero _, nm_ne h _ (by decide)⟩
  | un o a x ho hx => exact ⟨_, _, w_un _ _ _ _ o ho, by decide, rfl⟩
  | neg a x hx => exact ⟨_, _, w_neg _ _ _ _, by decide, rfl⟩
  | two o a x y ho hx hy => exact ⟨_, _, w_two _ _ _ _ hx o ho, by decide, rfl⟩
  | when nm n a x h hn hx => exact ⟨_, _, w_when _ _ _ hx, by decide, rfl⟩
  | ite a x y z hx hy hz => exact ⟨_, _, w_ite _ _ _ _ hx hy, by decide, rfl⟩
  | merge nm a x y h hx hy => exact ⟨_, _, w_merge _ _ _ hx hy, by decide, rfl⟩
/-- Its words without the brackets. -/
def Bare (e : Ex) (ws : List W3) : Prop := Wf e ∧ wE e = wd 4 [40] :: (ws ++ [wd 4 [41]])
/-- The next depth reads what is written. -/
structure RNx (L : List Wd) (nx : Nx) : Prop where
  un : ∀ e R, Wf e → 0 < lvl (hdW3 R).2.1 → ReadsE L nx.un e (wE e) R
  prim : ∀ e R, Wf e → ReadsE L nx.prim e (wP e) R
  fby : ∀ e R, Wf e → 2 < lvl (hdW3 R).2.1 → ReadsE L nx.fby e (wE e) R
  expr : ∀ e R, Wf e → 8 < lvl (hdW3 R).2.1 → ReadsE L nx.expr e (wE e) R
  bare : ∀ e ws R, Bare e ws → 8 < lvl (hdW3 R).2.1 → ReadsE L nx.expr e ws R
theorem reads_deep {L : List Wd} {f : St → Ex × St} (h : ∀ st, st.er = 0 → (f st).2.er = 2) (e : Ex) (ws R : List W3) : ReadsE L f e ws R := fun S he _ => .inl (h S he)
theorem rnx1 (L : List Wd) : RNx L (nxAt L 1) := ⟨fun _ _ _ _ => reads_deep (deep1 L).un _ _ _, fun _ _ _ => reads_deep (deep1 L).prim _ _ _, fun _ _ _ _ => reads_deep (deep1 L).fby _ _ _, fun _ _ _ _ => reads_deep (deep1 L).expr _ _ _, fun _ _ _ _ _ => reads_deep (deep1 L).expr _ _ _⟩
section
variable {L : List Wd} {nx : Nx} (hn : SNx nx) (hr : RNx L nx)
include hn hr
/-- Arguments behind the first. -/
theorem args_reads : ∀ (ks : List Ex) (k : Nat) (R : List W3), (∀ x ∈ ks, Wf x) → ks.length ≤ k → (hdW3 R).2.1 = [41] → ∀ S, S.er = 0 → suf L S.i = wR ks ++ R → (argsS L nx.expr k S).2.er = 2 ∨ ((argsS L nx.expr k S).2.er = 0 ∧ suf L (argsS L nx.expr k S).2.i = R ∧ (argsS L nx.expr k S).2.names = S.names ∧ sameL ks (argsS L nx.expr k S).1 = true)
  | [], k, R, _, _, hR, S, he, hs => by
    have h0 : argsS L nx.expr k S = ([], S) := by
      cases k with
      | zero => rfl
      | succ k => unfold argsS; rw [if_neg (by rw [is_hd, hs]; show ¬ ((hdW3 R).2.1 == _) = true; rw [hR]; decide)]
    rw [h0]
    exact .inr ⟨he, hs, rfl, by rw [sameL]⟩
  | x :: r, 0, R, _, hk, _, S, he, hs => by simp at hk
  | x :: r, k + 1, R, hw, hk, hR, S, he, hs => by
    have hs2 : suf L S.i = wd 4 [44] :: (wE x ++ (wR r ++ R)) := by rw [hs]; simp [wR]
    have hc : isS L (bs [44]) S = true := by rw [hd_is hs2]; rfl
    have hnx := hd_next hs2 (by decide)
    unfold argsS
    rw [if_pos hc, hnx]
    have hR2 : 8 < lvl (hdW3 (wR r ++ R)).2.1 := by
      cases r with
      | nil => show 8 < lvl (hdW3 R).2.1; rw [hR]; decide
      | cons y t => show 8 < lvl [44]; decide
    rcases hr.expr x (wR r ++ R) (hw x (by simp)) hR2 { S with i := S.i + 1 } he (hd_suf hs2) with h1 | ⟨h1, h2, h3, h4⟩
    · left
      show (argsS L nx.expr k (nx.expr { S with i := S.i + 1 }).2).2.er = 2
      rw [argsS_stk L hn.expr _ _ (by rw [h1]; decide), h1]
    · rcases args_reads r k R (fun y hy => hw y (by simp [hy])) (by simpa using hk) hR _ h1 h2 with h5 | ⟨h5, h6, h7, h8⟩
      · exact .inl h5
      · refine .inr ⟨h5, h6, h7.trans h3, ?_⟩
        show sameL (x :: r) ((nx.expr { S with i := S.i + 1 }).1 :: _) = true
        rw [sameL, h4, h8]; rfl
omit hn hr in
theorem wA_len (ks : List Ex) (hw : ∀ x ∈ ks, Wf x) : ks.length ≤ (wA ks).length := by
  cases ks with
  | nil => simp
  | cons k r =>
    have h1 : r.length ≤ (wR r).length := by
      clear hw
      induction r with
      | nil => simp
      | cons y t ih => simp only [wR, List.flatMap_cons, List.length_append, List.length_cons] at *; omega
    obtain ⟨x, t, e, _⟩ := wE_head (hw k (by simp))
    show r.length + 1 ≤ (wE k ++ wR r).length
    rw [e, List.length_append, List.length_cons]
    omega
omit hn hr in
theorem suf_len (L : List Wd) (i : Nat) : (suf L i).length ≤ L.length := by unfold suf; simp
theorem call_reads (ks : List Ex) (R : List W3) (hw : ∀ x ∈ ks, Wf x) (hR : (hdW3 R).2.1 = [41]) (S : St) (he : S.er = 0) (hs : suf L S.i = wA ks ++ R) : (callS L nx S).2.er = 2 ∨ ((callS L nx S).2.er = 0 ∧ suf L (callS L nx S).2.i = R ∧ (callS L nx S).2.names = S.names ∧ sameL ks (callS L nx S).1 = true) := by
  cases ks with
  | nil =>
    have h0 : callS L nx S = ([], S) := by unfold callS; rw [if_pos (by rw [is_hd, hs]; show ((hdW3 R).2.1 == _) = true; rw [hR]; decide)]
    rw [h0]
    exact .inr ⟨he, hs, rfl, by rw [sameL]⟩
  | cons x r =>
    obtain ⟨y, t, e, _, hy⟩ := wE_head (hw x (by simp))
    have hl := wA_len (x :: r) hw
    have hl2 := suf_len L S.i
    rw [hs, List.length_append] at hl2
    have hs2 : suf L S.i = wE x ++ (wR r ++ R) := by rw [hs]; simp [wA]
    have hs3 : suf L S.i = y :: (t ++ (wR r ++ R)) := by rw [hs2, e]; rfl
    unfold callS
    rw [if_neg (by rw [hd_is hs3]; show ¬ (y.2.1 == [41]) = true; rw [hy]; decide)]
    have hR2 : 8 < lvl (hdW3 (wR r ++ R)).2.1 := by
      cases r with
      | nil => show 8 < lvl (hdW3 R).2.1; rw [hR]; decide
      | cons y t => show 8 < lvl [44]; decide
    rcases hr.expr x (wR r ++ R) (hw x (by simp)) hR2 S he hs2 with h1 | ⟨h1, h2, h3, h4⟩
    · left
      show (argsS L nx.expr L.length (nx.expr S).2).2.er = 2
      rw [argsS_stk L hn.expr _ _ (by rw [h1]; decide), h1]
    · rcases args_reads hn hr r L.length R (fun y hy => hw y (by simp [hy])) (by simp at hl; omega) hR _ h1 h2 with h5 | ⟨h5, h6, h7, h8⟩
      · exact .inl h5
      · refine .inr ⟨h5, h6, h7.trans h3, ?_⟩
        show sameL (x :: r) ((nx.expr S).1 :: _) = true
        rw [sameL, h4, h8]; rfl
omit hn hr in
/-- A bracket: what stands within, and its end. -/
theorem bracketed_reads {e : Ex} {ws R : List W3} (h : ReadsE L nx.expr e ws (wd 4 [41] :: R)) (S : St) (he : S.er = 0) (hs : suf L S.i = wd 4 [40] :: (ws ++ [wd 4 [41]] ++ R)) : (bracketedS L nx S).2.er = 2 ∨ ((bracketedS L nx S).2.er = 0 ∧ suf L (bracketedS L nx S).2.i = R ∧ (bracketedS L nx S).2.names = S.names ∧ sameE e (bracketedS L nx S).1 = true) := by
  unfold bracketedS
  simp only
  rw [hd_next hs (by decide)]
  rcases h { S with i := S.i + 1 } he (by rw [hd_suf hs]; simp) with h1 | ⟨h1, h2, h3, h4⟩
  · left
    show (needS L _ (nx.expr { S with i := S.i + 1 }).2).er = 2
    rw [need_stk _ (by rw [h1]; decide), h1]
  · right
    show (needS L (bs [41]) (nx.expr { S with i := S.i + 1 }).2).er = 0 ∧ suf L (needS L (bs [41]) (nx.expr { S with i := S.i + 1 }).2).i = R ∧ (needS L (bs [41]) (nx.expr { S with i := S.i + 1 }).2).names = S.names ∧ _
    rw [hd_need h2 (by decide) _ rfl]
    exact ⟨h1, hd_suf h2, h3, h4⟩
omit hn hr in
theorem primB_kw {S : St} {x : W3} {r : List W3} (hs : suf L S.i = x :: r) (h3 : x.1 ≠ 3) (h1 : x.1 ≠ 1) : primB L nx S = if x.2.1 = [116, 114, 117, 101] then (.mk (bs [98, 111, 111, 108]) ⟨#[]⟩ 1 (cur L S).at_ [], (partS L S).2) else if x.2.1 = [102, 97, 108, 115, 101] then (.mk (bs [98, 111, 111, 108]) ⟨#[]⟩ 0 (cur L S).at_ [], (partS L S).2) else if x.2.1 = [40] then bracketedS L nx S else if x.2.1 = [105, 102] then choiceS L nx S else if x.2.1 = [109, 101, 114, 103, 101] then mergeS L nx S else (ex0, failS L 7 S) := by
  have e : ∀ l : List UInt8, (isS L (bs l) S = true) = (x.2.1 = l) := fun l => by rw [hd_is hs]; show ((x.2.1 == l) = true) = _; simp
  unfold primB
  simp only [e, hd_kind hs]
  rw [if_neg h3, if_neg h1]
theorem primB_reads {e : Ex} {R : List W3} (hw : Wf e) (hv : 0 < lvl (hdW3 R).2.1 ∨ wP e = wE e) (S : St) (he : S.er = 0) (hs : suf L S.i = wE e ++ R) : (primB L nx S).2.er = 2 ∨ ((primB L nx S).2.er = 0 ∧ suf L (primB L nx S).2.i = R ∧ (primB L nx S).2.names = S.names ∧ sameE e (primB L nx S).1 = true) := by
  have key : ∀ ws, Bare e ws → (primB L nx S).2.er = 2 ∨ ((primB L nx S).2.er = 0 ∧ suf L (primB L nx S).2.i = R ∧ (primB L nx S).2.names = S.names ∧ sameE e (primB L nx S).1 = true) := fun ws hb => by
    have hs2 : suf L S.i = wd 4 [40] :: (ws ++ [wd 4 [41]] ++ R) := by rw [hs, hb.2]; rfl
    rw [primB_kw hs2 (by decide) (by decide), if_neg (by decide), if_neg (by decide), if_pos rfl]
    exact bracketed_reads (hr.bare e ws _ hb (show 8 < lvl [41] by decide)) S he hs2
  have leaf : ∀ (x : W3) (E : Ex), suf L S.i = x :: R → x.1 ≠ 0 → sameE e E = true → primB L nx S = (E, (partS L S).2) → (primB L nx S).2.er = 2 ∨ ((primB L nx S).2.er = 0 ∧ suf L (primB L nx S).2.i = R ∧ (primB L nx S).2.names = S.names ∧ sameE e (primB L nx S).1 = true) := fun x E hs hk hE hp => by
    rw [hp]
    rcases hd_part hs hk he with h1 | ⟨h1, h2⟩
    · exact .inl h1
    · right
      show (partS L S).2.er = 0 ∧ suf L (partS L S).2.i = R ∧ (partS L S).2.names = S.names ∧ _
      rw [h2]
      exact ⟨he, hd_suf hs, rfl, hE⟩
  cases hw with
  | int m a h =>
    rw [w_int] at hs
    refine leaf _ (.mk (bs [105, 110, 116]) ⟨#[]⟩ (cur L S).n (cur L S).at_ []) hs (Nat.succ_ne_zero _) ?_ ?_
    · rw [hd_n hs]
      rw [same_mk, sameL]
    · unfold primB
      simp only
      rw [if_pos (hd_kind hs)]
  | bool n a h =>
    rw [w_bool] at hs
    rcases h with rfl | rfl
    · rw [if_pos rfl] at hs
      refine leaf _ (.mk (bs [98, 111, 111, 108]) ⟨#[]⟩ 0 (cur L S).at_ []) hs (by decide) (by rw [same_mk, sameL]) ?_
      rw [primB_kw hs (by decide) (by decide), if_neg (by decide), if_pos rfl]
    · rw [if_neg (by decide)] at hs
      refine leaf _ (.mk (bs [98, 111, 111, 108]) ⟨#[]⟩ 1 (cur L S).at_ []) hs (by decide) (by rw [same_mk, sameL]) ?_
      rw [primB_kw hs (by decide) (by decide), if_pos rfl]
  | var nm a h =>
    have hv : 0 < lvl (hdW3 R).2.1 := by
      rcases hv with hv | hv
      · exact hv
      · rw [wP_var, w_var] at hv; simp at hv
    rw [w_var] at hs
    have e0 : primB L nx S = namedS L nx S := by
      unfold primB
      simp only
      rw [if_neg (by rw [hd_kind hs]; show ¬ (1 = 3); decide), if_pos (hd_kind hs)]
    rw [e0]
    unfold namedS
    simp only
    rcases hd_part hs (Nat.succ_ne_zero _) he with h1 | ⟨h1, h2⟩
    · left
      split
      · have h3 : (nextS L (partS L S).2).er = 2 := by rw [next_er, h1]
        have h4 : (callS L nx (nextS L (partS L S).2)).2.er = 2 := by
          unfold callS
          split
          · exact h3
          · have h5 := hn.expr.then_ (by decide) h3
            show (argsS L nx.expr L.length (nx.expr (nextS L (partS L S).2)).2).2.er = _
            rw [argsS_stk L hn.expr _ _ (by rw [h5]; decide), h5]
        show (needS L _ (callS L nx (nextS L (partS L S).2)).2).er = _
        rw [need_stk _ (by rw [h4]; decide), h4]
      · exact h1
    · rw [h1, h2]
      have hno : isS L (bs [40]) { S with i := S.i + 1, parts := S.parts + 1 } = false := by
        rw [is_hd]
        show ((hdW3 (suf L (S.i + 1))).2.1 == [40]) = false
        rw [hd_suf hs]
        show ((hdW3 R).2.1 == [40]) = false
        cases hq : ((hdW3 R).2.1 == [40]) with
        | false => rfl
        | true => rw [eq_of_beq hq] at hv; exact absurd hv (by decide)
      rw [if_neg (by rw [hno]; decide)]
      refine .inr ⟨he, hd_suf hs, rfl, ?_⟩
      rw [bytes_inj (hd_text hs : (cur L S).text.data.toList = nm.data.toList), same_mk, sameL]
  | call nm a ks h hk =>
    rw [w_call] at hs
    have hs1 : suf L S.i = wd 1 nm.data.toList :: wd 4 [40] :: (wA ks ++ (wd 4 [41] :: R)) := by rw [hs]; simp
    have e0 : primB L nx S = namedS L nx S := by
      unfold primB
      simp only
      rw [if_neg (by rw [hd_kind hs1]; show ¬ (1 = 3); decide), if_pos (hd_kind hs1)]
    rcases hd_part hs1 (Nat.succ_ne_zero _) he with h1 | ⟨h1, h2⟩
    · left
      rw [e0]
      unfold namedS
      simp only
      split
      · have h3 : (nextS L (partS L S).2).er = 2 := by rw [next_er, h1]
        have h4 : (callS L nx (nextS L (partS L S).2)).2.er = 2 := by
          unfold callS
          split
          · exact h3
          · have h5 := hn.expr.then_ (by decide) h3
            show (argsS L nx.expr L.length (nx.expr (nextS L (partS L S).2)).2).2.er = _
            rw [argsS_stk L hn.expr _ _ (by rw [h5]; decide), h5]
        show (needS L _ (callS L nx (nextS L (partS L S).2)).2).er = _
        rw [need_stk _ (by rw [h4]; decide), h4]
      · exact h1
    · rw [e0]
      unfold namedS
      simp only
      rw [h1, h2]
      have hs2 := hd_suf hs1
      rw [if_pos (by rw [hd_is (S := { S with i := S.i + 1, parts := S.parts + 1 }) hs2]; rfl), hd_next (S := { S with i := S.i + 1, parts := S.parts + 1 }) hs2 (by decide)]
      have hs3 := hd_suf (S := { S with i := S.i + 1 }) hs2
      rcases call_reads hn hr ks (wd 4 [41] :: R) hk rfl { S with i := S.i + 1 + 1, parts := S.parts + 1 } he hs3 with h3 | ⟨h3, h4, h5, h6⟩
      · left
        show (needS L _ (callS L nx _).2).er = 2
        rw [need_stk _ (by rw [h3]; decide), h3]
      · right
        show (needS L (bs [41]) (callS L nx _).2).er = 0 ∧ suf L (needS L (bs [41]) (callS L nx _).2).i = R ∧ (needS L (bs [41]) (callS L nx _).2).names = S.names ∧ _
        rw [hd_need h4 (by decide) _ rfl]
        refine ⟨h3, hd_suf h4, h5, ?_⟩
        rw [bytes_inj (hd_text hs1 : (cur L S).text.data.toList = nm.data.toList), same_mk]
        exact h6
  | un o a x ho hx => exact key _ ⟨Wf.un o a x ho hx, w_un _ _ _ _ o ho⟩
  | neg a x hx => exact key _ ⟨Wf.neg a x hx, w_neg _ _ _ _⟩
  | two o a x y ho hx hy => exact key _ ⟨Wf.two o a x y ho hx hy, w_two _ _ _ _ hx o ho⟩
  | when nm n a x h hn hx => exact key _ ⟨Wf.when nm n a x h hn hx, w_when _ _ _ hx⟩
  | ite a x y z hx hy hz => exact key _ ⟨Wf.ite a x y z hx hy hz, w_ite _ _ _ _ hx hy⟩
  | merge nm a x y h hx hy => exact key _ ⟨Wf.merge nm a x y h hx hy, w_merge _ _ _ hx hy⟩
end
end Go.Proofs.YtjlnihennlkmpaaGreatDoor

namespace Go.Proofs.YtjlnihennlkmpaaGreatDoor
open Go Go.RowKit
theorem ask_fine {L : List Wd} {d : Nat} (st : St) (hd : d ≤ 30) : askS L d st = st := by
  unfold askS
  rw [if_neg (by omega)]
theorem wE_first {e : Ex} (h : Wf e) : ∃ x r, wE e = x :: r ∧ (x.2.1 == [110, 111, 116]) = false ∧ (x.2.1 == [112, 114, 101]) = false ∧ (x.2.1 == [45]) = false := by
  cases h with
  | int m a h => exact ⟨_, _, w_int _ _ _ _, num_ne m _ (by decide), num_ne m _ (by decide), num_ne m _ (by decide)⟩
  | bool n a h =>
    refine ⟨_, _, w_bool _ _ _ _, ?_⟩
    rcases h with rfl | rfl <;> exact ⟨rfl, rfl, rfl⟩
  | var nm a h => exact ⟨_, _, w_var _ _ _ _, nm_ne h _ (by decide), nm_ne h _ (by decide), nm_ne h _ (by decide)⟩
  | call nm a ks h hk => exact ⟨_, _, w_call _ _ _ _, nm_ne h _ (by decide), nm_ne h _ (by decide), nm_ne h _ (by decide)⟩
  | un o a x ho hx => exact ⟨_, _, w_un _ _ _ _ o ho, rfl, rfl, rfl⟩
  | neg a x hx => exact ⟨_, _, w_neg _ _ _ _, rfl, rfl, rfl⟩
  | two o a x y ho hx hy => exact ⟨_, _, w_two _ _ _ _ hx o ho, rfl, rfl, rfl⟩
  | when nm n a x h hn hx => exact ⟨_, _, w_when _ _ _ hx, rfl, rfl, rfl⟩
  | ite a x y z hx hy hz => exact ⟨_, _, w_ite _ _ _ _ hx hy, rfl, rfl, rfl⟩
  | merge nm a x y h hx hy => exact ⟨_, _, w_merge _ _ _ hx hy, rfl, rfl, rfl⟩
/-- un, where no sign of its own stands. -/
theorem un_prim {L : List Wd} {nx : Nx} {d : Nat} (hd : d ≤ 30) {S : St} {x : W3} {r : List W3} (hs : suf L S.i = x :: r) (h1 : (x.2.1 == [110, 111, 116]) = false) (h2 : (x.2.1 == [112, 114, 101]) = false) (h3 : (x.2.1 == [45]) = false) : unS L nx d S = primB L nx S := by
  unfold unS
  simp only
  rw [ask_fine S hd, if_neg, if_neg]
  · unfold primS
    rw [ask_fine S hd]
  · rw [hd_is hs]; show ¬ (x.2.1 == [45]) = true; rw [h3]; decide
  · rw [hd_is hs, hd_is hs]
    show ¬ ((x.2.1 == [110, 111, 116]) = true ∨ (x.2.1 == [112, 114, 101]) = true)
    rw [h1, h2]
    decide
section
variable {L : List Wd} {nx : Nx} (hn : SNx nx) (hr : RNx L nx) {d : Nat} (hd : d ≤ 30)
include hn hr hd
theorem un_reads (e : Ex) (R : List W3) (hw : Wf e) (hR : 0 < lvl (hdW3 R).2.1) : ReadsE L (unS L nx d) e (wE e) R := fun S he hs => by
  obtain ⟨x, r, h0, h1, h2, h3⟩ := wE_first hw
  have hs2 : suf L S.i = x :: (r ++ R) := by rw [hs, h0]; rfl
  rw [un_prim hd hs2 h1 h2 h3]
  exact primB_reads hn hr hw (.inl hR) S he hs
theorem prim_reads (e : Ex) (R : List W3) (hw : Wf e) : ReadsE L (primS L nx d) e (wP e) R := fun S he hs => by
  unfold primS
  rw [ask_fine S hd]
  rcases wP_other hw with h | ⟨nm, a, hnm, rfl⟩
  · rw [h] at hs
    exact primB_reads hn hr hw (.inr h) S he hs
  · have hs2 : suf L S.i = wd 4 [40] :: ([wd 1 nm.data.toList] ++ [wd 4 [41]] ++ R) := by rw [hs, wP_var]; rfl
    rw [primB_kw hs2 (by decide) (by decide), if_neg (by decide), if_neg (by decide), if_pos rfl]
    have h1 := hr.expr _ (wd 4 [41] :: R) hw (show 8 < lvl [41] by decide)
    rw [w_var] at h1
    exact bracketed_reads h1 S he hs2
/-- A sign ahead. -/
theorem ahead_reads (o op : List UInt8) (k : Nat) (hk : k ≠ 0) (a : Nat) (x : Ex) (R : List W3) (hx : Wf x) (hR : 0 < lvl (hdW3 R).2.1) (ho : (o = op ∧ (o = [110, 111, 116] ∨ o = [112, 114, 101])) ∨ (o = [45] ∧ op = [110, 101, 103])) : ReadsE L (unS L nx d) (.mk (bs op) ⟨#[]⟩ 0 a [x]) (wd k o :: wE x) R := fun S he hs => by
  have hs1 : suf L S.i = wd k o :: (wE x ++ R) := hs
  have hi : ∀ l : List UInt8, (isS L (bs l) S = true) = (o = l) := fun l => by rw [hd_is hs1]; show ((o == l) = true) = _; simp
  have fin : ∀ (O : ByteArray), O = bs op → ((nx.un (partS L S).2).2.er = 2 ∨ ((nx.un (partS L S).2).2.er = 0 ∧ suf L (nx.un (partS L S).2).2.i = R ∧ (nx.un (partS L S).2).2.names = S.names ∧ sameE (.mk (bs op) ⟨#[]⟩ 0 a [x]) (.mk O ⟨#[]⟩ 0 (partS L S).1.at_ [(nx.un (partS L S).2).1]) = true)) ∨ ((partS L S).2.er = 2 ∧ (nx.un (partS L S).2).2.er = 2) := fun O hO => by
    rcases hd_part hs1 hk he with h1 | ⟨h1, h2⟩
    · exact .inr ⟨h1, hn.un.then_ (by decide) h1⟩
    · left
      rw [h1, h2]
      rcases hr.un x R hx hR { S with i := S.i + 1, parts := S.parts + 1 } he (hd_suf hs1) with h3 | ⟨h3, h4, h5, h6⟩
      · exact .inl h3
      · refine .inr ⟨h3, h4, h5, ?_⟩
        rw [hO]
        exact same_one h6
  unfold unS
  simp only
  rw [ask_fine S hd]
  simp only [hi]
  rcases ho with ⟨rfl, ho⟩ | ⟨rfl, rfl⟩
  · rw [if_pos ho]
    rcases hd_part hs1 hk he with h1 | ⟨h1, h2⟩
    · exact .inl (hn.un.then_ (by decide) h1)
    · rcases fin (partS L S).1.text (by rw [h1]; exact text_bs (hd_text hs1)) with h3 | h3
      · exact h3
      · exact .inl h3.2
  · rw [if_neg (by decide), if_pos rfl]
    rcases fin (bs [110, 101, 103]) rfl with h3 | h3
    · exact h3
    · exact .inl h3.2
theorem ite_reads (a : Nat) (x y z : Ex) (R : List W3) (hx : Wf x) (hy : Wf y) (hz : Wf z) (hR : 8 < lvl (hdW3 R).2.1) : ReadsE L (unS L nx d) (.mk (bs [105, 102]) ⟨#[]⟩ 0 a [x, y, z]) (wd 2 [105, 102] :: (wE x ++ wd 2 [116, 104, 101, 110] :: (wE y ++ wd 2 [101, 108, 115, 101] :: wE z))) R := fun S he hs => by
  have hs1 : suf L S.i = wd 2 [105, 102] :: (wE x ++ (wd 2 [116, 104, 101, 110] :: (wE y ++ (wd 2 [101, 108, 115, 101] :: (wE z ++ R))))) := by rw [hs]; simp
  rw [un_prim hd hs1 rfl rfl rfl, primB_kw hs1 (by decide) (by decide), if_neg (by decide), if_neg (by decide), if_neg (by decide), if_pos rfl]
  unfold choiceS
  simp only
  rcases hd_part hs1 (by decide) he with h1 | ⟨h1, h2⟩
  · left
    have h2 := hn.expr.then_ (by decide) h1
    have h3 : (needS L (bs [116, 104, 101, 110]) (nx.expr (partS L S).2).2).er = 2 := by rw [need_stk _ (by rw [h2]; decide), h2]
    have h4 := hn.expr.then_ (by decide) h3
    have h5 : (needS L (bs [101, 108, 115, 101]) (nx.expr (needS L (bs [116, 104, 101, 110]) (nx.expr (partS L S).2).2)).2).er = 2 := by rw [need_stk _ (by rw [h4]; decide), h4]
    exact hn.expr.then_ (by decide) h5
  rw [h1, h2]
  rcases hr.expr x (wd 2 [116, 104, 101, 110] :: (wE y ++ (wd 2 [101, 108, 115, 101] :: (wE z ++ R)))) hx (show 8 < lvl [116, 104, 101, 110] by decide) { S with i := S.i + 1, parts := S.parts + 1 } he (hd_suf hs1) with a1 | ⟨a1, a2, a3, a4⟩
  · left
    have h3 : (needS L (bs [116, 104, 101, 110]) (nx.expr { S with i := S.i + 1, parts := S.parts + 1 }).2).er = 2 := by rw [need_stk _ (by rw [a1]; decide), a1]
    have h4 := hn.expr.then_ (by decide) h3
    have h5 : (needS L (bs [101, 108, 115, 101]) (nx.expr (needS L (bs [116, 104, 101, 110]) (nx.expr { S with i := S.i + 1, parts := S.parts + 1 }).2)).2).er = 2 := by rw [need_stk _ (by rw [h4]; decide), h4]
    exact hn.expr.then_ (by decide) h5
  generalize nx.expr { S with i := S.i + 1, parts := S.parts + 1 } = A at a1 a2 a3 a4 ⊢
  rw [hd_need a2 (by decide) _ rfl]
  rcases hr.expr y (wd 2 [101, 108, 115, 101] :: (wE z ++ R)) hy (show 8 < lvl [101, 108, 115, 101] by decide) { A.2 with i := A.2.i + 1 } a1 (hd_suf a2) with b1 | ⟨b1, b2, b3, b4⟩
  · left
    have h5 : (needS L (bs [101, 108, 115, 101]) (nx.expr { A.2 with i := A.2.i + 1 }).2).er = 2 := by rw [need_stk _ (by rw [b1]; decide), b1]
    exact hn.expr.then_ (by decide) h5
  generalize nx.expr { A.2 with i := A.2.i + 1 } = B at b1 b2 b3 b4 ⊢
  rw [hd_need b2 (by decide) _ rfl]
  rcases hr.expr z R hz hR { B.2 with i := B.2.i + 1 } b1 (hd_suf b2) with c1 | ⟨c1, c2, c3, c4⟩
  · exact .inl c1
  · refine .inr ⟨c1, c2, c3.trans (b3.trans a3), ?_⟩
    rw [same_mk, sameL, sameL, sameL, sameL, a4, b4, c4]
    rfl
theorem merge_reads (nm : ByteArray) (a : Nat) (x y : Ex) (R : List W3) (hx : Wf x) (hy : Wf y) : ReadsE L (unS L nx d) (.mk (bs [109, 101, 114, 103, 101]) nm 0 a [x, y]) (wd 2 [109, 101, 114, 103, 101] :: wd 1 nm.data.toList :: (wP x ++ wP y)) R := fun S he hs => by
  have hs1 : suf L S.i = wd 2 [109, 101, 114, 103, 101] :: (wd 1 nm.data.toList :: (wP x ++ (wP y ++ R))) := by rw [hs]; simp
  rw [un_prim hd hs1 rfl rfl rfl, primB_kw hs1 (by decide) (by decide), if_neg (by decide), if_neg (by decide), if_neg (by decide), if_neg (by decide), if_pos rfl]
  unfold mergeS
  simp only
  rcases hd_part hs1 (by decide) he with h1 | ⟨h1, h2⟩
  · left
    have h2 : (nameS L (partS L S).2).2.er = 2 := by rw [name_stk (by rw [h1]; decide), h1]
    exact hn.prim.then_ (by decide) (hn.prim.then_ (by decide) h2)
  rw [h1, h2]
  have hs2 := hd_suf hs1
  obtain ⟨n1, n2⟩ := hd_name (S := { S with i := S.i + 1, parts := S.parts + 1 }) hs2 rfl
  rw [n2, bytes_inj n1]
  rcases hr.prim x _ hx { S with i := S.i + 1 + 1, parts := S.parts + 1 } he (hd_suf (S := { S with i := S.i + 1, parts := S.parts + 1 }) hs2) with a1 | ⟨a1, a2, a3, a4⟩
  · exact .inl (hn.prim.then_ (by decide) a1)
  generalize nx.prim { S with i := S.i + 1 + 1, parts := S.parts + 1 } = A at a1 a2 a3 a4 ⊢
  rcases hr.prim y R hy A.2 a1 a2 with b1 | ⟨b1, b2, b3, b4⟩
  · exact .inl b1
  · refine .inr ⟨b1, b2, b3.trans a3, ?_⟩
    rw [same_mk, sameL, sameL, sameL, a4, b4]
    rfl
theorem when_reads (nm : ByteArray) (n : Int) (hn01 : n = 0 ∨ n = 1) (a : Nat) (x : Ex) (hnm : NmB nm) (R : List W3) (hx : Wf x) (hR : lvl (hdW3 R).2.1 ≠ 1) : ReadsE L (whenS L nx d) (.mk (bs [119, 104, 101, 110]) nm n a [x]) (wE x ++ wd 2 [119, 104, 101, 110] :: ((if n = 0 then [wd 2 [110, 111, 116]] else []) ++ [wd 1 nm.data.toList])) R := fun S he hs => by
  obtain ⟨T, hT⟩ : ∃ T : List W3, T = (if n = 0 then [wd 2 [110, 111, 116]] else []) ++ wd 1 nm.data.toList :: R := ⟨_, rfl⟩
  have hs1 : suf L S.i = wE x ++ (wd 2 [119, 104, 101, 110] :: T) := by rw [hs, hT]; simp
  unfold whenS
  rcases un_reads hn hr hd x (wd 2 [119, 104, 101, 110] :: T) hx (show 0 < lvl [119, 104, 101, 110] by decide) S he hs1 with a1 | ⟨a1, a2, a3, a4⟩
  · left
    rw [whenL_stk L _ _ _ (by rw [a1]; decide), a1]
  generalize unS L nx d S = A at a1 a2 a3 a4 ⊢
  obtain ⟨m, hm⟩ : ∃ m, L.length = m + 1 := ⟨L.length - 1, by have := hd_len a2; omega⟩
  rw [hm]
  unfold whenL
  simp only
  rw [btw_yes (by rw [hd_has a2]; rfl)]
  simp only
  rw [if_pos trivial]
  have cont : ∀ (b : Bool) (S2 : St), S2.er = 0 → S2.names = S.names → takeS L (bs [110, 111, 116]) (partS L A.2).2 = (b, S2) → suf L S2.i = wd 1 nm.data.toList :: R → n = (if b = true then 0 else 1) → (whenL L m (.mk (bs [119, 104, 101, 110]) (nameS L (takeS L (bs [110, 111, 116]) (partS L A.2).2).2).1 (if (takeS L (bs [110, 111, 116]) (partS L A.2).2).1 = true then 0 else 1) (partS L A.2).1.at_ [A.1]) (nameS L (takeS L (bs [110, 111, 116]) (partS L A.2).2).2).2).2.er = 2 ∨ ((whenL L m (.mk (bs [119, 104, 101, 110]) (nameS L (takeS L (bs [110, 111, 116]) (partS L A.2).2).2).1 (if (takeS L (bs [110, 111, 116]) (partS L A.2).2).1 = true then 0 else 1) (partS L A.2).1.at_ [A.1]) (nameS L (takeS L (bs [110, 111, 116]) (partS L A.2).2).2).2).2.er = 0 ∧ suf L (whenL L m (.mk (bs [119, 104, 101, 110]) (nameS L (takeS L (bs [110, 111, 116]) (partS L A.2).2).2).1 (if (takeS L (bs [110, 111, 116]) (partS L A.2).2).1 = true then 0 else 1) (partS L A.2).1.at_ [A.1]) (nameS L (takeS L (bs [110, 111, 116]) (partS L A.2).2).2).2).2.i = R ∧ (whenL L m (.mk (bs [119, 104, 101, 110]) (nameS L (takeS L (bs [110, 111, 116]) (partS L A.2).2).2).1 (if (takeS L (bs [110, 111, 116]) (partS L A.2).2).1 = true then 0 else 1) (partS L A.2).1.at_ [A.1]) (nameS L (takeS L (bs [110, 111, 116]) (partS L A.2).2).2).2).2.names = S.names ∧ sameE (.mk (bs [119, 104, 101, 110]) nm n a [x]) (whenL L m (.mk (bs [119, 104, 101, 110]) (nameS L (takeS L (bs [110, 111, 116]) (partS L A.2).2).2).1 (if (takeS L (bs [110, 111, 116]) (partS L A.2).2).1 = true then 0 else 1) (partS L A.2).1.at_ [A.1]) (nameS L (takeS L (bs [110, 111, 116]) (partS L A.2).2).2).2).1 = true) := by
    intro b S2 e1 e2 e3 e4 e5
    rw [e3]
    obtain ⟨n1, n2⟩ := hd_name e4 rfl
    simp only
    rw [n2, bytes_inj n1]
    have hoff : hasS L [bs [119, 104, 101, 110]] { S2 with i := S2.i + 1 } = false := by
      rw [has_hd]
      show (([bs [119, 104, 101, 110]] : List ByteArray).any fun o => o.data.toList == (hdW3 (suf L (S2.i + 1))).2.1) = false
      rw [hd_suf e4]
      exact off_of (k := 1) (by decide) hR
    rw [(when_kont L m).skip _ _ hoff]
    refine .inr ⟨e1, hd_suf e4, e2, ?_⟩
    rw [← e5]
    exact same_one a4
  rcases hd_part a2 (by decide) a1 with b1 | ⟨b1, b2⟩
  · left
    have h2 : (nameS L (takeS L (bs [110, 111, 116]) (partS L A.2).2).2).2.er = 2 := by
      rw [name_stk (by rw [take_er, b1]; decide), take_er, b1]
    rw [whenL_stk L _ _ _ (by rw [h2]; decide), h2]
  have h3 : suf L (A.2.i + 1) = T := hd_suf a2
  rcases hn01 with rfl | rfl
  · rw [if_pos rfl] at hT
    rw [hT] at h3
    refine cont true { A.2 with i := A.2.i + 1 + 1, parts := A.2.parts + 1 } a1 a3 ?_ (hd_suf (S := { A.2 with i := A.2.i + 1, parts := A.2.parts + 1 }) h3) rfl
    rw [b2]
    exact hd_take (S := { A.2 with i := A.2.i + 1, parts := A.2.parts + 1 }) h3 (by decide) _ rfl
  · rw [if_neg (by decide)] at hT
    rw [hT] at h3
    refine cont false { A.2 with i := A.2.i + 1, parts := A.2.parts + 1 } a1 a3 ?_ h3 rfl
    rw [b2]
    exact hd_take0 (S := { A.2 with i := A.2.i + 1, parts := A.2.parts + 1 }) h3 _ (nm_ne hnm [110, 111, 116] (by decide))
/-- One operator, at its level. -/
theorem two_reads (o : List UInt8) (ho : isInfix o = true) (a : Nat) (x y : Ex) (R : List W3) (hx : Wf x) (hy : Wf y) (hR : 8 < lvl (hdW3 R).2.1) : ReadsE L (arrowS L nx d) (.mk (bs o) ⟨#[]⟩ 0 a [x, y]) (wE x ++ opW o :: wE y) R := by
  have u : ∀ e R, Wf e → 0 < lvl (hdW3 R).2.1 → ReadsE L (unS L nx d) e (wE e) R := fun e R => un_reads hn hr hd e R
  have l1 : ∀ e R, Wf e → 1 < lvl (hdW3 R).2.1 → ReadsE L (whenS L nx d) e (wE e) R := fun e R hw h => lift1 (u e R hw (by omega)) (by omega)
  have l2 : ∀ e R, Wf e → 2 < lvl (hdW3 R).2.1 → ReadsE L (fbyS L nx d) e (wE e) R := fun e R hw h => lift2 hn (l1 e R hw (by omega)) (by omega)
  have l3 : ∀ e R, Wf e → 3 < lvl (hdW3 R).2.1 → ReadsE L (mulS L nx d) e (wE e) R := fun e R hw h => lift3 hn (l2 e R hw (by omega)) (by omega)
  have l4 : ∀ e R, Wf e → 4 < lvl (hdW3 R).2.1 → ReadsE L (addS L nx d) e (wE e) R := fun e R hw h => lift4 hn (l3 e R hw (by omega)) (by omega)
  have l5 : ∀ e R, Wf e → 5 < lvl (hdW3 R).2.1 → ReadsE L (cmpS L nx d) e (wE e) R := fun e R hw h => lift5 hn (l4 e R hw (by omega)) (by omega)
  have l6 : ∀ e R, Wf e → 6 < lvl (hdW3 R).2.1 → ReadsE L (andS L nx d) e (wE e) R := fun e R hw h => lift6 hn (l5 e R hw (by omega)) (by omega)
  have l7 : ∀ e R, Wf e → 7 < lvl (hdW3 R).2.1 → ReadsE L (orS L nx d) e (wE e) R := fun e R hw h => lift7 hn (l6 e R hw (by omega)) (by omega)
  have t : ∀ k, (decide (k < lvl o)) = true → k < lvl (hdW3 (opW o :: (wE y ++ R))).2.1 := fun k h => by
    show k < lvl (opW o).2.1
    rw [opW_text]
    exact of_decide_eq_true h
  have mul : ([bs [42], bs [47], bs [109, 111, 100]].any fun p => p.data.toList == o) = true → decide (2 < lvl o) = true → ReadsE L (arrowS L nx d) (.mk (bs o) ⟨#[]⟩ 0 a [x, y]) (wE x ++ opW o :: wE y) R := fun h1 h2 =>
    up4 hn ((row_kont L [bs [42], bs [47], bs [109, 111, 100]] (fbyS_stk hn d) L.length).two (l2 x _ hx (t 2 h2)) (row_two (fbyS_stk hn d) h1 (l2 y R hy (by omega)) (off_of (k := 3) (by decide) (by omega))) a) hR
  have add : ([bs [43], bs [45]].any fun p => p.data.toList == o) = true → decide (3 < lvl o) = true → ReadsE L (arrowS L nx d) (.mk (bs o) ⟨#[]⟩ 0 a [x, y]) (wE x ++ opW o :: wE y) R := fun h1 h2 =>
    up5 hn ((row_kont L [bs [43], bs [45]] (rowS_stk L (fbyS_stk hn d) _) L.length).two (l3 x _ hx (t 3 h2)) (row_two (rowS_stk L (fbyS_stk hn d) _) h1 (l3 y R hy (by omega)) (off_of (k := 4) (by decide) (by omega))) a) hR
  have cmp : ([bs [61], bs [60, 62], bs [60], bs [60, 61], bs [62], bs [62, 61]].any fun p => p.data.toList == o) = true → decide (4 < lvl o) = true → ReadsE L (arrowS L nx d) (.mk (bs o) ⟨#[]⟩ 0 a [x, y]) (wE x ++ opW o :: wE y) R := fun h1 h2 =>
    up6 hn ((KB_kont L [bs [61], bs [60, 62], bs [60], bs [60, 61], bs [62], bs [62, 61]] (addS_stk hn d)).two (l4 x _ hx (t 4 h2)) (KB_two (addS_stk hn d) h1 (l4 y R hy (by omega))) a) hR
  have fby : ([bs [102, 98, 121]].any fun p => p.data.toList == o) = true → decide (1 < lvl o) = true → ReadsE L (arrowS L nx d) (.mk (bs o) ⟨#[]⟩ 0 a [x, y]) (wE x ++ opW o :: wE y) R := fun h1 h2 =>
    up3 hn ((KB_kont L [bs [102, 98, 121]] hn.fby).two (l1 x _ hx (t 1 h2)) (KB_two hn.fby h1 (hr.fby y R hy (by omega))) a) hR
  have and_ : ([bs [97, 110, 100]].any fun p => p.data.toList == o) = true → decide (5 < lvl o) = true → ReadsE L (arrowS L nx d) (.mk (bs o) ⟨#[]⟩ 0 a [x, y]) (wE x ++ opW o :: wE y) R := fun h1 h2 =>
    up7 hn ((row_kont L [bs [97, 110, 100]] (cmpS_stk hn d) L.length).two (l5 x _ hx (t 5 h2)) (row_two (cmpS_stk hn d) h1 (l5 y R hy (by omega)) (off_of (k := 6) (by decide) (by omega))) a) hR
  have or_ : ([bs [111, 114], bs [120, 111, 114]].any fun p => p.data.toList == o) = true → decide (6 < lvl o) = true → ReadsE L (arrowS L nx d) (.mk (bs o) ⟨#[]⟩ 0 a [x, y]) (wE x ++ opW o :: wE y) R := fun h1 h2 =>
    lift8 hn ((row_kont L [bs [111, 114], bs [120, 111, 114]] (rowS_stk L (cmpS_stk hn d) _) L.length).two (l6 x _ hx (t 6 h2)) (row_two (rowS_stk L (cmpS_stk hn d) _) h1 (l6 y R hy (by omega)) (off_of (k := 7) (by decide) (by omega))) a) (by omega)
  have arrow : ([bs [45, 62]].any fun p => p.data.toList == o) = true → decide (7 < lvl o) = true → ReadsE L (arrowS L nx d) (.mk (bs o) ⟨#[]⟩ 0 a [x, y]) (wE x ++ opW o :: wE y) R := fun h1 h2 =>
    (KB_kont L [bs [45, 62]] hn.expr).two (l7 x _ hx (t 7 h2)) (KB_two hn.expr h1 (hr.expr y R hy hR)) a
  rcases infix_is ho with rfl | rfl | rfl | rfl | rfl | rfl | rfl | rfl | rfl | rfl | rfl | rfl | rfl | rfl | rfl | rfl
  · exact add (by decide) (by decide)
  · exact add (by decide) (by decide)
  · exact mul (by decide) (by decide)
  · exact mul (by decide) (by decide)
  · exact mul (by decide) (by decide)
  · exact cmp (by decide) (by decide)
  · exact cmp (by decide) (by decide)
  · exact cmp (by decide) (by decide)
  · exact cmp (by decide) (by decide)
  · exact cmp (by decide) (by decide)
  · exact cmp (by decide) (by decide)
  · exact and_ (by decide) (by decide)
  · exact or_ (by decide) (by decide)
  · exact or_ (by decide) (by decide)
  · exact arrow (by decide) (by decide)
  · exact fby (by decide) (by decide)
theorem bare_reads (e : Ex) (ws R : List W3) (hb : Bare e ws) (hR : 8 < lvl (hdW3 R).2.1) : ReadsE L (arrowS L nx d) e ws R := by
  obtain ⟨hw, hb⟩ := hb
  cases hw with
  | int m a h => rw [w_int] at hb; simp at hb
  | bool n a h => rw [w_bool] at hb; simp [wd] at hb
  | var nm a h => rw [w_var] at hb; simp [wd] at hb
  | call nm a ks h hk => rw [w_call] at hb; simp [wd] at hb
  | un o a x ho hx =>
    rw [w_un _ _ _ _ o ho] at hb
    injection hb with _ hb
    rw [← List.append_cancel_right hb]
    exact up1 hn (ahead_reads hn hr hd o o 2 (by decide) a x R hx (by omega) (.inl ⟨rfl, ho⟩)) hR
  | neg a x hx =>
    rw [w_neg] at hb
    injection hb with _ hb
    rw [← List.append_cancel_right hb]
    exact up1 hn (ahead_reads hn hr hd [45] [110, 101, 103] 4 (by decide) a x R hx (by omega) (.inr ⟨rfl, rfl⟩)) hR
  | two o a x y ho hx hy =>
    rw [w_two _ _ _ _ hx o ho] at hb
    injection hb with _ hb
    rw [← List.append_cancel_right hb]
    exact two_reads hn hr hd o ho a x y R hx hy hR
  | when nm n a x h hn01 hx =>
    rw [w_when _ _ _ hx] at hb
    injection hb with _ hb
    rw [← List.append_cancel_right hb]
    exact up2 hn (when_reads hn hr hd nm n hn01 a x h R hx (by omega)) hR
  | ite a x y z hx hy hz =>
    rw [w_ite _ _ _ _ hx hy] at hb
    injection hb with _ hb
    rw [← List.append_cancel_right hb]
    exact up1 hn (ite_reads hn hr hd a x y z R hx hy hz hR) hR
  | merge nm a x y h hx hy =>
    rw [w_merge _ _ _ hx hy] at hb
    injection hb with _ hb
    rw [← List.append_cancel_right hb]
    exact up1 hn (merge_reads hn hr hd nm a x y R hx hy) hR
end
theorem rnx (L : List Wd) : ∀ k, k ≤ 30 → RNx L (nxAt L (k + 1))
  | 0, _ => rnx1 L
  | k + 1, hk => by
    have hr := rnx L k (by omega)
    have hn := nx_stk L (k + 1)
    have hd : 31 - (k + 1) ≤ 30 := by omega
    have l1 : ∀ e R, Wf e → 1 < lvl (hdW3 R).2.1 → ReadsE L (whenS L (nxAt L (k + 1)) (31 - (k + 1))) e (wE e) R := fun e R hw h => lift1 (un_reads hn hr hd e R hw (by omega)) (by omega)
    exact ⟨fun e R hw h => un_reads hn hr hd e R hw h, fun e R hw => prim_reads hn hr hd e R hw, fun e R hw h => lift2 hn (l1 e R hw (by omega)) (by omega), fun e R hw h => up2 hn (l1 e R hw (by omega)) h, fun e ws R hb h => bare_reads hn hr hd e ws R hb h⟩
/-- WHAT IS WRITTEN OF AN EXPRESSION IS READ AS IT, unless a limit is told. -/
theorem expr_reads {L : List Wd} {e : Ex} {R : List W3} (hw : Wf e) (hR : 8 < lvl (hdW3 R).2.1) : ReadsE L (exprS L) e (wE e) R := (rnx L 30 (by decide)).expr e R hw hR
end Go.Proofs.YtjlnihennlkmpaaGreatDoor

namespace Go.Proofs.YtjlnihennlkmpaaGreatDoor
open Go Go.RowKit
/-- Two rows, pair by pair. -/
def pairs {α : Type} (f : α → α → Bool) : List α → List α → Bool
  | [], [] => true
  | a :: r, b :: s => f a b && pairs f r s
  | [], _ :: _ => false
  | _ :: _, [] => false
theorem pairs_all {α : Type} (f : α → α → Bool) (d : α) : ∀ (l m : List α), (decide (l.length = m.length) && allR l.length fun i => f (l.getD i d) (m.getD i d)) = pairs f l m
  | [], [] => by simp [pairs, allR]
  | [], _ :: _ => by simp [pairs]
  | _ :: _, [] => by simp [pairs]
  | a :: r, b :: s => by
    have ih := pairs_all f d r s
    rw [pairs, ← ih, List.length_cons, List.length_cons, allR_succ]
    have h : decide (r.length + 1 = s.length + 1) = decide (r.length = s.length) := by simp
    rw [h]
    simp only [List.getD_cons_zero, List.getD_cons_succ]
    cases f a b <;> simp
theorem sameVs_eq (l m : List Vr) : sameVs l m = pairs sameV l m := pairs_all sameV vr0 l m
theorem sameQs_eq (l m : List Qe) : sameQs l m = pairs sameQ l m := pairs_all sameQ qe0 l m
theorem sameP_eq (l m : List Nd) : sameP l m = pairs sameN l m := pairs_all sameN nd0 l m
/-! The words of declarations, equations, nodes. -/
def kdL (k : Nat) : List UInt8 := if k = 1 then [98, 111, 111, 108] else [105, 110, 116]
def tkV (v : Vr) (s : Nat) : List Tk := nmK v.name.data.toList 0 :: sgK [58] 1 :: (if v.on.data.toList = [] then [kw (kdL v.kind) s] else kw (kdL v.kind) 1 :: kw [119, 104, 101, 110] 1 :: ((if v.not_ = true then [kw [110, 111, 116] 1] else []) ++ [nmK v.on.data.toList s]))
def tkVs : List Vr → List Tk
  | [] => []
  | [v] => tkV v 0
  | v :: r => tkV v 0 ++ sgK [59] 1 :: tkVs r
def tkQ (q : Qe) (s : Nat) : List Tk := nmK q.name.data.toList 1 :: sgK [61] 1 :: (tkE q.e 0 ++ [sgK [59] s])
def tkQs : List Qe → List Tk
  | [] => []
  | [q] => tkQ q 2
  | q :: r => tkQ q 3 ++ tkQs r
def letSep (qs : List Qe) : Nat := match qs with
  | [] => 2
  | _ => 3
def tkLoc (vs : List Vr) : List Tk := match vs with
  | [] => []
  | _ => kw [118, 97, 114] 1 :: (tkVs vs ++ [sgK [59] 2])
def tkN (nd : Nd) : List Tk := kw [110, 111, 100, 101] 1 :: nmK nd.name.data.toList 0 :: sgK [40] 0 :: (tkVs nd.ins ++ sgK [41] 1 :: kw [114, 101, 116, 117, 114, 110, 115] 1 :: sgK [40] 0 :: (tkVs nd.outs ++ sgK [41] 0 :: sgK [59] 2 :: (tkLoc nd.locs ++ kw [108, 101, 116] (letSep nd.eqs) :: (tkQs nd.eqs ++ [kw [116, 101, 108] 0, sgK [59] 2]))))
def tkNs (l : List Nd) : List Tk := l.flatMap tkN
theorem NmB.ne {s : ByteArray} (h : NmB s) : s.data.toList ≠ [] := h.1.ne
theorem tkV_text {d : Bool} {v : Vr} (h : WfV d v) (s : Nat) : flatT (tkV v s) = varT v ++ sepL s := by
  have hk : (kindT (v.kind : Int)).data.toList = kdL v.kind := by
    rcases h.2.1 with e | e <;> rw [e] <;> rfl
  unfold tkV varT onT
  rw [flatT_cons, flatT_cons, hk]
  split
  · simp [flatT, kw, sgK, nmK, sepL]
  · unfold whenT
    cases v.not_ <;> simp [flatT, kw, sgK, nmK, sepL]
theorem tkVs_text {d : Bool} : ∀ (vs : List Vr), (∀ v ∈ vs, WfV d v) → flatT (tkVs vs) = varsT vs
  | [], _ => rfl
  | [v], h => by
    show flatT (tkV v 0) = varT v
    rw [tkV_text (h v (by simp))]; simp [sepL]
  | v :: u :: r, h => by
    have h2 := tkVs_text (u :: r) (fun x hx => h x (by simp [hx]))
    show flatT (tkV v 0 ++ sgK [59] 1 :: tkVs (u :: r)) = varT v ++ [59, 32] ++ varsT (u :: r)
    rw [flatT_app, flatT_cons, tkV_text (h v (by simp)), h2]
    simp [sepL, sgK]
theorem tkQ_text {q : Qe} (h : Wf q.e) (s : Nat) : [32, 32] ++ flatT (tkQ q s) = ([32, 32] ++ q.name.data.toList ++ [32, 61, 32]) ++ textE q.e ++ [59] ++ sepL s := by
  unfold tkQ
  rw [flatT_cons, flatT_cons, flatT_app, tk_text h]
  simp [flatT, sgK, nmK, sepL]
theorem tkQs_text : ∀ (qs : List Qe), (∀ q ∈ qs, Wf q.e) → sepL (letSep qs) ++ flatT (tkQs qs) = [10] ++ eqsT qs
  | [], _ => rfl
  | [q], h => by
    have h1 := tkQ_text (h q (by simp)) 2
    show [10] ++ ([32, 32] ++ flatT (tkQ q 2)) = [10] ++ (eqT q ++ [])
    rw [h1]
    simp [eqT, sepL]
  | q :: p :: r, h => by
    have h1 := tkQ_text (h q (by simp)) 3
    have h2 := tkQs_text (p :: r) (fun x hx => h x (by simp [hx]))
    have h3 : sepL 3 ++ flatT (tkQs (p :: r)) = [10] ++ eqsT (p :: r) := h2
    show [10] ++ ([32, 32] ++ flatT (tkQ q 3 ++ tkQs (p :: r))) = [10] ++ (eqT q ++ eqsT (p :: r))
    rw [flatT_app, ← List.append_assoc [32, 32], h1, List.append_assoc _ (sepL 3), h3]
    simp [eqT]
theorem tkN_text {nd : Nd} (h : WfN nd) : flatT (tkN nd) = nodeT nd := by
  have e1 := tkVs_text nd.ins h.ins
  have e2 := tkVs_text nd.outs h.outs
  have e3 := tkQs_text nd.eqs (fun q hq => (h.eqs q hq).2)
  have e4 : flatT (tkLoc nd.locs) = locsT nd.locs := by
    have e := tkVs_text nd.locs h.locs
    cases hl : nd.locs with
    | nil => rfl
    | cons v r =>
      rw [hl] at e
      unfold tkLoc locsT
      rw [if_neg (by simp), flatT_cons, flatT_app, e]
      simp [flatT, kw, sgK, sepL]
  unfold tkN nodeT
  rw [flatT_cons, flatT_cons, flatT_cons, flatT_app, flatT_cons, flatT_cons, flatT_cons, flatT_app, flatT_cons, flatT_cons, flatT_app, flatT_cons, flatT_app, e1, e2, e4]
  have e5 : ∀ X : List UInt8, sepL (letSep nd.eqs) ++ (flatT (tkQs nd.eqs) ++ X) = [10] ++ (eqsT nd.eqs ++ X) := fun X => by rw [← List.append_assoc, e3]; simp
  show _ ++ (_ ++ (_ ++ (_ ++ (_ ++ (_ ++ (_ ++ (_ ++ (_ ++ (_ ++ (_ ++ (_ ++ (_ ++ (_ ++ (_ ++ (_ ++ (_ ++ (_ ++ (_ ++ (_ ++ (sepL (letSep nd.eqs) ++ (flatT (tkQs nd.eqs) ++ _))))))))))))))))))))) = _
  rw [e5]
  simp [flatT, kw, sgK, nmK, sepL]
theorem tkNs_text : ∀ (l : List Nd), (∀ nd ∈ l, WfN nd) → flatT (tkNs l) = showT l
  | [], _ => rfl
  | nd :: r, h => by
    have h2 := tkNs_text r (fun x hx => h x (by simp [hx]))
    show flatT (tkN nd ++ tkNs r) = nodeT nd ++ showT r
    rw [flatT_app, tkN_text (h nd (by simp)), h2]
theorem kd_kept (k : Nat) : keptB (kdL k) = true := by unfold kdL; split <;> decide
theorem tkV_ok {d : Bool} {v : Vr} (h : WfV d v) (s : Nat) (b : UInt8) (hb : s = 0 → isN b.toNat = false) : okT b (tkV v s) := by
  unfold tkV
  refine ⟨ok_nm h.1 0 _ (fun _ => (by decide : isN (58 : UInt8).toNat = false)), ok_sg 58 1 _ (by decide) (fun _ => by decide), ?_⟩
  split
  · exact ⟨ok_kw _ (kd_kept _) s b hb, trivial⟩
  · rename_i hon
    have hn : NmB v.on := by
      rcases h.2.2 with ⟨e, _⟩ | ⟨_, e⟩
      · rw [e] at hon; exact absurd rfl hon
      · exact e
    refine ⟨ok_kw _ (kd_kept _) 1 _ (fun h => by cases h), ok_kw _ (by decide) 1 _ (fun h => by cases h), ?_⟩
    have ht : okT b [nmK v.on.data.toList s] := ⟨ok_nm hn s b hb, trivial⟩
    split
    · exact ⟨ok_kw _ (by decide) 1 _ (fun h => by cases h), ht⟩
    · exact ht
theorem tkVs_ok {d : Bool} (b : UInt8) (hb : isN b.toNat = false) : ∀ (vs : List Vr), (∀ v ∈ vs, WfV d v) → okT b (tkVs vs)
  | [], _ => trivial
  | [v], h => tkV_ok (h v (by simp)) 0 b (fun _ => hb)
  | v :: u :: r, h => by
    have h2 := tkVs_ok b hb (u :: r) (fun x hx => h x (by simp [hx]))
    show okT b (tkV v 0 ++ sgK [59] 1 :: tkVs (u :: r))
    exact (okT_app _ _ _).2 ⟨tkV_ok (h v (by simp)) 0 _ (fun _ => (by decide : isN (59 : UInt8).toNat = false)), ok_sg 59 1 _ (by decide) (fun _ => by decide), h2⟩
theorem tkQ_ok {q : Qe} (hn : NmB q.name) (h : Wf q.e) (s : Nat) (b : UInt8) : okT b (tkQ q s) :=
  ⟨ok_nm hn 1 _ (fun h => by cases h), ok_sg 61 1 _ (by decide) (fun _ => by decide), (okT_app _ _ _).2 ⟨tk_ok h 0 _ (fun _ => (by decide : isN (59 : UInt8).toNat = false)), ok_sg 59 s b (by decide) (fun _ => by decide), trivial⟩⟩
theorem tkQs_ok (b : UInt8) : ∀ (qs : List Qe), (∀ q ∈ qs, NmB q.name ∧ Wf q.e) → okT b (tkQs qs)
  | [], _ => trivial
  | [q], h => tkQ_ok (h q (by simp)).1 (h q (by simp)).2 2 b
  | q :: p :: r, h => by
    have h2 := tkQs_ok b (p :: r) (fun x hx => h x (by simp [hx]))
    show okT b (tkQ q 3 ++ tkQs (p :: r))
    exact (okT_app _ _ _).2 ⟨tkQ_ok (h q (by simp)).1 (h q (by simp)).2 3 _, h2⟩
theorem tkN_ok {nd : Nd} (h : WfN nd) (b : UInt8) : okT b (tkN nd) := by
  have hl : ∀ b, okT b (tkLoc nd.locs) := fun b => by
    have e := tkVs_ok 59 (by decide) nd.locs h.locs
    unfold tkLoc
    split
    · trivial
    · rename_i hne
      exact ⟨ok_kw _ (by decide) 1 _ (fun h => by cases h), (okT_app _ _ _).2 ⟨e, ok_sg 59 2 _ (by decide) (fun _ => by decide), trivial⟩⟩
  have hs : letSep nd.eqs ≠ 0 := by unfold letSep; split <;> decide
  exact ⟨ok_kw _ (by decide) 1 _ (fun h => by cases h), ok_nm h.name 0 _ (fun _ => (by decide : isN (40 : UInt8).toNat = false)), ok_sg 40 0 _ (by decide) (fun _ => by decide),
    (okT_app _ _ _).2 ⟨tkVs_ok _ (by decide : isN (41 : UInt8).toNat = false) _ h.ins, ok_sg 41 1 _ (by decide) (fun _ => by decide), ok_kw _ (by decide) 1 _ (fun h => by cases h), ok_sg 40 0 _ (by decide) (fun _ => by decide),
    (okT_app _ _ _).2 ⟨tkVs_ok _ (by decide : isN (41 : UInt8).toNat = false) _ h.outs, ok_sg 41 0 _ (by decide) (fun _ => by decide), ok_sg 59 2 _ (by decide) (fun _ => by decide),
    (okT_app _ _ _).2 ⟨hl _, ok_kw _ (by decide) _ _ (fun h => absurd h hs), (okT_app _ _ _).2 ⟨tkQs_ok _ _ h.eqs, ok_kw _ (by decide) 0 _ (fun _ => (by decide : isN (59 : UInt8).toNat = false)), ok_sg 59 2 _ (by decide) (fun _ => by decide), trivial⟩⟩⟩⟩⟩
theorem tkNs_ok (b : UInt8) : ∀ (l : List Nd), (∀ nd ∈ l, WfN nd) → okT b (tkNs l)
  | [], _ => trivial
  | nd :: r, h => by
    show okT b (tkN nd ++ tkNs r)
    exact (okT_app _ _ _).2 ⟨tkN_ok (h nd (by simp)) _, tkNs_ok b r (fun x hx => h x (by simp [hx]))⟩
/-! .. as words. -/
def wV (v : Vr) : List W3 := wd 1 v.name.data.toList :: wd 4 [58] :: wd 2 (kdL v.kind) :: (if v.on.data.toList = [] then [] else wd 2 [119, 104, 101, 110] :: ((if v.not_ = true then [wd 2 [110, 111, 116]] else []) ++ [wd 1 v.on.data.toList]))
def wVr (vs : List Vr) : List W3 := vs.flatMap fun v => wd 4 [59] :: wV v
def wVs : List Vr → List W3
  | [] => []
  | v :: r => wV v ++ wVr r
/-- Locals, each with its semicolon. -/
def wVl (vs : List Vr) : List W3 := vs.flatMap fun v => wV v ++ [wd 4 [59]]
def wLoc (vs : List Vr) : List W3 := match vs with
  | [] => []
  | _ => wd 2 [118, 97, 114] :: wVl vs
def wQ (q : Qe) : List W3 := wd 1 q.name.data.toList :: wd 4 [61] :: (wE q.e ++ [wd 4 [59]])
def wQs (qs : List Qe) : List W3 := qs.flatMap wQ
def wN (nd : Nd) : List W3 := wd 2 [110, 111, 100, 101] :: wd 1 nd.name.data.toList :: wd 4 [40] :: (wVs nd.ins ++ wd 4 [41] :: wd 2 [114, 101, 116, 117, 114, 110, 115] :: wd 4 [40] :: (wVs nd.outs ++ wd 4 [41] :: wd 4 [59] :: (wLoc nd.locs ++ wd 2 [108, 101, 116] :: (wQs nd.eqs ++ [wd 2 [116, 101, 108], wd 4 [59]]))))
def wNs (l : List Nd) : List W3 := l.flatMap wN
theorem tkV_w (v : Vr) (s : Nat) : (tkV v s).map Tk.w = wV v := by
  unfold tkV wV
  split
  · rfl
  · cases v.not_ <;> rfl
theorem tkVs_w : ∀ (vs : List Vr), (tkVs vs).map Tk.w = wVs vs
  | [] => rfl
  | [v] => by show (tkV v 0).map Tk.w = wV v ++ wVr []; rw [tkV_w]; simp [wVr]
  | v :: u :: r => by
    have h2 := tkVs_w (u :: r)
    show (tkV v 0 ++ sgK [59] 1 :: tkVs (u :: r)).map Tk.w = wV v ++ wVr (u :: r)
    rw [List.map_append, List.map_cons, tkV_w, h2]
    rfl
theorem tkQ_w (q : Qe) (s : Nat) : (tkQ q s).map Tk.w = wQ q := by unfold tkQ wQ wE; simp [Tk.w, nmK, sgK]
theorem tkQs_w : ∀ (qs : List Qe), (tkQs qs).map Tk.w = wQs qs
  | [] => rfl
  | [q] => by show (tkQ q 2).map Tk.w = wQ q ++ []; rw [tkQ_w]; simp
  | q :: p :: r => by
    have h2 := tkQs_w (p :: r)
    show (tkQ q 3 ++ tkQs (p :: r)).map Tk.w = wQ q ++ wQs (p :: r)
    rw [List.map_append, tkQ_w, h2]
theorem wVl_eq : ∀ (v : Vr) (r : List Vr), wVs (v :: r) ++ [wd 4 [59]] = wVl (v :: r)
  | v, [] => by simp [wVs, wVr, wVl]
  | v, u :: r => by
    have h := wVl_eq u r
    show (wV v ++ (wd 4 [59] :: wV u ++ wVr r)) ++ [wd 4 [59]] = (wV v ++ [wd 4 [59]]) ++ wVl (u :: r)
    rw [← h]
    simp [wVs]
theorem tkN_w (nd : Nd) : (tkN nd).map Tk.w = wN nd := by
  have hl : (tkLoc nd.locs).map Tk.w = wLoc nd.locs := by
    cases hl : nd.locs with
    | nil => rfl
    | cons v r =>
      show Tk.w (kw [118, 97, 114] 1) :: (tkVs (v :: r) ++ [sgK [59] 2]).map Tk.w = wd 2 [118, 97, 114] :: wVl (v :: r)
      rw [List.map_append, tkVs_w, ← wVl_eq]
      rfl
  unfold tkN wN
  simp only [List.map_cons, List.map_append, tkVs_w, tkQs_w, hl]
  rfl
theorem tkNs_w : ∀ (l : List Nd), (tkNs l).map Tk.w = wNs l
  | [] => rfl
  | nd :: r => by
    show (tkN nd ++ tkNs r).map Tk.w = wN nd ++ wNs r
    rw [List.map_append, tkN_w, tkNs_w r]
end Go.Proofs.YtjlnihennlkmpaaGreatDoor

namespace Go.Proofs.YtjlnihennlkmpaaGreatDoor
open Go Go.RowKit
/-- What a step that reads leaves: the fault 2, or all words of its own taken. -/
def Left (L : List Wd) (S' : St) (R : List W3) (P : Prop) : Prop := S'.er = 2 ∨ (S'.er = 0 ∧ suf L S'.i = R ∧ P)
section
variable {L : List Wd}
/-! Steps behind a fault. -/
theorem declared_stk {st : St} (h : st.er ≠ 0) : (declaredS L st).2.2.er = st.er := by
  have h1 : (declA L st).er = st.er := by
    unfold declA
    split
    · rw [fail_stk 2 h]
    · rfl
  have h2 : (declB L st).er = st.er := h1
  show (nameS L (declB L st)).2.er = _
  rw [name_stk (by rw [h2]; exact h), h2]
theorem declL_stk : ∀ (k : Nat) {st : St}, st.er ≠ 0 → (declL L k st).2.er = st.er
  | 0, st, h => rfl
  | k + 1, st, h => by
    unfold declL
    split
    · have h1 : (declaredS L (nextS L st)).2.2.er = st.er := by rw [declared_stk (by rw [next_er]; exact h), next_er]
      show (declL L k (declaredS L (nextS L st)).2.2).2.er = _
      rw [declL_stk k (by rw [h1]; exact h), h1]
    · rfl
theorem kind_stk {st : St} (h : st.er ≠ 0) : (kindS L st).2.er = st.er := by
  unfold kindS
  split
  · exact next_er
  · split
    · exact next_er
    · show (failS L 7 st).er = _
      rw [fail_stk 7 h]
theorem declS_stk {st : St} (h : st.er ≠ 0) : (declS L st).2.er = st.er := by
  have h1 := declared_stk (L := L) h
  have h2 : (declL L L.length (declaredS L st).2.2).2.er = st.er := by rw [declL_stk _ (by rw [h1]; exact h), h1]
  have h3 : (needS L (bs [58]) (declN L st).2).er = st.er := by
    show (needS L (bs [58]) (declL L L.length (declaredS L st).2.2).2).er = _
    rw [need_stk _ (by rw [h2]; exact h), h2]
  show (kindS L (needS L (bs [58]) (declN L st).2)).2.er = _
  rw [kind_stk (by rw [h3]; exact h), h3]
theorem localS_stk {st : St} (h : st.er ≠ 0) : (localS L st).2.er = st.er := by
  have h1 := declS_stk (L := L) h
  unfold localS
  simp only
  split
  · show (nameS L (takeS L _ (nextS L (declS L st).2)).2).2.er = _
    have h2 : (takeS L (bs [110, 111, 116]) (nextS L (declS L st).2)).2.er = st.er := by rw [take_er, next_er, h1]
    rw [name_stk (by rw [h2]; exact h), h2]
  · exact h1
theorem declsL_stk : ∀ (k : Nat) {st : St}, st.er ≠ 0 → (declsL L k st).2.er = st.er
  | 0, st, h => rfl
  | k + 1, st, h => by
    unfold declsL
    split
    · have h1 : (declS L (nextS L st)).2.er = st.er := by rw [declS_stk (by rw [next_er]; exact h), next_er]
      show (declsL L k (declS L (nextS L st)).2).2.er = _
      rw [declsL_stk k (by rw [h1]; exact h), h1]
    · rfl
theorem declsS_stk {st : St} (h : st.er ≠ 0) : (declsS L st).2.er = st.er := by
  have h1 := need_stk (L := L) (bs [40]) h
  have h2 : (declsB L (needS L (bs [40]) st)).2.er = st.er := by
    unfold declsB
    split
    · exact h1
    · have h3 : (declS L (needS L (bs [40]) st)).2.er = st.er := by rw [declS_stk (by rw [h1]; exact h), h1]
      show (declsL L L.length (declS L (needS L (bs [40]) st)).2).2.er = _
      rw [declsL_stk _ (by rw [h3]; exact h), h3]
  show (needS L (bs [41]) (declsB L (needS L (bs [40]) st)).2).er = _
  rw [need_stk _ (by rw [h2]; exact h), h2]
theorem localsL_stk : ∀ (k : Nat) {st : St}, st.er ≠ 0 → (localsL L k st).2.er = st.er
  | 0, st, h => rfl
  | k + 1, st, h => by
    unfold localsL
    split
    · have h1 : (needS L (bs [59]) (localS L st).2).er = st.er := by
        rw [need_stk _ (by rw [localS_stk h]; exact h), localS_stk h]
      show (localsL L k (needS L (bs [59]) (localS L st).2)).2.er = _
      rw [localsL_stk k (by rw [h1]; exact h), h1]
    · rfl
theorem varS_stk {st : St} (h : st.er ≠ 0) : (varS L st).2.er = st.er := by
  unfold varS
  split
  · have h0 : (nextS L st).er = st.er := next_er
    unfold localsS
    split
    · show (nextS L (nextS L st)).er = _
      rw [next_er, h0]
    · have h1 : (needS L (bs [59]) (localS L (nextS L st)).2).er = st.er := by
        rw [need_stk _ (by rw [localS_stk (by rw [h0]; exact h), h0]; exact h), localS_stk (by rw [h0]; exact h), h0]
      show (localsL L L.length (needS L (bs [59]) (localS L (nextS L st)).2)).2.er = _
      rw [localsL_stk _ (by rw [h1]; exact h), h1]
  · rfl
theorem eqS_stk {st : St} (h : st.er ≠ 0) : (eqS L st).2.er = st.er := by
  have h1 : (nameS L { st with parts := 0 }).2.er = st.er := name_stk (st := { st with parts := 0 }) h
  have h2 : (needS L (bs [61]) (nameS L { st with parts := 0 }).2).er = st.er := by rw [need_stk _ (by rw [h1]; exact h), h1]
  have h3 := (nx_stk L 31).expr.then_ h h2
  show (needS L (bs [59]) (exprS L (needS L (bs [61]) (nameS L { st with parts := 0 }).2)).2).er = _
  have h3 : (exprS L (needS L (bs [61]) (nameS L { st with parts := 0 }).2)).2.er = st.er := h3
  rw [need_stk _ (by rw [h3]; exact h), h3]
theorem eqsL_stk : ∀ (k : Nat) {st : St}, st.er ≠ 0 → (eqsL L k st).2.er = st.er
  | 0, st, h => rfl
  | k + 1, st, h => by
    unfold eqsL
    split
    · have h1 := eqS_stk (L := L) h
      show (eqsL L k (eqS L st).2).2.er = _
      rw [eqsL_stk k (by rw [h1]; exact h), h1]
    · rfl
/-! Reading. -/
theorem declared_reads {S : St} {nm : List UInt8} {R : List W3} (he : S.er = 0) (hs : suf L S.i = wd 1 nm :: R) : (declaredS L S).2.2.er = 2 ∨ ((declaredS L S).2.2.er = 0 ∧ suf L (declaredS L S).2.2.i = R ∧ (declaredS L S).1.data.toList = nm) := by
  by_cases hf : isNameS L S = true ∧ S.names = 64
  · left
    have h1 : (declA L S).er = 2 := by
      unfold declA
      rw [if_pos hf]
      unfold failS
      rw [if_pos he]
    have h2 : (declB L S).er = 2 := h1
    show (nameS L (declB L S)).2.er = 2
    rw [name_stk (by rw [h2]; decide), h2]
  · right
    have h1 : declB L S = { S with names := S.names + 1 } := by unfold declB declA; rw [if_neg hf]
    obtain ⟨n1, n2⟩ := hd_name (S := { S with names := S.names + 1 }) hs rfl
    have e2 : (declaredS L S).2.2 = { S with i := S.i + 1, names := S.names + 1 } := by show (nameS L (declB L S)).2 = _; rw [h1, n2]
    have e1 : (declaredS L S).1.data.toList = nm := by show (nameS L (declB L S)).1.data.toList = _; rw [h1, n1]
    rw [e2]
    exact ⟨he, hd_suf hs, e1⟩
theorem declS_reads {S : St} {v : Vr} {R : List W3} (hv : WfV false v) (he : S.er = 0) (hs : suf L S.i = wd 1 v.name.data.toList :: wd 4 [58] :: wd 2 (kdL v.kind) :: R) : Left L (declS L S).2 R (∃ a, (declS L S).1 = [⟨v.name, v.kind, ⟨#[]⟩, false, a⟩]) := by
  have key : (declS L S).2 = (kindS L (needS L (bs [58]) (declL L L.length (declaredS L S).2.2).2)).2 := rfl
  rcases declared_reads he hs with h1 | ⟨h1, h2, h3⟩
  · left
    have h2 : (declL L L.length (declaredS L S).2.2).2.er = 2 := by rw [declL_stk _ (by rw [h1]; decide), h1]
    have h3 : (needS L (bs [58]) (declL L L.length (declaredS L S).2.2).2).er = 2 := by rw [need_stk _ (by rw [h2]; decide), h2]
    rw [key, kind_stk (by rw [h3]; decide), h3]
  · right
    have hstop : declL L L.length (declaredS L S).2.2 = ([], (declaredS L S).2.2) := declL_stop L _ _ (by rw [hd_is h2]; rfl)
    have e0 : declN L S = ([declaredV L S], (declaredS L S).2.2) := by unfold declN; rw [hstop]
    have e1 : (declS L S).1 = (declN L S).1.map fun v => { v with kind := (kindS L (needS L (bs [58]) (declN L S).2)).1 } := rfl
    rw [hstop] at key
    rw [e0] at e1
    have hd := hd_need h2 (by decide) (bs [58]) rfl
    simp only at key e1
    rw [hd] at key e1
    have hs4 := hd_suf h2
    have hk : kindS L { (declaredS L S).2.2 with i := (declaredS L S).2.2.i + 1 } = (v.kind, { (declaredS L S).2.2 with i := (declaredS L S).2.2.i + 1 + 1 }) := by
      unfold kindS
      have hi : ∀ s : ByteArray, isS L s { (declaredS L S).2.2 with i := (declaredS L S).2.2.i + 1 } = (kdL v.kind == s.data.toList) := fun s => hd_is (S := { (declaredS L S).2.2 with i := (declaredS L S).2.2.i + 1 }) hs4 s
      rw [hi, hi, hd_next (S := { (declaredS L S).2.2 with i := (declaredS L S).2.2.i + 1 }) hs4 (by simp)]
      rcases hv.2.1 with e | e <;> rw [e] <;> rfl
    rw [hk] at key e1
    rw [key]
    refine ⟨h1, hd_suf (S := { (declaredS L S).2.2 with i := (declaredS L S).2.2.i + 1 }) hs4, ⟨(declaredS L S).2.1, ?_⟩⟩
    rw [e1]
    have hn : (declaredS L S).1 = v.name := bytes_inj h3
    show [(⟨(declaredS L S).1, v.kind, ⟨#[]⟩, false, (declaredS L S).2.1⟩ : Vr)] = _
    rw [hn]
theorem sameV_at (v : Vr) (a : Nat) : sameV v { v with at_ := a } = true := by unfold sameV; simp
/-- A row of declarations in brackets, behind the first. -/
theorem declsL_reads : ∀ (vs : List Vr) (k : Nat) (R : List W3), (∀ v ∈ vs, WfV true v) → vs.length ≤ k → (hdW3 R).2.1 = [41] → ∀ S, S.er = 0 → suf L S.i = wVr vs ++ R → Left L (declsL L k S).2 R (pairs sameV vs (declsL L k S).1 = true)
  | [], k, R, _, _, hR, S, he, hs => by
    have h0 : declsL L k S = ([], S) := declsL_stop L k S (by rw [is_hd, hs]; show ((hdW3 R).2.1 == _) = false; rw [hR]; decide)
    rw [h0]
    exact .inr ⟨he, hs, rfl⟩
  | v :: r, 0, R, _, hk, _, S, he, hs => by simp at hk
  | v :: r, k + 1, R, hw, hk, hR, S, he, hs => by
    have hv := hw v (by simp)
    have hon : v.on.data.toList = [] := by
      rcases hv.2.2 with ⟨e, _⟩ | ⟨e, _⟩
      · rw [e]
      · exact absurd e (by decide)
    have hs2 : suf L S.i = wd 4 [59] :: (wd 1 v.name.data.toList :: wd 4 [58] :: wd 2 (kdL v.kind) :: (wVr r ++ R)) := by
      rw [hs]
      show (wd 4 [59] :: wV v ++ wVr r) ++ R = _
      unfold wV
      rw [if_pos hon]
      try simp
    rw [declsL_go L k S (by rw [hd_is hs2]; rfl), hd_next hs2 (by decide)]
    rcases declS_reads (S := { S with i := S.i + 1 }) hv.weak he (hd_suf hs2) with h1 | ⟨h1, h2, a, h3⟩
    · left
      show (declsL L k (declS L { S with i := S.i + 1 }).2).2.er = 2
      rw [declsL_stk k (by rw [h1]; decide), h1]
    · rcases declsL_reads r k R (fun u hu => hw u (by simp [hu])) (by simpa using hk) hR _ h1 h2 with h5 | ⟨h5, h6, h7⟩
      · exact .inl h5
      · refine .inr ⟨h5, h6, ?_⟩
        show pairs sameV (v :: r) ((declS L { S with i := S.i + 1 }).1 ++ _) = true
        rw [h3, List.singleton_append, pairs]
        have e : v = ⟨v.name, v.kind, ⟨#[]⟩, false, v.at_⟩ := by
          rcases hv.2.2 with ⟨e1, e2⟩ | ⟨e, _⟩
          · obtain ⟨n, kd, o, b, at_⟩ := v
            simp only at e1 e2
            subst e1; subst e2
            rfl
          · exact absurd e (by decide)
        rw [h7, Bool.and_true]
        conv => lhs; arg 1; rw [e]
        exact sameV_at ⟨v.name, v.kind, ⟨#[]⟩, false, v.at_⟩ a
theorem wVr_len (r : List Vr) : r.length ≤ (wVr r).length := by
  induction r with
  | nil => simp
  | cons y t ih => simp only [wVr, List.flatMap_cons, List.length_append, List.length_cons] at *; omega
theorem declsS_reads {S : St} {vs : List Vr} {R : List W3} (hw : ∀ v ∈ vs, WfV true v) (he : S.er = 0) (hs : suf L S.i = wd 4 [40] :: (wVs vs ++ wd 4 [41] :: R)) : Left L (declsS L S).2 R (pairs sameV vs (declsS L S).1 = true) := by
  have hd := hd_need hs (by decide) (bs [40]) rfl
  have hs2 := hd_suf hs
  have hB : Left L (declsB L { S with i := S.i + 1 }).2 (wd 4 [41] :: R) (pairs sameV vs (declsB L { S with i := S.i + 1 }).1 = true) := by
    cases vs with
    | nil =>
      have h0 : declsB L { S with i := S.i + 1 } = ([], { S with i := S.i + 1 }) := by
        unfold declsB
        rw [if_pos (by rw [hd_is (S := { S with i := S.i + 1 }) hs2]; rfl)]
      rw [h0]
      exact .inr ⟨he, hs2, rfl⟩
    | cons v r =>
      have hv := hw v (by simp)
      have hon : v.on.data.toList = [] := by
        rcases hv.2.2 with ⟨e, _⟩ | ⟨e, _⟩
        · rw [e]
        · exact absurd e (by decide)
      have hs3 : suf L (S.i + 1) = wd 1 v.name.data.toList :: wd 4 [58] :: wd 2 (kdL v.kind) :: (wVr r ++ wd 4 [41] :: R) := by
        rw [hs2]
        show (wV v ++ wVr r) ++ wd 4 [41] :: R = _
        unfold wV
        rw [if_pos hon]
        try simp
      have hl := suf_len L (S.i + 1)
      rw [hs3] at hl
      have hl2 := wVr_len r
      have h0 : declsB L { S with i := S.i + 1 } = ((declS L { S with i := S.i + 1 }).1 ++ (declsL L L.length (declS L { S with i := S.i + 1 }).2).1, (declsL L L.length (declS L { S with i := S.i + 1 }).2).2) := by
        unfold declsB
        rw [if_neg (by rw [hd_is (S := { S with i := S.i + 1 }) hs3]; show ¬ (v.name.data.toList == [41]) = true; rw [nm_ne hv.1 _ (by decide)]; decide)]
      rw [h0]
      rcases declS_reads (S := { S with i := S.i + 1 }) hv.weak he hs3 with h1 | ⟨h1, h2, a, h3⟩
      · left
        show (declsL L L.length (declS L { S with i := S.i + 1 }).2).2.er = 2
        rw [declsL_stk _ (by rw [h1]; decide), h1]
      · rcases declsL_reads r L.length (wd 4 [41] :: R) (fun u hu => hw u (by simp [hu])) (by simp at hl; omega) rfl _ h1 h2 with h5 | ⟨h5, h6, h7⟩
        · exact .inl h5
        · refine .inr ⟨h5, h6, ?_⟩
          show pairs sameV (v :: r) ((declS L { S with i := S.i + 1 }).1 ++ _) = true
          rw [h3, List.singleton_append, pairs]
          have e : v = ⟨v.name, v.kind, ⟨#[]⟩, false, v.at_⟩ := by
            rcases hv.2.2 with ⟨e1, e2⟩ | ⟨e, _⟩
            · obtain ⟨n, kd, o, b, at_⟩ := v
              simp only at e1 e2
              subst e1; subst e2
              rfl
            · exact absurd e (by decide)
          rw [h7, Bool.and_true]
          conv => lhs; arg 1; rw [e]
          exact sameV_at ⟨v.name, v.kind, ⟨#[]⟩, false, v.at_⟩ a
  have key : declsS L S = ((declsB L { S with i := S.i + 1 }).1, needS L (bs [41]) (declsB L { S with i := S.i + 1 }).2) := by unfold declsS; rw [hd]
  rw [key]
  rcases hB with h1 | ⟨h1, h2, h3⟩
  · left
    show (needS L _ (declsB L { S with i := S.i + 1 }).2).er = 2
    rw [need_stk _ (by rw [h1]; decide), h1]
  · right
    simp only
    rw [hd_need h2 (by decide) _ rfl]
    exact ⟨h1, hd_suf h2, h3⟩
theorem localS_reads {S : St} {v : Vr} {R : List W3} (hv : WfV false v) (he : S.er = 0) (hs : suf L S.i = wV v ++ wd 4 [59] :: R) : Left L (localS L S).2 (wd 4 [59] :: R) (∃ u, (localS L S).1 = [u] ∧ sameV v u = true) := by
  by_cases hon : v.on.data.toList = []
  · have hs3 : suf L S.i = wd 1 v.name.data.toList :: wd 4 [58] :: wd 2 (kdL v.kind) :: (wd 4 [59] :: R) := by
      rw [hs]
      unfold wV
      rw [if_pos hon]
      simp
    have e : v = ⟨v.name, v.kind, ⟨#[]⟩, false, v.at_⟩ := by
      rcases hv.2.2 with ⟨e1, e2⟩ | ⟨_, e⟩
      · obtain ⟨n, kd, o, b, at_⟩ := v
        simp only at e1 e2
        subst e1; subst e2
        rfl
      · exact absurd hon e.ne
    unfold localS
    simp only
    rcases declS_reads hv he hs3 with h1 | ⟨h1, h2, a, h3⟩
    · left
      split
      · have h2 : (takeS L (bs [110, 111, 116]) (nextS L (declS L S).2)).2.er = 2 := by rw [take_er, next_er, h1]
        show (nameS L _).2.er = 2
        rw [name_stk (by rw [h2]; decide), h2]
      · exact h1
    · right
      rw [if_neg (by rw [hd_is h2]; decide)]
      refine ⟨h1, h2, _, h3, ?_⟩
      conv => lhs; arg 1; rw [e]
      exact sameV_at ⟨v.name, v.kind, ⟨#[]⟩, false, v.at_⟩ a
  · have hnb : NmB v.on := by
      rcases hv.2.2 with ⟨e, _⟩ | ⟨_, e⟩
      · rw [e] at hon; exact absurd rfl hon
      · exact e
    obtain ⟨T, hT⟩ : ∃ T : List W3, T = (if v.not_ = true then [wd 2 [110, 111, 116]] else []) ++ wd 1 v.on.data.toList :: (wd 4 [59] :: R) := ⟨_, rfl⟩
    have hs3 : suf L S.i = wd 1 v.name.data.toList :: wd 4 [58] :: wd 2 (kdL v.kind) :: (wd 2 [119, 104, 101, 110] :: T) := by
      rw [hs, hT]
      unfold wV
      rw [if_neg hon]
      simp
    unfold localS
    simp only
    rcases declS_reads hv he hs3 with h1 | ⟨h1, h2, a, h3⟩
    · left
      split
      · have h2 : (takeS L (bs [110, 111, 116]) (nextS L (declS L S).2)).2.er = 2 := by rw [take_er, next_er, h1]
        show (nameS L _).2.er = 2
        rw [name_stk (by rw [h2]; decide), h2]
      · exact h1
    · right
      rw [if_pos (by rw [hd_is h2]; rfl), hd_next h2 (by decide), h3]
      have hs4 := hd_suf h2
      generalize (declS L S).2 = D at h1 h2 hs4 ⊢
      have fin : ∀ (b : Bool) (S2 : St), takeS L (bs [110, 111, 116]) { D with i := D.i + 1 } = (b, S2) → S2.er = 0 → suf L S2.i = wd 1 v.on.data.toList :: (wd 4 [59] :: R) → b = v.not_ → (nameS L (takeS L (bs [110, 111, 116]) { D with i := D.i + 1 }).2).2.er = 0 ∧ suf L (nameS L (takeS L (bs [110, 111, 116]) { D with i := D.i + 1 }).2).2.i = wd 4 [59] :: R ∧ ∃ u, ([⟨v.name, v.kind, ⟨#[]⟩, false, a⟩] : List Vr).map (fun w => { w with on := (nameS L (takeS L (bs [110, 111, 116]) { D with i := D.i + 1 }).2).1, not_ := (takeS L (bs [110, 111, 116]) { D with i := D.i + 1 }).1 }) = [u] ∧ sameV v u = true := by
        intro b S2 e1 e2 e3 e4
        obtain ⟨n1, n2⟩ := hd_name e3 rfl
        rw [e1]
        simp only
        rw [n2, bytes_inj n1]
        refine ⟨e2, hd_suf e3, _, rfl, ?_⟩
        subst e4
        exact sameV_at v a
      cases hnt : v.not_ with
      | true =>
        rw [hnt, if_pos rfl] at hT
        rw [hT] at hs4
        exact fin true { D with i := D.i + 1 + 1 } (hd_take (S := { D with i := D.i + 1 }) hs4 (by decide) _ rfl) h1 (hd_suf (S := { D with i := D.i + 1 }) hs4) hnt.symm
      | false =>
        rw [hnt, if_neg (by decide)] at hT
        rw [hT] at hs4
        exact fin false { D with i := D.i + 1 } (hd_take0 (S := { D with i := D.i + 1 }) hs4 _ (nm_ne hnb [110, 111, 116] (by decide))) h1 hs4 hnt.symm
theorem isName_hd (S : St) : isNameS L S = (((hdW3 (suf L S.i)).1 : Int) == 1) := by
  have e : (cur L S).kind = (hdW3 (suf L S.i)).1 := congrArg Prod.fst (cur_hd L S)
  unfold isNameS; rw [e]
theorem localsL_reads : ∀ (vs : List Vr) (k : Nat) (R : List W3), (∀ v ∈ vs, WfV false v) → vs.length ≤ k → (hdW3 R).1 = 2 → ∀ S, S.er = 0 → suf L S.i = wVl vs ++ R → Left L (localsL L k S).2 R (pairs sameV vs (localsL L k S).1 = true)
  | [], k, R, _, _, hR, S, he, hs => by
    have h0 : localsL L k S = ([], S) := localsL_stop L k S (by rw [isName_hd, hs]; show (((hdW3 R).1 : Int) == 1) = false; rw [hR]; decide)
    rw [h0]
    exact .inr ⟨he, hs, rfl⟩
  | v :: r, 0, R, _, hk, _, S, he, hs => by simp at hk
  | v :: r, k + 1, R, hw, hk, hR, S, he, hs => by
    have hv := hw v (by simp)
    have hs2 : suf L S.i = wV v ++ wd 4 [59] :: (wVl r ++ R) := by rw [hs]; simp [wVl]
    rw [localsL_go L k S (by rw [isName_hd, hs2]; rfl)]
    rcases localS_reads hv he hs2 with h1 | ⟨h1, h2, u, h3, h4⟩
    · left
      have h3 : (needS L (bs [59]) (localS L S).2).er = 2 := by rw [need_stk _ (by rw [h1]; decide), h1]
      show (localsL L k (needS L (bs [59]) (localS L S).2)).2.er = 2
      rw [localsL_stk k (by rw [h3]; decide), h3]
    · rw [hd_need h2 (by decide) _ rfl]
      rcases localsL_reads r k R (fun u hu => hw u (by simp [hu])) (by simpa using hk) hR { (localS L S).2 with i := (localS L S).2.i + 1 } h1 (hd_suf h2) with h5 | ⟨h5, h6, h7⟩
      · exact .inl h5
      · refine .inr ⟨h5, h6, ?_⟩
        show pairs sameV (v :: r) ((localS L S).1 ++ _) = true
        rw [h3, List.singleton_append, pairs]
        rw [h4, h7]
        rfl
theorem wVl_len (r : List Vr) : r.length ≤ (wVl r).length := by
  induction r with
  | nil => simp
  | cons y t ih => simp only [wVl, List.flatMap_cons, List.length_append, List.length_cons] at *; omega
theorem varS_reads {S : St} {vs : List Vr} {R : List W3} (hw : ∀ v ∈ vs, WfV false v) (he : S.er = 0) (hs : suf L S.i = wLoc vs ++ wd 2 [108, 101, 116] :: R) : Left L (varS L S).2 (wd 2 [108, 101, 116] :: R) (pairs sameV vs (varS L S).1 = true) := by
  cases vs with
  | nil =>
    have h0 : varS L S = ([], S) := by unfold varS; rw [if_neg (by rw [hd_is hs]; decide)]
    rw [h0]
    exact .inr ⟨he, hs, rfl⟩
  | cons v r =>
    have hv := hw v (by simp)
    have hs1 : suf L S.i = wd 2 [118, 97, 114] :: (wV v ++ wd 4 [59] :: (wVl r ++ wd 2 [108, 101, 116] :: R)) := by rw [hs]; simp [wLoc, wVl]
    have hs2 := hd_suf hs1
    have hl := suf_len L (S.i + 1)
    rw [hs2] at hl
    have hl2 := wVl_len r
    have h0 : varS L S = ((localS L { S with i := S.i + 1 }).1 ++ (localsL L L.length (needS L (bs [59]) (localS L { S with i := S.i + 1 }).2)).1, (localsL L L.length (needS L (bs [59]) (localS L { S with i := S.i + 1 }).2)).2) := by
      unfold varS
      rw [if_pos (by rw [hd_is hs1]; rfl), hd_next hs1 (by decide)]
      unfold localsS
      rw [if_neg (by rw [hd_is (S := { S with i := S.i + 1 }) hs2]; show ¬ (v.name.data.toList == [59]) = true; rw [nm_ne hv.1 _ (by decide)]; decide)]
    rw [h0]
    rcases localS_reads (S := { S with i := S.i + 1 }) hv he hs2 with h1 | ⟨h1, h2, u, h3, h4⟩
    · left
      have h3 : (needS L (bs [59]) (localS L { S with i := S.i + 1 }).2).er = 2 := by rw [need_stk _ (by rw [h1]; decide), h1]
      show (localsL L L.length (needS L (bs [59]) (localS L { S with i := S.i + 1 }).2)).2.er = 2
      rw [localsL_stk _ (by rw [h3]; decide), h3]
    · rw [hd_need h2 (by decide) _ rfl]
      rcases localsL_reads r L.length (wd 2 [108, 101, 116] :: R) (fun u hu => hw u (by simp [hu])) (by simp at hl; omega) rfl { (localS L { S with i := S.i + 1 }).2 with i := (localS L { S with i := S.i + 1 }).2.i + 1 } h1 (hd_suf h2) with h5 | ⟨h5, h6, h7⟩
      · exact .inl h5
      · refine .inr ⟨h5, h6, ?_⟩
        show pairs sameV (v :: r) ((localS L { S with i := S.i + 1 }).1 ++ _) = true
        rw [h3, List.singleton_append, pairs]
        rw [h4, h7]
        rfl
theorem eqS_reads {S : St} {q : Qe} {R : List W3} (hw : Wf q.e) (he : S.er = 0) (hs : suf L S.i = wQ q ++ R) : Left L (eqS L S).2 R (sameQ q (eqS L S).1 = true) := by
  have hs1 : suf L ({ S with parts := 0 } : St).i = wd 1 q.name.data.toList :: (wd 4 [61] :: (wE q.e ++ wd 4 [59] :: R)) := by show suf L S.i = _; rw [hs]; simp [wQ]
  obtain ⟨n1, n2⟩ := hd_name hs1 rfl
  have hs2 := hd_suf hs1
  have hd := hd_need (S := { S with i := S.i + 1, parts := 0 }) hs2 (by decide) (bs [61]) rfl
  have key : eqS L S = (⟨q.name, (exprS L { S with i := S.i + 1 + 1, parts := 0 }).1, (cur L S).at_⟩, needS L (bs [59]) (exprS L { S with i := S.i + 1 + 1, parts := 0 }).2) := by
    unfold eqS
    simp only
    rw [n2, bytes_inj n1, hd]
  rw [key]
  rcases expr_reads hw (R := wd 4 [59] :: R) (show 8 < lvl [59] by decide) { S with i := S.i + 1 + 1, parts := 0 } he (hd_suf (S := { S with i := S.i + 1, parts := 0 }) hs2) with h1 | ⟨h1, h2, h3, h4⟩
  · left
    show (needS L _ (exprS L { S with i := S.i + 1 + 1, parts := 0 }).2).er = 2
    rw [need_stk _ (by rw [h1]; decide), h1]
  · right
    simp only
    rw [hd_need h2 (by decide) _ rfl]
    refine ⟨h1, hd_suf h2, ?_⟩
    unfold sameQ
    rw [h4]
    simp
theorem eqsL_reads : ∀ (qs : List Qe) (k : Nat) (R : List W3), (∀ q ∈ qs, NmB q.name ∧ Wf q.e) → qs.length ≤ k → (hdW3 R).1 = 2 → ∀ S, S.er = 0 → suf L S.i = wQs qs ++ R → Left L (eqsL L k S).2 R (pairs sameQ qs (eqsL L k S).1 = true)
  | [], k, R, _, _, hR, S, he, hs => by
    have h0 : eqsL L k S = ([], S) := eqsL_stop L k S (by rw [isName_hd, hs]; show (((hdW3 R).1 : Int) == 1) = false; rw [hR]; decide)
    rw [h0]
    exact .inr ⟨he, hs, rfl⟩
  | q :: r, 0, R, _, hk, _, S, he, hs => by simp at hk
  | q :: r, k + 1, R, hw, hk, hR, S, he, hs => by
    obtain ⟨_, hq⟩ := hw q (by simp)
    have hs2 : suf L S.i = wQ q ++ (wQs r ++ R) := by rw [hs]; simp [wQs]
    rw [eqsL_go L k S (by rw [isName_hd, hs2]; rfl)]
    rcases eqS_reads hq he hs2 with h1 | ⟨h1, h2, h3⟩
    · left
      show (eqsL L k (eqS L S).2).2.er = 2
      rw [eqsL_stk k (by rw [h1]; decide), h1]
    · rcases eqsL_reads r k R (fun u hu => hw u (by simp [hu])) (by simpa using hk) hR _ h1 h2 with h5 | ⟨h5, h6, h7⟩
      · exact .inl h5
      · refine .inr ⟨h5, h6, ?_⟩
        show (sameQ q _ && pairs sameQ r _) = true
        rw [h3, h7]
        rfl
theorem wQs_len (r : List Qe) : r.length ≤ (wQs r).length := by
  induction r with
  | nil => simp
  | cons y t ih => simp only [wQs, wQ, List.flatMap_cons, List.length_append, List.length_cons] at *; omega
/-- The steps of a node, each by itself. -/
theorem node_steps (S : St) : nodeS L S = (let n := nameS L (needS L (bs [110, 111, 100, 101]) (zeroN S)); let i := declsS L n.2; let o := declsS L (needS L (bs [114, 101, 116, 117, 114, 110, 115]) i.2); let v := varS L (needS L (bs [59]) o.2); let q := eqsL L L.length (needS L (bs [108, 101, 116]) v.2); (⟨n.1, i.1, o.1, v.1, q.1, (cur L S).at_⟩, (takeS L (bs [59]) (needS L (bs [116, 101, 108]) q.2)).2)) := rfl
theorem tailQ_stk {A : St} {e : Nat} (he : e ≠ 0) (h : A.er = e) : (takeS L (bs [59]) (needS L (bs [116, 101, 108]) A)).2.er = e := by rw [take_er, need_stk _ (by rw [h]; exact he), h]
theorem tailV_stk {A : St} {e : Nat} (he : e ≠ 0) (h : A.er = e) : (takeS L (bs [59]) (needS L (bs [116, 101, 108]) (eqsL L L.length (needS L (bs [108, 101, 116]) A)).2)).2.er = e := by
  have h1 : (needS L (bs [108, 101, 116]) A).er = e := by rw [need_stk _ (by rw [h]; exact he), h]
  exact tailQ_stk he (by rw [eqsL_stk _ (by rw [h1]; exact he), h1])
theorem tailO_stk {A : St} {e : Nat} (he : e ≠ 0) (h : A.er = e) : (takeS L (bs [59]) (needS L (bs [116, 101, 108]) (eqsL L L.length (needS L (bs [108, 101, 116]) (varS L (needS L (bs [59]) A)).2)).2)).2.er = e := by
  have h1 : (needS L (bs [59]) A).er = e := by rw [need_stk _ (by rw [h]; exact he), h]
  exact tailV_stk he (by rw [varS_stk (by rw [h1]; exact he), h1])
theorem tailI_stk {A : St} {e : Nat} (he : e ≠ 0) (h : A.er = e) : (takeS L (bs [59]) (needS L (bs [116, 101, 108]) (eqsL L L.length (needS L (bs [108, 101, 116]) (varS L (needS L (bs [59]) (declsS L (needS L (bs [114, 101, 116, 117, 114, 110, 115]) A)).2)).2)).2)).2.er = e := by
  have h1 : (needS L (bs [114, 101, 116, 117, 114, 110, 115]) A).er = e := by rw [need_stk _ (by rw [h]; exact he), h]
  exact tailO_stk he (by rw [declsS_stk (by rw [h1]; exact he), h1])
theorem nodeS_stk {S : St} (h : S.er ≠ 0) : (nodeS L S).2.er = S.er := by
  have h1 : (needS L (bs [110, 111, 100, 101]) (zeroN S)).er = S.er := need_stk (st := zeroN S) _ h
  have h2 : (nameS L (needS L (bs [110, 111, 100, 101]) (zeroN S))).2.er = S.er := by rw [name_stk (by rw [h1]; exact h), h1]
  rw [node_steps]
  exact tailI_stk h (by rw [declsS_stk (by rw [h2]; exact h), h2])
theorem nodeS_reads {S : St} {nd : Nd} {R : List W3} (hw : WfN nd) (he : S.er = 0) (hs : suf L S.i = wN nd ++ R) : Left L (nodeS L S).2 R (sameN nd (nodeS L S).1 = true) := by
  have hs1 : suf L (zeroN S).i = wd 2 [110, 111, 100, 101] :: wd 1 nd.name.data.toList :: wd 4 [40] :: (wVs nd.ins ++ wd 4 [41] :: wd 2 [114, 101, 116, 117, 114, 110, 115] :: wd 4 [40] :: (wVs nd.outs ++ wd 4 [41] :: wd 4 [59] :: (wLoc nd.locs ++ wd 2 [108, 101, 116] :: (wQs nd.eqs ++ wd 2 [116, 101, 108] :: wd 4 [59] :: R)))) := by
    show suf L S.i = _
    rw [hs]
    unfold wN
    simp
  have e1 := hd_need hs1 (by decide) (bs [110, 111, 100, 101]) rfl
  obtain ⟨A, hA⟩ : ∃ A : St, A = { zeroN S with i := (zeroN S).i + 1 } := ⟨_, rfl⟩
  have hs2 := hd_suf hs1
  have hs2 := (show suf L A.i = suf L ((zeroN S).i + 1) by rw [hA]).trans hs2
  have heA : A.er = 0 := by rw [hA]; exact he
  obtain ⟨n1, n2⟩ := hd_name hs2 rfl
  obtain ⟨B, hB⟩ : ∃ B : St, B = { A with i := A.i + 1 } := ⟨_, rfl⟩
  have hs3 := (show suf L B.i = suf L (A.i + 1) by rw [hB]).trans (hd_suf hs2)
  have heB : B.er = 0 := by rw [hB]; exact heA
  rw [node_steps, e1, ← hA]
  simp only
  rw [n2, bytes_inj n1, ← hB]
  rcases declsS_reads hw.ins heB hs3 with h1 | ⟨h1, h2, h3⟩
  · exact .inl (tailI_stk (by decide) h1)
  obtain ⟨C, hC⟩ : ∃ C, C = declsS L B := ⟨_, rfl⟩
  rw [← hC] at h1 h2 h3 ⊢
  rw [hd_need h2 (by decide) (bs [114, 101, 116, 117, 114, 110, 115]) rfl]
  obtain ⟨D, hD⟩ : ∃ D : St, D = { C.2 with i := C.2.i + 1 } := ⟨_, rfl⟩
  have hs4 := (show suf L D.i = suf L (C.2.i + 1) by rw [hD]).trans (hd_suf h2)
  have heD : D.er = 0 := by rw [hD]; exact h1
  rw [← hD]
  rcases declsS_reads hw.outs heD hs4 with o1 | ⟨o1, o2, o3⟩
  · exact .inl (tailO_stk (by decide) o1)
  obtain ⟨E, hE⟩ : ∃ E, E = declsS L D := ⟨_, rfl⟩
  rw [← hE] at o1 o2 o3 ⊢
  rw [hd_need o2 (by decide) (bs [59]) rfl]
  obtain ⟨F, hF⟩ : ∃ F : St, F = { E.2 with i := E.2.i + 1 } := ⟨_, rfl⟩
  have hs5 := (show suf L F.i = suf L (E.2.i + 1) by rw [hF]).trans (hd_suf o2)
  have heF : F.er = 0 := by rw [hF]; exact o1
  rw [← hF]
  rcases varS_reads hw.locs heF hs5 with v1 | ⟨v1, v2, v3⟩
  · exact .inl (tailV_stk (by decide) v1)
  obtain ⟨G, hG⟩ : ∃ G, G = varS L F := ⟨_, rfl⟩
  rw [← hG] at v1 v2 v3 ⊢
  rw [hd_need v2 (by decide) (bs [108, 101, 116]) rfl]
  obtain ⟨H, hH⟩ : ∃ H : St, H = { G.2 with i := G.2.i + 1 } := ⟨_, rfl⟩
  have hs6 := (show suf L H.i = suf L (G.2.i + 1) by rw [hH]).trans (hd_suf v2)
  have heH : H.er = 0 := by rw [hH]; exact v1
  rw [← hH]
  have hl := suf_len L H.i
  rw [hs6, List.length_append] at hl
  have hl2 := wQs_len nd.eqs
  rcases eqsL_reads nd.eqs L.length _ hw.eqs (by omega) rfl H heH hs6 with q1 | ⟨q1, q2, q3⟩
  · exact .inl (tailQ_stk (by decide) q1)
  obtain ⟨J, hJ⟩ : ∃ J, J = eqsL L L.length H := ⟨_, rfl⟩
  rw [← hJ] at q1 q2 q3 ⊢
  rw [hd_need q2 (by decide) (bs [116, 101, 108]) rfl]
  have hs7 := hd_suf q2
  rw [hd_take (S := { J.2 with i := J.2.i + 1 }) hs7 (by decide) (bs [59]) rfl]
  refine .inr ⟨q1, hd_suf (S := { J.2 with i := J.2.i + 1 }) hs7, ?_⟩
  unfold sameN
  rw [sameVs_eq, sameVs_eq, sameVs_eq, sameQs_eq, h3, o3, v3, q3]
  simp
theorem programL_stk : ∀ (k n : Nat) {st : St}, st.er ≠ 0 → (programL L k n st).2.er = st.er
  | 0, n, st, h => rfl
  | k + 1, n, st, h => by
    unfold programL
    split
    · have h0 : (limS L n st).er = st.er := by
        unfold limS
        split
        · rw [fail_stk 2 h]
        · rfl
      have h1 : (nodeS L (limS L n st)).2.er = st.er := by rw [nodeS_stk (by rw [h0]; exact h), h0]
      show (programL L k (n + 1) (nodeS L (limS L n st)).2).2.er = _
      rw [programL_stk k _ (by rw [h1]; exact h), h1]
    · rfl
theorem wN_head (nd : Nd) (R : List W3) : ∃ r, wN nd ++ R = wd 2 [110, 111, 100, 101] :: r := ⟨_, rfl⟩
theorem programL_reads : ∀ (l : List Nd) (k n : Nat), (∀ nd ∈ l, WfN nd) → l.length ≤ k → ∀ S, S.er = 0 → suf L S.i = wNs l ++ [(0, [], 0)] → Left L (programL L k n S).2 [(0, [], 0)] (pairs sameN l (programL L k n S).1 = true)
  | [], k, n, _, _, S, he, hs => by
    have h0 : programL L k n S = ([], S) := programL_stop L k n S (hd_kind hs)
    rw [h0]
    exact .inr ⟨he, hs, rfl⟩
  | nd :: r, 0, n, _, hk, S, he, hs => by simp at hk
  | nd :: r, k + 1, n, hw, hk, S, he, hs => by
    have hs1 : suf L S.i = wN nd ++ (wNs r ++ [(0, [], 0)]) := by rw [hs]; simp [wNs]
    obtain ⟨t, ht⟩ := wN_head nd (wNs r ++ [(0, [], 0)])
    have hs2 : suf L S.i = wd 2 [110, 111, 100, 101] :: t := by rw [hs1, ht]
    rw [programL_go L k n S (by rw [hd_kind hs2]; exact Nat.succ_ne_zero _)]
    by_cases hlim : isS L (bs [110, 111, 100, 101]) S = true ∧ n = 32
    · left
      have h0 : (limS L n S).er = 2 := by
        unfold limS
        rw [if_pos hlim]
        unfold failS
        rw [if_pos he]
      have h1 : (nodeS L (limS L n S)).2.er = 2 := by rw [nodeS_stk (by rw [h0]; decide), h0]
      show (programL L k (n + 1) (nodeS L (limS L n S)).2).2.er = 2
      rw [programL_stk _ _ (by rw [h1]; decide), h1]
    · have h0 : limS L n S = S := by unfold limS; rw [if_neg hlim]
      rw [h0]
      rcases nodeS_reads (hw nd (by simp)) he hs1 with h1 | ⟨h1, h2, h3⟩
      · left
        show (programL L k (n + 1) (nodeS L S).2).2.er = 2
        rw [programL_stk _ _ (by rw [h1]; decide), h1]
      · rcases programL_reads r k (n + 1) (fun x hx => hw x (by simp [hx])) (by simpa using hk) _ h1 h2 with h5 | ⟨h5, h6, h7⟩
        · exact .inl h5
        · refine .inr ⟨h5, h6, ?_⟩
          show (sameN nd _ && pairs sameN r _) = true
          rw [h3, h7]
          rfl
theorem wNs_len (r : List Nd) : r.length ≤ (wNs r).length := by
  induction r with
  | nil => simp
  | cons y t ih => simp only [wNs, wN, List.flatMap_cons, List.length_append, List.length_cons] at *; omega
end
/-! Alike but for places: written alike. -/
theorem toList_inj {a b : ByteArray} (h : (a.toList == b.toList) = true) : a = b := by
  have h := eq_of_beq h
  rw [Lib.toList_data, Lib.toList_data] at h
  exact bytes_inj h
mutual
theorem same_text : ∀ (a b : Ex), sameE a b = true → textE a = textE b ∧ ∀ t, primOf a t = primOf b t
  | .mk o m n p ks, .mk o' m' n' p' ks', h => by
    rw [sameE] at h
    simp only [Bool.and_eq_true] at h
    obtain ⟨⟨⟨h1, h2⟩, h3⟩, h4⟩ := h
    obtain rfl := toList_inj h1
    obtain rfl := toList_inj h2
    obtain rfl : n = n' := eq_of_beq h3
    exact ⟨by rw [textE, textE, same_texts ks ks' h4], fun t => rfl⟩
theorem same_texts : ∀ (a b : List Ex), sameL a b = true → textL a = textL b
  | [], [], _ => rfl
  | [], _ :: _, h => by simp [sameL] at h
  | _ :: _, [], h => by simp [sameL] at h
  | x :: r, y :: s, h => by
    rw [sameL, Bool.and_eq_true] at h
    obtain ⟨e1, e2⟩ := same_text x y h.1
    rw [textL, textL, e1, e2, same_texts r s h.2]
end
theorem pairs_map {α β : Type} (f : α → α → Bool) (g : α → β) (h : ∀ a b, f a b = true → g a = g b) : ∀ (l m : List α), pairs f l m = true → l.map g = m.map g
  | [], [], _ => rfl
  | [], _ :: _, h' => by simp [pairs] at h'
  | _ :: _, [], h' => by simp [pairs] at h'
  | a :: r, b :: s, h' => by
    rw [pairs, Bool.and_eq_true] at h'
    rw [List.map_cons, List.map_cons, h a b h'.1, pairs_map f g h r s h'.2]
theorem same_var {v u : Vr} (h : sameV v u = true) : varT v = varT u := by
  unfold sameV at h
  simp only [Bool.and_eq_true] at h
  obtain ⟨⟨⟨h1, h2⟩, h3⟩, h4⟩ := h
  have e1 := toList_inj h1
  have e2 : (v.kind : Int) = (u.kind : Int) := eq_of_beq h2
  have e3 := toList_inj h3
  have e4 : v.not_ = u.not_ := eq_of_beq h4
  unfold varT onT
  rw [e1, e2, e3, e4]
theorem same_eq {q p : Qe} (h : sameQ q p = true) : eqT q = eqT p := by
  unfold sameQ at h
  rw [Bool.and_eq_true] at h
  unfold eqT
  rw [toList_inj h.1, (same_text _ _ h.2).1]
theorem same_node {n m : Nd} (h : sameN n m = true) : nodeT n = nodeT m := by
  unfold sameN at h
  rw [sameVs_eq, sameVs_eq, sameVs_eq, sameQs_eq] at h
  simp only [Bool.and_eq_true] at h
  obtain ⟨h1, h2, h3, h4, h5⟩ := h
  have e2 := pairs_map sameV varT (fun a b => same_var) _ _ h2
  have e3 := pairs_map sameV varT (fun a b => same_var) _ _ h3
  have e4 := pairs_map sameV varT (fun a b => same_var) _ _ h4
  have e5 := pairs_map sameQ eqT (fun a b => same_eq) _ _ h5
  have e6 : n.locs.length = m.locs.length := by have := congrArg List.length e4; simpa using this
  unfold nodeT locsT varsT eqsT
  rw [toList_inj h1, e2, e3, e4, e6, List.flatMap_def, List.flatMap_def, e5]
theorem same_show {l m : List Nd} (h : sameP l m = true) : showT l = showT m := by
  rw [sameP_eq] at h
  have e := pairs_map sameN nodeT (fun a b => same_node) _ _ h
  unfold showT
  rw [List.flatMap_def, List.flatMap_def, e]
/-- WHAT WAS READ, WRITTEN OUT AND READ AGAIN, is the same, or tells a limit. -/
theorem back_facts {l : List Nd} (a : Nd) (r : List Nd) (hl : l = a :: r) (ha : WfN a) (hr : ∀ nd ∈ r, WfN nd) : (∃ ea, parseS ⟨(showT l).toArray⟩ = .error (2, ea)) ∨ ∃ m, parseS ⟨(showT l).toArray⟩ = .ok m ∧ sameP l m = true ∧ showT m = showT l := by
  have hw : ∀ nd ∈ l, WfN nd := fun nd h => by
    rw [hl] at h
    rcases List.mem_cons.1 h with rfl | h
    · exact ha
    · exact hr nd h
  obtain ⟨T, hT⟩ : ∃ T : ByteArray, T = ⟨(showT l).toArray⟩ := ⟨_, rfl⟩
  have hTL : T.data.toList = showT l := by rw [hT]
  rw [← hT]
  by_cases hlen : 16384 < (showT l).length
  · left
    refine ⟨(showT l).length, ?_⟩
    unfold parseS cutAll
    rw [hTL, if_pos hlen]
  · have hok := tkNs_ok 0 l hw
    have hlex := lexT (tkNs l) hok
    rw [tkNs_text l hw, tkNs_w, ← hTL] at hlex
    have hg : gapL T.data.toList = 0 := by rw [hTL, ← tkNs_text l hw]; exact gap0 hok
    obtain ⟨d, hd, hm⟩ := wordsN_of_lex T _ hlex hg (by rw [hTL]; omega)
    have hs : suf (wordsL T d) st0.i = wN a ++ (wNs r ++ [(0, [], 0)]) := by
      show ((wordsL T d).map w3W).drop 0 = _
      rw [List.drop_zero]
      show (wordsL T d).map (fun w => (w.kind, w.text.data.toList, w.n)) = _
      rw [hm, hl]
      simp [wNs]
    have hpl : (programS (wordsL T d) st0) = ((nodeS (wordsL T d) st0).1 :: (programL (wordsL T d) (wordsL T d).length 1 (nodeS (wordsL T d) st0).2).1, (programL (wordsL T d) (wordsL T d).length 1 (nodeS (wordsL T d) st0).2).2) := rfl
    have hres : (programS (wordsL T d) st0).2.er = 2 ∨ ((programS (wordsL T d) st0).2.er = 0 ∧ sameP l (programS (wordsL T d) st0).1 = true) := by
      rw [hpl]
      rcases nodeS_reads ha rfl hs with h1 | ⟨h1, h2, h3⟩
      · left
        show (programL (wordsL T d) (wordsL T d).length 1 (nodeS (wordsL T d) st0).2).2.er = 2
        rw [programL_stk _ _ (by rw [h1]; decide), h1]
      · have hl3 := suf_len (wordsL T d) (nodeS (wordsL T d) st0).2.i
        rw [h2, List.length_append] at hl3
        have hl4 := wNs_len r
        rcases programL_reads r (wordsL T d).length 1 hr (by omega) _ h1 h2 with h5 | ⟨h5, h6, h7⟩
        · exact .inl h5
        · refine .inr ⟨h5, ?_⟩
          rw [sameP_eq, hl]
          show (sameN a _ && pairs sameN r _) = true
          rw [h3, h7]
          rfl
    unfold parseS
    rw [hd]
    simp only
    rcases hres with h | ⟨h1, h2⟩
    · left
      rw [if_neg (by rw [h]; decide), h]
      exact ⟨_, rfl⟩
    · right
      rw [if_pos h1]
      exact ⟨_, rfl, h2, (same_show h2).symm⟩
end Go.Proofs.YtjlnihennlkmpaaGreatDoor

namespace Go.Proofs.YtjlnihennlkmpaaGreatDoor
open Go Go.RowKit
mutual
/-- How many rows of the table a tree has. -/
def szE : Ex → Nat
  | .mk _ _ _ _ ks => 1 + szL ks
def szL : List Ex → Nat
  | [] => 0
  | e :: r => szE e + szL r
end
theorem sz_mk (o m : ByteArray) (n : Int) (a : Nat) (ks : List Ex) : szE (.mk o m n a ks) = 1 + szL ks := by rw [szE]
theorem sz_two (x : Wd) (a b : Ex) : szE (twoS x a b) = 1 + szE a + szE b := by unfold twoS; rw [sz_mk, szL, szL, szL]; omega
/-- What a step that ends without a fault has made of parts. -/
def PX (f : St → Ex × St) : Prop := ∀ st, (f st).2.er = 0 → st.parts + szE (f st).1 ≤ (f st).2.parts ∧ (st.parts ≤ 300 → (f st).2.parts ≤ 300)
section
variable {L : List Wd} {st : St}
theorem next_parts : (nextS L st).parts = st.parts := by unfold nextS; split <;> rfl
theorem part_px (h : (partS L st).2.er = 0) : (partS L st).2.parts = st.parts + 1 ∧ (st.parts ≤ 300 → st.parts + 1 ≤ 300) := by
  have h1 := part_ok0 h
  refine ⟨by rw [h1.2.1, next_parts], fun hp => ?_⟩
  by_cases he : st.parts = 300
  · exfalso
    have h2 : (partS L st).2.er = (partA L st).er := next_er
    unfold partA at h2
    rw [if_pos he] at h2
    rw [h] at h2
    exact fail_ne 2 (by decide) h2.symm
  · omega
theorem need_px {s : ByteArray} (h : (needS L s st).er = 0) : (needS L s st).parts = st.parts := by rw [(need_ok0 h).2.2, next_parts]
theorem fail_parts (e : Nat) : (failS L e st).parts = st.parts := by unfold failS; split <;> rfl
theorem name_px : (nameS L st).2.parts = st.parts := by
  unfold nameS
  split
  · exact next_parts
  · show (nextS L (failS L 7 st)).parts = _
    rw [next_parts, fail_parts]
theorem take_px (s : ByteArray) : (takeS L s st).2.parts = st.parts := by
  unfold takeS
  split
  · exact next_parts
  · rfl
theorem btw_px {ops : List ByteArray} (h : (betweenS L ops st).2.2.er = 0) : (betweenS L ops st).2.2.parts = st.parts + (if (betweenS L ops st).2.1 = true then 1 else 0) ∧ (st.parts ≤ 300 → (betweenS L ops st).2.2.parts ≤ 300) := by
  unfold betweenS at *
  by_cases hh : hasS L ops st = true
  · rw [if_pos hh] at *
    have hq := part_px h
    exact ⟨by simpa using hq.1, fun hp => by show (partS L st).2.parts ≤ 300; rw [hq.1]; exact hq.2 hp⟩
  · rw [if_neg hh] at *
    exact ⟨by simp, fun hp => hp⟩
end
theorem argsS_px (L : List Wd) {f : St → Ex × St} (hk : Stk f) (hf : PX f) : ∀ (k : Nat) (st : St), (argsS L f k st).2.er = 0 → st.parts + szL (argsS L f k st).1 ≤ (argsS L f k st).2.parts ∧ (st.parts ≤ 300 → (argsS L f k st).2.parts ≤ 300)
  | 0, st, h => ⟨by simp [argsS, szL], fun h => h⟩
  | k + 1, st, h => by
    unfold argsS at h ⊢
    split
    · rename_i hs
      rw [if_pos hs] at h
      have h0 : (f (nextS L st)).2.er = 0 := by
        by_cases he : (f (nextS L st)).2.er = 0
        · exact he
        · have h : (argsS L f k (f (nextS L st)).2).2.er = 0 := h
          rw [argsS_stk L hk k _ he] at h
          exact h
      have h1 := argsS_px L hk hf k _ h
      have h2 := hf _ h0
      rw [next_parts] at h2
      refine ⟨?_, fun hp => h1.2 (h2.2 hp)⟩
      show st.parts + szL ((f (nextS L st)).1 :: _) ≤ _
      rw [szL]
      have := h1.1
      have := h2.1
      show st.parts + (szE (f (nextS L st)).1 + szL (argsS L f k (f (nextS L st)).2).1) ≤ (argsS L f k (f (nextS L st)).2).2.parts
      omega
    · exact ⟨by simp [szL], fun h => h⟩
/-- What goes on behind a tree, and its parts. -/
def PK (K : Ex → St → Ex × St) : Prop := ∀ e S, (K e S).2.er = 0 → S.parts + szE (K e S).1 ≤ (K e S).2.parts + szE e ∧ (S.parts ≤ 300 → (K e S).2.parts ≤ 300)
theorem er_back {K : Ex → St → Ex × St} (hK : ∀ e S, S.er ≠ 0 → (K e S).2.er = S.er) {e : Ex} {S : St} (h : (K e S).2.er = 0) : S.er = 0 := by
  by_cases he : S.er = 0
  · exact he
  · rw [hK e S he] at h; exact h
theorem stk_back {f : St → Ex × St} (hf : Stk f) {S : St} (h : (f S).2.er = 0) : S.er = 0 := by
  by_cases he : S.er = 0
  · exact he
  · rw [hf S he] at h; exact h
theorem PK.then_ {K : Ex → St → Ex × St} (hK : PK K) (hs : ∀ e S, S.er ≠ 0 → (K e S).2.er = S.er) {f : St → Ex × St} (hf : PX f) : PX (fun S => K (f S).1 (f S).2) := fun st h => by
  have h1 := hK _ _ h
  have h2 := hf st (er_back hs h)
  refine ⟨?_, fun hp => h1.2 (h2.2 hp)⟩
  have := h1.1
  have := h2.1
  show st.parts + szE (K (f st).1 (f st).2).1 ≤ (K (f st).1 (f st).2).2.parts
  omega
theorem KB_pk (L : List Wd) (ops : List ByteArray) {h : St → Ex × St} (hk : Stk h) (hh : PX h) : PK (KBt L ops h) := fun e S he => by
  unfold KBt at he ⊢
  simp only at he ⊢
  split
  · rename_i hb
    rw [if_pos hb] at he
    have h1 := hh _ he
    have h2 := btw_px (stk_back hk he)
    rw [if_pos hb] at h2
    refine ⟨?_, fun hp => h1.2 (h2.2 hp)⟩
    show S.parts + szE (twoS _ e _) ≤ _
    rw [sz_two]
    have := h1.1
    have := h2.1
    show S.parts + (1 + szE e + szE (h (betweenS L ops S).2.2).1) ≤ (h (betweenS L ops S).2.2).2.parts + szE e
    omega
  · rename_i hb
    rw [if_neg hb] at he
    have h2 := btw_px he
    exact ⟨by have := h2.1; show S.parts + szE e ≤ (betweenS L ops S).2.2.parts + szE e; omega, h2.2⟩
theorem row_pk (L : List Wd) {one : St → Ex × St} (hk : Stk one) (hf : PX one) (ops : List ByteArray) : ∀ (k : Nat), PK (rowL L one ops k)
  | 0, e, S, h => ⟨Nat.le_refl _, fun h => h⟩
  | k + 1, e, S, h => by
    unfold rowL at h ⊢
    simp only at h ⊢
    split
    · rename_i hb
      rw [if_pos hb] at h
      have h1 := row_pk L hk hf ops k _ _ h
      have h0 := er_back (K := rowL L one ops k) (rowL_stk L hk ops k) h
      have h2 := hf _ h0
      have h3 := btw_px (stk_back hk h0)
      rw [if_pos hb] at h3
      refine ⟨?_, fun hp => h1.2 (h2.2 (h3.2 hp))⟩
      have h4 := h1.1
      rw [sz_two] at h4
      have := h2.1
      have := h3.1
      omega
    · rename_i hb
      rw [if_neg hb] at h
      have h2 := btw_px h
      exact ⟨by have := h2.1; show S.parts + szE e ≤ (betweenS L ops S).2.2.parts + szE e; omega, h2.2⟩
theorem when_pk (L : List Wd) : ∀ (k : Nat), PK (whenL L k)
  | 0, e, S, h => ⟨Nat.le_refl _, fun h => h⟩
  | k + 1, e, S, h => by
    unfold whenL at h ⊢
    simp only at h ⊢
    split
    · rename_i hb
      rw [if_pos hb] at h
      have h1 := when_pk L k _ _ h
      have h0 := er_back (K := whenL L k) (whenL_stk L k) h
      have h3 : (betweenS L [bs [119, 104, 101, 110]] S).2.2.er = 0 := by
        by_cases he : (betweenS L [bs [119, 104, 101, 110]] S).2.2.er = 0
        · exact he
        · rw [name_stk (by rw [take_er]; exact he), take_er] at h0
          exact h0
      have h4 := btw_px h3
      rw [if_pos hb] at h4
      rw [name_px, take_px, sz_mk, szL, szL] at h1
      refine ⟨?_, fun hp => h1.2 (h4.2 hp)⟩
      have := h1.1
      have := h4.1
      omega
    · rename_i hb
      rw [if_neg hb] at h
      have h2 := btw_px h
      exact ⟨by have := h2.1; show S.parts + szE e ≤ (betweenS L [bs [119, 104, 101, 110]] S).2.2.parts + szE e; omega, h2.2⟩
structure PNx (nx : Nx) : Prop where
  expr : PX nx.expr
  un : PX nx.un
  prim : PX nx.prim
  fby : PX nx.fby
section
variable {L : List Wd} {nx : Nx} (hn : SNx nx) (h : PNx nx)
include hn h
theorem named_px : PX (namedS L nx) := fun st he => by
  unfold namedS at he ⊢
  simp only at he ⊢
  split
  · rename_i hs
    rw [if_pos hs] at he
    have a1 := need_ok0 he
    have a2 := need_px he
    have hc : (partS L st).2.er = 0 ∧ (partS L st).2.parts + szL (callS L nx (nextS L (partS L st).2)).1 ≤ (callS L nx (nextS L (partS L st).2)).2.parts ∧ ((partS L st).2.parts ≤ 300 → (callS L nx (nextS L (partS L st).2)).2.parts ≤ 300) := by
      have h2 := a1.1
      unfold callS at h2 ⊢
      split
      · rename_i hp
        rw [if_pos hp] at h2
        have h2 : (nextS L (partS L st).2).er = 0 := h2
        rw [next_er] at h2
        exact ⟨h2, by simp [szL, next_parts], fun hp => by show (nextS L (partS L st).2).parts ≤ 300; rw [next_parts]; exact hp⟩
      · rename_i hp
        rw [if_neg hp] at h2
        have h3 := argsS_px L hn.expr h.expr _ _ h2
        have h4 : (nx.expr (nextS L (partS L st).2)).2.er = 0 := by
          by_cases hz : (nx.expr (nextS L (partS L st).2)).2.er = 0
          · exact hz
          · have h2 : (argsS L nx.expr L.length (nx.expr (nextS L (partS L st).2)).2).2.er = 0 := h2
            rw [argsS_stk L hn.expr _ _ hz] at h2
            exact h2
        have h5 := h.expr _ h4
        rw [next_parts] at h5
        have h6 := stk_back hn.expr h4
        rw [next_er] at h6
        refine ⟨h6, ?_, fun hp => h3.2 (h5.2 hp)⟩
        show (partS L st).2.parts + szL ((nx.expr (nextS L (partS L st).2)).1 :: _) ≤ _
        rw [szL]
        have := h3.1
        have := h5.1
        show (partS L st).2.parts + (szE (nx.expr (nextS L (partS L st).2)).1 + szL (argsS L nx.expr L.length (nx.expr (nextS L (partS L st).2)).2).1) ≤ (argsS L nx.expr L.length (nx.expr (nextS L (partS L st).2)).2).2.parts
        omega
    have hp := part_px hc.1
    refine ⟨?_, fun h0 => by show (needS L _ _).parts ≤ 300; rw [a2]; exact hc.2.2 (by rw [hp.1]; exact hp.2 h0)⟩
    show st.parts + szE (.mk _ _ _ _ (callS L nx (nextS L (partS L st).2)).1) ≤ (needS L (bs [41]) (callS L nx (nextS L (partS L st).2)).2).parts
    rw [sz_mk, a2]
    have := hc.2.1
    have := hp.1
    omega
  · rename_i hs
    rw [if_neg hs] at he
    have hp := part_px he
    refine ⟨?_, fun h0 => by show (partS L st).2.parts ≤ 300; rw [hp.1]; exact hp.2 h0⟩
    show st.parts + szE (.mk _ _ _ _ []) ≤ (partS L st).2.parts
    rw [sz_mk, szL, hp.1]
    omega
theorem primB_px : PX (primB L nx) := fun st he => by
  have leaf : ∀ (E : Ex), szE E = 1 → (partS L st).2.er = 0 → st.parts + szE E ≤ (partS L st).2.parts ∧ (st.parts ≤ 300 → (partS L st).2.parts ≤ 300) := fun E hE h0 => by
    have hp := part_px h0
    exact ⟨by rw [hE, hp.1]; exact Nat.le_refl _, fun h1 => by rw [hp.1]; exact hp.2 h1⟩
  unfold primB at he ⊢
  simp only at he ⊢
  split
  · rename_i h1
    rw [if_pos h1] at he
    exact leaf _ (by rw [sz_mk, szL]) he
  rename_i h1
  rw [if_neg h1] at he
  split
  · rename_i h2
    rw [if_pos h2] at he
    exact named_px hn h st he
  rename_i h2
  rw [if_neg h2] at he
  split
  · rename_i h3
    rw [if_pos h3] at he
    exact leaf _ (by rw [sz_mk, szL]) he
  rename_i h3
  rw [if_neg h3] at he
  split
  · rename_i h4
    rw [if_pos h4] at he
    exact leaf _ (by rw [sz_mk, szL]) he
  rename_i h4
  rw [if_neg h4] at he
  split
  · rename_i h5
    rw [if_pos h5] at he
    unfold bracketedS at he ⊢
    simp only at he ⊢
    have a1 := need_px he
    have a2 := h.expr _ (need_ok0 he).1
    rw [next_parts] at a2
    exact ⟨by show _ ≤ (needS L _ _).parts; rw [a1]; exact a2.1, fun hp => by show (needS L _ _).parts ≤ 300; rw [a1]; exact a2.2 hp⟩
  rename_i h5
  rw [if_neg h5] at he
  split
  · rename_i h6
    rw [if_pos h6] at he
    unfold choiceS at he ⊢
    simp only at he ⊢
    have a1 := h.expr _ he
    have b1 := stk_back hn.expr he
    have c1 := need_px b1
    have a2 := h.expr _ (need_ok0 b1).1
    have b2 := stk_back hn.expr (need_ok0 b1).1
    have c2 := need_px b2
    have a3 := h.expr _ (need_ok0 b2).1
    have b3 := stk_back hn.expr (need_ok0 b2).1
    have hp := part_px b3
    rw [c1] at a1
    rw [c2] at a2
    refine ⟨?_, fun h0 => a1.2 (a2.2 (a3.2 (by rw [hp.1]; exact hp.2 h0)))⟩
    rw [sz_mk, szL, szL, szL, szL]
    have := a1.1
    have := a2.1
    have := a3.1
    have := hp.1
    omega
  rename_i h6
  rw [if_neg h6] at he
  split
  · rename_i h7
    rw [if_pos h7] at he
    unfold mergeS at he ⊢
    simp only at he ⊢
    have a1 := h.prim _ he
    have b1 := stk_back hn.prim he
    have a2 := h.prim _ b1
    have b2 := stk_back hn.prim b1
    rw [name_px] at a2
    have b3 : (partS L st).2.er = 0 := by
      by_cases hz : (partS L st).2.er = 0
      · exact hz
      · rw [name_stk hz] at b2
        exact b2
    have hp := part_px b3
    refine ⟨?_, fun h0 => a1.2 (a2.2 (by rw [hp.1]; exact hp.2 h0))⟩
    rw [sz_mk, szL, szL, szL]
    have := a1.1
    have := a2.1
    have := hp.1
    omega
  · rename_i h7
    rw [if_neg h7] at he
    exact absurd he (fail_ne 7 (by decide))
theorem primS_px (d : Nat) : PX (primS L nx d) := fun st he => by
  have h1 := primB_px hn h _ he
  have h2 := ask_ok0 (stk_back (primB_stk hn) he)
  rw [h2.1] at h1
  unfold primS
  rw [h2.1]
  exact h1
theorem unS_px (d : Nat) : PX (unS L nx d) := fun st he => by
  unfold unS at he ⊢
  simp only at he ⊢
  split
  · rename_i h1
    rw [if_pos h1] at he
    have a1 := h.un _ he
    have a2 := stk_back hn.un he
    have hp := part_px a2
    have a3 := ask_ok0 (part_ok0 a2).2.2
    have e : (askS L d st).parts = st.parts := by rw [a3.1]
    rw [e] at hp
    refine ⟨?_, fun h0 => a1.2 (by rw [hp.1]; exact hp.2 h0)⟩
    rw [sz_mk, szL, szL]
    have := a1.1
    have := hp.1
    show st.parts + (1 + (szE (nx.un (partS L (askS L d st)).2).1 + 0)) ≤ (nx.un (partS L (askS L d st)).2).2.parts
    omega
  · rename_i h1
    rw [if_neg h1] at he
    split
    · rename_i h2
      rw [if_pos h2] at he
      have a1 := h.un _ he
      have a2 := stk_back hn.un he
      have hp := part_px a2
      have a3 := ask_ok0 (part_ok0 a2).2.2
      have e : (askS L d st).parts = st.parts := by rw [a3.1]
      rw [e] at hp
      refine ⟨?_, fun h0 => a1.2 (by rw [hp.1]; exact hp.2 h0)⟩
      rw [sz_mk, szL, szL]
      have := a1.1
      have := hp.1
      show st.parts + (1 + (szE (nx.un (partS L (askS L d st)).2).1 + 0)) ≤ (nx.un (partS L (askS L d st)).2).2.parts
      omega
    · rename_i h2
      rw [if_neg h2] at he
      have a1 := primS_px hn h d _ he
      have a3 := ask_ok0 (stk_back (primS_stk hn d) he)
      rw [a3.1] at a1 ⊢
      exact a1
theorem fbyS_px (d : Nat) : PX (fbyS L nx d) := (KB_pk L [bs [102, 98, 121]] hn.fby h.fby).then_ (KB_kont L [bs [102, 98, 121]] hn.fby).stk ((when_pk L L.length).then_ (whenL_stk L L.length) (unS_px hn h d))
theorem addS_px (d : Nat) : PX (addS L nx d) := (row_pk L (rowS_stk L (fbyS_stk hn d) _) ((row_pk L (fbyS_stk hn d) (fbyS_px hn h d) _ L.length).then_ (rowL_stk L (fbyS_stk hn d) _ L.length) (fbyS_px hn h d)) [bs [43], bs [45]] L.length).then_ (rowL_stk L (rowS_stk L (fbyS_stk hn d) _) _ L.length) ((row_pk L (fbyS_stk hn d) (fbyS_px hn h d) [bs [42], bs [47], bs [109, 111, 100]] L.length).then_ (rowL_stk L (fbyS_stk hn d) _ L.length) (fbyS_px hn h d))
theorem cmpS_px (d : Nat) : PX (cmpS L nx d) := (KB_pk L [bs [61], bs [60, 62], bs [60], bs [60, 61], bs [62], bs [62, 61]] (addS_stk hn d) (addS_px hn h d)).then_ (KB_kont L _ (addS_stk hn d)).stk (addS_px hn h d)
theorem andS_px (d : Nat) : PX (andS L nx d) := (row_pk L (cmpS_stk hn d) (cmpS_px hn h d) [bs [97, 110, 100]] L.length).then_ (rowL_stk L (cmpS_stk hn d) _ L.length) (cmpS_px hn h d)
theorem orS_px (d : Nat) : PX (orS L nx d) := (row_pk L (rowS_stk L (cmpS_stk hn d) _) (andS_px hn h d) [bs [111, 114], bs [120, 111, 114]] L.length).then_ (rowL_stk L (rowS_stk L (cmpS_stk hn d) _) _ L.length) (andS_px hn h d)
theorem arrowS_px (d : Nat) : PX (arrowS L nx d) := (KB_pk L [bs [45, 62]] hn.expr h.expr).then_ (KB_kont L _ hn.expr).stk (orS_px hn h d)
end
theorem px_of {f : St → Ex × St} (h1 : Stk f) (h2 : ∀ st, st.er = 0 → (f st).2.er = 2) : PX f := fun st h => by
  by_cases he : st.er = 0
  · rw [h2 st he] at h; cases h
  · rw [h1 st he] at h; exact absurd h he
theorem nx_px (L : List Wd) : ∀ k, PNx (nxAt L (k + 1))
  | 0 => ⟨px_of (nx_stk L 1).expr (deep1 L).expr, px_of (nx_stk L 1).un (deep1 L).un, px_of (nx_stk L 1).prim (deep1 L).prim, px_of (nx_stk L 1).fby (deep1 L).fby⟩
  | k + 1 => ⟨arrowS_px (nx_stk L (k + 1)) (nx_px L k) _, unS_px (nx_stk L (k + 1)) (nx_px L k) _, primS_px (nx_stk L (k + 1)) (nx_px L k) _, fbyS_px (nx_stk L (k + 1)) (nx_px L k) _⟩
/-- An equation's tree has at most 300 parts. -/
theorem eqS_sz {L : List Wd} {st : St} (h : (eqS L st).2.er = 0) : szE (eqS L st).1.e ≤ 300 := by
  have h1 := (need_ok0 h).1
  have h2 := (nx_px L 30).expr _ h1
  have h3 := stk_back (nx_stk L 31).expr h1
  have h4 := need_px h3
  rw [h4, name_px] at h2
  have h5 := h2.2 (Nat.zero_le _)
  have h6 := h2.1
  have h5 : ((nxAt L 31).expr (needS L (bs [61]) (nameS L { st with parts := 0 }).2)).2.parts ≤ 300 := h5
  have h6 : 0 + szE ((nxAt L 31).expr (needS L (bs [61]) (nameS L { st with parts := 0 }).2)).1 ≤ ((nxAt L 31).expr (needS L (bs [61]) (nameS L { st with parts := 0 }).2)).2.parts := h6
  show szE ((nxAt L 31).expr (needS L (bs [61]) (nameS L { st with parts := 0 }).2)).1 ≤ 300
  omega
theorem eqsL_sz {L : List Wd} : ∀ (k : Nat) (st : St), (eqsL L k st).2.er = 0 → ∀ q ∈ (eqsL L k st).1, szE q.e ≤ 300
  | 0, st, h => fun v hv => by simp [eqsL] at hv
  | k + 1, st, h => by
    unfold eqsL at h ⊢
    split
    · rename_i hs
      rw [if_pos hs] at h
      have h0 : (eqS L st).2.er = 0 := by
        by_cases he : (eqS L st).2.er = 0
        · exact he
        · have h : (eqsL L k (eqS L st).2).2.er = 0 := h
          rw [eqsL_stk k he] at h
          exact h
      intro q hq
      rcases List.mem_cons.1 hq with rfl | hq
      · exact eqS_sz h0
      · exact eqsL_sz k _ h q hq
    · exact fun v hv => by simp at hv
/-! How long the texts are. -/
theorem name_len {s : ByteArray} (h : NmB s) : s.data.toList.length ≤ 24 := h.1.len
theorem prim_len {e : Ex} (h : Wf e) : (primOf e (textE e)).length ≤ (textE e).length + 2 := by
  cases h with
  | var nm a h => rw [primOf_mk, if_pos (show (bs [118, 97, 114]).data.toList = [118, 97, 114] from rfl), tx_var]; simp [lp, rp]
  | two o a x y ho hx hy =>
    rw [primOf_mk, if_neg]
    · omega
    · intro e
      have e2 : o = [118, 97, 114] := e
      rw [e2] at ho; cases ho
  | un o a x ho hx =>
    rw [primOf_mk, if_neg]
    · omega
    · intro e
      have e2 : o = [118, 97, 114] := e
      rw [e2] at ho; revert ho; decide
  | _ =>
    rw [primOf_mk, if_neg (by decide)]
    omega
theorem commas_len : ∀ (ks : List Ex), (∀ k ∈ ks, (textE k).length + 2 ≤ 70 * szE k) → (commas (ks.map textE)).length ≤ 70 * szL ks
  | [], _ => by simp [commas, szL]
  | [k], h => by
    have := h k (by simp)
    show (textE k).length ≤ _
    rw [szL, szL]
    omega
  | k :: k2 :: r, h => by
    have h1 := h k (by simp)
    have h2 := commas_len (k2 :: r) (fun x hx => h x (by simp [hx]))
    show (textE k ++ [44, 32] ++ commas ((k2 :: r).map textE)).length ≤ _
    rw [szL]
    simp only [List.length_append, List.length_cons, List.length_nil]
    omega
theorem text_len {e : Ex} (h : Wf e) : (textE e).length + 2 ≤ 70 * szE e := by
  induction h with
  | int m a h =>
    have := Lib.itoa_length_le (m : Int) (by omega) (by omega)
    rw [tx_int, sz_mk, szL]
    omega
  | bool n a h => rw [tx_bool, bool_text, sz_mk, szL]; split <;> simp
  | var nm a h => have := name_len h; rw [tx_var, sz_mk, szL]; omega
  | call nm a ks h hk ih =>
    have h1 := name_len h
    have h2 := commas_len ks ih
    rw [tx_call, sz_mk]
    simp only [List.length_append, lp, rp, List.length_cons, List.length_nil]
    omega
  | un o a x ho hx ih =>
    rw [tx_un _ _ _ _ _ ho, sz_mk, szL, szL]
    have : o.length = 3 := by rcases ho with rfl | rfl <;> rfl
    simp only [List.length_append, lp, rp, sp, List.length_cons, List.length_nil]
    omega
  | neg a x hx ih =>
    rw [tx_neg, sz_mk, szL, szL]
    simp only [List.length_append, lp, rp, sp, List.length_cons, List.length_nil]
    omega
  | two o a x y ho hx hy ihx ihy =>
    rw [tx_two _ _ _ _ _ _ ho, sz_mk, szL, szL, szL]
    have : o.length ≤ 3 := by rcases infix_is ho with rfl | rfl | rfl | rfl | rfl | rfl | rfl | rfl | rfl | rfl | rfl | rfl | rfl | rfl | rfl | rfl <;> decide
    simp only [List.length_append, lp, rp, sp, List.length_cons, List.length_nil]
    omega
  | when nm n a x h hn hx ih =>
    have h1 := name_len h
    rw [tx_when, sz_mk, szL, szL]
    have : (whenT (n == 0)).data.toList.length ≤ 10 := by unfold whenT; split <;> decide
    simp only [List.length_append, lp, rp, List.length_cons, List.length_nil]
    omega
  | ite a x y z hx hy hz ihx ihy ihz =>
    rw [tx_ite, sz_mk, szL, szL, szL, szL]
    simp only [List.length_append, lp, rp, List.length_cons, List.length_nil]
    omega
  | merge nm a x y h hx hy ihx ihy =>
    have h1 := name_len h
    have h2 := prim_len hx
    have h3 := prim_len hy
    rw [tx_merge, sz_mk, szL, szL, szL]
    simp only [List.length_append, rp, sp, List.length_cons, List.length_nil]
    omega
theorem var_len {d : Bool} {v : Vr} (h : WfV d v) : (varT v).length ≤ 70 := by
  have h1 := name_len h.1
  have h2 : (kindT (v.kind : Int)).data.toList.length ≤ 4 := by rcases h.2.1 with e | e <;> rw [e] <;> decide
  have h3 : (onT v).length ≤ 34 := by
    unfold onT
    split
    · simp
    · have hw : (whenT v.not_).data.toList.length ≤ 10 := by unfold whenT; split <;> decide
      have ho : v.on.data.toList.length ≤ 24 := by
        rcases h.2.2 with ⟨e, _⟩ | ⟨_, e⟩
        · rw [e]; decide
        · exact name_len e
      rw [List.length_append]
      omega
  unfold varT
  simp only [List.length_append, List.length_cons, List.length_nil]
  omega
theorem vars_len {d : Bool} : ∀ (vs : List Vr), (∀ v ∈ vs, WfV d v) → (varsT vs).length ≤ 72 * vs.length
  | [], _ => by simp [varsT, semis]
  | [v], h => by
    have := var_len (h v (by simp))
    show (varT v).length ≤ _
    simp only [List.length_cons, List.length_nil]
    omega
  | v :: u :: r, h => by
    have h1 := var_len (h v (by simp))
    have h2 := vars_len (u :: r) (fun x hx => h x (by simp [hx]))
    show (varT v ++ [59, 32] ++ varsT (u :: r)).length ≤ _
    simp only [List.length_append, List.length_cons, List.length_nil] at *
    omega
theorem eqs_len : ∀ (qs : List Qe), (∀ q ∈ qs, NmB q.name ∧ Wf q.e) → (∀ q ∈ qs, szE q.e ≤ 300) → (eqsT qs).length ≤ 22000 * qs.length
  | [], _, _ => by simp [eqsT]
  | q :: r, h, hs => by
    have h1 := name_len (h q (by simp)).1
    have h2 := text_len (h q (by simp)).2
    have h3 := hs q (by simp)
    have ih := eqs_len r (fun x hx => h x (by simp [hx])) (fun x hx => hs x (by simp [hx]))
    show (eqT q ++ eqsT r).length ≤ _
    unfold eqT
    simp only [List.length_append, List.length_cons, List.length_nil]
    omega
/-- A node whose rows are not too long. -/
structure FewN (N : Nat) (nd : Nd) : Prop where
  ins : nd.ins.length ≤ N
  outs : nd.outs.length ≤ N
  locs : nd.locs.length ≤ N
  eqs : nd.eqs.length ≤ N
  sz : ∀ q ∈ nd.eqs, szE q.e ≤ 300
theorem node_len {N : Nat} {nd : Nd} (h : WfN nd) (hf : FewN N nd) : (nodeT nd).length ≤ 100 + 23000 * N := by
  have h0 := name_len h.name
  have h1 := vars_len nd.ins h.ins
  have h2 := vars_len nd.outs h.outs
  have h3 := vars_len nd.locs h.locs
  have h4 := eqs_len nd.eqs h.eqs hf.sz
  have h5 : (locsT nd.locs).length ≤ 6 + 72 * nd.locs.length := by
    unfold locsT
    split
    · simp
    · simp only [List.length_append, List.length_cons, List.length_nil]; omega
  have := hf.ins
  have := hf.outs
  have := hf.locs
  have := hf.eqs
  unfold nodeT
  simp only [List.length_append, List.length_cons, List.length_nil]
  omega
theorem nodes_len {N : Nat} : ∀ (l : List Nd), (∀ nd ∈ l, WfN nd ∧ FewN N nd) → (showT l).length ≤ (100 + 23000 * N) * l.length
  | [], _ => by simp [showT]
  | nd :: r, h => by
    have h1 := node_len (h nd (by simp)).1 (h nd (by simp)).2
    have ih := nodes_len r (fun x hx => h x (by simp [hx]))
    show (nodeT nd ++ showT r).length ≤ _
    rw [List.length_append, List.length_cons, Nat.mul_add]
    omega
section
variable {L : List Wd}
theorem declL_few : ∀ (k : Nat) (st : St), (declL L k st).1.length ≤ k
  | 0, st => by simp [declL]
  | k + 1, st => by
    unfold declL
    split
    · have := declL_few k (declaredS L (nextS L st)).2.2
      simp only [List.length_cons]
      omega
    · simp
theorem declS_few (st : St) : (declS L st).1.length ≤ L.length + 1 := by
  have := declL_few (L := L) L.length (declaredS L st).2.2
  show (List.map _ (declaredV L st :: (declL L L.length (declaredS L st).2.2).1)).length ≤ _
  rw [List.length_map, List.length_cons]
  omega
theorem declsL_few : ∀ (k : Nat) (st : St), (declsL L k st).1.length ≤ k * (L.length + 1)
  | 0, st => by simp [declsL]
  | k + 1, st => by
    unfold declsL
    split
    · have h1 := declsL_few k (declS L (nextS L st)).2
      have h2 := declS_few (L := L) (nextS L st)
      simp only [List.length_append]
      rw [Nat.succ_mul]
      omega
    · simp
theorem declsS_few (st : St) : (declsS L st).1.length ≤ (L.length + 1) * (L.length + 1) := by
  show (declsB L (needS L (bs [40]) st)).1.length ≤ _
  unfold declsB
  split
  · simp
  · have h1 := declsL_few (L := L) L.length (declS L (needS L (bs [40]) st)).2
    have h2 := declS_few (L := L) (needS L (bs [40]) st)
    simp only [List.length_append]
    rw [Nat.succ_mul]
    omega
theorem localS_few (st : St) : (localS L st).1.length ≤ L.length + 1 := by
  have h := declS_few (L := L) st
  unfold localS
  simp only
  split
  · simpa using h
  · exact h
theorem localsL_few : ∀ (k : Nat) (st : St), (localsL L k st).1.length ≤ k * (L.length + 1)
  | 0, st => by simp [localsL]
  | k + 1, st => by
    unfold localsL
    split
    · have h1 := localsL_few k (needS L (bs [59]) (localS L st).2)
      have h2 := localS_few (L := L) st
      simp only [List.length_append]
      rw [Nat.succ_mul]
      omega
    · simp
theorem varS_few (st : St) : (varS L st).1.length ≤ (L.length + 1) * (L.length + 1) := by
  unfold varS
  split
  · unfold localsS
    split
    · simp
    · have h1 := localsL_few (L := L) L.length (needS L (bs [59]) (localS L (nextS L st)).2)
      have h2 := localS_few (L := L) (nextS L st)
      simp only [List.length_append]
      rw [Nat.succ_mul]
      omega
  · simp
theorem eqsL_few : ∀ (k : Nat) (st : St), (eqsL L k st).1.length ≤ k
  | 0, st => by simp [eqsL]
  | k + 1, st => by
    unfold eqsL
    split
    · have := eqsL_few k (eqS L st).2
      simp only [List.length_cons]
      omega
    · simp
theorem programL_few : ∀ (k n : Nat) (st : St), (programL L k n st).1.length ≤ k
  | 0, n, st => by simp [programL]
  | k + 1, n, st => by
    unfold programL
    split
    · have := programL_few k (n + 1) (nodeS L (limS L n st)).2
      simp only [List.length_cons]
      omega
    · simp
theorem nodeS_few (st : St) (h : (nodeS L st).2.er = 0) : FewN ((L.length + 1) * (L.length + 1)) (nodeS L st).1 := by
  rw [node_steps] at h ⊢
  simp only at h ⊢
  rw [take_er] at h
  have h1 := (need_ok0 h).1
  refine ⟨declsS_few _, declsS_few _, varS_few _, ?_, eqsL_sz _ _ h1⟩
  refine Nat.le_trans (eqsL_few _ _) ?_
  rw [Nat.succ_mul]
  have : L.length ≤ L.length * (L.length + 1) := Nat.le_mul_of_pos_right _ (by omega)
  omega
theorem programL_fewN : ∀ (k n : Nat) (st : St), (programL L k n st).2.er = 0 → ∀ nd ∈ (programL L k n st).1, FewN ((L.length + 1) * (L.length + 1)) nd
  | 0, n, st, h => fun v hv => by simp [programL] at hv
  | k + 1, n, st, h => by
    unfold programL at h ⊢
    split
    · rename_i hs
      rw [if_pos hs] at h
      have h0 : (nodeS L (limS L n st)).2.er = 0 := by
        by_cases he : (nodeS L (limS L n st)).2.er = 0
        · exact he
        · have h : (programL L k (n + 1) (nodeS L (limS L n st)).2).2.er = 0 := h
          rw [programL_stk k _ he] at h
          exact h
      intro nd hnd
      rcases List.mem_cons.1 hnd with rfl | hnd
      · exact nodeS_few _ h0
      · exact programL_fewN k _ _ h nd hnd
    · exact fun v hv => by simp at hv
end
theorem cutF_few : ∀ (f : Nat) (l : List UInt8) (a : Nat) (d : List (Nat × Nat × Int × Nat)), cutF f l a = .ok d → d.length ≤ f
  | 0, l, a, d, h => by simp [cutF] at h
  | f + 1, l, a, d, h => by
    unfold cutF at h
    split at h
    · injection h with h; subst h; simp
    · split at h
      · cases h
      · split at h
        · cases h
        · rename_i t ht
          injection h with h
          subst h
          have := cutF_few f _ _ t ht
          simp only [List.length_cons]
          omega
/-- What a text of at most 1500 bytes is, is written in a text that can be. -/
theorem show_len {s : ByteArray} {l : List Nd} (h : parseS s = .ok l) (hs : s.size ≤ 1500) : (showT l).length ≤ 140737488351232 := by
  have h0 := parse_wf h
  unfold parseS at h
  cases hc : cutAll s.data.toList with
  | error e => rw [hc] at h; cases h
  | ok d =>
    rw [hc] at h
    simp only at h
    split at h
    · rename_i he
      injection h with h
      have hd : (wordsL s d).length ≤ 1501 := by
        have hsz : s.data.toList.length = s.size := by simp
        unfold wordsL
        rw [List.length_map]
        unfold cutAll at hc
        split at hc
        · cases hc
        · cases h1 : cut1 s.data.toList with
          | error p => rw [h1] at hc; cases hc
          | ok t =>
            rw [h1] at hc
            injection hc with hc
            subst hc
            have := cutF_few _ _ _ _ h1
            omega
      have hn : (nodeS (wordsL s d) st0).2.er = 0 := by
        by_cases hz : (nodeS (wordsL s d) st0).2.er = 0
        · exact hz
        · have he : (programL (wordsL s d) (wordsL s d).length 1 (nodeS (wordsL s d) st0).2).2.er = 0 := he
          rw [programL_stk _ _ hz] at he
          exact he
      have hN : ((wordsL s d).length + 1) * ((wordsL s d).length + 1) ≤ 1502 * 1502 := Nat.mul_le_mul (by omega) (by omega)
      have hf : ∀ nd ∈ l, FewN (1502 * 1502) nd := by
        have up : ∀ nd, FewN (((wordsL s d).length + 1) * ((wordsL s d).length + 1)) nd → FewN (1502 * 1502) nd := fun nd hx => ⟨Nat.le_trans hx.ins hN, Nat.le_trans hx.outs hN, Nat.le_trans hx.locs hN, Nat.le_trans hx.eqs hN, hx.sz⟩
        intro nd hnd
        rw [← h] at hnd
        rcases List.mem_cons.1 hnd with rfl | hnd
        · exact up _ (nodeS_few _ hn)
        · exact up _ (programL_fewN _ _ _ he nd hnd)
      have hll : l.length ≤ 1502 := by
        rw [← h]
        have := programL_few (L := wordsL s d) (wordsL s d).length 1 (nodeS (wordsL s d) st0).2
        show (_ :: _).length ≤ _
        rw [List.length_cons]
        omega
      obtain ⟨a, r, e, ha, hr⟩ := h0
      have hw : ∀ nd ∈ l, WfN nd ∧ FewN (1502 * 1502) nd := fun nd hnd => ⟨by
        have h2 := hnd
        rw [e] at h2
        rcases List.mem_cons.1 h2 with rfl | h2
        · exact ha
        · exact hr nd h2, hf nd hnd⟩
      have h3 := nodes_len l hw
      have h4 : (100 + 23000 * (1502 * 1502)) * l.length ≤ (100 + 23000 * (1502 * 1502)) * 1502 := Nat.mul_le_mul_left _ hll
      refine Nat.le_trans h3 (Nat.le_trans h4 (by decide))
    · cases h
theorem parse_er {s : ByteArray} {er ea : Nat} (h : parseS s = .error (er, ea)) : er ≠ 0 := by
  unfold parseS at h
  cases hc : cutAll s.data.toList with
  | error e =>
    rw [hc] at h
    injection h with h
    unfold cutAll at hc
    split at hc
    · injection hc with hc; rw [← hc] at h; injection h with h _; rw [← h]; decide
    · split at hc
      · injection hc with hc; rw [← hc] at h; injection h with h _; rw [← h]; decide
      · cases hc
  | ok d =>
    rw [hc] at h
    simp only at h
    split at h
    · cases h
    · rename_i he
      injection h with h
      injection h with h _
      rw [← h]
      exact he
end Go.Proofs.YtjlnihennlkmpaaGreatDoor

namespace Go.Proofs.YtjlnihennlkmpaaGreatDoor
open Go
theorem wpList_wanted {P : Program} {ops : Array Oper} {Q : Exit → Act → World → Prop} {a : Act} {w : World} {rest : List Oper} {o : Oper} (hw : Region.wanted o (yielded ops a.tmps) = true)
    (h : ∀ K : Act → World → Prop, (∀ a w, wpList P ops Q rest a w → K a w) → o.wp P a w K Q) : wpList P ops Q (o :: rest) a w :=
  wpList_step fun K hK => by rw [if_pos hw]; exact h K hK
theorem wanted_of {o : Oper} {ops : Array Oper} {t : Array Value} (k : Nat) (v : Bool) (hg : o.guard = some (k, v)) (hy : yielded ops t k = some v) : Region.wanted o (yielded ops t) = true := by
  unfold Region.wanted
  simp [hg, hy]
theorem wpList_load_row_g {P : Program} {ops : Array Oper} {rest : List Oper} {o : Oper} {a : Act} {w : World} {Q : Exit → Act → World → Prop} (k : Nat) (v : Bool) (hgd : o.guard = some (k, v)) (hy : yielded ops a.tmps k = some v) (ty : TypeId) (x : Operand) (ho : o.op = .load ty x)
    (g : Nat) (hx : a.eval x = .pointer (some ⟨g, 0, none⟩)) (t : TypeId) (cs : Array Value) (fr : Nat × Nat) (d : TypeDesc) (hg : w.heap[g]? = some (.cells cs t fr))
    (hu : P.underlying ty = some d) (hd : (match d with | .struct _ | .array _ _ => true | _ => false) = true) (hi : (P.info? ty).map (·.size) = some cs.size)
    (h : wpList P ops Q rest (a.put o.dst (.agg cs)) w) : wpList P ops Q (o :: rest) a w :=
  wpList_wanted (wanted_of k v hgd hy) fun _ hK => wp_load_row ty x ho g hx t cs fr d hg hu hd hi (hK _ _ h)
end Go.Proofs.YtjlnihennlkmpaaGreatDoor
