/-
  What this statement stands on beside.
-/
import Derived.Test.YtfgjgnfbhfhkjaaGreatDoorMe
namespace Go.Proofs.YtfgjgnfbhfhkjaaGreatDoor
open Go Go.RowKit
section
variable {L : List Wd} {S : St} {k : Nat} {t : List UInt8} (h : W L S.i = (k, t))
include h
theorem W.has (ops : List ByteArray) : hasS L ops S = ops.any fun o => o.data.toList == t := by unfold hasS; rw [W.text h]
theorem W.btw0 (ops : List ByteArray) (hn : (ops.any fun o => o.data.toList == t) = false) : betweenS L ops S = (noWd, false, S) := by
  unfold betweenS
  rw [if_neg (by rw [W.has h, hn]; decide)]
theorem W.btw1 (ops : List ByteArray) (hn : (ops.any fun o => o.data.toList == t) = true) : betweenS L ops S = ((partS L S).1, true, (partS L S).2) := by
  unfold betweenS
  rw [if_pos (by rw [W.has h, hn])]
theorem W.when0 (hn : ([bs [119, 104, 101, 110]].any fun o => o.data.toList == t) = false) (f : Nat) (e : Ex) : whenL L f e S = (e, S) := by
  cases f with
  | zero => rfl
  | succ f =>
    unfold whenL
    simp only
    rw [W.btw0 h _ hn]
    rfl
theorem W.row0 (one : St → Ex × St) (ops : List ByteArray) (hn : (ops.any fun o => o.data.toList == t) = false) (f : Nat) (e : Ex) : rowL L one ops f e S = (e, S) := by
  cases f with
  | zero => rfl
  | succ f =>
    unfold rowL
    simp only
    rw [W.btw0 h _ hn]
    rfl
end
/-- A word that none of the signs is. -/
def stopT (t : List UInt8) : Bool := !(([[119, 104, 101, 110], [102, 98, 121], [42], [47], [109, 111, 100], [43], [45], [61], [60, 62], [60], [60, 61], [62], [62, 61], [97, 110, 100], [111, 114], [120, 111, 114]] : List (List UInt8)).contains t)
/-- .. but + and - perhaps. -/
def stopM (t : List UInt8) : Bool := !(([[119, 104, 101, 110], [102, 98, 121], [42], [47], [109, 111, 100]] : List (List UInt8)).contains t)
theorem any_no {t : List UInt8} {f : List UInt8 → Bool} (hs : f t = true) (ops : List ByteArray) (hx : ∀ x ∈ ops, f x.data.toList = false) : (ops.any fun o => o.data.toList == t) = false := by
  cases hc : (ops.any fun o => o.data.toList == t) with
  | false => rfl
  | true =>
    obtain ⟨x, hx1, hx2⟩ := List.any_eq_true.1 hc
    have e : x.data.toList = t := eq_of_beq hx2
    have := hx x hx1
    rw [e, hs] at this
    cases this
theorem mul_of {L : List Wd} {nx : Nx} {d : Nat} {st S : St} {k : Nat} {t : List UInt8} (hu : (unS L nx d st).2 = S) (h : W L S.i = (k, t)) (hs : stopM t = true) : (mulS L nx d st).2 = S := by
  have n1 := any_no hs [bs [119, 104, 101, 110]] (by simp only [List.mem_cons, List.not_mem_nil, or_false]; rintro x rfl; rfl)
  have n2 := any_no hs [bs [102, 98, 121]] (by simp only [List.mem_cons, List.not_mem_nil, or_false]; rintro x rfl; rfl)
  have n3 := any_no hs [bs [42], bs [47], bs [109, 111, 100]] (by simp only [List.mem_cons, List.not_mem_nil, or_false]; rintro x (rfl | rfl | rfl) <;> rfl)
  have hw : (whenS L nx d st).2 = S := by
    unfold whenS
    rw [hu, W.when0 h n1]
  have hf : (fbyS L nx d st).2 = S := by
    unfold fbyS
    simp only
    rw [hw, W.btw0 h _ n2]
    rfl
  show (rowL L (fbyS L nx d) _ L.length (fbyS L nx d st).1 (fbyS L nx d st).2).2 = S
  rw [hf, W.row0 h _ _ n3]
theorem stop_m {t : List UInt8} (h : stopT t = true) : stopM t = true := by
  unfold stopT stopM at *
  rw [Bool.not_eq_true'] at *
  rw [← Bool.not_eq_true] at *
  intro hc
  refine h ?_
  rw [List.contains_iff_mem] at *
  simp only [List.mem_cons, List.not_mem_nil, or_false] at *
  rcases hc with rfl | rfl | rfl | rfl | rfl <;> simp
theorem or_of {L : List Wd} {nx : Nx} {d : Nat} {st S : St} {k : Nat} {t : List UInt8} (ha : (addS L nx d st).2 = S) (h : W L S.i = (k, t)) (hs : stopT t = true) : (orS L nx d st).2 = S := by
  have key := fun ops hx => any_no hs ops hx
  have hc : (cmpS L nx d st).2 = S := by
    unfold cmpS
    simp only
    rw [ha, W.btw0 h _ (key _ (by simp only [List.mem_cons, List.not_mem_nil, or_false]; rintro x (rfl | rfl | rfl | rfl | rfl | rfl) <;> rfl))]
    rfl
  have hn : (andS L nx d st).2 = S := by
    show (rowL L (cmpS L nx d) _ L.length (cmpS L nx d st).1 (cmpS L nx d st).2).2 = S
    rw [hc, W.row0 h _ _ (key _ (by simp only [List.mem_cons, List.not_mem_nil, or_false]; rintro x rfl; rfl))]
  show (rowL L (andS L nx d) _ L.length (andS L nx d st).1 (andS L nx d st).2).2 = S
  rw [hn, W.row0 h _ _ (key _ (by simp only [List.mem_cons, List.not_mem_nil, or_false]; rintro x (rfl | rfl) <;> rfl))]
theorem add_of {L : List Wd} {nx : Nx} {d : Nat} {st S : St} {k : Nat} {t : List UInt8} (hu : (mulS L nx d st).2 = S) (h : W L S.i = (k, t)) (hs : ([bs [43], bs [45]].any fun o => o.data.toList == t) = false) : (addS L nx d st).2 = S := by
  show (rowL L (mulS L nx d) _ L.length (mulS L nx d st).1 (mulS L nx d st).2).2 = S
  rw [hu, W.row0 h _ _ hs]
/-- All the way up to or. -/
theorem up_or {L : List Wd} {nx : Nx} {d : Nat} {st S : St} {k : Nat} {t : List UInt8} (hu : (unS L nx d st).2 = S) (h : W L S.i = (k, t)) (hs : stopT t = true) : (orS L nx d st).2 = S := by
  exact or_of (add_of (mul_of hu h (stop_m hs)) h (any_no hs [bs [43], bs [45]] (by simp only [List.mem_cons, List.not_mem_nil, or_false]; rintro x (rfl | rfl) <;> rfl))) h hs
theorem up_expr {L : List Wd} {nx : Nx} {d : Nat} {st S : St} {k : Nat} {t : List UInt8} (hu : (orS L nx d st).2 = S) (h : W L S.i = (k, t)) (ht : (t == [45, 62]) = false) : (arrowS L nx d st).2 = S := by
  unfold arrowS
  simp only
  rw [hu, W.btw0 h _ (any_no (f := fun t => !(t == [45, 62])) (by rw [ht]; rfl) _ (by simp only [List.mem_cons, List.not_mem_nil, or_false]; rintro x rfl; rfl))]
  rfl
section
variable {L : List Wd} {S : St} (h : W L S.i = (0, [])) (he : S.er ≠ 0)
include h he
omit h in
theorem end_ask (d : Nat) : askS L d S = S := by
  unfold askS
  split
  · unfold failS; rw [if_neg he]
  · rfl
theorem end_un (nx : Nx) (d : Nat) : (unS L nx d S).2 = S := by
  have hp : (primS L nx d S).2 = S := by
    unfold primS
    rw [end_ask he]
    unfold primB
    simp only
    rw [if_neg (by rw [W.kind h]; decide), if_neg (by rw [W.kind h]; decide)]
    simp only [W.is h]
    rw [if_neg (by decide), if_neg (by decide), if_neg (by decide), if_neg (by decide), if_neg (by decide)]
    unfold failS
    rw [if_neg he]
  unfold unS
  simp only
  rw [end_ask he]
  simp only [W.is h]
  rw [if_neg (by decide), if_neg (by decide)]
  exact hp
end
/-! One name. -/
theorem part_ok {L : List Wd} {i ea nm p k : Nat} {t : List UInt8} (h : W L i = (k, t)) (hk : k ≠ 0) (hp : p < 300) : (partS L ⟨i, 0, ea, nm, p⟩).2 = ⟨i + 1, 0, ea, nm, p + 1⟩ := by
  have e1 : partA L ⟨i, 0, ea, nm, p⟩ = ⟨i, 0, ea, nm, p⟩ := by
    unfold partA
    rw [if_neg (by show ¬ p = 300; omega)]
  have e2 : partB L ⟨i, 0, ea, nm, p⟩ = ⟨i, 0, ea, nm, p + 1⟩ := by unfold partB; rw [e1]
  show nextS L (partB L _) = _
  rw [e2]
  exact W.next (st := ⟨i, 0, ea, nm, p + 1⟩) h hk
theorem part_bad {L : List Wd} {i ea nm : Nat} (hE : W L (L.length - 1) = (0, [])) : ∃ ea', (partS L ⟨i, 0, ea, nm, 300⟩).2 = ⟨L.length - 1, 2, ea', nm, 301⟩ := by
  refine ⟨(cur L ⟨i, 0, ea, nm, 300⟩).at_, ?_⟩
  have e1 : partA L ⟨i, 0, ea, nm, 300⟩ = ⟨L.length - 1, 2, (cur L ⟨i, 0, ea, nm, 300⟩).at_, nm, 300⟩ := by
    unfold partA
    rw [if_pos rfl]
    unfold failS
    rw [if_pos rfl]
  have e2 : partB L ⟨i, 0, ea, nm, 300⟩ = ⟨L.length - 1, 2, (cur L ⟨i, 0, ea, nm, 300⟩).at_, nm, 301⟩ := by unfold partB; rw [e1]
  show nextS L (partB L _) = _
  rw [e2]
  unfold nextS
  rw [if_pos (W.kind (st := ⟨L.length - 1, 2, (cur L ⟨i, 0, ea, nm, 300⟩).at_, nm, 301⟩) hE)]
theorem ask_ok {L : List Wd} {d : Nat} (st : St) (hd : d ≤ 30) : askS L d st = st := by
  unfold askS
  rw [if_neg (by omega)]
theorem ask_bad {L : List Wd} {d i ea nm p : Nat} (hd : 30 < d) : askS L d ⟨i, 0, ea, nm, p⟩ = ⟨L.length - 1, 2, (cur L ⟨i, 0, ea, nm, p⟩).at_, nm, p⟩ := by
  unfold askS
  rw [if_pos hd]
  unfold failS
  rw [if_pos rfl]
/-- A name with no bracket behind it. -/
theorem un_name {L : List Wd} {nx : Nx} {d i ea nm p k : Nat} {t : List UInt8} (h : W L i = (1, [97])) (h1 : W L (i + 1) = (k, t)) (ht : (t == [40]) = false) (hd : d ≤ 30) (hp : p < 300) : (unS L nx d ⟨i, 0, ea, nm, p⟩).2 = ⟨i + 1, 0, ea, nm, p + 1⟩ := by
  have hs := part_ok (ea := ea) (nm := nm) h (by decide) hp
  have hn : (namedS L nx ⟨i, 0, ea, nm, p⟩).2 = ⟨i + 1, 0, ea, nm, p + 1⟩ := by
    unfold namedS
    simp only
    rw [hs, if_neg (by rw [W.is (st := ⟨i + 1, 0, ea, nm, p + 1⟩) h1]; show ¬ ((t == [40]) = true); rw [ht]; decide)]
  unfold unS
  simp only
  rw [ask_ok _ hd]
  simp only [W.is (st := ⟨i, 0, ea, nm, p⟩) h]
  rw [if_neg (by decide), if_neg (by decide)]
  unfold primS
  rw [ask_ok _ hd]
  unfold primB
  simp only
  rw [if_neg (by rw [W.kind (st := ⟨i, 0, ea, nm, p⟩) h]; decide), if_pos (W.kind (st := ⟨i, 0, ea, nm, p⟩) h)]
  exact hn
/-- One name more than there may be parts. -/
theorem un_full {L : List Wd} {nx : Nx} {d i ea nm : Nat} (h : W L i = (1, [97])) (hE : W L (L.length - 1) = (0, [])) (hd : d ≤ 30) : ∃ ea', (unS L nx d ⟨i, 0, ea, nm, 300⟩).2 = ⟨L.length - 1, 2, ea', nm, 301⟩ := by
  obtain ⟨ea', hs⟩ := part_bad (i := i) (ea := ea) (nm := nm) hE
  refine ⟨ea', ?_⟩
  have hn : (namedS L nx ⟨i, 0, ea, nm, 300⟩).2 = ⟨L.length - 1, 2, ea', nm, 301⟩ := by
    unfold namedS
    simp only
    rw [hs, if_neg (by rw [W.is (st := ⟨L.length - 1, 2, ea', nm, 301⟩) hE]; decide)]
  unfold unS
  simp only
  rw [ask_ok _ hd]
  simp only [W.is (st := ⟨i, 0, ea, nm, 300⟩) h]
  rw [if_neg (by decide), if_neg (by decide)]
  unfold primS
  rw [ask_ok _ hd]
  unfold primB
  simp only
  rw [if_neg (by rw [W.kind (st := ⟨i, 0, ea, nm, 300⟩) h]; decide), if_pos (W.kind (st := ⟨i, 0, ea, nm, 300⟩) h)]
  exact hn
/-- Too deep. -/
theorem un_deep {L : List Wd} {nx : Nx} {d i ea nm p : Nat} (hE : W L (L.length - 1) = (0, [])) (hd : 30 < d) : ∃ ea', (unS L nx d ⟨i, 0, ea, nm, p⟩).2 = ⟨L.length - 1, 2, ea', nm, p⟩ := by
  refine ⟨(cur L ⟨i, 0, ea, nm, p⟩).at_, ?_⟩
  have e := end_un (S := ⟨L.length - 1, 2, (cur L ⟨i, 0, ea, nm, p⟩).at_, nm, p⟩) hE two_ne nx d
  have ea1 := end_ask (L := L) (S := ⟨L.length - 1, 2, (cur L ⟨i, 0, ea, nm, p⟩).at_, nm, p⟩) two_ne d
  unfold unS at e ⊢
  simp only at e ⊢
  rw [ea1] at e
  rw [ask_bad hd]
  exact e
end Go.Proofs.YtfgjgnfbhfhkjaaGreatDoor

namespace Go.Proofs.YtfgjgnfbhfhkjaaGreatDoor
open Go Go.RowKit
theorem repW_at (s z : List (Nat × List UInt8)) : ∀ (n j r : Nat), j < n → r < s.length → (repW n s ++ z).getD (s.length * j + r) (0, []) = s.getD r (0, [])
  | 0, j, r, h, _ => absurd h (Nat.not_lt_zero _)
  | n + 1, 0, r, _, hr => by
    show ((s ++ repW n s) ++ z).getD _ _ = _
    rw [List.append_assoc, List.getD_eq_getElem?_getD, Nat.mul_zero, Nat.zero_add, List.getElem?_append_left hr, List.getD_eq_getElem?_getD]
  | n + 1, j + 1, r, h, hr => by
    show ((s ++ repW n s) ++ z).getD _ _ = _
    have e : s.length * (j + 1) + r - s.length = s.length * j + r := by rw [Nat.mul_succ]; omega
    rw [List.append_assoc, List.getD_eq_getElem?_getD, List.getElem?_append_right (by rw [Nat.mul_succ]; omega), e, ← List.getD_eq_getElem?_getD]
    exact repW_at s z n j r (by omega) hr
theorem repW_end (s z : List (Nat × List UInt8)) (n r : Nat) : (repW n s ++ z).getD (s.length * n + r) (0, []) = z.getD r (0, []) := by
  have hl : (repW n s).length = s.length * n := by rw [repW_len, Nat.mul_comm]
  rw [List.getD_eq_getElem?_getD, List.getElem?_append_right (by omega), List.getD_eq_getElem?_getD, hl, show s.length * n + r - s.length * n = r by omega]
def nsA : List UInt8 := [110, 111, 100, 101, 32, 102, 40, 41, 32, 114, 101, 116, 117, 114, 110, 115, 32, 40, 121, 58, 32, 105, 110, 116, 41, 59, 32, 108, 101, 116, 32, 121, 32, 61, 32]
def nsW : List (Nat × List UInt8) := [(2, [110, 111, 100, 101]), (1, [102]), (4, [40]), (4, [41]), (2, [114, 101, 116, 117, 114, 110, 115]), (4, [40]), (1, [121]), (4, [58]), (2, [105, 110, 116]), (4, [41]), (4, [59]), (2, [108, 101, 116]), (1, [121]), (4, [61])]
def nsZ : List UInt8 := [59, 32, 116, 101, 108]
def nsTl : List (Nat × List UInt8) := [(4, [59]), (2, [116, 101, 108]), (0, [])]
theorem lex_ns {R : List UInt8} {ws : List (Nat × List UInt8)} (hR : (∃ r, R = 97 :: r) ∨ (∃ r, R = 40 :: r) ∨ ∃ r, R = 112 :: r) (h : LexR R ws) : LexR (nsA ++ R) (nsW ++ ws) := by
  have s13 : LexR ([61, 32] ++ R) ((4, [61]) :: ws) := by
    rcases hR with ⟨r, rfl⟩ | ⟨r, rfl⟩ | ⟨r, rfl⟩
    · exact LexR.cons 4 1 (by simp) rfl (by decide) rfl rfl h
    · exact LexR.cons 4 1 (by simp) rfl (by decide) rfl rfl h
    · exact LexR.cons 4 1 (by simp) rfl (by decide) rfl rfl h
  have s12 : LexR ([121, 32, 61, 32] ++ R) ((1, [121]) :: (4, [61]) :: ws) := LexR.cons 1 1 (by simp) rfl (by decide) rfl rfl s13
  have s11 : LexR ([108, 101, 116, 32, 121, 32, 61, 32] ++ R) ((2, [108, 101, 116]) :: (1, [121]) :: (4, [61]) :: ws) := LexR.cons 2 3 (by simp) rfl (by decide) rfl rfl s12
  have s10 : LexR ([59, 32, 108, 101, 116, 32, 121, 32, 61, 32] ++ R) ((4, [59]) :: (2, [108, 101, 116]) :: (1, [121]) :: (4, [61]) :: ws) := LexR.cons 4 1 (by simp) rfl (by decide) rfl rfl s11
  have s9 : LexR ([41, 59, 32, 108, 101, 116, 32, 121, 32, 61, 32] ++ R) ((4, [41]) :: (4, [59]) :: (2, [108, 101, 116]) :: (1, [121]) :: (4, [61]) :: ws) := LexR.cons 4 1 (by simp) rfl (by decide) rfl rfl s10
  have s8 : LexR ([105, 110, 116, 41, 59, 32, 108, 101, 116, 32, 121, 32, 61, 32] ++ R) ((2, [105, 110, 116]) :: (4, [41]) :: (4, [59]) :: (2, [108, 101, 116]) :: (1, [121]) :: (4, [61]) :: ws) := LexR.cons 2 3 (by simp) rfl (by decide) rfl rfl s9
  have s7 : LexR ([58, 32, 105, 110, 116, 41, 59, 32, 108, 101, 116, 32, 121, 32, 61, 32] ++ R) ((4, [58]) :: (2, [105, 110, 116]) :: (4, [41]) :: (4, [59]) :: (2, [108, 101, 116]) :: (1, [121]) :: (4, [61]) :: ws) := LexR.cons 4 1 (by simp) rfl (by decide) rfl rfl s8
  have s6 : LexR ([121, 58, 32, 105, 110, 116, 41, 59, 32, 108, 101, 116, 32, 121, 32, 61, 32] ++ R) ((1, [121]) :: (4, [58]) :: (2, [105, 110, 116]) :: (4, [41]) :: (4, [59]) :: (2, [108, 101, 116]) :: (1, [121]) :: (4, [61]) :: ws) := LexR.cons 1 1 (by simp) rfl (by decide) rfl rfl s7
  have s5 : LexR ([40, 121, 58, 32, 105, 110, 116, 41, 59, 32, 108, 101, 116, 32, 121, 32, 61, 32] ++ R) ((4, [40]) :: (1, [121]) :: (4, [58]) :: (2, [105, 110, 116]) :: (4, [41]) :: (4, [59]) :: (2, [108, 101, 116]) :: (1, [121]) :: (4, [61]) :: ws) := LexR.cons 4 1 (by simp) rfl (by decide) rfl rfl s6
  have s4 : LexR ([114, 101, 116, 117, 114, 110, 115, 32, 40, 121, 58, 32, 105, 110, 116, 41, 59, 32, 108, 101, 116, 32, 121, 32, 61, 32] ++ R) ((2, [114, 101, 116, 117, 114, 110, 115]) :: (4, [40]) :: (1, [121]) :: (4, [58]) :: (2, [105, 110, 116]) :: (4, [41]) :: (4, [59]) :: (2, [108, 101, 116]) :: (1, [121]) :: (4, [61]) :: ws) := LexR.cons 2 7 (by simp) rfl (by decide) rfl rfl s5
  have s3 : LexR ([41, 32, 114, 101, 116, 117, 114, 110, 115, 32, 40, 121, 58, 32, 105, 110, 116, 41, 59, 32, 108, 101, 116, 32, 121, 32, 61, 32] ++ R) ((4, [41]) :: (2, [114, 101, 116, 117, 114, 110, 115]) :: (4, [40]) :: (1, [121]) :: (4, [58]) :: (2, [105, 110, 116]) :: (4, [41]) :: (4, [59]) :: (2, [108, 101, 116]) :: (1, [121]) :: (4, [61]) :: ws) := LexR.cons 4 1 (by simp) rfl (by decide) rfl rfl s4
  have s2 : LexR ([40, 41, 32, 114, 101, 116, 117, 114, 110, 115, 32, 40, 121, 58, 32, 105, 110, 116, 41, 59, 32, 108, 101, 116, 32, 121, 32, 61, 32] ++ R) ((4, [40]) :: (4, [41]) :: (2, [114, 101, 116, 117, 114, 110, 115]) :: (4, [40]) :: (1, [121]) :: (4, [58]) :: (2, [105, 110, 116]) :: (4, [41]) :: (4, [59]) :: (2, [108, 101, 116]) :: (1, [121]) :: (4, [61]) :: ws) := LexR.cons 4 1 (by simp) rfl (by decide) rfl rfl s3
  have s1 : LexR ([102, 40, 41, 32, 114, 101, 116, 117, 114, 110, 115, 32, 40, 121, 58, 32, 105, 110, 116, 41, 59, 32, 108, 101, 116, 32, 121, 32, 61, 32] ++ R) ((1, [102]) :: (4, [40]) :: (4, [41]) :: (2, [114, 101, 116, 117, 114, 110, 115]) :: (4, [40]) :: (1, [121]) :: (4, [58]) :: (2, [105, 110, 116]) :: (4, [41]) :: (4, [59]) :: (2, [108, 101, 116]) :: (1, [121]) :: (4, [61]) :: ws) := LexR.cons 1 1 (by simp) rfl (by decide) rfl rfl s2
  have s0 : LexR ([110, 111, 100, 101, 32, 102, 40, 41, 32, 114, 101, 116, 117, 114, 110, 115, 32, 40, 121, 58, 32, 105, 110, 116, 41, 59, 32, 108, 101, 116, 32, 121, 32, 61, 32] ++ R) ((2, [110, 111, 100, 101]) :: (1, [102]) :: (4, [40]) :: (4, [41]) :: (2, [114, 101, 116, 117, 114, 110, 115]) :: (4, [40]) :: (1, [121]) :: (4, [58]) :: (2, [105, 110, 116]) :: (4, [41]) :: (4, [59]) :: (2, [108, 101, 116]) :: (1, [121]) :: (4, [61]) :: ws) := LexR.cons 2 4 (by simp) rfl (by decide) rfl rfl s1
  exact s0
theorem lex_ntl : LexR nsZ nsTl := by
  have s1 : LexR [116, 101, 108] [(2, [116, 101, 108]), (0, [])] := LexR.cons 2 3 (by simp) rfl (by decide) rfl rfl LexR.nil
  exact LexR.cons 4 1 (by decide) rfl (by decide) rfl rfl s1
theorem lex_a {R : List UInt8} {ws : List (Nat × List UInt8)} (hR : (∃ r, R = 59 :: r) ∨ ∃ r, R = 41 :: r) (h : LexR R ws) : LexR (97 :: R) ((1, [97]) :: ws) := by
  rcases hR with ⟨r, rfl⟩ | ⟨r, rfl⟩
  · exact LexR.cons 1 1 (by simp) rfl (by decide) rfl rfl h
  · exact LexR.cons 1 1 (by simp) rfl (by decide) rfl rfl h
theorem lex_end : LexR (97 :: nsZ) ((1, [97]) :: nsTl) := lex_a (.inl ⟨_, rfl⟩) lex_ntl
/-- 'a + a + .. a' -/
theorem lex_plus : ∀ n, LexR (rep n [97, 32, 43, 32] ++ 97 :: nsZ) (repW n [(1, [97]), (4, [43])] ++ (1, [97]) :: nsTl) ∧ ∃ r, rep n [97, 32, 43, 32] ++ 97 :: nsZ = 97 :: r
  | 0 => ⟨lex_end, _, rfl⟩
  | n + 1 => by
    obtain ⟨h, r, hr⟩ := lex_plus n
    refine ⟨?_, _, rfl⟩
    show LexR (97 :: 32 :: 43 :: 32 :: (rep n [97, 32, 43, 32] ++ 97 :: nsZ)) ((1, [97]) :: (4, [43]) :: (repW n [(1, [97]), (4, [43])] ++ (1, [97]) :: nsTl))
    rw [hr] at h ⊢
    have s1 : LexR (43 :: 32 :: 97 :: r) ((4, [43]) :: (repW n [(1, [97]), (4, [43])] ++ (1, [97]) :: nsTl)) := LexR.cons 4 1 (by simp) rfl (by decide) rfl rfl h
    exact LexR.cons 1 1 (by simp) rfl (by decide) rfl rfl s1
/-- 'a -> a -> .. a' -/
theorem lex_arr : ∀ n, LexR (rep n [97, 32, 45, 62, 32] ++ 97 :: nsZ) (repW n [(1, [97]), (4, [45, 62])] ++ (1, [97]) :: nsTl) ∧ ∃ r, rep n [97, 32, 45, 62, 32] ++ 97 :: nsZ = 97 :: r
  | 0 => ⟨lex_end, _, rfl⟩
  | n + 1 => by
    obtain ⟨h, r, hr⟩ := lex_arr n
    refine ⟨?_, _, rfl⟩
    show LexR (97 :: 32 :: 45 :: 62 :: 32 :: (rep n [97, 32, 45, 62, 32] ++ 97 :: nsZ)) ((1, [97]) :: (4, [45, 62]) :: (repW n [(1, [97]), (4, [45, 62])] ++ (1, [97]) :: nsTl))
    rw [hr] at h ⊢
    have s1 : LexR (45 :: 62 :: 32 :: 97 :: r) ((4, [45, 62]) :: (repW n [(1, [97]), (4, [45, 62])] ++ (1, [97]) :: nsTl)) := LexR.cons 4 2 (by simp) rfl (by decide) rfl rfl h
    exact LexR.cons 1 1 (by simp) rfl (by decide) rfl rfl s1
/-- 'pre pre .. a' -/
theorem lex_pre : ∀ n, LexR (rep n [112, 114, 101, 32] ++ 97 :: nsZ) (repW n [(2, [112, 114, 101])] ++ (1, [97]) :: nsTl) ∧ ((∃ r, rep n [112, 114, 101, 32] ++ 97 :: nsZ = 97 :: r) ∨ ∃ r, rep n [112, 114, 101, 32] ++ 97 :: nsZ = 112 :: r)
  | 0 => ⟨lex_end, .inl ⟨_, rfl⟩⟩
  | n + 1 => by
    obtain ⟨h, hr⟩ := lex_pre n
    refine ⟨?_, .inr ⟨_, rfl⟩⟩
    show LexR (112 :: 114 :: 101 :: 32 :: (rep n [112, 114, 101, 32] ++ 97 :: nsZ)) ((2, [112, 114, 101]) :: (repW n [(2, [112, 114, 101])] ++ (1, [97]) :: nsTl))
    rcases hr with ⟨r, hr⟩ | ⟨r, hr⟩ <;> rw [hr] at h ⊢ <;> exact LexR.cons 2 3 (by simp) rfl (by decide) rfl rfl h
/-- '((a))' -/
theorem lex_cl : ∀ n, LexR (rep n [41] ++ nsZ) (repW n [(4, [41])] ++ nsTl) ∧ ((∃ r, rep n [41] ++ nsZ = 59 :: r) ∨ ∃ r, rep n [41] ++ nsZ = 41 :: r)
  | 0 => ⟨lex_ntl, .inl ⟨_, rfl⟩⟩
  | n + 1 => by
    obtain ⟨h, hr⟩ := lex_cl n
    refine ⟨?_, .inr ⟨_, rfl⟩⟩
    show LexR (41 :: (rep n [41] ++ nsZ)) ((4, [41]) :: (repW n [(4, [41])] ++ nsTl))
    rcases hr with ⟨r, hr⟩ | ⟨r, hr⟩ <;> rw [hr] at h ⊢ <;> exact LexR.cons 4 1 (by simp) rfl (by decide) rfl rfl h
theorem lex_op (m : Nat) : ∀ n, LexR (rep n [40] ++ 97 :: (rep m [41] ++ nsZ)) (repW n [(4, [40])] ++ (1, [97]) :: (repW m [(4, [41])] ++ nsTl)) ∧ ((∃ r, rep n [40] ++ 97 :: (rep m [41] ++ nsZ) = 97 :: r) ∨ ∃ r, rep n [40] ++ 97 :: (rep m [41] ++ nsZ) = 40 :: r)
  | 0 => ⟨lex_a (lex_cl m).2 (lex_cl m).1, .inl ⟨_, rfl⟩⟩
  | n + 1 => by
    obtain ⟨h, hr⟩ := lex_op m n
    refine ⟨?_, .inr ⟨_, rfl⟩⟩
    show LexR (40 :: (rep n [40] ++ 97 :: (rep m [41] ++ nsZ))) ((4, [40]) :: (repW n [(4, [40])] ++ (1, [97]) :: (repW m [(4, [41])] ++ nsTl)))
    rcases hr with ⟨r, hr⟩ | ⟨r, hr⟩ <;> rw [hr] at h ⊢ <;> exact LexR.cons 4 1 (by simp) rfl (by decide) rfl rfl h
/-! How they are read. -/
theorem un_pre {L : List Wd} {nx : Nx} {d i ea nm p : Nat} (h : W L i = (2, [112, 114, 101])) (hd : d ≤ 30) (hp : p < 300) : (unS L nx d ⟨i, 0, ea, nm, p⟩).2 = (nx.un ⟨i + 1, 0, ea, nm, p + 1⟩).2 := by
  have hs := part_ok (ea := ea) (nm := nm) h (by decide) hp
  unfold unS
  simp only
  rw [ask_ok _ hd]
  simp only [W.is (st := ⟨i, 0, ea, nm, p⟩) h]
  rw [if_pos (by decide), hs]
theorem un_br {L : List Wd} {nx : Nx} {d i ea nm p : Nat} (h : W L i = (4, [40])) (hd : d ≤ 30) : (unS L nx d ⟨i, 0, ea, nm, p⟩).2 = needS L (bs [41]) (nx.expr ⟨i + 1, 0, ea, nm, p⟩).2 := by
  unfold unS
  simp only
  rw [ask_ok _ hd]
  simp only [W.is (st := ⟨i, 0, ea, nm, p⟩) h]
  rw [if_neg (by decide), if_neg (by decide)]
  unfold primS
  rw [ask_ok _ hd]
  unfold primB
  simp only
  rw [if_neg (by rw [W.kind (st := ⟨i, 0, ea, nm, p⟩) h]; decide), if_neg (by rw [W.kind (st := ⟨i, 0, ea, nm, p⟩) h]; decide)]
  simp only [W.is (st := ⟨i, 0, ea, nm, p⟩) h]
  rw [if_neg (by decide), if_neg (by decide), if_pos (by decide)]
  unfold bracketedS
  simp only
  rw [W.next (st := ⟨i, 0, ea, nm, p⟩) h (by decide)]
/-- Is the state so far, or at the end behind the limit's fault? -/
def At (L : List Wd) (ok : Prop) [Decidable ok] (S : St) (i ea nm p : Nat) : Prop := ∃ ea' p', S = if ok then ⟨i, 0, ea, nm, p⟩ else ⟨L.length - 1, 2, ea', nm, p'⟩
theorem At.up {L : List Wd} {ok : Prop} [Decidable ok] {nx : Nx} {d : Nat} {st : St} {i ea nm p k : Nat} {t : List UInt8} (hE : W L (L.length - 1) = (0, [])) (hu : At L ok (unS L nx d st).2 i ea nm p) (h : W L i = (k, t)) (hs : stopT t = true) : At L ok (orS L nx d st).2 i ea nm p := by
  obtain ⟨ea', p', hu⟩ := hu
  refine ⟨ea', p', ?_⟩
  by_cases hk : ok
  · rw [if_pos hk] at hu ⊢
    exact up_or hu h hs
  · rw [if_neg hk] at hu ⊢
    exact up_or hu hE (by decide)
theorem At.expr {L : List Wd} {ok : Prop} [Decidable ok] {nx : Nx} {d : Nat} {st : St} {i ea nm p k : Nat} {t : List UInt8} (hE : W L (L.length - 1) = (0, [])) (hu : At L ok (orS L nx d st).2 i ea nm p) (h : W L i = (k, t)) (ht : (t == [45, 62]) = false) : At L ok (arrowS L nx d st).2 i ea nm p := by
  obtain ⟨ea', p', hu⟩ := hu
  refine ⟨ea', p', ?_⟩
  by_cases hk : ok
  · rw [if_pos hk] at hu ⊢
    exact up_expr hu h ht
  · rw [if_neg hk] at hu ⊢
    exact up_expr hu hE (by decide)
theorem at_no {L : List Wd} {ok : Prop} [Decidable ok] (hno : ¬ ok) {S : St} {i ea nm p ea' p' : Nat} (h : S = ⟨L.length - 1, 2, ea', nm, p'⟩) : At L ok S i ea nm p := ⟨ea', p', by rw [if_neg hno]; exact h⟩
theorem at_yes {L : List Wd} {ok : Prop} [Decidable ok] (hy : ok) {S : St} {i ea nm p : Nat} (h : S = ⟨i, 0, ea, nm, p⟩) : At L ok S i ea nm p := ⟨0, 0, by rw [if_pos hy]; exact h⟩
theorem At.cast {L : List Wd} {ok ok' : Prop} [Decidable ok] [Decidable ok'] {S : St} {i i' ea nm p p' : Nat} (h : At L ok S i ea nm p) (ho : ok ↔ ok') (hi : i = i') (hp : p = p') : At L ok' S i' ea nm p' := by
  subst hi hp
  obtain ⟨a, c, h⟩ := h
  refine ⟨a, c, ?_⟩
  rw [h]
  by_cases hk : ok
  · rw [if_pos hk, if_pos (ho.1 hk)]
  · rw [if_neg hk, if_neg (fun e => hk (ho.2 e))]
theorem pre_un {L : List Wd} (hE : W L (L.length - 1) = (0, [])) {q : Nat} {t : List UInt8} (ht : (t == [40]) = false) : ∀ (m k i ea nm p : Nat), k ≤ 30 → p + k < 200 → (∀ j, j < m → W L (i + j) = (2, [112, 114, 101])) → W L (i + m) = (1, [97]) → W L (i + m + 1) = (q, t) → At L (31 - k + m ≤ 30) (unS L (nxAt L k) (31 - k) ⟨i, 0, ea, nm, p⟩).2 (i + m + 1) ea nm (p + m + 1)
  | m, k, i, ea, nm, p, hk, hp, hw, ha, ht1 => by
    by_cases hd : 30 < 31 - k
    · obtain ⟨ea', h⟩ := un_deep (nx := nxAt L k) (i := i) (ea := ea) (nm := nm) (p := p) hE hd
      exact at_no (by omega) h
    · cases m with
      | zero => exact at_yes (by omega) (un_name ha ht1 ht (by omega) (by omega))
      | succ m =>
        obtain ⟨k', rfl⟩ : ∃ k', k = k' + 1 := ⟨k - 1, by omega⟩
        rw [un_pre (by have := hw 0 (by omega); simpa using this) (by omega) (by omega)]
        show At L _ (unS L (nxAt L k') (31 - k') ⟨i + 1, 0, ea, nm, p + 1⟩).2 _ _ _ _
        refine (pre_un hE ht m k' (i + 1) ea nm (p + 1) (by omega) (by omega) (fun j hj => by have := hw (j + 1) (by omega); rwa [show i + 1 + j = i + (j + 1) by omega]) (by rwa [show i + 1 + m = i + (m + 1) by omega]) (by rwa [show i + 1 + m + 1 = i + (m + 1) + 1 by omega])).cast (by omega) (by omega) (by omega)
theorem br_expr {L : List Wd} (hE : W L (L.length - 1) = (0, [])) : ∀ (m k i ea nm p q : Nat) (t : List UInt8), stopT t = true → (t == [45, 62]) = false → (t == [40]) = false → k ≤ 30 → p < 300 → (∀ j, j < m → W L (i + j) = (4, [40])) → W L (i + m) = (1, [97]) → (∀ j, j < m → W L (i + m + 1 + j) = (4, [41])) → W L (i + 2 * m + 1) = (q, t) → At L (31 - k + m ≤ 30) (arrowS L (nxAt L k) (31 - k) ⟨i, 0, ea, nm, p⟩).2 (i + 2 * m + 1) ea nm (p + 1)
  | m, k, i, ea, nm, p, q, t, hs, ht, ht2, hk, hp, hw, ha, hc, hz => by
    refine At.expr hE (At.up hE ?_ hz hs) hz ht
    by_cases hd : 30 < 31 - k
    · obtain ⟨ea', h⟩ := un_deep (nx := nxAt L k) (i := i) (ea := ea) (nm := nm) (p := p) hE hd
      exact at_no (by omega) h
    · cases m with
      | zero => exact at_yes (by omega) (un_name ha hz ht2 (by omega) hp)
      | succ m =>
        obtain ⟨k', rfl⟩ : ∃ k', k = k' + 1 := ⟨k - 1, by omega⟩
        rw [un_br (by have := hw 0 (by omega); simpa using this) (by omega)]
        obtain ⟨ea', p', h⟩ := br_expr hE m k' (i + 1) ea nm p 4 [41] (by decide) (by decide) (by decide) (by omega) hp (fun j hj => by have := hw (j + 1) (by omega); rwa [show i + 1 + j = i + (j + 1) by omega]) (by rwa [show i + 1 + m = i + (m + 1) by omega]) (fun j hj => by have := hc j (by omega); rwa [show i + 1 + m + 1 + j = i + (m + 1) + 1 + j by omega]) (by have := hc m (by omega); rwa [show i + 1 + 2 * m + 1 = i + (m + 1) + 1 + m by omega])
        show At L _ (needS L (bs [41]) (arrowS L (nxAt L k') (31 - k') ⟨i + 1, 0, ea, nm, p⟩).2) _ _ _ _
        rw [h]
        by_cases hok : 31 - k' + m ≤ 30
        · rw [if_pos hok, W.need (st := ⟨i + 1 + 2 * m + 1, 0, ea, nm, p + 1⟩) (k := 4) (t := [41]) (by have := hc m (by omega); rwa [show i + 1 + 2 * m + 1 = i + (m + 1) + 1 + m by omega]) (by decide) _ rfl]
          exact at_yes (by omega) (by show (⟨i + 1 + 2 * m + 1 + 1, 0, ea, nm, p + 1⟩ : St) = _; rw [show i + 1 + 2 * m + 1 + 1 = i + 2 * (m + 1) + 1 by omega])
        · rw [if_neg hok, W.end_need (st := ⟨L.length - 1, 2, ea', nm, p'⟩) hE two_ne _ rfl]
          exact at_no (by omega) rfl
theorem arr_deep {L : List Wd} (hE : W L (L.length - 1) = (0, [])) {ok : Prop} [Decidable ok] {nx : Nx} {d i ea nm p i' p' : Nat} (hd : 30 < d) (hno : ¬ ok) : At L ok (arrowS L nx d ⟨i, 0, ea, nm, p⟩).2 i' ea nm p' := by
  obtain ⟨ea', h⟩ := un_deep (nx := nx) (i := i) (ea := ea) (nm := nm) (p := p) hE hd
  exact at_no hno (up_expr (up_or h hE (by decide)) hE (by decide))
theorem arr_step {L : List Wd} {nx : Nx} {d i ea nm p : Nat} (hd : d ≤ 30) (hp : p < 200) (h0 : W L i = (1, [97])) (h1 : W L (i + 1) = (4, [45, 62])) : (arrowS L nx d ⟨i, 0, ea, nm, p⟩).2 = (nx.expr ⟨i + 1 + 1, 0, ea, nm, p + 1 + 1⟩).2 := by
  have ho : (orS L nx d ⟨i, 0, ea, nm, p⟩).2 = ⟨i + 1, 0, ea, nm, p + 1⟩ := up_or (un_name h0 h1 (by decide) hd (by omega)) h1 (by decide)
  have hp2 := part_ok (ea := ea) (nm := nm) (p := p + 1) h1 (by decide) (by omega)
  unfold arrowS
  simp only
  rw [ho, W.btw1 (S := ⟨i + 1, 0, ea, nm, p + 1⟩) h1 _ (by decide)]
  simp only
  rw [hp2]
  rfl
theorem arr_expr {L : List Wd} (hE : W L (L.length - 1) = (0, [])) {q : Nat} {t : List UInt8} (hs : stopT t = true) (ht : (t == [45, 62]) = false) (ht2 : (t == [40]) = false) (m : Nat) : ∀ (k i ea nm p : Nat), k ≤ 30 → p + 2 * k < 190 → (∀ j, j < m → W L (i + 2 * j) = (1, [97]) ∧ W L (i + 2 * j + 1) = (4, [45, 62])) → W L (i + 2 * m) = (1, [97]) → W L (i + 2 * m + 1) = (q, t) → At L (31 - k + m ≤ 30) (arrowS L (nxAt L k) (31 - k) ⟨i, 0, ea, nm, p⟩).2 (i + 2 * m + 1) ea nm (p + 2 * m + 1) := by
  induction m with
  | zero =>
    intro k i ea nm p hk hp hw ha hz
    by_cases hd : 30 < 31 - k
    · exact arr_deep hE hd (by omega)
    · exact at_yes (by omega) (up_expr (up_or (un_name ha hz ht2 (by omega) (by omega)) hz hs) hz ht)
  | succ m ih =>
    intro k i ea nm p hk hp hw ha hz
    by_cases hd : 30 < 31 - k
    · exact arr_deep hE hd (by omega)
    · obtain ⟨k', rfl⟩ : ∃ k', k = k' + 1 := ⟨k - 1, by omega⟩
      have h0 : W L i = (1, [97]) := by simpa using (hw 0 (by omega)).1
      have h1 : W L (i + 1) = (4, [45, 62]) := by simpa using (hw 0 (by omega)).2
      rw [arr_step (by omega) (by omega) h0 h1]
      show At L _ (arrowS L (nxAt L k') (31 - k') ⟨i + 1 + 1, 0, ea, nm, p + 1 + 1⟩).2 _ _ _ _
      refine (ih k' (i + 1 + 1) ea nm (p + 1 + 1) (by omega) (by omega) (fun j hj => by have := hw (j + 1) (by omega); rwa [show i + 1 + 1 + 2 * j = i + 2 * (j + 1) by omega]) (by rwa [show i + 1 + 1 + 2 * m = i + 2 * (m + 1) by omega]) (by rwa [show i + 1 + 1 + 2 * m + 1 = i + 2 * (m + 1) + 1 by omega])).cast (by omega) (by omega) (by omega)
/-! A row of names with + between: how many parts. -/
theorem row_end {L : List Wd} (hE : W L (L.length - 1) = (0, [])) {nx : Nx} {d f ea nm p : Nat} {e : Ex} : (rowL L (mulS L nx d) [bs [43], bs [45]] f e (mulS L nx d ⟨L.length - 1, 2, ea, nm, p⟩).2).2 = ⟨L.length - 1, 2, ea, nm, p⟩ := by
  have hm : (mulS L nx d ⟨L.length - 1, 2, ea, nm, p⟩).2 = ⟨L.length - 1, 2, ea, nm, p⟩ := mul_of (end_un (S := ⟨L.length - 1, 2, ea, nm, p⟩) hE two_ne nx d) hE (by decide)
  rw [hm, W.row0 (S := ⟨L.length - 1, 2, ea, nm, p⟩) hE _ _ (by decide)]
theorem row_step {L : List Wd} {nx : Nx} {d f i ea nm p : Nat} {e : Ex} (h0 : W L i = (4, [43])) : ∃ e', (rowL L (mulS L nx d) [bs [43], bs [45]] (f + 1) e ⟨i, 0, ea, nm, p⟩).2 = (rowL L (mulS L nx d) [bs [43], bs [45]] f e' (mulS L nx d (partS L ⟨i, 0, ea, nm, p⟩).2).2).2 := by
  refine ⟨twoS (partS L ⟨i, 0, ea, nm, p⟩).1 e (mulS L nx d (partS L ⟨i, 0, ea, nm, p⟩).2).1, ?_⟩
  conv => lhs; unfold rowL
  simp only
  rw [W.btw1 (S := ⟨i, 0, ea, nm, p⟩) h0 _ (by decide)]
  rfl
theorem row_plus {L : List Wd} (hE : W L (L.length - 1) = (0, [])) {nx : Nx} {d q : Nat} {t : List UInt8} (hd : d ≤ 30) (hs : stopT t = true) (ht2 : (t == [40]) = false) (m : Nat) : ∀ (f i ea nm p : Nat) (e : Ex), m < f → p ≤ 300 → (∀ j, j < m → W L (i + 2 * j) = (4, [43]) ∧ W L (i + 2 * j + 1) = (1, [97])) → W L (i + 2 * m) = (q, t) → At L (p + 2 * m ≤ 300) (rowL L (mulS L nx d) [bs [43], bs [45]] f e ⟨i, 0, ea, nm, p⟩).2 (i + 2 * m) ea nm (p + 2 * m) := by
  induction m with
  | zero =>
    intro f i ea nm p e hf hp hw hz
    rw [W.row0 (S := ⟨i, 0, ea, nm, p⟩) hz _ _ (any_no hs [bs [43], bs [45]] (by simp only [List.mem_cons, List.not_mem_nil, or_false]; rintro x (rfl | rfl) <;> rfl))]
    exact at_yes (by omega) rfl
  | succ m ih =>
    intro f i ea nm p e hf hp hw hz
    obtain ⟨f', rfl⟩ : ∃ f', f = f' + 1 := ⟨f - 1, by omega⟩
    have h0 : W L i = (4, [43]) := by simpa using (hw 0 (by omega)).1
    have h1 : W L (i + 1) = (1, [97]) := by simpa using (hw 0 (by omega)).2
    obtain ⟨e', he⟩ := row_step (nx := nx) (d := d) (f := f') (ea := ea) (nm := nm) (p := p) (e := e) h0
    rw [he]
    by_cases hp3 : p = 300
    · subst hp3
      obtain ⟨ea', hb⟩ := part_bad (i := i) (ea := ea) (nm := nm) hE
      rw [hb, row_end hE]
      exact at_no (by omega) rfl
    · rw [part_ok h0 (by decide) (by omega)]
      obtain ⟨k2, t2, h2, hs2, hb2⟩ : ∃ k2 t2, W L (i + 1 + 1) = (k2, t2) ∧ stopM t2 = true ∧ (t2 == [40]) = false := by
        cases m with
        | zero => exact ⟨q, t, by rwa [show i + 1 + 1 = i + 2 * (0 + 1) by omega], stop_m hs, ht2⟩
        | succ m => exact ⟨4, [43], by have := (hw 1 (by omega)).1; rwa [show i + 2 * 1 = i + 1 + 1 by omega] at this, by decide, by decide⟩
      by_cases hp4 : p + 1 = 300
      · rw [hp4]
        obtain ⟨ea', hb⟩ := un_full (nx := nx) (d := d) (ea := ea) (nm := nm) h1 hE hd
        have hm : (mulS L nx d ⟨i + 1, 0, ea, nm, 300⟩).2 = ⟨L.length - 1, 2, ea', nm, 301⟩ := mul_of hb hE (by decide)
        rw [hm, W.row0 (S := ⟨L.length - 1, 2, ea', nm, 301⟩) hE _ _ (by decide)]
        exact at_no (by omega) rfl
      · have hm : (mulS L nx d ⟨i + 1, 0, ea, nm, p + 1⟩).2 = ⟨i + 1 + 1, 0, ea, nm, p + 1 + 1⟩ := mul_of (un_name h1 h2 hb2 hd (by omega)) h2 hs2
        rw [hm]
        refine (ih f' (i + 1 + 1) ea nm (p + 1 + 1) e' (by omega) (by omega) (fun j hj => by have := hw (j + 1) (by omega); rwa [show i + 1 + 1 + 2 * j = i + 2 * (j + 1) by omega]) (by rwa [show i + 1 + 1 + 2 * m = i + 2 * (m + 1) by omega])).cast (by omega) (by omega) (by omega)
theorem At.or {L : List Wd} {ok : Prop} [Decidable ok] {nx : Nx} {d : Nat} {st : St} {i ea nm p k : Nat} {t : List UInt8} (hE : W L (L.length - 1) = (0, [])) (hu : At L ok (addS L nx d st).2 i ea nm p) (h : W L i = (k, t)) (hs : stopT t = true) : At L ok (orS L nx d st).2 i ea nm p := by
  obtain ⟨ea', p', hu⟩ := hu
  refine ⟨ea', p', ?_⟩
  by_cases hk : ok
  · rw [if_pos hk] at hu ⊢
    exact or_of hu h hs
  · rw [if_neg hk] at hu ⊢
    exact or_of hu hE (by decide)
theorem plus_expr {L : List Wd} (hE : W L (L.length - 1) = (0, [])) {nx : Nx} {d q : Nat} {t : List UInt8} (hd : d ≤ 30) (hs : stopT t = true) (ht : (t == [45, 62]) = false) (ht2 : (t == [40]) = false) {m i ea nm p : Nat} (hm : m < L.length) (hp : p < 300) (ha : W L i = (1, [97])) (hw : ∀ j, j < m → W L (i + 1 + 2 * j) = (4, [43]) ∧ W L (i + 1 + 2 * j + 1) = (1, [97])) (hz : W L (i + 1 + 2 * m) = (q, t)) : At L (p + 1 + 2 * m ≤ 300) (arrowS L nx d ⟨i, 0, ea, nm, p⟩).2 (i + 1 + 2 * m) ea nm (p + 1 + 2 * m) := by
  refine At.expr hE (At.or hE ?_ hz hs) hz ht
  obtain ⟨k2, t2, h2, hs2, hb2⟩ : ∃ k2 t2, W L (i + 1) = (k2, t2) ∧ stopM t2 = true ∧ (t2 == [40]) = false := by
    cases m with
    | zero => exact ⟨q, t, by simpa using hz, stop_m hs, ht2⟩
    | succ m => exact ⟨4, [43], by simpa using (hw 0 (by omega)).1, by decide, by decide⟩
  have hm1 : (mulS L nx d ⟨i, 0, ea, nm, p⟩).2 = ⟨i + 1, 0, ea, nm, p + 1⟩ := mul_of (un_name ha h2 hb2 hd hp) h2 hs2
  show At L _ (rowL L (mulS L nx d) _ L.length (mulS L nx d ⟨i, 0, ea, nm, p⟩).1 (mulS L nx d ⟨i, 0, ea, nm, p⟩).2).2 _ _ _ _
  rw [hm1]
  exact row_plus hE hd hs ht2 m L.length (i + 1) ea nm (p + 1) _ hm (by omega) hw hz
end Go.Proofs.YtfgjgnfbhfhkjaaGreatDoor

namespace Go.Proofs.YtfgjgnfbhfhkjaaGreatDoor
open Go Go.RowKit
theorem eqS_snd (L : List Wd) (i ea nm : Nat) : (eqS L ⟨i, 0, ea, nm, 0⟩).2 = needS L (bs [59]) (exprS L (needS L (bs [61]) (nameS L ⟨i, 0, ea, nm, 0⟩).2)).2 := rfl
theorem ns_code {L : List Wd} {ok : Prop} [Decidable ok] {i p : Nat} (hL : L.length ≠ 0) (h : ∀ r, r < 14 → W L (0 + r) = nsW.getD r (0, [])) (hE : W L (L.length - 1) = (0, [])) (hx : At L ok (exprS L ⟨14, 0, 0, 1, 0⟩).2 i 0 1 p) (hz0 : W L i = (4, [59])) (hz1 : W L (i + 1) = (2, [116, 101, 108])) (hz2 : W L (i + 2) = (0, [])) : (programL L L.length 1 (nodeS L st0).2).2.er = if ok then 0 else 2 := by
  have hd5 : ∀ r, r < 5 → W L (0 + r) = blkW.getD r (0, []) := fun r hr => by
    rw [h r (by omega)]
    match r, hr with
    | 0, _ | 1, _ | 2, _ | 3, _ | 4, _ => rfl
    | _ + 5, h => omega
  rw [nodeS_snd, node_head (i := 0) st0 rfl rfl hd5]
  have ed : (declsS L ⟨0 + 5, 0, 0, 0, 0⟩).2 = ⟨10, 0, 0, 1, 0⟩ := by
    have e1 : needS L (bs [40]) ⟨0 + 5, 0, 0, 0, 0⟩ = ⟨0 + 6, 0, 0, 0, 0⟩ := W.need (st := ⟨0 + 5, 0, 0, 0, 0⟩) (h 5 (by decide)) (by decide) _ rfl
    unfold declsS
    rw [e1]
    unfold declsB
    rw [if_neg (by rw [W.is (st := ⟨0 + 6, 0, 0, 0, 0⟩) (h 6 (by decide))]; decide)]
    exact decls_tail (i := 0 + 7) (declN L ⟨0 + 6, 0, 0, 0, 0⟩) (by
      show (declL L L.length (declaredS L ⟨0 + 6, 0, 0, 0, 0⟩).2.2).2 = _
      rw [declared_ok (h 6 (by decide)) (by decide), declL_stop L _ _ (by rw [W.is (st := ⟨0 + 7, 0, 0, 1, 0⟩) (h 7 (by decide))]; rfl)]) (h 7 (by decide)) (h 8 (by decide)) (h 9 (by decide)) _
  show (programL L L.length 1 (takeS L _ (needS L _ (eqsL L L.length (needS L _ (varS L (needS L _ (declsS L ⟨0 + 5, 0, 0, 0, 0⟩).2)).2)).2)).2).2.er = _
  rw [ed]
  have w10 : W L 10 = (4, [59]) := by have := h 10 (by decide); rwa [Nat.zero_add] at this
  have w11 : W L 11 = (2, [108, 101, 116]) := by have := h 11 (by decide); rwa [Nat.zero_add] at this
  have w12 : W L 12 = (1, [121]) := by have := h 12 (by decide); rwa [Nat.zero_add] at this
  have w13 : W L 13 = (4, [61]) := by have := h 13 (by decide); rwa [Nat.zero_add] at this
  have e1 : needS L (bs [59]) ⟨10, 0, 0, 1, 0⟩ = ⟨11, 0, 0, 1, 0⟩ := W.need (st := ⟨10, 0, 0, 1, 0⟩) w10 (by decide) _ rfl
  have e2 : varS L ⟨11, 0, 0, 1, 0⟩ = ([], ⟨11, 0, 0, 1, 0⟩) := by
    unfold varS
    rw [if_neg (by rw [W.is (st := ⟨11, 0, 0, 1, 0⟩) w11]; decide)]
  have e3 : needS L (bs [108, 101, 116]) ⟨11, 0, 0, 1, 0⟩ = ⟨12, 0, 0, 1, 0⟩ := W.need (st := ⟨11, 0, 0, 1, 0⟩) w11 (by decide) _ rfl
  rw [e1, e2, e3]
  have e4 : (nameS L ⟨12, 0, 0, 1, 0⟩).2 = ⟨13, 0, 0, 1, 0⟩ := W.name (st := ⟨12, 0, 0, 1, 0⟩) w12
  have e5 : needS L (bs [61]) ⟨13, 0, 0, 1, 0⟩ = ⟨14, 0, 0, 1, 0⟩ := W.need (st := ⟨13, 0, 0, 1, 0⟩) w13 (by decide) _ rfl
  have hn : isNameS L ⟨12, 0, 0, 1, 0⟩ = true := by rw [W.isName (st := ⟨12, 0, 0, 1, 0⟩) w12]; rfl
  obtain ⟨F, hF⟩ : ∃ F, L.length = F + 1 := ⟨L.length - 1, by omega⟩
  have e6 : (eqsL L L.length ⟨12, 0, 0, 1, 0⟩).2 = (eqsL L F (needS L (bs [59]) (exprS L ⟨14, 0, 0, 1, 0⟩).2)).2 := by
    rw [hF, eqsL_go L F _ hn]
    show (eqsL L F (eqS L ⟨12, 0, 0, 1, 0⟩).2).2 = _
    rw [eqS_snd, e4, e5]
  rw [e6]
  obtain ⟨ea', p', hx⟩ := hx
  rw [hx]
  by_cases hk : ok
  · rw [if_pos hk, if_pos hk]
    have s1 : needS L (bs [59]) ⟨i, 0, 0, 1, p⟩ = ⟨i + 1, 0, 0, 1, p⟩ := W.need (st := ⟨i, 0, 0, 1, p⟩) hz0 (by decide) _ rfl
    have s2 : eqsL L F ⟨i + 1, 0, 0, 1, p⟩ = ([], ⟨i + 1, 0, 0, 1, p⟩) := eqsL_stop L _ _ (by rw [W.isName (st := ⟨i + 1, 0, 0, 1, p⟩) hz1]; rfl)
    have s3 : needS L (bs [116, 101, 108]) ⟨i + 1, 0, 0, 1, p⟩ = ⟨i + 2, 0, 0, 1, p⟩ := W.need (st := ⟨i + 1, 0, 0, 1, p⟩) hz1 (by decide) _ rfl
    rw [s1, s2, s3, W.take0 (st := ⟨i + 2, 0, 0, 1, p⟩) hz2 _ rfl, programL_stop L _ _ _ (W.kind (st := ⟨i + 2, 0, 0, 1, p⟩) hz2)]
  · rw [if_neg hk, if_neg hk]
    have s1 : needS L (bs [59]) ⟨L.length - 1, 2, ea', 1, p'⟩ = ⟨L.length - 1, 2, ea', 1, p'⟩ := W.end_need (st := ⟨L.length - 1, 2, ea', 1, p'⟩) hE two_ne _ rfl
    have s2 : eqsL L F ⟨L.length - 1, 2, ea', 1, p'⟩ = ([], ⟨L.length - 1, 2, ea', 1, p'⟩) := eqsL_stop L _ _ (by rw [W.isName (st := ⟨L.length - 1, 2, ea', 1, p'⟩) hE]; rfl)
    have s3 : needS L (bs [116, 101, 108]) ⟨L.length - 1, 2, ea', 1, p'⟩ = ⟨L.length - 1, 2, ea', 1, p'⟩ := W.end_need (st := ⟨L.length - 1, 2, ea', 1, p'⟩) hE two_ne _ rfl
    rw [s1, s2, s3, W.take0 (st := ⟨L.length - 1, 2, ea', 1, p'⟩) hE _ rfl, programL_stop L _ _ _ (W.kind (st := ⟨L.length - 1, 2, ea', 1, p'⟩) hE)]
/-- The whole text: by the words of its expression. -/
theorem ns_text {X : List UInt8} {ws : List (Nat × List UInt8)} {ok : Prop} [Decidable ok] {m p : Nat} (hX : LexR X (ws ++ nsTl)) (hR : (∃ r, X = 97 :: r) ∨ (∃ r, X = 40 :: r) ∨ ∃ r, X = 112 :: r) (hl : X.length ≤ 4000) (hm : ws.length = m)
    (hx : ∀ L : List Wd, L.length = 17 + m → (∀ j, W L (14 + j) = (ws ++ nsTl).getD j (0, [])) → W L (L.length - 1) = (0, []) → W L (14 + m) = (4, [59]) → At L ok (exprS L ⟨14, 0, 0, 1, 0⟩).2 (14 + m) 0 1 p) : code ⟨(nsA ++ X).toArray⟩ = if ok then 0 else 2 := by
  have hg : gapL (nsA ++ X) = 0 := rfl
  obtain ⟨d, hd, hw⟩ := words_of_lex ⟨(nsA ++ X).toArray⟩ _ (lex_ns hR hX) hg (by
    show (nsA ++ X).length ≤ _
    rw [List.length_append, show nsA.length = 35 from rfl]
    omega)
  rw [code_of hd]
  have hW := W_of hw
  have hL : (wordsL ⟨(nsA ++ X).toArray⟩ d).length = 17 + m := by
    have := congrArg List.length hw
    rw [List.length_map, List.length_append, List.length_append, hm] at this
    rw [this]
    show 14 + (m + 3) = _
    omega
  generalize wordsL ⟨(nsA ++ X).toArray⟩ d = L at hW hL
  show (programL L L.length 1 (nodeS L st0).2).2.er = _
  have hj : ∀ j, W L (14 + j) = (ws ++ nsTl).getD j (0, []) := fun j => by
    rw [hW, List.getD_eq_getElem?_getD, List.getElem?_append_right (by show 14 ≤ _; omega), List.getD_eq_getElem?_getD]
    congr 2
    show 14 + j - 14 = j
    omega
  have hz : ∀ r, W L (14 + m + r) = nsTl.getD r (0, []) := fun r => by
    rw [Nat.add_assoc, hj, List.getD_eq_getElem?_getD, List.getElem?_append_right (by omega), List.getD_eq_getElem?_getD, hm, Nat.add_sub_cancel_left]
  have hE : W L (L.length - 1) = (0, []) := by rw [hL, show 17 + m - 1 = 14 + m + 2 by omega, hz]; rfl
  refine ns_code (by omega) (fun r hr => ?_) hE (hx L hL hj hE (hz 0)) (hz 0) (hz 1) (hz 2)
  rw [hW, Nat.zero_add, List.getD_eq_getElem?_getD, List.getElem?_append_left (by show r < 14; exact hr), List.getD_eq_getElem?_getD]
theorem expr_at (L : List Wd) (st : St) : exprS L st = arrowS L (nxAt L 30) (31 - 30) st := rfl
theorem rep_le (s : List UInt8) (n : Nat) (hn : n ≤ 320) (h : s.length ≤ 5) : (rep n s).length ≤ 1600 := by
  rw [rep_len]
  calc n * s.length ≤ 320 * 5 := Nat.mul_le_mul hn h
    _ = 1600 := rfl
def brT (n : Nat) : List UInt8 := rep n [40] ++ 97 :: (rep n [41] ++ nsZ)
theorem br_code (n : Nat) (hn : n ≤ 320) : code ⟨(nsA ++ brT n).toArray⟩ = if n ≤ 29 then 0 else 2 := by
  have h1 := lex_op n n
  have hl : (brT n).length ≤ 4000 := by
    have e1 := rep_le [40] n hn (by decide)
    have e2 := rep_le [41] n hn (by decide)
    unfold brT
    simp only [List.length_append, List.length_cons]
    have : nsZ.length = 5 := rfl
    omega
  have hlw : (repW n [(4, [40])] ++ (1, [97]) :: repW n [(4, [41])]).length = 2 * n + 1 := by
    simp only [List.length_append, List.length_cons, repW_len, List.length_nil]
    omega
  refine ns_text (ws := repW n [(4, [40])] ++ (1, [97]) :: repW n [(4, [41])]) (m := 2 * n + 1) (p := 0 + 1) (by rw [List.append_assoc]; exact h1.1) (by rcases h1.2 with h | h; exact .inl h; exact .inr (.inl h)) hl hlw (fun L hL hj hE hz => ?_)
  rw [expr_at]
  have hj' : ∀ j, W L (14 + j) = (repW n [(4, [40])] ++ ((1, [97]) :: (repW n [(4, [41])] ++ nsTl))).getD j (0, []) := fun j => by rw [hj, List.append_assoc]; rfl
  have ha : W L (14 + n) = (1, [97]) := by
    have := repW_end [(4, [40])] ((1, [97]) :: (repW n [(4, [41])] ++ nsTl)) n 0
    rw [hj']
    simpa using this
  have hc : ∀ j, W L (14 + n + 1 + j) = (repW n [(4, [41])] ++ nsTl).getD j (0, []) := fun j => by
    have := repW_end [(4, [40])] ((1, [97]) :: (repW n [(4, [41])] ++ nsTl)) n (j + 1)
    rw [show 14 + n + 1 + j = 14 + (1 * n + (j + 1)) by omega, hj']
    exact this
  refine (br_expr hE n 30 14 0 1 0 4 [59] (by decide) (by decide) (by decide) (by decide) (by decide) (fun j hlt => ?_) ha (fun j hlt => ?_) (by rwa [show 14 + 2 * n + 1 = 14 + (2 * n + 1) by omega])).cast (by omega) (by omega) rfl
  · have := repW_at [(4, [40])] ((1, [97]) :: (repW n [(4, [41])] ++ nsTl)) n j 0 hlt (by decide)
    rw [hj', show j = 1 * j + 0 by omega]
    exact this
  · have := repW_at [(4, [41])] nsTl n j 0 hlt (by decide)
    rw [hc, show j = 1 * j + 0 by omega]
    exact this
def preT (n : Nat) : List UInt8 := rep n [112, 114, 101, 32] ++ 97 :: nsZ
theorem pre_code (n : Nat) (hn : n ≤ 320) : code ⟨(nsA ++ preT n).toArray⟩ = if n ≤ 29 then 0 else 2 := by
  have h1 := lex_pre n
  have hl : (preT n).length ≤ 4000 := by
    have e1 := rep_le [112, 114, 101, 32] n hn (by decide)
    unfold preT
    simp only [List.length_append, List.length_cons]
    have : nsZ.length = 5 := rfl
    omega
  have hlw : (repW n [(2, [112, 114, 101])] ++ [(1, [97])]).length = n + 1 := by
    simp only [List.length_append, List.length_cons, repW_len, List.length_nil]
    omega
  refine ns_text (ws := repW n [(2, [112, 114, 101])] ++ [(1, [97])]) (m := n + 1) (p := 0 + n + 1) (by rw [List.append_assoc]; exact h1.1) (by rcases h1.2 with h | h; exact .inl h; exact .inr (.inr h)) hl hlw (fun L hL hj hE hz => ?_)
  rw [expr_at]
  have hj' : ∀ j, W L (14 + j) = (repW n [(2, [112, 114, 101])] ++ ((1, [97]) :: nsTl)).getD j (0, []) := fun j => by rw [hj, List.append_assoc]; rfl
  have ha : W L (14 + n) = (1, [97]) := by
    have := repW_end [(2, [112, 114, 101])] ((1, [97]) :: nsTl) n 0
    rw [hj']
    simpa using this
  refine (At.expr hE (At.up hE (pre_un hE (q := 4) (t := [59]) (by decide) n 30 14 0 1 0 (by decide) (by decide) (fun j hlt => ?_) ha (by rwa [show 14 + n + 1 = 14 + (n + 1) by omega])) (k := 4) (t := [59]) (by rwa [show 14 + n + 1 = 14 + (n + 1) by omega]) (by decide)) (k := 4) (t := [59]) (by rwa [show 14 + n + 1 = 14 + (n + 1) by omega]) (by decide)).cast (by omega) (by omega) rfl
  have := repW_at [(2, [112, 114, 101])] ((1, [97]) :: nsTl) n j 0 hlt (by decide)
  rw [hj', show j = 1 * j + 0 by omega]
  exact this
def arrT (n : Nat) : List UInt8 := rep n [97, 32, 45, 62, 32] ++ 97 :: nsZ
theorem pairs_at {L : List Wd} {n : Nat} {a c : Nat × List UInt8} {z : List (Nat × List UInt8)} (hj : ∀ j, W L (14 + j) = (repW n [a, c] ++ z).getD j (0, [])) : (∀ j, j < n → W L (14 + 2 * j) = a ∧ W L (14 + 2 * j + 1) = c) ∧ ∀ r, W L (14 + 2 * n + r) = z.getD r (0, []) := by
  refine ⟨fun j hlt => ⟨?_, ?_⟩, fun r => ?_⟩
  · have := repW_at [a, c] z n j 0 hlt (by simp)
    rw [hj, show 2 * j = 2 * j + 0 by omega]
    exact this
  · have := repW_at [a, c] z n j 1 hlt (by simp)
    rw [Nat.add_assoc, hj]
    exact this
  · have := repW_end [a, c] z n r
    rw [Nat.add_assoc, hj]
    exact this
theorem arr_code (n : Nat) (hn : n ≤ 320) : code ⟨(nsA ++ arrT n).toArray⟩ = if n ≤ 29 then 0 else 2 := by
  have h1 := lex_arr n
  have hl : (arrT n).length ≤ 4000 := by
    have e1 := rep_le [97, 32, 45, 62, 32] n hn (by decide)
    unfold arrT
    simp only [List.length_append, List.length_cons]
    have : nsZ.length = 5 := rfl
    omega
  have hlw : (repW n [(1, [97]), (4, [45, 62])] ++ [(1, [97])]).length = 2 * n + 1 := by
    simp only [List.length_append, List.length_cons, repW_len, List.length_nil]
    omega
  refine ns_text (ws := repW n [(1, [97]), (4, [45, 62])] ++ [(1, [97])]) (m := 2 * n + 1) (p := 0 + 2 * n + 1) (by rw [List.append_assoc]; exact h1.1) (.inl h1.2) hl hlw (fun L hL hj hE hz => ?_)
  rw [expr_at]
  obtain ⟨ha, hc⟩ := pairs_at (L := L) (n := n) (a := (1, [97])) (c := (4, [45, 62])) (z := (1, [97]) :: nsTl) (fun j => by rw [hj, List.append_assoc]; rfl)
  exact (arr_expr hE (q := 4) (t := [59]) (by decide) (by decide) (by decide) n 30 14 0 1 0 (by decide) (by decide) ha (hc 0) (by rwa [show 14 + 2 * n + 1 = 14 + (2 * n + 1) by omega])).cast (by omega) (by omega) rfl
def plusT (n : Nat) : List UInt8 := rep n [97, 32, 43, 32] ++ 97 :: nsZ
theorem plus_code (n : Nat) (hn : n ≤ 320) : code ⟨(nsA ++ plusT n).toArray⟩ = if 2 * n + 1 ≤ 300 then 0 else 2 := by
  have h1 := lex_plus n
  have hl : (plusT n).length ≤ 4000 := by
    have e1 := rep_le [97, 32, 43, 32] n hn (by decide)
    unfold plusT
    simp only [List.length_append, List.length_cons]
    have : nsZ.length = 5 := rfl
    omega
  have hlw : (repW n [(1, [97]), (4, [43])] ++ [(1, [97])]).length = 2 * n + 1 := by
    simp only [List.length_append, List.length_cons, repW_len, List.length_nil]
    omega
  refine ns_text (ws := repW n [(1, [97]), (4, [43])] ++ [(1, [97])]) (m := 2 * n + 1) (p := 0 + 1 + 2 * n) (by rw [List.append_assoc]; exact h1.1) (.inl h1.2) hl hlw (fun L hL hj hE hz => ?_)
  rw [expr_at]
  obtain ⟨ha, hc⟩ := pairs_at (L := L) (n := n) (a := (1, [97])) (c := (4, [43])) (z := (1, [97]) :: nsTl) (fun j => by rw [hj, List.append_assoc]; rfl)
  have h0 : W L (14 + 2 * n) = (1, [97]) := hc 0
  have hf : W L 14 = (1, [97]) := by
    cases n with
    | zero => exact h0
    | succ n => exact (ha 0 (by omega)).1
  refine (plus_expr hE (nx := nxAt L 30) (d := 31 - 30) (q := 4) (t := [59]) (by decide) (by decide) (by decide) (by decide) (m := n) (i := 14) (ea := 0) (nm := 1) (p := 0) (by omega) (by decide) hf (fun j hlt => ⟨?_, ?_⟩) (by rwa [show 14 + 1 + 2 * n = 14 + (2 * n + 1) by omega])).cast (by omega) (by omega) rfl
  · have := (ha j hlt).2
    rwa [show 14 + 2 * j + 1 = 14 + 1 + 2 * j by omega] at this
  · by_cases hk : j + 1 < n
    · have := (ha (j + 1) hk).1
      rwa [show 14 + 2 * (j + 1) = 14 + 1 + 2 * j + 1 by omega] at this
    · rw [show 14 + 1 + 2 * j + 1 = 14 + 2 * n by omega]
      exact h0
end Go.Proofs.YtfgjgnfbhfhkjaaGreatDoor
