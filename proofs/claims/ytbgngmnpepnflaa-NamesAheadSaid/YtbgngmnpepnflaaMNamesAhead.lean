/-
  What this statement stands on beside.
-/
import Derived.Test.YtbgngmnpepnflaaMf
import Derived.WalkKit
import Derived.Lib.VarintMem
import Derived.Lib.Hide
import Derived.Laws.CopyOwn
import Derived.Deep.Draws
import Derived.Laws.BytesArg
set_option linter.unusedVariables false
set_option linter.unusedSimpArgs false
namespace Go.Proofs.Ytbgngmnpepnflaa
open Go Go.RowKit
/-- 'string(b)'. -/
theorem run_string {P : Program} (w : World) (src e dst : TypeId) (hs : P.underlying src = some (.slice e)) (he : P.underlying e = some (.int .u8)) (hd : P.underlying dst = some .string) (a : Option Addr) (l : List UInt8) (c : Nat) (h : Txt w a l) :
    (convert src dst (.slice a l.length c)).run P w = .ok (.string ⟨l.toArray⟩) w := by
  cases l with
  | nil =>
    cases a with
    | none => exact run_convert_bytes_nil (P := P) w src e hs he 0 c dst hd
    | some ad =>
      have hl : (loadCells ad 0).run P w = .ok (([] : List Int).map (Value.int .u8)).toArray w := run_loadCells_list (P := P) w ad [] (fun j v hj => by simp at hj)
      rw [List.length_nil, run_convert_bytes_string w src dst e _ 0 c hs he hd, run_bytesToString w _ 0 c [] hl]
      rfl
  | cons x r =>
    obtain ⟨b, o, rfl, hlt, hc⟩ := h (by simp)
    have hr := run_convert_bytes_arg (P := P) w src e hs he b o (x :: r).length c ((x :: r).map fun u => (u.toNat : Int)) (by simp) (fun i hi => by
      rw [hc i hi]
      simp only [List.getD, List.getElem?_map, List.getElem?_eq_getElem hi, Option.map_some, Option.getD_some]) dst hd
    rw [hr]
    congr 2
    apply ByteArray.ext
    apply Array.toList_inj.1
    rw [strOfNums_data, List.map_map]
    conv => rhs; rw [← List.map_id (x :: r)]
    apply List.map_congr_left
    intro u _
    simp
end Go.Proofs.Ytbgngmnpepnflaa

namespace Go.Proofs.Ytbgngmnpepnflaa
open Go Go.RowKit
theorem str_row (W : World) (l : List UInt8) (hl : l ≠ []) (n g : Nat) (hn : n = l.length) (hg : g = W.heap.size) (cs : Array Value) (hcs : ∀ i (h : i < l.length), cs[i]? = some (.int .u8 (l[i].toNat : Int))) : (convert 28 9 (.slice (some ⟨g, 0, none⟩) n n)).run Try.prog (W.alloc (.cells cs 5)) = .ok (.string ⟨l.toArray⟩) (W.alloc (.cells cs 5)) := by
  subst hn hg
  refine run_string _ _ 5 _ Try.underlying28 Try.underlying5 Try.underlying9 _ l _ (fun _ => ⟨_, 0, rfl, by simp, fun i hi => ?_⟩)
  rw [Nat.zero_add, cell_of_row _ _ _ _ _ _ (heap_alloc_new W _)]
  exact hcs i hi
theorem str_one (W : World) (g : Nat) (hg : g = W.heap.size) (c : UInt8) (x : Int) (hx : x = (c.toNat : Int)) : (convert 28 9 (.slice (some ⟨g, 0, none⟩) 1 1)).run Try.prog (W.alloc (.cells #[.int .u8 x] 5)) = .ok (.string ⟨[c].toArray⟩) (W.alloc (.cells #[.int .u8 x] 5)) :=
  str_row W [c] (by simp) 1 g rfl hg #[.int .u8 x] (fun i h => by
    have : i = 0 := by simp at h; omega
    subst this
    rw [hx]
    rfl)
/-- A letter, as a byte. -/
theorem let_wrap (k : Nat) (h : k < 26) : wrap64 (97 + (k : Int)) % 256 = ((UInt8.ofNat (97 + k)).toNat : Int) := by
  rw [UInt8.toNat_ofNat']
  unfold wrap64
  omega
end Go.Proofs.Ytbgngmnpepnflaa

namespace Go.Proofs.Ytbgngmnpepnflaa
open Go Go.RowKit
/-- This text, from place a on, is cut into these words. -/
def LexW (l : List UInt8) (a : Nat) (ws : List W4) : Prop := ∀ f, l.length < f → ∃ d, cutF f l a = .ok d ∧ ∀ s : List UInt8, s.drop a = l → d.map (wordLL s) = ws
theorem LexW.nil (a : Nat) : LexW [] a [⟨0, ⟨#[]⟩, 0, a⟩] := fun f h => by
  cases f with
  | zero => simp at h
  | succ f => exact ⟨_, cutF_end f a, fun s hs => by simp [wordLL]⟩
theorem LexW.cons {l r : List UInt8} {a : Nat} {ws : List W4} (k n : Nat) (v : Int) (g : Nat) (hne : l ≠ []) (hf : firstW l = (k, n, v)) (hk0 : k ≠ 0) (hg : gapL (l.drop n) = g) (hr : (l.drop n).drop g = r) (h : LexW r (a + n + g) ws) : LexW l a (⟨k, ⟨(l.take n).toArray⟩, v, a⟩ :: ws) := fun f hfl => by
  cases f with
  | zero => omega
  | succ f =>
    have hl : 0 < l.length := List.length_pos_iff.2 hne
    have hfw := firstW_len l hl
    rw [hf] at hfw
    have hn1 : 1 ≤ n := hfw.2.1 hk0
    have hrl : r.length < l.length := by
      rw [← hr]
      simp only [List.length_drop]
      omega
    obtain ⟨d, hd, hm⟩ := h f (by omega)
    refine ⟨(k, n, v, a) :: d, ?_, ?_⟩
    · unfold cutF
      rw [if_neg hne, hf, if_neg hk0]
      simp only [hg, hr, hd]
    · intro s hs
      rw [List.map_cons]
      have e1 : wordLL s (k, n, v, a) = ⟨k, ⟨(l.take n).toArray⟩, v, a⟩ := by unfold wordLL; rw [hs]
      rw [e1, hm s (by rw [Nat.add_assoc, ← List.drop_drop, hs, ← hr, List.drop_drop])]
theorem parse_lex {s : List UInt8} {ws : List W4} (h : LexW s 0 ws) (hg : gapL s = 0) (hl : s.length ≤ 16384) : parseL s = nodes4 ws := by
  obtain ⟨d, hd, hm⟩ := h (s.length + 1) (Nat.lt_succ_self _)
  unfold parseL cutAll
  rw [if_neg (by omega)]
  unfold cut1
  rw [hg, List.drop_zero, hd]
  show nodes4 (d.map (wordLL s)) = _
  rw [hm s (by rw [List.drop_zero])]
/-- A state without fault. -/
abbrev st4 (k : Nat) (p nm : Int) : S4 := ⟨k, 0, 0, p, nm⟩
/-- Is this word spelled so? -/
def sp4 (w : W4) (x : List UInt8) : Bool := (w.kind == 2 || w.kind == 4) && w.text.data.toList == x
theorem drop_cons {L R : List W4} {k : Nat} {w : W4} (h : L.drop k = w :: R) : L.getD k no4 = w ∧ L.drop (k + 1) = R ∧ k < L.length := by
  have hk : k < L.length := by
    by_cases hk : k < L.length
    · exact hk
    · rw [List.drop_of_length_le (by omega)] at h; cases h
  rw [List.drop_eq_getElem_cons hk] at h
  injection h with h1 h2
  refine ⟨?_, h2, hk⟩
  rw [List.getD_eq_getElem?_getD, List.getElem?_eq_getElem hk]
  exact h1
section
variable {L R : List W4} {k : Nat} {p nm : Int} {w : W4} (h : L.drop k = w :: R)
include h
theorem cur_at : cur4 L (st4 k p nm) = w := (drop_cons h).1
theorem is_at (x : ByteArray) : is4 L x (st4 k p nm) = sp4 w x.data.toList := by
  unfold is4
  rw [cur_at h]
  rfl
theorem want_at (x : ByteArray) (hx : sp4 w x.data.toList = true) : want4 L x (st4 k p nm) = st4 (k + 1) p nm := by
  unfold want4
  rw [if_pos (by rw [is_at h]; exact hx)]
  rfl
theorem take_at (x : ByteArray) (hx : sp4 w x.data.toList = true) : take4 L x (st4 k p nm) = (true, st4 (k + 1) p nm) := by
  unfold take4
  rw [is_at h, hx]
  rfl
theorem take_no (x : ByteArray) (hx : sp4 w x.data.toList = false) : take4 L x (st4 k p nm) = (false, st4 k p nm) := by
  unfold take4
  rw [is_at h, hx]
  rfl
theorem name_at (hk : w.kind = 1) : name4 L (st4 k p nm) = (w.text, st4 (k + 1) p nm) := by
  unfold name4
  rw [cur_at h, if_pos ⟨rfl, hk⟩]
  rfl
end
theorem part_at (L : List W4) (k : Nat) (p nm : Int) (h0 : 0 ≤ p) (h : p < 300) : part4 L (st4 k p nm) = st4 k (p + 1) nm := by
  unfold part4
  rw [if_neg (by rintro ⟨_, h2⟩; change 300 ≤ p at h2; omega)]
  show (⟨k, 0, 0, wrap64 (p + 1), nm⟩ : S4) = _
  rw [show wrap64 (p + 1) = p + 1 by unfold wrap64; omega]
/-- No sign or word goes on with an expression behind it here. -/
def INFIX4 : List (List UInt8) := [[119, 104, 101, 110], [102, 98, 121], [45, 62]] ++ (OPS0 ++ OPS1 ++ OPS2 ++ OPS3 ++ OPS4).map (fun o => o.data.toList)
def stop4 (w : W4) : Bool := INFIX4.all fun x => !sp4 w x
def UNARY4 : List (List UInt8) := [[110, 111, 116], [45], [112, 114, 101]]
def start4 (w : W4) : Bool := UNARY4.all fun x => !sp4 w x
theorem find_none {L : List W4} {s : S4} : ∀ (ops : List ByteArray), (∀ o ∈ ops, is4 L o s = false) → find4 L ops s = ⟨#[]⟩ := by
  intro ops
  unfold find4
  induction ops with
  | nil => intro _; rfl
  | cons a r ih =>
    intro h
    rw [List.foldl_cons, if_neg (by rw [h a (List.mem_cons_self ..)]; decide)]
    exact ih fun o ho => h o (List.mem_cons_of_mem _ ho)
theorem row_none {L : List W4} {ops : List ByteArray} {one : Bool} {sub : S4 → Ex × S4} {s : S4} {r : Ex × S4} (hs : sub s = r) (h : ∀ o ∈ ops, is4 L o r.2 = false) : row4 L ops one sub s = r := by
  unfold row4 rowL4
  rw [hs, if_pos (by rw [find_none ops h])]
def lsub (L : List W4) : Nat → F4
  | 0 => no4F
  | m + 1 => lev4 L m
theorem lev4_eq (L : List W4) (m : Nat) : lev4 L m = mk4 L m (lsub L m) := by cases m <;> rfl
/-- What an operand reads, all levels above hand on, if behind it stands nothing that goes on. -/
theorem arrow_of_prim {L : List W4} {k k' : Nat} {p p' nm : Int} {e : Ex} {m : Nat} {w w' : W4} {R R' : List W4} (h : L.drop k = w :: R) (hu : start4 w = true) (h' : L.drop k' = w' :: R') (hs : stop4 w' = true) (hp : (lev4 L m).prim (st4 k p nm) = (e, st4 k' p' nm)) : (lev4 L m).arrow (st4 k p nm) = (e, st4 k' p' nm) := by
  rw [lev4_eq] at hp ⊢
  have hP : (mk4 L m (lsub L m)).prim = prim4 L m (lsub L m) := by simp only [mk4]
  rw [hP] at hp
  have no : ∀ x : ByteArray, INFIX4.contains x.data.toList = true → is4 L x (st4 k' p' nm) = false := fun x hx => by
    rw [is_at h']
    have := List.all_eq_true.1 hs _ (List.contains_iff_mem.1 hx)
    simpa using this
  have nu : ∀ x : ByteArray, UNARY4.contains x.data.toList = true → is4 L x (st4 k p nm) = false := fun x hx => by
    rw [is_at h]
    have := List.all_eq_true.1 hu _ (List.contains_iff_mem.1 hx)
    simpa using this
  have hun : un4 L m (lsub L m) (prim4 L m (lsub L m)) (st4 k p nm) = (e, st4 k' p' nm) := by
    unfold un4
    have e0 : unOp4 L (st4 k p nm) = ⟨#[]⟩ := by
      unfold unOp4
      rw [nu ⟨#[110, 111, 116]⟩ (by kernel_rfl), nu ⟨#[45]⟩ (by kernel_rfl), nu ⟨#[112, 114, 101]⟩ (by kernel_rfl)]
      rfl
    rw [e0, if_pos rfl]
    exact hp
  have hwh : when4 L (un4 L m (lsub L m) (prim4 L m (lsub L m))) (st4 k p nm) = (e, st4 k' p' nm) := by
    unfold when4 whenL4
    rw [hun]
    simp only
    rw [no ⟨#[119, 104, 101, 110]⟩ (by kernel_rfl)]
    rfl
  have hfb : fby4 L m (lsub L m) (un4 L m (lsub L m) (prim4 L m (lsub L m))) (st4 k p nm) = (e, st4 k' p' nm) := by
    unfold fby4
    rw [hwh]
    simp only
    rw [no ⟨#[102, 98, 121]⟩ (by kernel_rfl)]
    rfl
  have hin : ∀ (ops : List ByteArray), (ops.all fun o => INFIX4.contains o.data.toList) = true → ∀ o ∈ ops, is4 L o (e, st4 k' p' nm).2 = false := fun ops hops o ho => no o (List.all_eq_true.1 hops o ho)
  have hro : rows4 L (fby4 L m (lsub L m) (un4 L m (lsub L m) (prim4 L m (lsub L m)))) (st4 k p nm) = (e, st4 k' p' nm) := by
    unfold rows4
    refine row_none (row_none (row_none (row_none (row_none hfb ?_) ?_) ?_) ?_) ?_
    · exact hin OPS4 (by kernel_rfl)
    · exact hin OPS3 (by kernel_rfl)
    · exact hin OPS2 (by kernel_rfl)
    · exact hin OPS1 (by kernel_rfl)
    · exact hin OPS0 (by kernel_rfl)
  have hA : (mk4 L m (lsub L m)).arrow = arrow4 L m (lsub L m) (fby4 L m (lsub L m) (un4 L m (lsub L m) (prim4 L m (lsub L m)))) := by simp only [mk4]
  rw [hA]
  unfold arrow4
  rw [hro]
  simp only
  rw [no ⟨#[45, 62]⟩ (by kernel_rfl)]
  rfl
def exVar (t : ByteArray) (a : Nat) : Ex := .mk ⟨#[118, 97, 114]⟩ t 0 a []
def exInt (v : Int) (a : Nat) : Ex := .mk ⟨#[105, 110, 116]⟩ ⟨#[]⟩ v a []
def exCall (t : ByteArray) (a : Nat) (ks : List Ex) : Ex := .mk ⟨#[99, 97, 108, 108]⟩ t 0 a ks
/-- These words spell this expression, in so many parts, at levels of depth d or more. -/
def ExSp (d : Nat) (ws : List W4) (e : Ex) (np : Nat) : Prop := ∀ (L R : List W4) (k m : Nat) (p nm : Int) (w : W4), d ≤ m → 0 ≤ p → p + np ≤ 300 → L.drop k = ws ++ w :: R → stop4 w = true → sp4 w [40] = false → (lev4 L m).arrow (st4 k p nm) = (e, st4 (k + ws.length) (p + np) nm)
theorem not_sp {w : W4} (h : w.kind = 1 ∨ w.kind = 3) (x : List UInt8) : sp4 w x = false := by
  unfold sp4
  rcases h with h | h <;> rw [h] <;> rfl
theorem ExSp.var (t : ByteArray) (n : Int) (a : Nat) : ExSp 0 [⟨1, t, n, a⟩] (exVar t a) 1 := by
  intro L R k m p nm w hm hp0 hp h hs hb
  have h : L.drop k = ⟨1, t, n, a⟩ :: w :: R := h
  have h2 := (drop_cons h).2.1
  have kd : ∀ x, sp4 ⟨1, t, n, a⟩ x = false := not_sp (.inl rfl)
  refine arrow_of_prim h (List.all_eq_true.2 fun x _ => by rw [kd]; rfl) h2 hs ?_
  rw [lev4_eq]
  show prim4 L m (lsub L m) (st4 k p nm) = _
  unfold prim4
  rw [if_neg (by rw [is_at h, kd]; decide)]
  have e1 : primP4 L (st4 k p nm) = st4 k (p + 1) nm := by
    unfold primP4
    rw [if_pos (.inl (by rw [cur_at h]))]
    exact part_at L k p nm hp0 (by omega)
  simp only [e1]
  rw [if_pos trivial, cur_at h, if_neg (show ¬ (1 : Nat) = 3 by decide), if_neg (by rw [is_at h, kd]; decide), if_neg (by rw [is_at h, kd]; decide), if_neg (by rw [is_at h, kd]; decide), if_neg (by rw [is_at h, kd]; decide)]
  unfold named4
  rw [name_at h rfl]
  simp only
  rw [take_no h2 _ hb]
  rfl
theorem ExSp.int (t : ByteArray) (n : Int) (a : Nat) : ExSp 0 [⟨3, t, n, a⟩] (exInt n a) 1 := by
  intro L R k m p nm w hm hp0 hp h hs hb
  have h : L.drop k = ⟨3, t, n, a⟩ :: w :: R := h
  have h2 := (drop_cons h).2.1
  have kd : ∀ x, sp4 ⟨3, t, n, a⟩ x = false := not_sp (.inr rfl)
  refine arrow_of_prim h (List.all_eq_true.2 fun x _ => by rw [kd]; rfl) h2 hs ?_
  rw [lev4_eq]
  show prim4 L m (lsub L m) (st4 k p nm) = _
  unfold prim4
  rw [if_neg (by rw [is_at h, kd]; decide)]
  have e1 : primP4 L (st4 k p nm) = st4 k (p + 1) nm := by
    unfold primP4
    rw [if_pos (.inr (.inl (by rw [cur_at h])))]
    exact part_at L k p nm hp0 (by omega)
  simp only [e1]
  rw [if_pos trivial, cur_at h, if_pos rfl]
  rfl
/-- A call of one argument. -/
theorem ExSp.call1 {d : Nat} {ws : List W4} {e : Ex} {np : Nat} (he : ExSp d ws e np) (t : ByteArray) (n : Int) (a : Nat) (w1 w2 w0 : W4) (ws' : List W4) (hws : ws = w0 :: ws') (h1 : sp4 w1 [40] = true) (h0 : sp4 w0 [41] = false) (h2 : sp4 w2 [41] = true) (h2' : stop4 w2 = true) (h2n : sp4 w2 [40] = false) (h2c : sp4 w2 [44] = false) : ExSp (d + 1) (⟨1, t, n, a⟩ :: w1 :: (ws ++ [w2])) (exCall t a [e]) (np + 1) := by
  intro L R k m p nm w hm hp0 hp h hs hb
  have h : L.drop k = ⟨1, t, n, a⟩ :: w1 :: (ws ++ w2 :: w :: R) := by rw [h]; simp
  have ha := (drop_cons h).2.1
  have hb1 := (drop_cons ha).2.1
  have hend : L.drop (k + 2 + ws.length) = w2 :: w :: R := by
    rw [← List.drop_drop, show L.drop (k + 2) = ws ++ w2 :: w :: R from hb1, List.drop_left]
  have hend2 := (drop_cons hend).2.1
  have hb0 : L.drop (k + 1 + 1) = w0 :: (ws' ++ w2 :: w :: R) := by rw [hb1, hws]; rfl
  have kd : ∀ x, sp4 ⟨1, t, n, a⟩ x = false := not_sp (.inl rfl)
  have hlen : (⟨1, t, n, a⟩ :: w1 :: (ws ++ [w2]) : List W4).length = ws.length + 3 := by simp
  rw [hlen]
  refine arrow_of_prim h (List.all_eq_true.2 fun x _ => by rw [kd]; rfl) (k' := k + (ws.length + 3)) (by rw [show k + (ws.length + 3) = k + 2 + ws.length + 1 by omega]; exact hend2) hs ?_
  rw [lev4_eq]
  show prim4 L m (lsub L m) (st4 k p nm) = _
  unfold prim4
  rw [if_neg (by rw [is_at h, kd]; decide)]
  have e1 : primP4 L (st4 k p nm) = st4 k (p + 1) nm := by
    unfold primP4
    rw [if_pos (.inl (by rw [cur_at h]))]
    exact part_at L k p nm hp0 (by omega)
  simp only [e1]
  rw [if_pos trivial, cur_at h, if_neg (show ¬ (1 : Nat) = 3 by decide), if_neg (by rw [is_at h, kd]; decide), if_neg (by rw [is_at h, kd]; decide), if_neg (by rw [is_at h, kd]; decide), if_neg (by rw [is_at h, kd]; decide)]
  unfold named4
  rw [name_at h rfl]
  simp only
  rw [take_at ha _ h1]
  simp only
  rw [if_pos trivial, take_no hb0 _ h0]
  simp only [Bool.false_eq_true, if_false]
  obtain ⟨q, rfl⟩ : ∃ q, m = q + 1 := ⟨m - 1, by omega⟩
  have hx : exprN4 L (q + 1) (lsub L (q + 1)) (st4 (k + 1 + 1) (p + 1) nm) = (e, st4 (k + 2 + ws.length) (p + 1 + np) nm) := by
    have hh := he L (w :: R) (k + 1 + 1) q (p + 1) nm w2 (by omega) (by omega) (by omega) hb1 h2' h2n
    unfold exprN4 deep4
    rw [if_pos rfl, if_neg (Nat.succ_ne_zero q)]
    show (((lev4 L q).arrow (st4 (k + 1 + 1) (p + 1) nm)).1, ((lev4 L q).arrow (st4 (k + 1 + 1) (p + 1) nm)).2) = _
    rw [hh]
  have hc : callL4 L (exprN4 L (q + 1) (lsub L (q + 1))) (L.length + 1) [] (st4 (k + 1 + 1) (p + 1) nm) = ([e], st4 (k + 2 + ws.length) (p + 1 + np) nm) := by
    unfold callL4
    rw [if_pos rfl, hx]
    simp only
    rw [take_no hend _ h2c]
    rfl
  rw [hc]
  simp only
  rw [want_at hend _ h2, show k + 2 + ws.length + 1 = k + (ws.length + 3) by omega, show p + 1 + (np : Int) = p + ((np + 1 : Nat) : Int) by omega]
  rfl
theorem sp_other {w : W4} {x y : List UInt8} (h : sp4 w x = true) (hne : (x == y) = false) : sp4 w y = false := by
  unfold sp4 at h ⊢
  simp only [Bool.and_eq_true, beq_iff_eq] at h
  rw [h.2, hne, Bool.and_false]
theorem stop_of {w : W4} {x : List UInt8} (h : sp4 w x = true) (hx : INFIX4.all (fun y => !(x == y)) = true) : stop4 w = true := by
  unfold stop4
  rw [List.all_eq_true] at hx ⊢
  intro y hy
  rw [sp_other h (by simpa using hx y hy)]
  rfl
/-- A sign (4) or a kept word (2). -/
def sg (kd : Nat) (x : List UInt8) (a : Nat) : W4 := ⟨kd, ⟨x.toArray⟩, 0, a⟩
/-- A declaration of one name; the sign ahead of it where it is not the first. -/
structure Dc where
  name : W4
  colon : W4
  kind : W4
  semi : W4
  kd : Nat
def Dc.ok (d : Dc) : Prop := d.name.kind = 1 ∧ sp4 d.colon [58] = true ∧ sp4 d.semi [59] = true ∧ (d.kd = 1 ∧ sp4 d.kind [98, 111, 111, 108] = true ∨ d.kd = 2 ∧ sp4 d.kind [105, 110, 116] = true)
def Dc.ws (d : Dc) : List W4 := [d.name, d.colon, d.kind]
def Dc.vr (d : Dc) : Vr := ⟨d.name.text, d.kd, ⟨#[]⟩, false, d.name.at_⟩
theorem decl_one {L R : List W4} {k : Nat} {p nm : Int} (d : Dc) (hd : d.ok) (h : L.drop k = d.ws ++ R) (hn0 : 0 ≤ nm) (hn : nm < 64) : decl4 L (st4 k p nm) = ([d.vr], st4 (k + 3) p (nm + 1)) := by
  obtain ⟨nw, cw, kw, sw, kd⟩ := d
  obtain ⟨hk1, hcl, _, hkd⟩ := hd
  simp only at hk1 hcl hkd
  have h : L.drop k = nw :: cw :: kw :: R := h
  have h1 := (drop_cons h).2.1
  have h2 := (drop_cons h1).2.1
  have er : declL4 L (L.length + 1) [] (st4 k p nm) = (some [⟨nw.text, 0, ⟨#[]⟩, false, nw.at_⟩], st4 (k + 1) p (nm + 1)) := by
    unfold declL4
    rw [if_pos rfl, cur_at h, if_neg (by rintro ⟨_, h4⟩; change nm = 64 at h4; omega), name_at h hk1]
    simp only
    rw [show wrap64 (nm + 1) = nm + 1 by unfold wrap64; omega]
    have := take_no h1 (p := p) (nm := nm + 1) ⟨#[44]⟩ (sp_other hcl (by decide))
    rw [this]
    rfl
  unfold decl4
  rw [er]
  simp only
  rw [want_at h1 _ hcl, is_at h2]
  rcases hkd with ⟨rfl, hb⟩ | ⟨rfl, hi⟩
  · have hb : sp4 kw (⟨#[98, 111, 111, 108]⟩ : ByteArray).data.toList = true := hb
    rw [if_pos hb, hb]
    rfl
  · have hb : sp4 kw (⟨#[98, 111, 111, 108]⟩ : ByteArray).data.toList = false := sp_other hi (by decide)
    rw [if_neg (by rw [hb]; decide), hb, want_at h2 _ hi]
    rfl
def dcsR (ds : List Dc) : List W4 := ds.flatMap fun d => d.semi :: d.ws
def dcs : List Dc → List W4
  | [] => []
  | d :: r => d.ws ++ dcsR r
theorem dcsR_len (ds : List Dc) : (dcsR ds).length = 4 * ds.length := by
  induction ds with
  | nil => rfl
  | cons a r ih => unfold dcsR at ih ⊢; rw [List.flatMap_cons, List.length_append, ih]; simp [Dc.ws]; omega
theorem declsL_sp {L R : List W4} {p : Int} {w : W4} (hw : sp4 w [59] = false) : ∀ (ds : List Dc) (f : Nat) (l : List Vr) (k : Nat) (nm : Int), ds.length < f → (∀ d ∈ ds, d.ok) → 0 ≤ nm → nm + ds.length ≤ 64 → L.drop k = dcsR ds ++ w :: R → declsL4 L f l (st4 k p nm) = (l ++ ds.map Dc.vr, st4 (k + (dcsR ds).length) p (nm + ds.length))
  | [], 0, _, _, _, hf, _, _, _, _ => absurd hf (Nat.lt_irrefl _)
  | [], f + 1, l, k, nm, _, _, _, _, h => by
    unfold declsL4
    rw [is_at h, hw]
    simp [dcsR]
  | d :: r, 0, _, _, _, hf, _, _, _, _ => absurd hf (Nat.not_lt_zero _)
  | d :: r, f + 1, l, k, nm, hf, hok, hn0, hn, h => by
    have hd := hok d (List.mem_cons_self ..)
    have hn' : nm + ((r.length : Int) + 1) ≤ 64 := by simpa using hn
    have h : L.drop k = d.semi :: (d.ws ++ (dcsR r ++ w :: R)) := by rw [h]; unfold dcsR; simp [List.flatMap_cons]
    have h1 := (drop_cons h).2.1
    have h3 : L.drop (k + 1 + 3) = dcsR r ++ w :: R := by
      rw [← List.drop_drop, h1]
      exact List.drop_left (l₁ := d.ws)
    unfold declsL4
    rw [is_at h, if_pos hd.2.2.1]
    show declsL4 L f (l ++ (decl4 L (st4 (k + 1) p nm)).1) (decl4 L (st4 (k + 1) p nm)).2 = _
    rw [decl_one d hd h1 hn0 (by omega)]
    show declsL4 L f (l ++ [d.vr]) (st4 (k + 1 + 3) p (nm + 1)) = _
    rw [declsL_sp hw r f (l ++ [d.vr]) (k + 1 + 3) (nm + 1) (by simpa using hf) (fun x hx => hok x (List.mem_cons_of_mem _ hx)) (by omega) (by omega) h3]
    rw [dcsR_len, dcsR_len, List.map_cons, List.append_assoc, List.length_cons, show k + 1 + 3 + 4 * r.length = k + 4 * (r.length + 1) by omega, show nm + 1 + (r.length : Int) = nm + ((r.length + 1 : Nat) : Int) by omega]
    rfl
theorem decls_sp {L R : List W4} {p : Int} {w : W4} (hw : sp4 w [41] = true) (ds : List Dc) (k : Nat) (nm : Int) (hok : ∀ d ∈ ds, d.ok) (hn0 : 0 ≤ nm) (hn : nm + ds.length ≤ 64) (h : L.drop k = dcs ds ++ w :: R) : decls4 L (st4 k p nm) = (ds.map Dc.vr, st4 (k + (dcs ds).length) p (nm + ds.length)) := by
  have hlen : ds.length ≤ L.length := by
    have e : (L.drop k).length = (dcs ds ++ w :: R).length := by rw [h]
    rw [List.length_drop, List.length_append] at e
    have : ds.length ≤ (dcs ds).length := by
      cases ds with
      | nil => exact Nat.zero_le _
      | cons d r => show r.length + 1 ≤ (d.ws ++ dcsR r).length; rw [List.length_append, dcsR_len]; simp [Dc.ws]; omega
    omega
  unfold decls4
  cases ds with
  | nil =>
    have h : L.drop k = w :: R := h
    rw [is_at h, if_pos hw]
    simp [dcs]
  | cons d r =>
    have hd := hok d (List.mem_cons_self ..)
    have hn' : nm + ((r.length : Int) + 1) ≤ 64 := by simpa using hn
    have h : L.drop k = d.ws ++ (dcsR r ++ w :: R) := by rw [h]; simp [dcs]
    have h3 : L.drop (k + 3) = dcsR r ++ w :: R := by
      rw [← List.drop_drop, h]
      exact List.drop_left (l₁ := d.ws)
    have h0 : L.drop k = d.name :: (d.colon :: d.kind :: (dcsR r ++ w :: R)) := h
    rw [is_at h0, if_neg (by rw [not_sp (.inl hd.1)]; decide), decl_one d hd h hn0 (by omega)]
    show declsL4 L (L.length + 1) [d.vr] (st4 (k + 3) p (nm + 1)) = _
    rw [declsL_sp (sp_other hw (by decide)) r (L.length + 1) [d.vr] (k + 3) (nm + 1) (by simp only [List.length_cons] at hlen; omega) (fun x hx => hok x (List.mem_cons_of_mem _ hx)) (by omega) (by omega) h3]
    have e1 : (dcs (d :: r)).length = 3 + (dcsR r).length := by show (d.ws ++ dcsR r).length = _; rw [List.length_append]; rfl
    rw [e1, List.length_cons, show k + 3 + (dcsR r).length = k + (3 + (dcsR r).length) by omega, show nm + 1 + (r.length : Int) = nm + ((r.length + 1 : Nat) : Int) by omega]
    rfl
/-- An equation. -/
structure Eqn where
  name : W4
  eq : W4
  ews : List W4
  e : Ex
  np : Nat
  semi : W4
def Eqn.ok (q : Eqn) : Prop := q.name.kind = 1 ∧ sp4 q.eq [61] = true ∧ (∃ d, d ≤ 29 ∧ ExSp d q.ews q.e q.np) ∧ q.np ≤ 300 ∧ sp4 q.semi [59] = true
def Eqn.ws (q : Eqn) : List W4 := q.name :: q.eq :: (q.ews ++ [q.semi])
def Eqn.qe (q : Eqn) : Qe := ⟨q.name.text, q.e, q.name.at_⟩
theorem eq_sp {L R : List W4} {k : Nat} {p nm : Int} (q : Eqn) (hq : q.ok) (h : L.drop k = q.ws ++ R) : eq4 L (st4 k p nm) = (q.qe, st4 (k + q.ws.length) q.np nm) := by
  obtain ⟨h1, h2, ⟨d, hd, he⟩, h4, h5⟩ := hq
  have h : L.drop k = q.name :: q.eq :: (q.ews ++ q.semi :: R) := by rw [h]; simp [Eqn.ws]
  have ha := (drop_cons h).2.1
  have hb := (drop_cons ha).2.1
  have hend : L.drop (k + 1 + 1 + q.ews.length) = q.semi :: R := by
    rw [← List.drop_drop, hb, List.drop_left]
  have hx : expr4 L (st4 (k + 1 + 1) 0 nm) = (q.e, st4 (k + 1 + 1 + q.ews.length) (0 + q.np) nm) := by
    have hh := he L R (k + 1 + 1) 29 0 nm q.semi hd (Int.le_refl _) (by omega) hb (stop_of h5 (by decide)) (sp_other h5 (by decide))
    unfold expr4 exprN4 deep4
    rw [if_pos rfl, if_neg (by decide)]
    show (((lev4 L 29).arrow (st4 (k + 1 + 1) 0 nm)).1, ((lev4 L 29).arrow (st4 (k + 1 + 1) 0 nm)).2) = _
    rw [hh]
  unfold eq4
  rw [name_at h h1]
  simp only
  rw [want_at ha _ h2]
  show (({ name := q.name.text, e := (expr4 L (st4 (k + 1 + 1) 0 nm)).1, at_ := (cur4 L (st4 k p nm)).at_ } : Qe), want4 L ⟨#[59]⟩ (expr4 L (st4 (k + 1 + 1) 0 nm)).2) = _
  rw [hx, cur_at h]
  show (({ name := q.name.text, e := q.e, at_ := q.name.at_ } : Qe), want4 L ⟨#[59]⟩ (st4 (k + 1 + 1 + q.ews.length) (0 + q.np) nm)) = _
  rw [want_at hend _ h5]
  have e1 : q.ws.length = q.ews.length + 3 := by simp [Eqn.ws]
  rw [e1, Int.zero_add, show k + 1 + 1 + q.ews.length + 1 = k + (q.ews.length + 3) by omega]
  rfl
def eqws (qs : List Eqn) : List W4 := qs.flatMap Eqn.ws
theorem eqsL_sp {L R : List W4} {nm : Int} {w : W4} (hw : w.kind ≠ 1) : ∀ (qs : List Eqn) (f : Nat) (l : List Qe) (k : Nat) (p : Int), qs.length < f → (∀ q ∈ qs, q.ok) → L.drop k = eqws qs ++ w :: R → ∃ p', eqsL4 L f l (st4 k p nm) = (l ++ qs.map Eqn.qe, st4 (k + (eqws qs).length) p' nm)
  | [], 0, _, _, _, hf, _, _ => absurd hf (Nat.lt_irrefl _)
  | [], f + 1, l, k, p, _, _, h => by
    refine ⟨p, ?_⟩
    unfold eqsL4
    rw [cur_at (show L.drop k = w :: R from h), if_neg (fun hh => hw hh.2)]
    simp [eqws]
  | q :: r, 0, _, _, _, hf, _, _ => absurd hf (Nat.not_lt_zero _)
  | q :: r, f + 1, l, k, p, hf, hok, h => by
    have hq := hok q (List.mem_cons_self ..)
    have h : L.drop k = q.ws ++ (eqws r ++ w :: R) := by rw [h]; unfold eqws; simp [List.flatMap_cons]
    have h3 : L.drop (k + q.ws.length) = eqws r ++ w :: R := by rw [← List.drop_drop, h, List.drop_left]
    have h0 : L.drop k = q.name :: (q.eq :: (q.ews ++ [q.semi]) ++ (eqws r ++ w :: R)) := h
    obtain ⟨p', hp⟩ := eqsL_sp hw r f (l ++ [q.qe]) (k + q.ws.length) q.np (by simpa using hf) (fun x hx => hok x (List.mem_cons_of_mem _ hx)) h3
    refine ⟨p', ?_⟩
    unfold eqsL4
    rw [if_pos ⟨rfl, by rw [cur_at h0]; exact hq.1⟩]
    show eqsL4 L f (l ++ [(eq4 L (st4 k p nm)).1]) (eq4 L (st4 k p nm)).2 = _
    rw [eq_sp q hq h]
    show eqsL4 L f (l ++ [q.qe]) (st4 (k + q.ws.length) q.np nm) = _
    rw [hp]
    have e1 : (eqws (q :: r)).length = q.ws.length + (eqws r).length := by unfold eqws; rw [List.flatMap_cons, List.length_append]
    rw [e1, List.map_cons, List.append_assoc, Nat.add_assoc]
    rfl
/-- These words spell this node. -/
def NdSp (ws : List W4) (n : Nd) : Prop := ∀ (L R : List W4) (k : Nat) (p nm : Int) (w : W4), L.drop k = ws ++ w :: R → sp4 w [59] = false → ∃ p' nm', node4 L (st4 k p nm) = (n, st4 (k + ws.length) p' nm')
theorem NdSp.make {w0 w1 w2 w3 w4 w5 w6 w7 w8 w9 : W4} (ins outs : List Dc) (qs : List Eqn) (hi : ∀ d ∈ ins, d.ok) (ho : ∀ d ∈ outs, d.ok) (hq : ∀ q ∈ qs, q.ok) (hn : ins.length + outs.length ≤ 64)
    (h0 : sp4 w0 [110, 111, 100, 101] = true) (h1 : w1.kind = 1) (h2 : sp4 w2 [40] = true) (h3 : sp4 w3 [41] = true) (h4 : sp4 w4 [114, 101, 116, 117, 114, 110, 115] = true) (h5 : sp4 w5 [40] = true) (h6 : sp4 w6 [41] = true) (h7 : sp4 w7 [59] = true) (h8 : sp4 w8 [108, 101, 116] = true) (h9 : sp4 w9 [116, 101, 108] = true) (h9k : w9.kind ≠ 1) :
    NdSp (w0 :: w1 :: w2 :: (dcs ins ++ w3 :: w4 :: w5 :: (dcs outs ++ w6 :: w7 :: w8 :: (eqws qs ++ [w9])))) ⟨w1.text, ins.map Dc.vr, outs.map Dc.vr, [], qs.map Eqn.qe, w0.at_⟩ := by
  intro L R k p nm w h hw
  have a0 : L.drop k = w0 :: w1 :: w2 :: (dcs ins ++ w3 :: w4 :: w5 :: (dcs outs ++ w6 :: w7 :: w8 :: (eqws qs ++ w9 :: w :: R))) := by rw [h]; simp
  have a1 := (drop_cons a0).2.1
  have a2 := (drop_cons a1).2.1
  have a3 := (drop_cons a2).2.1
  have a4 : L.drop (k + 1 + 1 + 1 + (dcs ins).length) = w3 :: w4 :: w5 :: (dcs outs ++ w6 :: w7 :: w8 :: (eqws qs ++ w9 :: w :: R)) := by rw [← List.drop_drop, a3, List.drop_left]
  have a5 := (drop_cons a4).2.1
  have a6 := (drop_cons a5).2.1
  have a7 := (drop_cons a6).2.1
  have a8 : L.drop (k + 1 + 1 + 1 + (dcs ins).length + 1 + 1 + 1 + (dcs outs).length) = w6 :: w7 :: w8 :: (eqws qs ++ w9 :: w :: R) := by rw [← List.drop_drop, a7, List.drop_left]
  have a9 := (drop_cons a8).2.1
  have a10 := (drop_cons a9).2.1
  have a11 := (drop_cons a10).2.1
  have a12 : L.drop (k + 1 + 1 + 1 + (dcs ins).length + 1 + 1 + 1 + (dcs outs).length + 1 + 1 + 1 + (eqws qs).length) = w9 :: w :: R := by rw [← List.drop_drop, a11, List.drop_left]
  have a13 := (drop_cons a12).2.1
  have hlen : qs.length < L.length + 1 := by
    have e : (L.drop (k + 1 + 1 + 1 + (dcs ins).length + 1 + 1 + 1 + (dcs outs).length + 1 + 1 + 1)).length = (eqws qs ++ w9 :: w :: R).length := by rw [a11]
    rw [List.length_drop, List.length_append] at e
    have : ∀ l : List Eqn, l.length ≤ (eqws l).length := fun l => by
      induction l with
      | nil => exact Nat.zero_le _
      | cons q r ih => unfold eqws at ih ⊢; rw [List.flatMap_cons, List.length_append]; simp only [Eqn.ws, List.length_cons]; omega
    have := this qs
    omega
  obtain ⟨p', hp⟩ := eqsL_sp (nm := 0 + ins.length + outs.length) h9k qs (L.length + 1) [] _ p hlen hq a11
  refine ⟨p', 0 + ins.length + outs.length, ?_⟩
  have e1 : name4 L (want4 L ⟨#[110, 111, 100, 101]⟩ (st4 k p 0)) = (w1.text, st4 (k + 1 + 1) p 0) := by rw [want_at a0 _ h0, name_at a1 h1]
  have e2 : decls4 L (want4 L ⟨#[40]⟩ (st4 (k + 1 + 1) p 0)) = (ins.map Dc.vr, st4 (k + 1 + 1 + 1 + (dcs ins).length) p (0 + ins.length)) := by
    rw [want_at a2 _ h2, decls_sp h3 ins _ 0 hi (Int.le_refl _) (by omega) a3]
  have e3 : decls4 L (want4 L ⟨#[40]⟩ (want4 L ⟨#[114, 101, 116, 117, 114, 110, 115]⟩ (want4 L ⟨#[41]⟩ (st4 (k + 1 + 1 + 1 + (dcs ins).length) p (0 + ins.length))))) = (outs.map Dc.vr, st4 (k + 1 + 1 + 1 + (dcs ins).length + 1 + 1 + 1 + (dcs outs).length) p (0 + ins.length + outs.length)) := by
    rw [want_at a4 _ h3, want_at a5 _ h4, want_at a6 _ h5, decls_sp h6 outs _ _ ho (by omega) (by omega) a7]
  have e4 : take4 L ⟨#[118, 97, 114]⟩ (want4 L ⟨#[59]⟩ (want4 L ⟨#[41]⟩ (st4 (k + 1 + 1 + 1 + (dcs ins).length + 1 + 1 + 1 + (dcs outs).length) p (0 + ins.length + outs.length)))) = (false, st4 (k + 1 + 1 + 1 + (dcs ins).length + 1 + 1 + 1 + (dcs outs).length + 1 + 1) p (0 + ins.length + outs.length)) := by
    rw [want_at a8 _ h6, want_at a9 _ h7, take_no a10 _ (sp_other h8 (by decide))]
  unfold node4
  have ez : ({ st4 k p nm with names := 0 } : S4) = st4 k p 0 := rfl
  rw [ez, e1]
  simp only
  rw [e2]
  simp only
  rw [e3]
  simp only
  rw [e4]
  simp only [Bool.false_eq_true, if_false]
  rw [want_at a10 _ h8, hp]
  simp only
  rw [want_at a12 _ h9, take_no a13 _ hw, cur_at a0, List.nil_append]
  have el : (w0 :: w1 :: w2 :: (dcs ins ++ w3 :: w4 :: w5 :: (dcs outs ++ w6 :: w7 :: w8 :: (eqws qs ++ [w9])))).length = (dcs ins).length + (dcs outs).length + (eqws qs).length + 10 := by
    simp only [List.length_cons, List.length_append, List.length_nil]; omega
  rw [el, show k + 1 + 1 + 1 + (dcs ins).length + 1 + 1 + 1 + (dcs outs).length + 1 + 1 + 1 + (eqws qs).length + 1 = k + ((dcs ins).length + (dcs outs).length + (eqws qs).length + 10) by omega]
/-- Nodes, one behind the other. -/
theorem nodesL_sp {L : List W4} {w : W4} (hw : w.kind = 0) : ∀ (ns : List (List W4 × Nd)) (f : Nat) (l : List Nd) (k : Nat) (p nm : Int), ns.length < f → l.length + ns.length ≤ 32 → (l ≠ [] ∨ ns ≠ []) → (∀ x ∈ ns, NdSp x.1 x.2 ∧ ∃ h r, x.1 = h :: r ∧ sp4 h [110, 111, 100, 101] = true) → L.drop k = ns.flatMap Prod.fst ++ [w] → ∃ s, nodesL4 L f l (st4 k p nm) = (l ++ ns.map Prod.snd, s) ∧ s.er = 0
  | [], 0, _, _, _, _, hf, _, _, _, _ => absurd hf (Nat.lt_irrefl _)
  | [], f + 1, l, k, p, nm, _, _, hne, _, h => by
    refine ⟨st4 k p nm, ?_, rfl⟩
    unfold nodesL4
    rw [cur_at (show L.drop k = w :: [] from h), if_neg (by
      rintro ⟨_, h1 | h1⟩
      · rcases hne with h2 | h2
        · exact h2 h1
        · exact h2 rfl
      · exact h1 hw)]
    simp
  | x :: r, 0, _, _, _, _, hf, _, _, _, _ => absurd hf (Nat.not_lt_zero _)
  | x :: r, f + 1, l, k, p, nm, hf, hl, _, hok, h => by
    obtain ⟨hx, hh, hr, hx1, hx2⟩ := hok x (List.mem_cons_self ..)
    have hl' : l.length + (r.length + 1) ≤ 32 := hl
    have h : L.drop k = x.1 ++ (r.flatMap Prod.fst ++ [w]) := by rw [h]; simp [List.flatMap_cons]
    have h3 : L.drop (k + x.1.length) = r.flatMap Prod.fst ++ [w] := by rw [← List.drop_drop, h, List.drop_left]
    have h0 : L.drop k = hh :: (hr ++ (r.flatMap Prod.fst ++ [w])) := by rw [h, hx1]; rfl
    have hk : hh.kind ≠ 0 := by
      intro e
      unfold sp4 at hx2
      rw [e] at hx2
      exact absurd hx2 (by simp)
    have hnext : ∃ w' R', r.flatMap Prod.fst ++ [w] = w' :: R' ∧ sp4 w' [59] = false := by
      cases r with
      | nil => exact ⟨w, [], rfl, by unfold sp4; rw [hw]; rfl⟩
      | cons y t =>
        obtain ⟨_, yh, yr, hy1, hy2⟩ := hok y (List.mem_cons_of_mem _ (List.mem_cons_self ..))
        exact ⟨yh, yr ++ (t.flatMap Prod.fst ++ [w]), by rw [List.flatMap_cons, hy1]; simp, sp_other hy2 (by decide)⟩
    obtain ⟨w', R', hn1, hn2⟩ := hnext
    obtain ⟨p', nm', hnd⟩ := hx L R' k p nm w' (by rw [h, hn1]) hn2
    obtain ⟨s, hs, he⟩ := nodesL_sp hw r f (l ++ [x.2]) (k + x.1.length) p' nm' (by simpa using hf) (by simp only [List.length_append, List.length_cons, List.length_nil]; omega) (.inl (by simp)) (fun y hy => hok y (List.mem_cons_of_mem _ hy)) h3
    refine ⟨s, ?_, he⟩
    unfold nodesL4
    rw [cur_at h0, if_pos ⟨rfl, .inr hk⟩, if_neg (by omega)]
    show nodesL4 L f (l ++ [(node4 L (st4 k p nm)).1]) (node4 L (st4 k p nm)).2 = _
    rw [hnd]
    show nodesL4 L f (l ++ [x.2]) (st4 (k + x.1.length) p' nm') = _
    rw [hs]
    simp
theorem nodes_sp {w : W4} (hw : w.kind = 0) (ns : List (List W4 × Nd)) (hne : ns ≠ []) (hl : ns.length ≤ 32) (hok : ∀ x ∈ ns, NdSp x.1 x.2 ∧ ∃ h r, x.1 = h :: r ∧ sp4 h [110, 111, 100, 101] = true) : nodes4 (ns.flatMap Prod.fst ++ [w]) = .ok (ns.map Prod.snd) := by
  have hlen : ns.length < (ns.flatMap Prod.fst ++ [w]).length + 1 := by
    have : ∀ l : List (List W4 × Nd), (∀ x ∈ l, ∃ h r, x.1 = h :: r) → l.length ≤ (l.flatMap Prod.fst).length := fun l => by
      induction l with
      | nil => intro _; exact Nat.zero_le _
      | cons x r ih =>
        intro hx
        obtain ⟨a, b, e⟩ := hx x (List.mem_cons_self ..)
        have := ih fun y hy => hx y (List.mem_cons_of_mem _ hy)
        rw [List.flatMap_cons, List.length_append, e]
        simp only [List.length_cons]
        omega
    have := this ns fun x hx => by obtain ⟨_, a, b, e, _⟩ := hok x hx; exact ⟨a, b, e⟩
    rw [List.length_append]
    omega
  obtain ⟨s, hs, he⟩ := nodesL_sp (L := ns.flatMap Prod.fst ++ [w]) hw ns _ [] 0 0 0 hlen (by simpa using hl) (.inr hne) hok (by simp)
  unfold nodes4
  show (let r := nodesL4 (ns.flatMap Prod.fst ++ [w]) ((ns.flatMap Prod.fst ++ [w]).length + 1) [] (st4 0 0 0); if r.2.er = 0 then Except.ok r.1 else Except.error (r.2.er, r.2.ea)) = _
  rw [hs]
  simp [he]
end Go.Proofs.Ytbgngmnpepnflaa

namespace Go.Proofs.Ytbgngmnpepnflaa
open Go Go.RowKit
/-- Node i's name, as a letter. -/
def lc (i : Nat) : UInt8 := UInt8.ofNat (97 + i)
def nb (i : Nat) : ByteArray := ⟨[110, lc i].toArray⟩
theorem fwn_40 (i : Nat) (h : i < 20) (R : List UInt8) : firstW (110 :: lc i :: 40 :: R) = (1, 2, 0) := by
  match i, h with
  | 0, _ => rfl
  | 1, _ => rfl
  | 2, _ => rfl
  | 3, _ => rfl
  | 4, _ => rfl
  | 5, _ => rfl
  | 6, _ => rfl
  | 7, _ => rfl
  | 8, _ => rfl
  | 9, _ => rfl
  | 10, _ => rfl
  | 11, _ => rfl
  | 12, _ => rfl
  | 13, _ => rfl
  | 14, _ => rfl
  | 15, _ => rfl
  | 16, _ => rfl
  | 17, _ => rfl
  | 18, _ => rfl
  | 19, _ => rfl
  | _ + 20, h => omega
theorem lc_inj (i j : Nat) (hi : i < 20) (hj : j < 20) (h : lc i = lc j) : i = j := by
  have h := congrArg UInt8.toNat h
  unfold lc at h
  rw [UInt8.toNat_ofNat', UInt8.toNat_ofNat'] at h
  omega
def ahX (i : Nat) : List UInt8 := [110, 111, 100, 101, 32, 110, lc i, 40, 120, 58, 32, 105, 110, 116, 41, 32, 114, 101, 116, 117, 114, 110, 115, 32, 40, 121, 58, 32, 105, 110, 116, 41, 59, 32, 108, 101, 116, 32, 121, 32, 61, 32, 120, 59, 32, 116, 101, 108, 32]
def ahC (i tgt : Nat) : List UInt8 := [110, 111, 100, 101, 32, 110, lc i, 40, 120, 58, 32, 105, 110, 116, 41, 32, 114, 101, 116, 117, 114, 110, 115, 32, 40, 121, 58, 32, 105, 110, 116, 41, 59, 32, 108, 101, 116, 32, 121, 32, 61, 32, 110, lc tgt, 40, 120, 41, 59, 32, 116, 101, 108, 32]
def ahXW (i a : Nat) : List W4 := sg 2 [110, 111, 100, 101] a :: ⟨1, nb i, 0, (a + 5)⟩ :: sg 4 [40] (a + 7) :: (dcs [⟨⟨1, ⟨[120].toArray⟩, 0, (a + 8)⟩, sg 4 [58] (a + 9), sg 2 [105, 110, 116] (a + 11), sg 4 [59] 0, 2⟩] ++ sg 4 [41] (a + 14) :: sg 2 [114, 101, 116, 117, 114, 110, 115] (a + 16) :: sg 4 [40] (a + 24) :: (dcs [⟨⟨1, ⟨[121].toArray⟩, 0, (a + 25)⟩, sg 4 [58] (a + 26), sg 2 [105, 110, 116] (a + 28), sg 4 [59] 0, 2⟩] ++ sg 4 [41] (a + 31) :: sg 4 [59] (a + 32) :: sg 2 [108, 101, 116] (a + 34) :: (eqws [⟨⟨1, ⟨[121].toArray⟩, 0, (a + 38)⟩, sg 4 [61] (a + 40), [⟨1, ⟨[120].toArray⟩, 0, (a + 42)⟩], exVar ⟨[120].toArray⟩ (a + 42), 1, sg 4 [59] (a + 43)⟩] ++ [sg 2 [116, 101, 108] (a + 45)])))
def ahCW (i tgt a : Nat) : List W4 := sg 2 [110, 111, 100, 101] a :: ⟨1, nb i, 0, (a + 5)⟩ :: sg 4 [40] (a + 7) :: (dcs [⟨⟨1, ⟨[120].toArray⟩, 0, (a + 8)⟩, sg 4 [58] (a + 9), sg 2 [105, 110, 116] (a + 11), sg 4 [59] 0, 2⟩] ++ sg 4 [41] (a + 14) :: sg 2 [114, 101, 116, 117, 114, 110, 115] (a + 16) :: sg 4 [40] (a + 24) :: (dcs [⟨⟨1, ⟨[121].toArray⟩, 0, (a + 25)⟩, sg 4 [58] (a + 26), sg 2 [105, 110, 116] (a + 28), sg 4 [59] 0, 2⟩] ++ sg 4 [41] (a + 31) :: sg 4 [59] (a + 32) :: sg 2 [108, 101, 116] (a + 34) :: (eqws [⟨⟨1, ⟨[121].toArray⟩, 0, (a + 38)⟩, sg 4 [61] (a + 40), ⟨1, nb tgt, 0, (a + 42)⟩ :: sg 4 [40] (a + 44) :: ([⟨1, ⟨[120].toArray⟩, 0, (a + 45)⟩] ++ [sg 4 [41] (a + 46)]), exCall (nb tgt) (a + 42) [exVar ⟨[120].toArray⟩ (a + 45)], 2, sg 4 [59] (a + 47)⟩] ++ [sg 2 [116, 101, 108] (a + 49)])))
def ahXN (i a : Nat) : Nd := ⟨nb i, [⟨⟨[120].toArray⟩, 2, ⟨#[]⟩, false, a + 8⟩], [⟨⟨[121].toArray⟩, 2, ⟨#[]⟩, false, a + 25⟩], [], [⟨⟨[121].toArray⟩, exVar ⟨[120].toArray⟩ (a + 42), a + 38⟩], a⟩
def ahCN (i tgt a : Nat) : Nd := ⟨nb i, [⟨⟨[120].toArray⟩, 2, ⟨#[]⟩, false, a + 8⟩], [⟨⟨[121].toArray⟩, 2, ⟨#[]⟩, false, a + 25⟩], [], [⟨⟨[121].toArray⟩, exCall (nb tgt) (a + 42) [exVar ⟨[120].toArray⟩ (a + 45)], a + 38⟩], a⟩
theorem gap_one {R : List UInt8} (h : gapL R = 0) : gapL (32 :: R) = 1 := by rw [gapL_blank _ _ (by decide), h]
theorem lex_ahX (i : Nat) (hi : i < 20) (a : Nat) (R : List UInt8) (ws : List W4) (hg : gapL R = 0) (h : LexW R (a + 49) ws) : LexW (ahX i ++ R) a (ahXW i a ++ ws) := by
  have s19 : LexW ([116, 101, 108, 32] ++ R) (a + 45) (sg 2 [116, 101, 108] (a + 45) :: ws) := LexW.cons 2 3 0 1 (by simp) rfl (by decide) (gap_one hg) rfl h
  have s18 : LexW ([59, 32, 116, 101, 108, 32] ++ R) (a + 43) (sg 4 [59] (a + 43) :: sg 2 [116, 101, 108] (a + 45) :: ws) := LexW.cons 4 1 0 1 (by simp) rfl (by decide) rfl rfl s19
  have s17 : LexW ([120, 59, 32, 116, 101, 108, 32] ++ R) (a + 42) (⟨1, ⟨[120].toArray⟩, 0, (a + 42)⟩ :: sg 4 [59] (a + 43) :: sg 2 [116, 101, 108] (a + 45) :: ws) := LexW.cons 1 1 0 0 (by simp) rfl (by decide) rfl rfl s18
  have s16 : LexW ([61, 32, 120, 59, 32, 116, 101, 108, 32] ++ R) (a + 40) (sg 4 [61] (a + 40) :: ⟨1, ⟨[120].toArray⟩, 0, (a + 42)⟩ :: sg 4 [59] (a + 43) :: sg 2 [116, 101, 108] (a + 45) :: ws) := LexW.cons 4 1 0 1 (by simp) rfl (by decide) rfl rfl s17
  have s15 : LexW ([121, 32, 61, 32, 120, 59, 32, 116, 101, 108, 32] ++ R) (a + 38) (⟨1, ⟨[121].toArray⟩, 0, (a + 38)⟩ :: sg 4 [61] (a + 40) :: ⟨1, ⟨[120].toArray⟩, 0, (a + 42)⟩ :: sg 4 [59] (a + 43) :: sg 2 [116, 101, 108] (a + 45) :: ws) := LexW.cons 1 1 0 1 (by simp) rfl (by decide) rfl rfl s16
  have s14 : LexW ([108, 101, 116, 32, 121, 32, 61, 32, 120, 59, 32, 116, 101, 108, 32] ++ R) (a + 34) (sg 2 [108, 101, 116] (a + 34) :: ⟨1, ⟨[121].toArray⟩, 0, (a + 38)⟩ :: sg 4 [61] (a + 40) :: ⟨1, ⟨[120].toArray⟩, 0, (a + 42)⟩ :: sg 4 [59] (a + 43) :: sg 2 [116, 101, 108] (a + 45) :: ws) := LexW.cons 2 3 0 1 (by simp) rfl (by decide) rfl rfl s15
  have s13 : LexW ([59, 32, 108, 101, 116, 32, 121, 32, 61, 32, 120, 59, 32, 116, 101, 108, 32] ++ R) (a + 32) (sg 4 [59] (a + 32) :: sg 2 [108, 101, 116] (a + 34) :: ⟨1, ⟨[121].toArray⟩, 0, (a + 38)⟩ :: sg 4 [61] (a + 40) :: ⟨1, ⟨[120].toArray⟩, 0, (a + 42)⟩ :: sg 4 [59] (a + 43) :: sg 2 [116, 101, 108] (a + 45) :: ws) := LexW.cons 4 1 0 1 (by simp) rfl (by decide) rfl rfl s14
  have s12 : LexW ([41, 59, 32, 108, 101, 116, 32, 121, 32, 61, 32, 120, 59, 32, 116, 101, 108, 32] ++ R) (a + 31) (sg 4 [41] (a + 31) :: sg 4 [59] (a + 32) :: sg 2 [108, 101, 116] (a + 34) :: ⟨1, ⟨[121].toArray⟩, 0, (a + 38)⟩ :: sg 4 [61] (a + 40) :: ⟨1, ⟨[120].toArray⟩, 0, (a + 42)⟩ :: sg 4 [59] (a + 43) :: sg 2 [116, 101, 108] (a + 45) :: ws) := LexW.cons 4 1 0 0 (by simp) rfl (by decide) rfl rfl s13
  have s11 : LexW ([105, 110, 116, 41, 59, 32, 108, 101, 116, 32, 121, 32, 61, 32, 120, 59, 32, 116, 101, 108, 32] ++ R) (a + 28) (sg 2 [105, 110, 116] (a + 28) :: sg 4 [41] (a + 31) :: sg 4 [59] (a + 32) :: sg 2 [108, 101, 116] (a + 34) :: ⟨1, ⟨[121].toArray⟩, 0, (a + 38)⟩ :: sg 4 [61] (a + 40) :: ⟨1, ⟨[120].toArray⟩, 0, (a + 42)⟩ :: sg 4 [59] (a + 43) :: sg 2 [116, 101, 108] (a + 45) :: ws) := LexW.cons 2 3 0 0 (by simp) rfl (by decide) rfl rfl s12
  have s10 : LexW ([58, 32, 105, 110, 116, 41, 59, 32, 108, 101, 116, 32, 121, 32, 61, 32, 120, 59, 32, 116, 101, 108, 32] ++ R) (a + 26) (sg 4 [58] (a + 26) :: sg 2 [105, 110, 116] (a + 28) :: sg 4 [41] (a + 31) :: sg 4 [59] (a + 32) :: sg 2 [108, 101, 116] (a + 34) :: ⟨1, ⟨[121].toArray⟩, 0, (a + 38)⟩ :: sg 4 [61] (a + 40) :: ⟨1, ⟨[120].toArray⟩, 0, (a + 42)⟩ :: sg 4 [59] (a + 43) :: sg 2 [116, 101, 108] (a + 45) :: ws) := LexW.cons 4 1 0 1 (by simp) rfl (by decide) rfl rfl s11
  have s9 : LexW ([121, 58, 32, 105, 110, 116, 41, 59, 32, 108, 101, 116, 32, 121, 32, 61, 32, 120, 59, 32, 116, 101, 108, 32] ++ R) (a + 25) (⟨1, ⟨[121].toArray⟩, 0, (a + 25)⟩ :: sg 4 [58] (a + 26) :: sg 2 [105, 110, 116] (a + 28) :: sg 4 [41] (a + 31) :: sg 4 [59] (a + 32) :: sg 2 [108, 101, 116] (a + 34) :: ⟨1, ⟨[121].toArray⟩, 0, (a + 38)⟩ :: sg 4 [61] (a + 40) :: ⟨1, ⟨[120].toArray⟩, 0, (a + 42)⟩ :: sg 4 [59] (a + 43) :: sg 2 [116, 101, 108] (a + 45) :: ws) := LexW.cons 1 1 0 0 (by simp) rfl (by decide) rfl rfl s10
  have s8 : LexW ([40, 121, 58, 32, 105, 110, 116, 41, 59, 32, 108, 101, 116, 32, 121, 32, 61, 32, 120, 59, 32, 116, 101, 108, 32] ++ R) (a + 24) (sg 4 [40] (a + 24) :: ⟨1, ⟨[121].toArray⟩, 0, (a + 25)⟩ :: sg 4 [58] (a + 26) :: sg 2 [105, 110, 116] (a + 28) :: sg 4 [41] (a + 31) :: sg 4 [59] (a + 32) :: sg 2 [108, 101, 116] (a + 34) :: ⟨1, ⟨[121].toArray⟩, 0, (a + 38)⟩ :: sg 4 [61] (a + 40) :: ⟨1, ⟨[120].toArray⟩, 0, (a + 42)⟩ :: sg 4 [59] (a + 43) :: sg 2 [116, 101, 108] (a + 45) :: ws) := LexW.cons 4 1 0 0 (by simp) rfl (by decide) rfl rfl s9
  have s7 : LexW ([114, 101, 116, 117, 114, 110, 115, 32, 40, 121, 58, 32, 105, 110, 116, 41, 59, 32, 108, 101, 116, 32, 121, 32, 61, 32, 120, 59, 32, 116, 101, 108, 32] ++ R) (a + 16) (sg 2 [114, 101, 116, 117, 114, 110, 115] (a + 16) :: sg 4 [40] (a + 24) :: ⟨1, ⟨[121].toArray⟩, 0, (a + 25)⟩ :: sg 4 [58] (a + 26) :: sg 2 [105, 110, 116] (a + 28) :: sg 4 [41] (a + 31) :: sg 4 [59] (a + 32) :: sg 2 [108, 101, 116] (a + 34) :: ⟨1, ⟨[121].toArray⟩, 0, (a + 38)⟩ :: sg 4 [61] (a + 40) :: ⟨1, ⟨[120].toArray⟩, 0, (a + 42)⟩ :: sg 4 [59] (a + 43) :: sg 2 [116, 101, 108] (a + 45) :: ws) := LexW.cons 2 7 0 1 (by simp) rfl (by decide) rfl rfl s8
  have s6 : LexW ([41, 32, 114, 101, 116, 117, 114, 110, 115, 32, 40, 121, 58, 32, 105, 110, 116, 41, 59, 32, 108, 101, 116, 32, 121, 32, 61, 32, 120, 59, 32, 116, 101, 108, 32] ++ R) (a + 14) (sg 4 [41] (a + 14) :: sg 2 [114, 101, 116, 117, 114, 110, 115] (a + 16) :: sg 4 [40] (a + 24) :: ⟨1, ⟨[121].toArray⟩, 0, (a + 25)⟩ :: sg 4 [58] (a + 26) :: sg 2 [105, 110, 116] (a + 28) :: sg 4 [41] (a + 31) :: sg 4 [59] (a + 32) :: sg 2 [108, 101, 116] (a + 34) :: ⟨1, ⟨[121].toArray⟩, 0, (a + 38)⟩ :: sg 4 [61] (a + 40) :: ⟨1, ⟨[120].toArray⟩, 0, (a + 42)⟩ :: sg 4 [59] (a + 43) :: sg 2 [116, 101, 108] (a + 45) :: ws) := LexW.cons 4 1 0 1 (by simp) rfl (by decide) rfl rfl s7
  have s5 : LexW ([105, 110, 116, 41, 32, 114, 101, 116, 117, 114, 110, 115, 32, 40, 121, 58, 32, 105, 110, 116, 41, 59, 32, 108, 101, 116, 32, 121, 32, 61, 32, 120, 59, 32, 116, 101, 108, 32] ++ R) (a + 11) (sg 2 [105, 110, 116] (a + 11) :: sg 4 [41] (a + 14) :: sg 2 [114, 101, 116, 117, 114, 110, 115] (a + 16) :: sg 4 [40] (a + 24) :: ⟨1, ⟨[121].toArray⟩, 0, (a + 25)⟩ :: sg 4 [58] (a + 26) :: sg 2 [105, 110, 116] (a + 28) :: sg 4 [41] (a + 31) :: sg 4 [59] (a + 32) :: sg 2 [108, 101, 116] (a + 34) :: ⟨1, ⟨[121].toArray⟩, 0, (a + 38)⟩ :: sg 4 [61] (a + 40) :: ⟨1, ⟨[120].toArray⟩, 0, (a + 42)⟩ :: sg 4 [59] (a + 43) :: sg 2 [116, 101, 108] (a + 45) :: ws) := LexW.cons 2 3 0 0 (by simp) rfl (by decide) rfl rfl s6
  have s4 : LexW ([58, 32, 105, 110, 116, 41, 32, 114, 101, 116, 117, 114, 110, 115, 32, 40, 121, 58, 32, 105, 110, 116, 41, 59, 32, 108, 101, 116, 32, 121, 32, 61, 32, 120, 59, 32, 116, 101, 108, 32] ++ R) (a + 9) (sg 4 [58] (a + 9) :: sg 2 [105, 110, 116] (a + 11) :: sg 4 [41] (a + 14) :: sg 2 [114, 101, 116, 117, 114, 110, 115] (a + 16) :: sg 4 [40] (a + 24) :: ⟨1, ⟨[121].toArray⟩, 0, (a + 25)⟩ :: sg 4 [58] (a + 26) :: sg 2 [105, 110, 116] (a + 28) :: sg 4 [41] (a + 31) :: sg 4 [59] (a + 32) :: sg 2 [108, 101, 116] (a + 34) :: ⟨1, ⟨[121].toArray⟩, 0, (a + 38)⟩ :: sg 4 [61] (a + 40) :: ⟨1, ⟨[120].toArray⟩, 0, (a + 42)⟩ :: sg 4 [59] (a + 43) :: sg 2 [116, 101, 108] (a + 45) :: ws) := LexW.cons 4 1 0 1 (by simp) rfl (by decide) rfl rfl s5
  have s3 : LexW ([120, 58, 32, 105, 110, 116, 41, 32, 114, 101, 116, 117, 114, 110, 115, 32, 40, 121, 58, 32, 105, 110, 116, 41, 59, 32, 108, 101, 116, 32, 121, 32, 61, 32, 120, 59, 32, 116, 101, 108, 32] ++ R) (a + 8) (⟨1, ⟨[120].toArray⟩, 0, (a + 8)⟩ :: sg 4 [58] (a + 9) :: sg 2 [105, 110, 116] (a + 11) :: sg 4 [41] (a + 14) :: sg 2 [114, 101, 116, 117, 114, 110, 115] (a + 16) :: sg 4 [40] (a + 24) :: ⟨1, ⟨[121].toArray⟩, 0, (a + 25)⟩ :: sg 4 [58] (a + 26) :: sg 2 [105, 110, 116] (a + 28) :: sg 4 [41] (a + 31) :: sg 4 [59] (a + 32) :: sg 2 [108, 101, 116] (a + 34) :: ⟨1, ⟨[121].toArray⟩, 0, (a + 38)⟩ :: sg 4 [61] (a + 40) :: ⟨1, ⟨[120].toArray⟩, 0, (a + 42)⟩ :: sg 4 [59] (a + 43) :: sg 2 [116, 101, 108] (a + 45) :: ws) := LexW.cons 1 1 0 0 (by simp) rfl (by decide) rfl rfl s4
  have s2 : LexW ([40, 120, 58, 32, 105, 110, 116, 41, 32, 114, 101, 116, 117, 114, 110, 115, 32, 40, 121, 58, 32, 105, 110, 116, 41, 59, 32, 108, 101, 116, 32, 121, 32, 61, 32, 120, 59, 32, 116, 101, 108, 32] ++ R) (a + 7) (sg 4 [40] (a + 7) :: ⟨1, ⟨[120].toArray⟩, 0, (a + 8)⟩ :: sg 4 [58] (a + 9) :: sg 2 [105, 110, 116] (a + 11) :: sg 4 [41] (a + 14) :: sg 2 [114, 101, 116, 117, 114, 110, 115] (a + 16) :: sg 4 [40] (a + 24) :: ⟨1, ⟨[121].toArray⟩, 0, (a + 25)⟩ :: sg 4 [58] (a + 26) :: sg 2 [105, 110, 116] (a + 28) :: sg 4 [41] (a + 31) :: sg 4 [59] (a + 32) :: sg 2 [108, 101, 116] (a + 34) :: ⟨1, ⟨[121].toArray⟩, 0, (a + 38)⟩ :: sg 4 [61] (a + 40) :: ⟨1, ⟨[120].toArray⟩, 0, (a + 42)⟩ :: sg 4 [59] (a + 43) :: sg 2 [116, 101, 108] (a + 45) :: ws) := LexW.cons 4 1 0 0 (by simp) rfl (by decide) rfl rfl s3
  have s1 : LexW ([110, lc i, 40, 120, 58, 32, 105, 110, 116, 41, 32, 114, 101, 116, 117, 114, 110, 115, 32, 40, 121, 58, 32, 105, 110, 116, 41, 59, 32, 108, 101, 116, 32, 121, 32, 61, 32, 120, 59, 32, 116, 101, 108, 32] ++ R) (a + 5) (⟨1, nb i, 0, (a + 5)⟩ :: sg 4 [40] (a + 7) :: ⟨1, ⟨[120].toArray⟩, 0, (a + 8)⟩ :: sg 4 [58] (a + 9) :: sg 2 [105, 110, 116] (a + 11) :: sg 4 [41] (a + 14) :: sg 2 [114, 101, 116, 117, 114, 110, 115] (a + 16) :: sg 4 [40] (a + 24) :: ⟨1, ⟨[121].toArray⟩, 0, (a + 25)⟩ :: sg 4 [58] (a + 26) :: sg 2 [105, 110, 116] (a + 28) :: sg 4 [41] (a + 31) :: sg 4 [59] (a + 32) :: sg 2 [108, 101, 116] (a + 34) :: ⟨1, ⟨[121].toArray⟩, 0, (a + 38)⟩ :: sg 4 [61] (a + 40) :: ⟨1, ⟨[120].toArray⟩, 0, (a + 42)⟩ :: sg 4 [59] (a + 43) :: sg 2 [116, 101, 108] (a + 45) :: ws) := LexW.cons 1 2 0 0 (by simp) (fwn_40 i hi _) (by decide) rfl rfl s2
  have s0 : LexW ([110, 111, 100, 101, 32, 110, lc i, 40, 120, 58, 32, 105, 110, 116, 41, 32, 114, 101, 116, 117, 114, 110, 115, 32, 40, 121, 58, 32, 105, 110, 116, 41, 59, 32, 108, 101, 116, 32, 121, 32, 61, 32, 120, 59, 32, 116, 101, 108, 32] ++ R) a (sg 2 [110, 111, 100, 101] a :: ⟨1, nb i, 0, (a + 5)⟩ :: sg 4 [40] (a + 7) :: ⟨1, ⟨[120].toArray⟩, 0, (a + 8)⟩ :: sg 4 [58] (a + 9) :: sg 2 [105, 110, 116] (a + 11) :: sg 4 [41] (a + 14) :: sg 2 [114, 101, 116, 117, 114, 110, 115] (a + 16) :: sg 4 [40] (a + 24) :: ⟨1, ⟨[121].toArray⟩, 0, (a + 25)⟩ :: sg 4 [58] (a + 26) :: sg 2 [105, 110, 116] (a + 28) :: sg 4 [41] (a + 31) :: sg 4 [59] (a + 32) :: sg 2 [108, 101, 116] (a + 34) :: ⟨1, ⟨[121].toArray⟩, 0, (a + 38)⟩ :: sg 4 [61] (a + 40) :: ⟨1, ⟨[120].toArray⟩, 0, (a + 42)⟩ :: sg 4 [59] (a + 43) :: sg 2 [116, 101, 108] (a + 45) :: ws) := LexW.cons 2 4 0 1 (by simp) rfl (by decide) rfl rfl s1
  exact s0
theorem lex_ahC (i tgt : Nat) (hi : i < 20) (hto : tgt < 20) (a : Nat) (R : List UInt8) (ws : List W4) (hg : gapL R = 0) (h : LexW R (a + 53) ws) : LexW (ahC i tgt ++ R) a (ahCW i tgt a ++ ws) := by
  have s22 : LexW ([116, 101, 108, 32] ++ R) (a + 49) (sg 2 [116, 101, 108] (a + 49) :: ws) := LexW.cons 2 3 0 1 (by simp) rfl (by decide) (gap_one hg) rfl h
  have s21 : LexW ([59, 32, 116, 101, 108, 32] ++ R) (a + 47) (sg 4 [59] (a + 47) :: sg 2 [116, 101, 108] (a + 49) :: ws) := LexW.cons 4 1 0 1 (by simp) rfl (by decide) rfl rfl s22
  have s20 : LexW ([41, 59, 32, 116, 101, 108, 32] ++ R) (a + 46) (sg 4 [41] (a + 46) :: sg 4 [59] (a + 47) :: sg 2 [116, 101, 108] (a + 49) :: ws) := LexW.cons 4 1 0 0 (by simp) rfl (by decide) rfl rfl s21
  have s19 : LexW ([120, 41, 59, 32, 116, 101, 108, 32] ++ R) (a + 45) (⟨1, ⟨[120].toArray⟩, 0, (a + 45)⟩ :: sg 4 [41] (a + 46) :: sg 4 [59] (a + 47) :: sg 2 [116, 101, 108] (a + 49) :: ws) := LexW.cons 1 1 0 0 (by simp) rfl (by decide) rfl rfl s20
  have s18 : LexW ([40, 120, 41, 59, 32, 116, 101, 108, 32] ++ R) (a + 44) (sg 4 [40] (a + 44) :: ⟨1, ⟨[120].toArray⟩, 0, (a + 45)⟩ :: sg 4 [41] (a + 46) :: sg 4 [59] (a + 47) :: sg 2 [116, 101, 108] (a + 49) :: ws) := LexW.cons 4 1 0 0 (by simp) rfl (by decide) rfl rfl s19
  have s17 : LexW ([110, lc tgt, 40, 120, 41, 59, 32, 116, 101, 108, 32] ++ R) (a + 42) (⟨1, nb tgt, 0, (a + 42)⟩ :: sg 4 [40] (a + 44) :: ⟨1, ⟨[120].toArray⟩, 0, (a + 45)⟩ :: sg 4 [41] (a + 46) :: sg 4 [59] (a + 47) :: sg 2 [116, 101, 108] (a + 49) :: ws) := LexW.cons 1 2 0 0 (by simp) (fwn_40 tgt hto _) (by decide) rfl rfl s18
  have s16 : LexW ([61, 32, 110, lc tgt, 40, 120, 41, 59, 32, 116, 101, 108, 32] ++ R) (a + 40) (sg 4 [61] (a + 40) :: ⟨1, nb tgt, 0, (a + 42)⟩ :: sg 4 [40] (a + 44) :: ⟨1, ⟨[120].toArray⟩, 0, (a + 45)⟩ :: sg 4 [41] (a + 46) :: sg 4 [59] (a + 47) :: sg 2 [116, 101, 108] (a + 49) :: ws) := LexW.cons 4 1 0 1 (by simp) rfl (by decide) rfl rfl s17
  have s15 : LexW ([121, 32, 61, 32, 110, lc tgt, 40, 120, 41, 59, 32, 116, 101, 108, 32] ++ R) (a + 38) (⟨1, ⟨[121].toArray⟩, 0, (a + 38)⟩ :: sg 4 [61] (a + 40) :: ⟨1, nb tgt, 0, (a + 42)⟩ :: sg 4 [40] (a + 44) :: ⟨1, ⟨[120].toArray⟩, 0, (a + 45)⟩ :: sg 4 [41] (a + 46) :: sg 4 [59] (a + 47) :: sg 2 [116, 101, 108] (a + 49) :: ws) := LexW.cons 1 1 0 1 (by simp) rfl (by decide) rfl rfl s16
  have s14 : LexW ([108, 101, 116, 32, 121, 32, 61, 32, 110, lc tgt, 40, 120, 41, 59, 32, 116, 101, 108, 32] ++ R) (a + 34) (sg 2 [108, 101, 116] (a + 34) :: ⟨1, ⟨[121].toArray⟩, 0, (a + 38)⟩ :: sg 4 [61] (a + 40) :: ⟨1, nb tgt, 0, (a + 42)⟩ :: sg 4 [40] (a + 44) :: ⟨1, ⟨[120].toArray⟩, 0, (a + 45)⟩ :: sg 4 [41] (a + 46) :: sg 4 [59] (a + 47) :: sg 2 [116, 101, 108] (a + 49) :: ws) := LexW.cons 2 3 0 1 (by simp) rfl (by decide) rfl rfl s15
  have s13 : LexW ([59, 32, 108, 101, 116, 32, 121, 32, 61, 32, 110, lc tgt, 40, 120, 41, 59, 32, 116, 101, 108, 32] ++ R) (a + 32) (sg 4 [59] (a + 32) :: sg 2 [108, 101, 116] (a + 34) :: ⟨1, ⟨[121].toArray⟩, 0, (a + 38)⟩ :: sg 4 [61] (a + 40) :: ⟨1, nb tgt, 0, (a + 42)⟩ :: sg 4 [40] (a + 44) :: ⟨1, ⟨[120].toArray⟩, 0, (a + 45)⟩ :: sg 4 [41] (a + 46) :: sg 4 [59] (a + 47) :: sg 2 [116, 101, 108] (a + 49) :: ws) := LexW.cons 4 1 0 1 (by simp) rfl (by decide) rfl rfl s14
  have s12 : LexW ([41, 59, 32, 108, 101, 116, 32, 121, 32, 61, 32, 110, lc tgt, 40, 120, 41, 59, 32, 116, 101, 108, 32] ++ R) (a + 31) (sg 4 [41] (a + 31) :: sg 4 [59] (a + 32) :: sg 2 [108, 101, 116] (a + 34) :: ⟨1, ⟨[121].toArray⟩, 0, (a + 38)⟩ :: sg 4 [61] (a + 40) :: ⟨1, nb tgt, 0, (a + 42)⟩ :: sg 4 [40] (a + 44) :: ⟨1, ⟨[120].toArray⟩, 0, (a + 45)⟩ :: sg 4 [41] (a + 46) :: sg 4 [59] (a + 47) :: sg 2 [116, 101, 108] (a + 49) :: ws) := LexW.cons 4 1 0 0 (by simp) rfl (by decide) rfl rfl s13
  have s11 : LexW ([105, 110, 116, 41, 59, 32, 108, 101, 116, 32, 121, 32, 61, 32, 110, lc tgt, 40, 120, 41, 59, 32, 116, 101, 108, 32] ++ R) (a + 28) (sg 2 [105, 110, 116] (a + 28) :: sg 4 [41] (a + 31) :: sg 4 [59] (a + 32) :: sg 2 [108, 101, 116] (a + 34) :: ⟨1, ⟨[121].toArray⟩, 0, (a + 38)⟩ :: sg 4 [61] (a + 40) :: ⟨1, nb tgt, 0, (a + 42)⟩ :: sg 4 [40] (a + 44) :: ⟨1, ⟨[120].toArray⟩, 0, (a + 45)⟩ :: sg 4 [41] (a + 46) :: sg 4 [59] (a + 47) :: sg 2 [116, 101, 108] (a + 49) :: ws) := LexW.cons 2 3 0 0 (by simp) rfl (by decide) rfl rfl s12
  have s10 : LexW ([58, 32, 105, 110, 116, 41, 59, 32, 108, 101, 116, 32, 121, 32, 61, 32, 110, lc tgt, 40, 120, 41, 59, 32, 116, 101, 108, 32] ++ R) (a + 26) (sg 4 [58] (a + 26) :: sg 2 [105, 110, 116] (a + 28) :: sg 4 [41] (a + 31) :: sg 4 [59] (a + 32) :: sg 2 [108, 101, 116] (a + 34) :: ⟨1, ⟨[121].toArray⟩, 0, (a + 38)⟩ :: sg 4 [61] (a + 40) :: ⟨1, nb tgt, 0, (a + 42)⟩ :: sg 4 [40] (a + 44) :: ⟨1, ⟨[120].toArray⟩, 0, (a + 45)⟩ :: sg 4 [41] (a + 46) :: sg 4 [59] (a + 47) :: sg 2 [116, 101, 108] (a + 49) :: ws) := LexW.cons 4 1 0 1 (by simp) rfl (by decide) rfl rfl s11
  have s9 : LexW ([121, 58, 32, 105, 110, 116, 41, 59, 32, 108, 101, 116, 32, 121, 32, 61, 32, 110, lc tgt, 40, 120, 41, 59, 32, 116, 101, 108, 32] ++ R) (a + 25) (⟨1, ⟨[121].toArray⟩, 0, (a + 25)⟩ :: sg 4 [58] (a + 26) :: sg 2 [105, 110, 116] (a + 28) :: sg 4 [41] (a + 31) :: sg 4 [59] (a + 32) :: sg 2 [108, 101, 116] (a + 34) :: ⟨1, ⟨[121].toArray⟩, 0, (a + 38)⟩ :: sg 4 [61] (a + 40) :: ⟨1, nb tgt, 0, (a + 42)⟩ :: sg 4 [40] (a + 44) :: ⟨1, ⟨[120].toArray⟩, 0, (a + 45)⟩ :: sg 4 [41] (a + 46) :: sg 4 [59] (a + 47) :: sg 2 [116, 101, 108] (a + 49) :: ws) := LexW.cons 1 1 0 0 (by simp) rfl (by decide) rfl rfl s10
  have s8 : LexW ([40, 121, 58, 32, 105, 110, 116, 41, 59, 32, 108, 101, 116, 32, 121, 32, 61, 32, 110, lc tgt, 40, 120, 41, 59, 32, 116, 101, 108, 32] ++ R) (a + 24) (sg 4 [40] (a + 24) :: ⟨1, ⟨[121].toArray⟩, 0, (a + 25)⟩ :: sg 4 [58] (a + 26) :: sg 2 [105, 110, 116] (a + 28) :: sg 4 [41] (a + 31) :: sg 4 [59] (a + 32) :: sg 2 [108, 101, 116] (a + 34) :: ⟨1, ⟨[121].toArray⟩, 0, (a + 38)⟩ :: sg 4 [61] (a + 40) :: ⟨1, nb tgt, 0, (a + 42)⟩ :: sg 4 [40] (a + 44) :: ⟨1, ⟨[120].toArray⟩, 0, (a + 45)⟩ :: sg 4 [41] (a + 46) :: sg 4 [59] (a + 47) :: sg 2 [116, 101, 108] (a + 49) :: ws) := LexW.cons 4 1 0 0 (by simp) rfl (by decide) rfl rfl s9
  have s7 : LexW ([114, 101, 116, 117, 114, 110, 115, 32, 40, 121, 58, 32, 105, 110, 116, 41, 59, 32, 108, 101, 116, 32, 121, 32, 61, 32, 110, lc tgt, 40, 120, 41, 59, 32, 116, 101, 108, 32] ++ R) (a + 16) (sg 2 [114, 101, 116, 117, 114, 110, 115] (a + 16) :: sg 4 [40] (a + 24) :: ⟨1, ⟨[121].toArray⟩, 0, (a + 25)⟩ :: sg 4 [58] (a + 26) :: sg 2 [105, 110, 116] (a + 28) :: sg 4 [41] (a + 31) :: sg 4 [59] (a + 32) :: sg 2 [108, 101, 116] (a + 34) :: ⟨1, ⟨[121].toArray⟩, 0, (a + 38)⟩ :: sg 4 [61] (a + 40) :: ⟨1, nb tgt, 0, (a + 42)⟩ :: sg 4 [40] (a + 44) :: ⟨1, ⟨[120].toArray⟩, 0, (a + 45)⟩ :: sg 4 [41] (a + 46) :: sg 4 [59] (a + 47) :: sg 2 [116, 101, 108] (a + 49) :: ws) := LexW.cons 2 7 0 1 (by simp) rfl (by decide) rfl rfl s8
  have s6 : LexW ([41, 32, 114, 101, 116, 117, 114, 110, 115, 32, 40, 121, 58, 32, 105, 110, 116, 41, 59, 32, 108, 101, 116, 32, 121, 32, 61, 32, 110, lc tgt, 40, 120, 41, 59, 32, 116, 101, 108, 32] ++ R) (a + 14) (sg 4 [41] (a + 14) :: sg 2 [114, 101, 116, 117, 114, 110, 115] (a + 16) :: sg 4 [40] (a + 24) :: ⟨1, ⟨[121].toArray⟩, 0, (a + 25)⟩ :: sg 4 [58] (a + 26) :: sg 2 [105, 110, 116] (a + 28) :: sg 4 [41] (a + 31) :: sg 4 [59] (a + 32) :: sg 2 [108, 101, 116] (a + 34) :: ⟨1, ⟨[121].toArray⟩, 0, (a + 38)⟩ :: sg 4 [61] (a + 40) :: ⟨1, nb tgt, 0, (a + 42)⟩ :: sg 4 [40] (a + 44) :: ⟨1, ⟨[120].toArray⟩, 0, (a + 45)⟩ :: sg 4 [41] (a + 46) :: sg 4 [59] (a + 47) :: sg 2 [116, 101, 108] (a + 49) :: ws) := LexW.cons 4 1 0 1 (by simp) rfl (by decide) rfl rfl s7
  have s5 : LexW ([105, 110, 116, 41, 32, 114, 101, 116, 117, 114, 110, 115, 32, 40, 121, 58, 32, 105, 110, 116, 41, 59, 32, 108, 101, 116, 32, 121, 32, 61, 32, 110, lc tgt, 40, 120, 41, 59, 32, 116, 101, 108, 32] ++ R) (a + 11) (sg 2 [105, 110, 116] (a + 11) :: sg 4 [41] (a + 14) :: sg 2 [114, 101, 116, 117, 114, 110, 115] (a + 16) :: sg 4 [40] (a + 24) :: ⟨1, ⟨[121].toArray⟩, 0, (a + 25)⟩ :: sg 4 [58] (a + 26) :: sg 2 [105, 110, 116] (a + 28) :: sg 4 [41] (a + 31) :: sg 4 [59] (a + 32) :: sg 2 [108, 101, 116] (a + 34) :: ⟨1, ⟨[121].toArray⟩, 0, (a + 38)⟩ :: sg 4 [61] (a + 40) :: ⟨1, nb tgt, 0, (a + 42)⟩ :: sg 4 [40] (a + 44) :: ⟨1, ⟨[120].toArray⟩, 0, (a + 45)⟩ :: sg 4 [41] (a + 46) :: sg 4 [59] (a + 47) :: sg 2 [116, 101, 108] (a + 49) :: ws) := LexW.cons 2 3 0 0 (by simp) rfl (by decide) rfl rfl s6
  have s4 : LexW ([58, 32, 105, 110, 116, 41, 32, 114, 101, 116, 117, 114, 110, 115, 32, 40, 121, 58, 32, 105, 110, 116, 41, 59, 32, 108, 101, 116, 32, 121, 32, 61, 32, 110, lc tgt, 40, 120, 41, 59, 32, 116, 101, 108, 32] ++ R) (a + 9) (sg 4 [58] (a + 9) :: sg 2 [105, 110, 116] (a + 11) :: sg 4 [41] (a + 14) :: sg 2 [114, 101, 116, 117, 114, 110, 115] (a + 16) :: sg 4 [40] (a + 24) :: ⟨1, ⟨[121].toArray⟩, 0, (a + 25)⟩ :: sg 4 [58] (a + 26) :: sg 2 [105, 110, 116] (a + 28) :: sg 4 [41] (a + 31) :: sg 4 [59] (a + 32) :: sg 2 [108, 101, 116] (a + 34) :: ⟨1, ⟨[121].toArray⟩, 0, (a + 38)⟩ :: sg 4 [61] (a + 40) :: ⟨1, nb tgt, 0, (a + 42)⟩ :: sg 4 [40] (a + 44) :: ⟨1, ⟨[120].toArray⟩, 0, (a + 45)⟩ :: sg 4 [41] (a + 46) :: sg 4 [59] (a + 47) :: sg 2 [116, 101, 108] (a + 49) :: ws) := LexW.cons 4 1 0 1 (by simp) rfl (by decide) rfl rfl s5
  have s3 : LexW ([120, 58, 32, 105, 110, 116, 41, 32, 114, 101, 116, 117, 114, 110, 115, 32, 40, 121, 58, 32, 105, 110, 116, 41, 59, 32, 108, 101, 116, 32, 121, 32, 61, 32, 110, lc tgt, 40, 120, 41, 59, 32, 116, 101, 108, 32] ++ R) (a + 8) (⟨1, ⟨[120].toArray⟩, 0, (a + 8)⟩ :: sg 4 [58] (a + 9) :: sg 2 [105, 110, 116] (a + 11) :: sg 4 [41] (a + 14) :: sg 2 [114, 101, 116, 117, 114, 110, 115] (a + 16) :: sg 4 [40] (a + 24) :: ⟨1, ⟨[121].toArray⟩, 0, (a + 25)⟩ :: sg 4 [58] (a + 26) :: sg 2 [105, 110, 116] (a + 28) :: sg 4 [41] (a + 31) :: sg 4 [59] (a + 32) :: sg 2 [108, 101, 116] (a + 34) :: ⟨1, ⟨[121].toArray⟩, 0, (a + 38)⟩ :: sg 4 [61] (a + 40) :: ⟨1, nb tgt, 0, (a + 42)⟩ :: sg 4 [40] (a + 44) :: ⟨1, ⟨[120].toArray⟩, 0, (a + 45)⟩ :: sg 4 [41] (a + 46) :: sg 4 [59] (a + 47) :: sg 2 [116, 101, 108] (a + 49) :: ws) := LexW.cons 1 1 0 0 (by simp) rfl (by decide) rfl rfl s4
  have s2 : LexW ([40, 120, 58, 32, 105, 110, 116, 41, 32, 114, 101, 116, 117, 114, 110, 115, 32, 40, 121, 58, 32, 105, 110, 116, 41, 59, 32, 108, 101, 116, 32, 121, 32, 61, 32, 110, lc tgt, 40, 120, 41, 59, 32, 116, 101, 108, 32] ++ R) (a + 7) (sg 4 [40] (a + 7) :: ⟨1, ⟨[120].toArray⟩, 0, (a + 8)⟩ :: sg 4 [58] (a + 9) :: sg 2 [105, 110, 116] (a + 11) :: sg 4 [41] (a + 14) :: sg 2 [114, 101, 116, 117, 114, 110, 115] (a + 16) :: sg 4 [40] (a + 24) :: ⟨1, ⟨[121].toArray⟩, 0, (a + 25)⟩ :: sg 4 [58] (a + 26) :: sg 2 [105, 110, 116] (a + 28) :: sg 4 [41] (a + 31) :: sg 4 [59] (a + 32) :: sg 2 [108, 101, 116] (a + 34) :: ⟨1, ⟨[121].toArray⟩, 0, (a + 38)⟩ :: sg 4 [61] (a + 40) :: ⟨1, nb tgt, 0, (a + 42)⟩ :: sg 4 [40] (a + 44) :: ⟨1, ⟨[120].toArray⟩, 0, (a + 45)⟩ :: sg 4 [41] (a + 46) :: sg 4 [59] (a + 47) :: sg 2 [116, 101, 108] (a + 49) :: ws) := LexW.cons 4 1 0 0 (by simp) rfl (by decide) rfl rfl s3
  have s1 : LexW ([110, lc i, 40, 120, 58, 32, 105, 110, 116, 41, 32, 114, 101, 116, 117, 114, 110, 115, 32, 40, 121, 58, 32, 105, 110, 116, 41, 59, 32, 108, 101, 116, 32, 121, 32, 61, 32, 110, lc tgt, 40, 120, 41, 59, 32, 116, 101, 108, 32] ++ R) (a + 5) (⟨1, nb i, 0, (a + 5)⟩ :: sg 4 [40] (a + 7) :: ⟨1, ⟨[120].toArray⟩, 0, (a + 8)⟩ :: sg 4 [58] (a + 9) :: sg 2 [105, 110, 116] (a + 11) :: sg 4 [41] (a + 14) :: sg 2 [114, 101, 116, 117, 114, 110, 115] (a + 16) :: sg 4 [40] (a + 24) :: ⟨1, ⟨[121].toArray⟩, 0, (a + 25)⟩ :: sg 4 [58] (a + 26) :: sg 2 [105, 110, 116] (a + 28) :: sg 4 [41] (a + 31) :: sg 4 [59] (a + 32) :: sg 2 [108, 101, 116] (a + 34) :: ⟨1, ⟨[121].toArray⟩, 0, (a + 38)⟩ :: sg 4 [61] (a + 40) :: ⟨1, nb tgt, 0, (a + 42)⟩ :: sg 4 [40] (a + 44) :: ⟨1, ⟨[120].toArray⟩, 0, (a + 45)⟩ :: sg 4 [41] (a + 46) :: sg 4 [59] (a + 47) :: sg 2 [116, 101, 108] (a + 49) :: ws) := LexW.cons 1 2 0 0 (by simp) (fwn_40 i hi _) (by decide) rfl rfl s2
  have s0 : LexW ([110, 111, 100, 101, 32, 110, lc i, 40, 120, 58, 32, 105, 110, 116, 41, 32, 114, 101, 116, 117, 114, 110, 115, 32, 40, 121, 58, 32, 105, 110, 116, 41, 59, 32, 108, 101, 116, 32, 121, 32, 61, 32, 110, lc tgt, 40, 120, 41, 59, 32, 116, 101, 108, 32] ++ R) a (sg 2 [110, 111, 100, 101] a :: ⟨1, nb i, 0, (a + 5)⟩ :: sg 4 [40] (a + 7) :: ⟨1, ⟨[120].toArray⟩, 0, (a + 8)⟩ :: sg 4 [58] (a + 9) :: sg 2 [105, 110, 116] (a + 11) :: sg 4 [41] (a + 14) :: sg 2 [114, 101, 116, 117, 114, 110, 115] (a + 16) :: sg 4 [40] (a + 24) :: ⟨1, ⟨[121].toArray⟩, 0, (a + 25)⟩ :: sg 4 [58] (a + 26) :: sg 2 [105, 110, 116] (a + 28) :: sg 4 [41] (a + 31) :: sg 4 [59] (a + 32) :: sg 2 [108, 101, 116] (a + 34) :: ⟨1, ⟨[121].toArray⟩, 0, (a + 38)⟩ :: sg 4 [61] (a + 40) :: ⟨1, nb tgt, 0, (a + 42)⟩ :: sg 4 [40] (a + 44) :: ⟨1, ⟨[120].toArray⟩, 0, (a + 45)⟩ :: sg 4 [41] (a + 46) :: sg 4 [59] (a + 47) :: sg 2 [116, 101, 108] (a + 49) :: ws) := LexW.cons 2 4 0 1 (by simp) rfl (by decide) rfl rfl s1
  exact s0
theorem ah_dok {d : Dc} {t : ByteArray} {a b c e : Nat} (hd : d ∈ ([⟨⟨1, t, 0, a⟩, sg 4 [58] b, sg 2 [105, 110, 116] c, sg 4 [59] e, 2⟩] : List Dc)) : d.ok := by
  simp only [List.mem_cons, List.not_mem_nil, or_false] at hd
  subst hd
  exact ⟨rfl, rfl, rfl, .inr ⟨rfl, rfl⟩⟩
theorem nd_ahX (i a : Nat) : NdSp (ahXW i a) (ahXN i a) := by
  refine NdSp.make [⟨⟨1, ⟨[120].toArray⟩, 0, (a + 8)⟩, sg 4 [58] (a + 9), sg 2 [105, 110, 116] (a + 11), sg 4 [59] 0, 2⟩] [⟨⟨1, ⟨[121].toArray⟩, 0, (a + 25)⟩, sg 4 [58] (a + 26), sg 2 [105, 110, 116] (a + 28), sg 4 [59] 0, 2⟩] [⟨⟨1, ⟨[121].toArray⟩, 0, (a + 38)⟩, sg 4 [61] (a + 40), [⟨1, ⟨[120].toArray⟩, 0, (a + 42)⟩], exVar ⟨[120].toArray⟩ (a + 42), 1, sg 4 [59] (a + 43)⟩] (fun d hd => ah_dok hd) (fun d hd => ah_dok hd) (fun q hq => ?_) (show (2 : Nat) ≤ 64 by decide) rfl rfl rfl rfl rfl rfl rfl rfl rfl rfl (show (2 : Nat) ≠ 1 by decide)
  simp only [List.mem_cons, List.not_mem_nil, or_false] at hq
  subst hq
  exact ⟨rfl, rfl, ⟨0, by decide, ExSp.var _ _ _⟩, show (1 : Nat) ≤ 300 by decide, rfl⟩
theorem nd_ahC (i tgt a : Nat) : NdSp (ahCW i tgt a) (ahCN i tgt a) := by
  have hq : ∀ q ∈ ([⟨⟨1, ⟨[121].toArray⟩, 0, (a + 38)⟩, sg 4 [61] (a + 40), ⟨1, nb tgt, 0, (a + 42)⟩ :: sg 4 [40] (a + 44) :: ([⟨1, ⟨[120].toArray⟩, 0, (a + 45)⟩] ++ [sg 4 [41] (a + 46)]), exCall (nb tgt) (a + 42) [exVar ⟨[120].toArray⟩ (a + 45)], 2, sg 4 [59] (a + 47)⟩] : List Eqn), q.ok := fun q hq => by
    simp only [List.mem_cons, List.not_mem_nil, or_false] at hq
    subst hq
    refine ⟨rfl, rfl, ⟨1, by decide, ?_⟩, show (2 : Nat) ≤ 300 by decide, rfl⟩
    exact (ExSp.var ⟨[120].toArray⟩ 0 (a + 45)).call1 (nb tgt) 0 (a + 42) (sg 4 [40] (a + 44)) (sg 4 [41] (a + 46)) _ [] rfl rfl rfl rfl (by kernel_rfl) rfl rfl
  have h := NdSp.make (w0 := sg 2 [110, 111, 100, 101] a) (w1 := ⟨1, nb i, 0, (a + 5)⟩) (w2 := sg 4 [40] (a + 7)) (w3 := sg 4 [41] (a + 14)) (w4 := sg 2 [114, 101, 116, 117, 114, 110, 115] (a + 16)) (w5 := sg 4 [40] (a + 24)) (w6 := sg 4 [41] (a + 31)) (w7 := sg 4 [59] (a + 32)) (w8 := sg 2 [108, 101, 116] (a + 34)) (w9 := sg 2 [116, 101, 108] (a + 49)) [⟨⟨1, ⟨[120].toArray⟩, 0, (a + 8)⟩, sg 4 [58] (a + 9), sg 2 [105, 110, 116] (a + 11), sg 4 [59] 0, 2⟩] [⟨⟨1, ⟨[121].toArray⟩, 0, (a + 25)⟩, sg 4 [58] (a + 26), sg 2 [105, 110, 116] (a + 28), sg 4 [59] 0, 2⟩] [⟨⟨1, ⟨[121].toArray⟩, 0, (a + 38)⟩, sg 4 [61] (a + 40), ⟨1, nb tgt, 0, (a + 42)⟩ :: sg 4 [40] (a + 44) :: ([⟨1, ⟨[120].toArray⟩, 0, (a + 45)⟩] ++ [sg 4 [41] (a + 46)]), exCall (nb tgt) (a + 42) [exVar ⟨[120].toArray⟩ (a + 45)], 2, sg 4 [59] (a + 47)⟩] (fun d hd => ah_dok hd) (fun d hd => ah_dok hd) hq (show (2 : Nat) ≤ 64 by decide) rfl rfl rfl rfl rfl rfl rfl rfl rfl rfl (show (2 : Nat) ≠ 1 by decide)
  exact h
/-- The nodes from number i on, m of them, from place a on: text; words and trees. -/
def ahT (frm tgt : Nat) : Nat → Nat → List UInt8
  | 0, _ => []
  | m + 1, i => (if i = frm then ahC i tgt else ahX i) ++ ahT frm tgt m (i + 1)
def ahN (frm tgt : Nat) : Nat → Nat → Nat → List (List W4 × Nd)
  | 0, _, _ => []
  | m + 1, i, a => if i = frm then (ahCW i tgt a, ahCN i tgt a) :: ahN frm tgt m (i + 1) (a + 53) else (ahXW i a, ahXN i a) :: ahN frm tgt m (i + 1) (a + 49)
theorem ahT_gap (frm tgt m i : Nat) : gapL (ahT frm tgt m i) = 0 := by
  cases m with
  | zero => rfl
  | succ m =>
    unfold ahT
    by_cases h : i = frm
    · rw [if_pos h]; rfl
    · rw [if_neg h]; rfl
theorem ahT_lex (frm tgt : Nat) (hto : tgt < 20) : ∀ (m i a : Nat), i + m ≤ 20 → ∃ z, LexW (ahT frm tgt m i) a ((ahN frm tgt m i a).flatMap Prod.fst ++ [⟨0, ⟨#[]⟩, 0, z⟩])
  | 0, _, a, _ => ⟨a, LexW.nil a⟩
  | m + 1, i, a, h => by
    unfold ahT ahN
    by_cases hf : i = frm
    · obtain ⟨z, hz⟩ := ahT_lex frm tgt hto m (i + 1) (a + 53) (by omega)
      rw [if_pos hf, if_pos hf]
      refine ⟨z, ?_⟩
      rw [List.flatMap_cons, List.append_assoc]
      exact lex_ahC i tgt (by omega) hto a _ _ (ahT_gap ..) hz
    · obtain ⟨z, hz⟩ := ahT_lex frm tgt hto m (i + 1) (a + 49) (by omega)
      rw [if_neg hf, if_neg hf]
      refine ⟨z, ?_⟩
      rw [List.flatMap_cons, List.append_assoc]
      exact lex_ahX i (by omega) a _ _ (ahT_gap ..) hz
theorem ahN_ok (frm tgt : Nat) : ∀ (m i a : Nat), ∀ x ∈ ahN frm tgt m i a, NdSp x.1 x.2 ∧ ∃ h r, x.1 = h :: r ∧ sp4 h [110, 111, 100, 101] = true
  | 0, _, _, x, hx => by simp [ahN] at hx
  | m + 1, i, a, x, hx => by
    unfold ahN at hx
    by_cases hf : i = frm
    · rw [if_pos hf] at hx
      rcases List.mem_cons.1 hx with rfl | hx
      · exact ⟨nd_ahC i tgt a, _, _, rfl, rfl⟩
      · exact ahN_ok frm tgt m (i + 1) _ x hx
    · rw [if_neg hf] at hx
      rcases List.mem_cons.1 hx with rfl | hx
      · exact ⟨nd_ahX i a, _, _, rfl, rfl⟩
      · exact ahN_ok frm tgt m (i + 1) _ x hx
theorem ahN_len (frm tgt : Nat) : ∀ (m i a : Nat), (ahN frm tgt m i a).length = m
  | 0, _, _ => rfl
  | m + 1, i, a => by
    unfold ahN
    split <;> rw [List.length_cons, ahN_len frm tgt m]
theorem ahT_len (frm tgt : Nat) : ∀ (m i : Nat), (ahT frm tgt m i).length ≤ 53 * m
  | 0, _ => Nat.le_refl _
  | m + 1, i => by
    have h := ahT_len frm tgt m (i + 1)
    unfold ahT
    rw [List.length_append]
    have h1 : (if i = frm then ahC i tgt else ahX i).length ≤ 53 := by
      split
      · exact Nat.le_refl 53
      · exact (by decide : 49 ≤ 53)
    omega
theorem ah_tree (frm tgt n : Nat) (hn1 : 1 ≤ n) (hn : n ≤ 20) (hto : tgt < 20) : treeL (ahT frm tgt n 0) = (ahN frm tgt n 0 0).map Prod.snd ∧ perL (ahT frm tgt n 0) = 0 := by
  obtain ⟨z, hz⟩ := ahT_lex frm tgt hto n 0 0 (by omega)
  have hp := parse_lex hz (ahT_gap ..) (by have := ahT_len frm tgt n 0; omega)
  rw [nodes_sp rfl (ahN frm tgt n 0 0) (by intro h; have := ahN_len frm tgt n 0 0; rw [h] at this; simp at this; omega) (by rw [ahN_len]; omega) (ahN_ok frm tgt n 0 0)] at hp
  unfold treeL perL
  rw [hp]
  exact ⟨rfl, rfl⟩
theorem nd_okX (i a : Nat) : okNd (ahXN i a) = true := rfl
theorem nd_okC (i tgt a : Nat) : okNd (ahCN i tgt a) = true := rfl
theorem ahN_all (frm tgt : Nat) : ∀ (m i a : Nat), ((ahN frm tgt m i a).map Prod.snd).all okNd = true
  | 0, _, _ => rfl
  | m + 1, i, a => by
    unfold ahN
    split
    · rw [List.map_cons, List.all_cons, ahN_all frm tgt m, Bool.and_true]; exact nd_okC i tgt a
    · rw [List.map_cons, List.all_cons, ahN_all frm tgt m, Bool.and_true]; exact nd_okX i a
/-- What is known of the nodes ahead of number i. -/
def AhD (tgt i : Nat) (D : List UInt8 → Option Nd) : Prop := (∀ j, i ≤ j → j < 20 → D (nb j).data.toList = none) ∧ (tgt < i → ∃ x : Nd, D (nb tgt).data.toList = some x ∧ x.outs.length = 1 ∧ x.ins.length = 1)
theorem nb_ne {i j : Nat} (hi : i < 20) (hj : j < 20) (h : i ≠ j) : (nb i).data.toList ≠ (nb j).data.toList := by
  intro e
  have e : [110, lc i] = [110, lc j] := e
  injection e with _ e
  injection e with e _
  exact h (lc_inj i j hi hj e)
theorem AhD.next {tgt i : Nat} {D : List UInt8 → Option Nd} (h : AhD tgt i D) (hi : i < 20) (n : Nd) (hn : n.name = nb i) (ho : n.outs.length = 1) (hin : n.ins.length = 1) : AhD tgt (i + 1) (nset D n) := by
  refine ⟨fun j h1 h2 => ?_, fun ht => ?_⟩
  · unfold nset
    rw [hn, if_neg (nb_ne h2 hi (by omega))]
    exact h.1 j (by omega) h2
  · by_cases e : tgt = i
    · refine ⟨n, ?_, ho, hin⟩
      unfold nset
      rw [hn, e, if_pos rfl]
    · obtain ⟨x, h1, h2⟩ := h.2 (by omega)
      refine ⟨x, ?_, h2⟩
      unfold nset
      rw [hn, if_neg (nb_ne (by omega) hi e)]
      exact h1
theorem nodeN_X {D : List UInt8 → Option Nd} (i a : Nat) (h : D (nb i).data.toList = none) : nodeN D (ahXN i a) = none := by
  unfold nodeN
  rw [if_neg (by
    rintro (h1 | h1)
    · rw [show (ahXN i a).name = nb i from rfl, h] at h1; cases h1
    · exact absurd h1 (by show ¬ (1 : Nat) = 0; decide))]
  rfl
def callOk (o : Option Nd) : Bool := match o with
  | none => false
  | some n => n.outs.length == 1 && n.ins.length == 1
def ahG : List UInt8 → Option Int := gset (gset (fun _ => none) ⟨[120].toArray⟩ 1) ⟨[121].toArray⟩ 2
theorem nodeN_C {D : List UInt8 → Option Nd} (i tgt a : Nat) (h : D (nb i).data.toList = none) : nodeN D (ahCN i tgt a) = if callOk (D (nb tgt).data.toList) = false then some (a + 42) else none := by
  unfold nodeN
  rw [if_neg (by
    rintro (h1 | h1)
    · rw [show (ahCN i tgt a).name = nb i from rfl, h] at h1; cases h1
    · exact absurd h1 (by show ¬ (1 : Nat) = 0; decide))]
  have e0 : declsN (fun _ => none) (ahCN i tgt a) = (none, ahG) := rfl
  rw [e0, thenL_skip rfl]
  have e1 : eqN D ahG ⟨⟨[121].toArray⟩, exCall (nb tgt) (a + 42) [exVar ⟨[120].toArray⟩ (a + 45)], a + 38⟩ = (partF D (gset ahG ⟨[121].toArray⟩ 3) (exCall (nb tgt) (a + 42) [exVar ⟨[120].toArray⟩ (a + 45)]), gset ahG ⟨[121].toArray⟩ 3) := if_pos rfl
  have e2 : partF D (gset ahG ⟨[121].toArray⟩ 3) (exCall (nb tgt) (a + 42) [exVar ⟨[120].toArray⟩ (a + 45)]) = if callOk (D (nb tgt).data.toList) = false then some (a + 42) else none := by
    rw [partF_eq]
    have e3 : fitsF D (gset ahG ⟨[121].toArray⟩ 3) (exCall (nb tgt) (a + 42) [exVar ⟨[120].toArray⟩ (a + 45)]) = callOk (D (nb tgt).data.toList) := rfl
    rw [e3]
    rfl
  show thenL (eqsN D ahG [⟨⟨[121].toArray⟩, exCall (nb tgt) (a + 42) [exVar ⟨[120].toArray⟩ (a + 45)], a + 38⟩]) (fun G' => lacksF G' (ahCN i tgt a)) = _
  cases hm : callOk (D (nb tgt).data.toList) with
  | false =>
    rw [eqsN_hit (a := a + 42) (by rw [e1, e2, hm]; rfl)]
    rfl
  | true =>
    rw [eqsN_skip (by rw [e1, e2, hm]; rfl), e1]
    rfl
/-- The first fault of these nodes: there is one just where the call is among them, of a node not ahead. -/
theorem ah_names (frm tgt : Nat) (hto : tgt < 20) : ∀ (m i a : Nat) (D : List UInt8 → Option Nd), AhD tgt i D → i + m ≤ 20 → (namesFrom D ((ahN frm tgt m i a).map Prod.snd)).isNone = !(decide (i ≤ frm) && (decide (frm < i + m) && !decide (tgt < frm)))
  | 0, i, a, D, _, _ => by
    have : (decide (i ≤ frm) && (decide (frm < i + 0) && !decide (tgt < frm))) = false := by
      by_cases h : i ≤ frm
      · have : decide (frm < i + 0) = false := by simp; omega
        rw [this, Bool.false_and, Bool.and_false]
      · simp [h]
    rw [this]
    rfl
  | m + 1, i, a, D, hD, h => by
    have hi : i < 20 := by omega
    unfold ahN
    by_cases hf : i = frm
    · rw [if_pos hf, List.map_cons]
      have hC := nodeN_C i tgt a (hD.1 i (Nat.le_refl _) hi)
      by_cases ht : tgt < i
      · obtain ⟨x, h1, h2, h3⟩ := hD.2 ht
        have hm : callOk (D (nb tgt).data.toList) = true := by rw [h1]; simp [callOk, h2, h3]
        rw [hm] at hC
        rw [namesFrom_skip hC, ah_names frm tgt hto m (i + 1) (a + 53) _ (hD.next hi _ rfl rfl rfl) (by omega)]
        have e1 : decide (i + 1 ≤ frm) = false := by simp; omega
        have e2 : decide (tgt < frm) = true := by simp; omega
        rw [e1, e2]
        simp
      · have hm : callOk (D (nb tgt).data.toList) = false := by rw [hD.1 tgt (by omega) hto]; rfl
        rw [hm] at hC
        rw [namesFrom_hit hC]
        have e1 : decide (i ≤ frm) = true := by simp; omega
        have e2 : decide (tgt < frm) = false := by simp; omega
        have e3 : decide (frm < i + (m + 1)) = true := by simp; omega
        rw [e1, e2, e3]
        rfl
    · rw [if_neg hf, List.map_cons, namesFrom_skip (nodeN_X i a (hD.1 i (Nat.le_refl _) hi)), ah_names frm tgt hto m (i + 1) (a + 49) _ (hD.next hi _ rfl rfl rfl) (by omega)]
      have e1 : decide (i + 1 ≤ frm) = decide (i ≤ frm) := decide_eq_decide.2 (by omega)
      have e2 : decide (frm < i + 1 + m) = decide (frm < i + (m + 1)) := decide_eq_decide.2 (by omega)
      rw [e1, e2]
theorem ah_fault (frm tgt n : Nat) (hf : frm < n) (hto : tgt < n) (hn : n ≤ 20) : (treeL (ahT frm tgt n 0)).all okNd = true ∧ (namesF (treeL (ahT frm tgt n 0))).isNone = decide (tgt < frm) ∧ (treeL (ahT frm tgt n 0)).length ≤ 32 := by
  have h := (ah_tree frm tgt n (by omega) hn (by omega)).1
  rw [h]
  refine ⟨ahN_all .., ?_, by rw [List.length_map, ahN_len]; omega⟩
  unfold namesF
  rw [ah_names frm tgt (by omega) n 0 0 _ ⟨fun _ _ _ => rfl, fun h => absurd h (Nat.not_lt_zero _)⟩ (by omega)]
  have e1 : decide (0 ≤ frm) = true := by simp
  have e2 : decide (frm < 0 + n) = true := by simp; omega
  rw [e1, e2]
  simp
end Go.Proofs.Ytbgngmnpepnflaa
