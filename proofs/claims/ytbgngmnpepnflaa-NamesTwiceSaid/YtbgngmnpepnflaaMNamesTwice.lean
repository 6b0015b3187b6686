/-
  What this statement stands on beside.
-/
import Derived.Test.YtbgngmnpepnflaaMf
import Derived.WalkKit
import Derived.Lib.VarintMem
import Derived.Lib.Hide
import Derived.Laws.CopyOwn
import Derived.Deep.Draws
import Derived.Laws.BytesArg
set_option linter.unusedVariables false
set_option linter.unusedSimpArgs false
namespace Go.Proofs.Ytbgngmnpepnflaa
open Go Go.RowKit
/-- 'string(b)'. -/
theorem run_string {P : Program} (w : World) (src e dst : TypeId) (hs : P.underlying src = some (.slice e)) (he : P.underlying e = some (.int .u8)) (hd : P.underlying dst = some .string) (a : Option Addr) (l : List UInt8) (c : Nat) (h : Txt w a l) :
    (convert src dst (.slice a l.length c)).run P w = .ok (.string ⟨l.toArray⟩) w := by
  cases l with
  | nil =>
    cases a with
    | none => exact run_convert_bytes_nil (P := P) w src e hs he 0 c dst hd
    | some ad =>
      have hl : (loadCells ad 0).run P w = .ok (([] : List Int).map (Value.int .u8)).toArray w := run_loadCells_list (P := P) w ad [] (fun j v hj => by simp at hj)
      rw [List.length_nil, run_convert_bytes_string w src dst e _ 0 c hs he hd, run_bytesToString w _ 0 c [] hl]
      rfl
  | cons x r =>
    obtain ⟨b, o, rfl, hlt, hc⟩ := h (by simp)
    have hr := run_convert_bytes_arg (P := P) w src e hs he b o (x :: r).length c ((x :: r).map fun u => (u.toNat : Int)) (by simp) (fun i hi => by
      rw [hc i hi]
      simp only [List.getD, List.getElem?_map, List.getElem?_eq_getElem hi, Option.map_some, Option.getD_some]) dst hd
    rw [hr]
    congr 2
    apply ByteArray.ext
    apply Array.toList_inj.1
    rw [strOfNums_data, List.map_map]
    conv => rhs; rw [← List.map_id (x :: r)]
    apply List.map_congr_left
    intro u _
    simp
end Go.Proofs.Ytbgngmnpepnflaa

namespace Go.Proofs.Ytbgngmnpepnflaa
open Go Go.RowKit
theorem str_row (W : World) (l : List UInt8) (hl : l ≠ []) (n g : Nat) (hn : n = l.length) (hg : g = W.heap.size) (cs : Array Value) (hcs : ∀ i (h : i < l.length), cs[i]? = some (.int .u8 (l[i].toNat : Int))) : (convert 28 9 (.slice (some ⟨g, 0, none⟩) n n)).run Try.prog (W.alloc (.cells cs 5)) = .ok (.string ⟨l.toArray⟩) (W.alloc (.cells cs 5)) := by
  subst hn hg
  refine run_string _ _ 5 _ Try.underlying28 Try.underlying5 Try.underlying9 _ l _ (fun _ => ⟨_, 0, rfl, by simp, fun i hi => ?_⟩)
  rw [Nat.zero_add, cell_of_row _ _ _ _ _ _ (heap_alloc_new W _)]
  exact hcs i hi
theorem str_two (W : World) (g : Nat) (hg : g = W.heap.size) (c d : UInt8) (x y : Int) (hx : x = (c.toNat : Int)) (hy : y = (d.toNat : Int)) : (convert 28 9 (.slice (some ⟨g, 0, none⟩) 2 2)).run Try.prog (W.alloc (.cells #[.int .u8 x, .int .u8 y] 5)) = .ok (.string ⟨[c, d].toArray⟩) (W.alloc (.cells #[.int .u8 x, .int .u8 y] 5)) :=
  str_row W [c, d] (by simp) 2 g rfl hg #[.int .u8 x, .int .u8 y] (fun i h => by
    have : i = 0 ∨ i = 1 := by simp at h; omega
    rcases this with rfl | rfl
    · rw [hx]; rfl
    · rw [hy]; rfl)
end Go.Proofs.Ytbgngmnpepnflaa

namespace Go.Proofs.Ytbgngmnpepnflaa
open Go Go.RowKit
/-- This text, from place a on, is cut into these words. -/
def LexW (l : List UInt8) (a : Nat) (ws : List W4) : Prop := ∀ f, l.length < f → ∃ d, cutF f l a = .ok d ∧ ∀ s : List UInt8, s.drop a = l → d.map (wordLL s) = ws
theorem LexW.nil (a : Nat) : LexW [] a [⟨0, ⟨#[]⟩, 0, a⟩] := fun f h => by
  cases f with
  | zero => simp at h
  | succ f => exact ⟨_, cutF_end f a, fun s hs => by simp [wordLL]⟩
theorem LexW.cons {l r : List UInt8} {a : Nat} {ws : List W4} (k n : Nat) (v : Int) (g : Nat) (hne : l ≠ []) (hf : firstW l = (k, n, v)) (hk0 : k ≠ 0) (hg : gapL (l.drop n) = g) (hr : (l.drop n).drop g = r) (h : LexW r (a + n + g) ws) : LexW l a (⟨k, ⟨(l.take n).toArray⟩, v, a⟩ :: ws) := fun f hfl => by
  cases f with
  | zero => omega
  | succ f =>
    have hl : 0 < l.length := List.length_pos_iff.2 hne
    have hfw := firstW_len l hl
    rw [hf] at hfw
    have hn1 : 1 ≤ n := hfw.2.1 hk0
    have hrl : r.length < l.length := by
      rw [← hr]
      simp only [List.length_drop]
      omega
    obtain ⟨d, hd, hm⟩ := h f (by omega)
    refine ⟨(k, n, v, a) :: d, ?_, ?_⟩
    · unfold cutF
      rw [if_neg hne, hf, if_neg hk0]
      simp only [hg, hr, hd]
    · intro s hs
      rw [List.map_cons]
      have e1 : wordLL s (k, n, v, a) = ⟨k, ⟨(l.take n).toArray⟩, v, a⟩ := by unfold wordLL; rw [hs]
      rw [e1, hm s (by rw [Nat.add_assoc, ← List.drop_drop, hs, ← hr, List.drop_drop])]
theorem parse_lex {s : List UInt8} {ws : List W4} (h : LexW s 0 ws) (hg : gapL s = 0) (hl : s.length ≤ 16384) : parseL s = nodes4 ws := by
  obtain ⟨d, hd, hm⟩ := h (s.length + 1) (Nat.lt_succ_self _)
  unfold parseL cutAll
  rw [if_neg (by omega)]
  unfold cut1
  rw [hg, List.drop_zero, hd]
  show nodes4 (d.map (wordLL s)) = _
  rw [hm s (by rw [List.drop_zero])]
/-- A state without fault. -/
abbrev st4 (k : Nat) (p nm : Int) : S4 := ⟨k, 0, 0, p, nm⟩
/-- Is this word spelled so? -/
def sp4 (w : W4) (x : List UInt8) : Bool := (w.kind == 2 || w.kind == 4) && w.text.data.toList == x
theorem drop_cons {L R : List W4} {k : Nat} {w : W4} (h : L.drop k = w :: R) : L.getD k no4 = w ∧ L.drop (k + 1) = R ∧ k < L.length := by
  have hk : k < L.length := by
    by_cases hk : k < L.length
    · exact hk
    · rw [List.drop_of_length_le (by omega)] at h; cases h
  rw [List.drop_eq_getElem_cons hk] at h
  injection h with h1 h2
  refine ⟨?_, h2, hk⟩
  rw [List.getD_eq_getElem?_getD, List.getElem?_eq_getElem hk]
  exact h1
section
variable {L R : List W4} {k : Nat} {p nm : Int} {w : W4} (h : L.drop k = w :: R)
include h
theorem cur_at : cur4 L (st4 k p nm) = w := (drop_cons h).1
theorem is_at (x : ByteArray) : is4 L x (st4 k p nm) = sp4 w x.data.toList := by
  unfold is4
  rw [cur_at h]
  rfl
theorem want_at (x : ByteArray) (hx : sp4 w x.data.toList = true) : want4 L x (st4 k p nm) = st4 (k + 1) p nm := by
  unfold want4
  rw [if_pos (by rw [is_at h]; exact hx)]
  rfl
theorem take_no (x : ByteArray) (hx : sp4 w x.data.toList = false) : take4 L x (st4 k p nm) = (false, st4 k p nm) := by
  unfold take4
  rw [is_at h, hx]
  rfl
theorem name_at (hk : w.kind = 1) : name4 L (st4 k p nm) = (w.text, st4 (k + 1) p nm) := by
  unfold name4
  rw [cur_at h, if_pos ⟨rfl, hk⟩]
  rfl
end
theorem part_at (L : List W4) (k : Nat) (p nm : Int) (h0 : 0 ≤ p) (h : p < 300) : part4 L (st4 k p nm) = st4 k (p + 1) nm := by
  unfold part4
  rw [if_neg (by rintro ⟨_, h2⟩; change 300 ≤ p at h2; omega)]
  show (⟨k, 0, 0, wrap64 (p + 1), nm⟩ : S4) = _
  rw [show wrap64 (p + 1) = p + 1 by unfold wrap64; omega]
/-- No sign or word goes on with an expression behind it here. -/
def INFIX4 : List (List UInt8) := [[119, 104, 101, 110], [102, 98, 121], [45, 62]] ++ (OPS0 ++ OPS1 ++ OPS2 ++ OPS3 ++ OPS4).map (fun o => o.data.toList)
def stop4 (w : W4) : Bool := INFIX4.all fun x => !sp4 w x
def UNARY4 : List (List UInt8) := [[110, 111, 116], [45], [112, 114, 101]]
def start4 (w : W4) : Bool := UNARY4.all fun x => !sp4 w x
theorem find_none {L : List W4} {s : S4} : ∀ (ops : List ByteArray), (∀ o ∈ ops, is4 L o s = false) → find4 L ops s = ⟨#[]⟩ := by
  intro ops
  unfold find4
  induction ops with
  | nil => intro _; rfl
  | cons a r ih =>
    intro h
    rw [List.foldl_cons, if_neg (by rw [h a (List.mem_cons_self ..)]; decide)]
    exact ih fun o ho => h o (List.mem_cons_of_mem _ ho)
theorem row_none {L : List W4} {ops : List ByteArray} {one : Bool} {sub : S4 → Ex × S4} {s : S4} {r : Ex × S4} (hs : sub s = r) (h : ∀ o ∈ ops, is4 L o r.2 = false) : row4 L ops one sub s = r := by
  unfold row4 rowL4
  rw [hs, if_pos (by rw [find_none ops h])]
def lsub (L : List W4) : Nat → F4
  | 0 => no4F
  | m + 1 => lev4 L m
theorem lev4_eq (L : List W4) (m : Nat) : lev4 L m = mk4 L m (lsub L m) := by cases m <;> rfl
/-- What an operand reads, all levels above hand on, if behind it stands nothing that goes on. -/
theorem arrow_of_prim {L : List W4} {k k' : Nat} {p p' nm : Int} {e : Ex} {m : Nat} {w w' : W4} {R R' : List W4} (h : L.drop k = w :: R) (hu : start4 w = true) (h' : L.drop k' = w' :: R') (hs : stop4 w' = true) (hp : (lev4 L m).prim (st4 k p nm) = (e, st4 k' p' nm)) : (lev4 L m).arrow (st4 k p nm) = (e, st4 k' p' nm) := by
  rw [lev4_eq] at hp ⊢
  have hP : (mk4 L m (lsub L m)).prim = prim4 L m (lsub L m) := by simp only [mk4]
  rw [hP] at hp
  have no : ∀ x : ByteArray, INFIX4.contains x.data.toList = true → is4 L x (st4 k' p' nm) = false := fun x hx => by
    rw [is_at h']
    have := List.all_eq_true.1 hs _ (List.contains_iff_mem.1 hx)
    simpa using this
  have nu : ∀ x : ByteArray, UNARY4.contains x.data.toList = true → is4 L x (st4 k p nm) = false := fun x hx => by
    rw [is_at h]
    have := List.all_eq_true.1 hu _ (List.contains_iff_mem.1 hx)
    simpa using this
  have hun : un4 L m (lsub L m) (prim4 L m (lsub L m)) (st4 k p nm) = (e, st4 k' p' nm) := by
    unfold un4
    have e0 : unOp4 L (st4 k p nm) = ⟨#[]⟩ := by
      unfold unOp4
      rw [nu ⟨#[110, 111, 116]⟩ (by kernel_rfl), nu ⟨#[45]⟩ (by kernel_rfl), nu ⟨#[112, 114, 101]⟩ (by kernel_rfl)]
      rfl
    rw [e0, if_pos rfl]
    exact hp
  have hwh : when4 L (un4 L m (lsub L m) (prim4 L m (lsub L m))) (st4 k p nm) = (e, st4 k' p' nm) := by
    unfold when4 whenL4
    rw [hun]
    simp only
    rw [no ⟨#[119, 104, 101, 110]⟩ (by kernel_rfl)]
    rfl
  have hfb : fby4 L m (lsub L m) (un4 L m (lsub L m) (prim4 L m (lsub L m))) (st4 k p nm) = (e, st4 k' p' nm) := by
    unfold fby4
    rw [hwh]
    simp only
    rw [no ⟨#[102, 98, 121]⟩ (by kernel_rfl)]
    rfl
  have hin : ∀ (ops : List ByteArray), (ops.all fun o => INFIX4.contains o.data.toList) = true → ∀ o ∈ ops, is4 L o (e, st4 k' p' nm).2 = false := fun ops hops o ho => no o (List.all_eq_true.1 hops o ho)
  have hro : rows4 L (fby4 L m (lsub L m) (un4 L m (lsub L m) (prim4 L m (lsub L m)))) (st4 k p nm) = (e, st4 k' p' nm) := by
    unfold rows4
    refine row_none (row_none (row_none (row_none (row_none hfb ?_) ?_) ?_) ?_) ?_
    · exact hin OPS4 (by kernel_rfl)
    · exact hin OPS3 (by kernel_rfl)
    · exact hin OPS2 (by kernel_rfl)
    · exact hin OPS1 (by kernel_rfl)
    · exact hin OPS0 (by kernel_rfl)
  have hA : (mk4 L m (lsub L m)).arrow = arrow4 L m (lsub L m) (fby4 L m (lsub L m) (un4 L m (lsub L m) (prim4 L m (lsub L m)))) := by simp only [mk4]
  rw [hA]
  unfold arrow4
  rw [hro]
  simp only
  rw [no ⟨#[45, 62]⟩ (by kernel_rfl)]
  rfl
def exInt (v : Int) (a : Nat) : Ex := .mk ⟨#[105, 110, 116]⟩ ⟨#[]⟩ v a []
/-- These words spell this expression, in so many parts, at levels of depth d or more. -/
def ExSp (d : Nat) (ws : List W4) (e : Ex) (np : Nat) : Prop := ∀ (L R : List W4) (k m : Nat) (p nm : Int) (w : W4), d ≤ m → 0 ≤ p → p + np ≤ 300 → L.drop k = ws ++ w :: R → stop4 w = true → sp4 w [40] = false → (lev4 L m).arrow (st4 k p nm) = (e, st4 (k + ws.length) (p + np) nm)
theorem not_sp {w : W4} (h : w.kind = 1 ∨ w.kind = 3) (x : List UInt8) : sp4 w x = false := by
  unfold sp4
  rcases h with h | h <;> rw [h] <;> rfl
theorem ExSp.int (t : ByteArray) (n : Int) (a : Nat) : ExSp 0 [⟨3, t, n, a⟩] (exInt n a) 1 := by
  intro L R k m p nm w hm hp0 hp h hs hb
  have h : L.drop k = ⟨3, t, n, a⟩ :: w :: R := h
  have h2 := (drop_cons h).2.1
  have kd : ∀ x, sp4 ⟨3, t, n, a⟩ x = false := not_sp (.inr rfl)
  refine arrow_of_prim h (List.all_eq_true.2 fun x _ => by rw [kd]; rfl) h2 hs ?_
  rw [lev4_eq]
  show prim4 L m (lsub L m) (st4 k p nm) = _
  unfold prim4
  rw [if_neg (by rw [is_at h, kd]; decide)]
  have e1 : primP4 L (st4 k p nm) = st4 k (p + 1) nm := by
    unfold primP4
    rw [if_pos (.inr (.inl (by rw [cur_at h])))]
    exact part_at L k p nm hp0 (by omega)
  simp only [e1]
  rw [if_pos trivial, cur_at h, if_pos rfl]
  rfl
theorem sp_other {w : W4} {x y : List UInt8} (h : sp4 w x = true) (hne : (x == y) = false) : sp4 w y = false := by
  unfold sp4 at h ⊢
  simp only [Bool.and_eq_true, beq_iff_eq] at h
  rw [h.2, hne, Bool.and_false]
theorem stop_of {w : W4} {x : List UInt8} (h : sp4 w x = true) (hx : INFIX4.all (fun y => !(x == y)) = true) : stop4 w = true := by
  unfold stop4
  rw [List.all_eq_true] at hx ⊢
  intro y hy
  rw [sp_other h (by simpa using hx y hy)]
  rfl
/-- A sign (4) or a kept word (2). -/
def sg (kd : Nat) (x : List UInt8) (a : Nat) : W4 := ⟨kd, ⟨x.toArray⟩, 0, a⟩
/-- A declaration of one name; the sign ahead of it where it is not the first. -/
structure Dc where
  name : W4
  colon : W4
  kind : W4
  semi : W4
  kd : Nat
def Dc.ok (d : Dc) : Prop := d.name.kind = 1 ∧ sp4 d.colon [58] = true ∧ sp4 d.semi [59] = true ∧ (d.kd = 1 ∧ sp4 d.kind [98, 111, 111, 108] = true ∨ d.kd = 2 ∧ sp4 d.kind [105, 110, 116] = true)
def Dc.ws (d : Dc) : List W4 := [d.name, d.colon, d.kind]
def Dc.vr (d : Dc) : Vr := ⟨d.name.text, d.kd, ⟨#[]⟩, false, d.name.at_⟩
theorem decl_one {L R : List W4} {k : Nat} {p nm : Int} (d : Dc) (hd : d.ok) (h : L.drop k = d.ws ++ R) (hn0 : 0 ≤ nm) (hn : nm < 64) : decl4 L (st4 k p nm) = ([d.vr], st4 (k + 3) p (nm + 1)) := by
  obtain ⟨nw, cw, kw, sw, kd⟩ := d
  obtain ⟨hk1, hcl, _, hkd⟩ := hd
  simp only at hk1 hcl hkd
  have h : L.drop k = nw :: cw :: kw :: R := h
  have h1 := (drop_cons h).2.1
  have h2 := (drop_cons h1).2.1
  have er : declL4 L (L.length + 1) [] (st4 k p nm) = (some [⟨nw.text, 0, ⟨#[]⟩, false, nw.at_⟩], st4 (k + 1) p (nm + 1)) := by
    unfold declL4
    rw [if_pos rfl, cur_at h, if_neg (by rintro ⟨_, h4⟩; change nm = 64 at h4; omega), name_at h hk1]
    simp only
    rw [show wrap64 (nm + 1) = nm + 1 by unfold wrap64; omega]
    have := take_no h1 (p := p) (nm := nm + 1) ⟨#[44]⟩ (sp_other hcl (by decide))
    rw [this]
    rfl
  unfold decl4
  rw [er]
  simp only
  rw [want_at h1 _ hcl, is_at h2]
  rcases hkd with ⟨rfl, hb⟩ | ⟨rfl, hi⟩
  · have hb : sp4 kw (⟨#[98, 111, 111, 108]⟩ : ByteArray).data.toList = true := hb
    rw [if_pos hb, hb]
    rfl
  · have hb : sp4 kw (⟨#[98, 111, 111, 108]⟩ : ByteArray).data.toList = false := sp_other hi (by decide)
    rw [if_neg (by rw [hb]; decide), hb, want_at h2 _ hi]
    rfl
def dcsR (ds : List Dc) : List W4 := ds.flatMap fun d => d.semi :: d.ws
def dcs : List Dc → List W4
  | [] => []
  | d :: r => d.ws ++ dcsR r
theorem dcsR_len (ds : List Dc) : (dcsR ds).length = 4 * ds.length := by
  induction ds with
  | nil => rfl
  | cons a r ih => unfold dcsR at ih ⊢; rw [List.flatMap_cons, List.length_append, ih]; simp [Dc.ws]; omega
theorem declsL_sp {L R : List W4} {p : Int} {w : W4} (hw : sp4 w [59] = false) : ∀ (ds : List Dc) (f : Nat) (l : List Vr) (k : Nat) (nm : Int), ds.length < f → (∀ d ∈ ds, d.ok) → 0 ≤ nm → nm + ds.length ≤ 64 → L.drop k = dcsR ds ++ w :: R → declsL4 L f l (st4 k p nm) = (l ++ ds.map Dc.vr, st4 (k + (dcsR ds).length) p (nm + ds.length))
  | [], 0, _, _, _, hf, _, _, _, _ => absurd hf (Nat.lt_irrefl _)
  | [], f + 1, l, k, nm, _, _, _, _, h => by
    unfold declsL4
    rw [is_at h, hw]
    simp [dcsR]
  | d :: r, 0, _, _, _, hf, _, _, _, _ => absurd hf (Nat.not_lt_zero _)
  | d :: r, f + 1, l, k, nm, hf, hok, hn0, hn, h => by
    have hd := hok d (List.mem_cons_self ..)
    have hn' : nm + ((r.length : Int) + 1) ≤ 64 := by simpa using hn
    have h : L.drop k = d.semi :: (d.ws ++ (dcsR r ++ w :: R)) := by rw [h]; unfold dcsR; simp [List.flatMap_cons]
    have h1 := (drop_cons h).2.1
    have h3 : L.drop (k + 1 + 3) = dcsR r ++ w :: R := by
      rw [← List.drop_drop, h1]
      exact List.drop_left (l₁ := d.ws)
    unfold declsL4
    rw [is_at h, if_pos hd.2.2.1]
    show declsL4 L f (l ++ (decl4 L (st4 (k + 1) p nm)).1) (decl4 L (st4 (k + 1) p nm)).2 = _
    rw [decl_one d hd h1 hn0 (by omega)]
    show declsL4 L f (l ++ [d.vr]) (st4 (k + 1 + 3) p (nm + 1)) = _
    rw [declsL_sp hw r f (l ++ [d.vr]) (k + 1 + 3) (nm + 1) (by simpa using hf) (fun x hx => hok x (List.mem_cons_of_mem _ hx)) (by omega) (by omega) h3]
    rw [dcsR_len, dcsR_len, List.map_cons, List.append_assoc, List.length_cons, show k + 1 + 3 + 4 * r.length = k + 4 * (r.length + 1) by omega, show nm + 1 + (r.length : Int) = nm + ((r.length + 1 : Nat) : Int) by omega]
    rfl
theorem decls_sp {L R : List W4} {p : Int} {w : W4} (hw : sp4 w [41] = true) (ds : List Dc) (k : Nat) (nm : Int) (hok : ∀ d ∈ ds, d.ok) (hn0 : 0 ≤ nm) (hn : nm + ds.length ≤ 64) (h : L.drop k = dcs ds ++ w :: R) : decls4 L (st4 k p nm) = (ds.map Dc.vr, st4 (k + (dcs ds).length) p (nm + ds.length)) := by
  have hlen : ds.length ≤ L.length := by
    have e : (L.drop k).length = (dcs ds ++ w :: R).length := by rw [h]
    rw [List.length_drop, List.length_append] at e
    have : ds.length ≤ (dcs ds).length := by
      cases ds with
      | nil => exact Nat.zero_le _
      | cons d r => show r.length + 1 ≤ (d.ws ++ dcsR r).length; rw [List.length_append, dcsR_len]; simp [Dc.ws]; omega
    omega
  unfold decls4
  cases ds with
  | nil =>
    have h : L.drop k = w :: R := h
    rw [is_at h, if_pos hw]
    simp [dcs]
  | cons d r =>
    have hd := hok d (List.mem_cons_self ..)
    have hn' : nm + ((r.length : Int) + 1) ≤ 64 := by simpa using hn
    have h : L.drop k = d.ws ++ (dcsR r ++ w :: R) := by rw [h]; simp [dcs]
    have h3 : L.drop (k + 3) = dcsR r ++ w :: R := by
      rw [← List.drop_drop, h]
      exact List.drop_left (l₁ := d.ws)
    have h0 : L.drop k = d.name :: (d.colon :: d.kind :: (dcsR r ++ w :: R)) := h
    rw [is_at h0, if_neg (by rw [not_sp (.inl hd.1)]; decide), decl_one d hd h hn0 (by omega)]
    show declsL4 L (L.length + 1) [d.vr] (st4 (k + 3) p (nm + 1)) = _
    rw [declsL_sp (sp_other hw (by decide)) r (L.length + 1) [d.vr] (k + 3) (nm + 1) (by simp only [List.length_cons] at hlen; omega) (fun x hx => hok x (List.mem_cons_of_mem _ hx)) (by omega) (by omega) h3]
    have e1 : (dcs (d :: r)).length = 3 + (dcsR r).length := by show (d.ws ++ dcsR r).length = _; rw [List.length_append]; rfl
    rw [e1, List.length_cons, show k + 3 + (dcsR r).length = k + (3 + (dcsR r).length) by omega, show nm + 1 + (r.length : Int) = nm + ((r.length + 1 : Nat) : Int) by omega]
    rfl
/-- An equation. -/
structure Eqn where
  name : W4
  eq : W4
  ews : List W4
  e : Ex
  np : Nat
  semi : W4
def Eqn.ok (q : Eqn) : Prop := q.name.kind = 1 ∧ sp4 q.eq [61] = true ∧ (∃ d, d ≤ 29 ∧ ExSp d q.ews q.e q.np) ∧ q.np ≤ 300 ∧ sp4 q.semi [59] = true
def Eqn.ws (q : Eqn) : List W4 := q.name :: q.eq :: (q.ews ++ [q.semi])
def Eqn.qe (q : Eqn) : Qe := ⟨q.name.text, q.e, q.name.at_⟩
theorem eq_sp {L R : List W4} {k : Nat} {p nm : Int} (q : Eqn) (hq : q.ok) (h : L.drop k = q.ws ++ R) : eq4 L (st4 k p nm) = (q.qe, st4 (k + q.ws.length) q.np nm) := by
  obtain ⟨h1, h2, ⟨d, hd, he⟩, h4, h5⟩ := hq
  have h : L.drop k = q.name :: q.eq :: (q.ews ++ q.semi :: R) := by rw [h]; simp [Eqn.ws]
  have ha := (drop_cons h).2.1
  have hb := (drop_cons ha).2.1
  have hend : L.drop (k + 1 + 1 + q.ews.length) = q.semi :: R := by
    rw [← List.drop_drop, hb, List.drop_left]
  have hx : expr4 L (st4 (k + 1 + 1) 0 nm) = (q.e, st4 (k + 1 + 1 + q.ews.length) (0 + q.np) nm) := by
    have hh := he L R (k + 1 + 1) 29 0 nm q.semi hd (Int.le_refl _) (by omega) hb (stop_of h5 (by decide)) (sp_other h5 (by decide))
    unfold expr4 exprN4 deep4
    rw [if_pos rfl, if_neg (by decide)]
    show (((lev4 L 29).arrow (st4 (k + 1 + 1) 0 nm)).1, ((lev4 L 29).arrow (st4 (k + 1 + 1) 0 nm)).2) = _
    rw [hh]
  unfold eq4
  rw [name_at h h1]
  simp only
  rw [want_at ha _ h2]
  show (({ name := q.name.text, e := (expr4 L (st4 (k + 1 + 1) 0 nm)).1, at_ := (cur4 L (st4 k p nm)).at_ } : Qe), want4 L ⟨#[59]⟩ (expr4 L (st4 (k + 1 + 1) 0 nm)).2) = _
  rw [hx, cur_at h]
  show (({ name := q.name.text, e := q.e, at_ := q.name.at_ } : Qe), want4 L ⟨#[59]⟩ (st4 (k + 1 + 1 + q.ews.length) (0 + q.np) nm)) = _
  rw [want_at hend _ h5]
  have e1 : q.ws.length = q.ews.length + 3 := by simp [Eqn.ws]
  rw [e1, Int.zero_add, show k + 1 + 1 + q.ews.length + 1 = k + (q.ews.length + 3) by omega]
  rfl
def eqws (qs : List Eqn) : List W4 := qs.flatMap Eqn.ws
theorem eqsL_sp {L R : List W4} {nm : Int} {w : W4} (hw : w.kind ≠ 1) : ∀ (qs : List Eqn) (f : Nat) (l : List Qe) (k : Nat) (p : Int), qs.length < f → (∀ q ∈ qs, q.ok) → L.drop k = eqws qs ++ w :: R → ∃ p', eqsL4 L f l (st4 k p nm) = (l ++ qs.map Eqn.qe, st4 (k + (eqws qs).length) p' nm)
  | [], 0, _, _, _, hf, _, _ => absurd hf (Nat.lt_irrefl _)
  | [], f + 1, l, k, p, _, _, h => by
    refine ⟨p, ?_⟩
    unfold eqsL4
    rw [cur_at (show L.drop k = w :: R from h), if_neg (fun hh => hw hh.2)]
    simp [eqws]
  | q :: r, 0, _, _, _, hf, _, _ => absurd hf (Nat.not_lt_zero _)
  | q :: r, f + 1, l, k, p, hf, hok, h => by
    have hq := hok q (List.mem_cons_self ..)
    have h : L.drop k = q.ws ++ (eqws r ++ w :: R) := by rw [h]; unfold eqws; simp [List.flatMap_cons]
    have h3 : L.drop (k + q.ws.length) = eqws r ++ w :: R := by rw [← List.drop_drop, h, List.drop_left]
    have h0 : L.drop k = q.name :: (q.eq :: (q.ews ++ [q.semi]) ++ (eqws r ++ w :: R)) := h
    obtain ⟨p', hp⟩ := eqsL_sp hw r f (l ++ [q.qe]) (k + q.ws.length) q.np (by simpa using hf) (fun x hx => hok x (List.mem_cons_of_mem _ hx)) h3
    refine ⟨p', ?_⟩
    unfold eqsL4
    rw [if_pos ⟨rfl, by rw [cur_at h0]; exact hq.1⟩]
    show eqsL4 L f (l ++ [(eq4 L (st4 k p nm)).1]) (eq4 L (st4 k p nm)).2 = _
    rw [eq_sp q hq h]
    show eqsL4 L f (l ++ [q.qe]) (st4 (k + q.ws.length) q.np nm) = _
    rw [hp]
    have e1 : (eqws (q :: r)).length = q.ws.length + (eqws r).length := by unfold eqws; rw [List.flatMap_cons, List.length_append]
    rw [e1, List.map_cons, List.append_assoc, Nat.add_assoc]
    rfl
/-- These words spell this node. -/
def NdSp (ws : List W4) (n : Nd) : Prop := ∀ (L R : List W4) (k : Nat) (p nm : Int) (w : W4), L.drop k = ws ++ w :: R → sp4 w [59] = false → ∃ p' nm', node4 L (st4 k p nm) = (n, st4 (k + ws.length) p' nm')
theorem NdSp.make {w0 w1 w2 w3 w4 w5 w6 w7 w8 w9 : W4} (ins outs : List Dc) (qs : List Eqn) (hi : ∀ d ∈ ins, d.ok) (ho : ∀ d ∈ outs, d.ok) (hq : ∀ q ∈ qs, q.ok) (hn : ins.length + outs.length ≤ 64)
    (h0 : sp4 w0 [110, 111, 100, 101] = true) (h1 : w1.kind = 1) (h2 : sp4 w2 [40] = true) (h3 : sp4 w3 [41] = true) (h4 : sp4 w4 [114, 101, 116, 117, 114, 110, 115] = true) (h5 : sp4 w5 [40] = true) (h6 : sp4 w6 [41] = true) (h7 : sp4 w7 [59] = true) (h8 : sp4 w8 [108, 101, 116] = true) (h9 : sp4 w9 [116, 101, 108] = true) (h9k : w9.kind ≠ 1) :
    NdSp (w0 :: w1 :: w2 :: (dcs ins ++ w3 :: w4 :: w5 :: (dcs outs ++ w6 :: w7 :: w8 :: (eqws qs ++ [w9])))) ⟨w1.text, ins.map Dc.vr, outs.map Dc.vr, [], qs.map Eqn.qe, w0.at_⟩ := by
  intro L R k p nm w h hw
  have a0 : L.drop k = w0 :: w1 :: w2 :: (dcs ins ++ w3 :: w4 :: w5 :: (dcs outs ++ w6 :: w7 :: w8 :: (eqws qs ++ w9 :: w :: R))) := by rw [h]; simp
  have a1 := (drop_cons a0).2.1
  have a2 := (drop_cons a1).2.1
  have a3 := (drop_cons a2).2.1
  have a4 : L.drop (k + 1 + 1 + 1 + (dcs ins).length) = w3 :: w4 :: w5 :: (dcs outs ++ w6 :: w7 :: w8 :: (eqws qs ++ w9 :: w :: R)) := by rw [← List.drop_drop, a3, List.drop_left]
  have a5 := (drop_cons a4).2.1
  have a6 := (drop_cons a5).2.1
  have a7 := (drop_cons a6).2.1
  have a8 : L.drop (k + 1 + 1 + 1 + (dcs ins).length + 1 + 1 + 1 + (dcs outs).length) = w6 :: w7 :: w8 :: (eqws qs ++ w9 :: w :: R) := by rw [← List.drop_drop, a7, List.drop_left]
  have a9 := (drop_cons a8).2.1
  have a10 := (drop_cons a9).2.1
  have a11 := (drop_cons a10).2.1
  have a12 : L.drop (k + 1 + 1 + 1 + (dcs ins).length + 1 + 1 + 1 + (dcs outs).length + 1 + 1 + 1 + (eqws qs).length) = w9 :: w :: R := by rw [← List.drop_drop, a11, List.drop_left]
  have a13 := (drop_cons a12).2.1
  have hlen : qs.length < L.length + 1 := by
    have e : (L.drop (k + 1 + 1 + 1 + (dcs ins).length + 1 + 1 + 1 + (dcs outs).length + 1 + 1 + 1)).length = (eqws qs ++ w9 :: w :: R).length := by rw [a11]
    rw [List.length_drop, List.length_append] at e
    have : ∀ l : List Eqn, l.length ≤ (eqws l).length := fun l => by
      induction l with
      | nil => exact Nat.zero_le _
      | cons q r ih => unfold eqws at ih ⊢; rw [List.flatMap_cons, List.length_append]; simp only [Eqn.ws, List.length_cons]; omega
    have := this qs
    omega
  obtain ⟨p', hp⟩ := eqsL_sp (nm := 0 + ins.length + outs.length) h9k qs (L.length + 1) [] _ p hlen hq a11
  refine ⟨p', 0 + ins.length + outs.length, ?_⟩
  have e1 : name4 L (want4 L ⟨#[110, 111, 100, 101]⟩ (st4 k p 0)) = (w1.text, st4 (k + 1 + 1) p 0) := by rw [want_at a0 _ h0, name_at a1 h1]
  have e2 : decls4 L (want4 L ⟨#[40]⟩ (st4 (k + 1 + 1) p 0)) = (ins.map Dc.vr, st4 (k + 1 + 1 + 1 + (dcs ins).length) p (0 + ins.length)) := by
    rw [want_at a2 _ h2, decls_sp h3 ins _ 0 hi (Int.le_refl _) (by omega) a3]
  have e3 : decls4 L (want4 L ⟨#[40]⟩ (want4 L ⟨#[114, 101, 116, 117, 114, 110, 115]⟩ (want4 L ⟨#[41]⟩ (st4 (k + 1 + 1 + 1 + (dcs ins).length) p (0 + ins.length))))) = (outs.map Dc.vr, st4 (k + 1 + 1 + 1 + (dcs ins).length + 1 + 1 + 1 + (dcs outs).length) p (0 + ins.length + outs.length)) := by
    rw [want_at a4 _ h3, want_at a5 _ h4, want_at a6 _ h5, decls_sp h6 outs _ _ ho (by omega) (by omega) a7]
  have e4 : take4 L ⟨#[118, 97, 114]⟩ (want4 L ⟨#[59]⟩ (want4 L ⟨#[41]⟩ (st4 (k + 1 + 1 + 1 + (dcs ins).length + 1 + 1 + 1 + (dcs outs).length) p (0 + ins.length + outs.length)))) = (false, st4 (k + 1 + 1 + 1 + (dcs ins).length + 1 + 1 + 1 + (dcs outs).length + 1 + 1) p (0 + ins.length + outs.length)) := by
    rw [want_at a8 _ h6, want_at a9 _ h7, take_no a10 _ (sp_other h8 (by decide))]
  unfold node4
  have ez : ({ st4 k p nm with names := 0 } : S4) = st4 k p 0 := rfl
  rw [ez, e1]
  simp only
  rw [e2]
  simp only
  rw [e3]
  simp only
  rw [e4]
  simp only [Bool.false_eq_true, if_false]
  rw [want_at a10 _ h8, hp]
  simp only
  rw [want_at a12 _ h9, take_no a13 _ hw, cur_at a0, List.nil_append]
  have el : (w0 :: w1 :: w2 :: (dcs ins ++ w3 :: w4 :: w5 :: (dcs outs ++ w6 :: w7 :: w8 :: (eqws qs ++ [w9])))).length = (dcs ins).length + (dcs outs).length + (eqws qs).length + 10 := by
    simp only [List.length_cons, List.length_append, List.length_nil]; omega
  rw [el, show k + 1 + 1 + 1 + (dcs ins).length + 1 + 1 + 1 + (dcs outs).length + 1 + 1 + 1 + (eqws qs).length + 1 = k + ((dcs ins).length + (dcs outs).length + (eqws qs).length + 10) by omega]
/-- Nodes, one behind the other. -/
theorem nodesL_sp {L : List W4} {w : W4} (hw : w.kind = 0) : ∀ (ns : List (List W4 × Nd)) (f : Nat) (l : List Nd) (k : Nat) (p nm : Int), ns.length < f → l.length + ns.length ≤ 32 → (l ≠ [] ∨ ns ≠ []) → (∀ x ∈ ns, NdSp x.1 x.2 ∧ ∃ h r, x.1 = h :: r ∧ sp4 h [110, 111, 100, 101] = true) → L.drop k = ns.flatMap Prod.fst ++ [w] → ∃ s, nodesL4 L f l (st4 k p nm) = (l ++ ns.map Prod.snd, s) ∧ s.er = 0
  | [], 0, _, _, _, _, hf, _, _, _, _ => absurd hf (Nat.lt_irrefl _)
  | [], f + 1, l, k, p, nm, _, _, hne, _, h => by
    refine ⟨st4 k p nm, ?_, rfl⟩
    unfold nodesL4
    rw [cur_at (show L.drop k = w :: [] from h), if_neg (by
      rintro ⟨_, h1 | h1⟩
      · rcases hne with h2 | h2
        · exact h2 h1
        · exact h2 rfl
      · exact h1 hw)]
    simp
  | x :: r, 0, _, _, _, _, hf, _, _, _, _ => absurd hf (Nat.not_lt_zero _)
  | x :: r, f + 1, l, k, p, nm, hf, hl, _, hok, h => by
    obtain ⟨hx, hh, hr, hx1, hx2⟩ := hok x (List.mem_cons_self ..)
    have hl' : l.length + (r.length + 1) ≤ 32 := hl
    have h : L.drop k = x.1 ++ (r.flatMap Prod.fst ++ [w]) := by rw [h]; simp [List.flatMap_cons]
    have h3 : L.drop (k + x.1.length) = r.flatMap Prod.fst ++ [w] := by rw [← List.drop_drop, h, List.drop_left]
    have h0 : L.drop k = hh :: (hr ++ (r.flatMap Prod.fst ++ [w])) := by rw [h, hx1]; rfl
    have hk : hh.kind ≠ 0 := by
      intro e
      unfold sp4 at hx2
      rw [e] at hx2
      exact absurd hx2 (by simp)
    have hnext : ∃ w' R', r.flatMap Prod.fst ++ [w] = w' :: R' ∧ sp4 w' [59] = false := by
      cases r with
      | nil => exact ⟨w, [], rfl, by unfold sp4; rw [hw]; rfl⟩
      | cons y t =>
        obtain ⟨_, yh, yr, hy1, hy2⟩ := hok y (List.mem_cons_of_mem _ (List.mem_cons_self ..))
        exact ⟨yh, yr ++ (t.flatMap Prod.fst ++ [w]), by rw [List.flatMap_cons, hy1]; simp, sp_other hy2 (by decide)⟩
    obtain ⟨w', R', hn1, hn2⟩ := hnext
    obtain ⟨p', nm', hnd⟩ := hx L R' k p nm w' (by rw [h, hn1]) hn2
    obtain ⟨s, hs, he⟩ := nodesL_sp hw r f (l ++ [x.2]) (k + x.1.length) p' nm' (by simpa using hf) (by simp only [List.length_append, List.length_cons, List.length_nil]; omega) (.inl (by simp)) (fun y hy => hok y (List.mem_cons_of_mem _ hy)) h3
    refine ⟨s, ?_, he⟩
    unfold nodesL4
    rw [cur_at h0, if_pos ⟨rfl, .inr hk⟩, if_neg (by omega)]
    show nodesL4 L f (l ++ [(node4 L (st4 k p nm)).1]) (node4 L (st4 k p nm)).2 = _
    rw [hnd]
    show nodesL4 L f (l ++ [x.2]) (st4 (k + x.1.length) p' nm') = _
    rw [hs]
    simp
theorem nodes_sp {w : W4} (hw : w.kind = 0) (ns : List (List W4 × Nd)) (hne : ns ≠ []) (hl : ns.length ≤ 32) (hok : ∀ x ∈ ns, NdSp x.1 x.2 ∧ ∃ h r, x.1 = h :: r ∧ sp4 h [110, 111, 100, 101] = true) : nodes4 (ns.flatMap Prod.fst ++ [w]) = .ok (ns.map Prod.snd) := by
  have hlen : ns.length < (ns.flatMap Prod.fst ++ [w]).length + 1 := by
    have : ∀ l : List (List W4 × Nd), (∀ x ∈ l, ∃ h r, x.1 = h :: r) → l.length ≤ (l.flatMap Prod.fst).length := fun l => by
      induction l with
      | nil => intro _; exact Nat.zero_le _
      | cons x r ih =>
        intro hx
        obtain ⟨a, b, e⟩ := hx x (List.mem_cons_self ..)
        have := ih fun y hy => hx y (List.mem_cons_of_mem _ hy)
        rw [List.flatMap_cons, List.length_append, e]
        simp only [List.length_cons]
        omega
    have := this ns fun x hx => by obtain ⟨_, a, b, e, _⟩ := hok x hx; exact ⟨a, b, e⟩
    rw [List.length_append]
    omega
  obtain ⟨s, hs, he⟩ := nodesL_sp (L := ns.flatMap Prod.fst ++ [w]) hw ns _ [] 0 0 0 hlen (by simpa using hl) (.inr hne) hok (by simp)
  unfold nodes4
  show (let r := nodesL4 (ns.flatMap Prod.fst ++ [w]) ((ns.flatMap Prod.fst ++ [w]).length + 1) [] (st4 0 0 0); if r.2.er = 0 then Except.ok r.1 else Except.error (r.2.er, r.2.ea)) = _
  rw [hs]
  simp [he]
end Go.Proofs.Ytbgngmnpepnflaa

namespace Go.Proofs.Ytbgngmnpepnflaa
open Go Go.RowKit
/-- Name number k: three letters. -/
def l1 (k : Nat) : UInt8 := UInt8.ofNat (97 + k / 26)
def l2 (k : Nat) : UInt8 := UInt8.ofNat (97 + k % 26)
def tb (k : Nat) : ByteArray := ⟨[119, l1 k, l2 k].toArray⟩
theorem ftw_58 (k : Nat) (h : k < 60) (R : List UInt8) : firstW (119 :: l1 k :: l2 k :: 58 :: R) = (1, 3, 0) := by
  match k, h with
  | 0, _ => rfl
  | 1, _ => rfl
  | 2, _ => rfl
  | 3, _ => rfl
  | 4, _ => rfl
  | 5, _ => rfl
  | 6, _ => rfl
  | 7, _ => rfl
  | 8, _ => rfl
  | 9, _ => rfl
  | 10, _ => rfl
  | 11, _ => rfl
  | 12, _ => rfl
  | 13, _ => rfl
  | 14, _ => rfl
  | 15, _ => rfl
  | 16, _ => rfl
  | 17, _ => rfl
  | 18, _ => rfl
  | 19, _ => rfl
  | 20, _ => rfl
  | 21, _ => rfl
  | 22, _ => rfl
  | 23, _ => rfl
  | 24, _ => rfl
  | 25, _ => rfl
  | 26, _ => rfl
  | 27, _ => rfl
  | 28, _ => rfl
  | 29, _ => rfl
  | 30, _ => rfl
  | 31, _ => rfl
  | 32, _ => rfl
  | 33, _ => rfl
  | 34, _ => rfl
  | 35, _ => rfl
  | 36, _ => rfl
  | 37, _ => rfl
  | 38, _ => rfl
  | 39, _ => rfl
  | 40, _ => rfl
  | 41, _ => rfl
  | 42, _ => rfl
  | 43, _ => rfl
  | 44, _ => rfl
  | 45, _ => rfl
  | 46, _ => rfl
  | 47, _ => rfl
  | 48, _ => rfl
  | 49, _ => rfl
  | 50, _ => rfl
  | 51, _ => rfl
  | 52, _ => rfl
  | 53, _ => rfl
  | 54, _ => rfl
  | 55, _ => rfl
  | 56, _ => rfl
  | 57, _ => rfl
  | 58, _ => rfl
  | 59, _ => rfl
  | _ + 60, h => omega
theorem ftw_32 (k : Nat) (h : k < 60) (R : List UInt8) : firstW (119 :: l1 k :: l2 k :: 32 :: R) = (1, 3, 0) := by
  match k, h with
  | 0, _ => rfl
  | 1, _ => rfl
  | 2, _ => rfl
  | 3, _ => rfl
  | 4, _ => rfl
  | 5, _ => rfl
  | 6, _ => rfl
  | 7, _ => rfl
  | 8, _ => rfl
  | 9, _ => rfl
  | 10, _ => rfl
  | 11, _ => rfl
  | 12, _ => rfl
  | 13, _ => rfl
  | 14, _ => rfl
  | 15, _ => rfl
  | 16, _ => rfl
  | 17, _ => rfl
  | 18, _ => rfl
  | 19, _ => rfl
  | 20, _ => rfl
  | 21, _ => rfl
  | 22, _ => rfl
  | 23, _ => rfl
  | 24, _ => rfl
  | 25, _ => rfl
  | 26, _ => rfl
  | 27, _ => rfl
  | 28, _ => rfl
  | 29, _ => rfl
  | 30, _ => rfl
  | 31, _ => rfl
  | 32, _ => rfl
  | 33, _ => rfl
  | 34, _ => rfl
  | 35, _ => rfl
  | 36, _ => rfl
  | 37, _ => rfl
  | 38, _ => rfl
  | 39, _ => rfl
  | 40, _ => rfl
  | 41, _ => rfl
  | 42, _ => rfl
  | 43, _ => rfl
  | 44, _ => rfl
  | 45, _ => rfl
  | 46, _ => rfl
  | 47, _ => rfl
  | 48, _ => rfl
  | 49, _ => rfl
  | 50, _ => rfl
  | 51, _ => rfl
  | 52, _ => rfl
  | 53, _ => rfl
  | 54, _ => rfl
  | 55, _ => rfl
  | 56, _ => rfl
  | 57, _ => rfl
  | 58, _ => rfl
  | 59, _ => rfl
  | _ + 60, h => omega
theorem tb_inj (i j : Nat) (hi : i < 60) (hj : j < 60) (h : (tb i).data.toList = (tb j).data.toList) : i = j := by
  have h : [119, l1 i, l2 i] = [119, l1 j, l2 j] := h
  injection h with _ h
  injection h with h1 h
  injection h with h2 _
  have h1 := congrArg UInt8.toNat h1
  have h2 := congrArg UInt8.toNat h2
  unfold l1 at h1
  unfold l2 at h2
  rw [UInt8.toNat_ofNat', UInt8.toNat_ofNat'] at h1 h2
  omega
/-- The number of the name that stands at place i: a again at place b. -/
def tk (a b i : Nat) : Nat := if i = b then a else i
theorem tk_lt {a b i : Nat} (h : a < b) (hb : b < 60) (hi : i < 60) : tk a b i < 60 := by unfold tk; split <;> omega
def tDc (a b i : Nat) : Dc := ⟨⟨1, tb (tk a b i), 0, 18 + 10 * i⟩, sg 4 [58] (21 + 10 * i), sg 2 [105, 110, 116] (23 + 10 * i), sg 4 [59] (16 + 10 * i), 2⟩
theorem tDc_ok (a b i : Nat) : (tDc a b i).ok := ⟨rfl, rfl, rfl, .inr ⟨rfl, rfl⟩⟩
def tEq (a b e i : Nat) : Eqn := ⟨⟨1, tb (tk a b i), 0, e + 9 * i⟩, sg 4 [61] (e + 9 * i + 4), [⟨3, ⟨[49].toArray⟩, 1, e + 9 * i + 6⟩], exInt 1 (e + 9 * i + 6), 1, sg 4 [59] (e + 9 * i + 7)⟩
theorem tEq_ok (a b e i : Nat) : (tEq a b e i).ok := ⟨rfl, rfl, ⟨0, by decide, ExSp.int _ _ _⟩, show (1 : Nat) ≤ 300 by decide, rfl⟩
/-- m declarations from number i on, each with its sign ahead; m equations. -/
def tDs (a b : Nat) : Nat → Nat → List Dc
  | 0, _ => []
  | m + 1, i => tDc a b i :: tDs a b m (i + 1)
def tEs (a b e : Nat) : Nat → Nat → List Eqn
  | 0, _ => []
  | m + 1, i => tEq a b e i :: tEs a b e m (i + 1)
def tDt (a b : Nat) : Nat → Nat → List UInt8
  | 0, _ => []
  | m + 1, i => [59, 32, 119, l1 (tk a b i), l2 (tk a b i), 58, 32, 105, 110, 116] ++ tDt a b m (i + 1)
def tEt (a b : Nat) : Nat → Nat → List UInt8
  | 0, _ => []
  | m + 1, i => [119, l1 (tk a b i), l2 (tk a b i), 32, 61, 32, 49, 59, 32] ++ tEt a b m (i + 1)
theorem tDs_len (a b : Nat) : ∀ m i, (tDs a b m i).length = m
  | 0, _ => rfl
  | m + 1, i => by unfold tDs; rw [List.length_cons, tDs_len a b m]
theorem tDt_len (a b : Nat) : ∀ m i, (tDt a b m i).length = 10 * m
  | 0, _ => rfl
  | m + 1, i => by unfold tDt; rw [List.length_append, tDt_len a b m]; simp only [List.length_cons, List.length_nil]; omega
theorem tEt_len (a b : Nat) : ∀ m i, (tEt a b m i).length = 9 * m
  | 0, _ => rfl
  | m + 1, i => by unfold tEt; rw [List.length_append, tEt_len a b m]; simp only [List.length_cons, List.length_nil]; omega
theorem tDt_back (a b : Nat) : ∀ m i, tDt a b (m + 1) i = tDt a b m i ++ [59, 32, 119, l1 (tk a b (i + m)), l2 (tk a b (i + m)), 58, 32, 105, 110, 116]
  | 0, i => by simp [tDt]
  | m + 1, i => by
    have h := tDt_back a b m (i + 1)
    rw [show i + 1 + m = i + (m + 1) by omega] at h
    conv => lhs; unfold tDt
    rw [h]
    conv => rhs; unfold tDt
    simp
theorem tEt_back (a b : Nat) : ∀ m i, tEt a b (m + 1) i = tEt a b m i ++ [119, l1 (tk a b (i + m)), l2 (tk a b (i + m)), 32, 61, 32, 49, 59, 32]
  | 0, i => by simp [tEt]
  | m + 1, i => by
    have h := tEt_back a b m (i + 1)
    rw [show i + 1 + m = i + (m + 1) by omega] at h
    conv => lhs; unfold tEt
    rw [h]
    conv => rhs; unfold tEt
    simp
theorem tDs_ok (a b : Nat) : ∀ m i, ∀ d ∈ tDs a b m i, d.ok
  | 0, _, d, h => by simp [tDs] at h
  | m + 1, i, d, h => by
    unfold tDs at h
    rcases List.mem_cons.1 h with rfl | h
    · exact tDc_ok a b i
    · exact tDs_ok a b m (i + 1) d h
theorem tEs_ok (a b e : Nat) : ∀ m i, ∀ d ∈ tEs a b e m i, d.ok
  | 0, _, d, h => by simp [tEs] at h
  | m + 1, i, d, h => by
    unfold tEs at h
    rcases List.mem_cons.1 h with rfl | h
    · exact tEq_ok a b e i
    · exact tEs_ok a b e m (i + 1) d h
/-- What stands behind a declared kind: a sign. -/
def Sgn (R : List UInt8) : Prop := ∃ r, R = 59 :: r ∨ R = 41 :: r
theorem int_step {R : List UInt8} {p : Nat} {ws : List W4} (hR : Sgn R) (h : LexW R (p + 3) ws) : LexW ([105, 110, 116] ++ R) p (sg 2 [105, 110, 116] p :: ws) := by
  obtain ⟨r, rfl | rfl⟩ := hR
  · exact LexW.cons 2 3 0 0 (by simp) rfl (by decide) rfl rfl h
  · exact LexW.cons 2 3 0 0 (by simp) rfl (by decide) rfl rfl h
theorem lex_dc {R : List UInt8} {ws : List W4} (k p : Nat) (hk : k < 60) (hR : Sgn R) (h : LexW R (p + 8) ws) : LexW ([119, l1 k, l2 k, 58, 32, 105, 110, 116] ++ R) p (⟨1, tb k, 0, p⟩ :: sg 4 [58] (p + 3) :: sg 2 [105, 110, 116] (p + 5) :: ws) := by
  have s2 : LexW ([105, 110, 116] ++ R) (p + 5) (sg 2 [105, 110, 116] (p + 5) :: ws) := int_step hR h
  have s1 : LexW ([58, 32, 105, 110, 116] ++ R) (p + 3) (sg 4 [58] (p + 3) :: sg 2 [105, 110, 116] (p + 5) :: ws) := LexW.cons 4 1 0 1 (by simp) rfl (by decide) rfl rfl s2
  exact LexW.cons 1 3 0 0 (by simp) (ftw_58 k hk _) (by decide) rfl rfl s1
theorem lex_tDs (a b : Nat) (hab : a < b) (hb : b < 60) {R : List UInt8} {ws : List W4} (hR : Sgn R) : ∀ (m i : Nat), i + m ≤ 60 → LexW R (16 + 10 * (i + m)) ws → LexW (tDt a b m i ++ R) (16 + 10 * i) (dcsR (tDs a b m i) ++ ws)
  | 0, i, _, h => h
  | m + 1, i, hm, h => by
    have ih := lex_tDs a b hab hb hR m (i + 1) (by omega) (by rw [show i + 1 + m = i + (m + 1) by omega]; exact h)
    have hS : Sgn (tDt a b m (i + 1) ++ R) := by
      cases m with
      | zero => exact hR
      | succ m => exact ⟨_, .inl rfl⟩
    have s1 := lex_dc (tk a b i) (18 + 10 * i) (tk_lt hab hb (by omega)) hS (by rw [show 18 + 10 * i + 8 = 16 + 10 * (i + 1) by omega]; exact ih)
    have s0 : LexW ([59, 32, 119, l1 (tk a b i), l2 (tk a b i), 58, 32, 105, 110, 116] ++ (tDt a b m (i + 1) ++ R)) (16 + 10 * i) (sg 4 [59] (16 + 10 * i) :: (⟨1, tb (tk a b i), 0, 18 + 10 * i⟩ :: sg 4 [58] (18 + 10 * i + 3) :: sg 2 [105, 110, 116] (18 + 10 * i + 5) :: (dcsR (tDs a b m (i + 1)) ++ ws))) := LexW.cons 4 1 0 1 (by simp) rfl (by decide) rfl rfl (by rw [show 16 + 10 * i + 1 + 1 = 18 + 10 * i by omega]; exact s1)
    unfold tDt tDs
    rw [List.append_assoc]
    have e : dcsR (tDc a b i :: tDs a b m (i + 1)) ++ ws = sg 4 [59] (16 + 10 * i) :: (⟨1, tb (tk a b i), 0, 18 + 10 * i⟩ :: sg 4 [58] (18 + 10 * i + 3) :: sg 2 [105, 110, 116] (18 + 10 * i + 5) :: (dcsR (tDs a b m (i + 1)) ++ ws)) := by
      unfold dcsR
      rw [List.flatMap_cons, List.append_assoc, show 18 + 10 * i + 3 = 21 + 10 * i by omega, show 18 + 10 * i + 5 = 23 + 10 * i by omega]
      rfl
    rw [e]
    exact s0
theorem gap_two {R : List UInt8} (h : gapL R = 0) : gapL (32 :: R) = 1 := by rw [gapL_blank _ _ (by decide), h]
theorem lex_tEs (a b e : Nat) (hab : a < b) (hb : b < 60) {R : List UInt8} {ws : List W4} (hR : gapL R = 0) : ∀ (m i : Nat), i + m ≤ 60 → LexW R (e + 9 * (i + m)) ws → LexW (tEt a b m i ++ R) (e + 9 * i) (eqws (tEs a b e m i) ++ ws)
  | 0, i, _, h => h
  | m + 1, i, hm, h => by
    have ih := lex_tEs a b e hab hb hR m (i + 1) (by omega) (by rw [show i + 1 + m = i + (m + 1) by omega]; exact h)
    have hg : gapL (tEt a b m (i + 1) ++ R) = 0 := by
      cases m with
      | zero => exact hR
      | succ m => rfl
    have s3 : LexW ([59, 32] ++ (tEt a b m (i + 1) ++ R)) (e + 9 * i + 7) (sg 4 [59] (e + 9 * i + 7) :: (eqws (tEs a b e m (i + 1)) ++ ws)) := LexW.cons 4 1 0 1 (by simp) rfl (by decide) (gap_two hg) rfl (by rw [show e + 9 * i + 7 + 1 + 1 = e + 9 * (i + 1) by omega]; exact ih)
    have s2 : LexW ([49, 59, 32] ++ (tEt a b m (i + 1) ++ R)) (e + 9 * i + 6) (⟨3, ⟨[49].toArray⟩, 1, e + 9 * i + 6⟩ :: sg 4 [59] (e + 9 * i + 7) :: (eqws (tEs a b e m (i + 1)) ++ ws)) := LexW.cons 3 1 1 0 (by simp) rfl (by decide) rfl rfl s3
    have s1 : LexW ([61, 32, 49, 59, 32] ++ (tEt a b m (i + 1) ++ R)) (e + 9 * i + 4) (sg 4 [61] (e + 9 * i + 4) :: ⟨3, ⟨[49].toArray⟩, 1, e + 9 * i + 6⟩ :: sg 4 [59] (e + 9 * i + 7) :: (eqws (tEs a b e m (i + 1)) ++ ws)) := LexW.cons 4 1 0 1 (by simp) rfl (by decide) rfl rfl s2
    have s0 : LexW ([119, l1 (tk a b i), l2 (tk a b i), 32, 61, 32, 49, 59, 32] ++ (tEt a b m (i + 1) ++ R)) (e + 9 * i) (⟨1, tb (tk a b i), 0, e + 9 * i⟩ :: sg 4 [61] (e + 9 * i + 4) :: ⟨3, ⟨[49].toArray⟩, 1, e + 9 * i + 6⟩ :: sg 4 [59] (e + 9 * i + 7) :: (eqws (tEs a b e m (i + 1)) ++ ws)) := LexW.cons 1 3 0 1 (by simp) (ftw_32 _ (tk_lt hab hb (by omega)) _) (by decide) rfl rfl s1
    unfold tEt tEs
    rw [List.append_assoc]
    have e1 : eqws (tEq a b e i :: tEs a b e m (i + 1)) ++ ws = ⟨1, tb (tk a b i), 0, e + 9 * i⟩ :: sg 4 [61] (e + 9 * i + 4) :: ⟨3, ⟨[49].toArray⟩, 1, e + 9 * i + 6⟩ :: sg 4 [59] (e + 9 * i + 7) :: (eqws (tEs a b e m (i + 1)) ++ ws) := by
      unfold eqws
      rw [List.flatMap_cons, List.append_assoc]
      rfl
    rw [e1]
    exact s0
/-- The text for n names. -/
def twD (a b n : Nat) : List UInt8 := [119, l1 (tk a b 0), l2 (tk a b 0), 58, 32, 105, 110, 116] ++ tDt a b (n - 1) 1
def twT (a b n : Nat) : List UInt8 := [110, 111, 100, 101, 32, 102, 40, 41, 32, 114, 101, 116, 117, 114, 110, 115, 32, 40] ++ (twD a b n ++ ([41, 59, 32, 108, 101, 116, 32] ++ (tEt a b n 0 ++ [116, 101, 108])))
def twW (a b n : Nat) : List W4 := sg 2 [110, 111, 100, 101] 0 :: ⟨1, ⟨[102].toArray⟩, 0, 5⟩ :: sg 4 [40] 6 :: (dcs [] ++ sg 4 [41] 7 :: sg 2 [114, 101, 116, 117, 114, 110, 115] 9 :: sg 4 [40] 17 :: (dcs (tDc a b 0 :: tDs a b (n - 1) 1) ++ sg 4 [41] (16 + 10 * n) :: sg 4 [59] (17 + 10 * n) :: sg 2 [108, 101, 116] (19 + 10 * n) :: (eqws (tEs a b (23 + 10 * n) n 0) ++ [sg 2 [116, 101, 108] (23 + 10 * n + 9 * n)])))
def twN (a b n : Nat) : Nd := ⟨⟨[102].toArray⟩, [], (tDc a b 0 :: tDs a b (n - 1) 1).map Dc.vr, [], (tEs a b (23 + 10 * n) n 0).map Eqn.qe, 0⟩
theorem tw_lex (a b n : Nat) (hab : a < b) (hb : b < n) (hn : n ≤ 60) : ∃ z, LexW (twT a b n) 0 (twW a b n ++ [⟨0, ⟨#[]⟩, 0, z⟩]) := by
  refine ⟨23 + 10 * n + 9 * n + 3, ?_⟩
  have h0 : LexW ([116, 101, 108] ++ []) (23 + 10 * n + 9 * n) (sg 2 [116, 101, 108] (23 + 10 * n + 9 * n) :: [⟨0, ⟨#[]⟩, 0, 23 + 10 * n + 9 * n + 3⟩]) := LexW.cons 2 3 0 0 (by simp) rfl (by decide) rfl rfl (LexW.nil _)
  have h1 := lex_tEs a b (23 + 10 * n) hab (by omega) (R := [116, 101, 108]) rfl n 0 (by omega) (by rw [Nat.zero_add]; exact h0)
  rw [Nat.mul_zero, Nat.add_zero] at h1
  have h2 : LexW ([108, 101, 116, 32] ++ (tEt a b n 0 ++ [116, 101, 108])) (19 + 10 * n) (sg 2 [108, 101, 116] (19 + 10 * n) :: (eqws (tEs a b (23 + 10 * n) n 0) ++ (sg 2 [116, 101, 108] (23 + 10 * n + 9 * n) :: [⟨0, ⟨#[]⟩, 0, 23 + 10 * n + 9 * n + 3⟩]))) := LexW.cons 2 3 0 1 (by simp) rfl (by decide) (gap_two (by cases n with | zero => rfl | succ n => rfl)) rfl (by rw [show 19 + 10 * n + 3 + 1 = 23 + 10 * n by omega]; exact h1)
  have h3 : LexW ([59, 32, 108, 101, 116, 32] ++ (tEt a b n 0 ++ [116, 101, 108])) (17 + 10 * n) (sg 4 [59] (17 + 10 * n) :: sg 2 [108, 101, 116] (19 + 10 * n) :: (eqws (tEs a b (23 + 10 * n) n 0) ++ (sg 2 [116, 101, 108] (23 + 10 * n + 9 * n) :: [⟨0, ⟨#[]⟩, 0, 23 + 10 * n + 9 * n + 3⟩]))) := LexW.cons 4 1 0 1 (by simp) rfl (by decide) rfl rfl (by rw [show 17 + 10 * n + 1 + 1 = 19 + 10 * n by omega]; exact h2)
  have h4 : LexW ([41, 59, 32, 108, 101, 116, 32] ++ (tEt a b n 0 ++ [116, 101, 108])) (16 + 10 * n) (sg 4 [41] (16 + 10 * n) :: sg 4 [59] (17 + 10 * n) :: sg 2 [108, 101, 116] (19 + 10 * n) :: (eqws (tEs a b (23 + 10 * n) n 0) ++ (sg 2 [116, 101, 108] (23 + 10 * n + 9 * n) :: [⟨0, ⟨#[]⟩, 0, 23 + 10 * n + 9 * n + 3⟩]))) := LexW.cons 4 1 0 0 (by simp) rfl (by decide) rfl rfl (by rw [show 16 + 10 * n + 1 + 0 = 17 + 10 * n by omega]; exact h3)
  have hS : Sgn ([41, 59, 32, 108, 101, 116, 32] ++ (tEt a b n 0 ++ [116, 101, 108])) := ⟨_, .inr rfl⟩
  have h5 := lex_tDs a b hab (by omega) hS (n - 1) 1 (by omega) (by rw [show 16 + 10 * (1 + (n - 1)) = 16 + 10 * n by omega]; exact h4)
  have hS2 : Sgn (tDt a b (n - 1) 1 ++ ([41, 59, 32, 108, 101, 116, 32] ++ (tEt a b n 0 ++ [116, 101, 108]))) := by
    obtain ⟨q, hq⟩ : ∃ q, q = n - 1 := ⟨_, rfl⟩
    rw [← hq]
    cases q with
    | zero => exact hS
    | succ q => exact ⟨_, .inl rfl⟩
  have h6 := lex_dc (tk a b 0) 18 (tk_lt hab (by omega) (by omega)) hS2 h5
  obtain ⟨RR, hRR⟩ : ∃ RR, RR = ([119, l1 (tk a b 0), l2 (tk a b 0), 58, 32, 105, 110, 116] ++ (tDt a b (n - 1) 1 ++ ([41, 59, 32, 108, 101, 116, 32] ++ (tEt a b n 0 ++ [116, 101, 108])))) := ⟨_, rfl⟩
  have hg : RR = 119 :: RR.tail := by rw [hRR]; rfl
  obtain ⟨WW, hWW⟩ : ∃ WW : List W4, WW = (⟨1, tb (tk a b 0), 0, 18⟩ :: sg 4 [58] (18 + 3) :: sg 2 [105, 110, 116] (18 + 5) :: (dcsR (tDs a b (n - 1) 1) ++ (sg 4 [41] (16 + 10 * n) :: sg 4 [59] (17 + 10 * n) :: sg 2 [108, 101, 116] (19 + 10 * n) :: (eqws (tEs a b (23 + 10 * n) n 0) ++ (sg 2 [116, 101, 108] (23 + 10 * n + 9 * n) :: [⟨0, ⟨#[]⟩, 0, 23 + 10 * n + 9 * n + 3⟩]))))) := ⟨_, rfl⟩
  rw [← hRR, ← hWW] at h6
  have hend : gapL RR = 0 := by rw [hg]; rfl
  have s5 : LexW ([40] ++ RR) (17) (sg 4 [40] 17 :: WW) := LexW.cons 4 1 0 0 (by simp) (by rw [hg]; rfl) (by decide) hend rfl h6
  have s4 : LexW ([114, 101, 116, 117, 114, 110, 115, 32, 40] ++ RR) (9) (sg 2 [114, 101, 116, 117, 114, 110, 115] 9 :: sg 4 [40] 17 :: WW) := LexW.cons 2 7 0 1 (by simp) rfl (by decide) rfl rfl s5
  have s3 : LexW ([41, 32, 114, 101, 116, 117, 114, 110, 115, 32, 40] ++ RR) (7) (sg 4 [41] 7 :: sg 2 [114, 101, 116, 117, 114, 110, 115] 9 :: sg 4 [40] 17 :: WW) := LexW.cons 4 1 0 1 (by simp) rfl (by decide) rfl rfl s4
  have s2 : LexW ([40, 41, 32, 114, 101, 116, 117, 114, 110, 115, 32, 40] ++ RR) (6) (sg 4 [40] 6 :: sg 4 [41] 7 :: sg 2 [114, 101, 116, 117, 114, 110, 115] 9 :: sg 4 [40] 17 :: WW) := LexW.cons 4 1 0 0 (by simp) rfl (by decide) rfl rfl s3
  have s1 : LexW ([102, 40, 41, 32, 114, 101, 116, 117, 114, 110, 115, 32, 40] ++ RR) (5) (⟨1, ⟨[102].toArray⟩, 0, 5⟩ :: sg 4 [40] 6 :: sg 4 [41] 7 :: sg 2 [114, 101, 116, 117, 114, 110, 115] 9 :: sg 4 [40] 17 :: WW) := LexW.cons 1 1 0 0 (by simp) rfl (by decide) rfl rfl s2
  have s0 : LexW ([110, 111, 100, 101, 32, 102, 40, 41, 32, 114, 101, 116, 117, 114, 110, 115, 32, 40] ++ RR) 0 (sg 2 [110, 111, 100, 101] 0 :: ⟨1, ⟨[102].toArray⟩, 0, 5⟩ :: sg 4 [40] 6 :: sg 4 [41] 7 :: sg 2 [114, 101, 116, 117, 114, 110, 115] 9 :: sg 4 [40] 17 :: WW) := LexW.cons 2 4 0 1 (by simp) rfl (by decide) rfl rfl s1
  have e1 : twT a b n = [110, 111, 100, 101, 32, 102, 40, 41, 32, 114, 101, 116, 117, 114, 110, 115, 32, 40] ++ RR := by
    unfold twT twD
    rw [hRR, List.append_assoc]
  have e2 : twW a b n ++ [⟨0, ⟨#[]⟩, 0, 23 + 10 * n + 9 * n + 3⟩] = sg 2 [110, 111, 100, 101] 0 :: ⟨1, ⟨[102].toArray⟩, 0, 5⟩ :: sg 4 [40] 6 :: sg 4 [41] 7 :: sg 2 [114, 101, 116, 117, 114, 110, 115] 9 :: sg 4 [40] 17 :: WW := by
    rw [hWW]
    unfold twW
    simp [dcs, tDc, Dc.ws]
  rw [e1, e2]
  exact s0
theorem tw_nd (a b n : Nat) (hn1 : 1 ≤ n) (hn : n ≤ 60) : NdSp (twW a b n) (twN a b n) := by
  have hd : ∀ d ∈ tDc a b 0 :: tDs a b (n - 1) 1, d.ok := fun d hd => by
    rcases List.mem_cons.1 hd with rfl | hd
    · exact tDc_ok a b 0
    · exact tDs_ok a b _ _ d hd
  have h := NdSp.make (w0 := sg 2 [110, 111, 100, 101] 0) (w1 := ⟨1, ⟨[102].toArray⟩, 0, 5⟩) (w2 := sg 4 [40] 6) (w3 := sg 4 [41] 7) (w4 := sg 2 [114, 101, 116, 117, 114, 110, 115] 9) (w5 := sg 4 [40] 17) (w6 := sg 4 [41] (16 + 10 * n)) (w7 := sg 4 [59] (17 + 10 * n)) (w8 := sg 2 [108, 101, 116] (19 + 10 * n)) (w9 := sg 2 [116, 101, 108] (23 + 10 * n + 9 * n)) [] (tDc a b 0 :: tDs a b (n - 1) 1) (tEs a b (23 + 10 * n) n 0) (fun d hd => by simp at hd) hd (tEs_ok a b _ _ _) (by rw [List.length_cons, tDs_len]; simp only [List.length_nil]; omega) rfl rfl rfl rfl rfl rfl rfl rfl rfl rfl (show (2 : Nat) ≠ 1 by decide)
  exact h
theorem twT_len (a b n : Nat) (hn1 : 1 ≤ n) (hn : n ≤ 60) : (twT a b n).length ≤ 2000 := by
  unfold twT twD
  simp only [List.length_append, tDt_len, tEt_len, List.length_cons, List.length_nil]
  omega
theorem tw_tree (a b n : Nat) (hab : a < b) (hb : b < n) (hn : n ≤ 60) : treeL (twT a b n) = [twN a b n] := by
  obtain ⟨z, hz⟩ := tw_lex a b n hab hb hn
  have hp := parse_lex hz rfl (by have := twT_len a b n (by omega) hn; omega)
  have hs := nodes_sp (w := ⟨0, ⟨#[]⟩, 0, z⟩) rfl [(twW a b n, twN a b n)] (by simp) (by simp) (fun x hx => by
    simp only [List.mem_cons, List.not_mem_nil, or_false] at hx
    subst hx
    exact ⟨tw_nd a b n (by omega) hn, _, _, rfl, rfl⟩)
  simp only [List.flatMap_cons, List.flatMap_nil, List.append_nil, List.map_cons, List.map_nil] at hs
  rw [hs] at hp
  unfold treeL
  rw [hp]
theorem tw_okV (a b : Nat) : ∀ m i, okVs ((tDs a b m i).map Dc.vr) = true
  | 0, _ => rfl
  | m + 1, i => by
    unfold tDs
    rw [List.map_cons]
    unfold okVs
    rw [List.all_cons]
    have h := tw_okV a b m (i + 1)
    unfold okVs at h
    rw [h]
    rfl
theorem tw_okQ (a b e : Nat) : ∀ m i, okQs ((tEs a b e m i).map Eqn.qe) = true
  | 0, _ => rfl
  | m + 1, i => by
    unfold tEs
    rw [List.map_cons]
    unfold okQs
    rw [List.all_cons]
    have h := tw_okQ a b e m (i + 1)
    unfold okQs at h
    rw [h]
    rfl
theorem tw_ok (a b n : Nat) (hn1 : 1 ≤ n) (hn : n ≤ 60) : okNd (twN a b n) = true := by
  have hv : okVs (twN a b n).outs = true := by
    show okVs ((tDc a b 0 :: tDs a b (n - 1) 1).map Dc.vr) = true
    have h := tw_okV a b (n - 1) 1
    rw [List.map_cons]
    unfold okVs at h ⊢
    rw [List.all_cons, h]
    rfl
  unfold okNd
  rw [hv, show okQs (twN a b n).eqs = true from tw_okQ a b _ _ _]
  have hl : (twN a b n).ins.length + (twN a b n).outs.length + (twN a b n).locs.length ≤ 1000000 := by
    show 0 + ((tDc a b 0 :: tDs a b (n - 1) 1).map Dc.vr).length + 0 ≤ _
    rw [List.length_map, List.length_cons, tDs_len]
    omega
  rw [decide_eq_true hl]
  rfl
/-- How the names ahead of number i stand. -/
def TwG (i : Nat) (G : List UInt8 → Option Int) : Prop := (∀ j, i ≤ j → j < 60 → knowsF G (tb j) = false) ∧ ∀ j, j < i → knowsF G (tb j) = true
theorem TwG.next {i : Nat} {G : List UInt8 → Option Int} (h : TwG i G) (hi : i < 60) : TwG (i + 1) (gset G (tb i) 2) := by
  refine ⟨fun j h1 h2 => ?_, fun j hj => ?_⟩
  · have := h.1 j (by omega) h2
    unfold knowsF kindOf at this ⊢
    unfold gset
    rw [if_neg (fun e => by have := tb_inj j i h2 hi e; omega)]
    exact this
  · by_cases e : j = i
    · subst e
      unfold knowsF kindOf gset
      rw [if_pos rfl]
      rfl
    · have := h.2 j (by omega)
      unfold knowsF kindOf at this ⊢
      unfold gset
      rw [if_neg (fun e2 => e (tb_inj j i (by omega) hi e2))]
      exact this
theorem tw_decls (a b : Nat) (hab : a < b) (f : (List UInt8 → Option Int) → Option Nat × (List UInt8 → Option Int)) : ∀ (m i : Nat) (G : List UInt8 → Option Int), i ≤ b → b < i + m → i + m ≤ 60 → TwG i G → (thenD (decls1 2 G ((tDs a b m i).map Dc.vr)) f).1 = some (18 + 10 * b)
  | 0, i, G, h1, h2, _, _ => by omega
  | m + 1, i, G, h1, h2, h3, hG => by
    unfold tDs
    rw [List.map_cons]
    by_cases e : i = b
    · subst e
      rw [decls1_hit (by show knowsF G (tb (tk a i i)) = true; rw [show tk a i i = a from if_pos rfl]; exact hG.2 a hab)]
      rfl
    · have e1 : tk a b i = i := if_neg e
      have e2 : ((tDc a b i).vr).name = tb i := by show tb (tk a b i) = tb i; rw [e1]
      rw [decls1_skip (by rw [e2]; exact hG.1 i (Nat.le_refl _) (by omega)), e2]
      exact tw_decls a b hab f m (i + 1) _ (by omega) (by omega) (by omega) (hG.next (by omega))
theorem tw_names (a b n : Nat) (hab : a < b) (hb : b < n) (hn : n ≤ 60) : namesF [twN a b n] = some (18 + 10 * b) := by
  have e0 : (tDc a b 0 :: tDs a b (n - 1) 1) = tDs a b n 0 := by
    obtain ⟨q, rfl⟩ : ∃ q, n = q + 1 := ⟨n - 1, by omega⟩
    rfl
  have hd : (declsN (fun _ => none) (twN a b n)).1 = some (18 + 10 * b) := by
    unfold declsN
    show (thenD (decls1 1 (fun _ => none) []) fun G1 => thenD (decls1 2 G1 ((tDc a b 0 :: tDs a b (n - 1) 1).map Dc.vr)) fun G2 => locals1 G2 []).1 = _
    rw [e0]
    exact tw_decls a b hab _ n 0 _ (Nat.zero_le _) (by omega) (by omega) ⟨fun _ _ _ => rfl, fun j hj => absurd hj (Nat.not_lt_zero _)⟩
  unfold namesF
  refine namesFrom_hit ?_
  unfold nodeN
  rw [if_neg (by
    rintro (h | h)
    · cases h
    · have : ((tDc a b 0 :: tDs a b (n - 1) 1).map Dc.vr).length = 0 := h
      rw [List.length_map, List.length_cons] at this
      omega), thenL_hit hd]
theorem tw_fault (a b n : Nat) (hab : a < b) (hb : b < n) (hn : n ≤ 60) : (treeL (twT a b n)).all okNd = true ∧ namesF (treeL (twT a b n)) = some (18 + 10 * b) ∧ (treeL (twT a b n)).length ≤ 32 := by
  rw [tw_tree a b n hab hb hn]
  refine ⟨?_, tw_names a b n hab hb hn, by simp⟩
  rw [List.all_cons, tw_ok a b n (by omega) hn]
  rfl
end Go.Proofs.Ytbgngmnpepnflaa
