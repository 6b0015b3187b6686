/-
  Texts that the statements stand on, part 1.
-/
import Derived.WalkKit
import Derived.Lib.VarintMem
import Derived.Lib.Hide
import Derived.Laws.CopyOwn
import Derived.Deep.Draws
import Derived.Laws.BytesArg
import Derived.ProofKit
import Derived.SliceStrings
import Derived.Maps.AppendAt
import Derived.Deep.MidRow
import Derived.Laws.OwnMore
import Derived.Test.YtejljfoacbpliaaRows
import Derived.StillTailTactics
import Derived.Lib.Strings
import Derived.Deep.QuietTactic
import Derived.BigQuiet
import Derived.Deep.DeepCutAuto
import Derived.Deep.CutBlock
import Derived.OwnWalk
import Derived.Below
import Derived.Orders
import Derived.ArgAppend
import Derived.Deep.RegionHeld3
set_option linter.unusedVariables false
set_option linter.unusedSimpArgs false
namespace Go.Proofs.Ytejljfoacbpliaa
open Go Go.RowKit
def Txt (w : World) (a : Option Addr) (l : List UInt8) : Prop :=
  l ≠ [] → ∃ b o, a = some ⟨b, o, none⟩ ∧ b < w.heap.size ∧ ∀ i (h : i < l.length), w.cell? ⟨b, o + i, none⟩ = some (.int .u8 (l[i].toNat : Int))
theorem Txt.nil (w : World) (a : Option Addr) : Txt w a [] := fun h => absurd rfl h
theorem Txt.below {w w' : World} {a : Option Addr} {l : List UInt8} (h : Txt w a l) (hb : Below w.heap.size w w') : Txt w' a l := fun hne => by
  obtain ⟨b, o, rfl, hlt, hc⟩ := h hne
  exact ⟨b, o, rfl, Nat.lt_of_lt_of_le hlt hb.size, fun i hi => (hb.cell (p := ⟨b, o + i, none⟩) hlt).trans (hc i hi)⟩
theorem Txt.cells {w : World} {b o : Nat} {l : List UInt8} (h : Txt w (some ⟨b, o, none⟩) l) : ∀ j u, (Lib.byteCells l)[j]? = some u → w.cell? (Addr.add ⟨b, o, none⟩ j) = some u := by
  intro j u hu
  have hj : j < l.length := by
    have := (List.getElem?_eq_some_iff.1 hu).1
    simpa [Lib.byteCells] using this
  obtain ⟨b', o', e, _, hc⟩ := h (by rintro rfl; simp at hj)
  simp only [Option.some.injEq, Addr.mk.injEq, and_true] at e
  obtain ⟨rfl, rfl⟩ := e
  rw [Addr.add_lit, hc j hj, ← hu]
  simp [Lib.byteCells, hj]
theorem Txt.drewN {w : World} {a : Option Addr} {l : List UInt8} (h : Txt w a l) (n : Nat) : Txt (w.drewN n) a l := h
end Go.Proofs.Ytejljfoacbpliaa

namespace Go.Proofs.Ytejljfoacbpliaa
open Go Go.RowKit
def Row {α : Type} (f : α → Value) (w : World) (a : Option Addr) (l : List α) : Prop :=
  l ≠ [] → ∃ b o, a = some ⟨b, o, none⟩ ∧ b < w.heap.size ∧ ∀ i (h : i < l.length), w.cell? ⟨b, o + i, none⟩ = some (f l[i])
theorem Row.nil {α : Type} (f : α → Value) (w : World) (a : Option Addr) : Row f w a [] := fun h => absurd rfl h
theorem Row.below {α : Type} {f : α → Value} {w w' : World} {a : Option Addr} {l : List α} (h : Row f w a l) (hb : Below w.heap.size w w') : Row f w' a l := fun hne => by
  obtain ⟨b, o, rfl, hlt, hc⟩ := h hne
  exact ⟨b, o, rfl, Nat.lt_of_lt_of_le hlt hb.size, fun i hi => (hb.cell (p := ⟨b, o + i, none⟩) hlt).trans (hc i hi)⟩
end Go.Proofs.Ytejljfoacbpliaa

namespace Go.Proofs.Ytejljfoacbpliaa
open Go Go.RowKit
inductive Dt where
  | v (x : Value) : Dt
  | sl (n : Nat) (cs : List Dt) : Dt
mutual
def IsD (ok : Nat → Prop) (w : World) (u : Value) : Dt → Prop
  | .v x => u = x
  | .sl n cs => ∃ x c, u = .slice x n c ∧ (n ≤ c ∧ n ≤ 1000000000) ∧ c ≤ maxLen ∧ (n = 0 → cs = []) ∧ (0 < n → ∃ g, x = some ⟨g, 0, none⟩ ∧ ok g ∧ g < w.heap.size ∧ IsDs ok w g 0 cs)
def IsDs (ok : Nat → Prop) (w : World) (g i : Nat) : List Dt → Prop
  | [] => True
  | d :: r => (∃ u, w.cell? ⟨g, i, none⟩ = some u ∧ IsD ok w u d) ∧ IsDs ok w g (i + 1) r
end
mutual
theorem IsD.keep {ok ok' : Nat → Prop} {w w' : World} (hs : w.heap.size ≤ w'.heap.size) (hb : ∀ k, ok k → k < w.heap.size → w'.heap[k]? = w.heap[k]?) (ho : ∀ k, ok k → k < w.heap.size → ok' k) {u : Value} : ∀ (d : Dt), IsD ok w u d → IsD ok' w' u d
  | .v x, h => by unfold IsD at h ⊢; exact h
  | .sl n cs, h => by
    unfold IsD at h ⊢
    obtain ⟨x, c, h1, h2, h3, h4, h5⟩ := h
    refine ⟨x, c, h1, h2, h3, h4, fun hn => ?_⟩
    obtain ⟨g, e1, e2, e3, e4⟩ := h5 hn
    exact ⟨g, e1, ho g e2 e3, Nat.lt_of_lt_of_le e3 hs, IsDs.keep hs hb ho e2 e3 cs 0 e4⟩
theorem IsDs.keep {ok ok' : Nat → Prop} {w w' : World} (hs : w.heap.size ≤ w'.heap.size) (hb : ∀ k, ok k → k < w.heap.size → w'.heap[k]? = w.heap[k]?) (ho : ∀ k, ok k → k < w.heap.size → ok' k) {g : Nat} (hB : ok g) (hg : g < w.heap.size) : ∀ (l : List Dt) (i : Nat), IsDs ok w g i l → IsDs ok' w' g i l
  | [], _, _ => by unfold IsDs; trivial
  | d :: r, i, h => by
    unfold IsDs at h ⊢
    obtain ⟨⟨u, h1, h2⟩, hr⟩ := h
    refine ⟨⟨u, ?_, IsD.keep hs hb ho d h2⟩, IsDs.keep hs hb ho hB hg r (i + 1) hr⟩
    simp only [World.cell?] at h1 ⊢
    rw [hb g hB hg]; exact h1
end
theorem IsD.below {ok : Nat → Prop} {w w' : World} (hb : Below w.heap.size w w') {u : Value} {d : Dt} (h : IsD ok w u d) : IsD ok w' u d :=
  h.keep hb.size (fun k _ hl => hb.block k hl) (fun _ h _ => h)
theorem IsD.grown {ok : Nat → Prop} {w w' : World} {row : Option Nat} (hg : w.grownBy w' row) (hr : ∀ k, row = some k → ¬ ok k) {u : Value} {d : Dt} (h : IsD ok w u d) : IsD ok w' u d :=
  h.keep hg.size (fun k hk hl => hg.block k hl (fun e => hr k e.symm hk)) (fun _ h _ => h)
theorem IsD.mono {ok ok' : Nat → Prop} {w : World} (ho : ∀ k, ok k → k < w.heap.size → ok' k) {u : Value} {d : Dt} (h : IsD ok w u d) : IsD ok' w u d :=
  h.keep (Nat.le_refl _) (fun _ _ _ => rfl) ho
theorem IsD.monoB {B B' : Nat} (hB : B' ≤ B) {w : World} {u : Value} {d : Dt} (h : IsD (B ≤ ·) w u d) : IsD (B' ≤ ·) w u d :=
  h.mono (fun _ h _ => Nat.le_trans hB h)
def RowsD (ok : Nat → Prop) (w : World) : List Value → List Dt → Prop
  | [], [] => True
  | x :: xs, d :: ds => IsD ok w x d ∧ RowsD ok w xs ds
  | _, _ => False
theorem RowsD.keep {ok ok' : Nat → Prop} {w w' : World} (hs : w.heap.size ≤ w'.heap.size) (hb : ∀ k, ok k → k < w.heap.size → w'.heap[k]? = w.heap[k]?) (ho : ∀ k, ok k → k < w.heap.size → ok' k) : ∀ (xs : List Value) (ds : List Dt), RowsD ok w xs ds → RowsD ok' w' xs ds
  | [], [], _ => trivial
  | x :: xs, d :: ds, ⟨h1, h2⟩ => ⟨h1.keep hs hb ho, RowsD.keep hs hb ho xs ds h2⟩
  | [], _ :: _, h => h.elim
  | _ :: _, [], h => h.elim
theorem RowsD.len {ok : Nat → Prop} {w : World} : ∀ (xs : List Value) (ds : List Dt), RowsD ok w xs ds → xs.length = ds.length
  | [], [], _ => rfl
  | _ :: xs, _ :: ds, ⟨_, h2⟩ => by simp [RowsD.len xs ds h2]
  | [], _ :: _, h => h.elim
  | _ :: _, [], h => h.elim
theorem RowsD.app {ok : Nat → Prop} {w : World} {ys : List Value} {es : List Dt} (hy : RowsD ok w ys es) : ∀ (xs : List Value) (ds : List Dt), RowsD ok w xs ds → RowsD ok w (xs ++ ys) (ds ++ es)
  | [], [], _ => hy
  | _ :: xs, _ :: ds, ⟨h1, h2⟩ => ⟨h1, RowsD.app hy xs ds h2⟩
  | [], _ :: _, h => h.elim
  | _ :: _, [], h => h.elim
theorem RowsD.toDs {ok : Nat → Prop} {w : World} {g : Nat} : ∀ (xs : List Value) (ds : List Dt) (i : Nat), RowsD ok w xs ds → (∀ j u, xs[j]? = some u → w.cell? ⟨g, i + j, none⟩ = some u) → IsDs ok w g i ds
  | [], [], _, _, _ => by unfold IsDs; trivial
  | x :: xs, d :: ds, i, ⟨h1, h2⟩, hc => by
    unfold IsDs
    refine ⟨⟨x, hc 0 x rfl, h1⟩, RowsD.toDs xs ds (i + 1) h2 fun j u hu => ?_⟩
    have := hc (j + 1) u (by simpa using hu)
    rwa [show i + (j + 1) = i + 1 + j by omega] at this
  | [], _ :: _, _, h, _ => h.elim
  | _ :: _, [], _, h, _ => h.elim
theorem IsDs.rows {ok : Nat → Prop} {w : World} {g : Nat} : ∀ (ds : List Dt) (i : Nat), IsDs ok w g i ds → ∃ xs, RowsD ok w xs ds ∧ ∀ j u, xs[j]? = some u → w.cell? ⟨g, i + j, none⟩ = some u
  | [], _, _ => ⟨[], trivial, fun j u h => by simp at h⟩
  | d :: r, i, h => by
    unfold IsDs at h
    obtain ⟨⟨u, h1, h2⟩, hr⟩ := h
    obtain ⟨xs, h3, h4⟩ := IsDs.rows r (i + 1) hr
    refine ⟨u :: xs, ⟨h2, h3⟩, fun j v hj => ?_⟩
    cases j with
    | zero => simp only [List.getElem?_cons_zero, Option.some.injEq] at hj; subst hj; exact h1
    | succ j =>
      have := h4 j v (by simpa using hj)
      rwa [show i + 1 + j = i + (j + 1) by omega] at this
theorem IsDs.drop {ok : Nat → Prop} {w : World} {g : Nat} : ∀ (a b : List Dt) (i : Nat), IsDs ok w g i (a ++ b) → IsDs ok w g (i + a.length) b
  | [], b, i, h => by simpa using h
  | d :: r, b, i, h => by
    unfold IsDs at h
    have := IsDs.drop r b (i + 1) h.2
    rwa [show i + 1 + r.length = i + (d :: r).length by simp; omega] at this
theorem IsDs.take {ok : Nat → Prop} {w : World} {g : Nat} : ∀ (a b : List Dt) (i : Nat), IsDs ok w g i (a ++ b) → IsDs ok w g i a
  | [], _, _, _ => by unfold IsDs; trivial
  | d :: r, b, i, h => by
    unfold IsDs
    rw [List.cons_append] at h
    unfold IsDs at h
    exact ⟨h.1, IsDs.take r b (i + 1) h.2⟩
def Dt.one : Dt → Prop
  | .v x => x.oneCell' = true
  | .sl _ _ => True
theorem IsD.one {ok : Nat → Prop} {w : World} {u : Value} {d : Dt} (h : IsD ok w u d) (hd : d.one) : u.oneCell' = true := by
  cases d with
  | v x => unfold IsD at h; subst h; exact hd
  | sl n cs => unfold IsD at h; obtain ⟨x, c, rfl, _⟩ := h; rfl
theorem RowsD.one {ok : Nat → Prop} {w : World} : ∀ (xs : List Value) (ds : List Dt), RowsD ok w xs ds → (∀ d ∈ ds, d.one) → ∀ u ∈ xs, u.oneCell' = true
  | [], [], _, _ => fun _ h => by simp at h
  | x :: xs, d :: ds, ⟨h1, h2⟩, ho => fun u hu => by
    rcases List.mem_cons.1 hu with rfl | hu
    · exact h1.one (ho d (List.mem_cons_self ..))
    · exact RowsD.one xs ds h2 (fun d hd => ho d (List.mem_cons_of_mem _ hd)) u hu
  | [], _ :: _, h, _ => h.elim
  | _ :: _, [], h, _ => h.elim
theorem IsD.of_cells {ok : Nat → Prop} {w : World} {g n c : Nat} {ds : List Dt} (hn : 0 < n) (hc : n ≤ c) (hm : c ≤ maxLen) (hf : n ≤ 1000000000) (hg : ok g) (hl : g < w.heap.size) (h : IsDs ok w g 0 ds) : IsD ok w (.slice (some ⟨g, 0, none⟩) n c) (.sl n ds) := by
  unfold IsD
  exact ⟨_, c, rfl, ⟨hc, hf⟩, hm, fun h0 => by omega, fun _ => ⟨g, rfl, hg, hl, h⟩⟩
theorem IsD.nil {ok : Nat → Prop} {w : World} {x : Option Addr} {c : Nat} (hm : c ≤ maxLen) : IsD ok w (.slice x 0 c) (.sl 0 []) := by
  unfold IsD
  exact ⟨x, c, rfl, ⟨Nat.zero_le _, Nat.zero_le _⟩, hm, fun _ => rfl, fun h => absurd h (Nat.lt_irrefl _)⟩
theorem IsD.slice {ok : Nat → Prop} {w : World} {u : Value} {n : Nat} {ds : List Dt} (h : IsD ok w u (.sl n ds)) : ∃ x c, u = .slice x n c ∧ n ≤ c ∧ c ≤ maxLen := by
  unfold IsD at h
  obtain ⟨x, c, h1, h2, h3, _⟩ := h
  exact ⟨x, c, h1, h2.1, h3⟩
theorem IsD.few {ok : Nat → Prop} {w : World} {u : Value} {n : Nat} {ds : List Dt} (h : IsD ok w u (.sl n ds)) : n ≤ 1000000000 := by
  unfold IsD at h
  obtain ⟨x, c, h1, h2, h3, _⟩ := h
  exact h2.2
theorem IsD.some_ {ok : Nat → Prop} {w : World} {x : Option Addr} {n c : Nat} {ds : List Dt} (h : IsD ok w (.slice x n c) (.sl n ds)) (hn : 0 < n) : ∃ g, x = some ⟨g, 0, none⟩ ∧ ok g ∧ g < w.heap.size ∧ IsDs ok w g 0 ds := by
  unfold IsD at h
  obtain ⟨x', c', h1, _, _, _, h5⟩ := h
  injection h1 with h1 _ _
  subst h1
  exact h5 hn
theorem IsD.zero {ok : Nat → Prop} {w : World} {u : Value} {n : Nat} {ds : List Dt} (h : IsD ok w u (.sl n ds)) (hn : n = 0) : ds = [] := by
  unfold IsD at h
  obtain ⟨_, _, _, _, _, h4, _⟩ := h
  exact h4 hn
def OwnD (T : TypeId) (sz : Nat) (w : World) (b : Nat) (v : Value) (n : Nat) (ds : List Dt) : Prop := ∃ xs, w.ownsRow (b + 1) T sz v n xs ∧ RowsD (fun k => b < k ∧ some k ≠ v.ownBlock) w xs ds
theorem OwnD.gt {T : TypeId} {sz : Nat} {w : World} {b : Nat} {v : Value} {n : Nat} {ds : List Dt} (h : OwnD T sz w b v n ds) : ∀ k, v.ownBlock = some k → b < k ∧ k < w.heap.size := fun k hk => by
  obtain ⟨xs, h1, _⟩ := h
  have := h1.lt k hk
  exact ⟨by omega, this.2⟩
theorem OwnD.kept {T : TypeId} {sz : Nat} {w w' : World} {b : Nat} {v : Value} {n : Nat} {ds : List Dt} {row : Option Nat} (h : OwnD T sz w b v n ds) (hg : w.grownBy w' row) (hr : ∀ k, row = some k → k ≤ b) : OwnD T sz w' b v n ds := by
  obtain ⟨xs, h1, h2⟩ := h
  refine ⟨xs, h1.kept hg ?_, h2.keep hg.size (fun k hk hl => hg.block k hl (fun e => by have := hr k e.symm; omega)) (fun _ h _ => h)⟩
  cases ho : v.ownBlock with
  | none => exact .inl rfl
  | some k =>
    refine .inr fun e => ?_
    have := (h1.lt k ho).1
    have := hr k e.symm
    omega
theorem OwnD.below {T : TypeId} {sz : Nat} {w w' : World} {b : Nat} {v : Value} {n : Nat} {ds : List Dt} (h : OwnD T sz w b v n ds) (hb : Below w.heap.size w w') : OwnD T sz w' b v n ds :=
  h.kept (row := none) ⟨hb.os, hb.tape, hb.output, hb.size, fun k hk _ => hb.block k hk⟩ (fun k hk => by simp at hk)
theorem OwnD.nil (T : TypeId) (sz : Nat) (w : World) (b : Nat) : OwnD T sz w b (.slice none 0 0) 0 [] := ⟨[], World.ownsRow_nil w _ _ _, trivial⟩
theorem OwnD.mono {T : TypeId} {sz : Nat} {w : World} {b b' : Nat} {v : Value} {n : Nat} {ds : List Dt} (h : OwnD T sz w b v n ds) (hb : b' ≤ b) : OwnD T sz w b' v n ds := by
  obtain ⟨xs, h1, h2⟩ := h
  refine ⟨xs, ⟨h1.1, ?_⟩, h2.keep (Nat.le_refl _) (fun _ _ _ => rfl) (fun k hk _ => ⟨by omega, hk.2⟩)⟩
  rcases h1.2 with h | ⟨g, cap, cur, e, hg, h5⟩
  · exact .inl h
  · exact .inr ⟨g, cap, cur, e, by omega, h5⟩
theorem OwnD.slice {T : TypeId} {sz : Nat} {w : World} {b : Nat} {v : Value} {n : Nat} {ds : List Dt} (h : OwnD T sz w b v n ds) : ∃ x c, v = .slice x n c ∧ n ≤ c ∧ c ≤ maxLen := by
  obtain ⟨xs, h1, _⟩ := h
  rcases h1.2 with ⟨rfl, rfl⟩ | ⟨g, cap, cur, rfl, _, _, h3, h4, _⟩
  · exact ⟨none, 0, rfl, Nat.le_refl _, Nat.zero_le _⟩
  · exact ⟨_, cap, rfl, h3, h4⟩
theorem OwnD.len {T : TypeId} {sz : Nat} {w : World} {b : Nat} {v : Value} {n : Nat} {ds : List Dt} (h : OwnD T sz w b v n ds) : ds.length = n * sz := by
  obtain ⟨xs, h1, h2⟩ := h
  rw [← h2.len]; exact h1.1
theorem OwnD.ends {T : TypeId} {sz : Nat} {w : World} {b : Nat} {v : Value} {n : Nat} {ds : List Dt} (h : OwnD T sz w b v n ds) (hf : n ≤ 1000000000) : IsD (fun k => b < k) w v (.sl n ds) := by
  have hlen := h.len
  obtain ⟨xs, h1, h2⟩ := h
  rcases h1.2 with ⟨rfl, h0⟩ | ⟨g, cap, cur, rfl, hbg, hg, hn, hc, hcs, ht⟩
  · subst h0
    have : ds = [] := List.eq_nil_of_length_eq_zero (by rw [hlen]; simp)
    subst this
    exact IsD.nil (Nat.zero_le _)
  · unfold IsD
    refine ⟨_, cap, rfl, ⟨hn, hf⟩, hc, fun h0 => List.eq_nil_of_length_eq_zero (by rw [hlen, h0]; simp), fun _ => ⟨g, rfl, by omega, (Array.getElem?_eq_some_iff.1 hg).1, ?_⟩⟩
    refine RowsD.toDs xs ds 0 (h2.keep (Nat.le_refl _) (fun _ _ _ => rfl) (fun _ hk _ => hk.1)) fun j u hu => ?_
    have := h1.cells (g := g) rfl j u hu
    rw [Addr.add_lit] at this
    exact this
theorem OwnD.append {P : Program} {T : TypeId} {sz : Nat} {w : World} {b : Nat} {v : Value} {n : Nat} {ds : List Dt} (t ty : TypeId) (i : TypeInfo) (z : Value) (bytes : Nat) (ht : P.underlying t = some (.slice T)) (hi : P.info? T = some i) (hz : i.zero = some z)
    (hsize : i.size = sz) (hby : i.bytes = bytes) (hzs : z.cells.size = sz) (hsz : 0 < sz) (hbl : bytes ≤ 1000)
    (h : OwnD T sz w b v n ds) (hbw : b + 1 ≤ w.heap.size) {ok : Nat → Prop} (g o m c : Nat) (news : List Value) (es : List Dt) (hl : es.length = m * sz) (hr : RowsD ok w news es) (hnews : ∀ j u, news[j]? = some u → w.cell? ⟨g, o + j, none⟩ = some u) (ho : ∀ d ∈ es, d.one)
    (hok : ∀ k, ok k → k < w.heap.size → b < k ∧ some k ≠ v.ownBlock) (hnm : n + m ≤ 100000000000) :
    ∃ v' w', (Builtin.append_ #[t, t] ty #[v, .slice (some ⟨g, o, none⟩) m c]).run P w = .ok v' w' ∧ OwnD T sz w' b v' (n + m) (ds ++ es) ∧ w.grownBy w' v.ownBlock ∧ (v'.ownBlock = v.ownBlock ∨ v'.ownBlock = some w.heap.size) := by
  obtain ⟨xs, h1, h2⟩ := h
  have hml : maxLen = 9223372036854775807 := rfl
  obtain ⟨v', w', hr', ho', hgr, _, hown⟩ := run_append_own_at (P := P) w (b + 1) t ty T i z sz bytes ht hi hz hsize hby hzs hsz v n xs h1 ⟨g, o, none⟩ m c news (by rw [hr.len]; exact hl) (fun j u hu => by rw [Addr.add_lit]; exact hnews j u hu) (hr.one _ _ ho) (by rw [hml]; omega)
    (by have : (n + m) * bytes ≤ 100000000000 * 1000 := Nat.mul_le_mul hnm hbl; omega) hbw
  have hne : ∀ k, v'.ownBlock = some k → k < w.heap.size → v.ownBlock = some k := fun k hk hl => by
    rcases hown with e | e
    · rw [← e]; exact hk
    · exact absurd hl (by rw [← Option.some.inj (e.symm.trans hk)]; exact Nat.lt_irrefl _)
  refine ⟨v', w', hr', ⟨xs ++ news, ho', RowsD.app ?_ _ _ (h2.keep hgr.size (fun k hk hl => hgr.block k hl hk.2) (fun k hk hl => ⟨hk.1, fun e => hk.2 (hne k e.symm hl).symm⟩))⟩, hgr, hown⟩
  exact hr.keep hgr.size (fun k hk hl => hgr.block k hl (hok k hk hl).2) (fun k hk hl => ⟨(hok k hk hl).1, fun e => (hok k hk hl).2 (hne k e.symm hl).symm⟩)
end Go.Proofs.Ytejljfoacbpliaa

namespace Go.Proofs.Ytejljfoacbpliaa
open Go Go.RowKit
structure W4 where
  kind : Nat
  text : ByteArray
  n : Int
  at_ : Nat
def W4.cells (x : W4) : List Value := [.int .i64 (x.kind : Int), .string x.text, .int .i64 x.n, .int .i64 (x.at_ : Int)]
def no4 : W4 := ⟨0, ⟨#[]⟩, 0, 0⟩
structure S4 where
  k : Nat
  er : Nat
  ea : Nat
  parts : Int
  names : Int
inductive Ex where
  | mk (op name : ByteArray) (n : Int) (at_ : Nat) (kids : List Ex) : Ex
def Ex.op : Ex → ByteArray | .mk o _ _ _ _ => o
def Ex.name : Ex → ByteArray | .mk _ m _ _ _ => m
def Ex.n : Ex → Int | .mk _ _ n _ _ => n
def Ex.at_ : Ex → Nat | .mk _ _ _ a _ => a
def Ex.kids : Ex → List Ex | .mk _ _ _ _ k => k
structure Vr where
  name : ByteArray
  kind : Nat
  on : ByteArray
  not_ : Bool
  at_ : Nat
structure Qe where
  name : ByteArray
  e : Ex
  at_ : Nat
structure Nd where
  name : ByteArray
  ins : List Vr
  outs : List Vr
  locs : List Vr
  eqs : List Qe
  at_ : Nat
def exZ : Ex := .mk ⟨#[]⟩ ⟨#[]⟩ 0 0 []
def cur4 (L : List W4) (s : S4) : W4 := L.getD s.k no4
def is4 (L : List W4) (x : ByteArray) (s : S4) : Bool := s.er == 0 && (((cur4 L s).kind == 2 || (cur4 L s).kind == 4) && (cur4 L s).text.data.toList == x.data.toList)
def fail4 (L : List W4) (e : Nat) (s : S4) : S4 := if s.er = 0 then { s with er := e, ea := (cur4 L s).at_ } else s
def inc4 (s : S4) : S4 := { s with k := s.k + 1 }
def take4 (L : List W4) (x : ByteArray) (s : S4) : Bool × S4 := (is4 L x s, if is4 L x s = true then inc4 s else s)
def want4 (L : List W4) (x : ByteArray) (s : S4) : S4 := if is4 L x s = true then inc4 s else fail4 L 7 s
def name4 (L : List W4) (s : S4) : ByteArray × S4 := if s.er = 0 ∧ (cur4 L s).kind = 1 then ((cur4 L s).text, inc4 s) else (⟨#[]⟩, fail4 L 7 s)
def part4 (L : List W4) (s : S4) : S4 := { (if s.er = 0 ∧ 300 ≤ s.parts then fail4 L 2 s else s) with parts := wrap64 (s.parts + 1) }
def deep4 (L : List W4) (n : Nat) (f : S4 → Ex × S4) (g : Ex → Ex) (s : S4) : Ex × S4 :=
  if s.er = 0 then (if n = 0 then (exZ, fail4 L 2 s) else (g (f s).1, (f s).2)) else (exZ, s)
def op2 (op : ByteArray) (at_ : Nat) (a b : Ex) : Ex := .mk op ⟨#[]⟩ 0 at_ [a, b]
structure F4 where
  arrow : S4 → Ex × S4
  fby : S4 → Ex × S4
  un : S4 → Ex × S4
  prim : S4 → Ex × S4
def find4 (L : List W4) (ops : List ByteArray) (s : S4) : ByteArray := ops.foldl (fun r o => if is4 L o s = true then o else r) ⟨#[]⟩
def rowL4 (L : List W4) (ops : List ByteArray) (one : Bool) (sub : S4 → Ex × S4) : Nat → Ex → S4 → Ex × S4
  | 0, a, s => (a, s)
  | f + 1, a, s =>
    if (find4 L ops s).data.toList = [] then (a, s) else
      let r := sub (take4 L (find4 L ops s) (part4 L s)).2
      if one = true then (op2 (find4 L ops s) (cur4 L s).at_ a r.1, r.2) else rowL4 L ops one sub f (op2 (find4 L ops s) (cur4 L s).at_ a r.1) r.2
def row4 (L : List W4) (ops : List ByteArray) (one : Bool) (sub : S4 → Ex × S4) (s : S4) : Ex × S4 := rowL4 L ops one sub (L.length + 1) (sub s).1 (sub s).2
def OPS0 : List ByteArray := [⟨#[111, 114]⟩, ⟨#[120, 111, 114]⟩]
def OPS1 : List ByteArray := [⟨#[97, 110, 100]⟩]
def OPS2 : List ByteArray := [⟨#[61]⟩, ⟨#[60, 62]⟩, ⟨#[60]⟩, ⟨#[60, 61]⟩, ⟨#[62]⟩, ⟨#[62, 61]⟩]
def OPS3 : List ByteArray := [⟨#[43]⟩, ⟨#[45]⟩]
def OPS4 : List ByteArray := [⟨#[42]⟩, ⟨#[47]⟩, ⟨#[109, 111, 100]⟩]
def whenL4 (L : List W4) : Nat → Ex → S4 → Ex × S4
  | 0, a, s => (a, s)
  | f + 1, a, s =>
    if is4 L ⟨#[119, 104, 101, 110]⟩ s = true then
      let t := take4 L ⟨#[110, 111, 116]⟩ (take4 L ⟨#[119, 104, 101, 110]⟩ (part4 L s)).2
      let m := name4 L t.2
      whenL4 L f (.mk ⟨#[119, 104, 101, 110]⟩ m.1 (if t.1 = true then 0 else 1) (cur4 L s).at_ [a]) m.2
    else (a, s)
def when4 (L : List W4) (un : S4 → Ex × S4) (s : S4) : Ex × S4 := whenL4 L (L.length + 1) (un s).1 (un s).2
def fby4 (L : List W4) (n : Nat) (sub : F4) (un : S4 → Ex × S4) (s : S4) : Ex × S4 :=
  let a := when4 L un s
  if is4 L ⟨#[102, 98, 121]⟩ a.2 = true then deep4 L n sub.fby (op2 ⟨#[102, 98, 121]⟩ (cur4 L a.2).at_ a.1) (take4 L ⟨#[102, 98, 121]⟩ (part4 L a.2)).2 else a
def rows4 (L : List W4) (fby : S4 → Ex × S4) : S4 → Ex × S4 :=
  row4 L OPS0 false (row4 L OPS1 false (row4 L OPS2 true (row4 L OPS3 false (row4 L OPS4 false fby))))
def arrow4 (L : List W4) (n : Nat) (sub : F4) (fby : S4 → Ex × S4) (s : S4) : Ex × S4 :=
  let a := rows4 L fby s
  if is4 L ⟨#[45, 62]⟩ a.2 = true then deep4 L n sub.arrow (op2 ⟨#[45, 62]⟩ (cur4 L a.2).at_ a.1) (take4 L ⟨#[45, 62]⟩ (part4 L a.2)).2 else a
def unOp4 (L : List W4) (s : S4) : ByteArray :=
  if is4 L ⟨#[110, 111, 116]⟩ s = true then ⟨#[110, 111, 116]⟩ else if is4 L ⟨#[45]⟩ s = true then ⟨#[110, 101, 103]⟩ else if is4 L ⟨#[112, 114, 101]⟩ s = true then ⟨#[112, 114, 101]⟩ else ⟨#[]⟩
def un4 (L : List W4) (n : Nat) (sub : F4) (prim : S4 → Ex × S4) (s : S4) : Ex × S4 :=
  if (unOp4 L s).data.toList = [] then prim s else
    let p := part4 L s
    if p.er = 0 then deep4 L n sub.un (fun a => .mk (unOp4 L s) ⟨#[]⟩ 0 (cur4 L s).at_ [a]) (inc4 p) else (exZ, p)
def exprN4 (L : List W4) (n : Nat) (sub : F4) (s : S4) : Ex × S4 := deep4 L n sub.arrow (fun a => a) s
def callL4 (L : List W4) (expr : S4 → Ex × S4) : Nat → List Ex → S4 → List Ex × S4
  | 0, ks, s => (ks, s)
  | f + 1, ks, s =>
    if s.er = 0 then
      let r := expr s
      let t := take4 L ⟨#[44]⟩ r.2
      if t.1 = true then callL4 L expr f (ks ++ [r.1]) t.2 else (ks ++ [r.1], t.2)
    else (ks, s)
def named4 (L : List W4) (expr : S4 → Ex × S4) (at_ : Nat) (s : S4) : Ex × S4 :=
  let m := name4 L s
  let t := take4 L ⟨#[40]⟩ m.2
  if t.1 = true then
    let c := take4 L ⟨#[41]⟩ t.2
    if c.1 = true then (.mk ⟨#[99, 97, 108, 108]⟩ m.1 0 at_ [], c.2) else
      let r := callL4 L expr (L.length + 1) [] c.2
      (.mk ⟨#[99, 97, 108, 108]⟩ m.1 0 at_ r.1, want4 L ⟨#[41]⟩ r.2)
  else (.mk ⟨#[118, 97, 114]⟩ m.1 0 at_ [], t.2)
def if4 (L : List W4) (expr : S4 → Ex × S4) (at_ : Nat) (s : S4) : Ex × S4 :=
  let a := expr s
  let b := expr (want4 L ⟨#[116, 104, 101, 110]⟩ a.2)
  let c := expr (want4 L ⟨#[101, 108, 115, 101]⟩ b.2)
  (.mk ⟨#[105, 102]⟩ ⟨#[]⟩ 0 at_ [a.1, b.1, c.1], c.2)
def merge4 (L : List W4) (inner : S4 → Ex × S4) (at_ : Nat) (s : S4) : Ex × S4 :=
  let m := name4 L s
  let a := inner m.2
  let b := inner a.2
  (.mk ⟨#[109, 101, 114, 103, 101]⟩ m.1 0 at_ [a.1, b.1], b.2)
def primP4 (L : List W4) (s : S4) : S4 :=
  if (cur4 L s).kind = 1 ∨ (cur4 L s).kind = 3 ∨ is4 L ⟨#[116, 114, 117, 101]⟩ s = true ∨ is4 L ⟨#[102, 97, 108, 115, 101]⟩ s = true ∨ is4 L ⟨#[105, 102]⟩ s = true ∨ is4 L ⟨#[109, 101, 114, 103, 101]⟩ s = true then part4 L s else s
def prim4 (L : List W4) (n : Nat) (sub : F4) (s : S4) : Ex × S4 :=
  if is4 L ⟨#[40]⟩ s = true then
    let r := exprN4 L n sub (inc4 s)
    (r.1, want4 L ⟨#[41]⟩ r.2)
  else
    let at_ := (cur4 L s).at_
    let p := primP4 L s
    if p.er = 0 then
      if (cur4 L s).kind = 3 then (.mk ⟨#[105, 110, 116]⟩ ⟨#[]⟩ (cur4 L s).n at_ [], inc4 p)
      else if is4 L ⟨#[116, 114, 117, 101]⟩ p = true then (.mk ⟨#[98, 111, 111, 108]⟩ ⟨#[]⟩ 1 at_ [], inc4 p)
      else if is4 L ⟨#[102, 97, 108, 115, 101]⟩ p = true then (.mk ⟨#[98, 111, 111, 108]⟩ ⟨#[]⟩ 0 at_ [], inc4 p)
      else if is4 L ⟨#[105, 102]⟩ p = true then if4 L (exprN4 L n sub) at_ (inc4 p)
      else if is4 L ⟨#[109, 101, 114, 103, 101]⟩ p = true then merge4 L (deep4 L n sub.prim (fun a => a)) at_ (inc4 p)
      else named4 L (exprN4 L n sub) at_ p
    else named4 L (exprN4 L n sub) at_ p
def mk4 (L : List W4) (n : Nat) (sub : F4) : F4 :=
  let prim := prim4 L n sub
  let un := un4 L n sub prim
  let fby := fby4 L n sub un
  ⟨arrow4 L n sub fby, fby, un, prim⟩
def no4F : F4 := ⟨fun s => (exZ, s), fun s => (exZ, s), fun s => (exZ, s), fun s => (exZ, s)⟩
def lev4 (L : List W4) : Nat → F4
  | 0 => mk4 L 0 no4F
  | n + 1 => mk4 L (n + 1) (lev4 L n)
def expr4 (L : List W4) (s : S4) : Ex × S4 := exprN4 L 30 (lev4 L 29) s
def declL4 (L : List W4) : Nat → List Vr → S4 → Option (List Vr) × S4
  | 0, l, s => (some l, s)
  | f + 1, l, s =>
    if s.er = 0 then
      if (cur4 L s).kind = 1 ∧ s.names = 64 then (none, fail4 L 2 s) else
        let m := name4 L s
        let t := take4 L ⟨#[44]⟩ { m.2 with names := wrap64 (m.2.names + 1) }
        if t.1 = true then declL4 L f (l ++ [⟨m.1, 0, ⟨#[]⟩, false, (cur4 L s).at_⟩]) t.2 else (some (l ++ [⟨m.1, 0, ⟨#[]⟩, false, (cur4 L s).at_⟩]), t.2)
    else (some l, s)
def decl4 (L : List W4) (s : S4) : List Vr × S4 :=
  let r := declL4 L (L.length + 1) [] s
  match r.1 with
  | none => ([], r.2)
  | some l =>
    let c := want4 L ⟨#[58]⟩ r.2
    (l.map fun v => { v with kind := if is4 L ⟨#[98, 111, 111, 108]⟩ c = true then 1 else 2 }, if is4 L ⟨#[98, 111, 111, 108]⟩ c = true then inc4 c else want4 L ⟨#[105, 110, 116]⟩ c)
def declsL4 (L : List W4) : Nat → List Vr → S4 → List Vr × S4
  | 0, l, s => (l, s)
  | f + 1, l, s =>
    if is4 L ⟨#[59]⟩ s = true then
      let d := decl4 L (inc4 s)
      declsL4 L f (l ++ d.1) d.2
    else (l, s)
def decls4 (L : List W4) (s : S4) : List Vr × S4 :=
  if is4 L ⟨#[41]⟩ s = true then ([], s) else declsL4 L (L.length + 1) (decl4 L s).1 (decl4 L s).2
def local4 (L : List W4) (s : S4) : List Vr × S4 :=
  let d := decl4 L s
  if is4 L ⟨#[119, 104, 101, 110]⟩ d.2 = true then
    let t := take4 L ⟨#[110, 111, 116]⟩ (inc4 d.2)
    let m := name4 L t.2
    (d.1.map fun v => { v with on := m.1, not_ := t.1 }, m.2)
  else d
def localsL4 (L : List W4) : Nat → List Vr → S4 → List Vr × S4
  | 0, l, s => (l, s)
  | f + 1, l, s =>
    if s.er = 0 then
      let d := local4 L s
      if is4 L ⟨#[59]⟩ d.2 = true ∧ (L.getD (d.2.k + 1) no4).kind = 1 then localsL4 L f (l ++ d.1) (inc4 d.2) else (l ++ d.1, d.2)
    else (l, s)
def locals4 (L : List W4) (s : S4) : List Vr × S4 := if is4 L ⟨#[59]⟩ s = true then ([], s) else localsL4 L (L.length + 1) [] s
def eq4 (L : List W4) (s : S4) : Qe × S4 :=
  let m := name4 L s
  let e := expr4 L { want4 L ⟨#[61]⟩ m.2 with parts := 0 }
  (⟨m.1, e.1, (cur4 L s).at_⟩, want4 L ⟨#[59]⟩ e.2)
def eqsL4 (L : List W4) : Nat → List Qe → S4 → List Qe × S4
  | 0, l, s => (l, s)
  | f + 1, l, s =>
    if s.er = 0 ∧ (cur4 L s).kind = 1 then
      let q := eq4 L s
      eqsL4 L f (l ++ [q.1]) q.2
    else (l, s)
def node4 (L : List W4) (s : S4) : Nd × S4 :=
  let m := name4 L (want4 L ⟨#[110, 111, 100, 101]⟩ { s with names := 0 })
  let i := decls4 L (want4 L ⟨#[40]⟩ m.2)
  let o := decls4 L (want4 L ⟨#[40]⟩ (want4 L ⟨#[114, 101, 116, 117, 114, 110, 115]⟩ (want4 L ⟨#[41]⟩ i.2)))
  let v := take4 L ⟨#[118, 97, 114]⟩ (want4 L ⟨#[59]⟩ (want4 L ⟨#[41]⟩ o.2))
  let c := if v.1 = true then ((locals4 L v.2).1, want4 L ⟨#[59]⟩ (locals4 L v.2).2) else ([], v.2)
  let q := eqsL4 L (L.length + 1) [] (want4 L ⟨#[108, 101, 116]⟩ c.2)
  (⟨m.1, i.1, o.1, c.1, q.1, (cur4 L s).at_⟩, (take4 L ⟨#[59]⟩ (want4 L ⟨#[116, 101, 108]⟩ q.2)).2)
def nodesL4 (L : List W4) : Nat → List Nd → S4 → List Nd × S4
  | 0, l, s => (l, s)
  | f + 1, l, s =>
    if s.er = 0 ∧ (l = [] ∨ (cur4 L s).kind ≠ 0) then
      if l.length = 32 then (l, fail4 L 2 s) else
        let r := node4 L s
        nodesL4 L f (l ++ [r.1]) r.2
    else (l, s)
def s0 : S4 := ⟨0, 0, 0, 0, 0⟩
def nodes4 (L : List W4) : Except (Nat × Nat) (List Nd) :=
  let r := nodesL4 L (L.length + 1) [] s0
  if r.2.er = 0 then .ok r.1 else .error (r.2.er, r.2.ea)
end Go.Proofs.Ytejljfoacbpliaa

namespace Go.Proofs.Ytejljfoacbpliaa
open Go Go.RowKit
structure K4 where
  L : List W4
  gp : Nat
  gw : Nat
  c : Nat
structure Good4 (K : K4) : Prop where
  pos : 0 < K.L.length
  last : ∀ i, i < K.L.length → (K.L.getD i no4).kind ≠ 0 → i + 1 < K.L.length
  few : K.L.length < 100000
  ne : K.gw ≠ K.gp
  cap : K.L.length ≤ K.c
  max_ : K.c ≤ maxLen
def parC4 (K : K4) (d : Nat) (s : S4) : Array Value := #[.slice (some ⟨K.gw, 0, none⟩) K.L.length K.c, .int .i64 (s.k : Int), .int .i64 (s.er : Int), .int .i64 (s.ea : Int), .int .i64 (d : Int), .int .i64 s.parts, .int .i64 s.names]
structure Par4 (K : K4) (w : World) (d : Nat) (s : S4) : Prop where
  blk : w.heap[K.gp]? = some (.cells (parC4 K d s) 146 (0, 0))
  row : ∀ i, i < K.L.length → ∀ j v, (K.L.getD i no4).cells[j]? = some v → w.cell? ⟨K.gw, i * 4 + j, none⟩ = some v
  lt : s.k < K.L.length
  gwl : K.gw < w.heap.size
theorem Par4.gpl {K : K4} {w : World} {d : Nat} {s : S4} (h : Par4 K w d s) : K.gp < w.heap.size := (Array.getElem?_eq_some_iff.1 h.blk).1
theorem Par4.cur_cell {K : K4} {w : World} {d : Nat} {s : S4} (h : Par4 K w d s) :
    w.cell? ⟨K.gw, s.k * 4, none⟩ = some (.int .i64 ((cur4 K.L s).kind : Int)) ∧ w.cell? ⟨K.gw, s.k * 4 + 1, none⟩ = some (.string (cur4 K.L s).text) ∧ w.cell? ⟨K.gw, s.k * 4 + 2, none⟩ = some (.int .i64 (cur4 K.L s).n) ∧ w.cell? ⟨K.gw, s.k * 4 + 3, none⟩ = some (.int .i64 ((cur4 K.L s).at_ : Int)) :=
  ⟨h.row s.k h.lt 0 _ rfl, h.row s.k h.lt 1 _ rfl, h.row s.k h.lt 2 _ rfl, h.row s.k h.lt 3 _ rfl⟩
theorem Par4.cell {K : K4} {w : World} {d : Nat} {s : S4} (h : Par4 K w d s) (j : Nat) (v : Value) (hv : (parC4 K d s)[j]? = some v) : w.cell? ⟨K.gp, j, none⟩ = some v := by
  simp only [World.cell?, h.blk]
  exact hv
theorem Par4.cells {K : K4} {w : World} {d : Nat} {s : S4} (h : Par4 K w d s) :
    w.cell? ⟨K.gp, 0, none⟩ = some (.slice (some ⟨K.gw, 0, none⟩) K.L.length K.c) ∧ w.cell? ⟨K.gp, 1, none⟩ = some (.int .i64 (s.k : Int)) ∧ w.cell? ⟨K.gp, 2, none⟩ = some (.int .i64 (s.er : Int)) ∧ w.cell? ⟨K.gp, 3, none⟩ = some (.int .i64 (s.ea : Int)) ∧ w.cell? ⟨K.gp, 4, none⟩ = some (.int .i64 (d : Int)) ∧ w.cell? ⟨K.gp, 5, none⟩ = some (.int .i64 s.parts) ∧ w.cell? ⟨K.gp, 6, none⟩ = some (.int .i64 s.names) :=
  ⟨h.cell 0 _ rfl, h.cell 1 _ rfl, h.cell 2 _ rfl, h.cell 3 _ rfl, h.cell 4 _ rfl, h.cell 5 _ rfl, h.cell 6 _ rfl⟩
theorem Par4.frozen {K : K4} {w : World} {d : Nat} {s : S4} (h : Par4 K w d s) (j : Nat) : w.frozen? ⟨K.gp, j, none⟩ = false := frozen_of_row w K.gp j _ _ h.blk
theorem Par4.keep {K : K4} {w w' : World} {d : Nat} {s : S4} (h : Par4 K w d s) (hp : w'.heap[K.gp]? = w.heap[K.gp]?) (hw : w'.heap[K.gw]? = w.heap[K.gw]?) (hs : w.heap.size ≤ w'.heap.size) : Par4 K w' d s :=
  ⟨hp.trans h.blk, fun i hi j v hv => by
    have := h.row i hi j v hv
    simp only [World.cell?] at this ⊢
    rw [hw]; exact this, h.lt, Nat.lt_of_lt_of_le h.gwl hs⟩
theorem Par4.below {K : K4} {w w' : World} {d : Nat} {s : S4} (h : Par4 K w d s) (hb : Below w.heap.size w w') : Par4 K w' d s :=
  h.keep (hb.block _ h.gpl) (hb.block _ h.gwl) hb.size
theorem Par4.set {K : K4} (hG : Good4 K) {w : World} {d d' : Nat} {s s' : S4} (h : Par4 K w d s) (j : Nat) (v : Value) (hc : (parC4 K d s).setIfInBounds j v = parC4 K d' s') (hk : s'.k < K.L.length) : Par4 K (w.setCell ⟨K.gp, j, none⟩ v) d' s' :=
  ⟨by rw [heap_setCell_same w K.gp j _ _ v h.blk, hc], fun i hi j' v' hv => by
    have := h.row i hi j' v' hv
    simp only [World.cell?] at this ⊢
    rw [heap_setCell_other w ⟨K.gp, j, none⟩ K.gw v hG.ne]; exact this, hk, by simpa using h.gwl⟩
theorem gb_below {w w' : World} {r : Option Nat} (h : Below w.heap.size w w') : w.grownBy w' r := ⟨h.os, h.tape, h.output, h.size, fun k hk _ => h.block k hk⟩
theorem gb_trans {a b c : World} {r : Option Nat} (h : a.grownBy b r) (k : b.grownBy c r) : a.grownBy c r :=
  ⟨k.os.trans h.os, k.tape.trans h.tape, k.output.trans h.output, Nat.le_trans h.size k.size, fun j hj hr => (k.block j (Nat.lt_of_lt_of_le hj h.size) hr).trans (h.block j hj hr)⟩
theorem gb_set (w : World) (g i : Nat) (v : Value) : w.grownBy (w.setCell ⟨g, i, none⟩ v) (some g) :=
  ⟨rfl, rfl, rfl, by simp, fun k _ hr => heap_setCell_other w ⟨g, i, none⟩ k v (by rintro rfl; exact hr rfl)⟩
theorem gb_refl (w : World) (r : Option Nat) : w.grownBy w r := ⟨rfl, rfl, rfl, Nat.le_refl _, fun _ _ _ => rfl⟩
theorem gb_drew {a w : World} {r : Option Nat} (h : a.grownBy w r) : a.grownBy w.drew r := ⟨h.os, h.tape, h.output, h.size, h.block⟩
structure Mono4 (s s' : S4) : Prop where
  k : s.k ≤ s'.k
  er : s.er ≠ 0 → s'.er ≠ 0
theorem Mono4.refl (s : S4) : Mono4 s s := ⟨Nat.le_refl _, fun h => h⟩
theorem Mono4.trans {a b c : S4} (h : Mono4 a b) (k : Mono4 b c) : Mono4 a c := ⟨Nat.le_trans h.k k.k, fun e => k.er (h.er e)⟩
theorem Mono4.inc (s : S4) : Mono4 s (inc4 s) := ⟨Nat.le_succ _, fun h => h⟩
theorem Mono4.fail (L : List W4) (e : Nat) (he : e ≠ 0) (s : S4) : Mono4 s (fail4 L e s) := by
  unfold fail4
  split
  · exact ⟨Nat.le_refl _, fun _ => he⟩
  · exact Mono4.refl s
theorem fail4_k (L : List W4) (e : Nat) (s : S4) : (fail4 L e s).k = s.k := by unfold fail4; split <;> rfl
theorem fail4_er (L : List W4) (e : Nat) (he : e ≠ 0) (s : S4) : (fail4 L e s).er ≠ 0 := by
  unfold fail4
  split
  · exact he
  · assumption
theorem is4_kind {L : List W4} {x : ByteArray} {s : S4} (h : is4 L x s = true) : (cur4 L s).kind ≠ 0 ∧ s.er = 0 := by
  unfold is4 at h
  simp only [Bool.and_eq_true, Bool.or_eq_true, beq_iff_eq] at h
  refine ⟨?_, h.1⟩
  rcases h.2.1 with h | h <;> omega
theorem inc_lt {K : K4} (hG : Good4 K) {s : S4} (h : s.k < K.L.length) (hk : (cur4 K.L s).kind ≠ 0) : (inc4 s).k < K.L.length := hG.last s.k h hk
theorem Mono4.part (L : List W4) (s : S4) : Mono4 s (part4 L s) := by
  unfold part4
  split
  · rename_i h
    exact ⟨by show s.k ≤ (fail4 L 2 s).k; rw [fail4_k]; exact Nat.le_refl _, fun e => absurd h.1 e⟩
  · exact ⟨Nat.le_refl _, fun e => e⟩
theorem part4_k (L : List W4) (s : S4) : (part4 L s).k = s.k := by
  unfold part4
  split
  · exact fail4_k L 2 s
  · rfl
theorem cur4_part (L : List W4) (s : S4) : cur4 L (part4 L s) = cur4 L s := by unfold cur4; rw [part4_k]
theorem Mono4.take (L : List W4) (x : ByteArray) (s : S4) : Mono4 s (take4 L x s).2 := by
  unfold take4
  show Mono4 s (if _ then _ else _)
  split
  · exact Mono4.inc s
  · exact Mono4.refl s
theorem Mono4.want (L : List W4) (x : ByteArray) (s : S4) : Mono4 s (want4 L x s) := by
  unfold want4
  split
  · exact Mono4.inc s
  · exact Mono4.fail L 7 (by decide) s
theorem Mono4.name (L : List W4) (s : S4) : Mono4 s (name4 L s).2 := by
  unfold name4
  split
  · exact Mono4.inc s
  · exact Mono4.fail L 7 (by decide) s
def GivesU4 (K : K4) (d : Nat) (s : S4) (s' : S4) (w : World) (e : Ending) (w' : World) : Prop := e = .returned (.tuple #[]) ∧ Par4 K w' d s' ∧ w.grownBy w' (some K.gp) ∧ Mono4 s s'
def GivesV4 (K : K4) (d : Nat) (s : S4) (v : Value) (s' : S4) (w : World) (e : Ending) (w' : World) : Prop := e = .returned v ∧ Par4 K w' d s' ∧ w.grownBy w' (some K.gp) ∧ Mono4 s s'
end Go.Proofs.Ytejljfoacbpliaa

namespace Go.Proofs.Ytejljfoacbpliaa
open Go Go.RowKit
theorem below_setRow {B : Nat} {w w' : World} (h : Below B w w') {g : Nat} (hg : B ≤ g) (cs : Array Value) : Below B w (w'.setRow g cs) :=
  ⟨h.os, h.tape, h.output, by rw [setRow_size]; exact h.size, fun k hk => (setRow_other w' g k _ (by omega)).trans (h.block k hk)⟩
theorem size_w4 : (Try.prog.info? 148).map (·.size) = some 4 := by kernel_rfl
theorem w4_one (k : Int) (s : ByteArray) (n a : Int) : (#[.int .i64 k, .string s, .int .i64 n, .int .i64 a] : Array Value).all (·.oneCell') = true := by simp [Value.oneCell']
def GivesW4 (v : Value) (w : World) (e : Ending) (w' : World) : Prop := e = .returned v ∧ Below w.heap.size w w'
set_option maxHeartbeats 4000000 in
set_option maxRecDepth 100000 in
theorem w_any {K : K4} (hG : Good4 K) (w : World) (d : Nat) (s : S4) (h : Par4 K w d s) : Calls Try.prog 78 #[.pointer (some ⟨K.gp, 0, none⟩)] w (GivesW4 (.agg (cur4 K.L s).cells.toArray) w) := by
  have h1 := h.below ((Below.refl _ _).alloc (Nat.le_refl _) (.cells #[.int .i64 0, .string ⟨#[]⟩, .int .i64 0, .int .i64 0] 148))
  obtain ⟨p0, p1, _, _, _, _, _⟩ := h1.cells
  obtain ⟨k0, k1, k2, k3⟩ := h1.cur_cell
  have hk0 : (0 : Int) ≤ (s.k : Int) := by omega
  have hk1 : (s.k : Int) < (K.L.length : Int) := by have := h.lt; omega
  obtain ⟨gp, hgp⟩ : ∃ gp, gp = K.gp := ⟨_, rfl⟩
  obtain ⟨gw, hgw⟩ : ∃ gw, gw = K.gw := ⟨_, rfl⟩
  obtain ⟨n, hn⟩ : ∃ n, n = K.L.length := ⟨_, rfl⟩
  obtain ⟨c, hc⟩ : ∃ c, c = K.c := ⟨_, rfl⟩
  obtain ⟨k, hk⟩ : ∃ k, k = s.k := ⟨_, rfl⟩
  obtain ⟨x, hx⟩ : ∃ x, x = cur4 K.L s := ⟨_, rfl⟩
  rw [← hgp, ← hgw, ← hn, ← hc] at p0
  rw [← hgp, ← hk] at p1
  rw [← hgw, ← hk, ← hx] at k0 k1 k2 k3
  rw [← hk] at hk0 hk1
  rw [← hn] at hk1
  rw [← hgp, ← hx]
  clear hgp hgw hn hc hk hx h h1
  obtain ⟨xk, xt, xn, xa⟩ := x
  unfold W4.cells
  simp only at k0 k1 k2 k3 ⊢
  have HS := Lib.hid size_w4
  go_enter Try.func78, Try.ntmps78
  go_wp2_with fail
  have hn := heap_alloc_new w (.cells #[.int .i64 0, .string ⟨#[]⟩, .int .i64 0, .int .i64 0] 148)
  have hb := (Below.refl w.heap.size w).alloc (Nat.le_refl _) (.cells #[.int .i64 0, .string ⟨#[]⟩, .int .i64 0, .int .i64 0] 148)
  generalize w.alloc (.cells #[.int .i64 0, .string ⟨#[]⟩, .int .i64 0, .int .i64 0] 148) = w1 at p0 p1 k0 k1 k2 k3 hn hb ⊢
  have HN := Lib.hid hn
  have HB := Lib.hid hb
  clear hn hb
  have hra : w1.rangeAt gw (k * 4) [.int .i64 (xk : Int), .string xt, .int .i64 xn, .int .i64 (xa : Int)] := fun j u hu => by
    match j, hu with
    | 0, hu => exact k0.trans hu
    | 1, hu => exact k1.trans hu
    | 2, hu => exact k2.trans hu
    | 3, hu => exact k3.trans hu
    | _ + 4, hu => simp at hu
  clear k0 k1 k2 k3
  have HR := Lib.hid hra
  clear hra
  go_still_tail 9, (by kernel_rfl)
  have HRd : w1.drew.rangeAt gw (k * 4) [.int .i64 (xk : Int), .string xt, .int .i64 xn, .int .i64 (xa : Int)] := HR.out
  have HNd : w1.drew.heap[w.heap.size]? = some (.cells #[.int .i64 0, .string ⟨#[]⟩, .int .i64 0, .int .i64 0] 148 (0, 0)) := HN.out
  have HBd : Below w.heap.size w w1.drew := HB.out.drew
  change wpList _ _ _ _ _ w1.drew
  generalize w1.drew = w2 at HRd HNd HBd ⊢
  have HR2 := Lib.hid HRd
  have HN2 := Lib.hid HNd
  have HB2 := Lib.hid HBd
  clear HRd HNd HBd HR HN HB p0 p1
  refine wpList_load_mid rfl 148 (.tmp 11) rfl gw (k * 4) rfl _ _ HR2.out Try.underlying148 rfl HS.out ?_
  refine wpList_store_row rfl 148 (.tmp 2) (.tmp 12) rfl w.heap.size #[.int .i64 (xk : Int), .string xt, .int .i64 xn, .int .i64 (xa : Int)] rfl rfl 148 _ HN2.out HS.out rfl (w4_one _ _ _ _) ?_
  have hset := setRow_heap w2 w.heap.size _ #[.int .i64 (xk : Int), .string xt, .int .i64 xn, .int .i64 (xa : Int)] _ _ HN2.out
  go_wp2_with fail
  refine bodyPost_ret (v := .agg #[.int .i64 (xk : Int), .string xt, .int .i64 xn, .int .i64 (xa : Int)]) (results_cell_row (p := 2) (ty := 148) rfl _ _ w.heap.size 148 _ (0, 0) _ rfl hset Try.underlying148 rfl HS.out) rfl ⟨rfl, below_setRow HB2.out (Nat.le_refl _) _⟩
theorem field4_k (k n a : Int) (s : ByteArray) (W : World) : (Instr.field 148 (.agg #[.int .i64 k, .string s, .int .i64 n, .int .i64 a]) 0).run Try.prog W = .ok (.int .i64 k) W := by kernel_rfl
theorem field4_t (k n a : Int) (s : ByteArray) (W : World) : (Instr.field 148 (.agg #[.int .i64 k, .string s, .int .i64 n, .int .i64 a]) 1).run Try.prog W = .ok (.string s) W := by kernel_rfl
theorem field4_a (k n a : Int) (s : ByteArray) (W : World) : (Instr.field 148 (.agg #[.int .i64 k, .string s, .int .i64 n, .int .i64 a]) 3).run Try.prog W = .ok (.int .i64 a) W := by kernel_rfl
end Go.Proofs.Ytejljfoacbpliaa

namespace Go.Proofs.Ytejljfoacbpliaa
open Go Go.RowKit
mutual
def exD : Ex → List Dt
  | .mk op name n at_ kids => [.v (.string op), .v (.string name), .v (.int .i64 n), .v (.int .i64 (at_ : Int)), .sl kids.length (exsD kids)]
def exsD : List Ex → List Dt
  | [] => []
  | e :: r => exD e ++ exsD r
end
theorem exD_eq (e : Ex) : exD e = [.v (.string e.op), .v (.string e.name), .v (.int .i64 e.n), .v (.int .i64 (e.at_ : Int)), .sl e.kids.length (exsD e.kids)] := by
  cases e; unfold exD; rfl
theorem exsD_cons (e : Ex) (r : List Ex) : exsD (e :: r) = exD e ++ exsD r := by conv => lhs; unfold exsD
theorem exsD_nil : exsD [] = [] := by unfold exsD; rfl
theorem exD_len (e : Ex) : (exD e).length = 5 := by rw [exD_eq]; rfl
theorem exsD_len : ∀ l : List Ex, (exsD l).length = l.length * 5
  | [] => by rw [exsD_nil]; rfl
  | e :: r => by rw [exsD_cons, List.length_append, exD_len, exsD_len r, List.length_cons]; omega
theorem exsD_app : ∀ a b : List Ex, exsD (a ++ b) = exsD a ++ exsD b
  | [], b => by rw [exsD_nil]; rfl
  | e :: r, b => by rw [List.cons_append, exsD_cons, exsD_cons, exsD_app r b, List.append_assoc]
theorem exD_one (e : Ex) : ∀ d ∈ exD e, d.one := fun d hd => by
  rw [exD_eq] at hd
  simp only [List.mem_cons, List.not_mem_nil, or_false] at hd
  rcases hd with rfl | rfl | rfl | rfl | rfl <;> first | rfl | trivial
theorem exsD_one : ∀ (l : List Ex), ∀ d ∈ exsD l, d.one
  | [], d, hd => by rw [exsD_nil] at hd; simp at hd
  | e :: r, d, hd => by
    rw [exsD_cons] at hd
    rcases List.mem_append.1 hd with h | h
    · exact exD_one e d h
    · exact exsD_one r d h
def exC (e : Ex) (x : Option Addr) (c : Nat) : List Value := [.string e.op, .string e.name, .int .i64 e.n, .int .i64 (e.at_ : Int), .slice x e.kids.length c]
def KidsD (ok : Nat → Prop) (w : World) (e : Ex) (x : Option Addr) (c : Nat) : Prop := IsD ok w (.slice x e.kids.length c) (.sl e.kids.length (exsD e.kids))
theorem KidsD.rows {ok : Nat → Prop} {w : World} {e : Ex} {x : Option Addr} {c : Nat} (h : KidsD ok w e x c) : RowsD ok w (exC e x c) (exD e) := by
  rw [exD_eq]
  refine ⟨?_, ?_, ?_, ?_, h, trivial⟩ <;> (unfold IsD; rfl)
structure Fr (K : K4) (w0 : World) (d : Nat) (bl : List (Nat × TypeId × Array Value)) (tr : List (Value × Dt)) (w : World) (s : S4) : Prop where
  par : Par4 K w d s
  gb : w0.grownBy w (some K.gp)
  gp : K.gp < w0.heap.size
  gw : K.gw < w0.heap.size
  blk : ∀ x ∈ bl, w.heap[x.1]? = some (.cells x.2.2 x.2.1 (0, 0)) ∧ w0.heap.size ≤ x.1
  tree : ∀ x ∈ tr, IsD (fun k => w0.heap.size ≤ k ∧ ∀ y ∈ bl, k ≠ y.1) w x.1 x.2
  srt : bl.Pairwise (fun x y => x.1 < y.1)
theorem Fr.start {K : K4} {w : World} {d : Nat} {s : S4} (h : Par4 K w d s) : Fr K w d [] [] w s :=
  ⟨h, gb_refl _ _, h.gpl, h.gwl, fun x hx => by simp at hx, fun x hx => by simp at hx, List.Pairwise.nil⟩
theorem Fr.lt {K : K4} {w0 w : World} {d : Nat} {bl : List (Nat × TypeId × Array Value)} {tr : List (Value × Dt)} {s : S4} (h : Fr K w0 d bl tr w s) : ∀ x ∈ bl, x.1 < w.heap.size := fun x hx => (Array.getElem?_eq_some_iff.1 (h.blk x hx).1).1
theorem Fr.get {K : K4} {w0 w : World} {d : Nat} {bl : List (Nat × TypeId × Array Value)} {tr : List (Value × Dt)} {s : S4} (h : Fr K w0 d bl tr w s) (i : Nat) {b : Nat} {T : TypeId} {cs : Array Value} (hi : bl[i]? = some (b, T, cs)) : w.heap[b]? = some (.cells cs T (0, 0)) :=
  (h.blk _ (List.mem_of_getElem? hi)).1
theorem Fr.ge {K : K4} {w0 w : World} {d : Nat} {bl : List (Nat × TypeId × Array Value)} {tr : List (Value × Dt)} {s : S4} (h : Fr K w0 d bl tr w s) (i : Nat) {b : Nat} {T : TypeId} {cs : Array Value} (hi : bl[i]? = some (b, T, cs)) : w0.heap.size ≤ b :=
  (h.blk _ (List.mem_of_getElem? hi)).2
theorem Fr.call {K : K4} {w0 w w' : World} {d d' : Nat} {bl : List (Nat × TypeId × Array Value)} {tr : List (Value × Dt)} {s s' : S4} (h : Fr K w0 d bl tr w s) (hp : Par4 K w' d' s') (hg : w.grownBy w' (some K.gp)) : Fr K w0 d' bl tr w' s' :=
  ⟨hp, gb_trans h.gb hg, h.gp, h.gw, fun x hx => ⟨(hg.block x.1 (h.lt x hx) (fun e => by injection e with e; have := (h.blk x hx).2; have := h.gp; omega)).trans (h.blk x hx).1, (h.blk x hx).2⟩,
    fun x hx => (h.tree x hx).grown hg (fun k hk => by injection hk with hk; have := h.gp; intro hk'; omega), h.srt⟩
theorem Fr.callT {K : K4} {w0 w w' : World} {d d' : Nat} {bl : List (Nat × TypeId × Array Value)} {tr : List (Value × Dt)} {s s' : S4} (h : Fr K w0 d bl tr w s) (hp : Par4 K w' d' s') (hg : w.grownBy w' (some K.gp)) {v : Value} {dt : Dt} (ht : IsD (w.heap.size ≤ ·) w' v dt) : Fr K w0 d' bl (tr ++ [(v, dt)]) w' s' :=
  ⟨hp, gb_trans h.gb hg, h.gp, h.gw, (h.call hp hg).blk, fun x hx => by
    rcases List.mem_append.1 hx with hx | hx
    · exact (h.call hp hg).tree x hx
    · simp only [List.mem_cons, List.not_mem_nil, or_false] at hx
      subst hx
      exact ht.mono (fun k hk _ => ⟨Nat.le_trans h.gb.size hk, fun y hy e => by have := h.lt y hy; have : w.heap.size ≤ k := hk; omega⟩), h.srt⟩
theorem Fr.alloc {K : K4} {w0 w : World} {d : Nat} {bl : List (Nat × TypeId × Array Value)} {tr : List (Value × Dt)} {s : S4} (h : Fr K w0 d bl tr w s) (b : Nat) (hb : b = w.heap.size) (T : TypeId) (cs : Array Value) : Fr K w0 d (bl ++ [(b, T, cs)]) tr (w.alloc (.cells cs T)) s := by
  subst hb
  have hbel : Below w.heap.size w (w.alloc (.cells cs T)) := (Below.refl _ _).alloc (Nat.le_refl _) _
  refine ⟨h.par.below hbel, gb_trans h.gb (gb_below hbel), h.gp, h.gw, fun x hx => ?blk, fun x hx => (h.tree x hx).keep hbel.size (fun k _ hl => hbel.block k hl) (fun k hk hl => ⟨hk.1, fun y hy => ?ne⟩), List.pairwise_append.2 ⟨h.srt, List.pairwise_singleton _ _, fun x hx y hy => ?srt⟩⟩
  case blk =>
    rcases List.mem_append.1 hx with hx | hx
    · exact ⟨(hbel.block x.1 (h.lt x hx)).trans (h.blk x hx).1, (h.blk x hx).2⟩
    · simp only [List.mem_cons, List.not_mem_nil, or_false] at hx
      subst hx
      exact ⟨heap_alloc_new w _, h.gb.size⟩
  case ne =>
    rcases List.mem_append.1 hy with hy | hy
    · exact hk.2 y hy
    · simp only [List.mem_cons, List.not_mem_nil, or_false] at hy
      subst hy
      exact Nat.ne_of_lt hl
  case srt =>
    simp only [List.mem_cons, List.not_mem_nil, or_false] at hy
    subst hy
    exact h.lt x hx
theorem Fr.make {K : K4} {w0 w : World} {d : Nat} {bl : List (Nat × TypeId × Array Value)} {tr : List (Value × Dt)} {s : S4} (h : Fr K w0 d bl tr w s) (T : TypeId) (cs : Array Value) (b : Nat) (hb : b = w.heap.size) (n : Nat) (hn : 0 < n) (hm : n ≤ 1000000000) (ds : List Dt) (hr : RowsD (fun k => w0.heap.size ≤ k ∧ ∀ y ∈ bl, k ≠ y.1) w cs.toList ds) :
    Fr K w0 d bl (tr ++ [(.slice (some ⟨b, 0, none⟩) n n, .sl n ds)]) (w.alloc (.cells cs T)) s := by
  subst hb
  have hbel : Below w.heap.size w (w.alloc (.cells cs T)) := (Below.refl _ _).alloc (Nat.le_refl _) _
  refine ⟨h.par.below hbel, gb_trans h.gb (gb_below hbel), h.gp, h.gw, fun x hx => ⟨(hbel.block x.1 (h.lt x hx)).trans (h.blk x hx).1, (h.blk x hx).2⟩, fun x hx => ?_, h.srt⟩
  rcases List.mem_append.1 hx with hx | hx
  · exact (h.tree x hx).below hbel
  · simp only [List.mem_cons, List.not_mem_nil, or_false] at hx
    subst hx
    refine IsD.of_cells hn (Nat.le_refl _) (Nat.le_trans hm (by decide)) hm ⟨h.gb.size, fun y hy e => by have := h.lt y hy; omega⟩ (by simp) (RowsD.toDs cs.toList ds 0 (hr.keep hbel.size (fun k _ hl => hbel.block k hl) (fun _ h _ => h)) fun j u hu => ?_)
    rw [Nat.zero_add]
    simp only [World.cell?, heap_alloc_new w (.cells cs T)]
    simpa using hu
theorem Fr.other {K : K4} {w0 w : World} {d : Nat} {bl : List (Nat × TypeId × Array Value)} {tr : List (Value × Dt)} {s : S4} (h : Fr K w0 d bl tr w s) {i j : Nat} {x y : Nat × TypeId × Array Value} (hi : bl[i]? = some x) (hj : bl[j]? = some y) (hne : j ≠ i) : y.1 ≠ x.1 := by
  obtain ⟨hi1, hi2⟩ := List.getElem?_eq_some_iff.1 hi
  obtain ⟨hj1, hj2⟩ := List.getElem?_eq_some_iff.1 hj
  have hp := List.pairwise_iff_getElem.1 h.srt
  rcases Nat.lt_or_gt_of_ne hne with hl | hl
  · have := hp j i hj1 hi1 hl
    rw [hi2, hj2] at this
    omega
  · have := hp i j hi1 hj1 hl
    rw [hi2, hj2] at this
    omega
theorem Fr.turn {K : K4} {w0 w w' : World} {d : Nat} {bl : List (Nat × TypeId × Array Value)} {tr : List (Value × Dt)} {s : S4} (h : Fr K w0 d bl tr w s) (i : Nat) {b : Nat} {T : TypeId} {cs : Array Value} (hi : bl[i]? = some (b, T, cs)) (cs' : Array Value)
    (hs : w.heap.size = w'.heap.size) (ho : ∀ k, k ≠ b → w'.heap[k]? = w.heap[k]?) (hb : w'.heap[b]? = some (.cells cs' T (0, 0))) (h1 : w'.os = w.os) (h2 : w'.tape = w.tape) (h3 : w'.output = w.output) : Fr K w0 d (bl.set i (b, T, cs')) tr w' s := by
  have hge := h.ge i hi
  have hgp := h.gp
  have hgw := h.gw
  have hil : i < bl.length := (List.getElem?_eq_some_iff.1 hi).1
  have hfst : ∀ (j : Nat) (x : Nat × TypeId × Array Value), (bl.set i (b, T, cs'))[j]? = some x → ∃ y, bl[j]? = some y ∧ y.1 = x.1 := fun j x hx => by
    rw [List.getElem?_set] at hx
    split at hx
    · rename_i e
      subst e
      simp only [hil, if_true, Option.some.injEq] at hx
      exact ⟨_, hi, by rw [← hx]⟩
    · exact ⟨x, hx, rfl⟩
  refine ⟨h.par.keep (ho _ (by omega)) (ho _ (by omega)) (Nat.le_of_eq hs), ⟨h1.trans h.gb.os, h2.trans h.gb.tape, h3.trans h.gb.output, by rw [← hs]; exact h.gb.size, fun k hk hr => (ho k (by omega)).trans (h.gb.block k hk hr)⟩, hgp, hgw, fun x hx => ?_, fun x hx => ?_, ?_⟩
  · obtain ⟨j, hj⟩ := List.getElem?_of_mem hx
    by_cases e : j = i
    · subst e
      rw [List.getElem?_set_self hil] at hj
      simp only [Option.some.injEq] at hj
      subst hj
      exact ⟨hb, hge⟩
    · rw [List.getElem?_set_ne (Ne.symm e)] at hj
      have := h.other hi hj e
      exact ⟨(ho x.1 this).trans (h.blk x (List.mem_of_getElem? hj)).1, (h.blk x (List.mem_of_getElem? hj)).2⟩
  · refine (h.tree x hx).keep (Nat.le_of_eq hs) (fun k hk hl => ho k (hk.2 _ (List.mem_of_getElem? hi))) (fun k hk _ => ⟨hk.1, fun y hy => ?_⟩)
    obtain ⟨j, hj⟩ := List.getElem?_of_mem hy
    obtain ⟨z, hz, e⟩ := hfst j y hj
    rw [← e]
    exact hk.2 z (List.mem_of_getElem? hz)
  · rw [List.pairwise_iff_getElem]
    intro a b' ha hb' hab
    obtain ⟨y1, hy1, e1⟩ := hfst a _ (List.getElem?_eq_getElem ha)
    obtain ⟨y2, hy2, e2⟩ := hfst b' _ (List.getElem?_eq_getElem hb')
    rw [← e1, ← e2]
    obtain ⟨l1, r1⟩ := List.getElem?_eq_some_iff.1 hy1
    obtain ⟨l2, r2⟩ := List.getElem?_eq_some_iff.1 hy2
    have := List.pairwise_iff_getElem.1 h.srt a b' l1 l2 hab
    rw [r1, r2] at this
    exact this
theorem Fr.store {K : K4} {w0 w : World} {d : Nat} {bl : List (Nat × TypeId × Array Value)} {tr : List (Value × Dt)} {s : S4} (h : Fr K w0 d bl tr w s) (i : Nat) {b : Nat} {T : TypeId} {cs : Array Value} (hi : bl[i]? = some (b, T, cs)) (cs' : Array Value) : Fr K w0 d (bl.set i (b, T, cs')) tr (w.setRow b cs') s :=
  h.turn i hi cs' (by rw [setRow_size]) (fun k hk => setRow_other w b k _ hk) (setRow_heap w b _ cs' _ _ (h.get i hi)) rfl rfl rfl
theorem Fr.cell {K : K4} {w0 w : World} {d : Nat} {bl : List (Nat × TypeId × Array Value)} {tr : List (Value × Dt)} {s : S4} (h : Fr K w0 d bl tr w s) (i : Nat) {b : Nat} {T : TypeId} {cs : Array Value} (hi : bl[i]? = some (b, T, cs)) (j : Nat) (v : Value) : Fr K w0 d (bl.set i (b, T, cs.setIfInBounds j v)) tr (w.setCell ⟨b, j, none⟩ v) s :=
  h.turn i hi _ (by simp) (fun k hk => heap_setCell_other w ⟨b, j, none⟩ k v hk) (heap_setCell_same w b j _ _ v (h.get i hi)) rfl rfl rfl
theorem Fr.drew {K : K4} {w0 w : World} {d : Nat} {bl : List (Nat × TypeId × Array Value)} {tr : List (Value × Dt)} {s : S4} (h : Fr K w0 d bl tr w s) : Fr K w0 d bl tr w.drew s := by
  have hb : Below w.heap.size w w.drew := (Below.refl _ _).drew
  exact h.call (h.par.below hb) (gb_below hb)
theorem Fr.own {K : K4} (hG : Good4 K) {w0 w : World} {d d' : Nat} {bl : List (Nat × TypeId × Array Value)} {tr : List (Value × Dt)} {s s' : S4} (h : Fr K w0 d bl tr w s) (j : Nat) (v : Value) (hc : (parC4 K d s).setIfInBounds j v = parC4 K d' s') (hk : s'.k < K.L.length) : Fr K w0 d' bl tr (w.setCell ⟨K.gp, j, none⟩ v) s' :=
  h.call (h.par.set hG j v hc hk) (gb_set w K.gp j v)
theorem Fr.out {K : K4} {w0 w : World} {d : Nat} {bl : List (Nat × TypeId × Array Value)} {tr : List (Value × Dt)} {s : S4} (h : Fr K w0 d bl tr w s) (i : Nat) {v : Value} {dt : Dt} (hi : tr[i]? = some (v, dt)) : IsD (w0.heap.size ≤ ·) w v dt :=
  (h.tree _ (List.mem_of_getElem? hi)).mono (fun _ hk _ => hk.1)
theorem Fr.inn {K : K4} {w0 w : World} {d : Nat} {bl : List (Nat × TypeId × Array Value)} {tr : List (Value × Dt)} {s : S4} (h : Fr K w0 d bl tr w s) (i : Nat) {v : Value} {dt : Dt} (hi : tr[i]? = some (v, dt)) : IsD (fun k => w0.heap.size ≤ k ∧ ∀ y ∈ bl, k ≠ y.1) w v dt :=
  h.tree _ (List.mem_of_getElem? hi)
def exV (e : Ex) (x : Option Addr) (c : Nat) : Value := .agg #[.string e.op, .string e.name, .int .i64 e.n, .int .i64 (e.at_ : Int), .slice x e.kids.length c]
def GivesX4 (K : K4) (d : Nat) (s : S4) (r : Ex × S4) (w : World) (e : Ending) (w' : World) : Prop :=
  ∃ x c, e = .returned (exV r.1 x c) ∧ KidsD (w.heap.size ≤ ·) w' r.1 x c ∧ Par4 K w' d r.2 ∧ w.grownBy w' (some K.gp) ∧ Mono4 s r.2
end Go.Proofs.Ytejljfoacbpliaa

namespace Go.Proofs.Ytejljfoacbpliaa
open Go Go.RowKit
theorem size_bad4 : (Try.prog.info? 30).map (·.size) = some 2 := by kernel_rfl
set_option maxHeartbeats 4000000 in
set_option maxRecDepth 100000 in
theorem fail4_any (er : Nat) (he : er ≠ 0) {K : K4} (hG : Good4 K) (w : World) (d : Nat) (s : S4) (h : Par4 K w d s) : Calls Try.prog 79 #[.pointer (some ⟨K.gp, 0, none⟩), .int .i64 (er : Int)] w (GivesU4 K d s (fail4 K.L er s) w) := by
  have hm := Mono4.fail K.L er he s
  obtain ⟨p0, p1, p2, p3, _, _, _⟩ := h.cells
  have kw := w_any hG w d s h
  unfold fail4 at hm ⊢
  by_cases h0 : s.er = 0
  · have hb : ((s.er : Int) == 0) = true := by simp; omega
    rw [if_pos h0] at hm ⊢
    obtain ⟨x, hx⟩ : ∃ x, x = cur4 K.L s := ⟨_, rfl⟩
    rw [← hx] at kw hm ⊢
    have HM := Lib.hid hm
    have HH := Lib.hid h
    clear hx h hm p0 p1 p3
    obtain ⟨xk, xt, xn, xa⟩ := x
    unfold W4.cells at kw
    have kfi := field4_a (xk : Int) xn (xa : Int) xt
    have HSB := Lib.hid size_bad4
    go_enter Try.func79, Try.ntmps79
    go_wp2_with fail
    (with_reducible refine kw.mono ?_)
    rintro e w1 ⟨rfl, hb1⟩
    have HB1 := Lib.hid hb1
    clear hb1
    have h1 := HH.out.below HB1.out
    obtain ⟨_, _, p2, p3, _, _, _⟩ := h1.cells
    have f2 := h1.frozen 2
    have f3 := h1.frozen 3
    have H1 := Lib.hid h1
    clear h1
    go_wp2_with fail
    go_end0
    exact ⟨rfl, (H1.out.set hG 2 (.int .i64 (er : Int)) (s' := { s with er := er }) rfl H1.out.lt).set hG 3 (.int .i64 (xa : Int)) (s' := { s with er := er, ea := xa }) rfl H1.out.lt, gb_trans (gb_below HB1.out) (gb_trans (gb_set w1 K.gp 2 _) (gb_set _ K.gp 3 _)), HM.out⟩
  · have hb : ((s.er : Int) == 0) = false := by simp; omega
    rw [if_neg h0]
    have HH := Lib.hid h
    clear h0 h kw hm
    go_enter Try.func79, Try.ntmps79
    go_wp2_with fail
    go_end0
    exact ⟨rfl, HH.out, gb_refl _ _, Mono4.refl _⟩
theorem fail7_any {K : K4} (hG : Good4 K) (w : World) (d : Nat) (s : S4) (h : Par4 K w d s) : Calls Try.prog 79 #[.pointer (some ⟨K.gp, 0, none⟩), .int .i64 7] w (GivesU4 K d s (fail4 K.L 7 s) w) := fail4_any 7 (by decide) hG w d s h
theorem fail2_any {K : K4} (hG : Good4 K) (w : World) (d : Nat) (s : S4) (h : Par4 K w d s) : Calls Try.prog 79 #[.pointer (some ⟨K.gp, 0, none⟩), .int .i64 2] w (GivesU4 K d s (fail4 K.L 2 s) w) := fail4_any 2 (by decide) hG w d s h
set_option maxHeartbeats 4000000 in
set_option maxRecDepth 100000 in
theorem is4b_any (x : ByteArray) {K : K4} (hG : Good4 K) (w : World) (d : Nat) (s : S4) (h : Par4 K w d s) : Calls Try.prog 137 #[.pointer (some ⟨K.gp, 0, none⟩), .string x] w (GivesW4 (.bool (is4 K.L x s)) w) := by
  have kw := w_any hG w d s h
  have kw2 := fun W (hp : Par4 K W d s) => w_any hG W d s hp
  obtain ⟨b, hbv⟩ : ∃ b, b = is4 K.L x s := ⟨_, rfl⟩
  rw [← hbv]
  unfold is4 at hbv
  rw [← Lib.toList_data, ← Lib.toList_data] at hbv
  obtain ⟨y, hy⟩ : ∃ y, y = cur4 K.L s := ⟨_, rfl⟩
  rw [← hy] at kw kw2 hbv
  clear hy
  obtain ⟨yk, yt, yn, ya⟩ := y
  unfold W4.cells at kw kw2
  simp only at hbv kw kw2
  have kf0 := field4_k (yk : Int) yn (ya : Int) yt
  have kf1 := field4_t (yk : Int) yn (ya : Int) yt
  have KW := Lib.hid kw2
  have HH := Lib.hid h
  clear kw2 h
  by_cases h0 : s.er = 0
  · have e0 : ((s.er : Int) == 0) = true := by simp; omega
    have e0' : (s.er == 0) = true := by simp; omega
    rw [e0', Bool.true_and] at hbv
    clear e0' h0
    by_cases h2 : yk = 2
    · have e2 : ((yk : Int) == 2) = true := by simp; omega
      rw [show (yk == 2) = true by simp; omega, Bool.true_or, Bool.true_and] at hbv
      subst hbv
      clear h2
      go_enter Try.func137, Try.ntmps137
      go_wp2_with fail
      (with_reducible refine kw.mono ?_)
      rintro e w1 ⟨rfl, hb1⟩
      have HB1 := Lib.hid hb1
      clear hb1
      have h1 := HH.out.below HB1.out
      obtain ⟨_, _, p2, _, _, _, _⟩ := h1.cells
      have H1 := Lib.hid h1
      clear h1
      have kw2 := KW.out w1 H1.out
      go_wp2_with fail
      (with_reducible refine kw2.mono ?_)
      rintro e w2 ⟨rfl, hb2⟩
      have HB2 := Lib.hid hb2
      clear hb2
      go_wp2_with fail
      go_ret
      exact ⟨rfl, HB1.out.trans (HB2.out.mono HB1.out.size)⟩
    · have e2 : ((yk : Int) == 2) = false := by simp; omega
      by_cases h4 : yk = 4
      · have e4 : ((yk : Int) == 4) = true := by simp; omega
        rw [show (yk == 2) = false by simp; omega, show (yk == 4) = true by simp; omega, Bool.or_true, Bool.true_and] at hbv
        subst hbv
        clear h2 h4
        go_enter Try.func137, Try.ntmps137
        go_wp2_with fail
        (with_reducible refine kw.mono ?_)
        rintro e w1 ⟨rfl, hb1⟩
        have HB1 := Lib.hid hb1
        clear hb1
        have h1 := HH.out.below HB1.out
        obtain ⟨_, _, p2, _, _, _, _⟩ := h1.cells
        have H1 := Lib.hid h1
        clear h1
        have kw2 := KW.out w1 H1.out
        go_wp2_with fail
        (with_reducible refine kw2.mono ?_)
        rintro e w2 ⟨rfl, hb2⟩
        have HB2 := Lib.hid hb2
        clear hb2
        go_wp2_with fail
        go_ret
        exact ⟨rfl, HB1.out.trans (HB2.out.mono HB1.out.size)⟩
      · have e4 : ((yk : Int) == 4) = false := by simp; omega
        rw [show (yk == 2) = false by simp; omega, show (yk == 4) = false by simp; omega, Bool.or_false, Bool.false_and] at hbv
        subst hbv
        clear h2 h4
        go_enter Try.func137, Try.ntmps137
        go_wp2_with fail
        (with_reducible refine kw.mono ?_)
        rintro e w1 ⟨rfl, hb1⟩
        have HB1 := Lib.hid hb1
        clear hb1
        have h1 := HH.out.below HB1.out
        obtain ⟨_, _, p2, _, _, _, _⟩ := h1.cells
        have H1 := Lib.hid h1
        clear h1
        go_wp2_with fail
        go_ret
        exact ⟨rfl, HB1.out⟩
  · have e0 : ((s.er : Int) == 0) = false := by simp; omega
    have e0' : (s.er == 0) = false := by simp; omega
    rw [e0', Bool.false_and] at hbv
    subst hbv
    clear e0' h0
    go_enter Try.func137, Try.ntmps137
    go_wp2_with fail
    (with_reducible refine kw.mono ?_)
    rintro e w1 ⟨rfl, hb1⟩
    have HB1 := Lib.hid hb1
    clear hb1
    have h1 := HH.out.below HB1.out
    obtain ⟨_, _, p2, _, _, _, _⟩ := h1.cells
    have H1 := Lib.hid h1
    clear h1
    go_wp2_with fail
    go_ret
    exact ⟨rfl, HB1.out⟩
theorem is4_any (x : ByteArray) {K : K4} (hG : Good4 K) (w : World) (d : Nat) (s : S4) (h : Par4 K w d s) : Calls Try.prog 137 #[.pointer (some ⟨K.gp, 0, none⟩), .string x] w (GivesV4 K d s (.bool (is4 K.L x s)) s w) :=
  (is4b_any x hG w d s h).mono fun _ _ ⟨h1, h2⟩ => ⟨h1, h.below h2, gb_below h2, Mono4.refl _⟩
end Go.Proofs.Ytejljfoacbpliaa

namespace Go.Proofs.Ytejljfoacbpliaa
open Go Go.RowKit
set_option maxHeartbeats 4000000 in
set_option maxRecDepth 100000 in
theorem take4_any (x : ByteArray) {K : K4} (hG : Good4 K) (w : World) (d : Nat) (s : S4) (h : Par4 K w d s) : Calls Try.prog 121 #[.pointer (some ⟨K.gp, 0, none⟩), .string x] w (GivesV4 K d s (.bool (take4 K.L x s).1) (take4 K.L x s).2 w) := by
  have ki := is4_any x hG w d s h
  have hm := Mono4.take K.L x s
  have hk := @is4_kind K.L x s
  unfold take4 at hm ⊢
  simp only at hm ⊢
  obtain ⟨b, hb⟩ : ∃ b, b = is4 K.L x s := ⟨_, rfl⟩
  rw [← hb] at ki hm hk ⊢
  have HM := Lib.hid hm
  have hlt := h.lt
  clear hb h hm
  cases b
  · rw [if_neg (by decide)] at HM ⊢
    clear hk hlt
    go_enter Try.func121, Try.ntmps121
    go_wp2_with fail
    (with_reducible refine ki.mono ?_)
    rintro e w1 ⟨rfl, hp, hg, _⟩
    have HP := Lib.hid hp
    have HGg := Lib.hid hg
    clear hp hg
    go_wp2_with fail
    go_ret
    exact ⟨rfl, HP.out, HGg.out, HM.out⟩
  · rw [if_pos rfl] at HM ⊢
    have hin := inc_lt hG hlt (hk rfl).1
    have HIN := Lib.hid hin
    have hadd : IntKind.i64.wrap ((s.k : Int) + 1) = (s.k : Int) + 1 := by rw [IntKind.wrap_i64]; have := hG.few; omega
    clear hk hlt hin
    go_enter Try.func121, Try.ntmps121
    go_wp2_with fail
    (with_reducible refine ki.mono ?_)
    rintro e w1 ⟨rfl, hp, hg, _⟩
    have HP := Lib.hid hp
    have HGg := Lib.hid hg
    obtain ⟨_, p1, _, _, _, _, _⟩ := hp.cells
    have f1 := hp.frozen 1
    clear hp hg
    go_wp2_with fail
    go_ret
    exact ⟨rfl, HP.out.set hG 1 _ (s' := inc4 s) (by unfold parC4 inc4; simp) HIN.out, gb_trans HGg.out (gb_set w1 K.gp 1 _), HM.out⟩
set_option maxHeartbeats 4000000 in
set_option maxRecDepth 100000 in
theorem want4_any (x : ByteArray) {K : K4} (hG : Good4 K) (w : World) (d : Nat) (s : S4) (h : Par4 K w d s) : Calls Try.prog 118 #[.pointer (some ⟨K.gp, 0, none⟩), .string x] w (GivesU4 K d s (want4 K.L x s) w) := by
  have kt := take4_any x hG w d s h
  have kf := fun W (hp : Par4 K W d s) => fail7_any hG W d s hp
  have hm := Mono4.want K.L x s
  unfold take4 at kt
  unfold want4 at hm ⊢
  simp only at kt
  obtain ⟨b, hb⟩ : ∃ b, b = is4 K.L x s := ⟨_, rfl⟩
  rw [← hb] at kt hm ⊢
  have HM := Lib.hid hm
  have KF := Lib.hid kf
  clear hb h hm kf
  cases b
  · rw [if_neg (by decide)] at HM kt ⊢
    go_enter Try.func118, Try.ntmps118
    go_wp2_with fail
    (with_reducible refine kt.mono ?_)
    rintro e w1 ⟨rfl, hp, hg, _⟩
    have kf := KF.out w1 hp
    have HGg := Lib.hid hg
    clear hp hg kt
    go_wp2_with fail
    (with_reducible refine kf.mono ?_)
    rintro e w2 ⟨rfl, hp, hg, _⟩
    have HP := Lib.hid hp
    have HG2 := Lib.hid (gb_trans HGg.out hg)
    clear hp hg
    go_wp2_with fail
    go_end0
    exact ⟨rfl, HP.out, HG2.out, HM.out⟩
  · rw [if_pos rfl] at HM kt ⊢
    go_enter Try.func118, Try.ntmps118
    go_wp2_with fail
    (with_reducible refine kt.mono ?_)
    rintro e w1 ⟨rfl, hp, hg, _⟩
    have HP := Lib.hid hp
    have HGg := Lib.hid hg
    clear hp hg kt
    go_wp2_with fail
    go_end0
    exact ⟨rfl, HP.out, HGg.out, HM.out⟩
def in4S (L : List W4) (d : Nat) (s : S4) : S4 := if s.er = 0 ∧ ¬ d < 30 then fail4 L 2 s else s
set_option maxHeartbeats 4000000 in
set_option maxRecDepth 100000 in
theorem in4_yes {K : K4} (hG : Good4 K) (w : World) (d : Nat) (s : S4) (h : Par4 K w d s) (h0 : s.er = 0) (hd : d < 30) : Calls Try.prog 139 #[.pointer (some ⟨K.gp, 0, none⟩)] w (GivesV4 K (d + 1) s (.bool true) s w) := by
  obtain ⟨_, _, p2, _, p4, _, _⟩ := h.cells
  have f4 := h.frozen 4
  have e0 : ((s.er : Int) != 0) = false := by simp; omega
  have e1 : decide ((30 : Int) ≤ (d : Int)) = false := by simp; omega
  have HH := Lib.hid h
  have hadd : IntKind.i64.wrap ((d : Int) + 1) = (d : Int) + 1 := by rw [IntKind.wrap_i64]; omega
  clear h h0
  go_enter Try.func139, Try.ntmps139
  go_wp2_with fail
  go_ret
  exact ⟨rfl, HH.out.set hG 4 _ (s' := s) (d' := d + 1) (by unfold parC4; simp) HH.out.lt, gb_set w K.gp 4 _, Mono4.refl _⟩
set_option maxHeartbeats 4000000 in
set_option maxRecDepth 100000 in
theorem in4_no {K : K4} (hG : Good4 K) (w : World) (d : Nat) (s : S4) (h : Par4 K w d s) (hn : s.er = 0 → ¬ d < 30) : Calls Try.prog 139 #[.pointer (some ⟨K.gp, 0, none⟩)] w (GivesV4 K d s (.bool false) (in4S K.L d s) w) := by
  obtain ⟨_, _, p2, _, p4, _, _⟩ := h.cells
  have kf := fail2_any hG w d s h
  unfold in4S
  by_cases h0 : s.er = 0
  · have e0 : ((s.er : Int) != 0) = false := by simp; omega
    have hd := hn h0
    have e1 : decide ((30 : Int) ≤ (d : Int)) = true := by simp; omega
    rw [if_pos ⟨h0, hd⟩]
    clear h hn hd h0
    go_enter Try.func139, Try.ntmps139
    go_wp2_with fail
    (with_reducible refine kf.mono ?_)
    rintro e w1 ⟨rfl, hp, hg, hm⟩
    have HP := Lib.hid hp
    have HGg := Lib.hid hg
    have HM := Lib.hid hm
    clear hp hg hm
    go_wp2_with fail
    go_ret
    exact ⟨rfl, HP.out, HGg.out, HM.out⟩
  · have e0 : ((s.er : Int) != 0) = true := by simp; omega
    rw [if_neg (fun h => h0 h.1)]
    have HH := Lib.hid h
    clear h hn h0 kf
    go_enter Try.func139, Try.ntmps139
    go_wp2_with fail
    go_ret
    exact ⟨rfl, HH.out, gb_refl _ _, Mono4.refl _⟩
set_option maxHeartbeats 4000000 in
set_option maxRecDepth 100000 in
theorem part4_any {K : K4} (hG : Good4 K) (w : World) (d : Nat) (s : S4) (h : Par4 K w d s) : Calls Try.prog 146 #[.pointer (some ⟨K.gp, 0, none⟩)] w (GivesU4 K d s (part4 K.L s) w) := by
  obtain ⟨_, _, p2, _, _, p5, _⟩ := h.cells
  have kf := fail2_any hG w d s h
  have hm := Mono4.part K.L s
  have hlt := h.lt
  unfold part4 at hm ⊢
  have fin : ∀ W S, Par4 K W d S → S.parts = s.parts → S.k < K.L.length → W.cell? ⟨K.gp, 5, none⟩ = some (.int .i64 s.parts) ∧ W.frozen? ⟨K.gp, 5, none⟩ = false ∧ Par4 K (W.setCell ⟨K.gp, 5, none⟩ (.int .i64 (wrap64 (s.parts + 1)))) d { S with parts := wrap64 (s.parts + 1) } := fun W S hP hs hk => by
    obtain ⟨_, _, _, _, _, q5, _⟩ := hP.cells
    rw [hs] at q5
    exact ⟨q5, hP.frozen 5, hP.set hG 5 _ rfl hk⟩
  have FIN := Lib.hid fin
  clear fin
  by_cases h0 : s.er = 0
  · have e0 : ((s.er : Int) == 0) = true := by simp; omega
    by_cases h3 : 300 ≤ s.parts
    · have e1 : decide ((300 : Int) ≤ s.parts) = true := by simp; omega
      rw [if_pos ⟨h0, h3⟩] at hm ⊢
      have hk : (fail4 K.L 2 s).k < K.L.length := by rw [fail4_k]; exact hlt
      have hpp : (fail4 K.L 2 s).parts = s.parts := by unfold fail4; split <;> rfl
      obtain ⟨S, hS⟩ : ∃ S, S = fail4 K.L 2 s := ⟨_, rfl⟩
      rw [← hS] at hk hpp kf hm ⊢
      have HM := Lib.hid hm
      have HK := Lib.hid hk
      have HPP := Lib.hid hpp
      clear h h0 h3 hS hm hlt hk hpp
      go_enter Try.func146, Try.ntmps146
      go_wp2_with fail
      (with_reducible refine kf.mono ?_)
      rintro e w1 ⟨rfl, hp, hg, _⟩
      obtain ⟨q5, f5, hfin⟩ := FIN.out w1 S hp HPP.out HK.out
      have HGg := Lib.hid hg
      have HF := Lib.hid hfin
      clear hp hg hfin p5
      go_wp2_with fail
      go_end0
      exact ⟨rfl, HF.out, gb_trans HGg.out (gb_set w1 K.gp 5 _), HM.out⟩
    · have e1 : decide ((300 : Int) ≤ s.parts) = false := by simp; omega
      rw [if_neg (fun h => h3 h.2)] at hm ⊢
      obtain ⟨q5, f5, hfin⟩ := FIN.out w s h rfl hlt
      have HM := Lib.hid hm
      have HF := Lib.hid hfin
      clear h h0 h3 hm hlt kf hfin
      go_enter Try.func146, Try.ntmps146
      go_wp2_with fail
      go_end0
      exact ⟨rfl, HF.out, gb_set w K.gp 5 _, HM.out⟩
  · have e0 : ((s.er : Int) == 0) = false := by simp; omega
    rw [if_neg (fun h => h0 h.1)] at hm ⊢
    obtain ⟨q5, f5, hfin⟩ := FIN.out w s h rfl hlt
    have HM := Lib.hid hm
    have HF := Lib.hid hfin
    clear h h0 hm hlt kf hfin
    go_enter Try.func146, Try.ntmps146
    go_wp2_with fail
    go_end0
    exact ⟨rfl, HF.out, gb_set w K.gp 5 _, HM.out⟩
set_option maxHeartbeats 4000000 in
set_option maxRecDepth 100000 in
theorem name4_any {K : K4} (hG : Good4 K) (w : World) (d : Nat) (s : S4) (h : Par4 K w d s) : Calls Try.prog 119 #[.pointer (some ⟨K.gp, 0, none⟩)] w (GivesV4 K d s (.string (name4 K.L s).1) (name4 K.L s).2 w) := by
  obtain ⟨_, _, p2, _, _, _, _⟩ := h.cells
  have kw := w_any hG w d s h
  have kf := fun W (hp : Par4 K W d s) => fail7_any hG W d s hp
  have hm := Mono4.name K.L s
  have hlt := h.lt
  have hlast := inc_lt hG hlt
  have KF := Lib.hid kf
  clear kf
  unfold name4 at hm ⊢
  obtain ⟨y, hy⟩ : ∃ y, y = cur4 K.L s := ⟨_, rfl⟩
  by_cases h0 : s.er = 0
  · have e0 : ((s.er : Int) != 0) = false := by simp; omega
    by_cases h1 : (cur4 K.L s).kind = 1
    · have HLT := Lib.hid (hlast (by omega))
      have HM := Lib.hid (by simpa only [if_pos (And.intro h0 h1)] using hm : Mono4 s (inc4 s))
      rw [if_pos ⟨h0, h1⟩]
      have HH := Lib.hid h
      have hks := hG.few
      have hadd : IntKind.i64.wrap ((s.k : Int) + 1) = (s.k : Int) + 1 := by rw [IntKind.wrap_i64]; omega
      rw [← hy] at kw h1
      have hcell := fun W (hp : Par4 K W d s) => hp.cur_cell.2.1
      rw [← hy] at hcell ⊢
      have HC := Lib.hid hcell
      clear hy h hm hlast hlt hcell h0
      obtain ⟨yk, yt, yn, ya⟩ := y
      unfold W4.cells at kw
      simp only at kw h1 HC ⊢
      have kf0 := field4_k (yk : Int) yn (ya : Int) yt
      have e1 : ((yk : Int) != 1) = false := by simp; omega
      have k0 : (0 : Int) ≤ (s.k : Int) := by omega
      have k1 : (s.k : Int) < (K.L.length : Int) := by have := HH.out.lt; omega
      have hsub : IntKind.i64.wrap (s.k : Int) = (s.k : Int) := by rw [IntKind.wrap_i64]; omega
      clear h1 hks
      go_enter Try.func119, Try.ntmps119
      go_wp2_with fail
      (with_reducible refine kw.mono ?_)
      rintro e w1 ⟨rfl, hb1⟩
      have hp1 := HH.out.below hb1
      have HB1 := Lib.hid hb1
      obtain ⟨_, p1, _, _, _, _, _⟩ := hp1.cells
      have f1 := hp1.frozen 1
      have HP1 := Lib.hid hp1
      clear hb1 hp1 p2 kw
      go_wp2_with fail
      have hp2 := HP1.out.set hG 1 (.int .i64 ((s.k : Int) + 1)) (s' := inc4 s) (d' := d) (by unfold parC4 inc4; simp) HLT.out
      have hg2 := gb_trans (gb_below (r := some K.gp) HB1.out) (gb_set w1 K.gp 1 (.int .i64 ((s.k : Int) + 1)))
      have hc2 : (w1.setCell ⟨K.gp, 1, none⟩ (.int .i64 ((s.k : Int) + 1))).cell? ⟨K.gw, s.k * 4 + 1, none⟩ = some (.string yt) := by
        have := HC.out w1 HP1.out
        simp only [World.cell?] at this ⊢
        rw [heap_setCell_other w1 ⟨K.gp, 1, none⟩ K.gw _ hG.ne]
        exact this
      generalize w1.setCell ⟨K.gp, 1, none⟩ (.int .i64 ((s.k : Int) + 1)) = w2 at hp2 hg2 hc2 ⊢
      obtain ⟨q0, q1, _, _, _, _, _⟩ := hp2.cells
      have q1' : w2.cell? ⟨K.gp, 1, none⟩ = some (.int .i64 ((s.k : Int) + 1)) := by rw [q1]; unfold inc4; simp
      have HP2 := Lib.hid hp2
      have HG2 := Lib.hid hg2
      clear hp2 hg2 q1 p1 f1
      go_still_tail 12, (by kernel_rfl)
      change wpList _ _ _ _ _ w2.drew
      have HP3 := Lib.hid (HP2.out.below ((Below.refl _ _).drew))
      have HG3 := Lib.hid (gb_drew HG2.out)
      clear q0 q1' hc2 HP2 HG2
      generalize w2.drew = w3 at HP3 HG3 ⊢
      go_wp2_with fail
      go_ret
      exact ⟨rfl, HP3.out, HG3.out, HM.out⟩
    · have HM := Lib.hid (by simpa only [if_neg (fun h : s.er = 0 ∧ (cur4 K.L s).kind = 1 => h1 h.2)] using hm : Mono4 s (fail4 K.L 7 s))
      rw [if_neg (fun h => h1 h.2)]
      rw [← hy] at kw h1
      have HH := Lib.hid h
      clear hy h hm hlast hlt h0
      obtain ⟨yk, yt, yn, ya⟩ := y
      unfold W4.cells at kw
      simp only at kw h1 ⊢
      have kf0 := field4_k (yk : Int) yn (ya : Int) yt
      have e1 : ((yk : Int) != 1) = true := by simp; omega
      clear h1
      go_enter Try.func119, Try.ntmps119
      go_wp2_with fail
      (with_reducible refine kw.mono ?_)
      rintro e w1 ⟨rfl, hb1⟩
      have kf := KF.out w1 (HH.out.below hb1)
      have HB1 := Lib.hid hb1
      clear hb1 p2 kw
      go_wp2_with fail
      (with_reducible refine kf.mono ?_)
      rintro e w2 ⟨rfl, hp2, hg2, _⟩
      have HP2 := Lib.hid hp2
      have HG2 := Lib.hid hg2
      clear hp2 hg2 kf
      go_wp2_with fail
      go_ret
      exact ⟨rfl, HP2.out, gb_trans (gb_below HB1.out) HG2.out, HM.out⟩
  · have e0 : ((s.er : Int) != 0) = true := by simp; omega
    have HM := Lib.hid (by simpa only [if_neg (fun h : s.er = 0 ∧ (cur4 K.L s).kind = 1 => h0 h.1)] using hm : Mono4 s (fail4 K.L 7 s))
    rw [if_neg (fun h => h0 h.1)]
    have kf := KF.out w h
    clear hy h hm hlast hlt h0 kw
    go_enter Try.func119, Try.ntmps119
    go_wp2_with fail
    (with_reducible refine kf.mono ?_)
    rintro e w2 ⟨rfl, hp2, hg2, _⟩
    have HP2 := Lib.hid hp2
    have HG2 := Lib.hid hg2
    clear hp2 hg2 kf
    go_wp2_with fail
    go_ret
    exact ⟨rfl, HP2.out, HG2.out, HM.out⟩
end Go.Proofs.Ytejljfoacbpliaa

namespace Go.Proofs.Ytejljfoacbpliaa
open Go Go.RowKit
theorem size_e4 : (Try.prog.info? 53).map (·.size) = some 5 := by kernel_rfl
theorem e4_one (o m : ByteArray) (n a : Int) (x : Option Addr) (l c : Nat) : (#[.string o, .string m, .int .i64 n, .int .i64 a, .slice x l c] : Array Value).all (·.oneCell') = true := by simp [Value.oneCell']
def CX4 (K : K4) (f : FuncId) (d : Nat) (p : S4 → Ex × S4) : Prop := ∀ w s, Par4 K w d s → Calls Try.prog f #[.pointer (some ⟨K.gp, 0, none⟩)] w (GivesX4 K d s (p s) w)
theorem kidsZ (ok : Nat → Prop) (w : World) : KidsD ok w exZ none 0 := IsD.nil (Nat.zero_le _)
set_option maxHeartbeats 4000000 in
set_option maxRecDepth 100000 in
theorem expr4_any {K : K4} (hG : Good4 K) {d n : Nat} (hdn : d + n = 30) (sub : S4 → Ex × S4) (ha : n ≠ 0 → CX4 K 140 (d + 1) sub) : CX4 K 123 d (deep4 K.L n sub (fun a => a)) := by
  intro w s h
  have F1 := (Fr.start h).alloc w.heap.size rfl 53 #[.string ⟨#[]⟩, .string ⟨#[]⟩, .int .i64 0, .int .i64 0, .slice none 0 0]
  have HSE := Lib.hid size_e4
  unfold deep4
  by_cases h0 : s.er = 0 ∧ n ≠ 0
  · rw [if_pos h0.1, if_neg h0.2]
    have ki := in4_yes hG _ d s F1.par h0.1 (by omega)
    have HA := Lib.hid (ha h0.2)
    have hd0 : IntKind.i64.wrap (((d + 1 : Nat) : Int) - 1) = (d : Int) := by rw [IntKind.wrap_i64]; omega
    have hd1 : ((d + 1 : Nat) : Int) = (d : Int) + 1 := by omega
    obtain ⟨r, hr⟩ : ∃ r, r = sub s := ⟨_, rfl⟩
    have HF1 := Lib.hid F1
    rw [← hr]
    have HR := Lib.hid hr
    clear h0 ha h F1 hr
    go_enter Try.func123, Try.ntmps123
    go_wp2_with fail
    (with_reducible refine ki.mono ?_)
    rintro e w1 ⟨rfl, hp, hg, _⟩
    have F2 := HF1.out.call hp hg
    have ka := HA.out w1 s hp
    rw [← HR.out] at ka
    have HF2 := Lib.hid F2
    clear hp hg ki F2
    go_wp2_with fail
    (with_reducible refine ka.mono ?_)
    rintro e w2 ⟨x, c, rfl, ht, hp, hg, hm⟩
    obtain ⟨a, S⟩ := r
    unfold exV
    simp only at ht hp hm ⊢
    have F3 := (HF2.out.callT hp hg ht).alloc w2.heap.size rfl 53 #[.string a.op, .string a.name, .int .i64 a.n, .int .i64 (a.at_ : Int), .slice x a.kids.length c]
    have HM := Lib.hid hm
    clear ht hp hg hm ka
    obtain ⟨_, _, _, _, q4, _, _⟩ := F3.par.cells
    have f4 := F3.par.frozen 4
    rw [hd1] at q4
    have F4 := F3.own hG 4 (.int .i64 (d : Int)) (s' := S) (d' := d) (by unfold parC4; simp) F3.par.lt
    have HF4 := Lib.hid F4
    have HL := Lib.hid (F4.get 1 rfl)
    have HS := Lib.hid (F4.get 0 rfl)
    have F5 := F4.store 0 rfl #[.string a.op, .string a.name, .int .i64 a.n, .int .i64 (a.at_ : Int), .slice x a.kids.length c]
    have HF5 := Lib.hid F5
    clear F3 F4 F5
    go_wp2_with (first | (refine wpList_load_row rfl 53 (.tmp 3) rfl w2.heap.size rfl 53 #[.string a.op, .string a.name, .int .i64 a.n, .int .i64 (a.at_ : Int), .slice x a.kids.length c] (0, 0) _ HL.out Try.underlying53 rfl HSE.out ?_) | (refine wpList_store_row rfl 53 (.tmp 2) (.tmp 17) rfl w.heap.size #[.string a.op, .string a.name, .int .i64 a.n, .int .i64 (a.at_ : Int), .slice x a.kids.length c] rfl rfl 53 _ HS.out HSE.out rfl (e4_one _ _ _ _ _ _ _) ?_))
    refine bodyPost_ret (v := .agg #[.string a.op, .string a.name, .int .i64 a.n, .int .i64 (a.at_ : Int), .slice x a.kids.length c]) (results_cell_row (p := 2) (ty := 53) rfl _ _ w.heap.size 53 _ (0, 0) _ rfl (HF5.out.get 0 rfl) Try.underlying53 rfl HSE.out) rfl ⟨x, c, rfl, HF5.out.out 0 rfl, HF5.out.par, HF5.out.gb, HM.out⟩
  · have hn : s.er = 0 → ¬ d < 30 := fun e => by have : ¬ n ≠ 0 := fun hx => h0 ⟨e, hx⟩; omega
    have ki := in4_no hG _ d s F1.par hn
    have hres : (if s.er = 0 then if n = 0 then (exZ, fail4 K.L 2 s) else ((sub s).1, (sub s).2) else (exZ, s)) = (exZ, in4S K.L d s) := by
      unfold in4S
      by_cases e : s.er = 0
      · rw [if_pos e, if_pos (show n = 0 by have : ¬ n ≠ 0 := fun hx => h0 ⟨e, hx⟩; omega), if_pos ⟨e, hn e⟩]
      · rw [if_neg e, if_neg (fun h => e h.1)]
    rw [hres]
    have HF1 := Lib.hid F1
    clear h0 ha h F1 hn hres
    go_enter Try.func123, Try.ntmps123
    go_wp2_with fail
    (with_reducible refine ki.mono ?_)
    rintro e w1 ⟨rfl, hp, hg, hm⟩
    have F2 := HF1.out.call hp hg
    have HS := Lib.hid (F2.get 0 rfl)
    have HF3 := Lib.hid (F2.store 0 rfl #[.string ⟨#[]⟩, .string ⟨#[]⟩, .int .i64 0, .int .i64 0, .slice none 0 0])
    have HM := Lib.hid hm
    clear hp hg ki F2 hm
    go_wp2_with (refine wpList_store_row rfl 53 (.tmp 2) (.tmp 7) rfl w.heap.size #[.string ⟨#[]⟩, .string ⟨#[]⟩, .int .i64 0, .int .i64 0, .slice none 0 0] rfl rfl 53 _ HS.out HSE.out rfl (e4_one _ _ _ _ _ _ _) ?_)
    refine bodyPost_ret (v := .agg #[.string ⟨#[]⟩, .string ⟨#[]⟩, .int .i64 0, .int .i64 0, .slice none 0 0]) (results_cell_row (p := 2) (ty := 53) rfl _ _ w.heap.size 53 _ (0, 0) _ rfl (HF3.out.get 0 rfl) Try.underlying53 rfl HSE.out) rfl ⟨none, 0, rfl, kidsZ _ _, HF3.out.par, HF3.out.gb, HM.out⟩
set_option maxHeartbeats 4000000 in
set_option maxRecDepth 100000 in
theorem inner4_any {K : K4} (hG : Good4 K) {d n : Nat} (hdn : d + n = 30) (sub : S4 → Ex × S4) (ha : n ≠ 0 → CX4 K 151 (d + 1) sub) : CX4 K 152 d (deep4 K.L n sub (fun a => a)) := by
  intro w s h
  have F1 := (Fr.start h).alloc w.heap.size rfl 53 #[.string ⟨#[]⟩, .string ⟨#[]⟩, .int .i64 0, .int .i64 0, .slice none 0 0]
  have HSE := Lib.hid size_e4
  unfold deep4
  by_cases h0 : s.er = 0 ∧ n ≠ 0
  · rw [if_pos h0.1, if_neg h0.2]
    have ki := in4_yes hG _ d s F1.par h0.1 (by omega)
    have HA := Lib.hid (ha h0.2)
    have hd0 : IntKind.i64.wrap (((d + 1 : Nat) : Int) - 1) = (d : Int) := by rw [IntKind.wrap_i64]; omega
    have hd1 : ((d + 1 : Nat) : Int) = (d : Int) + 1 := by omega
    obtain ⟨r, hr⟩ : ∃ r, r = sub s := ⟨_, rfl⟩
    have HF1 := Lib.hid F1
    rw [← hr]
    have HR := Lib.hid hr
    clear h0 ha h F1 hr
    go_enter Try.func152, Try.ntmps152
    go_wp2_with fail
    (with_reducible refine ki.mono ?_)
    rintro e w1 ⟨rfl, hp, hg, _⟩
    have F2 := HF1.out.call hp hg
    have ka := HA.out w1 s hp
    rw [← HR.out] at ka
    have HF2 := Lib.hid F2
    clear hp hg ki F2
    go_wp2_with fail
    (with_reducible refine ka.mono ?_)
    rintro e w2 ⟨x, c, rfl, ht, hp, hg, hm⟩
    obtain ⟨a, S⟩ := r
    unfold exV
    simp only at ht hp hm ⊢
    have F3 := (HF2.out.callT hp hg ht).alloc w2.heap.size rfl 53 #[.string a.op, .string a.name, .int .i64 a.n, .int .i64 (a.at_ : Int), .slice x a.kids.length c]
    have HM := Lib.hid hm
    clear ht hp hg hm ka
    obtain ⟨_, _, _, _, q4, _, _⟩ := F3.par.cells
    have f4 := F3.par.frozen 4
    rw [hd1] at q4
    have F4 := F3.own hG 4 (.int .i64 (d : Int)) (s' := S) (d' := d) (by unfold parC4; simp) F3.par.lt
    have HF4 := Lib.hid F4
    have HL := Lib.hid (F4.get 1 rfl)
    have HS := Lib.hid (F4.get 0 rfl)
    have F5 := F4.store 0 rfl #[.string a.op, .string a.name, .int .i64 a.n, .int .i64 (a.at_ : Int), .slice x a.kids.length c]
    have HF5 := Lib.hid F5
    clear F3 F4 F5
    go_wp2_with (first | (refine wpList_load_row rfl 53 (.tmp 3) rfl w2.heap.size rfl 53 #[.string a.op, .string a.name, .int .i64 a.n, .int .i64 (a.at_ : Int), .slice x a.kids.length c] (0, 0) _ HL.out Try.underlying53 rfl HSE.out ?_) | (refine wpList_store_row rfl 53 (.tmp 2) (.tmp 17) rfl w.heap.size #[.string a.op, .string a.name, .int .i64 a.n, .int .i64 (a.at_ : Int), .slice x a.kids.length c] rfl rfl 53 _ HS.out HSE.out rfl (e4_one _ _ _ _ _ _ _) ?_))
    refine bodyPost_ret (v := .agg #[.string a.op, .string a.name, .int .i64 a.n, .int .i64 (a.at_ : Int), .slice x a.kids.length c]) (results_cell_row (p := 2) (ty := 53) rfl _ _ w.heap.size 53 _ (0, 0) _ rfl (HF5.out.get 0 rfl) Try.underlying53 rfl HSE.out) rfl ⟨x, c, rfl, HF5.out.out 0 rfl, HF5.out.par, HF5.out.gb, HM.out⟩
  · have hn : s.er = 0 → ¬ d < 30 := fun e => by have : ¬ n ≠ 0 := fun hx => h0 ⟨e, hx⟩; omega
    have ki := in4_no hG _ d s F1.par hn
    have hres : (if s.er = 0 then if n = 0 then (exZ, fail4 K.L 2 s) else ((sub s).1, (sub s).2) else (exZ, s)) = (exZ, in4S K.L d s) := by
      unfold in4S
      by_cases e : s.er = 0
      · rw [if_pos e, if_pos (show n = 0 by have : ¬ n ≠ 0 := fun hx => h0 ⟨e, hx⟩; omega), if_pos ⟨e, hn e⟩]
      · rw [if_neg e, if_neg (fun h => e h.1)]
    rw [hres]
    have HF1 := Lib.hid F1
    clear h0 ha h F1 hn hres
    go_enter Try.func152, Try.ntmps152
    go_wp2_with fail
    (with_reducible refine ki.mono ?_)
    rintro e w1 ⟨rfl, hp, hg, hm⟩
    have F2 := HF1.out.call hp hg
    have HS := Lib.hid (F2.get 0 rfl)
    have HF3 := Lib.hid (F2.store 0 rfl #[.string ⟨#[]⟩, .string ⟨#[]⟩, .int .i64 0, .int .i64 0, .slice none 0 0])
    have HM := Lib.hid hm
    clear hp hg ki F2 hm
    go_wp2_with (refine wpList_store_row rfl 53 (.tmp 2) (.tmp 7) rfl w.heap.size #[.string ⟨#[]⟩, .string ⟨#[]⟩, .int .i64 0, .int .i64 0, .slice none 0 0] rfl rfl 53 _ HS.out HSE.out rfl (e4_one _ _ _ _ _ _ _) ?_)
    refine bodyPost_ret (v := .agg #[.string ⟨#[]⟩, .string ⟨#[]⟩, .int .i64 0, .int .i64 0, .slice none 0 0]) (results_cell_row (p := 2) (ty := 53) rfl _ _ w.heap.size 53 _ (0, 0) _ rfl (HF3.out.get 0 rfl) Try.underlying53 rfl HSE.out) rfl ⟨none, 0, rfl, kidsZ _ _, HF3.out.par, HF3.out.gb, HM.out⟩
end Go.Proofs.Ytejljfoacbpliaa

namespace Go.Proofs.Ytejljfoacbpliaa
open Go Go.RowKit
def mS4 (K : K4) (s : S4) : Nat := if s.er = 0 then K.L.length + 1 - s.k else 0
def cellN (w : World) (g j : Nat) : Nat := match w.cell? ⟨g, j, none⟩ with | some (.int _ x) => x.toNat | _ => 0
def mea4 (K : K4) (w : World) : Nat := if cellN w K.gp 2 = 0 then K.L.length + 1 - cellN w K.gp 1 else 0
theorem mea4_par {K : K4} {w : World} {d : Nat} {s : S4} (h : Par4 K w d s) : mea4 K w = mS4 K s := by
  obtain ⟨_, p1, p2, _, _, _, _⟩ := h.cells
  unfold mea4 mS4 cellN
  rw [p1, p2]
  simp
theorem Fr.only {K : K4} {w0 w : World} {d : Nat} {bl : List (Nat × TypeId × Array Value)} {tr : List (Value × Dt)} {s : S4} (h : Fr K w0 d bl tr w s) (tr' : List (Value × Dt)) (hs : ∀ x ∈ tr', x ∈ tr) : Fr K w0 d bl tr' w s :=
  ⟨h.par, h.gb, h.gp, h.gw, h.blk, fun x hx => h.tree x (hs x hx), h.srt⟩
theorem take_part4 {L : List W4} {x : ByteArray} {s : S4} (h : is4 L x s = true) : (take4 L x (part4 L s)).2.er = 0 → s.er = 0 ∧ (take4 L x (part4 L s)).2.k = s.k + 1 := by
  intro he
  have h0 := (is4_kind h).2
  have hp : (part4 L s).er = 0 := by
    by_cases e : (part4 L s).er = 0
    · exact e
    · exact absurd he ((Mono4.take L x _).er e)
  have hi : is4 L x (part4 L s) = true := by
    unfold is4 at h ⊢
    rw [cur4_part, hp]
    rw [h0] at h
    exact h
  unfold take4
  rw [hi, if_pos rfl]
  exact ⟨h0, by show (part4 L s).k + 1 = _; rw [part4_k]⟩
theorem mS4_lt {K : K4} {s s2 s3 : S4} (h0 : s.er = 0) (hlt : s.k < K.L.length) (h2 : s2.er = 0 → s2.k = s.k + 1) (h3 : Mono4 s2 s3) : mS4 K s3 < mS4 K s := by
  unfold mS4
  rw [if_pos h0]
  split
  · rename_i h
    have : s2.er = 0 := by
      by_cases e : s2.er = 0
      · exact e
      · exact absurd h (h3.er e)
    have := h2 this
    have := h3.k
    omega
  · omega
theorem mS4_bound (K : K4) (s : S4) : mS4 K s < K.L.length + 2 := by
  unfold mS4; split <;> omega
end Go.Proofs.Ytejljfoacbpliaa

namespace Go.Proofs.Ytejljfoacbpliaa
open Go Go.RowKit
def CR4 (K : K4) (lv : Int) (d : Nat) (p : S4 → Ex × S4) : Prop := ∀ w s, Par4 K w d s → Calls Try.prog 145 #[.pointer (some ⟨K.gp, 0, none⟩), .int .i64 lv] w (GivesX4 K d s (p s) w)
set_option maxHeartbeats 4000000 in
set_option maxRecDepth 100000 in
theorem fby4_any {K : K4} (hG : Good4 K) {d n : Nat} (hdn : d + n = 30) (fst sub : S4 → Ex × S4) (ka : CX4 K 149 d fst) (kb : n ≠ 0 → CX4 K 148 (d + 1) sub) :
    CX4 K 148 d (fun s => let a := fst s; if is4 K.L (⟨#[102, 98, 121]⟩ : ByteArray) a.2 = true then deep4 K.L n sub (op2 (⟨#[102, 98, 121]⟩ : ByteArray) (cur4 K.L a.2).at_ a.1) (take4 K.L (⟨#[102, 98, 121]⟩ : ByteArray) (part4 K.L a.2)).2 else a) := by
  intro w s h
  have F1 := (Fr.start h).alloc w.heap.size rfl 53 #[.string ⟨#[]⟩, .string ⟨#[]⟩, .int .i64 0, .int .i64 0, .slice none 0 0]
  have HSE := Lib.hid size_e4
  have ka := ka _ s F1.par
  simp only
  obtain ⟨a0, ha0⟩ : ∃ r, r = fst s := ⟨_, rfl⟩
  rw [← ha0] at ka ⊢
  obtain ⟨a, s1⟩ := a0
  simp only at ka ⊢
  have hw := fun W (hp : Par4 K W d s1) => w_any hG W d s1 hp
  have hi := fun W (hp : Par4 K W d s1) => is4_any (⟨#[102, 98, 121]⟩ : ByteArray) hG W d s1 hp
  have hpt := fun W (hp : Par4 K W d s1) => part4_any hG W d s1 hp
  have htk := fun W (hp : Par4 K W d (part4 K.L s1)) => take4_any (⟨#[102, 98, 121]⟩ : ByteArray) hG W d _ hp
  have hmp := Mono4.part K.L s1
  have hmt := Mono4.take K.L (⟨#[102, 98, 121]⟩ : ByteArray) (part4 K.L s1)
  obtain ⟨bb, hbb⟩ : ∃ b, b = is4 K.L (⟨#[102, 98, 121]⟩ : ByteArray) s1 := ⟨_, rfl⟩
  obtain ⟨yy, hyy⟩ : ∃ y, y = cur4 K.L s1 := ⟨_, rfl⟩
  rw [← hbb] at hi ⊢
  rw [← hyy] at hw ⊢
  obtain ⟨yk, yt, yn, ya⟩ := yy
  unfold W4.cells at hw
  simp only at hw ⊢
  have kfi := field4_a (yk : Int) yn (ya : Int) yt
  have HF1 := Lib.hid F1
  have HW := Lib.hid hw
  have HI := Lib.hid hi
  have HPT := Lib.hid hpt
  clear ha0 h F1 hw hi hpt hbb hyy
  cases bb
  · rw [if_neg (by decide)]
    clear hmp hmt htk HPT kb
    go_enter Try.func148, Try.ntmps148
    go_wp2_with fail
    (with_reducible refine ka.mono ?_)
    rintro e w1 ⟨x, c, rfl, ht, hp, hg, hm1⟩
    unfold exV
    simp only at ht hp hm1 ⊢
    have F2 := (HF1.out.callT hp hg ht).alloc w1.heap.size rfl 53 #[.string a.op, .string a.name, .int .i64 a.n, .int .i64 (a.at_ : Int), .slice x a.kids.length c]
    have kw := HW.out _ F2.par
    have HM1 := Lib.hid hm1
    have HF2 := Lib.hid F2
    clear ht hp hg ka hm1 F2
    go_wp2_with fail
    (with_reducible refine kw.mono ?_)
    rintro e w2 ⟨rfl, hb2⟩
    have F3 := HF2.out.call (HF2.out.par.below hb2) (gb_below hb2)
    have ki := HI.out _ F3.par
    have HF3 := Lib.hid F3
    clear hb2 kw F3
    go_wp2_with fail
    (with_reducible refine ki.mono ?_)
    rintro e w3 ⟨rfl, hp, hg, _⟩
    have F4 := HF3.out.call hp hg
    have HL := Lib.hid (F4.get 1 rfl)
    have HS := Lib.hid (F4.get 0 rfl)
    have HF5 := Lib.hid (F4.store 0 rfl #[.string a.op, .string a.name, .int .i64 a.n, .int .i64 (a.at_ : Int), .slice x a.kids.length c])
    clear hp hg ki F4
    go_wp2_with (first | (refine wpList_load_row rfl 53 (.tmp 3) rfl w1.heap.size rfl 53 #[.string a.op, .string a.name, .int .i64 a.n, .int .i64 (a.at_ : Int), .slice x a.kids.length c] (0, 0) _ HL.out Try.underlying53 rfl HSE.out ?_) | (refine wpList_store_row rfl 53 (.tmp 2) (.tmp 14) rfl w.heap.size #[.string a.op, .string a.name, .int .i64 a.n, .int .i64 (a.at_ : Int), .slice x a.kids.length c] rfl rfl 53 _ HS.out HSE.out rfl (e4_one _ _ _ _ _ _ _) ?_))
    refine bodyPost_ret (v := .agg #[.string a.op, .string a.name, .int .i64 a.n, .int .i64 (a.at_ : Int), .slice x a.kids.length c]) (results_cell_row (p := 2) (ty := 53) rfl _ _ w.heap.size 53 _ (0, 0) _ rfl (HF5.out.get 0 rfl) Try.underlying53 rfl HSE.out) rfl ⟨x, c, rfl, HF5.out.out 0 rfl, HF5.out.par, HF5.out.gb, HM1.out⟩
  · rw [if_pos rfl]
    obtain ⟨t1, ht1⟩ : ∃ t, t = (take4 K.L (⟨#[102, 98, 121]⟩ : ByteArray) (part4 K.L s1)).1 := ⟨_, rfl⟩
    obtain ⟨s3, hs3⟩ : ∃ t, t = (take4 K.L (⟨#[102, 98, 121]⟩ : ByteArray) (part4 K.L s1)).2 := ⟨_, rfl⟩
    rw [← hs3] at hmt ⊢
    rw [← ht1, ← hs3] at htk
    have HTK := Lib.hid htk
    have HMT := Lib.hid (hmp.trans hmt)
    clear ht1 hs3 htk hmt hmp
    unfold deep4
    by_cases h0 : s3.er = 0 ∧ n ≠ 0
    · rw [if_pos h0.1, if_neg h0.2]
      have ki := fun W (hp : Par4 K W d s3) => in4_yes hG W d s3 hp h0.1 (by omega)
      have KI := Lib.hid ki
      have HA := Lib.hid (kb h0.2)
      have hd0 : IntKind.i64.wrap (((d + 1 : Nat) : Int) - 1) = (d : Int) := by rw [IntKind.wrap_i64]; omega
      have hd1 : ((d + 1 : Nat) : Int) = (d : Int) + 1 := by omega
      obtain ⟨r, hr⟩ : ∃ r, r = sub s3 := ⟨_, rfl⟩
      rw [← hr]
      have HR := Lib.hid hr
      clear h0 kb hr ki
      go_enter Try.func148, Try.ntmps148
      go_wp2_with fail
      (with_reducible refine ka.mono ?_)
      rintro e w1 ⟨x, c, rfl, ht, hp, hg, hm1⟩
      unfold exV
      simp only at ht hp hm1 ⊢
      have F2 := (HF1.out.callT hp hg ht).alloc w1.heap.size rfl 53 #[.string a.op, .string a.name, .int .i64 a.n, .int .i64 (a.at_ : Int), .slice x a.kids.length c]
      have kw := HW.out _ F2.par
      have HM1 := Lib.hid hm1
      have HF2 := Lib.hid F2
      clear ht hp hg ka hm1 F2
      go_wp2_with fail
      (with_reducible refine kw.mono ?_)
      rintro e w2 ⟨rfl, hb2⟩
      have F3 := HF2.out.call (HF2.out.par.below hb2) (gb_below hb2)
      have ki := HI.out _ F3.par
      have HF3 := Lib.hid F3
      clear hb2 kw F3
      go_wp2_with fail
      (with_reducible refine ki.mono ?_)
      rintro e w3 ⟨rfl, hp, hg, _⟩
      have F4 := HF3.out.call hp hg
      have kp := HPT.out _ F4.par
      have HF4 := Lib.hid F4
      clear hp hg ki F4
      go_wp2_with fail
      (with_reducible refine kp.mono ?_)
      rintro e w4 ⟨rfl, hp, hg, _⟩
      have F5 := HF4.out.call hp hg
      have kt := HTK.out _ F5.par
      have HF5 := Lib.hid F5
      clear hp hg kp F5
      go_wp2_with fail
      (with_reducible refine kt.mono ?_)
      rintro e w5 ⟨rfl, hp, hg, _⟩
      have F6 := HF5.out.call hp hg
      have HF6 := Lib.hid F6
      clear hp hg kt
      have ki := KI.out _ F6.par
      clear F6
      go_wp2_with fail
      (with_reducible refine ki.mono ?_)
      rintro e w6' ⟨rfl, hp, hg, _⟩
      have F7 := HF6.out.call hp hg
      have kb := HA.out _ s3 F7.par
      rw [← HR.out] at kb
      have HF7 := Lib.hid F7
      clear hp hg ki F7
      go_wp2_with fail
      (with_reducible refine kb.mono ?_)
      rintro e w6 ⟨y, cb, rfl, ht, hp, hg, hm⟩
      obtain ⟨b, S⟩ := r
      unfold exV
      simp only at ht hp hm ⊢
      have F8 := (HF7.out.callT hp hg ht).alloc w6.heap.size rfl 53 #[.string b.op, .string b.name, .int .i64 b.n, .int .i64 (b.at_ : Int), .slice y b.kids.length cb]
      have HM := Lib.hid (HM1.out.trans (HMT.out.trans hm))
      clear ht hp hg hm kb
      obtain ⟨_, _, _, _, q4, _, _⟩ := F8.par.cells
      have f4 := F8.par.frozen 4
      rw [hd1] at q4
      have F9 := F8.own hG 4 (.int .i64 (d : Int)) (s' := S) (d' := d) (by unfold parC4; simp) F8.par.lt
      have HL1 := Lib.hid (F9.get 1 rfl)
      have HL2 := Lib.hid (F9.get 2 rfl)
      have ka := F9.inn 0 rfl
      have kb := F9.inn 1 rfl
      have F10 := F9.make 53 #[.string a.op, .string a.name, .int .i64 a.n, .int .i64 (a.at_ : Int), .slice x a.kids.length c, .string b.op, .string b.name, .int .i64 b.n, .int .i64 (b.at_ : Int), .slice y b.kids.length cb] (w6.heap.size + 1) (by simp) 2 (by decide) (by decide) (exsD [a, b]) (by
        rw [exsD_cons, exsD_cons, exsD_nil, List.append_nil]
        exact RowsD.app (KidsD.rows (e := b) kb) _ _ (KidsD.rows (e := a) ka))
      have HS := Lib.hid (F10.get 0 rfl)
      have HF11 := Lib.hid (F10.store 0 rfl #[.string ⟨#[102, 98, 121]⟩, .string ⟨#[]⟩, .int .i64 0, .int .i64 (ya : Int), .slice (some ⟨w6.heap.size + 1, 0, none⟩) 2 2])
      clear F8 F9 F10 ka kb
      go_wp2_with (first | (refine wpList_load_row rfl 53 (.tmp 3) rfl w1.heap.size rfl 53 #[.string a.op, .string a.name, .int .i64 a.n, .int .i64 (a.at_ : Int), .slice x a.kids.length c] (0, 0) _ HL1.out Try.underlying53 rfl HSE.out ?_) | (refine wpList_load_row rfl 53 (.tmp 5) rfl w6.heap.size rfl 53 #[.string b.op, .string b.name, .int .i64 b.n, .int .i64 (b.at_ : Int), .slice y b.kids.length cb] (0, 0) _ HL2.out Try.underlying53 rfl HSE.out ?_) | (refine wpList_store_row rfl 53 (.tmp 2) (.tmp 36) rfl w.heap.size #[.string ⟨#[102, 98, 121]⟩, .string ⟨#[]⟩, .int .i64 0, .int .i64 (ya : Int), .slice (some ⟨w6.heap.size + 1, 0, none⟩) 2 2] rfl rfl 53 _ HS.out HSE.out rfl (e4_one _ _ _ _ _ _ _) ?_))
      refine bodyPost_ret (v := .agg #[.string ⟨#[102, 98, 121]⟩, .string ⟨#[]⟩, .int .i64 0, .int .i64 (ya : Int), .slice (some ⟨w6.heap.size + 1, 0, none⟩) 2 2]) (results_cell_row (p := 2) (ty := 53) rfl _ _ w.heap.size 53 _ (0, 0) _ rfl (HF11.out.get 0 rfl) Try.underlying53 rfl HSE.out) rfl ⟨some ⟨w6.heap.size + 1, 0, none⟩, 2, rfl, HF11.out.out 2 rfl, HF11.out.par, HF11.out.gb, HM.out⟩
    · have hn : s3.er = 0 → ¬ d < 30 := fun e => by have : ¬ n ≠ 0 := fun hx => h0 ⟨e, hx⟩; omega
      have ki := fun W (hp : Par4 K W d s3) => in4_no hG W d s3 hp hn
      have KI := Lib.hid ki
      have hres : ∀ g : Ex → Ex, (if s3.er = 0 then if n = 0 then (exZ, fail4 K.L 2 s3) else (g (sub s3).1, (sub s3).2) else (exZ, s3)) = (exZ, in4S K.L d s3) := fun g => by
        unfold in4S
        by_cases e : s3.er = 0
        · rw [if_pos e, if_pos (show n = 0 by have : ¬ n ≠ 0 := fun hx => h0 ⟨e, hx⟩; omega), if_pos ⟨e, hn e⟩]
        · rw [if_neg e, if_neg (fun h => e h.1)]
      rw [hres]
      clear h0 kb hn hres ki
      go_enter Try.func148, Try.ntmps148
      go_wp2_with fail
      (with_reducible refine ka.mono ?_)
      rintro e w1 ⟨x, c, rfl, ht, hp, hg, hm1⟩
      unfold exV
      simp only at ht hp hm1 ⊢
      have F2 := (HF1.out.callT hp hg ht).alloc w1.heap.size rfl 53 #[.string a.op, .string a.name, .int .i64 a.n, .int .i64 (a.at_ : Int), .slice x a.kids.length c]
      have kw := HW.out _ F2.par
      have HM1 := Lib.hid hm1
      have HF2 := Lib.hid F2
      clear ht hp hg ka hm1 F2
      go_wp2_with fail
      (with_reducible refine kw.mono ?_)
      rintro e w2 ⟨rfl, hb2⟩
      have F3 := HF2.out.call (HF2.out.par.below hb2) (gb_below hb2)
      have ki := HI.out _ F3.par
      have HF3 := Lib.hid F3
      clear hb2 kw F3
      go_wp2_with fail
      (with_reducible refine ki.mono ?_)
      rintro e w3 ⟨rfl, hp, hg, _⟩
      have F4 := HF3.out.call hp hg
      have kp := HPT.out _ F4.par
      have HF4 := Lib.hid F4
      clear hp hg ki F4
      go_wp2_with fail
      (with_reducible refine kp.mono ?_)
      rintro e w4 ⟨rfl, hp, hg, _⟩
      have F5 := HF4.out.call hp hg
      have kt := HTK.out _ F5.par
      have HF5 := Lib.hid F5
      clear hp hg kp F5
      go_wp2_with fail
      (with_reducible refine kt.mono ?_)
      rintro e w5 ⟨rfl, hp, hg, _⟩
      have F6 := HF5.out.call hp hg
      have HF6 := Lib.hid F6
      clear hp hg kt
      have ki := KI.out _ F6.par
      clear F6
      go_wp2_with fail
      (with_reducible refine ki.mono ?_)
      rintro e w6 ⟨rfl, hp, hg, hm⟩
      have F7 := HF6.out.call hp hg
      have HS := Lib.hid (F7.get 0 rfl)
      have HF8 := Lib.hid (F7.store 0 rfl #[.string ⟨#[]⟩, .string ⟨#[]⟩, .int .i64 0, .int .i64 0, .slice none 0 0])
      have HM := Lib.hid (HM1.out.trans (HMT.out.trans hm))
      clear hp hg ki F7 hm
      go_wp2_with (refine wpList_store_row rfl 53 (.tmp 2) (.tmp 22) rfl w.heap.size #[.string ⟨#[]⟩, .string ⟨#[]⟩, .int .i64 0, .int .i64 0, .slice none 0 0] rfl rfl 53 _ HS.out HSE.out rfl (e4_one _ _ _ _ _ _ _) ?_)
      refine bodyPost_ret (v := .agg #[.string ⟨#[]⟩, .string ⟨#[]⟩, .int .i64 0, .int .i64 0, .slice none 0 0]) (results_cell_row (p := 2) (ty := 53) rfl _ _ w.heap.size 53 _ (0, 0) _ rfl (HF8.out.get 0 rfl) Try.underlying53 rfl HSE.out) rfl ⟨none, 0, rfl, kidsZ _ _, HF8.out.par, HF8.out.gb, HM.out⟩
end Go.Proofs.Ytejljfoacbpliaa

namespace Go.Proofs.Ytejljfoacbpliaa
open Go Go.RowKit
theorem Fr.less {K : K4} {w0 w : World} {d : Nat} {bl bl' : List (Nat × TypeId × Array Value)} {tr : List (Value × Dt)} {s : S4} (h : Fr K w0 d bl tr w s) (hs : bl'.Sublist bl) : Fr K w0 d bl' tr w s :=
  ⟨h.par, h.gb, h.gp, h.gw, fun x hx => h.blk x (hs.subset hx), fun x hx => (h.tree x hx).mono (fun k hk _ => ⟨hk.1, fun y hy => hk.2 y (hs.subset hy)⟩), h.srt.sublist hs⟩
def findN4 (L : List W4) (ops : List ByteArray) (s : S4) (i : Nat) : ByteArray := find4 L (ops.take i) s
theorem findN4_succ (L : List W4) (ops : List ByteArray) (s : S4) (i : Nat) (h : i < ops.length) : findN4 L ops s (i + 1) = if is4 L (ops.getD i ⟨#[]⟩) s = true then ops.getD i ⟨#[]⟩ else findN4 L ops s i := by
  unfold findN4 find4
  have e : ops.take (i + 1) = ops.take i ++ [ops.getD i ⟨#[]⟩] := by
    rw [List.take_add_one, List.getElem?_eq_getElem h]
    simp [List.getD_eq_getElem?_getD, List.getElem?_eq_getElem h]
  rw [e, List.foldl_append]
  rfl
theorem findN4_all (L : List W4) (ops : List ByteArray) (s : S4) : findN4 L ops s ops.length = find4 L ops s := by
  unfold findN4
  rw [List.take_length]
theorem find4_is (L : List W4) (s : S4) : ∀ (ops : List ByteArray) (r : ByteArray), ops.foldl (fun r o => if is4 L o s = true then o else r) r = r ∨ is4 L (ops.foldl (fun r o => if is4 L o s = true then o else r) r) s = true
  | [], r => .inl rfl
  | o :: l, r => by
    rw [List.foldl_cons]
    rcases find4_is L s l (if is4 L o s = true then o else r) with h | h
    · rw [h]
      split
      · rename_i h1; exact .inr h1
      · exact .inl rfl
    · exact .inr h
theorem find4_good (L : List W4) (ops : List ByteArray) (s : S4) (h : (find4 L ops s).data.toList ≠ []) : is4 L (find4 L ops s) s = true := by
  rcases find4_is L s ops ⟨#[]⟩ with e | e
  · exact absurd (by unfold find4; rw [e]) h
  · exact e
theorem rowL4_stop (L : List W4) (ops : List ByteArray) (one : Bool) (sub : S4 → Ex × S4) (f : Nat) (a : Ex) (s : S4) (h : (find4 L ops s).data.toList = []) : rowL4 L ops one sub f a s = (a, s) := by
  cases f with
  | zero => rfl
  | succ f => unfold rowL4; rw [if_pos h]
theorem rowL4_go (L : List W4) (ops : List ByteArray) (one : Bool) (sub : S4 → Ex × S4) (f : Nat) (a : Ex) (s : S4) (h : (find4 L ops s).data.toList ≠ []) : rowL4 L ops one sub (f + 1) a s =
    if one = true then (op2 (find4 L ops s) (cur4 L s).at_ a (sub (take4 L (find4 L ops s) (part4 L s)).2).1, (sub (take4 L (find4 L ops s) (part4 L s)).2).2) else rowL4 L ops one sub f (op2 (find4 L ops s) (cur4 L s).at_ a (sub (take4 L (find4 L ops s) (part4 L s)).2).1) (sub (take4 L (find4 L ops s) (part4 L s)).2).2 := by
  conv => lhs; unfold rowL4
  rw [if_neg h]
set_option maxHeartbeats 4000000 in
set_option maxRecDepth 100000 in
theorem row5_any {K : K4} {d : Nat} (fby : S4 → Ex × S4) (ka : CX4 K 148 d fby) : CR4 K 5 d fby := by
  intro w s h
  have F1 := (Fr.start h).alloc w.heap.size rfl 53 #[.string ⟨#[]⟩, .string ⟨#[]⟩, .int .i64 0, .int .i64 0, .slice none 0 0]
  have HSE := Lib.hid size_e4
  have ka := ka _ s F1.par
  obtain ⟨a0, ha0⟩ : ∃ r, r = fby s := ⟨_, rfl⟩
  rw [← ha0] at ka ⊢
  obtain ⟨a, s1⟩ := a0
  have HF1 := Lib.hid F1
  clear ha0 h F1
  go_enter Try.func145, Try.ntmps145
  go_wp2_with fail
  (with_reducible refine ka.mono ?_)
  rintro e w1 ⟨x, c, rfl, ht, hp, hg, hm1⟩
  unfold exV
  simp only at ht hp hm1 ⊢
  have F2 := HF1.out.callT hp hg ht
  have HS := Lib.hid (F2.get 0 rfl)
  have HF3 := Lib.hid (F2.store 0 rfl #[.string a.op, .string a.name, .int .i64 a.n, .int .i64 (a.at_ : Int), .slice x a.kids.length c])
  have HM1 := Lib.hid hm1
  clear ht hp hg ka hm1 F2
  go_wp2_with (refine wpList_store_row rfl 53 (.tmp 4) (.tmp 14) rfl w.heap.size #[.string a.op, .string a.name, .int .i64 a.n, .int .i64 (a.at_ : Int), .slice x a.kids.length c] rfl rfl 53 _ HS.out HSE.out rfl (e4_one _ _ _ _ _ _ _) ?_)
  refine bodyPost_ret (v := .agg #[.string a.op, .string a.name, .int .i64 a.n, .int .i64 (a.at_ : Int), .slice x a.kids.length c]) (results_cell_row (p := 4) (ty := 53) rfl _ _ w.heap.size 53 _ (0, 0) _ rfl (HF3.out.get 0 rfl) Try.underlying53 rfl HSE.out) rfl ⟨x, c, rfl, HF3.out.out 0 rfl, HF3.out.par, HF3.out.gb, HM1.out⟩
end Go.Proofs.Ytejljfoacbpliaa

namespace Go.Proofs.Ytejljfoacbpliaa
open Go Go.RowKit
theorem Fr.word {K : K4} {w0 w : World} {d : Nat} {bl : List (Nat × TypeId × Array Value)} {tr : List (Value × Dt)} {s : S4} (h : Fr K w0 d bl tr w s) (i : Nat) {b yk ya : Nat} {yt : ByteArray} {yn : Int} {T : TypeId} (hi : bl[i]? = some (b, T, #[.int .i64 (yk : Int), .string yt, .int .i64 yn, .int .i64 (ya : Int)])) :
    w.cell? ⟨b, 0, none⟩ = some (.int .i64 (yk : Int)) ∧ w.cell? ⟨b, 2, none⟩ = some (.int .i64 yn) ∧ w.cell? ⟨b, 3, none⟩ = some (.int .i64 (ya : Int)) :=
  ⟨cell_of_row w b 0 _ _ _ (h.get i hi), cell_of_row w b 2 _ _ _ (h.get i hi), cell_of_row w b 3 _ _ _ (h.get i hi)⟩
theorem wpList_appT {P : Program} {ops : Array Oper} {rest : List Oper} {o : Oper} {a : Act} {Q : Exit → Act → World → Prop} (hgd : o.guard = none) (s x : Operand) (t : TypeId) (ho : o.op = .call { callee := .builtin .append, args := #[s, x], argTypes := #[t, t] })
    {T : TypeId} {sz : Nat} {w : World} {b : Nat} {v : Value} {n : Nat} {ds : List Dt} (i : TypeInfo) (z : Value) (bytes : Nat) (ht : P.underlying t = some (.slice T)) (hi : P.info? T = some i) (hz : i.zero = some z)
    (hsize : i.size = sz) (hby : i.bytes = bytes) (hzs : z.cells.size = sz) (hsz : 0 < sz) (hbl : bytes ≤ 1000)
    (hs : a.eval s = v) (h : OwnD T sz w b v n ds) (hbw : b + 1 ≤ w.heap.size) {ok : Nat → Prop} (g m c : Nat) (hx : a.eval x = .slice (some ⟨g, 0, none⟩) m c) (es : List Dt) (hl : es.length = m * sz) (hm : 0 < m)
    (hd : IsD ok w (.slice (some ⟨g, 0, none⟩) m c) (.sl m es)) (hone : ∀ d ∈ es, d.one) (hok : ∀ k, ok k → k < w.heap.size → b < k ∧ some k ≠ v.ownBlock) (hnm : n + m ≤ 100000000000)
    (hK : ∀ v' w', OwnD T sz w' b v' (n + m) (ds ++ es) → w.grownBy w' v.ownBlock → (v'.ownBlock = v.ownBlock ∨ v'.ownBlock = some w.heap.size) → wpList P ops Q rest (a.put o.dst v') w') :
    wpList P ops Q (o :: rest) a w := by
  obtain ⟨g', e, _, _, hds⟩ := hd.some_ hm
  injection e with e
  injection e with e
  subst e
  obtain ⟨news, hr, hcells⟩ := hds.rows
  obtain ⟨v', w', hrun, h1, h2, h3⟩ := h.append (P := P) t o.type i z bytes ht hi hz hsize hby hzs hsz hbl hbw g 0 m c news es hl hr hcells hone hok hnm
  refine wpList_plain hgd fun K hK' => ?_
  unfold Oper.wp
  simp [execOp, ho, resolve, invoke, builtin, hs, hx, hrun, Result.andThen]
  exact hK' _ _ (hK v' w' h1 h2 h3)
theorem info_e4 : ∃ i, Try.prog.info? 53 = some i ∧ (∃ z, i.zero = some z ∧ z.cells.size = 5) ∧ i.size = 5 ∧ i.bytes = 72 := by
  have h : (Try.prog.info? 53).map (fun i => (i.zero.map (·.cells.size), i.size, i.bytes)) = some (some 5, 5, 72) := by kernel_rfl
  cases hi : Try.prog.info? 53 with
  | none => rw [hi] at h; simp at h
  | some i =>
    rw [hi] at h
    simp only [Option.map_some, Option.some.injEq, Prod.mk.injEq] at h
    obtain ⟨hz, hs, hb⟩ := h
    cases hzz : i.zero with
    | none => rw [hzz] at hz; simp at hz
    | some z => exact ⟨i, rfl, ⟨z, hzz, by rw [hzz] at hz; simpa using hz⟩, hs, hb⟩
theorem Fr.grow {K : K4} {w0 w w' : World} {d : Nat} {bl : List (Nat × TypeId × Array Value)} {s : S4} {row : Option Nat} (h : Fr K w0 d bl [] w s) (hg : w.grownBy w' row) (hr : ∀ k, row = some k → w0.heap.size ≤ k ∧ ∀ x ∈ bl, x.1 ≠ k) : Fr K w0 d bl [] w' s :=
  ⟨h.par.keep (hg.block _ h.par.gpl (fun e => by have := (hr _ e.symm).1; have := h.gp; omega)) (hg.block _ h.par.gwl (fun e => by have := (hr _ e.symm).1; have := h.gw; omega)) hg.size,
   ⟨hg.os.trans h.gb.os, hg.tape.trans h.gb.tape, hg.output.trans h.gb.output, Nat.le_trans h.gb.size hg.size, fun k hk hk2 => (hg.block k (Nat.lt_of_lt_of_le hk h.gb.size) (fun e => by have := (hr _ e.symm).1; omega)).trans (h.gb.block k hk hk2)⟩,
   h.gp, h.gw, fun x hx => ⟨(hg.block x.1 (h.lt x hx) (fun e => (hr _ e.symm).2 x hx rfl)).trans (h.blk x hx).1, (h.blk x hx).2⟩, fun x hx => by simp at hx, h.srt⟩
theorem IsD.made {ok : Nat → Prop} {w : World} (T : TypeId) (cs : Array Value) (b : Nat) (hb : b = w.heap.size) (n : Nat) (hn : 0 < n) (hm : n ≤ 1000000000) (ds : List Dt) (ho : ok w.heap.size) (hr : RowsD ok w cs.toList ds) : IsD ok (w.alloc (.cells cs T)) (.slice (some ⟨b, 0, none⟩) n n) (.sl n ds) := by
  subst hb
  have hbel : Below w.heap.size w (w.alloc (.cells cs T)) := (Below.refl _ _).alloc (Nat.le_refl _) _
  refine IsD.of_cells hn (Nat.le_refl _) (Nat.le_trans hm (by decide)) hm ho (by simp) (RowsD.toDs cs.toList ds 0 (hr.keep hbel.size (fun k _ hl => hbel.block k hl) (fun _ h _ => h)) fun j u hu => ?_)
  rw [Nat.zero_add]
  simp only [World.cell?, heap_alloc_new w (.cells cs T)]
  simpa using hu
theorem mS4_lt2 {K : K4} {s s2 : S4} (h0 : s.er = 0) (hlt : s.k < K.L.length) (h2 : s.k + 1 ≤ s2.k) : mS4 K s2 < mS4 K s := by
  unfold mS4
  rw [if_pos h0]
  split <;> omega
theorem callL4_go (L : List W4) (expr : S4 → Ex × S4) (f : Nat) (ks : List Ex) (s : S4) (h : s.er = 0) : callL4 L expr (f + 1) ks s = if (take4 L (⟨#[44]⟩ : ByteArray) (expr s).2).1 = true then callL4 L expr f (ks ++ [(expr s).1]) (take4 L (⟨#[44]⟩ : ByteArray) (expr s).2).2 else (ks ++ [(expr s).1], (take4 L (⟨#[44]⟩ : ByteArray) (expr s).2).2) := by
  conv => lhs; unfold callL4
  rw [if_pos h]
theorem callL4_stop (L : List W4) (expr : S4 → Ex × S4) (f : Nat) (ks : List Ex) (s : S4) (h : s.er ≠ 0) : callL4 L expr f ks s = (ks, s) := by
  cases f with
  | zero => rfl
  | succ f => unfold callL4; rw [if_neg h]
theorem primP4_mono (L : List W4) (s : S4) : Mono4 s (primP4 L s) := by
  unfold primP4
  split
  · exact Mono4.part L s
  · exact Mono4.refl s
theorem primP4_k (L : List W4) (s : S4) : (primP4 L s).k = s.k := by
  unfold primP4
  split
  · exact part4_k L s
  · rfl
def primB (L : List W4) (s : S4) : Bool := (cur4 L s).kind == 1 || (cur4 L s).kind == 3 || is4 L (⟨#[116, 114, 117, 101]⟩ : ByteArray) s || is4 L (⟨#[102, 97, 108, 115, 101]⟩ : ByteArray) s || is4 L (⟨#[105, 102]⟩ : ByteArray) s || is4 L (⟨#[109, 101, 114, 103, 101]⟩ : ByteArray) s
theorem primP4_eq (L : List W4) (s : S4) : primP4 L s = if primB L s = true then part4 L s else s := by
  unfold primP4 primB
  simp only [Bool.or_eq_true, beq_iff_eq, or_assoc]
def primG4 (L : List W4) (expr inner : S4 → Ex × S4) (s : S4) : Ex × S4 :=
  if is4 L (⟨#[40]⟩ : ByteArray) s = true then ((expr (inc4 s)).1, want4 L (⟨#[41]⟩ : ByteArray) (expr (inc4 s)).2)
  else
    let p := primP4 L s
    if p.er = 0 then
      if (cur4 L s).kind = 3 then (.mk (⟨#[105, 110, 116]⟩ : ByteArray) ⟨#[]⟩ (cur4 L s).n (cur4 L s).at_ [], inc4 p)
      else if is4 L (⟨#[116, 114, 117, 101]⟩ : ByteArray) p = true then (.mk (⟨#[98, 111, 111, 108]⟩ : ByteArray) ⟨#[]⟩ 1 (cur4 L s).at_ [], inc4 p)
      else if is4 L (⟨#[102, 97, 108, 115, 101]⟩ : ByteArray) p = true then (.mk (⟨#[98, 111, 111, 108]⟩ : ByteArray) ⟨#[]⟩ 0 (cur4 L s).at_ [], inc4 p)
      else if is4 L (⟨#[105, 102]⟩ : ByteArray) p = true then if4 L expr (cur4 L s).at_ (inc4 p)
      else if is4 L (⟨#[109, 101, 114, 103, 101]⟩ : ByteArray) p = true then merge4 L inner (cur4 L s).at_ (inc4 p)
      else named4 L expr (cur4 L s).at_ p
    else named4 L expr (cur4 L s).at_ p
theorem prim4_eq (L : List W4) (n : Nat) (sub : F4) : prim4 L n sub = primG4 L (exprN4 L n sub) (deep4 L n sub.prim (fun a => a)) := rfl
end Go.Proofs.Ytejljfoacbpliaa

namespace Go.Proofs.Ytejljfoacbpliaa
open Go Go.RowKit
def vrC (v : Vr) : List Value := [.string v.name, .int .i64 (v.kind : Int), .string v.on, .bool v.not_, .int .i64 (v.at_ : Int)]
def vrD (v : Vr) : List Dt := [.v (.string v.name), .v (.int .i64 (v.kind : Int)), .v (.string v.on), .v (.bool v.not_), .v (.int .i64 (v.at_ : Int))]
def vrsD (l : List Vr) : List Dt := l.flatMap vrD
theorem vrsD_nil : vrsD [] = [] := rfl
theorem vrsD_cons (v : Vr) (r : List Vr) : vrsD (v :: r) = vrD v ++ vrsD r := rfl
theorem vrsD_app (a b : List Vr) : vrsD (a ++ b) = vrsD a ++ vrsD b := by simp [vrsD]
theorem vrsD_one_ (v : Vr) : vrsD [v] = vrD v := by simp [vrsD]
theorem vrsD_len : ∀ l : List Vr, (vrsD l).length = l.length * 5
  | [] => rfl
  | v :: r => by rw [vrsD_cons, List.length_append, vrsD_len r, List.length_cons]; show 5 + _ = _; omega
theorem vrD_one (v : Vr) : ∀ d ∈ vrD v, d.one := fun d hd => by
  simp only [vrD, List.mem_cons, List.not_mem_nil, or_false] at hd
  rcases hd with rfl | rfl | rfl | rfl | rfl <;> rfl
theorem vrsD_ones (l : List Vr) : ∀ d ∈ vrsD l, d.one := fun d hd => by
  obtain ⟨v, _, h⟩ := List.mem_flatMap.1 hd
  exact vrD_one v d h
theorem vrC_rows (ok : Nat → Prop) (w : World) (v : Vr) : RowsD ok w (vrC v) (vrD v) := by
  refine ⟨?_, ?_, ?_, ?_, ?_, trivial⟩ <;> (unfold IsD; rfl)
theorem v4_one (o m : ByteArray) (k a : Int) (b : Bool) : (#[.string o, .int .i64 k, .string m, .bool b, .int .i64 a] : Array Value).all (·.oneCell') = true := by simp [Value.oneCell']
theorem size_v4 : (Try.prog.info? 62).map (·.size) = some 5 := by kernel_rfl
theorem info_v4 : ∃ i, Try.prog.info? 62 = some i ∧ (∃ z, i.zero = some z ∧ z.cells.size = 5) ∧ i.size = 5 ∧ i.bytes = 56 := by
  have h : (Try.prog.info? 62).map (fun i => (i.zero.map (·.cells.size), i.size, i.bytes)) = some (some 5, 5, 56) := by kernel_rfl
  cases hi : Try.prog.info? 62 with
  | none => rw [hi] at h; simp at h
  | some i =>
    rw [hi] at h
    simp only [Option.map_some, Option.some.injEq, Prod.mk.injEq] at h
    obtain ⟨hz, hs, hb⟩ := h
    cases hzz : i.zero with
    | none => rw [hzz] at hz; simp at hz
    | some z => exact ⟨i, rfl, ⟨z, hzz, by rw [hzz] at hz; simpa using hz⟩, hs, hb⟩
theorem RowsD.set {ok : Nat → Prop} {w : World} (u : Value) : ∀ (xs : List Value) (ds : List Dt) (j : Nat), RowsD ok w xs ds → RowsD ok w (xs.set j u) (ds.set j (.v u))
  | [], [], _, _ => trivial
  | x :: xs, d :: ds, 0, ⟨_, h2⟩ => ⟨by unfold IsD; rfl, h2⟩
  | x :: xs, d :: ds, j + 1, ⟨h1, h2⟩ => ⟨h1, RowsD.set u xs ds j h2⟩
  | [], _ :: _, _, h => h.elim
  | _ :: _, [], _, h => h.elim
theorem OwnD.set {T : TypeId} {sz : Nat} {w : World} {b g n c : Nat} {ds : List Dt} (h : OwnD T sz w b (.slice (some ⟨g, 0, none⟩) n c) n ds) (j : Nat) (u : Value) (hj : j < n * sz) :
    OwnD T sz (w.setCell ⟨g, j, none⟩ u) b (.slice (some ⟨g, 0, none⟩) n c) n (ds.set j (.v u)) ∧ w.grownBy (w.setCell ⟨g, j, none⟩ u) (some g) ∧ (∃ u0, w.cell? ⟨g, j, none⟩ = some u0) ∧ w.frozen? ⟨g, j, none⟩ = false := by
  obtain ⟨xs, h1, h2⟩ := h
  obtain ⟨h3, h4⟩ := h1.stored j u
  have hx : j < xs.length := by rw [h1.1]; exact hj
  refine ⟨⟨xs.set j u, h3, (RowsD.set u xs ds j h2).keep h4.size (fun k hk hl => h4.block k hl hk.2) (fun _ h _ => h)⟩, h4, ⟨xs[j], ?_⟩, h1.frozenAt j⟩
  rw [h1.cellAt j hj, List.getElem?_eq_getElem hx]
theorem OwnD.some_ {T : TypeId} {sz : Nat} {w : World} {b n : Nat} {v : Value} {ds : List Dt} (h : OwnD T sz w b v n ds) (hn : 0 < n) : ∃ g c, v = .slice (some ⟨g, 0, none⟩) n c ∧ b < g ∧ g < w.heap.size ∧ n ≤ c ∧ c ≤ maxLen := by
  obtain ⟨xs, h1, _⟩ := h
  rcases h1.2 with ⟨_, h0⟩ | ⟨g, cap, cur, rfl, hb, hg, hn, hc, _⟩
  · omega
  · exact ⟨g, cap, rfl, by omega, (Array.getElem?_eq_some_iff.1 hg).1, hn, hc⟩
theorem OwnD.keptG {T : TypeId} {sz : Nat} {w w' : World} {b gp : Nat} {v : Value} {n : Nat} {ds : List Dt} (h : OwnD T sz w b v n ds) (hg : w.grownBy w' (some gp)) (hb : gp ≤ b) : OwnD T sz w' b v n ds :=
  h.kept hg (fun k hk => by injection hk with hk; omega)
theorem Fr.turnG {K : K4} {w0 w w' : World} {d g : Nat} {s : S4} (h : Fr K w0 d [] [] w s) (hg : w.grownBy w' (some g)) (hr : w0.heap.size ≤ g) : Fr K w0 d [] [] w' s :=
  h.grow hg (fun k hk => by injection hk with hk; exact ⟨by omega, fun x hx => by simp at hx⟩)
theorem gb_setCell {w W : World} {gp : Nat} (h : w.grownBy W (some gp)) (b i : Nat) (hb : w.heap.size ≤ b) (v : Value) : w.grownBy (W.setCell ⟨b, i, none⟩ v) (some gp) :=
  ⟨h.os, h.tape, h.output, by have := h.size; simpa using this, fun k hk hr => (heap_setCell_other W ⟨b, i, none⟩ k v (by show k ≠ b; omega)).trans (h.block k hk hr)⟩
def GivesD4 (K : K4) (d : Nat) (s : S4) (r : List Vr × S4) (w : World) (e : Ending) (w' : World) : Prop :=
  ∃ v, e = .returned v ∧ OwnD 62 5 w' (w.heap.size - 1) v r.1.length (vrsD r.1) ∧ Par4 K w' d r.2 ∧ w.grownBy w' (some K.gp) ∧ Mono4 s r.2 ∧ r.1.length + s.k ≤ r.2.k + 1
theorem declL4_stop (L : List W4) (f : Nat) (l : List Vr) (s : S4) (h : s.er ≠ 0) : declL4 L f l s = (some l, s) := by
  cases f with
  | zero => rfl
  | succ f => unfold declL4; rw [if_neg h]
theorem declL4_full (L : List W4) (f : Nat) (l : List Vr) (s : S4) (h : s.er = 0) (hf : (cur4 L s).kind = 1 ∧ s.names = 64) : declL4 L (f + 1) l s = (none, fail4 L 2 s) := by
  unfold declL4; rw [if_pos h, if_pos hf]
theorem declL4_go (L : List W4) (f : Nat) (l : List Vr) (s : S4) (h : s.er = 0) (hf : ¬ ((cur4 L s).kind = 1 ∧ s.names = 64)) : declL4 L (f + 1) l s =
    if (take4 L (⟨#[44]⟩ : ByteArray) { (name4 L s).2 with names := wrap64 ((name4 L s).2.names + 1) }).1 = true then declL4 L f (l ++ [⟨(name4 L s).1, 0, ⟨#[]⟩, false, (cur4 L s).at_⟩]) (take4 L (⟨#[44]⟩ : ByteArray) { (name4 L s).2 with names := wrap64 ((name4 L s).2.names + 1) }).2 else (some (l ++ [⟨(name4 L s).1, 0, ⟨#[]⟩, false, (cur4 L s).at_⟩]), (take4 L (⟨#[44]⟩ : ByteArray) { (name4 L s).2 with names := wrap64 ((name4 L s).2.names + 1) }).2) := by
  conv => lhs; unfold declL4
  rw [if_pos h, if_neg hf]
theorem name4_step {L : List W4} {s : S4} (h : (name4 L s).2.er = 0) : (name4 L s).2.k = s.k + 1 := by
  unfold name4 at h ⊢
  split
  · rfl
  · rename_i hc
    rw [if_neg hc] at h
    exact absurd h (fail4_er L 7 (by decide) s)
theorem take4_true {L : List W4} {x : ByteArray} {s : S4} (h : (take4 L x s).1 = true) : s.er = 0 ∧ (take4 L x s).2.k = s.k + 1 ∧ (take4 L x s).2.er = 0 := by
  unfold take4 at h ⊢
  simp only at h ⊢
  have := (is4_kind h).2
  rw [h, if_pos rfl]
  exact ⟨this, rfl, this⟩
def kinded (k : Nat) (i : Nat) (l : List Vr) : List Vr := (l.take i).map (fun v => { v with kind := k }) ++ l.drop i
theorem kinded_zero (k : Nat) (l : List Vr) : kinded k 0 l = l := by simp [kinded]
theorem kinded_all (k : Nat) (l : List Vr) : kinded k l.length l = l.map (fun v => { v with kind := k }) := by simp [kinded]
theorem kinded_succ (k i : Nat) (l : List Vr) (h : i < l.length) : vrsD (kinded k (i + 1) l) = (vrsD (kinded k i l)).set (i * 5 + 1) (.v (.int .i64 (k : Int))) := by
  unfold kinded
  have e1 : l.drop i = l[i] :: l.drop (i + 1) := List.drop_eq_getElem_cons h
  have e2 : l.take (i + 1) = l.take i ++ [l[i]] := by rw [List.take_add_one, List.getElem?_eq_getElem h]; rfl
  rw [e1, e2, List.map_append, vrsD_app, vrsD_app, vrsD_app, vrsD_cons]
  have hl : (vrsD ((l.take i).map fun v => { v with kind := k })).length = i * 5 := by rw [vrsD_len]; simp; omega
  rw [List.set_append_right _ _ (by rw [hl]; omega), hl, Nat.add_sub_cancel_left, List.append_assoc]
  rfl
end Go.Proofs.Ytejljfoacbpliaa

namespace Go.Proofs.Ytejljfoacbpliaa
open Go Go.RowKit
set_option maxHeartbeats 4000000 in
set_option maxRecDepth 100000 in
theorem decl4_any {K : K4} (hG : Good4 K) (w : World) (d : Nat) (s : S4) (h : Par4 K w d s) : Calls Try.prog 138 #[.pointer (some ⟨K.gp, 0, none⟩)] w (GivesD4 K d s (decl4 K.L s) w) := by
  have HF0 := Lib.hid (Fr.start h)
  have HSV := Lib.hid size_v4
  have HIV := Lib.hid info_v4
  obtain ⟨QQ, hQQ⟩ : ∃ q, q = declL4 K.L (K.L.length + 1) [] s := ⟨_, rfl⟩
  have HQ0 := Lib.hid hQQ
  have hw0 : 0 < w.heap.size := by have := h.gpl; omega
  have HW0 := Lib.hid hw0
  clear h hQQ hw0
  go_enter Try.func138, Try.ntmps138
  go_wp2_with fail
  go_loopw [3] (fun v3 wr => ∃ (V : Value) (f : Nat) (l : List Vr) (S : S4), V = v3 ∧ declL4 K.L f l S = QQ ∧ mS4 K S ≤ f ∧ Fr K w d [] [] wr S ∧ OwnD 62 5 wr (w.heap.size - 1) V l.length (vrsD l) ∧ Mono4 s S ∧ l.length + s.k ≤ S.k)
    (fun _ wr => mea4 K wr)
  case atStart => exact ⟨_, K.L.length + 1, [], s, rfl, HQ0.out.symm, by have := mS4_bound K s; omega, HF0.out, OwnD.nil _ _ _ _, Mono4.refl s, by simp⟩
  case round =>
    clear HF0
    obtain ⟨V, f, l, S, rfl, hR, hf, hF, hO, hm, hks⟩ := hrel
    have hme := mea4_par hF.par
    obtain ⟨_, p1, p2, _, _, _, p6⟩ := hF.par.cells
    have HFe := Lib.hid hF
    have HO := Lib.hid hO
    have HMM := Lib.hid hm
    have HKS := Lib.hid hks
    have HME := Lib.hid hme
    have HFu := Lib.hid hf
    by_cases e0 : S.er = 0
--
    · have d0 : ((S.er : Int) == 0) = true := by simp; omega
      have hmS : 0 < mS4 K S := by unfold mS4; rw [if_pos e0]; have := hF.par.lt; omega
      obtain ⟨f', hf'⟩ : ∃ f', f = f' + 1 := ⟨f - 1, by omega⟩
      have HE0 := Lib.hid e0
      have HR := Lib.hid ((congrArg (fun k => declL4 K.L k l S) hf'.symm).trans hR)
      have HF' := Lib.hid hf'
      have kw := w_any hG _ d S hF.par
      obtain ⟨yy, hyy⟩ : ∃ y, y = cur4 K.L S := ⟨_, rfl⟩
      have HYY := Lib.hid hyy
      rw [← hyy] at kw
      obtain ⟨yk, yt, yn, ya⟩ := yy
      unfold W4.cells at kw
      have kfi := field4_a (yk : Int) yn (ya : Int) yt
      have kfk := field4_k (yk : Int) yn (ya : Int) yt
      clear hF hO hm hks hme hf hR hf' hmS hyy e0
      by_cases hfull : yk = 1 ∧ S.names = 64
      · have d1 : ((yk : Int) == 1) = true := by simp; omega
        have d2 : (S.names == 64) = true := by simp; omega
        have hQ := declL4_full K.L f' l S HE0.out (by rw [← HYY.out]; exact hfull)
        rw [HR.out] at hQ
        have HQ := Lib.hid hQ
        have kf := fun W (hp : Par4 K W d S) => fail2_any hG W d S hp
        have HKF := Lib.hid kf
        have HMF := Lib.hid (HMM.out.trans (Mono4.fail K.L 2 (by decide) S))
        clear hfull hQ kf
        go_wp2_with fail
        (with_reducible refine kw.mono ?_)
        rintro e w2 ⟨rfl, hb⟩
        have F2 := HFe.out.call (HFe.out.par.below hb) (gb_below hb)
        have kf := HKF.out _ F2.par
        obtain ⟨_, q1, q2, _, _, _, q6⟩ := F2.par.cells
        have HF2 := Lib.hid F2
        clear hb kw F2 p1 p2 p6
        go_wp2_with fail
        (with_reducible refine kf.mono ?_)
        rintro e w3 ⟨rfl, hp, hg, _⟩
        have HF3 := Lib.hid (HF2.out.call hp hg)
        clear hp hg kf
        go_wp2_with fail
        go_ret
        have hdec : decl4 K.L s = ([], fail4 K.L 2 S) := by unfold decl4; rw [← HQ0.out, HQ.out]
        rw [hdec]
        exact ⟨_, rfl, OwnD.nil _ _ _ _, HF3.out.par, HF3.out.gb, HMF.out, by have := HMF.out.k; simp; omega⟩
      · have hgo := declL4_go K.L f' l S HE0.out (by rw [← HYY.out]; exact hfull)
        rw [HR.out] at hgo
        have hfb : ((yk : Int) == 1) = false ∨ ((yk : Int) == 1) = true ∧ (S.names == 64) = false := by
          by_cases h1 : yk = 1
          · refine .inr ⟨by simp; omega, ?_⟩
            have : S.names ≠ 64 := fun h => hfull ⟨h1, h⟩
            simpa using this
          · exact .inl (by simp; omega)
        have km := fun W (hp : Par4 K W d S) => name4_any hG W d S hp
        have hm1 := Mono4.name K.L S
        have hst := @name4_step K.L S
        obtain ⟨nm, hn1⟩ : ∃ t, t = (name4 K.L S).1 := ⟨_, rfl⟩
        obtain ⟨s5, hs5⟩ : ∃ t, t = (name4 K.L S).2 := ⟨_, rfl⟩
        rw [← hn1, ← hs5] at km hgo
        rw [← hs5] at hm1 hst
        rw [← HYY.out] at hgo
        simp only at hgo
        obtain ⟨s6, hs6⟩ : ∃ t : S4, t = { s5 with names := wrap64 (s5.names + 1) } := ⟨_, rfl⟩
        rw [← hs6] at hgo
        have h6k : s6.k = s5.k ∧ s6.er = s5.er := by rw [hs6]; exact ⟨rfl, rfl⟩
        have htr := @take4_true K.L (⟨#[44]⟩ : ByteArray) s6
        have ht1 := fun W (hp : Par4 K W d s6) => take4_any (⟨#[44]⟩ : ByteArray) hG W d s6 hp
        have hm2 := Mono4.take K.L (⟨#[44]⟩ : ByteArray) s6
        obtain ⟨tc, htc⟩ : ∃ t, t = (take4 K.L (⟨#[44]⟩ : ByteArray) s6).1 := ⟨_, rfl⟩
        obtain ⟨s7, hs7⟩ : ∃ t, t = (take4 K.L (⟨#[44]⟩ : ByteArray) s6).2 := ⟨_, rfl⟩
        rw [← htc, ← hs7] at ht1 hgo htr
        rw [← hs7] at hm2
        have hm56 : Mono4 s5 s6 := ⟨by rw [h6k.1]; exact Nat.le_refl _, fun h => by rw [h6k.2]; exact h⟩
        have HM7 := Lib.hid (HMM.out.trans (hm1.trans (hm56.trans hm2)))
        have HMS7 := Lib.hid (hm1.trans (hm56.trans hm2))
        have HPR := Lib.hid (show tc = true → S.k + 1 ≤ s7.k from fun h => by
          obtain ⟨h1, h2, _⟩ := htr h
          have := hst (by rw [← h6k.2]; exact h1)
          omega)
        have HKM := Lib.hid km
        have HT1 := Lib.hid ht1
        have HGo := Lib.hid hgo
        have HS6 := Lib.hid hs6
        obtain ⟨ks2, hk2⟩ : ∃ q, q = l ++ [(⟨nm, 0, ⟨#[]⟩, false, ya⟩ : Vr)] := ⟨_, rfl⟩
        have hk2l : ks2.length = l.length + 1 := by rw [hk2]; simp
        have HK2L := Lib.hid hk2l
        have HK2 := Lib.hid hk2
        rw [← hk2] at HGo
        clear hfull hgo km hm1 hst hn1 hs5 hs6 h6k htr ht1 hm2 htc hs7 hm56 hk2 hk2l
        rcases hfb with d1 | ⟨d1, d2⟩
        · go_wp2_with fail
          (with_reducible refine kw.mono ?_)
          rintro e w2 ⟨rfl, hb⟩
          have F2 := HFe.out.call (HFe.out.par.below hb) (gb_below hb)
          have hO2 := HO.out.below hb
          obtain ⟨_, q1, q2, _, _, _, q6⟩ := F2.par.cells
          have kw2 := w_any hG _ d S F2.par
          rw [← HYY.out] at kw2
          unfold W4.cells at kw2
          have HF2 := Lib.hid F2
          have HO2 := Lib.hid hO2
          clear hb kw F2 p1 p2 p6 hO2
          go_wp2_with fail
          (with_reducible refine kw2.mono ?_)
          rintro e w3 ⟨rfl, hb⟩
          have F3 := (HF2.out.call (HF2.out.par.below hb) (gb_below hb)).alloc w3.heap.size rfl 62 #[.string ⟨#[]⟩, .int .i64 0, .string ⟨#[]⟩, .bool false, .int .i64 (ya : Int)]
          have hO3 := HO2.out.below hb
          have km := HKM.out _ F3.par
          have HF3 := Lib.hid F3
          have HO3 := Lib.hid hO3
          clear hb kw2 F3 q1 q2 q6 hO3
          go_wp2_with fail
          (with_reducible refine km.mono ?_)
          rintro e w4 ⟨rfl, hp, hg, _⟩
          have F4 := HF3.out.call hp hg
          have hg3 := gb_trans (gb_below (r := some K.gp) ((Below.refl w3.heap.size w3).alloc (Nat.le_refl _) (.cells #[.string ⟨#[]⟩, .int .i64 0, .string ⟨#[]⟩, .bool false, .int .i64 (ya : Int)] 62))) hg
          have hw3 : w.heap.size ≤ w3.heap.size := HF3.out.ge 0 rfl
          have cv := cell_of_row w4 w3.heap.size 0 _ _ _ (F4.get 0 rfl)
          have fv := frozen_of_row w4 w3.heap.size 0 _ _ (F4.get 0 rfl)
          have F5 : Fr K w d [(w3.heap.size, 62, #[.string nm, .int .i64 0, .string ⟨#[]⟩, .bool false, .int .i64 (ya : Int)])] [] (w4.setCell ⟨w3.heap.size, 0, none⟩ (.string nm)) s5 := F4.cell 0 rfl 0 (.string nm)
          have hg5 := gb_setCell hg3 w3.heap.size 0 (Nat.le_refl _) (.string nm)
          obtain ⟨_, _, _, _, _, _, q6⟩ := F5.par.cells
          have f6 := F5.par.frozen 6
          have F6 := F5.own hG 6 (.int .i64 (wrap64 (s5.names + 1))) (s' := s6) (d' := d) (by rw [HS6.out]; rfl) (by rw [HS6.out]; exact F5.par.lt)
          have hg6 := gb_trans hg5 (gb_set (w4.setCell ⟨w3.heap.size, 0, none⟩ (.string nm)) K.gp 6 (.int .i64 (wrap64 (s5.names + 1))))
          have HL := Lib.hid (F6.get 0 rfl)
          have F7 := (F6.alloc w4.heap.size (by simp) 62 #[.string nm, .int .i64 0, .string ⟨#[]⟩, .bool false, .int .i64 (ya : Int)]).less (bl' := []) (List.nil_sublist _)
          have hg7 := gb_trans hg6 (gb_below (r := some K.gp) ((Below.refl _ ((w4.setCell ⟨w3.heap.size, 0, none⟩ (.string nm)).setCell ⟨K.gp, 6, none⟩ (.int .i64 (wrap64 (s5.names + 1))))).alloc (Nat.le_refl _) (.cells #[.string nm, .int .i64 0, .string ⟨#[]⟩, .bool false, .int .i64 (ya : Int)] 62)))
          have htr : IsD (w3.heap.size ≤ ·) (((w4.setCell ⟨w3.heap.size, 0, none⟩ (.string nm)).setCell ⟨K.gp, 6, none⟩ (.int .i64 (wrap64 (s5.names + 1)))).alloc (.cells #[.string nm, .int .i64 0, .string ⟨#[]⟩, .bool false, .int .i64 (ya : Int)] 62)) (.slice (some ⟨w4.heap.size, 0, none⟩) 1 1) (.sl 1 (vrsD [(⟨nm, 0, ⟨#[]⟩, false, ya⟩ : Vr)])) := IsD.made 62 _ _ (by simp) 1 (by decide) (by decide) _ (by have := hg3.size; simp; omega) (by
            rw [vrsD_one_]
            exact vrC_rows _ _ (⟨nm, 0, ⟨#[]⟩, false, ya⟩ : Vr))
          have hO7 := HO3.out.keptG hg7 (by have := HF3.out.gp; omega)
          have hOK : ∀ k, w3.heap.size ≤ k → (w.heap.size - 1) < k ∧ some k ≠ V.ownBlock := fun k hk => by
            refine ⟨by have := HW0.out; omega, fun e => ?_⟩
            have := (HO3.out.gt k e.symm).2
            omega
          obtain ⟨i5, hi5, ⟨z5, hz5, hzs5⟩, hs5', hb5⟩ := HIV.out
          have HI5' := Lib.hid hi5
          have HZ5 := Lib.hid hz5
          have HZS5 := Lib.hid hzs5
          have HS5 := Lib.hid hs5'
          have HB5 := Lib.hid hb5
          have HO7 := Lib.hid hO7
          have HTR := Lib.hid htr
          have HF7 := Lib.hid F7
          have HOK := Lib.hid hOK
          have HW3 := Lib.hid hw3
          have HG3 := Lib.hid hg3.size
          clear hp hg hg3 F4 F5 hg5 F6 hg6 F7 hg7 htr hO7 hOK km hi5 hz5 hzs5 hs5' hb5 hw3
          go_wp2_with (first | (refine wpList_load_row rfl 62 (.tmp 4) rfl w3.heap.size rfl 62 #[.string nm, .int .i64 0, .string ⟨#[]⟩, .bool false, .int .i64 (ya : Int)] (0, 0) _ HL.out Try.underlying62 rfl HSV.out ?_) | (refine wpList_appT rfl (.tmp 40) (.tmp 42) 35 rfl i5 z5 56 Try.underlying35 HI5'.out HZ5.out HS5.out HB5.out HZS5.out (by decide) (by decide) rfl HO7.out (by have := HW0.out; have := HW3.out; have := HG3.out; simp; omega) w4.heap.size 1 1 rfl (vrsD [(⟨nm, 0, ⟨#[]⟩, false, ya⟩ : Vr)]) (by rw [vrsD_len]; rfl) (by decide) HTR.out (vrsD_ones _) (fun k hk hl => HOK.out k hk) (by have := HKS.out; have := HFe.out.par.lt; have := hG.few; omega) ?_))
          intro v8 w8 hO8 hg8 _
          rw [← vrsD_app, ← HK2L.out, ← HK2.out] at hO8
          have F8 := HF7.out.grow hg8 (fun k hk => ⟨by have := (HO7.out.gt k hk).1; have := HW0.out; omega, fun x hx => by simp at hx⟩)
          have kt := HT1.out _ F8.par
          have HF8 := Lib.hid F8
          have HO8 := Lib.hid hO8
          clear hO8 hg8 F8 cv fv q6 f6
          go_wp2_with fail
          (with_reducible refine kt.mono ?_)
          rintro e w9 ⟨rfl, hp, hg, _⟩
          have HF9 := Lib.hid (HF8.out.call hp hg)
          have HO9 := Lib.hid (HO8.out.keptG hg (by have := HF8.out.gp; omega))
          clear hp hg kt
          cases tc with
          | true =>
            have HDEC := Lib.hid (show mS4 K s7 < mS4 K S from mS4_lt2 HE0.out HFe.out.par.lt (HPR.out rfl))
            have HNX := Lib.hid (show declL4 K.L f' ks2 s7 = QQ by rw [HGo.out]; simp)
            have HFL := Lib.hid (show mS4 K s7 ≤ f' by have := HFu.out; have := HF'.out; have := HDEC.out; omega)
            have HLL := Lib.hid (show ks2.length + s.k ≤ s7.k by have := HKS.out; have := HPR.out rfl; have := HK2L.out; omega)
            clear HGo
            go_wp2_with fail
            refine ⟨⟨_, f', ks2, s7, rfl, HNX.out, HFL.out, HF9.out, HO9.out, HM7.out, HLL.out⟩, ?_⟩
            rw [mea4_par HF9.out.par, HME.out]
            exact HDEC.out
          | false =>
            have HNX := Lib.hid (show (some ks2, s7) = QQ by rw [HGo.out]; simp)
            have HNB := Lib.hid (show ks2.length < 1000000 by have := HKS.out; have := HFe.out.par.lt; have := hG.few; have := HK2L.out; omega)
            have HLB := Lib.hid (show ks2.length + s.k ≤ s7.k + 1 by have := HKS.out; have := HK2L.out; have := HMS7.out.k; omega)
            clear HGo
            obtain ⟨x9, c9, rfl, _, _⟩ := HO9.out.slice
            have kw := want4_any (⟨#[58]⟩ : ByteArray) hG _ d s7 HF9.out.par
            have hmw := Mono4.want K.L (⟨#[58]⟩ : ByteArray) s7
            have HDEC := Lib.hid (show decl4 K.L s = (ks2.map fun v => { v with kind := if is4 K.L (⟨#[98, 111, 111, 108]⟩ : ByteArray) (want4 K.L (⟨#[58]⟩ : ByteArray) s7) = true then 1 else 2 }, if is4 K.L (⟨#[98, 111, 111, 108]⟩ : ByteArray) (want4 K.L (⟨#[58]⟩ : ByteArray) s7) = true then inc4 (want4 K.L (⟨#[58]⟩ : ByteArray) s7) else want4 K.L (⟨#[105, 110, 116]⟩ : ByteArray) (want4 K.L (⟨#[58]⟩ : ByteArray) s7)) by
              unfold decl4
              rw [← HQ0.out, ← HNX.out])
            obtain ⟨c, hc⟩ : ∃ q, q = want4 K.L (⟨#[58]⟩ : ByteArray) s7 := ⟨_, rfl⟩
            rw [← hc] at kw hmw HDEC
            have HMW := Lib.hid (HM7.out.trans hmw)
            have HMWk := Lib.hid hmw.k
            have ki := fun W (hp : Par4 K W d c) => is4_any (⟨#[98, 111, 111, 108]⟩ : ByteArray) hG W d c hp
            have kt := fun W (hp : Par4 K W d c) => take4_any (⟨#[98, 111, 111, 108]⟩ : ByteArray) hG W d c hp
            have kn := fun W (hp : Par4 K W d c) => want4_any (⟨#[105, 110, 116]⟩ : ByteArray) hG W d c hp
            unfold take4 at kt
            simp only at kt
            obtain ⟨bb, hbb⟩ : ∃ q, q = is4 K.L (⟨#[98, 111, 111, 108]⟩ : ByteArray) c := ⟨_, rfl⟩
            rw [← hbb] at ki kt HDEC
            have HKI := Lib.hid ki
            have HKN := Lib.hid kn
            clear hc hmw ki kn hbb
            go_wp2_with fail
            (with_reducible refine kw.mono ?_)
            rintro e wz ⟨rfl, hp, hg, _⟩
            have FZ := HF9.out.call hp hg
            have HOZ := Lib.hid (HO9.out.keptG hg (by have := HF9.out.gp; omega))
            have ki := HKI.out _ FZ.par
            have HFZ := Lib.hid FZ
            clear hp hg kw FZ
            cases bb with
            | true =>
              have HEND := Lib.hid (show decl4 K.L s = (ks2.map fun v => { v with kind := 1 }, inc4 c) by rw [HDEC.out]; simp)
              have HKT := Lib.hid (show ∀ W, Par4 K W d c → Calls Try.prog 121 #[.pointer (some ⟨K.gp, 0, none⟩), .string ⟨#[98, 111, 111, 108]⟩] W (GivesV4 K d c (.bool true) (inc4 c) W) from fun W hp => by have := kt W hp; simpa using this)
              clear kt HDEC
              go_wp2_with fail
              (with_reducible refine ki.mono ?_)
              rintro e wy ⟨rfl, hp, hg, _⟩
              have FY := HFZ.out.call hp hg
              have HOY := Lib.hid (HOZ.out.keptG hg (by have := HFZ.out.gp; omega))
              have kt := HKT.out _ FY.par
              have HFY := Lib.hid FY
              clear hp hg ki FY
              go_wp2_with fail
              (with_reducible refine kt.mono ?_)
              rintro e wx ⟨rfl, hp, hg, hmx⟩
              have FX := HFY.out.call hp hg
              have HOX := Lib.hid (HOY.out.keptG hg (by have := HFY.out.gp; omega))
              have HMX := Lib.hid hmx
              have HFX := Lib.hid FX
              clear hp hg kt FX hmx
              obtain ⟨SE, hSE⟩ : ∃ q, q = inc4 c := ⟨_, rfl⟩
              have HME := Lib.hid (show Mono4 s SE by rw [hSE]; exact HMW.out.trans HMX.out)
              have HSEk := Lib.hid (show c.k ≤ SE.k by rw [hSE]; exact (HMX.out).k)
              rw [← hSE] at HFX HEND
              clear hSE
              go_wp2_with fail
              go_loopw [6] (fun v6 wr => ∃ i : Nat, v6 = .int .i64 (i : Int) ∧ i ≤ ks2.length ∧ Fr K w d [] [] wr SE ∧ OwnD 62 5 wr (w.heap.size - 1) (.slice x9 ks2.length c9) ks2.length (vrsD (kinded 1 i ks2)))
                (fun v6 _ => ks2.length - (intOf v6).toNat)
              case atStart => exact ⟨0, rfl, Nat.zero_le _, HFX.out, by rw [kinded_zero]; exact HOX.out⟩
              case round =>
                clear HFX HOX
                obtain ⟨i, rfl, hin, hFi, hOi⟩ := hrel
                by_cases hil : i < ks2.length
                · have d1 : decide ((i : Int) < (ks2.length : Int)) = true := by simp; omega
                  have i0 : (0 : Int) ≤ (i : Int) := by omega
                  have i1 : (i : Int) < (ks2.length : Int) := by omega
                  have i2 : (i : Int) < 1000000 := by have := HNB.out; omega
                  obtain ⟨g, c', e, hbg, hgl, _, _⟩ := hOi.some_ (by omega)
                  injection e with e1 _ e3
                  subst e1 e3
                  obtain ⟨o1, o2, ⟨u0, o3⟩, o4⟩ := hOi.set (i * 5 + 1) (.int .i64 1) (by omega)
                  have HF2 := Lib.hid (hFi.turnG o2 (by omega))
                  have HO2 := Lib.hid (show OwnD 62 5 (wr.setCell ⟨g, i * 5 + 1, none⟩ (.int .i64 1)) (w.heap.size - 1) (.slice (some ⟨g, 0, none⟩) ks2.length c9) ks2.length (vrsD (kinded 1 (i + 1) ks2)) by rw [kinded_succ 1 i ks2 hil]; exact o1)
                  clear hFi hOi o1 o2 hil hbg hgl hin
                  go_wp2_with fail
                  refine ⟨⟨i + 1, by go_num, by omega, HF2.out, HO2.out⟩, ?_⟩
                  simp [intOf]; omega
                · have d1 : decide ((i : Int) < (ks2.length : Int)) = false := by simp; omega
                  obtain rfl : i = ks2.length := by omega
                  have HF2 := Lib.hid hFi
                  have HO2 := Lib.hid hOi
                  clear hFi hOi hil hin
                  go_wp2_with fail
                  go_ret
                  rw [HEND.out]
                  refine ⟨_, rfl, ?_, HF2.out.par, HF2.out.gb, HME.out, by have := HLB.out; have := HMWk.out; have := HSEk.out; simp only [List.length_map]; omega⟩
                  have h := HO2.out
                  have hl : (ks2.map fun v => { v with kind := 1 }).length = ks2.length := by rw [List.length_map]
                  rw [hl]
                  have e : kinded 1 ks2.length ks2 = ks2.map fun v => { v with kind := 1 } := kinded_all _ _
                  rw [← e]
                  exact h
            | false =>
              have HEND := Lib.hid (show decl4 K.L s = (ks2.map fun v => { v with kind := 2 }, want4 K.L (⟨#[105, 110, 116]⟩ : ByteArray) c) by rw [HDEC.out]; simp)
              have HKT := Lib.hid (show ∀ W, Par4 K W d c → Calls Try.prog 121 #[.pointer (some ⟨K.gp, 0, none⟩), .string ⟨#[98, 111, 111, 108]⟩] W (GivesV4 K d c (.bool false) c W) from fun W hp => by have := kt W hp; simpa using this)
              clear kt HDEC
              go_wp2_with fail
              (with_reducible refine ki.mono ?_)
              rintro e wy ⟨rfl, hp, hg, _⟩
              have FY := HFZ.out.call hp hg
              have HOY := Lib.hid (HOZ.out.keptG hg (by have := HFZ.out.gp; omega))
              have kt := HKT.out _ FY.par
              have HFY := Lib.hid FY
              clear hp hg ki FY
              go_wp2_with fail
              (with_reducible refine kt.mono ?_)
              rintro e wx ⟨rfl, hp, hg, hmx⟩
              have FX := HFY.out.call hp hg
              have HOX := Lib.hid (HOY.out.keptG hg (by have := HFY.out.gp; omega))
              have HMX := Lib.hid hmx
              have kn := HKN.out _ FX.par
              have HFX := Lib.hid FX
              have HMN := Lib.hid (Mono4.want K.L (⟨#[105, 110, 116]⟩ : ByteArray) c)
              clear hp hg kt FX hmx
              go_wp2_with fail
              (with_reducible refine kn.mono ?_)
              rintro e wv ⟨rfl, hp, hg, _⟩
              have HFV := Lib.hid (HFX.out.call hp hg)
              have HOV := Lib.hid (HOX.out.keptG hg (by have := HFX.out.gp; omega))
              clear hp hg kn
              obtain ⟨SE, hSE⟩ : ∃ q, q = want4 K.L (⟨#[105, 110, 116]⟩ : ByteArray) c := ⟨_, rfl⟩
              have HME := Lib.hid (show Mono4 s SE by rw [hSE]; exact HMW.out.trans HMN.out)
              have HSEk := Lib.hid (show c.k ≤ SE.k by rw [hSE]; exact (HMN.out).k)
              rw [← hSE] at HFV HEND
              clear hSE
              go_wp2_with fail
              go_loopw [6] (fun v6 wr => ∃ i : Nat, v6 = .int .i64 (i : Int) ∧ i ≤ ks2.length ∧ Fr K w d [] [] wr SE ∧ OwnD 62 5 wr (w.heap.size - 1) (.slice x9 ks2.length c9) ks2.length (vrsD (kinded 2 i ks2)))
                (fun v6 _ => ks2.length - (intOf v6).toNat)
              case atStart => exact ⟨0, rfl, Nat.zero_le _, HFV.out, by rw [kinded_zero]; exact HOV.out⟩
              case round =>
                clear HFV HOV
                obtain ⟨i, rfl, hin, hFi, hOi⟩ := hrel
                by_cases hil : i < ks2.length
                · have d1 : decide ((i : Int) < (ks2.length : Int)) = true := by simp; omega
                  have i0 : (0 : Int) ≤ (i : Int) := by omega
                  have i1 : (i : Int) < (ks2.length : Int) := by omega
                  have i2 : (i : Int) < 1000000 := by have := HNB.out; omega
                  obtain ⟨g, c', e, hbg, hgl, _, _⟩ := hOi.some_ (by omega)
                  injection e with e1 _ e3
                  subst e1 e3
                  obtain ⟨o1, o2, ⟨u0, o3⟩, o4⟩ := hOi.set (i * 5 + 1) (.int .i64 2) (by omega)
                  have HF2 := Lib.hid (hFi.turnG o2 (by omega))
                  have HO2 := Lib.hid (show OwnD 62 5 (wr.setCell ⟨g, i * 5 + 1, none⟩ (.int .i64 2)) (w.heap.size - 1) (.slice (some ⟨g, 0, none⟩) ks2.length c9) ks2.length (vrsD (kinded 2 (i + 1) ks2)) by rw [kinded_succ 2 i ks2 hil]; exact o1)
                  clear hFi hOi o1 o2 hil hbg hgl hin
                  go_wp2_with fail
                  refine ⟨⟨i + 1, by go_num, by omega, HF2.out, HO2.out⟩, ?_⟩
                  simp [intOf]; omega
                · have d1 : decide ((i : Int) < (ks2.length : Int)) = false := by simp; omega
                  obtain rfl : i = ks2.length := by omega
                  have HF2 := Lib.hid hFi
                  have HO2 := Lib.hid hOi
                  clear hFi hOi hil hin
                  go_wp2_with fail
                  go_ret
                  rw [HEND.out]
                  refine ⟨_, rfl, ?_, HF2.out.par, HF2.out.gb, HME.out, by have := HLB.out; have := HMWk.out; have := HSEk.out; simp only [List.length_map]; omega⟩
                  have h := HO2.out
                  have hl : (ks2.map fun v => { v with kind := 2 }).length = ks2.length := by rw [List.length_map]
                  rw [hl]
                  have e : kinded 2 ks2.length ks2 = ks2.map fun v => { v with kind := 2 } := kinded_all _ _
                  rw [← e]
                  exact h
        · go_wp2_with fail
          (with_reducible refine kw.mono ?_)
          rintro e w2 ⟨rfl, hb⟩
          have F2 := HFe.out.call (HFe.out.par.below hb) (gb_below hb)
          have hO2 := HO.out.below hb
          obtain ⟨_, q1, q2, _, _, _, q6⟩ := F2.par.cells
          have kw2 := w_any hG _ d S F2.par
          rw [← HYY.out] at kw2
          unfold W4.cells at kw2
          have HF2 := Lib.hid F2
          have HO2 := Lib.hid hO2
          clear hb kw F2 p1 p2 p6 hO2
          go_wp2_with fail
          (with_reducible refine kw2.mono ?_)
          rintro e w3 ⟨rfl, hb⟩
          have F3 := (HF2.out.call (HF2.out.par.below hb) (gb_below hb)).alloc w3.heap.size rfl 62 #[.string ⟨#[]⟩, .int .i64 0, .string ⟨#[]⟩, .bool false, .int .i64 (ya : Int)]
          have hO3 := HO2.out.below hb
          have km := HKM.out _ F3.par
          have HF3 := Lib.hid F3
          have HO3 := Lib.hid hO3
          clear hb kw2 F3 q1 q2 q6 hO3
          go_wp2_with fail
          (with_reducible refine km.mono ?_)
          rintro e w4 ⟨rfl, hp, hg, _⟩
          have F4 := HF3.out.call hp hg
          have hg3 := gb_trans (gb_below (r := some K.gp) ((Below.refl w3.heap.size w3).alloc (Nat.le_refl _) (.cells #[.string ⟨#[]⟩, .int .i64 0, .string ⟨#[]⟩, .bool false, .int .i64 (ya : Int)] 62))) hg
          have hw3 : w.heap.size ≤ w3.heap.size := HF3.out.ge 0 rfl
          have cv := cell_of_row w4 w3.heap.size 0 _ _ _ (F4.get 0 rfl)
          have fv := frozen_of_row w4 w3.heap.size 0 _ _ (F4.get 0 rfl)
          have F5 : Fr K w d [(w3.heap.size, 62, #[.string nm, .int .i64 0, .string ⟨#[]⟩, .bool false, .int .i64 (ya : Int)])] [] (w4.setCell ⟨w3.heap.size, 0, none⟩ (.string nm)) s5 := F4.cell 0 rfl 0 (.string nm)
          have hg5 := gb_setCell hg3 w3.heap.size 0 (Nat.le_refl _) (.string nm)
          obtain ⟨_, _, _, _, _, _, q6⟩ := F5.par.cells
          have f6 := F5.par.frozen 6
          have F6 := F5.own hG 6 (.int .i64 (wrap64 (s5.names + 1))) (s' := s6) (d' := d) (by rw [HS6.out]; rfl) (by rw [HS6.out]; exact F5.par.lt)
          have hg6 := gb_trans hg5 (gb_set (w4.setCell ⟨w3.heap.size, 0, none⟩ (.string nm)) K.gp 6 (.int .i64 (wrap64 (s5.names + 1))))
          have HL := Lib.hid (F6.get 0 rfl)
          have F7 := (F6.alloc w4.heap.size (by simp) 62 #[.string nm, .int .i64 0, .string ⟨#[]⟩, .bool false, .int .i64 (ya : Int)]).less (bl' := []) (List.nil_sublist _)
          have hg7 := gb_trans hg6 (gb_below (r := some K.gp) ((Below.refl _ ((w4.setCell ⟨w3.heap.size, 0, none⟩ (.string nm)).setCell ⟨K.gp, 6, none⟩ (.int .i64 (wrap64 (s5.names + 1))))).alloc (Nat.le_refl _) (.cells #[.string nm, .int .i64 0, .string ⟨#[]⟩, .bool false, .int .i64 (ya : Int)] 62)))
          have htr : IsD (w3.heap.size ≤ ·) (((w4.setCell ⟨w3.heap.size, 0, none⟩ (.string nm)).setCell ⟨K.gp, 6, none⟩ (.int .i64 (wrap64 (s5.names + 1)))).alloc (.cells #[.string nm, .int .i64 0, .string ⟨#[]⟩, .bool false, .int .i64 (ya : Int)] 62)) (.slice (some ⟨w4.heap.size, 0, none⟩) 1 1) (.sl 1 (vrsD [(⟨nm, 0, ⟨#[]⟩, false, ya⟩ : Vr)])) := IsD.made 62 _ _ (by simp) 1 (by decide) (by decide) _ (by have := hg3.size; simp; omega) (by
            rw [vrsD_one_]
            exact vrC_rows _ _ (⟨nm, 0, ⟨#[]⟩, false, ya⟩ : Vr))
          have hO7 := HO3.out.keptG hg7 (by have := HF3.out.gp; omega)
          have hOK : ∀ k, w3.heap.size ≤ k → (w.heap.size - 1) < k ∧ some k ≠ V.ownBlock := fun k hk => by
            refine ⟨by have := HW0.out; omega, fun e => ?_⟩
            have := (HO3.out.gt k e.symm).2
            omega
          obtain ⟨i5, hi5, ⟨z5, hz5, hzs5⟩, hs5', hb5⟩ := HIV.out
          have HI5' := Lib.hid hi5
          have HZ5 := Lib.hid hz5
          have HZS5 := Lib.hid hzs5
          have HS5 := Lib.hid hs5'
          have HB5 := Lib.hid hb5
          have HO7 := Lib.hid hO7
          have HTR := Lib.hid htr
          have HF7 := Lib.hid F7
          have HOK := Lib.hid hOK
          have HW3 := Lib.hid hw3
          have HG3 := Lib.hid hg3.size
          clear hp hg hg3 F4 F5 hg5 F6 hg6 F7 hg7 htr hO7 hOK km hi5 hz5 hzs5 hs5' hb5 hw3
          go_wp2_with (first | (refine wpList_load_row rfl 62 (.tmp 4) rfl w3.heap.size rfl 62 #[.string nm, .int .i64 0, .string ⟨#[]⟩, .bool false, .int .i64 (ya : Int)] (0, 0) _ HL.out Try.underlying62 rfl HSV.out ?_) | (refine wpList_appT rfl (.tmp 40) (.tmp 42) 35 rfl i5 z5 56 Try.underlying35 HI5'.out HZ5.out HS5.out HB5.out HZS5.out (by decide) (by decide) rfl HO7.out (by have := HW0.out; have := HW3.out; have := HG3.out; simp; omega) w4.heap.size 1 1 rfl (vrsD [(⟨nm, 0, ⟨#[]⟩, false, ya⟩ : Vr)]) (by rw [vrsD_len]; rfl) (by decide) HTR.out (vrsD_ones _) (fun k hk hl => HOK.out k hk) (by have := HKS.out; have := HFe.out.par.lt; have := hG.few; omega) ?_))
          intro v8 w8 hO8 hg8 _
          rw [← vrsD_app, ← HK2L.out, ← HK2.out] at hO8
          have F8 := HF7.out.grow hg8 (fun k hk => ⟨by have := (HO7.out.gt k hk).1; have := HW0.out; omega, fun x hx => by simp at hx⟩)
          have kt := HT1.out _ F8.par
          have HF8 := Lib.hid F8
          have HO8 := Lib.hid hO8
          clear hO8 hg8 F8 cv fv q6 f6
          go_wp2_with fail
          (with_reducible refine kt.mono ?_)
          rintro e w9 ⟨rfl, hp, hg, _⟩
          have HF9 := Lib.hid (HF8.out.call hp hg)
          have HO9 := Lib.hid (HO8.out.keptG hg (by have := HF8.out.gp; omega))
          clear hp hg kt
          cases tc with
          | true =>
            have HDEC := Lib.hid (show mS4 K s7 < mS4 K S from mS4_lt2 HE0.out HFe.out.par.lt (HPR.out rfl))
            have HNX := Lib.hid (show declL4 K.L f' ks2 s7 = QQ by rw [HGo.out]; simp)
            have HFL := Lib.hid (show mS4 K s7 ≤ f' by have := HFu.out; have := HF'.out; have := HDEC.out; omega)
            have HLL := Lib.hid (show ks2.length + s.k ≤ s7.k by have := HKS.out; have := HPR.out rfl; have := HK2L.out; omega)
            clear HGo
            go_wp2_with fail
            refine ⟨⟨_, f', ks2, s7, rfl, HNX.out, HFL.out, HF9.out, HO9.out, HM7.out, HLL.out⟩, ?_⟩
            rw [mea4_par HF9.out.par, HME.out]
            exact HDEC.out
          | false =>
            have HNX := Lib.hid (show (some ks2, s7) = QQ by rw [HGo.out]; simp)
            have HNB := Lib.hid (show ks2.length < 1000000 by have := HKS.out; have := HFe.out.par.lt; have := hG.few; have := HK2L.out; omega)
            have HLB := Lib.hid (show ks2.length + s.k ≤ s7.k + 1 by have := HKS.out; have := HK2L.out; have := HMS7.out.k; omega)
            clear HGo
            obtain ⟨x9, c9, rfl, _, _⟩ := HO9.out.slice
            have kw := want4_any (⟨#[58]⟩ : ByteArray) hG _ d s7 HF9.out.par
            have hmw := Mono4.want K.L (⟨#[58]⟩ : ByteArray) s7
            have HDEC := Lib.hid (show decl4 K.L s = (ks2.map fun v => { v with kind := if is4 K.L (⟨#[98, 111, 111, 108]⟩ : ByteArray) (want4 K.L (⟨#[58]⟩ : ByteArray) s7) = true then 1 else 2 }, if is4 K.L (⟨#[98, 111, 111, 108]⟩ : ByteArray) (want4 K.L (⟨#[58]⟩ : ByteArray) s7) = true then inc4 (want4 K.L (⟨#[58]⟩ : ByteArray) s7) else want4 K.L (⟨#[105, 110, 116]⟩ : ByteArray) (want4 K.L (⟨#[58]⟩ : ByteArray) s7)) by
              unfold decl4
              rw [← HQ0.out, ← HNX.out])
            obtain ⟨c, hc⟩ : ∃ q, q = want4 K.L (⟨#[58]⟩ : ByteArray) s7 := ⟨_, rfl⟩
            rw [← hc] at kw hmw HDEC
            have HMW := Lib.hid (HM7.out.trans hmw)
            have HMWk := Lib.hid hmw.k
            have ki := fun W (hp : Par4 K W d c) => is4_any (⟨#[98, 111, 111, 108]⟩ : ByteArray) hG W d c hp
            have kt := fun W (hp : Par4 K W d c) => take4_any (⟨#[98, 111, 111, 108]⟩ : ByteArray) hG W d c hp
            have kn := fun W (hp : Par4 K W d c) => want4_any (⟨#[105, 110, 116]⟩ : ByteArray) hG W d c hp
            unfold take4 at kt
            simp only at kt
            obtain ⟨bb, hbb⟩ : ∃ q, q = is4 K.L (⟨#[98, 111, 111, 108]⟩ : ByteArray) c := ⟨_, rfl⟩
            rw [← hbb] at ki kt HDEC
            have HKI := Lib.hid ki
            have HKN := Lib.hid kn
            clear hc hmw ki kn hbb
            go_wp2_with fail
            (with_reducible refine kw.mono ?_)
            rintro e wz ⟨rfl, hp, hg, _⟩
            have FZ := HF9.out.call hp hg
            have HOZ := Lib.hid (HO9.out.keptG hg (by have := HF9.out.gp; omega))
            have ki := HKI.out _ FZ.par
            have HFZ := Lib.hid FZ
            clear hp hg kw FZ
            cases bb with
            | true =>
              have HEND := Lib.hid (show decl4 K.L s = (ks2.map fun v => { v with kind := 1 }, inc4 c) by rw [HDEC.out]; simp)
              have HKT := Lib.hid (show ∀ W, Par4 K W d c → Calls Try.prog 121 #[.pointer (some ⟨K.gp, 0, none⟩), .string ⟨#[98, 111, 111, 108]⟩] W (GivesV4 K d c (.bool true) (inc4 c) W) from fun W hp => by have := kt W hp; simpa using this)
              clear kt HDEC
              go_wp2_with fail
              (with_reducible refine ki.mono ?_)
              rintro e wy ⟨rfl, hp, hg, _⟩
              have FY := HFZ.out.call hp hg
              have HOY := Lib.hid (HOZ.out.keptG hg (by have := HFZ.out.gp; omega))
              have kt := HKT.out _ FY.par
              have HFY := Lib.hid FY
              clear hp hg ki FY
              go_wp2_with fail
              (with_reducible refine kt.mono ?_)
              rintro e wx ⟨rfl, hp, hg, hmx⟩
              have FX := HFY.out.call hp hg
              have HOX := Lib.hid (HOY.out.keptG hg (by have := HFY.out.gp; omega))
              have HMX := Lib.hid hmx
              have HFX := Lib.hid FX
              clear hp hg kt FX hmx
              obtain ⟨SE, hSE⟩ : ∃ q, q = inc4 c := ⟨_, rfl⟩
              have HME := Lib.hid (show Mono4 s SE by rw [hSE]; exact HMW.out.trans HMX.out)
              have HSEk := Lib.hid (show c.k ≤ SE.k by rw [hSE]; exact (HMX.out).k)
              rw [← hSE] at HFX HEND
              clear hSE
              go_wp2_with fail
              go_loopw [6] (fun v6 wr => ∃ i : Nat, v6 = .int .i64 (i : Int) ∧ i ≤ ks2.length ∧ Fr K w d [] [] wr SE ∧ OwnD 62 5 wr (w.heap.size - 1) (.slice x9 ks2.length c9) ks2.length (vrsD (kinded 1 i ks2)))
                (fun v6 _ => ks2.length - (intOf v6).toNat)
              case atStart => exact ⟨0, rfl, Nat.zero_le _, HFX.out, by rw [kinded_zero]; exact HOX.out⟩
              case round =>
                clear HFX HOX
                obtain ⟨i, rfl, hin, hFi, hOi⟩ := hrel
                by_cases hil : i < ks2.length
                · have d1 : decide ((i : Int) < (ks2.length : Int)) = true := by simp; omega
                  have i0 : (0 : Int) ≤ (i : Int) := by omega
                  have i1 : (i : Int) < (ks2.length : Int) := by omega
                  have i2 : (i : Int) < 1000000 := by have := HNB.out; omega
                  obtain ⟨g, c', e, hbg, hgl, _, _⟩ := hOi.some_ (by omega)
                  injection e with e1 _ e3
                  subst e1 e3
                  obtain ⟨o1, o2, ⟨u0, o3⟩, o4⟩ := hOi.set (i * 5 + 1) (.int .i64 1) (by omega)
                  have HF2 := Lib.hid (hFi.turnG o2 (by omega))
                  have HO2 := Lib.hid (show OwnD 62 5 (wr.setCell ⟨g, i * 5 + 1, none⟩ (.int .i64 1)) (w.heap.size - 1) (.slice (some ⟨g, 0, none⟩) ks2.length c9) ks2.length (vrsD (kinded 1 (i + 1) ks2)) by rw [kinded_succ 1 i ks2 hil]; exact o1)
                  clear hFi hOi o1 o2 hil hbg hgl hin
                  go_wp2_with fail
                  refine ⟨⟨i + 1, by go_num, by omega, HF2.out, HO2.out⟩, ?_⟩
                  simp [intOf]; omega
                · have d1 : decide ((i : Int) < (ks2.length : Int)) = false := by simp; omega
                  obtain rfl : i = ks2.length := by omega
                  have HF2 := Lib.hid hFi
                  have HO2 := Lib.hid hOi
                  clear hFi hOi hil hin
                  go_wp2_with fail
                  go_ret
                  rw [HEND.out]
                  refine ⟨_, rfl, ?_, HF2.out.par, HF2.out.gb, HME.out, by have := HLB.out; have := HMWk.out; have := HSEk.out; simp only [List.length_map]; omega⟩
                  have h := HO2.out
                  have hl : (ks2.map fun v => { v with kind := 1 }).length = ks2.length := by rw [List.length_map]
                  rw [hl]
                  have e : kinded 1 ks2.length ks2 = ks2.map fun v => { v with kind := 1 } := kinded_all _ _
                  rw [← e]
                  exact h
            | false =>
              have HEND := Lib.hid (show decl4 K.L s = (ks2.map fun v => { v with kind := 2 }, want4 K.L (⟨#[105, 110, 116]⟩ : ByteArray) c) by rw [HDEC.out]; simp)
              have HKT := Lib.hid (show ∀ W, Par4 K W d c → Calls Try.prog 121 #[.pointer (some ⟨K.gp, 0, none⟩), .string ⟨#[98, 111, 111, 108]⟩] W (GivesV4 K d c (.bool false) c W) from fun W hp => by have := kt W hp; simpa using this)
              clear kt HDEC
              go_wp2_with fail
              (with_reducible refine ki.mono ?_)
              rintro e wy ⟨rfl, hp, hg, _⟩
              have FY := HFZ.out.call hp hg
              have HOY := Lib.hid (HOZ.out.keptG hg (by have := HFZ.out.gp; omega))
              have kt := HKT.out _ FY.par
              have HFY := Lib.hid FY
              clear hp hg ki FY
              go_wp2_with fail
              (with_reducible refine kt.mono ?_)
              rintro e wx ⟨rfl, hp, hg, hmx⟩
              have FX := HFY.out.call hp hg
              have HOX := Lib.hid (HOY.out.keptG hg (by have := HFY.out.gp; omega))
              have HMX := Lib.hid hmx
              have kn := HKN.out _ FX.par
              have HFX := Lib.hid FX
              have HMN := Lib.hid (Mono4.want K.L (⟨#[105, 110, 116]⟩ : ByteArray) c)
              clear hp hg kt FX hmx
              go_wp2_with fail
              (with_reducible refine kn.mono ?_)
              rintro e wv ⟨rfl, hp, hg, _⟩
              have HFV := Lib.hid (HFX.out.call hp hg)
              have HOV := Lib.hid (HOX.out.keptG hg (by have := HFX.out.gp; omega))
              clear hp hg kn
              obtain ⟨SE, hSE⟩ : ∃ q, q = want4 K.L (⟨#[105, 110, 116]⟩ : ByteArray) c := ⟨_, rfl⟩
              have HME := Lib.hid (show Mono4 s SE by rw [hSE]; exact HMW.out.trans HMN.out)
              have HSEk := Lib.hid (show c.k ≤ SE.k by rw [hSE]; exact (HMN.out).k)
              rw [← hSE] at HFV HEND
              clear hSE
              go_wp2_with fail
              go_loopw [6] (fun v6 wr => ∃ i : Nat, v6 = .int .i64 (i : Int) ∧ i ≤ ks2.length ∧ Fr K w d [] [] wr SE ∧ OwnD 62 5 wr (w.heap.size - 1) (.slice x9 ks2.length c9) ks2.length (vrsD (kinded 2 i ks2)))
                (fun v6 _ => ks2.length - (intOf v6).toNat)
              case atStart => exact ⟨0, rfl, Nat.zero_le _, HFV.out, by rw [kinded_zero]; exact HOV.out⟩
              case round =>
                clear HFV HOV
                obtain ⟨i, rfl, hin, hFi, hOi⟩ := hrel
                by_cases hil : i < ks2.length
                · have d1 : decide ((i : Int) < (ks2.length : Int)) = true := by simp; omega
                  have i0 : (0 : Int) ≤ (i : Int) := by omega
                  have i1 : (i : Int) < (ks2.length : Int) := by omega
                  have i2 : (i : Int) < 1000000 := by have := HNB.out; omega
                  obtain ⟨g, c', e, hbg, hgl, _, _⟩ := hOi.some_ (by omega)
                  injection e with e1 _ e3
                  subst e1 e3
                  obtain ⟨o1, o2, ⟨u0, o3⟩, o4⟩ := hOi.set (i * 5 + 1) (.int .i64 2) (by omega)
                  have HF2 := Lib.hid (hFi.turnG o2 (by omega))
                  have HO2 := Lib.hid (show OwnD 62 5 (wr.setCell ⟨g, i * 5 + 1, none⟩ (.int .i64 2)) (w.heap.size - 1) (.slice (some ⟨g, 0, none⟩) ks2.length c9) ks2.length (vrsD (kinded 2 (i + 1) ks2)) by rw [kinded_succ 2 i ks2 hil]; exact o1)
                  clear hFi hOi o1 o2 hil hbg hgl hin
                  go_wp2_with fail
                  refine ⟨⟨i + 1, by go_num, by omega, HF2.out, HO2.out⟩, ?_⟩
                  simp [intOf]; omega
                · have d1 : decide ((i : Int) < (ks2.length : Int)) = false := by simp; omega
                  obtain rfl : i = ks2.length := by omega
                  have HF2 := Lib.hid hFi
                  have HO2 := Lib.hid hOi
                  clear hFi hOi hil hin
                  go_wp2_with fail
                  go_ret
                  rw [HEND.out]
                  refine ⟨_, rfl, ?_, HF2.out.par, HF2.out.gb, HME.out, by have := HLB.out; have := HMWk.out; have := HSEk.out; simp only [List.length_map]; omega⟩
                  have h := HO2.out
                  have hl : (ks2.map fun v => { v with kind := 2 }).length = ks2.length := by rw [List.length_map]
                  rw [hl]
                  have e : kinded 2 ks2.length ks2 = ks2.map fun v => { v with kind := 2 } := kinded_all _ _
                  rw [← e]
                  exact h
--
    · have d0 : ((S.er : Int) == 0) = false := by simp; omega
      have HNX := Lib.hid ((declL4_stop K.L f l S e0).symm.trans hR)
      have HNB := Lib.hid (show l.length < 1000000 by have := hF.par.lt; have := hG.few; omega)
      have HLB := Lib.hid (show l.length + s.k ≤ S.k + 1 by omega)
      clear hF hO hm hks hme hf hR e0
      obtain ⟨x9, c9, rfl, _, _⟩ := HO.out.slice
      have kw := want4_any (⟨#[58]⟩ : ByteArray) hG _ d S HFe.out.par
      have hmw := Mono4.want K.L (⟨#[58]⟩ : ByteArray) S
      have HDEC := Lib.hid (show decl4 K.L s = (l.map fun v => { v with kind := if is4 K.L (⟨#[98, 111, 111, 108]⟩ : ByteArray) (want4 K.L (⟨#[58]⟩ : ByteArray) S) = true then 1 else 2 }, if is4 K.L (⟨#[98, 111, 111, 108]⟩ : ByteArray) (want4 K.L (⟨#[58]⟩ : ByteArray) S) = true then inc4 (want4 K.L (⟨#[58]⟩ : ByteArray) S) else want4 K.L (⟨#[105, 110, 116]⟩ : ByteArray) (want4 K.L (⟨#[58]⟩ : ByteArray) S)) by
        unfold decl4
        rw [← HQ0.out, ← HNX.out])
      obtain ⟨c, hc⟩ : ∃ q, q = want4 K.L (⟨#[58]⟩ : ByteArray) S := ⟨_, rfl⟩
      rw [← hc] at kw hmw HDEC
      have HMW := Lib.hid (HMM.out.trans hmw)
      have HMWk := Lib.hid hmw.k
      have ki := fun W (hp : Par4 K W d c) => is4_any (⟨#[98, 111, 111, 108]⟩ : ByteArray) hG W d c hp
      have kt := fun W (hp : Par4 K W d c) => take4_any (⟨#[98, 111, 111, 108]⟩ : ByteArray) hG W d c hp
      have kn := fun W (hp : Par4 K W d c) => want4_any (⟨#[105, 110, 116]⟩ : ByteArray) hG W d c hp
      unfold take4 at kt
      simp only at kt
      obtain ⟨bb, hbb⟩ : ∃ q, q = is4 K.L (⟨#[98, 111, 111, 108]⟩ : ByteArray) c := ⟨_, rfl⟩
      rw [← hbb] at ki kt HDEC
      have HKI := Lib.hid ki
      have HKN := Lib.hid kn
      clear hc hmw ki kn hbb
      go_wp2_with fail
      (with_reducible refine kw.mono ?_)
      rintro e wz ⟨rfl, hp, hg, _⟩
      have FZ := HFe.out.call hp hg
      have HOZ := Lib.hid (HO.out.keptG hg (by have := HFe.out.gp; omega))
      have ki := HKI.out _ FZ.par
      have HFZ := Lib.hid FZ
      clear hp hg kw FZ
      cases bb with
      | true =>
        have HEND := Lib.hid (show decl4 K.L s = (l.map fun v => { v with kind := 1 }, inc4 c) by rw [HDEC.out]; simp)
        have HKT := Lib.hid (show ∀ W, Par4 K W d c → Calls Try.prog 121 #[.pointer (some ⟨K.gp, 0, none⟩), .string ⟨#[98, 111, 111, 108]⟩] W (GivesV4 K d c (.bool true) (inc4 c) W) from fun W hp => by have := kt W hp; simpa using this)
        clear kt HDEC
        go_wp2_with fail
        (with_reducible refine ki.mono ?_)
        rintro e wy ⟨rfl, hp, hg, _⟩
        have FY := HFZ.out.call hp hg
        have HOY := Lib.hid (HOZ.out.keptG hg (by have := HFZ.out.gp; omega))
        have kt := HKT.out _ FY.par
        have HFY := Lib.hid FY
        clear hp hg ki FY
        go_wp2_with fail
        (with_reducible refine kt.mono ?_)
        rintro e wx ⟨rfl, hp, hg, hmx⟩
        have FX := HFY.out.call hp hg
        have HOX := Lib.hid (HOY.out.keptG hg (by have := HFY.out.gp; omega))
        have HMX := Lib.hid hmx
        have HFX := Lib.hid FX
        clear hp hg kt FX hmx
        obtain ⟨SE, hSE⟩ : ∃ q, q = inc4 c := ⟨_, rfl⟩
        have HME := Lib.hid (show Mono4 s SE by rw [hSE]; exact HMW.out.trans HMX.out)
        have HSEk := Lib.hid (show c.k ≤ SE.k by rw [hSE]; exact (HMX.out).k)
        rw [← hSE] at HFX HEND
        clear hSE
        go_wp2_with fail
        go_loopw [6] (fun v6 wr => ∃ i : Nat, v6 = .int .i64 (i : Int) ∧ i ≤ l.length ∧ Fr K w d [] [] wr SE ∧ OwnD 62 5 wr (w.heap.size - 1) (.slice x9 l.length c9) l.length (vrsD (kinded 1 i l)))
          (fun v6 _ => l.length - (intOf v6).toNat)
        case atStart => exact ⟨0, rfl, Nat.zero_le _, HFX.out, by rw [kinded_zero]; exact HOX.out⟩
        case round =>
          clear HFX HOX
          obtain ⟨i, rfl, hin, hFi, hOi⟩ := hrel
          by_cases hil : i < l.length
          · have d1 : decide ((i : Int) < (l.length : Int)) = true := by simp; omega
            have i0 : (0 : Int) ≤ (i : Int) := by omega
            have i1 : (i : Int) < (l.length : Int) := by omega
            have i2 : (i : Int) < 1000000 := by have := HNB.out; omega
            obtain ⟨g, c', e, hbg, hgl, _, _⟩ := hOi.some_ (by omega)
            injection e with e1 _ e3
            subst e1 e3
            obtain ⟨o1, o2, ⟨u0, o3⟩, o4⟩ := hOi.set (i * 5 + 1) (.int .i64 1) (by omega)
            have HF2 := Lib.hid (hFi.turnG o2 (by omega))
            have HO2 := Lib.hid (show OwnD 62 5 (wr.setCell ⟨g, i * 5 + 1, none⟩ (.int .i64 1)) (w.heap.size - 1) (.slice (some ⟨g, 0, none⟩) l.length c9) l.length (vrsD (kinded 1 (i + 1) l)) by rw [kinded_succ 1 i l hil]; exact o1)
            clear hFi hOi o1 o2 hil hbg hgl hin
            go_wp2_with fail
            refine ⟨⟨i + 1, by go_num, by omega, HF2.out, HO2.out⟩, ?_⟩
            simp [intOf]; omega
          · have d1 : decide ((i : Int) < (l.length : Int)) = false := by simp; omega
            obtain rfl : i = l.length := by omega
            have HF2 := Lib.hid hFi
            have HO2 := Lib.hid hOi
            clear hFi hOi hil hin
            go_wp2_with fail
            go_ret
            rw [HEND.out]
            refine ⟨_, rfl, ?_, HF2.out.par, HF2.out.gb, HME.out, by have := HLB.out; have := HMWk.out; have := HSEk.out; simp only [List.length_map]; omega⟩
            have h := HO2.out
            have hl : (l.map fun v => { v with kind := 1 }).length = l.length := by rw [List.length_map]
            rw [hl]
            have e : kinded 1 l.length l = l.map fun v => { v with kind := 1 } := kinded_all _ _
            rw [← e]
            exact h
      | false =>
        have HEND := Lib.hid (show decl4 K.L s = (l.map fun v => { v with kind := 2 }, want4 K.L (⟨#[105, 110, 116]⟩ : ByteArray) c) by rw [HDEC.out]; simp)
        have HKT := Lib.hid (show ∀ W, Par4 K W d c → Calls Try.prog 121 #[.pointer (some ⟨K.gp, 0, none⟩), .string ⟨#[98, 111, 111, 108]⟩] W (GivesV4 K d c (.bool false) c W) from fun W hp => by have := kt W hp; simpa using this)
        clear kt HDEC
        go_wp2_with fail
        (with_reducible refine ki.mono ?_)
        rintro e wy ⟨rfl, hp, hg, _⟩
        have FY := HFZ.out.call hp hg
        have HOY := Lib.hid (HOZ.out.keptG hg (by have := HFZ.out.gp; omega))
        have kt := HKT.out _ FY.par
        have HFY := Lib.hid FY
        clear hp hg ki FY
        go_wp2_with fail
        (with_reducible refine kt.mono ?_)
        rintro e wx ⟨rfl, hp, hg, hmx⟩
        have FX := HFY.out.call hp hg
        have HOX := Lib.hid (HOY.out.keptG hg (by have := HFY.out.gp; omega))
        have HMX := Lib.hid hmx
        have kn := HKN.out _ FX.par
        have HFX := Lib.hid FX
        have HMN := Lib.hid (Mono4.want K.L (⟨#[105, 110, 116]⟩ : ByteArray) c)
        clear hp hg kt FX hmx
        go_wp2_with fail
        (with_reducible refine kn.mono ?_)
        rintro e wv ⟨rfl, hp, hg, _⟩
        have HFV := Lib.hid (HFX.out.call hp hg)
        have HOV := Lib.hid (HOX.out.keptG hg (by have := HFX.out.gp; omega))
        clear hp hg kn
        obtain ⟨SE, hSE⟩ : ∃ q, q = want4 K.L (⟨#[105, 110, 116]⟩ : ByteArray) c := ⟨_, rfl⟩
        have HME := Lib.hid (show Mono4 s SE by rw [hSE]; exact HMW.out.trans HMN.out)
        have HSEk := Lib.hid (show c.k ≤ SE.k by rw [hSE]; exact (HMN.out).k)
        rw [← hSE] at HFV HEND
        clear hSE
        go_wp2_with fail
        go_loopw [6] (fun v6 wr => ∃ i : Nat, v6 = .int .i64 (i : Int) ∧ i ≤ l.length ∧ Fr K w d [] [] wr SE ∧ OwnD 62 5 wr (w.heap.size - 1) (.slice x9 l.length c9) l.length (vrsD (kinded 2 i l)))
          (fun v6 _ => l.length - (intOf v6).toNat)
        case atStart => exact ⟨0, rfl, Nat.zero_le _, HFV.out, by rw [kinded_zero]; exact HOV.out⟩
        case round =>
          clear HFV HOV
          obtain ⟨i, rfl, hin, hFi, hOi⟩ := hrel
          by_cases hil : i < l.length
          · have d1 : decide ((i : Int) < (l.length : Int)) = true := by simp; omega
            have i0 : (0 : Int) ≤ (i : Int) := by omega
            have i1 : (i : Int) < (l.length : Int) := by omega
            have i2 : (i : Int) < 1000000 := by have := HNB.out; omega
            obtain ⟨g, c', e, hbg, hgl, _, _⟩ := hOi.some_ (by omega)
            injection e with e1 _ e3
            subst e1 e3
            obtain ⟨o1, o2, ⟨u0, o3⟩, o4⟩ := hOi.set (i * 5 + 1) (.int .i64 2) (by omega)
            have HF2 := Lib.hid (hFi.turnG o2 (by omega))
            have HO2 := Lib.hid (show OwnD 62 5 (wr.setCell ⟨g, i * 5 + 1, none⟩ (.int .i64 2)) (w.heap.size - 1) (.slice (some ⟨g, 0, none⟩) l.length c9) l.length (vrsD (kinded 2 (i + 1) l)) by rw [kinded_succ 2 i l hil]; exact o1)
            clear hFi hOi o1 o2 hil hbg hgl hin
            go_wp2_with fail
            refine ⟨⟨i + 1, by go_num, by omega, HF2.out, HO2.out⟩, ?_⟩
            simp [intOf]; omega
          · have d1 : decide ((i : Int) < (l.length : Int)) = false := by simp; omega
            obtain rfl : i = l.length := by omega
            have HF2 := Lib.hid hFi
            have HO2 := Lib.hid hOi
            clear hFi hOi hil hin
            go_wp2_with fail
            go_ret
            rw [HEND.out]
            refine ⟨_, rfl, ?_, HF2.out.par, HF2.out.gb, HME.out, by have := HLB.out; have := HMWk.out; have := HSEk.out; simp only [List.length_map]; omega⟩
            have h := HO2.out
            have hl : (l.map fun v => { v with kind := 2 }).length = l.length := by rw [List.length_map]
            rw [hl]
            have e : kinded 2 l.length l = l.map fun v => { v with kind := 2 } := kinded_all _ _
            rw [← e]
            exact h
end Go.Proofs.Ytejljfoacbpliaa

namespace Go.Proofs.Ytejljfoacbpliaa
open Go Go.RowKit
theorem OwnD.cases_ {T : TypeId} {sz : Nat} {w : World} {b n : Nat} {v : Value} {ds : List Dt} (h : OwnD T sz w b v n ds) : (n = 0 ∧ v = .slice none 0 0 ∧ ds = []) ∨ ∃ g c, v = .slice (some ⟨g, 0, none⟩) n c ∧ b < g ∧ g < w.heap.size := by
  have hl := h.len
  obtain ⟨xs, h1, _⟩ := h
  rcases h1.2 with ⟨h2, h0⟩ | ⟨g, cap, cur, rfl, hb, hg, _⟩
  · refine .inl ⟨h0, h2, List.eq_nil_of_length_eq_zero (by rw [hl, h0]; simp)⟩
  · exact .inr ⟨g, cap, rfl, by omega, (Array.getElem?_eq_some_iff.1 hg).1⟩
theorem wpList_appO {P : Program} {ops : Array Oper} {rest : List Oper} {o : Oper} {a : Act} {Q : Exit → Act → World → Prop} (hgd : o.guard = none) (s x : Operand) (t : TypeId) (ho : o.op = .call { callee := .builtin .append, args := #[s, x], argTypes := #[t, t] })
    {T : TypeId} {sz : Nat} {w : World} {b : Nat} {v : Value} {n : Nat} {ds : List Dt} (i : TypeInfo) (z : Value) (bytes : Nat) (ht : P.underlying t = some (.slice T)) (hi : P.info? T = some i) (hz : i.zero = some z)
    (hsize : i.size = sz) (hby : i.bytes = bytes) (hzs : z.cells.size = sz) (hsz : 0 < sz) (hbl : bytes ≤ 1000)
    (hs : a.eval s = v) (h : OwnD T sz w b v n ds) (hbw : b + 1 ≤ w.heap.size) {B : Nat} {u : Value} {m : Nat} {es : List Dt} (hx : a.eval x = u) (hd : OwnD T sz w B u m es) (hone : ∀ d ∈ es, d.one) (hbB : b ≤ B) (hvB : ∀ k, v.ownBlock = some k → k ≤ B) (hnm : n + m ≤ 100000000000)
    (hK : ∀ v' w', OwnD T sz w' b v' (n + m) (ds ++ es) → w.grownBy w' v.ownBlock → (v'.ownBlock = v.ownBlock ∨ v'.ownBlock = some w.heap.size) → wpList P ops Q rest (a.put o.dst v') w') :
    wpList P ops Q (o :: rest) a w := by
  have hlen := hd.len
  rcases hd.cases_ with ⟨h0, hu, he⟩ | ⟨g, c, hu, hg, hgl⟩
  · subst h0 he
    subst hu
    obtain ⟨xs, h1, h2⟩ := h
    have hr := run_append_owned_none (P := P) w b t o.type T i sz ht hi v n xs (⟨h1.1, by
      rcases h1.2 with h | ⟨g, cap, cur, e, hg, h5⟩
      · exact .inl h
      · exact .inr ⟨g, cap, cur, e, by omega, h5⟩⟩)
    refine wpList_plain hgd fun K hK' => ?_
    unfold Oper.wp
    simp [execOp, ho, resolve, invoke, builtin, hs, hx, hr, Result.andThen]
    exact hK' _ _ (hK v w (by rw [List.append_nil]; exact ⟨xs, h1, h2⟩) ⟨rfl, rfl, rfl, Nat.le_refl _, fun _ _ _ => rfl⟩ (.inl rfl))
  · subst hu
    obtain ⟨ys, k1, k2⟩ := hd
    obtain ⟨v', w', hrun, j1, j2, j3⟩ := h.append (P := P) t o.type i z bytes ht hi hz hsize hby hzs hsz hbl hbw (ok := fun k => B < k) g 0 m c ys es hlen (k2.keep (Nat.le_refl _) (fun _ _ _ => rfl) (fun k hk _ => hk.1)) (fun j u hu => by
      have := k1.cells (g := g) rfl j u hu
      rw [Addr.add_lit] at this
      exact this) hone (fun k hk hl => ⟨by omega, fun e => by have := hvB k e.symm; omega⟩) hnm
    refine wpList_plain hgd fun K hK' => ?_
    unfold Oper.wp
    simp [execOp, ho, resolve, invoke, builtin, hs, hx, hrun, Result.andThen]
    exact hK' _ _ (hK v' w' j1 j2 j3)
theorem declsL4_stop (L : List W4) (f : Nat) (l : List Vr) (s : S4) (h : is4 L (⟨#[59]⟩ : ByteArray) s = false) : declsL4 L f l s = (l, s) := by
  cases f with
  | zero => rfl
  | succ f => unfold declsL4; rw [if_neg (by rw [h]; decide)]
theorem declsL4_go (L : List W4) (f : Nat) (l : List Vr) (s : S4) (h : is4 L (⟨#[59]⟩ : ByteArray) s = true) : declsL4 L (f + 1) l s = declsL4 L f (l ++ (decl4 L (inc4 s)).1) (decl4 L (inc4 s)).2 := by
  conv => lhs; unfold declsL4
  rw [if_pos h]
end Go.Proofs.Ytejljfoacbpliaa

namespace Go.Proofs.Ytejljfoacbpliaa
open Go Go.RowKit
set_option maxHeartbeats 4000000 in
set_option maxRecDepth 100000 in
theorem decls4_any {K : K4} (hG : Good4 K) (w : World) (d : Nat) (s : S4) (h : Par4 K w d s) : Calls Try.prog 120 #[.pointer (some ⟨K.gp, 0, none⟩)] w (GivesD4 K d s (decls4 K.L s) w) := by
  have HIV := Lib.hid info_v4
  have HF0 := Lib.hid (Fr.start h)
  have HW0 := Lib.hid (show 0 < w.heap.size by have := h.gpl; omega)
  have ki := is4_any (⟨#[41]⟩ : ByteArray) hG w d s h
  have kd := fun W (hp : Par4 K W d s) => decl4_any hG W d s hp
  unfold decls4
  obtain ⟨b, hb⟩ : ∃ b, b = is4 K.L (⟨#[41]⟩ : ByteArray) s := ⟨_, rfl⟩
  rw [← hb] at ki ⊢
  obtain ⟨r, hr⟩ : ∃ r, r = decl4 K.L s := ⟨_, rfl⟩
  rw [← hr] at kd ⊢
  have KD := Lib.hid kd
  clear h hb hr kd
  cases b with
  | true =>
    rw [if_pos rfl]
    go_enter Try.func120, Try.ntmps120
    go_wp2_with fail
    (with_reducible refine ki.mono ?_)
    rintro e w1 ⟨rfl, hp, hg, hm⟩
    have HF1 := Lib.hid (HF0.out.call hp hg)
    have HM := Lib.hid hm
    clear hp hg hm ki
    go_wp2_with fail
    go_ret
    exact ⟨_, rfl, OwnD.nil _ _ _ _, HF1.out.par, HF1.out.gb, HM.out, by simp⟩
  | false =>
    rw [if_neg (by decide)]
    obtain ⟨l1, s1⟩ := r
    simp only at KD ⊢
    obtain ⟨QQ, hQQ⟩ : ∃ q, q = declsL4 K.L (K.L.length + 1) l1 s1 := ⟨_, rfl⟩
    rw [← hQQ]
    have HQ0 := Lib.hid hQQ
    clear hQQ
    go_enter Try.func120, Try.ntmps120
    go_wp2_with fail
    (with_reducible refine ki.mono ?_)
    rintro e w1 ⟨rfl, hp, hg, _⟩
    have F1 := HF0.out.call hp hg
    have kd := KD.out _ F1.par
    have HF1 := Lib.hid F1
    clear hp hg ki F1
    go_wp2_with fail
    (with_reducible refine kd.mono ?_)
    rintro e w2 ⟨V1, rfl, hO, hp, hg, hm, hl⟩
    have HF2 := Lib.hid (HF1.out.call hp hg)
    have HO2 := Lib.hid (hO.mono (b' := (w.heap.size - 1)) (by have := HF1.out.gb.size; omega))
    have HM2 := Lib.hid hm
    have HL2 := Lib.hid hl
    clear hO hp hg hm kd hl
    go_wp2_with fail
    go_loopw [3] (fun v3 wr => ∃ (V : Value) (f : Nat) (l : List Vr) (S : S4), V = v3 ∧ declsL4 K.L f l S = QQ ∧ mS4 K S ≤ f ∧ Fr K w d [] [] wr S ∧ OwnD 62 5 wr (w.heap.size - 1) V l.length (vrsD l) ∧ Mono4 s S ∧ l.length + s.k ≤ S.k + 1)
      (fun _ wr => mea4 K wr)
    case atStart => exact ⟨_, K.L.length + 1, l1, s1, rfl, HQ0.out.symm, by have := mS4_bound K s1; omega, HF2.out, HO2.out, HM2.out, HL2.out⟩
    case round =>
      clear HF2 HO2
      obtain ⟨V, f, l, S, rfl, hR, hf, hF, hO, hm, hl⟩ := hrel
      have hme := mea4_par hF.par
      have kt := take4_any (⟨#[59]⟩ : ByteArray) hG _ d S hF.par
      have hin : is4 K.L (⟨#[59]⟩ : ByteArray) S = true → S.er = 0 := fun h => (is4_kind h).2
      unfold take4 at kt
      simp only at kt
      have HFe := Lib.hid hF
      have HO := Lib.hid hO
      have HMM := Lib.hid hm
      have HLL := Lib.hid hl
      have HME := Lib.hid hme
      have HFu := Lib.hid hf
      cases hb : is4 K.L (⟨#[59]⟩ : ByteArray) S with
      | false =>
        have HEND := Lib.hid ((declsL4_stop K.L f l S hb).symm.trans hR)
        rw [hb, if_neg (by decide)] at kt
        clear hF hO hm hl hme hf hR hin hb
        go_wp2_with fail
        (with_reducible refine kt.mono ?_)
        rintro e w3 ⟨rfl, hp, hg, _⟩
        have HF4 := Lib.hid (HFe.out.call hp hg)
        have HO4 := Lib.hid (HO.out.keptG hg (by have := HFe.out.gp; omega))
        clear hp hg kt
        go_wp2_with fail
        go_ret
        rw [← HEND.out]
        exact ⟨_, rfl, HO4.out, HF4.out.par, HF4.out.gb, HMM.out, HLL.out⟩
      | true =>
        have he0 := hin hb
        have hmS : 0 < mS4 K S := by unfold mS4; rw [if_pos he0]; have := hF.par.lt; omega
        obtain ⟨f', hf'⟩ : ∃ f', f = f' + 1 := ⟨f - 1, by omega⟩
        have hgo := declsL4_go K.L f' l S hb
        rw [(congrArg (fun k => declsL4 K.L k l S) hf'.symm).trans hR] at hgo
        rw [hb, if_pos rfl] at kt
        have kd := fun W (hp : Par4 K W d (inc4 S)) => decl4_any hG W d (inc4 S) hp
        obtain ⟨r, hr⟩ : ∃ r, r = decl4 K.L (inc4 S) := ⟨_, rfl⟩
        rw [← hr] at kd hgo
        obtain ⟨l2, S2⟩ := r
        obtain ⟨ks2, hk2⟩ : ∃ q, q = l ++ l2 := ⟨_, rfl⟩
        have HK2L := Lib.hid (show ks2.length = l.length + l2.length by rw [hk2]; simp)
        rw [← hk2] at hgo
        have HK2 := Lib.hid hk2
        have HGo := Lib.hid hgo
        have HKD := Lib.hid kd
        have HE0 := Lib.hid he0
        have HF' := Lib.hid hf'
        clear hF hO hm hl hme hf hR hin hb he0 hmS hf' hgo hr hk2 kd
        go_wp2_with fail
        (with_reducible refine kt.mono ?_)
        rintro e w3 ⟨rfl, hp, hg, _⟩
        have F4 := HFe.out.call hp hg
        have HO4 := Lib.hid (HO.out.keptG hg (by have := HFe.out.gp; omega))
        have kd := HKD.out _ F4.par
        have HF4 := Lib.hid F4
        clear hp hg kt F4
        go_wp2_with fail
        (with_reducible refine kd.mono ?_)
        rintro e w4 ⟨V2, rfl, hO2, hp, hg, hm2, hl2⟩
        simp only at hO2 hp hm2 hl2
        have HF5 := Lib.hid (HF4.out.call hp hg)
        have HO5 := Lib.hid (HO4.out.keptG hg (by have := HF4.out.gp; omega))
        have HOD := Lib.hid hO2
        have hgs := hg.size
        have HBB := Lib.hid (show (w.heap.size - 1) ≤ w3.heap.size - 1 by have := HF4.out.gb.size; omega)
        have HVB := Lib.hid (show ∀ k, V.ownBlock = some k → k ≤ w3.heap.size - 1 from fun k hk => by have := (HO4.out.gt k hk).2; omega)
        have HNM := Lib.hid (show l.length + l2.length ≤ 100000000000 by have := HLL.out; have := hp.lt; have := HFe.out.par.lt; have := hG.few; have : (inc4 S).k = S.k + 1 := rfl; omega)
        have HBS := Lib.hid (show (w.heap.size - 1) + 1 ≤ w4.heap.size by have := HW0.out; have := HF5.out.gb.size; omega)
        have HM2 := Lib.hid (HMM.out.trans ((Mono4.inc S).trans hm2))
        have HL2 := Lib.hid (show ks2.length + s.k ≤ S2.k + 1 by have := HLL.out; have := HK2L.out; have : (inc4 S).k = S.k + 1 := rfl; omega)
        have HDEC := Lib.hid (show mS4 K S2 < mS4 K S from mS4_lt2 HE0.out HFe.out.par.lt (by have := hm2.k; have : (inc4 S).k = S.k + 1 := rfl; omega))
        have HFL := Lib.hid (show mS4 K S2 ≤ f' by have := HFu.out; have := HF'.out; have := HDEC.out; omega)
        obtain ⟨i5, hi5, ⟨z5, hz5, hzs5⟩, hs5', hb5⟩ := HIV.out
        have HI5' := Lib.hid hi5
        have HZ5 := Lib.hid hz5
        have HZS5 := Lib.hid hzs5
        have HS5 := Lib.hid hs5'
        have HB5 := Lib.hid hb5
        clear hO2 hp hg hm2 hl2 kd hgs hi5 hz5 hzs5 hs5' hb5
        go_wp2_with (refine wpList_appO rfl (.tmp 10) (.tmp 12) 35 rfl i5 z5 56 Try.underlying35 HI5'.out HZ5.out HS5.out HB5.out HZS5.out (by decide) (by decide) rfl HO5.out HBS.out rfl HOD.out (vrsD_ones _) HBB.out HVB.out HNM.out ?_)
        intro v8 w8 hO8 hg8 _
        rw [← vrsD_app, ← HK2L.out, ← HK2.out] at hO8
        have HF8 := Lib.hid (HF5.out.grow hg8 (fun k hk => ⟨by have := (HO5.out.gt k hk).1; have := HW0.out; omega, fun x hx => by simp at hx⟩))
        have HO8 := Lib.hid hO8
        clear hO8 hg8
        go_wp2_with fail
        refine ⟨⟨_, f', ks2, S2, rfl, HGo.out.symm, HFL.out, HF8.out, HO8.out, HM2.out, HL2.out⟩, ?_⟩
        rw [mea4_par HF8.out.par, HME.out]
        exact HDEC.out
end Go.Proofs.Ytejljfoacbpliaa

namespace Go.Proofs.Ytejljfoacbpliaa
open Go Go.RowKit
section
variable {P : Program} {Q : Exit → Act → World → Prop} {md : Region.Mode}
def Step (P : Program) (md : Region.Mode) (Q : Exit → Act → World → Prop) (lo l : List Oper) (Sp : Nat → Value → World → Prop) (B : Nat) (w0 : World) (a0 : Act) (i : Nat) (o : Oper) : Prop :=
  ∀ (a : Act) (W : World), Below B w0 W → B ≤ W.heap.size → (∀ j, (∀ x ∈ lo, x.dst ≠ some j) → a.tmps.getD j undef = a0.tmps.getD j undef) →
    (∀ e ∈ o.after.toList, Region.binds md e = true → ∀ x, l[e.on]? = some x → ∀ d, x.dst = some d → d < a.tmps.size ∧ Sp e.on (a.tmps.getD d undef) W) →
    wpOp P l.toArray Q i (fun a' W' => ∃ v, a' = a.put o.dst v ∧ Sp i v W' ∧ Below W.heap.size W W') a W
def Steps (P : Program) (md : Region.Mode) (Q : Exit → Act → World → Prop) (lo l : List Oper) (Sp : Nat → Value → World → Prop) (B : Nat) (w0 : World) (a0 : Act) : Nat → List Oper → Prop
  | _, [] => True
  | i, o :: r => Step P md Q lo l Sp B w0 a0 i o ∧ Steps P md Q lo l Sp B w0 a0 (i + 1) r
variable {lo l : List Oper} {Sp : Nat → Value → World → Prop} {B : Nat} {w0 : World} {a0 : Act}
theorem Steps.cons {i : Nat} {o : Oper} {r : List Oper} (h : Step P md Q lo l Sp B w0 a0 i o) (hr : Steps P md Q lo l Sp B w0 a0 (i + 1) r) : Steps P md Q lo l Sp B w0 a0 i (o :: r) := ⟨h, hr⟩
theorem Steps.nil {i : Nat} : Steps P md Q lo l Sp B w0 a0 i [] := trivial
theorem Steps.at_ : ∀ (r : List Oper) (i : Nat), Steps P md Q lo l Sp B w0 a0 i r → ∀ (k : Nat) (o : Oper), r[k]? = some o → Step P md Q lo l Sp B w0 a0 (i + k) o
  | [], _, _, k, o, h => by simp at h
  | x :: r, i, hs, 0, o, h => by
    simp only [List.getElem?_cons_zero, Option.some.injEq] at h
    subst h
    exact hs.1
  | x :: r, i, hs, k + 1, o, h => by
    have := Steps.at_ r (i + 1) hs.2 k o (by simpa using h)
    rwa [show i + 1 + k = i + (k + 1) by omega] at this
def aheadOps (md : Region.Mode) (l : List Oper) : Bool := (List.range l.length).all fun i => match l[i]? with
  | some o => o.after.toList.all fun e => !Region.binds md e || decide (e.on < i)
  | none => true
theorem aheadOps_spec {md : Region.Mode} (h : aheadOps md l = true) {i : Nat} {o : Oper} (hi : l[i]? = some o) {e : _} (he : e ∈ o.after.toList) (hb : Region.binds md e = true) : e.on < i := by
  have hlt : i < l.length := (List.getElem?_eq_some_iff.1 hi).1
  unfold aheadOps at h
  rw [List.all_eq_true] at h
  have h1 := h i (List.mem_range.2 hlt)
  simp only [hi] at h1
  rw [List.all_eq_true] at h1
  have h2 := h1 e he
  rw [hb] at h2
  simpa using h2
structure Inv (lo l : List Oper) (Sp : Nat → Value → World → Prop) (B : Nat) (w0 : World) (a0 : Act) (listed : Array Bool) (a : Act) (W : World) : Prop where
  size : listed.size = l.length
  below : Below B w0 W
  base : B ≤ W.heap.size
  defers : a.defers = a0.defers
  tmps : a.tmps.size = a0.tmps.size
  old : ∀ j, (∀ x ∈ lo, x.dst ≠ some j) → a.tmps.getD j undef = a0.tmps.getD j undef
  new : ∀ i x d, l[i]? = some x → listed.getD i false = true → x.dst = some d → Sp i (a.tmps.getD d undef) W
theorem put_same {a : Act} {d : Tmp} {v : Value} (h : d < a.tmps.size) : (a.put (some d) v).tmps.getD d undef = v := by
  simp [Act.put, h]
theorem put_other {a : Act} {o : Option Tmp} {d : Tmp} {v : Value} (h : o ≠ some d) : (a.put o v).tmps.getD d undef = a.tmps.getD d undef := by
  cases o with
  | none => rfl
  | some e =>
    have hne : e ≠ d := fun e' => h (by rw [e'])
    show (a.tmps.setIfInBounds e v).getD d undef = _
    simp only [Array.getD, Array.size_setIfInBounds]
    split
    · exact Array.getElem_setIfInBounds_ne (by assumption) hne
    · rfl
theorem put_size {a : Act} {o : Option Tmp} {v : Value} : (a.put o v).tmps.size = a.tmps.size := by
  cases o <;> simp [Act.put]
theorem put_defers {a : Act} {o : Option Tmp} {v : Value} : (a.put o v).defers = a.defers := by
  cases o <;> rfl
def single (l : List Oper) : Bool := (List.range l.length).all fun i => (List.range l.length).all fun j => i == j || match l[i]?, l[j]? with
  | some x, some y => x.dst.isNone || !(x.dst == y.dst)
  | _, _ => true
theorem single_spec (h : single l = true) {i j : Nat} {x y : Oper} {d : Tmp} (hi : l[i]? = some x) (hj : l[j]? = some y) (hx : x.dst = some d) (hy : y.dst = some d) : i = j := by
  have hil : i < l.length := (List.getElem?_eq_some_iff.1 hi).1
  have hjl : j < l.length := (List.getElem?_eq_some_iff.1 hj).1
  unfold single at h
  rw [List.all_eq_true] at h
  have h1 := h i (List.mem_range.2 hil)
  rw [List.all_eq_true] at h1
  have h2 := h1 j (List.mem_range.2 hjl)
  simp only [hi, hj, hx, hy, Bool.or_eq_true, beq_iff_eq] at h2
  rcases h2 with h2 | h2
  · exact h2
  · simp at h2
def within (l : List Oper) (n : Nat) : Bool := l.all fun o => match o.dst with
  | some d => decide (d < n)
  | none => true
theorem within_spec {n : Nat} (h : within l n = true) {o : Oper} (ho : o ∈ l) {d : Tmp} (hd : o.dst = some d) : d < n := by
  unfold within at h
  rw [List.all_eq_true] at h
  have := h o ho
  simpa [hd] using this
theorem Inv.step (hst : ∀ i v W W', Sp i v W → Below W.heap.size W W' → Sp i v W') (h1 : single l = true) (h2 : within l a0.tmps.size = true)
    {listed : Array Bool} {a : Act} {W : World} (h : Inv lo l Sp B w0 a0 listed a W) {i : Nat} {o : Oper} (hi : l[i]? = some o) (hlo : o ∈ lo) {v : Value} {W' : World} (hv : Sp i v W') (hb : Below W.heap.size W W') :
    Inv lo l Sp B w0 a0 (listed.setIfInBounds i true) (a.put o.dst v) W' := by
  refine ⟨by simpa using h.size, h.below.trans (hb.mono h.base), Nat.le_trans h.base hb.size, put_defers.trans h.defers, put_size.trans h.tmps, fun j hj => ?_, fun k x d hk hl hd => ?_⟩
  · rw [put_other (hj o hlo), h.old j hj]
  · by_cases hki : k = i
    · subst hki
      rw [hi] at hk
      injection hk with hk
      subst hk
      rw [hd, put_same (by rw [h.tmps]; exact within_spec h2 (List.mem_of_getElem? hi) hd)]
      exact hv
    · rw [put_other (fun e => hki (single_spec h1 hk hi hd e))]
      rw [getD_set_ne _ (Ne.symm hki)] at hl
      exact hst _ _ _ _ (h.new k x d hk hl hd) hb
theorem count_set {listed : Array Bool} {i : Nat} (h : listed.getD i true = false) : (listed.setIfInBounds i true).toList.count false + 1 = listed.toList.count false := by
  have hlt : i < listed.size := by
    rcases Nat.lt_or_ge i listed.size with h' | h'
    · exact h'
    · simp [Array.getD, Nat.not_lt.2 h'] at h
  have hv : listed.toList[i]'(by simpa using hlt) = false := by
    have : listed[i] = false := by simpa [Array.getD, hlt] using h
    simpa using this
  rw [Array.toList_setIfInBounds, List.count_set (by simpa using hlt), hv]
  have hpos : 0 < listed.toList.count false := List.count_pos_iff.2 (by rw [← hv]; exact List.getElem_mem _)
  simp only [beq_self_eq_true, if_true]
  have e : (true == false) = false := rfl
  rw [e]
  simp only [Bool.false_eq_true, if_false]
  omega
theorem wpAny_steps (hst : ∀ i v W W', Sp i v W → Below W.heap.size W W' → Sp i v W') (h1 : single l = true) (h2 : within l a0.tmps.size = true) (h3 : aheadOps md l = true) (hs : Steps P md Q l l Sp B w0 a0 0 l)
    (hdone : ∀ a W, Inv l l Sp B w0 a0 (Array.replicate l.length true) a W → Q .normal a W) :
    ∀ (fuel : Nat) (listed : Array Bool) (a : Act) (W : World), Inv l l Sp B w0 a0 listed a W → listed.toList.count false ≤ fuel → wpAny P md l.toArray Q fuel listed a W := by
  have empty : ∀ (listed : Array Bool), listed.size = l.length → Region.ready md l.toArray listed = [] → listed = Array.replicate l.length true := by
    intro listed hsz hr
    have all : ∀ n i, i < n → i < l.length → listed.getD i false = true := by
      intro n
      induction n with
      | zero => intro i hi; omega
      | succ n ih =>
        intro i hi hil
        by_cases hin : i < n
        · exact ih i hin hil
        · cases hb : listed.getD i false with
          | true => rfl
          | false =>
            have hlt : i < listed.size := by omega
            have hmem : i ∈ Region.ready md l.toArray listed := by
              rw [mem_ready]
              refine ⟨by simpa [Array.getD, hlt] using hb, l[i], by simp [hil], fun e he hbe => ?_⟩
              have hlt' := aheadOps_spec h3 (i := i) (o := l[i]) (by simp [hil]) (Array.mem_toList_iff.2 he) hbe
              exact ih e.on (by omega) (by omega)
            rw [hr] at hmem
            cases hmem
    apply Array.ext
    · simp [hsz]
    · intro i hi1 hi2
      have := all (i + 1) i (Nat.lt_succ_self _) (by omega)
      simpa [Array.getD, hi1] using this
  intro fuel
  induction fuel with
  | zero =>
    intro listed a W hI hc
    have hall : ∀ b ∈ listed.toList, b = true := by
      intro b hb
      cases b with
      | true => rfl
      | false => have := List.count_pos_iff.2 hb; omega
    have hr : Region.ready md l.toArray listed = [] := by
      cases hr : Region.ready md l.toArray listed with
      | nil => rfl
      | cons j js =>
        have hj : j ∈ Region.ready md l.toArray listed := by rw [hr]; exact List.mem_cons_self ..
        rw [mem_ready] at hj
        have hlt : j < listed.size := by
          rcases Nat.lt_or_ge j listed.size with h' | h'
          · exact h'
          · have := hj.1; simp [Array.getD, Nat.not_lt.2 h'] at this
        have hb := hall (listed[j]) (by simp)
        have hf := hj.1
        simp [Array.getD, hlt, hb] at hf
    refine ⟨hr, hdone a W ?_⟩
    rw [← empty listed hI.size hr]
    exact hI
  | succ fuel ih =>
    intro listed a W hI hc
    refine ⟨fun hr => hdone a W (by rw [← empty listed hI.size hr]; exact hI), fun i hi => ?_⟩
    rw [mem_ready] at hi
    obtain ⟨hf, o, ho, hpre⟩ := hi
    have hio : l[i]? = some o := by simpa using ho
    have hst' := Steps.at_ l 0 hs i o hio
    rw [Nat.zero_add] at hst'
    refine wpOp_mono ?_ (hst' a W hI.below hI.base hI.old (fun e he hb x hx d hd => ⟨by rw [hI.tmps]; exact within_spec h2 (List.mem_of_getElem? hx) hd, hI.new e.on x d hx (hpre e (Array.mem_toList_iff.1 he) hb) hd⟩))
    rintro a' W' ⟨v, rfl, hv, hb⟩
    have := count_set hf
    exact ih _ _ _ (hI.step hst h1 h2 hio (List.mem_of_getElem? hio) hv hb) (by omega)
theorem wp_region_steps {id : Nat} {a0 : Act} {w : World} (Sp : Nat → Value → World → Prop) (B : Nat) (w0 : World) (hm : P.follows .mixedOrders = true) (hB : Below B w0 w) (hBw : B ≤ w.heap.size)
    (hst : ∀ i v W W', Sp i v W → Below W.heap.size W W' → Sp i v W') (h1 : single l = true) (h2 : within l a0.tmps.size = true) (h3 : aheadOps .any l = true) (hs : Steps P .any Q l l Sp B w0 a0 0 l)
    (hdone : ∀ a W, Inv l l Sp B w0 a0 (Array.replicate l.length true) a W → Q .normal a W) : (Code.region id l.toArray true).wp P Q a0 w := by
  refine wp_region_any hm ?_
  have hsz : l.toArray.size = l.length := by simp
  refine wpAny_steps hst h1 h2 h3 hs hdone _ _ _ _ ⟨by simp, hB.drew, hBw, rfl, rfl, fun _ _ => rfl, fun i x d _ hl _ => ?_⟩ ?_
  · have : (Array.replicate l.toArray.size false).getD i false = false := by
      simp [Array.getD]
    rw [this] at hl
    cases hl
  · simp
def reaches (md : Region.Mode) (l : List Oper) : Nat → List Nat → List Nat
  | 0, S => S
  | k + 1, S => reaches md l k (S ++ S.flatMap fun i => match l[i]? with
    | some o => (o.after.toList.filter fun e => Region.binds md e).map (·.on)
    | none => [])
theorem reaches_good (md : Region.Mode) (l : List Oper) (good : Nat → Prop) (h : ∀ i, good i → ∀ o, l[i]? = some o → ∀ e ∈ o.after.toList, Region.binds md e = true → good e.on) :
    ∀ (k : Nat) (S : List Nat), (∀ i ∈ S, good i) → ∀ i ∈ reaches md l k S, good i
  | 0, _, hS => hS
  | k + 1, S, hS => reaches_good md l good h k _ fun i hi => by
    rcases List.mem_append.1 hi with hi | hi
    · exact hS i hi
    · obtain ⟨j, hj, hm⟩ := List.mem_flatMap.1 hi
      cases ho : l[j]? with
      | none => rw [ho] at hm; cases hm
      | some o =>
        rw [ho] at hm
        obtain ⟨e, he, rfl⟩ := List.mem_map.1 hm
        obtain ⟨he1, he2⟩ := List.mem_filter.1 he
        exact h j (hS j hj) o ho e he1 he2
def covers (md : Region.Mode) (l : List Oper) : Bool := (List.range l.length).all fun i => (reaches md l l.length [l.length - 1]).contains i
theorem wpAny_steps_then (hst : ∀ i v W W', Sp i v W → Below W.heap.size W W' → Sp i v W') (h1 : single l = true) (h2 : within l a0.tmps.size = true) (h3 : aheadOps md l = true) (h4 : covers md l = true) (l0 : List Oper) (o0 : Oper) (hl : l = l0 ++ [o0]) (hs : Steps P md Q l0 l Sp B w0 a0 0 l0)
    (hlast : ∀ a W, Inv l0 l Sp B w0 a0 ((Array.replicate l.length true).setIfInBounds l0.length false) a W → wpOp P l.toArray Q l0.length (fun a' W' => Q .normal a' W') a W) :
    ∀ (fuel : Nat) (listed : Array Bool) (a : Act) (W : World), Inv l0 l Sp B w0 a0 listed a W → listed.getD l0.length true = false →
      (∀ i, listed.getD i false = true → ∀ o, l[i]? = some o → ∀ e ∈ o.after.toList, Region.binds md e = true → listed.getD e.on false = true) → listed.toList.count false ≤ fuel → wpAny P md l.toArray Q fuel listed a W := by
  have hlen : l.length = l0.length + 1 := by rw [hl]; simp
  have hol : l[l0.length]? = some o0 := by rw [hl]; simp
  -- there is always one that may come up
  have some_ready : ∀ (listed : Array Bool), listed.size = l.length → listed.getD l0.length true = false → Region.ready md l.toArray listed ≠ [] := by
    intro listed hsz hlast0 hr
    have all : ∀ n i, i < n → i < l.length → listed.getD i false = true := by
      intro n
      induction n with
      | zero => intro i hi; omega
      | succ n ih =>
        intro i hi hil
        by_cases hin : i < n
        · exact ih i hin hil
        · cases hb : listed.getD i false with
          | true => rfl
          | false =>
            have hlt : i < listed.size := by omega
            have hmem : i ∈ Region.ready md l.toArray listed := by
              rw [mem_ready]
              refine ⟨by simpa [Array.getD, hlt] using hb, l[i], by simp [hil], fun e he hbe => ?_⟩
              have hlt' := aheadOps_spec h3 (i := i) (o := l[i]) (by simp [hil]) (Array.mem_toList_iff.2 he) hbe
              exact ih e.on (by omega) (by omega)
            rw [hr] at hmem
            cases hmem
    have hlt : l0.length < listed.size := by omega
    have := all (l0.length + 1) l0.length (Nat.lt_succ_self _) (by omega)
    simp [Array.getD, hlt] at this hlast0
    rw [this] at hlast0
    cases hlast0
  intro fuel
  induction fuel with
  | zero =>
    intro listed a W hI hlast0 _ hc
    exfalso
    have hlt : l0.length < listed.size := by rw [hI.size]; omega
    have hv : listed[l0.length] = false := by simpa [Array.getD, hlt] using hlast0
    have hpos : 0 < listed.toList.count false := List.count_pos_iff.2 (by rw [← hv]; simp)
    omega
  | succ fuel ih =>
    intro listed a W hI hlast0 hcl hc
    refine ⟨fun hr => absurd hr (some_ready listed hI.size hlast0), fun i hi => ?_⟩
    rw [mem_ready] at hi
    obtain ⟨hf, o, ho, hpre⟩ := hi
    have hio : l[i]? = some o := by simpa using ho
    have hil : i < l.length := (List.getElem?_eq_some_iff.1 hio).1
    by_cases hi0 : i < l0.length
    · have hio0 : l0[i]? = some o := by
        rw [hl, List.getElem?_append_left hi0] at hio
        exact hio
      have hst' := Steps.at_ l0 0 hs i o hio0
      rw [Nat.zero_add] at hst'
      refine wpOp_mono ?_ (hst' a W hI.below hI.base hI.old (fun e he hb x hx d hd => ⟨by rw [hI.tmps]; exact within_spec h2 (List.mem_of_getElem? hx) hd, hI.new e.on x d hx (hpre e (Array.mem_toList_iff.1 he) hb) hd⟩))
      rintro a' W' ⟨v, rfl, hv, hb⟩
      have := count_set hf
      refine ih _ _ _ (hI.step hst h1 h2 hio (List.mem_of_getElem? hio0) hv hb) ?_ ?_ (by omega)
      · simp only [Array.getD, Array.size_setIfInBounds]
        have hlt : l0.length < listed.size := by rw [hI.size]; omega
        simp only [hlt, dite_true]
        rw [Array.getInternal_eq_getElem, Array.getElem_setIfInBounds_ne (by assumption) (by omega)]
        simpa [Array.getD, hlt] using hlast0
      · intro j hj x hx e he hb'
        have mono : ∀ k, listed.getD k false = true → (listed.setIfInBounds i true).getD k false = true := by
          intro k hk
          by_cases hki : k = i
          · subst hki
            have hlt : k < listed.size := by rw [hI.size]; omega
            simp [Array.getD, hlt]
          · rw [getD_set_ne _ (Ne.symm hki)]
            exact hk
        by_cases hji : j = i
        · subst hji
          rw [hio] at hx
          injection hx with hx
          subst hx
          exact mono _ (hpre e (Array.mem_toList_iff.1 he) hb')
        · rw [getD_set_ne _ (Ne.symm hji)] at hj
          exact mono _ (hcl j hj x hx e he hb')
    · obtain rfl : i = l0.length := by omega
      rw [hol] at hio
      injection hio with hio
      subst hio
      have good := reaches_good md l (fun i => i = l0.length ∨ listed.getD i false = true) (fun j hj x hx e he hb => by
        rcases hj with rfl | hj
        · rw [hol] at hx
          injection hx with hx
          subst hx
          exact .inr (hpre e (Array.mem_toList_iff.1 he) hb)
        · exact .inr (hcl j hj x hx e he hb)) l.length [l.length - 1] (fun j hj => by
          rw [List.mem_singleton] at hj
          exact .inl (by omega))
      have hall : ∀ j, j < l.length → j = l0.length ∨ listed.getD j false = true := by
        intro j hj
        unfold covers at h4
        rw [List.all_eq_true] at h4
        exact good j (List.contains_iff_mem.1 (h4 j (List.mem_range.2 hj)))
      have hlisted : listed = (Array.replicate l.length true).setIfInBounds l0.length false := by
        apply Array.ext
        · simp [hI.size]
        · intro j hj1 hj2
          by_cases hj : j = l0.length
          · subst hj
            have : listed[l0.length] = false := by simpa [Array.getD, hj1] using hlast0
            simp [this]
          · rw [Array.getElem_setIfInBounds_ne (by simpa using (by rw [← hI.size]; exact hj1)) (by omega)]
            rcases hall j (by rw [← hI.size]; exact hj1) with h | h
            · exact absurd h hj
            · simpa [Array.getD, hj1] using h
      have hrep : (listed.setIfInBounds l0.length true) = Array.replicate l.length true := by
        rw [hlisted]
        apply Array.ext
        · simp
        · intro j hj1 hj2
          by_cases hj : j = l0.length
          · subst hj; simp
          · rw [Array.getElem_setIfInBounds_ne (by simpa using hj2) (by omega), Array.getElem_setIfInBounds_ne (by simpa using hj2) (by omega)]
      have hready : Region.ready md l.toArray (Array.replicate l.length true) = [] := by
        cases hr : Region.ready md l.toArray (Array.replicate l.length true) with
        | nil => rfl
        | cons j js =>
          have hj : j ∈ Region.ready md l.toArray (Array.replicate l.length true) := by rw [hr]; exact List.mem_cons_self ..
          rw [mem_ready] at hj
          have hlt : j < l.length := by
            rcases Nat.lt_or_ge j l.length with h' | h'
            · exact h'
            · have := hj.1; simp [Array.getD, Nat.not_lt.2 h'] at this
          have := hj.1
          simp [Array.getD, hlt] at this
      have hop := hlast a W (by rw [← hlisted]; exact hI)
      refine wpOp_mono ?_ hop
      intro a' W' hQ
      rw [hrep]
      cases fuel with
      | zero => exact ⟨hready, hQ⟩
      | succ f => exact ⟨fun _ => hQ, fun i hi => by rw [hready] at hi; cases hi⟩
theorem wp_region_steps_then {id : Nat} {a0 : Act} {w : World} (Sp : Nat → Value → World → Prop) (B : Nat) (w0 : World) (hm : P.follows .mixedOrders = true) (hB : Below B w0 w) (hBw : B ≤ w.heap.size)
    (hst : ∀ i v W W', Sp i v W → Below W.heap.size W W' → Sp i v W') (h1 : single l = true) (h2 : within l a0.tmps.size = true) (h3 : aheadOps .any l = true) (h4 : covers .any l = true) (o0 : Oper) (ho0 : l.getLast? = some o0) (hs : Steps P .any Q l.dropLast l Sp B w0 a0 0 l.dropLast)
    (hlast : ∀ a W, Inv l.dropLast l Sp B w0 a0 ((Array.replicate l.length true).setIfInBounds (l.length - 1) false) a W → wpOp P l.toArray Q (l.length - 1) (fun a' W' => Q .normal a' W') a W) : (Code.region id l.toArray true).wp P Q a0 w := by
  refine wp_region_any hm ?_
  obtain ⟨l0, hl0⟩ : ∃ l0, l0 = l.dropLast := ⟨_, rfl⟩
  have hl : l = l0 ++ [o0] := by
    rw [hl0]
    obtain ⟨ys, h⟩ := List.getLast?_eq_some_iff.1 ho0
    conv => lhs; rw [h]
    rw [h, List.dropLast_concat]
  rw [← hl0] at hs hlast
  have hln : l.length - 1 = l0.length := by rw [hl]; simp
  rw [hln] at hlast
  have hlen : l.length = l0.length + 1 := by rw [hl]; simp
  have hfalse : ∀ i, (Array.replicate l.toArray.size false).getD i false = false := by
    intro i
    simp [Array.getD]
  refine wpAny_steps_then hst h1 h2 h3 h4 l0 o0 hl hs hlast _ _ _ _ ⟨by simp, hB.drew, hBw, rfl, rfl, fun _ _ => rfl, fun i x d _ hl _ => ?_⟩ ?_ ?_ ?_
  · rw [hfalse] at hl
    cases hl
  · have hlt : l0.length < (Array.replicate l.toArray.size false).size := by simp; omega
    simp [Array.getD, hlen]
  · intro i hi
    rw [hfalse] at hi
    cases hi
  · simp
end
end Go.Proofs.Ytejljfoacbpliaa

namespace Go.Proofs.Ytejljfoacbpliaa
open Go Go.RowKit
section
variable {P : Program} {Q : Exit → Act → World → Prop} {md : Region.Mode} {lo l : List Oper} {Sp : Nat → Value → World → Prop} {B : Nat} {w0 : World} {a0 : Act}
structure Pre (md : Region.Mode) (lo l : List Oper) (Sp : Nat → Value → World → Prop) (B : Nat) (w0 : World) (a0 : Act) (o : Oper) (a : Act) (W : World) : Prop where
  below : Below B w0 W
  base : B ≤ W.heap.size
  old : ∀ j, (lo.all fun x => !(x.dst == some j)) = true → a.tmps.getD j undef = a0.tmps.getD j undef
  pre : ∀ e ∈ o.after.toList, Region.binds md e = true → ∀ x, l[e.on]? = some x → ∀ d, x.dst = some d → d < a.tmps.size ∧ Sp e.on (a.tmps.getD d undef) W
theorem Pre.on_ {o : Oper} {a : Act} {W : World} (h : Pre md lo l Sp B w0 a0 o a W) (n : Nat) {x : Oper} {d : Tmp} (he : (o.after.toList.any fun e => e.on == n && Region.binds md e) = true) (hx : l[n]? = some x) (hd : x.dst = some d) :
    d < a.tmps.size ∧ Sp n (a.tmps.getD d undef) W := by
  obtain ⟨e, he1, he2⟩ := List.any_eq_true.1 he
  rw [Bool.and_eq_true, beq_iff_eq] at he2
  obtain ⟨rfl, h2⟩ := he2
  exact h.pre e he1 h2 x hx d hd
theorem Step.of {i : Nat} {o : Oper} (h : ∀ a W, Pre md lo l Sp B w0 a0 o a W → wpOp P l.toArray Q i (fun a' W' => ∃ v, a' = a.put o.dst v ∧ Sp i v W' ∧ Below W.heap.size W W') a W) : Step P md Q lo l Sp B w0 a0 i o :=
  fun a W h1 h2 h3 h4 => h a W ⟨h1, h2, fun j hj => h3 j (fun x hx hd => by
    have := (List.all_eq_true.1 hj) x hx
    simp [hd] at this), h4⟩
theorem wpOp_of {i : Nat} {o : Oper} {a : Act} {W : World} {K : Act → World → Prop} (hi : l[i]? = some o) (hw : Region.wanted o (yielded l.toArray a.tmps) = true) (h : o.wp P a W K Q) : wpOp P l.toArray Q i K a W := by
  have hi' : l.toArray[i]? = some o := by simpa using hi
  unfold wpOp
  simp only [hi', hw, if_true]
  exact .inl h
theorem wanted_none {o : Oper} {f : Nat → Option Bool} (h : o.guard = none) : Region.wanted o f = true := by simp [Region.wanted, h]
theorem step_value {i : Nat} {o : Oper} (hi : l[i]? = some o) (h : ∀ a W, Pre md lo l Sp B w0 a0 o a W → Region.wanted o (yielded l.toArray a.tmps) = true ∧ ∃ v W', (execOp a.eval o).run P W = .ok (.value v) W' ∧ Sp i v W' ∧ Below W.heap.size W W') :
    Step P md Q lo l Sp B w0 a0 i o := Step.of fun a W hp => by
  obtain ⟨hw, v, W', hr, hs, hb⟩ := h a W hp
  refine wpOp_of hi hw ?_
  unfold Oper.wp
  rw [hr]
  exact ⟨v, rfl, hs, hb⟩
theorem step_enter {i : Nat} {o : Oper} (hi : l[i]? = some o) (h : ∀ a W, Pre md lo l Sp B w0 a0 o a W → Region.wanted o (yielded l.toArray a.tmps) = true ∧ ∃ f args, (execOp a.eval o).run P W = .ok (.enter f args) W ∧ Calls P f args W fun e W' => ∃ v, e = .returned v ∧ Sp i v W' ∧ Below W.heap.size W W') :
    Step P md Q lo l Sp B w0 a0 i o := Step.of fun a W hp => by
  obtain ⟨hw, f, args, hr, hc⟩ := h a W hp
  refine wpOp_of hi hw ?_
  unfold Oper.wp
  rw [hr, Oper.upon_enter]
  refine hc.mono ?_
  rintro e W' ⟨v, rfl, hs, hb⟩
  exact ⟨v, rfl, hs, hb⟩
theorem run_move {o : Oper} {ρ : Operand → Value} {x : Operand} {W : World} (ho : o.op = .move x ∨ o.op = .assign x) : (execOp ρ o).run P W = .ok (.value (ρ x)) W := by
  rcases ho with ho | ho <;> simp [execOp, ho]
theorem run_pick {o : Oper} {ρ : Operand → Value} {c x y : Operand} {W : World} (ho : o.op = .pick c x y) (hc : ρ c = .bool true) : (execOp ρ o).run P W = .ok (.value (ρ x)) W := by
  simp [execOp, ho, hc, go_sem]
theorem run_enter2 {o : Oper} {ρ : Operand → Value} {f : FuncId} {x y : Operand} {ts : Array TypeId} {W : World} (ho : o.op = .call { callee := .value (.func f), args := #[x, y], argTypes := ts }) (hf : ρ (.func f) = .func (.func f) #[] #[]) (hcf : ∀ (args : Array Value) (w : World), (callFunc f args).run P w = .ok (.enter f args) w) :
    (execOp ρ o).run P W = .ok (.enter f #[ρ x, ρ y]) W := by
  simp [execOp, ho, resolve, hf, invoke, Deferred.ofValue, hcf]
theorem run_enter1 {o : Oper} {ρ : Operand → Value} {f : FuncId} {x : Operand} {ts : Array TypeId} {W : World} (ho : o.op = .call { callee := .value (.func f), args := #[x], argTypes := ts }) (hf : ρ (.func f) = .func (.func f) #[] #[]) (hcf : ∀ (args : Array Value) (w : World), (callFunc f args).run P w = .ok (.enter f args) w) :
    (execOp ρ o).run P W = .ok (.enter f #[ρ x]) W := by
  simp [execOp, ho, resolve, hf, invoke, Deferred.ofValue, hcf]
theorem act_eta {a : Act} {n : Nat} (hs : a.tmps.size = n) (hd : a.defers = []) : ∃ f : Nat → Value, (∀ i, a.tmps.getD i undef = f i) ∧ a = { tmps := ((List.range n).map f).toArray, defers := [] } := by
  refine ⟨fun i => a.tmps.getD i undef, fun _ => rfl, ?_⟩
  obtain ⟨tmps, defers⟩ := a
  simp only at hs hd
  subst hd
  congr 1
  apply Array.ext
  · simp [hs]
  · intro i h1 h2
    simp [Array.getD, h1]
def wIs (c : Value) (v : Value) (_ : World) : Prop := v = c
def Stable (f : Value → World → Prop) : Prop := ∀ v W W', f v W → Below W.heap.size W W' → f v W'
theorem stable_is (c : Value) : Stable (wIs c) := fun _ _ _ h _ => h
def words (ws : List (Value → World → Prop)) (i : Nat) : Value → World → Prop := (ws[i]?).getD (fun _ _ => True)
theorem words_stable {ws : List (Value → World → Prop)} (h : ∀ f ∈ ws, Stable f) : ∀ i v W W', words ws i v W → Below W.heap.size W W' → words ws i v W' := by
  intro i v W W' hv hb
  unfold words at *
  cases hi : ws[i]? with
  | none => simp
  | some f =>
    rw [hi] at hv
    exact h f (List.mem_of_getElem? hi) v W W' hv hb
end
end Go.Proofs.Ytejljfoacbpliaa

namespace Go.Proofs.Ytejljfoacbpliaa
open Go Go.RowKit
section
variable {P : Program} {Q : Exit → Act → World → Prop} {md : Region.Mode} {lo l : List Oper} {Sp : Nat → Value → World → Prop} {B : Nat} {w0 : World} {a0 : Act}
def covers2 (md : Region.Mode) (l : List Oper) : Bool := ((List.range (l.length - 1)).all fun i => (reaches md l l.length [l.length - 2]).contains i) && (match l[l.length - 1]? with
  | some o => o.after.toList.any fun e => e.on == l.length - 2 && Region.binds md e
  | none => false)
theorem wpAny_steps_then2 (hst : ∀ i v W W', Sp i v W → Below W.heap.size W W' → Sp i v W') (h1 : single l = true) (h2 : within l a0.tmps.size = true) (h3 : aheadOps md l = true) (h4 : covers2 md l = true) (l0 : List Oper) (o0 o1 : Oper) (hl : l = l0 ++ [o0, o1]) (hs : Steps P md Q l0 l Sp B w0 a0 0 l0)
    (hlast : ∀ a W, Inv l0 l Sp B w0 a0 (((Array.replicate l.length true).setIfInBounds l0.length false).setIfInBounds (l0.length + 1) false) a W → wpOp P l.toArray Q l0.length (fun a' W' => wpOp P l.toArray Q (l0.length + 1) (fun a'' W'' => Q .normal a'' W'') a' W') a W) :
    ∀ (fuel : Nat) (listed : Array Bool) (a : Act) (W : World), Inv l0 l Sp B w0 a0 listed a W → listed.getD l0.length true = false → listed.getD (l0.length + 1) true = false →
      (∀ i, listed.getD i false = true → ∀ o, l[i]? = some o → ∀ e ∈ o.after.toList, Region.binds md e = true → listed.getD e.on false = true) → listed.toList.count false ≤ fuel → wpAny P md l.toArray Q fuel listed a W := by
  have hlen : l.length = l0.length + 2 := by rw [hl]; simp
  have hol : l[l0.length]? = some o0 := by rw [hl]; simp
  have hol1 : l[l0.length + 1]? = some o1 := by rw [hl]; simp
  unfold covers2 at h4
  rw [Bool.and_eq_true, show l.length - 1 = l0.length + 1 by omega, show l.length - 2 = l0.length by omega, hol1] at h4
  obtain ⟨h4, h5⟩ := h4
  obtain ⟨e1, he1, hb1⟩ := List.any_eq_true.1 h5
  rw [Bool.and_eq_true, beq_iff_eq] at hb1
  -- there is always one that may come up
  have some_ready : ∀ (listed : Array Bool), listed.size = l.length → (∃ i, i < l.length ∧ listed.getD i true = false) → Region.ready md l.toArray listed ≠ [] := by
    intro listed hsz ⟨i0, hi0, hf0⟩ hr
    have all : ∀ n i, i < n → i < l.length → listed.getD i false = true := by
      intro n
      induction n with
      | zero => intro i hi; omega
      | succ n ih =>
        intro i hi hil
        by_cases hin : i < n
        · exact ih i hin hil
        · cases hb : listed.getD i false with
          | true => rfl
          | false =>
            have hlt : i < listed.size := by omega
            have hmem : i ∈ Region.ready md l.toArray listed := by
              rw [mem_ready]
              refine ⟨by simpa [Array.getD, hlt] using hb, l[i], by simp [hil], fun e he hbe => ?_⟩
              have hlt' := aheadOps_spec h3 (i := i) (o := l[i]) (by simp [hil]) (Array.mem_toList_iff.2 he) hbe
              exact ih e.on (by omega) (by omega)
            rw [hr] at hmem
            cases hmem
    have hlt : i0 < listed.size := by omega
    have := all (i0 + 1) i0 (Nat.lt_succ_self _) hi0
    simp [Array.getD, hlt] at this hf0
    rw [this] at hf0
    cases hf0
  intro fuel
  induction fuel with
  | zero =>
    intro listed a W hI hlast0 _ _ hc
    exfalso
    have hlt : l0.length < listed.size := by rw [hI.size]; omega
    have hv : listed[l0.length] = false := by simpa [Array.getD, hlt] using hlast0
    have hpos : 0 < listed.toList.count false := List.count_pos_iff.2 (by rw [← hv]; simp)
    omega
  | succ fuel ih =>
    intro listed a W hI hlast0 hlast1 hcl hc
    refine ⟨fun hr => absurd hr (some_ready listed hI.size ⟨l0.length, by omega, hlast0⟩), fun i hi => ?_⟩
    rw [mem_ready] at hi
    obtain ⟨hf, o, ho, hpre⟩ := hi
    have hio : l[i]? = some o := by simpa using ho
    have hil : i < l.length := (List.getElem?_eq_some_iff.1 hio).1
    by_cases hi0 : i < l0.length
    · have hio0 : l0[i]? = some o := by
        rw [hl, List.getElem?_append_left hi0] at hio
        exact hio
      have hst' := Steps.at_ l0 0 hs i o hio0
      rw [Nat.zero_add] at hst'
      refine wpOp_mono ?_ (hst' a W hI.below hI.base hI.old (fun e he hb x hx d hd => ⟨by rw [hI.tmps]; exact within_spec h2 (List.mem_of_getElem? hx) hd, hI.new e.on x d hx (hpre e (Array.mem_toList_iff.1 he) hb) hd⟩))
      rintro a' W' ⟨v, rfl, hv, hb⟩
      have := count_set hf
      have keep : ∀ k, k ≠ i → k < l.length → listed.getD k true = false → (listed.setIfInBounds i true).getD k true = false := by
        intro k hk hkl h
        have hlt : k < listed.size := by rw [hI.size]; omega
        simp only [Array.getD, Array.size_setIfInBounds]
        simp only [hlt, dite_true]
        rw [Array.getInternal_eq_getElem, Array.getElem_setIfInBounds_ne (by assumption) (by omega)]
        simpa [Array.getD, hlt] using h
      refine ih _ _ _ (hI.step hst h1 h2 hio (List.mem_of_getElem? hio0) hv hb) (keep _ (by omega) (by omega) hlast0) (keep _ (by omega) (by omega) hlast1) ?_ (by omega)
      intro j hj x hx e he hb'
      have mono : ∀ k, listed.getD k false = true → (listed.setIfInBounds i true).getD k false = true := by
        intro k hk
        by_cases hki : k = i
        · subst hki
          have hlt : k < listed.size := by rw [hI.size]; omega
          simp [Array.getD, hlt]
        · rw [getD_set_ne _ (Ne.symm hki)]
          exact hk
      by_cases hji : j = i
      · subst hji
        rw [hio] at hx
        injection hx with hx
        subst hx
        exact mono _ (hpre e (Array.mem_toList_iff.1 he) hb')
      · rw [getD_set_ne _ (Ne.symm hji)] at hj
        exact mono _ (hcl j hj x hx e he hb')
    · by_cases hi1 : i = l0.length + 1
      · exfalso
        subst hi1
        rw [hol1] at hio
        injection hio with hio
        subst hio
        have h := hpre e1 (Array.mem_toList_iff.1 he1) hb1.2
        rw [hb1.1] at h
        have hlt : l0.length < listed.size := by rw [hI.size]; omega
        simp [Array.getD, hlt] at h hlast0
        rw [h] at hlast0
        cases hlast0
      · obtain rfl : i = l0.length := by omega
        rw [hol] at hio
        injection hio with hio
        subst hio
        have good := reaches_good md l (fun i => i = l0.length ∨ listed.getD i false = true) (fun j hj x hx e he hb => by
          rcases hj with rfl | hj
          · rw [hol] at hx
            injection hx with hx
            subst hx
            exact .inr (hpre e (Array.mem_toList_iff.1 he) hb)
          · exact .inr (hcl j hj x hx e he hb)) l.length [l0.length] (fun j hj => by
            rw [List.mem_singleton] at hj
            exact .inl hj)
        have hall : ∀ j, j < l0.length → listed.getD j false = true := by
          intro j hj
          rw [List.all_eq_true] at h4
          rcases good j (List.contains_iff_mem.1 (h4 j (List.mem_range.2 (by omega)))) with h | h
          · omega
          · exact h
        have hlisted : listed = ((Array.replicate l.length true).setIfInBounds l0.length false).setIfInBounds (l0.length + 1) false := by
          apply Array.ext
          · simp [hI.size]
          · intro j hj1 hj2
            by_cases hj : j = l0.length
            · subst hj
              have : listed[l0.length] = false := by simpa [Array.getD, hj1] using hlast0
              rw [Array.getElem_setIfInBounds_ne (by simpa using hj2) (by omega)]
              simp [this]
            · by_cases hj' : j = l0.length + 1
              · subst hj'
                have : listed[l0.length + 1] = false := by simpa [Array.getD, hj1] using hlast1
                simp [this]
              · rw [Array.getElem_setIfInBounds_ne (by simpa using hj2) (by omega), Array.getElem_setIfInBounds_ne (by simpa using hj2) (by omega)]
                have := hall j (by rw [hI.size] at hj1; omega)
                simpa [Array.getD, hj1] using this
        have hready : Region.ready md l.toArray (Array.replicate l.length true) = [] := by
          cases hr : Region.ready md l.toArray (Array.replicate l.length true) with
          | nil => rfl
          | cons j js =>
            have hj : j ∈ Region.ready md l.toArray (Array.replicate l.length true) := by rw [hr]; exact List.mem_cons_self ..
            rw [mem_ready] at hj
            have hlt : j < l.length := by
              rcases Nat.lt_or_ge j l.length with h' | h'
              · exact h'
              · have := hj.1; simp [Array.getD, Nat.not_lt.2 h'] at this
            have := hj.1
            simp [Array.getD, hlt] at this
        have hrep : listed.setIfInBounds l0.length true = (Array.replicate l.length true).setIfInBounds (l0.length + 1) false := by
          rw [hlisted]
          apply Array.ext
          · simp
          · intro j hj1 hj2
            by_cases hj : j = l0.length
            · subst hj
              rw [Array.getElem_setIfInBounds_self, Array.getElem_setIfInBounds_ne (by simpa using hj2) (by omega)]
              simp
            · by_cases hj' : j = l0.length + 1
              · subst hj'
                rw [Array.getElem_setIfInBounds_ne (by simpa using hj2) (by omega)]
                simp
              · rw [Array.getElem_setIfInBounds_ne (by simpa using hj2) (by omega), Array.getElem_setIfInBounds_ne (by simpa using hj2) (by omega), Array.getElem_setIfInBounds_ne (by simpa using hj2) (by omega), Array.getElem_setIfInBounds_ne (by simpa using hj2) (by omega)]
        have hrep2 : ((Array.replicate l.length true).setIfInBounds (l0.length + 1) false).setIfInBounds (l0.length + 1) true = Array.replicate l.length true := by
          apply Array.ext
          · simp
          · intro j hj1 hj2
            by_cases hj : j = l0.length + 1
            · subst hj; simp
            · rw [Array.getElem_setIfInBounds_ne (by simpa using hj2) (by omega), Array.getElem_setIfInBounds_ne (by simpa using hj2) (by omega)]
        obtain ⟨fuel, rfl⟩ : ∃ f, fuel = f + 1 := by
          have hc2 := count_set hf
          rw [hrep] at hc2
          have hlt : l0.length + 1 < ((Array.replicate l.length true).setIfInBounds (l0.length + 1) false).size := by simp; omega
          have hv : ((Array.replicate l.length true).setIfInBounds (l0.length + 1) false)[l0.length + 1] = false := by simp
          have hpos : 0 < ((Array.replicate l.length true).setIfInBounds (l0.length + 1) false).toList.count false := List.count_pos_iff.2 (by have h := Array.getElem_mem_toList hlt; rw [hv] at h; exact h)
          exact ⟨fuel - 1, by omega⟩
        have hop := hlast a W (by rw [← hlisted]; exact hI)
        refine wpOp_mono ?_ hop
        intro a' W' hQ
        rw [hrep]
        refine ⟨fun hr => absurd hr (some_ready _ (by simp) ⟨l0.length + 1, by omega, by simp [Array.getD, hlen]⟩), fun j hj => ?_⟩
        have hj1 : j = l0.length + 1 := by
          rw [mem_ready] at hj
          by_cases h : j = l0.length + 1
          · exact h
          · have hlt : j < l.length := by
              obtain ⟨_, o', ho', _⟩ := hj
              have : l[j]? = some o' := by simpa using ho'
              exact (List.getElem?_eq_some_iff.1 this).1
            have h' := hj.1
            have hlt2 : j < ((Array.replicate l.length true).setIfInBounds (l0.length + 1) false).size := by simpa using hlt
            have e : ((Array.replicate l.length true).setIfInBounds (l0.length + 1) false)[j] = true := by
              rw [Array.getElem_setIfInBounds_ne (by simpa using hlt) (by omega)]
              simp
            simp only [Array.getD, hlt2, dite_true, Array.getInternal_eq_getElem, e] at h'
            cases h'
        subst hj1
        refine wpOp_mono ?_ hQ
        intro a'' W'' hQ2
        rw [hrep2]
        cases fuel with
        | zero => exact ⟨hready, hQ2⟩
        | succ f => exact ⟨fun _ => hQ2, fun i hi => by rw [hready] at hi; cases hi⟩
theorem wp_region_steps_then2 {id : Nat} {a0 : Act} {w : World} (Sp : Nat → Value → World → Prop) (B : Nat) (w0 : World) (hm : P.follows .mixedOrders = true) (hB : Below B w0 w) (hBw : B ≤ w.heap.size)
    (hst : ∀ i v W W', Sp i v W → Below W.heap.size W W' → Sp i v W') (h1 : single l = true) (h2 : within l a0.tmps.size = true) (h3 : aheadOps .any l = true) (h4 : covers2 .any l = true) (n : Nat) (o0 o1 : Oper) (ho0 : l[n]? = some o0) (ho1 : l[n + 1]? = some o1) (hln : l.length = n + 2) (hs : Steps P .any Q (l.take n) l Sp B w0 a0 0 (l.take n))
    (hlast : ∀ a W, Inv (l.take n) l Sp B w0 a0 (((Array.replicate l.length true).setIfInBounds n false).setIfInBounds (n + 1) false) a W → wpOp P l.toArray Q n (fun a' W' => wpOp P l.toArray Q (n + 1) (fun a'' W'' => Q .normal a'' W'') a' W') a W) : (Code.region id l.toArray true).wp P Q a0 w := by
  obtain ⟨l0, hl0⟩ : ∃ l0, l0 = l.take n := ⟨_, rfl⟩
  rw [← hl0] at hs hlast
  have hn : l0.length = n := by rw [hl0, List.length_take]; omega
  have hl : l = l0 ++ [o0, o1] := by
    have e0 : l[n]'(by omega) = o0 := by rw [List.getElem?_eq_getElem (by omega)] at ho0; exact Option.some.inj ho0
    have e1 : l[n + 1]'(by omega) = o1 := by rw [List.getElem?_eq_getElem (by omega)] at ho1; exact Option.some.inj ho1
    conv => lhs; rw [← List.take_append_drop n l]
    rw [← hl0, List.drop_eq_getElem_cons (by omega), List.drop_eq_getElem_cons (by omega), List.drop_of_length_le (by omega), e0, e1]
  clear hl0 ho0 ho1 hln
  subst hn
  refine wp_region_any hm ?_
  have hlen : l.length = l0.length + 2 := by rw [hl]; simp
  have hfalse : ∀ i, (Array.replicate l.toArray.size false).getD i false = false := by
    intro i
    simp [Array.getD]
  refine wpAny_steps_then2 hst h1 h2 h3 h4 l0 o0 o1 hl hs hlast _ _ _ _ ⟨by simp, hB.drew, hBw, rfl, rfl, fun _ _ => rfl, fun i x d _ hl _ => ?_⟩ ?_ ?_ ?_ ?_
  · rw [hfalse] at hl
    cases hl
  · simp [Array.getD, hlen]
  · simp [Array.getD, hlen]
  · intro i hi
    rw [hfalse] at hi
    cases hi
  · simp
theorem unwanted_somef {o : Oper} {a : Act} {j : Nat} {x : Oper} {d : Tmp} (h : o.guard = some (j, false)) (hx : l[j]? = some x) (hd : x.dst = some d) (hlt : d < a.tmps.size) (hv : a.tmps.getD d undef = .bool true) : Region.wanted o (yielded l.toArray a.tmps) = false := by
  have hx' : l.toArray[j]? = some x := by simpa using hx
  have hv' : a.tmps[d]? = some (.bool true) := by
    rw [Array.getElem?_eq_getElem hlt]
    simpa [Array.getD, hlt] using hv
  simp [Region.wanted, h, yielded, hx', hd, hv']
theorem step_skip {i : Nat} {o : Oper} (hi : l[i]? = some o) (h : ∀ a W, Pre md lo l Sp B w0 a0 o a W → Region.wanted o (yielded l.toArray a.tmps) = false ∧ Sp i undef W) : Step P md Q lo l Sp B w0 a0 i o := Step.of fun a W hp => by
  obtain ⟨hw, hs⟩ := h a W hp
  have hi' : l.toArray[i]? = some o := by simpa using hi
  unfold wpOp
  simp only [hi', hw]
  exact ⟨undef, rfl, hs, Below.refl _ _⟩
theorem wanted_some0 {o : Oper} {a : Act} {j : Nat} {x : Oper} {d : Tmp} (h : o.guard = some (j, false)) (hx : l[j]? = some x) (hd : x.dst = some d) (hlt : d < a.tmps.size) (hv : a.tmps.getD d undef = .bool false) : Region.wanted o (yielded l.toArray a.tmps) = true := by
  have hx' : l.toArray[j]? = some x := by simpa using hx
  have hv' : a.tmps[d]? = some (.bool false) := by
    rw [Array.getElem?_eq_getElem hlt]
    simpa [Array.getD, hlt] using hv
  simp [Region.wanted, h, yielded, hx', hd, hv']
theorem run_pick0 {W : World} {o : Oper} {ρ : Operand → Value} {c x y : Operand} (ho : o.op = .pick c x y) (hc : ρ c = .bool false) : (execOp ρ o).run P W = .ok (.value (ρ y)) W := by
  simp [execOp, ho, hc, go_sem]
theorem run_bin3 {W : World} {o : Oper} {ρ : Operand → Value} {op : BinOp} {t t2 : TypeId} {x y : Operand} {v : Value} (ho : o.op = .binOp op t x y t2) (hg : (eqGuard op t x y (ρ x) (ρ y)).run P W = .ok () W) (h : (binOp op t (ρ x) (ρ y)).run P W = .ok v W) : (execOp ρ o).run P W = .ok (.value v) W := by
  simp [execOp, ho, hg, h, Result.andThen]
theorem wpOp_value {i : Nat} {o : Oper} {a : Act} {W W' : World} {K : Act → World → Prop} {v : Value} (hi : l[i]? = some o) (hw : Region.wanted o (yielded l.toArray a.tmps) = true) (hr : (execOp a.eval o).run P W = .ok (.value v) W') (h : K (a.put o.dst v) W') : wpOp P l.toArray Q i K a W := by
  refine wpOp_of hi hw ?_
  unfold Oper.wp
  rw [hr]
  exact h
theorem run_ldrow {W : World} {o : Oper} {ρ : Operand → Value} {ty : TypeId} {x : Operand} {g : Nat} {t : TypeId} {cs : Array Value} {fr : Nat × Nat} {d : TypeDesc} (ho : o.op = .load ty x) (hx : ρ x = .pointer (some ⟨g, 0, none⟩)) (hg : W.heap[g]? = some (.cells cs t fr))
    (hu : P.underlying ty = some d) (hd : (match d with | .struct _ | .array _ _ => true | _ => false) = true) (hi : (P.info? ty).map (·.size) = some cs.size) : (execOp ρ o).run P W = .ok (.value (.agg cs)) W := by
  unfold execOp
  simp only [ho, hx, Instr.loadAt, Instr.sureAddr, Sem.run_bind, Sem.run_pure, Result.andThen_ok, run_loadVar_row W g t ty cs fr d hg hu hd hi]
end
end Go.Proofs.Ytejljfoacbpliaa

namespace Go.Proofs.Ytejljfoacbpliaa
open Go Go.RowKit
section
variable {P : Program} {W : World} {o : Oper} {ρ : Operand → Value}
theorem run_nil {x : Operand} {a : Addr} (ho : o.op = .nilCheck x) (hx : ρ x = .pointer (some a)) : (execOp ρ o).run P W = .ok (.value (.pointer (some a))) W := by
  simp [execOp, ho, hx]
theorem run_not {x : Operand} {t : TypeId} {b : Bool} (ho : o.op = .unOp .not t x) (hx : ρ x = .bool b) : (execOp ρ o).run P W = .ok (.value (.bool (!b))) W := by
  simp [execOp, ho, hx, go_sem]
theorem run_fa4 {t : TypeId} {x : Operand} {k : Nat} {u v : Value} (ho : o.op = .fieldAddr t x k) (hx : ρ x = u) (h : (Instr.fieldAt t u k).run P W = .ok v W) : (execOp ρ o).run P W = .ok (.value v) W := by
  subst hx
  simp only [execOp, ho]
  simp [h, Result.andThen]
theorem run_ldv {ty : TypeId} {x : Operand} {a : Addr} {v : Value} {d : TypeDesc} (ho : o.op = .load ty x) (hx : ρ x = .pointer (some a)) (hc : W.cell? a = some v) (hu : P.underlying ty = some d) (hd : d.isRow = false) (hs : (P.info? ty).map (·.size) = some 1) : (execOp ρ o).run P W = .ok (.value v) W := by
  cases hi : P.info? ty with
  | none => rw [hi] at hs; simp at hs
  | some i =>
    rw [hi] at hs
    simp at hs
    cases d <;> simp [TypeDesc.isRow] at hd <;> simp [execOp, ho, hx, Instr.loadAt, hc, sizeOf, typeInfo, hi, hs, Result.andThen, go_sem, isAgg, run_underlying hu]
end
end Go.Proofs.Ytejljfoacbpliaa

namespace Go.Proofs.Ytejljfoacbpliaa
open Go Go.RowKit
theorem RowsD.plain {ok ok' : Nat → Prop} {w w' : World} : ∀ (xs : List Value) (ds : List Dt), (∀ d ∈ ds, ∃ x, d = .v x) → RowsD ok w xs ds → RowsD ok' w' xs ds
  | [], [], _, _ => trivial
  | x :: xs, d :: ds, hp, ⟨h1, h2⟩ => by
    obtain ⟨y, rfl⟩ := hp d (List.mem_cons_self ..)
    exact ⟨by unfold IsD at h1 ⊢; exact h1, RowsD.plain xs ds (fun d hd => hp d (List.mem_cons_of_mem _ hd)) h2⟩
  | [], _ :: _, _, h => h.elim
  | _ :: _, [], _, h => h.elim
theorem vrsD_plain (l : List Vr) : ∀ d ∈ vrsD l, ∃ x, d = .v x := fun d hd => by
  obtain ⟨v, _, h⟩ := List.mem_flatMap.1 hd
  simp only [vrD, List.mem_cons, List.not_mem_nil, or_false] at h
  rcases h with rfl | rfl | rfl | rfl | rfl <;> exact ⟨_, rfl⟩
theorem OwnD.keptV {T : TypeId} {sz : Nat} {w w' : World} {b : Nat} {v : Value} {n : Nat} {l : List Vr} {row : Option Nat} (h : OwnD T sz w b v n (vrsD l)) (hg : w.grownBy w' row) (hr : ∀ k, v.ownBlock = some k → row ≠ some k) : OwnD T sz w' b v n (vrsD l) := by
  obtain ⟨xs, h1, h2⟩ := h
  refine ⟨xs, h1.kept hg ?_, RowsD.plain _ _ (vrsD_plain l) h2⟩
  cases ho : v.ownBlock with
  | none => exact .inl rfl
  | some k => exact .inr (fun e => hr k ho e.symm)
theorem fa_par0 (g : Nat) (W : World) : (Instr.fieldAt 146 (.pointer (some ⟨g, 0, none⟩)) 0).run Try.prog W = .ok (.pointer (some ⟨g, 0, none⟩)) W := by kernel_rfl
theorem fa_par1 (g : Nat) (W : World) : (Instr.fieldAt 146 (.pointer (some ⟨g, 0, none⟩)) 1).run Try.prog W = .ok (.pointer (some ⟨g, 1, none⟩)) W := by kernel_rfl
theorem fa_w0 (g o : Nat) (W : World) : (Instr.fieldAt 148 (.pointer (some ⟨g, o, none⟩)) 0).run Try.prog W = .ok (.pointer (some ⟨g, o, none⟩)) W := by kernel_rfl
theorem size_sl4 : (Try.prog.info? 141).map (·.size) = some 1 := by kernel_rfl
theorem size_int4 : (Try.prog.info? 3).map (·.size) = some 1 := by kernel_rfl
theorem bin_ne1 (k : Nat) {W : World} {t : TypeId} : (binOp .neq t (.int .i64 (k : Int)) (.int .i64 1)).run Try.prog W = .ok (.bool (!(k == 1))) W := by
  have e : ((k : Int) != 1) = !(k == 1) := by
    by_cases h : k = 1
    · subst h; rfl
    · rw [show (k == 1) = false by simpa using h]; simp; omega
  simp [go_sem, e]
theorem run_idx4 {W : World} {o : Oper} {ρ : Operand → Value} {x ix : Operand} {g n c k : Nat} (ho : o.op = .indexAddr 141 x ix) (hx : ρ x = .slice (some ⟨g, 0, none⟩) n c) (hk : ρ ix = .int .i64 (k : Int)) (hlt : k < n) : (execOp ρ o).run Try.prog W = .ok (.value (.pointer (some ⟨g, k * 4, none⟩))) W := by
  have hs := size_w4
  cases hi : Try.prog.info? 148 with
  | none => rw [hi] at hs; simp at hs
  | some i =>
    rw [hi] at hs
    simp at hs
    have he : Try.prog.elem 141 = 148 := by simp [Program.elem, Try.underlying141]
    have ht' : Try.prog.underlying 141 = some (.slice (Try.prog.elem 141)) := by rw [he]; exact Try.underlying141
    simp [execOp, ho, hx, hk, run_indexAt_slice W 141 ⟨g, 0, none⟩ n c .i64 (k : Int) ht', he, sizeOf, typeInfo, hi, hs, hlt, Result.andThen, Addr.add_lit]
def onned (on : ByteArray) (nt : Bool) (i : Nat) (l : List Vr) : List Vr := (l.take i).map (fun v => { v with on := on, not_ := nt }) ++ l.drop i
theorem onned_zero (on : ByteArray) (nt : Bool) (l : List Vr) : onned on nt 0 l = l := by simp [onned]
theorem onned_all (on : ByteArray) (nt : Bool) (l : List Vr) : onned on nt l.length l = l.map (fun v => { v with on := on, not_ := nt }) := by simp [onned]
theorem onned_len (on : ByteArray) (nt : Bool) (i : Nat) (l : List Vr) : (onned on nt i l).length = l.length := by simp [onned]; omega
theorem onned_succ (on : ByteArray) (nt : Bool) (i : Nat) (l : List Vr) (h : i < l.length) : vrsD (onned on nt (i + 1) l) = ((vrsD (onned on nt i l)).set (i * 5 + 2) (.v (.string on))).set (i * 5 + 3) (.v (.bool nt)) := by
  unfold onned
  have e1 : l.drop i = l[i] :: l.drop (i + 1) := List.drop_eq_getElem_cons h
  have e2 : l.take (i + 1) = l.take i ++ [l[i]] := by rw [List.take_add_one, List.getElem?_eq_getElem h]; rfl
  rw [e1, e2, List.map_append, vrsD_app, vrsD_app, vrsD_app, vrsD_cons]
  have hl : (vrsD ((l.take i).map fun v => { v with on := on, not_ := nt })).length = i * 5 := by rw [vrsD_len]; simp; omega
  rw [List.set_append_right _ _ (by rw [hl]; omega), hl, Nat.add_sub_cancel_left, List.set_append_right _ _ (by rw [hl]; omega), hl, Nat.add_sub_cancel_left, List.append_assoc]
  rfl
theorem localsL4_stop (L : List W4) (f : Nat) (l : List Vr) (s : S4) (h : s.er ≠ 0) : localsL4 L f l s = (l, s) := by
  cases f with
  | zero => rfl
  | succ f => unfold localsL4; rw [if_neg h]
theorem localsL4_go (L : List W4) (f : Nat) (l : List Vr) (s : S4) (h : s.er = 0) : localsL4 L (f + 1) l s = if is4 L (⟨#[59]⟩ : ByteArray) (local4 L s).2 = true ∧ (L.getD ((local4 L s).2.k + 1) no4).kind = 1 then localsL4 L f (l ++ (local4 L s).1) (inc4 (local4 L s).2) else (l ++ (local4 L s).1, (local4 L s).2) := by
  conv => lhs; unfold localsL4
  rw [if_pos h]
end Go.Proofs.Ytejljfoacbpliaa

namespace Go.Proofs.Ytejljfoacbpliaa
open Go Go.RowKit
set_option maxHeartbeats 4000000 in
set_option maxRecDepth 100000 in
theorem locals4_any {K : K4} (hG : Good4 K) (w : World) (d : Nat) (s : S4) (h : Par4 K w d s) : Calls Try.prog 122 #[.pointer (some ⟨K.gp, 0, none⟩)] w (GivesD4 K d s (locals4 K.L s) w) := by
  have HIV := Lib.hid info_v4
  have HF0 := Lib.hid (Fr.start h)
  have HW0 := Lib.hid (show 0 < w.heap.size by have := h.gpl; omega)
  have ki := is4_any (⟨#[59]⟩ : ByteArray) hG w d s h
  unfold locals4
  obtain ⟨b, hb⟩ : ∃ b, b = is4 K.L (⟨#[59]⟩ : ByteArray) s := ⟨_, rfl⟩
  rw [← hb] at ki ⊢
  clear h hb
  cases b with
  | true =>
    rw [if_pos rfl]
    go_enter Try.func122, Try.ntmps122
    go_wp2_with fail
    (with_reducible refine ki.mono ?_)
    rintro e w1 ⟨rfl, hp, hg, hm⟩
    have HF1 := Lib.hid (HF0.out.call hp hg)
    have HM := Lib.hid hm
    clear hp hg hm ki
    go_wp2_with fail
    go_ret
    exact ⟨_, rfl, OwnD.nil _ _ _ _, HF1.out.par, HF1.out.gb, HM.out, by simp⟩
  | false =>
    rw [if_neg (by decide)]
    obtain ⟨QQ, hQQ⟩ : ∃ q, q = localsL4 K.L (K.L.length + 1) [] s := ⟨_, rfl⟩
    rw [← hQQ]
    have HQ0 := Lib.hid hQQ
    clear hQQ
    go_enter Try.func122, Try.ntmps122
    go_wp2_with fail
    (with_reducible refine ki.mono ?_)
    rintro e w1 ⟨rfl, hp, hg, _⟩
    have HF1 := Lib.hid (HF0.out.call hp hg)
    clear hp hg ki
    go_wp2_with fail
    go_loopw [3] (fun v3 wr => ∃ (V : Value) (f : Nat) (l : List Vr) (S : S4), V = v3 ∧ localsL4 K.L f l S = QQ ∧ mS4 K S ≤ f ∧ Fr K w d [] [] wr S ∧ OwnD 62 5 wr (w.heap.size - 1) V l.length (vrsD l) ∧ Mono4 s S ∧ l.length + s.k ≤ S.k)
      (fun _ wr => mea4 K wr)
    case atStart => exact ⟨_, K.L.length + 1, [], s, rfl, HQ0.out.symm, by have := mS4_bound K s; omega, HF1.out, OwnD.nil _ _ _ _, Mono4.refl s, by simp⟩
    case round =>
      clear HF1
      obtain ⟨V, f, l, S, rfl, hR, hf, hF, hO, hm, hl⟩ := hrel
      have hme := mea4_par hF.par
      obtain ⟨_, p1, p2, _, _, _, _⟩ := hF.par.cells
      have HFe := Lib.hid hF
      have HO := Lib.hid hO
      have HMM := Lib.hid hm
      have HLL := Lib.hid hl
      have HME := Lib.hid hme
      have HFu := Lib.hid hf
      by_cases e0 : S.er = 0
      · have d0 : ((S.er : Int) == 0) = true := by simp; omega
        have hmS : 0 < mS4 K S := by unfold mS4; rw [if_pos e0]; have := hF.par.lt; omega
        obtain ⟨f', hf'⟩ : ∃ f', f = f' + 1 := ⟨f - 1, by omega⟩
        have hgo := localsL4_go K.L f' l S e0
        rw [(congrArg (fun k => localsL4 K.L k l S) hf'.symm).trans hR] at hgo
        have kd := decl4_any hG _ d S hF.par
        obtain ⟨LS, hLS⟩ : ∃ r, r = local4 K.L S := ⟨_, rfl⟩
        rw [← hLS] at hgo
        unfold local4 at hLS
        obtain ⟨r, hr⟩ : ∃ r, r = decl4 K.L S := ⟨_, rfl⟩
        rw [← hr] at kd hLS
        obtain ⟨l2, S2⟩ := r
        obtain ⟨l3, S3⟩ := LS
        simp only at hLS kd hgo
        have kt := fun W (hp : Par4 K W d S2) => take4_any (⟨#[119, 104, 101, 110]⟩ : ByteArray) hG W d S2 hp
        unfold take4 at kt
        simp only at kt
        obtain ⟨b1, hb1⟩ : ∃ q, q = is4 K.L (⟨#[119, 104, 101, 110]⟩ : ByteArray) S2 := ⟨_, rfl⟩
        rw [← hb1] at kt hLS
        obtain ⟨SW, hSW⟩ : ∃ q, q = if b1 = true then inc4 S2 else S2 := ⟨_, rfl⟩
        rw [← hSW] at kt
        have HSW := Lib.hid hSW
        have HLS := Lib.hid hLS
        have HGo := Lib.hid hgo
        have HKT := Lib.hid kt
        have HE0 := Lib.hid e0
        have HF' := Lib.hid hf'
        clear hF hO hm hl hme hf hR e0 hmS hf' hgo hr kt hb1 hSW hLS
        obtain ⟨w5, hw5⟩ : ∃ w5 : World, w5 = wr := ⟨_, rfl⟩
        rw [← hw5] at HME
        go_wp2_with fail
        (with_reducible refine kd.mono ?_)
        rintro e w3 ⟨V2, rfl, hO2, hp, hg, hm2, hl2⟩
        simp only at hO2 hp hm2 hl2
        have F3 := HFe.out.call hp hg
        have HO3 := Lib.hid (HO.out.keptG hg (by have := HFe.out.gp; omega))
        have HOD := Lib.hid hO2
        have kt := HKT.out _ F3.par
        have HF3 := Lib.hid F3
        have HM2 := Lib.hid hm2
        have HL2 := Lib.hid hl2
        have HBB := Lib.hid (show (w.heap.size - 1) ≤ wr.heap.size - 1 by have := HFe.out.gb.size; omega)
        have HVB := Lib.hid (show ∀ k, V.ownBlock = some k → k ≤ wr.heap.size - 1 from fun k hk => by have := (HO.out.gt k hk).2; omega)
        have HWR := Lib.hid (show w.heap.size ≤ wr.heap.size from HFe.out.gb.size)
        clear hO2 hp hg hm2 hl2 kd F3
        go_wp2_with fail
        (with_reducible refine kt.mono ?_)
        rintro e w4 ⟨rfl, hp, hg, hmw⟩
        have HF4 := Lib.hid (HF3.out.call hp hg)
        have HO4 := Lib.hid (HO3.out.keptG hg (by have := HF3.out.gp; omega))
        have HD4 := Lib.hid (HOD.out.keptG hg (by have := HFe.out.gp; have := HWR.out; omega))
        have HMW := Lib.hid hmw
        clear hp hg hmw kt
        obtain ⟨BD, hBD⟩ : ∃ q, q = wr.heap.size - 1 := ⟨_, rfl⟩
        have HBD := Lib.hid hBD
        rw [← hBD] at HBB HVB HD4
        clear hBD HOD
        go_upto_if 19 with fail
        go_cut [] (fun wx => Fr K w d [] [] wx S3 ∧ OwnD 62 5 wx (w.heap.size - 1) V l.length (vrsD l) ∧ OwnD 62 5 wx BD V2 l3.length (vrsD l3) ∧ Mono4 S2 S3 ∧ l3.length = l2.length)
        case first =>
          cases b1 with
          | false =>
            have h := HLS.out
            simp only [Bool.false_eq_true, if_false, Prod.mk.injEq] at h
            have hw := HSW.out
            simp only [Bool.false_eq_true, if_false] at hw
            obtain ⟨h1, h2⟩ := h
            subst h1 h2 hw
            clear HLS HSW
            go_wp2_with fail
            go_meet
            exact ⟨HF4.out, HO4.out, HD4.out, Mono4.refl _, by simp⟩
          | true =>
            have h := HLS.out
            have hw := HSW.out
            simp only [if_true] at h hw
            subst hw
            have kn := take4_any (⟨#[110, 111, 116]⟩ : ByteArray) hG _ d (inc4 S2) HF4.out.par
            have hm3 := Mono4.take K.L (⟨#[110, 111, 116]⟩ : ByteArray) (inc4 S2)
            obtain ⟨nt, hnt⟩ : ∃ q, q = (take4 K.L (⟨#[110, 111, 116]⟩ : ByteArray) (inc4 S2)).1 := ⟨_, rfl⟩
            obtain ⟨S5, hS5⟩ : ∃ q, q = (take4 K.L (⟨#[110, 111, 116]⟩ : ByteArray) (inc4 S2)).2 := ⟨_, rfl⟩
            rw [← hnt, ← hS5] at kn h
            rw [← hS5] at hm3
            have km := fun W (hp : Par4 K W d S5) => name4_any hG W d S5 hp
            have hm4 := Mono4.name K.L S5
            obtain ⟨nm, hnm⟩ : ∃ q, q = (name4 K.L S5).1 := ⟨_, rfl⟩
            obtain ⟨S6, hS6⟩ : ∃ q, q = (name4 K.L S5).2 := ⟨_, rfl⟩
            rw [← hnm, ← hS6] at km h
            rw [← hS6] at hm4
            simp only [Prod.mk.injEq] at h
            obtain ⟨h1, h2⟩ := h
            subst h2
            have HL3 := Lib.hid h1
            have HMS := Lib.hid ((Mono4.inc S2).trans (hm3.trans hm4))
            have HKM := Lib.hid km
            clear h1 hm3 hm4 km hnt hS5 hnm hS6 HLS HSW
            go_wp2_with fail
            (with_reducible refine kn.mono ?_)
            rintro e w6 ⟨rfl, hp, hg, _⟩
            have F6 := HF4.out.call hp hg
            have HO6 := Lib.hid (HO4.out.keptG hg (by have := HF4.out.gp; omega))
            have HD6 := Lib.hid (HD4.out.keptG hg (by have := HF4.out.gp; have := HBB.out; have := HWR.out; omega))
            have km := HKM.out _ F6.par
            have HF6 := Lib.hid F6
            clear hp hg kn F6
            go_wp2_with fail
            (with_reducible refine km.mono ?_)
            rintro e w7 ⟨rfl, hp, hg, _⟩
            have HF7 := Lib.hid (HF6.out.call hp hg)
            have HO7 := Lib.hid (HO6.out.keptG hg (by have := HF6.out.gp; omega))
            have HD7 := Lib.hid (HD6.out.keptG hg (by have := HF6.out.gp; have := HBB.out; have := HWR.out; omega))
            clear hp hg km
            obtain ⟨x2, c2, rfl, _, _⟩ := HD7.out.slice
            have HNB := Lib.hid (show l2.length < 1000000 by have := HL2.out; have := HF3.out.par.lt; have := hG.few; omega)
            go_wp2_with fail
            go_loopw [7] (fun v7 wr => ∃ i : Nat, v7 = .int .i64 (i : Int) ∧ i ≤ l2.length ∧ Fr K w d [] [] wr S3 ∧ OwnD 62 5 wr (w.heap.size - 1) V l.length (vrsD l) ∧ OwnD 62 5 wr BD (.slice x2 l2.length c2) l2.length (vrsD (onned nm nt i l2)))
              (fun v7 _ => l2.length - (intOf v7).toNat)
            case atStart => exact ⟨0, rfl, Nat.zero_le _, HF7.out, HO7.out, by rw [onned_zero]; exact HD7.out⟩
            case round =>
              clear HF7 HO7 HD7
              obtain ⟨i, rfl, hin, hFi, hOi, hDi⟩ := hrel
              by_cases hil : i < l2.length
              · have d1 : decide ((i : Int) < (l2.length : Int)) = true := by simp; omega
                have i0 : (0 : Int) ≤ (i : Int) := by omega
                have i1 : (i : Int) < (l2.length : Int) := by omega
                have i2 : (i : Int) < 1000000 := by have := HNB.out; omega
                obtain ⟨g, c', e, hbg, hgl, _, _⟩ := hDi.some_ (by omega)
                injection e with e1 _ e3
                subst e1 e3
                obtain ⟨o1, o2, ⟨u0, o3⟩, o4⟩ := hDi.set (i * 5 + 2) (.string nm) (by omega)
                obtain ⟨q1, q2, ⟨u1, q3⟩, q4⟩ := o1.set (i * 5 + 3) (.bool nt) (by omega)
                have hne : ∀ k, V.ownBlock = some k → some g ≠ some k := fun k hk e => by
                  injection e with e
                  have := HVB.out k hk
                  omega
                have hgw : w.heap.size ≤ g := by have := HBB.out; have := HW0.out; omega
                have HF2 := Lib.hid ((hFi.turnG o2 hgw).turnG q2 hgw)
                have HO2 := Lib.hid ((hOi.keptV o2 hne).keptV q2 hne)
                have HD2 := Lib.hid (show OwnD 62 5 ((wr.setCell ⟨g, i * 5 + 2, none⟩ (.string nm)).setCell ⟨g, i * 5 + 3, none⟩ (.bool nt)) BD (.slice (some ⟨g, 0, none⟩) l2.length c2) l2.length (vrsD (onned nm nt (i + 1) l2)) by rw [onned_succ nm nt i l2 hil]; exact q1)
                clear hFi hOi hDi o1 o2 q1 q2 hil hbg hgl hin hne hgw
                go_wp2_with fail
                refine ⟨⟨i + 1, by go_num, by omega, HF2.out, HO2.out, HD2.out⟩, ?_⟩
                simp [intOf]; omega
              · have d1 : decide ((i : Int) < (l2.length : Int)) = false := by simp; omega
                obtain rfl : i = l2.length := by omega
                have HF2 := Lib.hid hFi
                have HO2 := Lib.hid hOi
                have HD2 := Lib.hid hDi
                clear hFi hOi hDi hil hin
                go_wp2_with fail
                go_meet
                have e : l3 = onned nm nt l2.length l2 := by rw [onned_all]; exact HL3.out
                rw [e, onned_len]
                exact ⟨HF2.out, HO2.out, HD2.out, HMS.out, by simp⟩
        case rest =>
          obtain ⟨hF, hO, hD, hm3, hl3⟩ := hcut
          have HF5 := Lib.hid hF
          have HO5 := Lib.hid hO
          have HD5 := Lib.hid hD
          have HM3 := Lib.hid (HMM.out.trans (HM2.out.trans hm3))
          have HM3S := Lib.hid (HM2.out.trans hm3)
          obtain ⟨ks2, hk2⟩ : ∃ q, q = l ++ l3 := ⟨_, rfl⟩
          have HK2L := Lib.hid (show ks2.length = l.length + l3.length by rw [hk2]; simp)
          have hgo := HGo.out
          rw [← hk2] at hgo
          have HK2 := Lib.hid hk2
          have HBS := Lib.hid (show (w.heap.size - 1) + 1 ≤ wc.heap.size by have := HW0.out; have := hF.gb.size; omega)
          have hlb : ks2.length + s.k ≤ S3.k + 1 := by have := HLL.out; have := HK2L.out; have := HL2.out; have := hm3.k; omega
          have HLB := Lib.hid hlb
          have HNM := Lib.hid (show l.length + l3.length ≤ 100000000000 by have := HK2L.out; have := hF.par.lt; have := hG.few; omega)
          obtain ⟨b2, hb2⟩ : ∃ q, q = is4 K.L (⟨#[59]⟩ : ByteArray) S3 := ⟨_, rfl⟩
          have hlt2 : b2 = true → S3.k + 1 < K.L.length ∧ S3.er = 0 := fun h => by
            have h2 := is4_kind (hb2.symm.trans h)
            exact ⟨inc_lt hG hF.par.lt h2.1, h2.2⟩
          have ki := fun W (hp : Par4 K W d S3) => is4b_any (⟨#[59]⟩ : ByteArray) hG W d S3 hp
          rw [← hb2] at ki hgo
          obtain ⟨kx, hkx⟩ : ∃ q, q = (K.L.getD (S3.k + 1) no4).kind := ⟨_, rfl⟩
          rw [← hkx] at hgo
          have hkc : b2 = true → ∀ W, Par4 K W d S3 → W.cell? ⟨K.gw, (S3.k + 1) * 4, none⟩ = some (.int .i64 (kx : Int)) := fun h W hp => by
            rw [hkx]
            exact hp.row (S3.k + 1) (hlt2 h).1 0 _ rfl
          have HGo2 := Lib.hid hgo
          have HKI := Lib.hid ki
          have HKC := Lib.hid hkc
          have HLT2 := Lib.hid hlt2
          obtain ⟨i5, hi5, ⟨z5, hz5, hzs5⟩, hs5', hb5⟩ := HIV.out
          have HI5' := Lib.hid hi5
          have HZ5 := Lib.hid hz5
          have HZS5 := Lib.hid hzs5
          have HS5 := Lib.hid hs5'
          have HB5 := Lib.hid hb5
          clear hF hO hD hm3 hl3 hk2 hgo hlb hb2 ki hkx hkc hlt2 hi5 hz5 hzs5 hs5' hb5 HGo HLS HSW HKT HF4 HO4 HD4
          go_wp2_with (refine wpList_appO rfl (.tmp 40) (.tmp 41) 35 rfl i5 z5 56 Try.underlying35 HI5'.out HZ5.out HS5.out HB5.out HZS5.out (by decide) (by decide) rfl HO5.out HBS.out rfl HD5.out (vrsD_ones _) HBB.out HVB.out HNM.out ?_)
          intro v8 w8 hO8 hg8 _
          rw [← vrsD_app, ← HK2L.out, ← HK2.out] at hO8
          have HF8 := Lib.hid (HF5.out.grow hg8 (fun k hk => ⟨by have := (HO5.out.gt k hk).1; have := HW0.out; omega, fun x hx => by simp at hx⟩))
          have HO8 := Lib.hid hO8
          clear hO8 hg8
          have HGD := Lib.hid (decl4_any hG w d s)
          clear HGD
          go_wp2_with fail
          cases b2 with
          | false =>
            clear HKC HLT2
            have HNX := Lib.hid (show (ks2, S3) = QQ by rw [HGo2.out]; simp)
            clear HGo2
            refine wp_region_steps (words [wIs (.pointer (some ⟨K.gp, 0, none⟩)), wIs (.bool false), wIs (.bool true), wIs (.bool true), wIs undef, wIs undef, wIs undef, wIs undef, wIs undef, wIs undef, wIs undef, wIs undef, wIs undef, wIs undef, wIs undef, wIs undef, wIs undef, wIs (.bool true)]) w8.heap.size w8 (by kernel_rfl) (Below.refl _ _) (Nat.le_refl _) (words_stable ?stab) rfl rfl (by kernel_rfl) ?steps ?done
            case stab =>
              intro f hf
              simp only [List.mem_cons, List.not_mem_nil, or_false] at hf
              rcases hf with rfl | rfl | rfl | rfl | rfl | rfl | rfl | rfl | rfl | rfl | rfl | rfl | rfl | rfl | rfl | rfl | rfl | rfl <;> first | exact stable_is _
            case steps =>
              refine Steps.cons (step_value rfl fun xa W hp => ⟨wanted_none rfl, _, _, run_move (.inl rfl), (hp.old 0 rfl), Below.refl _ _⟩) ?_
              refine Steps.cons (step_enter rfl fun xa W hp => ?_) ?_
              · have f0 : xa.tmps.getD 43 undef = .pointer (some ⟨K.gp, 0, none⟩) := (hp.on_ 0 rfl rfl rfl).2
                refine ⟨wanted_none rfl, 137, _, run_enter2 rfl rfl Try.call137, ?_⟩
                show Calls _ _ #[xa.tmps.getD 43 undef, _] W _
                rw [f0]
                exact (HKI.out W (HF8.out.par.below hp.below)).mono (fun e W' ⟨he, hb⟩ => ⟨_, he, rfl, hb⟩)
              refine Steps.cons (step_value rfl fun xa W hp => ?_) ?_
              · have f0 : xa.tmps.getD 44 undef = .bool false := (hp.on_ 1 rfl rfl rfl).2
                exact ⟨wanted_none rfl, _, _, run_not rfl f0, rfl, Below.refl _ _⟩
              refine Steps.cons (step_value rfl fun xa W hp => ⟨wanted_none rfl, _, _, run_move (.inl rfl), (hp.on_ 2 rfl rfl rfl).2, Below.refl _ _⟩) ?_
              refine Steps.cons (step_skip rfl fun xa W hp => ⟨unwanted_somef rfl rfl rfl (hp.on_ 3 rfl rfl rfl).1 (hp.on_ 3 rfl rfl rfl).2, rfl⟩) ?_
              refine Steps.cons (step_skip rfl fun xa W hp => ⟨unwanted_somef rfl rfl rfl (hp.on_ 3 rfl rfl rfl).1 (hp.on_ 3 rfl rfl rfl).2, rfl⟩) ?_
              refine Steps.cons (step_skip rfl fun xa W hp => ⟨unwanted_somef rfl rfl rfl (hp.on_ 3 rfl rfl rfl).1 (hp.on_ 3 rfl rfl rfl).2, rfl⟩) ?_
              refine Steps.cons (step_skip rfl fun xa W hp => ⟨unwanted_somef rfl rfl rfl (hp.on_ 3 rfl rfl rfl).1 (hp.on_ 3 rfl rfl rfl).2, rfl⟩) ?_
              refine Steps.cons (step_skip rfl fun xa W hp => ⟨unwanted_somef rfl rfl rfl (hp.on_ 3 rfl rfl rfl).1 (hp.on_ 3 rfl rfl rfl).2, rfl⟩) ?_
              refine Steps.cons (step_skip rfl fun xa W hp => ⟨unwanted_somef rfl rfl rfl (hp.on_ 3 rfl rfl rfl).1 (hp.on_ 3 rfl rfl rfl).2, rfl⟩) ?_
              refine Steps.cons (step_skip rfl fun xa W hp => ⟨unwanted_somef rfl rfl rfl (hp.on_ 3 rfl rfl rfl).1 (hp.on_ 3 rfl rfl rfl).2, rfl⟩) ?_
              refine Steps.cons (step_skip rfl fun xa W hp => ⟨unwanted_somef rfl rfl rfl (hp.on_ 3 rfl rfl rfl).1 (hp.on_ 3 rfl rfl rfl).2, rfl⟩) ?_
              refine Steps.cons (step_skip rfl fun xa W hp => ⟨unwanted_somef rfl rfl rfl (hp.on_ 3 rfl rfl rfl).1 (hp.on_ 3 rfl rfl rfl).2, rfl⟩) ?_
              refine Steps.cons (step_skip rfl fun xa W hp => ⟨unwanted_somef rfl rfl rfl (hp.on_ 3 rfl rfl rfl).1 (hp.on_ 3 rfl rfl rfl).2, rfl⟩) ?_
              refine Steps.cons (step_skip rfl fun xa W hp => ⟨unwanted_somef rfl rfl rfl (hp.on_ 3 rfl rfl rfl).1 (hp.on_ 3 rfl rfl rfl).2, rfl⟩) ?_
              refine Steps.cons (step_skip rfl fun xa W hp => ⟨unwanted_somef rfl rfl rfl (hp.on_ 3 rfl rfl rfl).1 (hp.on_ 3 rfl rfl rfl).2, rfl⟩) ?_
              refine Steps.cons (step_skip rfl fun xa W hp => ⟨unwanted_somef rfl rfl rfl (hp.on_ 3 rfl rfl rfl).1 (hp.on_ 3 rfl rfl rfl).2, rfl⟩) ?_
              refine Steps.cons (step_value rfl fun xa W hp => ⟨wanted_none rfl, _, _, run_pick rfl (hp.on_ 3 rfl rfl rfl).2, rfl, Below.refl _ _⟩) ?_
              exact Steps.nil
            case done =>
              intro xa w5' hI
              have HF9 := Lib.hid (HF8.out.call (HF8.out.par.below hI.below) (gb_below hI.below))
              have HO9 := Lib.hid (HO8.out.below hI.below)
              have h0 : xa.tmps.getD 0 undef = .pointer (some ⟨K.gp, 0, none⟩) := hI.old 0 (by simp)
              have h1 : xa.tmps.getD 1 undef = undef := hI.old 1 (by simp)
              have h2 : xa.tmps.getD 2 undef = .slice none 0 0 := hI.old 2 (by simp)
              have h3 : xa.tmps.getD 3 undef = v8 := hI.old 3 (by simp)
              have h8 : xa.tmps.getD 8 undef = .pointer (some ⟨K.gp, 0, none⟩) := hI.old 8 (by simp)
              have h9 : xa.tmps.getD 9 undef = .bool false := hI.old 9 (by simp)
              have h60 : xa.tmps.getD 60 undef = .bool true := hI.new 17 _ 60 rfl rfl rfl
              have h68 : xa.tmps.getD 68 undef = undef := hI.old 68 (by simp)
              have hsz : xa.tmps.size = 69 := hI.tmps
              have hdf : xa.defers = [] := hI.defers
              --KEEP
              obtain ⟨f, hf, hx⟩ := act_eta hsz hdf
              rw [hf] at h0  h1  h2  h3  h8  h9  h60  h68
              clear hI hf hsz hdf
              subst hx
              have hl : ((List.range 69).map f).toArray = #[f 0, f 1, f 2, f 3, f 4, f 5, f 6, f 7, f 8, f 9, f 10, f 11, f 12, f 13, f 14, f 15, f 16, f 17, f 18, f 19, f 20, f 21, f 22, f 23, f 24, f 25, f 26, f 27, f 28, f 29, f 30, f 31, f 32, f 33, f 34, f 35, f 36, f 37, f 38, f 39, f 40, f 41, f 42, f 43, f 44, f 45, f 46, f 47, f 48, f 49, f 50, f 51, f 52, f 53, f 54, f 55, f 56, f 57, f 58, f 59, f 60, f 61, f 62, f 63, f 64, f 65, f 66, f 67, f 68] := rfl
              simp only [Exit.then]
              rw [hl, h0, h1, h2, h3, h8, h9, h60, h68]
              clear hl h0 h1 h2 h3 h8 h9 h60 h68
              go_wp2_with fail
              go_ret
              rw [← HNX.out]
              exact ⟨_, rfl, HO9.out, HF9.out.par, HF9.out.gb, HM3.out, HLB.out⟩
          | true =>
            have hlt := HLT2.out rfl
            have hkc := HKC.out rfl
            clear HLT2 HKC
            have HLT2 := Lib.hid hlt.1
            have HER := Lib.hid hlt.2
            have HKC := Lib.hid hkc
            clear hlt hkc
            refine wp_region_steps (words [wIs (.pointer (some ⟨K.gp, 0, none⟩)), wIs (.bool true), wIs (.bool false), wIs (.bool false), wIs (.pointer (some ⟨K.gp, 0, none⟩)), wIs (.pointer (some ⟨K.gp, 0, none⟩)), wIs (.pointer (some ⟨K.gp, 0, none⟩)), wIs (.slice (some ⟨K.gw, 0, none⟩) K.L.length K.c), wIs (.pointer (some ⟨K.gp, 0, none⟩)), wIs (.pointer (some ⟨K.gp, 0, none⟩)), wIs (.pointer (some ⟨K.gp, 1, none⟩)), wIs (.int .i64 (S3.k : Int)), wIs (.int .i64 ((S3.k + 1 : Nat) : Int)), wIs (.pointer (some ⟨K.gw, (S3.k + 1) * 4, none⟩)), wIs (.pointer (some ⟨K.gw, (S3.k + 1) * 4, none⟩)), wIs (.int .i64 (kx : Int)), wIs (.bool (!(kx == 1))), wIs (.bool (!(kx == 1)))]) w8.heap.size w8 (by kernel_rfl) (Below.refl _ _) (Nat.le_refl _) (words_stable ?stab) rfl rfl (by kernel_rfl) ?steps ?done
            case stab =>
              intro f hf
              simp only [List.mem_cons, List.not_mem_nil, or_false] at hf
              rcases hf with rfl | rfl | rfl | rfl | rfl | rfl | rfl | rfl | rfl | rfl | rfl | rfl | rfl | rfl | rfl | rfl | rfl | rfl <;> first | exact stable_is _
            case steps =>
              refine Steps.cons (step_value rfl fun xa W hp => ⟨wanted_none rfl, _, _, run_move (.inl rfl), (hp.old 0 rfl), Below.refl _ _⟩) ?_
              refine Steps.cons (step_enter rfl fun xa W hp => ?_) ?_
              · have f0 : xa.tmps.getD 43 undef = .pointer (some ⟨K.gp, 0, none⟩) := (hp.on_ 0 rfl rfl rfl).2
                refine ⟨wanted_none rfl, 137, _, run_enter2 rfl rfl Try.call137, ?_⟩
                show Calls _ _ #[xa.tmps.getD 43 undef, _] W _
                rw [f0]
                exact (HKI.out W (HF8.out.par.below hp.below)).mono (fun e W' ⟨he, hb⟩ => ⟨_, he, rfl, hb⟩)
              refine Steps.cons (step_value rfl fun xa W hp => ?_) ?_
              · have f0 : xa.tmps.getD 44 undef = .bool true := (hp.on_ 1 rfl rfl rfl).2
                exact ⟨wanted_none rfl, _, _, run_not rfl f0, rfl, Below.refl _ _⟩
              refine Steps.cons (step_value rfl fun xa W hp => ⟨wanted_none rfl, _, _, run_move (.inl rfl), (hp.on_ 2 rfl rfl rfl).2, Below.refl _ _⟩) ?_
              refine Steps.cons (step_value rfl fun xa W hp => ⟨wanted_some0 rfl rfl rfl (hp.on_ 3 rfl rfl rfl).1 (hp.on_ 3 rfl rfl rfl).2, _, _, run_move (.inl rfl), (hp.old 0 rfl), Below.refl _ _⟩) ?_
              refine Steps.cons (step_value rfl fun xa W hp => ?_) ?_
              · have f0 : xa.tmps.getD 47 undef = .pointer (some ⟨K.gp, 0, none⟩) := (hp.on_ 4 rfl rfl rfl).2
                exact ⟨wanted_some0 rfl rfl rfl (hp.on_ 3 rfl rfl rfl).1 (hp.on_ 3 rfl rfl rfl).2, _, _, run_nil rfl f0, rfl, Below.refl _ _⟩
              refine Steps.cons (step_value rfl fun xa W hp => ?_) ?_
              · have f0 : xa.tmps.getD 48 undef = .pointer (some ⟨K.gp, 0, none⟩) := (hp.on_ 5 rfl rfl rfl).2
                exact ⟨wanted_some0 rfl rfl rfl (hp.on_ 3 rfl rfl rfl).1 (hp.on_ 3 rfl rfl rfl).2, _, _, run_fa4 rfl f0 (fa_par0 K.gp W), rfl, Below.refl _ _⟩
              refine Steps.cons (step_value rfl fun xa W hp => ?_) ?_
              · have f0 : xa.tmps.getD 49 undef = .pointer (some ⟨K.gp, 0, none⟩) := (hp.on_ 6 rfl rfl rfl).2
                exact ⟨wanted_some0 rfl rfl rfl (hp.on_ 3 rfl rfl rfl).1 (hp.on_ 3 rfl rfl rfl).2, _, _, run_ldv rfl f0 (HF8.out.par.below hp.below).cells.1 Try.underlying141 rfl size_sl4, rfl, Below.refl _ _⟩
              refine Steps.cons (step_value rfl fun xa W hp => ⟨wanted_some0 rfl rfl rfl (hp.on_ 3 rfl rfl rfl).1 (hp.on_ 3 rfl rfl rfl).2, _, _, run_move (.inl rfl), (hp.old 0 rfl), Below.refl _ _⟩) ?_
              refine Steps.cons (step_value rfl fun xa W hp => ?_) ?_
              · have f0 : xa.tmps.getD 51 undef = .pointer (some ⟨K.gp, 0, none⟩) := (hp.on_ 8 rfl rfl rfl).2
                exact ⟨wanted_some0 rfl rfl rfl (hp.on_ 3 rfl rfl rfl).1 (hp.on_ 3 rfl rfl rfl).2, _, _, run_nil rfl f0, rfl, Below.refl _ _⟩
              refine Steps.cons (step_value rfl fun xa W hp => ?_) ?_
              · have f0 : xa.tmps.getD 52 undef = .pointer (some ⟨K.gp, 0, none⟩) := (hp.on_ 9 rfl rfl rfl).2
                exact ⟨wanted_some0 rfl rfl rfl (hp.on_ 3 rfl rfl rfl).1 (hp.on_ 3 rfl rfl rfl).2, _, _, run_fa4 rfl f0 (fa_par1 K.gp W), rfl, Below.refl _ _⟩
              refine Steps.cons (step_value rfl fun xa W hp => ?_) ?_
              · have f0 : xa.tmps.getD 53 undef = .pointer (some ⟨K.gp, 1, none⟩) := (hp.on_ 10 rfl rfl rfl).2
                exact ⟨wanted_some0 rfl rfl rfl (hp.on_ 3 rfl rfl rfl).1 (hp.on_ 3 rfl rfl rfl).2, _, _, run_ldv rfl f0 (HF8.out.par.below hp.below).cells.2.1 Try.underlying3 rfl size_int4, rfl, Below.refl _ _⟩
              refine Steps.cons (step_value rfl fun xa W hp => ?_) ?_
              · have f0 : wIs (.int .i64 (S3.k : Int)) (xa.tmps.getD 54 undef) W := (hp.on_ 11 rfl rfl rfl).2
                refine ⟨wanted_some0 rfl rfl rfl (hp.on_ 3 rfl rfl rfl).1 (hp.on_ 3 rfl rfl rfl).2, _, _, run_bin3 rfl (v := .int .i64 ((S3.k + 1 : Nat) : Int)) ?_ ?_, rfl, Below.refl _ _⟩
                · show (eqGuard .add _ _ _ (xa.tmps.getD 54 undef) _).run _ W = _
                  rw [show xa.tmps.getD 54 undef = _ from f0]
                  rfl
                · show (binOp .add _ (xa.tmps.getD 54 undef) _).run _ W = _
                  rw [show xa.tmps.getD 54 undef = _ from f0]
                  simp [go_sem]; rw [IntKind.wrap_i64]; have := HLT2.out; have := hG.few; omega
              refine Steps.cons (step_value rfl fun xa W hp => ?_) ?_
              · have f0 : xa.tmps.getD 50 undef = .slice (some ⟨K.gw, 0, none⟩) K.L.length K.c := (hp.on_ 7 rfl rfl rfl).2
                have f1 : xa.tmps.getD 55 undef = .int .i64 ((S3.k + 1 : Nat) : Int) := (hp.on_ 12 rfl rfl rfl).2
                exact ⟨wanted_some0 rfl rfl rfl (hp.on_ 3 rfl rfl rfl).1 (hp.on_ 3 rfl rfl rfl).2, _, _, run_idx4 rfl f0 f1 HLT2.out, rfl, Below.refl _ _⟩
              refine Steps.cons (step_value rfl fun xa W hp => ?_) ?_
              · have f0 : xa.tmps.getD 56 undef = .pointer (some ⟨K.gw, (S3.k + 1) * 4, none⟩) := (hp.on_ 13 rfl rfl rfl).2
                exact ⟨wanted_some0 rfl rfl rfl (hp.on_ 3 rfl rfl rfl).1 (hp.on_ 3 rfl rfl rfl).2, _, _, run_fa4 rfl f0 (fa_w0 K.gw _ W), rfl, Below.refl _ _⟩
              refine Steps.cons (step_value rfl fun xa W hp => ?_) ?_
              · have f0 : xa.tmps.getD 57 undef = .pointer (some ⟨K.gw, (S3.k + 1) * 4, none⟩) := (hp.on_ 14 rfl rfl rfl).2
                exact ⟨wanted_some0 rfl rfl rfl (hp.on_ 3 rfl rfl rfl).1 (hp.on_ 3 rfl rfl rfl).2, _, _, run_ldv rfl f0 (HKC.out W (HF8.out.par.below hp.below)) Try.underlying3 rfl size_int4, rfl, Below.refl _ _⟩
              refine Steps.cons (step_value rfl fun xa W hp => ?_) ?_
              · have f0 : wIs (.int .i64 (kx : Int)) (xa.tmps.getD 58 undef) W := (hp.on_ 15 rfl rfl rfl).2
                refine ⟨wanted_some0 rfl rfl rfl (hp.on_ 3 rfl rfl rfl).1 (hp.on_ 3 rfl rfl rfl).2, _, _, run_bin3 rfl (v := .bool (!(kx == 1))) ?_ ?_, rfl, Below.refl _ _⟩
                · show (eqGuard .neq _ _ _ (xa.tmps.getD 58 undef) _).run _ W = _
                  rw [show xa.tmps.getD 58 undef = _ from f0]
                  rfl
                · show (binOp .neq _ (xa.tmps.getD 58 undef) _).run _ W = _
                  rw [show xa.tmps.getD 58 undef = _ from f0]
                  exact bin_ne1 kx
              refine Steps.cons (step_value rfl fun xa W hp => ⟨wanted_none rfl, _, _, run_pick0 rfl (hp.on_ 3 rfl rfl rfl).2, (hp.on_ 16 rfl rfl rfl).2, Below.refl _ _⟩) ?_
              exact Steps.nil
            case done =>
              intro xa w5' hI
              have HF9 := Lib.hid (HF8.out.call (HF8.out.par.below hI.below) (gb_below hI.below))
              have HO9 := Lib.hid (HO8.out.below hI.below)
              have h0 : xa.tmps.getD 0 undef = .pointer (some ⟨K.gp, 0, none⟩) := hI.old 0 (by simp)
              have h1 : xa.tmps.getD 1 undef = undef := hI.old 1 (by simp)
              have h2 : xa.tmps.getD 2 undef = .slice none 0 0 := hI.old 2 (by simp)
              have h3 : xa.tmps.getD 3 undef = v8 := hI.old 3 (by simp)
              have h8 : xa.tmps.getD 8 undef = .pointer (some ⟨K.gp, 0, none⟩) := hI.old 8 (by simp)
              have h9 : xa.tmps.getD 9 undef = .bool false := hI.old 9 (by simp)
              have h60 : xa.tmps.getD 60 undef = .bool (!(kx == 1)) := hI.new 17 _ 60 rfl rfl rfl
              have h68 : xa.tmps.getD 68 undef = undef := hI.old 68 (by simp)
              have hsz : xa.tmps.size = 69 := hI.tmps
              have hdf : xa.defers = [] := hI.defers
              --KEEP
              obtain ⟨f, hf, hx⟩ := act_eta hsz hdf
              rw [hf] at h0  h1  h2  h3  h8  h9  h60  h68
              clear hI hf hsz hdf
              subst hx
              have hl : ((List.range 69).map f).toArray = #[f 0, f 1, f 2, f 3, f 4, f 5, f 6, f 7, f 8, f 9, f 10, f 11, f 12, f 13, f 14, f 15, f 16, f 17, f 18, f 19, f 20, f 21, f 22, f 23, f 24, f 25, f 26, f 27, f 28, f 29, f 30, f 31, f 32, f 33, f 34, f 35, f 36, f 37, f 38, f 39, f 40, f 41, f 42, f 43, f 44, f 45, f 46, f 47, f 48, f 49, f 50, f 51, f 52, f 53, f 54, f 55, f 56, f 57, f 58, f 59, f 60, f 61, f 62, f 63, f 64, f 65, f 66, f 67, f 68] := rfl
              simp only [Exit.then]
              rw [hl, h0, h1, h2, h3, h8, h9, h60, h68]
              clear hl h0 h1 h2 h3 h8 h9 h60 h68
              by_cases hk1 : kx = 1
              · have e1 : (!(kx == 1)) = false := by rw [show (kx == 1) = true by simpa using hk1]; rfl
                have HNX := Lib.hid (show localsL4 K.L f' ks2 (inc4 S3) = QQ by rw [HGo2.out]; simp [hk1])
                obtain ⟨_, q1, _, _, _, _, _⟩ := HF9.out.par.cells
                have fq := HF9.out.par.frozen 1
                have hadd : IntKind.i64.wrap ((S3.k : Int) + 1) = (S3.k : Int) + 1 := by rw [IntKind.wrap_i64]; have := HLT2.out; have := hG.few; omega
                have hF10 := HF9.out.own hG 1 (.int .i64 ((S3.k : Int) + 1)) (s' := inc4 S3) (d' := d) (by unfold parC4 inc4; simp) HLT2.out
                have HF10 := Lib.hid hF10
                have HO10 := Lib.hid (HO9.out.keptG (gb_set w5' K.gp 1 (.int .i64 ((S3.k : Int) + 1))) (by have := HF9.out.gp; omega))
                have HDEC := Lib.hid (show mS4 K (inc4 S3) < mS4 K S from mS4_lt2 HE0.out HFe.out.par.lt (by have := HM3S.out.k; show S.k + 1 ≤ S3.k + 1; omega))
                have HFL := Lib.hid (show mS4 K (inc4 S3) ≤ f' by have := HFu.out; have := HF'.out; have := HDEC.out; omega)
                have HLX := Lib.hid (show ks2.length + s.k ≤ (inc4 S3).k by have := HLB.out; show _ ≤ S3.k + 1; omega)
                have HMX := Lib.hid (HM3.out.trans (Mono4.inc S3))
                rw [e1]
                clear hk1 e1 HGo2 hF10
                go_wp2_with fail
                refine ⟨⟨_, f', ks2, inc4 S3, rfl, HNX.out, HFL.out, HF10.out, HO10.out, HMX.out, HLX.out⟩, ?_⟩
                rw [mea4_par HF10.out.par, ← hw5, HME.out]
                exact HDEC.out
              · have e1 : (!(kx == 1)) = true := by rw [show (kx == 1) = false by simpa using hk1]; rfl
                have HNX := Lib.hid (show (ks2, S3) = QQ by rw [HGo2.out]; simp [hk1])
                rw [e1]
                clear hk1 e1 HGo2
                go_wp2_with fail
                go_ret
                rw [← HNX.out]
                exact ⟨_, rfl, HO9.out, HF9.out.par, HF9.out.gb, HM3.out, HLB.out⟩
      · have d0 : ((S.er : Int) == 0) = false := by simp; omega
        have HEND := Lib.hid ((localsL4_stop K.L f l S e0).symm.trans hR)
        clear hF hO hm hl hme hf hR e0
        go_wp2_with fail
        go_ret
        rw [← HEND.out]
        exact ⟨_, rfl, HO.out, HFe.out.par, HFe.out.gb, HMM.out, by have := HLL.out; simp only; omega⟩
end Go.Proofs.Ytejljfoacbpliaa

namespace Go.Proofs.Ytejljfoacbpliaa
open Go Go.RowKit
set_option maxHeartbeats 4000000 in
set_option maxRecDepth 100000 in
theorem primB_any {K : K4} (hG : Good4 K) {d : Nat} (expr : S4 → Ex × S4) (he : CX4 K 123 d expr) (w : World) (s : S4) (h : Par4 K w d s) (hb : is4 K.L (⟨#[40]⟩ : ByteArray) s = true) :
    Calls Try.prog 151 #[.pointer (some ⟨K.gp, 0, none⟩)] w (GivesX4 K d s ((expr (inc4 s)).1, want4 K.L (⟨#[41]⟩ : ByteArray) (expr (inc4 s)).2) w) := by
  have F1 := (Fr.start h).alloc w.heap.size rfl 53 #[.string ⟨#[]⟩, .string ⟨#[]⟩, .int .i64 0, .int .i64 0, .slice none 0 0]
  have HSE := Lib.hid size_e4
  have kw := w_any hG _ d s F1.par
  have kt := fun W (hp : Par4 K W d s) => take4_any (⟨#[40]⟩ : ByteArray) hG W d s hp
  unfold take4 at kt
  simp only [hb, if_true] at kt
  obtain ⟨yy, hyy⟩ : ∃ y, y = cur4 K.L s := ⟨_, rfl⟩
  rw [← hyy] at kw
  have ke := fun W (hp : Par4 K W d (inc4 s)) => he W (inc4 s) hp
  obtain ⟨r, hr⟩ : ∃ r, r = expr (inc4 s) := ⟨_, rfl⟩
  rw [← hr] at ke ⊢
  obtain ⟨a, S⟩ := r
  have kn := fun W (hp : Par4 K W d S) => want4_any (⟨#[41]⟩ : ByteArray) hG W d S hp
  have hmw := Mono4.want K.L (⟨#[41]⟩ : ByteArray) S
  obtain ⟨yk, yt, yn, ya⟩ := yy
  unfold W4.cells at kw
  simp only at kw ke ⊢
  have HF1 := Lib.hid F1
  have HKT := Lib.hid kt
  have HKE := Lib.hid ke
  have HKN := Lib.hid kn
  have HMW := Lib.hid hmw
  clear F1 h kt ke kn hmw hyy hr hb he
  go_enter Try.func151, Try.ntmps151
  go_wp2_with fail
  (with_reducible refine kw.mono ?_)
  rintro e w1 ⟨rfl, hb⟩
  have F2 := (HF1.out.call (HF1.out.par.below hb) (gb_below hb)).alloc w1.heap.size rfl 148 #[.int .i64 (yk : Int), .string yt, .int .i64 yn, .int .i64 (ya : Int)]
  have kt := HKT.out _ F2.par
  have HF2 := Lib.hid F2
  clear hb kw F2
  go_wp2_with fail
  (with_reducible refine kt.mono ?_)
  rintro e w2 ⟨rfl, hp, hg, hm1⟩
  have F3 := HF2.out.call hp hg
  have ke := HKE.out _ F3.par
  have HF3 := Lib.hid F3
  have HM1 := Lib.hid hm1
  clear hp hg hm1 kt F3
  go_wp2_with fail
  (with_reducible refine ke.mono ?_)
  rintro e w3 ⟨x, c, rfl, ht, hp, hg, hm2⟩
  unfold exV
  simp only at ht hp hm2 ⊢
  have F4 := (HF3.out.callT hp hg ht).alloc w3.heap.size rfl 53 #[.string a.op, .string a.name, .int .i64 a.n, .int .i64 (a.at_ : Int), .slice x a.kids.length c]
  have kn := HKN.out _ F4.par
  have HF4 := Lib.hid F4
  have HM2 := Lib.hid hm2
  clear ht hp hg hm2 ke F4
  go_wp2_with fail
  (with_reducible refine kn.mono ?_)
  rintro e w4 ⟨rfl, hp, hg, _⟩
  have F5 := HF4.out.call hp hg
  have HL := Lib.hid (F5.get 2 rfl)
  have HS := Lib.hid (F5.get 0 rfl)
  have HF6 := Lib.hid (F5.store 0 rfl #[.string a.op, .string a.name, .int .i64 a.n, .int .i64 (a.at_ : Int), .slice x a.kids.length c])
  clear hp hg kn F5
  go_wp2_with (first | (refine wpList_load_row rfl 53 (.tmp 4) rfl w3.heap.size rfl 53 #[.string a.op, .string a.name, .int .i64 a.n, .int .i64 (a.at_ : Int), .slice x a.kids.length c] (0, 0) _ HL.out Try.underlying53 rfl HSE.out ?_) | (refine wpList_store_row rfl 53 (.tmp 2) (.tmp 22) rfl w.heap.size #[.string a.op, .string a.name, .int .i64 a.n, .int .i64 (a.at_ : Int), .slice x a.kids.length c] rfl rfl 53 _ HS.out HSE.out rfl (e4_one _ _ _ _ _ _ _) ?_))
  refine bodyPost_ret (v := .agg #[.string a.op, .string a.name, .int .i64 a.n, .int .i64 (a.at_ : Int), .slice x a.kids.length c]) (results_cell_row (p := 2) (ty := 53) rfl _ _ w.heap.size 53 _ (0, 0) _ rfl (HF6.out.get 0 rfl) Try.underlying53 rfl HSE.out) rfl ⟨x, c, rfl, HF6.out.out 0 rfl, HF6.out.par, HF6.out.gb, HM1.out.trans (HM2.out.trans HMW.out)⟩
end Go.Proofs.Ytejljfoacbpliaa
