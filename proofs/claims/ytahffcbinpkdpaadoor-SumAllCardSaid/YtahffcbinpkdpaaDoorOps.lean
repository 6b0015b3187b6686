/-
  More operations of a region that draws its order: what each yields. Nothing here speaks of the program.
-/
import Derived.Test.YtahffcbinpkdpaaDoorOrd2
import Derived.WalkKit
import Derived.Laws.BitsAllLaws
namespace Go.Proofs.YtahffcbinpkdpaaDoor
open Go Go.RowKit

section
variable {P : Program} {W : World} {o : Oper} {ρ : Operand → Value}

theorem run_idx {t e : TypeId} {i : TypeInfo} {x ix : Operand} {a : Addr} {len cap k : Nat} (ho : o.op = .indexAddr t x ix) (ht : P.underlying t = some (.slice e)) (hi : P.info? e = some i) (hs : i.size = 1)
    (hx : ρ x = .slice (some a) len cap) (hk : ρ ix = .int .i64 (k : Int)) (hlt : k < len) : (execOp ρ o).run P W = .ok (.value (.pointer (some (a.add k)))) W := by
  have he : P.elem t = e := by simp [Program.elem, ht]
  have ht' : P.underlying t = some (.slice (P.elem t)) := by rw [he]; exact ht
  simp [execOp, ho, hx, hk, run_indexAt_slice W t a len cap .i64 (k : Int) ht', he, sizeOf, typeInfo, hi, hs, hlt, Result.andThen]

theorem run_ld {k : IntKind} {t : TypeId} {i : TypeInfo} {x : Operand} {a : Addr} {v : Value} (ho : o.op = .load t x) (hu : P.underlying t = some (.int k)) (hi : P.info? t = some i) (hs : i.size = 1)
    (hx : ρ x = .pointer (some a)) (hc : W.cell? a = some v) : (execOp ρ o).run P W = .ok (.value v) W := by
  simp [execOp, ho, hx, Instr.loadAt, hc, sizeOf, typeInfo, hi, hs, Result.andThen, go_sem, isAgg, run_underlying hu]

theorem run_bin {op : BinOp} {t t2 : TypeId} {x y : Operand} {v : Value} (ho : o.op = .binOp op t x y t2) (hg : (eqGuard op t x y (ρ x) (ρ y)).run P W = .ok () W) (h : (binOp op t (ρ x) (ρ y)).run P W = .ok v W) : (execOp ρ o).run P W = .ok (.value v) W := by
  simp [execOp, ho, hg, h, Result.andThen]

theorem bin_quo8 {t : TypeId} (x : Nat) (hx : x < 9223372036854775808) : (binOp .quo t (.int .i64 (x : Int)) (.int .i64 8)).run P W = .ok (.int .i64 ((x / 8 : Nat) : Int)) W := by
  have e : (x : Int).tdiv 8 = ((x / 8 : Nat) : Int) := by
    rw [Int.tdiv_eq_ediv_of_nonneg (by omega)]
    omega
  simp [go_sem, e]
  rw [IntKind.wrap_i64]
  omega
theorem bin_rem8 {t : TypeId} (x : Nat) (hx : x < 9223372036854775808) : (binOp .rem t (.int .i64 (x : Int)) (.int .i64 8)).run P W = .ok (.int .i64 ((x % 8 : Nat) : Int)) W := by
  have e : (x : Int).tmod 8 = ((x % 8 : Nat) : Int) := by
    rw [Int.tmod_eq_emod_of_nonneg (by omega)]
    omega
  simp [go_sem, e]
theorem bin_shl1 {t : TypeId} (j : Nat) (hj : j < 8) : (binOp .shl t (.int .u8 1) (.int .u64 (j : Int))).run P W = .ok (.int .u8 ((2 ^ j : Nat) : Int)) W := by
  have h : j = 0 ∨ j = 1 ∨ j = 2 ∨ j = 3 ∨ j = 4 ∨ j = 5 ∨ j = 6 ∨ j = 7 := by omega
  rcases h with rfl | rfl | rfl | rfl | rfl | rfl | rfl | rfl <;> simp [go_sem]
  all_goals rfl
theorem bin_xor8 {t : TypeId} (a b : Nat) (ha : a < 256) (hb : b < 256) : (binOp .xor t (.int .u8 (a : Int)) (.int .u8 (b : Int))).run P W = .ok (.int .u8 ((a ^^^ b : Nat) : Int)) W := by
  have e := u8_xor_nat a b ha hb
  simp [go_sem, e]

theorem run_st {k : IntKind} {t : TypeId} {i : TypeInfo} {x y : Operand} {a : Addr} {v0 : Value} {k2 : IntKind} {z : Int} (ho : o.op = .store t x y) (hu : P.underlying t = some (.int k)) (hi : P.info? t = some i) (hs : i.size = 1)
    (hx : ρ x = .pointer (some a)) (hy : ρ y = .int k2 z) (hc : W.cell? a = some v0) (hf : W.frozen? a = false) : (execOp ρ o).run P W = .ok .skip (W.setCell a (.int k2 z)) := by
  simp [execOp, ho, hx, hy, Instr.storeAt, sizeOf, typeInfo, hi, hs, Result.andThen, go_sem, run_underlying hu, hc, hf, run_store P W a (.int k2 z) .plain rfl]

end

theorem put_getD (a : Act) (s j : Nat) (v : Value) : (a.put (some s) v).tmps.getD j undef = if s = j ∧ j < a.tmps.size then v else a.tmps.getD j undef := by
  by_cases h : s = j
  · subst h
    by_cases hs : s < a.tmps.size
    · rw [put_same hs, if_pos ⟨rfl, hs⟩]
    · rw [if_neg (fun h => hs h.2)]
      simp [Act.put, Array.getD, hs]
  · rw [put_other (by intro e; injection e with e; exact h e), if_neg (fun e => h e.1)]

theorem puts_size (f : Nat → Value) : ∀ (S : List Nat) (a : Act), (S.foldl (fun x j => x.put (some j) (f j)) a).tmps.size = a.tmps.size
  | [], _ => rfl
  | s :: S, a => by rw [List.foldl_cons, puts_size f S, put_size]
theorem puts_defers (f : Nat → Value) : ∀ (S : List Nat) (a : Act), (S.foldl (fun x j => x.put (some j) (f j)) a).defers = a.defers
  | [], _ => rfl
  | s :: S, a => by rw [List.foldl_cons, puts_defers f S, put_defers]
theorem puts_getD (f : Nat → Value) (j : Nat) : ∀ (S : List Nat) (a : Act), (S.foldl (fun x j => x.put (some j) (f j)) a).tmps.getD j undef = if j ∈ S ∧ j < a.tmps.size then f j else a.tmps.getD j undef
  | [], _ => by simp
  | s :: S, a => by
    rw [List.foldl_cons, puts_getD f j S, put_size, put_getD]
    by_cases h1 : j < a.tmps.size
    · by_cases h2 : j ∈ S
      · simp [h1, h2]
      · by_cases h3 : s = j
        · subst h3
          simp [h1, h2]
        · simp [h1, h2, h3, Ne.symm h3]
    · simp [h1]

/-- The frame of slots behind a region: what stood before, and what the region wrote. -/
theorem puts_of {l : List Oper} {a0 a : Act} (htm : a.tmps.size = a0.tmps.size) (hdf : a.defers = a0.defers) (hold : ∀ j, (∀ x ∈ l, x.dst ≠ some j) → a.tmps.getD j undef = a0.tmps.getD j undef) (S : List Nat) (hS : l.filterMap (·.dst) = S) :
    ∃ f : Nat → Value, (∀ j, a.tmps.getD j undef = f j) ∧ a = S.foldl (fun x j => x.put (some j) (f j)) a0 := by
  refine ⟨fun j => a.tmps.getD j undef, fun _ => rfl, ?_⟩
  have ext : ∀ b : Act, a.tmps.size = b.tmps.size → a.defers = b.defers → (∀ j, a.tmps.getD j undef = b.tmps.getD j undef) → a = b := by
    intro b h1 h2 h3
    obtain ⟨ta, da⟩ := a
    obtain ⟨tb, db⟩ := b
    simp only at h1 h2 h3
    subst h2
    congr 1
    apply Array.ext
    · exact h1
    · intro i hi hi2
      have := h3 i
      simpa [Array.getD, hi, hi2] using this
  refine ext _ (by rw [puts_size, htm]) (by rw [puts_defers, hdf]) fun j => ?_
  rw [puts_getD]
  split
  · rfl
  · rename_i hn
    by_cases hj : j ∈ S
    · have hlt : ¬ j < a0.tmps.size := fun hlt => hn ⟨hj, hlt⟩
      simp [Array.getD, hlt, htm]
    · exact hold j fun x hx hd => hj (by rw [← hS]; exact List.mem_filterMap.2 ⟨x, hx, hd⟩)

theorem Inv.puts {l : List Oper} {Sp : Nat → Value → World → Prop} {B : Nat} {w0 W : World} {a0 a : Act} {listed : Array Bool} (h : Inv l Sp B w0 a0 listed a W) (S : List Nat) (hS : l.filterMap (·.dst) = S) :
    ∃ f : Nat → Value, (∀ j, a.tmps.getD j undef = f j) ∧ a = S.foldl (fun x j => x.put (some j) (f j)) a0 := puts_of h.tmps h.defers h.old S hS

end Go.Proofs.YtahffcbinpkdpaaDoor
